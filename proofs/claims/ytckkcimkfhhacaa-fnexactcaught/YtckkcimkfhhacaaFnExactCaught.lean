/- For every Log, every slice of texts and every int64 the law FnExactCaught returns true and leaves its arguments as they were; no condition. -/
import Derived.Test.YtckkcimkfhhacaaRows
import Derived.Test.YtckkcimkfhhacaaLLogSpecF
import Derived.Test.YtckkcimkfhhacaaLLogImplE
import Derived.Test.YtckkcimkfhhacaaLPutOwn
import Derived.Test.YtckkcimkfhhacaaLTextBase
import Derived.Test.YtckkcimkfhhacaaLTextFrom
import Derived.Deep.RegionHeld3
import Derived.Deep.Cut
import Derived.Lib.QuietBelow
import Derived.BigQuiet
import Derived.WalkKit
import Derived.ProofKit
import Derived.OpenShut
import Derived.ShutString
import Derived.ChangeOld
import Derived.Below
namespace Go.Proofs.Ytckkcimkfhhacaa.fnExactCaught
open Go.ChangeShapes Go.WideShapes Go.ChangeAt Go.RowKit
open Go.ChangeMaps (open_string shut_string)
set_option linter.unusedVariables false

theorem own : ownKnob Try.prog.godebug = none := by kernel_rfl
theorem laidOut : laidOutB Try.prog = true := by kernel_rfl

structure BoxL (w : World) (z : Int) (a : Option Addr) (n cap : Nat) (w' : World) : Prop where
  log : w'.heap[w.heap.size]? = some (.cells #[.int .i64 z, .slice a n cap] 24)
  below : Below w.heap.size w w'
theorem BoxL.on {w : World} {z : Int} {a : Option Addr} {n cap : Nat} {w1 w2 : World} (h : BoxL w z a n cap w1) (hb : Below w1.heap.size w1 w2) : BoxL w z a n cap w2 := ⟨block_on h.log hb, below_here h.below hb⟩
theorem BoxL.size {w : World} {z : Int} {a : Option Addr} {n cap : Nat} {w1 : World} (h : BoxL w z a n cap w1) : w.heap.size + 1 ≤ w1.heap.size := by
  have := (Array.getElem?_eq_some_iff.1 h.log).1; omega
theorem BoxL.aside {w : World} {z : Int} {a : Option Addr} {n cap : Nat} {w1 w2 : World} (h : BoxL w z a n cap w1) {l r : Nat} (hb : Aside l r w1 w2) (hl : w.heap.size + 1 ≤ l) : BoxL w z a n cap w2 :=
  ⟨(hb.block _ (by have := h.size; omega) (.inl (by omega))).trans h.log, h.below.trans (hb.below (by omega) (by have := h.size; omega))⟩
theorem BoxL.cells {w : World} {z : Int} {a : Option Addr} {n cap : Nat} {w1 : World} (h : BoxL w z a n cap w1) : w1.cell? ⟨w.heap.size, 0, none⟩ = some (.int .i64 z) ∧ w1.cell? ⟨w.heap.size, 1, none⟩ = some (.slice a n cap) := two_cells h.log
set_option maxHeartbeats 4000000 in
set_option maxRecDepth 20000 in

theorem walk (n0 : Int) (a0 : Option Addr) (len0 cap0 : Nat) (q0 : List Jb) (a1 : Option Addr) (len1 cap1 : Nat) (z1 : List ByteArray) (a2 : Int) (w : World) (w0 : (Lit.int .i64 n0).wf = true ∧ Jobs 0 w.heap.size w a0 len0 q0 ∧ (∀ x ∈ q0, jbFits x) ∧ len0 ≤ maxLen) (w1 : Texts 0 w.heap.size w a1 len1 z1 ∧ (∀ s ∈ z1, s.size ≤ maxLen) ∧ len1 ≤ maxLen) (w2 : (Lit.int .i64 a2).wf = true) :
    Calls Try.prog 8 #[.agg #[.int .i64 n0, .slice a0 len0 cap0], .slice a1 len1 cap1, .int .i64 a2] w fun e w' => e = .returned (.bool true) ∧ Below w.heap.size w w' := by
  obtain ⟨_, hsq, hfi, hm⟩ := w0
  obtain ⟨hA, hsz, hm1⟩ := w1
  obtain ⟨wA, hwA⟩ : ∃ wA, wA = w.alloc (.cells #[.int .i64 n0, .slice a0 len0 cap0] 24) := ⟨_, rfl⟩
  have HXA : Hid (BoxL w n0 a0 len0 cap0 wA) := by rw [hwA]; exact ⟨heap_new _ _, (Below.refl _ _).alloc (Nat.le_refl _) _⟩
  have HSQ := hide hsq
  have HF := hide hfi
  have HM := hide hm
  have HT := hide hA
  have HSZ := hide hsz
  have HM1 := hide hm1
  clear hsq hfi hm hA hsz hm1
  obtain ⟨c0, c1⟩ := HXA.out.cells
  go_enter Try.func8, Try.ntmps8
  go_upto_region 1 with fail
  rw [← hwA]
  clear hwA
  go_wp2_with fail
  refine (szLog_any n0 a0 len0 cap0 q0 1048576 wA (jl_later HSQ.out HXA.out.below (Nat.le_refl _)) (by have := HXA.out.size; omega) HM.out HF.out (by omega) (by omega)).mono ?_
  rintro e v1 ⟨⟨r, rfl, r1, r2, hr⟩, b1⟩
  have HX_0 := hide (HXA.out.on b1)
  have S0 := HXA.out.size
  have S1 := b1.size
  clear b1 HXA c0 c1
  rcases Int.lt_or_le r 0 with h0 | h0
  · clear hr
    go_wp2_with fail
    go_ret
    exact ⟨rfl, HX_0.out.below⟩
  have HTOT := hide (hr h0)
  clear hr
  go_wp2_with fail
  refine (szT_from a1 len1 cap1 z1 r v1 (HT.out.later HX_0.out.below (Nat.le_refl _)) HM1.out HSZ.out h0 r2).mono ?_
  rintro e x1 ⟨⟨u, rfl, u1, u2, hu⟩, rfl⟩
  rcases Int.lt_or_le u 0 with hu0 | hu0
  · clear hu
    go_wp2_with fail
    go_ret
    exact ⟨rfl, HX_0.out.below⟩
  · have hut := hu hu0
    have htot := HTOT.out
    have hlen : len0 ≤ 1048576 := by omega
    have hlen1 : len1 ≤ 1048576 := by omega
    have hsum : len0 + len1 ≤ 1048576 := by omega
    have HZ : Hid (∀ s ∈ z1, s.size ≤ 1048576) := fun s hs => by have := total_le hs; omega
    clear hu htot hut
    obtain ⟨R, hR⟩ : ∃ R, R = catchR n0 q0 z1 a2 := ⟨_, rfl⟩
    obtain ⟨NR, hNR⟩ : ∃ NR, NR = R.length := ⟨_, rfl⟩
    obtain ⟨fl, hfl⟩ : ∃ fl, fl = mayCatch n0 q0 z1 a2 := ⟨_, rfl⟩
    obtain ⟨ci, hci⟩ : ∃ ci, ci = catchI n0 q0 z1 a2 := ⟨_, rfl⟩
    have hNL : NR ≤ len1 := by
      rw [hNR, hR, ← HT.out.1]
      unfold catchR
      split
      · rw [playL_len]; exact Nat.le_refl _
      · simp
    have HTO : ∀ W, Hid (BoxL w n0 a0 len0 cap0 W → Calls Try.prog 11 #[.agg #[.int .i64 n0, .slice a0 len0 cap0]] W fun e w' => ∃ a', e = .returned (.agg #[.int .i64 n0, .slice a' len0 len0]) ∧ OwnJobs W.heap.size w'.heap.size w' a' len0 q0 ∧ Below W.heap.size W w') := fun W hb => toLog_any n0 a0 len0 cap0 q0 W (jl_later HSQ.out hb.below (Nat.le_refl _)) (by have := hb.size; omega) hlen
    have HTT : ∀ W, Hid (BoxL w n0 a0 len0 cap0 W → Calls Try.prog 30 #[.slice a1 len1 cap1] W fun e w' => ∃ a', e = .returned (.slice a' len1 len1) ∧ OwnTexts W.heap.size w'.heap.size w' a' len1 z1 ∧ Below W.heap.size W w') := fun W hb => toT_any a1 len1 cap1 z1 W (HT.out.later hb.below (Nat.le_refl _)) hlen1
    have HCS : ∀ (a b : Option Addr) (lo hi lo' hi' : Nat) (W : World), Hid (OwnJobs lo hi W a len0 q0 → OwnTexts lo' hi' W b len1 z1 → Calls Try.prog 36 #[.agg #[.int .i64 n0, .slice a len0 len0], .slice b len1 len1, .int .i64 a2] W fun r w' => ∃ a' c', r = .returned (.tuple #[.slice a' NR c', .int .i64 ci, .bool fl]) ∧ OwnTexts W.heap.size w'.heap.size w' a' NR R ∧ Below W.heap.size W w') := fun a b lo hi lo' hi' W ho hj => by
      have := specCaught_any n0 a len0 len0 q0 b len1 len1 z1 a2 W (jl_own ho) ho.2.1 hlen (Nat.le_refl _) hlen HF.out hj.texts hlen1 HZ.out w2
      rw [← hR, ← hNR, ← hfl, ← hci] at this
      exact this
    have HCI : ∀ (a b : Option Addr) (lo hi lo' hi' : Nat) (W : World), Hid (OwnJobs lo hi W a len0 q0 → OwnTexts lo' hi' W b len1 z1 → Calls Try.prog 37 #[.agg #[.int .i64 n0, .slice a len0 len0], .slice b len1 len1, .int .i64 a2] W fun r w' => ∃ a' c', r = .returned (.tuple #[.slice a' NR c', .int .i64 ci, .bool fl]) ∧ OwnTexts W.heap.size w'.heap.size w' a' NR R ∧ Below W.heap.size W w') := fun a b lo hi lo' hi' W ho hj => by
      have := implCaught_any n0 a len0 len0 q0 b len1 len1 z1 a2 W (jl_own ho) ho.2.1 hlen (Nat.le_refl _) hlen HF.out hj.texts hlen1 HZ.out w2
      rw [← hR, ← hNR, ← hfl, ← hci] at this
      exact this
    have hn2 : NR ≤ 1048576 := by omega
    clear hR hNR hfl hci
    obtain ⟨c0, c1⟩ := HX_0.out.cells
    go_wp2_with fail
    refine ((HTO _).out HX_0.out).mono ?_
    rintro e v2 ⟨p2, rfl, o2, b2⟩
    have Sb2 := b2.size
    have HX_1 := hide (HX_0.out.on b2)
    clear HX_0 b2
    have HP2_0 := hide (o2)
    clear o2
    clear c0 c1
    go_wp2_with fail
    refine ((HTT _).out HX_1.out).mono ?_
    rintro e v3 ⟨j3, rfl, o3, b3⟩
    have Sb3 := b3.size
    have HX_2 := hide (HX_1.out.on b3)
    have HP2_1 := hide (oj_later HP2_0.out b3 HP2_0.out.2.1)
    clear HX_1 HP2_0 b3
    have HJ3_0 := hide (o3)
    clear o3
    go_wp2_with fail
    refine ((HCS _ _ _ _ _ _ _).out HP2_1.out HJ3_0.out).mono ?_
    rintro e v4 ⟨p4, c4, rfl, o4, b4⟩
    have Sb4 := b4.size
    have HX_3 := hide (HX_2.out.on b4)
    have HP2_2 := hide (oj_later HP2_1.out b4 HP2_1.out.2.1)
    have HJ3_1 := hide (HJ3_0.out.later b4 HJ3_0.out.2.1)
    clear HX_2 HP2_1 HJ3_0 b4
    have HP4_0 := hide (o4)
    clear o4
    clear HP2_2
    clear HJ3_1
    obtain ⟨c0, c1⟩ := HX_3.out.cells
    go_wp2_with fail
    refine ((HTO _).out HX_3.out).mono ?_
    rintro e v5 ⟨p5, rfl, o5, b5⟩
    have S5 := b5.size
    have HX_4 := hide (HX_3.out.on b5)
    have HP4_1 := hide (HP4_0.out.later b5 HP4_0.out.2.1)
    clear HX_3 HP4_0 b5
    have HP5_0 := hide (o5)
    clear o5 c0 c1
    obtain ⟨vX, hvX⟩ : ∃ vX, vX = v5.alloc (.cells #[.int .i64 n0, .slice p5 len0 len0] 29) := ⟨_, rfl⟩
    have bX : Below v5.heap.size v5 vX := by rw [hvX]; exact (Below.refl _ _).alloc (Nat.le_refl _) _
    have SX : vX.heap.size = v5.heap.size + 1 := by rw [hvX]; simp
    have HX_5 := hide (HX_4.out.on bX)
    have HP4_2 := hide (HP4_1.out.later bX HP4_1.out.2.1)
    have HP5_1 := hide (oj_later HP5_0.out bX HP5_0.out.2.1)
    clear HX_4 HP4_1 HP5_0 bX
    have HK_0 : Hid (vX.heap[v5.heap.size]? = some (.cells #[.int .i64 n0, .slice p5 len0 len0] 29)) := by rw [hvX]; exact heap_new _ _
    go_upto_region 10 with fail
    rw [← hvX]
    clear hvX
    go_wp2_with fail
    refine ((HTT _).out HX_5.out).mono ?_
    rintro e v6 ⟨j6, rfl, o6, b6⟩
    have Sb6 := b6.size
    have HX_6 := hide (HX_5.out.on b6)
    have HP4_3 := hide (HP4_2.out.later b6 HP4_2.out.2.1)
    have HP5_2 := hide (oj_later HP5_1.out b6 HP5_1.out.2.1)
    have HK_1 := hide (block_on HK_0.out b6)
    clear HX_5 HP4_2 HP5_1 HK_0 b6
    have HJ6_0 := hide (o6)
    clear o6
    obtain ⟨d0, d1⟩ := two_cells HK_1.out
    go_wp2_with fail
    refine ((HCI _ _ _ _ _ _ _).out HP5_2.out HJ6_0.out).mono ?_
    rintro e v7 ⟨p7, c7, rfl, o7, b7⟩
    have Sb7 := b7.size
    have HX_7 := hide (HX_6.out.on b7)
    have HP4_4 := hide (HP4_3.out.later b7 HP4_3.out.2.1)
    have HP5_3 := hide (oj_later HP5_2.out b7 HP5_2.out.2.1)
    have HK_2 := hide (block_on HK_1.out b7)
    have HJ6_1 := hide (HJ6_0.out.later b7 HJ6_0.out.2.1)
    clear HX_6 HP4_3 HP5_2 HK_1 HJ6_0 b7
    have HP7_0 := hide (o7)
    clear o7
    clear d0 d1
    go_wp2_with fail
    refine (eqT_any p7 NR c7 R p4 NR c4 R v7 HP7_0.out.texts HP4_4.out.texts hn2 hn2).mono ?_
    simp only [decide_true]
    rintro e v8 ⟨rfl, b8⟩
    have Sb8 := b8.size
    have HX_8 := hide (HX_7.out.on b8)
    have HP4_5 := hide (HP4_4.out.later b8 HP4_4.out.2.1)
    have HP5_4 := hide (oj_later HP5_3.out b8 HP5_3.out.2.1)
    have HK_3 := hide (block_on HK_2.out b8)
    have HJ6_2 := hide (HJ6_1.out.later b8 HJ6_1.out.2.1)
    have HP7_1 := hide (HP7_0.out.later b8 HP7_0.out.2.1)
    clear HX_7 HP4_4 HP5_3 HK_2 HJ6_1 HP7_0 b8
    have HSC : ∀ W, Hid (Below v8.heap.size v8 W → (W.cell? ⟨v5.heap.size, 0, none⟩ = some (.int .i64 n0) ∧ W.cell? ⟨v5.heap.size, 1, none⟩ = some (.slice p5 len0 len0) ∧ W.cell? ⟨w.heap.size, 0, none⟩ = some (.int .i64 n0) ∧ W.cell? ⟨w.heap.size, 1, none⟩ = some (.slice a0 len0 cap0))) := fun W hb => ⟨(two_cells (block_on HK_3.out hb)).1, (two_cells (block_on HK_3.out hb)).2, (HX_8.out.on hb).cells⟩
    have HR0 : Hid (Below v8.heap.size v8 v8.drew) := (Below.refl v8.heap.size v8).drew
    go_upto_region 14 with fail
    go_region_held3 (fun W => W.cell? ⟨v5.heap.size, 0, none⟩ = some (.int .i64 n0) ∧ W.cell? ⟨v5.heap.size, 1, none⟩ = some (.slice p5 len0 len0) ∧ W.cell? ⟨w.heap.size, 0, none⟩ = some (.int .i64 n0) ∧ W.cell? ⟨w.heap.size, 1, none⟩ = some (.slice a0 len0 cap0))
      (first | with_reducible exact (HSC _).out HR0.out | with_reducible exact (HSC _).out HR1.out | with_reducible exact (HSC _).out HR2.out | fail)
      (first
        | (go_at_call 11; refine ((HTO _).out (HX_8.out.on HR0.out)).mono ?_; rintro e y1 ⟨q6, rfl, oo, bb⟩; have HR1 := hide (below_here HR0.out bb); have HO6 := hide oo; clear oo bb)
        | (go_at_call 13; refine (eqLog_same n0 p5 q6 len0 len0 len0 q0 y1 (jl_later (jl_own HP5_4.out) HR1.out HP5_4.out.2.1) (jl_own HO6.out) (by have := HR1.out.size; omega) (Nat.le_refl _) hlen).mono ?_; rintro e y2 ⟨rfl, bb⟩; have HR2 := hide (below_here HR1.out bb); clear bb)
        | fail)
    have by2 := HR2.out
    have Sy2 := by2.size
    clear HSC HR0 HR1 HR2 HO6
    have HX_9 := hide (HX_8.out.on by2)
    have HP4_6 := hide (HP4_5.out.later by2 HP4_5.out.2.1)
    have HP5_5 := hide (oj_later HP5_4.out by2 HP5_4.out.2.1)
    have HK_4 := hide (block_on HK_3.out by2)
    have HJ6_3 := hide (HJ6_2.out.later by2 HJ6_2.out.2.1)
    have HP7_2 := hide (HP7_1.out.later by2 HP7_1.out.2.1)
    clear HX_8 HP4_5 HP5_4 HK_3 HJ6_2 HP7_1 by2
    go_wp2_with fail
    refine ((HTT _).out HX_9.out).mono ?_
    rintro e v9 ⟨p9, rfl, o9, b9⟩
    have Sb9 := b9.size
    have HX_10 := hide (HX_9.out.on b9)
    have HP4_7 := hide (HP4_6.out.later b9 HP4_6.out.2.1)
    have HP5_6 := hide (oj_later HP5_5.out b9 HP5_5.out.2.1)
    have HK_5 := hide (block_on HK_4.out b9)
    have HJ6_4 := hide (HJ6_3.out.later b9 HJ6_3.out.2.1)
    have HP7_3 := hide (HP7_2.out.later b9 HP7_2.out.2.1)
    clear HX_9 HP4_6 HP5_5 HK_4 HJ6_3 HP7_2 b9
    have HP9_0 := hide (o9)
    clear o9
    go_wp2_with fail
    refine (eqT_any j6 len1 len1 z1 p9 len1 len1 z1 v9 HJ6_4.out.texts HP9_0.out.texts hlen1 hlen1).mono ?_
    simp only [decide_true]
    rintro e va ⟨rfl, ba⟩
    have Sba := ba.size
    have HX_11 := hide (HX_10.out.on ba)
    have HP4_8 := hide (HP4_7.out.later ba HP4_7.out.2.1)
    have HP5_7 := hide (oj_later HP5_6.out ba HP5_6.out.2.1)
    have HK_6 := hide (block_on HK_5.out ba)
    have HJ6_5 := hide (HJ6_4.out.later ba HJ6_4.out.2.1)
    have HP7_4 := hide (HP7_3.out.later ba HP7_3.out.2.1)
    have HP9_1 := hide (HP9_0.out.later ba HP9_0.out.2.1)
    clear HX_10 HP4_7 HP5_6 HK_5 HJ6_4 HP7_3 HP9_0 ba
    clear HP9_1
    obtain ⟨d0, d1⟩ := two_cells HK_6.out
    go_wp2_with fail
    refine (markLog_any n0 p5 len0 len0 q0 va HP5_7.out HP5_7.out.2.1 hlen).mono ?_
    rintro e vd ⟨rfl, od, ad⟩
    have Sad := ad.size
    clear d0 d1
    clear HK_6
    have HX_12 := hide (HX_11.out.aside ad (by omega))
    have HP4_9 := hide (HP4_8.out.aside ad (.inl (Nat.le_refl _)))
    have HJ6_6 := hide (HJ6_5.out.aside ad (.inr (by omega)))
    have HP7_5 := hide (HP7_4.out.aside ad (.inr (by omega)))
    clear HX_11 HP4_8 HJ6_5 HP7_4 ad
    clear HP5_7 od
    obtain ⟨k, hk⟩ : ∃ k, k = 1 + 3 * len0 := ⟨_, rfl⟩
    rw [← hk]
    have hk1 : 1 ≤ k := by omega
    have hk2 : k + len1 ≤ 4194304 := by omega
    clear hk
    go_wp2_with fail
    refine (markTS_from j6 len1 len1 z1 k vd HJ6_6.out hlen1 hk1 hk2).mono ?_
    rintro e ve ⟨rfl, oe, ae⟩
    have Sae := ae.size
    have HX_13 := hide (HX_12.out.aside ae (by omega))
    have HP4_10 := hide (HP4_9.out.aside ae (.inl (by omega)))
    have HP7_6 := hide (HP7_5.out.aside ae (.inr (Nat.le_refl _)))
    clear HX_12 HP4_9 HP7_5 ae
    clear HJ6_6 oe
    obtain ⟨t, ht⟩ : ∃ t, t = k + len1 := ⟨_, rfl⟩
    rw [← ht]
    have ht9 : t ≤ 4194304 := by omega
    clear ht
    go_wp2_with fail
    refine (eqT_any p7 NR c7 R p4 NR c4 R ve HP7_6.out.texts HP4_10.out.texts hn2 hn2).mono ?_
    simp only [decide_true]
    rintro e vf ⟨rfl, bf⟩
    have Sbf := bf.size
    have HX_14 := hide (HX_13.out.on bf)
    have HP4_11 := hide (HP4_10.out.later bf HP4_10.out.2.1)
    have HP7_7 := hide (HP7_6.out.later bf HP7_6.out.2.1)
    clear HX_13 HP4_10 HP7_6 bf
    go_wp2_with fail
    refine (markTS_any p7 NR c7 R 1 vf HP7_7.out hn2 (by omega) (by omega)).mono ?_
    rintro e vg ⟨rfl, og, ag⟩
    have Sag := ag.size
    have HX_15 := hide (HX_14.out.aside ag (by omega))
    have HP4_12 := hide (HP4_11.out.aside ag (.inl (by omega)))
    clear HX_14 HP4_11 ag
    clear HP7_7
    have HP7_8 := hide (og)
    clear og
    go_wp2_with fail
    refine (heldTS_any p7 NR c7 1 vg HP7_8.out.texts hn2 (by omega) (by omega)).mono ?_
    rintro e vh ⟨rfl, bh⟩
    have Sbh := bh.size
    have HX_16 := hide (HX_15.out.on bh)
    have HP4_13 := hide (HP4_12.out.later bh HP4_12.out.2.1)
    have HP7_9 := hide (HP7_8.out.later bh HP7_8.out.2.1)
    clear HX_15 HP4_12 HP7_8 bh
    obtain ⟨c0, c1⟩ := HX_16.out.cells
    go_wp2_with fail
    refine ((HTO _).out HX_16.out).mono ?_
    rintro e vi ⟨pi, rfl, oi, bi⟩
    have Sbi := bi.size
    have HX_17 := hide (HX_16.out.on bi)
    have HP4_14 := hide (HP4_13.out.later bi HP4_13.out.2.1)
    have HP7_10 := hide (HP7_9.out.later bi HP7_9.out.2.1)
    clear HX_16 HP4_13 HP7_9 bi
    have HPI_0 := hide (oi)
    clear oi
    clear c0 c1
    go_wp2_with fail
    refine ((HTT _).out HX_17.out).mono ?_
    rintro e vj ⟨pj, rfl, oj, bj⟩
    have Sbj := bj.size
    have HX_18 := hide (HX_17.out.on bj)
    have HP4_15 := hide (HP4_14.out.later bj HP4_14.out.2.1)
    have HP7_11 := hide (HP7_10.out.later bj HP7_10.out.2.1)
    have HPI_1 := hide (oj_later HPI_0.out bj HPI_0.out.2.1)
    clear HX_17 HP4_14 HP7_10 HPI_0 bj
    have HPJ_0 := hide (oj)
    clear oj
    go_wp2_with fail
    refine ((HCI _ _ _ _ _ _ _).out HPI_1.out HPJ_0.out).mono ?_
    rintro e vk ⟨pk, ck, rfl, ok, bk⟩
    have Sbk := bk.size
    have HX_19 := hide (HX_18.out.on bk)
    have HP4_16 := hide (HP4_15.out.later bk HP4_15.out.2.1)
    have HP7_12 := hide (HP7_11.out.later bk HP7_11.out.2.1)
    have HPI_2 := hide (oj_later HPI_1.out bk HPI_1.out.2.1)
    have HPJ_1 := hide (HPJ_0.out.later bk HPJ_0.out.2.1)
    clear HX_18 HP4_15 HP7_11 HPI_1 HPJ_0 bk
    have HPK_0 := hide (ok)
    clear ok
    go_wp2_with fail
    refine (eqT_any pk NR ck R p4 NR c4 R vk HPK_0.out.texts HP4_16.out.texts hn2 hn2).mono ?_
    simp only [decide_true]
    rintro e vl ⟨rfl, bl⟩
    have Sbl := bl.size
    have HX_20 := hide (HX_19.out.on bl)
    have HP4_17 := hide (HP4_16.out.later bl HP4_16.out.2.1)
    have HP7_13 := hide (HP7_12.out.later bl HP7_12.out.2.1)
    have HPI_3 := hide (oj_later HPI_2.out bl HPI_2.out.2.1)
    have HPJ_2 := hide (HPJ_1.out.later bl HPJ_1.out.2.1)
    have HPK_1 := hide (HPK_0.out.later bl HPK_0.out.2.1)
    clear HX_19 HP4_16 HP7_12 HPI_2 HPJ_1 HPK_0 bl
    go_wp2_with fail
    refine (heldTS_any p7 NR c7 1 vl HP7_13.out.texts hn2 (by omega) (by omega)).mono ?_
    rintro e vm ⟨rfl, bm⟩
    have Sbm := bm.size
    have HX_21 := hide (HX_20.out.on bm)
    have HP4_18 := hide (HP4_17.out.later bm HP4_17.out.2.1)
    have HP7_14 := hide (HP7_13.out.later bm HP7_13.out.2.1)
    have HPI_4 := hide (oj_later HPI_3.out bm HPI_3.out.2.1)
    have HPJ_3 := hide (HPJ_2.out.later bm HPJ_2.out.2.1)
    have HPK_2 := hide (HPK_1.out.later bm HPK_1.out.2.1)
    clear HX_20 HP4_17 HP7_13 HPI_3 HPJ_2 HPK_1 bm
    go_wp2_with fail
    go_ret
    exact ⟨rfl, HX_21.out.below⟩

/-! ### THE ROW's STEP: WRITTEN OUT: LEAVE IT -/
set_option maxRecDepth 100000 in
theorem lifted (os : Os) (started : os.Started) (H : Type) (enc : TypeId × Value → H) :
    ReturnsInHanded {} Try.checked os 8 .any (Rows.fnExactCaughtSpec.pre6 enc Try.prog Try.f8 Rows.fnExactCaughtRow.domain false) (Rows.fnExactCaughtSpec.post enc Try.prog Try.f8 false true false false) := by
  refine returnsInHanded_of_change (C := Try.checked) own started (by kernel_rfl) Try.func8
    (ChangeSpec.witness6 (enc := enc) (C := Try.checked) false ⟨#[], #[.agg #[.int .i64 0, .slice none 0 0], .slice none 0 0, .int .i64 0], []⟩ 8 (by kernel_rfl) (by kernel_rfl) (by kernel_rfl) (by kernel_rfl)) ?_
  intro W base args ds gs before hval0 hW hcnd _
  have hval : ∀ (j : Nat) t v, Try.f8.params[j]? = some t → args[j]? = some v → Value.okWide Try.prog W .any base t v := hval0
  have hW' := hW
  obtain ⟨p, q, hA0, hV, rfl, hfz, hnd⟩ := hW
  have hA : DataW.TrodAll enc Try.prog W 0 (fun _ => true) true Try.f8.params.toList args.toList ds p := hA0
  rw [Try.params8] at hA hval
  obtain ⟨v0, vs0, d0, ds0, p0, q0, hargs, rfl, rfl, h0, r0⟩ := trodAll_cons hA
  obtain ⟨v1, vs1, d1, ds1, p1, q1, rfl, rfl, rfl, h1, r1⟩ := trodAll_cons r0
  obtain ⟨v2, vs2, d2, ds2, p2, q2, rfl, rfl, rfl, h2, r2⟩ := trodAll_cons r1
  obtain ⟨rfl, rfl, rfl⟩ := trodAll_nil r2
  obtain rfl : args = #[v0, v1, v2] := by cases args; simp_all
  obtain ⟨rfl, rfl⟩ := trodVars_none hV
  have kk0 := h0
  have lt0 : ∀ x ∈ p0, x.block < W.heap.size := by obtain ⟨m, hm⟩ := kk0; exact DataW.trod_lt m _ _ _ hm
  obtain ⟨n0, a0, len0, cap0, q0, rfl, w0⟩ := log_read Try.underlying24 (by kernel_rfl) (by kernel_rfl) Try.underlying2 Try.underlying22 Try.underlying34 (by kernel_rfl) (by kernel_rfl) Try.underlying2 Try.underlying2 Try.underlying9 (hval 0 24 v0 rfl rfl) h0
  obtain ⟨a1, len1, cap1, rfl⟩ := okWide_slice Try.underlying48 (hval 1 48 v1 rfl rfl)
  have k1 := h1
  have lt1 : ∀ x ∈ p1, x.block < W.heap.size := by obtain ⟨m, hm⟩ := k1; exact DataW.trod_lt m _ _ _ hm
  obtain ⟨z1, w1⟩ := texts_read Try.underlying48 Try.underlying9 (by kernel_rfl) h1
  obtain ⟨a2, rfl, rfl, rfl, w2⟩ := open_int Try.underlying2 (hval 2 2 v2 rfl rfl) h2
  clear hA0 hval0
  refine (walk n0 a0 len0 cap0 q0 a1 len1 cap1 z1 a2 W w0 w1 w2).mono fun e W' ⟨he, bel⟩ => ?_
  subst he
  exact ⟨_, rfl, _, _, _, [], _, [], hW', trodAll_mk1 (shut_bool Try.underlying4 _), (trodAll_cons_mk (Below.trod laidOut (by kernel_rfl) (of_decide_eq_true (by kernel_rfl)) kk0 bel lt0) (trodAll_cons_mk (Below.trod laidOut (by kernel_rfl) (of_decide_eq_true (by kernel_rfl)) k1 bel lt1) (trodAll_cons_mk (shut_int Try.underlying2 w2) trodAll_mk0))), rfl, bel.frame _, fun h => by cases h⟩

theorem over : Rows.fnExactCaughtRow.holds Try.pinned (OpenSpec.ofChange Rows.fnExactCaughtSpec) :=
  OpenClaim.holds_of_wide 8 Try.f8 rfl rfl rfl rfl rfl rfl rfl ⟨rfl, rfl, rfl, rfl, rfl⟩ rfl rfl rfl rfl rfl (by kernel_rfl) Try.func8 (by kernel_rfl)
    (of_decide_eq_true (by kernel_rfl)) (by unfold Func.isWrapper; first | (rw [if_pos (by decide +kernel)]; kernel_rfl) | (rw [if_neg (by decide +kernel)]; exact ⟨rfl, rfl⟩))
    (fun os started H enc _ => lifted os started H enc)

/-- ████ THE STATEMENT ████ -/
theorem proved : Rows.FnExactCaughtSaid := over
#print axioms proved
end Go.Proofs.Ytckkcimkfhhacaa.fnExactCaught
