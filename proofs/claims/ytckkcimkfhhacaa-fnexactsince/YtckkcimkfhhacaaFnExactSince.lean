/- For every Log and every int64 the law FnExactSince returns true and leaves its arguments as they were; no condition. -/
import Derived.Test.YtckkcimkfhhacaaRows
import Derived.Test.YtckkcimkfhhacaaLLogImplA
import Derived.Test.YtckkcimkfhhacaaLLogImplC
import Derived.Test.YtckkcimkfhhacaaLPutOwn
import Derived.Test.YtckkcimkfhhacaaLTextBase
import Derived.Deep.RegionHeld3
import Derived.Deep.Cut
import Derived.Lib.QuietBelow
import Derived.BigQuiet
import Derived.WalkKit
import Derived.ProofKit
import Derived.OpenShut
import Derived.ShutString
import Derived.ChangeOld
import Derived.Below
namespace Go.Proofs.Ytckkcimkfhhacaa.fnExactSince
open Go.ChangeShapes Go.WideShapes Go.ChangeAt Go.RowKit
open Go.ChangeMaps (open_string shut_string)
set_option linter.unusedVariables false

theorem own : ownKnob Try.prog.godebug = none := by kernel_rfl
theorem laidOut : laidOutB Try.prog = true := by kernel_rfl

structure BoxL (w : World) (z : Int) (a : Option Addr) (n cap : Nat) (w' : World) : Prop where
  log : w'.heap[w.heap.size]? = some (.cells #[.int .i64 z, .slice a n cap] 24)
  below : Below w.heap.size w w'
theorem BoxL.on {w : World} {z : Int} {a : Option Addr} {n cap : Nat} {w1 w2 : World} (h : BoxL w z a n cap w1) (hb : Below w1.heap.size w1 w2) : BoxL w z a n cap w2 := ⟨block_on h.log hb, below_here h.below hb⟩
theorem BoxL.size {w : World} {z : Int} {a : Option Addr} {n cap : Nat} {w1 : World} (h : BoxL w z a n cap w1) : w.heap.size + 1 ≤ w1.heap.size := by
  have := (Array.getElem?_eq_some_iff.1 h.log).1; omega
theorem BoxL.aside {w : World} {z : Int} {a : Option Addr} {n cap : Nat} {w1 w2 : World} (h : BoxL w z a n cap w1) {l r : Nat} (hb : Aside l r w1 w2) (hl : w.heap.size + 1 ≤ l) : BoxL w z a n cap w2 :=
  ⟨(hb.block _ (by have := h.size; omega) (.inl (by omega))).trans h.log, h.below.trans (hb.below (by omega) (by have := h.size; omega))⟩
theorem BoxL.cells {w : World} {z : Int} {a : Option Addr} {n cap : Nat} {w1 : World} (h : BoxL w z a n cap w1) : w1.cell? ⟨w.heap.size, 0, none⟩ = some (.int .i64 z) ∧ w1.cell? ⟨w.heap.size, 1, none⟩ = some (.slice a n cap) := two_cells h.log
set_option maxHeartbeats 4000000 in
set_option maxRecDepth 20000 in

theorem walk (n0 : Int) (a0 : Option Addr) (len0 cap0 : Nat) (q0 : List Jb) (a1 : Int) (w : World) (w0 : (Lit.int .i64 n0).wf = true ∧ Jobs 0 w.heap.size w a0 len0 q0 ∧ (∀ x ∈ q0, jbFits x) ∧ len0 ≤ maxLen) (w1 : (Lit.int .i64 a1).wf = true) :
    Calls Try.prog 5 #[.agg #[.int .i64 n0, .slice a0 len0 cap0], .int .i64 a1] w fun e w' => e = .returned (.bool true) ∧ Below w.heap.size w w' := by
  obtain ⟨_, hsq, hfi, hm⟩ := w0
  obtain ⟨wA, hwA⟩ : ∃ wA, wA = w.alloc (.cells #[.int .i64 n0, .slice a0 len0 cap0] 24) := ⟨_, rfl⟩
  have HXA : Hid (BoxL w n0 a0 len0 cap0 wA) := by rw [hwA]; exact ⟨heap_new _ _, (Below.refl _ _).alloc (Nat.le_refl _) _⟩
  have HSQ := hide hsq
  have HF := hide hfi
  have HM := hide hm
  clear hsq hfi hm
  obtain ⟨c0, c1⟩ := HXA.out.cells
  go_enter Try.func5, Try.ntmps5
  go_upto_region 1 with fail
  rw [← hwA]
  clear hwA
  go_wp2_with fail
  refine (szLog_any n0 a0 len0 cap0 q0 1048576 wA (jl_later HSQ.out HXA.out.below (Nat.le_refl _)) (by have := HXA.out.size; omega) HM.out HF.out (by omega) (by omega)).mono ?_
  rintro e v1 ⟨⟨r, rfl, r1, r2, hr⟩, b1⟩
  have HX1 := hide (HXA.out.on b1)
  clear b1 HXA c0 c1
  by_cases h0 : 0 ≤ r
  · have hlen : len0 ≤ 1048576 := by have := hr h0; omega
    clear hr
    have HTO : ∀ W, Hid (BoxL w n0 a0 len0 cap0 W → Calls Try.prog 11 #[.agg #[.int .i64 n0, .slice a0 len0 cap0]] W fun e w' => ∃ a', e = .returned (.agg #[.int .i64 n0, .slice a' len0 len0]) ∧ OwnJobs W.heap.size w'.heap.size w' a' len0 q0 ∧ Below W.heap.size W w') := fun W hb => toLog_any n0 a0 len0 cap0 q0 W (jl_later HSQ.out hb.below (Nat.le_refl _)) (by have := hb.size; omega) hlen
    obtain ⟨R, hR⟩ : ∃ R, R = sinceR n0 q0 a1 := ⟨_, rfl⟩
    obtain ⟨NR, hNR⟩ : ∃ NR, NR = R.length := ⟨_, rfl⟩
    obtain ⟨fl, hfl⟩ : ∃ fl, fl = hasSince n0 q0 a1 := ⟨_, rfl⟩
    have hNL : NR ≤ len0 := by
      rw [hNR, hR, ← HSQ.out.1]
      unfold sinceR sinceF
      split
      · rw [List.length_drop]; omega
      · simp
    have HCS : ∀ (a : Option Addr) (lo : Nat) (W : World), Hid (OwnJobs lo W.heap.size W a len0 q0 → Calls Try.prog 20 #[.agg #[.int .i64 n0, .slice a len0 len0], .int .i64 a1] W fun r w' => ∃ a' c', r = .returned (.tuple #[.slice a' NR c', .bool fl]) ∧ OwnJobs W.heap.size w'.heap.size w' a' NR R ∧ Below W.heap.size W w') := fun a lo W ho => by
      have := specSince_any n0 a len0 len0 q0 a1 W (jl_own ho) (Nat.le_refl _) hlen (Nat.le_refl _) hlen HF.out w1
      rw [← hR, ← hNR, ← hfl] at this
      exact this
    have HCI : ∀ (a : Option Addr) (lo : Nat) (W : World), Hid (OwnJobs lo W.heap.size W a len0 q0 → Calls Try.prog 21 #[.agg #[.int .i64 n0, .slice a len0 len0], .int .i64 a1] W fun r w' => ∃ a' c', r = .returned (.tuple #[.slice a' NR c', .bool fl]) ∧ OwnJobs W.heap.size w'.heap.size w' a' NR R ∧ Below W.heap.size W w') := fun a lo W ho => by
      have := implSince_any n0 a len0 len0 q0 a1 W (jl_own ho) (Nat.le_refl _) hlen (Nat.le_refl _) hlen HF.out w1
      rw [← hR, ← hNR, ← hfl] at this
      exact this
    clear hR hNR hfl
    obtain ⟨c0, c1⟩ := HX1.out.cells
    go_wp2_with fail
    refine ((HTO _).out HX1.out).mono ?_
    rintro e v2 ⟨p2, rfl, o2, b2⟩
    have HX2 := hide (HX1.out.on b2)
    have HO2 := hide o2
    clear b2 o2 c0 c1
    go_wp2_with fail
    refine ((HCS _ _ _).out HO2.out).mono ?_
    rintro e v3 ⟨p3, c3, rfl, o3, b3⟩
    have HX3 := hide (HX2.out.on b3)
    have HO3 := hide o3
    have s23 := b3.size
    clear b3 o3 HO2
    obtain ⟨c0, c1⟩ := HX3.out.cells
    go_wp2_with fail
    refine ((HTO _).out HX3.out).mono ?_
    rintro e v4 ⟨p4, rfl, o4, b4⟩
    obtain ⟨vX, hvX⟩ : ∃ vX, vX = v4.alloc (.cells #[.int .i64 n0, .slice p4 len0 len0] 29) := ⟨_, rfl⟩
    have hbX : Below v4.heap.size v4 vX := by rw [hvX]; exact (Below.refl _ _).alloc (Nat.le_refl _) _
    have hzX : vX.heap.size = v4.heap.size + 1 := by rw [hvX]; simp
    have HK4 : Hid (vX.heap[v4.heap.size]? = some (.cells #[.int .i64 n0, .slice p4 len0 len0] 29)) := by rw [hvX]; exact heap_new _ _
    have HX4 := hide ((HX3.out.on b4).on hbX)
    have HO4 := hide (oj_later o4 hbX (Nat.le_refl _))
    have HO34 := hide (oj_later (oj_later HO3.out b4 (Nat.le_refl _)) hbX b4.size)
    have s34 := b4.size
    clear b4 o4 c0 c1 hbX HO3
    obtain ⟨d0, d1⟩ := two_cells HK4.out
    go_upto_region 7 with fail
    rw [← hvX]
    clear hvX
    go_wp2_with fail
    refine ((HCI _ _ _).out (oj_wide HO4.out (Nat.le_refl _))).mono ?_
    rintro e v5 ⟨p5, c5, rfl, o5, b5⟩
    have HX5 := hide (HX4.out.on b5)
    have HK5 := hide (block_on HK4.out b5)
    have HO5 := hide (oj_later HO4.out b5 (by omega))
    have HO35 := hide (oj_later HO34.out b5 (by omega))
    have HO55 := hide o5
    have hs5 := b5.size
    clear b5 d0 d1 HK4 HO4 HO34 o5
    have hn2 : NR ≤ 1048576 := by omega
    go_wp2_with fail
    refine (eqPutS_same p5 p3 NR c5 c3 R v5 (jl_own HO55.out) (jl_own HO35.out) hn2).mono ?_
    rintro e v6 ⟨rfl, b6⟩
    have HX6 := hide (HX5.out.on b6)
    have HK6 := hide (block_on HK5.out b6)
    have HO46 := hide (oj_later HO5.out b6 (by omega))
    have HO36 := hide (oj_later HO35.out b6 (by omega))
    have HO56 := hide (oj_later HO55.out b6 (Nat.le_refl _))
    have hs6 := b6.size
    clear b6 HX5 HK5 HO5 HO35 HO55
    have HSC : ∀ W, Hid (Below v6.heap.size v6 W → (W.cell? ⟨v4.heap.size, 0, none⟩ = some (.int .i64 n0) ∧ W.cell? ⟨v4.heap.size, 1, none⟩ = some (.slice p4 len0 len0) ∧ W.cell? ⟨w.heap.size, 0, none⟩ = some (.int .i64 n0) ∧ W.cell? ⟨w.heap.size, 1, none⟩ = some (.slice a0 len0 cap0))) := fun W hb => ⟨(two_cells (block_on HK6.out hb)).1, (two_cells (block_on HK6.out hb)).2, (HX6.out.on hb).cells⟩
    have HR0 : Hid (Below v6.heap.size v6 v6.drew) := (Below.refl v6.heap.size v6).drew
    go_upto_region 10 with fail
    go_region_held3 (fun W => W.cell? ⟨v4.heap.size, 0, none⟩ = some (.int .i64 n0) ∧ W.cell? ⟨v4.heap.size, 1, none⟩ = some (.slice p4 len0 len0) ∧ W.cell? ⟨w.heap.size, 0, none⟩ = some (.int .i64 n0) ∧ W.cell? ⟨w.heap.size, 1, none⟩ = some (.slice a0 len0 cap0))
      (first | with_reducible exact (HSC _).out HR0.out | with_reducible exact (HSC _).out HR1.out | with_reducible exact (HSC _).out HR2.out | fail)
      (first
        | (go_at_call 11; refine ((HTO _).out (HX6.out.on HR0.out)).mono ?_; rintro e y1 ⟨p6, rfl, oo, bb⟩; have HR1 := hide (below_here HR0.out bb); have HO6 := hide oo; clear oo bb)
        | (go_at_call 13; refine (eqLog_same n0 p4 p6 len0 len0 len0 q0 y1 (jl_later (jl_own HO46.out) HR1.out (by omega)) (jl_own HO6.out) (by have := HR1.out.size; omega) (Nat.le_refl _) hlen).mono ?_; rintro e y2 ⟨rfl, bb⟩; have HR2 := hide (below_here HR1.out bb); clear bb)
        | fail)
    have HX7 := hide (HX6.out.on HR2.out)
    have HK7 := hide (block_on HK6.out HR2.out)
    have HO47 := hide (oj_later HO46.out HR2.out (by omega))
    have HO37 := hide (oj_later HO36.out HR2.out (by omega))
    have HO57 := hide (oj_later HO56.out HR2.out (by omega))
    have hs7 := HR2.out.size
    clear HSC HR0 HR1 HR2 HO46 HO36 HO56 HO6 HX6 HK6
    obtain ⟨d0, d1⟩ := two_cells HK7.out
    go_wp2_with fail
    refine (markLog_any n0 p4 len0 len0 q0 y2 HO47.out (by omega) hlen).mono ?_
    rintro e v8 ⟨rfl, o8, a8⟩
    have hsx3 := HX3.out.size
    have HX8 := hide (HX7.out.aside a8 (by omega))
    have HO38 := hide (oj_aside HO37.out a8 (.inl (Nat.le_refl _)))
    have HO58 := hide (oj_aside HO57.out a8 (.inr (by omega)))
    have hs8 := a8.size
    clear a8 o8 HX7 HK7 HO37 HO47 HO57 d0 d1
    obtain ⟨t, ht⟩ : ∃ t, t = 1 + 3 * len0 := ⟨_, rfl⟩
    rw [← ht]
    have ht9 : t ≤ 4194304 := by omega
    clear ht
    go_wp2_with fail
    refine (eqPutS_same p5 p3 NR c5 c3 R v8 (jl_own HO58.out) (jl_own HO38.out) hn2).mono ?_
    rintro e v9 ⟨rfl, b9⟩
    have HX9 := hide (HX8.out.on b9)
    have HO39 := hide (oj_later HO38.out b9 (by omega))
    have HO59 := hide (oj_later HO58.out b9 (by omega))
    have hs9 := b9.size
    clear b9 HX8 HO38 HO58
    go_wp2_with fail
    refine (markPutS_to p5 NR c5 R 1 v9 HO59.out hn2 (by omega) (by omega)).mono ?_
    rintro e va ⟨rfl, oa, aa⟩
    have HXa := hide (HX9.out.aside aa (by omega))
    have HO3a := hide (oj_aside HO39.out aa (.inl (by omega)))
    have HO5a := hide oa
    have hsa := aa.size
    clear aa oa HX9 HO39 HO59
    obtain ⟨t2, ht2⟩ : ∃ t2, t2 = 1 + 3 * NR := ⟨_, rfl⟩
    rw [← ht2]
    have ht29 : t2 ≤ 4194304 := by omega
    have HT2 := hide ht2
    clear ht2
    go_wp2_with fail
    refine (heldPutS_any p5 NR c5 1 va (jl_own HO5a.out) (by omega) hn2 (by omega) (by omega)).mono ?_
    rw [← HT2.out]
    rintro e vb ⟨rfl, bb⟩
    have HXb := hide (HXa.out.on bb)
    have HO3b := hide (oj_later HO3a.out bb (by omega))
    have HO5b := hide (oj_later HO5a.out bb (by omega))
    have hsb := bb.size
    clear bb HXa HO3a HO5a
    obtain ⟨c0, c1⟩ := HXb.out.cells
    go_wp2_with fail
    refine ((HTO _).out HXb.out).mono ?_
    rintro e vc ⟨pc, rfl, oc, bc⟩
    have HXc := hide (HXb.out.on bc)
    have HOc := hide oc
    have HO3c := hide (oj_later HO3b.out bc (by omega))
    have HO5c := hide (oj_later HO5b.out bc (by omega))
    have hsc := bc.size
    clear bc oc HXb HO3b HO5b c0 c1
    go_wp2_with fail
    refine ((HCI _ _ _).out HOc.out).mono ?_
    rintro e vd ⟨pd, cd, rfl, od, bd⟩
    have HXd := hide (HXc.out.on bd)
    have HOd := hide od
    have HO3d := hide (oj_later HO3c.out bd (by omega))
    have HO5d := hide (oj_later HO5c.out bd (by omega))
    have hsd := bd.size
    clear bd od HXc HOc HO3c HO5c
    go_wp2_with fail
    refine (eqPutS_same pd p3 NR cd c3 R vd (jl_own HOd.out) (jl_own HO3d.out) hn2).mono ?_
    rintro e ve ⟨rfl, be⟩
    have HXe := hide (HXd.out.on be)
    have HO5e := hide (oj_later HO5d.out be (by omega))
    have hse := be.size
    clear be HXd HOd HO3d HO5d
    go_wp2_with fail
    refine (heldPutS_any p5 NR c5 1 ve (jl_own HO5e.out) (by omega) hn2 (by omega) (by omega)).mono ?_
    rw [← HT2.out]
    rintro e vf ⟨rfl, bf⟩
    have HBF := hide (below_here HXe.out.below bf)
    clear bf HXe HO5e
    go_wp2_with fail
    go_ret
    exact ⟨rfl, HBF.out⟩
  · clear hr
    go_wp2_with fail
    go_ret
    exact ⟨rfl, HX1.out.below⟩

/-! ### THE ROW's STEP: WRITTEN OUT: LEAVE IT -/
set_option maxRecDepth 100000 in
theorem lifted (os : Os) (started : os.Started) (H : Type) (enc : TypeId × Value → H) :
    ReturnsInHanded {} Try.checked os 5 .any (Rows.fnExactSinceSpec.pre6 enc Try.prog Try.f5 Rows.fnExactSinceRow.domain false) (Rows.fnExactSinceSpec.post enc Try.prog Try.f5 false true false false) := by
  refine returnsInHanded_of_change (C := Try.checked) own started (by kernel_rfl) Try.func5
    (ChangeSpec.witness6 (enc := enc) (C := Try.checked) false ⟨#[], #[.agg #[.int .i64 0, .slice none 0 0], .int .i64 0], []⟩ 8 (by kernel_rfl) (by kernel_rfl) (by kernel_rfl) (by kernel_rfl)) ?_
  intro W base args ds gs before hval0 hW hcnd _
  have hval : ∀ (j : Nat) t v, Try.f5.params[j]? = some t → args[j]? = some v → Value.okWide Try.prog W .any base t v := hval0
  have hW' := hW
  obtain ⟨p, q, hA0, hV, rfl, hfz, hnd⟩ := hW
  have hA : DataW.TrodAll enc Try.prog W 0 (fun _ => true) true Try.f5.params.toList args.toList ds p := hA0
  rw [Try.params5] at hA hval
  obtain ⟨v0, vs0, d0, ds0, p0, q0, hargs, rfl, rfl, h0, r0⟩ := trodAll_cons hA
  obtain ⟨v1, vs1, d1, ds1, p1, q1, rfl, rfl, rfl, h1, r1⟩ := trodAll_cons r0
  obtain ⟨rfl, rfl, rfl⟩ := trodAll_nil r1
  obtain rfl : args = #[v0, v1] := by cases args; simp_all
  obtain ⟨rfl, rfl⟩ := trodVars_none hV
  have kk0 := h0
  have lt0 : ∀ x ∈ p0, x.block < W.heap.size := by obtain ⟨m, hm⟩ := kk0; exact DataW.trod_lt m _ _ _ hm
  obtain ⟨n0, a0, len0, cap0, q0, rfl, w0⟩ := log_read Try.underlying24 (by kernel_rfl) (by kernel_rfl) Try.underlying2 Try.underlying22 Try.underlying34 (by kernel_rfl) (by kernel_rfl) Try.underlying2 Try.underlying2 Try.underlying9 (hval 0 24 v0 rfl rfl) h0
  obtain ⟨a1, rfl, rfl, rfl, w1⟩ := open_int Try.underlying2 (hval 1 2 v1 rfl rfl) h1
  clear hA0 hval0
  refine (walk n0 a0 len0 cap0 q0 a1 W w0 w1).mono fun e W' ⟨he, bel⟩ => ?_
  subst he
  exact ⟨_, rfl, _, _, _, [], _, [], hW', trodAll_mk1 (shut_bool Try.underlying4 _), (trodAll_cons_mk (Below.trod laidOut (by kernel_rfl) (of_decide_eq_true (by kernel_rfl)) kk0 bel lt0) (trodAll_cons_mk (shut_int Try.underlying2 w1) trodAll_mk0)), rfl, bel.frame _, fun h => by cases h⟩

theorem over : Rows.fnExactSinceRow.holds Try.pinned (OpenSpec.ofChange Rows.fnExactSinceSpec) :=
  OpenClaim.holds_of_wide 5 Try.f5 rfl rfl rfl rfl rfl rfl rfl ⟨rfl, rfl, rfl, rfl, rfl⟩ rfl rfl rfl rfl rfl (by kernel_rfl) Try.func5 (by kernel_rfl)
    (of_decide_eq_true (by kernel_rfl)) (by unfold Func.isWrapper; first | (rw [if_pos (by decide +kernel)]; kernel_rfl) | (rw [if_neg (by decide +kernel)]; exact ⟨rfl, rfl⟩))
    (fun os started H enc _ => lifted os started H enc)

/-- ████ THE STATEMENT ████ -/
theorem proved : Rows.FnExactSinceSaid := over
#print axioms proved
end Go.Proofs.Ytckkcimkfhhacaa.fnExactSince
