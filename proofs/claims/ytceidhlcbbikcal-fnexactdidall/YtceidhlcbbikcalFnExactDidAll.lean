/- For every Chip and every slice of Jobs the law FnExactDidAll returns true and leaves its arguments as they were; no condition. -/
import Derived.Test.YtceidhlcbbikcalRows
import Derived.Test.YtceidhlcbbikcalChipBase
import Derived.Test.YtceidhlcbbikcalChipImplG
import Derived.Test.YtceidhlcbbikcalChipJobSz
import Derived.Test.YtceidhlcbbikcalChipJob2
import Derived.Test.YtceidhlcbbikcalChipLaw
import Derived.Deep.RegionWith
import Derived.Deep.DeepCutAuto
import Derived.Deep.RegionHeld3
import Derived.WalkKit
import Derived.ProofKit
import Derived.OpenShut
import Derived.ShutString
import Derived.ChangeOld
import Derived.Below
namespace Go.Proofs.Ytceidhlcbbikcal.fnExactDidAll
open Go.ChangeShapes Go.WideShapes Go.ChangeAt Go.RowKit
open Go.ChangeMaps (open_string shut_string)
set_option linter.unusedVariables false

theorem own : ownKnob Try.prog.godebug = none := by kernel_rfl
theorem laidOut : laidOutB Try.prog = true := by kernel_rfl

structure BoxC (w : World) (z : Int) (a : Option Addr) (n cap : Nat) (w' : World) : Prop where
  chip : w'.heap[w.heap.size]? = some (.cells #[.int .i64 z, .slice a n cap] 31)
  below : Below w.heap.size w w'
theorem BoxC.on {w : World} {z : Int} {a : Option Addr} {n cap : Nat} {w1 w2 : World} (h : BoxC w z a n cap w1) (hb : Below w1.heap.size w1 w2) : BoxC w z a n cap w2 := ⟨block_on h.chip hb, below_here h.below hb⟩
theorem BoxC.size {w : World} {z : Int} {a : Option Addr} {n cap : Nat} {w1 : World} (h : BoxC w z a n cap w1) : w.heap.size + 1 ≤ w1.heap.size := by
  have := (Array.getElem?_eq_some_iff.1 h.chip).1; omega
theorem BoxC.aside {w : World} {z : Int} {a : Option Addr} {n cap : Nat} {w1 w2 : World} (h : BoxC w z a n cap w1) {l r : Nat} (hb : Aside l r w1 w2) (hl : w.heap.size + 1 ≤ l) : BoxC w z a n cap w2 :=
  ⟨(hb.block _ (by have := h.size; omega) (.inl (by omega))).trans h.chip, h.below.trans (hb.below (by omega) (by have := h.size; omega))⟩
theorem BoxC.cells {w : World} {z : Int} {a : Option Addr} {n cap : Nat} {w1 : World} (h : BoxC w z a n cap w1) : w1.cell? ⟨w.heap.size, 0, none⟩ = some (.int .i64 z) ∧ w1.cell? ⟨w.heap.size, 1, none⟩ = some (.slice a n cap) := two_cells h.chip
theorem jobs_of_own {lo hi n : Nat} {w : World} {a : Option Addr} {js : List Jb} (h : OwnJobs lo hi w a n js) : Jobs lo hi w a n js := ⟨h.1, h.2.reads⟩
theorem jobs_later {lo hi n B : Nat} {w w' : World} {a : Option Addr} {js : List Jb} (h : Jobs lo hi w a n js) (hb : Below B w w') (hB : hi ≤ B) : Jobs lo hi w' a n js := ⟨h.1, h.2.later hb hB⟩
theorem own_jobs_later {lo hi n B : Nat} {w w' : World} {a : Option Addr} {js : List Jb} (h : OwnJobs lo hi w a n js) (hb : Below B w w') (hB : hi ≤ B) : OwnJobs lo hi w' a n js := ⟨h.1, h.2.later hb hB⟩
theorem own_jobs_aside {lo hi n l r : Nat} {w w' : World} {a : Option Addr} {js : List Jb} (h : OwnJobs lo hi w a n js) (hb : Aside l r w w') (hB : hi ≤ l ∨ r ≤ lo) : OwnJobs lo hi w' a n js := ⟨h.1, h.2.aside hb hB⟩
theorem squares_wide {lo hi lo' hi' n : Nat} {w : World} {a : Option Addr} {qs : List Sq} (h : Squares lo hi w a n qs) (h1 : lo' ≤ lo) (h2 : hi ≤ hi') (h3 : hi' ≤ w.heap.size) : Squares lo' hi' w a n qs := by
  obtain ⟨h4, A, C, h5, h6⟩ := h
  exact ⟨h4, A, C, reads_wide h5 h1 h2 h3, fun i hi => ⟨(h6 i hi).1, reads_wide (h6 i hi).2 h1 h2 h3⟩⟩
theorem one_below {B b : Nat} {w w' : World} (h : Below B w w') (hb : B ≤ b) (u : Value) : Below B w (w'.setCell ⟨b, 0, none⟩ u) := h.setCell (p := ⟨b, 0, none⟩) hb u
set_option maxHeartbeats 8000000 in
set_option maxRecDepth 100000 in

theorem walk (n0 : Int) (a0 : Option Addr) (len0 cap0 : Nat) (q0 : List Sq) (a1 : Option Addr) (len1 cap1 : Nat) (z1 : List Jb) (w : World) (w0 : (Lit.int .i64 n0).wf = true ∧ Squares 0 w.heap.size w a0 len0 q0 ∧ (∀ x ∈ q0, sqFits x) ∧ len0 ≤ maxLen) (w1 : Jobs 0 w.heap.size w a1 len1 z1 ∧ (∀ x ∈ z1, jbFits x) ∧ len1 ≤ maxLen) :
    Calls Try.prog 7 #[.agg #[.int .i64 n0, .slice a0 len0 cap0], .slice a1 len1 cap1] w fun e w' => e = .returned (.bool true) ∧ Below w.heap.size w w' := by
  obtain ⟨_, hsq, hfi, hm⟩ := w0
  obtain ⟨hjs, hjf, hjm⟩ := w1
  have hlen : q0.length = len0 := hsq.1
  subst hlen
  obtain ⟨wA, hwA⟩ : ∃ wA, wA = w.alloc (.cells #[.int .i64 n0, .slice a0 q0.length cap0] 31) := ⟨_, rfl⟩
  have hzA : wA.heap.size = w.heap.size + 1 := by rw [hwA]; simp
  have HBX_wA : Hid (BoxC w n0 a0 q0.length cap0 wA) := by rw [hwA]; exact ⟨heap_new _ _, (Below.refl _ _).alloc (Nat.le_refl _) _⟩
  have HSQ := hide hsq
  have HF := hide hfi
  have HM := hide hm
  have HJS := hide hjs
  have HJF := hide hjf
  have HJM := hide hjm
  clear hsq hfi hm hjs hjf hjm
  obtain ⟨c0, c1⟩ := HBX_wA.out.cells
  go_enter Try.func7, Try.ntmps7
  go_upto_region 1 with fail
  rw [← hwA]
  clear hwA
  go_wp2_with fail
  refine (szChip_any n0 a0 q0.length cap0 q0 1048576 wA (HSQ.out.later HBX_wA.out.below (Nat.le_refl _)) (by omega) HM.out HF.out (by omega) (by omega)).mono ?_
  rintro e w1 ⟨⟨r, rfl, r1, r2, hr⟩, b1⟩
  have HBX_w1 := hide (HBX_wA.out.on b1)
  clear b1 HBX_wA c0 c1
  by_cases h0 : 0 ≤ r
  · have hfit : q0.length + weight q0 ≤ 1048576 := by have := hr h0; omega
    have hrr : r = 1048576 - ((q0.length + weight q0 : Nat) : Int) := hr h0
    have HRR := hide hrr
    clear hr hrr
    go_wp2_with fail
    refine (szJobS_any a1 len1 cap1 z1 r w1 (jobs_later HJS.out HBX_w1.out.below (Nat.le_refl _)) HBX_w1.out.below.size HJM.out HJF.out h0 (by omega)).mono ?_
    rintro e w2 ⟨⟨r', rfl, s1, s2, hr'⟩, b2⟩
    have HBX_w2 := hide (HBX_w1.out.on b2)
    clear b2 HBX_w1
    by_cases h0' : 0 ≤ r'
    · have hlen1 : len1 ≤ 1048576 := by have := hr' h0'; omega
      have hsum : q0.length + weight q0 + len1 ≤ 1048576 := by have := hr' h0'; have := HRR.out; omega
      clear hr' HRR
      have hz2 := HBX_w2.out.size
      have HSD : ∀ w9 a9 lo hi a8 lo' hi', Hid (Squares lo hi w9 a9 q0.length q0 → hi ≤ w9.heap.size → Jobs lo' hi' w9 a8 len1 z1 → hi' ≤ w9.heap.size → Calls Try.prog 26 #[.agg #[.int .i64 n0, .slice a9 q0.length q0.length], .slice a8 len1 len1] w9 fun e w' => ∃ v, e = .returned (.tuple #[v, .bool (allB n0 q0 z1)]) ∧ ChipAns w9 (allZ n0 q0 z1) (allS n0 q0 z1) v w') := fun w9 a9 lo hi a8 lo' hi' h9 hh h8 hh8 => specDidAll_ans n0 a9 q0.length q0.length q0 a8 len1 len1 z1 w9 h9 hh (by omega) HF.out h8 hh8 hlen1 HJF.out
      have HID : ∀ w9 a9 lo hi a8 lo' hi', Hid (Squares lo hi w9 a9 q0.length q0 → hi ≤ w9.heap.size → Jobs lo' hi' w9 a8 len1 z1 → hi' ≤ w9.heap.size → Calls Try.prog 28 #[.agg #[.int .i64 n0, .slice a9 q0.length q0.length], .slice a8 len1 len1] w9 fun e w' => ∃ v, e = .returned (.tuple #[v, .bool (allB n0 q0 z1)]) ∧ ChipAns w9 (allZ n0 q0 z1) (allS n0 q0 z1) v w') := fun w9 a9 lo hi a8 lo' hi' h9 hh h8 hh8 => implDidAll_ans n0 a9 q0.length q0.length q0 a8 len1 len1 z1 w9 h9 hh (by omega) HF.out h8 hh8 hlen1 HJF.out
      have hfit2 : (allS n0 q0 z1).length + weight (allS n0 q0 z1) ≤ 1048576 := by
        unfold allS
        cases hc : chipOk n0 q0 with
        | true =>
          cases ha : allQ n0 q0 z1 with
          | some q => exact chipOk_fit (allQ_ok hc ha)
          | none => simp [weight]
        | false => simp [weight]
      generalize allZ n0 q0 z1 = Z at *
      generalize allS n0 q0 z1 = Q at *
      generalize allB n0 q0 z1 = Bv at *
      obtain ⟨c0, c1⟩ := HBX_w2.out.cells
      go_wp2_with fail
      refine (toChip_any n0 a0 q0.length cap0 q0 w2 (HSQ.out.later HBX_w2.out.below (Nat.le_refl _)) HBX_w2.out.below.size hfit).mono ?_
      rintro e w3 ⟨at_, rfl, ot, bt⟩
      clear c0 c1
      have hst := bt.size
      have HTT := hide ot
      have HBX_w3 := hide (HBX_w2.out.on bt)
      skip
      clear ot bt HBX_w2
      go_wp2_with fail
      refine (toJobS_any a1 len1 cap1 z1 w3 (jobs_later HJS.out HBX_w3.out.below (Nat.le_refl _)) hlen1).mono ?_
      rintro e w4 ⟨aj_, rfl, oj, bj⟩
      have hsj := bj.size
      have HTJ := hide oj
      have HTC := hide (HTT.out.later bj (Nat.le_refl _))
      have HBX_w4 := hide (HBX_w3.out.on bj)
      skip
      clear oj bj HTT HBX_w3
      go_wp2_with fail
      refine ((HSD w4 at_ _ _ aj_ _ _).out HTC.out.squares (by omega) (jobs_of_own HTJ.out) HTJ.out.2.1).mono ?_
      rintro e w5 ⟨v, rfl, a_w, c_w, rfl, q_w', b_w'⟩
      have hs_w := b_w'.size
      obtain ⟨wW, hwV⟩ : ∃ wW, wW = w5.alloc (.cells #[.int .i64 (Z), .slice a_w (Q).length c_w] 36) := ⟨_, rfl⟩
      have hz_w : wW.heap.size = w5.heap.size + 1 := by rw [hwV]; simp
      have BA_w : Hid (Below w4.heap.size w4 wW) := by rw [hwV]; exact b_w'.alloc b_w'.size _
      have HV_w : Hid (VarC w4.heap.size w5.heap.size w4.heap.size w5.heap.size (Z) (Q) a_w c_w wW) := by rw [hwV]; exact varC_new q_w' (Nat.le_refl _) b_w'.size
      have HBX_wW := hide (HBX_w4.out.on BA_w.out)
      clear HBX_w4 q_w' b_w' HTC HTJ BA_w
      obtain ⟨c0, c1⟩ := HBX_wW.out.cells
      rw [hwV] at c0 c1
      go_upto_region 9 with fail
      rw [← hwV]
      rw [← hwV] at c0 c1
      clear hwV
      go_wp2_with fail
      refine (toChip_any n0 a0 q0.length cap0 q0 wW (HSQ.out.later HBX_wW.out.below (Nat.le_refl _)) HBX_wW.out.below.size hfit).mono ?_
      rintro e w6 ⟨a_x, rfl, ox, bx⟩
      clear c0 c1
      obtain ⟨wX, hwX⟩ : ∃ wX, wX = w6.alloc (.cells #[.int .i64 n0, .slice a_x q0.length q0.length] 36) := ⟨_, rfl⟩
      have hzX : wX.heap.size = w6.heap.size + 1 := by rw [hwX]; simp
      have HBXX : Hid (Below wW.heap.size wW wX) := by rw [hwX]; exact bx.alloc bx.size _
      have hs6 := bx.size
      have HV_x : Hid (VarC wW.heap.size w6.heap.size wW.heap.size w6.heap.size n0 q0 a_x q0.length wX) := by rw [hwX]; exact varC_new ⟨Nat.le_refl _, .inr ox⟩ (Nat.le_refl _) bx.size
      clear ox bx
      have HBX_wX := hide (HBX_wW.out.on HBXX.out)
      clear HBX_wW
      have HN := hide (HV_w.out.on HBXX.out)
      clear HV_w
      have HV_w := HN
      clear HN
      go_upto_region 10 with fail
      rw [← hwX]
      clear hwX HBXX
      go_wp2_with fail
      refine (toJobS_any a1 len1 cap1 z1 wX (jobs_later HJS.out HBX_wX.out.below (Nat.le_refl _)) hlen1).mono ?_
      rintro e w7 ⟨a_j, rfl, oj, bj⟩
      have hs7 := bj.size
      have HXJ := hide oj
      have hj7 := oj.2.1
      have HBX_w7 := hide (HBX_wX.out.on bj)
      clear HBX_wX
      have HN := hide (HV_w.out.on bj)
      clear HV_w
      have HV_w := HN
      clear HN
      have HN := hide (HV_x.out.on bj)
      clear HV_x
      have HV_x := HN
      clear HN
      clear oj bj
      obtain ⟨y0, y1⟩ := HV_x.out.cells
      go_wp2_with fail
      refine ((HID w7 a_x _ _ a_j _ _).out HV_x.out.squares HV_x.out.hi_le (jobs_of_own HXJ.out) HXJ.out.2.1).mono ?_
      rintro e w8 ⟨v, rfl, a_g, c_g, rfl, q_g', b_g'⟩
      have hs_g := b_g'.size
      obtain ⟨wG, hwV⟩ : ∃ wG, wG = w8.alloc (.cells #[.int .i64 (Z), .slice a_g (Q).length c_g] 36) := ⟨_, rfl⟩
      have hz_g : wG.heap.size = w8.heap.size + 1 := by rw [hwV]; simp
      have BA_g : Hid (Below w7.heap.size w7 wG) := by rw [hwV]; exact b_g'.alloc b_g'.size _
      have HV_g : Hid (VarC w7.heap.size w8.heap.size w7.heap.size w8.heap.size (Z) (Q) a_g c_g wG) := by rw [hwV]; exact varC_new q_g' (Nat.le_refl _) b_g'.size
      clear y0 y1
      have HBX_wG := hide (HBX_w7.out.on BA_g.out)
      clear HBX_w7
      have HN := hide (HV_w.out.on BA_g.out)
      clear HV_w
      have HV_w := HN
      clear HN
      have HN := hide (HV_x.out.on BA_g.out)
      clear HV_x
      have HV_x := HN
      clear HN
      have HN := hide (own_jobs_later HXJ.out BA_g.out HXJ.out.2.1)
      clear HXJ
      have HXJ := HN
      clear HN
      clear q_g' b_g' BA_g
      go_upto_region 12 with fail
      rw [← hwV]
      clear hwV
      obtain ⟨y0, y1⟩ := HV_g.out.cells
      obtain ⟨y2, y3⟩ := HV_w.out.cells
      go_wp2_with fail
      refine (eqChip_same (Z) a_g a_w _ c_g c_w (Q) wG HV_g.out.squares HV_w.out.squares HV_g.out.hi_le HV_w.out.hi_le hfit2).mono ?_
      rintro e w9 ⟨rfl, bn⟩
      clear y0 y1 y2 y3
      have HBX_w9 := hide (HBX_wG.out.on bn)
      clear HBX_wG
      have HN := hide (HV_w.out.on bn)
      clear HV_w
      have HV_w := HN
      clear HN
      have HN := hide (HV_g.out.on bn)
      clear HV_g
      have HV_g := HN
      clear HN
      have HN := hide (HV_x.out.on bn)
      clear HV_x
      have HV_x := HN
      clear HN
      have HN := hide (own_jobs_later HXJ.out bn HXJ.out.2.1)
      clear HXJ
      have HXJ := HN
      clear HN
      have hs9 := bn.size
      clear bn
      obtain ⟨c0, c1⟩ := HBX_w9.out.cells
      obtain ⟨x0', x1'⟩ := HV_x.out.cells
      have HVd : Hid (VarC _ _ _ _ _ _ _ _ w9.drew) := HV_x.out.on (Below.refl w9.heap.size w9).drew
      go_upto_region 14 with fail
      go_cut [58] (fun c wx => c = .bool false ∧ Below w9.heap.size w9 wx)
      case first =>
        go_region_with (first
          | (go_at_call 14; refine (toChip_any n0 a0 q0.length cap0 q0 _ (by exact HSQ.out.later (HBX_w9.out.below.drew) (Nat.le_refl _)) (by exact HBX_w9.out.below.size) hfit).mono ?_; rintro e v6 ⟨a6, rfl, o6, b6⟩; have HX6 := hide (HVd.out.on b6); have HB6 := hide (below_here (Below.refl w9.heap.size w9).drew b6); have HO6 := hide o6; clear o6 b6; obtain ⟨e0, e1⟩ := HX6.out.cells)
          | (go_at_call 16; refine (eqChip_same n0 a_x a6 q0.length q0.length q0.length q0 _ (by exact HX6.out.squares) (by exact HO6.out.squares) (by exact HX6.out.hi_le) (by omega) hfit).mono ?_; rintro e v7 ⟨rfl, b7⟩; have HB7 := hide (below_here HB6.out b7); clear b7))
        all_goals
          go_wp2_with fail
          go_meet
          exact ⟨rfl, HB7.out⟩
      clear c0 c1 x0' x1' HVd
      obtain ⟨rfl, hB⟩ := hcut
      have HB_c := hide hB
      clear hB
      obtain ⟨w10, hn⟩ : ∃ w10, w10 = wc := ⟨_, rfl⟩
      subst hn
      have hs10 := HB_c.out.size
      have HBX_w10 := hide (HBX_w9.out.on HB_c.out)
      clear HBX_w9
      have HN := hide (HV_w.out.on HB_c.out)
      clear HV_w
      have HV_w := HN
      clear HN
      have HN := hide (HV_g.out.on HB_c.out)
      clear HV_g
      have HV_g := HN
      clear HN
      have HN := hide (HV_x.out.on HB_c.out)
      clear HV_x
      have HV_x := HN
      clear HN
      have HN := hide (own_jobs_later HXJ.out HB_c.out HXJ.out.2.1)
      clear HXJ
      have HXJ := HN
      clear HN
      clear HB_c
      go_wp2_with fail
      refine (toJobS_any a1 len1 cap1 z1 w10 (jobs_later HJS.out HBX_w10.out.below (Nat.le_refl _)) hlen1).mono ?_
      rintro e w11 ⟨a_k, rfl, ok, bk⟩
      have HOK := hide ok
      have hs11 := bk.size
      have HBX_w11 := hide (HBX_w10.out.on bk)
      clear HBX_w10
      have HN := hide (HV_w.out.on bk)
      clear HV_w
      have HV_w := HN
      clear HN
      have HN := hide (HV_g.out.on bk)
      clear HV_g
      have HV_g := HN
      clear HN
      have HN := hide (HV_x.out.on bk)
      clear HV_x
      have HV_x := HN
      clear HN
      have HN := hide (own_jobs_later HXJ.out bk HXJ.out.2.1)
      clear HXJ
      have HXJ := HN
      clear HN
      clear ok bk
      go_wp2_with fail
      refine (eqJobS_same a_j a_k len1 len1 len1 z1 w11 (jobs_of_own HXJ.out) (jobs_of_own HOK.out) hlen1).mono ?_
      rintro e w12 ⟨rfl, bn⟩
      have hs12 := bn.size
      have HBX_w12 := hide (HBX_w11.out.on bn)
      clear HBX_w11
      have HN := hide (HV_w.out.on bn)
      clear HV_w
      have HV_w := HN
      clear HN
      have HN := hide (HV_g.out.on bn)
      clear HV_g
      have HV_g := HN
      clear HN
      have HN := hide (HV_x.out.on bn)
      clear HV_x
      have HV_x := HN
      clear HN
      have HN := hide (own_jobs_later HXJ.out bn HXJ.out.2.1)
      clear HXJ
      have HXJ := HN
      clear HN
      clear bn HOK
      have hx1 := HV_x.out.lt
      have hx2 := HV_x.out.hi_le
      have hg2 := HV_g.out.atL
      have hzw := HBX_w12.out.size
      have hj1 := HXJ.out.2.1
      obtain ⟨y0, y1⟩ := HV_x.out.cells
      go_wp2_with fail
      refine (markChip_ans _ a_x _ q0.length _ w12 HV_x.out.ans hfit).mono ?_
      rintro e w13 ⟨rfl, hm, sm⟩
      clear y0 y1
      have HBX_w13 := hide (HBX_w12.out.aside sm (by have := HV_x.out.atL; omega))
      clear HBX_w12
      have HVM_x : Hid (w13.heap[w6.heap.size]? = some (.cells #[.int .i64 n0, .slice a_x (q0).length q0.length] 36)) := (sm.block w6.heap.size HV_x.out.lt HV_x.out.apart).trans HV_x.out.var
      have HM_x := hide hm
      have hsm_x := sm.size
      clear hm
      obtain ⟨t1, ht⟩ : ∃ t1, t1 = 1 + lens (q0) + 2 * (q0).length := ⟨_, rfl⟩
      have HT_t1 := hide ht
      rw [← ht]
      have ht0_t1 : decide ((t1 : Int) < 0) = false := by simp
      have ht1_t1 : t1 ≤ 4194304 := by have := lens_weight (q0); omega
      clear ht
      have HN := hide (HV_w.out.aside sm (by omega) (.inr (by omega)))
      clear HV_w
      have HV_w := HN
      clear HN
      have HN := hide (HV_g.out.aside sm (by omega) (.inl (by omega)))
      clear HV_g
      have HV_g := HN
      clear HN
      have HN := hide (own_jobs_aside HXJ.out sm (.inr (by omega)))
      clear HXJ
      have HXJ := HN
      clear HN
      have ht2 : t1 + 3 * len1 ≤ 4194304 := by have := HT_t1.out; have := lens_weight q0; omega
      have ht3 : 1 ≤ t1 := by have := HT_t1.out; omega
      clear sm
      go_wp2_with fail
      refine (markJobS_any a_j len1 len1 z1 t1 w13 HXJ.out hlen1 ht3 ht2).mono ?_
      rintro e w14 ⟨rfl, sm⟩
      have hs14 := sm.size
      have HBX_w14 := hide (HBX_w13.out.aside sm (by omega))
      clear HBX_w13
      have HN := hide (HV_w.out.aside sm (by omega) (.inr (by omega)))
      clear HV_w
      have HV_w := HN
      clear HN
      have HN := hide (HV_g.out.aside sm (by omega) (.inl (by omega)))
      clear HV_g
      have HV_g := HN
      clear HN
      clear sm HXJ
      obtain ⟨t3, ht4⟩ : ∃ t3, t3 = t1 + 3 * len1 := ⟨_, rfl⟩
      rw [← ht4] at ht2 ⊢
      have ht5 : decide ((t3 : Int) < 0) = false := by simp
      clear ht4
      obtain ⟨y0, y1⟩ := HV_g.out.cells
      obtain ⟨y2, y3⟩ := HV_w.out.cells
      go_wp2_with fail
      refine (eqChip_same (Z) a_g a_w _ c_g c_w (Q) w14 HV_g.out.squares HV_w.out.squares HV_g.out.hi_le HV_w.out.hi_le hfit2).mono ?_
      rintro e w15 ⟨rfl, bn⟩
      clear y0 y1 y2 y3
      have HBX_w15 := hide (HBX_w14.out.on bn)
      clear HBX_w14
      have HN := hide (HV_w.out.on bn)
      clear HV_w
      have HV_w := HN
      clear HN
      have HN := hide (HV_g.out.on bn)
      clear HV_g
      have HV_g := HN
      clear HN
      have hs15 := bn.size
      clear bn
      obtain ⟨y0, y1⟩ := HV_g.out.cells
      go_wp2_with fail
      refine (markChip_ans _ a_g _ c_g _ w15 HV_g.out.ans hfit2).mono ?_
      rintro e w16 ⟨rfl, hm, sm⟩
      clear y0 y1
      have HBX_w16 := hide (HBX_w15.out.aside sm (by have := HV_g.out.atL; omega))
      clear HBX_w15
      have HVM_g : Hid (w16.heap[w8.heap.size]? = some (.cells #[.int .i64 Z, .slice a_g (Q).length c_g] 36)) := (sm.block w8.heap.size HV_g.out.lt HV_g.out.apart).trans HV_g.out.var
      have HM_g := hide hm
      have hsm_g := sm.size
      clear hm
      obtain ⟨t2, ht⟩ : ∃ t2, t2 = 1 + lens (Q) + 2 * (Q).length := ⟨_, rfl⟩
      have HT_t2 := hide ht
      rw [← ht]
      have ht0_t2 : decide ((t2 : Int) < 0) = false := by simp
      have ht1_t2 : t2 ≤ 4194304 := by have := lens_weight (Q); omega
      clear ht
      have HN := hide (HV_w.out.aside sm (by omega) (.inr (by omega)))
      clear HV_w
      have HV_w := HN
      clear HN
      clear sm
      obtain ⟨y0, y1⟩ := two_cells HVM_g.out
      go_wp2_with fail
      refine (heldChip_any Z a_g _ c_g Q w16 HM_g.out.squares HM_g.out.1 hfit2).mono ?_
      rintro e w17 ⟨rfl, bn⟩
      clear y0 y1
      rw [← HT_t2.out]
      have HBX_w17 := hide (HBX_w16.out.on bn)
      clear HBX_w16
      have HN := hide (HV_w.out.on bn)
      clear HV_w
      have HV_w := HN
      clear HN
      have HN := hide (block_on HVM_g.out bn)
      clear HVM_g
      have HVM_g := HN
      clear HN
      have HN := hide (HM_g.out.later bn HM_g.out.1)
      clear HM_g
      have HM_g := HN
      clear HN
      have hs17 := bn.size
      clear bn
      obtain ⟨c0, c1⟩ := HBX_w17.out.cells
      go_wp2_with fail
      refine (toChip_any n0 a0 q0.length cap0 q0 w17 (HSQ.out.later HBX_w17.out.below (Nat.le_refl _)) HBX_w17.out.below.size hfit).mono ?_
      rintro e w18 ⟨at_, rfl, ot, bt⟩
      clear c0 c1
      have hst := bt.size
      have HTT := hide ot
      have HBX_w18 := hide (HBX_w17.out.on bt)
      have HN := hide (HV_w.out.on bt)
      clear HV_w
      have HV_w := HN
      clear HN
      have HN := hide (block_on HVM_g.out bt)
      clear HVM_g
      have HVM_g := HN
      clear HN
      have HN := hide (HM_g.out.later bt HM_g.out.1)
      clear HM_g
      have HM_g := HN
      clear HN
      clear ot bt HBX_w17
      go_wp2_with fail
      refine (toJobS_any a1 len1 cap1 z1 w18 (jobs_later HJS.out HBX_w18.out.below (Nat.le_refl _)) hlen1).mono ?_
      rintro e w19 ⟨aj_, rfl, oj, bj⟩
      have hsj := bj.size
      have HTJ := hide oj
      have HTC := hide (HTT.out.later bj (Nat.le_refl _))
      have HBX_w19 := hide (HBX_w18.out.on bj)
      have HN := hide (HV_w.out.on bj)
      clear HV_w
      have HV_w := HN
      clear HN
      have HN := hide (block_on HVM_g.out bj)
      clear HVM_g
      have HVM_g := HN
      clear HN
      have HN := hide (HM_g.out.later bj HM_g.out.1)
      clear HM_g
      have HM_g := HN
      clear HN
      clear oj bj HTT HBX_w18
      go_wp2_with fail
      refine ((HID w19 at_ _ _ aj_ _ _).out HTC.out.squares (by omega) (jobs_of_own HTJ.out) HTJ.out.2.1).mono ?_
      rintro e w20 ⟨v, rfl, a_h, c_h, rfl, q_h', b_h'⟩
      have hs_h := b_h'.size
      obtain ⟨wH, hwV⟩ : ∃ wH, wH = w20.alloc (.cells #[.int .i64 (Z), .slice a_h (Q).length c_h] 36) := ⟨_, rfl⟩
      have hz_h : wH.heap.size = w20.heap.size + 1 := by rw [hwV]; simp
      have BA_h : Hid (Below w19.heap.size w19 wH) := by rw [hwV]; exact b_h'.alloc b_h'.size _
      have HV_h : Hid (VarC w19.heap.size w20.heap.size w19.heap.size w20.heap.size (Z) (Q) a_h c_h wH) := by rw [hwV]; exact varC_new q_h' (Nat.le_refl _) b_h'.size
      have HBX_wH := hide (HBX_w19.out.on BA_h.out)
      clear HBX_w19
      have HN := hide (HV_w.out.on BA_h.out)
      clear HV_w
      have HV_w := HN
      clear HN
      have HN := hide (block_on HVM_g.out BA_h.out)
      clear HVM_g
      have HVM_g := HN
      clear HN
      have HN := hide (HM_g.out.later BA_h.out HM_g.out.1)
      clear HM_g
      have HM_g := HN
      clear HN
      clear q_h' b_h' HTC HTJ BA_h
      go_upto_region 32 with fail
      rw [← hwV]
      clear hwV
      obtain ⟨y0, y1⟩ := HV_h.out.cells
      obtain ⟨y2, y3⟩ := HV_w.out.cells
      go_wp2_with fail
      refine (eqChip_same (Z) a_h a_w _ c_h c_w (Q) wH HV_h.out.squares HV_w.out.squares HV_h.out.hi_le HV_w.out.hi_le hfit2).mono ?_
      rintro e w21 ⟨rfl, bn⟩
      clear y0 y1 y2 y3
      have HBX_w21 := hide (HBX_wH.out.on bn)
      clear HBX_wH
      have HN := hide (block_on HVM_g.out bn)
      clear HVM_g
      have HVM_g := HN
      clear HN
      have HN := hide (HM_g.out.later bn HM_g.out.1)
      clear HM_g
      have HM_g := HN
      clear HN
      clear bn
      obtain ⟨y0, y1⟩ := two_cells HVM_g.out
      go_wp2_with fail
      refine (heldChip_any Z a_g _ c_g Q w21 HM_g.out.squares HM_g.out.1 hfit2).mono ?_
      rintro e w22 ⟨rfl, bn⟩
      clear y0 y1
      rw [← HT_t2.out]
      have HBF := hide (HBX_w21.out.on bn)
      clear bn
      go_wp2_with fail
      go_ret
      exact ⟨rfl, HBF.out.below⟩
    · clear hr'
      go_wp2_with fail
      go_ret
      exact ⟨rfl, HBX_w2.out.below⟩
  · clear hr
    go_wp2_with fail
    go_ret
    exact ⟨rfl, HBX_w1.out.below⟩

/-! ### THE ROW's STEP: WRITTEN OUT: LEAVE IT -/
set_option maxRecDepth 100000 in
theorem lifted (os : Os) (started : os.Started) (H : Type) (enc : TypeId × Value → H) :
    ReturnsInHanded {} Try.checked os 7 .any (Rows.fnExactDidAllSpec.pre6 enc Try.prog Try.f7 Rows.fnExactDidAllRow.domain false) (Rows.fnExactDidAllSpec.post enc Try.prog Try.f7 false true false false) := by
  refine returnsInHanded_of_change (C := Try.checked) own started (by kernel_rfl) Try.func7
    (ChangeSpec.witness6 (enc := enc) (C := Try.checked) false ⟨#[], #[.agg #[.int .i64 0, .slice none 0 0], .slice none 0 0], []⟩ 8 (by kernel_rfl) (by kernel_rfl) (by kernel_rfl) (by kernel_rfl)) ?_
  intro W base args ds gs before hval0 hW hcnd _
  have hval : ∀ (j : Nat) t v, Try.f7.params[j]? = some t → args[j]? = some v → Value.okWide Try.prog W .any base t v := hval0
  have hW' := hW
  obtain ⟨p, q, hA0, hV, rfl, hfz, hnd⟩ := hW
  have hA : DataW.TrodAll enc Try.prog W 0 (fun _ => true) true Try.f7.params.toList args.toList ds p := hA0
  rw [Try.params7] at hA hval
  obtain ⟨v0, vs0, d0, ds0, p0, q0, hargs, rfl, rfl, h0, r0⟩ := trodAll_cons hA
  obtain ⟨v1, vs1, d1, ds1, p1, q1, rfl, rfl, rfl, h1, r1⟩ := trodAll_cons r0
  obtain ⟨rfl, rfl, rfl⟩ := trodAll_nil r1
  obtain rfl : args = #[v0, v1] := by cases args; simp_all
  obtain ⟨rfl, rfl⟩ := trodVars_none hV
  have kk0 := h0
  have lt0 : ∀ x ∈ p0, x.block < W.heap.size := by obtain ⟨m, hm⟩ := kk0; exact DataW.trod_lt m _ _ _ hm
  obtain ⟨n0, a0, len0, cap0, q0, rfl, w0⟩ := chip_read Try.underlying31 (by kernel_rfl) (by kernel_rfl) Try.underlying2 Try.underlying29 Try.underlying75 (by kernel_rfl) (by kernel_rfl) Try.underlying61 Try.underlying9 (by kernel_rfl) Try.underlying2 Try.underlying4 (hval 0 31 v0 rfl rfl) h0
  obtain ⟨a1, len1, cap1, rfl⟩ := okWide_slice Try.underlying51 (hval 1 51 v1 rfl rfl)
  have k1 := h1
  have lt1 : ∀ x ∈ p1, x.block < W.heap.size := by obtain ⟨m, hm⟩ := k1; exact DataW.trod_lt m _ _ _ hm
  obtain ⟨z1, w1⟩ := jobs_read Try.underlying51 Try.underlying45 (by kernel_rfl) (by kernel_rfl) Try.underlying2 Try.underlying2 Try.underlying9 h1
  clear hA0 hval0
  refine (walk n0 a0 len0 cap0 q0 a1 len1 cap1 z1 W w0 w1).mono fun e W' ⟨he, bel⟩ => ?_
  subst he
  exact ⟨_, rfl, _, _, _, [], _, [], hW', trodAll_mk1 (shut_bool Try.underlying4 _), (trodAll_cons_mk (Below.trod laidOut (by kernel_rfl) (of_decide_eq_true (by kernel_rfl)) kk0 bel lt0) (trodAll_cons_mk (Below.trod laidOut (by kernel_rfl) (of_decide_eq_true (by kernel_rfl)) k1 bel lt1) trodAll_mk0)), rfl, bel.frame _, fun h => by cases h⟩

theorem over : Rows.fnExactDidAllRow.holds Try.pinned (OpenSpec.ofChange Rows.fnExactDidAllSpec) :=
  OpenClaim.holds_of_wide 7 Try.f7 rfl rfl rfl rfl rfl rfl rfl ⟨rfl, rfl, rfl, rfl, rfl⟩ rfl rfl rfl rfl rfl (by kernel_rfl) Try.func7 (by kernel_rfl)
    (of_decide_eq_true (by kernel_rfl)) (by unfold Func.isWrapper; first | (rw [if_pos (by decide +kernel)]; kernel_rfl) | (rw [if_neg (by decide +kernel)]; exact ⟨rfl, rfl⟩))
    (fun os started H enc _ => lifted os started H enc)

/-- ████ THE STATEMENT ████ -/
theorem proved : Rows.FnExactDidAllSaid := over
#print axioms proved
end Go.Proofs.Ytceidhlcbbikcal.fnExactDidAll
