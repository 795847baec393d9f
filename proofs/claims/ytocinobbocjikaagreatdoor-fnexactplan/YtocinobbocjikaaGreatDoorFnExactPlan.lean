/- For every Ftl and every Page the law FnExactPlan returns true and leaves its arguments as they were; the package-level variables that its row lists read as they are laid. -/
import Derived.Test.YtocinobbocjikaaGreatDoorRows
import Derived.Test.YtocinobbocjikaaGreatDoorRChipOwn2
import Derived.Test.YtocinobbocjikaaGreatDoorRFtlWalk
import Derived.Test.YtocinobbocjikaaGreatDoorRPageBase
import Derived.Test.YtocinobbocjikaaGreatDoorRChipJob
import Derived.Test.YtocinobbocjikaaGreatDoorRFtlOwnP
import Derived.Test.YtocinobbocjikaaGreatDoorRPlanTop
import Derived.Test.YtocinobbocjikaaGreatDoorRLyLaid
import Derived.Deep.RegionWith
import Derived.Deep.DeepCutAuto
import Derived.Deep.RegionHeld3
import Derived.WalkKit
import Derived.ProofKit
import Derived.OpenShut
import Derived.ShutString
import Derived.ChangeOld
import Derived.Below
namespace Go.Proofs.YtocinobbocjikaaGreatDoor.fnExactPlan
open Go.ChangeShapes Go.WideShapes Go.ChangeAt Go.RowKit
open Go.ChangeMaps (open_string shut_string)
set_option linter.unusedVariables false

theorem own : ownKnob Tryz.prog.godebug = none := by kernel_rfl
theorem laidOut : laidOutB Tryz.prog = true := by kernel_rfl

theorem cell_lt {w : World} {b o : Nat} {v : Value} (h : w.cell? ⟨b, o, none⟩ = some v) : b < w.heap.size := by
  rcases Nat.lt_or_ge b w.heap.size with hc | hc
  · exact hc
  · unfold World.cell? at h
    have : w.heap[b]? = none := Array.getElem?_eq_none_iff.2 (by omega)
    simp [this] at h
theorem jobs_of_own {lo hi n : Nat} {w : World} {a : Option Addr} {js : List Jb} (h : OwnJobs lo hi w a n js) : Jobs lo hi w a n js := ⟨h.1, h.2.reads⟩
theorem own_jobs_later {lo hi n B : Nat} {w w' : World} {a : Option Addr} {js : List Jb} (h : OwnJobs lo hi w a n js) (hb : Below B w w') (hB : hi ≤ B) : OwnJobs lo hi w' a n js := ⟨h.1, h.2.later hb hB⟩
theorem own_jobs_aside {lo hi n l r : Nat} {w w' : World} {a : Option Addr} {js : List Jb} (h : OwnJobs lo hi w a n js) (hb : Aside l r w w') (hB : hi ≤ l ∨ r ≤ lo) : OwnJobs lo hi w' a n js := ⟨h.1, h.2.aside hb hB⟩
set_option maxHeartbeats 8000000 in
set_option maxRecDepth 100000 in

theorem walk (n0 : Int) (a0 : Option Addr) (len0 cap0 : Nat) (q0 : List Sq) (am0 : Option Addr) (lm0 cm0 : Nat) (z0 : List Pl) (o0 s0 : Int) (k1 a1 s1 : Int) (x1 : ByteArray) (w : World) (w0 : (Lit.int .i64 n0).wf = true ∧ Squares 0 w.heap.size w a0 len0 q0 ∧ (∀ x ∈ q0, sqFits x) ∧ len0 ≤ maxLen ∧ Places 0 w.heap.size w am0 lm0 z0 ∧ (∀ x ∈ z0, plFits x) ∧ lm0 ≤ maxLen ∧ (Lit.int .i64 o0).wf = true ∧ (Lit.int .i64 s0).wf = true) (w1 : (Lit.int .i64 k1).wf = true ∧ (Lit.int .i64 a1).wf = true ∧ (Lit.int .i64 s1).wf = true ∧ x1.size ≤ maxLen) (hT : Tab w) {aB aL aS aC aF : Addr} (E : Errs w aB aL aS aC aF) {aN : Addr} (hN : w.cell? ⟨0, 0, none⟩ = some (.iface 284 (.pointer (some aN)))) :
    Calls Tryz.prog 5 #[.agg #[.int .i64 n0, .slice a0 len0 cap0, .slice am0 lm0 cm0, .int .i64 o0, .int .i64 s0], .agg #[.int .i64 k1, .int .i64 a1, .int .i64 s1, .string x1]] w fun e w' => e = .returned (.bool true) ∧ Below w.heap.size w w' := by
  obtain ⟨_, hsq, hfi, hm, hpl, _, hml, _, _⟩ := w0
  obtain ⟨_, _, _, hx⟩ := w1
  obtain ⟨wA, hwA⟩ : ∃ wA, wA = (w.alloc (.cells #[.int .i64 n0, .slice a0 len0 cap0, .slice am0 lm0 cm0, .int .i64 o0, .int .i64 s0] 51)).alloc (.cells #[.int .i64 k1, .int .i64 a1, .int .i64 s1, .string x1] 52) := ⟨_, rfl⟩
  have hzA : wA.heap.size = w.heap.size + 1 + 1 := by rw [hwA]; simp
  have HBX_wA : Hid (BoxFP w n0 a0 len0 cap0 am0 lm0 cm0 o0 s0 k1 a1 s1 x1 wA) := by rw [hwA]; exact ⟨heap_old (heap_new _ _), heap_at (by simp), (((Below.refl _ _).alloc (Nat.le_refl _) _).alloc (by simp) _)⟩
  have HSQ := hide hsq
  have HPL := hide hpl
  have HF := hide hfi
  have HM := hide hm
  have HML := hide hml
  have HXM := hide hx
  have HT := hide hT
  have HE := hide E
  have hgN : 0 < w.heap.size := cell_lt hN
  have HN0 : ∀ w9, Hid (Below w.heap.size w w9 → w9.cell? ⟨0, 0, none⟩ = some (noRoomV aN)) := fun w9 h9 => (h9.cell (p := ⟨0, 0, none⟩) hgN).trans hN
  clear hsq hpl hfi hm hml hx hT E hN hgN
  obtain ⟨c0, c1, c2, c3, c4, p0, p1, p2, p3⟩ := HBX_wA.out.cells
  go_enter Tryz.func5, Tryz.ntmps5
  go_upto_region 1 with fail
  rw [← hwA]
  clear hwA
  go_wp2_with fail
  refine (szFtl_any n0 a0 len0 cap0 q0 am0 lm0 cm0 o0 s0 1048576 wA (HSQ.out.later HBX_wA.out.below (Nat.le_refl _)) (by omega) HM.out HF.out HML.out (by omega) (by omega)).mono ?_
  rintro e w1 ⟨⟨r, rfl, r1, r2, hr⟩, b1⟩
  have HBX_w1 := hide (HBX_wA.out.on b1)
  clear b1 HBX_wA c0 c1 c2 c3 c4 p0 p1 p2 p3
  by_cases h0 : 0 ≤ r
  · have hfit : len0 + weight q0 ≤ 1048576 := by have := hr h0; omega
    have hfm : lm0 ≤ 1048576 := by have := hr h0; omega
    clear hr
    obtain ⟨c0, c1, c2, c3, c4, p0, p1, p2, p3⟩ := HBX_w1.out.cells
    by_cases hxr : (x1.size : Int) ≤ r
    · have hd : decide (r - (x1.size : Int) < 0) = false := by simp; omega
      go_wp2_with fail
      refine (szPage_in k1 a1 s1 x1 r w1 hxr (by omega)).mono ?_
      rintro e w2 ⟨rfl, b2⟩
      have HBX_w2 := hide (HBX_w1.out.on b2)
      clear b2 HBX_w1 c0 c1 c2 c3 c4 p0 p1 p2 p3
      have HSD : ∀ w9 a9 am9 lo hi lo' hi', Hid (Below w.heap.size w w9 → Squares lo hi w9 a9 len0 q0 → hi ≤ w9.heap.size → Places lo' hi' w9 am9 lm0 z0 → hi' ≤ w9.heap.size → Calls Tryz.prog 23 #[.agg #[.int .i64 n0, .slice a9 len0 len0, .slice am9 lm0 lm0, .int .i64 o0, .int .i64 s0], .agg #[.int .i64 k1, .int .i64 a1, .int .i64 s1, .string x1]] w9 fun e w' => ∃ aj cj, e = .returned (.tuple #[.slice aj (jobsOf (planR n0 q0 z0 o0 s0 k1 a1 x1)).length cj, .bool (planR n0 q0 z0 o0 s0 k1 a1 x1).isSome]) ∧ OwnJobs w9.heap.size w'.heap.size w' aj (jobsOf (planR n0 q0 z0 o0 s0 k1 a1 x1)).length (jobsOf (planR n0 q0 z0 o0 s0 k1 a1 x1)) ∧ Below w9.heap.size w9 w') := fun w9 a9 am9 lo hi lo' hi' hb h9 hh h8 hh8 => by
        refine (specPlan_any n0 a9 len0 len0 q0 am9 lm0 lm0 z0 o0 s0 k1 a1 s1 x1 w9 h9 hh (by omega) HF.out h8 hh8 hfm).mono ?_
        rintro e w' ⟨aj, cj, h1, h2, h3⟩
        exact ⟨aj, cj, h1, jb_jobs h2, h3⟩
      have HID : ∀ w9 a9 am9 lo hi lo' hi', Hid (Below w.heap.size w w9 → Squares lo hi w9 a9 len0 q0 → hi ≤ w9.heap.size → Places lo' hi' w9 am9 lm0 z0 → hi' ≤ w9.heap.size → Calls Tryz.prog 26 #[.agg #[.int .i64 n0, .slice a9 len0 len0, .slice am9 lm0 lm0, .int .i64 o0, .int .i64 s0], .agg #[.int .i64 k1, .int .i64 a1, .int .i64 s1, .string x1]] w9 fun e w' => ∃ aj cj, e = .returned (.tuple #[.slice aj (jobsOf (planR n0 q0 z0 o0 s0 k1 a1 x1)).length cj, .bool (planR n0 q0 z0 o0 s0 k1 a1 x1).isSome]) ∧ OwnJobs w9.heap.size w'.heap.size w' aj (jobsOf (planR n0 q0 z0 o0 s0 k1 a1 x1)).length (jobsOf (planR n0 q0 z0 o0 s0 k1 a1 x1)) ∧ Below w9.heap.size w9 w') := fun w9 a9 am9 lo hi lo' hi' hb h9 hh h8 hh8 => by
        refine (implPlan_any n0 a9 len0 len0 q0 am9 lm0 lm0 z0 o0 s0 k1 a1 s1 x1 w9 h9 hh (by omega) HF.out h8 hh8 hfm (Nat.le_refl _) (HT.out.here hb) (HE.out.here hb) ((HN0 _).out hb)).mono ?_
        rintro e w' ⟨aj, cj, h1, h2, h3⟩
        exact ⟨aj, cj, h1, jb_jobs h2, h3⟩
      have hjl : (jobsOf (planR n0 q0 z0 o0 s0 k1 a1 x1)).length ≤ 20000 := jobsOf_len n0 q0 z0 o0 s0 k1 a1 x1
      generalize jobsOf (planR n0 q0 z0 o0 s0 k1 a1 x1) = J at *
      generalize (planR n0 q0 z0 o0 s0 k1 a1 x1).isSome = Bv at *
      have hz2 := HBX_w2.out.size
      have HTC : ∀ w9, Hid (Below w2.heap.size w2 w9 → Calls Tryz.prog 24 #[.agg #[.int .i64 n0, .slice a0 len0 cap0, .slice am0 lm0 cm0, .int .i64 o0, .int .i64 s0]] w9 fun e w' => ∃ a' am' mid, e = .returned (.agg #[.int .i64 n0, .slice a' len0 len0, .slice am' lm0 lm0, .int .i64 o0, .int .i64 s0]) ∧ w9.heap.size ≤ mid ∧ mid ≤ w'.heap.size ∧ OwnSquares w9.heap.size mid w' a' len0 q0 ∧ OwnPlaces mid w'.heap.size w' am' lm0 z0 ∧ Below w9.heap.size w9 w') := fun w9 h9 => toFtl_any n0 a0 len0 cap0 q0 am0 lm0 cm0 z0 o0 s0 w9 (HSQ.out.later (below_here HBX_w2.out.below h9) (Nat.le_refl _)) (below_here HBX_w2.out.below h9).size hfit (HPL.out.later (below_here HBX_w2.out.below h9) (Nat.le_refl _)) (below_here HBX_w2.out.below h9).size hfm
      have P0 : Below w2.heap.size w2 w2 := Below.refl _ _
      have P1 : Below w2.heap.size w2 w2.drew := (Below.refl _ _).drew
      have HK : ∀ w9, Hid (Below w2.heap.size w2 w9 → w9.cell? ⟨w.heap.size, 0, none⟩ = some (.int .i64 n0) ∧ w9.cell? ⟨w.heap.size, 1, none⟩ = some (.slice a0 len0 cap0) ∧ w9.cell? ⟨w.heap.size, 2, none⟩ = some (.slice am0 lm0 cm0) ∧ w9.cell? ⟨w.heap.size, 3, none⟩ = some (.int .i64 o0) ∧ w9.cell? ⟨w.heap.size, 4, none⟩ = some (.int .i64 s0) ∧ w9.cell? ⟨w.heap.size + 1, 0, none⟩ = some (.int .i64 k1) ∧ w9.cell? ⟨w.heap.size + 1, 1, none⟩ = some (.int .i64 a1) ∧ w9.cell? ⟨w.heap.size + 1, 2, none⟩ = some (.int .i64 s1) ∧ w9.cell? ⟨w.heap.size + 1, 3, none⟩ = some (.string x1)) := fun w9 h9 => (HBX_w2.out.on h9).cells
      obtain ⟨c0, c1, c2, c3, c4, p0, p1, p2, p3⟩ := HBX_w2.out.cells
      go_upto_region 8 with fail
      go_cut [6, 7] (fun p d wx => ∃ aj cj lo hi, p = .slice aj J.length cj ∧ d = .bool Bv ∧ w2.heap.size ≤ lo ∧ OwnJobs lo hi wx aj J.length J ∧ Below w2.heap.size w2 wx)
      case first =>
        go_region_held3 (fun w9 => w9.cell? ⟨w.heap.size, 0, none⟩ = some (.int .i64 n0) ∧ w9.cell? ⟨w.heap.size, 1, none⟩ = some (.slice a0 len0 cap0) ∧ w9.cell? ⟨w.heap.size, 2, none⟩ = some (.slice am0 lm0 cm0) ∧ w9.cell? ⟨w.heap.size, 3, none⟩ = some (.int .i64 o0) ∧ w9.cell? ⟨w.heap.size, 4, none⟩ = some (.int .i64 s0) ∧ w9.cell? ⟨w.heap.size + 1, 0, none⟩ = some (.int .i64 k1) ∧ w9.cell? ⟨w.heap.size + 1, 1, none⟩ = some (.int .i64 a1) ∧ w9.cell? ⟨w.heap.size + 1, 2, none⟩ = some (.int .i64 s1) ∧ w9.cell? ⟨w.heap.size + 1, 3, none⟩ = some (.string x1))
          (first | exact (HK _).out P0 | exact (HK _).out P1 | exact (HK _).out B2.out | exact (HK _).out B3.out | exact (HK _).out B4.out | fail)
          (first
          | (go_at_call 24; refine ((HTC _).out P1).mono ?_; rintro e v2 ⟨a2, am2, mid2, rfl, m1, m2, o2, p2', b2⟩; have B2 : Hid (Below w2.heap.size w2 v2) := below_here P1 b2; have O2 := hide o2; have Q2 := hide p2'; have S2 := B2.out.size; clear b2 o2 p2')
          | (go_at_call 25; refine (toPage_any k1 a1 s1 x1 _).mono ?_; rintro e v3 ⟨rfl, b3⟩; have B3 : Hid (Below w2.heap.size w2 v3) := below_here B2.out b3; have O3 := hide (O2.out.later b3 m2); have Q3 := hide (Q2.out.later b3 (Nat.le_refl _)); have S3 := b3.size; clear b3)
          | (go_at_call 23; refine ((HSD _ a2 am2 _ _ _ _).out (below_here HBX_w2.out.below B3.out) O3.out.squares (by omega) Q3.out.places (by omega)).mono ?_; rintro e v4 ⟨aj, cj, rfl, q4, b4⟩; have B4 : Hid (Below w2.heap.size w2 v4) := below_here B3.out b4; have Q4 := hide q4; have S4 := b4.size; clear b4 q4))
        all_goals
          go_wp2_with fail
          go_meet
          exact ⟨aj, cj, _, _, rfl, rfl, by omega, Q4.out, B4.out⟩
      clear c0 c1 c2 c3 c4 p0 p1 p2 p3 HTC HK P0 P1
      obtain ⟨a_w, c_w, l_w, h_w, rfl, rfl, hl_w, hj, hB⟩ := hcut
      have HJW := hide hj
      have HB := hide hB
      clear hj hB
      obtain ⟨w3, hn⟩ : ∃ w3, w3 = wc := ⟨_, rfl⟩
      subst hn
      have hs_w3 := HB.out.size
      have HBX_w3 := hide (HBX_w2.out.on HB.out)
      clear HBX_w2
      clear HB
      have hhw := HJW.out.2.1
      obtain ⟨c0, c1, c2, c3, c4, p0, p1, p2, p3⟩ := HBX_w3.out.cells
      go_wp2_with fail
      refine (toFtl_any n0 a0 len0 cap0 q0 am0 lm0 cm0 z0 o0 s0 w3 (HSQ.out.later HBX_w3.out.below (Nat.le_refl _)) HBX_w3.out.below.size hfit (HPL.out.later HBX_w3.out.below (Nat.le_refl _)) HBX_w3.out.below.size hfm).mono ?_
      rintro e w4 ⟨a4, am4, mid4, rfl, m1, m2, o4, p4, b4⟩
      clear c0 c1 c2 c3 c4 p0 p1 p2 p3
      obtain ⟨wX, hwX⟩ : ∃ wX, wX = w4.alloc (.cells #[.int .i64 n0, .slice a4 len0 len0, .slice am4 lm0 lm0, .int .i64 o0, .int .i64 s0] 29) := ⟨_, rfl⟩
      have hzX : wX.heap.size = w4.heap.size + 1 := by rw [hwX]; simp
      have HBXX : Hid (Below w3.heap.size w3 wX) := by rw [hwX]; exact b4.alloc b4.size _
      have HX : Hid (wX.heap[w4.heap.size]? = some (.cells #[.int .i64 n0, .slice a4 len0 len0, .slice am4 lm0 lm0, .int .i64 o0, .int .i64 s0] 29)) := by rw [hwX]; exact heap_new _ _
      have HX4 : Hid (Below w4.heap.size w4 wX) := by rw [hwX]; exact (Below.refl _ _).alloc (Nat.le_refl _) _
      have HXO := hide (o4.later HX4.out m2)
      have HXP := hide (p4.later HX4.out (Nat.le_refl _))
      have hs4 := b4.size
      clear o4 p4 b4 HX4
      have HBX_wX := hide (HBX_w3.out.on HBXX.out)
      clear HBX_w3
      have HN := hide (own_jobs_later HJW.out HBXX.out HJW.out.2.1)
      clear HJW
      have HJW := HN
      clear HN
      clear HBXX
      obtain ⟨c0, c1, c2, c3, c4, p0, p1, p2, p3⟩ := HBX_wX.out.cells
      obtain ⟨x0, x1', x2, x3, x4⟩ := five_cells HX.out
      have P0 : Below wX.heap.size wX wX := Below.refl _ _
      have P1 : Below wX.heap.size wX wX.drew := (Below.refl _ _).drew
      have HK : ∀ w9, Hid (Below wX.heap.size wX w9 → w9.cell? ⟨w4.heap.size, 0, none⟩ = some (.int .i64 n0) ∧ w9.cell? ⟨w4.heap.size, 1, none⟩ = some (.slice a4 len0 len0) ∧ w9.cell? ⟨w4.heap.size, 2, none⟩ = some (.slice am4 lm0 lm0) ∧ w9.cell? ⟨w4.heap.size, 3, none⟩ = some (.int .i64 o0) ∧ w9.cell? ⟨w4.heap.size, 4, none⟩ = some (.int .i64 s0) ∧ w9.cell? ⟨w.heap.size + 1, 0, none⟩ = some (.int .i64 k1) ∧ w9.cell? ⟨w.heap.size + 1, 1, none⟩ = some (.int .i64 a1) ∧ w9.cell? ⟨w.heap.size + 1, 2, none⟩ = some (.int .i64 s1) ∧ w9.cell? ⟨w.heap.size + 1, 3, none⟩ = some (.string x1)) := fun w9 h9 => by
        obtain ⟨y0, y1, y2, y3, y4⟩ := five_cells (block_on HX.out h9)
        obtain ⟨_, _, _, _, _, y5⟩ := (HBX_wX.out.on h9).cells
        exact ⟨y0, y1, y2, y3, y4, y5⟩
      have HXF := hide (own_of_to HXO.out HXP.out m1 m2 (by omega))
      have HZX := hide hzX
      have hz9 : w4.heap.size ≤ wX.heap.size := by omega
      clear hzX
      go_upto_region 10 with fail
      rw [← hwX]
      clear hwX
      go_cut [9, 10] (fun p d wx => ∃ aj cj lo hi, p = .slice aj J.length cj ∧ d = .bool Bv ∧ wX.heap.size ≤ lo ∧ OwnJobs lo hi wx aj J.length J ∧ Below wX.heap.size wX wx)
      case first =>
        go_region_held3 (fun w9 => w9.cell? ⟨w4.heap.size, 0, none⟩ = some (.int .i64 n0) ∧ w9.cell? ⟨w4.heap.size, 1, none⟩ = some (.slice a4 len0 len0) ∧ w9.cell? ⟨w4.heap.size, 2, none⟩ = some (.slice am4 lm0 lm0) ∧ w9.cell? ⟨w4.heap.size, 3, none⟩ = some (.int .i64 o0) ∧ w9.cell? ⟨w4.heap.size, 4, none⟩ = some (.int .i64 s0) ∧ w9.cell? ⟨w.heap.size + 1, 0, none⟩ = some (.int .i64 k1) ∧ w9.cell? ⟨w.heap.size + 1, 1, none⟩ = some (.int .i64 a1) ∧ w9.cell? ⟨w.heap.size + 1, 2, none⟩ = some (.int .i64 s1) ∧ w9.cell? ⟨w.heap.size + 1, 3, none⟩ = some (.string x1))
          (first | exact (HK _).out P0 | exact (HK _).out P1 | exact (HK _).out B3.out | exact (HK _).out B4.out | fail)
          (first
          | (go_at_call 25; refine (toPage_any k1 a1 s1 x1 _).mono ?_; rintro e v3 ⟨rfl, b3⟩; have B3 : Hid (Below wX.heap.size wX v3) := below_here P1 b3; have O3 := hide (HXO.out.later B3.out (by omega)); have Q3 := hide (HXP.out.later B3.out (by omega)); have S3 := B3.out.size; clear b3)
          | (go_at_call 26; refine ((HID _ a4 am4 _ _ _ _).out (below_here HBX_wX.out.below B3.out) O3.out.squares (by omega) Q3.out.places (by omega)).mono ?_; rintro e v4 ⟨aj, cj, rfl, q4, b4⟩; have B4 : Hid (Below wX.heap.size wX v4) := below_here B3.out b4; have Q4 := hide q4; have S4 := b4.size; clear b4 q4))
        all_goals
          go_wp2_with fail
          go_meet
          exact ⟨aj, cj, _, _, rfl, rfl, by omega, Q4.out, B4.out⟩
      clear c0 c1 c2 c3 c4 p0 p1 p2 p3 x0 x1' x2 x3 x4 HK P0 P1
      obtain ⟨a_g, c_g, l_g, h_g, rfl, rfl, hl_g, hj, hB⟩ := hcut
      have HJG := hide hj
      have HB := hide hB
      clear hj hB
      obtain ⟨w5, hn⟩ : ∃ w5, w5 = wc := ⟨_, rfl⟩
      subst hn
      have hs_w5 := HB.out.size
      have HBX_w5 := hide (HBX_wX.out.on HB.out)
      clear HBX_wX
      have HN := hide (own_jobs_later HJW.out HB.out HJW.out.2.1)
      clear HJW
      have HJW := HN
      clear HN
      have HN := hide (block_on HX.out HB.out)
      clear HX
      have HX := HN
      clear HN
      have HN := hide (HXO.out.later HB.out (by omega))
      clear HXO
      have HXO := HN
      clear HN
      have HN := hide (HXP.out.later HB.out (by omega))
      clear HXP
      have HXP := HN
      clear HN
      have HN := hide (HXF.out.later HB.out (by omega))
      clear HXF
      have HXF := HN
      clear HN
      clear HB
      have hhg := HJG.out.2.1
      have hzX := HZX.out
      go_wp2_with fail
      refine (eqJobS_same a_g a_w J.length c_g c_w J w5 (jobs_of_own HJG.out) (jobs_of_own HJW.out) (by omega)).mono ?_
      rintro e w6 ⟨rfl, bn⟩
      have hs_w6 := bn.size
      have HBX_w6 := hide (HBX_w5.out.on bn)
      clear HBX_w5
      have HN := hide (own_jobs_later HJW.out bn HJW.out.2.1)
      clear HJW
      have HJW := HN
      clear HN
      have HN := hide (own_jobs_later HJG.out bn HJG.out.2.1)
      clear HJG
      have HJG := HN
      clear HN
      have HN := hide (block_on HX.out bn)
      clear HX
      have HX := HN
      clear HN
      have HN := hide (HXO.out.later bn (by omega))
      clear HXO
      have HXO := HN
      clear HN
      have HN := hide (HXP.out.later bn (by omega))
      clear HXP
      have HXP := HN
      clear HN
      have HN := hide (HXF.out.later bn (by omega))
      clear HXF
      have HXF := HN
      clear HN
      clear bn
      obtain ⟨c0, c1, c2, c3, c4, p0, p1, p2, p3⟩ := HBX_w6.out.cells
      obtain ⟨d0, d1, d2, d3, d4⟩ := five_cells HX.out
      have HXOd := hide (HXO.out.later (Below.refl w6.heap.size w6).drew (by omega))
      have HXPd := hide (HXP.out.later (Below.refl w6.heap.size w6).drew (by omega))
      have HSd := hide (HSQ.out.later HBX_w6.out.below (Nat.le_refl _))
      have HPd := hide (HPL.out.later HBX_w6.out.below (Nat.le_refl _))
      have hw6 := HBX_w6.out.below.size
      go_upto_region 13 with fail
      go_cut [56] (fun c wx => c = .bool false ∧ Below w6.heap.size w6 wx)
      case first =>
        go_region_with (first
          | (go_at_call 24; refine (toFtl_any n0 a0 len0 cap0 q0 am0 lm0 cm0 z0 o0 s0 _ (by exact HSd.out) (by show w.heap.size ≤ w6.heap.size; omega) hfit (by exact HPd.out) (by show w.heap.size ≤ w6.heap.size; omega) hfm).mono ?_; rintro e v6 ⟨a6, am6, mid6, rfl, k3, k4, o6, p6, b6⟩; have HX6 := hide (block_on (w := w6.drew) HX.out b6); have HB6 : Hid (Below w6.heap.size w6 v6) := below_here (Below.refl w6.heap.size w6).drew b6; have HW6 := hide (HXOd.out.later b6 (by show mid4 ≤ w6.heap.size; omega)); have HQ6 := hide (HXPd.out.later b6 (by show w4.heap.size ≤ w6.heap.size; omega)); have HV6 := hide o6; have HU6 := hide p6; have hs6 : w6.heap.size ≤ v6.heap.size := b6.size; clear o6 p6 b6; obtain ⟨e0, e1, e2, e3, e4⟩ := five_cells HX6.out)
          | (go_at_call 28; refine (eqFtl_same n0 a4 a6 len0 len0 len0 q0 am4 am6 lm0 lm0 lm0 z0 o0 s0 _ (by exact HW6.out.squares) (by exact HV6.out.squares) (by omega) (by omega) hfit (by exact HQ6.out.places) (by exact HU6.out.places) (by omega) (by omega) hfm).mono ?_; rintro e v7 ⟨rfl, b7⟩; have HB7 := hide (below_here HB6.out b7); clear b7))
        all_goals
          go_wp2_with fail
          go_meet
          exact ⟨rfl, HB7.out⟩
      clear c0 c1 c2 c3 c4 p0 p1 p2 p3 d0 d1 d2 d3 d4 HXOd HXPd HSd HPd
      obtain ⟨rfl, hB⟩ := hcut
      have HB := hide hB
      clear hB
      obtain ⟨w7, hn⟩ : ∃ w7, w7 = wc := ⟨_, rfl⟩
      subst hn
      have hs_w7 := HB.out.size
      have HBX_w7 := hide (HBX_w6.out.on HB.out)
      clear HBX_w6
      have HN := hide (own_jobs_later HJW.out HB.out HJW.out.2.1)
      clear HJW
      have HJW := HN
      clear HN
      have HN := hide (own_jobs_later HJG.out HB.out HJG.out.2.1)
      clear HJG
      have HJG := HN
      clear HN
      have HN := hide (block_on HX.out HB.out)
      clear HX
      have HX := HN
      clear HN
      have HN := hide (HXO.out.later HB.out (by omega))
      clear HXO
      have HXO := HN
      clear HN
      have HN := hide (HXP.out.later HB.out (by omega))
      clear HXP
      have HXP := HN
      clear HN
      have HN := hide (HXF.out.later HB.out (by omega))
      clear HXF
      have HXF := HN
      clear HN
      clear HB
      obtain ⟨d0, d1, d2, d3, d4⟩ := five_cells HX.out
      have hq9 : q0.length = len0 := (HSQ.out.1)
      have hp9 : z0.length = lm0 := (HPL.out.1)
      go_wp2_with fail
      refine (markFtl_own n0 a4 len0 len0 q0 am4 lm0 lm0 z0 o0 s0 w7 HXF.out hq9 hp9 hfit hfm).mono ?_
      rintro e w8 ⟨rfl, _, sm⟩
      clear d0 d1 d2 d3 d4
      have hs_w8 := sm.size
      have hb9 := HBX_w7.out.size
      have HBX_w8 := hide (HBX_w7.out.aside sm (by omega))
      clear HBX_w7 HX HXO HXP HXF
      have HN := hide (own_jobs_aside HJW.out sm (.inl hhw))
      clear HJW
      have HJW := HN
      clear HN
      have HN := hide (own_jobs_aside HJG.out sm (.inr (by omega)))
      clear HJG
      have HJG := HN
      clear HN
      clear sm
      obtain ⟨t1, ht⟩ : ∃ t1, t1 = 1 + lens q0 + 2 * len0 + 2 * lm0 := ⟨_, rfl⟩
      rw [← ht]
      have ht0 : decide ((t1 : Int) < 0) = false := by simp
      clear ht
      go_wp2_with fail
      refine (eqJobS_same a_g a_w J.length c_g c_w J w8 (jobs_of_own HJG.out) (jobs_of_own HJW.out) (by omega)).mono ?_
      rintro e w9 ⟨rfl, bn⟩
      have hs_w9 := bn.size
      have HBX_w9 := hide (HBX_w8.out.on bn)
      clear HBX_w8
      have HN := hide (own_jobs_later HJW.out bn HJW.out.2.1)
      clear HJW
      have HJW := HN
      clear HN
      have HN := hide (own_jobs_later HJG.out bn HJG.out.2.1)
      clear HJG
      have HJG := HN
      clear HN
      clear bn
      go_wp2_with fail
      refine (markJobS_to a_g J.length c_g J 1 w9 HJG.out (by omega) (Nat.le_refl _) (by omega)).mono ?_
      rintro e w10 ⟨rfl, hjm, sm⟩
      have HJM := hide hjm
      have hs_w10 := sm.size
      have HBX_w10 := hide (HBX_w9.out.aside sm (by have := HBX_w9.out.size; omega))
      clear HBX_w9 HJG hjm
      have HN := hide (own_jobs_aside HJW.out sm (.inl (by omega)))
      clear HJW
      have HJW := HN
      clear HN
      clear sm
      obtain ⟨t2, ht⟩ : ∃ t2, t2 = 1 + 3 * J.length := ⟨_, rfl⟩
      have HT2 := hide ht
      rw [← ht]
      have ht2 : decide ((t2 : Int) < 0) = false := by simp
      clear ht
      go_wp2_with fail
      refine (heldJobS_any a_g J.length c_g 1 w10 (jobs_of_own HJM.out) HJM.out.2.1 (by omega) (Nat.le_refl _) (by omega)).mono ?_
      rintro e w11 ⟨rfl, bn⟩
      have hs_w11 := bn.size
      have HN := hide (own_jobs_later HJM.out bn HJM.out.2.1)
      clear HJM
      have HJM := HN
      clear HN
      have HBX_w11 := hide (HBX_w10.out.on bn)
      clear HBX_w10
      have HN := hide (own_jobs_later HJW.out bn HJW.out.2.1)
      clear HJW
      have HJW := HN
      clear HN
      clear bn
      rw [← HT2.out]
      have hz11 := HBX_w11.out.size
      have HTC : ∀ w9, Hid (Below w11.heap.size w11 w9 → Calls Tryz.prog 24 #[.agg #[.int .i64 n0, .slice a0 len0 cap0, .slice am0 lm0 cm0, .int .i64 o0, .int .i64 s0]] w9 fun e w' => ∃ a' am' mid, e = .returned (.agg #[.int .i64 n0, .slice a' len0 len0, .slice am' lm0 lm0, .int .i64 o0, .int .i64 s0]) ∧ w9.heap.size ≤ mid ∧ mid ≤ w'.heap.size ∧ OwnSquares w9.heap.size mid w' a' len0 q0 ∧ OwnPlaces mid w'.heap.size w' am' lm0 z0 ∧ Below w9.heap.size w9 w') := fun w9 h9 => toFtl_any n0 a0 len0 cap0 q0 am0 lm0 cm0 z0 o0 s0 w9 (HSQ.out.later (below_here HBX_w11.out.below h9) (Nat.le_refl _)) (below_here HBX_w11.out.below h9).size hfit (HPL.out.later (below_here HBX_w11.out.below h9) (Nat.le_refl _)) (below_here HBX_w11.out.below h9).size hfm
      have P0 : Below w11.heap.size w11 w11 := Below.refl _ _
      have P1 : Below w11.heap.size w11 w11.drew := (Below.refl _ _).drew
      have HK : ∀ w9, Hid (Below w11.heap.size w11 w9 → w9.cell? ⟨w.heap.size, 0, none⟩ = some (.int .i64 n0) ∧ w9.cell? ⟨w.heap.size, 1, none⟩ = some (.slice a0 len0 cap0) ∧ w9.cell? ⟨w.heap.size, 2, none⟩ = some (.slice am0 lm0 cm0) ∧ w9.cell? ⟨w.heap.size, 3, none⟩ = some (.int .i64 o0) ∧ w9.cell? ⟨w.heap.size, 4, none⟩ = some (.int .i64 s0) ∧ w9.cell? ⟨w.heap.size + 1, 0, none⟩ = some (.int .i64 k1) ∧ w9.cell? ⟨w.heap.size + 1, 1, none⟩ = some (.int .i64 a1) ∧ w9.cell? ⟨w.heap.size + 1, 2, none⟩ = some (.int .i64 s1) ∧ w9.cell? ⟨w.heap.size + 1, 3, none⟩ = some (.string x1)) := fun w9 h9 => (HBX_w11.out.on h9).cells
      obtain ⟨c0, c1, c2, c3, c4, p0, p1, p2, p3⟩ := HBX_w11.out.cells
      go_upto_region 27 with fail
      go_cut [14, 15] (fun p d wx => ∃ aj cj lo hi, p = .slice aj J.length cj ∧ d = .bool Bv ∧ w11.heap.size ≤ lo ∧ OwnJobs lo hi wx aj J.length J ∧ Below w11.heap.size w11 wx)
      case first =>
        go_region_held3 (fun w9 => w9.cell? ⟨w.heap.size, 0, none⟩ = some (.int .i64 n0) ∧ w9.cell? ⟨w.heap.size, 1, none⟩ = some (.slice a0 len0 cap0) ∧ w9.cell? ⟨w.heap.size, 2, none⟩ = some (.slice am0 lm0 cm0) ∧ w9.cell? ⟨w.heap.size, 3, none⟩ = some (.int .i64 o0) ∧ w9.cell? ⟨w.heap.size, 4, none⟩ = some (.int .i64 s0) ∧ w9.cell? ⟨w.heap.size + 1, 0, none⟩ = some (.int .i64 k1) ∧ w9.cell? ⟨w.heap.size + 1, 1, none⟩ = some (.int .i64 a1) ∧ w9.cell? ⟨w.heap.size + 1, 2, none⟩ = some (.int .i64 s1) ∧ w9.cell? ⟨w.heap.size + 1, 3, none⟩ = some (.string x1))
          (first | exact (HK _).out P0 | exact (HK _).out P1 | exact (HK _).out B2.out | exact (HK _).out B3.out | exact (HK _).out B4.out | fail)
          (first
          | (go_at_call 24; refine ((HTC _).out P1).mono ?_; rintro e v2 ⟨a2, am2, mid2, rfl, m1, m2, o2, p2', b2⟩; have B2 : Hid (Below w11.heap.size w11 v2) := below_here P1 b2; have O2 := hide o2; have Q2 := hide p2'; have S2 := B2.out.size; clear b2 o2 p2')
          | (go_at_call 25; refine (toPage_any k1 a1 s1 x1 _).mono ?_; rintro e v3 ⟨rfl, b3⟩; have B3 : Hid (Below w11.heap.size w11 v3) := below_here B2.out b3; have O3 := hide (O2.out.later b3 m2); have Q3 := hide (Q2.out.later b3 (Nat.le_refl _)); have S3 := b3.size; clear b3)
          | (go_at_call 26; refine ((HID _ a2 am2 _ _ _ _).out (below_here HBX_w11.out.below B3.out) O3.out.squares (by omega) Q3.out.places (by omega)).mono ?_; rintro e v4 ⟨aj, cj, rfl, q4, b4⟩; have B4 : Hid (Below w11.heap.size w11 v4) := below_here B3.out b4; have Q4 := hide q4; have S4 := b4.size; clear b4 q4))
        all_goals
          go_wp2_with fail
          go_meet
          exact ⟨aj, cj, _, _, rfl, rfl, by omega, Q4.out, B4.out⟩
      clear c0 c1 c2 c3 c4 p0 p1 p2 p3 HTC HK P0 P1
      obtain ⟨a_h, c_h, l_h, h_h, rfl, rfl, hl_h, hj, hB⟩ := hcut
      have HJH := hide hj
      have HB := hide hB
      clear hj hB
      obtain ⟨w12, hn⟩ : ∃ w12, w12 = wc := ⟨_, rfl⟩
      subst hn
      have hs_w12 := HB.out.size
      have HBX_w12 := hide (HBX_w11.out.on HB.out)
      clear HBX_w11
      have HN := hide (own_jobs_later HJW.out HB.out HJW.out.2.1)
      clear HJW
      have HJW := HN
      clear HN
      have HN := hide (own_jobs_later HJM.out HB.out HJM.out.2.1)
      clear HJM
      have HJM := HN
      clear HN
      clear HB
      go_wp2_with fail
      refine (eqJobS_same a_h a_w J.length c_h c_w J w12 (jobs_of_own HJH.out) (jobs_of_own HJW.out) (by omega)).mono ?_
      rintro e w13 ⟨rfl, bn⟩
      have hs_w13 := bn.size
      have HBX_w13 := hide (HBX_w12.out.on bn)
      clear HBX_w12
      have HN := hide (own_jobs_later HJM.out bn HJM.out.2.1)
      clear HJM
      have HJM := HN
      clear HN
      clear bn
      go_wp2_with fail
      refine (heldJobS_any a_g J.length c_g 1 w13 (jobs_of_own HJM.out) HJM.out.2.1 (by omega) (Nat.le_refl _) (by omega)).mono ?_
      rintro e w14 ⟨rfl, bn⟩
      have HBF := hide (HBX_w13.out.on bn)
      clear bn
      rw [← HT2.out]
      go_wp2_with fail
      go_ret
      exact ⟨rfl, HBF.out.below⟩
    · go_wp2_with fail
      refine (szPage_over k1 a1 s1 x1 r w1 (by omega) ⟨h0, by omega⟩ HXM.out).mono ?_
      rintro e w2 ⟨rfl, b2⟩
      have HBX_w2 := hide (HBX_w1.out.on b2)
      clear b2 HBX_w1 c0 c1 c2 c3 c4 p0 p1 p2 p3
      go_wp2_with fail
      go_ret
      exact ⟨rfl, HBX_w2.out.below⟩
  · clear hr
    go_wp2_with fail
    go_ret
    exact ⟨rfl, HBX_w1.out.below⟩

/-! ### THE ROW's STEP: WRITTEN OUT: LEAVE IT -/
theorem reads (os : Os) {H : Type} (enc : TypeId × Value → H) : (DataW.whole enc Tryz.prog ((World.doorLaid Tryz.prog 160 os).forCall (fun _ _ => 0) ⟨#[], #[.agg #[.int .i64 0, .slice none 0 0, .slice none 0 0, .int .i64 0, .int .i64 0], .agg #[.int .i64 0, .int .i64 0, .int .i64 0, .string ByteArray.empty]], []⟩).memory Tryz.f5.params.toList Rows.fnExactPlanSpec.vars false (#[.agg #[.int .i64 0, .slice none 0 0, .slice none 0 0, .int .i64 0, .int .i64 0], .agg #[.int .i64 0, .int .i64 0, .int .i64 0, .string ByteArray.empty]] : Array Value).toList 8).isSome = true := by kernel_rfl

set_option maxRecDepth 100000 in
theorem lifted (os : Os) (started : os.Started) (H : Type) (enc : TypeId × Value → H) (F : Stop.Interp) :
    ReturnsInHanded {} Tryz.checked os 5 .any ((OpenSpec.ofChange Rows.fnExactPlanSpec).preRow enc Tryz.prog Tryz.f5 Rows.fnExactPlanRow.domain false Rows.fnExactPlanRow.laid) (((OpenSpec.ofChange Rows.fnExactPlanSpec).at F).post enc Tryz.prog Tryz.f5 false true false false) := by
  obtain ⟨x, hx⟩ := Option.isSome_iff_exists.1 (reads os enc)
  refine returnsInHanded_of_row (C := Tryz.checked) (s := OpenSpec.ofChange Rows.fnExactPlanSpec) own started (by kernel_rfl) Tryz.func5
    (witness_row_atRef (enc := enc) (C := Tryz.checked) false (World.doorLaid Tryz.prog 160 os) #[.agg #[.int .i64 0, .slice none 0 0, .slice none 0 0, .int .i64 0, .int .i64 0], .agg #[.int .i64 0, .int .i64 0, .int .i64 0, .string ByteArray.empty]] rfl (by kernel_rfl) (by kernel_rfl) (by kernel_rfl)
      (OpenSpec.preRow_of_cond 8 hx rfl (fun k hk => by cases hk) (by kernel_rfl) (door_metN os _))) ?_
  intro W base args ds gs before hval0 hW _ _ _ hL _ _
  have hval : ∀ (j : Nat) t v, Tryz.f5.params[j]? = some t → args[j]? = some v → Value.okWide Tryz.prog W .any base t v := hval0
  have hW' := hW
  obtain ⟨p, q, hA0, hV0, rfl, hfz, hnd⟩ := hW
  have hV : DataW.TrodVars enc Tryz.prog W (fun _ => true) ["loop.example/g00223/impl.errBlank", "loop.example/g00223/impl.errSize", "loop.example/g00223/impl.errLost", "loop.example/g00223/impl.dataPlaces", "loop.example/g00223/impl.errCheck", "loop.example/g00223/impl.errFields", "loop.example/g00223/impl.errNoRoom"] gs q := hV0
  have hA : DataW.TrodAll enc Tryz.prog W 0 (fun _ => true) true Tryz.f5.params.toList args.toList ds p := hA0
  rw [Tryz.params5] at hA hval
  obtain ⟨v0, vs0, d0, ds0, p0, q0, hargs, rfl, rfl, h0, r0⟩ := trodAll_cons hA
  obtain ⟨v1, vs1, d1, ds1, p1, q1, rfl, rfl, rfl, h1, r1⟩ := trodAll_cons r0
  obtain ⟨rfl, rfl, rfl⟩ := trodAll_nil r1
  obtain rfl : args = #[v0, v1] := by cases args; simp_all
  obtain ⟨g1, rs1, qs1, rfl, hV1⟩ := trodVars_cons hV
  obtain ⟨g2, rs2, qs2, rfl, hV2⟩ := trodVars_cons hV1
  obtain ⟨g3, rs3, qs3, rfl, hV3⟩ := trodVars_cons hV2
  obtain ⟨g4, rs4, qs4, rfl, hV4⟩ := trodVars_cons hV3
  obtain ⟨g5, rs5, qs5, rfl, hV5⟩ := trodVars_cons hV4
  obtain ⟨g6, rs6, qs6, rfl, hV6⟩ := trodVars_cons hV5
  obtain ⟨g7, rs7, qs7, rfl, hV7⟩ := trodVars_cons hV6
  obtain ⟨rfl, rfl⟩ := trodVars_none hV7
  obtain ⟨hT, aB, aL, aS, aC, aF, aN, E, hN⟩ := errs_of_laidN hL
  have kk0 := h0
  have lt0 : ∀ x ∈ p0, x.block < W.heap.size := by obtain ⟨m, hm⟩ := kk0; exact DataW.trod_lt m _ _ _ hm
  obtain ⟨n0, a0, len0, cap0, q0, am0, lm0, cm0, z0, o0, s0, rfl, w0⟩ := ftl_read Tryz.underlying51 (by kernel_rfl) (by kernel_rfl) (by kernel_rfl) Tryz.underlying48 (by kernel_rfl) Tryz.underlying2 Tryz.underlying46 Tryz.underlying183 (by kernel_rfl) (by kernel_rfl) Tryz.underlying44 Tryz.underlying9 (by kernel_rfl) Tryz.underlying2 Tryz.underlying4 Tryz.underlying49 Tryz.underlying145 (by kernel_rfl) (by kernel_rfl) Tryz.underlying2 Tryz.underlying2 Tryz.underlying2 Tryz.underlying2 (hval 0 51 v0 rfl rfl) h0
  have kk1 := h1
  have lt1 : ∀ x ∈ p1, x.block < W.heap.size := by obtain ⟨m, hm⟩ := kk1; exact DataW.trod_lt m _ _ _ hm
  obtain ⟨k1, a1, s1, x1, rfl, w1⟩ := page_read Tryz.underlying52 (by kernel_rfl) (by kernel_rfl) Tryz.underlying2 Tryz.underlying2 Tryz.underlying2 Tryz.underlying9 (hval 1 52 v1 rfl rfl) h1
  clear hA0 hval0 hV0
  refine (walk n0 a0 len0 cap0 q0 am0 lm0 cm0 z0 o0 s0 k1 a1 s1 x1 W w0 w1 hT E hN).mono fun e W' ⟨he, bel⟩ => ?_
  subst he
  exact ⟨_, rfl, _, _, _, [], _, _, hW', trodAll_mk1 (shut_bool Tryz.underlying4 _), (trodAll_cons_mk (Below.trod laidOut (by kernel_rfl) (of_decide_eq_true (by kernel_rfl)) kk0 bel lt0) (trodAll_cons_mk (Below.trod laidOut (by kernel_rfl) (of_decide_eq_true (by kernel_rfl)) kk1 bel lt1) trodAll_mk0)), Below.trodVars laidOut bel (by kernel_rfl) hV, bel.frame _, fun h => by cases h⟩


theorem over : Rows.FnExactPlanSaid :=
  OpenClaim.holds_of_cond 5 Tryz.f5 rfl rfl rfl rfl rfl rfl rfl ⟨rfl, rfl, rfl, rfl, rfl⟩ rfl rfl rfl rfl rfl (by kernel_rfl) Tryz.func5 (by kernel_rfl)
    (of_decide_eq_true (by kernel_rfl)) (by unfold Func.isWrapper; first | (rw [if_pos (by decide +kernel)]; kernel_rfl) | (rw [if_neg (by decide +kernel)]; exact ⟨rfl, rfl⟩))
    (fun os started H enc _ F => by rw [OpenClaim.pre_eq_preRow]; exact lifted os started H enc F)
theorem plain (f : FuncId) (fn : Func) (hf : Tryz.pinned.checked.prog.funcNamed "loop.example/g00223/laws.FnExactPlan" = some f) (hfn : Tryz.pinned.checked.prog.funcs[f]? = some fn) :
    true = Tryz.pinned.checked.prog.looks [] ∧ ∀ (j : Nat) t, fn.params[j]? = some t → Tryz.pinned.checked.prog.wantsStandIn t = false := by
  obtain rfl : f = 5 := Option.some.inj ((show Tryz.prog.funcNamed "loop.example/g00223/laws.FnExactPlan" = some 5 by kernel_rfl).symm.trans hf) |>.symm
  obtain rfl : fn = Tryz.f5 := (Option.some.inj (Tryz.func5.symm.trans hfn)).symm
  refine ⟨by kernel_rfl, fun j t ht => ?_⟩
  have hall : (Tryz.f5.params.toList.all fun u => !Tryz.prog.wantsStandIn u) = true := by kernel_rfl
  have hm : t ∈ Tryz.f5.params.toList := by simpa using Array.mem_of_getElem? ht
  exact (show Tryz.prog.wantsStandIn t = false by simpa using List.all_eq_true.1 hall t hm)

/-- ████ THE CARD ████ -/
theorem proved : Rows.FnExactPlanCardSaid :=
  Claim7.holds_tied_plain_at .later [] _ _ _ _ over (fun _ h => by cases h) (by kernel_rfl) (fun _ h => by cases h) fnExactPlan_row_tie rfl ⟨rfl, rfl⟩ (by kernel_rfl) rfl plain (by kernel_rfl)
#print axioms proved
end Go.Proofs.YtocinobbocjikaaGreatDoor.fnExactPlan
