/- For every Log and every Put the law FnExactAdded returns true and leaves its arguments as they were; no condition. -/
import Derived.Test.YtckkcimkfhhacaaRows
import Derived.Test.YtckkcimkfhhacaaLLogImplF
import Derived.Test.YtckkcimkfhhacaaLTextBase
import Derived.Deep.RegionWith
import Derived.Deep.DeepCutAuto
import Derived.Deep.RegionHeld3
import Derived.WalkKit
import Derived.ProofKit
import Derived.OpenShut
import Derived.ShutString
import Derived.ChangeOld
import Derived.Below
namespace Go.Proofs.Ytckkcimkfhhacaa.fnExactAdded
open Go.ChangeShapes Go.WideShapes Go.ChangeAt Go.RowKit
open Go.ChangeMaps (open_string shut_string)
set_option linter.unusedVariables false

theorem own : ownKnob Try.prog.godebug = none := by kernel_rfl
theorem laidOut : laidOutB Try.prog = true := by kernel_rfl

theorem one_below {B b : Nat} {w w' : World} (h : Below B w w') (hb : B ≤ b) (u : Value) : Below B w (w'.setCell ⟨b, 0, none⟩ u) := h.setCell (p := ⟨b, 0, none⟩) hb u
set_option maxHeartbeats 8000000 in
set_option maxRecDepth 100000 in

theorem walk (n0 : Int) (a0 : Option Addr) (len0 cap0 : Nat) (q0 : List Jb) (k1 j1 : Int) (x1 : ByteArray) (w : World) (w0 : (Lit.int .i64 n0).wf = true ∧ Jobs 0 w.heap.size w a0 len0 q0 ∧ (∀ x ∈ q0, jbFits x) ∧ len0 ≤ maxLen) (w1 : (Lit.int .i64 k1).wf = true ∧ (Lit.int .i64 j1).wf = true ∧ x1.size ≤ maxLen) :
    Calls Try.prog 4 #[.agg #[.int .i64 n0, .slice a0 len0 cap0], .agg #[.int .i64 k1, .int .i64 j1, .string x1]] w fun e w' => e = .returned (.bool true) ∧ Below w.heap.size w w' := by
  obtain ⟨_, hsq, hfi, hm⟩ := w0
  obtain ⟨hk1, hj1, hx⟩ := w1
  have hlen : q0.length = len0 := hsq.1
  subst hlen
  obtain ⟨wA, hwA⟩ : ∃ wA, wA = (w.alloc (.cells #[.int .i64 n0, .slice a0 q0.length cap0] 24)).alloc (.cells #[.int .i64 k1, .int .i64 j1, .string x1] 34) := ⟨_, rfl⟩
  have hzA : wA.heap.size = w.heap.size + 1 + 1 := by rw [hwA]; simp
  have HBX_wA : Hid (BoxLP w n0 a0 q0.length cap0 k1 j1 x1 wA) := by rw [hwA]; exact ⟨heap_old (heap_new _ _), heap_at (by simp), (((Below.refl _ _).alloc (Nat.le_refl _) _).alloc (by simp) _)⟩
  have HSQ := hide hsq
  have HF := hide hfi
  have HM := hide hm
  have HXM := hide hx
  have HK1 := hide hk1
  have HJ1 := hide hj1
  clear hsq hfi hm hx hk1 hj1
  obtain ⟨c0, c1, j0, j1', j2⟩ := HBX_wA.out.cells
  go_enter Try.func4, Try.ntmps4
  go_upto_region 1 with fail
  rw [← hwA]
  clear hwA
  go_wp2_with fail
  refine (szLog_any n0 a0 q0.length cap0 q0 1048576 wA (HSQ.out.later HBX_wA.out.below (Nat.le_refl _)) (by omega) HM.out HF.out (by omega) (by omega)).mono ?_
  rintro e w1 ⟨⟨r, rfl, r1, r2, hr⟩, b1⟩
  have HBX_w1 := hide (HBX_wA.out.on b1)
  clear b1 HBX_wA c0 c1 j0 j1' j2
  by_cases h0 : 0 ≤ r
  · have hfit : q0.length ≤ 1048576 := by have := hr h0; omega
    clear hr
    obtain ⟨c0, c1, j0, j1', j2⟩ := HBX_w1.out.cells
    go_wp2_with fail
    refine (szPut_any k1 j1 x1 r w1 HXM.out h0 (by omega)).mono ?_
    rintro e w2 ⟨⟨r', rfl, s1, s2, hr'⟩, b2⟩
    have HBX_w2 := hide (HBX_w1.out.on b2)
    clear b2 HBX_w1 c0 c1 j0 j1' j2
    by_cases h0' : 0 ≤ r'
    · clear hr'
      have HSD : ∀ w9 a9 lo hi, Hid (Jobs lo hi w9 a9 q0.length q0 → hi ≤ w9.heap.size → Calls Try.prog 15 #[.agg #[.int .i64 n0, .slice a9 q0.length q0.length], .agg #[.int .i64 k1, .int .i64 j1, .string x1]] w9 fun e w' => ∃ v, e = .returned (.tuple #[v, .bool (mayAdd n0 q0 (k1, j1, x1))]) ∧ LogAns w9 ((addR n0 q0 (k1, j1, x1)).1) ((addR n0 q0 (k1, j1, x1)).2) v w') := fun w9 a9 lo hi h9 hh => specAdded_ans n0 a9 q0.length q0.length q0 k1 j1 x1 w9 h9 hh (by omega) HF.out HXM.out
      have HID : ∀ w9 a9 lo hi, Hid (Jobs lo hi w9 a9 q0.length q0 → hi ≤ w9.heap.size → Calls Try.prog 17 #[.agg #[.int .i64 n0, .slice a9 q0.length q0.length], .agg #[.int .i64 k1, .int .i64 j1, .string x1]] w9 fun e w' => ∃ v, e = .returned (.tuple #[v, .bool (mayAdd n0 q0 (k1, j1, x1))]) ∧ LogAns w9 ((addR n0 q0 (k1, j1, x1)).1) ((addR n0 q0 (k1, j1, x1)).2) v w') := fun w9 a9 lo hi h9 hh => implAdded_ans n0 a9 q0.length q0.length q0 k1 j1 x1 w9 h9 hh (by omega) (Nat.le_refl _) (by omega) HF.out HK1.out HJ1.out HXM.out
      have hz2 := HBX_w2.out.size
      have hfit2 : (addR n0 q0 (k1, j1, x1)).2.length ≤ 1048576 := addR_len _ _ _
      generalize (addR n0 q0 (k1, j1, x1)).1 = Z at *
      generalize (addR n0 q0 (k1, j1, x1)).2 = Q at *
      generalize mayAdd n0 q0 (k1, j1, x1) = Bv at *
      obtain ⟨c0, c1, j0, j1', j2⟩ := HBX_w2.out.cells
      have P1_w2 : Below w2.heap.size w2 w2.drew := (Below.refl _ _).drew
      have P2_w2 : Below w2.heap.size w2 (w2.alloc zL).drew := ((Below.refl _ _).alloc (Nat.le_refl _) zL).drew
      have V1_w2 : (w2.alloc zL).drew.heap[w2.heap.size]? = some zL := heap_new w2 zL
      obtain ⟨d0, d1, d2, d3, d4⟩ := (HBX_w2.out.on ((Below.refl _ _).alloc (Nat.le_refl _) zL)).cells
      have HTC : ∀ w9, Hid (Below w2.heap.size w2 w9 → Calls Try.prog 11 #[.agg #[.int .i64 n0, .slice a0 q0.length cap0]] w9 fun e w' => ∃ a', e = .returned (.agg #[.int .i64 n0, .slice a' q0.length q0.length]) ∧ OwnJobs w9.heap.size w'.heap.size w' a' q0.length q0 ∧ Below w9.heap.size w9 w') := fun w9 h9 => toLog_any n0 a0 q0.length cap0 q0 w9 (HSQ.out.later (below_here HBX_w2.out.below h9) (Nat.le_refl _)) (below_here HBX_w2.out.below h9).size hfit
      have P0_w2 : Below w2.heap.size w2 w2 := Below.refl _ _
      have P3_w2 : Below w2.heap.size w2 (w2.alloc zL) := (Below.refl _ _).alloc (Nat.le_refl _) zL
      have HK : ∀ w9, Hid (Below w2.heap.size w2 w9 → w9.cell? ⟨w.heap.size, 0, none⟩ = some (.int .i64 n0) ∧ w9.cell? ⟨w.heap.size, 1, none⟩ = some (.slice a0 q0.length cap0) ∧ w9.cell? ⟨w.heap.size + 1, 0, none⟩ = some (.int .i64 k1) ∧ w9.cell? ⟨w.heap.size + 1, 1, none⟩ = some (.int .i64 j1) ∧ w9.cell? ⟨w.heap.size + 1, 2, none⟩ = some (.string x1)) := fun w9 h9 => (HBX_w2.out.on h9).cells
      clear d0 d1 d2 d3 d4
      go_upto_region 8 with fail
      go_cut [6, 7] (fun p d wx => ∃ b lo hi a c, p = .pointer (some ⟨b, 0, none⟩) ∧ d = .bool (Bv) ∧ VarL w2.heap.size b lo hi (Z) (Q) a c wx ∧ Below w2.heap.size w2 wx)
      case first =>
        go_region_held3 (fun w9 => w9.cell? ⟨w.heap.size, 0, none⟩ = some (.int .i64 n0) ∧ w9.cell? ⟨w.heap.size, 1, none⟩ = some (.slice a0 q0.length cap0) ∧ w9.cell? ⟨w.heap.size + 1, 0, none⟩ = some (.int .i64 k1) ∧ w9.cell? ⟨w.heap.size + 1, 1, none⟩ = some (.int .i64 j1) ∧ w9.cell? ⟨w.heap.size + 1, 2, none⟩ = some (.string x1))
          (first | exact (HK _).out P0_w2 | exact (HK _).out P1_w2 | exact (HK _).out P2_w2 | exact (HK _).out P3_w2 | exact (HK _).out B2.out | exact (HK _).out (B2.out.alloc S2 zL) | exact (HK _).out B3.out | exact (HK _).out (B3.out.alloc (Nat.le_trans S2 S3) zL) | exact (HK _).out B4.out | exact (HK _).out (B4.out.alloc (Nat.le_trans S2 (Nat.le_trans S3 S4)) _) | exact (HK _).out (store_belowL B4.out (by omega) _ _) | exact (HK _).out (one_below B4.out (by omega) _) | fail)
          (first
          | (go_at_call 11; refine ((HTC _).out (by first | exact P1_w2 | exact P2_w2)).mono ?_; rintro e v2 ⟨a2, rfl, o2, b2⟩; have B2 : Hid (Below w2.heap.size w2 v2) := (by first | exact below_here P1_w2 b2 | exact below_here P2_w2 b2); have O2 : Hid (Jobs 0 v2.heap.size v2 a2 q0.length q0) := jobs_wide o2.squares (Nat.zero_le _); have S2 := B2.out.size; first | (have VA2 : Hid (v2.heap[w2.heap.size]? = some zL) := block_on V1_w2 b2; have VZ2 : w2.heap.size < v2.heap.size := by have := (Array.getElem?_eq_some_iff.1 VA2.out).1; omega) | skip; clear b2 o2)
          | (go_at_call 16; refine (toPut_any k1 j1 x1 _).mono ?_; rintro e v3 ⟨rfl, b3⟩; have B23 : Hid (Below v2.heap.size v2 v3) := (by first | exact b3 | exact below_here ((Below.refl v2.heap.size v2).alloc (Nat.le_refl _) zL) b3); have B3 : Hid (Below w2.heap.size w2 v3) := below_here B2.out B23.out; have O3 : Hid (Jobs 0 v2.heap.size v3 a2 q0.length q0) := O2.out.later B23.out (Nat.le_refl _); have S3 := B23.out.size; first | (have VA3 : Hid (v3.heap[w2.heap.size]? = some zL) := block_on VA2.out B23.out) | (have VB3 : Hid (v3.heap[v2.heap.size]? = some zL) := block_on (heap_new v2 zL) b3; have VZ3 : v2.heap.size < v3.heap.size := by have := (Array.getElem?_eq_some_iff.1 VB3.out).1; omega) | skip; clear b3)
          | (go_at_call 15; refine ((HSD _ a2 _ _).out (by first | exact O3.out | exact O3.out.later ((Below.refl v3.heap.size v3).alloc (Nat.le_refl _) zL) S3) (by first | exact S3 | exact Nat.le_trans S3 (by simp))).mono ?_; rintro e v4 ⟨v, rfl, a4, k4, rfl, q4, b4⟩; have B34 : Hid (Below v3.heap.size v3 v4) := (by first | exact b4 | exact below_here ((Below.refl v3.heap.size v3).alloc (Nat.le_refl _) zL) b4); have B4 : Hid (Below w2.heap.size w2 v4) := below_here B3.out B34.out; have S4 := B34.out.size; have Q4 := hide q4; first | (have VA4 : Hid (v4.heap[w2.heap.size]? = some zL) := block_on VA3.out B34.out; obtain ⟨p0, p1⟩ := two_cells VA4.out; have f0 := four_frozen VA4.out 0; have f1 := four_frozen VA4.out 1) | (have VB4 : Hid (v4.heap[v2.heap.size]? = some zL) := block_on VB3.out B34.out; obtain ⟨p0, p1⟩ := two_cells VB4.out; have f0 := four_frozen VB4.out 0; have f1 := four_frozen VB4.out 1) | (have VC4 : Hid (v4.heap[v3.heap.size]? = some zL) := block_on (heap_new v3 zL) b4; obtain ⟨p0, p1⟩ := two_cells VC4.out; have f0 := four_frozen VC4.out 0; have f1 := four_frozen VC4.out 1) | skip; clear b4 q4))
        all_goals
          go_wp2_with fail
          go_meet
          first
            | exact ⟨w2.heap.size, v3.heap.size, v4.heap.size, a4, k4, rfl, rfl, varL_store VA4.out Q4.out (Nat.le_refl _) (by omega) (by omega), store_belowL B4.out (Nat.le_refl _) _ _⟩
            | exact ⟨v2.heap.size, v3.heap.size, v4.heap.size, a4, k4, rfl, rfl, varL_store VB4.out Q4.out (by omega) (by omega) (by omega), store_belowL B4.out (by omega) _ _⟩
            | exact ⟨v3.heap.size, (v3.alloc zL).heap.size, v4.heap.size, a4, k4, rfl, rfl, varL_store (w1 := v3.alloc zL) VC4.out Q4.out (by omega) (by simp) (by simp; omega), store_belowL B4.out (by omega) _ _⟩
            | exact ⟨v4.heap.size, v3.heap.size, v4.heap.size, a4, k4, rfl, rfl, varL_new Q4.out (by omega) S4, B4.out.alloc (by omega) _⟩
      clear c0 c1 j0 j1' j2 HTC HK
      obtain ⟨b_8, l_8, h_8, a_8, c_8, rfl, rfl, hV, hB⟩ := hcut
      have HV_8 := hide hV
      have HB_8 := hide hB
      clear hV hB
      obtain ⟨w3, hn⟩ : ∃ w3, w3 = wc := ⟨_, rfl⟩
      subst hn
      have HBX_w3 := hide (HBX_w2.out.on HB_8.out)
      clear HBX_w2
      have hs3 := HB_8.out.size
      have HBW1 := HV_8.out.lt
      have HHW1 := HV_8.out.hi_le
      clear HB_8
      obtain ⟨c0, c1, j0, j1', j2⟩ := HBX_w3.out.cells
      go_wp2_with fail
      refine (toLog_any n0 a0 q0.length cap0 q0 w3 (HSQ.out.later HBX_w3.out.below (Nat.le_refl _)) HBX_w3.out.below.size hfit).mono ?_
      rintro e w4 ⟨a_x, rfl, ox, bx⟩
      clear c0 c1 j0 j1' j2
      obtain ⟨wX, hwX⟩ : ∃ wX, wX = w4.alloc (.cells #[.int .i64 n0, .slice a_x q0.length q0.length] 29) := ⟨_, rfl⟩
      have hzX : wX.heap.size = w4.heap.size + 1 := by rw [hwX]; simp
      have HBXX : Hid (Below w3.heap.size w3 wX) := by rw [hwX]; exact bx.alloc bx.size _
      have hs4 := bx.size
      have HV_x : Hid (VarL w3.heap.size w4.heap.size w3.heap.size w4.heap.size n0 q0 a_x q0.length wX) := by rw [hwX]; exact varL_new ⟨Nat.le_refl _, ox⟩ (Nat.le_refl _) bx.size
      clear ox bx
      have HBX_wX := hide (HBX_w3.out.on HBXX.out)
      clear HBX_w3
      have HN := hide (HV_8.out.on HBXX.out)
      clear HV_8
      have HV_8 := HN
      clear HN
      go_upto_region 10 with fail
      rw [← hwX]
      clear hwX
      have HZX := hide hzX
      clear hzX
      obtain ⟨c0, c1, j0, j1', j2⟩ := HBX_wX.out.cells
      obtain ⟨x0', x1'⟩ := HV_x.out.cells
      obtain ⟨x2', x3'⟩ := (HV_x.out.on ((Below.refl _ _).alloc (Nat.le_refl _) zL)).cells
      have P1_wX : Below wX.heap.size wX wX.drew := (Below.refl _ _).drew
      have P2_wX : Below wX.heap.size wX (wX.alloc zL).drew := ((Below.refl _ _).alloc (Nat.le_refl _) zL).drew
      have V1_wX : (wX.alloc zL).drew.heap[wX.heap.size]? = some zL := heap_new wX zL
      obtain ⟨d0, d1, d2, d3, d4⟩ := (HBX_wX.out.on ((Below.refl _ _).alloc (Nat.le_refl _) zL)).cells
      have P0_wX : Below wX.heap.size wX wX := Below.refl _ _
      have P3_wX : Below wX.heap.size wX (wX.alloc zL) := (Below.refl _ _).alloc (Nat.le_refl _) zL
      have HK : ∀ w9, Hid (Below wX.heap.size wX w9 → w9.cell? ⟨w4.heap.size, 0, none⟩ = some (.int .i64 n0) ∧ w9.cell? ⟨w4.heap.size, 1, none⟩ = some (.slice a_x q0.length q0.length) ∧ w9.cell? ⟨w.heap.size + 1, 0, none⟩ = some (.int .i64 k1) ∧ w9.cell? ⟨w.heap.size + 1, 1, none⟩ = some (.int .i64 j1) ∧ w9.cell? ⟨w.heap.size + 1, 2, none⟩ = some (.string x1)) := fun w9 h9 => ⟨(HV_x.out.on h9).cells.1, (HV_x.out.on h9).cells.2, (HBX_wX.out.on h9).cells.2.2⟩
      clear d0 d1 d2 d3 d4 x2' x3'
      go_cut [9, 10] (fun p d wx => ∃ b lo hi a c, p = .pointer (some ⟨b, 0, none⟩) ∧ d = .bool (Bv) ∧ VarL wX.heap.size b lo hi (Z) (Q) a c wx ∧ Below wX.heap.size wX wx)
      case first =>
        go_region_held3 (fun w9 => w9.cell? ⟨w4.heap.size, 0, none⟩ = some (.int .i64 n0) ∧ w9.cell? ⟨w4.heap.size, 1, none⟩ = some (.slice a_x q0.length q0.length) ∧ w9.cell? ⟨w.heap.size + 1, 0, none⟩ = some (.int .i64 k1) ∧ w9.cell? ⟨w.heap.size + 1, 1, none⟩ = some (.int .i64 j1) ∧ w9.cell? ⟨w.heap.size + 1, 2, none⟩ = some (.string x1))
          (first | exact (HK _).out P0_wX | exact (HK _).out P1_wX | exact (HK _).out P2_wX | exact (HK _).out P3_wX | exact (HK _).out B3.out | exact (HK _).out (B3.out.alloc S3 zL) | exact (HK _).out B4.out | exact (HK _).out (B4.out.alloc (Nat.le_trans S3 S4) _) | exact (HK _).out (store_belowL B4.out (by omega) _ _) | exact (HK _).out (one_below B4.out (by omega) _) | fail)
          (first
          | (go_at_call 16; refine (toPut_any k1 j1 x1 _).mono ?_; rintro e v3 ⟨rfl, b3⟩; have B3 : Hid (Below wX.heap.size wX v3) := (by first | exact below_here P1_wX b3 | exact below_here P2_wX b3); have S3 := B3.out.size; have O3 : Hid (VarL _ _ _ _ _ _ _ _ v3) := HV_x.out.on B3.out; first | (have VA3 : Hid (v3.heap[wX.heap.size]? = some zL) := block_on V1_wX b3; have VZ3 : wX.heap.size < v3.heap.size := by have := (Array.getElem?_eq_some_iff.1 VA3.out).1; omega) | skip; clear b3)
          | (go_at_call 17; refine ((HID _ _ _ _).out (by first | exact O3.out.squares | exact (O3.out.on ((Below.refl v3.heap.size v3).alloc (Nat.le_refl _) zL)).squares) (by first | exact O3.out.hi_le | exact (O3.out.on ((Below.refl v3.heap.size v3).alloc (Nat.le_refl _) zL)).hi_le)).mono ?_; rintro e v4 ⟨v, rfl, a4, k4, rfl, q4, b4⟩; have B34 : Hid (Below v3.heap.size v3 v4) := (by first | exact b4 | exact below_here ((Below.refl v3.heap.size v3).alloc (Nat.le_refl _) zL) b4); have B4 : Hid (Below wX.heap.size wX v4) := below_here B3.out B34.out; have S4 := B34.out.size; have Q4 := hide q4; first | (have VA4 : Hid (v4.heap[wX.heap.size]? = some zL) := block_on VA3.out B34.out; obtain ⟨p0, p1⟩ := two_cells VA4.out; have f0 := four_frozen VA4.out 0; have f1 := four_frozen VA4.out 1) | (have VC4 : Hid (v4.heap[v3.heap.size]? = some zL) := block_on (heap_new v3 zL) b4; obtain ⟨p0, p1⟩ := two_cells VC4.out; have f0 := four_frozen VC4.out 0; have f1 := four_frozen VC4.out 1) | skip; clear b4 q4))
        all_goals
          go_wp2_with fail
          go_meet
          first
            | exact ⟨wX.heap.size, v3.heap.size, v4.heap.size, a4, k4, rfl, rfl, varL_store VA4.out Q4.out (Nat.le_refl _) (by omega) (by omega), store_belowL B4.out (Nat.le_refl _) _ _⟩
            | exact ⟨v3.heap.size, (v3.alloc zL).heap.size, v4.heap.size, a4, k4, rfl, rfl, varL_store (w1 := v3.alloc zL) VC4.out Q4.out (by omega) (by simp) (by simp; omega), store_belowL B4.out (by omega) _ _⟩
            | exact ⟨v4.heap.size, v3.heap.size, v4.heap.size, a4, k4, rfl, rfl, varL_new Q4.out (by omega) S4, B4.out.alloc (by omega) _⟩
      clear c0 c1 j0 j1' j2 x0' x1' HK
      obtain ⟨b_10, l_10, h_10, a_10, c_10, rfl, rfl, hV, hB⟩ := hcut
      have HV_10 := hide hV
      have HB_10 := hide hB
      clear hV hB
      obtain ⟨w5, hn⟩ : ∃ w5, w5 = wc := ⟨_, rfl⟩
      subst hn
      have hzX := HZX.out
      have hs5 := HB_10.out.size
      have HBX_w5 := hide (HBX_wX.out.on HB_10.out)
      clear HBX_wX
      have HN := hide (HV_8.out.on HB_10.out)
      clear HV_8
      have HV_8 := HN
      clear HN
      have HN := hide (HV_x.out.on HB_10.out)
      clear HV_x
      have HV_x := HN
      clear HN
      clear HB_10
      obtain ⟨y0, y1⟩ := HV_10.out.cells
      obtain ⟨y2, y3⟩ := HV_8.out.cells
      go_wp2_with fail
      refine (eqLog_same (Z) a_10 a_8 _ c_10 c_8 (Q) w5 HV_10.out.squares HV_8.out.squares HV_10.out.hi_le HV_8.out.hi_le hfit2).mono ?_
      rintro e w6 ⟨rfl, bn⟩
      clear y0 y1 y2 y3
      have HBX_w6 := hide (HBX_w5.out.on bn)
      clear HBX_w5
      have HN := hide (HV_8.out.on bn)
      clear HV_8
      have HV_8 := HN
      clear HN
      have HN := hide (HV_10.out.on bn)
      clear HV_10
      have HV_10 := HN
      clear HN
      have HN := hide (HV_x.out.on bn)
      clear HV_x
      have HV_x := HN
      clear HN
      have hs6 := bn.size
      clear bn
      obtain ⟨c0, c1, j0, j1', j2⟩ := HBX_w6.out.cells
      obtain ⟨x0', x1'⟩ := HV_x.out.cells
      have HVd : Hid (VarL _ _ _ _ _ _ _ _ w6.drew) := HV_x.out.on (Below.refl w6.heap.size w6).drew
      go_upto_region 13 with fail
      go_cut [56] (fun c wx => c = .bool false ∧ Below w6.heap.size w6 wx)
      case first =>
        go_region_with (first
          | (go_at_call 11; refine (toLog_any n0 a0 q0.length cap0 q0 _ (by exact HSQ.out.later (HBX_w6.out.below.drew) (Nat.le_refl _)) (by exact HBX_w6.out.below.size) hfit).mono ?_; rintro e v6 ⟨a6, rfl, o6, b6⟩; have HX6 := hide (HVd.out.on b6); have HB6 := hide (below_here (Below.refl w6.heap.size w6).drew b6); have HO6 := hide o6; clear o6 b6; obtain ⟨e0, e1⟩ := HX6.out.cells)
          | (go_at_call 13; refine (eqLog_same n0 a_x a6 q0.length q0.length q0.length q0 _ (by exact HX6.out.squares) (by exact HO6.out.squares) (by exact HX6.out.hi_le) (by omega) hfit).mono ?_; rintro e v7 ⟨rfl, b7⟩; have HB7 := hide (below_here HB6.out b7); clear b7))
        all_goals
          go_wp2_with fail
          go_meet
          exact ⟨rfl, HB7.out⟩
      clear c0 c1 j0 j1' j2 x0' x1' HVd
      obtain ⟨rfl, hB⟩ := hcut
      have HB_c := hide hB
      clear hB
      obtain ⟨w7, hn⟩ : ∃ w7, w7 = wc := ⟨_, rfl⟩
      subst hn
      have hs7 := HB_c.out.size
      have HBX_w7 := hide (HBX_w6.out.on HB_c.out)
      clear HBX_w6
      have HN := hide (HV_8.out.on HB_c.out)
      clear HV_8
      have HV_8 := HN
      clear HN
      have HN := hide (HV_10.out.on HB_c.out)
      clear HV_10
      have HV_10 := HN
      clear HN
      have HN := hide (HV_x.out.on HB_c.out)
      clear HV_x
      have HV_x := HN
      clear HN
      clear HB_c
      have hx1 := HV_x.out.lt
      have hx2 := HV_x.out.hi_le
      have hg1 := HV_10.out.atB
      have hg2 := HV_10.out.atL
      have hg3 := HV_10.out.apart
      have hw1 := HV_8.out.lt
      have hw2 := HV_8.out.hi_le
      have hbb1 : b_8 < w3.heap.size := HBW1
      have hbb2 : h_8 ≤ w3.heap.size := HHW1
      have hzw := HBX_w7.out.size
      obtain ⟨y0, y1⟩ := HV_x.out.cells
      go_wp2_with fail
      refine (markLog_ans _ a_x _ q0.length _ w7 HV_x.out.ans hfit).mono ?_
      rintro e w8 ⟨rfl, hm, sm⟩
      clear y0 y1
      have HBX_w8 := hide (HBX_w7.out.aside sm (by have := HV_x.out.atL; omega))
      clear HBX_w7
      have HVM_x : Hid (w8.heap[w4.heap.size]? = some (.cells #[.int .i64 n0, .slice a_x (q0).length q0.length] 29)) := (sm.block w4.heap.size HV_x.out.lt HV_x.out.apart).trans HV_x.out.var
      have HM_x := hide hm
      have hsm_x := sm.size
      clear hm
      obtain ⟨t1, ht⟩ : ∃ t1, t1 = 1 + 3 * (q0).length := ⟨_, rfl⟩
      have HT_t1 := hide ht
      rw [← ht]
      have ht0_t1 : decide ((t1 : Int) < 0) = false := by simp
      have ht1_t1 : t1 ≤ 4194304 := by omega
      clear ht
      have HN := hide (HV_8.out.aside sm (by omega) (.inr (by omega)))
      clear HV_8
      have HV_8 := HN
      clear HN
      have HN := hide (HV_10.out.aside sm (by omega) (.inl (by omega)))
      clear HV_10
      have HV_10 := HN
      clear HN
      clear sm
      obtain ⟨y0, y1⟩ := HV_10.out.cells
      obtain ⟨y2, y3⟩ := HV_8.out.cells
      go_wp2_with fail
      refine (eqLog_same (Z) a_10 a_8 _ c_10 c_8 (Q) w8 HV_10.out.squares HV_8.out.squares HV_10.out.hi_le HV_8.out.hi_le hfit2).mono ?_
      rintro e w9 ⟨rfl, bn⟩
      clear y0 y1 y2 y3
      have HBX_w9 := hide (HBX_w8.out.on bn)
      clear HBX_w8
      have HN := hide (HV_8.out.on bn)
      clear HV_8
      have HV_8 := HN
      clear HN
      have HN := hide (HV_10.out.on bn)
      clear HV_10
      have HV_10 := HN
      clear HN
      have hs9 := bn.size
      clear bn
      obtain ⟨y0, y1⟩ := HV_10.out.cells
      go_wp2_with fail
      refine (markLog_ans _ a_10 _ c_10 _ w9 HV_10.out.ans hfit2).mono ?_
      rintro e w10 ⟨rfl, hm, sm⟩
      clear y0 y1
      have HBX_w10 := hide (HBX_w9.out.aside sm (by have := HV_10.out.atL; omega))
      clear HBX_w9
      have HVM_10 : Hid (w10.heap[b_10]? = some (.cells #[.int .i64 Z, .slice a_10 (Q).length c_10] 29)) := (sm.block b_10 HV_10.out.lt HV_10.out.apart).trans HV_10.out.var
      have HM_10 := hide hm
      have hsm_10 := sm.size
      clear hm
      obtain ⟨t2, ht⟩ : ∃ t2, t2 = 1 + 3 * (Q).length := ⟨_, rfl⟩
      have HT_t2 := hide ht
      rw [← ht]
      have ht0_t2 : decide ((t2 : Int) < 0) = false := by simp
      have ht1_t2 : t2 ≤ 4194304 := by omega
      clear ht
      have HN := hide (HV_8.out.aside sm (by omega) (.inr (by omega)))
      clear HV_8
      have HV_8 := HN
      clear HN
      clear sm
      obtain ⟨y0, y1⟩ := two_cells HVM_10.out
      go_wp2_with fail
      refine (heldLog_any Z a_10 _ c_10 w10 HM_10.out.squares HM_10.out.1 hfit2).mono ?_
      rintro e w11 ⟨rfl, bn⟩
      clear y0 y1
      rw [← HT_t2.out]
      have HBX_w11 := hide (HBX_w10.out.on bn)
      clear HBX_w10
      have HN := hide (HV_8.out.on bn)
      clear HV_8
      have HV_8 := HN
      clear HN
      have HN := hide (block_on HVM_10.out bn)
      clear HVM_10
      have HVM_10 := HN
      clear HN
      have HN := hide (HM_10.out.later bn HM_10.out.1)
      clear HM_10
      have HM_10 := HN
      clear HN
      have hs11 := bn.size
      clear bn
      obtain ⟨c0, c1, j0, j1', j2⟩ := HBX_w11.out.cells
      have P1_w11 : Below w11.heap.size w11 w11.drew := (Below.refl _ _).drew
      have P2_w11 : Below w11.heap.size w11 (w11.alloc zL).drew := ((Below.refl _ _).alloc (Nat.le_refl _) zL).drew
      have V1_w11 : (w11.alloc zL).drew.heap[w11.heap.size]? = some zL := heap_new w11 zL
      obtain ⟨d0, d1, d2, d3, d4⟩ := (HBX_w11.out.on ((Below.refl _ _).alloc (Nat.le_refl _) zL)).cells
      have HTC : ∀ w9, Hid (Below w11.heap.size w11 w9 → Calls Try.prog 11 #[.agg #[.int .i64 n0, .slice a0 q0.length cap0]] w9 fun e w' => ∃ a', e = .returned (.agg #[.int .i64 n0, .slice a' q0.length q0.length]) ∧ OwnJobs w9.heap.size w'.heap.size w' a' q0.length q0 ∧ Below w9.heap.size w9 w') := fun w9 h9 => toLog_any n0 a0 q0.length cap0 q0 w9 (HSQ.out.later (below_here HBX_w11.out.below h9) (Nat.le_refl _)) (below_here HBX_w11.out.below h9).size hfit
      have P0_w11 : Below w11.heap.size w11 w11 := Below.refl _ _
      have P3_w11 : Below w11.heap.size w11 (w11.alloc zL) := (Below.refl _ _).alloc (Nat.le_refl _) zL
      have HK : ∀ w9, Hid (Below w11.heap.size w11 w9 → w9.cell? ⟨w.heap.size, 0, none⟩ = some (.int .i64 n0) ∧ w9.cell? ⟨w.heap.size, 1, none⟩ = some (.slice a0 q0.length cap0) ∧ w9.cell? ⟨w.heap.size + 1, 0, none⟩ = some (.int .i64 k1) ∧ w9.cell? ⟨w.heap.size + 1, 1, none⟩ = some (.int .i64 j1) ∧ w9.cell? ⟨w.heap.size + 1, 2, none⟩ = some (.string x1)) := fun w9 h9 => (HBX_w11.out.on h9).cells
      clear d0 d1 d2 d3 d4
      go_upto_region 27 with fail
      go_cut [14, 15] (fun p d wx => ∃ b lo hi a c, p = .pointer (some ⟨b, 0, none⟩) ∧ d = .bool (Bv) ∧ VarL w11.heap.size b lo hi (Z) (Q) a c wx ∧ Below w11.heap.size w11 wx)
      case first =>
        go_region_held3 (fun w9 => w9.cell? ⟨w.heap.size, 0, none⟩ = some (.int .i64 n0) ∧ w9.cell? ⟨w.heap.size, 1, none⟩ = some (.slice a0 q0.length cap0) ∧ w9.cell? ⟨w.heap.size + 1, 0, none⟩ = some (.int .i64 k1) ∧ w9.cell? ⟨w.heap.size + 1, 1, none⟩ = some (.int .i64 j1) ∧ w9.cell? ⟨w.heap.size + 1, 2, none⟩ = some (.string x1))
          (first | exact (HK _).out P0_w11 | exact (HK _).out P1_w11 | exact (HK _).out P2_w11 | exact (HK _).out P3_w11 | exact (HK _).out B2.out | exact (HK _).out (B2.out.alloc S2 zL) | exact (HK _).out B3.out | exact (HK _).out (B3.out.alloc (Nat.le_trans S2 S3) zL) | exact (HK _).out B4.out | exact (HK _).out (B4.out.alloc (Nat.le_trans S2 (Nat.le_trans S3 S4)) _) | exact (HK _).out (store_belowL B4.out (by omega) _ _) | exact (HK _).out (one_below B4.out (by omega) _) | fail)
          (first
          | (go_at_call 11; refine ((HTC _).out (by first | exact P1_w11 | exact P2_w11)).mono ?_; rintro e v2 ⟨a2, rfl, o2, b2⟩; have B2 : Hid (Below w11.heap.size w11 v2) := (by first | exact below_here P1_w11 b2 | exact below_here P2_w11 b2); have O2 : Hid (Jobs 0 v2.heap.size v2 a2 q0.length q0) := jobs_wide o2.squares (Nat.zero_le _); have S2 := B2.out.size; first | (have VA2 : Hid (v2.heap[w11.heap.size]? = some zL) := block_on V1_w11 b2; have VZ2 : w11.heap.size < v2.heap.size := by have := (Array.getElem?_eq_some_iff.1 VA2.out).1; omega) | skip; clear b2 o2)
          | (go_at_call 16; refine (toPut_any k1 j1 x1 _).mono ?_; rintro e v3 ⟨rfl, b3⟩; have B23 : Hid (Below v2.heap.size v2 v3) := (by first | exact b3 | exact below_here ((Below.refl v2.heap.size v2).alloc (Nat.le_refl _) zL) b3); have B3 : Hid (Below w11.heap.size w11 v3) := below_here B2.out B23.out; have O3 : Hid (Jobs 0 v2.heap.size v3 a2 q0.length q0) := O2.out.later B23.out (Nat.le_refl _); have S3 := B23.out.size; first | (have VA3 : Hid (v3.heap[w11.heap.size]? = some zL) := block_on VA2.out B23.out) | (have VB3 : Hid (v3.heap[v2.heap.size]? = some zL) := block_on (heap_new v2 zL) b3; have VZ3 : v2.heap.size < v3.heap.size := by have := (Array.getElem?_eq_some_iff.1 VB3.out).1; omega) | skip; clear b3)
          | (go_at_call 17; refine ((HID _ a2 _ _).out (by first | exact O3.out | exact O3.out.later ((Below.refl v3.heap.size v3).alloc (Nat.le_refl _) zL) S3) (by first | exact S3 | exact Nat.le_trans S3 (by simp))).mono ?_; rintro e v4 ⟨v, rfl, a4, k4, rfl, q4, b4⟩; have B34 : Hid (Below v3.heap.size v3 v4) := (by first | exact b4 | exact below_here ((Below.refl v3.heap.size v3).alloc (Nat.le_refl _) zL) b4); have B4 : Hid (Below w11.heap.size w11 v4) := below_here B3.out B34.out; have S4 := B34.out.size; have Q4 := hide q4; first | (have VA4 : Hid (v4.heap[w11.heap.size]? = some zL) := block_on VA3.out B34.out; obtain ⟨p0, p1⟩ := two_cells VA4.out; have f0 := four_frozen VA4.out 0; have f1 := four_frozen VA4.out 1) | (have VB4 : Hid (v4.heap[v2.heap.size]? = some zL) := block_on VB3.out B34.out; obtain ⟨p0, p1⟩ := two_cells VB4.out; have f0 := four_frozen VB4.out 0; have f1 := four_frozen VB4.out 1) | (have VC4 : Hid (v4.heap[v3.heap.size]? = some zL) := block_on (heap_new v3 zL) b4; obtain ⟨p0, p1⟩ := two_cells VC4.out; have f0 := four_frozen VC4.out 0; have f1 := four_frozen VC4.out 1) | skip; clear b4 q4))
        all_goals
          go_wp2_with fail
          go_meet
          first
            | exact ⟨w11.heap.size, v3.heap.size, v4.heap.size, a4, k4, rfl, rfl, varL_store VA4.out Q4.out (Nat.le_refl _) (by omega) (by omega), store_belowL B4.out (Nat.le_refl _) _ _⟩
            | exact ⟨v2.heap.size, v3.heap.size, v4.heap.size, a4, k4, rfl, rfl, varL_store VB4.out Q4.out (by omega) (by omega) (by omega), store_belowL B4.out (by omega) _ _⟩
            | exact ⟨v3.heap.size, (v3.alloc zL).heap.size, v4.heap.size, a4, k4, rfl, rfl, varL_store (w1 := v3.alloc zL) VC4.out Q4.out (by omega) (by simp) (by simp; omega), store_belowL B4.out (by omega) _ _⟩
            | exact ⟨v4.heap.size, v3.heap.size, v4.heap.size, a4, k4, rfl, rfl, varL_new Q4.out (by omega) S4, B4.out.alloc (by omega) _⟩
      clear c0 c1 j0 j1' j2 HTC HK
      obtain ⟨b_27, l_27, h_27, a_27, c_27, rfl, rfl, hV, hB⟩ := hcut
      have HV_27 := hide hV
      have HB_27 := hide hB
      clear hV hB
      obtain ⟨w12, hn⟩ : ∃ w12, w12 = wc := ⟨_, rfl⟩
      subst hn
      have HBX_w12 := hide (HBX_w11.out.on HB_27.out)
      clear HBX_w11
      have HN := hide (HV_8.out.on HB_27.out)
      clear HV_8
      have HV_8 := HN
      clear HN
      have HN := hide (block_on HVM_10.out HB_27.out)
      clear HVM_10
      have HVM_10 := HN
      clear HN
      have HN := hide (HM_10.out.later HB_27.out HM_10.out.1)
      clear HM_10
      have HM_10 := HN
      clear HN
      clear HB_27
      obtain ⟨y0, y1⟩ := HV_27.out.cells
      obtain ⟨y2, y3⟩ := HV_8.out.cells
      go_wp2_with fail
      refine (eqLog_same (Z) a_27 a_8 _ c_27 c_8 (Q) w12 HV_27.out.squares HV_8.out.squares HV_27.out.hi_le HV_8.out.hi_le hfit2).mono ?_
      rintro e w13 ⟨rfl, bn⟩
      clear y0 y1 y2 y3
      have HBX_w13 := hide (HBX_w12.out.on bn)
      clear HBX_w12
      have HN := hide (block_on HVM_10.out bn)
      clear HVM_10
      have HVM_10 := HN
      clear HN
      have HN := hide (HM_10.out.later bn HM_10.out.1)
      clear HM_10
      have HM_10 := HN
      clear HN
      clear bn
      obtain ⟨y0, y1⟩ := two_cells HVM_10.out
      go_wp2_with fail
      refine (heldLog_any Z a_10 _ c_10 w13 HM_10.out.squares HM_10.out.1 hfit2).mono ?_
      rintro e w14 ⟨rfl, bn⟩
      clear y0 y1
      rw [← HT_t2.out]
      have HBF := hide (HBX_w13.out.on bn)
      clear bn
      go_wp2_with fail
      go_ret
      exact ⟨rfl, HBF.out.below⟩
    · clear hr'
      go_wp2_with fail
      go_ret
      exact ⟨rfl, HBX_w2.out.below⟩
  · clear hr
    go_wp2_with fail
    go_ret
    exact ⟨rfl, HBX_w1.out.below⟩

/-! ### THE ROW's STEP: WRITTEN OUT: LEAVE IT -/
set_option maxRecDepth 100000 in
theorem lifted (os : Os) (started : os.Started) (H : Type) (enc : TypeId × Value → H) :
    ReturnsInHanded {} Try.checked os 4 .any (Rows.fnExactAddedSpec.pre6 enc Try.prog Try.f4 Rows.fnExactAddedRow.domain false) (Rows.fnExactAddedSpec.post enc Try.prog Try.f4 false true false false) := by
  refine returnsInHanded_of_change (C := Try.checked) own started (by kernel_rfl) Try.func4
    (ChangeSpec.witness6 (enc := enc) (C := Try.checked) false ⟨#[], #[.agg #[.int .i64 0, .slice none 0 0], .agg #[.int .i64 0, .int .i64 0, .string ByteArray.empty]], []⟩ 8 (by kernel_rfl) (by kernel_rfl) (by kernel_rfl) (by kernel_rfl)) ?_
  intro W base args ds gs before hval0 hW hcnd _
  have hval : ∀ (j : Nat) t v, Try.f4.params[j]? = some t → args[j]? = some v → Value.okWide Try.prog W .any base t v := hval0
  have hW' := hW
  obtain ⟨p, q, hA0, hV, rfl, hfz, hnd⟩ := hW
  have hA : DataW.TrodAll enc Try.prog W 0 (fun _ => true) true Try.f4.params.toList args.toList ds p := hA0
  rw [Try.params4] at hA hval
  obtain ⟨v0, vs0, d0, ds0, p0, q0, hargs, rfl, rfl, h0, r0⟩ := trodAll_cons hA
  obtain ⟨v1, vs1, d1, ds1, p1, q1, rfl, rfl, rfl, h1, r1⟩ := trodAll_cons r0
  obtain ⟨rfl, rfl, rfl⟩ := trodAll_nil r1
  obtain rfl : args = #[v0, v1] := by cases args; simp_all
  obtain ⟨rfl, rfl⟩ := trodVars_none hV
  have kk0 := h0
  have lt0 : ∀ x ∈ p0, x.block < W.heap.size := by obtain ⟨m, hm⟩ := kk0; exact DataW.trod_lt m _ _ _ hm
  obtain ⟨n0, a0, len0, cap0, q0, rfl, w0⟩ := log_read Try.underlying24 (by kernel_rfl) (by kernel_rfl) Try.underlying2 Try.underlying22 Try.underlying34 (by kernel_rfl) (by kernel_rfl) Try.underlying2 Try.underlying2 Try.underlying9 (hval 0 24 v0 rfl rfl) h0
  have kk1 := h1
  have lt1 : ∀ x ∈ p1, x.block < W.heap.size := by obtain ⟨m, hm⟩ := kk1; exact DataW.trod_lt m _ _ _ hm
  obtain ⟨k1, j1, x1, rfl, w1⟩ := job_read Try.underlying34 (by kernel_rfl) (by kernel_rfl) Try.underlying2 Try.underlying2 Try.underlying9 (hval 1 34 v1 rfl rfl) h1
  clear hA0 hval0
  refine (walk n0 a0 len0 cap0 q0 k1 j1 x1 W w0 w1).mono fun e W' ⟨he, bel⟩ => ?_
  subst he
  exact ⟨_, rfl, _, _, _, [], _, [], hW', trodAll_mk1 (shut_bool Try.underlying4 _), (trodAll_cons_mk (Below.trod laidOut (by kernel_rfl) (of_decide_eq_true (by kernel_rfl)) kk0 bel lt0) (trodAll_cons_mk (Below.trod laidOut (by kernel_rfl) (of_decide_eq_true (by kernel_rfl)) kk1 bel lt1) trodAll_mk0)), rfl, bel.frame _, fun h => by cases h⟩

theorem over : Rows.fnExactAddedRow.holds Try.pinned (OpenSpec.ofChange Rows.fnExactAddedSpec) :=
  OpenClaim.holds_of_wide 4 Try.f4 rfl rfl rfl rfl rfl rfl rfl ⟨rfl, rfl, rfl, rfl, rfl⟩ rfl rfl rfl rfl rfl (by kernel_rfl) Try.func4 (by kernel_rfl)
    (of_decide_eq_true (by kernel_rfl)) (by unfold Func.isWrapper; first | (rw [if_pos (by decide +kernel)]; kernel_rfl) | (rw [if_neg (by decide +kernel)]; exact ⟨rfl, rfl⟩))
    (fun os started H enc _ => lifted os started H enc)

/-- ████ THE STATEMENT ████ -/
theorem proved : Rows.FnExactAddedSaid := over
#print axioms proved
end Go.Proofs.Ytckkcimkfhhacaa.fnExactAdded
