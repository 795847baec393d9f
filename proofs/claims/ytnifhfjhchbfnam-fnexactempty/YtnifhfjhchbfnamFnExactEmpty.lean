/- For every Chip the law FnExactEmpty returns true and leaves its argument as it was; no condition. -/
import Derived.Test.YtnifhfjhchbfnamRows
import Derived.Test.YtnifhfjhchbfnamChipBase
import Derived.Test.YtnifhfjhchbfnamChipEq
import Derived.Test.YtnifhfjhchbfnamChipMark
import Derived.Test.YtnifhfjhchbfnamWalkM
import Derived.Test.YtnifhfjhchbfnamWearSpecF
import Derived.Test.YtnifhfjhchbfnamWearImplD
import Derived.Deep.RegionWith
import Derived.Deep.DeepCutAuto
import Derived.WalkKit
import Derived.ProofKit
import Derived.OpenShut
import Derived.ShutString
import Derived.ChangeOld
import Derived.Below
namespace Go.Proofs.Ytnifhfjhchbfnam.fnExactEmpty
open Go.ChangeShapes Go.WideShapes Go.ChangeAt Go.RowKit
open Go.ChangeMaps (open_string shut_string)
set_option linter.unusedVariables false

theorem own : ownKnob Try.prog.godebug = none := by kernel_rfl
theorem laidOut : laidOutB Try.prog = true := by kernel_rfl

set_option maxHeartbeats 8000000 in

theorem walk (n0 : Int) (a0 : Option Addr) (len0 cap0 : Nat) (q0 : List Sq) (w : World) (w0 : (Lit.int .i64 n0).wf = true ∧ Squares 0 w.heap.size w a0 len0 q0 ∧ (∀ x ∈ q0, sqFits x) ∧ len0 ≤ maxLen) :
    Calls Try.prog 7 #[.agg #[.int .i64 n0, .slice a0 len0 cap0]] w fun e w' => e = .returned (.bool true) ∧ Below w.heap.size w w' := by
  obtain ⟨_, hsq, hfi, hm⟩ := w0
  obtain ⟨wA, hwA⟩ : ∃ wA, wA = w.alloc (.cells #[.int .i64 n0, .slice a0 len0 cap0] 24) := ⟨_, rfl⟩
  have hzA : wA.heap.size = w.heap.size + 1 := by rw [hwA]; simp
  have HBA : Hid (Below w.heap.size w wA) := by rw [hwA]; exact (Below.refl _ _).alloc (Nat.le_refl _) _
  have HO : Hid (wA.heap[w.heap.size]? = some (.cells #[.int .i64 n0, .slice a0 len0 cap0] 24)) := by rw [hwA]; exact heap_new _ _
  have HSQ := hide (hsq.later HBA.out (Nat.le_refl _))
  have HF := hide hfi
  have HM := hide hm
  clear hsq hfi hm
  obtain ⟨c0, c1⟩ := two_cells HO.out
  go_enter Try.func7, Try.ntmps7
  go_wp2_with fail
  rw [← hwA]
  clear hwA
  refine (szChip_any n0 a0 len0 cap0 q0 1048576 wA HSQ.out (by omega) HM.out HF.out (by omega) (by omega)).mono ?_
  rintro e w1 ⟨⟨r, rfl, r1, r2, hr⟩, b1⟩
  have HO1 := hide (block_on HO.out b1)
  have HS1 := hide (HSQ.out.later b1 (by omega))
  have HB1 := hide (below_here HBA.out b1)
  have hs1 := b1.size
  clear b1 HO HSQ HBA c0 c1
  by_cases h0 : 0 ≤ r
  · have hfit : len0 + weight q0 ≤ 1048576 := by have := hr h0; omega
    clear hr
    obtain ⟨c0, c1⟩ := two_cells HO1.out
    go_wp2_with fail
    refine (toChip_any n0 a0 len0 cap0 q0 w1 HS1.out (by omega) hfit).mono ?_
    rintro e w2 ⟨aa, rfl, o2, b2⟩
    have HO2 := hide (block_on HO1.out b2)
    have HS2 := hide (HS1.out.later b2 (by omega))
    have HB2 := hide (below_here HB1.out b2)
    have HW2 := hide o2
    have hs2 := b2.size
    clear b2 o2 HO1 HS1 HB1 c0 c1
    go_wp2_with fail
    refine (specEmpty_any n0 aa len0 len0 q0 w2 HW2.out.squares (Nat.le_refl _) (by omega) HF.out).mono ?_
    rintro e w3 ⟨p3, m3, k3, rfl, hk3, hm3, o3, b3⟩
    have HO3 := hide (block_on HO2.out b3)
    have HS3 := hide (HS2.out.later b3 (by omega))
    have HB3 := hide (below_here HB2.out b3)
    have HE3 := hide o3
    have hs3 := b3.size
    clear b3 o3 HW2 HO2 HS2 HB2
    obtain ⟨c0, c1⟩ := two_cells HO3.out
    go_wp2_with fail
    refine (toChip_any n0 a0 len0 cap0 q0 w3 HS3.out (by omega) hfit).mono ?_
    rintro e w4 ⟨a4, rfl, o4, b4⟩
    obtain ⟨wX, hwX⟩ : ∃ wX, wX = w4.alloc (.cells #[.int .i64 n0, .slice a4 len0 len0] 31) := ⟨_, rfl⟩
    have hzX : wX.heap.size = w4.heap.size + 1 := by rw [hwX]; simp
    have HBX : Hid (Below w4.heap.size w4 wX) := by rw [hwX]; exact (Below.refl _ _).alloc (Nat.le_refl _) _
    have HX4 : Hid (wX.heap[w4.heap.size]? = some (.cells #[.int .i64 n0, .slice a4 len0 len0] 31)) := by rw [hwX]; exact heap_new _ _
    have HO4 := hide (block_on (block_on HO3.out b4) HBX.out)
    have HS4 := hide ((HS3.out.later b4 (by omega)).later HBX.out (by have := b4.size; omega))
    have HB4 := hide (below_here (below_here HB3.out b4) HBX.out)
    have HW4 := hide (o4.later HBX.out (Nat.le_refl _))
    have HE4 := hide ((HE3.out.later b4 (Nat.le_refl _)).later HBX.out b4.size)
    have hs4 := b4.size
    clear b4 o4 HO3 HS3 HB3 HE3 c0 c1 HBX
    obtain ⟨d0, d1⟩ := two_cells HX4.out
    rw [hwX] at d0 d1
    go_wp2_with fail
    rw [← hwX]
    clear hwX d0 d1
    refine (implEmpty_any n0 a4 len0 len0 q0 wX HW4.out.squares (by omega) (by omega) HF.out).mono ?_
    rintro e w5 ⟨p5, m5, k5, rfl, hk5, hm5, o5, b5⟩
    have HO5 := hide (block_on HO4.out b5)
    have HX5 := hide (block_on HX4.out b5)
    have HS5 := hide (HS4.out.later b5 (by omega))
    have HB5 := hide (below_here HB4.out b5)
    have HW5 := hide (HW4.out.later b5 (by omega))
    have HE5 := hide (HE4.out.later b5 (by omega))
    have HG5 := hide o5
    have hs5 := b5.size
    clear b5 o5 HO4 HX4 HS4 HB4 HW4 HE4
    obtain ⟨L, hL⟩ : ∃ L, L = emptyL n0 q0 := ⟨_, rfl⟩
    rw [← hL] at HE5 HG5
    have HL := hide hL
    clear hL
    go_wp2_with fail
    refine (eq_any p5 m5 k5 L p3 m3 k3 L w5 HG5.out.ints HE5.out.ints (by omega) (by omega)).mono ?_
    rintro e w6 ⟨rfl, b6⟩
    have HO6 := hide (block_on HO5.out b6)
    have HX6 := hide (block_on HX5.out b6)
    have HS6 := hide (HS5.out.later b6 (by omega))
    have HB6 := hide (below_here HB5.out b6)
    have HW6 := hide (HW5.out.later b6 (by omega))
    have HE6 := hide (HE5.out.later b6 (by omega))
    have HG6 := hide (HG5.out.later b6 (Nat.le_refl _))
    have hs6 := b6.size
    clear b6 HO5 HX5 HS5 HB5 HW5 HE5 HG5
    obtain ⟨c0, c1⟩ := two_cells HO6.out
    obtain ⟨d0, d1⟩ := two_cells HX6.out
    have HW6d := hide (HW6.out.later (Below.refl w6.heap.size w6).drew (by omega))
    go_upto_region 10 with fail
    go_cut [31] (fun c wx => c = .bool false ∧ Below w6.heap.size w6 wx)
    case first =>
      go_region_with (first
        | (go_at_call 12; refine (toChip_any n0 a0 len0 cap0 q0 _ (by exact HS6.out) (by show w.heap.size ≤ w6.heap.size; omega) hfit).mono ?_; rintro e w8 ⟨a8, rfl, o8, b8⟩; have HX8 := hide (block_on (w := w6.drew) HX6.out b8); have HB8 := hide (((Below.refl w6.heap.size w6).drew).trans b8); have HW8 := hide (HW6d.out.later b8 (by show w4.heap.size ≤ w6.heap.size; omega)); have HV8 := hide o8; have hs8 : w6.heap.size ≤ w8.heap.size := b8.size; clear o8 b8; obtain ⟨e0, e1⟩ := two_cells HX8.out)
        | (go_at_call 15; refine (eqChip_same n0 a4 a8 len0 len0 len0 q0 _ (by exact HW8.out.squares) (by exact HV8.out.squares) (by omega) (by omega) hfit).mono ?_; rintro e w9 ⟨rfl, b9⟩; have HB9 := hide (below_here HB8.out b9); clear b9))
      all_goals
        go_wp2_with fail
        go_meet
        exact ⟨rfl, HB9.out⟩
    case rest =>
      obtain ⟨rfl, hbw⟩ := hcut
      obtain ⟨w7, hw7⟩ : ∃ w7, w7 = wc := ⟨_, rfl⟩
      subst hw7
      have HO7 := hide (block_on HO6.out hbw)
      have HX7 := hide (block_on HX6.out hbw)
      have HS7 := hide (HS6.out.later hbw (by omega))
      have HB7 := hide (below_here HB6.out hbw)
      have HW7 := hide (HW6.out.later hbw (by omega))
      have HE7 := hide (HE6.out.later hbw (by omega))
      have HG7 := hide (HG6.out.later hbw (by omega))
      have hs7 := hbw.size
      clear hbw HO6 HX6 HS6 HB6 HW6 HE6 HG6 HW6d c0 c1 d0 d1
      obtain ⟨d0, d1⟩ := two_cells HX7.out
      obtain ⟨gg, off, A, C, P, hown⟩ := HW7.out
      go_wp2_with fail
      refine (markChip_any n0 a4 len0 len0 q0 w7 hown hfit).mono ?_
      rintro e w8 ⟨rfl, _, s8⟩
      have HO8 : Hid (w8.heap[w.heap.size]? = some (.cells #[.int .i64 n0, .slice a0 len0 cap0] 24)) := (s8.block w.heap.size (by omega) (.inl (by omega))).trans HO7.out
      have HS8 := hide (HS7.out.later (s8.below (B := w.heap.size) (by omega) (by omega)) (Nat.le_refl _))
      have HB8 := hide (HB7.out.trans (s8.below (B := w.heap.size) (by omega) (by omega)))
      have HE8 := hide (HE7.out.aside s8 (.inl (by omega)))
      have HG8 := hide (HG7.out.aside s8 (.inr (by omega)))
      have hs8 := s8.size
      clear s8 hown HO7 HX7 HS7 HB7 HW7 HE7 HG7 d0 d1
      obtain ⟨t, ht⟩ : ∃ t, t = 1 + lens q0 + 2 * len0 := ⟨_, rfl⟩
      rw [← ht]
      have ht0 : decide ((t : Int) < 0) = false := by simp
      clear ht
      go_wp2_with fail
      refine (eq_any p5 m5 k5 L p3 m3 k3 L w8 HG8.out.ints HE8.out.ints (by omega) (by omega)).mono ?_
      rintro e w9 ⟨rfl, b9⟩
      have HO9 := hide (block_on HO8.out b9)
      have HS9 := hide (HS8.out.later b9 (by omega))
      have HB9 := hide (below_here HB8.out b9)
      have HE9 := hide (HE8.out.later b9 (by omega))
      have HG9 := hide (HG8.out.later b9 (by omega))
      have hs9 := b9.size
      clear b9 HO8 HS8 HB8 HE8 HG8 ht0
      go_wp2_with fail
      refine (mark_any p5 m5 k5 L 1 w9 HG9.out (by omega) (by omega) (by omega)).mono ?_
      rintro e x1 ⟨rfl, g1, s1⟩
      have HOa : Hid (x1.heap[w.heap.size]? = some (.cells #[.int .i64 n0, .slice a0 len0 cap0] 24)) := (s1.block w.heap.size (by omega) (.inl (by omega))).trans HO9.out
      have HSa := hide (HS9.out.later (s1.below (B := w.heap.size) (by omega) (by omega)) (Nat.le_refl _))
      have HBa := hide (HB9.out.trans (s1.below (B := w.heap.size) (by omega) (by omega)))
      have HEa := hide (HE9.out.aside s1 (.inl (by omega)))
      have HGa := hide g1
      have hsa := s1.size
      clear s1 g1 HO9 HS9 HB9 HE9 HG9
      go_wp2_with fail
      refine (held_any p5 m5 k5 1 x1 HGa.out.ints (by omega) (by omega) (by omega)).mono ?_
      rintro e x2 ⟨rfl, rfl⟩
      have hq0 : decide ((1 : Int) + (m5 : Int) < 0) = false := by simp; omega
      obtain ⟨c0, c1⟩ := two_cells HOa.out
      go_wp2_with fail
      refine (toChip_any n0 a0 len0 cap0 q0 x1 HSa.out (by omega) hfit).mono ?_
      rintro e x3 ⟨a9, rfl, o9, b9⟩
      have HBb := hide (below_here HBa.out b9)
      have HEb := hide (HEa.out.later b9 (by omega))
      have HGb := hide (HGa.out.later b9 (by omega))
      have HWb := hide o9
      have hsb := b9.size
      clear b9 o9 HOa HSa HBa HEa HGa c0 c1
      go_wp2_with fail
      refine (implEmpty_any n0 a9 len0 len0 q0 x3 HWb.out.squares (Nat.le_refl _) (by omega) HF.out).mono ?_
      rintro e x4 ⟨p6, m6, k6, rfl, hk6, hm6, o6, b6⟩
      have HBc := hide (below_here HBb.out b6)
      have HEc := hide (HEb.out.later b6 (by omega))
      have HGc := hide (HGb.out.later b6 (by omega))
      have HHc := hide o6
      have hsc := b6.size
      clear b6 o6 HBb HEb HGb HWb
      rw [← HL.out] at HHc
      go_wp2_with fail
      refine (eq_any p6 m6 k6 L p3 m3 k3 L x4 HHc.out.ints HEc.out.ints (by omega) (by omega)).mono ?_
      rintro e x5 ⟨rfl, b5⟩
      have HBd := hide (below_here HBc.out b5)
      have HGd := hide (HGc.out.later b5 (by omega))
      clear b5 HBc HEc HGc HHc
      go_wp2_with fail
      refine (held_any p5 m5 k5 1 x5 HGd.out.ints (by omega) (by omega) (by omega)).mono ?_
      rintro e x6 ⟨rfl, rfl⟩
      go_wp2_with fail
      go_ret
      exact ⟨rfl, HBd.out⟩
  · clear hr
    go_wp2_with fail
    go_ret
    exact ⟨rfl, HB1.out⟩

/-! ### THE ROW's STEP: WRITTEN OUT: LEAVE IT -/
set_option maxRecDepth 100000 in
theorem lifted (os : Os) (started : os.Started) (H : Type) (enc : TypeId × Value → H) :
    ReturnsInHanded {} Try.checked os 7 .any (Rows.fnExactEmptySpec.pre6 enc Try.prog Try.f7 Rows.fnExactEmptyRow.domain false) (Rows.fnExactEmptySpec.post enc Try.prog Try.f7 false true false false) := by
  refine returnsInHanded_of_change (C := Try.checked) own started (by kernel_rfl) Try.func7
    (ChangeSpec.witness6 (enc := enc) (C := Try.checked) false ⟨#[], #[.agg #[.int .i64 0, .slice none 0 0]], []⟩ 8 (by kernel_rfl) (by kernel_rfl) (by kernel_rfl) (by kernel_rfl)) ?_
  intro W base args ds gs before hval0 hW hcnd _
  have hval : ∀ (j : Nat) t v, Try.f7.params[j]? = some t → args[j]? = some v → Value.okWide Try.prog W .any base t v := hval0
  have hW' := hW
  obtain ⟨p, q, hA0, hV, rfl, hfz, hnd⟩ := hW
  have hA : DataW.TrodAll enc Try.prog W 0 (fun _ => true) true Try.f7.params.toList args.toList ds p := hA0
  rw [Try.params7] at hA hval
  obtain ⟨v0, vs0, d0, ds0, p0, q0, hargs, rfl, rfl, h0, r0⟩ := trodAll_cons hA
  obtain ⟨rfl, rfl, rfl⟩ := trodAll_nil r0
  obtain rfl : args = #[v0] := by cases args; simp_all
  obtain ⟨rfl, rfl⟩ := trodVars_none hV
  have kk0 := h0
  have lt0 : ∀ x ∈ p0, x.block < W.heap.size := by obtain ⟨m, hm⟩ := kk0; exact DataW.trod_lt m _ _ _ hm
  obtain ⟨n0, a0, len0, cap0, q0, rfl, w0⟩ := chip_read Try.underlying24 (by kernel_rfl) (by kernel_rfl) Try.underlying2 Try.underlying22 Try.underlying95 (by kernel_rfl) (by kernel_rfl) Try.underlying66 Try.underlying9 (by kernel_rfl) Try.underlying2 Try.underlying4 (hval 0 24 v0 rfl rfl) h0
  clear hA0 hval0
  refine (walk n0 a0 len0 cap0 q0 W w0).mono fun e W' ⟨he, bel⟩ => ?_
  subst he
  exact ⟨_, rfl, _, _, _, [], _, [], hW', trodAll_mk1 (shut_bool Try.underlying4 _), (trodAll_cons_mk (Below.trod laidOut (by kernel_rfl) (of_decide_eq_true (by kernel_rfl)) kk0 bel lt0) trodAll_mk0), rfl, bel.frame _, fun h => by cases h⟩

theorem over : Rows.fnExactEmptyRow.holds Try.pinned (OpenSpec.ofChange Rows.fnExactEmptySpec) :=
  OpenClaim.holds_of_wide 7 Try.f7 rfl rfl rfl rfl rfl rfl rfl ⟨rfl, rfl, rfl, rfl, rfl⟩ rfl rfl rfl rfl rfl (by kernel_rfl) Try.func7 (by kernel_rfl)
    (of_decide_eq_true (by kernel_rfl)) (by unfold Func.isWrapper; first | (rw [if_pos (by decide +kernel)]; kernel_rfl) | (rw [if_neg (by decide +kernel)]; exact ⟨rfl, rfl⟩))
    (fun os started H enc _ => lifted os started H enc)

/-- ████ THE STATEMENT ████ -/
theorem proved : Rows.FnExactEmptySaid := over
#print axioms proved
end Go.Proofs.Ytnifhfjhchbfnam.fnExactEmpty
