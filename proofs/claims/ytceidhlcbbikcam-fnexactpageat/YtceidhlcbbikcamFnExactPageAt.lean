/- For every Chip and every two numbers the law FnExactPageAt returns true and leaves its arguments as they were; no condition. -/
import Derived.Test.YtceidhlcbbikcamRows
import Derived.Test.YtceidhlcbbikcamChipBase
import Derived.Test.YtceidhlcbbikcamChipAns
import Derived.Deep.RegionWith
import Derived.Deep.DeepCutAuto
import Derived.WalkKit
import Derived.ProofKit
import Derived.OpenShut
import Derived.ShutString
import Derived.ChangeOld
import Derived.Below
namespace Go.Proofs.Ytceidhlcbbikcam.fnExactPageAt
open Go.ChangeShapes Go.WideShapes Go.ChangeAt Go.RowKit
open Go.ChangeMaps (open_string shut_string)
set_option linter.unusedVariables false

theorem own : ownKnob Try.prog.godebug = none := by kernel_rfl
theorem laidOut : laidOutB Try.prog = true := by kernel_rfl

set_option maxHeartbeats 4000000 in

theorem walk (n0 : Int) (a0 : Option Addr) (len0 cap0 : Nat) (q0 : List Sq) (a1 : Int) (a2 : Int) (w : World) (w0 : (Lit.int .i64 n0).wf = true ∧ Squares 0 w.heap.size w a0 len0 q0 ∧ (∀ x ∈ q0, sqFits x) ∧ len0 ≤ maxLen) (w1 : (Lit.int .i64 a1).wf = true) (w2 : (Lit.int .i64 a2).wf = true) :
    Calls Try.prog 4 #[.agg #[.int .i64 n0, .slice a0 len0 cap0], .int .i64 a1, .int .i64 a2] w fun e w' => e = .returned (.bool true) ∧ Below w.heap.size w w' := by
  obtain ⟨_, hsq, hfi, hm⟩ := w0
  obtain ⟨wA, hwA⟩ : ∃ wA, wA = w.alloc (.cells #[.int .i64 n0, .slice a0 len0 cap0] 24) := ⟨_, rfl⟩
  have hzA : wA.heap.size = w.heap.size + 1 := by rw [hwA]; simp
  have HBA : Hid (Below w.heap.size w wA) := by rw [hwA]; exact (Below.refl _ _).alloc (Nat.le_refl _) _
  have HO : Hid (wA.heap[w.heap.size]? = some (.cells #[.int .i64 n0, .slice a0 len0 cap0] 24)) := by rw [hwA]; exact heap_new _ _
  have HSQ := hide (hsq.later HBA.out (Nat.le_refl _))
  have HF := hide hfi
  have HM := hide hm
  clear hsq hfi hm
  obtain ⟨c0, c1⟩ := two_cells HO.out
  go_enter Try.func4, Try.ntmps4
  go_wp2_with fail
  rw [← hwA]
  clear hwA
  refine (szChip_any n0 a0 len0 cap0 q0 1048576 wA HSQ.out (by omega) HM.out HF.out (by omega) (by omega)).mono ?_
  rintro e w1 ⟨⟨r, rfl, r1, r2, hr⟩, b1⟩
  have HO1 := hide (block_on HO.out b1)
  have HS1 := hide (HSQ.out.later b1 (by omega))
  have HB1 := hide (below_here HBA.out b1)
  have hs1 := b1.size
  clear b1 HO HSQ HBA c0 c1
  by_cases h0 : 0 ≤ r
  · have hfit : len0 + weight q0 ≤ 1048576 := by have := hr h0; omega
    have HTW : Hid (∀ x ∈ q0, ∀ s ∈ x.1, s.size ≤ 1048576) := fun x hx s hs => by have := text_weight hx hs; omega
    clear hr
    obtain ⟨c0, c1⟩ := two_cells HO1.out
    go_wp2_with fail
    refine (toChip_any n0 a0 len0 cap0 q0 w1 HS1.out (by omega) hfit).mono ?_
    rintro e w2 ⟨aa, rfl, o2, b2⟩
    have HO2 := hide (block_on HO1.out b2)
    have HS2 := hide (HS1.out.later b2 (by omega))
    have HB2 := hide (below_here HB1.out b2)
    have HW2 := hide o2
    have hs2 := b2.size
    clear b2 o2 HO1 HS1 HB1 c0 c1
    go_wp2_with fail
    refine (specPageAt_any n0 aa len0 len0 q0 a1 a2 w2 HW2.out.squares (Nat.le_refl _) (by omega) HF.out).mono ?_
    rintro e w3 ⟨rfl, b3⟩
    have HO3 := hide (block_on HO2.out b3)
    have HS3 := hide (HS2.out.later b3 (by omega))
    have HB3 := hide (below_here HB2.out b3)
    have hs3 := b3.size
    clear b3 HW2 HO2 HS2 HB2
    obtain ⟨c0, c1⟩ := two_cells HO3.out
    go_wp2_with fail
    refine (toChip_any n0 a0 len0 cap0 q0 w3 HS3.out (by omega) hfit).mono ?_
    rintro e w4 ⟨a4, rfl, o4, b4⟩
    obtain ⟨wX, hwX⟩ : ∃ wX, wX = w4.alloc (.cells #[.int .i64 n0, .slice a4 len0 len0] 31) := ⟨_, rfl⟩
    have hzX : wX.heap.size = w4.heap.size + 1 := by rw [hwX]; simp
    have HBX : Hid (Below w4.heap.size w4 wX) := by rw [hwX]; exact (Below.refl _ _).alloc (Nat.le_refl _) _
    have HX4 : Hid (wX.heap[w4.heap.size]? = some (.cells #[.int .i64 n0, .slice a4 len0 len0] 31)) := by rw [hwX]; exact heap_new _ _
    have HO4 := hide (block_on (block_on HO3.out b4) HBX.out)
    have HS4 := hide ((HS3.out.later b4 (by omega)).later HBX.out (by have := b4.size; omega))
    have HB4 := hide (below_here (below_here HB3.out b4) HBX.out)
    have HW4 := hide (o4.later HBX.out (Nat.le_refl _))
    have hs4 := b4.size
    clear b4 o4 HO3 HS3 HB3 c0 c1 HBX
    obtain ⟨d0, d1⟩ := two_cells HX4.out
    rw [hwX] at d0 d1
    go_wp2_with fail
    rw [← hwX]
    clear hwX d0 d1
    refine (implPageAt_any n0 a4 len0 len0 q0 a1 a2 wX HW4.out.squares (by omega) (by omega) HF.out HTW.out).mono ?_
    rintro e w5 ⟨rfl, b5⟩
    have HO5 := hide (block_on HO4.out b5)
    have HX5 := hide (block_on HX4.out b5)
    have HS5 := hide (HS4.out.later b5 (by omega))
    have HB5 := hide (below_here HB4.out b5)
    have HW5 := hide (HW4.out.later b5 (by omega))
    have hs5 := b5.size
    clear b5 HO4 HX4 HS4 HB4 HW4
    obtain ⟨c0, c1⟩ := two_cells HO5.out
    obtain ⟨d0, d1⟩ := two_cells HX5.out
    have HW5d := hide (HW5.out.later (Below.refl w5.heap.size w5).drew (by omega))
    go_upto_region 10 with fail
    go_cut [34] (fun c wx => c = .bool false ∧ Below w.heap.size w wx)
    case first =>
      go_region_with (first
        | (go_at_call 12; refine (toChip_any n0 a0 len0 cap0 q0 _ (by exact HS5.out) (by show w.heap.size ≤ w5.heap.size; omega) hfit).mono ?_; rintro e w6 ⟨a6, rfl, o6, b6⟩; have HX6 := hide (block_on (w := w5.drew) HX5.out b6); have HB6 := hide (below_here (HB5.out.drew) b6); have HW6 := hide (HW5d.out.later b6 (by show w4.heap.size ≤ w5.heap.size; omega)); have HV6 := hide o6; have hs6 : w5.heap.size ≤ w6.heap.size := b6.size; clear o6 b6; obtain ⟨e0, e1⟩ := two_cells HX6.out)
        | (go_at_call 15; refine (eqChip_same n0 a4 a6 len0 len0 len0 q0 _ (by exact HW6.out.squares) (by exact HV6.out.squares) (by omega) (by omega) hfit).mono ?_; rintro e w7 ⟨rfl, b7⟩; have HB7 := hide (below_here HB6.out b7); clear b7))
      all_goals
        go_wp2_with fail
        go_meet
        exact ⟨rfl, HB7.out⟩
    case rest =>
      obtain ⟨rfl, hbw⟩ := hcut
      have HB := hide hbw
      clear hbw
      go_wp2_with fail
      go_ret
      exact ⟨rfl, HB.out⟩
  · clear hr
    go_wp2_with fail
    go_ret
    exact ⟨rfl, HB1.out⟩

/-! ### THE ROW's STEP: WRITTEN OUT: LEAVE IT -/
set_option maxRecDepth 100000 in
theorem lifted (os : Os) (started : os.Started) (H : Type) (enc : TypeId × Value → H) :
    ReturnsInHanded {} Try.checked os 4 .any (Rows.fnExactPageAtSpec.pre6 enc Try.prog Try.f4 Rows.fnExactPageAtRow.domain false) (Rows.fnExactPageAtSpec.post enc Try.prog Try.f4 false true false false) := by
  refine returnsInHanded_of_change (C := Try.checked) own started (by kernel_rfl) Try.func4
    (ChangeSpec.witness6 (enc := enc) (C := Try.checked) false ⟨#[], #[.agg #[.int .i64 0, .slice none 0 0], .int .i64 0, .int .i64 0], []⟩ 8 (by kernel_rfl) (by kernel_rfl) (by kernel_rfl) (by kernel_rfl)) ?_
  intro W base args ds gs before hval0 hW hcnd _
  have hval : ∀ (j : Nat) t v, Try.f4.params[j]? = some t → args[j]? = some v → Value.okWide Try.prog W .any base t v := hval0
  have hW' := hW
  obtain ⟨p, q, hA0, hV, rfl, hfz, hnd⟩ := hW
  have hA : DataW.TrodAll enc Try.prog W 0 (fun _ => true) true Try.f4.params.toList args.toList ds p := hA0
  rw [Try.params4] at hA hval
  obtain ⟨v0, vs0, d0, ds0, p0, q0, hargs, rfl, rfl, h0, r0⟩ := trodAll_cons hA
  obtain ⟨v1, vs1, d1, ds1, p1, q1, rfl, rfl, rfl, h1, r1⟩ := trodAll_cons r0
  obtain ⟨v2, vs2, d2, ds2, p2, q2, rfl, rfl, rfl, h2, r2⟩ := trodAll_cons r1
  obtain ⟨rfl, rfl, rfl⟩ := trodAll_nil r2
  obtain rfl : args = #[v0, v1, v2] := by cases args; simp_all
  obtain ⟨rfl, rfl⟩ := trodVars_none hV
  have kk0 := h0
  have lt0 : ∀ x ∈ p0, x.block < W.heap.size := by obtain ⟨m, hm⟩ := kk0; exact DataW.trod_lt m _ _ _ hm
  obtain ⟨n0, a0, len0, cap0, q0, rfl, w0⟩ := chip_read Try.underlying24 (by kernel_rfl) (by kernel_rfl) Try.underlying2 Try.underlying22 Try.underlying95 (by kernel_rfl) (by kernel_rfl) Try.underlying66 Try.underlying9 (by kernel_rfl) Try.underlying2 Try.underlying4 (hval 0 24 v0 rfl rfl) h0
  obtain ⟨a1, rfl, rfl, rfl, w1⟩ := open_int Try.underlying2 (hval 1 2 v1 rfl rfl) h1
  obtain ⟨a2, rfl, rfl, rfl, w2⟩ := open_int Try.underlying2 (hval 2 2 v2 rfl rfl) h2
  clear hA0 hval0
  refine (walk n0 a0 len0 cap0 q0 a1 a2 W w0 w1 w2).mono fun e W' ⟨he, bel⟩ => ?_
  subst he
  exact ⟨_, rfl, _, _, _, [], _, [], hW', trodAll_mk1 (shut_bool Try.underlying4 _), (trodAll_cons_mk (Below.trod laidOut (by kernel_rfl) (of_decide_eq_true (by kernel_rfl)) kk0 bel lt0) (trodAll_cons_mk (shut_int Try.underlying2 w1) (trodAll_cons_mk (shut_int Try.underlying2 w2) trodAll_mk0))), rfl, bel.frame _, fun h => by cases h⟩

theorem over : Rows.fnExactPageAtRow.holds Try.pinned (OpenSpec.ofChange Rows.fnExactPageAtSpec) :=
  OpenClaim.holds_of_wide 4 Try.f4 rfl rfl rfl rfl rfl rfl rfl ⟨rfl, rfl, rfl, rfl, rfl⟩ rfl rfl rfl rfl rfl (by kernel_rfl) Try.func4 (by kernel_rfl)
    (of_decide_eq_true (by kernel_rfl)) (by unfold Func.isWrapper; first | (rw [if_pos (by decide +kernel)]; kernel_rfl) | (rw [if_neg (by decide +kernel)]; exact ⟨rfl, rfl⟩))
    (fun os started H enc _ => lifted os started H enc)

/-- ████ THE STATEMENT ████ -/
theorem proved : Rows.FnExactPageAtSaid := over
#print axioms proved
end Go.Proofs.Ytceidhlcbbikcam.fnExactPageAt
