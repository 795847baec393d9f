/- For every two Pages the law FnExactNewer returns true and leaves its arguments as they were; no condition. -/
import Derived.Test.YtbgjagmnpfcfaalRows
import Derived.Test.YtbgjagmnpfcfaalPageBase
import Derived.Test.YtbgjagmnpfcfaalPageLawW
import Derived.Deep.RegionWith
import Derived.Deep.DeepCutAuto
import Derived.WalkKit
import Derived.ProofKit
import Derived.OpenShut
import Derived.ShutString
import Derived.ChangeOld
import Derived.Below
namespace Go.Proofs.Ytbgjagmnpfcfaal.fnExactNewer
open Go.ChangeShapes Go.WideShapes Go.ChangeAt Go.RowKit
open Go.ChangeMaps (open_string shut_string)
set_option linter.unusedVariables false

theorem own : ownKnob Try.prog.godebug = none := by kernel_rfl
theorem laidOut : laidOutB Try.prog = true := by kernel_rfl

set_option maxHeartbeats 4000000 in

theorem walk (k0 a0 s0 : Int) (x0 : ByteArray) (k1 a1 s1 : Int) (x1 : ByteArray) (w : World) (w0 : (Lit.int .i64 k0).wf = true ∧ (Lit.int .i64 a0).wf = true ∧ (Lit.int .i64 s0).wf = true ∧ x0.size ≤ maxLen) (w1 : (Lit.int .i64 k1).wf = true ∧ (Lit.int .i64 a1).wf = true ∧ (Lit.int .i64 s1).wf = true ∧ x1.size ≤ maxLen) :
    Calls Try.prog 3 #[.agg #[.int .i64 k0, .int .i64 a0, .int .i64 s0, .string x0], .agg #[.int .i64 k1, .int .i64 a1, .int .i64 s1, .string x1]] w fun e w' => e = .returned (.bool true) ∧ Below w.heap.size w w' := by
  obtain ⟨_, _, _, hx⟩ := w0
  obtain ⟨_, _, _, hy⟩ := w1
  have HT := hide (TwoP.made w k0 a0 s0 k1 a1 s1 x0 x1)
  by_cases ha : (x0.size : Int) ≤ 1048576
  · have hd : decide ((1048576 : Int) - (x0.size : Int) < 0) = false := by simp; omega
    by_cases hb : (x1.size : Int) ≤ 1048576 - (x0.size : Int)
    · have hd2 : decide ((1048576 : Int) - (x0.size : Int) - (x1.size : Int) < 0) = false := by simp; omega
      go_enter Try.func3, Try.ntmps3
      go_wp2_with fail
      refine (szPage_in k0 a0 s0 x0 1048576 _ (by omega) (by omega)).mono ?_
      rintro e w1 ⟨rfl, b1⟩
      have HT1 := hide (HT.out.on b1)
      clear b1 HT
      obtain ⟨d0, d1, d2, d3⟩ := four_cells HT1.out.2.1
      go_wp2_with fail
      refine (szPage_in k1 a1 s1 x1 (1048576 - (x0.size : Int)) _ (by omega) (by omega)).mono ?_
      rintro e w2 ⟨rfl, b2⟩
      have HT2 := hide (HT1.out.on b2)
      clear b2 HT1 d0 d1 d2 d3
      have HTA := HT2
      obtain ⟨c0, c1, c2, c3⟩ := four_cells HTA.out.1
      obtain ⟨d0, d1, d2, d3⟩ := four_cells HTA.out.2.1
      go_upto_region 8 with fail
      go_cut [6] (fun c wx => c = .bool (decide (s1 < s0)) ∧ TwoP w k0 a0 s0 x0 k1 a1 s1 x1 wx)
      case first =>
        go_region_with (first
          | (go_at_call 6; refine (toPage_first (by exact HTA.out.drewN 1)).mono ?_; rintro e w3 ⟨rfl, t3⟩; have HT3 := hide t3; obtain ⟨e0, e1, e2, e3⟩ := four_cells t3.2.1; clear t3)
          | (go_at_call 6; refine (toPage_second (by first | exact HT3.out | exact HT3.out.drewN 1)).mono ?_; rintro e w4 ⟨rfl, t4⟩; have HT4 := hide t4; clear t4)
          | (go_at_call 5; refine (specNewer_any _ _ _ _ _ _ _ _ _).mono ?_; rintro e w5 ⟨rfl, b5⟩; have HT5 := hide (HT4.out.on b5); clear b5))
        all_goals
          go_wp2_with fail
          go_meet
          exact ⟨rfl, HT5.out⟩
      case rest =>
        obtain ⟨rfl, ht⟩ := hcut
        clear c0 c1 c2 c3 d0 d1 d2 d3 HT2 HTA
        have HTA := hide ht
        clear ht
        obtain ⟨c0, c1, c2, c3⟩ := four_cells HTA.out.1
        obtain ⟨d0, d1, d2, d3⟩ := four_cells HTA.out.2.1
        go_upto_region 9 with fail
        go_cut [7] (fun c wx => c = .bool (decide (s1 < s0)) ∧ TwoP w k0 a0 s0 x0 k1 a1 s1 x1 wx)
        case first =>
          go_region_with (first
            | (go_at_call 6; refine (toPage_first (by exact HTA.out.drewN 1)).mono ?_; rintro e w3 ⟨rfl, t3⟩; have HT3 := hide t3; obtain ⟨e0, e1, e2, e3⟩ := four_cells t3.2.1; clear t3)
            | (go_at_call 6; refine (toPage_second (by first | exact HT3.out | exact HT3.out.drewN 1)).mono ?_; rintro e w4 ⟨rfl, t4⟩; have HT4 := hide t4; clear t4)
            | (go_at_call 7; refine (implNewer_any _ _ _ _ _ _ _ _ _).mono ?_; rintro e w5 ⟨rfl, b5⟩; have HT5 := hide (HT4.out.on b5); clear b5))
          all_goals
            go_wp2_with fail
            go_meet
            exact ⟨rfl, HT5.out⟩
        case rest =>
          obtain ⟨rfl, ht⟩ := hcut
          have HB := hide ht.2.2
          clear c0 c1 c2 c3 d0 d1 d2 d3 HTA ht
          go_wp2_with fail
          go_ret
          exact ⟨rfl, HB.out⟩
    · have hd2 : decide ((1048576 : Int) - (x0.size : Int) - (x1.size : Int) < 0) = true := by simp; omega
      go_enter Try.func3, Try.ntmps3
      go_wp2_with fail
      refine (szPage_in k0 a0 s0 x0 1048576 _ (by omega) (by omega)).mono ?_
      rintro e w1 ⟨rfl, b1⟩
      have HT1 := hide (HT.out.on b1)
      clear b1 HT
      obtain ⟨d0, d1, d2, d3⟩ := four_cells HT1.out.2.1
      go_wp2_with fail
      refine (szPage_over k1 a1 s1 x1 (1048576 - (x0.size : Int)) _ (by omega) (by omega) hy).mono ?_
      rintro e w2 ⟨rfl, b2⟩
      have HB := hide (HT1.out.on b2).2.2
      clear b2 HT1 d0 d1 d2 d3
      go_wp2_with fail
      go_ret
      exact ⟨rfl, HB.out⟩
  · go_enter Try.func3, Try.ntmps3
    go_wp2_with fail
    refine (szPage_over k0 a0 s0 x0 1048576 _ (by omega) (by omega) hx).mono ?_
    rintro e w1 ⟨rfl, b1⟩
    have HB := hide (HT.out.on b1).2.2
    clear b1 HT
    go_wp2_with fail
    go_ret
    exact ⟨rfl, HB.out⟩

/-! ### THE ROW's STEP: WRITTEN OUT: LEAVE IT -/
set_option maxRecDepth 100000 in
theorem lifted (os : Os) (started : os.Started) (H : Type) (enc : TypeId × Value → H) :
    ReturnsInHanded {} Try.checked os 3 .any (Rows.fnExactNewerSpec.pre6 enc Try.prog Try.f3 Rows.fnExactNewerRow.domain false) (Rows.fnExactNewerSpec.post enc Try.prog Try.f3 false true false false) := by
  refine returnsInHanded_of_change (C := Try.checked) own started (by kernel_rfl) Try.func3
    (ChangeSpec.witness6 (enc := enc) (C := Try.checked) false ⟨#[], #[.agg #[.int .i64 0, .int .i64 0, .int .i64 0, .string ByteArray.empty], .agg #[.int .i64 0, .int .i64 0, .int .i64 0, .string ByteArray.empty]], []⟩ 8 (by kernel_rfl) (by kernel_rfl) (by kernel_rfl) (by kernel_rfl)) ?_
  intro W base args ds gs before hval0 hW hcnd _
  have hval : ∀ (j : Nat) t v, Try.f3.params[j]? = some t → args[j]? = some v → Value.okWide Try.prog W .any base t v := hval0
  have hW' := hW
  obtain ⟨p, q, hA0, hV, rfl, hfz, hnd⟩ := hW
  have hA : DataW.TrodAll enc Try.prog W 0 (fun _ => true) true Try.f3.params.toList args.toList ds p := hA0
  rw [Try.params3] at hA hval
  obtain ⟨v0, vs0, d0, ds0, p0, q0, hargs, rfl, rfl, h0, r0⟩ := trodAll_cons hA
  obtain ⟨v1, vs1, d1, ds1, p1, q1, rfl, rfl, rfl, h1, r1⟩ := trodAll_cons r0
  obtain ⟨rfl, rfl, rfl⟩ := trodAll_nil r1
  obtain rfl : args = #[v0, v1] := by cases args; simp_all
  obtain ⟨rfl, rfl⟩ := trodVars_none hV
  have kk0 := h0
  have lt0 : ∀ x ∈ p0, x.block < W.heap.size := by obtain ⟨m, hm⟩ := kk0; exact DataW.trod_lt m _ _ _ hm
  obtain ⟨k0, a0, s0, x0, rfl, w0⟩ := page_read Try.underlying23 (by kernel_rfl) (by kernel_rfl) Try.underlying2 Try.underlying2 Try.underlying2 Try.underlying9 (hval 0 23 v0 rfl rfl) h0
  have kk1 := h1
  have lt1 : ∀ x ∈ p1, x.block < W.heap.size := by obtain ⟨m, hm⟩ := kk1; exact DataW.trod_lt m _ _ _ hm
  obtain ⟨k1, a1, s1, x1, rfl, w1⟩ := page_read Try.underlying23 (by kernel_rfl) (by kernel_rfl) Try.underlying2 Try.underlying2 Try.underlying2 Try.underlying9 (hval 1 23 v1 rfl rfl) h1
  clear hA0 hval0
  refine (walk k0 a0 s0 x0 k1 a1 s1 x1 W w0 w1).mono fun e W' ⟨he, bel⟩ => ?_
  subst he
  exact ⟨_, rfl, _, _, _, [], _, [], hW', trodAll_mk1 (shut_bool Try.underlying4 _), (trodAll_cons_mk (Below.trod laidOut (by kernel_rfl) (of_decide_eq_true (by kernel_rfl)) kk0 bel lt0) (trodAll_cons_mk (Below.trod laidOut (by kernel_rfl) (of_decide_eq_true (by kernel_rfl)) kk1 bel lt1) trodAll_mk0)), rfl, bel.frame _, fun h => by cases h⟩

theorem over : Rows.fnExactNewerRow.holds Try.pinned (OpenSpec.ofChange Rows.fnExactNewerSpec) :=
  OpenClaim.holds_of_wide 3 Try.f3 rfl rfl rfl rfl rfl rfl rfl ⟨rfl, rfl, rfl, rfl, rfl⟩ rfl rfl rfl rfl rfl (by kernel_rfl) Try.func3 (by kernel_rfl)
    (of_decide_eq_true (by kernel_rfl)) (by unfold Func.isWrapper; first | (rw [if_pos (by decide +kernel)]; kernel_rfl) | (rw [if_neg (by decide +kernel)]; exact ⟨rfl, rfl⟩))
    (fun os started H enc _ => lifted os started H enc)

/-- ████ THE STATEMENT ████ -/
theorem proved : Rows.FnExactNewerSaid := over
#print axioms proved
end Go.Proofs.Ytbgjagmnpfcfaal.fnExactNewer
