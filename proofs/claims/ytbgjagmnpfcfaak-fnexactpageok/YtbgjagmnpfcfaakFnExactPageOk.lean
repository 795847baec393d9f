/- For every Page the law FnExactPageOk returns true and leaves its arguments as they were; no condition. -/
import Derived.Test.YtbgjagmnpfcfaakRows
import Derived.Test.YtbgjagmnpfcfaakPageBase
import Derived.Test.YtbgjagmnpfcfaakPageLawW
import Derived.Test.YtbgjagmnpfcfaakPageOkW
import Derived.WalkKit
import Derived.ProofKit
import Derived.OpenShut
import Derived.ShutString
import Derived.ChangeOld
import Derived.Below
namespace Go.Proofs.Ytbgjagmnpfcfaak.fnExactPageOk
open Go.ChangeShapes Go.WideShapes Go.ChangeAt Go.RowKit
open Go.ChangeMaps (open_string shut_string)
set_option linter.unusedVariables false

theorem own : ownKnob Try.prog.godebug = none := by kernel_rfl
theorem laidOut : laidOutB Try.prog = true := by kernel_rfl


theorem walk (k0 a0 s0 : Int) (x0 : ByteArray) (w : World) (w0 : (Lit.int .i64 k0).wf = true ∧ (Lit.int .i64 a0).wf = true ∧ (Lit.int .i64 s0).wf = true ∧ x0.size ≤ maxLen) :
    Calls Try.prog 7 #[.agg #[.int .i64 k0, .int .i64 a0, .int .i64 s0, .string x0]] w fun e w' => e = .returned (.bool true) ∧ Below w.heap.size w w' := by
  obtain ⟨_, _, _, hx⟩ := w0
  have HO := hide (heap_new w (.cells #[.int .i64 k0, .int .i64 a0, .int .i64 s0, .string x0] 47))
  have HZ := hide ((Below.refl w.heap.size w).alloc (Nat.le_refl _) (.cells #[.int .i64 k0, .int .i64 a0, .int .i64 s0, .string x0] 47))
  by_cases ha : x0.size ≤ 1048576
  · have hd : decide ((1048576 : Int) - (x0.size : Int) < 0) = false := by simp; omega
    go_enter Try.func7, Try.ntmps7
    go_wp2_with fail
    refine (szPage_in k0 a0 s0 x0 1048576 _ (by omega) (by omega)).mono ?_
    rintro e w1 ⟨rfl, b1⟩
    have H1 := hide (block_on HO.out b1)
    have HB1 := hide (below_here HZ.out b1)
    obtain ⟨c0, c1, c2, c3⟩ := four_cells H1.out
    clear b1 HO HZ
    go_wp2_with fail
    refine (toPage_any k0 a0 s0 x0 _).mono ?_
    rintro e w2 ⟨rfl, b2⟩
    have H2 := hide (block_on H1.out b2)
    have HB2 := hide (below_here HB1.out b2)
    clear b2 H1 HB1 c0 c1 c2 c3
    go_wp2_with fail
    refine (specPageOk_any k0 a0 s0 x0 _).mono ?_
    rintro e w3 ⟨rfl, b3⟩
    have H3 := hide (block_on H2.out b3)
    have HB3 := hide (below_here HB2.out b3)
    obtain ⟨c0, c1, c2, c3⟩ := four_cells H3.out
    clear b3 H2 HB2
    go_wp2_with fail
    refine (toPage_any k0 a0 s0 x0 _).mono ?_
    rintro e w4 ⟨rfl, b4⟩
    have HB4 := hide (below_here HB3.out b4)
    clear b4 H3 HB3 c0 c1 c2 c3
    go_wp2_with fail
    refine (implPageOk_any k0 a0 s0 x0 _).mono ?_
    rintro e w5 ⟨rfl, b5⟩
    have HB := hide (below_here HB4.out b5)
    clear b5 HB4
    go_wp2_with fail
    go_ret
    exact ⟨rfl, HB.out⟩
  · go_enter Try.func7, Try.ntmps7
    go_wp2_with fail
    refine (szPage_over k0 a0 s0 x0 1048576 _ (by omega) (by omega) hx).mono ?_
    rintro e w1 ⟨rfl, b1⟩
    have HB := hide (below_here HZ.out b1)
    clear b1 HO HZ
    go_wp2_with fail
    go_ret
    exact ⟨rfl, HB.out⟩

/-! ### THE ROW's STEP: WRITTEN OUT: LEAVE IT -/
set_option maxRecDepth 100000 in
theorem lifted (os : Os) (started : os.Started) (H : Type) (enc : TypeId × Value → H) :
    ReturnsInHanded {} Try.checked os 7 .any (Rows.fnExactPageOkSpec.pre6 enc Try.prog Try.f7 Rows.fnExactPageOkRow.domain false) (Rows.fnExactPageOkSpec.post enc Try.prog Try.f7 false true false false) := by
  refine returnsInHanded_of_change (C := Try.checked) own started (by kernel_rfl) Try.func7
    (ChangeSpec.witness6 (enc := enc) (C := Try.checked) false ⟨#[], #[.agg #[.int .i64 0, .int .i64 0, .int .i64 0, .string ByteArray.empty]], []⟩ 8 (by kernel_rfl) (by kernel_rfl) (by kernel_rfl) (by kernel_rfl)) ?_
  intro W base args ds gs before hval0 hW hcnd _
  have hval : ∀ (j : Nat) t v, Try.f7.params[j]? = some t → args[j]? = some v → Value.okWide Try.prog W .any base t v := hval0
  have hW' := hW
  obtain ⟨p, q, hA0, hV, rfl, hfz, hnd⟩ := hW
  have hA : DataW.TrodAll enc Try.prog W 0 (fun _ => true) true Try.f7.params.toList args.toList ds p := hA0
  rw [Try.params7] at hA hval
  obtain ⟨v0, vs0, d0, ds0, p0, q0, hargs, rfl, rfl, h0, r0⟩ := trodAll_cons hA
  obtain ⟨rfl, rfl, rfl⟩ := trodAll_nil r0
  obtain rfl : args = #[v0] := by cases args; simp_all
  obtain ⟨rfl, rfl⟩ := trodVars_none hV
  have kk0 := h0
  have lt0 : ∀ x ∈ p0, x.block < W.heap.size := by obtain ⟨m, hm⟩ := kk0; exact DataW.trod_lt m _ _ _ hm
  obtain ⟨k0, a0, s0, x0, rfl, w0⟩ := page_read Try.underlying47 (by kernel_rfl) (by kernel_rfl) Try.underlying2 Try.underlying2 Try.underlying2 Try.underlying9 (hval 0 47 v0 rfl rfl) h0
  clear hA0 hval0
  refine (walk k0 a0 s0 x0 W w0).mono fun e W' ⟨he, bel⟩ => ?_
  subst he
  exact ⟨_, rfl, _, _, _, [], _, [], hW', trodAll_mk1 (shut_bool Try.underlying4 _), (trodAll_cons_mk (Below.trod laidOut (by kernel_rfl) (of_decide_eq_true (by kernel_rfl)) kk0 bel lt0) trodAll_mk0), rfl, bel.frame _, fun h => by cases h⟩

theorem over : Rows.fnExactPageOkRow.holds Try.pinned (OpenSpec.ofChange Rows.fnExactPageOkSpec) :=
  OpenClaim.holds_of_wide 7 Try.f7 rfl rfl rfl rfl rfl rfl rfl ⟨rfl, rfl, rfl, rfl, rfl⟩ rfl rfl rfl rfl rfl (by kernel_rfl) Try.func7 (by kernel_rfl)
    (of_decide_eq_true (by kernel_rfl)) (by unfold Func.isWrapper; first | (rw [if_pos (by decide +kernel)]; kernel_rfl) | (rw [if_neg (by decide +kernel)]; exact ⟨rfl, rfl⟩))
    (fun os started H enc _ => lifted os started H enc)

/-- ████ THE STATEMENT ████ -/
theorem proved : Rows.FnExactPageOkSaid := over
#print axioms proved
end Go.Proofs.Ytbgjagmnpfcfaak.fnExactPageOk
