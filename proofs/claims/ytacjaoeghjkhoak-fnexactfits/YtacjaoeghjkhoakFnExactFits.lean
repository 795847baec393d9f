/- For every slice of texts and every int64 the law FnExactFits returns true and leaves its arguments as they were; no condition. -/
import Derived.Test.YtacjaoeghjkhoakRows
import Derived.Test.YtacjaoeghjkhoakReadBase
import Derived.Test.YtacjaoeghjkhoakSpareSpec4
import Derived.Test.YtacjaoeghjkhoakSpareImplC
import Derived.WalkKit
import Derived.ProofKit
import Derived.OpenShut
import Derived.ShutString
import Derived.ChangeOld
import Derived.Below
namespace Go.Proofs.Ytacjaoeghjkhoak.fnExactFits
open Go.ChangeShapes Go.WideShapes Go.ChangeAt Go.RowKit
open Go.ChangeMaps (open_string shut_string)
set_option linter.unusedVariables false

theorem own : ownKnob Try.prog.godebug = none := by kernel_rfl
theorem laidOut : laidOutB Try.prog = true := by kernel_rfl


theorem walk (a0 : Option Addr) (len0 cap0 : Nat) (z0 : List ByteArray) (a1 : Int) (w : World) (w0 : Texts 0 w.heap.size w a0 len0 z0 ∧ (∀ s ∈ z0, s.size ≤ maxLen) ∧ len0 ≤ maxLen) (w1 : (Lit.int .i64 a1).wf = true) :
    Calls Try.prog 6 #[.slice a0 len0 cap0, .int .i64 a1] w fun e w' => e = .returned (.bool true) ∧ Below w.heap.size w w' := by
  obtain ⟨hT, hsz, hm⟩ := w0
  obtain ⟨a1', ha1'⟩ : ∃ x, x = a1 := ⟨_, rfl⟩
  rw [← ha1'] at w1 ⊢
  clear ha1' a1
  have HW1 := hide w1
  clear w1
  have HT := hide hT
  have HS := hide (szT_any a0 len0 cap0 z0 w hT hm hsz)
  clear hT hsz hm
  go_enter Try.func6, Try.ntmps6
  go_wp2_with fail
  refine HS.out.mono ?_
  rintro e w1 ⟨⟨r, rfl, r1, r2, hr⟩, rfl⟩
  clear HS
  by_cases h0 : 0 ≤ r
  · have htot := hr h0
    have hn : len0 ≤ 1048576 := by omega
    have HZ : Hid (∀ s ∈ z0, s.size ≤ 1048576) := fun s hs => by have := total_le hs; omega
    clear hr htot
    go_wp2_with fail
    refine (toT_any a0 len0 cap0 z0 w HT.out hn).mono ?_
    rintro e w1 ⟨a1, rfl, o1, b1⟩
    have HO1 := hide o1
    have HB1 := hide b1
    clear o1 b1
    go_wp2_with fail
    refine (specFits_any a1 len0 len0 z0 a1' w1 HO1.out.texts hn (Nat.le_refl _) HW1.out HZ.out).mono ?_
    rintro e w2 ⟨rfl, b2⟩
    have HB2 := hide (below_here HB1.out b2)
    clear b2 HO1 HB1
    go_wp2_with fail
    refine (toT_any a0 len0 cap0 z0 w2 (HT.out.later HB2.out (Nat.le_refl _)) hn).mono ?_
    rintro e w3 ⟨a3, rfl, o3, b3⟩
    have HO3 := hide o3
    have HB3 := hide (below_here HB2.out b3)
    clear o3 b3 HB2
    go_wp2_with fail
    refine (implFits_any a3 len0 len0 z0 a1' w3 HO3.out.texts hn (Nat.le_refl _) HW1.out HZ.out).mono ?_
    rintro e w4 ⟨rfl, b4⟩
    have HO4 := hide (HO3.out.later b4 (Nat.le_refl _))
    have HB4 := hide (below_here HB3.out b4)
    clear b4 HO3 HB3
    go_wp2_with fail
    refine (toT_any a0 len0 cap0 z0 w4 (HT.out.later HB4.out (Nat.le_refl _)) hn).mono ?_
    rintro e w5 ⟨a5, rfl, o5, b5⟩
    have HO5 := hide o5
    have HO45 := hide (HO4.out.later b5 HO4.out.2.1)
    have HB5 := hide (below_here HB4.out b5)
    clear o5 b5 HO4 HB4
    go_wp2_with fail
    refine (eqT_any a3 len0 len0 z0 a5 len0 len0 z0 w5 HO45.out.texts HO5.out.texts hn hn).mono ?_
    rintro e w6 ⟨rfl, b6⟩
    have HB6 := hide (below_here HB5.out b6)
    clear b6
    go_wp2_with fail
    go_ret
    exact ⟨rfl, HB6.out⟩
  · clear hr
    go_wp2_with fail
    go_ret
    exact ⟨rfl, Below.refl _ _⟩

/-! ### THE ROW's STEP: WRITTEN OUT: LEAVE IT -/
set_option maxRecDepth 100000 in
theorem lifted (os : Os) (started : os.Started) (H : Type) (enc : TypeId × Value → H) :
    ReturnsInHanded {} Try.checked os 6 .any (Rows.fnExactFitsSpec.pre6 enc Try.prog Try.f6 Rows.fnExactFitsRow.domain false) (Rows.fnExactFitsSpec.post enc Try.prog Try.f6 false true false false) := by
  refine returnsInHanded_of_change (C := Try.checked) own started (by kernel_rfl) Try.func6
    (ChangeSpec.witness6 (enc := enc) (C := Try.checked) false ⟨#[], #[.slice none 0 0, .int .i64 0], []⟩ 8 (by kernel_rfl) (by kernel_rfl) (by kernel_rfl) (by kernel_rfl)) ?_
  intro W base args ds gs before hval0 hW hcnd _
  have hval : ∀ (j : Nat) t v, Try.f6.params[j]? = some t → args[j]? = some v → Value.okWide Try.prog W .any base t v := hval0
  have hW' := hW
  obtain ⟨p, q, hA0, hV, rfl, hfz, hnd⟩ := hW
  have hA : DataW.TrodAll enc Try.prog W 0 (fun _ => true) true Try.f6.params.toList args.toList ds p := hA0
  rw [Try.params6] at hA hval
  obtain ⟨v0, vs0, d0, ds0, p0, q0, hargs, rfl, rfl, h0, r0⟩ := trodAll_cons hA
  obtain ⟨v1, vs1, d1, ds1, p1, q1, rfl, rfl, rfl, h1, r1⟩ := trodAll_cons r0
  obtain ⟨rfl, rfl, rfl⟩ := trodAll_nil r1
  obtain rfl : args = #[v0, v1] := by cases args; simp_all
  obtain ⟨rfl, rfl⟩ := trodVars_none hV
  obtain ⟨a0, len0, cap0, rfl⟩ := okWide_slice Try.underlying22 (hval 0 22 v0 rfl rfl)
  have k0 := h0
  have lt0 : ∀ x ∈ p0, x.block < W.heap.size := by obtain ⟨m, hm⟩ := k0; exact DataW.trod_lt m _ _ _ hm
  obtain ⟨z0, w0⟩ := texts_read Try.underlying22 Try.underlying9 (by kernel_rfl) h0
  obtain ⟨a1, rfl, rfl, rfl, w1⟩ := open_int Try.underlying2 (hval 1 2 v1 rfl rfl) h1
  clear hA0 hval0
  refine (walk a0 len0 cap0 z0 a1 W w0 w1).mono fun e W' ⟨he, bel⟩ => ?_
  subst he
  exact ⟨_, rfl, _, _, _, [], _, [], hW', trodAll_mk1 (shut_bool Try.underlying4 _), (trodAll_cons_mk (Below.trod laidOut (by kernel_rfl) (of_decide_eq_true (by kernel_rfl)) k0 bel lt0) (trodAll_cons_mk (shut_int Try.underlying2 w1) trodAll_mk0)), rfl, bel.frame _, fun h => by cases h⟩

theorem over : Rows.fnExactFitsRow.holds Try.pinned (OpenSpec.ofChange Rows.fnExactFitsSpec) :=
  OpenClaim.holds_of_wide 6 Try.f6 rfl rfl rfl rfl rfl rfl rfl ⟨rfl, rfl, rfl, rfl, rfl⟩ rfl rfl rfl rfl rfl (by kernel_rfl) Try.func6 (by kernel_rfl)
    (of_decide_eq_true (by kernel_rfl)) (by unfold Func.isWrapper; first | (rw [if_pos (by decide +kernel)]; kernel_rfl) | (rw [if_neg (by decide +kernel)]; exact ⟨rfl, rfl⟩))
    (fun os started H enc _ => lifted os started H enc)

/-- ████ THE STATEMENT ████ -/
theorem proved : Rows.FnExactFitsSaid := over
#print axioms proved
end Go.Proofs.Ytacjaoeghjkhoak.fnExactFits
