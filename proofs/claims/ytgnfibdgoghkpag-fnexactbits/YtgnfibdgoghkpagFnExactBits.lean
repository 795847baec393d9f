/- For every text the law FnExactBits returns true and leaves its argument as it was; no condition. -/
import Derived.Test.YtgnfibdgoghkpagRows
import Derived.Test.YtgnfibdgoghkpagWalkB
import Derived.Test.YtgnfibdgoghkpagWalkS
import Derived.WalkKit
import Derived.ProofKit
import Derived.OpenShut
import Derived.ShutString
namespace Go.Proofs.Ytgnfibdgoghkpag.fnExactBits
open Go.ChangeShapes Go.WideShapes Go.ChangeAt Go.RowKit
open Go.ChangeMaps (open_string shut_string)
set_option linter.unusedVariables false      -- a walk need not use every 'w<i>' (that an integer argument fits its kind)

theorem own : ownKnob Try.prog.godebug = none := by kernel_rfl

set_option maxHeartbeats 800000 in

theorem walk (a0 : ByteArray) (w0 : a0.size ≤ maxLen) (w : World) :
    Calls Try.prog 3 #[.string a0] w fun e w' => e = .returned (.bool true) ∧ Below w.heap.size w w' := by
  by_cases hbig : a0.size ≤ 1048576
  · have HL := hide (bitsOf_len a0)
    go_enter Try.func3, Try.ntmps3
    go_wp2_with fail
    refine (specBits_any a0 w hbig).mono ?_
    rintro e x1 ⟨p1, n1, c1, rfl, hc1, o1, b1⟩
    have hn1 : n1 ≤ 4096 := by have := o1.1; have := HL.out; omega
    go_wp2_with fail
    refine (implBits_any a0 x1 hbig).mono ?_
    rintro e x2 ⟨p2, n2, c2, rfl, hc2, o2, b2⟩
    have hn2 : n2 ≤ 4096 := by have := o2.1; have := HL.out; omega
    have B2 := below_here b1 b2
    have s12 := b2.size
    have o12 := o1.later b2 (Nat.le_refl _)
    go_wp2_with fail
    refine (eq_any p2 n2 c2 _ p1 n1 c1 _ x2 o2.ints o12.ints (by omega) (by omega)).mono ?_
    rintro e x3 ⟨rfl, b3⟩
    have B3 := below_here B2 b3
    have s23 := b3.size
    have o13 := o12.later b3 (by omega)
    have o23 := o2.later b3 (by omega)
    go_wp2_with fail
    refine (mark_any p2 n2 c2 _ 1 x3 o23 (by omega) (by omega) (by omega)).mono ?_
    rintro e x4 ⟨rfl, o24, d4⟩
    have B4 : Below w.heap.size w x4 := B3.trans (d4.below b1.size B3.size)
    have o14 := o13.aside d4 (.inl (Nat.le_refl _))
    have s34 := d4.size
    go_wp2_with fail
    refine (held_any p2 n2 c2 1 x4 o24.ints (by omega) (by omega) (by omega)).mono ?_
    rintro e x5 ⟨rfl, rfl⟩
    go_wp2_with fail
    refine (implBits_any a0 x4 hbig).mono ?_
    rintro e x6 ⟨p6, n6, c6, rfl, hc6, o6, b6⟩
    have hn6 : n6 ≤ 4096 := by have := o6.1; have := HL.out; omega
    have B6 := below_here B4 b6
    have s46 := b6.size
    have o16 := o14.later b6 (by omega)
    have o26 := o24.later b6 (by omega)
    go_wp2_with fail
    refine (eq_any p6 n6 c6 _ p1 n1 c1 _ x6 o6.ints o16.ints (by omega) (by omega)).mono ?_
    rintro e x7 ⟨rfl, b7⟩
    have B7 := below_here B6 b7
    have o27 := o26.later b7 (by omega)
    go_wp2_with fail
    refine (held_any p2 n2 c2 1 x7 o27.ints (by omega) (by omega) (by omega)).mono ?_
    rintro e x8 ⟨rfl, rfl⟩
    go_wp2_with fail
    go_ret
    exact ⟨rfl, B7⟩
  · go_enter Try.func3, Try.ntmps3
    go_wp2
    go_ret
    exact ⟨rfl, Below.refl _ _⟩

/-! ### THE ROW's STEP: WRITTEN OUT: LEAVE IT -/
set_option maxRecDepth 100000 in
theorem lifted (os : Os) (started : os.Started) (H : Type) (enc : TypeId × Value → H) :
    ReturnsInHanded {} Try.checked os 3 .any (Rows.fnExactBitsSpec.pre6 enc Try.prog Try.f3 Rows.fnExactBitsRow.domain false) (Rows.fnExactBitsSpec.post enc Try.prog Try.f3 false true false false) := by
  refine returnsInHanded_of_change (C := Try.checked) own started (by kernel_rfl) Try.func3
    (ChangeSpec.witness6 (enc := enc) (C := Try.checked) false ⟨#[], #[.string ByteArray.empty], []⟩ 8 (by kernel_rfl) (by kernel_rfl) (by kernel_rfl) (by kernel_rfl)) ?_
  intro W base args ds gs before hval0 hW hcnd _
  have hval : ∀ (j : Nat) t v, Try.f3.params[j]? = some t → args[j]? = some v → Value.okWide Try.prog W .any base t v := hval0
  have hW' := hW
  obtain ⟨p, q, hA0, hV, rfl, hfz, hnd⟩ := hW
  have hA : DataW.TrodAll enc Try.prog W 0 (fun _ => true) true Try.f3.params.toList args.toList ds p := hA0
  rw [Try.params3] at hA hval
  obtain ⟨v0, vs0, d0, ds0, p0, q0, hargs, rfl, rfl, h0, r0⟩ := trodAll_cons hA
  obtain ⟨rfl, rfl, rfl⟩ := trodAll_nil r0
  obtain rfl : args = #[v0] := by cases args; simp_all
  obtain ⟨rfl, rfl⟩ := trodVars_none hV
  obtain ⟨a0, rfl, rfl, rfl, w0⟩ := open_string Try.underlying9 (hval 0 9 v0 rfl rfl) h0
  clear hA0 hval0
  simp only [List.append_nil] at hW'
  refine (walk a0 w0 W).mono fun e W' ⟨he, hg⟩ => ?_
  subst he
  exact ⟨_, rfl, _, _, _, [], [], [], hW', (trodAll_cons_mk (shut_bool Try.underlying4 _) trodAll_mk0), (trodAll_cons_mk (shut_string Try.underlying9 w0) trodAll_mk0), rfl, hg.frame _, fun h => by cases h⟩

theorem over : Rows.fnExactBitsRow.holds Try.pinned (OpenSpec.ofChange Rows.fnExactBitsSpec) :=
  OpenClaim.holds_of_wide 3 Try.f3 rfl rfl rfl rfl rfl rfl rfl ⟨rfl, rfl, rfl, rfl, rfl⟩ rfl rfl rfl rfl rfl (by kernel_rfl) Try.func3 (by kernel_rfl)
    (of_decide_eq_true (by kernel_rfl)) (by unfold Func.isWrapper; first | (rw [if_pos (by decide +kernel)]; kernel_rfl) | (rw [if_neg (by decide +kernel)]; exact ⟨rfl, rfl⟩))
    (fun os started H enc _ => lifted os started H enc)

/-- ████ THE STATEMENT ████ -/
theorem proved : Rows.FnExactBitsSaid :=
  over
#print axioms proved
end Go.Proofs.Ytgnfibdgoghkpag.fnExactBits
