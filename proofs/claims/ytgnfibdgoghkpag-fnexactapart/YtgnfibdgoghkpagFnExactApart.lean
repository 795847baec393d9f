/- For every two slices of int64 the law FnExactApart returns true and leaves its arguments as they were; no condition. -/
import Derived.Test.YtgnfibdgoghkpagRows
import Derived.Test.YtgnfibdgoghkpagWalkP
import Derived.WalkKit
import Derived.ProofKit
import Derived.OpenShut
import Derived.ShutString
import Derived.ChangeOld
import Derived.Below
namespace Go.Proofs.Ytgnfibdgoghkpag.fnExactApart
open Go.ChangeShapes Go.WideShapes Go.ChangeAt Go.RowKit
open Go.ChangeMaps (open_string shut_string)
set_option linter.unusedVariables false

theorem own : ownKnob Try.prog.godebug = none := by kernel_rfl
theorem laidOut : laidOutB Try.prog = true := by kernel_rfl

/-- WHAT THE WALK IS TOLD OF A SLICE OF INTEGERS THAT CAME IN: it is nil; or it leads to a row of 'cap' cells, the numbers 'zs' (the first 'len' are its elements, the rest its spare room), each fitting its kind. -/
def IsRow (k : IntKind) (w : World) (a : Option Addr) (len cap : Nat) (zs : List Int) : Prop :=
  (a = none ∧ len = 0 ∧ cap = 0 ∧ zs = []) ∨
  ∃ x, a = some x ∧ len ≤ cap ∧ cap ≤ maxLen ∧ zs.length = cap ∧ (∀ i, i < zs.length → w.cell? (x.add i) = some (.int k (zs.getD i 0))) ∧ ∀ n ∈ zs, (Lit.int k n).wf = true

set_option maxHeartbeats 800000 in

theorem walk (a0 : Option Addr) (len0 cap0 : Nat) (z0 : List Int) (a1 : Option Addr) (len1 cap1 : Nat) (z1 : List Int) (w : World) (w0 : IsRow .i64 w a0 len0 cap0 z0) (w1 : IsRow .i64 w a1 len1 cap1 z1) :
    Calls Try.prog 6 #[.slice a0 len0 cap0, .slice a1 len1 cap1] w fun e w' => e = .returned (.bool true) ∧ Below w.heap.size w w' := by
  obtain ⟨xs, hA⟩ : ∃ xs, Ints 0 w.heap.size w a0 len0 xs := ⟨_, ints_of (by unfold IsRow at w0; exact w0)⟩
  obtain ⟨ys, hB⟩ : ∃ xs, Ints 0 w.heap.size w a1 len1 xs := ⟨_, ints_of (by unfold IsRow at w1; exact w1)⟩
  clear w0 w1
  by_cases hbig : len0 ≤ 1048576
  · by_cases hbig' : len1 ≤ 1048576
    · go_enter Try.func6, Try.ntmps6
      go_wp2_with fail
      refine (to_any a0 len0 cap0 xs w hA hbig).mono ?_
      rintro e x1 ⟨p1, rfl, o1, b1⟩
      go_wp2_with fail
      refine (to_any a1 len1 cap1 ys x1 (hB.later b1 (Nat.le_refl _)) hbig').mono ?_
      rintro e x2 ⟨p2, rfl, o2, b2⟩
      have B2 := below_here b1 b2
      go_wp2_with fail
      refine (specApart_any p1 len0 len0 xs p2 len1 len1 ys x2 (o1.later b2 (Nat.le_refl _)).ints o2.ints hbig hbig').mono ?_
      rintro e x3 ⟨rfl, b3⟩
      have B3 := below_here B2 b3
      go_wp2_with fail
      refine (to_any a0 len0 cap0 xs x3 (hA.later B3 (Nat.le_refl _)) hbig).mono ?_
      rintro e x4 ⟨p4, rfl, o4, b4⟩
      have B4 := below_here B3 b4
      go_wp2_with fail
      refine (to_any a1 len1 cap1 ys x4 (hB.later B4 (Nat.le_refl _)) hbig').mono ?_
      rintro e x5 ⟨p5, rfl, o5, b5⟩
      have B5 := below_here B4 b5
      have o45 := o4.later b5 (Nat.le_refl _)
      have s45 := b5.size
      go_wp2_with fail
      refine (implApart_any p4 len0 len0 xs p5 len1 len1 ys x5 o45.ints o5.ints hbig hbig' (Nat.le_refl _) (Nat.le_refl _)).mono ?_
      rintro e x6 ⟨rfl, b6⟩
      have B6 := below_here B5 b6
      have s56 := b6.size
      go_wp2_with fail
      refine (to_any a0 len0 cap0 xs x6 (hA.later B6 (Nat.le_refl _)) hbig).mono ?_
      rintro e x7 ⟨p7, rfl, o7, b7⟩
      have B7 := below_here B6 b7
      have s67 := b7.size
      have o47 := (o45.later b6 (by omega)).later b7 (by omega)
      have o57 := (o5.later b6 (by omega)).later b7 (by omega)
      go_wp2_with fail
      refine (eq_any p4 len0 len0 xs p7 len0 len0 xs x7 o47.ints o7.ints hbig hbig).mono ?_
      rintro e x8 ⟨rfl, b8⟩
      have B8 := below_here B7 b8
      have s78 := b8.size
      have o58 := o57.later b8 (by omega)
      go_wp2_with fail
      refine (to_any a1 len1 cap1 ys x8 (hB.later B8 (Nat.le_refl _)) hbig').mono ?_
      rintro e x9 ⟨p9, rfl, o9, b9⟩
      have B9 := below_here B8 b9
      have o59 := o58.later b9 (by omega)
      go_wp2_with fail
      refine (eq_any p5 len1 len1 ys p9 len1 len1 ys x9 o59.ints o9.ints hbig' hbig').mono ?_
      rintro e y1 ⟨rfl, ba⟩
      have Ba := below_here B9 ba
      go_wp2_with fail
      go_ret
      exact ⟨rfl, Ba⟩
    · go_enter Try.func6, Try.ntmps6
      go_wp2
      go_ret
      exact ⟨rfl, Below.refl _ _⟩
  · go_enter Try.func6, Try.ntmps6
    go_wp2
    go_ret
    exact ⟨rfl, Below.refl _ _⟩

/-! ### THE ROW's STEP: WRITTEN OUT: LEAVE IT -/
set_option maxRecDepth 100000 in
theorem lifted (os : Os) (started : os.Started) (H : Type) (enc : TypeId × Value → H) :
    ReturnsInHanded {} Try.checked os 6 .any (Rows.fnExactApartSpec.pre6 enc Try.prog Try.f6 Rows.fnExactApartRow.domain false) (Rows.fnExactApartSpec.post enc Try.prog Try.f6 false true false false) := by
  refine returnsInHanded_of_change (C := Try.checked) own started (by kernel_rfl) Try.func6
    (ChangeSpec.witness6 (enc := enc) (C := Try.checked) false ⟨#[], #[.slice none 0 0, .slice none 0 0], []⟩ 8 (by kernel_rfl) (by kernel_rfl) (by kernel_rfl) (by kernel_rfl)) ?_
  intro W base args ds gs before hval0 hW hcnd _
  have hval : ∀ (j : Nat) t v, Try.f6.params[j]? = some t → args[j]? = some v → Value.okWide Try.prog W .any base t v := hval0
  have hW' := hW
  obtain ⟨p, q, hA0, hV, rfl, hfz, hnd⟩ := hW
  have hA : DataW.TrodAll enc Try.prog W 0 (fun _ => true) true Try.f6.params.toList args.toList ds p := hA0
  rw [Try.params6] at hA hval
  obtain ⟨v0, vs0, d0, ds0, p0, q0, hargs, rfl, rfl, h0, r0⟩ := trodAll_cons hA
  obtain ⟨v1, vs1, d1, ds1, p1, q1, rfl, rfl, rfl, h1, r1⟩ := trodAll_cons r0
  obtain ⟨rfl, rfl, rfl⟩ := trodAll_nil r1
  obtain rfl : args = #[v0, v1] := by cases args; simp_all
  obtain ⟨rfl, rfl⟩ := trodVars_none hV
  obtain ⟨a0, len0, cap0, rfl⟩ := okWide_slice Try.underlying22 (hval 0 22 v0 rfl rfl)
  have k0 := h0
  have lt0 : ∀ x ∈ p0, x.block < W.heap.size := by obtain ⟨m, hm⟩ := k0; exact DataW.trod_lt m _ _ _ hm
  obtain ⟨z0, w0⟩ : ∃ zs, IsRow .i64 W a0 len0 cap0 zs := by
    obtain ⟨fuel, hf⟩ := h0
    rcases open_ints Try.underlying22 Try.underlying2 (by kernel_rfl) hf with ⟨hcs, _⟩ | ⟨x, l, c, zs, hcs, _, hl, hm, hz, _, hcell, hwz⟩
    · simp [Value.cells] at hcs
      obtain ⟨rfl, rfl, rfl⟩ := hcs
      exact ⟨[], .inl ⟨rfl, rfl, rfl, rfl⟩⟩
    · simp [Value.cells] at hcs
      obtain ⟨rfl, rfl, rfl⟩ := hcs
      exact ⟨zs, .inr ⟨_, rfl, hl, hm, by simpa using hz, hcell, hwz⟩⟩
  obtain ⟨a1, len1, cap1, rfl⟩ := okWide_slice Try.underlying22 (hval 1 22 v1 rfl rfl)
  have k1 := h1
  have lt1 : ∀ x ∈ p1, x.block < W.heap.size := by obtain ⟨m, hm⟩ := k1; exact DataW.trod_lt m _ _ _ hm
  obtain ⟨z1, w1⟩ : ∃ zs, IsRow .i64 W a1 len1 cap1 zs := by
    obtain ⟨fuel, hf⟩ := h1
    rcases open_ints Try.underlying22 Try.underlying2 (by kernel_rfl) hf with ⟨hcs, _⟩ | ⟨x, l, c, zs, hcs, _, hl, hm, hz, _, hcell, hwz⟩
    · simp [Value.cells] at hcs
      obtain ⟨rfl, rfl, rfl⟩ := hcs
      exact ⟨[], .inl ⟨rfl, rfl, rfl, rfl⟩⟩
    · simp [Value.cells] at hcs
      obtain ⟨rfl, rfl, rfl⟩ := hcs
      exact ⟨zs, .inr ⟨_, rfl, hl, hm, by simpa using hz, hcell, hwz⟩⟩
  clear hA0 hval0
  refine (walk a0 len0 cap0 z0 a1 len1 cap1 z1 W w0 w1).mono fun e W' ⟨he, bel⟩ => ?_
  subst he
  exact ⟨_, rfl, _, _, _, [], _, [], hW', trodAll_mk1 (shut_bool Try.underlying4 _), (trodAll_cons_mk (Below.trod laidOut (by kernel_rfl) (of_decide_eq_true (by kernel_rfl)) k0 bel lt0) (trodAll_cons_mk (Below.trod laidOut (by kernel_rfl) (of_decide_eq_true (by kernel_rfl)) k1 bel lt1) trodAll_mk0)), rfl, bel.frame _, fun h => by cases h⟩

theorem over : Rows.fnExactApartRow.holds Try.pinned (OpenSpec.ofChange Rows.fnExactApartSpec) :=
  OpenClaim.holds_of_wide 6 Try.f6 rfl rfl rfl rfl rfl rfl rfl ⟨rfl, rfl, rfl, rfl, rfl⟩ rfl rfl rfl rfl rfl (by kernel_rfl) Try.func6 (by kernel_rfl)
    (of_decide_eq_true (by kernel_rfl)) (by unfold Func.isWrapper; first | (rw [if_pos (by decide +kernel)]; kernel_rfl) | (rw [if_neg (by decide +kernel)]; exact ⟨rfl, rfl⟩))
    (fun os started H enc _ => lifted os started H enc)

/-- ████ THE STATEMENT ████ -/
theorem proved : Rows.FnExactApartSaid := over
#print axioms proved
end Go.Proofs.Ytgnfibdgoghkpag.fnExactApart
