/- Chapter 19, the program: its small functions. -/
import Derived.Test.YtnemncmaaejajaaHistLin
namespace Go.Proofs.Ytnemncmaaejajaa
open Go.RowKit
set_option linter.unusedVariables false
set_option linter.unusedSimpArgs false
set_option maxRecDepth 20000

abbrev o9G (x : O9) : Value := .agg #[.int .i64 x.a, .bool x.w, .string x.t, .int .i64 x.b, .int .i64 x.e]
abbrev o9O (x : O9) (t : TypeId) : Obj := .cells #[.int .i64 x.a, .bool x.w, .string x.t, .int .i64 x.b, .int .i64 x.e] t
def endB (o : O9) : Bool := !decide (o.e = -1)
def aheadB (o x : O9) : Bool := !decide (o.e = -1) && decide (o.e < x.b)
theorem ret_of {a b : Bool} (h : a = b) : (Ending.returned (.bool a)) = .returned (.bool b) := by rw [h]
set_option maxHeartbeats 400000 in
theorem hasValue_any (z : Int) (w : World) : Calls Try.prog 45 #[.int .i64 z] w fun e w' => e = .returned (.bool (inB z 0 2)) ∧ w = w' := by
  by_cases h1 : 0 ≤ z
  · have HE : Hid (inB z 0 2 = decide (z < 3)) := by show _ = _; simp only [inB, h1, decide_true, Bool.true_and]; congr 1; apply propext; omega
    have g1 : decide (0 ≤ z) = true := by simpa using h1
    go_enter Try.func45, Try.ntmps45
    go_wp2_with fail
    go_ret
    exact ⟨ret_of HE.out.symm, rfl⟩
  · have HE : Hid (inB z 0 2 = false) := by show _ = _; simp [inB, h1]
    have g1 : decide (0 ≤ z) = false := by simpa using h1
    go_enter Try.func45, Try.ntmps45
    go_wp2_with fail
    go_ret
    exact ⟨ret_of HE.out.symm, rfl⟩
set_option maxHeartbeats 400000 in
theorem isNumberOf_any (a : Option Addr) (n cap : Nat) (z : Int) (w : World) (hn : n ≤ 1000) : Calls Try.prog 34 #[.slice a n cap, .int .i64 z] w fun e w' => e = .returned (.bool (inB z 0 ((n : Int) - 1))) ∧ w = w' := by
  by_cases h1 : 0 ≤ z
  · have HE : Hid (inB z 0 ((n : Int) - 1) = decide (z < (n : Int))) := by show _ = _; simp only [inB, h1, decide_true, Bool.true_and]; congr 1; apply propext; omega
    have g1 : decide (0 ≤ z) = true := by simpa using h1
    go_enter Try.func34, Try.ntmps34
    go_wp2_with fail
    go_ret
    exact ⟨ret_of HE.out.symm, rfl⟩
  · have HE : Hid (inB z 0 ((n : Int) - 1) = false) := by show _ = _; simp [inB, h1]
    have g1 : decide (0 ≤ z) = false := by simpa using h1
    go_enter Try.func34, Try.ntmps34
    go_wp2_with fail
    go_ret
    exact ⟨ret_of HE.out.symm, rfl⟩
set_option maxHeartbeats 400000 in
theorem hasEnd_any (x : O9) (w : World) : Calls Try.prog 46 #[o9G x] w fun e w' => e = .returned (.bool (endB x)) ∧ Below w.heap.size w w' := by
  obtain ⟨wA, hwA⟩ : ∃ wA, wA = w.alloc (o9O x 45) := ⟨_, rfl⟩
  have HBA : Hid (Below w.heap.size w wA) := by rw [hwA]; exact (Below.refl _ _).alloc (Nat.le_refl _) _
  have H1 : Hid (wA.heap[w.heap.size]? = some (o9O x 45)) := by rw [hwA]; exact heap_new _ _
  obtain ⟨xa, xw, xt, xb, xe⟩ := x
  obtain ⟨c0, c1, c2, c3, c4⟩ := op9_cells H1.out
  dsimp only at c4
  have HQ : Hid ((xe != -1) = endB ⟨xa, xw, xt, xb, xe⟩) := by show _ = _; unfold endB; by_cases h : xe = -1 <;> simp [h]
  go_enter Try.func46, Try.ntmps46
  go_upto_region 1 with fail
  rw [← hwA]
  clear hwA
  go_wp2_with fail
  go_ret
  exact ⟨ret_of HQ.out, HBA.out⟩
set_option maxHeartbeats 800000 in
theorem isAhead_any (x y : O9) (w : World) : Calls Try.prog 35 #[o9G x, o9G y] w fun e w' => e = .returned (.bool (aheadB x y)) ∧ Below w.heap.size w w' := by
  obtain ⟨wA, hwA⟩ : ∃ wA, wA = (w.alloc (o9O x 45)).alloc (o9O y 45) := ⟨_, rfl⟩
  have HBA : Hid (Below w.heap.size w wA) := by rw [hwA]; exact ((Below.refl _ _).alloc (Nat.le_refl _) _).alloc (by simp) _
  have H1 : Hid (wA.heap[w.heap.size]? = some (o9O x 45)) := by rw [hwA]; exact heap_old (heap_new _ _)
  have H2 : Hid (wA.heap[w.heap.size + 1]? = some (o9O y 45)) := by rw [hwA]; exact heap_at (by simp)
  have HC := hide (hasEnd_any x wA)
  have HQ : ∀ q, Hid (endB x = q → aheadB x y = (q && decide (x.e < y.b))) := fun q h => by unfold aheadB; unfold endB at h; rw [h]
  obtain ⟨xa, xw, xt, xb, xe⟩ := x
  obtain ⟨ya, yw, yt, yb, ye⟩ := y
  obtain ⟨c0, c1, c2, c3, c4⟩ := op9_cells H1.out
  dsimp only at c0 c1 c2 c3 c4
  go_enter Try.func35, Try.ntmps35
  go_upto_region 1 with fail
  rw [← hwA]
  clear hwA
  go_wp2_with fail
  refine HC.out.mono ?_
  rintro e w1 ⟨rfl, b1⟩
  have HB1 := hide b1
  clear c0 c1 c2 c3 c4
  obtain ⟨c0, c1, c2, c3, c4⟩ := op9_cells (block_on H1.out b1)
  obtain ⟨d0, d1, d2, d3, d4⟩ := op9_cells (block_on H2.out b1)
  dsimp only at c4 d3
  clear b1 c0 c1 c2 c3 d0 d1 d2 d4
  obtain ⟨q, hq⟩ : ∃ q, endB ⟨xa, xw, xt, xb, xe⟩ = q := ⟨_, rfl⟩
  have HE := hide ((HQ q).out hq)
  rw [hq]
  cases q with
  | false =>
    go_wp2_with fail
    go_ret
    exact ⟨ret_of (by rw [HE.out]; rfl), below_here HBA.out HB1.out⟩
  | true =>
    go_wp2_with fail
    go_ret
    exact ⟨ret_of (by rw [HE.out]; rfl), below_here HBA.out HB1.out⟩
set_option maxHeartbeats 1600000 in
theorem isOp_any (x : O9) (w : World) : Calls Try.prog 30 #[o9G x] w fun e w' => e = .returned (.bool (o9Ok x)) ∧ Below w.heap.size w w' := by
  obtain ⟨wA, hwA⟩ : ∃ wA, wA = w.alloc (o9O x 45) := ⟨_, rfl⟩
  have HBA : Hid (Below w.heap.size w wA) := by rw [hwA]; exact (Below.refl _ _).alloc (Nat.le_refl _) _
  have H1 : Hid (wA.heap[w.heap.size]? = some (o9O x 45)) := by rw [hwA]; exact heap_new _ _
  have HC := hide (hasEnd_any x wA)
  have HQ : Hid (∀ p q r, inB x.a 0 2 = p → decide (0 ≤ x.b) = q → endB x = r → o9Ok x = (p && (q && (!r || decide (x.b < x.e))))) := fun p q r hp hq hr => by
    unfold o9Ok
    rw [hp]
    have e1 : (!decide (x.b < 0)) = q := by rw [← hq]; by_cases h : x.b < 0 <;> simp [h] <;> omega
    have e2 : decide (x.e = -1) = !r := by rw [← hr]; unfold endB; simp
    have e3 : (!decide (x.e ≤ x.b)) = decide (x.b < x.e) := by by_cases h : x.e ≤ x.b <;> simp [h] <;> omega
    rw [e1, e2, e3]
  obtain ⟨xa, xw, xt, xb, xe⟩ := x
  obtain ⟨c0, c1, c2, c3, c4⟩ := op9_cells H1.out
  dsimp only at c0 c1 c2 c3 c4
  go_enter Try.func30, Try.ntmps30
  go_upto_region 1 with fail
  rw [← hwA]
  clear hwA
  go_wp2_with fail
  refine (hasValue_any _ _).mono ?_
  rintro e w1 ⟨rfl, rfl⟩
  obtain ⟨p, hp⟩ : ∃ p, inB xa 0 2 = p := ⟨_, rfl⟩
  have HP := hide hp
  rw [hp]
  clear hp
  cases p with
  | false =>
    have HE : Hid (o9Ok ⟨xa, xw, xt, xb, xe⟩ = false) := by show _ = _; rw [HQ.out _ _ _ HP.out rfl rfl]; rfl
    go_wp2_with fail
    go_ret
    exact ⟨ret_of (by rw [HE.out]), HBA.out⟩
  | true =>
    by_cases h0 : 0 ≤ xb
    · have g0 : decide (0 ≤ xb) = true := decide_eq_true h0
      have G0 := hide g0
      clear h0
      go_wp2_with fail
      refine HC.out.mono ?_
      rintro e w2 ⟨rfl, b2⟩
      have HB2 := hide b2
      clear c0 c1 c2 c3 c4
      obtain ⟨c0, c1, c2, c3, c4⟩ := op9_cells (block_on H1.out b2)
      dsimp only at c3 c4
      clear b2 c0 c1 c2 g0
      obtain ⟨r, hr⟩ : ∃ r, endB ⟨xa, xw, xt, xb, xe⟩ = r := ⟨_, rfl⟩
      have HE : Hid (o9Ok ⟨xa, xw, xt, xb, xe⟩ = (!r || decide (xb < xe))) := by show _ = _; rw [HQ.out _ _ _ HP.out G0.out hr]; rfl
      rw [hr]
      clear hr
      cases r with
      | false =>
        go_wp2_with fail
        go_ret
        exact ⟨ret_of (by rw [HE.out]; rfl), below_here HBA.out HB2.out⟩
      | true =>
        go_wp2_with fail
        go_ret
        exact ⟨ret_of (by rw [HE.out]; rfl), below_here HBA.out HB2.out⟩
    · have g0 : decide (0 ≤ xb) = false := decide_eq_false h0
      have HE : Hid (o9Ok ⟨xa, xw, xt, xb, xe⟩ = false) := by show _ = _; rw [HQ.out _ _ _ HP.out g0 rfl]; rfl
      clear h0
      go_wp2_with fail
      go_ret
      exact ⟨ret_of (by rw [HE.out]), HBA.out⟩
end Go.Proofs.Ytnemncmaaejajaa
