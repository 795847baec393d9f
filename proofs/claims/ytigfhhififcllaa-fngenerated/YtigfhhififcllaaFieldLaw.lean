/- Plain facts of the second chapter, on numbers, and its functions' contracts told by them. -/
import Derived.Test.YtigfhhififcllaaFieldImpl
namespace Go.Proofs.Ytigfhhififcllaa
open Go.RowKit
set_option linter.unusedVariables false

theorem mulI_elem {x y : Int} (hx : elem x = true) (hy : elem y = true) : elem (mulI x y) = true := by
  obtain ⟨a, rfl, ha⟩ := elem_nat hx
  obtain ⟨b, rfl, hb⟩ := elem_nat hy
  rw [mulI_nat ha hb]; exact nat_elem (Field.mul_lt ha)
theorem sumI_elem {x y : Int} (hx : elem x = true) (hy : elem y = true) : elem (sumI x y) = true := by
  obtain ⟨a, rfl, ha⟩ := elem_nat hx
  obtain ⟨b, rfl, hb⟩ := elem_nat hy
  rw [sumI_nat ha hb]; exact nat_elem (Field.xor_lt ha hb)
theorem mulI_comm {x y : Int} (hx : elem x = true) (hy : elem y = true) : mulI y x = mulI x y := by
  obtain ⟨a, rfl, ha⟩ := elem_nat hx
  obtain ⟨b, rfl, hb⟩ := elem_nat hy
  rw [mulI_nat ha hb, mulI_nat hb ha, Field.mul_comm hb ha]
theorem sumI_self {x : Int} (hx : elem x = true) : sumI x x = 0 := by
  obtain ⟨a, rfl, ha⟩ := elem_nat hx
  rw [sumI_nat ha ha, Nat.xor_self]; rfl
theorem mulI_sumI {x y z : Int} (hx : elem x = true) (hy : elem y = true) (hz : elem z = true) : mulI x (sumI y z) = sumI (mulI x y) (mulI x z) := by
  obtain ⟨a, rfl, ha⟩ := elem_nat hx
  obtain ⟨b, rfl, hb⟩ := elem_nat hy
  obtain ⟨c, rfl, hc⟩ := elem_nat hz
  rw [sumI_nat hb hc, mulI_nat ha (Field.xor_lt hb hc), mulI_nat ha hb, mulI_nat ha hc, sumI_nat (Field.mul_lt ha) (Field.mul_lt ha), Field.mul_right]
theorem mulI_assoc {x y z : Int} (hx : elem x = true) (hy : elem y = true) (hz : elem z = true) : mulI (mulI x y) z = mulI x (mulI y z) := by
  obtain ⟨a, rfl, ha⟩ := elem_nat hx
  obtain ⟨b, rfl, hb⟩ := elem_nat hy
  obtain ⟨c, rfl, hc⟩ := elem_nat hz
  rw [mulI_nat ha hb, mulI_nat hb hc, mulI_nat (Field.mul_lt ha) hc, mulI_nat ha (Field.mul_lt hb), Field.mul_assoc ha hb hc]
theorem sumI_assoc {x y z : Int} (hx : elem x = true) (hy : elem y = true) (hz : elem z = true) : sumI (sumI x y) z = sumI x (sumI y z) := by
  obtain ⟨a, rfl, ha⟩ := elem_nat hx
  obtain ⟨b, rfl, hb⟩ := elem_nat hy
  obtain ⟨c, rfl, hc⟩ := elem_nat hz
  rw [sumI_nat ha hb, sumI_nat hb hc, sumI_nat (Field.xor_lt ha hb) hc, sumI_nat ha (Field.xor_lt hb hc), Nat.xor_assoc]
theorem over_mul {x y : Int} (hx : elem x = true) (hy : elem y = true) (h : y ≠ 0) : mulI (overI x y) y = x := by
  obtain ⟨a, rfl, ha⟩ := elem_nat hx
  obtain ⟨b, rfl, hb⟩ := elem_nat hy
  have h0 : b ≠ 0 := by omega
  rw [overI_nat ha hb h0, mulI_nat (Field.mul_lt ha) hb, Field.mul_assoc ha (Field.inv_lt hb) hb, Field.mul_comm (Field.inv_lt hb) hb, Field.mul_inv hb h0, Field.mul_one ha]
theorem mul_invI {x : Int} (hx : elem x = true) (h : x ≠ 0) : mulI x (invI x) = 1 := by
  obtain ⟨a, rfl, ha⟩ := elem_nat hx
  have h0 : a ≠ 0 := by omega
  rw [invI_nat ha h0, mulI_nat ha (Field.inv_lt ha), Field.mul_inv ha h0]; rfl
theorem powI_255 {x : Int} (hx : elem x = true) (h : x ≠ 0) : powI x 255 = 1 := by
  obtain ⟨a, rfl, ha⟩ := elem_nat hx
  have h0 : a ≠ 0 := by omega
  have := powI_nat (a := a) (n := 255) ha
  rw [Field.pow255 ha h0] at this
  exact this
theorem mulI_nought {x y : Int} (hx : elem x = true) (hy : elem y = true) (h : mulI x y = 0) : x = 0 ∨ y = 0 := by
  obtain ⟨a, rfl, ha⟩ := elem_nat hx
  obtain ⟨b, rfl, hb⟩ := elem_nat hy
  rw [mulI_nat ha hb] at h
  rcases Field.mul_nought ha hb (by omega) with h | h <;> omega
theorem mulI_left0 {y : Int} (hy : elem y = true) : mulI 0 y = 0 := by
  obtain ⟨b, rfl, hb⟩ := elem_nat hy
  have := mulI_nat (a := 0) (by omega) hb
  rw [Field.zero_mul hb] at this
  exact this
theorem mulI_right0 {x : Int} (hx : elem x = true) : mulI x 0 = 0 := by
  obtain ⟨a, rfl, ha⟩ := elem_nat hx
  have := mulI_nat (b := 0) ha (by omega)
  rw [Field.mul_zero] at this
  exact this
theorem elem_bd {x : Int} (hx : elem x = true) : 0 ≤ x ∧ x ≤ 255 := by simp [elem, inB] at hx; omega

/-! ### The program's answers, told by what they are equal to -/
theorem prod_to (x y r : Int) (h : mulI x y = r) (w : World) :
    Calls Try.prog 30 #[.int .i64 x, .int .i64 y] w fun e w' => e = .returned (.int .i64 r) ∧ Below w.heap.size w w' := by subst h; exact implProduct_any x y w
theorem sum_to (x y r : Int) (h : sumI x y = r) (w : World) :
    Calls Try.prog 32 #[.int .i64 x, .int .i64 y] w fun e w' => e = .returned (.int .i64 r) ∧ w = w' := by subst h; exact implSum_any x y w
theorem over_to (x y r : Int) (h : overI x y = r) (w : World) :
    Calls Try.prog 34 #[.int .i64 x, .int .i64 y] w fun e w' => e = .returned (.int .i64 r) ∧ Below w.heap.size w w' := by subst h; exact implOver_any x y w
theorem power_to (x n r : Int) (hn : n < 9223372036854775808) (h : powI x n = r) (w : World) :
    Calls Try.prog 36 #[.int .i64 x, .int .i64 n] w fun e w' => e = .returned (.int .i64 r) ∧ Below w.heap.size w w' := by subst h; exact implPower_any x n hn w
theorem inverse_to (x r : Int) (h : invI x = r) (w : World) :
    Calls Try.prog 38 #[.int .i64 x] w fun e w' => e = .returned (.int .i64 r) ∧ Below w.heap.size w w' := by subst h; exact implInverse_any x w
end Go.Proofs.Ytigfhhififcllaa
