/- Chapter 16, plainly: what a right count is, how long a lease is held, how long one waits. -/
import Derived.Test.YtfogmdnkpkofiaaBase
namespace Go.Proofs.Ytfogmdnkpkofiaa
open Go.RowKit
set_option linter.unusedVariables false

def tmOk (n : Int) : Bool := inB n 0 1099511627776
def drOk (d : Int) : Bool := inB d 0 100000
def rightB (r n d : Int) : Bool := tmOk r && (drOk d && (inB n 0 2199023255552 && (decide (r * (1000000 - d) ≤ 1000000 * n) && decide (1000000 * n ≤ r * (1000000 + d)))))
def leastI (r d : Int) : Int := if tmOk r && drOk d then (r * (1000000 - d) + 999999) / 1000000 else -1
def mineI (l d : Int) : Int := if tmOk l && drOk d then max 0 (l * (1000000 - d) / (1000000 + d) - 1) else -1
def yoursI (l d : Int) : Int := if tmOk l && drOk d then l * (1000000 + d) / (1000000 - d) + 1 else -1
def holdsB (f w l d : Int) : Bool := tmOk f && (tmOk w && (tmOk l && (drOk d && (decide (f ≤ w) && decide (w - f < mineI l d)))))
/-- Products of a time and a factor stay small. -/
theorem prod_small {r c : Int} (h1 : 0 ≤ r) (h2 : r ≤ 1099511627776) (h3 : 0 ≤ c) (h4 : c ≤ 1100000) : 0 ≤ r * c ∧ r * c ≤ 1209462790553600000 := by
  refine ⟨Int.mul_nonneg h1 h3, ?_⟩
  have h5 : r * c ≤ 1099511627776 * c := Int.mul_le_mul_of_nonneg_right h2 h3
  omega
theorem div_between {a b : Int} (ha : 0 ≤ a) (hb : 0 < b) : 0 ≤ a / b ∧ a / b ≤ a := ⟨Int.ediv_nonneg ha (by omega), Int.ediv_le_self _ ha⟩
theorem tdiv_eq {a b : Int} (ha : 0 ≤ a) : a.tdiv b = a / b := Int.tdiv_eq_ediv_of_nonneg ha
/-- Whoever Holds by one right clock ends ahead of one who waits out the length by another. -/
theorem holds_ahead {r m y l d : Int} (hm : rightB r m d = true) (hy : rightB r y d = true) (hh : holdsB 0 m l d = true) : y < l := by
  simp only [rightB, holdsB, tmOk, drOk, inB, Bool.and_eq_true, decide_eq_true_eq] at hm hy hh
  obtain ⟨⟨r0, r1⟩, ⟨d0, d1⟩, _, m1, m2⟩ := hm
  obtain ⟨_, _, _, y1, y2⟩ := hy
  obtain ⟨_, _, ⟨l0, l1⟩, _, _, hlt⟩ := hh
  have hmine : mineI l d = max 0 (l * (1000000 - d) / (1000000 + d) - 1) := by
    unfold mineI tmOk drOk inB
    rw [if_pos (by simp; omega)]
  rw [hmine] at hlt
  -- m + 1 < q where q = l (1000000 - d) / (1000000 + d), or m < 0
  have hq : (1000000 + d) * (l * (1000000 - d) / (1000000 + d)) ≤ l * (1000000 - d) := Int.mul_ediv_self_le (by omega)
  generalize l * (1000000 - d) / (1000000 + d) = q at *
  have hmn : 0 ≤ m := by
    have : 0 ≤ r * (1000000 - d) := Int.mul_nonneg r0 (by omega)
    omega
  have hmq : m + 1 < q := by omega
  -- 1000000 y ≤ r (1000000 + d); r (1000000 - d) ≤ 1000000 m
  by_cases hc : y < l
  · exact hc
  · exfalso
    have e1 : (1000000 - d) * (1000000 * y) ≤ (1000000 - d) * (r * (1000000 + d)) := Int.mul_le_mul_of_nonneg_left y2 (by omega)
    have e2 : (1000000 + d) * (r * (1000000 - d)) ≤ (1000000 + d) * (1000000 * m) := Int.mul_le_mul_of_nonneg_left m1 (by omega)
    have e3 : (1000000 - d) * (r * (1000000 + d)) = (1000000 + d) * (r * (1000000 - d)) := by
      rw [Int.mul_left_comm, Int.mul_left_comm (1000000 + d), Int.mul_comm (1000000 - d)]
    have e4 : (1000000 + d) * (1000000 * m) = 1000000 * ((1000000 + d) * m) := Int.mul_left_comm _ _ _
    have e5 : (1000000 - d) * (1000000 * y) = 1000000 * ((1000000 - d) * y) := Int.mul_left_comm _ _ _
    have e6 : (1000000 - d) * l ≤ (1000000 - d) * y := Int.mul_le_mul_of_nonneg_left (by omega) (by omega)
    have e7 : (1000000 + d) * (m + 1) ≤ (1000000 + d) * q := Int.mul_le_mul_of_nonneg_left (by omega) (by omega)
    have e8 : (1000000 + d) * (m + 1) = (1000000 + d) * m + (1000000 + d) := by rw [Int.mul_add, Int.mul_one]
    have e9 : l * (1000000 - d) = (1000000 - d) * l := Int.mul_comm _ _
    omega
theorem leastI_at {r d : Int} (h : (tmOk r && drOk d) = true) : leastI r d = (r * (1000000 - d) + 999999) / 1000000 := by unfold leastI; rw [if_pos h]
theorem leastI_no {r d : Int} (h : (tmOk r && drOk d) = false) : leastI r d = -1 := by unfold leastI; rw [if_neg (by rw [h]; simp)]
/-- The least count is right where a right one there is. -/
theorem least_right {r d : Int} (h : 0 ≤ leastI r d) (hc : leastI r d * 1000000 ≤ r * (1000000 + d)) : rightB r (leastI r d) d = true := by
  cases hok : tmOk r && drOk d with
  | false => rw [leastI_no hok] at h; omega
  | true =>
    rw [leastI_at hok] at *
    simp only [tmOk, drOk, inB, Bool.and_eq_true, decide_eq_true_eq] at hok
    obtain ⟨⟨r0, r1⟩, d0, d1⟩ := hok
    have h1 := prod_small r0 r1 (c := 1000000 - d) (by omega) (by omega)
    simp only [rightB, tmOk, drOk, inB, Bool.and_eq_true, decide_eq_true_eq]
    generalize r * (1000000 - d) = x at *
    generalize r * (1000000 + d) = y at *
    refine ⟨⟨r0, r1⟩, ⟨d0, d1⟩, ⟨h, by omega⟩, by omega, by omega⟩
/-- The one below it is not. -/
theorem least_first {r d : Int} (h : 0 ≤ leastI r d) : rightB r (leastI r d - 1) d = false := by
  cases hr : rightB r (leastI r d - 1) d with
  | false => rfl
  | true =>
    exfalso
    cases hok : tmOk r && drOk d with
    | false => rw [leastI_no hok] at h; omega
    | true =>
      rw [leastI_at hok] at *
      simp only [rightB, Bool.and_eq_true, decide_eq_true_eq] at hr
      obtain ⟨_, _, _, h1, _⟩ := hr
      generalize r * (1000000 - d) = x at *
      omega
/-- Whoever waits Yours waits till all of it is over. -/
theorem yours_over {r t m l d : Int} (ht : rightB r t d = true) (hm : rightB r m d = true) (hl : (tmOk l && drOk d) = true) (hy : yoursI l d ≤ m) : l ≤ t := by
  simp only [rightB, tmOk, drOk, inB, Bool.and_eq_true, decide_eq_true_eq] at ht hm hl
  obtain ⟨⟨r0, r1⟩, ⟨d0, d1⟩, _, t1, t2⟩ := ht
  obtain ⟨_, _, _, m1, m2⟩ := hm
  obtain ⟨⟨l0, l1⟩, _⟩ := hl
  have hyo : yoursI l d = l * (1000000 + d) / (1000000 - d) + 1 := by
    unfold yoursI tmOk drOk inB
    rw [if_pos (by simp; omega)]
  rw [hyo] at hy
  have hq : l * (1000000 + d) < (l * (1000000 + d) / (1000000 - d) + 1) * (1000000 - d) := Int.lt_ediv_add_one_mul_self _ (by omega)
  generalize l * (1000000 + d) / (1000000 - d) = q at *
  by_cases hc : l ≤ t
  · exact hc
  · exfalso
    have e1 : (1000000 - d) * (1000000 * m) ≤ (1000000 - d) * (r * (1000000 + d)) := Int.mul_le_mul_of_nonneg_left m2 (by omega)
    have e2 : (1000000 + d) * (r * (1000000 - d)) ≤ (1000000 + d) * (1000000 * t) := Int.mul_le_mul_of_nonneg_left t1 (by omega)
    have e3 : (1000000 - d) * (r * (1000000 + d)) = (1000000 + d) * (r * (1000000 - d)) := by
      rw [Int.mul_left_comm, Int.mul_left_comm (1000000 + d), Int.mul_comm (1000000 - d)]
    have e4 : (1000000 + d) * (1000000 * t) = 1000000 * ((1000000 + d) * t) := Int.mul_left_comm _ _ _
    have e5 : (1000000 - d) * (1000000 * m) = 1000000 * ((1000000 - d) * m) := Int.mul_left_comm _ _ _
    have e6 : (1000000 + d) * (t + 1) ≤ (1000000 + d) * l := Int.mul_le_mul_of_nonneg_left (by omega) (by omega)
    have e7 : (1000000 - d) * (q + 1) ≤ (1000000 - d) * m := Int.mul_le_mul_of_nonneg_left (by omega) (by omega)
    have e8 : (1000000 + d) * (t + 1) = (1000000 + d) * t + (1000000 + d) := by rw [Int.mul_add, Int.mul_one]
    have e9 : l * (1000000 + d) = (1000000 + d) * l := Int.mul_comm _ _
    have e10 : (q + 1) * (1000000 - d) = (1000000 - d) * (q + 1) := Int.mul_comm _ _
    omega
end Go.Proofs.Ytfogmdnkpkofiaa
