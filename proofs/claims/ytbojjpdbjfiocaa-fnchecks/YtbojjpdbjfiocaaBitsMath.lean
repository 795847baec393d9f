/- Plain facts on lists of bits: sums, distances. Nothing of Go's text here. -/
import Derived.Test.YtbojjpdbjfiocaaBase
namespace Go.Proofs.Ytbojjpdbjfiocaa

theorem sum_snoc (xs : List Int) (k : Nat) (h : k < xs.length) : (xs.take (k + 1)).sum = (xs.take k).sum + xs.getD k 0 := by
  rw [take_snoc xs k h]; simp
theorem bits_all {xs : List Int} (h : bitsOk xs = true) : xs.all bit = true := by simp [bitsOk] at h; simpa using h.2
theorem bits_len {xs : List Int} (h : bitsOk xs = true) : xs.length ≤ 4096 := by simp [bitsOk] at h; exact h.1
theorem bit_bd {b : Int} (h : bit b = true) : 0 ≤ b ∧ b ≤ 1 := by simp [bit] at h; omega
theorem bit_at {xs : List Int} (h : xs.all bit = true) (k : Nat) : bit (xs.getD k 0) = true := by
  rw [List.getD_eq_getElem?_getD]
  by_cases hk : k < xs.length
  · rw [List.getElem?_eq_getElem hk]
    rw [List.all_eq_true] at h
    exact h _ (List.getElem_mem hk)
  · rw [List.getElem?_eq_none (by omega)]; rfl
theorem sum_bd {xs : List Int} (h : xs.all bit = true) : ∀ k : Nat, k ≤ xs.length → 0 ≤ (xs.take k).sum ∧ (xs.take k).sum ≤ (k : Int)
  | 0, _ => by simp
  | k + 1, hk => by
    have ih := sum_bd h k (by omega)
    have hb := bit_bd (bit_at h k)
    rw [sum_snoc xs k (by omega)]
    omega
def weight (xs : List Int) : Int := if bitsOk xs = true then xs.sum else -1
theorem weight_ok {xs : List Int} (h : bitsOk xs = true) : weight xs = xs.sum := by simp [weight, h]
theorem weight_no {xs : List Int} (h : bitsOk xs = false) : weight xs = -1 := by simp [weight, h]
def flipped (xs : List Int) (p : Int) : List Int := if bitsOk xs = true ∧ 0 ≤ p ∧ p < xs.length then xs.set p.toNat (1 - xs.getD p.toNat 0) else []
theorem flipped_yes {xs : List Int} {p : Nat} (h : bitsOk xs = true) (hp : p < xs.length) : flipped xs p = xs.set p (1 - xs.getD p 0) := by
  unfold flipped; rw [if_pos ⟨h, by omega, by omega⟩]; simp
theorem flipped_no {xs : List Int} {p : Int} (h : bitsOk xs = false ∨ p < 0 ∨ (xs.length : Int) ≤ p) : flipped xs p = [] := by
  unfold flipped
  rw [if_neg]
  rintro ⟨h1, h2, h3⟩
  rcases h with h | h | h
  · rw [h1] at h; simp at h
  · omega
  · omega
theorem flipped_len (xs : List Int) (p : Int) : (flipped xs p).length ≤ xs.length := by unfold flipped; split <;> simp
theorem flip_cell (xs : List Int) (p : Nat) (hp : p < xs.length) (v : Value) (hv : v = .int .i64 (1 - xs.getD p 0)) (j : Nat) : (if j = p then v else cellI xs j) = cellI (xs.set p (1 - xs.getD p 0)) j := by
  by_cases e : j = p
  · subst e; simp [hv, cellI, List.getD_eq_getElem?_getD, hp]
  · rw [if_neg e, cellI, cellI, List.getD_eq_getElem?_getD, List.getD_eq_getElem?_getD, List.getElem?_set_ne (fun h => e h.symm)]
/-- At how many places two lists are unlike. -/
def dist : List Int → List Int → Nat
  | x :: xs, y :: ys => (if x = y then 0 else 1) + dist xs ys
  | _, _ => 0
theorem dist_append : ∀ (a c b d : List Int), a.length = c.length → dist (a ++ b) (c ++ d) = dist a c + dist b d
  | [], [], b, d, _ => by simp [dist]
  | x :: a, y :: c, b, d, h => by
    have := dist_append a c b d (by simpa using h)
    simp only [List.cons_append, dist, this]; omega
  | [], _ :: _, _, _, h => by simp at h
  | _ :: _, [], _, _, h => by simp at h
theorem dist_step (xs ys : List Int) (k : Nat) (hx : k < xs.length) (hy : k < ys.length) : dist (xs.take (k + 1)) (ys.take (k + 1)) = dist (xs.take k) (ys.take k) + (if xs.getD k 0 = ys.getD k 0 then 0 else 1) := by
  rw [take_snoc xs k hx, take_snoc ys k hy, dist_append _ _ _ _ (by rw [List.length_take, List.length_take]; omega)]
  simp [dist]
theorem dist_le : ∀ (a c : List Int), dist a c ≤ a.length
  | [], _ => by simp [dist]
  | _ :: _, [] => by simp [dist]
  | x :: a, y :: c => by
    have := dist_le a c
    simp only [dist, List.length_cons]; split <;> omega
theorem dist_self : ∀ a : List Int, dist a a = 0
  | [] => rfl
  | x :: a => by simp [dist, dist_self a]
def apart (xs ys : List Int) : Int := if xs.length = ys.length ∧ bitsOk xs = true ∧ bitsOk ys = true then (dist xs ys : Int) else -1
theorem apart_yes {xs ys : List Int} (h : xs.length = ys.length) (hx : bitsOk xs = true) (hy : bitsOk ys = true) : apart xs ys = (dist xs ys : Int) := by simp [apart, h, hx, hy]
theorem apart_no {xs ys : List Int} (h : xs.length ≠ ys.length ∨ bitsOk xs = false ∨ bitsOk ys = false) : apart xs ys = -1 := by
  unfold apart
  rw [if_neg]
  rintro ⟨h1, h2, h3⟩
  rcases h with h | h | h
  · exact h h1
  · rw [h2] at h; simp at h
  · rw [h3] at h; simp at h
theorem dist_next (xs ys : List Int) (h : xs.length = ys.length) (k : Nat) : dist (xs.take (k + 1)) (ys.take (k + 1)) = dist (xs.take k) (ys.take k) + (if xs.getD k 0 = ys.getD k 0 then 0 else 1) := by
  by_cases hk : k < xs.length
  · exact dist_step xs ys k hk (by omega)
  · rw [List.take_of_length_le (by omega), List.take_of_length_le (by omega), List.take_of_length_le (show xs.length ≤ k by omega), List.take_of_length_le (show ys.length ≤ k by omega)]
    rw [if_pos (by rw [List.getD_eq_getElem?_getD, List.getD_eq_getElem?_getD, List.getElem?_eq_none (by omega), List.getElem?_eq_none (by omega)])]
    rfl
/-- Eight of a list from k on, noughts where there are none. -/
def eight (xs : List Int) (k : Nat) : List Int := [xs.getD k 0, xs.getD (k + 1) 0, xs.getD (k + 2) 0, xs.getD (k + 3) 0, xs.getD (k + 4) 0, xs.getD (k + 5) 0, xs.getD (k + 6) 0, xs.getD (k + 7) 0]
theorem dist_eight (xs ys : List Int) (h : xs.length = ys.length) (k : Nat) : dist (xs.take (k + 8)) (ys.take (k + 8)) = dist (xs.take k) (ys.take k) + dist (eight xs k) (eight ys k) := by
  rw [dist_next xs ys h (k + 7), dist_next xs ys h (k + 6), dist_next xs ys h (k + 5), dist_next xs ys h (k + 4), dist_next xs ys h (k + 3), dist_next xs ys h (k + 2), dist_next xs ys h (k + 1), dist_next xs ys h k]
  simp only [eight, dist]
  omega
end Go.Proofs.Ytbojjpdbjfiocaa
