/- Plain facts on the bytes of bits. Nothing of Go's text here. -/
import Derived.Test.YtbojjpdbjfiocaaJnMath
namespace Go.Proofs.Ytbojjpdbjfiocaa
open Go.RowKit
/-- The number of the byte at place j. -/
def byteN (xs : List Int) (j : Nat) : Nat := (jn (eight xs (8 * j))).toNat
def byteL (xs : List Int) : List UInt8 := (List.range ((xs.length + 7) / 8)).map fun j => UInt8.ofNat (byteN xs j)
def bytesOf (xs : List Int) : ByteArray := if bitsOk xs = true then str (byteL xs) else ByteArray.empty
theorem byteL_length (xs : List Int) : (byteL xs).length = (xs.length + 7) / 8 := by simp [byteL]
theorem eight_all {xs : List Int} (h : xs.all bit = true) (k : Nat) : (eight xs k).all bit = true := by
  simp only [eight, List.all_cons, List.all_nil, bit_at h, Bool.and_true]
theorem jn8_bd {xs : List Int} (h : xs.all bit = true) (k : Nat) : 0 ≤ jn (eight xs k) ∧ jn (eight xs k) < 256 := by
  have := jn_bd (eight_all h k) 8 (Nat.le_refl _)
  rw [List.take_of_length_le (by simp [eight])] at this
  exact this
theorem byte_cell {xs : List Int} (h : xs.all bit = true) (j : Nat) (hj : j < (xs.length + 7) / 8) : Value.int .u8 (jn (eight xs (8 * j))) = cellB (byteL xs) j := by
  have hb := jn8_bd h (8 * j)
  have e : (byteL xs).getD j 0 = UInt8.ofNat (byteN xs j) := by simp [byteL, List.getD_eq_getElem?_getD, hj]
  rw [cellB, e]
  have : (UInt8.ofNat (byteN xs j)).toNat = byteN xs j := by
    rw [UInt8.toNat_ofNat']
    unfold byteN
    omega
  rw [this]
  unfold byteN
  congr 1
  omega
theorem bytesOf_yes {xs : List Int} (h : bitsOk xs = true) : bytesOf xs = ⟨(byteL xs).toArray⟩ := by simp [bytesOf, h, str]
theorem bytesOf_no {xs : List Int} (h : bitsOk xs = false) : bytesOf xs = ByteArray.empty := by simp [bytesOf, h]
theorem jn8 (a0 a1 a2 a3 a4 a5 a6 a7 : Int) : jn [a0, a1, a2, a3, a4, a5, a6, a7] = 128 * a0 + 64 * a1 + 32 * a2 + 16 * a3 + 8 * a4 + 4 * a5 + 2 * a6 + a7 := by
  simp only [jn, List.foldl]; omega
theorem take_all {xs : List Int} (h : xs.all bit = true) (k : Nat) : (xs.take k).all bit = true := by
  rw [List.all_eq_true] at h ⊢
  exact fun x hx => h x (List.mem_of_mem_take hx)
theorem getD_take (xs : List Int) (k i : Nat) : (xs.take k).getD i 0 = if i < k then xs.getD i 0 else 0 := by
  rw [List.getD_eq_getElem?_getD, List.getD_eq_getElem?_getD, List.getElem?_take]
  split <;> rfl
theorem eight_congr {xs ys : List Int} {p : Nat} (h : ∀ i, i < 8 → xs.getD (p + i) 0 = ys.getD (p + i) 0) : eight xs p = eight ys p := by
  unfold eight
  rw [h 1 (by omega), h 2 (by omega), h 3 (by omega), h 4 (by omega), h 5 (by omega), h 6 (by omega), h 7 (by omega)]
  have h0 := h 0 (by omega)
  simp only [Nat.add_zero] at h0
  rw [h0]
theorem byte_other (xs : List Int) (k j : Nat) (hj : j ≠ k / 8) : eight (xs.take (k + 1)) (8 * j) = eight (xs.take k) (8 * j) := by
  refine eight_congr fun i hi => ?_
  rw [getD_take, getD_take]
  by_cases h1 : 8 * j + i < k
  · rw [if_pos (by omega), if_pos h1]
  · rw [if_neg (by omega), if_neg h1]
theorem byte_zero (xs : List Int) (k j : Nat) (h0 : xs.getD k 0 = 0) : eight (xs.take (k + 1)) (8 * j) = eight (xs.take k) (8 * j) := by
  refine eight_congr fun i hi => ?_
  rw [getD_take, getD_take]
  by_cases h1 : 8 * j + i < k
  · rw [if_pos (by omega), if_pos h1]
  · rw [if_neg h1]
    by_cases h2 : 8 * j + i = k
    · rw [h2, h0]; simp
    · rw [if_neg (by omega)]
theorem or_low_all : ∀ m : Fin 8, ∀ v : Fin 256, v.val % 2 ^ (8 - m.val) = 0 → (v.val ||| (128 / 2 ^ m.val)) = v.val + 128 / 2 ^ m.val := by decide +kernel
theorem or_low (m v : Nat) (hm : m < 8) (hv : v < 256) (h : v % 2 ^ (8 - m) = 0) : bits .or .u8 (v : Int) (128 / 2 ^ m) = (v : Int) + 128 / 2 ^ m := by
  have hp : (128 / 2 ^ m : Int) = ((128 / 2 ^ m : Nat) : Int) := by simp
  have hlt : 128 / 2 ^ m < 256 := by have := Nat.div_le_self 128 (2 ^ m); omega
  have hall := or_low_all ⟨m, hm⟩ ⟨v, hv⟩ h
  simp only at hall
  rw [hp, u8_or_nat _ _ hv hlt, hall, Int.natCast_add]
theorem byte_one {xs : List Int} (hall : xs.all bit = true) (k : Nat) (h1 : xs.getD k 0 = 1) :
    bits .or .u8 (jn (eight (xs.take k) (8 * (k / 8)))) (128 / 2 ^ (k % 8)) = jn (eight (xs.take (k + 1)) (8 * (k / 8))) := by
  obtain ⟨q, hq⟩ : ∃ q, q = k / 8 := ⟨_, rfl⟩
  obtain ⟨m, hm⟩ : ∃ m, m = k % 8 := ⟨_, rfl⟩
  have hk : k = 8 * q + m := by omega
  have hm8 : m < 8 := by omega
  rw [← hq, ← hm]
  clear hq hm
  subst hk
  have hb : ∀ i, 0 ≤ xs.getD (8 * q + i) 0 ∧ xs.getD (8 * q + i) 0 ≤ 1 := fun i => bit_bd (bit_at hall _)
  have b0 := hb 0
  have b1 := hb 1
  have b2 := hb 2
  have b3 := hb 3
  have b4 := hb 4
  have b5 := hb 5
  have b6 := hb 6
  have b7 := hb 7
  simp only [Nat.add_zero] at b0
  clear hb
  simp only [eight, getD_take, jn8]
  generalize hg0 : xs.getD (8 * q) 0 = g0 at *
  generalize hg1 : xs.getD (8 * q + 1) 0 = g1 at *
  generalize hg2 : xs.getD (8 * q + 2) 0 = g2 at *
  generalize hg3 : xs.getD (8 * q + 3) 0 = g3 at *
  generalize hg4 : xs.getD (8 * q + 4) 0 = g4 at *
  generalize hg5 : xs.getD (8 * q + 5) 0 = g5 at *
  generalize hg6 : xs.getD (8 * q + 6) 0 = g6 at *
  generalize hg7 : xs.getD (8 * q + 7) 0 = g7 at *
  obtain ⟨v, hv⟩ : ∃ v : Nat, (v : Int) = 128 * (if 8 * q < 8 * q + m then g0 else 0) + 64 * (if 8 * q + 1 < 8 * q + m then g1 else 0) + 32 * (if 8 * q + 2 < 8 * q + m then g2 else 0) + 16 * (if 8 * q + 3 < 8 * q + m then g3 else 0) + 8 * (if 8 * q + 4 < 8 * q + m then g4 else 0) + 4 * (if 8 * q + 5 < 8 * q + m then g5 else 0) + 2 * (if 8 * q + 6 < 8 * q + m then g6 else 0) + (if 8 * q + 7 < 8 * q + m then g7 else 0) := by
    refine ⟨(_ : Int).toNat, Int.toNat_of_nonneg ?_⟩
    omega
  rw [← hv]
  simp only [Nat.add_assoc, Nat.add_lt_add_iff_left, Nat.lt_add_right_iff_pos] at hv ⊢
  rcases (show m = 0 ∨ m = 1 ∨ m = 2 ∨ m = 3 ∨ m = 4 ∨ m = 5 ∨ m = 6 ∨ m = 7 by omega) with rfl | rfl | rfl | rfl | rfl | rfl | rfl | rfl
  all_goals
    first | rw [Nat.add_zero, hg0] at h1 | rw [hg1] at h1 | rw [hg2] at h1 | rw [hg3] at h1 | rw [hg4] at h1 | rw [hg5] at h1 | rw [hg6] at h1 | rw [hg7] at h1
    clear hg0 hg1 hg2 hg3 hg4 hg5 hg6 hg7
    simp at hv
    rw [or_low _ v (by omega) (by omega) (by omega)]
    simp
    omega
end Go.Proofs.Ytbojjpdbjfiocaa
