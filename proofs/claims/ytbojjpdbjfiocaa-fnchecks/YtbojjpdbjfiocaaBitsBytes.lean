/- The bytes of the bits of bytes. -/
import Derived.Test.YtbojjpdbjfiocaaBytesMath
import Derived.Test.YtbojjpdbjfiocaaBitsL
namespace Go.Proofs.Ytbojjpdbjfiocaa
open Go.RowKit

theorem jn_bits8_all : ∀ n : Fin 256, jn (bits8 n.val) = (n.val : Int) := by decide +kernel
theorem bits8_len (n : Nat) : (bits8 n).length = 8 := rfl
theorem bits8_bit (n : Nat) : (bits8 n).all bit = true := by
  have h : ∀ k, bit (bitOf n k) = true := fun k => by have := bitOf_bd n k; simp [bit]; omega
  simp only [bits8, List.all_cons, List.all_nil, h, Bool.and_true]
theorem bitsL_all (l : List UInt8) : (bitsL l).all bit = true := by
  induction l with
  | nil => rfl
  | cons b l ih => simp only [bitsL, List.flatMap_cons, List.all_append, bits8_bit, Bool.true_and] at ih ⊢; exact ih
theorem bitsL_at : ∀ (l : List UInt8) (j i : Nat), j < l.length → i < 8 → (bitsL l).getD (8 * j + i) 0 = bitOf (l.getD j 0).toNat i
  | [], j, i, h, _ => by simp at h
  | b :: l, 0, i, _, hi => by
    rw [bitsL, List.flatMap_cons, List.getD_eq_getElem?_getD, List.getElem?_append_left (by rw [bits8_len]; omega)]
    have := bits8_at b.toNat i hi
    rw [List.getD_eq_getElem?_getD] at this
    simpa using this
  | b :: l, j + 1, i, h, hi => by
    have ih := bitsL_at l j i (by simpa using h) hi
    rw [bitsL, List.flatMap_cons, List.getD_eq_getElem?_getD, List.getElem?_append_right (by rw [bits8_len]; omega), bits8_len, show 8 * (j + 1) + i - 8 = 8 * j + i by omega, ← List.getD_eq_getElem?_getD]
    simpa [bitsL] using ih
theorem eight_bitsL (l : List UInt8) (j : Nat) (h : j < l.length) : eight (bitsL l) (8 * j) = bits8 (l.getD j 0).toNat := by
  unfold eight bits8
  rw [bitsL_at l j 1 h (by omega), bitsL_at l j 2 h (by omega), bitsL_at l j 3 h (by omega), bitsL_at l j 4 h (by omega), bitsL_at l j 5 h (by omega), bitsL_at l j 6 h (by omega), bitsL_at l j 7 h (by omega)]
  have := bitsL_at l j 0 h (by omega)
  simp only [Nat.add_zero] at this
  rw [this]
theorem byteL_bitsL (l : List UInt8) : byteL (bitsL l) = l := by
  apply List.ext_getElem
  · rw [byteL_length, bitsL_length]; omega
  · intro j h1 h2
    have hb : byteN (bitsL l) j = l[j].toNat := by
      unfold byteN
      rw [eight_bitsL l j h2]
      have e : l.getD j 0 = l[j] := by rw [List.getD_eq_getElem?_getD, List.getElem?_eq_getElem h2]; rfl
      have hj := jn_bits8_all ⟨l[j].toNat, UInt8.toNat_lt _⟩
      simp only at hj
      rw [e, hj]; rfl
    simp only [byteL, List.getElem_map, List.getElem_range, hb]
    simp
end Go.Proofs.Ytbojjpdbjfiocaa
