/- Bytes by their bits, plainly. -/
import Derived.Test.YtbgjagmnpfcfaalDoorBase
namespace Go.Proofs.YtbgjagmnpfcfaalDoor
open Go.RowKit

/-- The bit number k of a byte, the highest first. -/
def bitOf (n k : Nat) : Int := ((n / 2 ^ (7 - k) % 2 : Nat) : Int)
def bits8 (n : Nat) : List Int := [bitOf n 0, bitOf n 1, bitOf n 2, bitOf n 3, bitOf n 4, bitOf n 5, bitOf n 6, bitOf n 7]
theorem bitOf_bd (n k : Nat) : 0 ≤ bitOf n k ∧ bitOf n k ≤ 1 := by unfold bitOf; omega
theorem bits8_at (n k : Nat) (h : k < 8) : (bits8 n).getD k 0 = bitOf n k := by
  match k, h with
  | 0, _ | 1, _ | 2, _ | 3, _ | 4, _ | 5, _ | 6, _ | 7, _ => rfl
/-- The bits of bytes. -/
def bitsL (l : List UInt8) : List Int := l.flatMap fun b => bits8 b.toNat
theorem bitsL_length (l : List UInt8) : (bitsL l).length = 8 * l.length := by
  induction l with
  | nil => rfl
  | cons b l ih => simp only [bitsL, List.flatMap_cons, List.length_append] at ih ⊢; rw [ih]; simp [bits8]; omega
theorem bitsL_snoc (l : List UInt8) (b : UInt8) : bitsL (l ++ [b]) = bitsL l ++ bits8 b.toNat := by simp [bitsL, List.flatMap_append]
theorem take_snocB (s : ByteArray) (k : Nat) (h : k < s.size) : s.data.toList.take (k + 1) = s.data.toList.take k ++ [s[k]] := by
  rw [List.take_succ_eq_append_getElem (by simpa using h)]; rfl

theorem shr_rem (n p : Nat) (hp : p < 8) : wrap64 (((n : Int) / 2 ^ p).tmod 2) = bitOf n (7 - p) := by
  unfold bitOf
  rw [show 7 - (7 - p) = p by omega]
  have hq : ((n : Int) / 2 ^ p) = ((n / 2 ^ p : Nat) : Int) := by simp
  rw [hq]
  generalize n / 2 ^ p = q
  rw [Int.tmod_eq_emod_of_nonneg (by omega)]
  unfold wrap64
  omega
theorem bits8_next (n p : Nat) (hp : p < 8) : (bits8 n).take (8 - p) = (bits8 n).take (8 - (p + 1)) ++ [bitOf n (7 - p)] := by
  have h := take_snoc (bits8 n) (7 - p) (by simp [bits8]; omega)
  rw [bits8_at n (7 - p) (by omega)] at h
  rw [show 8 - p = 7 - p + 1 by omega, h, show 8 - (p + 1) = 7 - p by omega]
end Go.Proofs.YtbgjagmnpfcfaalDoor
