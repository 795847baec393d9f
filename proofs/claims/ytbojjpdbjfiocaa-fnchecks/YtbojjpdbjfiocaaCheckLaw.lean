/- Plain facts of chapter 3: what is checked is whole; whole is to end at 0; the check goes with xored. -/
import Derived.Test.YtbojjpdbjfiocaaCheckSpec
namespace Go.Proofs.Ytbojjpdbjfiocaa
open Go.RowKit
set_option linter.unusedVariables false
set_option maxRecDepth 20000

theorem natL_append (a b : List Int) : natL (a ++ b) = natL a ++ natL b := by simp [natL]
theorem bitsL_append (a b : List UInt8) : bitsL (a ++ b) = bitsL a ++ bitsL b := by simp [bitsL, List.flatMap_append]
theorem nat8 (n : Nat) : natL (bits8 n) = [n / 128 % 2, n / 64 % 2, n / 32 % 2, n / 16 % 2, n / 8 % 2, n / 4 % 2, n / 2 % 2, n % 2] := by
  simp [natL, bits8, bitOf]
  omega
theorem bitsn16 (c : Nat) : Crc.bitsn 16 c = [c / 32768 % 2, c / 16384 % 2, c / 8192 % 2, c / 4096 % 2, c / 2048 % 2, c / 1024 % 2, c / 512 % 2, c / 256 % 2, c / 128 % 2, c / 64 % 2, c / 32 % 2, c / 16 % 2, c / 8 % 2, c / 4 % 2, c / 2 % 2, c % 2] := by
  simp [Crc.bitsn, Nat.div_div_eq_div_mul]
theorem two_bits (a b : UInt8) : natL (bitsL [a, b]) = Crc.bitsn 16 (a.toNat * 256 + b.toNat) := by
  have ha := UInt8.toNat_lt a
  have hb := UInt8.toNat_lt b
  have e : bitsL [a, b] = bits8 a.toNat ++ bits8 b.toNat := by simp [bitsL]
  rw [e, natL_append, nat8, nat8, bitsn16]
  generalize a.toNat = x at *
  generalize b.toNat = y at *
  simp only [List.cons_append, List.nil_append, List.cons.injEq, and_true]
  refine ⟨?_, ?_, ?_, ?_, ?_, ?_, ?_, ?_, ?_, ?_, ?_, ?_, ?_, ?_, ?_, ?_⟩ <;> omega
/-- The bits of a text, as numbers. -/
def nbits (s : ByteArray) : List Nat := natL (bitsL s.data.toList)
theorem nbits_bit (s : ByteArray) : Crc.bitL (nbits s) := natL_bit (bitsL_01 _)
theorem checkN_eq (s : ByteArray) : checkN s = Crc.crc (nbits s) := rfl
theorem tail2_bits {c : Nat} (h : c < 65536) : natL (bitsL (tail2 c)) = Crc.bitsn 16 c := by
  unfold tail2
  rw [two_bits]
  congr 1
  simp
  omega
theorem checked_data (s : ByteArray) : (checked s).data.toList = s.data.toList ++ tail2 (checkN s) := by
  unfold checked
  simp [str]
theorem nbits_checked (s : ByteArray) : nbits (checked s) = nbits s ++ Crc.bitsn 16 (checkN s) := by
  unfold nbits
  rw [checked_data, bitsL_append, natL_append, tail2_bits (checkN_lt s)]
theorem check_checked (s : ByteArray) : checkN (checked s) = 0 := by
  rw [checkN_eq, nbits_checked]
  exact Crc.crc_checked (nbits_bit s)
theorem run_checked (s : ByteArray) : Crc.run 0 (nbits (checked s)) = 0 := by
  rw [nbits_checked, Crc.run_check (nbits_bit s) (checkN_lt s), checkN_eq, Nat.xor_self]
theorem whole_checked (s : ByteArray) : whole (checked s) = true := by
  have h : (checked s).extract 0 ((checked s).size - 2) = s := by
    apply ByteArray.ext
    apply Array.toList_inj.1
    have := checked_size s
    have hd := checked_data s
    rw [ByteArray.data_extract, Array.toList_extract, hd]
    simp [this]
  unfold whole
  rw [h, decide_eq_true (show 2 ≤ (checked s).size by rw [checked_size]; omega)]
  simp
/-- Where a text ends at 0 it is whole, and only there. -/
theorem whole_run (t : ByteArray) (h : 2 ≤ t.size) (hr : Crc.run 0 (nbits t) ≠ 0) : whole t = false := by
  unfold whole
  rw [decide_eq_true h, Bool.true_and, decide_eq_false]
  intro e
  have := run_checked (t.extract 0 (t.size - 2))
  rw [e] at this
  exact hr this
/-- The bits of two texts xored are their bits xored. -/
theorem nat8_xor : ∀ x y : Fin 256, natL (bits8 (x.val ^^^ y.val)) = List.zipWith (· ^^^ ·) (natL (bits8 x.val)) (natL (bits8 y.val)) := by
  intro x y
  rw [nat8, nat8, nat8]
  have hd : ∀ k : Nat, (x.val ^^^ y.val) / 2 ^ k % 2 = (x.val / 2 ^ k % 2) ^^^ (y.val / 2 ^ k % 2) := by
    intro k
    have h := @Nat.shiftRight_xor_distrib k x.val y.val
    simp only [Nat.shiftRight_eq_div_pow] at h
    rw [h, Crc.mod2_xor]
  have h0 := hd 0; have h1 := hd 1; have h2 := hd 2; have h3 := hd 3; have h4 := hd 4; have h5 := hd 5; have h6 := hd 6; have h7 := hd 7
  simp only [Nat.reducePow, Nat.div_one] at h0 h1 h2 h3 h4 h5 h6 h7
  simp only [List.zipWith_cons_cons, List.zipWith_nil_right, h0, h1, h2, h3, h4, h5, h6, h7]
theorem natL_bitsL_cons (b : UInt8) (l : List UInt8) : natL (bitsL (b :: l)) = natL (bits8 b.toNat) ++ natL (bitsL l) := by simp [bitsL, natL]
theorem nbits_xorL : ∀ (a b : List UInt8), a.length = b.length → natL (bitsL (xorL a b)) = List.zipWith (· ^^^ ·) (natL (bitsL a)) (natL (bitsL b))
  | [], [], _ => rfl
  | x :: a, y :: b, h => by
    show natL (bitsL ((x ^^^ y) :: xorL a b)) = _
    rw [natL_bitsL_cons, natL_bitsL_cons, natL_bitsL_cons, nbits_xorL a b (by simpa using h), UInt8.toNat_xor]
    have := nat8_xor ⟨x.toNat, UInt8.toNat_lt x⟩ ⟨y.toNat, UInt8.toNat_lt y⟩
    simp only at this
    rw [this, List.zipWith_append (by rw [nat8, nat8]; rfl)]
  | [], _ :: _, h => by simp at h
  | _ :: _, [], h => by simp at h
theorem check_xored (a b : ByteArray) (h : a.size = b.size) : checkN (xored a b) = checkN a ^^^ checkN b := by
  have e : nbits (xored a b) = List.zipWith (· ^^^ ·) (nbits a) (nbits b) := by
    unfold nbits xored
    rw [if_pos h]
    exact nbits_xorL _ _ (by simpa using h)
  rw [checkN_eq, e, Crc.crc_xor _ (nbits_bit a) (nbits_bit b)]
  · rfl
  · simp [nbits, natL, bitsL_length, h]
end Go.Proofs.Ytbojjpdbjfiocaa
