/- Smearing, plainly: bits from place p on xored with a mask's bits, the highest first. Nothing of Go's text here. -/
import Derived.Test.YtbojjpdbjfiocaiBitsBytes
import Derived.Test.YtbojjpdbjfiocaiXor64
namespace Go.Proofs.Ytbojjpdbjfiocai
open Go.RowKit

def xb (a : Int) (b : Nat) : Int := if b = 1 then 1 - a else a
def mbit (mask i : Nat) : Nat := mask / 2 ^ (15 - i) % 2
theorem mbit_lt (mask i : Nat) : mbit mask i < 2 := Nat.mod_lt _ (by omega)
def smI (xs : List Int) (p mask k : Nat) : List Int := (List.range xs.length).map fun i => if p ≤ i ∧ i < p + k then xb (xs.getD i 0) (mbit mask (i - p)) else xs.getD i 0
theorem smI_length (xs : List Int) (p mask k : Nat) : (smI xs p mask k).length = xs.length := by simp [smI]
theorem getD_out (xs : List Int) (i : Nat) (h : xs.length ≤ i) : xs.getD i 0 = 0 := by
  rw [List.getD_eq_getElem?_getD, List.getElem?_eq_none h]; rfl
theorem smI_getD (xs : List Int) (p mask k i : Nat) : (smI xs p mask k).getD i 0 = if (p ≤ i ∧ i < p + k) ∧ i < xs.length then xb (xs.getD i 0) (mbit mask (i - p)) else xs.getD i 0 := by
  by_cases h : i < xs.length
  · have : (smI xs p mask k).getD i 0 = if p ≤ i ∧ i < p + k then xb (xs.getD i 0) (mbit mask (i - p)) else xs.getD i 0 := by
      simp [smI, List.getD_eq_getElem?_getD, h]
    rw [this]
    by_cases h2 : p ≤ i ∧ i < p + k
    · rw [if_pos h2, if_pos ⟨h2, h⟩]
    · rw [if_neg h2, if_neg (fun e => h2 e.1)]
  · rw [getD_out _ _ (by rw [smI_length]; omega), if_neg (fun e => h e.2), getD_out _ _ (by omega)]
theorem ext_getD {xs ys : List Int} (hl : xs.length = ys.length) (h : ∀ i, i < xs.length → xs.getD i 0 = ys.getD i 0) : xs = ys := by
  apply List.ext_getElem hl
  intro i h1 h2
  have := h i h1
  rw [List.getD_eq_getElem?_getD, List.getD_eq_getElem?_getD, List.getElem?_eq_getElem h1, List.getElem?_eq_getElem h2] at this
  simpa using this
theorem smI_zero (xs : List Int) (p mask : Nat) : smI xs p mask 0 = xs := by
  apply ext_getD (smI_length _ _ _ _)
  intro i _
  rw [smI_getD, if_neg (by omega)]
theorem smI_far {xs : List Int} {p mask k : Nat} (h : xs.length ≤ p + k) (hk : k ≤ 16) : smI xs p mask k = smI xs p mask 16 := by
  apply ext_getD (by rw [smI_length, smI_length])
  intro i hi
  rw [smI_length] at hi
  rw [smI_getD, smI_getD]
  by_cases h2 : p ≤ i
  · rw [if_pos ⟨⟨h2, by omega⟩, hi⟩, if_pos ⟨⟨h2, by omega⟩, hi⟩]
  · rw [if_neg (by omega), if_neg (by omega)]
theorem xb_bit {a : Int} (h : bit a = true) (b : Nat) : bit (xb a b) = true := by
  have := bit_bd h
  unfold xb
  split
  · simp [bit]; omega
  · exact h
theorem smI_all {xs : List Int} (h : xs.all bit = true) (p mask k : Nat) : (smI xs p mask k).all bit = true := by
  rw [List.all_eq_true]
  intro x hx
  simp only [smI, List.mem_map] at hx
  obtain ⟨i, _, rfl⟩ := hx
  split
  · exact xb_bit (bit_at h i) _
  · exact bit_at h i
theorem smI_at (xs : List Int) (p mask k : Nat) : (smI xs p mask k).getD (p + k) 0 = xs.getD (p + k) 0 := by
  rw [smI_getD, if_neg (by omega)]
theorem smI_step {xs : List Int} {p mask k : Nat} (h : p + k < xs.length) (i : Nat) : (smI xs p mask (k + 1)).getD i 0 = if i = p + k then xb (xs.getD (p + k) 0) (mbit mask k) else (smI xs p mask k).getD i 0 := by
  rw [smI_getD, smI_getD]
  by_cases e : i = p + k
  · subst e
    rw [if_pos ⟨by omega, h⟩, if_pos rfl, show p + k - p = k by omega]
  · rw [if_neg e]
    by_cases h2 : (p ≤ i ∧ i < p + k) ∧ i < xs.length
    · rw [if_pos ⟨by omega, h2.2⟩, if_pos h2]
    · rw [if_neg (by omega), if_neg h2]
theorem xor_xb {a : Int} (h : bit a = true) {b : Nat} (hb : b < 2) : bits .xor .i64 a (b : Int) = xb a b := by
  have := bit_bd h
  obtain ⟨n, rfl⟩ := Int.eq_ofNat_of_zero_le this.1
  rw [show ((n : Nat) : Int) = (n : Int) from rfl, i64_xor_nat n b (by omega) (by omega)]
  have hn : n = 0 ∨ n = 1 := by omega
  have hb' : b = 0 ∨ b = 1 := by omega
  rcases hn with rfl | rfl <;> rcases hb' with rfl | rfl <;> rfl
/-- One bit of a byte xored. -/
theorem flip_all : ∀ m : Fin 8, ∀ v : Fin 256, (v.val ^^^ 2 ^ (7 - m.val)) = if v.val / 2 ^ (7 - m.val) % 2 = 1 then v.val - 2 ^ (7 - m.val) else v.val + 2 ^ (7 - m.val) := by decide +kernel
theorem flip8 (m v : Nat) (hm : m < 8) (hv : v < 256) : bits .xor .u8 (v : Int) (2 ^ (7 - m)) = if v / 2 ^ (7 - m) % 2 = 1 then (v : Int) - 2 ^ (7 - m) else (v : Int) + 2 ^ (7 - m) := by
  have hall := flip_all ⟨m, hm⟩ ⟨v, hv⟩
  simp only at hall
  have hp : (2 : Int) ^ (7 - m) = ((2 ^ (7 - m) : Nat) : Int) := by simp
  have hlt : 2 ^ (7 - m) < 256 := Nat.lt_of_le_of_lt (Nat.pow_le_pow_right (by omega) (show 7 - m ≤ 7 by omega)) (by omega)
  have hx := xor_byte (UInt8.ofNat v) (UInt8.ofNat (2 ^ (7 - m)))
  rw [UInt8.toNat_xor, UInt8.toNat_ofNat', UInt8.toNat_ofNat', Nat.mod_eq_of_lt hv, Nat.mod_eq_of_lt hlt] at hx
  rw [hp, hx, hall]
  by_cases h1 : v / 2 ^ (7 - m) % 2 = 1
  · rw [if_pos h1, if_pos h1]
    have : 2 ^ (7 - m) ≤ v := by
      rcases Nat.lt_or_ge v (2 ^ (7 - m)) with h | h
      · rw [Nat.div_eq_of_lt h] at h1; simp at h1
      · exact h
    omega
  · rw [if_neg h1, if_neg h1]
    simp
/-- The byte of eight bits, one of them turned. -/
theorem jn_flip {g0 g1 g2 g3 g4 g5 g6 g7 : Int} (b0 : 0 ≤ g0 ∧ g0 ≤ 1) (b1 : 0 ≤ g1 ∧ g1 ≤ 1) (b2 : 0 ≤ g2 ∧ g2 ≤ 1) (b3 : 0 ≤ g3 ∧ g3 ≤ 1) (b4 : 0 ≤ g4 ∧ g4 ≤ 1) (b5 : 0 ≤ g5 ∧ g5 ≤ 1) (b6 : 0 ≤ g6 ∧ g6 ≤ 1) (b7 : 0 ≤ g7 ∧ g7 ≤ 1) {m : Nat} (hm : m < 8) :
    bits .xor .u8 (jn [g0, g1, g2, g3, g4, g5, g6, g7]) (2 ^ (7 - m)) = jn [if 0 = m then 1 - g0 else g0, if 1 = m then 1 - g1 else g1, if 2 = m then 1 - g2 else g2, if 3 = m then 1 - g3 else g3, if 4 = m then 1 - g4 else g4, if 5 = m then 1 - g5 else g5, if 6 = m then 1 - g6 else g6, if 7 = m then 1 - g7 else g7] := by
  rw [jn8, jn8]
  obtain ⟨v, hv⟩ : ∃ v : Nat, (v : Int) = 128 * g0 + 64 * g1 + 32 * g2 + 16 * g3 + 8 * g4 + 4 * g5 + 2 * g6 + g7 := ⟨(128 * g0 + 64 * g1 + 32 * g2 + 16 * g3 + 8 * g4 + 4 * g5 + 2 * g6 + g7).toNat, by omega⟩
  rw [← hv, flip8 m v hm (by omega)]
  rcases (show m = 0 ∨ m = 1 ∨ m = 2 ∨ m = 3 ∨ m = 4 ∨ m = 5 ∨ m = 6 ∨ m = 7 by omega) with rfl | rfl | rfl | rfl | rfl | rfl | rfl | rfl
  all_goals
    simp
    split <;> omega
theorem bit01 {xs : List Int} (hall : xs.all bit = true) (i : Nat) : 0 ≤ xs.getD i 0 ∧ xs.getD i 0 ≤ 1 := bit_bd (bit_at hall i)
theorem smI_byte {xs : List Int} (hall : xs.all bit = true) {p mask k : Nat} (h : p + k < xs.length) :
    bits .xor .u8 (jn (eight (smI xs p mask k) (8 * ((p + k) / 8)))) ((mbit mask k : Int) * 2 ^ (7 - (p + k) % 8)) = jn (eight (smI xs p mask (k + 1)) (8 * ((p + k) / 8))) := by
  obtain ⟨q, hq⟩ : ∃ q, q = (p + k) / 8 := ⟨_, rfl⟩
  obtain ⟨m, hm⟩ : ∃ m, m = (p + k) % 8 := ⟨_, rfl⟩
  have hpk : p + k = 8 * q + m := by omega
  have hm8 : m < 8 := by omega
  rw [← hq, ← hm]
  clear hq hm
  have hs := smI_all hall p mask k
  have hst : ∀ i, (smI xs p mask (k + 1)).getD (8 * q + i) 0 = if i = m then xb ((smI xs p mask k).getD (8 * q + i) 0) (mbit mask k) else (smI xs p mask k).getD (8 * q + i) 0 := by
    intro i
    rw [smI_step h, hpk]
    by_cases e : i = m
    · subst e
      rw [if_pos rfl, if_pos rfl, ← hpk, smI_at]
    · rw [if_neg (by omega), if_neg e]
  have hs0 := hst 0
  have z0 := bit01 hs (8 * q + 0)
  simp only [Nat.add_zero] at hs0 z0
  unfold eight
  rw [hs0, hst 1, hst 2, hst 3, hst 4, hst 5, hst 6, hst 7]
  have z1 := bit01 hs (8 * q + 1)
  have z2 := bit01 hs (8 * q + 2)
  have z3 := bit01 hs (8 * q + 3)
  have z4 := bit01 hs (8 * q + 4)
  have z5 := bit01 hs (8 * q + 5)
  have z6 := bit01 hs (8 * q + 6)
  have z7 := bit01 hs (8 * q + 7)
  have hb := mbit_lt mask k
  generalize mbit mask k = b at *
  clear hst hs0 hs h hall
  rcases (show b = 0 ∨ b = 1 by omega) with rfl | rfl
  · simp only [xb, if_neg (show ¬ (0 : Nat) = 1 by omega), ite_self]
    rw [jn8]
    obtain ⟨v, hv⟩ : ∃ v : Nat, (v : Int) = 128 * (smI xs p mask k).getD (8 * q) 0 + 64 * (smI xs p mask k).getD (8 * q + 1) 0 + 32 * (smI xs p mask k).getD (8 * q + 2) 0 + 16 * (smI xs p mask k).getD (8 * q + 3) 0 + 8 * (smI xs p mask k).getD (8 * q + 4) 0 + 4 * (smI xs p mask k).getD (8 * q + 5) 0 + 2 * (smI xs p mask k).getD (8 * q + 6) 0 + (smI xs p mask k).getD (8 * q + 7) 0 := ⟨(_ : Int).toNat, Int.toNat_of_nonneg (by omega)⟩
    rw [← hv]
    have hx := xor_byte (UInt8.ofNat v) 0
    rw [UInt8.toNat_xor, UInt8.toNat_ofNat', Nat.mod_eq_of_lt (by omega)] at hx
    simpa using hx
  · simp only [xb, if_pos]
    rw [show ((1 : Nat) : Int) * 2 ^ (7 - m) = 2 ^ (7 - m) by simp, jn_flip z0 z1 z2 z3 z4 z5 z6 z7 hm8]
theorem smI_other {xs : List Int} {p mask k j : Nat} (h : p + k < xs.length) (hj : j ≠ (p + k) / 8) : eight (smI xs p mask (k + 1)) (8 * j) = eight (smI xs p mask k) (8 * j) := by
  refine eight_congr fun i hi => ?_
  rw [smI_step h, if_neg (by omega)]
/-- A text smeared. -/
def smeared (s : ByteArray) (at' mask : Int) : ByteArray :=
  if 0 ≤ at' ∧ at' < 8 * (s.size : Int) ∧ 0 ≤ mask ∧ mask < 65536 then str (byteL (smI (bitsL s.data.toList) at'.toNat mask.toNat 16)) else s
theorem smeared_yes {s : ByteArray} {p mask : Nat} (hp : p < 8 * s.size) (hm : mask < 65536) : smeared s (p : Int) (mask : Int) = str (byteL (smI (bitsL s.data.toList) p mask 16)) := by
  unfold smeared; rw [if_pos (by omega)]; rfl
theorem smeared_no {s : ByteArray} {at' mask : Int} (h : ¬ (0 ≤ at' ∧ at' < 8 * (s.size : Int) ∧ 0 ≤ mask ∧ mask < 65536)) : smeared s at' mask = s := if_neg h
theorem shr_mbit (mask k : Nat) : ((mask : Int) / 2 ^ (15 - k)).tmod 2 = (mbit mask k : Int) := by
  have hp : ((mask : Int) / 2 ^ (15 - k)) = ((mask / 2 ^ (15 - k) : Nat) : Int) := by simp
  rw [hp]
  unfold mbit
  generalize mask / 2 ^ (15 - k) = q
  rw [Int.tmod_eq_emod_of_nonneg (by omega)]
  omega
theorem and_mbit (mask k : Nat) (h : mask < 65536) : bits .and .i64 ((mask : Int) / 2 ^ (15 - k)) 1 = (mbit mask k : Int) := by
  have hp : ((mask : Int) / 2 ^ (15 - k)) = ((mask / 2 ^ (15 - k) : Nat) : Int) := by simp
  have hlt : mask / 2 ^ (15 - k) < 65536 := Nat.lt_of_le_of_lt (Nat.div_le_self _ _) h
  rw [hp]
  unfold mbit
  generalize mask / 2 ^ (15 - k) = q at *
  show IntKind.i64.wrap ((BitVec.ofInt 64 (q : Int) &&& BitVec.ofInt 64 ((1 : Nat) : Int)).toNat : Int) = _
  rw [BitVec.toNat_and, ofInt_u64 q (by omega), ofInt_u64 1 (by omega), Nat.and_one_is_mod]
  simp [IntKind.wrap, IntKind.bits, IntKind.signed]
  omega
end Go.Proofs.Ytbojjpdbjfiocai
