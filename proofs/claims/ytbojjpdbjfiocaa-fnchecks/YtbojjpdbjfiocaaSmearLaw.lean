/- Plain facts of chapter 3: what is smeared within sixteen bits is noticed; a check's bytes xored. Nothing of Go's text here. -/
import Derived.Test.YtbojjpdbjfiocaaCheckLaw
import Derived.Test.YtbojjpdbjfiocaaSmearMath
namespace Go.Proofs.Ytbojjpdbjfiocaa
open Go.RowKit

theorem bitOf_jn {g0 g1 g2 g3 g4 g5 g6 g7 : Int} (b0 : 0 ≤ g0 ∧ g0 ≤ 1) (b1 : 0 ≤ g1 ∧ g1 ≤ 1) (b2 : 0 ≤ g2 ∧ g2 ≤ 1) (b3 : 0 ≤ g3 ∧ g3 ≤ 1) (b4 : 0 ≤ g4 ∧ g4 ≤ 1) (b5 : 0 ≤ g5 ∧ g5 ≤ 1) (b6 : 0 ≤ g6 ∧ g6 ≤ 1) (b7 : 0 ≤ g7 ∧ g7 ≤ 1) {i : Nat} (hi : i < 8) :
    bitOf (jn [g0, g1, g2, g3, g4, g5, g6, g7]).toNat i = [g0, g1, g2, g3, g4, g5, g6, g7].getD i 0 := by
  rw [jn8]
  unfold bitOf
  match i, hi with
  | 0, _ | 1, _ | 2, _ | 3, _ | 4, _ | 5, _ | 6, _ | 7, _ => simp; omega
theorem getD_add (xs : List Int) (p : Nat) : ∀ i, i < 8 → (eight xs p).getD i 0 = xs.getD (p + i) 0 := by
  intro i hi
  match i, hi with
  | 0, _ | 1, _ | 2, _ | 3, _ | 4, _ | 5, _ | 6, _ | 7, _ => rfl
/-- The bits of the bytes of bits, where these fill whole bytes. -/
theorem bitsL_byteL {ys : List Int} (h : ys.all bit = true) {n : Nat} (hl : ys.length = 8 * n) : bitsL (byteL ys) = ys := by
  have hbl : (byteL ys).length = n := by rw [byteL_length, hl]; omega
  apply ext_getD
  · rw [bitsL_length, hbl, hl]
  · intro i hi
    rw [bitsL_length, hbl] at hi
    have hd : i = 8 * (i / 8) + i % 8 := by omega
    have hj : i / 8 < (byteL ys).length := by rw [hbl]; omega
    have e : ((byteL ys).getD (i / 8) 0).toNat = (jn (eight ys (8 * (i / 8)))).toNat := by
      have hc := byte_cell h (i / 8) (by rw [hl]; omega)
      rw [cellB] at hc
      have hc' := congrArg (fun v => match v with | .int _ x => x.toNat | _ => 0) hc
      simp only at hc'
      rw [hc']; rfl
    rw [hd, bitsL_at (byteL ys) (i / 8) (i % 8) hj (by omega), e, ← getD_add ys (8 * (i / 8)) (i % 8) (by omega)]
    unfold eight
    exact bitOf_jn (bit01 h _) (bit01 h _) (bit01 h _) (bit01 h _) (bit01 h _) (bit01 h _) (bit01 h _) (bit01 h _) (by omega)
theorem bitsn_at (M j : Nat) (h : j < 16) : (Crc.bitsn 16 M).getD j 0 = mbit M j := by
  rw [bitsn16]
  unfold mbit
  rcases (show j = 0 ∨ j = 1 ∨ j = 2 ∨ j = 3 ∨ j = 4 ∨ j = 5 ∨ j = 6 ∨ j = 7 ∨ j = 8 ∨ j = 9 ∨ j = 10 ∨ j = 11 ∨ j = 12 ∨ j = 13 ∨ j = 14 ∨ j = 15 by omega) with rfl | rfl | rfl | rfl | rfl | rfl | rfl | rfl | rfl | rfl | rfl | rfl | rfl | rfl | rfl | rfl <;> simp
theorem smear_at (n p M i : Nat) (hi : i < n) : (Crc.smear n p M).getD i 0 = if p ≤ i ∧ i < p + 16 then mbit M (i - p) else 0 := by
  unfold Crc.smear
  rw [List.getD_eq_getElem?_getD]
  by_cases h1 : i < p
  · rw [List.getElem?_append_left (by simpa using h1), if_neg (by omega)]
    simp [h1]
  · rw [List.getElem?_append_right (by simp; omega), List.length_replicate]
    by_cases h2 : i < p + 16
    · rw [List.getElem?_append_left (by simp [Crc.bitsn_length]; omega), List.getElem?_take, if_pos (by omega), if_pos (by omega), ← List.getD_eq_getElem?_getD, bitsn_at _ _ (by omega)]
    · rw [List.getElem?_append_right (by simp [Crc.bitsn_length]; omega), if_neg (by omega)]
      simp [Crc.bitsn_length]
      rw [List.getElem?_replicate]
      split <;> rfl
theorem xb_xor {a : Int} (h : bit a = true) {b : Nat} (hb : b < 2) : (xb a b).toNat = a.toNat ^^^ b := by
  have h2 := bit_bd h
  have ha : a = 0 ∨ a = 1 := by omega
  have hb' : b = 0 ∨ b = 1 := by omega
  rcases ha with rfl | rfl <;> rcases hb' with rfl | rfl <;> rfl
theorem natL_at (xs : List Int) (i : Nat) (h : i < xs.length) : (natL xs)[i]'(by simpa [natL] using h) = (xs.getD i 0).toNat := by
  simp [natL, List.getD_eq_getElem?_getD, h]
theorem natL_smI {xs : List Int} (h : xs.all bit = true) (p M : Nat) (hp : p ≤ xs.length) : natL (smI xs p M 16) = List.zipWith (· ^^^ ·) (natL xs) (Crc.smear xs.length p M) := by
  apply List.ext_getElem
  · simp [natL, smI_length, Crc.smear_length hp]
  · intro i h1 h2
    have hi : i < xs.length := by simpa [natL, smI_length] using h1
    have hs : (Crc.smear xs.length p M)[i]'(by rw [Crc.smear_length hp]; exact hi) = (Crc.smear xs.length p M).getD i 0 := by
      rw [List.getD_eq_getElem?_getD, List.getElem?_eq_getElem (by rw [Crc.smear_length hp]; exact hi)]; rfl
    rw [List.getElem_zipWith, natL_at _ i (by rw [smI_length]; exact hi), natL_at xs i hi, hs, smear_at _ _ _ _ hi, smI_getD]
    by_cases h3 : p ≤ i ∧ i < p + 16
    · rw [if_pos ⟨h3, hi⟩, if_pos h3, xb_xor (bit_at h i) (mbit_lt _ _)]
    · rw [if_neg (fun e => h3 e.1), if_neg h3, Nat.xor_zero]
theorem zip_nought (l : List Nat) (n : Nat) (h : l.length = n) : List.zipWith (· ^^^ ·) l (List.replicate n 0) = l := by
  subst h
  induction l with
  | nil => rfl
  | cons b l ih => rw [List.length_cons, List.replicate_succ, List.zipWith_cons_cons, ih, Nat.xor_zero]
theorem natL_inj {xs ys : List Int} (hx : xs.all bit = true) (hy : ys.all bit = true) (h : natL xs = natL ys) : xs = ys := by
  have hl : xs.length = ys.length := by
    have := congrArg List.length h
    simpa [natL] using this
  apply ext_getD hl
  intro i hi
  have e1 := natL_at xs i hi
  have e2 := natL_at ys i (by omega)
  have b1 := bit01 hx i
  have b2 := bit01 hy i
  have : (natL xs)[i]'(by simpa [natL] using hi) = (natL ys)[i]'(by simpa [natL, ← hl] using hi) := by simp only [h]
  omega
theorem smeared_size (s : ByteArray) (a m : Int) : (smeared s a m).size = s.size := by
  unfold smeared
  split
  · show (byteL _).length = _
    rw [byteL_length, smI_length, bitsL_length]; simp; omega
  · rfl
/-- A checked text that is smeared is what it was, or it is not whole. -/
theorem smeared_seen (s : ByteArray) (p M : Nat) (hp : p < 8 * (checked s).size) (hM : M < 65536) (hw : whole (smeared (checked s) (p : Int) (M : Int)) = true) :
    smeared (checked s) (p : Int) (M : Int) = checked s := by
  obtain ⟨c, hc⟩ : ∃ c, c = checked s := ⟨_, rfl⟩
  have hrun := run_checked s
  have hcz := checked_size s
  rw [← hc] at hrun hcz hw hp ⊢
  have hsz := smeared_size c (p : Int) (M : Int)
  obtain ⟨xs, hxs⟩ : ∃ xs, xs = bitsL c.data.toList := ⟨_, rfl⟩
  have hall : xs.all bit = true := by rw [hxs]; exact bitsL_all _
  have hlen : xs.length = 8 * c.size := by rw [hxs, bitsL_length]; simp
  have hyes := smeared_yes (s := c) hp hM
  rw [← hxs] at hyes
  have hnb : nbits (smeared c (p : Int) (M : Int)) = List.zipWith (· ^^^ ·) (nbits c) (Crc.smear xs.length p M) := by
    rw [hyes]
    unfold nbits
    show natL (bitsL (byteL (smI xs p M 16))) = _
    rw [bitsL_byteL (smI_all hall _ _ _) (n := c.size) (by rw [smI_length, hlen]), natL_smI hall p M (by omega), hxs]
  have hr0 : Crc.run 0 (nbits (smeared c (p : Int) (M : Int))) = 0 := by
    rcases Nat.eq_zero_or_pos (Crc.run 0 (nbits (smeared c (p : Int) (M : Int)))) with h | h
    · exact h
    · have := whole_run (smeared c (p : Int) (M : Int)) (by omega) (by omega)
      rw [this] at hw
      simp at hw
  have hx := Crc.run_xor (nbits c) (Crc.smear xs.length p M) 0 0 (by rw [Crc.smear_length (by omega)]; simp [nbits, natL, ← hxs]) (by omega) (by omega) (nbits_bit c) (Crc.smear_bit _ _ _)
  rw [Nat.xor_self, ← hnb, hr0, hrun, Nat.zero_xor] at hx
  have hz := Crc.smear_seen hM hx.symm
  rw [List.replicate_append_replicate, List.replicate_append_replicate, show p + (min (xs.length - p) 16 + (xs.length - p - 16)) = xs.length by omega] at hz
  have hn := natL_smI hall p M (by omega)
  rw [hz, zip_nought _ _ (by simp [natL])] at hn
  have he := natL_inj (smI_all hall _ _ _) hall hn
  rw [hyes, he, hxs, byteL_bitsL]
  apply ByteArray.ext
  simp [str]
/-- The two bytes of two checks xored are the bytes of the checks xored. -/
theorem xor_bytes (a b : Nat) : (a / 256 ^^^ b / 256) * 256 + (a % 256 ^^^ b % 256) = a ^^^ b := by
  have h1 := @Nat.shiftRight_xor_distrib 8 a b
  simp only [Nat.shiftRight_eq_div_pow] at h1
  have h2 : (a ^^^ b) % 2 ^ 8 = a % 2 ^ 8 ^^^ b % 2 ^ 8 := Nat.xor_mod_two_pow
  rw [show (2 : Nat) ^ 8 = 256 from rfl] at h1 h2
  rw [← h1, ← h2]
  omega
end Go.Proofs.Ytbojjpdbjfiocaa
