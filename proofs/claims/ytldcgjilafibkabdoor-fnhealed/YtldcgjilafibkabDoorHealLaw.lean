/- Plain facts of chapter 4's texts: words of which some have one bit turned are healed. Nothing of Go's text here. -/
import Derived.Test.YtldcgjilafibkabDoorHamAll
namespace Go.Proofs.YtldcgjilafibkabDoor
open Go.RowKit

/-- A byte's word, or that with one bit turned, and how many were. -/
def Turn (b x c : Nat) : Prop := (x = Ham.spread b ∧ c = 0) ∨ ∃ i, i < 13 ∧ x = Ham.spread b ^^^ 2 ^ i ∧ c = 1
theorem Turn.lt {b x c : Nat} (h : Turn b x c) (hb : b < 256) : x < 8192 := by
  rcases h with ⟨rfl, _⟩ | ⟨i, hi, rfl, _⟩
  · exact Ham.spread_lt hb
  · exact Ham.turned_lt (Ham.spread_lt hb) hi
theorem Turn.healed {b x c : Nat} (h : Turn b x c) (hb : b < 256) : healedI (x : Int) = ((b : Int), (c : Int)) := by
  rw [healedI_nat (h.lt hb)]
  rcases h with ⟨rfl, rfl⟩ | ⟨i, hi, rfl, rfl⟩
  · exact Ham.healed_clean hb
  · exact Ham.healed_one hb hi
theorem Turn.le {b x c : Nat} (h : Turn b x c) : c ≤ 1 := by
  rcases h with ⟨_, rfl⟩ | ⟨_, _, _, rfl⟩ <;> omega
def sumTo (f : Nat → Nat × Nat) (k : Nat) : Nat := ((List.range k).map fun j => (f j).2).sum
theorem sumTo_succ (f : Nat → Nat × Nat) (k : Nat) : sumTo f (k + 1) = sumTo f k + (f k).2 := by simp [sumTo, List.range_succ]
theorem sumTo_congr {f g : Nat → Nat × Nat} {k : Nat} (h : ∀ j, j < k → f j = g j) : sumTo f k = sumTo g k := by
  unfold sumTo
  congr 1
  apply List.map_congr_left
  intro j hj
  rw [h j (List.mem_range.1 hj)]
theorem sumTo_le (f : Nat → Nat × Nat) : ∀ k, (∀ j, j < k → (f j).2 ≤ 1) → sumTo f k ≤ k
  | 0, _ => Nat.le_refl _
  | k + 1, h => by
    have ih := sumTo_le f k (fun j hj => h j (by omega))
    have := h k (by omega)
    rw [sumTo_succ]; omega
def byteAt (s : ByteArray) (j : Nat) : Nat := (s.data.toList.getD j 0).toNat
theorem byteAt_lt (s : ByteArray) (j : Nat) : byteAt s j < 256 := UInt8.toNat_lt _
theorem healedAll_turned (s u : ByteArray) (N : Nat) (hs : s.size = N) (hu : u.size = 2 * N) (hN : N ≤ 300) (f : Nat → Nat × Nat) (hf : ∀ j, j < N → Turn (byteAt s j) (f j).1 (f j).2) (hw : ∀ j, j < N → wordAt u j = (f j).1) :
    healedAll u = (s, (sumTo f N : Int), true) := by
  have hd : u.size / 2 = N := by omega
  have hh : ∀ j, j < N → healedI (wordAt u j) = ((byteAt s j : Int), ((f j).2 : Int)) := fun j hj => by
    rw [hw j hj]; exact (hf j hj).healed (byteAt_lt s j)
  have hgood : goodTo u N := fun j hj => by
    rw [hh j hj]
    have := (hf j hj).le
    simp only
    omega
  have hb : bytesTo u N = s.data.toList := by
    apply List.ext_getElem
    · rw [bytesTo_length]; simpa using hs.symm
    · intro j h1 h2
      have hj : j < N := by simpa [bytesTo] using h1
      simp only [bytesTo, List.getElem_map, List.getElem_range]
      rw [hh j hj]
      simp only [byteAt]
      rw [List.getD_eq_getElem?_getD, List.getElem?_eq_getElem h2]
      simp
  have hc : ∀ k, k ≤ N → fixedTo u k = (sumTo f k : Int) := by
    intro k
    induction k with
    | zero => intro _; rfl
    | succ k ih => intro hk; rw [fixedTo_succ, sumTo_succ, ih (by omega), hh k (by omega)]; simp
  rw [healedAll_yes ⟨by omega, by omega, by rw [hd]; exact hgood⟩, hd, hb, hc N (Nat.le_refl _)]
  congr 1
/-- A row of words: the byte number i. -/
def rowN (f : Nat → Nat × Nat) (i : Nat) : Nat := if i % 2 = 0 then (f (i / 2)).1 / 256 else (f (i / 2)).1 % 256
def rowL (f : Nat → Nat × Nat) (N : Nat) : List UInt8 := (List.range (2 * N)).map fun i => UInt8.ofNat (rowN f i)
theorem rowL_length (f : Nat → Nat × Nat) (N : Nat) : (rowL f N).length = 2 * N := by simp [rowL]
theorem rowN_lt {f : Nat → Nat × Nat} {i : Nat} (h : (f (i / 2)).1 < 8192) : rowN f i < 256 := by
  unfold rowN
  split <;> omega
theorem rowL_cell {f : Nat → Nat × Nat} {N i : Nat} (hi : i < 2 * N) (h : (f (i / 2)).1 < 8192) : cellB (rowL f N) i = .int .u8 (rowN f i : Int) := by
  have e : (rowL f N).getD i 0 = UInt8.ofNat (rowN f i) := by simp [rowL, List.getD_eq_getElem?_getD, hi]
  rw [cellB, e, UInt8.toNat_ofNat', Nat.mod_eq_of_lt (rowN_lt h)]
theorem rowL_word {f : Nat → Nat × Nat} {N j : Nat} (hj : j < N) (h : (f j).1 < 8192) : wordAt (str (rowL f N)) j = (f j).1 := by
  have g : ∀ i, i < 2 * N → (f (i / 2)).1 < 8192 → ((str (rowL f N)).data.toList.getD i 0).toNat = rowN f i := fun i hi h => by
    show ((rowL f N).getD i 0).toNat = _
    have e : (rowL f N).getD i 0 = UInt8.ofNat (rowN f i) := by simp [rowL, List.getD_eq_getElem?_getD, hi]
    rw [e, UInt8.toNat_ofNat', Nat.mod_eq_of_lt (rowN_lt h)]
  have e0 : 2 * j / 2 = j := by omega
  have e1 : (2 * j + 1) / 2 = j := by omega
  unfold wordAt
  rw [g (2 * j) (by omega) (by rw [e0]; exact h), g (2 * j + 1) (by omega) (by rw [e1]; exact h)]
  unfold rowN
  rw [if_pos (by omega), if_neg (by omega), e0, e1]
  omega
def firstF (s : ByteArray) (j : Nat) : Nat × Nat := (Ham.spread (byteAt s j), 0)
theorem spreadL_at : ∀ (l : List UInt8) (i : Nat), i < 2 * l.length → (spreadL l).getD i 0 = (wordB (Ham.spread (l.getD (i / 2) 0).toNat)).getD (i % 2) 0
  | [], i, h => by simp at h
  | b :: l, 0, _ => rfl
  | b :: l, 1, _ => rfl
  | b :: l, i + 2, h => by
    have ih := spreadL_at l i (by simp at h; omega)
    show (wordB (Ham.spread b.toNat) ++ spreadL l).getD (i + 2) 0 = _
    rw [List.getD_eq_getElem?_getD, List.getElem?_append_right (by simp [wordB]), show i + 2 - (wordB (Ham.spread b.toNat)).length = i by simp [wordB], ← List.getD_eq_getElem?_getD, ih, show (i + 2) / 2 = i / 2 + 1 by omega, show (i + 2) % 2 = i % 2 by omega]
    rfl
theorem spreadL_row (s : ByteArray) : spreadL s.data.toList = rowL (firstF s) s.size := by
  apply List.ext_getElem
  · rw [spreadL_length, rowL_length]; simp
  · intro i h1 h2
    have hi : i < 2 * s.data.toList.length := by rw [spreadL_length] at h1; exact h1
    have := spreadL_at s.data.toList i hi
    rw [List.getD_eq_getElem?_getD, List.getElem?_eq_getElem h1] at this
    simp only [Option.getD_some] at this
    rw [this]
    simp only [rowL, List.getElem_map, List.getElem_range, rowN, firstF, byteAt]
    rcases (show i % 2 = 0 ∨ i % 2 = 1 by omega) with h | h
    · rw [h, if_pos rfl]; rfl
    · rw [h, if_neg (by omega)]; rfl
/-- A bit of a word turned: its two bytes. -/
theorem low_turned {x i : Nat} (hi : i < 8) : (x ^^^ 2 ^ i) % 256 = x % 256 ^^^ 2 ^ i ∧ (x ^^^ 2 ^ i) / 256 = x / 256 := by
  have h1 : (x ^^^ 2 ^ i) % 2 ^ 8 = x % 2 ^ 8 ^^^ 2 ^ i % 2 ^ 8 := Nat.xor_mod_two_pow
  have h2 := @Nat.shiftRight_xor_distrib 8 x (2 ^ i)
  simp only [Nat.shiftRight_eq_div_pow] at h2
  have hlt : 2 ^ i < 2 ^ 8 := Nat.pow_lt_pow_right (by omega) hi
  rw [Nat.mod_eq_of_lt hlt] at h1
  rw [Nat.div_eq_of_lt hlt, Nat.xor_zero] at h2
  exact ⟨h1, h2⟩
theorem high_turned {x i : Nat} (h8 : 8 ≤ i) : (x ^^^ 2 ^ i) % 256 = x % 256 ∧ (x ^^^ 2 ^ i) / 256 = x / 256 ^^^ 2 ^ (i - 8) := by
  have h1 : (x ^^^ 2 ^ i) % 2 ^ 8 = x % 2 ^ 8 ^^^ 2 ^ i % 2 ^ 8 := Nat.xor_mod_two_pow
  have h2 := @Nat.shiftRight_xor_distrib 8 x (2 ^ i)
  simp only [Nat.shiftRight_eq_div_pow] at h2
  have hp : 2 ^ i = 2 ^ (i - 8) * 2 ^ 8 := by rw [← Nat.pow_add, show i - 8 + 8 = i by omega]
  rw [hp, Nat.mul_mod_left, Nat.xor_zero, ← hp] at h1
  rw [hp, Nat.mul_div_cancel _ (by omega), ← hp] at h2
  exact ⟨h1, h2⟩
def turnAt (f : Nat → Nat × Nat) (k i : Nat) (j : Nat) : Nat × Nat := if j = k then ((f k).1 ^^^ 2 ^ i, 1) else f j
theorem row_low {f : Nat → Nat × Nat} {k i : Nat} (hi : i < 8) (q : Nat) : (if q = 2 * k + 1 then rowN f (2 * k + 1) ^^^ 2 ^ i else rowN f q) = rowN (turnAt f k i) q := by
  have e1 : (2 * k + 1) / 2 = k := by omega
  unfold rowN turnAt
  by_cases h : q = 2 * k + 1
  · subst h
    rw [if_pos rfl, if_neg (by omega), if_neg (by omega), e1, if_pos rfl, (low_turned hi).1]
  · rw [if_neg h]
    by_cases h2 : q / 2 = k
    · have : q = 2 * k := by omega
      subst this
      rw [if_pos (by omega), if_pos (by omega), if_pos h2, h2, (low_turned hi).2]
    · rw [if_neg h2]
theorem row_high {f : Nat → Nat × Nat} {k i : Nat} (h8 : 8 ≤ i) (q : Nat) : (if q = 2 * k then rowN f (2 * k) ^^^ 2 ^ (i - 8) else rowN f q) = rowN (turnAt f k i) q := by
  have e0 : 2 * k / 2 = k := by omega
  unfold rowN turnAt
  by_cases h : q = 2 * k
  · subst h
    rw [if_pos rfl, if_pos (by omega), if_pos (by omega), e0, if_pos rfl, (high_turned h8).2]
  · rw [if_neg h]
    by_cases h2 : q / 2 = k
    · have : q = 2 * k + 1 := by omega
      subst this
      rw [if_neg (by omega), if_neg (by omega), if_pos h2, h2, (high_turned h8).1]
    · rw [if_neg h2]
theorem turnAt_turn {f : Nat → Nat × Nat} {b k i : Nat} (hi : i < 13) (h : f k = (Ham.spread b, 0)) : Turn b (turnAt f k i k).1 (turnAt f k i k).2 := by
  unfold turnAt
  rw [if_pos rfl, h]
  exact .inr ⟨i, hi, rfl, rfl⟩
end Go.Proofs.YtldcgjilafibkabDoor
