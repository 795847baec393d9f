/- Plain facts of the first chapter: bytes of bits are the bytes, xored twice they are themselves, to be apart is a distance. Nothing of Go's text here. -/
import Derived.Test.YtgnfibdgoghkpaaBytesMath
import Derived.Test.YtgnfibdgoghkpaaWalkS
namespace Go.Proofs.Ytgnfibdgoghkpaa
open Go.RowKit

theorem jn_bits8_all : ∀ n : Fin 256, jn (bits8 n.val) = (n.val : Int) := by decide +kernel
theorem bits8_len (n : Nat) : (bits8 n).length = 8 := rfl
theorem bits8_bit (n : Nat) : (bits8 n).all bit = true := by
  have h : ∀ k, bit (bitOf n k) = true := fun k => by have := bitOf_bd n k; simp [bit]; omega
  simp only [bits8, List.all_cons, List.all_nil, h, Bool.and_true]
theorem bitsL_all (l : List UInt8) : (bitsL l).all bit = true := by
  induction l with
  | nil => rfl
  | cons b l ih => simp only [bitsL, List.flatMap_cons, List.all_append, bits8_bit, Bool.true_and] at ih ⊢; exact ih
theorem bitsL_at : ∀ (l : List UInt8) (j i : Nat), j < l.length → i < 8 → (bitsL l).getD (8 * j + i) 0 = bitOf (l.getD j 0).toNat i
  | [], j, i, h, _ => by simp at h
  | b :: l, 0, i, _, hi => by
    rw [bitsL, List.flatMap_cons, List.getD_eq_getElem?_getD, List.getElem?_append_left (by rw [bits8_len]; omega)]
    have := bits8_at b.toNat i hi
    rw [List.getD_eq_getElem?_getD] at this
    simpa using this
  | b :: l, j + 1, i, h, hi => by
    have ih := bitsL_at l j i (by simpa using h) hi
    rw [bitsL, List.flatMap_cons, List.getD_eq_getElem?_getD, List.getElem?_append_right (by rw [bits8_len]; omega), bits8_len, show 8 * (j + 1) + i - 8 = 8 * j + i by omega, ← List.getD_eq_getElem?_getD]
    simpa [bitsL] using ih
theorem eight_bitsL (l : List UInt8) (j : Nat) (h : j < l.length) : eight (bitsL l) (8 * j) = bits8 (l.getD j 0).toNat := by
  unfold eight bits8
  rw [bitsL_at l j 1 h (by omega), bitsL_at l j 2 h (by omega), bitsL_at l j 3 h (by omega), bitsL_at l j 4 h (by omega), bitsL_at l j 5 h (by omega), bitsL_at l j 6 h (by omega), bitsL_at l j 7 h (by omega)]
  have := bitsL_at l j 0 h (by omega)
  simp only [Nat.add_zero] at this
  rw [this]
theorem byteL_bitsL (l : List UInt8) : byteL (bitsL l) = l := by
  apply List.ext_getElem
  · rw [byteL_length, bitsL_length]; omega
  · intro j h1 h2
    have hb : byteN (bitsL l) j = l[j].toNat := by
      unfold byteN
      rw [eight_bitsL l j h2]
      have e : l.getD j 0 = l[j] := by rw [List.getD_eq_getElem?_getD, List.getElem?_eq_getElem h2]; rfl
      have hj := jn_bits8_all ⟨l[j].toNat, UInt8.toNat_lt _⟩
      simp only at hj
      rw [e, hj]; rfl
    simp only [byteL, List.getElem_map, List.getElem_range, hb]
    simp
theorem bytes_bits {s : ByteArray} (h : 0 < (bitsOf s).length) : bytesOf (bitsOf s) = s := by
  have h512 : s.size ≤ 512 := by
    rcases Nat.lt_or_ge 512 s.size with h' | h'
    · rw [bitsOf_no (by omega)] at h; simp at h
    · exact h'
  have hok : bitsOk (bitsL s.data.toList) = true := by
    unfold bitsOk
    rw [bitsL_all, bitsL_length]
    simp; omega
  rw [bitsOf_yes h512, bytesOf_yes hok, byteL_bitsL]
theorem xored_size (a b : ByteArray) (h : a.size = b.size) : (xored a b).size = a.size := by
  unfold xored; rw [if_pos h]
  show (xorL a.data.toList b.data.toList).length = a.size
  rw [xorL_length _ _ (by simpa using h)]; simp
theorem xored_twice (a b : ByteArray) (h : a.size = b.size) : xored (xored a b) b = a := by
  have h2 := xored_size a b h
  have e : xorL (xorL a.data.toList b.data.toList) b.data.toList = a.data.toList := by
    apply List.ext_getElem
    · simp [xorL, h]
    · intro i h1 h3
      simp [xorL, UInt8.xor_assoc]
  unfold xored at h2 ⊢
  rw [if_pos h] at h2 ⊢
  rw [if_pos (h2.trans h)]
  show str (xorL (xorL a.data.toList b.data.toList) b.data.toList) = a
  rw [e]; simp [str]

theorem dist_comm : ∀ a b : List Int, dist a b = dist b a
  | [], [] => rfl
  | [], _ :: _ => rfl
  | _ :: _, [] => rfl
  | x :: a, y :: b => by simp only [dist]; rw [dist_comm a b]; by_cases h : x = y <;> simp [h, eq_comm]
theorem dist_zero : ∀ a b : List Int, a.length = b.length → dist a b = 0 → a = b
  | [], [], _, _ => rfl
  | [], _ :: _, h, _ => by simp at h
  | _ :: _, [], h, _ => by simp at h
  | x :: a, y :: b, h, hd => by
    simp only [dist] at hd
    by_cases e : x = y
    · subst e; rw [dist_zero a b (by simpa using h) (by simp at hd; omega)]
    · simp [e] at hd
theorem dist_tri : ∀ a b c : List Int, a.length = b.length → b.length = c.length → dist a c ≤ dist a b + dist b c
  | [], _, _, _, _ => by simp [dist]
  | _ :: _, [], _, h, _ => by simp at h
  | _ :: _, _ :: _, [], _, h => by simp at h
  | x :: a, y :: b, z :: c, h, h' => by
    have ih := dist_tri a b c (by simpa using h) (by simpa using h')
    simp only [dist]
    by_cases h1 : x = y
    · subst h1; by_cases h2 : x = z <;> simp [h2] <;> omega
    · by_cases h2 : y = z
      · subst h2; simp [h1]; omega
      · by_cases h3 : x = z <;> simp [h1, h2, h3] <;> omega
theorem dist_set : ∀ (a : List Int) (p : Nat) (v : Int), p < a.length → v ≠ a.getD p 0 → dist a (a.set p v) = 1
  | [], _, _, h, _ => by simp at h
  | x :: a, 0, v, _, hv => by
    simp only [List.set_cons_zero, dist, dist_self]
    rw [if_neg]; intro e; subst e; exact hv rfl
  | x :: a, p + 1, v, h, hv => by
    simp only [List.set_cons_succ, dist]
    rw [dist_set a p v (by simpa using h) (by simpa [List.getD_eq_getElem?_getD] using hv)]; simp
theorem dist_noughts : ∀ a : List Int, a.all bit = true → (dist a (List.replicate a.length 0) : Int) = a.sum
  | [], _ => rfl
  | x :: a, h => by
    simp only [List.all_cons, Bool.and_eq_true] at h
    have ih := dist_noughts a h.2
    have hb := bit_bd h.1
    simp only [List.length_cons, List.replicate_succ, dist, List.sum_cons, Int.natCast_add, ih]
    by_cases e : x = 0
    · subst e; simp
    · rw [if_neg e]; simp; omega
theorem set_bits {xs : List Int} (h : bitsOk xs = true) (p : Nat) (v : Int) (hv : bit v = true) : bitsOk (xs.set p v) = true := by
  have h1 := bits_all h
  have h2 := bits_len h
  unfold bitsOk
  rw [List.length_set]
  have : (xs.set p v).all bit = true := by
    rw [List.all_eq_true] at h1 ⊢
    intro x hx
    rcases List.mem_or_eq_of_mem_set hx with h' | h'
    · exact h1 x h'
    · rw [h']; exact hv
  simp [h2, this]
theorem flip_facts {xs : List Int} {p : Int} (h : 0 < (flipped xs p).length) : apart xs (flipped xs p) = 1 ∧ flipped (flipped xs p) p = xs := by
  unfold flipped at h
  split at h
  · rename_i hc
    obtain ⟨hok, h0, h1⟩ := hc
    obtain ⟨k, rfl⟩ := Int.eq_ofNat_of_zero_le h0
    have hk : k < xs.length := by omega
    have hb := bit_bd (bit_at (bits_all hok) k)
    have hbit : bit (1 - xs.getD k 0) = true := by generalize xs.getD k 0 = z at hb; simp [bit]; omega
    have hok2 := set_bits hok k _ hbit
    rw [flipped_yes hok hk]
    refine ⟨?_, ?_⟩
    · rw [apart_yes (by simp) hok hok2, dist_set xs k _ hk (by omega)]; rfl
    · rw [flipped_yes hok2 (by simpa using hk), List.set_set]
      have e : (xs.set k (1 - xs.getD k 0)).getD k 0 = 1 - xs.getD k 0 := by rw [List.getD_eq_getElem?_getD]; simp [hk]
      rw [e, show 1 - (1 - xs.getD k 0) = xs.getD k 0 by omega]
      apply List.ext_getElem
      · simp
      · intro i h1 h2
        rw [List.getElem_set]
        split
        · rename_i e; subst e; rw [List.getD_eq_getElem?_getD, List.getElem?_eq_getElem hk]; rfl
        · rfl
  · simp at h
theorem apart_inv {a c : List Int} (h : 0 ≤ apart a c) : a.length = c.length ∧ bitsOk a = true ∧ bitsOk c = true := by
  unfold apart at h
  split at h
  · rename_i hc; exact hc
  · omega
theorem apart_comm (a c : List Int) : apart c a = apart a c := by
  unfold apart
  by_cases h : a.length = c.length ∧ bitsOk a = true ∧ bitsOk c = true
  · rw [if_pos h, if_pos ⟨h.1.symm, h.2.2, h.2.1⟩, dist_comm]
  · rw [if_neg h, if_neg (fun h' => h ⟨h'.1.symm, h'.2.2, h'.2.1⟩)]
theorem apart_eq {a c : List Int} (h : 0 ≤ apart a c) : (apart a c == 0) = decide (a = c) := by
  obtain ⟨h1, h2, h3⟩ := apart_inv h
  rw [apart_yes h1 h2 h3]
  by_cases e : a = c
  · subst e; simp [dist_self]
  · have : dist a c ≠ 0 := fun h => e (dist_zero a c h1 h)
    simp [e]; omega
theorem bits_of_all {e : List Int} (h : e.all bit = true) (hl : e.length ≤ 4096) : bitsOk e = true := by simp [bitsOk, hl]; simpa using h
theorem apart_tri {a c e : List Int} (h : 0 ≤ apart a c) (he : e.all bit = true) (hl : e.length = a.length) : apart a c ≤ apart a e + apart e c ∧ 0 ≤ apart a e ∧ apart a e ≤ 4096 ∧ 0 ≤ apart e c ∧ apart e c ≤ 4096 := by
  obtain ⟨h1, h2, h3⟩ := apart_inv h
  have hle := bits_len h2
  have hok := bits_of_all he (by omega)
  rw [apart_yes h1 h2 h3, apart_yes hl.symm h2 hok, apart_yes (hl.trans h1) hok h3]
  have := dist_tri a e c hl.symm (hl.trans h1)
  have d1 := dist_le a e
  have d2 := dist_le e c
  omega
theorem apart_noughts {a c : List Int} (h : 0 ≤ apart a c) : apart a (List.replicate a.length 0) = weight a := by
  obtain ⟨h1, h2, h3⟩ := apart_inv h
  have hz : bitsOk (List.replicate a.length 0) = true := bits_of_all (by rw [List.all_eq_true]; intro x hx; rw [List.eq_of_mem_replicate hx]; rfl) (by simp; exact bits_len h2)
  rw [apart_yes (by simp) h2 hz, weight_ok h2, dist_noughts a (bits_all h2)]
end Go.Proofs.Ytgnfibdgoghkpaa
