/- Hamming's words, plainly: thirteen bits of a byte. Nothing of Go's text here. -/
import Derived.Test.YtbgjagmnpfcfaalDoorBase
namespace Go.Proofs.YtbgjagmnpfcfaalDoor
namespace Ham
def bitN (x i : Nat) : Nat := x / 2 ^ i % 2
theorem bitN_lt (x i : Nat) : bitN x i < 2 := Nat.mod_lt _ (by omega)
def place (k : Nat) : Nat := [3, 5, 6, 7, 9, 10, 11, 12].getD k 0
/-- The sum of powers of two whose bits are an odd number, through the bits below k. -/
def oddTo (x : Nat) : Nat → Nat
  | 0 => 0
  | k + 1 => if bitN x k = 1 then oddTo x k ^^^ k else oddTo x k
def odd (x : Nat) : Nat := oddTo x 13
def wtTo (x : Nat) : Nat → Nat
  | 0 => 0
  | k + 1 => wtTo x k + bitN x k
def wt (x : Nat) : Nat := wtTo x 13
def dataTo (b : Nat) : Nat → Nat
  | 0 => 0
  | k + 1 => dataTo b k ||| bitN b k * 2 ^ place k
def data (b : Nat) : Nat := dataTo b 8
def evenTo (b : Nat) : Nat → Nat
  | 0 => data b
  | j + 1 => if bitN (odd (data b)) j = 1 then evenTo b j ||| 2 ^ 2 ^ j else evenTo b j
def spread (b : Nat) : Nat := evenTo b 4 ||| wt (evenTo b 4) % 2
def byteTo (x : Nat) : Nat → Nat
  | 0 => 0
  | k + 1 => byteTo x k ||| bitN x (place k) * 2 ^ k
def byteOf (x : Nat) : Nat := byteTo x 8
theorem oddTo_lt (x : Nat) : ∀ k, k ≤ 16 → oddTo x k < 16
  | 0, _ => by simp [oddTo]
  | k + 1, h => by
    have ih := oddTo_lt x k (by omega)
    show (if bitN x k = 1 then oddTo x k ^^^ k else oddTo x k) < 16
    split
    · exact Nat.xor_lt_two_pow (n := 4) ih (by omega)
    · exact ih
theorem odd_lt (x : Nat) : odd x < 16 := oddTo_lt x 13 (by omega)
theorem wtTo_le (x : Nat) : ∀ k, wtTo x k ≤ k
  | 0 => Nat.le_refl _
  | k + 1 => by
    have ih := wtTo_le x k
    have := bitN_lt x k
    show wtTo x k + bitN x k ≤ k + 1
    omega
theorem wt_le (x : Nat) : wt x ≤ 13 := wtTo_le x 13
theorem place_lt (k : Nat) : place k < 13 := by
  unfold place
  rcases Nat.lt_or_ge k 8 with h | h
  · match k, h with
    | 0, _ | 1, _ | 2, _ | 3, _ | 4, _ | 5, _ | 6, _ | 7, _ => decide
  · rw [List.getD_eq_getElem?_getD, List.getElem?_eq_none (by simpa using h)]; decide
theorem bit_pow_lt {d q n : Nat} (hd : d < 2) (hq : q < n) : d * 2 ^ q < 2 ^ n := by
  have h1 : 2 ^ q < 2 ^ n := Nat.pow_lt_pow_right (by omega) hq
  have h2 : d * 2 ^ q ≤ 1 * 2 ^ q := Nat.mul_le_mul_right _ (by omega)
  omega
theorem dataTo_lt (b : Nat) : ∀ k, dataTo b k < 8192
  | 0 => by simp [dataTo]
  | k + 1 => Nat.or_lt_two_pow (n := 13) (dataTo_lt b k) (bit_pow_lt (bitN_lt b k) (place_lt k))
theorem data_lt (b : Nat) : data b < 8192 := dataTo_lt b 8
theorem evenTo_lt (b : Nat) : ∀ j, j ≤ 4 → evenTo b j < 8192
  | 0, _ => data_lt b
  | j + 1, h => by
    have ih := evenTo_lt b j (by omega)
    show (if bitN (odd (data b)) j = 1 then evenTo b j ||| 2 ^ 2 ^ j else evenTo b j) < 8192
    split
    · refine Nat.or_lt_two_pow (n := 13) ih ?_
      rcases (show j = 0 ∨ j = 1 ∨ j = 2 ∨ j = 3 by omega) with rfl | rfl | rfl | rfl <;> decide
    · exact ih
theorem byteTo_lt (x : Nat) : ∀ k, k ≤ 8 → byteTo x k < 256
  | 0, _ => by simp [byteTo]
  | k + 1, h => Nat.or_lt_two_pow (n := 8) (byteTo_lt x k (by omega)) (bit_pow_lt (bitN_lt x _) (by omega))
theorem byteOf_lt (x : Nat) : byteOf x < 256 := byteTo_lt x 8 (by omega)
/-- What is linear over xor: a list of what each bit brings, the lowest first. -/
def lin : List Nat → Nat → Nat
  | [], _ => 0
  | c :: cs, x => (if x % 2 = 1 then c else 0) ^^^ lin cs (x / 2)
theorem mod2_xor (a b : Nat) : (a ^^^ b) % 2 = a % 2 ^^^ b % 2 := by
  have := @Nat.xor_mod_two_pow a b 1
  simpa using this
theorem div2_xor (a b : Nat) : (a ^^^ b) / 2 = a / 2 ^^^ b / 2 := by
  have := @Nat.shiftRight_xor_distrib 1 a b
  simpa [Nat.shiftRight_eq_div_pow] using this
theorem xor4c (a b c d : Nat) : (a ^^^ b) ^^^ (c ^^^ d) = (a ^^^ c) ^^^ (b ^^^ d) := by
  rw [Nat.xor_assoc, Nat.xor_assoc, ← Nat.xor_assoc b c d, Nat.xor_comm b c, Nat.xor_assoc c b d]
theorem lin_xor : ∀ (cs : List Nat) (a b : Nat), lin cs (a ^^^ b) = lin cs a ^^^ lin cs b
  | [], _, _ => by simp [lin]
  | c :: cs, a, b => by
    show (if (a ^^^ b) % 2 = 1 then c else 0) ^^^ lin cs ((a ^^^ b) / 2) = ((if a % 2 = 1 then c else 0) ^^^ lin cs (a / 2)) ^^^ ((if b % 2 = 1 then c else 0) ^^^ lin cs (b / 2))
    rw [div2_xor, lin_xor cs, mod2_xor, xor4c]
    congr 1
    rcases (show a % 2 = 0 ∨ a % 2 = 1 by omega) with h | h <;> rcases (show b % 2 = 0 ∨ b % 2 = 1 by omega) with h' | h' <;> simp [h, h']
theorem lin_snoc : ∀ (cs : List Nat) (c x : Nat), lin (cs ++ [c]) x = lin cs x ^^^ (if bitN x cs.length = 1 then c else 0)
  | [], c, x => by simp [lin, bitN]
  | d :: cs, c, x => by
    show (if x % 2 = 1 then d else 0) ^^^ lin (cs ++ [c]) (x / 2) = _ 
    rw [lin_snoc cs c (x / 2)]
    show _ = ((if x % 2 = 1 then d else 0) ^^^ lin cs (x / 2)) ^^^ _
    rw [Nat.xor_assoc]
    have : bitN (x / 2) cs.length = bitN x (d :: cs).length := by
      unfold bitN
      rw [Nat.div_div_eq_div_mul, List.length_cons, Nat.pow_succ, Nat.mul_comm]
    rw [this]
theorem oddTo_lin (x : Nat) : ∀ k, oddTo x k = lin (List.range k) x
  | 0 => rfl
  | k + 1 => by
    rw [List.range_succ, lin_snoc, List.length_range, ← oddTo_lin x k]
    show (if bitN x k = 1 then oddTo x k ^^^ k else oddTo x k) = _
    split <;> simp
theorem wtTo_lin (x : Nat) : ∀ k, wtTo x k % 2 = lin (List.replicate k 1) x
  | 0 => rfl
  | k + 1 => by
    rw [List.replicate_succ', lin_snoc, List.length_replicate, ← wtTo_lin x k]
    show (wtTo x k + bitN x k) % 2 = _
    have := bitN_lt x k
    rcases (show bitN x k = 0 ∨ bitN x k = 1 by omega) with h | h
    · simp [h]
    · rw [h, if_pos rfl]
      rcases (show wtTo x k % 2 = 0 ∨ wtTo x k % 2 = 1 by omega) with h' | h'
      · rw [h']; show _ = 1; omega
      · rw [h']; show _ = 0; omega
theorem odd_xor (x y : Nat) : odd (x ^^^ y) = odd x ^^^ odd y := by
  unfold odd; rw [oddTo_lin, oddTo_lin, oddTo_lin, lin_xor]
theorem wt_xor (x y : Nat) : wt (x ^^^ y) % 2 = (wt x % 2) ^^^ (wt y % 2) := by
  unfold wt; rw [wtTo_lin, wtTo_lin, wtTo_lin, lin_xor]
/-- What each bit of a byte brings to its word. -/
def gens : List Nat := [spread 1, spread 2, spread 4, spread 8, spread 16, spread 32, spread 64, spread 128]
theorem spread_all : ∀ b : Fin 256, spread b.val = lin gens b.val ∧ spread b.val < 8192 ∧ odd (spread b.val) = 0 ∧ wt (spread b.val) % 2 = 0 ∧ byteOf (spread b.val) = b.val ∧ (b.val = 0 ∨ 4 ≤ wt (spread b.val)) := by decide +kernel
theorem two_all : ∀ i : Fin 13, odd (2 ^ i.val) = i.val ∧ wt (2 ^ i.val) % 2 = 1 := by decide +kernel
theorem spread_lt {b : Nat} (h : b < 256) : spread b < 8192 := (spread_all ⟨b, h⟩).2.1
theorem spread_odd {b : Nat} (h : b < 256) : odd (spread b) = 0 := (spread_all ⟨b, h⟩).2.2.1
theorem spread_even {b : Nat} (h : b < 256) : wt (spread b) % 2 = 0 := (spread_all ⟨b, h⟩).2.2.2.1
theorem spread_byte {b : Nat} (h : b < 256) : byteOf (spread b) = b := (spread_all ⟨b, h⟩).2.2.2.2.1
theorem spread_xor {a b : Nat} (ha : a < 256) (hb : b < 256) : spread a ^^^ spread b = spread (a ^^^ b) := by
  have h : a ^^^ b < 256 := Nat.xor_lt_two_pow (n := 8) ha hb
  rw [(spread_all ⟨a, ha⟩).1, (spread_all ⟨b, hb⟩).1, (spread_all ⟨a ^^^ b, h⟩).1, lin_xor]
theorem spread_far {a b : Nat} (ha : a < 256) (hb : b < 256) (hne : a ≠ b) : 4 ≤ wt (spread a ^^^ spread b) := by
  have h : a ^^^ b < 256 := Nat.xor_lt_two_pow (n := 8) ha hb
  rw [spread_xor ha hb]
  rcases (spread_all ⟨a ^^^ b, h⟩).2.2.2.2.2 with h0 | h4
  · exfalso
    apply hne
    simp only at h0
    have : a ^^^ b ^^^ b = 0 ^^^ b := by rw [h0]
    rwa [Nat.xor_assoc, Nat.xor_self, Nat.xor_zero, Nat.zero_xor] at this
  · exact h4
theorem two_lt {i : Nat} (h : i < 13) : 2 ^ i < 8192 := Nat.lt_of_lt_of_le (Nat.pow_lt_pow_right (by omega) h) (by omega)
theorem turned_lt {x i : Nat} (hx : x < 8192) (hi : i < 13) : x ^^^ 2 ^ i < 8192 := Nat.xor_lt_two_pow (n := 13) hx (two_lt hi)
theorem odd_turned {x i : Nat} (hi : i < 13) : odd (x ^^^ 2 ^ i) = odd x ^^^ i := by rw [odd_xor, (two_all ⟨i, hi⟩).1]
theorem wt_turned {x i : Nat} (hi : i < 13) : wt (x ^^^ 2 ^ i) % 2 = 1 - wt x % 2 := by
  rw [wt_xor, (two_all ⟨i, hi⟩).2]
  rcases (show wt x % 2 = 0 ∨ wt x % 2 = 1 by omega) with h | h <;> rw [h] <;> rfl
/-- A byte and what became of its word. -/
def healed (x : Nat) : Int × Int :=
  if wt x % 2 = 1 ∧ odd x ≤ 12 then ((byteOf (x ^^^ 2 ^ odd x) : Int), 1) else if wt x % 2 = 0 ∧ odd x = 0 then ((byteOf x : Int), 0) else (-1, 2)
theorem healed_clean {b : Nat} (h : b < 256) : healed (spread b) = ((b : Int), 0) := by
  unfold healed
  rw [spread_even h, spread_odd h, spread_byte h]; rfl
theorem healed_one {b i : Nat} (h : b < 256) (hi : i < 13) : healed (spread b ^^^ 2 ^ i) = ((b : Int), 1) := by
  unfold healed
  rw [wt_turned hi, spread_even h, odd_turned hi, spread_odd h, Nat.zero_xor, if_pos ⟨rfl, by omega⟩, Nat.xor_assoc, Nat.xor_self, Nat.xor_zero, spread_byte h]
theorem healed_two {b i q : Nat} (h : b < 256) (hi : i < 13) (hq : q < i) : healed (spread b ^^^ 2 ^ i ^^^ 2 ^ q) = (-1, 2) := by
  unfold healed
  rw [wt_turned (by omega), wt_turned hi, spread_even h, odd_turned (by omega), odd_turned hi, spread_odd h, Nat.zero_xor, if_neg (by omega), if_neg]
  rintro ⟨_, h0⟩
  have : i ^^^ q ^^^ q = 0 ^^^ q := by rw [h0]
  rw [Nat.xor_assoc, Nat.xor_self, Nat.xor_zero, Nat.zero_xor] at this
  omega
theorem odd_one {b i : Nat} (h : b < 256) (hi : i < 13) : odd (spread b ^^^ 2 ^ i) = i := by rw [odd_turned hi, spread_odd h, Nat.zero_xor]
end Ham
end Go.Proofs.YtbgjagmnpfcfaalDoor
