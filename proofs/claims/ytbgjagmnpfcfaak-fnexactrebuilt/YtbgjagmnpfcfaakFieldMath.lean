/- Plain facts of the field of 256: products, powers, inverses. Nothing of Go's text here. -/
import Derived.Test.YtbgjagmnpfcfaakBase
namespace Go.Proofs.Ytbgjagmnpfcfaak
namespace Field
/-- Twice an element. -/
def dbl (a : Nat) : Nat := if 256 ≤ 2 * a then 2 * a ^^^ 301 else 2 * a
theorem dbl_lt' : ∀ a : Fin 256, dbl a.val < 256 := by decide +kernel
theorem dbl_lt {a : Nat} (h : a < 256) : dbl a < 256 := dbl_lt' ⟨a, h⟩
theorem dbl_form' : ∀ a : Fin 256, dbl a.val = (2 * a.val) % 2 ^ 8 ^^^ (a.val >>> 7) * 45 := by decide +kernel
theorem dbl_form {a : Nat} (h : a < 256) : dbl a = (2 * a) % 2 ^ 8 ^^^ (a >>> 7) * 45 := dbl_form' ⟨a, h⟩
theorem xor_lt {a b : Nat} (ha : a < 256) (hb : b < 256) : a ^^^ b < 256 := Nat.xor_lt_two_pow (n := 8) ha hb
theorem two_xor (a b : Nat) : 2 * (a ^^^ b) = 2 * a ^^^ 2 * b := by
  have := @Nat.shiftLeft_xor_distrib 1 a b
  simp only [Nat.shiftLeft_eq, Nat.pow_one] at this
  rw [Nat.mul_comm 2, Nat.mul_comm 2, Nat.mul_comm 2]; exact this
theorem xor4 (a b c d : Nat) : (a ^^^ b) ^^^ (c ^^^ d) = (a ^^^ c) ^^^ (b ^^^ d) := by
  rw [Nat.xor_assoc, Nat.xor_assoc, ← Nat.xor_assoc b c d, Nat.xor_comm b c, Nat.xor_assoc c b d]
theorem bit_45 : ∀ p q : Fin 2, (p.val ^^^ q.val) * 45 = p.val * 45 ^^^ q.val * 45 := by decide
theorem dbl_xor {a b : Nat} (ha : a < 256) (hb : b < 256) : dbl (a ^^^ b) = dbl a ^^^ dbl b := by
  rw [dbl_form ha, dbl_form hb, dbl_form (xor_lt ha hb), two_xor, Nat.xor_mod_two_pow, Nat.shiftRight_xor_distrib, xor4]
  have h1 : a >>> 7 < 2 := by rw [Nat.shiftRight_eq_div_pow]; omega
  have h2 : b >>> 7 < 2 := by rw [Nat.shiftRight_eq_div_pow]; omega
  rw [bit_45 ⟨_, h1⟩ ⟨_, h2⟩]
theorem dbl_zero : dbl 0 = 0 := rfl
/-- The product, by the bits of the second: k of them. -/
def mulF : Nat → Nat → Nat → Nat
  | 0, _, _ => 0
  | k + 1, a, b => (if b % 2 = 1 then a else 0) ^^^ mulF k (dbl a) (b / 2)
theorem mulF_zero : ∀ (k a : Nat), mulF k a 0 = 0
  | 0, _ => rfl
  | k + 1, a => by simp [mulF, mulF_zero k]
theorem mulF_more : ∀ (k a b : Nat), b < 2 ^ k → mulF (k + 1) a b = mulF k a b
  | 0, a, b, h => by
    have : b = 0 := by simpa using h
    subst this; simp [mulF]
  | k + 1, a, b, h => by
    show (if b % 2 = 1 then a else 0) ^^^ mulF (k + 1) (dbl a) (b / 2) = (if b % 2 = 1 then a else 0) ^^^ mulF k (dbl a) (b / 2)
    rw [mulF_more k _ _ (by rw [Nat.pow_succ] at h; omega)]
theorem mulF_lt : ∀ (k a b : Nat), a < 256 → mulF k a b < 256
  | 0, _, _, _ => by simp [mulF]
  | k + 1, a, b, h => by
    have := mulF_lt k (dbl a) (b / 2) (dbl_lt h)
    unfold mulF
    refine xor_lt ?_ this
    split <;> omega
theorem mulF_left : ∀ (k a c b : Nat), a < 256 → c < 256 → mulF k (a ^^^ c) b = mulF k a b ^^^ mulF k c b
  | 0, _, _, _, _, _ => by simp [mulF]
  | k + 1, a, c, b, ha, hc => by
    unfold mulF
    rw [dbl_xor ha hc, mulF_left k _ _ _ (dbl_lt ha) (dbl_lt hc), xor4]
    split <;> simp
theorem bit_xor (b d : Nat) : (b ^^^ d) % 2 = b % 2 ^^^ d % 2 := by
  have := @Nat.xor_mod_two_pow b d 1
  simpa using this
theorem mulF_right : ∀ (k a b d : Nat), mulF k a (b ^^^ d) = mulF k a b ^^^ mulF k a d
  | 0, _, _, _ => by simp [mulF]
  | k + 1, a, b, d => by
    unfold mulF
    rw [Nat.xor_div_two, mulF_right k, xor4, bit_xor]
    congr 1
    rcases Nat.mod_two_eq_zero_or_one b with h | h <;> rcases Nat.mod_two_eq_zero_or_one d with h' | h' <;> rw [h, h'] <;> simp
theorem mulF_dbl : ∀ (k a b : Nat), a < 256 → mulF k (dbl a) b = dbl (mulF k a b)
  | 0, _, _, _ => rfl
  | k + 1, a, b, h => by
    unfold mulF
    rw [mulF_dbl k _ _ (dbl_lt h), dbl_xor (by split <;> omega) (mulF_lt k _ _ (dbl_lt h))]
    congr 1
    split <;> rfl
/-- The product of two elements. -/
def mul (a b : Nat) : Nat := mulF 8 a b
theorem mul_lt {a b : Nat} (h : a < 256) : mul a b < 256 := mulF_lt 8 a b h
theorem mul_zero (a : Nat) : mul a 0 = 0 := mulF_zero 8 a
theorem mul_step {a b : Nat} (hb : b < 256) : mul a b = (if b % 2 = 1 then a else 0) ^^^ mul (dbl a) (b / 2) := by
  unfold mul
  rw [mulF_more 7 (dbl a) (b / 2) (by omega)]; rfl
theorem mul_left {a c : Nat} (b : Nat) (ha : a < 256) (hc : c < 256) : mul (a ^^^ c) b = mul a b ^^^ mul c b := mulF_left 8 a c b ha hc
theorem mul_right (a b d : Nat) : mul a (b ^^^ d) = mul a b ^^^ mul a d := mulF_right 8 a b d
theorem mul_dbl {a : Nat} (b : Nat) (h : a < 256) : mul (dbl a) b = dbl (mul a b) := mulF_dbl 8 a b h
/-- As the program has it: twice the product with the half, and the element itself where the second is odd. -/
theorem mul_half {a b : Nat} (ha : a < 256) (hb : b < 256) : mul a b = dbl (mul a (b / 2)) ^^^ (if b % 2 = 1 then a else 0) := by
  rw [mul_step hb, mul_dbl _ ha, Nat.xor_comm]
theorem mul_45' : ∀ a : Fin 256, mul a.val 45 = mul (dbl a.val) 128 := by decide +kernel
theorem dbl_up' : ∀ b : Fin 128, dbl (b.val + 128) = 2 * b.val ^^^ 45 := by decide +kernel
theorem up_xor' : ∀ b : Fin 128, b.val + 128 = b.val ^^^ 128 := by decide +kernel
theorem mul_two {a b : Nat} (hb : b < 128) : mul a (2 * b) = mul (dbl a) b := by
  rw [mul_step (by omega), if_neg (by omega), Nat.zero_xor]
  congr 1; omega
theorem mul_by_dbl {a b : Nat} (ha : a < 256) (hb : b < 256) : mul a (dbl b) = dbl (mul a b) := by
  rw [← mul_dbl b ha]
  by_cases h : b < 128
  · have : dbl b = 2 * b := by unfold dbl; rw [if_neg (by omega)]
    rw [this, mul_two h]
  · obtain ⟨c, rfl⟩ : ∃ c, b = c + 128 := ⟨b - 128, by omega⟩
    have hc : c < 128 := by omega
    rw [dbl_up' ⟨c, hc⟩, up_xor' ⟨c, hc⟩, mul_right, mul_right, mul_two hc, mul_45' ⟨a, ha⟩]
theorem mul_one' : ∀ a : Fin 256, mul a.val 1 = a.val := by decide +kernel
theorem one_mul' : ∀ a : Fin 256, mul 1 a.val = a.val := by decide +kernel
theorem zero_mul' : ∀ a : Fin 256, mul 0 a.val = 0 := by decide +kernel
theorem mul_one {a : Nat} (h : a < 256) : mul a 1 = a := mul_one' ⟨a, h⟩
theorem one_mul {a : Nat} (h : a < 256) : mul 1 a = a := one_mul' ⟨a, h⟩
theorem zero_mul {a : Nat} (h : a < 256) : mul 0 a = 0 := zero_mul' ⟨a, h⟩
theorem parts' : ∀ a : Fin 256, a.val = dbl (a.val / 2) ^^^ a.val % 2 := by decide +kernel
theorem mul_comm_upto : ∀ (n a b : Nat), a < n → a < 256 → b < 256 → mul a b = mul b a
  | 0, a, b, h, _, _ => absurd h (Nat.not_lt_zero a)
  | n + 1, a, b, h, ha, hb => by
    by_cases h0 : a = 0
    · subst h0; rw [zero_mul hb, mul_zero]
    have hh : a / 2 < 256 := by omega
    have e := parts' ⟨a, ha⟩
    simp only at e
    have ih := mul_comm_upto n (a / 2) b (by omega) hh hb
    have h2 : mul (a % 2) b = mul b (a % 2) := by
      rcases Nat.mod_two_eq_zero_or_one a with h | h <;> rw [h]
      · rw [zero_mul hb, mul_zero]
      · rw [one_mul hb, mul_one hb]
    rw [e, mul_left _ (dbl_lt hh) (by omega), mul_right, mul_dbl _ hh, mul_by_dbl hb hh, ih, h2]
theorem mul_comm {a b : Nat} (ha : a < 256) (hb : b < 256) : mul a b = mul b a := mul_comm_upto (a + 1) a b (by omega) ha hb
theorem mul_assoc_upto : ∀ (n a b c : Nat), c < n → a < 256 → b < 256 → c < 256 → mul (mul a b) c = mul a (mul b c)
  | 0, _, _, c, h, _, _, _ => absurd h (Nat.not_lt_zero c)
  | n + 1, a, b, c, h, ha, hb, hc => by
    by_cases h0 : c = 0
    · subst h0; rw [mul_zero, mul_zero, mul_zero]
    have hh : c / 2 < 256 := by omega
    have hm := mul_lt (b := b) ha
    have ih := mul_assoc_upto n a b (c / 2) (by omega) ha hb hh
    rw [mul_half hm hc, mul_half hb hc, ih, mul_right, mul_by_dbl ha (mul_lt hb)]
    congr 1
    split
    · rfl
    · rw [mul_zero]
theorem mul_assoc {a b c : Nat} (ha : a < 256) (hb : b < 256) (hc : c < 256) : mul (mul a b) c = mul a (mul b c) := mul_assoc_upto (c + 1) a b c (by omega) ha hb hc
/-- The power: an element n times by itself. -/
def pow (a : Nat) : Nat → Nat
  | 0 => 1
  | n + 1 => mul a (pow a n)
theorem pow_lt {a : Nat} (h : a < 256) : ∀ n, pow a n < 256
  | 0 => by simp [pow]
  | n + 1 => mul_lt h
theorem pow_add {a : Nat} (h : a < 256) (m : Nat) : ∀ n, pow a (n + m) = mul (pow a n) (pow a m)
  | 0 => by rw [Nat.zero_add]; exact (one_mul (pow_lt h m)).symm
  | n + 1 => by
    rw [show n + 1 + m = (n + m) + 1 by omega]
    show mul a (pow a (n + m)) = mul (mul a (pow a n)) (pow a m)
    rw [pow_add h m n, mul_assoc h (pow_lt h n) (pow_lt h m)]
theorem pow_sq {a : Nat} (h : a < 256) : ∀ n, pow (mul a a) n = pow a (2 * n)
  | 0 => rfl
  | n + 1 => by
    show mul (mul a a) (pow (mul a a) n) = mul a (mul a (pow a (2 * n)))
    rw [pow_sq h n, mul_assoc h h (pow_lt h _)]
/-- The steps of the squares: k of them. -/
def powF : Nat → Nat → Nat → Nat → Nat
  | 0, r, _, _ => r
  | k + 1, r, a, n => powF k (if n % 2 = 1 then mul r a else r) (mul a a) (n / 2)
theorem powF_eq : ∀ (k r a n : Nat), r < 256 → a < 256 → n < 2 ^ k → powF k r a n = mul r (pow a n)
  | 0, r, a, n, hr, _, hn => by
    have : n = 0 := by simpa using hn
    subst this; exact (mul_one hr).symm
  | k + 1, r, a, n, hr, ha, hn => by
    have hr2 : (if n % 2 = 1 then mul r a else r) < 256 := by split; exact mul_lt hr; exact hr
    unfold powF
    rw [powF_eq k _ _ _ hr2 (mul_lt ha) (by rw [Nat.pow_succ] at hn; omega), pow_sq ha]
    split
    · rename_i h1
      rw [mul_assoc hr ha (pow_lt ha _)]
      show mul r (pow a (2 * (n / 2) + 1)) = _
      congr 2; omega
    · congr 2; omega
theorem pow_fast {a n : Nat} (k : Nat) (ha : a < 256) (hn : n < 2 ^ k) : pow a n = powF k 1 a n := by
  rw [powF_eq k 1 a n (by omega) ha hn, one_mul (pow_lt ha n)]
theorem pow255' : ∀ a : Fin 255, powF 8 1 (a.val + 1) 255 = 1 := by decide +kernel
theorem pow255 {a : Nat} (h : a < 256) (h0 : a ≠ 0) : pow a 255 = 1 := by
  rw [pow_fast 8 h (by decide)]
  have := pow255' ⟨a - 1, by omega⟩
  simpa [show a - 1 + 1 = a by omega] using this
theorem pow_rounds {a : Nat} (h : a < 256) (h0 : a ≠ 0) (r : Nat) : ∀ q, pow a (255 * q + r) = pow a r
  | 0 => by simp
  | q + 1 => by
    rw [show 255 * (q + 1) + r = 255 + (255 * q + r) by omega, pow_add h, pow255 h h0, one_mul (pow_lt h _), pow_rounds h h0 r q]
theorem pow_mod {a : Nat} (h : a < 256) (h0 : a ≠ 0) (n : Nat) : pow a (n % 255) = pow a n := by
  have := pow_rounds h h0 (n % 255) (n / 255)
  rw [Nat.div_add_mod] at this
  exact this.symm
theorem pow_nought {n : Nat} (h : 0 < n) : pow 0 n = 0 := by
  obtain ⟨m, rfl⟩ : ∃ m, n = m + 1 := ⟨n - 1, by omega⟩
  exact zero_mul (pow_lt (by omega) m)
/-- The inverse. -/
def inv (a : Nat) : Nat := pow a 254
theorem inv_lt {a : Nat} (h : a < 256) : inv a < 256 := pow_lt h 254
theorem mul_inv {a : Nat} (h : a < 256) (h0 : a ≠ 0) : mul a (inv a) = 1 := pow255 h h0
theorem inv_only {a b : Nat} (ha : a < 256) (h0 : a ≠ 0) (hb : b < 256) (h : mul a b = 1) : b = inv a := by
  have := congrArg (mul (inv a)) h
  rw [mul_one (inv_lt ha), ← mul_assoc (inv_lt ha) ha hb, mul_comm (inv_lt ha) ha, mul_inv ha h0, one_mul hb] at this
  exact this
theorem mul_nought {a b : Nat} (ha : a < 256) (hb : b < 256) (h : mul a b = 0) : a = 0 ∨ b = 0 := by
  by_cases h0 : a = 0
  · exact Or.inl h0
  · right
    have := congrArg (mul (inv a)) h
    rw [mul_zero, ← mul_assoc (inv_lt ha) ha hb, mul_comm (inv_lt ha) ha, mul_inv ha h0, one_mul hb] at this
    exact this
/-- The powers of 2, by doubling. -/
def up : Nat → Nat
  | 0 => 1
  | n + 1 => dbl (up n)
theorem up_lt : ∀ n, up n < 256
  | 0 => by simp [up]
  | n + 1 => dbl_lt (up_lt n)
theorem two_mul' : ∀ a : Fin 256, mul 2 a.val = dbl a.val := by decide +kernel
theorem mul_twice' : ∀ a : Fin 256, mul a.val 2 = dbl a.val := by decide +kernel
theorem pow_two : ∀ n, pow 2 n = up n
  | 0 => rfl
  | n + 1 => by
    show mul 2 (pow 2 n) = dbl (up n)
    rw [pow_two n]; exact two_mul' ⟨up n, up_lt n⟩
theorem up_no' : ∀ k : Fin 254, up (k.val + 1) ≠ 1 := by decide +kernel
theorem up_255 : up 255 = 1 := by decide +kernel
theorem up_pos (n : Nat) : up n ≠ 0 := by
  intro h
  rw [← pow_two] at h
  have h2 : pow 2 (n + 255 * n) = mul (pow 2 n) (pow 2 (255 * n)) := pow_add (by omega) _ _
  have h3 : pow 2 (254 * n + n) = mul (pow 2 (254 * n)) (pow 2 n) := pow_add (by omega) _ _
  have h4 := pow_rounds (a := 2) (by omega) (by omega) 0 n
  rw [show 255 * n + 0 = 254 * n + n by omega, h3, h, mul_zero] at h4
  exact absurd h4 (by decide)
theorem up_apart {i j : Nat} (hi : i < j) (hj : j < 255) : up i ≠ up j := by
  intro h
  have h2 : pow 2 (i + (j - i)) = mul (pow 2 i) (pow 2 (j - i)) := pow_add (by omega) _ _
  rw [show i + (j - i) = j by omega, pow_two, pow_two, pow_two, ← h] at h2
  have h5 := congrArg (mul (inv (up i))) h2
  have hu := up_lt i
  rw [← mul_assoc (inv_lt hu) hu (up_lt _), mul_comm (inv_lt hu) hu, mul_inv hu (up_pos i), one_mul (up_lt _)] at h5
  have h6 := up_no' ⟨j - i - 1, by omega⟩
  simp only [show j - i - 1 + 1 = j - i by omega] at h6
  exact h6 h5.symm
end Field
end Go.Proofs.Ytbgjagmnpfcfaak
