/- Plain facts of the check: linear over xor, what is checked goes to 0, a smear within sixteen bits does not. Nothing of Go's text here. -/
import Derived.Test.YtbgjagmnpfcfaalDoorBase
namespace Go.Proofs.YtbgjagmnpfcfaalDoor
namespace Crc
/-- One bit more: r becomes 2 r and the bit, brought back below 65536. -/
def stp (r b : Nat) : Nat := if 65536 ≤ 2 * r + b then (2 * r + b) ^^^ 116839 else 2 * r + b
def run (r : Nat) (l : List Nat) : Nat := l.foldl stp r
def bitL (l : List Nat) : Prop := ∀ b ∈ l, b < 2
theorem bitL_nil : bitL [] := fun _ h => by cases h
theorem bitL_cons {b : Nat} {l : List Nat} (h : bitL (b :: l)) : b < 2 ∧ bitL l := ⟨h b (List.mem_cons_self ..), fun c hc => h c (List.mem_cons_of_mem _ hc)⟩
theorem bitL_append {a b : List Nat} (ha : bitL a) (hb : bitL b) : bitL (a ++ b) := fun c hc => (List.mem_append.1 hc).elim (ha c) (hb c)
theorem bitL_noughts (n : Nat) : bitL (List.replicate n 0) := fun b h => by rw [(List.mem_replicate.1 h).2]; omega
theorem over_xor {u : Nat} (h : u < 65536) : (65536 + u) ^^^ 116839 = u ^^^ 51303 := by
  have hm := @Nat.xor_mod_two_pow (65536 + u) 116839 16
  have hd := @Nat.shiftRight_xor_distrib 16 (65536 + u) 116839
  simp only [Nat.shiftRight_eq_div_pow] at hd
  have e1 : (65536 + u) % 2 ^ 16 = u := by omega
  have e2 : (65536 + u) / 2 ^ 16 = 1 := by omega
  rw [e1] at hm
  rw [e2] at hd
  have hd' : ((65536 + u) ^^^ 116839) / 2 ^ 16 = 0 := hd
  have hm' : ((65536 + u) ^^^ 116839) % 2 ^ 16 = u ^^^ 51303 := hm
  omega
theorem xor16 {a b : Nat} (ha : a < 65536) (hb : b < 65536) : a ^^^ b < 65536 := Nat.xor_lt_two_pow (n := 16) ha hb
theorem stp_form {r b : Nat} (hr : r < 65536) (hb : b < 2) : stp r b = (2 * r + b) % 2 ^ 16 ^^^ (r >>> 15) * 51303 := by
  have h15 : r >>> 15 = r / 32768 := by rw [Nat.shiftRight_eq_div_pow]
  rw [h15]
  unfold stp
  by_cases h : 65536 ≤ 2 * r + b
  · rw [if_pos h]
    obtain ⟨u, hu⟩ : ∃ u, 2 * r + b = 65536 + u := ⟨2 * r + b - 65536, by omega⟩
    rw [hu, over_xor (by omega), show r / 32768 = 1 by omega, show (65536 + u) % 2 ^ 16 = u by omega]
  · rw [if_neg h, show r / 32768 = 0 by omega, Nat.zero_mul, Nat.xor_zero, Nat.mod_eq_of_lt (by omega)]
theorem stp_lt {r b : Nat} (hr : r < 65536) (hb : b < 2) : stp r b < 65536 := by
  rw [stp_form hr hb]
  have h15 : r >>> 15 < 2 := by rw [Nat.shiftRight_eq_div_pow]; omega
  refine xor16 (Nat.mod_lt _ (Nat.two_pow_pos 16)) ?_
  have : r >>> 15 * 51303 ≤ 1 * 51303 := Nat.mul_le_mul_right _ (by omega)
  omega
theorem xor_bit {p q : Nat} (hp : p < 2) (hq : q < 2) : p ^^^ q < 2 := Nat.xor_lt_two_pow (n := 1) hp hq
theorem mod2_xor (a b : Nat) : (a ^^^ b) % 2 = a % 2 ^^^ b % 2 := by
  have := @Nat.xor_mod_two_pow a b 1
  simpa using this
theorem two_bit_xor {r s b c : Nat} (hb : b < 2) (hc : c < 2) : 2 * (r ^^^ s) + (b ^^^ c) = (2 * r + b) ^^^ (2 * s + c) := by
  have h1 := @Nat.xor_div_two (2 * r + b) (2 * s + c)
  have h2 := mod2_xor (2 * r + b) (2 * s + c)
  rw [show (2 * r + b) / 2 = r by omega, show (2 * s + c) / 2 = s by omega] at h1
  rw [show (2 * r + b) % 2 = b by omega, show (2 * s + c) % 2 = c by omega] at h2
  omega
theorem bit_51303 : ∀ p q : Fin 2, (p.val ^^^ q.val) * 51303 = p.val * 51303 ^^^ q.val * 51303 := by decide
theorem xor4c (a b c d : Nat) : (a ^^^ b) ^^^ (c ^^^ d) = (a ^^^ c) ^^^ (b ^^^ d) := by
  rw [Nat.xor_assoc, Nat.xor_assoc, ← Nat.xor_assoc b c d, Nat.xor_comm b c, Nat.xor_assoc c b d]
theorem stp_xor {r s b c : Nat} (hr : r < 65536) (hs : s < 65536) (hb : b < 2) (hc : c < 2) : stp (r ^^^ s) (b ^^^ c) = stp r b ^^^ stp s c := by
  rw [stp_form hr hb, stp_form hs hc, stp_form (xor16 hr hs) (xor_bit hb hc), two_bit_xor hb hc, Nat.xor_mod_two_pow, Nat.shiftRight_xor_distrib, xor4c]
  have h1 : r >>> 15 < 2 := by rw [Nat.shiftRight_eq_div_pow]; omega
  have h2 : s >>> 15 < 2 := by rw [Nat.shiftRight_eq_div_pow]; omega
  rw [bit_51303 ⟨_, h1⟩ ⟨_, h2⟩]
theorem run_lt : ∀ (l : List Nat) (r : Nat), r < 65536 → bitL l → run r l < 65536
  | [], _, h, _ => h
  | b :: l, r, h, hl => run_lt l (stp r b) (stp_lt h (bitL_cons hl).1) (bitL_cons hl).2
theorem run_append (a b : List Nat) (r : Nat) : run r (a ++ b) = run (run r a) b := by simp [run, List.foldl_append]
theorem run_xor : ∀ (l m : List Nat) (r s : Nat), l.length = m.length → r < 65536 → s < 65536 → bitL l → bitL m →
    run (r ^^^ s) (List.zipWith (· ^^^ ·) l m) = run r l ^^^ run s m
  | [], [], _, _, _, _, _, _, _ => rfl
  | b :: l, c :: m, r, s, h, hr, hs, hl, hm => by
    have hb := bitL_cons hl
    have hc := bitL_cons hm
    show run (stp (r ^^^ s) (b ^^^ c)) (List.zipWith (· ^^^ ·) l m) = run (stp r b) l ^^^ run (stp s c) m
    rw [stp_xor hr hs hb.1 hc.1]
    exact run_xor l m _ _ (by simpa using h) (stp_lt hr hb.1) (stp_lt hs hc.1) hb.2 hc.2
  | [], _ :: _, _, _, h, _, _, _, _ => by simp at h
  | _ :: _, [], _, _, h, _, _, _, _ => by simp at h
theorem run_noughts : ∀ n : Nat, run 0 (List.replicate n 0) = 0
  | 0 => rfl
  | n + 1 => by
    rw [List.replicate_succ]
    show run (stp 0 0) _ = 0
    exact run_noughts n
theorem stp_pos {r : Nat} (h : r ≠ 0) : stp r 0 ≠ 0 := by
  unfold stp
  by_cases h' : 65536 ≤ 2 * r + 0
  · rw [if_pos h']
    intro e
    have := mod2_xor (2 * r + 0) 116839
    rw [e, show (2 * r + 0) % 2 = 0 by omega] at this
    simp at this
  · rw [if_neg h']; omega
theorem run_pos : ∀ (n r : Nat), r ≠ 0 → run r (List.replicate n 0) ≠ 0
  | 0, _, h => h
  | n + 1, r, h => by
    rw [List.replicate_succ]
    exact run_pos n (stp r 0) (stp_pos h)
/-- The k lowest bits of a number, the highest first. -/
def bitsn : Nat → Nat → List Nat
  | 0, _ => []
  | k + 1, m => bitsn k (m / 2) ++ [m % 2]
theorem bitsn_length : ∀ k m : Nat, (bitsn k m).length = k
  | 0, _ => rfl
  | k + 1, m => by simp [bitsn, bitsn_length k]
theorem bitsn_bit : ∀ k m : Nat, bitL (bitsn k m)
  | 0, _ => bitL_nil
  | k + 1, m => bitL_append (bitsn_bit k (m / 2)) (fun b h => by rw [List.mem_singleton.1 h]; omega)
theorem run_bitsn : ∀ k m : Nat, k ≤ 16 → m < 2 ^ k → run 0 (bitsn k m) = m
  | 0, m, _, h => by simp at h; subst h; rfl
  | k + 1, m, hk, h => by
    have h2 : m / 2 < 2 ^ k := by rw [Nat.pow_succ] at h; omega
    have hb : 2 ^ (k + 1) ≤ 2 ^ 16 := Nat.pow_le_pow_right (by omega) hk
    rw [bitsn, run_append, run_bitsn k (m / 2) (by omega) h2]
    show stp (m / 2) (m % 2) = m
    unfold stp
    rw [if_neg (by omega)]
    omega
theorem bitsn_take : ∀ (k m j : Nat), j ≤ k → (bitsn k m).take j = bitsn j (m / 2 ^ (k - j))
  | 0, m, j, h => by
    obtain rfl : j = 0 := by omega
    rfl
  | k + 1, m, j, h => by
    by_cases e : j = k + 1
    · subst e
      rw [List.take_of_length_le (by rw [bitsn_length]; omega), Nat.sub_self, Nat.pow_zero, Nat.div_one]
    · rw [bitsn, List.take_append_of_le_length (by rw [bitsn_length]; omega), bitsn_take k (m / 2) j (by omega), Nat.div_div_eq_div_mul, Nat.mul_comm, ← Nat.pow_succ, show (k - j).succ = k + 1 - j by omega]
theorem bitsn_zero : ∀ k : Nat, bitsn k 0 = List.replicate k 0
  | 0 => rfl
  | k + 1 => by rw [bitsn, Nat.zero_div, bitsn_zero k, Nat.zero_mod, List.replicate_succ']
/-- The check of a list of bits. -/
def crc (l : List Nat) : Nat := run 0 (l ++ List.replicate 16 0)
theorem crc_lt {l : List Nat} (h : bitL l) : crc l < 65536 := run_lt _ 0 (by omega) (bitL_append h (bitL_noughts _))
theorem zip_self_nought (l : List Nat) (n : Nat) (h : l.length = n) : List.zipWith (· ^^^ ·) (List.replicate n 0) l = l := by
  subst h
  induction l with
  | nil => rfl
  | cons b l ih => rw [List.length_cons, List.replicate_succ, List.zipWith_cons_cons, ih, Nat.zero_xor]
theorem run_check {l : List Nat} {c : Nat} (h : bitL l) (hc : c < 65536) : run 0 (l ++ bitsn 16 c) = crc l ^^^ c := by
  have hr := run_lt l 0 (by omega) h
  have := run_xor (List.replicate 16 0) (bitsn 16 c) (run 0 l) 0 (by rw [bitsn_length, List.length_replicate]) hr (by omega) (bitL_noughts _) (bitsn_bit _ _)
  rw [zip_self_nought _ 16 (bitsn_length _ _), Nat.xor_zero, run_bitsn 16 c (by omega) hc] at this
  rw [run_append, this, crc, run_append]
theorem crc_checked {l : List Nat} (h : bitL l) : crc (l ++ bitsn 16 (crc l)) = 0 := by
  have hz : run 0 (l ++ bitsn 16 (crc l)) = 0 := by rw [run_check h (crc_lt h), Nat.xor_self]
  rw [crc, run_append, hz, run_noughts]
theorem crc_xor {l m : List Nat} (hlen : l.length = m.length) (hl : bitL l) (hm : bitL m) : crc (List.zipWith (· ^^^ ·) l m) = crc l ^^^ crc m := by
  have := run_xor (l ++ List.replicate 16 0) (m ++ List.replicate 16 0) 0 0 (by simp [hlen]) (by omega) (by omega) (bitL_append hl (bitL_noughts _)) (bitL_append hm (bitL_noughts _))
  rw [List.zipWith_append hlen] at this
  simpa [crc] using this
/-- What is xored on by a smear: nothing, then as many bits of the mask as there are, then nothing. -/
def smear (n at' mask : Nat) : List Nat := List.replicate at' 0 ++ ((bitsn 16 mask).take (n - at') ++ List.replicate (n - at' - 16) 0)
theorem smear_length {n p mask : Nat} (h : p ≤ n) : (smear n p mask).length = n := by
  simp [smear, bitsn_length]; omega
theorem smear_bit (n p mask : Nat) : bitL (smear n p mask) :=
  bitL_append (bitL_noughts _) (bitL_append (fun b h => bitsn_bit 16 mask b (List.mem_of_mem_take h)) (bitL_noughts _))
/-- A smear is noticed, or nothing was turned. -/
theorem smear_seen {n p mask : Nat} (hm : mask < 65536) (hs : run 0 (smear n p mask) = 0) : smear n p mask = List.replicate p 0 ++ (List.replicate (min (n - p) 16) 0 ++ List.replicate (n - p - 16) 0) := by
  obtain ⟨j, hj⟩ : ∃ j, j = min (n - p) 16 := ⟨_, rfl⟩
  have ht : (bitsn 16 mask).take (n - p) = bitsn j (mask / 2 ^ (16 - j)) := by
    by_cases h : n - p ≤ 16
    · rw [show j = n - p by omega, bitsn_take 16 mask _ h]
    · rw [List.take_of_length_le (by rw [bitsn_length]; omega), show j = 16 by omega]; simp
  have hlt : mask / 2 ^ (16 - j) < 2 ^ j := by
    rw [Nat.div_lt_iff_lt_mul (Nat.two_pow_pos _), ← Nat.pow_add, show j + (16 - j) = 16 by omega]; exact hm
  unfold smear at hs ⊢
  rw [ht] at hs ⊢
  rw [run_append, run_noughts, run_append, run_bitsn j _ (by omega) hlt] at hs
  by_cases h0 : mask / 2 ^ (16 - j) = 0
  · rw [h0, bitsn_zero, ← hj]
  · exact absurd hs (run_pos _ _ h0)
end Crc
end Go.Proofs.YtbgjagmnpfcfaalDoor
