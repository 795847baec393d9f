/- Rows of inverses of sums, plainly: what is nought in all of them is nought. Nothing of Go's text here. -/
import Derived.Test.YtbgjagmnpfcfaakSolveMath
namespace Go.Proofs.Ytbgjagmnpfcfaak
namespace Sv
open Go.Proofs.Ytbgjagmnpfcfaak.Field
set_option linter.unusedVariables false

theorem ring4 {s p q : Nat} (hs : s < 256) (hp : p < 256) (hq : q < 256) : mul s q ^^^ mul (s ^^^ p ^^^ q) p = mul (p ^^^ q) (s ^^^ p) := by
  rw [mul_left p (xor_lt hs hp) hq, mul_left p hs hp, mul_left (s ^^^ p) hp hq, mul_right p s p, mul_right q s p, mul_comm hp hs, mul_comm hq hs]
  generalize mul s q = A
  generalize mul s p = B
  generalize mul p p = C
  generalize mul q p = D
  rw [Nat.xor_comm A, Nat.xor_assoc (B ^^^ C), Nat.xor_comm D]
/-- Two elements of a row and of the last row, put together. -/
theorem pair_step {s p q : Nat} (hs : s < 256) (hp : p < 256) (hq : q < 256) (p0 : p ≠ 0) (q0 : q ≠ 0) :
    mul s (inv p) ^^^ mul (s ^^^ p ^^^ q) (inv q) = mul (p ^^^ q) (mul (inv p) (mul (s ^^^ p) (inv q))) := by
  have hP := inv_lt hp
  have hQ := inv_lt hq
  have ht := xor_lt (xor_lt hs hp) hq
  have hd := xor_lt hs hp
  have he := xor_lt hp hq
  have hu : mul (inv p) (inv q) < 256 := mul_lt hP
  have h1 : mul s (inv p) = mul (mul s q) (mul (inv p) (inv q)) := by
    rw [mul_assoc hs hq hu, ← mul_assoc hq hP hQ, mul_comm hq hP, mul_assoc hP hq hQ, mul_inv hq q0, mul_one hP]
  have h2 : mul (s ^^^ p ^^^ q) (inv q) = mul (mul (s ^^^ p ^^^ q) p) (mul (inv p) (inv q)) := by
    rw [mul_assoc ht hp hu, ← mul_assoc hp hP hQ, mul_inv hp p0, one_mul hQ]
  have h3 : mul (p ^^^ q) (mul (inv p) (mul (s ^^^ p) (inv q))) = mul (mul (p ^^^ q) (s ^^^ p)) (mul (inv p) (inv q)) := by
    rw [mul_assoc he hd hu, ← mul_assoc hP hd hQ, mul_comm hP hd, mul_assoc hd hP hQ]
  rw [h1, h2, h3, ← mul_left _ (mul_lt hs) (mul_lt ht), ring4 hs hp hq]

theorem xor_ne {a b : Nat} (h : a ≠ b) : a ^^^ b ≠ 0 := fun e => h (xor_nought e)
theorem xor_both (a b c : Nat) : (a ^^^ b) ^^^ (c ^^^ b) = a ^^^ c := by
  rw [Nat.xor_assoc, Nat.xor_comm c b, ← Nat.xor_assoc b b c, Nat.xor_self, Nat.zero_xor]

theorem cauchy : ∀ (n : Nat) (a b x : Nat → Nat), El n a → El n b → El n x → (∀ i j, i < n → j < n → i ≠ j → a i ≠ a j) → (∀ i j, i < n → j < n → i ≠ j → b i ≠ b j) → (∀ i j, i < n → j < n → a i ≠ b j) →
    (∀ r, r < n → dot (fun k => inv (a k ^^^ b r)) x n = 0) → ∀ k, k < n → x k = 0
  | 0, _, _, _, _, _, _, _, _, _, _ => fun k hk => absurd hk (by omega)
  | n + 1, a, b, x, ha, hb, hx, da, db, dab, h => by
    have A := fun k (hk : k < n + 1) => ha k hk
    have B := fun k (hk : k < n + 1) => hb k hk
    have X := fun k (hk : k < n + 1) => hx k hk
    have hp : ∀ k r, k < n + 1 → r < n + 1 → a k ^^^ b r < 256 ∧ a k ^^^ b r ≠ 0 := fun k r hk hr => ⟨xor_lt (A k hk) (B r hr), xor_ne (dab k r hk hr)⟩
    -- the smaller rows
    have hlow : ∀ k, k < n → x k = 0 := by
      have key := cauchy n a b (fun k => mul (mul (a n ^^^ a k) (inv (a k ^^^ b n))) (x k)) (ha.mono (by omega)) (hb.mono (by omega))
        (fun k hk => mul_lt (mul_lt (xor_lt (A n (by omega)) (A k (by omega))))) (fun i j hi hj => da i j (by omega) (by omega)) (fun i j hi hj => db i j (by omega) (by omega)) (fun i j hi hj => dab i j (by omega) (by omega)) ?_
      · intro k hk
        have hz := key k hk
        have hi := inv_lt (hp k n (by omega) (by omega)).1
        rcases mul_nought (mul_lt (xor_lt (A n (by omega)) (A k (by omega)))) (X k (by omega)) hz with e | e
        · rcases mul_nought (xor_lt (A n (by omega)) (A k (by omega))) hi e with e | e
          · exact absurd e (xor_ne (da n k (by omega) (by omega) (by omega)))
          · exact absurd e (inv_ne (hp k n (by omega) (by omega)).1 (hp k n (by omega) (by omega)).2)
        · exact e
      · intro r hr
        have hS := hp n r (by omega) (by omega)
        have hT := hp n n (by omega) (by omega)
        have he : b r ^^^ b n < 256 := xor_lt (B r (by omega)) (B n (by omega))
        -- the row r times s, the last row times t, together nought
        have h1 := h r (by omega)
        have h2 := h n (by omega)
        simp only [dot] at h1 h2
        have h1' := xor_nought h1
        have h2' := xor_nought h2
        have hEl : ∀ q, q < n + 1 → El n (fun k => inv (a k ^^^ b q)) := fun q hq k hk => inv_lt (hp k q (by omega) hq).1
        have e1 : mul (a n ^^^ b r) (dot (fun k => inv (a k ^^^ b r)) x n) = x n := by
          rw [h1', ← mul_assoc hS.1 (inv_lt hS.1) (X n (by omega)), mul_inv hS.1 hS.2, one_mul (X n (by omega))]
        have e2 : mul (a n ^^^ b n) (dot (fun k => inv (a k ^^^ b n)) x n) = x n := by
          rw [h2', ← mul_assoc hT.1 (inv_lt hT.1) (X n (by omega)), mul_inv hT.1 hT.2, one_mul (X n (by omega))]
        have hxn : El n x := hx.mono (by omega)
        have e3 : dot (fun k => mul (a n ^^^ b r) (inv (a k ^^^ b r)) ^^^ mul (a n ^^^ b n) (inv (a k ^^^ b n))) x n = 0 := by
          rw [dot_add (fun k hk => mul_lt hS.1) (fun k hk => mul_lt hT.1), dot_scale hS.1 (hEl r (by omega)) hxn, dot_scale hT.1 (hEl n (by omega)) hxn, e1, e2, Nat.xor_self]
        -- each of its elements
        have e4 : mul (b r ^^^ b n) (dot (fun k => inv (a k ^^^ b r)) (fun k => mul (mul (a n ^^^ a k) (inv (a k ^^^ b n))) (x k)) n) = 0 := by
          rw [← e3]
          have gen : ∀ j, j ≤ n → mul (b r ^^^ b n) (dot (fun k => inv (a k ^^^ b r)) (fun k => mul (mul (a n ^^^ a k) (inv (a k ^^^ b n))) (x k)) j) = dot (fun k => mul (a n ^^^ b r) (inv (a k ^^^ b r)) ^^^ mul (a n ^^^ b n) (inv (a k ^^^ b n))) x j := by
            intro j
            induction j with
            | zero => intro _; simp [dot, mul_zero]
            | succ j ih =>
              intro hj
              simp only [dot]
              rw [mul_right, ih (by omega)]
              congr 1
              have hP := hp j r (by omega) (by omega)
              have hQ := hp j n (by omega) (by omega)
              have k1 : (a n ^^^ b r) ^^^ (a j ^^^ b r) = a n ^^^ a j := xor_both _ _ _
              have k2 : (a n ^^^ b r) ^^^ (a j ^^^ b r) ^^^ (a j ^^^ b n) = a n ^^^ b n := by
                rw [k1, Nat.xor_comm (a n) (a j), ← Nat.xor_assoc, Nat.xor_comm (a j ^^^ a n) (a j), ← Nat.xor_assoc (a j), Nat.xor_self, Nat.zero_xor]
              have k3 : (a j ^^^ b r) ^^^ (a j ^^^ b n) = b r ^^^ b n := by
                rw [Nat.xor_comm (a j) (b r), Nat.xor_comm (a j) (b n)]; exact xor_both _ _ _
              have hk := pair_step hS.1 hP.1 hQ.1 hP.2 hQ.2
              rw [k2, k3, k1] at hk
              rw [hk]
              have hd := xor_lt (A n (by omega)) (A j (by omega))
              have hz : mul (a n ^^^ a j) (inv (a j ^^^ b n)) < 256 := mul_lt hd
              rw [mul_assoc he (mul_lt (inv_lt hP.1)) (X j (by omega)), mul_assoc (inv_lt hP.1) hz (X j (by omega))]
          exact gen n (Nat.le_refl _)
        rcases mul_nought he (dot_lt (hEl r (by omega))) e4 with e | e
        · exact absurd e (xor_ne (db r n (by omega) (by omega) (by omega)))
        · exact e
    intro k hk
    rcases Nat.lt_or_ge k n with h' | h'
    · exact hlow k h'
    · obtain rfl : k = n := by omega
      have h2 := h k (by omega)
      simp only [dot] at h2
      rw [dot_zero (hx.mono (by omega)) (fun j hj => .inr (hlow j hj)), Nat.zero_xor] at h2
      have hT := hp k k (by omega) (by omega)
      rcases mul_nought (inv_lt hT.1) (X k (by omega)) h2 with e | e
      · exact absurd e (inv_ne hT.1 hT.2)
      · exact e
end Sv
end Go.Proofs.Ytbgjagmnpfcfaak
