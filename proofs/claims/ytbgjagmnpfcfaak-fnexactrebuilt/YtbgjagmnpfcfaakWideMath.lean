/- Rows that have more than one column to the right: each column by itself. Nothing of Go's text here. -/
import Derived.Test.YtbgjagmnpfcfaakSolveMath
namespace Go.Proofs.Ytbgjagmnpfcfaak
namespace Sv
open Go.Proofs.Ytbgjagmnpfcfaak.Field
set_option linter.unusedVariables false
/-- The first n columns, and column k for what is right. -/
def col (n : Nat) (m : Mat) (k : Nat) : Mat := fun i j => if j < n then m i j else m i k
theorem col_swap {n p q k : Nat} {m : Mat} : col n (swap m p q) k = swap (col n m k) p q := by
  funext i j
  unfold col swap
  by_cases h1 : i = p
  · rw [if_pos h1, if_pos h1]
  · rw [if_neg h1, if_neg h1]
    by_cases h2 : i = q
    · rw [if_pos h2, if_pos h2]
    · rw [if_neg h2, if_neg h2]
theorem col_scale {n p f k : Nat} {m : Mat} : col n (scale m p f) k = scale (col n m k) p f := by
  funext i j
  unfold col scale
  by_cases h : j < n <;> by_cases h1 : i = p <;> simp [h, h1]
theorem col_elim {n p k : Nat} {m : Mat} (hp : p < n) : col n (elim m p) k = elim (col n m k) p := by
  funext i j
  unfold col elim
  by_cases h : j < n <;> by_cases h1 : i = p <;> simp [h, h1, hp]
theorem col_turn {n c a k : Nat} {m : Mat} (hc : c < n) : col n (turn m c a) k = turn (col n m k) c a := by
  unfold turn
  rw [col_elim hc, col_scale, col_swap]
  have e : col n m k a c = m a c := by unfold col; rw [if_pos hc]
  rw [e]
structure Wide (n c : Nat) (m0 m : Mat) : Prop where
  good : ∀ i, i < n → ∀ k, m i k < 256
  way : ∀ k, n ≤ k → Way n c (col n m0 k) (col n m k)
theorem col_good {n k : Nat} {m : Mat} (h : ∀ i, i < n → ∀ k, m i k < 256) : Good n (col n m k) := by
  intro i hi j hj
  unfold col
  split
  · exact h i hi j
  · exact h i hi k
theorem Wide.start {n : Nat} {m : Mat} (h : ∀ i, i < n → ∀ k, m i k < 256) : Wide n 0 m m := ⟨h, fun k _ => Way.start (col_good h)⟩
theorem wide_turn {n c a : Nat} {m : Mat} (h : ∀ i, i < n → ∀ k, m i k < 256) (hc : c < n) (ha : a < n) : ∀ i, i < n → ∀ k, turn m c a i k < 256 := by
  have h1 : ∀ i, i < n → ∀ k, swap m a c i k < 256 := by
    intro i hi k
    unfold swap
    split
    · exact h c hc k
    · split
      · exact h a ha k
      · exact h i hi k
  have hf : inv (m a c) < 256 := inv_lt (h a ha c)
  have h2 : ∀ i, i < n → ∀ k, scale (swap m a c) c (inv (m a c)) i k < 256 := by
    intro i hi k
    unfold scale
    split
    · exact mul_lt hf
    · exact h1 i hi k
  intro i hi k
  unfold turn elim
  split
  · exact h2 c hc k
  · exact xor_lt (h2 i hi k) (mul_lt (h2 i hi c))
theorem Wide.step {n c a : Nat} {m0 m : Mat} (h : Wide n c m0 m) (hc : c < n) (ha : a < n) (hca : c ≤ a) (h0 : m a c ≠ 0) : Wide n (c + 1) m0 (turn m c a) :=
  ⟨wide_turn h.good hc ha, fun k hk => by
    rw [col_turn hc]
    exact (h.way k hk).step hc ha hca (by simpa [col, hc] using h0)⟩
theorem Wide.stuck {n c k : Nat} {m0 m : Mat} (h : Wide n c m0 m) (hc : c < n) (hz : ∀ i, c ≤ i → i < n → m i c = 0) (hk : n ≤ k) : Told n (col n m0 k) [] false :=
  (h.way k hk).stuck hc (fun i h1 h2 => by simpa [col, hc] using hz i h1 h2)
theorem Wide.done {n k : Nat} {m0 m : Mat} (h : Wide n n m0 m) (hk : n ≤ k) : Told n (col n m0 k) ((List.range n).map fun i => (m i k : Int)) true := by
  have := (h.way k hk).done
  have e : ((List.range n).map fun i => (col n m k i n : Int)) = ((List.range n).map fun i => (m i k : Int)) := by
    apply List.map_congr_left
    intro i _
    simp [col]
  rw [e] at this
  exact this
end Sv
end Go.Proofs.Ytbgjagmnpfcfaak
