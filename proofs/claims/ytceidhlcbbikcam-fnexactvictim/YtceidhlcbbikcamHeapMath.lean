/- A heap of ranks, plainly: what goes up, what goes down, which is the least. Nothing of Go's text here. -/
import Derived.Test.YtceidhlcbbikcamWearMath
namespace Go.Proofs.Ytceidhlcbbikcam
open Go.RowKit
set_option linter.unusedVariables false

/-- A rank: how many are live, how often wiped, which number. -/
abbrev Rk := Int × Int × Int
def lessR (a b : Rk) : Prop := a.1 < b.1 ∨ a.1 = b.1 ∧ (a.2.1 < b.2.1 ∨ a.2.1 = b.2.1 ∧ a.2.2 < b.2.2)
instance (a b : Rk) : Decidable (lessR a b) := by unfold lessR; infer_instance
theorem lessR_asymm {a b : Rk} (h : lessR a b) (k : lessR b a) : False := by unfold lessR at h k; omega
theorem lessR_trans {a b c : Rk} (h : lessR a b) (k : lessR b c) : lessR a c := by unfold lessR at *; omega
theorem leR_trans {a b c : Rk} (h : ¬ lessR b a) (k : ¬ lessR c b) : ¬ lessR c a := by unfold lessR at *; omega
theorem leR_of_less {a b : Rk} (h : lessR a b) : ¬ lessR b a := fun k => lessR_asymm h k
theorem leR_anti {a b : Rk} (h : ¬ lessR a b) (k : ¬ lessR b a) : a = b := by
  obtain ⟨a1, a2, a3⟩ := a
  obtain ⟨b1, b2, b3⟩ := b
  unfold lessR at *
  dsimp only at *
  have e1 : a1 = b1 := by omega
  have e2 : a2 = b2 := by omega
  have e3 : a3 = b3 := by omega
  rw [e1, e2, e3]
/-- Two of them exchanged. -/
def swp (f : Nat → Rk) (i j : Nat) (k : Nat) : Rk := if k = i then f j else if k = j then f i else f k
theorem swp_l (f : Nat → Rk) (i j : Nat) : swp f i j i = f j := by simp [swp]
theorem swp_r (f : Nat → Rk) (i j : Nat) : swp f i j j = f i := by
  unfold swp; by_cases h : j = i
  · rw [if_pos h, h]
  · rw [if_neg h, if_pos rfl]
theorem swp_o (f : Nat → Rk) (i j : Nat) {k : Nat} (h1 : k ≠ i) (h2 : k ≠ j) : swp f i j k = f k := by simp [swp, h1, h2]
theorem swp_at (f : Nat → Rk) (i j k : Nat) : ∃ m, swp f i j k = f m ∧ (k = i ∧ m = j ∨ k = j ∧ m = i ∨ k ≠ i ∧ k ≠ j ∧ m = k) := by
  by_cases h1 : k = i
  · exact ⟨j, by rw [h1, swp_l], .inl ⟨h1, rfl⟩⟩
  · by_cases h2 : k = j
    · exact ⟨i, by rw [h2, swp_r], .inr (.inl ⟨h2, rfl⟩)⟩
    · exact ⟨k, swp_o f i j h1 h2, .inr (.inr ⟨h1, h2, rfl⟩)⟩
/-- The same ones among the first n, in another order. -/
def SameR (n : Nat) (f g : Nat → Rk) : Prop := ∃ p q : Nat → Nat, (∀ i, i < n → p i < n ∧ q i < n ∧ q (p i) = i ∧ p (q i) = i ∧ g i = f (p i))
theorem SameR.refl (n : Nat) (f : Nat → Rk) : SameR n f f := ⟨id, id, fun i hi => ⟨hi, hi, rfl, rfl, rfl⟩⟩
theorem SameR.trans {n : Nat} {f g h : Nat → Rk} (a : SameR n f g) (b : SameR n g h) : SameR n f h := by
  obtain ⟨p, q, hp⟩ := a
  obtain ⟨r, s, hr⟩ := b
  refine ⟨fun i => p (r i), fun i => s (q i), fun i hi => ?_⟩
  obtain ⟨r1, r2, r3, r4, r5⟩ := hr i hi
  obtain ⟨p1, p2, p3, p4, p5⟩ := hp (r i) r1
  obtain ⟨q1, q2, q3, q4, q5⟩ := hp i hi
  refine ⟨p1, (hr _ q2).2.1, ?_, ?_, by rw [r5, p5]⟩
  · show s (q (p (r i))) = i
    rw [p3, r3]
  · show p (r (s (q i))) = i
    rw [(hr _ q2).2.2.2.1, q4]
theorem SameR.swp {n : Nat} (f : Nat → Rk) {i j : Nat} (hi : i < n) (hj : j < n) : SameR n f (swp f i j) := by
  refine ⟨fun k => if k = i then j else if k = j then i else k, fun k => if k = i then j else if k = j then i else k, fun k hk => ?_⟩
  have e : ∀ k, k < n → (if k = i then j else if k = j then i else k) < n ∧ (if (if k = i then j else if k = j then i else k) = i then j else if (if k = i then j else if k = j then i else k) = j then i else (if k = i then j else if k = j then i else k)) = k := by
    intro k hk
    by_cases h1 : k = i
    · subst h1; simp
      exact hj
    · by_cases h2 : k = j
      · subst h2; simp [h1]; exact hi
      · simp [h1, h2]; exact hk
  refine ⟨(e k hk).1, (e k hk).1, (e k hk).2, (e k hk).2, ?_⟩
  show Go.Proofs.Ytceidhlcbbikcam.swp f i j k = _
  unfold Go.Proofs.Ytceidhlcbbikcam.swp
  show _ = f (if k = i then j else if k = j then i else k)
  by_cases h1 : k = i
  · rw [if_pos h1, if_pos h1]
  · by_cases h2 : k = j
    · rw [if_neg h1, if_neg h1, if_pos h2, if_pos h2]
    · rw [if_neg h1, if_neg h1, if_neg h2, if_neg h2]
theorem SameR.mem {n : Nat} {f g : Nat → Rk} (a : SameR n f g) (x : Rk) : (∃ i, i < n ∧ g i = x) ↔ (∃ i, i < n ∧ f i = x) := by
  obtain ⟨p, q, hp⟩ := a
  constructor
  · rintro ⟨i, hi, e⟩
    exact ⟨p i, (hp i hi).1, by rw [← (hp i hi).2.2.2.2, e]⟩
  · rintro ⟨i, hi, e⟩
    obtain ⟨q1, q2, q3, q4, q5⟩ := hp i hi
    exact ⟨q i, q2, by rw [(hp _ q2).2.2.2.2, q4, e]⟩
/-- No two of the first n are alike. -/
def InjR (n : Nat) (f : Nat → Rk) : Prop := ∀ i j, i < n → j < n → f i = f j → i = j
theorem SameR.inj {n : Nat} {f g : Nat → Rk} (a : SameR n f g) (h : InjR n f) : InjR n g := by
  obtain ⟨p, q, hp⟩ := a
  intro i j hi hj e
  rw [(hp i hi).2.2.2.2, (hp j hj).2.2.2.2] at e
  have := h _ _ (hp i hi).1 (hp j hj).1 e
  rw [← (hp i hi).2.2.1, ← (hp j hj).2.2.1, this]
/-- A heap: none is less than what stands above it. -/
def HeapR (n : Nat) (f : Nat → Rk) : Prop := ∀ k, 0 < k → k < n → ¬ lessR (f k) (f ((k - 1) / 2))
/-- .. but for the one at j, on its way up. -/
def UpR (n : Nat) (f : Nat → Rk) (j : Nat) : Prop :=
  (∀ k, 0 < k → k < n → k ≠ j → ¬ lessR (f k) (f ((k - 1) / 2))) ∧ (∀ k, 0 < k → k < n → (k - 1) / 2 = j → 0 < j → ¬ lessR (f k) (f ((j - 1) / 2)))
theorem UpR.start {n : Nat} {f : Nat → Rk} (h : HeapR n f) : UpR (n + 1) f n :=
  ⟨fun k h1 h2 h3 => h k h1 (by omega), fun k h1 h2 h3 _ => by omega⟩
theorem UpR.stop {n : Nat} {f : Nat → Rk} {j : Nat} (h : UpR n f j) (hj : j = 0 ∨ ¬ lessR (f j) (f ((j - 1) / 2))) : HeapR n f := by
  intro k h1 h2
  by_cases e : k = j
  · subst e
    rcases hj with h0 | h0
    · omega
    · exact h0
  · exact h.1 k h1 h2 e
theorem UpR.step {n : Nat} {f : Nat → Rk} {j : Nat} (h : UpR n f j) (hj : 0 < j) (hn : j < n) (hl : lessR (f j) (f ((j - 1) / 2))) : UpR n (swp f ((j - 1) / 2) j) ((j - 1) / 2) := by
  have hpar : (j - 1) / 2 < j := by omega
  generalize hi : (j - 1) / 2 = i at *
  refine ⟨fun k h1 h2 h3 => ?_, fun k h1 h2 h3 h4 => ?_⟩
  · by_cases e : k = j
    · subst e
      rw [swp_r, hi, swp_l]
      exact leR_of_less hl
    · rw [swp_o f i j h3 e]
      by_cases e1 : (k - 1) / 2 = i
      · rw [e1, swp_l]
        have := h.1 k h1 h2 e
        rw [e1] at this
        exact leR_trans (leR_of_less hl) this
      · by_cases e2 : (k - 1) / 2 = j
        · rw [e2, swp_r]
          have := h.2 k h1 h2 e2 hj
          rw [hi] at this
          exact this
        · rw [swp_o f i j e1 e2]
          exact h.1 k h1 h2 e
  · have hii : (i - 1) / 2 ≠ i := by omega
    have hij : (i - 1) / 2 ≠ j := by omega
    rw [swp_o f i j hii hij]
    have hi2 := h.1 i h4 (by omega) (by omega)
    by_cases e : k = j
    · subst e
      rw [swp_r]
      exact hi2
    · rw [swp_o f i j (by omega) e]
      have := h.1 k h1 h2 e
      rw [h3] at this
      exact leR_trans hi2 this
/-- .. but for the one at i, on its way down. -/
def DownR (n : Nat) (f : Nat → Rk) (i : Nat) : Prop :=
  (∀ k, 0 < k → k < n → (k - 1) / 2 ≠ i → ¬ lessR (f k) (f ((k - 1) / 2))) ∧ (∀ k, 0 < k → k < n → (k - 1) / 2 = i → 0 < i → ¬ lessR (f k) (f ((i - 1) / 2)))
theorem DownR.start {n : Nat} {f g : Nat → Rk} (h : HeapR (n + 1) f) (hg : ∀ k, 0 < k → k < n → g k = f k) : DownR n g 0 := by
  refine ⟨fun k h1 h2 h3 => ?_, fun k h1 h2 h3 h4 => by omega⟩
  rw [hg k h1 h2, hg ((k - 1) / 2) (by omega) (by omega)]
  exact h k h1 (by omega)
theorem DownR.stop {n : Nat} {f : Nat → Rk} {i : Nat} (h : DownR n f i) (h1 : 2 * i + 1 < n → ¬ lessR (f (2 * i + 1)) (f i)) (h2 : 2 * i + 2 < n → ¬ lessR (f (2 * i + 2)) (f i)) : HeapR n f := by
  intro k hk hn
  by_cases e : (k - 1) / 2 = i
  · rw [e]
    by_cases e1 : k = 2 * i + 1
    · subst e1; exact h1 hn
    · obtain rfl : k = 2 * i + 2 := by omega
      exact h2 hn
  · exact h.1 k hk hn e
/-- The lesser child j of i comes up. -/
theorem DownR.step {n : Nat} {f : Nat → Rk} {i j : Nat} (h : DownR n f i) (hj : j = 2 * i + 1 ∨ j = 2 * i + 2) (hn : j < n) (hl : lessR (f j) (f i))
    (hm : ∀ k, (k = 2 * i + 1 ∨ k = 2 * i + 2) → k < n → ¬ lessR (f k) (f j)) : DownR n (swp f i j) j := by
  have hpj : (j - 1) / 2 = i := by omega
  have hij : i < j := by omega
  refine ⟨fun k h1 h2 h3 => ?_, fun k h1 h2 h3 h4 => ?_⟩
  · by_cases e1 : (k - 1) / 2 = i
    · rw [e1, swp_l]
      by_cases e2 : k = j
      · subst e2
        rw [swp_r]
        exact leR_of_less hl
      · rw [swp_o f i j (by omega) e2]
        exact hm k (by omega) h2
    · rw [swp_o f i j e1 h3]
      by_cases e2 : k = i
      · subst e2
        rw [swp_l]
        have := h.2 j (by omega) hn hpj h1
        exact this
      · have e3 : k ≠ j := fun e => e1 (by rw [e]; exact hpj)
        rw [swp_o f i j e2 e3]
        exact h.1 k h1 h2 e1
  · rw [hpj, swp_l]
    have e1 : k ≠ i := by omega
    have e2 : k ≠ j := by omega
    rw [swp_o f i j e1 e2]
    have := h.1 k h1 h2 (by omega)
    rw [h3] at this
    exact this
/-- The first of a heap is the least. -/
theorem HeapR.least {n : Nat} {f : Nat → Rk} (h : HeapR n f) : ∀ k, k < n → ¬ lessR (f k) (f 0) := by
  intro k
  induction k using Nat.strongRecOn with
  | ind k ih =>
    intro hk
    by_cases e : k = 0
    · subst e; exact fun hh => lessR_asymm hh hh
    · have h1 := h k (by omega) hk
      have h2 := ih ((k - 1) / 2) (by omega) (by omega)
      exact leR_trans h2 h1
theorem HeapR.none (f : Nat → Rk) : HeapR 0 f := fun k _ h => absurd h (by omega)
end Go.Proofs.Ytceidhlcbbikcam
