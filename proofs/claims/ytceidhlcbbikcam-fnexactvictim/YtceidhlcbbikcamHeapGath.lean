/- What a heap holds while Squares are pushed and taken, plainly. Nothing of Go's text here. -/
import Derived.Test.YtceidhlcbbikcamHeapMath
import Derived.Test.YtceidhlcbbikcamChipGrow
namespace Go.Proofs.Ytceidhlcbbikcam
open Go.RowKit
set_option linter.unusedVariables false

/-- The first m of f are the ranks of those among the first k for which P says yes, each once. -/
structure Gath (P : Nat → Bool) (r : Nat → Rk) (k m : Nat) (f : Nat → Rk) : Prop where
  mem : ∀ x, (∃ i, i < m ∧ f i = x) ↔ ∃ j, j < k ∧ P j = true ∧ r j = x
  inj : InjR m f
  le : m ≤ k
theorem Gath.nil (P : Nat → Bool) (r f : Nat → Rk) : Gath P r 0 0 f :=
  ⟨fun x => ⟨fun ⟨i, hi, _⟩ => absurd hi (by omega), fun ⟨j, hj, _⟩ => absurd hj (by omega)⟩, fun i j hi => absurd hi (by omega), Nat.le_refl _⟩
theorem Gath.skip {P : Nat → Bool} {r f : Nat → Rk} {k m : Nat} (h : Gath P r k m f) (hp : P k = false) : Gath P r (k + 1) m f := by
  refine ⟨fun x => ?_, h.inj, by have := h.le; omega⟩
  rw [h.mem x]
  constructor
  · rintro ⟨j, h1, h2, h3⟩; exact ⟨j, by omega, h2, h3⟩
  · rintro ⟨j, h1, h2, h3⟩
    refine ⟨j, ?_, h2, h3⟩
    by_cases e : j = k
    · subst e; rw [hp] at h2; cases h2
    · omega
theorem Gath.push {P : Nat → Bool} {r f f' : Nat → Rk} {k m : Nat} (h : Gath P r k m f) (hr : ∀ i j, r i = r j → i = j) (hp : P k = true) (hs : SameR (m + 1) (upd f m (r k)) f') : Gath P r (k + 1) (m + 1) f' := by
  have hold : ∀ i, i < m → upd f m (r k) i = f i := fun i hi => upd_other _ _ (by omega)
  refine ⟨fun x => ?_, hs.inj ?_, by have := h.le; omega⟩
  · rw [hs.mem x]
    constructor
    · rintro ⟨i, hi, e⟩
      by_cases ei : i = m
      · subst ei
        rw [upd_same] at e
        exact ⟨k, by omega, hp, e⟩
      · rw [hold i (by omega)] at e
        obtain ⟨j, h1, h2, h3⟩ := (h.mem x).1 ⟨i, by omega, e⟩
        exact ⟨j, by omega, h2, h3⟩
    · rintro ⟨j, h1, h2, h3⟩
      by_cases ej : j = k
      · subst ej
        exact ⟨m, by omega, by rw [upd_same, h3]⟩
      · obtain ⟨i, hi, e⟩ := (h.mem x).2 ⟨j, by omega, h2, h3⟩
        exact ⟨i, by omega, by rw [hold i hi, e]⟩
  · intro i j hi hj e
    have hno : ∀ t, t < m → f t ≠ r k := fun t ht et => by
      obtain ⟨j, h1, h2, h3⟩ := (h.mem (r k)).1 ⟨t, ht, et⟩
      have := hr _ _ h3
      omega
    by_cases ei : i = m
    · subst ei
      by_cases ej : j = i
      · exact ej.symm
      · rw [upd_same, hold j (by omega)] at e
        exact absurd e.symm (hno j (by omega))
    · rw [hold i (by omega)] at e
      by_cases ej : j = m
      · subst ej
        rw [upd_same] at e
        exact absurd e (hno i (by omega))
      · rw [hold j (by omega)] at e
        exact h.inj i j (by omega) (by omega) e
/-- l was taken, m are left: of those for which P says yes, by their ranks. -/
structure Taken (P : Nat → Bool) (r : Nat → Rk) (n : Nat) (l : List Nat) (m : Nat) (f : Nat → Rk) : Prop where
  sorted : List.Pairwise (fun i j => lessR (r i) (r j)) l
  ahead : ∀ i, i ∈ l → ∀ t, t < m → lessR (r i) (f t)
  mem : ∀ j, (j < n ∧ P j = true) ↔ (j ∈ l ∨ ∃ t, t < m ∧ f t = r j)
  inj : InjR m f
  of : ∀ t, t < m → ∃ j, j < n ∧ P j = true ∧ r j = f t
theorem Taken.start {P : Nat → Bool} {r f : Nat → Rk} {n m : Nat} (h : Gath P r n m f) (hr : ∀ i j, r i = r j → i = j) : Taken P r n [] m f := by
  refine ⟨List.Pairwise.nil, fun i hi => by simp at hi, fun j => ?_, h.inj, fun t ht => (h.mem (f t)).1 ⟨t, ht, rfl⟩⟩
  constructor
  · rintro ⟨h1, h2⟩
    exact .inr ((h.mem (r j)).2 ⟨j, h1, h2, rfl⟩)
  · rintro (h1 | h1)
    · simp at h1
    · obtain ⟨i, h2, h3, h4⟩ := (h.mem (r j)).1 h1
      have := hr _ _ h4
      subst this
      exact ⟨h2, h3⟩
theorem Taken.next {P : Nat → Bool} {r f f' : Nat → Rk} {n m j : Nat} {l : List Nat} (h : Taken P r n l (m + 1) f) (hr : ∀ i j, r i = r j → i = j) (hh : HeapR (m + 1) f) (hj : f 0 = r j) (hs : SameR m (swp f 0 m) f') : Taken P r n (l ++ [j]) m f' := by
  have back : ∀ t, t < m → ∃ s, 0 < s ∧ s < m + 1 ∧ f' t = f s := fun t ht => by
    obtain ⟨i, hi, e⟩ := (hs.mem (f' t)).1 ⟨t, ht, rfl⟩
    obtain ⟨s, e2, hc⟩ := swp_at f 0 m i
    refine ⟨s, ?_, ?_, by rw [← e2, e]⟩
    · omega
    · omega
  have forth : ∀ s, 0 < s → s < m + 1 → ∃ t, t < m ∧ f' t = f s := fun s h0 h1 => by
    refine (hs.mem (f s)).2 ?_
    by_cases e : s = m
    · subst e
      exact ⟨0, h0, swp_l _ _ _⟩
    · exact ⟨s, by omega, swp_o f 0 m (by omega) e⟩
  have far : ∀ s, 0 < s → s < m + 1 → lessR (f 0) (f s) := fun s h0 h1 => by
    have h2 := hh.least s h1
    by_cases h3 : lessR (f 0) (f s)
    · exact h3
    · have e := leR_anti h3 h2
      have := h.inj 0 s (by omega) h1 e
      omega
  refine ⟨?_, ?_, fun i => ?_, ?_, fun t ht => ?_⟩
  · rw [List.pairwise_append]
    refine ⟨h.sorted, List.pairwise_singleton _ _, fun a ha b hb => ?_⟩
    rw [List.mem_singleton] at hb
    subst hb
    rw [← hj]
    exact h.ahead a ha 0 (by omega)
  · intro i hi t ht
    obtain ⟨s, h0, h1, e⟩ := back t ht
    rw [e]
    rw [List.mem_append, List.mem_singleton] at hi
    rcases hi with hi | rfl
    · exact h.ahead i hi s h1
    · rw [← hj]; exact far s h0 h1
  · rw [h.mem i, List.mem_append, List.mem_singleton]
    constructor
    · rintro (hi | ⟨t, ht, e⟩)
      · exact .inl (.inl hi)
      · by_cases e0 : t = 0
        · subst e0
          rw [hj] at e
          exact .inl (.inr (hr _ _ e).symm)
        · obtain ⟨t', h1, h2⟩ := forth t (by omega) ht
          exact .inr ⟨t', h1, by rw [h2, e]⟩
    · rintro ((hi | rfl) | ⟨t, ht, e⟩)
      · exact .inl hi
      · exact .inr ⟨0, by omega, hj⟩
      · obtain ⟨s, h0, h1, e2⟩ := back t ht
        exact .inr ⟨s, h1, by rw [← e2, e]⟩
  · refine hs.inj ?_
    intro a b ha hb e
    obtain ⟨s, e1, hc1⟩ := swp_at f 0 m a
    obtain ⟨t, e2, hc2⟩ := swp_at f 0 m b
    rw [e1, e2] at e
    have := h.inj s t (by omega) (by omega) e
    omega
  · obtain ⟨s, h0, h1, e⟩ := back t ht
    rw [e]
    exact h.of s h1
/-- The rank of a Square without Pages. -/
def rkE (qs : List Sq) (j : Nat) : Rk := (0, (sqAt qs j).2.1, (j : Int))
theorem rkE_inj (qs : List Sq) : ∀ i j, rkE qs i = rkE qs j → i = j := fun i j h => by
  have := congrArg (fun x : Rk => x.2.2) h
  have h2 : (i : Int) = (j : Int) := this
  omega
theorem rkE_less {qs : List Sq} {i j : Nat} (h : lessR (rkE qs i) (rkE qs j)) : aheadW qs i j := by
  unfold lessR rkE at h
  unfold aheadW
  dsimp only at h
  omega
theorem Taken.empty {qs : List Sq} {l : List Nat} {f : Nat → Rk} {n : Nat} (h : Taken (fun j => isEmpty (sqAt qs j)) (rkE qs) n l 0 f) : l = emptyK qs n := by
  refine sorted_one (h.sorted.imp rkE_less) (emptyK_sorted qs n) (fun x => ?_)
  rw [emptyK_mem, h.mem x]
  constructor
  · exact fun hx => .inl hx
  · rintro (hx | ⟨t, ht, _⟩)
    · exact hx
    · omega
/-- The rank of a Square that may be the victim. -/
def rkV9 (qs : List Sq) (ps : List Pl) (j : Nat) : Rk := ((liveN ps (j : Int) : Int), (sqAt qs j).2.1, (j : Int))
theorem rkV9_inj (qs : List Sq) (ps : List Pl) : ∀ i j, rkV9 qs ps i = rkV9 qs ps j → i = j := fun i j h => by
  have := congrArg (fun x : Rk => x.2.2) h
  have h2 : (i : Int) = (j : Int) := this
  omega
theorem bestK_none {qs : List Sq} {ps : List Pl} {op : Int} : ∀ {k : Nat}, bestK qs ps op k = none → ∀ j, j < k → mayV qs op j = false
  | 0, _, j, hj => absurd hj (by omega)
  | k + 1, h, j, hj => by
    unfold bestK at h
    split at h
    · split at h
      · cases h
      · split at h <;> cases h
    · rename_i hm
      by_cases e : j = k
      · subst e; simpa using hm
      · exact bestK_none h j (by omega)
theorem bestK_some {qs : List Sq} {ps : List Pl} {op : Int} : ∀ {k b : Nat}, bestK qs ps op k = some b → mayV qs op b = true ∧ ∀ j, j < k → mayV qs op j = true → ¬ lessR (rkV9 qs ps j) (rkV9 qs ps b)
  | 0, b, h => by cases h
  | k + 1, b, h => by
    unfold bestK at h
    split at h
    · rename_i hm
      split at h
      · rename_i hn
        cases h
        refine ⟨hm, fun j hj hv => ?_⟩
        by_cases e : j = k
        · subst e; exact fun hh => lessR_asymm hh hh
        · rw [bestK_none hn j (by omega)] at hv; cases hv
      · rename_i c hc
        have ih := bestK_some hc
        have hck := bestK_lt hc
        split at h
        · rename_i hb
          cases h
          refine ⟨hm, fun j hj hv => ?_⟩
          by_cases e : j = k
          · subst e; exact fun hh => lessR_asymm hh hh
          · have h1 := ih.2 j (by omega) hv
            unfold betterV at hb
            simp only [Bool.or_eq_true, Bool.and_eq_true, decide_eq_true_eq] at hb
            have h2 : lessR (rkV9 qs ps k) (rkV9 qs ps c) := by unfold lessR rkV9; dsimp only; omega
            exact leR_trans (leR_of_less h2) h1
        · rename_i hb
          cases h
          refine ⟨ih.1, fun j hj hv => ?_⟩
          by_cases e : j = k
          · subst e
            unfold betterV at hb
            simp only [Bool.or_eq_true, Bool.and_eq_true, decide_eq_true_eq] at hb
            unfold lessR rkV9
            dsimp only
            omega
          · exact ih.2 j (by omega) hv
    · rename_i hm
      have ih := bestK_some h
      refine ⟨ih.1, fun j hj hv => ?_⟩
      by_cases e : j = k
      · subst e; rw [hv] at hm; exact absurd rfl hm
      · exact ih.2 j (by omega) hv
/-- The first of the heap is the victim. -/
theorem Gath.best {qs : List Sq} {ps : List Pl} {op : Int} {n m : Nat} {f : Nat → Rk} (h : Gath (mayV qs op) (rkV9 qs ps) n (m + 1) f) (hh : HeapR (m + 1) f) : ∃ b, bestK qs ps op n = some b ∧ f 0 = rkV9 qs ps b := by
  obtain ⟨j, h1, h2, h3⟩ := (h.mem (f 0)).1 ⟨0, by omega, rfl⟩
  cases hb : bestK qs ps op n with
  | none => rw [bestK_none hb j h1] at h2; cases h2
  | some b =>
    refine ⟨b, rfl, ?_⟩
    have hs := bestK_some hb
    have hlt := bestK_lt hb
    obtain ⟨t, h4, h5⟩ := (h.mem (rkV9 qs ps b)).2 ⟨b, hlt, hs.1, rfl⟩
    have h6 := hh.least t h4
    rw [h5] at h6
    have h7 := hs.2 j h1 h2
    rw [h3] at h7
    exact leR_anti h7 h6
theorem Gath.none {qs : List Sq} {ps : List Pl} {op : Int} {n : Nat} {f : Nat → Rk} (h : Gath (mayV qs op) (rkV9 qs ps) n 0 f) : bestK qs ps op n = none := by
  cases hb : bestK qs ps op n with
  | none => rfl
  | some b =>
    have hs := bestK_some hb
    obtain ⟨t, h4, _⟩ := (h.mem (rkV9 qs ps b)).2 ⟨b, bestK_lt hb, hs.1, rfl⟩
    omega
end Go.Proofs.Ytceidhlcbbikcam
