/- What is solved solves; rows of which two are alike are not told. Plain. -/
import Derived.Test.YtacjaoeghjkhoabSolveBase
namespace Go.Proofs.Ytacjaoeghjkhoab
open Go.RowKit
set_option linter.unusedVariables false
set_option linter.unusedSimpArgs false

theorem elems_told {xs : List Int} (h : elems xs = true) {k : Nat} (hk : k < xs.length) : 0 ≤ xs.getD k 0 ∧ xs.getD k 0 ≤ 255 := by
  unfold elems at h
  rw [List.all_eq_true] at h
  have := h _ (show xs.getD k 0 ∈ xs by rw [List.getD_eq_getElem?_getD, List.getElem?_eq_getElem hk]; exact List.getElem_mem _)
  simpa [elem, inB] using this
theorem rowsOk_told {xss : List (List Int)} {ys : List Int} (h : rowsOk xss ys = true) : 1 ≤ xss.length ∧ xss.length ≤ 8 ∧ ys.length = xss.length ∧ elems ys = true ∧ ∀ i, i < xss.length → (xss.getD i []).length = xss.length ∧ elems (xss.getD i []) = true := by
  simp only [rowsOk, Bool.and_eq_true, List.all_eq_true, decide_eq_true_eq] at h
  obtain ⟨h1, h2, h3, h4, h5⟩ := h
  refine ⟨h1, h2, h3, h4, fun i hi => ?_⟩
  have := h5 _ (getR_mem hi)
  simpa [rowOk] using this
theorem mat_told {xss : List (List Int)} {ys : List Int} (h : rowsOk xss ys = true) : Sv.Good xss.length (matOf xss ys) := by
  obtain ⟨_, _, h3, h4, h5⟩ := rowsOk_told h
  intro i hi k hk
  unfold matOf
  by_cases e : k < xss.length
  · rw [if_pos e]
    have := elems_told (h5 i hi).2 (k := k) (by rw [(h5 i hi).1]; exact e)
    omega
  · rw [if_neg e]
    have := elems_told h4 (k := i) (by rw [h3]; exact hi)
    omega
theorem solved_facts {xss : List (List Int)} {ys out : List Int} {n : Nat} (h : Answer xss ys out true) (hl : xss.length = n) : ys.length = n ∧ out.length = n ∧ (∀ i, i < n → (xss.getD i []).length = n) ∧
    ∃ (M : Nat → Nat → Nat) (x R : Nat → Nat), (∀ i k, i < n → k < n → (xss.getD i []).getD k 0 = (M i k : Int) ∧ M i k < 256) ∧ (∀ k, k < n → out.getD k 0 = (x k : Int) ∧ x k < 256) ∧ (∀ i, i < n → ys.getD i 0 = (R i : Int)) ∧ ∀ i, i < n → Sv.dot (M i) x n = R i := by
  subst hl
  rcases h with ⟨_, _, h0⟩ | ⟨hok, ht⟩
  · cases h0
  · obtain ⟨_, _, h3, h4, h5⟩ := rowsOk_told hok
    obtain ⟨x, hx, rfl, hs⟩ := Sv.told_solves ht
    refine ⟨h3, by simp, fun i hi => (h5 i hi).1, matOf xss ys, x, fun i => (ys.getD i 0).toNat, ?_, ?_, ?_, ?_⟩
    · intro i k hi hk
      have := elems_told (h5 i hi).2 (k := k) (by rw [(h5 i hi).1]; exact hk)
      unfold matOf
      rw [if_pos hk]
      omega
    · intro k hk
      refine ⟨?_, hx k hk⟩
      rw [List.getD_eq_getElem?_getD, List.getElem?_map, List.getElem?_range hk]; rfl
    · intro i hi
      have := elems_told h4 (k := i) (by rw [h3]; exact hi)
      dsimp only
      omega
    · intro i hi
      have := elems_told h4 (k := i) (by rw [h3]; exact hi)
      rw [hs i hi]
      unfold matOf
      rw [if_neg (Nat.lt_irrefl _), Field.mul_one (by omega)]
theorem solved_twice {xss : List (List Int)} {ys out : List Int} {n : Nat} {b : Bool} (hl : xss.length = n) (h2 : 2 ≤ n) (h : Answer (xss.set 0 (xss.getD 1 [])) ys out b) : b = false := by
  subst hl
  rcases h with ⟨_, _, h0⟩ | ⟨hok, ht⟩
  · exact h0
  · cases b
    · rfl
    · exfalso
      refine Sv.told_alike (mat_told hok) (p := 0) (q := 1) (by simp; omega) (by simp; omega) (by omega) ?_ ht
      intro k hk
      unfold matOf
      rw [if_pos hk, if_pos hk]
      congr 2
      simp [List.getD_eq_getElem?_getD, show 0 < xss.length by omega]
theorem answer_none {xss : List (List Int)} {ys out : List Int} (h : Answer xss ys out false) : out = [] := by
  rcases h with ⟨_, h1, _⟩ | ⟨_, h1⟩
  · exact h1
  · rcases h1 with ⟨h0, _⟩ | ⟨_, h2, _⟩
    · cases h0
    · exact h2
end Go.Proofs.Ytacjaoeghjkhoab
