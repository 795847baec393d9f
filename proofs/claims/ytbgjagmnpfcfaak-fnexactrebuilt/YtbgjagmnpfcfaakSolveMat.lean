/- From rows that were built to a matrix in memory. -/
import Derived.Test.YtbgjagmnpfcfaakSolveSpec
import Derived.Test.YtbgjagmnpfcfaakSolveBase
namespace Go.Proofs.Ytbgjagmnpfcfaak
open Go.RowKit
set_option linter.unusedVariables false
set_option linter.unusedSimpArgs false

theorem own_cells {w : World} {base e g n cap : Nat} {xs : List Value} (h : w.ownsRow base e 1 (.slice (some ⟨g, 0, none⟩) n cap) n xs) (i : Nat) (hi : i < n) : w.cell? ⟨g, i, none⟩ = some (xs.getD i (.int .i64 0)) ∧ w.frozen? ⟨g, i, none⟩ = false ∧ base ≤ g := by
  obtain ⟨a, c, e1, _, _, _, how⟩ := owned_of_own h
  cases e1
  obtain ⟨h1, h2, h3, _⟩ := how.at0 hi
  exact ⟨h1, h2, h3⟩
theorem own_type {w : World} {base e g n cap : Nat} {xs : List Value} (h : w.ownsRow base e 1 (.slice (some ⟨g, 0, none⟩) n cap) n xs) : ∃ cur, w.heap[g]? = some (.cells cur e (0, 0)) := by
  rcases h.2 with ⟨h0, _⟩ | ⟨g', cap', cur, h1, _, h2, _⟩
  · cases h0
  · cases h1; exact ⟨cur, h2⟩
theorem rowsOk_of {xss : List (List Int)} {ys : List Int} {n : Nat} (hl : xss.length = n) (hly : ys.length = n) (h1 : 1 ≤ n) (h8 : n ≤ 8) (hey : elems ys = true) (hr : ∀ i, i < n → rowOk n (xss.getD i []) = true) : rowsOk xss ys = true := by
  simp only [rowsOk, Bool.and_eq_true, List.all_eq_true, decide_eq_true_eq]
  refine ⟨by omega, by omega, by omega, hey, fun xs hxs => ?_⟩
  obtain ⟨i, hi, e⟩ := List.getElem_of_mem hxs
  have := hr i (by omega)
  rw [List.getD_eq_getElem?_getD, List.getElem?_eq_getElem hi, Option.getD_some, e] at this
  rw [hl]; exact this
theorem rowOk_parts {n : Nat} {xs : List Int} (h : rowOk n xs = true) : xs.length = n ∧ elems xs = true := by simpa [rowOk] using h
theorem mat_good {xss : List (List Int)} {ys : List Int} {n : Nat} (hl : xss.length = n) (hly : ys.length = n) (hey : elems ys = true) (hr : ∀ i, i < n → rowOk n (xss.getD i []) = true) : Sv.Good n (matOf xss ys) := by
  intro i hi k hk
  unfold matOf
  rw [hl]
  by_cases e : k < n
  · rw [if_pos e]
    obtain ⟨h1, h2⟩ := rowOk_parts (hr i hi)
    have := elems_iff.1 h2 k (by omega)
    simp only [elem, inB, Bool.and_eq_true, decide_eq_true_eq] at this
    omega
  · rw [if_neg e]
    have := elems_iff.1 hey i (by omega)
    simp only [elem, inB, Bool.and_eq_true, decide_eq_true_eq] at this
    omega
theorem row_at {xss : List (List Int)} {ys : List Int} {n : Nat} (hl : xss.length = n) (hly : ys.length = n) (hey : elems ys = true) (hr : ∀ i, i < n → rowOk n (xss.getD i []) = true) {i k : Nat} (hi : i < n) (hk : k < n + 1) : (rowV xss ys i).getD k (.int .i64 0) = .int .i64 (matOf xss ys i k : Int) := by
  obtain ⟨h1, h2⟩ := rowOk_parts (hr i hi)
  unfold rowV matOf
  rw [hl, List.getD_eq_getElem?_getD, List.getElem?_map]
  by_cases e : k < n
  · rw [if_pos e, List.getElem?_append_left (by omega)]
    have := elems_iff.1 h2 k (by omega)
    simp only [elem, inB, Bool.and_eq_true, decide_eq_true_eq] at this
    rw [List.getD_eq_getElem?_getD (l := xss.getD i []), List.getElem?_eq_getElem (by omega)] at this ⊢
    simp only [Option.getD_some, Option.map_some] at this ⊢
    rw [Int.toNat_of_nonneg (by omega)]
  · obtain rfl : k = n := by omega
    rw [if_neg e, List.getElem?_append_right (by omega), h1]
    have := elems_iff.1 hey i (by omega)
    simp only [elem, inB, Bool.and_eq_true, decide_eq_true_eq] at this
    simp only [Nat.sub_self, List.getElem?_cons_zero, Option.map_some, Option.getD_some]
    rw [Int.toNat_of_nonneg (by omega)]
theorem mat_of_built {xss : List (List Int)} {ys : List Int} {n : Nat} {w wr : World} {v : Value} (h : Built xss ys n w n v wr) (hl : xss.length = n) (hly : ys.length = n) (h1 : 1 ≤ n) (h8 : n ≤ 8) (hey : elems ys = true) :
    ∃ g cap P C, v = .slice (some ⟨g, 0, none⟩) n cap ∧ MatIs w.heap.size n wr g P C (matOf xss ys) ∧ Sv.Good n (matOf xss ys) ∧ rowsOk xss ys = true ∧ Below w.heap.size w wr := by
  obtain ⟨P, C, hown, hrows, hinj, hgood, hbel⟩ := h
  have hex : ∃ g cap, v = .slice (some ⟨g, 0, none⟩) n cap := by
    rcases hown.2 with ⟨_, h0⟩ | ⟨g, cap, _, rfl, _⟩
    · omega
    · exact ⟨g, cap, rfl⟩
  obtain ⟨g, cap, rfl⟩ := hex
  refine ⟨g, cap, P, C, rfl, ⟨fun i hi => ?_, fun i hi => (own_cells hown i hi).2.1, fun i hi k hk => ?_, fun i hi k hk => (own_cells (hrows i hi) k hk).2.1, hinj, fun i hi e => ?_, (own_cells hown 0 (by omega)).2.2, fun i hi => (own_cells (hrows i hi) 0 (by omega)).2.2⟩, mat_good hl hly hey hgood, rowsOk_of hl hly h1 h8 hey hgood, hbel⟩
  · rw [(own_cells hown i hi).1, List.getD_eq_getElem?_getD, List.getElem?_map, List.getElem?_range hi]; rfl
  · rw [(own_cells (hrows i hi) k hk).1, row_at hl hly hey hgood hi hk]
  · obtain ⟨c1, h2⟩ := own_type hown
    obtain ⟨c2, h3⟩ := own_type (hrows i hi)
    rw [e, h2] at h3
    simp at h3
end Go.Proofs.Ytbgjagmnpfcfaak
