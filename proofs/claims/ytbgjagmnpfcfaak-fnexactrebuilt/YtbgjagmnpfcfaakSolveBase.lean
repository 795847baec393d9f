/- What Solved answers; rows that are being built. -/
import Derived.Test.YtbgjagmnpfcfaakSolveSpec
import Derived.Test.YtbgjagmnpfcfaakRowsWalk
import Derived.Test.YtbgjagmnpfcfaakDrawBase
import Derived.Test.YtbgjagmnpfcfaakDrawBend
import Derived.RangeFuncBox
namespace Go.Proofs.Ytbgjagmnpfcfaak
open Go.RowKit
set_option linter.unusedVariables false
set_option linter.unusedSimpArgs false
set_option maxRecDepth 100000

/-- Rows and what is right as they are told. -/
def rowOk (n : Nat) (xs : List Int) : Bool := decide (xs.length = n) && elems xs
def rowsOk (xss : List (List Int)) (ys : List Int) : Bool := decide (1 ≤ xss.length) && (decide (xss.length ≤ 8) && (decide (ys.length = xss.length) && (elems ys && xss.all (rowOk xss.length))))
def matOf (xss : List (List Int)) (ys : List Int) (i k : Nat) : Nat := if k < xss.length then ((xss.getD i []).getD k 0).toNat else (ys.getD i 0).toNat
def Answer (xss : List (List Int)) (ys out : List Int) (b : Bool) : Prop := (rowsOk xss ys = false ∧ out = [] ∧ b = false) ∨ (rowsOk xss ys = true ∧ Sv.Told xss.length (matOf xss ys) out b)
theorem Answer.one {xss : List (List Int)} {ys o o' : List Int} {b b' : Bool} (h : Answer xss ys o b) (h' : Answer xss ys o' b') : o = o' ∧ b = b' := by
  rcases h with ⟨h1, rfl, rfl⟩ | ⟨h1, h2⟩ <;> rcases h' with ⟨h1', rfl, rfl⟩ | ⟨h1', h2'⟩
  · exact ⟨rfl, rfl⟩
  · rw [h1] at h1'; cases h1'
  · rw [h1] at h1'; cases h1'
  · exact h2.one h2'
/-- An empty answer in memory of its own. -/
theorem ints_none {w w' : World} {base : Nat} (h : w'.ownsRow base 2 1 (.slice (some ⟨base, 0, none⟩) 0 0) 0 []) : OwnInts base w'.heap.size w' (some ⟨base, 0, none⟩) 0 [] := ⟨rfl, Nat.le_refl _, fun h => absurd h (Nat.lt_irrefl _)⟩
/-- What another row of other elements owns stays behind an append. -/
theorem own_other' {w w' : World} {base e n base' e' n' : Nat} {v v' : Value} {xs xs' : List Value} (h : w.ownsRow base e 1 v n xs) (h' : w.ownsRow base' e' 1 v' n' xs') (hg : w.grownBy w' v'.ownBlock) (he : e ≠ e') : w'.ownsRow base e 1 v n xs := by
  refine h.kept hg ?_
  rcases h.2 with ⟨rfl, _⟩ | ⟨g, cap, cur, rfl, _, hgb, _⟩
  · exact .inl rfl
  · refine .inr fun e1 => ?_
    rcases h'.2 with ⟨rfl, _⟩ | ⟨g', cap', cur', rfl, _, hgb', _⟩
    · simp [Value.ownBlock] at e1
    · obtain rfl : g = g' := by simpa [Value.ownBlock] using e1
      rw [hgb] at hgb'
      simp at hgb'
      exact he hgb'.2
theorem own_base {w : World} {base base' e n : Nat} {v : Value} {xs : List Value} (h : w.ownsRow base e 1 v n xs) (hb : base' ≤ base) : w.ownsRow base' e 1 v n xs := by
  refine ⟨h.1, ?_⟩
  rcases h.2 with h2 | ⟨g, cap, cur, h3, h4, h5⟩
  · exact .inl h2
  · exact .inr ⟨g, cap, cur, h3, by omega, h5⟩
theorem one_news {w : World} {b : Nat} {v : Value} (h : w.cell? ⟨b, 0, none⟩ = some v) : ∀ j u, [v][j]? = some u → w.cell? ((⟨b, 0, none⟩ : Addr).add j) = some u := by
  intro j u hj
  cases j with
  | zero => simp at hj; subst hj; simpa [Addr.add] using h
  | succ j => simp at hj
/-- What a call of Solved leaves. -/
def SolvedTo (xss : List (List Int)) (ys : List Int) (w : World) (e : Ending) (w' : World) : Prop :=
  ∃ p m c out b, e = .returned (.tuple #[.slice p m c, .bool b]) ∧ m ≤ 8 ∧ OwnInts w.heap.size w'.heap.size w' p m out ∧ Answer xss ys out b ∧ Below w.heap.size w w'

theorem rowOk_e {n : Nat} {xs : List Int} (h : elems xs = false) : rowOk n xs = false := by simp [rowOk, h]
theorem rowOk_l {n : Nat} {xs : List Int} (h : xs.length ≠ n) : rowOk n xs = false := by simp [rowOk, h]
theorem rowOk_y {n : Nat} {xs : List Int} (h : xs.length = n) (h2 : elems xs = true) : rowOk n xs = true := by simp [rowOk, h, h2]
theorem answer_row {xss : List (List Int)} {ys : List Int} {n k : Nat} (hl : xss.length = n) (hk : k < n) (h : rowOk n (xss.getD k []) = false) : Answer xss ys [] false := by
  refine .inl ⟨?_, rfl, rfl⟩
  cases e : rowsOk xss ys
  · rfl
  · simp only [rowsOk, Bool.and_eq_true, List.all_eq_true] at e
    have := e.2.2.2.2 _ (getR_mem (show k < xss.length by omega))
    rw [hl, h] at this
    cases this
/-- A row and what is right of it, as cells. -/
def rowV (xss : List (List Int)) (ys : List Int) (i : Nat) : List Value := ((xss.getD i []) ++ [ys.getD i 0]).map (Value.int .i64)
/-- The first k rows have been built. -/
def Built (xss : List (List Int)) (ys : List Int) (n : Nat) (w : World) (k : Nat) (v : Value) (wr : World) : Prop :=
  ∃ P C : Nat → Nat, wr.ownsRow w.heap.size 29 1 v k ((List.range k).map fun i => Value.slice (some ⟨P i, 0, none⟩) (n + 1) (C i)) ∧
    (∀ i, i < k → wr.ownsRow w.heap.size 2 1 (.slice (some ⟨P i, 0, none⟩) (n + 1) (C i)) (n + 1) (rowV xss ys i)) ∧
    (∀ i j, i < k → j < k → P i = P j → i = j) ∧ (∀ i, i < k → rowOk n (xss.getD i []) = true) ∧ Below w.heap.size w wr

theorem own_below {w w' : World} {base e n : Nat} {v : Value} {xs : List Value} (h : w.ownsRow base e 1 v n xs) (hb : Below w.heap.size w w') : w'.ownsRow base e 1 v n xs := own_aside h (aside_of_below (lo := 0) (hi := 0) hb) (by omega)
theorem built_step {xss : List (List Int)} {ys : List Int} {n k z : Nat} {w wr w5 w6 : World} {v v3 : Value} {P C2 : Nat → Nat} {g2 c2 : Nat} {xs : List Int} {y : Int} {tmp : Obj}
    (hrows : ∀ i, i < k → wr.ownsRow w.heap.size 2 1 (.slice (some ⟨P i, 0, none⟩) (n + 1) (C2 i)) (n + 1) (rowV xss ys i)) (hinj : ∀ i j, i < k → j < k → P i = P j → i = j) (hgood : ∀ i, i < k → rowOk n (xss.getD i []) = true) (hgk : rowOk n (xss.getD k []) = true)
    (hbel : Below w.heap.size w wr) (hz : z = n) (hx : xs = xss.getD k []) (hy : y = ys.getD k 0)
    (hB5 : Below wr.heap.size wr w5) (hown2 : w5.ownsRow wr.heap.size 2 1 (.slice (some ⟨g2, 0, none⟩) (0 + z + 1) c2) (0 + z + 1) ([] ++ xs.map (Value.int .i64) ++ [.int .i64 y]))
    (ho5 : w5.ownsRow w.heap.size 29 1 v k ((List.range k).map fun i => Value.slice (some ⟨P i, 0, none⟩) (n + 1) (C2 i)))
    (hown3 : w6.ownsRow w.heap.size 29 1 v3 (k + 1) (((List.range k).map fun i => Value.slice (some ⟨P i, 0, none⟩) (n + 1) (C2 i)) ++ [.slice (some ⟨g2, 0, none⟩) (z + 1) c2]))
    (hgrow3 : (w5.alloc tmp).grownBy w6 v.ownBlock) (hB6 : Below w.heap.size wr w6) : Built xss ys n w (k + 1) v3 w6 := by
  subst hz hx hy
  have hlow : ∀ i, i < k → P i < wr.heap.size := fun i hi => by
    rcases (hrows i hi).2 with ⟨h0, _⟩ | ⟨g, cap, cur, h1, _, h2, _⟩
    · cases h0
    · cases h1; exact (Array.getElem?_eq_some_iff.1 h2).1
  have hg2 : wr.heap.size ≤ g2 := by
    rcases hown2.2 with ⟨h0, _⟩ | ⟨g, cap, cur, h1, h2, _⟩
    · cases h0
    · cases h1; exact h2
  refine ⟨fun i => if i = k then g2 else P i, fun i => if i = k then c2 else C2 i, ?_, ?_, ?_, ?_, ?_⟩
  · have e : ((List.range (k + 1)).map fun i => Value.slice (some ⟨if i = k then g2 else P i, 0, none⟩) (z + 1) (if i = k then c2 else C2 i)) = ((List.range k).map fun i => Value.slice (some ⟨P i, 0, none⟩) (z + 1) (C2 i)) ++ [.slice (some ⟨g2, 0, none⟩) (z + 1) c2] := by
      rw [List.range_succ, List.map_append]
      congr 1
      · apply List.map_congr_left
        intro i hi
        rw [List.mem_range] at hi
        simp [show i ≠ k by omega]
      · simp
    rw [e]; exact hown3
  · intro i hi
    dsimp only
    by_cases e : i = k
    · subst e
      rw [if_pos rfl, if_pos rfl]
      have h1 : w5.ownsRow w.heap.size 2 1 (.slice (some ⟨g2, 0, none⟩) (z + 1) c2) (z + 1) (rowV xss ys i) := by
        have h2 := own_base hown2 (base' := w.heap.size) hbel.size
        rw [Nat.zero_add] at h2
        have e2 : [] ++ (xss.getD i []).map (Value.int .i64) ++ [.int .i64 (ys.getD i 0)] = rowV xss ys i := by simp [rowV]
        rw [e2] at h2
        exact h2
      exact own_other' (h1.alloc tmp) (ho5.alloc tmp) hgrow3 (by decide)
    · rw [if_neg e, if_neg e]
      exact own_other' ((own_below (hrows i (by omega)) hB5).alloc tmp) (ho5.alloc tmp) hgrow3 (by decide)
  · intro i j hi hj e
    dsimp only at e
    by_cases e1 : i = k
    · by_cases e2 : j = k
      · omega
      · rw [if_pos e1, if_neg e2] at e
        have := hlow j (by omega)
        omega
    · by_cases e2 : j = k
      · rw [if_neg e1, if_pos e2] at e
        have := hlow i (by omega)
        omega
      · rw [if_neg e1, if_neg e2] at e
        exact hinj i j (by omega) (by omega) e
  · intro i hi
    by_cases e : i = k
    · rw [e]; exact hgk
    · exact hgood i (by omega)
  · exact hbel.trans hB6

end Go.Proofs.Ytbgjagmnpfcfaak
