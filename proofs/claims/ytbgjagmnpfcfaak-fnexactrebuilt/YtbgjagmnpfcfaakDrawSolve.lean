/- The walk that draws rows and what is right: some rows, at most four, some list. -/
import Derived.Test.YtbgjagmnpfcfaakSolveBase
import Derived.Test.YtbgjagmnpfcfaakDrawText
namespace Go.Proofs.Ytbgjagmnpfcfaak
open Go.RowKit
set_option linter.unusedVariables false
set_option linter.unusedSimpArgs false
set_option maxRecDepth 100000

/-- k rows of n numbers each, in blocks of their own. -/
def Rws (base n k : Nat) (v : Value) (w : World) : Prop :=
  ∃ (P C : Nat → Nat) (X : Nat → List Int), (∀ i, i < k → (X i).length = n) ∧ w.ownsRow base 29 1 v k ((List.range k).map fun i => Value.slice (some ⟨P i, 0, none⟩) n (C i)) ∧
    (∀ i, i < k → w.ownsRow base 2 1 (.slice (some ⟨P i, 0, none⟩) n (C i)) n ((X i).map (Value.int .i64))) ∧ (∀ i j, i < k → j < k → P i = P j → i = j)
theorem Rws.start (w : World) (n : Nat) : Rws w.heap.size n 0 (.slice (some ⟨w.heap.size, 0, none⟩) 0 0) (w.alloc (.cells #[] 29)) :=
  ⟨fun _ => 0, fun _ => 0, fun _ => [], fun i hi => absurd hi (by omega), own_made0 w _, fun i hi => absurd hi (by omega), fun i j hi => absurd hi (by omega)⟩
theorem Rws.aside {base n k : Nat} {v : Value} {w w' : World} (h : Rws base n k v w) {l r : Nat} (hb : Aside l r w w') (hr : r ≤ base) : Rws base n k v w' := by
  obtain ⟨P, C, X, h1, h2, h3, h4⟩ := h
  exact ⟨P, C, X, h1, own_aside h2 hb hr, fun i hi => own_aside (h3 i hi) hb hr, h4⟩
theorem own_block_lt {w : World} {base e n g c : Nat} {xs : List Value} (h : w.ownsRow base e 1 (.slice (some ⟨g, 0, none⟩) n c) n xs) : base ≤ g ∧ g < w.heap.size := by
  rcases h.2 with ⟨h0, _⟩ | ⟨g', cap, cur, h1, hb, h2, _⟩
  · cases h0
  · cases h1; exact ⟨hb, (Array.getElem?_eq_some_iff.1 h2).1⟩
theorem Rws.step {base n k l r : Nat} {v v3 : Value} {wr w5 w6 : World} {g c : Nat} {xs : List Int} {tmp : Obj} {P C : Nat → Nat} {X : Nat → List Int} (h1 : ∀ i, i < k → (X i).length = n) (h2 : wr.ownsRow base 29 1 v k ((List.range k).map fun i => Value.slice (some ⟨P i, 0, none⟩) n (C i)))
    (h4 : ∀ i, i < k → wr.ownsRow base 2 1 (.slice (some ⟨P i, 0, none⟩) n (C i)) n ((X i).map (Value.int .i64))) (h5 : ∀ i j, i < k → j < k → P i = P j → i = j) (hA : Aside l r wr w5) (hr : r ≤ base) (hb : base ≤ wr.heap.size) (hx : xs.length = n)
    (hn : w5.ownsRow wr.heap.size 2 1 (.slice (some ⟨g, 0, none⟩) n c) n (xs.map (Value.int .i64)))
    (h3 : w6.ownsRow base 29 1 v3 (k + 1) (((List.range k).map fun i => Value.slice (some ⟨P i, 0, none⟩) n (C i)) ++ [.slice (some ⟨g, 0, none⟩) n c])) (hg : (w5.alloc tmp).grownBy w6 v.ownBlock) : Rws base n (k + 1) v3 w6 := by
  have hv := own_aside h2 hA hr
  refine ⟨fun i => if i = k then g else P i, fun i => if i = k then c else C i, fun i => if i = k then xs else X i, ?_, ?_, ?_, ?_⟩
  · intro i hi
    dsimp only
    by_cases e : i = k
    · rw [if_pos e]; exact hx
    · rw [if_neg e]; exact h1 i (by omega)
  · have e : ((List.range (k + 1)).map fun i => Value.slice (some ⟨if i = k then g else P i, 0, none⟩) n (if i = k then c else C i)) = ((List.range k).map fun i => Value.slice (some ⟨P i, 0, none⟩) n (C i)) ++ [.slice (some ⟨g, 0, none⟩) n c] := by
      rw [List.range_succ, List.map_append]
      congr 1
      · apply List.map_congr_left
        intro i hi
        rw [List.mem_range] at hi
        simp [show i ≠ k by omega]
      · simp
    rw [e]; exact h3
  · intro i hi
    dsimp only
    by_cases e : i = k
    · rw [if_pos e, if_pos e, if_pos e]
      exact own_other' ((own_base hn hb).alloc tmp) (hv.alloc tmp) hg (by decide)
    · rw [if_neg e, if_neg e, if_neg e]
      exact own_other' ((own_aside (h4 i (by omega)) hA hr).alloc tmp) (hv.alloc tmp) hg (by decide)
  · intro i j hi hj e
    dsimp only at e
    have hgl := (own_block_lt hn).1
    by_cases e1 : i = k
    · by_cases e2 : j = k
      · omega
      · rw [if_pos e1, if_neg e2] at e
        have := (own_block_lt (h4 j (by omega))).2
        omega
    · by_cases e2 : j = k
      · rw [if_neg e1, if_pos e2] at e
        have := (own_block_lt (h4 i (by omega))).2
        omega
      · rw [if_neg e1, if_neg e2] at e
        exact h5 i j (by omega) (by omega) e
/-- What is drawn. -/
def DrawnTo (w : World) (e : Ending) (w' : World) : Prop :=
  ∃ a n cap a' n' cap' xss ys, e = .returned (.tuple #[.slice a n cap, .slice a' n' cap']) ∧ 1 ≤ n ∧ n ≤ 4 ∧ n' ≤ 5 ∧ Rows2 0 w'.heap.size w' a n xss ∧ Ints 0 w'.heap.size w' a' n' ys ∧ (∀ s ∈ xss, s.length ≤ 5) ∧ Below w.heap.size w w'
theorem own_ints {w : World} {base n : Nat} {a : Option Addr} {cap : Nat} {xs : List Int} (h : w.ownsRow base 2 1 (.slice a n cap) n (xs.map (Value.int .i64))) : Ints 0 w.heap.size w a n xs := by
  obtain ⟨a', cap', e, _, hl, _, ho⟩ := owned_of_own h
  cases e
  rw [List.length_map] at hl
  exact ⟨hl, ((ho.congr (fun i hi => map_cell xs i (by omega))).reads).wide (Nat.zero_le _) (Nat.le_refl _) (Nat.le_refl _)⟩
theorem Rws.rows {base n k : Nat} {v : Value} {w : World} (h : Rws base n k v w) : ∃ a cap xss, v = .slice a k cap ∧ Rows2 0 w.heap.size w a k xss ∧ ∀ s ∈ xss, s.length = n := by
  obtain ⟨P, C, X, h1, h2, h3, h4⟩ := h
  obtain ⟨a, cap, rfl, _, _, _, ho⟩ := owned_of_own h2
  have hX : ∀ i, i < k → ((List.range k).map X).getD i [] = X i := fun i hi => by
    rw [List.getD_eq_getElem?_getD, List.getElem?_map, List.getElem?_range hi]; rfl
  refine ⟨a, cap, (List.range k).map X, rfl, ⟨by simp, fun i => some ⟨P i, 0, none⟩, C, ?_, ?_⟩, ?_⟩
  · refine ((ho.congr (fun i hi => ?_)).reads).wide (Nat.zero_le _) (Nat.le_refl _) (Nat.le_refl _)
    rw [hX i hi, h1 i hi, List.getD_eq_getElem?_getD, List.getElem?_map, List.getElem?_range hi]; rfl
  · intro i hi
    rw [hX i hi, h1 i hi]
    exact own_ints (h3 i hi)
  · intro s hs
    obtain ⟨i, hi, rfl⟩ := List.mem_map.1 hs
    exact h1 i (List.mem_range.1 hi)
theorem own_at {w : World} {base e n g c : Nat} {xs : List Value} (h : w.ownsRow base e 1 (.slice (some ⟨g, 0, none⟩) n c) n xs) : Owned g (g + 1) w (some ⟨g, 0, none⟩) n (fun i => xs.getD i (.int .i64 0)) := by
  obtain ⟨a', cap', e', _, hl, _, ho⟩ := owned_of_own h
  cases e'
  refine ⟨by have := (own_block_lt h).2; omega, fun hn => ?_⟩
  obtain ⟨b, off, e1, h1, h2, h3⟩ := ho.2 hn
  cases e1
  exact ⟨g, 0, rfl, Nat.le_refl _, Nat.lt_succ_self _, h3⟩
theorem own_ints_at {w : World} {base n g c : Nat} {xs : List Int} (h : w.ownsRow base 2 1 (.slice (some ⟨g, 0, none⟩) n c) n (xs.map (Value.int .i64))) : OwnInts g (g + 1) w (some ⟨g, 0, none⟩) n xs := by
  have hl := h.1
  rw [List.length_map] at hl
  exact ⟨by omega, (own_at h).congr (fun i hi => map_cell xs i (by omega))⟩
theorem own_ne {w : World} {base e n g c base' e' n' g' c' : Nat} {xs xs' : List Value} (h : w.ownsRow base e 1 (.slice (some ⟨g, 0, none⟩) n c) n xs) (h' : w.ownsRow base' e' 1 (.slice (some ⟨g', 0, none⟩) n' c') n' xs') (he : e ≠ e') : g ≠ g' := by
  rintro rfl
  rcases h.2 with ⟨h0, _⟩ | ⟨g1, cap, cur, h1, _, h2, _⟩
  · cases h0
  · cases h1
    rcases h'.2 with ⟨h0, _⟩ | ⟨g2, cap2, cur2, h3, _, h4, _⟩
    · cases h0
    · cases h3
      rw [h2] at h4
      simp at h4
      exact he h4.2
theorem aside_of_grown {w w' : World} {g : Nat} (h : w.grownBy w' (some g)) : Aside g (g + 1) w w' := ⟨h.os, h.tape, h.output, h.size, fun k hk hk' => h.block k hk (fun e => by cases e; omega)⟩
theorem rows_end {w : World} {b k : Nat} {P C : Nat → Nat} {X : Nat → List Int} (hO : Owned b (b + 1) w (some ⟨b, 0, none⟩) k (fun i => .slice (some ⟨P i, 0, none⟩) (X i).length (C i))) (hr : ∀ i, i < k → Ints (P i) (P i + 1) w (some ⟨P i, 0, none⟩) (X i).length (X i)) (hX : ∀ i, i < k → (X i).length ≤ 5) :
    ∃ xss, Rows2 0 w.heap.size w (some ⟨b, 0, none⟩) k xss ∧ ∀ s ∈ xss, s.length ≤ 5 := by
  have hg : ∀ i, i < k → ((List.range k).map X).getD i [] = X i := fun i hi => by
    rw [List.getD_eq_getElem?_getD, List.getElem?_map, List.getElem?_range hi]; rfl
  refine ⟨(List.range k).map X, ⟨by simp, fun i => some ⟨P i, 0, none⟩, C, ?_, ?_⟩, ?_⟩
  · exact ((hO.congr (fun i hi => by rw [hg i hi])).reads).wide (Nat.zero_le _) hO.1 (Nat.le_refl _)
  · intro i hi
    rw [hg i hi]
    exact (hr i hi).wide (Nat.zero_le _) (hr i hi).2.1 (Nat.le_refl _)
  · intro s hs
    obtain ⟨i, hi, rfl⟩ := List.mem_map.1 hs
    exact hX i (List.mem_range.1 hi)
/-- Rows in their places, to be changed at one. -/
structure Lie (base n k b : Nat) (w : World) (P C : Nat → Nat) (X : Nat → List Int) : Prop where
  len : ∀ i, i < k → (X i).length = n
  top : Owned b (b + 1) w (some ⟨b, 0, none⟩) k (fun i => .slice (some ⟨P i, 0, none⟩) n (C i))
  row : ∀ i, i < k → OwnInts (P i) (P i + 1) w (some ⟨P i, 0, none⟩) n (X i)
  apart : ∀ i j, i < k → j < k → P i = P j → i = j
  off : ∀ i, i < k → P i ≠ b
  low : ∀ i, i < k → base ≤ P i ∧ P i < w.heap.size
  lowb : base ≤ b ∧ b < w.heap.size
theorem Rws.lie {base n k b cap : Nat} {w : World} (h : Rws base n k (.slice (some ⟨b, 0, none⟩) k cap) w) : ∃ P C X, Lie base n k b w P C X ∧ ∀ i, i < k → w.ownsRow base 2 1 (.slice (some ⟨P i, 0, none⟩) n (C i)) n ((X i).map (Value.int .i64)) := by
  obtain ⟨P, C, X, h1, h2, h3, h4⟩ := h
  refine ⟨P, C, X, ⟨h1, (own_at h2).congr (fun i hi => ?_), fun i hi => own_ints_at (h3 i hi), h4, fun i hi => own_ne (h3 i hi) h2 (by decide), fun i hi => own_block_lt (h3 i hi), own_block_lt h2⟩, h3⟩
  rw [List.getD_eq_getElem?_getD, List.getElem?_map, List.getElem?_range hi]; rfl
theorem Lie.aside {base n k b : Nat} {w w' : World} {P C : Nat → Nat} {X : Nat → List Int} (h : Lie base n k b w P C X) {l r : Nat} (hA : Aside l r w w') (hr : r ≤ base) : Lie base n k b w' P C X :=
  ⟨h.len, h.top.aside hA (.inr (by have := h.lowb; omega)), fun i hi => (h.row i hi).aside hA (.inr (by have := h.low i hi; omega)), h.apart, h.off, fun i hi => ⟨(h.low i hi).1, Nat.lt_of_lt_of_le (h.low i hi).2 hA.size⟩, ⟨h.lowb.1, Nat.lt_of_lt_of_le h.lowb.2 hA.size⟩⟩
/-- The first number of the first row is another. -/
theorem Lie.set00 {base n k b : Nat} {w : World} {P C : Nat → Nat} {X : Nat → List Int} (h : Lie base n k b w P C X) (hk : 1 ≤ k) (hn : 1 ≤ n) (hn5 : n ≤ 5) (x : Int) :
    ∃ xss, Rows2 0 (w.setCell ⟨P 0, 0, none⟩ (.int .i64 x)).heap.size (w.setCell ⟨P 0, 0, none⟩ (.int .i64 x)) (some ⟨b, 0, none⟩) k xss ∧ ∀ s ∈ xss, s.length ≤ 5 := by
  have hA : Aside (P 0) (P 0 + 1) w (w.setCell ⟨P 0, 0, none⟩ (.int .i64 x)) := (Aside.refl _ _ _).setCell (p := ⟨P 0, 0, none⟩) (Nat.le_refl _) (Nat.lt_succ_self _) _
  have hb : P 0 ≠ b := h.off 0 (by omega)
  have hl : ∀ i, i < k → (if i = 0 then (X 0).set 0 x else X i).length = n := fun i hi => by
    split
    · rw [List.length_set]; exact h.len 0 (by omega)
    · exact h.len i hi
  refine rows_end (P := P) (C := C) (X := fun i => if i = 0 then (X 0).set 0 x else X i) ?_ ?_ (fun i hi => by rw [hl i hi]; exact hn5)
  · exact (h.top.aside hA (by omega)).congr (fun i hi => by rw [hl i hi])
  · intro i hi
    rw [hl i hi]
    by_cases e : i = 0
    · subst e
      refine ⟨hl 0 hi, (((h.row 0 hi).2.set0 (i := 0) (by omega) (.int .i64 x)).congr (fun j hj => ?_)).reads⟩
      rw [if_pos rfl]
      unfold cellI
      by_cases e : j = 0
      · subst e; rw [if_pos rfl, List.getD_eq_getElem?_getD, List.getElem?_set_self (by rw [h.len 0 hi]; omega)]; rfl
      · rw [if_neg e, List.getD_eq_getElem?_getD, List.getD_eq_getElem?_getD, List.getElem?_set_ne (fun h => e h.symm)]
    · rw [if_neg e]
      exact ((h.row i hi).aside hA (by have hne : P i ≠ P 0 := fun e2 => e (h.apart i 0 hi (by omega) e2); omega)).ints
/-- The first row is a longer one. -/
theorem Lie.longer {base n k b g c : Nat} {w w' : World} {P C : Nat → Nat} {X : Nat → List Int} {tmp : Obj} {xs : List Int} (h : Lie base n k b w P C X) (hk : 1 ≤ k) (hn4 : n ≤ 4) (hxs : xs.length = n + 1)
    (hg : (w.alloc tmp).grownBy w' (some (P 0))) (ho : w'.ownsRow base 2 1 (.slice (some ⟨g, 0, none⟩) (n + 1) c) (n + 1) (xs.map (Value.int .i64))) (hgb : g ≠ b) :
    ∃ xss, Rows2 0 (w'.setCell ⟨b, 0, none⟩ (.slice (some ⟨g, 0, none⟩) (n + 1) c)).heap.size (w'.setCell ⟨b, 0, none⟩ (.slice (some ⟨g, 0, none⟩) (n + 1) c)) (some ⟨b, 0, none⟩) k xss ∧ ∀ s ∈ xss, s.length ≤ 5 := by
  have hb : P 0 ≠ b := h.off 0 (by omega)
  have hA0 : Below w.heap.size w (w.alloc tmp) := (Below.refl _ _).alloc (Nat.le_refl _) _
  have hA1 := aside_of_grown hg
  have hA2 : Aside b (b + 1) w' (w'.setCell ⟨b, 0, none⟩ (.slice (some ⟨g, 0, none⟩) (n + 1) c)) := (Aside.refl _ _ _).setCell (p := ⟨b, 0, none⟩) (Nat.le_refl _) (Nat.lt_succ_self _) _
  have hl : ∀ i, i < k → (if i = 0 then xs else X i).length = if i = 0 then n + 1 else n := fun i hi => by
    split
    · exact hxs
    · exact h.len i hi
  refine rows_end (P := fun i => if i = 0 then g else P i) (C := fun i => if i = 0 then c else C i) (X := fun i => if i = 0 then xs else X i) ?_ ?_ (fun i hi => by rw [hl i hi]; split <;> omega)
  · refine ((((h.top.later hA0 (by have := h.lowb; omega)).aside hA1 (by omega)).set0 (i := 0) (by omega) (.slice (some ⟨g, 0, none⟩) (n + 1) c))).congr (fun i hi => ?_)
    rw [hl i hi]
    by_cases e : i = 0
    · simp [e]
    · simp [e]
  · intro i hi
    rw [hl i hi]
    by_cases e : i = 0
    · subst e
      simp only [if_true]
      exact ((own_ints_at ho).aside hA2 (by omega)).ints
    · simp only [if_neg e]
      exact ((((h.row i hi).later hA0 (by have := h.low i hi; omega)).aside hA1 (by have hne : P i ≠ P 0 := fun e2 => e (h.apart i 0 hi (by omega) e2); omega)).aside hA2 (by have := h.off i hi; omega)).ints
end Go.Proofs.Ytbgjagmnpfcfaak
