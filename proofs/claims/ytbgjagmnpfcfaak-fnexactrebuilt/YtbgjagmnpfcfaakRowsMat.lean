/- Rows of elements in memory, each a part of a block; some may share one. -/
import Derived.Test.YtbgjagmnpfcfaakRows
import Derived.Test.YtbgjagmnpfcfaakRowBase
import Derived.Test.YtbgjagmnpfcfaakWideMath
namespace Go.Proofs.Ytbgjagmnpfcfaak
open Go.RowKit
set_option linter.unusedVariables false
set_option linter.unusedSimpArgs false

/-- n rows of W elements: where each lies, what it has. -/
structure MatW (base n W : Nat) (w : World) (g : Nat) (P O C : Nat → Nat) (m : Nat → Nat → Nat) : Prop where
  outer : w.rowIs g 29 n (fun i => .slice (some ⟨P i, O i, none⟩) W (C i))
  row : ∀ i, i < n → ∃ N F, w.rowIs (P i) 2 N F ∧ O i + W ≤ N ∧ ∀ k, k < W → F (O i + k) = .int .i64 (m i k : Int)
  apart : ∀ i j, i < n → j < n → i ≠ j → P i ≠ P j ∨ O i + W ≤ O j ∨ O j + W ≤ O i
  low : base ≤ g ∧ ∀ i, i < n → base ≤ P i
  caps : ∀ i, i < n → C i = W
theorem MatW.notG {base n W g : Nat} {w : World} {P O C : Nat → Nat} {m : Nat → Nat → Nat} (h : MatW base n W w g P O C m) {i : Nat} (hi : i < n) : P i ≠ g := by
  intro e
  obtain ⟨N, F, h1, _⟩ := h.row i hi
  rw [e] at h1
  have := (row_one h1 h.outer).1
  revert this
  decide
theorem MatW.cell {base n W g : Nat} {w : World} {P O C : Nat → Nat} {m : Nat → Nat → Nat} (h : MatW base n W w g P O C m) {i k : Nat} (hi : i < n) (hk : k < W) : w.cell? ⟨P i, O i + k, none⟩ = some (.int .i64 (m i k : Int)) := by
  obtain ⟨N, F, h1, h2, h3⟩ := h.row i hi
  rw [h1.cell (by omega), h3 k hk]
theorem MatW.at {base n W g : Nat} {w : World} {P O C : Nat → Nat} {m : Nat → Nat → Nat} (h : MatW base n W w g P O C m) {i : Nat} (hi : i < n) : w.cell? ⟨g, i, none⟩ = some (.slice (some ⟨P i, O i, none⟩) W (C i)) ∧ w.frozen? ⟨g, i, none⟩ = false := ⟨h.outer.cell hi, h.outer.frozen i⟩
theorem MatW.lt {base n W g : Nat} {w : World} {P O C : Nat → Nat} {m : Nat → Nat → Nat} (h : MatW base n W w g P O C m) {i : Nat} (hi : i < n) : P i < w.heap.size := by
  obtain ⟨N, F, h1, _⟩ := h.row i hi
  exact h1.lt
theorem MatW.congr {base n W g : Nat} {w : World} {P O C : Nat → Nat} {m m' : Nat → Nat → Nat} (h : MatW base n W w g P O C m) (e : ∀ i, i < n → ∀ k, k < W → m i k = m' i k) : MatW base n W w g P O C m' :=
  ⟨h.outer, fun i hi => by obtain ⟨N, F, h1, h2, h3⟩ := h.row i hi; exact ⟨N, F, h1, h2, fun k hk => by rw [h3 k hk, e i hi k hk]⟩, h.apart, h.low, h.caps⟩
theorem MatW.of {base n W g : Nat} {w w' : World} {P O C : Nat → Nat} {m : Nat → Nat → Nat} (h : MatW base n W w g P O C m) (hb : ∀ k, base ≤ k → k < w.heap.size → w'.heap[k]? = w.heap[k]?) : MatW base n W w' g P O C m :=
  ⟨h.outer.of_block (hb _ h.low.1 h.outer.lt), fun i hi => by obtain ⟨N, F, h1, h2, h3⟩ := h.row i hi; exact ⟨N, F, h1.of_block (hb _ (h.low.2 i hi) h1.lt), h2, h3⟩, h.apart, h.low, h.caps⟩
theorem MatW.below {base n W g : Nat} {w w' : World} {P O C : Nat → Nat} {m : Nat → Nat → Nat} (h : MatW base n W w g P O C m) (hb : Below w.heap.size w w') : MatW base n W w' g P O C m := h.of fun k _ hk => hb.block k hk
theorem MatW.reads {base n W g : Nat} {w : World} {P O C : Nat → Nat} {m : Nat → Nat → Nat} (h : MatW base n W w g P O C m) {i : Nat} (hi : i < n) : Reads (P i) (P i + 1) w (some ⟨P i, O i, none⟩) W (fun k => .int .i64 (m i k : Int)) :=
  ⟨h.lt hi, fun _ => ⟨P i, O i, rfl, Nat.le_refl _, Nat.lt_succ_self _, fun k hk => h.cell hi hk⟩⟩
/-- One row is written anew. -/
theorem MatW.rewrite {base n W g : Nat} {w w' : World} {P O C : Nat → Nat} {m : Nat → Nat → Nat} (h : MatW base n W w g P O C m) {r : Nat} (hr : r < n) (ha : Aside (P r) (P r + 1) w w') {N : Nat} {F F' : Nat → Value} (h1 : w.rowIs (P r) 2 N F) (h2 : w'.rowIs (P r) 2 N F') {x : Nat → Nat}
    (hx : ∀ k, k < W → F' (O r + k) = .int .i64 (x k : Int)) (hF : ∀ q, q < N → q < O r ∨ O r + W ≤ q → F' q = F q) : MatW base n W w' g P O C (fun i k => if i = r then x k else m i k) := by
  refine ⟨row_aside h.outer ha (by have := h.notG hr; omega), fun i hi => ?_, h.apart, h.low, h.caps⟩
  by_cases e : i = r
  · subst e
    obtain ⟨N1, F1, g1, g2, g3⟩ := h.row i hi
    obtain ⟨_, rfl, _⟩ := row_one h1 g1
    exact ⟨N, F', h2, g2, fun k hk => by rw [hx k hk]; simp⟩
  · obtain ⟨N1, F1, g1, g2, g3⟩ := h.row i hi
    by_cases ep : P i = P r
    · rw [ep] at g1
      obtain ⟨_, rfl, g4⟩ := row_one h1 g1
      refine ⟨N, F', by rw [ep]; exact h2, g2, fun k hk => ?_⟩
      have := h.apart i r hi hr e
      rw [hF (O i + k) (by omega) (by omega), g4 _ (by omega), g3 k hk]; simp [e]
    · exact ⟨N1, F1, row_aside g1 ha (by omega), g2, fun k hk => by rw [g3 k hk]; simp [e]⟩
/-- Two rows change their places. -/
theorem MatW.swapped {base n W g : Nat} {w : World} {P O C : Nat → Nat} {m : Nat → Nat → Nat} (h : MatW base n W w g P O C m) {p q : Nat} (hp : p < n) (hq : q < n) :
    MatW base n W ((w.setCell ⟨g, p, none⟩ (.slice (some ⟨P q, O q, none⟩) W (C q))).setCell ⟨g, q, none⟩ (.slice (some ⟨P p, O p, none⟩) W (C p))) g (fun i => if i = q then P p else if i = p then P q else P i) (fun i => if i = q then O p else if i = p then O q else O i) (fun i => if i = q then C p else if i = p then C q else C i) (Sv.swap m q p) := by
  refine ⟨((h.outer.set p _).set q _).congr (fun i hi => ?_), fun i hi => ?_, fun i j hi hj hij => ?_, ⟨h.low.1, fun i hi => ?_⟩, fun i hi => ?_⟩
  · by_cases e1 : i = q
    · simp [e1]
    · by_cases e2 : i = p
      · subst e2; simp [e1]
      · simp [e1, e2]
  · have key : ∀ j, j < n → ∃ N F, ((w.setCell ⟨g, p, none⟩ (.slice (some ⟨P q, O q, none⟩) W (C q))).setCell ⟨g, q, none⟩ (.slice (some ⟨P p, O p, none⟩) W (C p))).rowIs (P j) 2 N F ∧ O j + W ≤ N ∧ ∀ k, k < W → F (O j + k) = .int .i64 (m j k : Int) := by
      intro j hj
      obtain ⟨N, F, h1, h2, h3⟩ := h.row j hj
      exact ⟨N, F, (h1.setOther (h.notG hj) _).setOther (h.notG hj) _, h2, h3⟩
    by_cases e1 : i = q
    · simp only [e1, if_true, Sv.swap]; exact key p hp
    · by_cases e2 : i = p
      · simp only [e2, if_neg (show ¬ p = q from fun e => e1 (e2.trans e)), if_true, Sv.swap]; exact key q hq
      · simp only [e1, e2, if_false, Sv.swap]; exact key i hi
  · by_cases a1 : i = q
    · by_cases b1 : j = q
      · omega
      · by_cases b2 : j = p
        · subst a1 b2; simp only [if_true, if_neg b1]; exact h.apart j i hp hq (by omega)
        · subst a1; simp only [if_true, if_neg b1, if_neg b2]; exact h.apart p j hp hj (by omega)
    · by_cases a2 : i = p
      · by_cases b1 : j = q
        · subst a2 b1; simp only [if_true, if_neg a1]; exact h.apart j i hq hp (by omega)
        · have b2 : j ≠ p := by omega
          subst a2; simp only [if_true, if_neg a1, if_neg b1, if_neg b2]; exact h.apart q j hq hj (by omega)
      · by_cases b1 : j = q
        · subst b1; simp only [if_true, if_neg a1, if_neg a2]; exact h.apart i p hi hp (by omega)
        · by_cases b2 : j = p
          · subst b2; simp only [if_true, if_neg a1, if_neg a2, if_neg b1]; exact h.apart i q hi hq (by omega)
          · simp only [if_neg a1, if_neg a2, if_neg b1, if_neg b2]; exact h.apart i j hi hj hij
  · split
    · exact h.low.2 p hp
    · split
      · exact h.low.2 q hq
      · exact h.low.2 i hi
  · split
    · exact h.caps p hp
    · split
      · exact h.caps q hq
      · exact h.caps i hi
/-- A row's place is taken by a new one. -/
theorem MatW.place {base n W g : Nat} {w : World} {P O C : Nat → Nat} {m : Nat → Nat → Nat} (h : MatW base n W w g P O C m) {r : Nat} (hr : r < n) {f : Nat} {x : Nat → Nat} (hf : w.rowIs f 2 W (fun k => .int .i64 (x k : Int))) (hfb : base ≤ f) (hfn : ∀ i, i < n → P i ≠ f) :
    MatW base n W (w.setCell ⟨g, r, none⟩ (.slice (some ⟨f, 0, none⟩) W W)) g (fun i => if i = r then f else P i) (fun i => if i = r then 0 else O i) (fun i => if i = r then W else C i) (fun i k => if i = r then x k else m i k) := by
  have hfg : f ≠ g := by
    rintro rfl
    have := (row_one hf h.outer).1
    revert this
    decide
  refine ⟨(h.outer.set r _).congr (fun i hi => ?_), fun i hi => ?_, fun i j hi hj hij => ?_, ⟨h.low.1, fun i hi => ?_⟩, fun i hi => ?_⟩
  · by_cases e : i = r <;> simp [e]
  · by_cases e : i = r
    · subst e
      simp only [if_true]
      exact ⟨W, _, hf.setOther hfg _, by omega, fun k hk => by simp⟩
    · simp only [if_neg e]
      obtain ⟨N, F, h1, h2, h3⟩ := h.row i hi
      exact ⟨N, F, h1.setOther (h.notG hi) _, h2, h3⟩
  · by_cases e1 : i = r
    · have e2 : j ≠ r := by omega
      subst e1
      simp only [if_true, if_neg e2]
      exact .inl (fun e => hfn j hj e.symm)
    · by_cases e2 : j = r
      · subst e2
        simp only [if_true, if_neg e1]
        exact .inl (hfn i hi)
      · simp only [if_neg e1, if_neg e2]
        exact h.apart i j hi hj hij
  · split
    · exact hfb
    · exact h.low.2 i hi
  · split
    · rfl
    · exact h.caps i hi
end Go.Proofs.Ytbgjagmnpfcfaak
