/- The steps of a column's turn, number by number. -/
import Derived.Test.YtbgjagmnpfcfaakSolveMat
namespace Go.Proofs.Ytbgjagmnpfcfaak
open Go.RowKit
set_option linter.unusedVariables false
set_option linter.unusedSimpArgs false

theorem MatIs.swapped {base n g : Nat} {w : World} {P C : Nat → Nat} {m : Nat → Nat → Nat} (h : MatIs base n w g P C m) {p q : Nat} (hp : p < n) (hq : q < n) :
    ∃ P' C' : Nat → Nat, MatIs base n ((w.setCell ⟨g, p, none⟩ (.slice (some ⟨P q, 0, none⟩) (n + 1) (C q))).setCell ⟨g, q, none⟩ (.slice (some ⟨P p, 0, none⟩) (n + 1) (C p))) g P' C' (Sv.swap m p q) ∧ P' q = P p := by
  refine ⟨_, _, h.swap hp hq, ?_⟩
  by_cases e : q = p
  · rw [if_pos e, e]
  · rw [if_neg e, if_pos rfl]
theorem MatIs.mid {base n g : Nat} {w : World} {P C : Nat → Nat} {m : Nat → Nat → Nat} (h : MatIs base n w g P C m) {p q : Nat} (hp : p < n) (hq : q < n) :
    (w.setCell ⟨g, p, none⟩ (.slice (some ⟨P q, 0, none⟩) (n + 1) (C q))).cell? ⟨g, q, none⟩ = some (.slice (some ⟨P q, 0, none⟩) (n + 1) (C q)) := by
  by_cases e : q = p
  · subst e; exact World.cell?_setCell_same _ _ _ (h.outer q hq)
  · rw [World.cell?_setCell_other _ _ _ _ (by intro e'; simp only [Addr.mk.injEq] at e'; omega)]; exact h.outer q hq
def scl (m : Nat → Nat → Nat) (c f q a b : Nat) : Nat := if a = c ∧ b < q then Field.mul f (m c b) else m a b
theorem scl_zero (m : Nat → Nat → Nat) (c f a b : Nat) : m a b = scl m c f 0 a b := by simp [scl]
theorem scl_step (m : Nat → Nat → Nat) (c f q a b : Nat) : (if a = c ∧ b = q then Field.mul f (m c q) else scl m c f q a b) = scl m c f (q + 1) a b := by
  unfold scl
  by_cases e1 : a = c
  · by_cases e2 : b = q
    · subst e1 e2; simp
    · by_cases e3 : b < q
      · simp [e1, e2, e3, show b < q + 1 by omega]
      · simp [e1, e2, e3, show ¬ b < q + 1 by omega]
  · simp [e1]
theorem scl_all (m : Nat → Nat → Nat) (c f n a b : Nat) (hb : b < n + 1) : scl m c f (n + 1) a b = Sv.scale m c f a b := by
  unfold scl Sv.scale
  by_cases e : a = c
  · simp [e, hb]
  · simp [e]
theorem scl_at (m : Nat → Nat → Nat) (c f q : Nat) : scl m c f q c q = m c q := by simp [scl]
def elm (m : Nat → Nat → Nat) (c r a b : Nat) : Nat := if a < r ∧ a ≠ c then m a b ^^^ Field.mul (m a c) (m c b) else m a b
theorem elm_zero (m : Nat → Nat → Nat) (c a b : Nat) : m a b = elm m c 0 a b := by simp [elm]
theorem elm_self (m : Nat → Nat → Nat) (c a b : Nat) : elm m c c a b = elm m c (c + 1) a b := by
  unfold elm
  by_cases e : a = c
  · simp [e]
  · by_cases e2 : a < c
    · simp [e, e2, show a < c + 1 by omega]
    · simp [e, e2, show ¬ a < c + 1 by omega]
theorem elm_all (m : Nat → Nat → Nat) (c n a b : Nat) (ha : a < n) : elm m c n a b = Sv.elim m c a b := by
  unfold elm Sv.elim
  by_cases e : a = c
  · simp [e]
  · simp [e, ha]
theorem elm_row (m : Nat → Nat → Nat) (c r b : Nat) : elm m c r r b = m r b := by simp [elm]
theorem elm_col (m : Nat → Nat → Nat) (c r b : Nat) : elm m c r c b = m c b := by simp [elm]
def eli (m : Nat → Nat → Nat) (c r q a b : Nat) : Nat := if a = r ∧ b < q then m r b ^^^ Field.mul (m r c) (m c b) else elm m c r a b
theorem eli_zero (m : Nat → Nat → Nat) (c r a b : Nat) : elm m c r a b = eli m c r 0 a b := by simp [eli]
theorem eli_step (m : Nat → Nat → Nat) (c r q a b : Nat) : (if a = r ∧ b = q then m r q ^^^ Field.mul (m r c) (m c q) else eli m c r q a b) = eli m c r (q + 1) a b := by
  unfold eli
  by_cases e1 : a = r
  · by_cases e2 : b = q
    · subst e1 e2; simp
    · by_cases e3 : b < q
      · simp [e1, e2, e3, show b < q + 1 by omega]
      · simp [e1, e2, e3, show ¬ b < q + 1 by omega]
  · simp [e1]
theorem eli_all (m : Nat → Nat → Nat) (c r n a b : Nat) (hrc : r ≠ c) (hb : b < n + 1) : eli m c r (n + 1) a b = elm m c (r + 1) a b := by
  unfold eli elm
  by_cases e : a = r
  · subst e; simp [hb, hrc]
  · by_cases e2 : a < r
    · simp [e, e2, show a < r + 1 by omega]
    · simp [e, e2, show ¬ a < r + 1 by omega]
theorem eli_at (m : Nat → Nat → Nat) (c r q : Nat) : eli m c r q r q = m r q := by simp [eli, elm]
theorem eli_col (m : Nat → Nat → Nat) (c r q b : Nat) (hrc : r ≠ c) : eli m c r q c b = m c b := by simp [eli, elm, show c ≠ r from fun e => hrc e.symm]
end Go.Proofs.Ytbgjagmnpfcfaak
