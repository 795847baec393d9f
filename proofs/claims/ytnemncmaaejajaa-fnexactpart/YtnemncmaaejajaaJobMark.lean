/- The laws' own marks: Jobs that are marked and held. -/
import Derived.Test.YtnemncmaaejajaaChipJob2
import Derived.Test.YtnemncmaaejajaaChipHeld
namespace Go.Proofs.Ytnemncmaaejajaa
open Go.RowKit
set_option linter.unusedVariables false
set_option maxRecDepth 20000

/-- Jobs that are marked from m on. -/
def jbMark (m n : Nat) : List Jb := (List.range n).map fun i : Nat => (((m + 3 * i : Nat) : Int), ((m + 3 * i + 1 : Nat) : Int), markT (m + 3 * i + 2))
theorem jbMark_length (m n : Nat) : (jbMark m n).length = n := by simp [jbMark]
theorem jbMark_at (m n i : Nat) (h : i < n) : jbAt (jbMark m n) i = (((m + 3 * i : Nat) : Int), ((m + 3 * i + 1 : Nat) : Int), markT (m + 3 * i + 2)) := by
  unfold jbAt jbMark
  rw [List.getD_eq_getElem?_getD, List.getElem?_map, List.getElem?_range h]; rfl
def mixJ (m n : Nat) (js : List Jb) (k j : Nat) : Value := if j < 3 * k then cellJ (jbMark m n) j else cellJ js j
theorem mixJ_step (m n : Nat) (js : List Jb) (k j : Nat) (h : k < n) : (if j = k * 3 + 2 then Value.string (markT (m + 3 * k + 2)) else if j = k * 3 + 1 then .int .i64 ((m + 3 * k + 1 : Nat) : Int) else if j = k * 3 then .int .i64 ((m + 3 * k : Nat) : Int) else mixJ m n js k j) = mixJ m n js (k + 1) j := by
  unfold mixJ
  by_cases e2 : j = k * 3 + 2
  · subst e2
    rw [if_pos rfl, if_pos (by omega), show k * 3 + 2 = 3 * k + 2 by omega, cellJ2, jbMark_at m n k h]
  · rw [if_neg e2]
    by_cases e1 : j = k * 3 + 1
    · subst e1
      rw [if_pos rfl, if_pos (by omega), show k * 3 + 1 = 3 * k + 1 by omega, cellJ1, jbMark_at m n k h]
    · rw [if_neg e1]
      by_cases e0 : j = k * 3
      · subst e0
        rw [if_pos rfl, if_pos (by omega), show k * 3 = 3 * k by omega, cellJ0, jbMark_at m n k h]
      · rw [if_neg e0]
        by_cases hl : j < 3 * k
        · rw [if_pos hl, if_pos (by omega)]
        · rw [if_neg hl, if_neg (by omega)]

end Go.Proofs.Ytnemncmaaejajaa
