/- How much room is left behind a Chip: the laws' own walks. -/
import Derived.Test.YtnemncmaaejajaaChipBase
import Derived.Test.YtnemncmaaejajaaTextWalk
import Derived.Test.YtnemncmaaejajaaResCell
namespace Go.Proofs.Ytnemncmaaejajaa
open Go.RowKit
set_option linter.unusedVariables false
set_option maxRecDepth 20000

/-- What a look at the room answers: nothing left, or just what is left behind so much. -/
def Left (L : Int) (z : Nat) (e : Ending) : Prop := ∃ r : Int, e = .returned (.int .i64 r) ∧ -1 ≤ r ∧ r ≤ L ∧ (0 ≤ r → r = L - (z : Int))

def weight (qs : List Sq) : Nat := (qs.map fun q => q.1.length + total q.1).sum
theorem weight_take (qs : List Sq) (k : Nat) (h : k < qs.length) : weight (qs.take (k + 1)) = weight (qs.take k) + ((sqAt qs k).1.length + total (sqAt qs k).1) := by
  unfold weight sqAt
  rw [List.take_succ_eq_append_getElem h, List.map_append, List.sum_append, List.getD_eq_getElem?_getD, List.getElem?_eq_getElem h]
  simp
theorem sq_fits {qs : List Sq} {k : Nat} (h : ∀ x ∈ qs, sqFits x) (hk : k < qs.length) : sqFits (sqAt qs k) := by
  unfold sqAt
  rw [List.getD_eq_getElem?_getD, List.getElem?_eq_getElem hk]
  exact h _ (List.getElem_mem hk)

/-- A Chip behind which there is room: all of it is small. -/
theorem left_small {z : Nat} {r : Int} (h : 0 ≤ r → r = 1048576 - (z : Int)) (h0 : 0 ≤ r) : z ≤ 1048576 := by
  have := h h0; omega
end Go.Proofs.Ytnemncmaaejajaa
