/- How much room is left behind Jobs. -/
import Derived.Test.YtnemncmaaejajaaChipJob2
namespace Go.Proofs.Ytnemncmaaejajaa
open Go.RowKit
set_option linter.unusedVariables false
set_option maxRecDepth 20000

def weightJ (js : List Jb) : Nat := (js.map fun j => j.2.2.size).sum
theorem weightJ_take (js : List Jb) (k : Nat) (h : k < js.length) : weightJ (js.take (k + 1)) = weightJ (js.take k) + (jbAt js k).2.2.size := by
  unfold weightJ jbAt
  rw [List.take_succ_eq_append_getElem h, List.map_append, List.sum_append, List.getD_eq_getElem?_getD, List.getElem?_eq_getElem h]
  simp
theorem jb_fits {js : List Jb} {k : Nat} (h : ∀ x ∈ js, jbFits x) (hk : k < js.length) : jbFits (jbAt js k) := by
  unfold jbAt
  rw [List.getD_eq_getElem?_getD, List.getElem?_eq_getElem hk]
  exact h _ (List.getElem_mem hk)

end Go.Proofs.Ytnemncmaaejajaa
