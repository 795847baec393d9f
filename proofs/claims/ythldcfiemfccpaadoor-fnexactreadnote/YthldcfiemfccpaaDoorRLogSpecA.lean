/- Several texts in one: LogSpecA, LogSpecB. -/
import Derived.Test.YthldcfiemfccpaaDoorRLogMath
import Derived.Test.YthldcfiemfccpaaDoorRBase
import Derived.Test.YthldcfiemfccpaaDoorRChipOwn2
import Derived.Lib.QuietBelow
import Derived.BigQuiet
import Derived.Deep.Cut
section
namespace Go.Proofs.YthldcfiemfccpaaDoor
open Go.RowKit
set_option linter.unusedVariables false
set_option linter.unusedSimpArgs false
set_option maxRecDepth 20000

theorem jb_fit {js : List Jb} {k : Nat} (h : ∀ x ∈ js, jbFits x) (hk : k < js.length) : jbFits (jbAt js k) := by
  unfold jbAt
  rw [List.getD_eq_getElem?_getD, List.getElem?_eq_getElem hk]
  exact h _ (List.getElem_mem hk)
theorem two_boxed {W : World} {b : Nat} {c0 c1 : Value} {t : TypeId} {fr : Nat × Nat} (h : W.heap[b]? = some (.cells #[c0, c1] t fr)) : W.cell? ⟨b, 0, none⟩ = some c0 ∧ W.cell? ⟨b, 1, none⟩ = some c1 := by
  simp [World.cell?, h]
theorem putsOk_no {ps : List Jb} {k : Nat} (h : putsOk ps k = false) : ∀ d, putsOk ps (k + d) = false
  | 0 => h
  | d + 1 => by
    show putsOk ps ((k + d) + 1) = false
    unfold putsOk
    rw [putsOk_no h d]; rfl
end Go.Proofs.YthldcfiemfccpaaDoor
end

section
namespace Go.Proofs.YthldcfiemfccpaaDoor
open Go.RowKit
set_option linter.unusedVariables false
set_option linter.unusedSimpArgs false
set_option maxRecDepth 20000

end Go.Proofs.YthldcfiemfccpaaDoor
end

