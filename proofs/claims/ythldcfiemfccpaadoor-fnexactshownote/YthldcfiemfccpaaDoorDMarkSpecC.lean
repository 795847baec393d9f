/- The walks of chapter 13's model: ShowMark, ReadMark. -/
import Derived.Test.YthldcfiemfccpaaDoorDMarkSpecA
import Derived.Test.YthldcfiemfccpaaDoorDInfo
import Derived.Test.YthldcfiemfccpaaDoorDBase
import Derived.Deep.Cut
import Derived.Lib.QuietBelow
import Derived.BigQuiet
namespace Go.Proofs.YthldcfiemfccpaaDoor
open Go.RowKit
set_option linter.unusedVariables false
set_option linter.unusedSimpArgs false
set_option maxRecDepth 20000

theorem miIn_eq (e q : Int) (b : Bool) : miIn (e, q, b) = (inB e 0 1000000 && inB q 0 1000000) := by
  unfold miIn inB
  simp only [Bool.and_assoc]
end Go.Proofs.YthldcfiemfccpaaDoor
