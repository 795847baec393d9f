/- Marks are still there. -/
import Derived.Test.YtnifhfjhchbfnanChipMark
namespace Go.Proofs.Ytnifhfjhchbfnan
open Go.RowKit
set_option linter.unusedVariables false
set_option maxRecDepth 20000

end Go.Proofs.Ytnifhfjhchbfnan
