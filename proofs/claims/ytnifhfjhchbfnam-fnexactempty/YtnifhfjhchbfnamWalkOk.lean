/- The walks of BitsOk, on both sides. -/
import Derived.Test.YtnifhfjhchbfnamWalkIn
namespace Go.Proofs.Ytnifhfjhchbfnam
open Go.RowKit
set_option linter.unusedVariables false
set_option maxRecDepth 20000

end Go.Proofs.Ytnifhfjhchbfnam
