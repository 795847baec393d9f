/- The walks of the two functions that mark a list and look whether the marks are held. -/
import Derived.Test.YtacjaoeghjkhoabWalkA
namespace Go.Proofs.Ytacjaoeghjkhoab
open Go.RowKit
set_option linter.unusedVariables false
set_option maxRecDepth 20000

end Go.Proofs.Ytacjaoeghjkhoab
