/- A Mark by value. -/
import Derived.Test.YtikgcillllldoaaResCell
namespace Go.Proofs.Ytikgcillllldoaa
open Go.RowKit
set_option linter.unusedVariables false
def markV (e q : Int) (b : Bool) : Value := .agg #[.int .i64 e, .int .i64 q, .bool b]
end Go.Proofs.Ytikgcillllldoaa
