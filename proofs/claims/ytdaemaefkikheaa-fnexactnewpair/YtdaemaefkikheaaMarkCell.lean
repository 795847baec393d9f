/- A Mark by value. -/
import Derived.Test.YtdaemaefkikheaaResCell
namespace Go.Proofs.Ytdaemaefkikheaa
open Go.RowKit
set_option linter.unusedVariables false
def markV (e q : Int) (b : Bool) : Value := .agg #[.int .i64 e, .int .i64 q, .bool b]
end Go.Proofs.Ytdaemaefkikheaa
