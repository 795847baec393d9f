/- The model's PageAt. -/
import Derived.Test.YtceidhlcbbikcalChipOkS
namespace Go.Proofs.Ytceidhlcbbikcal
open Go.RowKit
set_option linter.unusedVariables false
set_option maxRecDepth 20000

def pageAt (z : Int) (qs : List Sq) (s p : Int) : ByteArray :=
  if chipOk z qs && (inB s 0 ((qs.length : Int) - 1) && inB p 0 (((sqAt qs s.toNat).1.length : Int) - 1)) then (sqAt qs s.toNat).1.getD p.toNat ByteArray.empty else ByteArray.empty

end Go.Proofs.Ytceidhlcbbikcal
