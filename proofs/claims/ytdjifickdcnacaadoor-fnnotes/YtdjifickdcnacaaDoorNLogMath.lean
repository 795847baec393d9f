/- . -/
import Derived.Test.YtdjifickdcnacaaDoorNTextBase
import Derived.Test.YtdjifickdcnacaaDoorNInfo
namespace Go.Proofs.YtdjifickdcnacaaDoor
open Go.RowKit
set_option linter.unusedVariables false
def shortAll (ts : List ByteArray) : Nat -> Bool
 | 0 => true
 | k + 1 => shortAll ts k && decide ((ts.getD k ByteArray.empty).size <= 24)
theorem shortAll_no {ts : List ByteArray} {k : Nat} (h : shortAll ts k = false) : ∀ d,shortAll ts (k + d) = false
 | 0 => h
 | d + 1 => by
  show shortAll ts ((k + d) + 1) = false
  unfold shortAll
  rw [shortAll_no h d]; rfl
def valuesOk (ts : List ByteArray) : Bool := decide (ts.length <= 64) && shortAll ts ts.length
end Go.Proofs.YtdjifickdcnacaaDoor
