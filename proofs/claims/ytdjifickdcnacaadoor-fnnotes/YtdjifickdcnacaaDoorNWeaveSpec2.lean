/- . -/
import Derived.Test.YtdjifickdcnacaaDoorNDrawBase
import Derived.Test.YtdjifickdcnacaaDoorNBase
import Derived.Laws.ResultCell
import Derived.RegionTactic
import Derived.BigRegion
namespace Go.Proofs.YtdjifickdcnacaaDoor
open Go.RowKit
set_option linter.unusedVariables false
set_option maxRecDepth 20000
def woven (s : ByteArray) (d : Int) : ByteArray := if woveOk s d = true then str (Wv.wovenL s.data.toList d.toNat) else ⟨#[]⟩
def unwoven (s : ByteArray) (d : Int) : ByteArray := if woveOk s d = true then str (Wv.unwovenL s.data.toList d.toNat) else ⟨#[]⟩
theorem below_drewN {B : Nat} {a w : World} (h : Below B a w) (k : Nat) : Below B a (w.drewN k) := ⟨h.os,h.tape,h.output,h.size,h.block⟩
end Go.Proofs.YtdjifickdcnacaaDoor
