/- . -/
import Derived.Test.YtdjifickdcnacaaDoorNFmtShelf
import Derived.Test.YtdjifickdcnacaaDoorCards
import Derived.Test.YtdjifickdcnacaaDoorTie
import Derived.WalkKit
import Derived.ProofKit
import Derived.OpenShut
import Derived.ShutString
import Derived.Deep.DeepHandedRow
import Derived.Deep.DeepWitnessRowRef
import Derived.ChangeVars
import Derived.Lib.LaidTab
import Derived.LaidMore
import Derived.Stop.LaidTwo
namespace Go.Proofs.YtdjifickdcnacaaDoor
open Go.ChangeShapes Go.WideShapes Go.ChangeAt Go.RowKit
set_option maxRecDepth 100000
theorem powType : (Tryd.prog.globals[7]?).map (·.type) = some 196 := by kernel_rfl
theorem powCells : Tryd.prog.cellsOf 196 = 20 := by kernel_rfl
theorem powCell : Tryd.prog.cellsOf 162 = 1 := by kernel_rfl
abbrev powLaid : List (String × DataW Unit) := [("math/bits.deBruijn32tab",Rows.laid_math_bits_deBruijn32tab),("math/bits.deBruijn64tab",Rows.laid_math_bits_deBruijn64tab),("internal/strconv.uint64pow10",Rows.laid_internal_strconv_uint64pow10)]
theorem pow_of_laid {W : World} (h : laidMet Tryd.prog powLaid W) : Pow W :=
 Lib.tabIs_of_head (k := .u64) (zs := Lib.pow10Tab) pow_named powType Tryd.underlying196 Tryd.underlying162 powCell powCells (laidMet.tail (laidMet.tail h))
def tabA (d : DataW Unit) : Array Value := match d with | .agg l => (l.map fun x => match x with | .lit (.int k z) => Value.int k z | _ => Value.bool false).toArray | _ => #[]
def setTab (g : Nat) (cs : Array Value) (h : Array Obj) : Array Obj := h.modify g fun o => match o with | .cells _ t frozen => .cells cs t frozen | o => o
noncomputable def powWorld (os : Os) : World :=
 { World.holding Tryd.prog os ⟨#[],#[],[]⟩ with heap := setTab 12 (tabA Rows.laid_math_bits_deBruijn64tab) (setTab 11 (tabA Rows.laid_math_bits_deBruijn32tab) (setTab 7 (tabA Rows.laid_internal_strconv_uint64pow10) (World.holding Tryd.prog os ⟨#[],#[],[]⟩).heap)) }
end Go.Proofs.YtdjifickdcnacaaDoor
