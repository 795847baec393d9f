/- . -/
import Derived.Test.YtdjifickdcnacaaDoorNPowLaid
import Derived.Test.YtdjifickdcnacaaDoorNNoteLib
import Derived.Stop.LaidTwo
import Derived.LaidSub
import Derived.LaidMore
namespace Go.Proofs.YtdjifickdcnacaaDoor
open Go.ChangeShapes Go.WideShapes Go.ChangeAt Go.RowKit
set_option maxRecDepth 100000
theorem vnR : Tryd.prog.globalNamed "strconv.ErrRange" = some 10 := by kernel_rfl
theorem vnY : Tryd.prog.globalNamed "strconv.ErrSyntax" = some 9 := by kernel_rfl
theorem vtR : (Tryd.prog.globals[10]?).map (·.type) = some 100 := by kernel_rfl
theorem vtY : (Tryd.prog.globals[9]?).map (·.type) = some 100 := by kernel_rfl
theorem esn_star : ("*errors.errorString" : String) = "*" ++ "errors.errorString" := by decide
theorem esn_row : ∀ u,Tryd.prog.typeName? 3 u = some "*errors.errorString" -> u = 227 := fun u h =>
 typeName_ptr_named (nm := "errors.errorString") (by rw [<- esn_star]; kernel_rfl) (by kernel_rfl) (by decide) u (by rw [<- esn_star]; exact h)
theorem esn_cells : Tryd.prog.cellsOf 229 = 1 := by kernel_rfl
theorem stn_cells : Tryd.prog.cellsOf 9 = 1 := by kernel_rfl
theorem varn_cell {W : World} {n : String} {g : Nat} {v : Value} (hg : Tryd.prog.globalNamed n = some g) (h : W.var? Tryd.prog n = some #[v]) : W.cell? ⟨g,0,none⟩ = some v := by
 simpa using World.var?_cell hg h 0
abbrev noteLaid : List (String × DataW Unit) := [("math/bits.deBruijn32tab",Rows.laid_math_bits_deBruijn32tab),("math/bits.deBruijn64tab",Rows.laid_math_bits_deBruijn64tab),("internal/strconv.uint64pow10",Rows.laid_internal_strconv_uint64pow10),("strconv.ErrRange",Rows.laid_strconv_ErrRange),("strconv.ErrSyntax",Rows.laid_strconv_ErrSyntax)]
theorem env_of_laid {W : World} (h : laidMet Tryd.prog noteLaid W) (hsh : W.ShapedOpen Tryd.prog) : NEnv W := by
 have h2 := laidMet.tail (laidMet.tail h)
 have h3 := laidMet.tail h2
 obtain ⟨aR,aY,_,_,cR,cY,tR,tY,vR,vY,_⟩ := laid_sentinels2 h3 vnR vtR vnY vtY Tryd.underlying100 esn_row Tryd.underlying227 Tryd.underlying229 rfl rfl Tryd.underlying9 esn_cells stn_cells
 exact ⟨Lib.tabIs_of_head (k := .u64) (zs := Lib.pow10Tab) pow_named powType Tryd.underlying196 Tryd.underlying162 powCell powCells h2,⟨_,_,varn_cell vnY vY⟩,⟨_,_,varn_cell vnR vR⟩,Tryd.laysM145.s1_3 W hsh⟩
end Go.Proofs.YtdjifickdcnacaaDoor
