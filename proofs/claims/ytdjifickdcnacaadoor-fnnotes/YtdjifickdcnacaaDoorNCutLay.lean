/- . -/
import Derived.Test.YtdjifickdcnacaaDoorChecked
import Derived.Shelf.Strings.Cut
import Derived.Shelf.LaysM
namespace Go.Proofs.YtdjifickdcnacaaDoor
open Go.Shelf Go.RowKit
set_option linter.unusedVariables false
set_option maxRecDepth 20000
def Tryd.lays145_ren : Go.Shelf.Ren := ⟨fun | 145 => 104 | 220 => 138 | 219 => 162 | 217 => 175 | 225 => 176 | 224 => 177 | 267 => 178 | 266 => 186 | 314 => 187 | n => n,fun | 9 => 9 | 4 => 4 | 59 => 123 | 3 => 3 | 5 => 5 | 46 => 64 | 146 => 225 | 51 => 197 | n => n,fun | 1 => 8 | n => n⟩
theorem Tryd.lays145 : Go.Proofs.Lays.n145 Tryd.prog Tryd.lays145_ren := {
 mixed := by kernel_rfl
 f145 := Tryd.func104.trans (congrArg some (by kernel_rfl))
 f217 := Tryd.func175.trans (congrArg some (by kernel_rfl))
 f219 := Tryd.func162.trans (congrArg some (by kernel_rfl))
 f220 := Tryd.func138.trans (congrArg some (by kernel_rfl))
 f224 := Tryd.func177.trans (congrArg some (by kernel_rfl))
 f225 := Tryd.func176.trans (congrArg some (by kernel_rfl))
 f266 := Tryd.func186.trans (congrArg some (by kernel_rfl))
 f267 := Tryd.func178.trans (congrArg some (by kernel_rfl))
 f314 := Tryd.func187.trans (congrArg some (by kernel_rfl))
 t3 := Tryd.underlying3
 a3 := Tryd.isAgg3
 z3 := Tryd.sizeOf3
 v3 := Tryd.zeroValue3
 t4 := Tryd.underlying4
 a4 := Tryd.isAgg4
 z4 := Tryd.sizeOf4
 v4 := Tryd.zeroValue4
 t5 := Tryd.underlying5
 a5 := Tryd.isAgg5
 z5 := Tryd.sizeOf5
 v5 := Tryd.zeroValue5
 t9 := Tryd.underlying9
 a9 := Tryd.isAgg9
 z9 := Tryd.sizeOf9
 v9 := Tryd.zeroValue9
 t46 := Tryd.underlying64
 a46 := Tryd.isAgg64
 z46 := Tryd.sizeOf64
 v46 := Tryd.zeroValue64
 t51 := Tryd.underlying197
 a51 := Tryd.isAgg197
 z51 := Tryd.sizeOf197
 v51 := Tryd.zeroValue197
 t59 := Tryd.underlying123
 a59 := Tryd.isAgg123
 z59 := Tryd.sizeOf123
 v59 := Tryd.zeroValue123
 t146 := Tryd.underlying225
 a146 := Tryd.isAgg225
 z146 := Tryd.sizeOf225
 v146 := Tryd.zeroValue225
 g1 := by kernel_rfl }
def Tryd.laysM145_ren : Go.Shelf.Ren := ⟨fun | 145 => 104 | 220 => 138 | 219 => 162 | 217 => 175 | 225 => 176 | 224 => 177 | 267 => 178 | 266 => 186 | 314 => 187 | n => n,fun | 9 => 9 | 4 => 4 | 59 => 123 | 3 => 3 | 5 => 5 | 46 => 64 | 146 => 225 | 51 => 197 | n => n,fun | 1 => 8 | n => n⟩
theorem Tryd.laysM145 : Go.Proofs.LaysM.n145 Tryd.prog Tryd.laysM145_ren := {
 mixed := by kernel_rfl
 f145 := Tryd.func104.trans (congrArg some (by kernel_rfl))
 f217 := Tryd.func175.trans (congrArg some (by kernel_rfl))
 f219 := Tryd.func162.trans (congrArg some (by kernel_rfl))
 f220 := Tryd.func138.trans (congrArg some (by kernel_rfl))
 f224 := Tryd.func177.trans (congrArg some (by kernel_rfl))
 f225 := Tryd.func176.trans (congrArg some (by kernel_rfl))
 f266 := Tryd.func186.trans (congrArg some (by kernel_rfl))
 f267 := Tryd.func178.trans (congrArg some (by kernel_rfl))
 f314 := Tryd.func187.trans (congrArg some (by kernel_rfl))
 t3 := Tryd.underlying3
 a3 := Tryd.isAgg3
 z3 := Tryd.sizeOf3
 v3 := Tryd.zeroValue3
 t4 := Tryd.underlying4
 a4 := Tryd.isAgg4
 z4 := Tryd.sizeOf4
 v4 := Tryd.zeroValue4
 t5 := Tryd.underlying5
 a5 := Tryd.isAgg5
 z5 := Tryd.sizeOf5
 v5 := Tryd.zeroValue5
 t9 := Tryd.underlying9
 a9 := Tryd.isAgg9
 z9 := Tryd.sizeOf9
 v9 := Tryd.zeroValue9
 t46 := Tryd.underlying64
 a46 := Tryd.isAgg64
 z46 := Tryd.sizeOf64
 v46 := Tryd.zeroValue64
 t51 := Tryd.underlying197
 a51 := Tryd.isAgg197
 z51 := Tryd.sizeOf197
 v51 := Tryd.zeroValue197
 t59 := Tryd.underlying123
 a59 := Tryd.isAgg123
 z59 := Tryd.sizeOf123
 v59 := Tryd.zeroValue123
 t146 := Tryd.underlying225
 a146 := Tryd.isAgg225
 z146 := Tryd.sizeOf225
 v146 := Tryd.zeroValue225
 g1 := by kernel_rfl
 i3 := by kernel_rfl
 i4 := by kernel_rfl
 i5 := by kernel_rfl
 i9 := by kernel_rfl
 i46 := by kernel_rfl
 i51 := by kernel_rfl
 i59 := by kernel_rfl
 i146 := by kernel_rfl
 m1 := by kernel_rfl
 s1_3 := fun w h => Go.Proofs.cell_of_shapedOpen_int (zero := #[.int .i64 0]) (t := 3) h (of_decide_eq_true (by kernel_rfl)) (by kernel_rfl) rfl (by kernel_rfl) (by kernel_rfl) Tryd.underlying3 }
end Go.Proofs.YtdjifickdcnacaaDoor
