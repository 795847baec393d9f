/- . -/
import Derived.Test.YtdjifickdcnacaaDoorChecked
import Derived.Shelf.Strings.OnBuilder
namespace Go.Proofs.YtdjifickdcnacaaDoor
open Go.Shelf Go.RowKit
set_option linter.unusedVariables false
set_option maxRecDepth 20000
def Tryd.lays156_ren : Go.Shelf.Ren := ⟨fun | 156 => 51 | 165 => 100 | 166 => 101 | 169 => 102 | 240 => 136 | 241 => 137 | 276 => 160 | 277 => 161 | n => n,fun | 31 => 24 | 9 => 9 | 3 => 3 | 4 => 4 | 0 => 0 | 20 => 20 | 72 => 115 | 76 => 117 | 70 => 113 | 37 => 22 | 75 => 100 | 127 => 169 | 164 => 148 | 5 => 5 | 80 => 119 | n => n,fun | n => n⟩
theorem Tryd.lays156 : Go.Proofs.Lays.n156 Tryd.prog Tryd.lays156_ren := {
 mixed := by kernel_rfl
 f156 := Tryd.func51.trans (congrArg some (by kernel_rfl))
 f165 := Tryd.func100.trans (congrArg some (by kernel_rfl))
 f166 := Tryd.func101.trans (congrArg some (by kernel_rfl))
 f169 := Tryd.func102.trans (congrArg some (by kernel_rfl))
 f240 := Tryd.func136.trans (congrArg some (by kernel_rfl))
 f241 := Tryd.func137.trans (congrArg some (by kernel_rfl))
 f276 := Tryd.func160.trans (congrArg some (by kernel_rfl))
 f277 := Tryd.func161.trans (congrArg some (by kernel_rfl))
 t0 := Tryd.underlying0
 a0 := Tryd.isAgg0
 z0 := Tryd.sizeOf0
 v0 := Tryd.zeroValue0
 t3 := Tryd.underlying3
 a3 := Tryd.isAgg3
 z3 := Tryd.sizeOf3
 v3 := Tryd.zeroValue3
 t4 := Tryd.underlying4
 a4 := Tryd.isAgg4
 z4 := Tryd.sizeOf4
 v4 := Tryd.zeroValue4
 t9 := Tryd.underlying9
 a9 := Tryd.isAgg9
 z9 := Tryd.sizeOf9
 v9 := Tryd.zeroValue9
 t20 := Tryd.underlying20
 a20 := Tryd.isAgg20
 z20 := Tryd.sizeOf20
 v20 := Tryd.zeroValue20
 t31 := Tryd.underlying24
 a31 := Tryd.isAgg24
 z31 := Tryd.sizeOf24
 v31 := Tryd.zeroValue24
 t37 := Tryd.underlying22
 a37 := Tryd.isAgg22
 z37 := Tryd.sizeOf22
 v37 := Tryd.zeroValue22
 t70 := Tryd.underlying113
 a70 := Tryd.isAgg113
 z70 := Tryd.sizeOf113
 v70 := Tryd.zeroValue113
 t72 := Tryd.underlying115
 a72 := Tryd.isAgg115
 z72 := Tryd.sizeOf115
 v72 := Tryd.zeroValue115
 t75 := Tryd.underlying100
 a75 := Tryd.isAgg100
 z75 := Tryd.sizeOf100
 v75 := Tryd.zeroValue100
 t76 := Tryd.underlying117
 a76 := Tryd.isAgg117
 z76 := Tryd.sizeOf117
 v76 := Tryd.zeroValue117
 t127 := Tryd.underlying169
 a127 := Tryd.isAgg169
 z127 := Tryd.sizeOf169
 v127 := Tryd.zeroValue169
 t164 := Tryd.underlying148
 a164 := Tryd.isAgg148
 z164 := Tryd.sizeOf148
 v164 := Tryd.zeroValue148 }
theorem Tryd.Builder_Extra_156 : Builder.Extra Tryd.prog Tryd.lays156_ren := {
 sizeBuilder := by kernel_rfl
 liesBuilder := by kernel_rfl
 t5 := Tryd.underlying5
 a5 := Tryd.isAgg5
 z5 := Tryd.sizeOf5
 v5 := Tryd.zeroValue5
 infoByte := by kernel_rfl
 cellsByte := by kernel_rfl
 sizeByte := by kernel_rfl
 neB5 := by decide }
end Go.Proofs.YtdjifickdcnacaaDoor
