/- . -/
import Derived.Test.YtdjifickdcnacaaDoorNMarkSpecA
import Derived.Shelf.Strconv.Itoa4
import Derived.Lib.SmallJoins
import Derived.Lib.ItoaMem
import Derived.Lib.AppendIntMem
namespace Go.Proofs.YtdjifickdcnacaaDoor
open Go.Shelf Go.RowKit
set_option linter.unusedVariables false
set_option maxRecDepth 20000
def Tryd.lays173_ren : Go.Shelf.Ren := ⟨fun | 173 => 48 | 246 => 98 | 283 => 130 | 284 => 131 | 285 => 132 | 286 => 133 | 129 => 155 | 317 => 154 | 318 => 156 | 319 => 157 | 320 => 158 | 337 => 173 | 338 => 174 | n => n,fun | 2 => 2 | 3 => 3 | 9 => 9 | 4 => 4 | 171 => 161 | 0 => 0 | 53 => 162 | 37 => 22 | 5 => 5 | 173 => 165 | 212 => 196 | 51 => 197 | 20 => 20 | 213 => 198 | 46 => 64 | 232 => 223 | 233 => 224 | n => n,fun | 17 => 7 | 18 => 11 | 19 => 12 | n => n⟩
theorem Tryd.lays173 : Go.Proofs.LaysM.n173 Tryd.prog Tryd.lays173_ren := {
 mixed := by kernel_rfl
 f129 := Tryd.func155.trans (congrArg some (by kernel_rfl))
 f173 := Tryd.func48.trans (congrArg some (by kernel_rfl))
 f246 := Tryd.func98.trans (congrArg some (by kernel_rfl))
 f283 := Tryd.func130.trans (congrArg some (by kernel_rfl))
 f284 := Tryd.func131.trans (congrArg some (by kernel_rfl))
 f285 := Tryd.func132.trans (congrArg some (by kernel_rfl))
 f286 := Tryd.func133.trans (congrArg some (by kernel_rfl))
 f317 := Tryd.func154.trans (congrArg some (by kernel_rfl))
 f318 := Tryd.func156.trans (congrArg some (by kernel_rfl))
 f319 := Tryd.func157.trans (congrArg some (by kernel_rfl))
 f320 := Tryd.func158.trans (congrArg some (by kernel_rfl))
 f337 := Tryd.func173.trans (congrArg some (by kernel_rfl))
 f338 := Tryd.func174.trans (congrArg some (by kernel_rfl))
 t0 := Tryd.underlying0
 a0 := Tryd.isAgg0
 z0 := Tryd.sizeOf0
 v0 := Tryd.zeroValue0
 t2 := Tryd.underlying2
 a2 := Tryd.isAgg2
 z2 := Tryd.sizeOf2
 v2 := Tryd.zeroValue2
 t3 := Tryd.underlying3
 a3 := Tryd.isAgg3
 z3 := Tryd.sizeOf3
 v3 := Tryd.zeroValue3
 t4 := Tryd.underlying4
 a4 := Tryd.isAgg4
 z4 := Tryd.sizeOf4
 v4 := Tryd.zeroValue4
 t5 := Tryd.underlying5
 a5 := Tryd.isAgg5
 z5 := Tryd.sizeOf5
 v5 := Tryd.zeroValue5
 t9 := Tryd.underlying9
 a9 := Tryd.isAgg9
 z9 := Tryd.sizeOf9
 v9 := Tryd.zeroValue9
 t20 := Tryd.underlying20
 a20 := Tryd.isAgg20
 z20 := Tryd.sizeOf20
 v20 := Tryd.zeroValue20
 t37 := Tryd.underlying22
 a37 := Tryd.isAgg22
 z37 := Tryd.sizeOf22
 v37 := Tryd.zeroValue22
 t46 := Tryd.underlying64
 a46 := Tryd.isAgg64
 z46 := Tryd.sizeOf64
 v46 := Tryd.zeroValue64
 t51 := Tryd.underlying197
 a51 := Tryd.isAgg197
 z51 := Tryd.sizeOf197
 v51 := Tryd.zeroValue197
 t53 := Tryd.underlying162
 a53 := Tryd.isAgg162
 z53 := Tryd.sizeOf162
 v53 := Tryd.zeroValue162
 t171 := Tryd.underlying161
 a171 := Tryd.isAgg161
 z171 := Tryd.sizeOf161
 v171 := Tryd.zeroValue161
 t173 := Tryd.underlying165
 a173 := Tryd.isAgg165
 z173 := Tryd.sizeOf165
 v173 := Tryd.zeroValue165
 t212 := Tryd.underlying196
 a212 := Tryd.isAgg196
 z212 := Tryd.sizeOf196
 v212 := Tryd.zeroValue196
 t213 := Tryd.underlying198
 a213 := Tryd.isAgg198
 z213 := Tryd.sizeOf198
 t232 := Tryd.underlying223
 a232 := Tryd.isAgg223
 z232 := Tryd.sizeOf223
 v232 := Tryd.zeroValue223
 t233 := Tryd.underlying224
 a233 := Tryd.isAgg224
 z233 := Tryd.sizeOf224
 v233 := Tryd.zeroValue224
 g17 := by kernel_rfl
 g18 := by kernel_rfl
 g19 := by kernel_rfl
 i0 := by kernel_rfl
 i2 := by kernel_rfl
 i3 := by kernel_rfl
 i4 := by kernel_rfl
 i5 := by kernel_rfl
 i9 := by kernel_rfl
 i20 := by kernel_rfl
 i37 := by kernel_rfl
 i46 := by kernel_rfl
 i51 := by kernel_rfl
 i53 := by kernel_rfl
 i171 := by kernel_rfl
 i173 := by kernel_rfl
 i212 := by kernel_rfl
 i232 := by kernel_rfl
 i233 := by kernel_rfl
 m17 := by kernel_rfl
 m18 := by kernel_rfl
 m19 := by kernel_rfl }
def Pow (w : World) : Prop := Lib.TabIs Tryd.prog w "internal/strconv.uint64pow10" .u64 Lib.pow10Tab
theorem pow_named : Tryd.prog.globalNamed "internal/strconv.uint64pow10" = some 7 := by kernel_rfl
theorem Pow.here {w w' : World} (h : Pow w) (hb : Below w.heap.size w w') : Pow w' := Joins.tab_stays pow_named h hb (Nat.le_refl _)
theorem fmt_any (n : Nat) (hn : n <= 1000000) (w : World) (hP : Pow w) :
  Calls Tryd.prog 48 #[.int .i64 (n : Int),.int .i64 10] w fun e w' => e = .returned (.string (mkB (Lib.decDigits n))) ∧ Below w.heap.size w w' := by
 have h : Calls Tryd.prog 48 #[.int .i64 (n : Int),.int .i64 10] w fun e w' => e = .returned (.string ⟨(Lib.itoa (n : Int)).toArray⟩) ∧ ∃ k os,w' = Go.Sort.grow (w.drewN k) os := Any.strconv_FormatInt_10 Tryd.lays173 (n : Int) (by omega) (by omega) w hP
 refine h.mono ?_
 rintro e w' ⟨rfl,k,os,rfl⟩
 refine ⟨?_,Lib.below_grow _ w (Nat.le_refl _) k os⟩
 rw [Lib.itoa_nonneg]
 rfl
end Go.Proofs.YtdjifickdcnacaaDoor
