/- Several texts in one: Info, WalkIn, SumSpec, FieldSpec, HamSpec, HamSpec2, OctBase. -/
import Derived.Test.YtdjifickdcnacaaDoorRows
import Derived.Test.YtdjifickdcnacaaDoorNBase
import Derived.Deep.QuietTactic
import Derived.BigQuiet
import Derived.OwnWalk
import Derived.Laws.BitsAllLaws
section
namespace Go.Proofs.YtdjifickdcnacaaDoor
open Go.RowKit
theorem Tryd.infoI64 : (Tryd.prog.info? 2).map (fun i => (i.zero,i.size,i.bytes)) = some (some (.int .i64 0),1,8) := by kernel_rfl
end Go.Proofs.YtdjifickdcnacaaDoor
end

section
namespace Go.Proofs.YtdjifickdcnacaaDoor
open Go.RowKit
set_option linter.unusedVariables false
set_option maxRecDepth 20000
set_option maxHeartbeats 400000 in
theorem l1In_any (x lo hi : Int) (w : World) :
  Calls Tryd.prog 59 #[.int .i64 x,.int .i64 lo,.int .i64 hi] w fun e w' => e = .returned (.bool (inB x lo hi)) ∧ w = w' := by
 by_cases h1 : lo <= x
 ·go_enter Tryd.func59,Tryd.ntmps59
  go_wp2
  go_ret
  exact ⟨by simp [inB,h1],rfl⟩
 ·have h1' : decide (lo <= x) = false := by simpa using h1
  go_enter Tryd.func59,Tryd.ntmps59
  go_wp2
  go_ret
  exact ⟨by simp [inB,h1'],rfl⟩
end Go.Proofs.YtdjifickdcnacaaDoor
end

section
namespace Go.Proofs.YtdjifickdcnacaaDoor
open Go.RowKit
set_option linter.unusedVariables false
set_option maxRecDepth 20000
def elem (x : Int) : Bool := inB x 0 255
end Go.Proofs.YtdjifickdcnacaaDoor
end

section
namespace Go.Proofs.YtdjifickdcnacaaDoor
open Go.RowKit
set_option linter.unusedVariables false
set_option maxRecDepth 20000
end Go.Proofs.YtdjifickdcnacaaDoor
end

section
namespace Go.Proofs.YtdjifickdcnacaaDoor
open Go.RowKit
set_option linter.unusedVariables false
set_option maxRecDepth 20000
end Go.Proofs.YtdjifickdcnacaaDoor
end

section
namespace Go.Proofs.YtdjifickdcnacaaDoor
open Go.RowKit
set_option linter.unusedVariables false
set_option maxRecDepth 20000
def word (x : Int) : Bool := inB x 0 8191
def healedI (x : Int) : Int × Int := if word x = true then Ham.healed x.toNat else (-1,2)
end Go.Proofs.YtdjifickdcnacaaDoor
end

section
namespace Go.Proofs.YtdjifickdcnacaaDoor
open Go.RowKit
set_option linter.unusedVariables false
set_option maxRecDepth 20000
def oct (x0 x1 x2 x3 x4 x5 x6 x7 : Int) : Value := .agg #[.int .i64 x0,.int .i64 x1,.int .i64 x2,.int .i64 x3,.int .i64 x4,.int .i64 x5,.int .i64 x6,.int .i64 x7]
theorem row_zero8 (w : World) (t : Nat) : (w.alloc (.cells #[.int .i64 0,.int .i64 0,.int .i64 0,.int .i64 0,.int .i64 0,.int .i64 0,.int .i64 0,.int .i64 0] t)).rowIs w.heap.size t 8 (cellI []) :=
 World.rowIs_alloc w _ t _ (fun i hi => by
  match i,hi with
  | 0,_ | 1,_ | 2,_ | 3,_ | 4,_ | 5,_ | 6,_ | 7,_ => rfl)
theorem oct_index (x0 x1 x2 x3 x4 x5 x6 x7 : Int) : ∀ k,k < 8 -> ∀ w,(Instr.index 201 (.agg #[.int .i64 x0,.int .i64 x1,.int .i64 x2,.int .i64 x3,.int .i64 x4,.int .i64 x5,.int .i64 x6,.int .i64 x7]) (.int .i64 (k : Nat))).run Tryd.prog w = .ok (.int .i64 ([x0,x1,x2,x3,x4,x5,x6,x7].getD k 0)) w := by
 have e0 : ∀ w,(Instr.index 201 (.agg #[.int .i64 x0,.int .i64 x1,.int .i64 x2,.int .i64 x3,.int .i64 x4,.int .i64 x5,.int .i64 x6,.int .i64 x7]) (.int .i64 0)).run Tryd.prog w = .ok (.int .i64 x0) w := fun _ => by kernel_rfl
 have e1 : ∀ w,(Instr.index 201 (.agg #[.int .i64 x0,.int .i64 x1,.int .i64 x2,.int .i64 x3,.int .i64 x4,.int .i64 x5,.int .i64 x6,.int .i64 x7]) (.int .i64 1)).run Tryd.prog w = .ok (.int .i64 x1) w := fun _ => by kernel_rfl
 have e2 : ∀ w,(Instr.index 201 (.agg #[.int .i64 x0,.int .i64 x1,.int .i64 x2,.int .i64 x3,.int .i64 x4,.int .i64 x5,.int .i64 x6,.int .i64 x7]) (.int .i64 2)).run Tryd.prog w = .ok (.int .i64 x2) w := fun _ => by kernel_rfl
 have e3 : ∀ w,(Instr.index 201 (.agg #[.int .i64 x0,.int .i64 x1,.int .i64 x2,.int .i64 x3,.int .i64 x4,.int .i64 x5,.int .i64 x6,.int .i64 x7]) (.int .i64 3)).run Tryd.prog w = .ok (.int .i64 x3) w := fun _ => by kernel_rfl
 have e4 : ∀ w,(Instr.index 201 (.agg #[.int .i64 x0,.int .i64 x1,.int .i64 x2,.int .i64 x3,.int .i64 x4,.int .i64 x5,.int .i64 x6,.int .i64 x7]) (.int .i64 4)).run Tryd.prog w = .ok (.int .i64 x4) w := fun _ => by kernel_rfl
 have e5 : ∀ w,(Instr.index 201 (.agg #[.int .i64 x0,.int .i64 x1,.int .i64 x2,.int .i64 x3,.int .i64 x4,.int .i64 x5,.int .i64 x6,.int .i64 x7]) (.int .i64 5)).run Tryd.prog w = .ok (.int .i64 x5) w := fun _ => by kernel_rfl
 have e6 : ∀ w,(Instr.index 201 (.agg #[.int .i64 x0,.int .i64 x1,.int .i64 x2,.int .i64 x3,.int .i64 x4,.int .i64 x5,.int .i64 x6,.int .i64 x7]) (.int .i64 6)).run Tryd.prog w = .ok (.int .i64 x6) w := fun _ => by kernel_rfl
 have e7 : ∀ w,(Instr.index 201 (.agg #[.int .i64 x0,.int .i64 x1,.int .i64 x2,.int .i64 x3,.int .i64 x4,.int .i64 x5,.int .i64 x6,.int .i64 x7]) (.int .i64 7)).run Tryd.prog w = .ok (.int .i64 x7) w := fun _ => by kernel_rfl
 intro k hk w
 match k,hk with
 | 0,_ => exact e0 w
 | 1,_ => exact e1 w
 | 2,_ => exact e2 w
 | 3,_ => exact e3 w
 | 4,_ => exact e4 w
 | 5,_ => exact e5 w
 | 6,_ => exact e6 w
 | 7,_ => exact e7 w
end Go.Proofs.YtdjifickdcnacaaDoor
end

