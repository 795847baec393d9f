/- Octets: the array of eight int64, plainly. -/
import Derived.Test.YtceidhlcbbikcanGreatDoorRows
import Derived.Test.YtceidhlcbbikcanGreatDoorJBase
namespace Go.Proofs.YtceidhlcbbikcanGreatDoor
open Go.RowKit
set_option linter.unusedVariables false
set_option maxRecDepth 20000

def oct (x0 x1 x2 x3 x4 x5 x6 x7 : Int) : Value := .agg #[.int .i64 x0, .int .i64 x1, .int .i64 x2, .int .i64 x3, .int .i64 x4, .int .i64 x5, .int .i64 x6, .int .i64 x7]
theorem row_of_oct (w : World) (t : Nat) (x0 x1 x2 x3 x4 x5 x6 x7 : Int) : (w.alloc (.cells #[.int .i64 x0, .int .i64 x1, .int .i64 x2, .int .i64 x3, .int .i64 x4, .int .i64 x5, .int .i64 x6, .int .i64 x7] t)).rowIs w.heap.size t 8 (cellI [x0, x1, x2, x3, x4, x5, x6, x7]) :=
  World.rowIs_alloc w _ t _ (fun i hi => by
    match i, hi with
    | 0, _ | 1, _ | 2, _ | 3, _ | 4, _ | 5, _ | 6, _ | 7, _ => rfl)

theorem row_of_block {w w' : World} {b t n : Nat} {f : Nat → Value} (h : w.rowIs b t n f) {B : Nat} (hb : Below B w w') (hB : b < B) : w'.rowIs b t n f := h.of_block (hb.block b hB)
theorem row_asideO {w w' : World} {b t n : Nat} {f : Nat → Value} (h : w.rowIs b t n f) {l r : Nat} (hb : Aside l r w w') (hB : b < l ∨ r ≤ b) : w'.rowIs b t n f := h.of_block (hb.block b h.lt hB)
theorem row_zero8 (w : World) (t : Nat) : (w.alloc (.cells #[.int .i64 0, .int .i64 0, .int .i64 0, .int .i64 0, .int .i64 0, .int .i64 0, .int .i64 0, .int .i64 0] t)).rowIs w.heap.size t 8 (cellI []) :=
  World.rowIs_alloc w _ t _ (fun i hi => by
    match i, hi with
    | 0, _ | 1, _ | 2, _ | 3, _ | 4, _ | 5, _ | 6, _ | 7, _ => rfl)

theorem oct_index (x0 x1 x2 x3 x4 x5 x6 x7 : Int) : ∀ k, k < 8 → ∀ w, (Instr.index 240 (.agg #[.int .i64 x0, .int .i64 x1, .int .i64 x2, .int .i64 x3, .int .i64 x4, .int .i64 x5, .int .i64 x6, .int .i64 x7]) (.int .i64 (k : Nat))).run Tryz.prog w = .ok (.int .i64 ([x0, x1, x2, x3, x4, x5, x6, x7].getD k 0)) w := by
  have e0 : ∀ w, (Instr.index 240 (.agg #[.int .i64 x0, .int .i64 x1, .int .i64 x2, .int .i64 x3, .int .i64 x4, .int .i64 x5, .int .i64 x6, .int .i64 x7]) (.int .i64 0)).run Tryz.prog w = .ok (.int .i64 x0) w := fun _ => by kernel_rfl
  have e1 : ∀ w, (Instr.index 240 (.agg #[.int .i64 x0, .int .i64 x1, .int .i64 x2, .int .i64 x3, .int .i64 x4, .int .i64 x5, .int .i64 x6, .int .i64 x7]) (.int .i64 1)).run Tryz.prog w = .ok (.int .i64 x1) w := fun _ => by kernel_rfl
  have e2 : ∀ w, (Instr.index 240 (.agg #[.int .i64 x0, .int .i64 x1, .int .i64 x2, .int .i64 x3, .int .i64 x4, .int .i64 x5, .int .i64 x6, .int .i64 x7]) (.int .i64 2)).run Tryz.prog w = .ok (.int .i64 x2) w := fun _ => by kernel_rfl
  have e3 : ∀ w, (Instr.index 240 (.agg #[.int .i64 x0, .int .i64 x1, .int .i64 x2, .int .i64 x3, .int .i64 x4, .int .i64 x5, .int .i64 x6, .int .i64 x7]) (.int .i64 3)).run Tryz.prog w = .ok (.int .i64 x3) w := fun _ => by kernel_rfl
  have e4 : ∀ w, (Instr.index 240 (.agg #[.int .i64 x0, .int .i64 x1, .int .i64 x2, .int .i64 x3, .int .i64 x4, .int .i64 x5, .int .i64 x6, .int .i64 x7]) (.int .i64 4)).run Tryz.prog w = .ok (.int .i64 x4) w := fun _ => by kernel_rfl
  have e5 : ∀ w, (Instr.index 240 (.agg #[.int .i64 x0, .int .i64 x1, .int .i64 x2, .int .i64 x3, .int .i64 x4, .int .i64 x5, .int .i64 x6, .int .i64 x7]) (.int .i64 5)).run Tryz.prog w = .ok (.int .i64 x5) w := fun _ => by kernel_rfl
  have e6 : ∀ w, (Instr.index 240 (.agg #[.int .i64 x0, .int .i64 x1, .int .i64 x2, .int .i64 x3, .int .i64 x4, .int .i64 x5, .int .i64 x6, .int .i64 x7]) (.int .i64 6)).run Tryz.prog w = .ok (.int .i64 x6) w := fun _ => by kernel_rfl
  have e7 : ∀ w, (Instr.index 240 (.agg #[.int .i64 x0, .int .i64 x1, .int .i64 x2, .int .i64 x3, .int .i64 x4, .int .i64 x5, .int .i64 x6, .int .i64 x7]) (.int .i64 7)).run Tryz.prog w = .ok (.int .i64 x7) w := fun _ => by kernel_rfl
  intro k hk w
  match k, hk with
  | 0, _ => exact e0 w
  | 1, _ => exact e1 w
  | 2, _ => exact e2 w
  | 3, _ => exact e3 w
  | 4, _ => exact e4 w
  | 5, _ => exact e5 w
  | 6, _ => exact e6 w
  | 7, _ => exact e7 w
end Go.Proofs.YtceidhlcbbikcanGreatDoor
