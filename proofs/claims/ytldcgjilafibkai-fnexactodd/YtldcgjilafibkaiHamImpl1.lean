/- The walks of chapter 4's program: the byte of a word, the word of a byte. -/
import Derived.Test.YtldcgjilafibkaiHamImpl0
import Derived.Test.YtldcgjilafibkaiHamTab
namespace Go.Proofs.Ytldcgjilafibkai
open Go.RowKit
set_option linter.unusedVariables false
set_option maxRecDepth 20000

/-- The table's value, read at k. -/
theorem places_index : ∀ k, k < 8 → ∀ w, (Instr.index 43 (.agg #[.int .i64 3, .int .i64 5, .int .i64 6, .int .i64 7, .int .i64 9, .int .i64 10, .int .i64 11, .int .i64 12]) (.int .i64 (k : Nat))).run Try.prog w = .ok (.int .i64 (Ham.place k : Int)) w := by
  have e0 : ∀ w, (Instr.index 43 (.agg #[.int .i64 3, .int .i64 5, .int .i64 6, .int .i64 7, .int .i64 9, .int .i64 10, .int .i64 11, .int .i64 12]) (.int .i64 0)).run Try.prog w = .ok (.int .i64 3) w := fun _ => by kernel_rfl
  have e1 : ∀ w, (Instr.index 43 (.agg #[.int .i64 3, .int .i64 5, .int .i64 6, .int .i64 7, .int .i64 9, .int .i64 10, .int .i64 11, .int .i64 12]) (.int .i64 1)).run Try.prog w = .ok (.int .i64 5) w := fun _ => by kernel_rfl
  have e2 : ∀ w, (Instr.index 43 (.agg #[.int .i64 3, .int .i64 5, .int .i64 6, .int .i64 7, .int .i64 9, .int .i64 10, .int .i64 11, .int .i64 12]) (.int .i64 2)).run Try.prog w = .ok (.int .i64 6) w := fun _ => by kernel_rfl
  have e3 : ∀ w, (Instr.index 43 (.agg #[.int .i64 3, .int .i64 5, .int .i64 6, .int .i64 7, .int .i64 9, .int .i64 10, .int .i64 11, .int .i64 12]) (.int .i64 3)).run Try.prog w = .ok (.int .i64 7) w := fun _ => by kernel_rfl
  have e4 : ∀ w, (Instr.index 43 (.agg #[.int .i64 3, .int .i64 5, .int .i64 6, .int .i64 7, .int .i64 9, .int .i64 10, .int .i64 11, .int .i64 12]) (.int .i64 4)).run Try.prog w = .ok (.int .i64 9) w := fun _ => by kernel_rfl
  have e5 : ∀ w, (Instr.index 43 (.agg #[.int .i64 3, .int .i64 5, .int .i64 6, .int .i64 7, .int .i64 9, .int .i64 10, .int .i64 11, .int .i64 12]) (.int .i64 5)).run Try.prog w = .ok (.int .i64 10) w := fun _ => by kernel_rfl
  have e6 : ∀ w, (Instr.index 43 (.agg #[.int .i64 3, .int .i64 5, .int .i64 6, .int .i64 7, .int .i64 9, .int .i64 10, .int .i64 11, .int .i64 12]) (.int .i64 6)).run Try.prog w = .ok (.int .i64 11) w := fun _ => by kernel_rfl
  have e7 : ∀ w, (Instr.index 43 (.agg #[.int .i64 3, .int .i64 5, .int .i64 6, .int .i64 7, .int .i64 9, .int .i64 10, .int .i64 11, .int .i64 12]) (.int .i64 7)).run Try.prog w = .ok (.int .i64 12) w := fun _ => by kernel_rfl
  intro k hk w
  match k, hk with
  | 0, _ => exact e0 w
  | 1, _ => exact e1 w
  | 2, _ => exact e2 w
  | 3, _ => exact e3 w
  | 4, _ => exact e4 w
  | 5, _ => exact e5 w
  | 6, _ => exact e6 w
  | 7, _ => exact e7 w

end Go.Proofs.Ytldcgjilafibkai
