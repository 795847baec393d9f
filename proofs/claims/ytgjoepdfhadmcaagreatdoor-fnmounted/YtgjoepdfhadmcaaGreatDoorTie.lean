/-
  DERIVED. GIVEN WITH THE SEED: THE PROGRAM's TIES (one call each: nine closed facts by the kernel) AND EACH ROW's TIE, after the 31st guide's Derived/Test/Toyas{Tie, Card}.lean. No idea stands in it: it is a product of the set-up. Laid BY PROGRAM, IN A SANDBOX (cutbox-door.mjs). By AI agents, Wed Nov 11 2026. No macro, syntax, notation, axiom, sorry.
-/
import Derived.Test.YtgjoepdfhadmcaaGreatDoorRows
import Derived.LaidByTextLater
import Derived.SevenTiedAt
import Derived.LaidSub
import Derived.LaidOnce
namespace Go.Proofs.YtgjoepdfhadmcaaGreatDoor
open Go
set_option maxRecDepth 100000
theorem seatTie1 : Tryz.prog.laidByTextLater [("errors.errorType", Rows.laid_errors_errorType), ("loop.example/g00223/impl.dataPlaces", Rows.laid_loop_example_g00223_impl_dataPlaces), ("loop.example/g00223/impl.errBlank", Rows.laid_loop_example_g00223_impl_errBlank), ("loop.example/g00223/impl.errLost", Rows.laid_loop_example_g00223_impl_errLost), ("loop.example/g00223/impl.errSize", Rows.laid_loop_example_g00223_impl_errSize), ("loop.example/g00223/impl.errCheck", Rows.laid_loop_example_g00223_impl_errCheck), ("loop.example/g00223/impl.errFields", Rows.laid_loop_example_g00223_impl_errFields), ("loop.example/g00223/impl.errNoRoom", Rows.laid_loop_example_g00223_impl_errNoRoom)] [.handle, .data, .sentinel, .sentinel, .sentinel, .sentinel, .sentinel, .sentinel] true :=
  Program.laidByTextLater_by_one 135 8 9 (by kernel_rfl) (by kernel_rfl) (by kernel_rfl) (by kernel_rfl) (by kernel_rfl) (by kernel_rfl) (fun _ _ => by kernel_rfl)
theorem noOwnUnsafe : Tryz.pinned.checked.prog.headLifts.contains "ownunsafe" = false := by kernel_rfl
theorem tie : Tryz.prog.laidByTextLater [("errors.errorType", Rows.laid_errors_errorType), ("loop.example/g00223/impl.dataPlaces", Rows.laid_loop_example_g00223_impl_dataPlaces), ("loop.example/g00223/impl.errBlank", Rows.laid_loop_example_g00223_impl_errBlank), ("loop.example/g00223/impl.errLost", Rows.laid_loop_example_g00223_impl_errLost), ("loop.example/g00223/impl.errSize", Rows.laid_loop_example_g00223_impl_errSize), ("loop.example/g00223/impl.errCheck", Rows.laid_loop_example_g00223_impl_errCheck), ("loop.example/g00223/impl.errFields", Rows.laid_loop_example_g00223_impl_errFields), ("loop.example/g00223/impl.errNoRoom", Rows.laid_loop_example_g00223_impl_errNoRoom)] [.handle, .data, .sentinel, .sentinel, .sentinel, .sentinel, .sentinel, .sentinel] true :=
  Program.laidByTextLater.sub seatTie1 ["errors.errorType", "loop.example/g00223/impl.dataPlaces", "loop.example/g00223/impl.errBlank", "loop.example/g00223/impl.errLost", "loop.example/g00223/impl.errSize", "loop.example/g00223/impl.errCheck", "loop.example/g00223/impl.errFields", "loop.example/g00223/impl.errNoRoom"] (by kernel_rfl) (by kernel_rfl)
theorem fnBroken_row_tie : Rows.fnBrokenRow.laidByTextAt .later Tryz.pinned [.handle, .data, .sentinel, .sentinel, .sentinel, .sentinel, .sentinel, .sentinel] true :=
  OpenClaim.laidByTextAt_later rfl rfl tie noOwnUnsafe
theorem fnMounted_row_tie : Rows.fnMountedRow.laidByTextAt .later Tryz.pinned [.handle, .data, .sentinel, .sentinel, .sentinel, .sentinel, .sentinel, .sentinel] true :=
  OpenClaim.laidByTextAt_later rfl rfl tie noOwnUnsafe
theorem fnScrubbed_row_tie : Rows.fnScrubbedRow.laidByTextAt .later Tryz.pinned [.handle, .data, .sentinel, .sentinel, .sentinel, .sentinel, .sentinel, .sentinel] true :=
  OpenClaim.laidByTextAt_later rfl rfl tie noOwnUnsafe
theorem fnCaches_row_tie : Rows.fnCachesRow.laidByTextAt .later Tryz.pinned [.handle, .data, .sentinel, .sentinel, .sentinel, .sentinel, .sentinel, .sentinel] true :=
  OpenClaim.laidByTextAt_later rfl rfl tie noOwnUnsafe
theorem fnFlushed_row_tie : Rows.fnFlushedRow.laidByTextAt .later Tryz.pinned [.handle, .data, .sentinel, .sentinel, .sentinel, .sentinel, .sentinel, .sentinel] true :=
  OpenClaim.laidByTextAt_later rfl rfl tie noOwnUnsafe
theorem fnBrokenUpto_row_tie : Rows.fnBrokenUptoRow.laidByTextAt .later Tryz.pinned [.handle, .data, .sentinel, .sentinel, .sentinel, .sentinel, .sentinel, .sentinel] true :=
  OpenClaim.laidByTextAt_later rfl rfl tie noOwnUnsafe
theorem fnMountedUpto_row_tie : Rows.fnMountedUptoRow.laidByTextAt .later Tryz.pinned [.handle, .data, .sentinel, .sentinel, .sentinel, .sentinel, .sentinel, .sentinel] true :=
  OpenClaim.laidByTextAt_later rfl rfl tie noOwnUnsafe
theorem fnScrubbedUpto_row_tie : Rows.fnScrubbedUptoRow.laidByTextAt .later Tryz.pinned [.handle, .data, .sentinel, .sentinel, .sentinel, .sentinel, .sentinel, .sentinel] true :=
  OpenClaim.laidByTextAt_later rfl rfl tie noOwnUnsafe
theorem fnCachesUpto_row_tie : Rows.fnCachesUptoRow.laidByTextAt .later Tryz.pinned [.handle, .data, .sentinel, .sentinel, .sentinel, .sentinel, .sentinel, .sentinel] true :=
  OpenClaim.laidByTextAt_later rfl rfl tie noOwnUnsafe
theorem fnFlushedUpto_row_tie : Rows.fnFlushedUptoRow.laidByTextAt .later Tryz.pinned [.handle, .data, .sentinel, .sentinel, .sentinel, .sentinel, .sentinel, .sentinel] true :=
  OpenClaim.laidByTextAt_later rfl rfl tie noOwnUnsafe
end Go.Proofs.YtgjoepdfhadmcaaGreatDoor
