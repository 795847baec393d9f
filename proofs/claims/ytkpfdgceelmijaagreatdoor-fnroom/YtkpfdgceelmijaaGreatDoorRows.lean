/-
  NARROWER THAN 'FOR EVERY INPUT', by the rows' own cells (each row's printed sentence says how): FnRoom: ifaces, laid.
  DERIVED. THE GIVEN ROWS OF THIS SEAT. 1 by the template 'for every input the law returns true; each argument reads behind the call as it read before'; 0 by the template 'total and deterministic' (their statements: YtkpfdgceelmijaaGreatDoorTotals.lean).
  GIVEN WITH THE SEED: the statements are not yours to turn. If you find one false, say at which input.
  Laid BY PROGRAM, IN A SANDBOX (cutbox-rows.mjs): the forced cells as the released guide's own fill.sh prints them over the translation 1d927ae675bb8235… (all of the seat's roots in one cut). By AI agents, Wed Nov 11 2026. No macro, syntax, notation, axiom, sorry.
-/
import Derived.Test.YtkpfdgceelmijaaGreatDoorChecked
import GoSem.Claim
import GoSem.ClaimJoined
import GoSem.ClaimMapViews
import Derived.JoinedTies
import Derived.KernelRfl
namespace Go.Proofs.YtkpfdgceelmijaaGreatDoor
/- THE CELL 'sum', in the pinned program and in every row, IS THE sha256 OF THE DUMP (.gsa) THAT YtkpfdgceelmijaaGreatDoorProg.lean LOADS. Nothing in Lean hashes anything: it is a label: what it is worth is what the hold of that sum in a sandbox is worth. -/
noncomputable def Tryz.pinned : Pinned := { name := "ytkpfdgceelmijaagreatdoor", sum := "1d927ae675bb82358ac7e3dd876f5caff52c57d125c5264e65e0666952165adb", checked := Tryz.checked }
namespace Rows
def none {H : Type} : Left H := { results := [], args := [] }

/- WHAT THE LISTED PACKAGE-LEVEL VARIABLES READ AS WHEN THE CALL BEGINS. Each datum BY PROGRAM (the guide's laid-datum.mjs) off the statement by which the dump's own 'gosem.cut.vars' lays the variable. In a bare row this is a premise. The card (YtkpfdgceelmijaaGreatDoorCards.lean) ties it to the program's text. -/
def laid_errors_errorType {H : Type} : DataW H := .iface "internal/reflectlite.rtype" (.agg [.ptr (.lit (.string [101, 114, 114, 111, 114]))])
def laid_loop_example_g00223_impl_dataPlaces {H : Type} : DataW H := .agg [.lit (.int .i64 3), .lit (.int .i64 5), .lit (.int .i64 6), .lit (.int .i64 7), .lit (.int .i64 9), .lit (.int .i64 10), .lit (.int .i64 11), .lit (.int .i64 12)]
def laid_loop_example_g00223_impl_errBlank {H : Type} : DataW H := .iface "*errors.errorString" (.ptr (.agg [.lit (.string [110, 111, 116, 104, 105, 110, 103, 32, 108, 105, 101, 115, 32, 116, 104, 101, 114, 101])]))
def laid_loop_example_g00223_impl_errLost {H : Type} : DataW H := .iface "*errors.errorString" (.ptr (.agg [.lit (.string [97, 32, 119, 111, 114, 100, 32, 99, 97, 110, 39, 116, 32, 98, 101, 32, 104, 101, 97, 108, 101, 100])]))
def laid_loop_example_g00223_impl_errSize {H : Type} : DataW H := .iface "*errors.errorString" (.ptr (.agg [.lit (.string [105, 116, 32, 104, 97, 115, 32, 110, 111, 116, 32, 97, 115, 32, 109, 97, 110, 121, 32, 98, 121, 116, 101, 115, 32, 97, 115, 32, 105, 116, 32, 116, 101, 108, 108, 115])]))
def laid_loop_example_g00223_impl_errCheck {H : Type} : DataW H := .iface "*errors.errorString" (.ptr (.agg [.lit (.string [105, 116, 115, 32, 99, 104, 101, 99, 107, 32, 105, 115, 32, 110, 111, 116, 32, 114, 105, 103, 104, 116])]))
def laid_loop_example_g00223_impl_errFields {H : Type} : DataW H := .iface "*errors.errorString" (.ptr (.agg [.lit (.string [119, 104, 97, 116, 32, 105, 116, 32, 116, 101, 108, 108, 115, 32, 105, 115, 32, 110, 111, 32, 112, 97, 103, 101])]))
def laid_loop_example_g00223_impl_errNoRoom {H : Type} : DataW H := .iface "*errors.errorString" (.ptr (.agg [.lit (.string [116, 104, 101, 114, 101, 32, 105, 115, 32, 110, 111, 32, 114, 111, 111, 109])]))

/-- 'laws.FnRoom': WHATEVER THE INPUT: true; the input reads as it did. -/
def fnRoomSpec : ChangeSpec := { name := "fnRoom", vars := ["loop.example/g00223/impl.errBlank", "loop.example/g00223/impl.errSize", "loop.example/g00223/impl.errLost", "loop.example/g00223/impl.dataPlaces", "loop.example/g00223/impl.errCheck", "loop.example/g00223/impl.errFields", "loop.example/g00223/impl.errNoRoom"], fn := fun _ => fun
  | [d, g1, g2, g3, g4, g5, g6, g7] => { results := [.lit (.bool true)], args := [d], vars := [g1, g2, g3, g4, g5, g6, g7] }
  | _ => none }
def fnRoomRow : OpenClaim := { program := "ytkpfdgceelmijaagreatdoor", sum := "1d927ae675bb82358ac7e3dd876f5caff52c57d125c5264e65e0666952165adb", func := "loop.example/g00223/laws.FnRoom", spec := "fnRoom", inPlace := ["internal/reflectlite.TypeOf", "internal/reflectlite.ValueOf", "(internal/reflectlite.Value).Type", "(internal/reflectlite.Value).IsNil", "(internal/reflectlite.Value).Elem", "(internal/reflectlite.Value).Set"], unfollowed := true, recurses := true, named := ["loop.example/g00223/impl.errBlank", "loop.example/g00223/impl.errSize", "loop.example/g00223/impl.errLost", "loop.example/g00223/impl.dataPlaces", "loop.example/g00223/impl.errCheck", "loop.example/g00223/impl.errFields", "errors.errorType", "loop.example/g00223/impl.errNoRoom"], ifaces := true, apart := false, laid := [("errors.errorType", laid_errors_errorType), ("loop.example/g00223/impl.dataPlaces", laid_loop_example_g00223_impl_dataPlaces), ("loop.example/g00223/impl.errBlank", laid_loop_example_g00223_impl_errBlank), ("loop.example/g00223/impl.errLost", laid_loop_example_g00223_impl_errLost), ("loop.example/g00223/impl.errSize", laid_loop_example_g00223_impl_errSize), ("loop.example/g00223/impl.errCheck", laid_loop_example_g00223_impl_errCheck), ("loop.example/g00223/impl.errFields", laid_loop_example_g00223_impl_errFields), ("loop.example/g00223/impl.errNoRoom", laid_loop_example_g00223_impl_errNoRoom)] }
def FnRoomSaid : Prop := fnRoomRow.holds Tryz.pinned (OpenSpec.ofChange fnRoomSpec)

/-- ITS FALSE NEIGHBOUR: 'it returns false'. Refute it at one input. -/
def fnRoomWrong : ChangeSpec := { name := "fnRoom", vars := ["loop.example/g00223/impl.errBlank", "loop.example/g00223/impl.errSize", "loop.example/g00223/impl.errLost", "loop.example/g00223/impl.dataPlaces", "loop.example/g00223/impl.errCheck", "loop.example/g00223/impl.errFields", "loop.example/g00223/impl.errNoRoom"], fn := fun _ => fun
  | [d, g1, g2, g3, g4, g5, g6, g7] => { results := [.lit (.bool false)], args := [d], vars := [g1, g2, g3, g4, g5, g6, g7] }
  | _ => none }
def FnRoomWrongFalsely : Prop := fnRoomRow.holds Tryz.pinned (OpenSpec.ofChange fnRoomWrong)

/- THE SECOND FORM. 'bulk': how many values and letters a reading holds, each counted each time it is reached (what is shared counts as often as it is met; a slice's spare places count too). A statement '..UptoSaid' is the law's where the arguments, and the package variables that the reading takes, are together of bulk at most 1048576: NARROWER than '..Said'. Prove '..Said' where nothing that the law and all that it calls make is longer than what came in: it says more and counts as full. Else prove '..UptoSaid'. A law counts once. -/
mutual
def uptoBulk {H : Type} : DataW H → Nat
  | .lit (.string bytes) => bytes.length + 1
  | .lit _ => 1
  | .nil => 1
  | .ptr d => uptoBulk d + 1
  | .slice elems spare => uptoBulkAll elems + uptoBulkAll spare + 1
  | .agg parts => uptoBulkAll parts + 1
  | .iface _ d => uptoBulk d + 1
  | .map entries => uptoBulkEntries entries + 1
  | .held _ => 1
def uptoBulkAll {H : Type} : List (DataW H) → Nat
  | [] => 0
  | d :: r => uptoBulk d + uptoBulkAll r
def uptoBulkEntries {H : Type} : List (Lit × DataW H) → Nat
  | [] => 0
  | x :: r => uptoBulkEntry x + uptoBulkEntries r
def uptoBulkEntry {H : Type} : Lit × DataW H → Nat
  | (.string bytes, d) => bytes.length + uptoBulk d + 1
  | (_, d) => uptoBulk d + 1
 end
def uptoSmall : (H : Type) → List (DataW H) → Bool := fun _ ds => decide (uptoBulkAll ds ≤ 1048576)
def OpenSpec.upto (s : _root_.Go.ChangeSpec) : _root_.Go.OpenSpec := { _root_.Go.OpenSpec.ofChange s with cond := some uptoSmall }

/-- 'laws.FnRoom', WHERE WHAT IT READS IS OF BULK AT MOST 1048576: true; the input reads as it did. -/
def fnRoomUptoRow : OpenClaim := { program := "ytkpfdgceelmijaagreatdoor", sum := "1d927ae675bb82358ac7e3dd876f5caff52c57d125c5264e65e0666952165adb", func := "loop.example/g00223/laws.FnRoom", spec := "fnRoom", inPlace := ["internal/reflectlite.TypeOf", "internal/reflectlite.ValueOf", "(internal/reflectlite.Value).Type", "(internal/reflectlite.Value).IsNil", "(internal/reflectlite.Value).Elem", "(internal/reflectlite.Value).Set"], unfollowed := true, recurses := true, named := ["loop.example/g00223/impl.errBlank", "loop.example/g00223/impl.errSize", "loop.example/g00223/impl.errLost", "loop.example/g00223/impl.dataPlaces", "loop.example/g00223/impl.errCheck", "loop.example/g00223/impl.errFields", "errors.errorType", "loop.example/g00223/impl.errNoRoom"], ifaces := true, apart := false, laid := [("errors.errorType", laid_errors_errorType), ("loop.example/g00223/impl.dataPlaces", laid_loop_example_g00223_impl_dataPlaces), ("loop.example/g00223/impl.errBlank", laid_loop_example_g00223_impl_errBlank), ("loop.example/g00223/impl.errLost", laid_loop_example_g00223_impl_errLost), ("loop.example/g00223/impl.errSize", laid_loop_example_g00223_impl_errSize), ("loop.example/g00223/impl.errCheck", laid_loop_example_g00223_impl_errCheck), ("loop.example/g00223/impl.errFields", laid_loop_example_g00223_impl_errFields), ("loop.example/g00223/impl.errNoRoom", laid_loop_example_g00223_impl_errNoRoom)], narrowed := true }
def FnRoomUptoSaid : Prop := fnRoomUptoRow.holds Tryz.pinned (OpenSpec.upto fnRoomSpec)

end Rows
end Go.Proofs.YtkpfdgceelmijaaGreatDoor
