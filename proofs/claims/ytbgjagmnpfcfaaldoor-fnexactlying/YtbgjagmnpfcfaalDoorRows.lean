/-
  NARROWER THAN 'FOR EVERY INPUT', by the rows' own cells (each row's printed sentence says how): FnExactLying: ifaces, laid.
  DERIVED. THE GIVEN ROWS OF THIS SEAT. 1 by the template 'for every input the law returns true; each argument reads behind the call as it read before'; 0 by the template 'total and deterministic' (their statements: YtbgjagmnpfcfaalDoorTotals.lean).
  GIVEN WITH THE SEED: the statements are not yours to turn. If you find one false, say at which input.
  Laid BY PROGRAM, IN A SANDBOX (cutbox-rows.mjs): the forced cells as the released guide's own fill.sh prints them over the translation cef4d3f37977643b… (all of the seat's roots in one cut). By AI agents, Wed Nov 11 2026. No macro, syntax, notation, axiom, sorry.
-/
import Derived.Test.YtbgjagmnpfcfaalDoorChecked
import GoSem.Claim
import GoSem.ClaimJoined
import GoSem.ClaimMapViews
import Derived.JoinedTies
import Derived.KernelRfl
namespace Go.Proofs.YtbgjagmnpfcfaalDoor
/- THE CELL 'sum', in the pinned program and in every row, IS THE sha256 OF THE DUMP (.gsa) THAT YtbgjagmnpfcfaalDoorProg.lean LOADS. Nothing in Lean hashes anything: it is a label: what it is worth is what the hold of that sum in a sandbox is worth. -/
noncomputable def Tryd.pinned : Pinned := { name := "ytbgjagmnpfcfaaldoor", sum := "cef4d3f37977643b925ab6a123ee5f9c00b16d8b101133de485d626826c57105", checked := Tryd.checked }
namespace Rows
def none {H : Type} : Left H := { results := [], args := [] }

/- WHAT THE LISTED PACKAGE-LEVEL VARIABLES READ AS WHEN THE CALL BEGINS. Each datum BY PROGRAM (the guide's laid-datum.mjs) off the statement by which the dump's own 'gosem.cut.vars' lays the variable. In a bare row this is a premise. The card (YtbgjagmnpfcfaalDoorCards.lean) ties it to the program's text. -/
def laid_errors_errorType {H : Type} : DataW H := .iface "internal/reflectlite.rtype" (.agg [.ptr (.lit (.string [101, 114, 114, 111, 114]))])
def laid_loop_example_g00223_impl_dataPlaces {H : Type} : DataW H := .agg [.lit (.int .i64 3), .lit (.int .i64 5), .lit (.int .i64 6), .lit (.int .i64 7), .lit (.int .i64 9), .lit (.int .i64 10), .lit (.int .i64 11), .lit (.int .i64 12)]
def laid_loop_example_g00223_impl_errBlank {H : Type} : DataW H := .iface "*errors.errorString" (.ptr (.agg [.lit (.string [110, 111, 116, 104, 105, 110, 103, 32, 108, 105, 101, 115, 32, 116, 104, 101, 114, 101])]))
def laid_loop_example_g00223_impl_errLost {H : Type} : DataW H := .iface "*errors.errorString" (.ptr (.agg [.lit (.string [97, 32, 119, 111, 114, 100, 32, 99, 97, 110, 39, 116, 32, 98, 101, 32, 104, 101, 97, 108, 101, 100])]))
def laid_loop_example_g00223_impl_errSize {H : Type} : DataW H := .iface "*errors.errorString" (.ptr (.agg [.lit (.string [105, 116, 32, 104, 97, 115, 32, 110, 111, 116, 32, 97, 115, 32, 109, 97, 110, 121, 32, 98, 121, 116, 101, 115, 32, 97, 115, 32, 105, 116, 32, 116, 101, 108, 108, 115])]))
def laid_loop_example_g00223_impl_errCheck {H : Type} : DataW H := .iface "*errors.errorString" (.ptr (.agg [.lit (.string [105, 116, 115, 32, 99, 104, 101, 99, 107, 32, 105, 115, 32, 110, 111, 116, 32, 114, 105, 103, 104, 116])]))
def laid_loop_example_g00223_impl_errFields {H : Type} : DataW H := .iface "*errors.errorString" (.ptr (.agg [.lit (.string [119, 104, 97, 116, 32, 105, 116, 32, 116, 101, 108, 108, 115, 32, 105, 115, 32, 110, 111, 32, 112, 97, 103, 101])]))

/-- 'laws.FnExactLying': WHATEVER THE INPUT: true; the input reads as it did. -/
def fnExactLyingSpec : ChangeSpec := { name := "fnExactLying", vars := ["loop.example/g00223/impl.errBlank", "loop.example/g00223/impl.errSize", "loop.example/g00223/impl.errLost", "loop.example/g00223/impl.dataPlaces", "loop.example/g00223/impl.errCheck", "loop.example/g00223/impl.errFields"], fn := fun _ => fun
  | [d, g1, g2, g3, g4, g5, g6] => { results := [.lit (.bool true)], args := [d], vars := [g1, g2, g3, g4, g5, g6] }
  | _ => none }
def fnExactLyingRow : OpenClaim := { program := "ytbgjagmnpfcfaaldoor", sum := "cef4d3f37977643b925ab6a123ee5f9c00b16d8b101133de485d626826c57105", func := "loop.example/g00223/laws.FnExactLying", spec := "fnExactLying", inPlace := ["internal/reflectlite.TypeOf", "internal/reflectlite.ValueOf", "(internal/reflectlite.Value).Type", "(internal/reflectlite.Value).IsNil", "(internal/reflectlite.Value).Elem", "(internal/reflectlite.Value).Set"], unfollowed := true, recurses := true, named := ["loop.example/g00223/impl.errBlank", "loop.example/g00223/impl.errSize", "loop.example/g00223/impl.errLost", "loop.example/g00223/impl.dataPlaces", "loop.example/g00223/impl.errCheck", "loop.example/g00223/impl.errFields", "errors.errorType"], ifaces := true, apart := false, laid := [("errors.errorType", laid_errors_errorType), ("loop.example/g00223/impl.dataPlaces", laid_loop_example_g00223_impl_dataPlaces), ("loop.example/g00223/impl.errBlank", laid_loop_example_g00223_impl_errBlank), ("loop.example/g00223/impl.errLost", laid_loop_example_g00223_impl_errLost), ("loop.example/g00223/impl.errSize", laid_loop_example_g00223_impl_errSize), ("loop.example/g00223/impl.errCheck", laid_loop_example_g00223_impl_errCheck), ("loop.example/g00223/impl.errFields", laid_loop_example_g00223_impl_errFields)] }
def FnExactLyingSaid : Prop := fnExactLyingRow.holds Tryd.pinned (OpenSpec.ofChange fnExactLyingSpec)

/-- ITS FALSE NEIGHBOUR: 'it returns false'. Refute it at one input. -/
def fnExactLyingWrong : ChangeSpec := { name := "fnExactLying", vars := ["loop.example/g00223/impl.errBlank", "loop.example/g00223/impl.errSize", "loop.example/g00223/impl.errLost", "loop.example/g00223/impl.dataPlaces", "loop.example/g00223/impl.errCheck", "loop.example/g00223/impl.errFields"], fn := fun _ => fun
  | [d, g1, g2, g3, g4, g5, g6] => { results := [.lit (.bool false)], args := [d], vars := [g1, g2, g3, g4, g5, g6] }
  | _ => none }
def FnExactLyingWrongFalsely : Prop := fnExactLyingRow.holds Tryd.pinned (OpenSpec.ofChange fnExactLyingWrong)

/- THE SECOND FORM. 'bulk': how many values and letters a reading holds, each counted each time it is reached (what is shared counts as often as it is met; a slice's spare places count too). A statement '..UptoSaid' is the law's where the arguments, and the package variables that the reading takes, are together of bulk at most 1048576: NARROWER than '..Said'. Prove '..Said' where nothing that the law and all that it calls make is longer than what came in: it says more and counts as full. Else prove '..UptoSaid'. A law counts once. -/
mutual
def uptoBulk {H : Type} : DataW H → Nat
  | .lit (.string bytes) => bytes.length + 1
  | .lit _ => 1
  | .nil => 1
  | .ptr d => uptoBulk d + 1
  | .slice elems spare => uptoBulkAll elems + uptoBulkAll spare + 1
  | .agg parts => uptoBulkAll parts + 1
  | .iface _ d => uptoBulk d + 1
  | .map entries => uptoBulkEntries entries + 1
  | .held _ => 1
def uptoBulkAll {H : Type} : List (DataW H) → Nat
  | [] => 0
  | d :: r => uptoBulk d + uptoBulkAll r
def uptoBulkEntries {H : Type} : List (Lit × DataW H) → Nat
  | [] => 0
  | x :: r => uptoBulkEntry x + uptoBulkEntries r
def uptoBulkEntry {H : Type} : Lit × DataW H → Nat
  | (.string bytes, d) => bytes.length + uptoBulk d + 1
  | (_, d) => uptoBulk d + 1
 end
def uptoSmall : (H : Type) → List (DataW H) → Bool := fun _ ds => decide (uptoBulkAll ds ≤ 1048576)
def OpenSpec.upto (s : _root_.Go.ChangeSpec) : _root_.Go.OpenSpec := { _root_.Go.OpenSpec.ofChange s with cond := some uptoSmall }

/-- 'laws.FnExactLying', WHERE WHAT IT READS IS OF BULK AT MOST 1048576: true; the input reads as it did. -/
def fnExactLyingUptoRow : OpenClaim := { program := "ytbgjagmnpfcfaaldoor", sum := "cef4d3f37977643b925ab6a123ee5f9c00b16d8b101133de485d626826c57105", func := "loop.example/g00223/laws.FnExactLying", spec := "fnExactLying", inPlace := ["internal/reflectlite.TypeOf", "internal/reflectlite.ValueOf", "(internal/reflectlite.Value).Type", "(internal/reflectlite.Value).IsNil", "(internal/reflectlite.Value).Elem", "(internal/reflectlite.Value).Set"], unfollowed := true, recurses := true, named := ["loop.example/g00223/impl.errBlank", "loop.example/g00223/impl.errSize", "loop.example/g00223/impl.errLost", "loop.example/g00223/impl.dataPlaces", "loop.example/g00223/impl.errCheck", "loop.example/g00223/impl.errFields", "errors.errorType"], ifaces := true, apart := false, laid := [("errors.errorType", laid_errors_errorType), ("loop.example/g00223/impl.dataPlaces", laid_loop_example_g00223_impl_dataPlaces), ("loop.example/g00223/impl.errBlank", laid_loop_example_g00223_impl_errBlank), ("loop.example/g00223/impl.errLost", laid_loop_example_g00223_impl_errLost), ("loop.example/g00223/impl.errSize", laid_loop_example_g00223_impl_errSize), ("loop.example/g00223/impl.errCheck", laid_loop_example_g00223_impl_errCheck), ("loop.example/g00223/impl.errFields", laid_loop_example_g00223_impl_errFields)], narrowed := true }
def FnExactLyingUptoSaid : Prop := fnExactLyingUptoRow.holds Tryd.pinned (OpenSpec.upto fnExactLyingSpec)

end Rows
end Go.Proofs.YtbgjagmnpfcfaalDoor
