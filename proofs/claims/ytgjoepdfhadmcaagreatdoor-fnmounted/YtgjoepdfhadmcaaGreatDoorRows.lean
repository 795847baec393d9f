/-
  NARROWER THAN 'FOR EVERY INPUT', by the rows' own cells (each row's printed sentence says how): FnBroken: ifaces, laid · FnMounted: ifaces, laid · FnScrubbed: ifaces, laid · FnCaches: ifaces, laid · FnFlushed: ifaces, laid.
  DERIVED. THE GIVEN ROWS OF THIS SEAT. 5 by the template 'for every input the law returns true; each argument reads behind the call as it read before'; 0 by the template 'total and deterministic' (their statements: YtgjoepdfhadmcaaGreatDoorTotals.lean).
  GIVEN WITH THE SEED: the statements are not yours to turn. If you find one false, say at which input.
  Laid BY PROGRAM, IN A SANDBOX (cutbox-rows.mjs): the forced cells as the released guide's own fill.sh prints them over the translation eeae599ed0bef25f… (all of the seat's roots in one cut). By AI agents, Wed Nov 11 2026. No macro, syntax, notation, axiom, sorry.
-/
import Derived.Test.YtgjoepdfhadmcaaGreatDoorChecked
import GoSem.Claim
import GoSem.ClaimJoined
import GoSem.ClaimMapViews
import Derived.JoinedTies
import Derived.KernelRfl
namespace Go.Proofs.YtgjoepdfhadmcaaGreatDoor
/- THE CELL 'sum', in the pinned program and in every row, IS THE sha256 OF THE DUMP (.gsa) THAT YtgjoepdfhadmcaaGreatDoorProg.lean LOADS. Nothing in Lean hashes anything: it is a label: what it is worth is what the hold of that sum in a sandbox is worth. -/
noncomputable def Tryz.pinned : Pinned := { name := "ytgjoepdfhadmcaagreatdoor", sum := "eeae599ed0bef25ff014561396eae8b6a4c9803ffc0d65d8ed5c51e8b13b6583", checked := Tryz.checked }
namespace Rows
def none {H : Type} : Left H := { results := [], args := [] }

/- WHAT THE LISTED PACKAGE-LEVEL VARIABLES READ AS WHEN THE CALL BEGINS. Each datum BY PROGRAM (the guide's laid-datum.mjs) off the statement by which the dump's own 'gosem.cut.vars' lays the variable. In a bare row this is a premise. The card (YtgjoepdfhadmcaaGreatDoorCards.lean) ties it to the program's text. -/
def laid_errors_errorType {H : Type} : DataW H := .iface "internal/reflectlite.rtype" (.agg [.ptr (.lit (.string [101, 114, 114, 111, 114]))])
def laid_loop_example_g00223_impl_dataPlaces {H : Type} : DataW H := .agg [.lit (.int .i64 3), .lit (.int .i64 5), .lit (.int .i64 6), .lit (.int .i64 7), .lit (.int .i64 9), .lit (.int .i64 10), .lit (.int .i64 11), .lit (.int .i64 12)]
def laid_loop_example_g00223_impl_errBlank {H : Type} : DataW H := .iface "*errors.errorString" (.ptr (.agg [.lit (.string [110, 111, 116, 104, 105, 110, 103, 32, 108, 105, 101, 115, 32, 116, 104, 101, 114, 101])]))
def laid_loop_example_g00223_impl_errLost {H : Type} : DataW H := .iface "*errors.errorString" (.ptr (.agg [.lit (.string [97, 32, 119, 111, 114, 100, 32, 99, 97, 110, 39, 116, 32, 98, 101, 32, 104, 101, 97, 108, 101, 100])]))
def laid_loop_example_g00223_impl_errSize {H : Type} : DataW H := .iface "*errors.errorString" (.ptr (.agg [.lit (.string [105, 116, 32, 104, 97, 115, 32, 110, 111, 116, 32, 97, 115, 32, 109, 97, 110, 121, 32, 98, 121, 116, 101, 115, 32, 97, 115, 32, 105, 116, 32, 116, 101, 108, 108, 115])]))
def laid_loop_example_g00223_impl_errCheck {H : Type} : DataW H := .iface "*errors.errorString" (.ptr (.agg [.lit (.string [105, 116, 115, 32, 99, 104, 101, 99, 107, 32, 105, 115, 32, 110, 111, 116, 32, 114, 105, 103, 104, 116])]))
def laid_loop_example_g00223_impl_errFields {H : Type} : DataW H := .iface "*errors.errorString" (.ptr (.agg [.lit (.string [119, 104, 97, 116, 32, 105, 116, 32, 116, 101, 108, 108, 115, 32, 105, 115, 32, 110, 111, 32, 112, 97, 103, 101])]))
def laid_loop_example_g00223_impl_errNoRoom {H : Type} : DataW H := .iface "*errors.errorString" (.ptr (.agg [.lit (.string [116, 104, 101, 114, 101, 32, 105, 115, 32, 110, 111, 32, 114, 111, 111, 109])]))

/-- 'laws.FnBroken': WHATEVER THE INPUT: true; the input reads as it did. -/
def fnBrokenSpec : ChangeSpec := { name := "fnBroken", vars := ["loop.example/g00223/impl.errBlank", "loop.example/g00223/impl.errSize", "loop.example/g00223/impl.errLost", "loop.example/g00223/impl.dataPlaces", "loop.example/g00223/impl.errCheck", "loop.example/g00223/impl.errFields", "loop.example/g00223/impl.errNoRoom"], fn := fun _ => fun
  | [d, g1, g2, g3, g4, g5, g6, g7] => { results := [.lit (.bool true)], args := [d], vars := [g1, g2, g3, g4, g5, g6, g7] }
  | _ => none }
def fnBrokenRow : OpenClaim := { program := "ytgjoepdfhadmcaagreatdoor", sum := "eeae599ed0bef25ff014561396eae8b6a4c9803ffc0d65d8ed5c51e8b13b6583", func := "loop.example/g00223/laws.FnBroken", spec := "fnBroken", inPlace := ["internal/reflectlite.TypeOf", "internal/reflectlite.ValueOf", "(internal/reflectlite.Value).Type", "(internal/reflectlite.Value).IsNil", "(internal/reflectlite.Value).Elem", "(internal/reflectlite.Value).Set"], unfollowed := true, recurses := true, named := ["loop.example/g00223/impl.errBlank", "loop.example/g00223/impl.errSize", "loop.example/g00223/impl.errLost", "loop.example/g00223/impl.dataPlaces", "loop.example/g00223/impl.errCheck", "loop.example/g00223/impl.errFields", "errors.errorType", "loop.example/g00223/impl.errNoRoom"], ifaces := true, plainKeys := false, apart := false, laid := [("errors.errorType", laid_errors_errorType), ("loop.example/g00223/impl.dataPlaces", laid_loop_example_g00223_impl_dataPlaces), ("loop.example/g00223/impl.errBlank", laid_loop_example_g00223_impl_errBlank), ("loop.example/g00223/impl.errLost", laid_loop_example_g00223_impl_errLost), ("loop.example/g00223/impl.errSize", laid_loop_example_g00223_impl_errSize), ("loop.example/g00223/impl.errCheck", laid_loop_example_g00223_impl_errCheck), ("loop.example/g00223/impl.errFields", laid_loop_example_g00223_impl_errFields), ("loop.example/g00223/impl.errNoRoom", laid_loop_example_g00223_impl_errNoRoom)] }
def FnBrokenSaid : Prop := fnBrokenRow.holds Tryz.pinned (OpenSpec.ofChange fnBrokenSpec)

/-- ITS FALSE NEIGHBOUR: 'it returns false'. Refute it at one input. -/
def fnBrokenWrong : ChangeSpec := { name := "fnBroken", vars := ["loop.example/g00223/impl.errBlank", "loop.example/g00223/impl.errSize", "loop.example/g00223/impl.errLost", "loop.example/g00223/impl.dataPlaces", "loop.example/g00223/impl.errCheck", "loop.example/g00223/impl.errFields", "loop.example/g00223/impl.errNoRoom"], fn := fun _ => fun
  | [d, g1, g2, g3, g4, g5, g6, g7] => { results := [.lit (.bool false)], args := [d], vars := [g1, g2, g3, g4, g5, g6, g7] }
  | _ => none }
def FnBrokenWrongFalsely : Prop := fnBrokenRow.holds Tryz.pinned (OpenSpec.ofChange fnBrokenWrong)

/-- 'laws.FnMounted': WHATEVER THE INPUT: true; the input reads as it did. -/
def fnMountedSpec : ChangeSpec := { name := "fnMounted", vars := ["loop.example/g00223/impl.errBlank", "loop.example/g00223/impl.errSize", "loop.example/g00223/impl.errLost", "loop.example/g00223/impl.dataPlaces", "loop.example/g00223/impl.errCheck", "loop.example/g00223/impl.errFields", "loop.example/g00223/impl.errNoRoom"], fn := fun _ => fun
  | [d, g1, g2, g3, g4, g5, g6, g7] => { results := [.lit (.bool true)], args := [d], vars := [g1, g2, g3, g4, g5, g6, g7] }
  | _ => none }
def fnMountedRow : OpenClaim := { program := "ytgjoepdfhadmcaagreatdoor", sum := "eeae599ed0bef25ff014561396eae8b6a4c9803ffc0d65d8ed5c51e8b13b6583", func := "loop.example/g00223/laws.FnMounted", spec := "fnMounted", inPlace := ["internal/reflectlite.TypeOf", "internal/reflectlite.ValueOf", "(internal/reflectlite.Value).Type", "(internal/reflectlite.Value).IsNil", "(internal/reflectlite.Value).Elem", "(internal/reflectlite.Value).Set"], unfollowed := true, recurses := true, named := ["loop.example/g00223/impl.errBlank", "loop.example/g00223/impl.errSize", "loop.example/g00223/impl.errLost", "loop.example/g00223/impl.dataPlaces", "loop.example/g00223/impl.errCheck", "loop.example/g00223/impl.errFields", "errors.errorType", "loop.example/g00223/impl.errNoRoom"], ifaces := true, plainKeys := false, apart := false, laid := [("errors.errorType", laid_errors_errorType), ("loop.example/g00223/impl.dataPlaces", laid_loop_example_g00223_impl_dataPlaces), ("loop.example/g00223/impl.errBlank", laid_loop_example_g00223_impl_errBlank), ("loop.example/g00223/impl.errLost", laid_loop_example_g00223_impl_errLost), ("loop.example/g00223/impl.errSize", laid_loop_example_g00223_impl_errSize), ("loop.example/g00223/impl.errCheck", laid_loop_example_g00223_impl_errCheck), ("loop.example/g00223/impl.errFields", laid_loop_example_g00223_impl_errFields), ("loop.example/g00223/impl.errNoRoom", laid_loop_example_g00223_impl_errNoRoom)] }
def FnMountedSaid : Prop := fnMountedRow.holds Tryz.pinned (OpenSpec.ofChange fnMountedSpec)

/-- ITS FALSE NEIGHBOUR: 'it returns false'. Refute it at one input. -/
def fnMountedWrong : ChangeSpec := { name := "fnMounted", vars := ["loop.example/g00223/impl.errBlank", "loop.example/g00223/impl.errSize", "loop.example/g00223/impl.errLost", "loop.example/g00223/impl.dataPlaces", "loop.example/g00223/impl.errCheck", "loop.example/g00223/impl.errFields", "loop.example/g00223/impl.errNoRoom"], fn := fun _ => fun
  | [d, g1, g2, g3, g4, g5, g6, g7] => { results := [.lit (.bool false)], args := [d], vars := [g1, g2, g3, g4, g5, g6, g7] }
  | _ => none }
def FnMountedWrongFalsely : Prop := fnMountedRow.holds Tryz.pinned (OpenSpec.ofChange fnMountedWrong)

/-- 'laws.FnScrubbed': WHATEVER THE INPUT: true; the input reads as it did. -/
def fnScrubbedSpec : ChangeSpec := { name := "fnScrubbed", vars := ["loop.example/g00223/impl.errBlank", "loop.example/g00223/impl.errSize", "loop.example/g00223/impl.errLost", "loop.example/g00223/impl.dataPlaces", "loop.example/g00223/impl.errCheck", "loop.example/g00223/impl.errFields", "loop.example/g00223/impl.errNoRoom"], fn := fun _ => fun
  | [d, g1, g2, g3, g4, g5, g6, g7] => { results := [.lit (.bool true)], args := [d], vars := [g1, g2, g3, g4, g5, g6, g7] }
  | _ => none }
def fnScrubbedRow : OpenClaim := { program := "ytgjoepdfhadmcaagreatdoor", sum := "eeae599ed0bef25ff014561396eae8b6a4c9803ffc0d65d8ed5c51e8b13b6583", func := "loop.example/g00223/laws.FnScrubbed", spec := "fnScrubbed", inPlace := ["internal/reflectlite.TypeOf", "internal/reflectlite.ValueOf", "(internal/reflectlite.Value).Type", "(internal/reflectlite.Value).IsNil", "(internal/reflectlite.Value).Elem", "(internal/reflectlite.Value).Set"], unfollowed := true, recurses := true, named := ["loop.example/g00223/impl.errBlank", "loop.example/g00223/impl.errSize", "loop.example/g00223/impl.errLost", "loop.example/g00223/impl.dataPlaces", "loop.example/g00223/impl.errCheck", "loop.example/g00223/impl.errFields", "errors.errorType", "loop.example/g00223/impl.errNoRoom"], ifaces := true, plainKeys := false, apart := false, laid := [("errors.errorType", laid_errors_errorType), ("loop.example/g00223/impl.dataPlaces", laid_loop_example_g00223_impl_dataPlaces), ("loop.example/g00223/impl.errBlank", laid_loop_example_g00223_impl_errBlank), ("loop.example/g00223/impl.errLost", laid_loop_example_g00223_impl_errLost), ("loop.example/g00223/impl.errSize", laid_loop_example_g00223_impl_errSize), ("loop.example/g00223/impl.errCheck", laid_loop_example_g00223_impl_errCheck), ("loop.example/g00223/impl.errFields", laid_loop_example_g00223_impl_errFields), ("loop.example/g00223/impl.errNoRoom", laid_loop_example_g00223_impl_errNoRoom)] }
def FnScrubbedSaid : Prop := fnScrubbedRow.holds Tryz.pinned (OpenSpec.ofChange fnScrubbedSpec)

/-- ITS FALSE NEIGHBOUR: 'it returns false'. Refute it at one input. -/
def fnScrubbedWrong : ChangeSpec := { name := "fnScrubbed", vars := ["loop.example/g00223/impl.errBlank", "loop.example/g00223/impl.errSize", "loop.example/g00223/impl.errLost", "loop.example/g00223/impl.dataPlaces", "loop.example/g00223/impl.errCheck", "loop.example/g00223/impl.errFields", "loop.example/g00223/impl.errNoRoom"], fn := fun _ => fun
  | [d, g1, g2, g3, g4, g5, g6, g7] => { results := [.lit (.bool false)], args := [d], vars := [g1, g2, g3, g4, g5, g6, g7] }
  | _ => none }
def FnScrubbedWrongFalsely : Prop := fnScrubbedRow.holds Tryz.pinned (OpenSpec.ofChange fnScrubbedWrong)

/-- 'laws.FnCaches': WHATEVER THE INPUT: true; the input reads as it did. -/
def fnCachesSpec : ChangeSpec := { name := "fnCaches", vars := ["loop.example/g00223/impl.errBlank", "loop.example/g00223/impl.errSize", "loop.example/g00223/impl.errLost", "loop.example/g00223/impl.dataPlaces", "loop.example/g00223/impl.errCheck", "loop.example/g00223/impl.errFields", "loop.example/g00223/impl.errNoRoom"], fn := fun _ => fun
  | [d, g1, g2, g3, g4, g5, g6, g7] => { results := [.lit (.bool true)], args := [d], vars := [g1, g2, g3, g4, g5, g6, g7] }
  | _ => none }
def fnCachesRow : OpenClaim := { program := "ytgjoepdfhadmcaagreatdoor", sum := "eeae599ed0bef25ff014561396eae8b6a4c9803ffc0d65d8ed5c51e8b13b6583", func := "loop.example/g00223/laws.FnCaches", spec := "fnCaches", inPlace := ["internal/reflectlite.TypeOf", "internal/reflectlite.ValueOf", "(internal/reflectlite.Value).Type", "(internal/reflectlite.Value).IsNil", "(internal/reflectlite.Value).Elem", "(internal/reflectlite.Value).Set"], unfollowed := true, recurses := true, named := ["loop.example/g00223/impl.errBlank", "loop.example/g00223/impl.errSize", "loop.example/g00223/impl.errLost", "loop.example/g00223/impl.dataPlaces", "loop.example/g00223/impl.errCheck", "loop.example/g00223/impl.errFields", "errors.errorType", "loop.example/g00223/impl.errNoRoom"], ifaces := true, plainKeys := false, apart := false, laid := [("errors.errorType", laid_errors_errorType), ("loop.example/g00223/impl.dataPlaces", laid_loop_example_g00223_impl_dataPlaces), ("loop.example/g00223/impl.errBlank", laid_loop_example_g00223_impl_errBlank), ("loop.example/g00223/impl.errLost", laid_loop_example_g00223_impl_errLost), ("loop.example/g00223/impl.errSize", laid_loop_example_g00223_impl_errSize), ("loop.example/g00223/impl.errCheck", laid_loop_example_g00223_impl_errCheck), ("loop.example/g00223/impl.errFields", laid_loop_example_g00223_impl_errFields), ("loop.example/g00223/impl.errNoRoom", laid_loop_example_g00223_impl_errNoRoom)] }
def FnCachesSaid : Prop := fnCachesRow.holds Tryz.pinned (OpenSpec.ofChange fnCachesSpec)

/-- ITS FALSE NEIGHBOUR: 'it returns false'. Refute it at one input. -/
def fnCachesWrong : ChangeSpec := { name := "fnCaches", vars := ["loop.example/g00223/impl.errBlank", "loop.example/g00223/impl.errSize", "loop.example/g00223/impl.errLost", "loop.example/g00223/impl.dataPlaces", "loop.example/g00223/impl.errCheck", "loop.example/g00223/impl.errFields", "loop.example/g00223/impl.errNoRoom"], fn := fun _ => fun
  | [d, g1, g2, g3, g4, g5, g6, g7] => { results := [.lit (.bool false)], args := [d], vars := [g1, g2, g3, g4, g5, g6, g7] }
  | _ => none }
def FnCachesWrongFalsely : Prop := fnCachesRow.holds Tryz.pinned (OpenSpec.ofChange fnCachesWrong)

/-- 'laws.FnFlushed': WHATEVER THE INPUT: true; the input reads as it did. -/
def fnFlushedSpec : ChangeSpec := { name := "fnFlushed", vars := ["loop.example/g00223/impl.errBlank", "loop.example/g00223/impl.errSize", "loop.example/g00223/impl.errLost", "loop.example/g00223/impl.dataPlaces", "loop.example/g00223/impl.errCheck", "loop.example/g00223/impl.errFields", "loop.example/g00223/impl.errNoRoom"], fn := fun _ => fun
  | [d, g1, g2, g3, g4, g5, g6, g7] => { results := [.lit (.bool true)], args := [d], vars := [g1, g2, g3, g4, g5, g6, g7] }
  | _ => none }
def fnFlushedRow : OpenClaim := { program := "ytgjoepdfhadmcaagreatdoor", sum := "eeae599ed0bef25ff014561396eae8b6a4c9803ffc0d65d8ed5c51e8b13b6583", func := "loop.example/g00223/laws.FnFlushed", spec := "fnFlushed", inPlace := ["internal/reflectlite.TypeOf", "internal/reflectlite.ValueOf", "(internal/reflectlite.Value).Type", "(internal/reflectlite.Value).IsNil", "(internal/reflectlite.Value).Elem", "(internal/reflectlite.Value).Set"], unfollowed := true, recurses := true, named := ["loop.example/g00223/impl.errBlank", "loop.example/g00223/impl.errSize", "loop.example/g00223/impl.errLost", "loop.example/g00223/impl.dataPlaces", "loop.example/g00223/impl.errCheck", "loop.example/g00223/impl.errFields", "errors.errorType", "loop.example/g00223/impl.errNoRoom"], ifaces := true, plainKeys := false, apart := false, laid := [("errors.errorType", laid_errors_errorType), ("loop.example/g00223/impl.dataPlaces", laid_loop_example_g00223_impl_dataPlaces), ("loop.example/g00223/impl.errBlank", laid_loop_example_g00223_impl_errBlank), ("loop.example/g00223/impl.errLost", laid_loop_example_g00223_impl_errLost), ("loop.example/g00223/impl.errSize", laid_loop_example_g00223_impl_errSize), ("loop.example/g00223/impl.errCheck", laid_loop_example_g00223_impl_errCheck), ("loop.example/g00223/impl.errFields", laid_loop_example_g00223_impl_errFields), ("loop.example/g00223/impl.errNoRoom", laid_loop_example_g00223_impl_errNoRoom)] }
def FnFlushedSaid : Prop := fnFlushedRow.holds Tryz.pinned (OpenSpec.ofChange fnFlushedSpec)

/-- ITS FALSE NEIGHBOUR: 'it returns false'. Refute it at one input. -/
def fnFlushedWrong : ChangeSpec := { name := "fnFlushed", vars := ["loop.example/g00223/impl.errBlank", "loop.example/g00223/impl.errSize", "loop.example/g00223/impl.errLost", "loop.example/g00223/impl.dataPlaces", "loop.example/g00223/impl.errCheck", "loop.example/g00223/impl.errFields", "loop.example/g00223/impl.errNoRoom"], fn := fun _ => fun
  | [d, g1, g2, g3, g4, g5, g6, g7] => { results := [.lit (.bool false)], args := [d], vars := [g1, g2, g3, g4, g5, g6, g7] }
  | _ => none }
def FnFlushedWrongFalsely : Prop := fnFlushedRow.holds Tryz.pinned (OpenSpec.ofChange fnFlushedWrong)

/- THE SECOND FORM. 'bulk': how many values and letters a reading holds, each counted each time it is reached (what is shared counts as often as it is met; a slice's spare places count too). A statement '..UptoSaid' is the law's where the arguments, and the package variables that the reading takes, are together of bulk at most 1048576: NARROWER than '..Said'. Prove '..Said' where nothing that the law and all that it calls make is longer than what came in: it says more and counts as full. Else prove '..UptoSaid'. A law counts once. -/
mutual
def uptoBulk {H : Type} : DataW H → Nat
  | .lit (.string bytes) => bytes.length + 1
  | .lit _ => 1
  | .nil => 1
  | .ptr d => uptoBulk d + 1
  | .slice elems spare => uptoBulkAll elems + uptoBulkAll spare + 1
  | .agg parts => uptoBulkAll parts + 1
  | .iface _ d => uptoBulk d + 1
  | .map entries => uptoBulkEntries entries + 1
  | .held _ => 1
def uptoBulkAll {H : Type} : List (DataW H) → Nat
  | [] => 0
  | d :: r => uptoBulk d + uptoBulkAll r
def uptoBulkEntries {H : Type} : List (Lit × DataW H) → Nat
  | [] => 0
  | x :: r => uptoBulkEntry x + uptoBulkEntries r
def uptoBulkEntry {H : Type} : Lit × DataW H → Nat
  | (.string bytes, d) => bytes.length + uptoBulk d + 1
  | (_, d) => uptoBulk d + 1
 end
def uptoSmall : (H : Type) → List (DataW H) → Bool := fun _ ds => decide (uptoBulkAll ds ≤ 1048576)
def OpenSpec.upto (s : _root_.Go.ChangeSpec) : _root_.Go.OpenSpec := { _root_.Go.OpenSpec.ofChange s with cond := some uptoSmall }

/-- 'laws.FnBroken', WHERE WHAT IT READS IS OF BULK AT MOST 1048576: true; the input reads as it did. -/
def fnBrokenUptoRow : OpenClaim := { program := "ytgjoepdfhadmcaagreatdoor", sum := "eeae599ed0bef25ff014561396eae8b6a4c9803ffc0d65d8ed5c51e8b13b6583", func := "loop.example/g00223/laws.FnBroken", spec := "fnBroken", inPlace := ["internal/reflectlite.TypeOf", "internal/reflectlite.ValueOf", "(internal/reflectlite.Value).Type", "(internal/reflectlite.Value).IsNil", "(internal/reflectlite.Value).Elem", "(internal/reflectlite.Value).Set"], unfollowed := true, recurses := true, named := ["loop.example/g00223/impl.errBlank", "loop.example/g00223/impl.errSize", "loop.example/g00223/impl.errLost", "loop.example/g00223/impl.dataPlaces", "loop.example/g00223/impl.errCheck", "loop.example/g00223/impl.errFields", "errors.errorType", "loop.example/g00223/impl.errNoRoom"], ifaces := true, plainKeys := false, apart := false, laid := [("errors.errorType", laid_errors_errorType), ("loop.example/g00223/impl.dataPlaces", laid_loop_example_g00223_impl_dataPlaces), ("loop.example/g00223/impl.errBlank", laid_loop_example_g00223_impl_errBlank), ("loop.example/g00223/impl.errLost", laid_loop_example_g00223_impl_errLost), ("loop.example/g00223/impl.errSize", laid_loop_example_g00223_impl_errSize), ("loop.example/g00223/impl.errCheck", laid_loop_example_g00223_impl_errCheck), ("loop.example/g00223/impl.errFields", laid_loop_example_g00223_impl_errFields), ("loop.example/g00223/impl.errNoRoom", laid_loop_example_g00223_impl_errNoRoom)], narrowed := true }
def FnBrokenUptoSaid : Prop := fnBrokenUptoRow.holds Tryz.pinned (OpenSpec.upto fnBrokenSpec)

/-- 'laws.FnMounted', WHERE WHAT IT READS IS OF BULK AT MOST 1048576: true; the input reads as it did. -/
def fnMountedUptoRow : OpenClaim := { program := "ytgjoepdfhadmcaagreatdoor", sum := "eeae599ed0bef25ff014561396eae8b6a4c9803ffc0d65d8ed5c51e8b13b6583", func := "loop.example/g00223/laws.FnMounted", spec := "fnMounted", inPlace := ["internal/reflectlite.TypeOf", "internal/reflectlite.ValueOf", "(internal/reflectlite.Value).Type", "(internal/reflectlite.Value).IsNil", "(internal/reflectlite.Value).Elem", "(internal/reflectlite.Value).Set"], unfollowed := true, recurses := true, named := ["loop.example/g00223/impl.errBlank", "loop.example/g00223/impl.errSize", "loop.example/g00223/impl.errLost", "loop.example/g00223/impl.dataPlaces", "loop.example/g00223/impl.errCheck", "loop.example/g00223/impl.errFields", "errors.errorType", "loop.example/g00223/impl.errNoRoom"], ifaces := true, plainKeys := false, apart := false, laid := [("errors.errorType", laid_errors_errorType), ("loop.example/g00223/impl.dataPlaces", laid_loop_example_g00223_impl_dataPlaces), ("loop.example/g00223/impl.errBlank", laid_loop_example_g00223_impl_errBlank), ("loop.example/g00223/impl.errLost", laid_loop_example_g00223_impl_errLost), ("loop.example/g00223/impl.errSize", laid_loop_example_g00223_impl_errSize), ("loop.example/g00223/impl.errCheck", laid_loop_example_g00223_impl_errCheck), ("loop.example/g00223/impl.errFields", laid_loop_example_g00223_impl_errFields), ("loop.example/g00223/impl.errNoRoom", laid_loop_example_g00223_impl_errNoRoom)], narrowed := true }
def FnMountedUptoSaid : Prop := fnMountedUptoRow.holds Tryz.pinned (OpenSpec.upto fnMountedSpec)

/-- 'laws.FnScrubbed', WHERE WHAT IT READS IS OF BULK AT MOST 1048576: true; the input reads as it did. -/
def fnScrubbedUptoRow : OpenClaim := { program := "ytgjoepdfhadmcaagreatdoor", sum := "eeae599ed0bef25ff014561396eae8b6a4c9803ffc0d65d8ed5c51e8b13b6583", func := "loop.example/g00223/laws.FnScrubbed", spec := "fnScrubbed", inPlace := ["internal/reflectlite.TypeOf", "internal/reflectlite.ValueOf", "(internal/reflectlite.Value).Type", "(internal/reflectlite.Value).IsNil", "(internal/reflectlite.Value).Elem", "(internal/reflectlite.Value).Set"], unfollowed := true, recurses := true, named := ["loop.example/g00223/impl.errBlank", "loop.example/g00223/impl.errSize", "loop.example/g00223/impl.errLost", "loop.example/g00223/impl.dataPlaces", "loop.example/g00223/impl.errCheck", "loop.example/g00223/impl.errFields", "errors.errorType", "loop.example/g00223/impl.errNoRoom"], ifaces := true, plainKeys := false, apart := false, laid := [("errors.errorType", laid_errors_errorType), ("loop.example/g00223/impl.dataPlaces", laid_loop_example_g00223_impl_dataPlaces), ("loop.example/g00223/impl.errBlank", laid_loop_example_g00223_impl_errBlank), ("loop.example/g00223/impl.errLost", laid_loop_example_g00223_impl_errLost), ("loop.example/g00223/impl.errSize", laid_loop_example_g00223_impl_errSize), ("loop.example/g00223/impl.errCheck", laid_loop_example_g00223_impl_errCheck), ("loop.example/g00223/impl.errFields", laid_loop_example_g00223_impl_errFields), ("loop.example/g00223/impl.errNoRoom", laid_loop_example_g00223_impl_errNoRoom)], narrowed := true }
def FnScrubbedUptoSaid : Prop := fnScrubbedUptoRow.holds Tryz.pinned (OpenSpec.upto fnScrubbedSpec)

/-- 'laws.FnCaches', WHERE WHAT IT READS IS OF BULK AT MOST 1048576: true; the input reads as it did. -/
def fnCachesUptoRow : OpenClaim := { program := "ytgjoepdfhadmcaagreatdoor", sum := "eeae599ed0bef25ff014561396eae8b6a4c9803ffc0d65d8ed5c51e8b13b6583", func := "loop.example/g00223/laws.FnCaches", spec := "fnCaches", inPlace := ["internal/reflectlite.TypeOf", "internal/reflectlite.ValueOf", "(internal/reflectlite.Value).Type", "(internal/reflectlite.Value).IsNil", "(internal/reflectlite.Value).Elem", "(internal/reflectlite.Value).Set"], unfollowed := true, recurses := true, named := ["loop.example/g00223/impl.errBlank", "loop.example/g00223/impl.errSize", "loop.example/g00223/impl.errLost", "loop.example/g00223/impl.dataPlaces", "loop.example/g00223/impl.errCheck", "loop.example/g00223/impl.errFields", "errors.errorType", "loop.example/g00223/impl.errNoRoom"], ifaces := true, plainKeys := false, apart := false, laid := [("errors.errorType", laid_errors_errorType), ("loop.example/g00223/impl.dataPlaces", laid_loop_example_g00223_impl_dataPlaces), ("loop.example/g00223/impl.errBlank", laid_loop_example_g00223_impl_errBlank), ("loop.example/g00223/impl.errLost", laid_loop_example_g00223_impl_errLost), ("loop.example/g00223/impl.errSize", laid_loop_example_g00223_impl_errSize), ("loop.example/g00223/impl.errCheck", laid_loop_example_g00223_impl_errCheck), ("loop.example/g00223/impl.errFields", laid_loop_example_g00223_impl_errFields), ("loop.example/g00223/impl.errNoRoom", laid_loop_example_g00223_impl_errNoRoom)], narrowed := true }
def FnCachesUptoSaid : Prop := fnCachesUptoRow.holds Tryz.pinned (OpenSpec.upto fnCachesSpec)

/-- 'laws.FnFlushed', WHERE WHAT IT READS IS OF BULK AT MOST 1048576: true; the input reads as it did. -/
def fnFlushedUptoRow : OpenClaim := { program := "ytgjoepdfhadmcaagreatdoor", sum := "eeae599ed0bef25ff014561396eae8b6a4c9803ffc0d65d8ed5c51e8b13b6583", func := "loop.example/g00223/laws.FnFlushed", spec := "fnFlushed", inPlace := ["internal/reflectlite.TypeOf", "internal/reflectlite.ValueOf", "(internal/reflectlite.Value).Type", "(internal/reflectlite.Value).IsNil", "(internal/reflectlite.Value).Elem", "(internal/reflectlite.Value).Set"], unfollowed := true, recurses := true, named := ["loop.example/g00223/impl.errBlank", "loop.example/g00223/impl.errSize", "loop.example/g00223/impl.errLost", "loop.example/g00223/impl.dataPlaces", "loop.example/g00223/impl.errCheck", "loop.example/g00223/impl.errFields", "errors.errorType", "loop.example/g00223/impl.errNoRoom"], ifaces := true, plainKeys := false, apart := false, laid := [("errors.errorType", laid_errors_errorType), ("loop.example/g00223/impl.dataPlaces", laid_loop_example_g00223_impl_dataPlaces), ("loop.example/g00223/impl.errBlank", laid_loop_example_g00223_impl_errBlank), ("loop.example/g00223/impl.errLost", laid_loop_example_g00223_impl_errLost), ("loop.example/g00223/impl.errSize", laid_loop_example_g00223_impl_errSize), ("loop.example/g00223/impl.errCheck", laid_loop_example_g00223_impl_errCheck), ("loop.example/g00223/impl.errFields", laid_loop_example_g00223_impl_errFields), ("loop.example/g00223/impl.errNoRoom", laid_loop_example_g00223_impl_errNoRoom)], narrowed := true }
def FnFlushedUptoSaid : Prop := fnFlushedUptoRow.holds Tryz.pinned (OpenSpec.upto fnFlushedSpec)

end Rows
end Go.Proofs.YtgjoepdfhadmcaaGreatDoor
