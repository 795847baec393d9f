/-
  No cell of these rows narrows 'for every input' (looked for: loops, veiled, ifaces, maps, wideKeys, modest, calm, conditions, laid).
  DERIVED. THE GIVEN ROWS OF THIS SEAT. 6 by the template 'for every input the law returns true; each argument reads behind the call as it read before'; 0 by the template 'total and deterministic' (their statements: YtaifokpepbhmcaaTotals.lean).
  GIVEN WITH THE SEED: the statements are not yours to turn. If you find one false, say at which input.
  Laid BY PROGRAM, IN A SANDBOX (cutbox-rows.mjs): the forced cells as the released guide's own fill.sh prints them over the translation e6909b92b0ae24fd… (all of the seat's roots in one cut). By AI agents, Wed Nov 11 2026. No macro, syntax, notation, axiom, sorry.
-/
import Derived.Test.YtaifokpepbhmcaaChecked
import GoSem.Claim
import GoSem.ClaimJoined
import GoSem.ClaimMapViews
import Derived.JoinedTies
import Derived.KernelRfl
namespace Go.Proofs.Ytaifokpepbhmcaa
/- THE CELL 'sum', in the pinned program and in every row, IS THE sha256 OF THE DUMP (.gsa) THAT YtaifokpepbhmcaaProg.lean LOADS. Nothing in Lean hashes anything: it is a label: what it is worth is what the hold of that sum in a sandbox is worth. -/
noncomputable def Try.pinned : Pinned := { name := "ytaifokpepbhmcaa", sum := "e6909b92b0ae24fd161900b7767e18bcf0d37c686afb217ba3f2ede9974ede3c", checked := Try.checked }
namespace Rows
def none {H : Type} : Left H := { results := [], args := [] }

/-- 'laws.FnExactRight': WHATEVER THE INPUT: true; the input reads as it did. -/
def fnExactRightSpec : ChangeSpec := { name := "fnExactRight", fn := fun _ => fun
  | [d1, d2, d3] => { results := [.lit (.bool true)], args := [d1, d2, d3] }
  | _ => none }
def fnExactRightRow : OpenClaim := { program := "ytaifokpepbhmcaa", sum := "e6909b92b0ae24fd161900b7767e18bcf0d37c686afb217ba3f2ede9974ede3c", func := "loop.example/g00223/laws.FnExactRight", spec := "fnExactRight", apart := false }
def FnExactRightSaid : Prop := fnExactRightRow.holds Try.pinned (OpenSpec.ofChange fnExactRightSpec)

/-- ITS FALSE NEIGHBOUR: 'it returns false'. Refute it at one input. -/
def fnExactRightWrong : ChangeSpec := { name := "fnExactRight", fn := fun _ => fun
  | [d1, d2, d3] => { results := [.lit (.bool false)], args := [d1, d2, d3] }
  | _ => none }
def FnExactRightWrongFalsely : Prop := fnExactRightRow.holds Try.pinned (OpenSpec.ofChange fnExactRightWrong)

/-- 'laws.FnExactLeast': WHATEVER THE INPUT: true; the input reads as it did. -/
def fnExactLeastSpec : ChangeSpec := { name := "fnExactLeast", fn := fun _ => fun
  | [d1, d2] => { results := [.lit (.bool true)], args := [d1, d2] }
  | _ => none }
def fnExactLeastRow : OpenClaim := { program := "ytaifokpepbhmcaa", sum := "e6909b92b0ae24fd161900b7767e18bcf0d37c686afb217ba3f2ede9974ede3c", func := "loop.example/g00223/laws.FnExactLeast", spec := "fnExactLeast", apart := false }
def FnExactLeastSaid : Prop := fnExactLeastRow.holds Try.pinned (OpenSpec.ofChange fnExactLeastSpec)

/-- ITS FALSE NEIGHBOUR: 'it returns false'. Refute it at one input. -/
def fnExactLeastWrong : ChangeSpec := { name := "fnExactLeast", fn := fun _ => fun
  | [d1, d2] => { results := [.lit (.bool false)], args := [d1, d2] }
  | _ => none }
def FnExactLeastWrongFalsely : Prop := fnExactLeastRow.holds Try.pinned (OpenSpec.ofChange fnExactLeastWrong)

/-- 'laws.FnExactMine': WHATEVER THE INPUT: true; the input reads as it did. -/
def fnExactMineSpec : ChangeSpec := { name := "fnExactMine", fn := fun _ => fun
  | [d1, d2] => { results := [.lit (.bool true)], args := [d1, d2] }
  | _ => none }
def fnExactMineRow : OpenClaim := { program := "ytaifokpepbhmcaa", sum := "e6909b92b0ae24fd161900b7767e18bcf0d37c686afb217ba3f2ede9974ede3c", func := "loop.example/g00223/laws.FnExactMine", spec := "fnExactMine", unfollowed := true, recurses := true, apart := false }
def FnExactMineSaid : Prop := fnExactMineRow.holds Try.pinned (OpenSpec.ofChange fnExactMineSpec)

/-- ITS FALSE NEIGHBOUR: 'it returns false'. Refute it at one input. -/
def fnExactMineWrong : ChangeSpec := { name := "fnExactMine", fn := fun _ => fun
  | [d1, d2] => { results := [.lit (.bool false)], args := [d1, d2] }
  | _ => none }
def FnExactMineWrongFalsely : Prop := fnExactMineRow.holds Try.pinned (OpenSpec.ofChange fnExactMineWrong)

/-- 'laws.FnExactYours': WHATEVER THE INPUT: true; the input reads as it did. -/
def fnExactYoursSpec : ChangeSpec := { name := "fnExactYours", fn := fun _ => fun
  | [d1, d2] => { results := [.lit (.bool true)], args := [d1, d2] }
  | _ => none }
def fnExactYoursRow : OpenClaim := { program := "ytaifokpepbhmcaa", sum := "e6909b92b0ae24fd161900b7767e18bcf0d37c686afb217ba3f2ede9974ede3c", func := "loop.example/g00223/laws.FnExactYours", spec := "fnExactYours", unfollowed := true, recurses := true, apart := false }
def FnExactYoursSaid : Prop := fnExactYoursRow.holds Try.pinned (OpenSpec.ofChange fnExactYoursSpec)

/-- ITS FALSE NEIGHBOUR: 'it returns false'. Refute it at one input. -/
def fnExactYoursWrong : ChangeSpec := { name := "fnExactYours", fn := fun _ => fun
  | [d1, d2] => { results := [.lit (.bool false)], args := [d1, d2] }
  | _ => none }
def FnExactYoursWrongFalsely : Prop := fnExactYoursRow.holds Try.pinned (OpenSpec.ofChange fnExactYoursWrong)

/-- 'laws.FnExactHolds': WHATEVER THE INPUT: true; the input reads as it did. -/
def fnExactHoldsSpec : ChangeSpec := { name := "fnExactHolds", fn := fun _ => fun
  | [d1, d2, d3, d4] => { results := [.lit (.bool true)], args := [d1, d2, d3, d4] }
  | _ => none }
def fnExactHoldsRow : OpenClaim := { program := "ytaifokpepbhmcaa", sum := "e6909b92b0ae24fd161900b7767e18bcf0d37c686afb217ba3f2ede9974ede3c", func := "loop.example/g00223/laws.FnExactHolds", spec := "fnExactHolds", unfollowed := true, recurses := true, apart := false }
def FnExactHoldsSaid : Prop := fnExactHoldsRow.holds Try.pinned (OpenSpec.ofChange fnExactHoldsSpec)

/-- ITS FALSE NEIGHBOUR: 'it returns false'. Refute it at one input. -/
def fnExactHoldsWrong : ChangeSpec := { name := "fnExactHolds", fn := fun _ => fun
  | [d1, d2, d3, d4] => { results := [.lit (.bool false)], args := [d1, d2, d3, d4] }
  | _ => none }
def FnExactHoldsWrongFalsely : Prop := fnExactHoldsRow.holds Try.pinned (OpenSpec.ofChange fnExactHoldsWrong)

/-- 'laws.FnLeases': WHATEVER THE INPUT: true; the input reads as it did. -/
def fnLeasesSpec : ChangeSpec := { name := "fnLeases", fn := fun _ => fun
  | [d] => { results := [.lit (.bool true)], args := [d] }
  | _ => none }
def fnLeasesRow : OpenClaim := { program := "ytaifokpepbhmcaa", sum := "e6909b92b0ae24fd161900b7767e18bcf0d37c686afb217ba3f2ede9974ede3c", func := "loop.example/g00223/laws.FnLeases", spec := "fnLeases", unfollowed := true, recurses := true, apart := false }
def FnLeasesSaid : Prop := fnLeasesRow.holds Try.pinned (OpenSpec.ofChange fnLeasesSpec)

/-- ITS FALSE NEIGHBOUR: 'it returns false'. Refute it at one input. -/
def fnLeasesWrong : ChangeSpec := { name := "fnLeases", fn := fun _ => fun
  | [d] => { results := [.lit (.bool false)], args := [d] }
  | _ => none }
def FnLeasesWrongFalsely : Prop := fnLeasesRow.holds Try.pinned (OpenSpec.ofChange fnLeasesWrong)

/- THE SECOND FORM. 'bulk': how many values and letters a reading holds, each counted each time it is reached (what is shared counts as often as it is met; a slice's spare places count too). A statement '..UptoSaid' is the law's where the arguments, and the package variables that the reading takes, are together of bulk at most 1048576: NARROWER than '..Said'. Prove '..Said' where nothing that the law and all that it calls make is longer than what came in: it says more and counts as full. Else prove '..UptoSaid'. A law counts once. -/
mutual
def uptoBulk {H : Type} : DataW H → Nat
  | .lit (.string bytes) => bytes.length + 1
  | .lit _ => 1
  | .nil => 1
  | .ptr d => uptoBulk d + 1
  | .slice elems spare => uptoBulkAll elems + uptoBulkAll spare + 1
  | .agg parts => uptoBulkAll parts + 1
  | .iface _ d => uptoBulk d + 1
  | .map entries => uptoBulkEntries entries + 1
  | .held _ => 1
def uptoBulkAll {H : Type} : List (DataW H) → Nat
  | [] => 0
  | d :: r => uptoBulk d + uptoBulkAll r
def uptoBulkEntries {H : Type} : List (Lit × DataW H) → Nat
  | [] => 0
  | x :: r => uptoBulkEntry x + uptoBulkEntries r
def uptoBulkEntry {H : Type} : Lit × DataW H → Nat
  | (.string bytes, d) => bytes.length + uptoBulk d + 1
  | (_, d) => uptoBulk d + 1
 end
def uptoSmall : (H : Type) → List (DataW H) → Bool := fun _ ds => decide (uptoBulkAll ds ≤ 1048576)
def OpenSpec.upto (s : _root_.Go.ChangeSpec) : _root_.Go.OpenSpec := { _root_.Go.OpenSpec.ofChange s with cond := some uptoSmall }

/-- 'laws.FnExactRight', WHERE WHAT IT READS IS OF BULK AT MOST 1048576: true; the input reads as it did. -/
def fnExactRightUptoRow : OpenClaim := { program := "ytaifokpepbhmcaa", sum := "e6909b92b0ae24fd161900b7767e18bcf0d37c686afb217ba3f2ede9974ede3c", func := "loop.example/g00223/laws.FnExactRight", spec := "fnExactRight", apart := false, narrowed := true }
def FnExactRightUptoSaid : Prop := fnExactRightUptoRow.holds Try.pinned (OpenSpec.upto fnExactRightSpec)

/-- 'laws.FnExactLeast', WHERE WHAT IT READS IS OF BULK AT MOST 1048576: true; the input reads as it did. -/
def fnExactLeastUptoRow : OpenClaim := { program := "ytaifokpepbhmcaa", sum := "e6909b92b0ae24fd161900b7767e18bcf0d37c686afb217ba3f2ede9974ede3c", func := "loop.example/g00223/laws.FnExactLeast", spec := "fnExactLeast", apart := false, narrowed := true }
def FnExactLeastUptoSaid : Prop := fnExactLeastUptoRow.holds Try.pinned (OpenSpec.upto fnExactLeastSpec)

/-- 'laws.FnExactMine', WHERE WHAT IT READS IS OF BULK AT MOST 1048576: true; the input reads as it did. -/
def fnExactMineUptoRow : OpenClaim := { program := "ytaifokpepbhmcaa", sum := "e6909b92b0ae24fd161900b7767e18bcf0d37c686afb217ba3f2ede9974ede3c", func := "loop.example/g00223/laws.FnExactMine", spec := "fnExactMine", unfollowed := true, recurses := true, apart := false, narrowed := true }
def FnExactMineUptoSaid : Prop := fnExactMineUptoRow.holds Try.pinned (OpenSpec.upto fnExactMineSpec)

/-- 'laws.FnExactYours', WHERE WHAT IT READS IS OF BULK AT MOST 1048576: true; the input reads as it did. -/
def fnExactYoursUptoRow : OpenClaim := { program := "ytaifokpepbhmcaa", sum := "e6909b92b0ae24fd161900b7767e18bcf0d37c686afb217ba3f2ede9974ede3c", func := "loop.example/g00223/laws.FnExactYours", spec := "fnExactYours", unfollowed := true, recurses := true, apart := false, narrowed := true }
def FnExactYoursUptoSaid : Prop := fnExactYoursUptoRow.holds Try.pinned (OpenSpec.upto fnExactYoursSpec)

/-- 'laws.FnExactHolds', WHERE WHAT IT READS IS OF BULK AT MOST 1048576: true; the input reads as it did. -/
def fnExactHoldsUptoRow : OpenClaim := { program := "ytaifokpepbhmcaa", sum := "e6909b92b0ae24fd161900b7767e18bcf0d37c686afb217ba3f2ede9974ede3c", func := "loop.example/g00223/laws.FnExactHolds", spec := "fnExactHolds", unfollowed := true, recurses := true, apart := false, narrowed := true }
def FnExactHoldsUptoSaid : Prop := fnExactHoldsUptoRow.holds Try.pinned (OpenSpec.upto fnExactHoldsSpec)

/-- 'laws.FnLeases', WHERE WHAT IT READS IS OF BULK AT MOST 1048576: true; the input reads as it did. -/
def fnLeasesUptoRow : OpenClaim := { program := "ytaifokpepbhmcaa", sum := "e6909b92b0ae24fd161900b7767e18bcf0d37c686afb217ba3f2ede9974ede3c", func := "loop.example/g00223/laws.FnLeases", spec := "fnLeases", unfollowed := true, recurses := true, apart := false, narrowed := true }
def FnLeasesUptoSaid : Prop := fnLeasesUptoRow.holds Try.pinned (OpenSpec.upto fnLeasesSpec)

end Rows
end Go.Proofs.Ytaifokpepbhmcaa
