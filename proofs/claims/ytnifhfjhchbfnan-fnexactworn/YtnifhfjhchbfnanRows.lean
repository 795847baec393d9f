/-
  No cell of these rows narrows 'for every input' (looked for: loops, veiled, ifaces, maps, wideKeys, modest, calm, conditions, laid).
  DERIVED. THE GIVEN ROWS OF THIS SEAT. 5 by the template 'for every input the law returns true; each argument reads behind the call as it read before'; 0 by the template 'total and deterministic' (their statements: YtnifhfjhchbfnanTotals.lean).
  GIVEN WITH THE SEED: the statements are not yours to turn. If you find one false, say at which input.
  Laid BY PROGRAM, IN A SANDBOX (cutbox-rows.mjs): the forced cells as the released guide's own fill.sh prints them over the translation 36fac90661c257f1… (all of the seat's roots in one cut). By AI agents, Wed Nov 11 2026. No macro, syntax, notation, axiom, sorry.
-/
import Derived.Test.YtnifhfjhchbfnanChecked
import GoSem.Claim
import GoSem.ClaimJoined
import GoSem.ClaimMapViews
import Derived.JoinedTies
import Derived.KernelRfl
namespace Go.Proofs.Ytnifhfjhchbfnan
/- THE CELL 'sum', in the pinned program and in every row, IS THE sha256 OF THE DUMP (.gsa) THAT YtnifhfjhchbfnanProg.lean LOADS. Nothing in Lean hashes anything: it is a label: what it is worth is what the hold of that sum in a sandbox is worth. -/
noncomputable def Try.pinned : Pinned := { name := "ytnifhfjhchbfnan", sum := "36fac90661c257f1e0442c9a59f625994e9075909b61a59297702cc4604b04db", checked := Try.checked }
namespace Rows
def none {H : Type} : Left H := { results := [], args := [] }

/-- 'laws.FnExactFree': WHATEVER THE INPUT: true; the input reads as it did. -/
def fnExactFreeSpec : ChangeSpec := { name := "fnExactFree", fn := fun _ => fun
  | [d] => { results := [.lit (.bool true)], args := [d] }
  | _ => none }
def fnExactFreeRow : OpenClaim := { program := "ytnifhfjhchbfnan", sum := "36fac90661c257f1e0442c9a59f625994e9075909b61a59297702cc4604b04db", func := "loop.example/g00223/laws.FnExactFree", spec := "fnExactFree", apart := false }
def FnExactFreeSaid : Prop := fnExactFreeRow.holds Try.pinned (OpenSpec.ofChange fnExactFreeSpec)

/-- ITS FALSE NEIGHBOUR: 'it returns false'. Refute it at one input. -/
def fnExactFreeWrong : ChangeSpec := { name := "fnExactFree", fn := fun _ => fun
  | [d] => { results := [.lit (.bool false)], args := [d] }
  | _ => none }
def FnExactFreeWrongFalsely : Prop := fnExactFreeRow.holds Try.pinned (OpenSpec.ofChange fnExactFreeWrong)

/-- 'laws.FnExactWorn': WHATEVER THE INPUT: true; the input reads as it did. -/
def fnExactWornSpec : ChangeSpec := { name := "fnExactWorn", fn := fun _ => fun
  | [d] => { results := [.lit (.bool true)], args := [d] }
  | _ => none }
def fnExactWornRow : OpenClaim := { program := "ytnifhfjhchbfnan", sum := "36fac90661c257f1e0442c9a59f625994e9075909b61a59297702cc4604b04db", func := "loop.example/g00223/laws.FnExactWorn", spec := "fnExactWorn", apart := false }
def FnExactWornSaid : Prop := fnExactWornRow.holds Try.pinned (OpenSpec.ofChange fnExactWornSpec)

/-- ITS FALSE NEIGHBOUR: 'it returns false'. Refute it at one input. -/
def fnExactWornWrong : ChangeSpec := { name := "fnExactWorn", fn := fun _ => fun
  | [d] => { results := [.lit (.bool false)], args := [d] }
  | _ => none }
def FnExactWornWrongFalsely : Prop := fnExactWornRow.holds Try.pinned (OpenSpec.ofChange fnExactWornWrong)

/-- 'laws.FnExactFtlOk': WHATEVER THE INPUT: true; the input reads as it did. -/
def fnExactFtlOkSpec : ChangeSpec := { name := "fnExactFtlOk", fn := fun _ => fun
  | [d] => { results := [.lit (.bool true)], args := [d] }
  | _ => none }
def fnExactFtlOkRow : OpenClaim := { program := "ytnifhfjhchbfnan", sum := "36fac90661c257f1e0442c9a59f625994e9075909b61a59297702cc4604b04db", func := "loop.example/g00223/laws.FnExactFtlOk", spec := "fnExactFtlOk", apart := false }
def FnExactFtlOkSaid : Prop := fnExactFtlOkRow.holds Try.pinned (OpenSpec.ofChange fnExactFtlOkSpec)

/-- ITS FALSE NEIGHBOUR: 'it returns false'. Refute it at one input. -/
def fnExactFtlOkWrong : ChangeSpec := { name := "fnExactFtlOk", fn := fun _ => fun
  | [d] => { results := [.lit (.bool false)], args := [d] }
  | _ => none }
def FnExactFtlOkWrongFalsely : Prop := fnExactFtlOkRow.holds Try.pinned (OpenSpec.ofChange fnExactFtlOkWrong)

/-- 'laws.FnExactGet': WHATEVER THE INPUT: true; the input reads as it did. -/
def fnExactGetSpec : ChangeSpec := { name := "fnExactGet", fn := fun _ => fun
  | [d1, d2] => { results := [.lit (.bool true)], args := [d1, d2] }
  | _ => none }
def fnExactGetRow : OpenClaim := { program := "ytnifhfjhchbfnan", sum := "36fac90661c257f1e0442c9a59f625994e9075909b61a59297702cc4604b04db", func := "loop.example/g00223/laws.FnExactGet", spec := "fnExactGet", apart := false }
def FnExactGetSaid : Prop := fnExactGetRow.holds Try.pinned (OpenSpec.ofChange fnExactGetSpec)

/-- ITS FALSE NEIGHBOUR: 'it returns false'. Refute it at one input. -/
def fnExactGetWrong : ChangeSpec := { name := "fnExactGet", fn := fun _ => fun
  | [d1, d2] => { results := [.lit (.bool false)], args := [d1, d2] }
  | _ => none }
def FnExactGetWrongFalsely : Prop := fnExactGetRow.holds Try.pinned (OpenSpec.ofChange fnExactGetWrong)

/-- 'laws.FnExactPlan': WHATEVER THE INPUT: true; the input reads as it did. -/
def fnExactPlanSpec : ChangeSpec := { name := "fnExactPlan", fn := fun _ => fun
  | [d1, d2] => { results := [.lit (.bool true)], args := [d1, d2] }
  | _ => none }
def fnExactPlanRow : OpenClaim := { program := "ytnifhfjhchbfnan", sum := "36fac90661c257f1e0442c9a59f625994e9075909b61a59297702cc4604b04db", func := "loop.example/g00223/laws.FnExactPlan", spec := "fnExactPlan", apart := false }
def FnExactPlanSaid : Prop := fnExactPlanRow.holds Try.pinned (OpenSpec.ofChange fnExactPlanSpec)

/-- ITS FALSE NEIGHBOUR: 'it returns false'. Refute it at one input. -/
def fnExactPlanWrong : ChangeSpec := { name := "fnExactPlan", fn := fun _ => fun
  | [d1, d2] => { results := [.lit (.bool false)], args := [d1, d2] }
  | _ => none }
def FnExactPlanWrongFalsely : Prop := fnExactPlanRow.holds Try.pinned (OpenSpec.ofChange fnExactPlanWrong)

/- THE SECOND FORM. 'bulk': how many values and letters a reading holds, each counted each time it is reached (what is shared counts as often as it is met; a slice's spare places count too). A statement '..UptoSaid' is the law's where the arguments, and the package variables that the reading takes, are together of bulk at most 1048576: NARROWER than '..Said'. Prove '..Said' where nothing that the law and all that it calls make is longer than what came in: it says more and counts as full. Else prove '..UptoSaid'. A law counts once. -/
mutual
def uptoBulk {H : Type} : DataW H → Nat
  | .lit (.string bytes) => bytes.length + 1
  | .lit _ => 1
  | .nil => 1
  | .ptr d => uptoBulk d + 1
  | .slice elems spare => uptoBulkAll elems + uptoBulkAll spare + 1
  | .agg parts => uptoBulkAll parts + 1
  | .iface _ d => uptoBulk d + 1
  | .map entries => uptoBulkEntries entries + 1
  | .held _ => 1
def uptoBulkAll {H : Type} : List (DataW H) → Nat
  | [] => 0
  | d :: r => uptoBulk d + uptoBulkAll r
def uptoBulkEntries {H : Type} : List (Lit × DataW H) → Nat
  | [] => 0
  | x :: r => uptoBulkEntry x + uptoBulkEntries r
def uptoBulkEntry {H : Type} : Lit × DataW H → Nat
  | (.string bytes, d) => bytes.length + uptoBulk d + 1
  | (_, d) => uptoBulk d + 1
 end
def uptoSmall : (H : Type) → List (DataW H) → Bool := fun _ ds => decide (uptoBulkAll ds ≤ 1048576)
def OpenSpec.upto (s : _root_.Go.ChangeSpec) : _root_.Go.OpenSpec := { _root_.Go.OpenSpec.ofChange s with cond := some uptoSmall }

/-- 'laws.FnExactFree', WHERE WHAT IT READS IS OF BULK AT MOST 1048576: true; the input reads as it did. -/
def fnExactFreeUptoRow : OpenClaim := { program := "ytnifhfjhchbfnan", sum := "36fac90661c257f1e0442c9a59f625994e9075909b61a59297702cc4604b04db", func := "loop.example/g00223/laws.FnExactFree", spec := "fnExactFree", apart := false, narrowed := true }
def FnExactFreeUptoSaid : Prop := fnExactFreeUptoRow.holds Try.pinned (OpenSpec.upto fnExactFreeSpec)

/-- 'laws.FnExactWorn', WHERE WHAT IT READS IS OF BULK AT MOST 1048576: true; the input reads as it did. -/
def fnExactWornUptoRow : OpenClaim := { program := "ytnifhfjhchbfnan", sum := "36fac90661c257f1e0442c9a59f625994e9075909b61a59297702cc4604b04db", func := "loop.example/g00223/laws.FnExactWorn", spec := "fnExactWorn", apart := false, narrowed := true }
def FnExactWornUptoSaid : Prop := fnExactWornUptoRow.holds Try.pinned (OpenSpec.upto fnExactWornSpec)

/-- 'laws.FnExactFtlOk', WHERE WHAT IT READS IS OF BULK AT MOST 1048576: true; the input reads as it did. -/
def fnExactFtlOkUptoRow : OpenClaim := { program := "ytnifhfjhchbfnan", sum := "36fac90661c257f1e0442c9a59f625994e9075909b61a59297702cc4604b04db", func := "loop.example/g00223/laws.FnExactFtlOk", spec := "fnExactFtlOk", apart := false, narrowed := true }
def FnExactFtlOkUptoSaid : Prop := fnExactFtlOkUptoRow.holds Try.pinned (OpenSpec.upto fnExactFtlOkSpec)

/-- 'laws.FnExactGet', WHERE WHAT IT READS IS OF BULK AT MOST 1048576: true; the input reads as it did. -/
def fnExactGetUptoRow : OpenClaim := { program := "ytnifhfjhchbfnan", sum := "36fac90661c257f1e0442c9a59f625994e9075909b61a59297702cc4604b04db", func := "loop.example/g00223/laws.FnExactGet", spec := "fnExactGet", apart := false, narrowed := true }
def FnExactGetUptoSaid : Prop := fnExactGetUptoRow.holds Try.pinned (OpenSpec.upto fnExactGetSpec)

/-- 'laws.FnExactPlan', WHERE WHAT IT READS IS OF BULK AT MOST 1048576: true; the input reads as it did. -/
def fnExactPlanUptoRow : OpenClaim := { program := "ytnifhfjhchbfnan", sum := "36fac90661c257f1e0442c9a59f625994e9075909b61a59297702cc4604b04db", func := "loop.example/g00223/laws.FnExactPlan", spec := "fnExactPlan", apart := false, narrowed := true }
def FnExactPlanUptoSaid : Prop := fnExactPlanUptoRow.holds Try.pinned (OpenSpec.upto fnExactPlanSpec)

end Rows
end Go.Proofs.Ytnifhfjhchbfnan
