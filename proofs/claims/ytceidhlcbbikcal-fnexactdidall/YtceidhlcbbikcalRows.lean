/-
  No cell of these rows narrows 'for every input' (looked for: loops, veiled, ifaces, maps, wideKeys, modest, calm, conditions, laid).
  DERIVED. THE GIVEN ROWS OF THIS SEAT. 5 by the template 'for every input the law returns true; each argument reads behind the call as it read before'; 0 by the template 'total and deterministic' (their statements: YtceidhlcbbikcalTotals.lean).
  GIVEN WITH THE SEED: the statements are not yours to turn. If you find one false, say at which input.
  Laid BY PROGRAM, IN A SANDBOX (cutbox-rows.mjs): the forced cells as the released guide's own fill.sh prints them over the translation 0d5833af3aad5a0b… (all of the seat's roots in one cut). By AI agents, Wed Nov 11 2026. No macro, syntax, notation, axiom, sorry.
-/
import Derived.Test.YtceidhlcbbikcalChecked
import GoSem.Claim
import GoSem.ClaimJoined
import GoSem.ClaimMapViews
import Derived.JoinedTies
import Derived.KernelRfl
namespace Go.Proofs.Ytceidhlcbbikcal
/- THE CELL 'sum', in the pinned program and in every row, IS THE sha256 OF THE DUMP (.gsa) THAT YtceidhlcbbikcalProg.lean LOADS. Nothing in Lean hashes anything: it is a label: what it is worth is what the hold of that sum in a sandbox is worth. -/
noncomputable def Try.pinned : Pinned := { name := "ytceidhlcbbikcal", sum := "0d5833af3aad5a0bb74e6ccd37fcab950dcaabb5d0fd44a53d3219485224945c", checked := Try.checked }
namespace Rows
def none {H : Type} : Left H := { results := [], args := [] }

/-- 'laws.FnExactNewer': WHATEVER THE INPUT: true; the input reads as it did. -/
def fnExactNewerSpec : ChangeSpec := { name := "fnExactNewer", fn := fun _ => fun
  | [d1, d2] => { results := [.lit (.bool true)], args := [d1, d2] }
  | _ => none }
def fnExactNewerRow : OpenClaim := { program := "ytceidhlcbbikcal", sum := "0d5833af3aad5a0bb74e6ccd37fcab950dcaabb5d0fd44a53d3219485224945c", func := "loop.example/g00223/laws.FnExactNewer", spec := "fnExactNewer", apart := false }
def FnExactNewerSaid : Prop := fnExactNewerRow.holds Try.pinned (OpenSpec.ofChange fnExactNewerSpec)

/-- ITS FALSE NEIGHBOUR: 'it returns false'. Refute it at one input. -/
def fnExactNewerWrong : ChangeSpec := { name := "fnExactNewer", fn := fun _ => fun
  | [d1, d2] => { results := [.lit (.bool false)], args := [d1, d2] }
  | _ => none }
def FnExactNewerWrongFalsely : Prop := fnExactNewerRow.holds Try.pinned (OpenSpec.ofChange fnExactNewerWrong)

/-- 'laws.FnExactChipOk': WHATEVER THE INPUT: true; the input reads as it did. -/
def fnExactChipOkSpec : ChangeSpec := { name := "fnExactChipOk", fn := fun _ => fun
  | [d] => { results := [.lit (.bool true)], args := [d] }
  | _ => none }
def fnExactChipOkRow : OpenClaim := { program := "ytceidhlcbbikcal", sum := "0d5833af3aad5a0bb74e6ccd37fcab950dcaabb5d0fd44a53d3219485224945c", func := "loop.example/g00223/laws.FnExactChipOk", spec := "fnExactChipOk", apart := false }
def FnExactChipOkSaid : Prop := fnExactChipOkRow.holds Try.pinned (OpenSpec.ofChange fnExactChipOkSpec)

/-- ITS FALSE NEIGHBOUR: 'it returns false'. Refute it at one input. -/
def fnExactChipOkWrong : ChangeSpec := { name := "fnExactChipOk", fn := fun _ => fun
  | [d] => { results := [.lit (.bool false)], args := [d] }
  | _ => none }
def FnExactChipOkWrongFalsely : Prop := fnExactChipOkRow.holds Try.pinned (OpenSpec.ofChange fnExactChipOkWrong)

/-- 'laws.FnExactNewChip': WHATEVER THE INPUT: true; the input reads as it did. -/
def fnExactNewChipSpec : ChangeSpec := { name := "fnExactNewChip", fn := fun _ => fun
  | [d1, d2] => { results := [.lit (.bool true)], args := [d1, d2] }
  | _ => none }
def fnExactNewChipRow : OpenClaim := { program := "ytceidhlcbbikcal", sum := "0d5833af3aad5a0bb74e6ccd37fcab950dcaabb5d0fd44a53d3219485224945c", func := "loop.example/g00223/laws.FnExactNewChip", spec := "fnExactNewChip", apart := false }
def FnExactNewChipSaid : Prop := fnExactNewChipRow.holds Try.pinned (OpenSpec.ofChange fnExactNewChipSpec)

/-- ITS FALSE NEIGHBOUR: 'it returns false'. Refute it at one input. -/
def fnExactNewChipWrong : ChangeSpec := { name := "fnExactNewChip", fn := fun _ => fun
  | [d1, d2] => { results := [.lit (.bool false)], args := [d1, d2] }
  | _ => none }
def FnExactNewChipWrongFalsely : Prop := fnExactNewChipRow.holds Try.pinned (OpenSpec.ofChange fnExactNewChipWrong)

/-- 'laws.FnExactDid': WHATEVER THE INPUT: true; the input reads as it did. -/
def fnExactDidSpec : ChangeSpec := { name := "fnExactDid", fn := fun _ => fun
  | [d1, d2] => { results := [.lit (.bool true)], args := [d1, d2] }
  | _ => none }
def fnExactDidRow : OpenClaim := { program := "ytceidhlcbbikcal", sum := "0d5833af3aad5a0bb74e6ccd37fcab950dcaabb5d0fd44a53d3219485224945c", func := "loop.example/g00223/laws.FnExactDid", spec := "fnExactDid", apart := false }
def FnExactDidSaid : Prop := fnExactDidRow.holds Try.pinned (OpenSpec.ofChange fnExactDidSpec)

/-- ITS FALSE NEIGHBOUR: 'it returns false'. Refute it at one input. -/
def fnExactDidWrong : ChangeSpec := { name := "fnExactDid", fn := fun _ => fun
  | [d1, d2] => { results := [.lit (.bool false)], args := [d1, d2] }
  | _ => none }
def FnExactDidWrongFalsely : Prop := fnExactDidRow.holds Try.pinned (OpenSpec.ofChange fnExactDidWrong)

/-- 'laws.FnExactDidAll': WHATEVER THE INPUT: true; the input reads as it did. -/
def fnExactDidAllSpec : ChangeSpec := { name := "fnExactDidAll", fn := fun _ => fun
  | [d1, d2] => { results := [.lit (.bool true)], args := [d1, d2] }
  | _ => none }
def fnExactDidAllRow : OpenClaim := { program := "ytceidhlcbbikcal", sum := "0d5833af3aad5a0bb74e6ccd37fcab950dcaabb5d0fd44a53d3219485224945c", func := "loop.example/g00223/laws.FnExactDidAll", spec := "fnExactDidAll", apart := false }
def FnExactDidAllSaid : Prop := fnExactDidAllRow.holds Try.pinned (OpenSpec.ofChange fnExactDidAllSpec)

/-- ITS FALSE NEIGHBOUR: 'it returns false'. Refute it at one input. -/
def fnExactDidAllWrong : ChangeSpec := { name := "fnExactDidAll", fn := fun _ => fun
  | [d1, d2] => { results := [.lit (.bool false)], args := [d1, d2] }
  | _ => none }
def FnExactDidAllWrongFalsely : Prop := fnExactDidAllRow.holds Try.pinned (OpenSpec.ofChange fnExactDidAllWrong)

/- THE SECOND FORM. 'bulk': how many values and letters a reading holds, each counted each time it is reached (what is shared counts as often as it is met; a slice's spare places count too). A statement '..UptoSaid' is the law's where the arguments, and the package variables that the reading takes, are together of bulk at most 1048576: NARROWER than '..Said'. Prove '..Said' where nothing that the law and all that it calls make is longer than what came in: it says more and counts as full. Else prove '..UptoSaid'. A law counts once. -/
mutual
def uptoBulk {H : Type} : DataW H → Nat
  | .lit (.string bytes) => bytes.length + 1
  | .lit _ => 1
  | .nil => 1
  | .ptr d => uptoBulk d + 1
  | .slice elems spare => uptoBulkAll elems + uptoBulkAll spare + 1
  | .agg parts => uptoBulkAll parts + 1
  | .iface _ d => uptoBulk d + 1
  | .map entries => uptoBulkEntries entries + 1
  | .held _ => 1
def uptoBulkAll {H : Type} : List (DataW H) → Nat
  | [] => 0
  | d :: r => uptoBulk d + uptoBulkAll r
def uptoBulkEntries {H : Type} : List (Lit × DataW H) → Nat
  | [] => 0
  | x :: r => uptoBulkEntry x + uptoBulkEntries r
def uptoBulkEntry {H : Type} : Lit × DataW H → Nat
  | (.string bytes, d) => bytes.length + uptoBulk d + 1
  | (_, d) => uptoBulk d + 1
 end
def uptoSmall : (H : Type) → List (DataW H) → Bool := fun _ ds => decide (uptoBulkAll ds ≤ 1048576)
def OpenSpec.upto (s : _root_.Go.ChangeSpec) : _root_.Go.OpenSpec := { _root_.Go.OpenSpec.ofChange s with cond := some uptoSmall }

/-- 'laws.FnExactNewer', WHERE WHAT IT READS IS OF BULK AT MOST 1048576: true; the input reads as it did. -/
def fnExactNewerUptoRow : OpenClaim := { program := "ytceidhlcbbikcal", sum := "0d5833af3aad5a0bb74e6ccd37fcab950dcaabb5d0fd44a53d3219485224945c", func := "loop.example/g00223/laws.FnExactNewer", spec := "fnExactNewer", apart := false, narrowed := true }
def FnExactNewerUptoSaid : Prop := fnExactNewerUptoRow.holds Try.pinned (OpenSpec.upto fnExactNewerSpec)

/-- 'laws.FnExactChipOk', WHERE WHAT IT READS IS OF BULK AT MOST 1048576: true; the input reads as it did. -/
def fnExactChipOkUptoRow : OpenClaim := { program := "ytceidhlcbbikcal", sum := "0d5833af3aad5a0bb74e6ccd37fcab950dcaabb5d0fd44a53d3219485224945c", func := "loop.example/g00223/laws.FnExactChipOk", spec := "fnExactChipOk", apart := false, narrowed := true }
def FnExactChipOkUptoSaid : Prop := fnExactChipOkUptoRow.holds Try.pinned (OpenSpec.upto fnExactChipOkSpec)

/-- 'laws.FnExactNewChip', WHERE WHAT IT READS IS OF BULK AT MOST 1048576: true; the input reads as it did. -/
def fnExactNewChipUptoRow : OpenClaim := { program := "ytceidhlcbbikcal", sum := "0d5833af3aad5a0bb74e6ccd37fcab950dcaabb5d0fd44a53d3219485224945c", func := "loop.example/g00223/laws.FnExactNewChip", spec := "fnExactNewChip", apart := false, narrowed := true }
def FnExactNewChipUptoSaid : Prop := fnExactNewChipUptoRow.holds Try.pinned (OpenSpec.upto fnExactNewChipSpec)

/-- 'laws.FnExactDid', WHERE WHAT IT READS IS OF BULK AT MOST 1048576: true; the input reads as it did. -/
def fnExactDidUptoRow : OpenClaim := { program := "ytceidhlcbbikcal", sum := "0d5833af3aad5a0bb74e6ccd37fcab950dcaabb5d0fd44a53d3219485224945c", func := "loop.example/g00223/laws.FnExactDid", spec := "fnExactDid", apart := false, narrowed := true }
def FnExactDidUptoSaid : Prop := fnExactDidUptoRow.holds Try.pinned (OpenSpec.upto fnExactDidSpec)

/-- 'laws.FnExactDidAll', WHERE WHAT IT READS IS OF BULK AT MOST 1048576: true; the input reads as it did. -/
def fnExactDidAllUptoRow : OpenClaim := { program := "ytceidhlcbbikcal", sum := "0d5833af3aad5a0bb74e6ccd37fcab950dcaabb5d0fd44a53d3219485224945c", func := "loop.example/g00223/laws.FnExactDidAll", spec := "fnExactDidAll", apart := false, narrowed := true }
def FnExactDidAllUptoSaid : Prop := fnExactDidAllUptoRow.holds Try.pinned (OpenSpec.upto fnExactDidAllSpec)

end Rows
end Go.Proofs.Ytceidhlcbbikcal
