/-
  No cell of these rows narrows 'for every input' (looked for: loops, veiled, ifaces, maps, wideKeys, modest, calm, conditions, laid).
  DERIVED. THE GIVEN ROWS OF THIS SEAT. 4 by the template 'for every input the law returns true; each argument reads behind the call as it read before'; 0 by the template 'total and deterministic' (their statements: YtldcgjilafibkaiTotals.lean).
  GIVEN WITH THE SEED: the statements are not yours to turn. If you find one false, say at which input.
  Laid BY PROGRAM, IN A SANDBOX (cutbox-rows.mjs): the forced cells as the released guide's own fill.sh prints them over the translation a8d7cf647444f2d6… (all of the seat's roots in one cut). By AI agents, Wed Nov 11 2026. No macro, syntax, notation, axiom, sorry.
-/
import Derived.Test.YtldcgjilafibkaiChecked
import GoSem.Claim
import GoSem.ClaimJoined
import GoSem.ClaimMapViews
import Derived.JoinedTies
import Derived.KernelRfl
namespace Go.Proofs.Ytldcgjilafibkai
/- THE CELL 'sum', in the pinned program and in every row, IS THE sha256 OF THE DUMP (.gsa) THAT YtldcgjilafibkaiProg.lean LOADS. Nothing in Lean hashes anything: it is a label: what it is worth is what the hold of that sum in a sandbox is worth. -/
noncomputable def Try.pinned : Pinned := { name := "ytldcgjilafibkai", sum := "a8d7cf647444f2d6dd0949d1f1f0f60aa6c86f90b0512ebba778c58738ac3724", checked := Try.checked }
namespace Rows
def none {H : Type} : Left H := { results := [], args := [] }

/-- 'laws.FnExactChecked': WHATEVER THE INPUT: true; the input reads as it did. -/
def fnExactCheckedSpec : ChangeSpec := { name := "fnExactChecked", fn := fun _ => fun
  | [d] => { results := [.lit (.bool true)], args := [d] }
  | _ => none }
def fnExactCheckedRow : OpenClaim := { program := "ytldcgjilafibkai", sum := "a8d7cf647444f2d6dd0949d1f1f0f60aa6c86f90b0512ebba778c58738ac3724", func := "loop.example/g00223/laws.FnExactChecked", spec := "fnExactChecked", unfollowed := true, recurses := true, apart := false }
def FnExactCheckedSaid : Prop := fnExactCheckedRow.holds Try.pinned (OpenSpec.ofChange fnExactCheckedSpec)

/-- ITS FALSE NEIGHBOUR: 'it returns false'. Refute it at one input. -/
def fnExactCheckedWrong : ChangeSpec := { name := "fnExactChecked", fn := fun _ => fun
  | [d] => { results := [.lit (.bool false)], args := [d] }
  | _ => none }
def FnExactCheckedWrongFalsely : Prop := fnExactCheckedRow.holds Try.pinned (OpenSpec.ofChange fnExactCheckedWrong)

/-- 'laws.FnExactWhole': WHATEVER THE INPUT: true; the input reads as it did. -/
def fnExactWholeSpec : ChangeSpec := { name := "fnExactWhole", fn := fun _ => fun
  | [d] => { results := [.lit (.bool true)], args := [d] }
  | _ => none }
def fnExactWholeRow : OpenClaim := { program := "ytldcgjilafibkai", sum := "a8d7cf647444f2d6dd0949d1f1f0f60aa6c86f90b0512ebba778c58738ac3724", func := "loop.example/g00223/laws.FnExactWhole", spec := "fnExactWhole", unfollowed := true, recurses := true, apart := false }
def FnExactWholeSaid : Prop := fnExactWholeRow.holds Try.pinned (OpenSpec.ofChange fnExactWholeSpec)

/-- ITS FALSE NEIGHBOUR: 'it returns false'. Refute it at one input. -/
def fnExactWholeWrong : ChangeSpec := { name := "fnExactWhole", fn := fun _ => fun
  | [d] => { results := [.lit (.bool false)], args := [d] }
  | _ => none }
def FnExactWholeWrongFalsely : Prop := fnExactWholeRow.holds Try.pinned (OpenSpec.ofChange fnExactWholeWrong)

/-- 'laws.FnExactSmeared': WHATEVER THE INPUT: true; the input reads as it did. -/
def fnExactSmearedSpec : ChangeSpec := { name := "fnExactSmeared", fn := fun _ => fun
  | [d1, d2, d3] => { results := [.lit (.bool true)], args := [d1, d2, d3] }
  | _ => none }
def fnExactSmearedRow : OpenClaim := { program := "ytldcgjilafibkai", sum := "a8d7cf647444f2d6dd0949d1f1f0f60aa6c86f90b0512ebba778c58738ac3724", func := "loop.example/g00223/laws.FnExactSmeared", spec := "fnExactSmeared", apart := false }
def FnExactSmearedSaid : Prop := fnExactSmearedRow.holds Try.pinned (OpenSpec.ofChange fnExactSmearedSpec)

/-- ITS FALSE NEIGHBOUR: 'it returns false'. Refute it at one input. -/
def fnExactSmearedWrong : ChangeSpec := { name := "fnExactSmeared", fn := fun _ => fun
  | [d1, d2, d3] => { results := [.lit (.bool false)], args := [d1, d2, d3] }
  | _ => none }
def FnExactSmearedWrongFalsely : Prop := fnExactSmearedRow.holds Try.pinned (OpenSpec.ofChange fnExactSmearedWrong)

/-- 'laws.FnExactOdd': WHATEVER THE INPUT: true; the input reads as it did. -/
def fnExactOddSpec : ChangeSpec := { name := "fnExactOdd", fn := fun _ => fun
  | [d] => { results := [.lit (.bool true)], args := [d] }
  | _ => none }
def fnExactOddRow : OpenClaim := { program := "ytldcgjilafibkai", sum := "a8d7cf647444f2d6dd0949d1f1f0f60aa6c86f90b0512ebba778c58738ac3724", func := "loop.example/g00223/laws.FnExactOdd", spec := "fnExactOdd", unfollowed := true, recurses := true, apart := false }
def FnExactOddSaid : Prop := fnExactOddRow.holds Try.pinned (OpenSpec.ofChange fnExactOddSpec)

/-- ITS FALSE NEIGHBOUR: 'it returns false'. Refute it at one input. -/
def fnExactOddWrong : ChangeSpec := { name := "fnExactOdd", fn := fun _ => fun
  | [d] => { results := [.lit (.bool false)], args := [d] }
  | _ => none }
def FnExactOddWrongFalsely : Prop := fnExactOddRow.holds Try.pinned (OpenSpec.ofChange fnExactOddWrong)

/- THE SECOND FORM. 'bulk': how many values and letters a reading holds, each counted each time it is reached (what is shared counts as often as it is met; a slice's spare places count too). A statement '..UptoSaid' is the law's where the arguments, and the package variables that the reading takes, are together of bulk at most 1048576: NARROWER than '..Said'. Prove '..Said' where nothing that the law and all that it calls make is longer than what came in: it says more and counts as full. Else prove '..UptoSaid'. A law counts once. -/
mutual
def uptoBulk {H : Type} : DataW H → Nat
  | .lit (.string bytes) => bytes.length + 1
  | .lit _ => 1
  | .nil => 1
  | .ptr d => uptoBulk d + 1
  | .slice elems spare => uptoBulkAll elems + uptoBulkAll spare + 1
  | .agg parts => uptoBulkAll parts + 1
  | .iface _ d => uptoBulk d + 1
  | .map entries => uptoBulkEntries entries + 1
  | .held _ => 1
def uptoBulkAll {H : Type} : List (DataW H) → Nat
  | [] => 0
  | d :: r => uptoBulk d + uptoBulkAll r
def uptoBulkEntries {H : Type} : List (Lit × DataW H) → Nat
  | [] => 0
  | x :: r => uptoBulkEntry x + uptoBulkEntries r
def uptoBulkEntry {H : Type} : Lit × DataW H → Nat
  | (.string bytes, d) => bytes.length + uptoBulk d + 1
  | (_, d) => uptoBulk d + 1
 end
def uptoSmall : (H : Type) → List (DataW H) → Bool := fun _ ds => decide (uptoBulkAll ds ≤ 1048576)
def OpenSpec.upto (s : _root_.Go.ChangeSpec) : _root_.Go.OpenSpec := { _root_.Go.OpenSpec.ofChange s with cond := some uptoSmall }

/-- 'laws.FnExactChecked', WHERE WHAT IT READS IS OF BULK AT MOST 1048576: true; the input reads as it did. -/
def fnExactCheckedUptoRow : OpenClaim := { program := "ytldcgjilafibkai", sum := "a8d7cf647444f2d6dd0949d1f1f0f60aa6c86f90b0512ebba778c58738ac3724", func := "loop.example/g00223/laws.FnExactChecked", spec := "fnExactChecked", unfollowed := true, recurses := true, apart := false, narrowed := true }
def FnExactCheckedUptoSaid : Prop := fnExactCheckedUptoRow.holds Try.pinned (OpenSpec.upto fnExactCheckedSpec)

/-- 'laws.FnExactWhole', WHERE WHAT IT READS IS OF BULK AT MOST 1048576: true; the input reads as it did. -/
def fnExactWholeUptoRow : OpenClaim := { program := "ytldcgjilafibkai", sum := "a8d7cf647444f2d6dd0949d1f1f0f60aa6c86f90b0512ebba778c58738ac3724", func := "loop.example/g00223/laws.FnExactWhole", spec := "fnExactWhole", unfollowed := true, recurses := true, apart := false, narrowed := true }
def FnExactWholeUptoSaid : Prop := fnExactWholeUptoRow.holds Try.pinned (OpenSpec.upto fnExactWholeSpec)

/-- 'laws.FnExactSmeared', WHERE WHAT IT READS IS OF BULK AT MOST 1048576: true; the input reads as it did. -/
def fnExactSmearedUptoRow : OpenClaim := { program := "ytldcgjilafibkai", sum := "a8d7cf647444f2d6dd0949d1f1f0f60aa6c86f90b0512ebba778c58738ac3724", func := "loop.example/g00223/laws.FnExactSmeared", spec := "fnExactSmeared", apart := false, narrowed := true }
def FnExactSmearedUptoSaid : Prop := fnExactSmearedUptoRow.holds Try.pinned (OpenSpec.upto fnExactSmearedSpec)

/-- 'laws.FnExactOdd', WHERE WHAT IT READS IS OF BULK AT MOST 1048576: true; the input reads as it did. -/
def fnExactOddUptoRow : OpenClaim := { program := "ytldcgjilafibkai", sum := "a8d7cf647444f2d6dd0949d1f1f0f60aa6c86f90b0512ebba778c58738ac3724", func := "loop.example/g00223/laws.FnExactOdd", spec := "fnExactOdd", unfollowed := true, recurses := true, apart := false, narrowed := true }
def FnExactOddUptoSaid : Prop := fnExactOddUptoRow.holds Try.pinned (OpenSpec.upto fnExactOddSpec)

end Rows
end Go.Proofs.Ytldcgjilafibkai
