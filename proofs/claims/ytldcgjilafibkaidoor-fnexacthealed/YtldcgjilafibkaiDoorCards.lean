/-
  DERIVED. GIVEN WITH THE SEED: THE CARDS: each row of YtldcgjilafibkaiDoorRows.lean that lists a variable, with what it lists TIED to the program's text (the seventh form; the later family's looks); each row that meets fmt, with fmt's text TOLD by the authors' own Lean function (tested against real Go, not proved from fmt's source: count such statements apart). THE CARD IS WHAT COUNTS. Prove the row's statement (the work); the ties are given (YtldcgjilafibkaiDoorTie.lean); close each card by the builder's one call (the guide's Derived/Test/ToyasCard.lean, 'card_holds'). Laid BY PROGRAM, IN A SANDBOX (cutbox-door.mjs). By AI agents, Wed Nov 11 2026. No macro, syntax, notation, axiom, sorry.
-/
import Derived.Test.YtldcgjilafibkaiDoorRows
import GoSem.ClaimSeven
namespace Go.Proofs.YtldcgjilafibkaiDoor
namespace Rows

/-- THE TIED CARD OF 'laws.FnExactSpread'. -/
def fnExactSpreadCard : Claim7 := { stood := { row := fnExactSpreadRow, standIns := [], harness := (true, "7287d85b7c2fc0a80d6f6d8e59b7ca3335fb85c14db885697589497ae53bf882"), looks := false }, kinds := [], alts := [], laidByText := true, laidKinds := [.data], laidTests := true, laidLooks := .later }
def FnExactSpreadCardSaid : Prop := Claim7.holds Tryd.pinned (.plain (OpenSpec.ofChange fnExactSpreadSpec)) fnExactSpreadCard

/-- THE TIED CARD OF 'laws.FnExactHealed'. -/
def fnExactHealedCard : Claim7 := { stood := { row := fnExactHealedRow, standIns := [], harness := (true, "7287d85b7c2fc0a80d6f6d8e59b7ca3335fb85c14db885697589497ae53bf882"), looks := false }, kinds := [], alts := [], laidByText := true, laidKinds := [.data], laidTests := true, laidLooks := .later }
def FnExactHealedCardSaid : Prop := Claim7.holds Tryd.pinned (.plain (OpenSpec.ofChange fnExactHealedSpec)) fnExactHealedCard

/-- THE SECOND FORM's CARD OF 'laws.FnExactSpread'. -/
def fnExactSpreadUptoCard : Claim7 := { stood := { row := fnExactSpreadUptoRow, standIns := [], harness := (true, "7287d85b7c2fc0a80d6f6d8e59b7ca3335fb85c14db885697589497ae53bf882"), looks := false }, kinds := [], alts := [], laidByText := true, laidKinds := [.data], laidTests := true, laidLooks := .later }
def FnExactSpreadUptoCardSaid : Prop := Claim7.holds Tryd.pinned (.plain (OpenSpec.upto fnExactSpreadSpec)) fnExactSpreadUptoCard

/-- THE SECOND FORM's CARD OF 'laws.FnExactHealed'. -/
def fnExactHealedUptoCard : Claim7 := { stood := { row := fnExactHealedUptoRow, standIns := [], harness := (true, "7287d85b7c2fc0a80d6f6d8e59b7ca3335fb85c14db885697589497ae53bf882"), looks := false }, kinds := [], alts := [], laidByText := true, laidKinds := [.data], laidTests := true, laidLooks := .later }
def FnExactHealedUptoCardSaid : Prop := Claim7.holds Tryd.pinned (.plain (OpenSpec.upto fnExactHealedSpec)) fnExactHealedUptoCard
end Rows
end Go.Proofs.YtldcgjilafibkaiDoor
