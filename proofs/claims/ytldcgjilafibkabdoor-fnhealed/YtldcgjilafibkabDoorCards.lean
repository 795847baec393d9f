/-
  DERIVED. GIVEN WITH THE SEED: THE CARDS: each row of YtldcgjilafibkabDoorRows.lean that lists a variable, with what it lists TIED to the program's text (the seventh form; the later family's looks); each row that meets fmt, with fmt's text TOLD by the authors' own Lean function (tested against real Go, not proved from fmt's source: count such statements apart). THE CARD IS WHAT COUNTS. Prove the row's statement (the work); the ties are given (YtldcgjilafibkabDoorTie.lean); close each card by the builder's one call (the guide's Derived/Test/ToyasCard.lean, 'card_holds'). Laid BY PROGRAM, IN A SANDBOX (cutbox-door.mjs). By AI agents, Wed Nov 11 2026. No macro, syntax, notation, axiom, sorry.
-/
import Derived.Test.YtldcgjilafibkabDoorRows
import GoSem.ClaimSeven
namespace Go.Proofs.YtldcgjilafibkabDoor
namespace Rows

/-- THE TIED CARD OF 'laws.FnHealed'. -/
def fnHealedCard : Claim7 := { stood := { row := fnHealedRow, standIns := [], harness := (true, "600081835d79476571feee4ebb2a46ae06f9c0dcb9e910a01f83af4771a0c8d7"), looks := false }, kinds := [], alts := [], laidByText := true, laidKinds := [.data], laidTests := true, laidLooks := .later }
def FnHealedCardSaid : Prop := Claim7.holds Tryd.pinned (.plain (OpenSpec.ofChange fnHealedSpec)) fnHealedCard

/-- THE SECOND FORM's CARD OF 'laws.FnHealed'. -/
def fnHealedUptoCard : Claim7 := { stood := { row := fnHealedUptoRow, standIns := [], harness := (true, "600081835d79476571feee4ebb2a46ae06f9c0dcb9e910a01f83af4771a0c8d7"), looks := false }, kinds := [], alts := [], laidByText := true, laidKinds := [.data], laidTests := true, laidLooks := .later }
def FnHealedUptoCardSaid : Prop := Claim7.holds Tryd.pinned (.plain (OpenSpec.upto fnHealedSpec)) fnHealedUptoCard
end Rows
end Go.Proofs.YtldcgjilafibkabDoor
