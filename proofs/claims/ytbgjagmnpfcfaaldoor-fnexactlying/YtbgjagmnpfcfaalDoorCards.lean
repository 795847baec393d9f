/-
  DERIVED. GIVEN WITH THE SEED: THE CARDS: each row of YtbgjagmnpfcfaalDoorRows.lean that lists a variable, with what it lists TIED to the program's text (the seventh form; the later family's looks); each row that meets fmt, with fmt's text TOLD by the authors' own Lean function (tested against real Go, not proved from fmt's source: count such statements apart). THE CARD IS WHAT COUNTS. Prove the row's statement (the work); the ties are given (YtbgjagmnpfcfaalDoorTie.lean); close each card by the builder's one call (the guide's Derived/Test/ToyasCard.lean, 'card_holds'). Laid BY PROGRAM, IN A SANDBOX (cutbox-door.mjs). By AI agents, Wed Nov 11 2026. No macro, syntax, notation, axiom, sorry.
-/
import Derived.Test.YtbgjagmnpfcfaalDoorRows
import GoSem.ClaimSeven
namespace Go.Proofs.YtbgjagmnpfcfaalDoor
namespace Rows

/-- THE TIED CARD OF 'laws.FnExactLying'. -/
def fnExactLyingCard : Claim7 := { stood := { row := fnExactLyingRow, standIns := [], harness := (true, "84240b5e42b23c7291ed62e6a67986405356592a22519ea0a81bb2d8e263bd8a"), looks := true }, kinds := [], alts := [], laidByText := true, laidKinds := [.handle, .data, .sentinel, .sentinel, .sentinel, .sentinel, .sentinel], laidTests := true, laidLooks := .later }
def FnExactLyingCardSaid : Prop := Claim7.holds Tryd.pinned (.plain (OpenSpec.ofChange fnExactLyingSpec)) fnExactLyingCard

/-- THE SECOND FORM's CARD OF 'laws.FnExactLying'. -/
def fnExactLyingUptoCard : Claim7 := { stood := { row := fnExactLyingUptoRow, standIns := [], harness := (true, "84240b5e42b23c7291ed62e6a67986405356592a22519ea0a81bb2d8e263bd8a"), looks := true }, kinds := [], alts := [], laidByText := true, laidKinds := [.handle, .data, .sentinel, .sentinel, .sentinel, .sentinel, .sentinel], laidTests := true, laidLooks := .later }
def FnExactLyingUptoCardSaid : Prop := Claim7.holds Tryd.pinned (.plain (OpenSpec.upto fnExactLyingSpec)) fnExactLyingUptoCard
end Rows
end Go.Proofs.YtbgjagmnpfcfaalDoor
