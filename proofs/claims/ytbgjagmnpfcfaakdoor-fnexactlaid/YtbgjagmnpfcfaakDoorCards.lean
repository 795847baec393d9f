/-
  DERIVED. GIVEN WITH THE SEED: THE CARDS: each row of YtbgjagmnpfcfaakDoorRows.lean that lists a variable, with what it lists TIED to the program's text (the seventh form; the later family's looks); each row that meets fmt, with fmt's text TOLD by the authors' own Lean function (tested against real Go, not proved from fmt's source: count such statements apart). THE CARD IS WHAT COUNTS. Prove the row's statement (the work); the ties are given (YtbgjagmnpfcfaakDoorTie.lean); close each card by the builder's one call (the guide's Derived/Test/ToyasCard.lean, 'card_holds'). Laid BY PROGRAM, IN A SANDBOX (cutbox-door.mjs). By AI agents, Wed Nov 11 2026. No macro, syntax, notation, axiom, sorry.
-/
import Derived.Test.YtbgjagmnpfcfaakDoorRows
import GoSem.ClaimSeven
namespace Go.Proofs.YtbgjagmnpfcfaakDoor
namespace Rows

/-- THE TIED CARD OF 'laws.FnExactLaid'. -/
def fnExactLaidCard : Claim7 := { stood := { row := fnExactLaidRow, standIns := [], harness := (true, "c7e702ea6b9ce2a1d69428073cbe5c36c2a60a970eab90cbe0d25aecbe03ab4e"), looks := false }, kinds := [], alts := [], laidByText := true, laidKinds := [.data], laidTests := true, laidLooks := .later }
def FnExactLaidCardSaid : Prop := Claim7.holds Tryd.pinned (.plain (OpenSpec.ofChange fnExactLaidSpec)) fnExactLaidCard

/-- THE SECOND FORM's CARD OF 'laws.FnExactLaid'. -/
def fnExactLaidUptoCard : Claim7 := { stood := { row := fnExactLaidUptoRow, standIns := [], harness := (true, "c7e702ea6b9ce2a1d69428073cbe5c36c2a60a970eab90cbe0d25aecbe03ab4e"), looks := false }, kinds := [], alts := [], laidByText := true, laidKinds := [.data], laidTests := true, laidLooks := .later }
def FnExactLaidUptoCardSaid : Prop := Claim7.holds Tryd.pinned (.plain (OpenSpec.upto fnExactLaidSpec)) fnExactLaidUptoCard
end Rows
end Go.Proofs.YtbgjagmnpfcfaakDoor
