/-
  DERIVED. GIVEN WITH THE SEED: THE CARDS: each row of YtldcgjilafibkajDoorRows.lean that lists a variable, with what it lists TIED to the program's text (the seventh form; the later family's looks); each row that meets fmt, with fmt's text TOLD by the authors' own Lean function (tested against real Go, not proved from fmt's source: count such statements apart). THE CARD IS WHAT COUNTS. Prove the row's statement (the work); the ties are given (YtldcgjilafibkajDoorTie.lean); close each card by the builder's one call (the guide's Derived/Test/ToyasCard.lean, 'card_holds'). Laid BY PROGRAM, IN A SANDBOX (cutbox-door.mjs). By AI agents, Wed Nov 11 2026. No macro, syntax, notation, axiom, sorry.
-/
import Derived.Test.YtldcgjilafibkajDoorRows
import GoSem.ClaimSeven
namespace Go.Proofs.YtldcgjilafibkajDoor
namespace Rows

/-- THE TIED CARD OF 'laws.FnExactSpreadAll'. -/
def fnExactSpreadAllCard : Claim7 := { stood := { row := fnExactSpreadAllRow, standIns := [], harness := (true, "7da38201d97fbd2a51fd68903bfc502eb879ad540f02e57ffed8d2e4e5d92007"), looks := false }, kinds := [], alts := [], laidByText := true, laidKinds := [.data], laidTests := true, laidLooks := .later }
def FnExactSpreadAllCardSaid : Prop := Claim7.holds Tryd.pinned (.plain (OpenSpec.ofChange fnExactSpreadAllSpec)) fnExactSpreadAllCard

/-- THE TIED CARD OF 'laws.FnExactHealedAll'. -/
def fnExactHealedAllCard : Claim7 := { stood := { row := fnExactHealedAllRow, standIns := [], harness := (true, "7da38201d97fbd2a51fd68903bfc502eb879ad540f02e57ffed8d2e4e5d92007"), looks := false }, kinds := [], alts := [], laidByText := true, laidKinds := [.data], laidTests := true, laidLooks := .later }
def FnExactHealedAllCardSaid : Prop := Claim7.holds Tryd.pinned (.plain (OpenSpec.ofChange fnExactHealedAllSpec)) fnExactHealedAllCard

/-- THE SECOND FORM's CARD OF 'laws.FnExactSpreadAll'. -/
def fnExactSpreadAllUptoCard : Claim7 := { stood := { row := fnExactSpreadAllUptoRow, standIns := [], harness := (true, "7da38201d97fbd2a51fd68903bfc502eb879ad540f02e57ffed8d2e4e5d92007"), looks := false }, kinds := [], alts := [], laidByText := true, laidKinds := [.data], laidTests := true, laidLooks := .later }
def FnExactSpreadAllUptoCardSaid : Prop := Claim7.holds Tryd.pinned (.plain (OpenSpec.upto fnExactSpreadAllSpec)) fnExactSpreadAllUptoCard

/-- THE SECOND FORM's CARD OF 'laws.FnExactHealedAll'. -/
def fnExactHealedAllUptoCard : Claim7 := { stood := { row := fnExactHealedAllUptoRow, standIns := [], harness := (true, "7da38201d97fbd2a51fd68903bfc502eb879ad540f02e57ffed8d2e4e5d92007"), looks := false }, kinds := [], alts := [], laidByText := true, laidKinds := [.data], laidTests := true, laidLooks := .later }
def FnExactHealedAllUptoCardSaid : Prop := Claim7.holds Tryd.pinned (.plain (OpenSpec.upto fnExactHealedAllSpec)) fnExactHealedAllUptoCard
end Rows
end Go.Proofs.YtldcgjilafibkajDoor
