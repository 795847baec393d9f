/-
  DERIVED. GIVEN WITH THE SEED: THE CARDS: each row of YthldcfiemfccpaaDoorRows.lean that lists a variable, with what it lists TIED to the program's text (the seventh form; the later family's looks); each row that meets fmt, with fmt's text TOLD by the authors' own Lean function (tested against real Go, not proved from fmt's source: count such statements apart). THE CARD IS WHAT COUNTS. Prove the row's statement (the work); the ties are given (YthldcfiemfccpaaDoorTie.lean); close each card by the builder's one call (the guide's Derived/Test/ToyasCard.lean, 'card_holds'). Laid BY PROGRAM, IN A SANDBOX (cutbox-door.mjs). By AI agents, Wed Nov 11 2026. No macro, syntax, notation, axiom, sorry.
-/
import Derived.Test.YthldcfiemfccpaaDoorRows
import GoSem.ClaimSeven
namespace Go.Proofs.YthldcfiemfccpaaDoor
namespace Rows

/-- THE TIED CARD OF 'laws.FnExactShowNote'. -/
def fnExactShowNoteCard : Claim7 := { stood := { row := fnExactShowNoteRow, standIns := [], harness := (true, "834dde8f51892168c46f963defbd822ee8d99fc5e759d1809fe311800235b541"), looks := true }, kinds := [], alts := [], laidByText := true, laidKinds := [.data, .data, .data], laidTests := true, laidLooks := .later }
def FnExactShowNoteCardSaid : Prop := Claim7.holds Tryd.pinned (.plain (OpenSpec.ofChange fnExactShowNoteSpec)) fnExactShowNoteCard

/-- THE TIED CARD OF 'laws.FnExactReadNote'. -/
def fnExactReadNoteCard : Claim7 := { stood := { row := fnExactReadNoteRow, standIns := [], harness := (true, "834dde8f51892168c46f963defbd822ee8d99fc5e759d1809fe311800235b541"), looks := true }, kinds := [], alts := [], laidByText := true, laidKinds := [.data, .data, .data, .sentinel, .sentinel], laidTests := true, laidLooks := .later }
def FnExactReadNoteCardSaid : Prop := Claim7.holds Tryd.pinned (.plain (OpenSpec.ofChange fnExactReadNoteSpec)) fnExactReadNoteCard

/-- THE SECOND FORM's CARD OF 'laws.FnExactShowNote'. -/
def fnExactShowNoteUptoCard : Claim7 := { stood := { row := fnExactShowNoteUptoRow, standIns := [], harness := (true, "834dde8f51892168c46f963defbd822ee8d99fc5e759d1809fe311800235b541"), looks := true }, kinds := [], alts := [], laidByText := true, laidKinds := [.data, .data, .data], laidTests := true, laidLooks := .later }
def FnExactShowNoteUptoCardSaid : Prop := Claim7.holds Tryd.pinned (.plain (OpenSpec.upto fnExactShowNoteSpec)) fnExactShowNoteUptoCard

/-- THE SECOND FORM's CARD OF 'laws.FnExactReadNote'. -/
def fnExactReadNoteUptoCard : Claim7 := { stood := { row := fnExactReadNoteUptoRow, standIns := [], harness := (true, "834dde8f51892168c46f963defbd822ee8d99fc5e759d1809fe311800235b541"), looks := true }, kinds := [], alts := [], laidByText := true, laidKinds := [.data, .data, .data, .sentinel, .sentinel], laidTests := true, laidLooks := .later }
def FnExactReadNoteUptoCardSaid : Prop := Claim7.holds Tryd.pinned (.plain (OpenSpec.upto fnExactReadNoteSpec)) fnExactReadNoteUptoCard
end Rows
end Go.Proofs.YthldcfiemfccpaaDoor
