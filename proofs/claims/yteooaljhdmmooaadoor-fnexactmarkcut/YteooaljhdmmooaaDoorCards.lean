/-
  DERIVED. GIVEN WITH THE SEED: THE CARDS: each row of YteooaljhdmmooaaDoorRows.lean that lists a variable, with what it lists TIED to the program's text (the seventh form; the later family's looks); each row that meets fmt, with fmt's text TOLD by the authors' own Lean function (tested against real Go, not proved from fmt's source: count such statements apart). THE CARD IS WHAT COUNTS. Prove the row's statement (the work); the ties are given (YteooaljhdmmooaaDoorTie.lean); close each card by the builder's one call (the guide's Derived/Test/ToyasCard.lean, 'card_holds'). Laid BY PROGRAM, IN A SANDBOX (cutbox-door.mjs). By AI agents, Wed Nov 11 2026. No macro, syntax, notation, axiom, sorry.
-/
import Derived.Test.YteooaljhdmmooaaDoorRows
import GoSem.ClaimSeven
namespace Go.Proofs.YteooaljhdmmooaaDoor
namespace Rows

/-- THE TIED CARD OF 'laws.FnExactShowMark'. -/
def fnExactShowMarkCard : Claim7 := { stood := { row := fnExactShowMarkRow, standIns := [], harness := (true, "f0644adf2f7533aa28229296e026f2927b52d7c384487479090245bc15f0d6b0"), looks := false }, kinds := [], alts := [], laidByText := true, laidKinds := [.data, .data, .data], laidTests := true, laidLooks := .later }
def FnExactShowMarkCardSaid : Prop := Claim7.holds Tryd.pinned (.plain (OpenSpec.ofChange fnExactShowMarkSpec)) fnExactShowMarkCard

/-- THE TIED CARD OF 'laws.FnExactMarked'. -/
def fnExactMarkedCard : Claim7 := { stood := { row := fnExactMarkedRow, standIns := [], harness := (true, "f0644adf2f7533aa28229296e026f2927b52d7c384487479090245bc15f0d6b0"), looks := false }, kinds := [], alts := [], laidByText := true, laidKinds := [.data, .data, .data], laidTests := true, laidLooks := .later }
def FnExactMarkedCardSaid : Prop := Claim7.holds Tryd.pinned (.plain (OpenSpec.ofChange fnExactMarkedSpec)) fnExactMarkedCard

/-- THE TIED CARD OF 'laws.FnExactMarkCut'. -/
def fnExactMarkCutCard : Claim7 := { stood := { row := fnExactMarkCutRow, standIns := [], harness := (true, "f0644adf2f7533aa28229296e026f2927b52d7c384487479090245bc15f0d6b0"), looks := false }, kinds := [], alts := [], laidByText := true, laidKinds := [.data, .data, .data], laidTests := true, laidLooks := .later }
def FnExactMarkCutCardSaid : Prop := Claim7.holds Tryd.pinned (.plain (OpenSpec.ofChange fnExactMarkCutSpec)) fnExactMarkCutCard

/-- THE SECOND FORM's CARD OF 'laws.FnExactShowMark'. -/
def fnExactShowMarkUptoCard : Claim7 := { stood := { row := fnExactShowMarkUptoRow, standIns := [], harness := (true, "f0644adf2f7533aa28229296e026f2927b52d7c384487479090245bc15f0d6b0"), looks := false }, kinds := [], alts := [], laidByText := true, laidKinds := [.data, .data, .data], laidTests := true, laidLooks := .later }
def FnExactShowMarkUptoCardSaid : Prop := Claim7.holds Tryd.pinned (.plain (OpenSpec.upto fnExactShowMarkSpec)) fnExactShowMarkUptoCard

/-- THE SECOND FORM's CARD OF 'laws.FnExactMarked'. -/
def fnExactMarkedUptoCard : Claim7 := { stood := { row := fnExactMarkedUptoRow, standIns := [], harness := (true, "f0644adf2f7533aa28229296e026f2927b52d7c384487479090245bc15f0d6b0"), looks := false }, kinds := [], alts := [], laidByText := true, laidKinds := [.data, .data, .data], laidTests := true, laidLooks := .later }
def FnExactMarkedUptoCardSaid : Prop := Claim7.holds Tryd.pinned (.plain (OpenSpec.upto fnExactMarkedSpec)) fnExactMarkedUptoCard

/-- THE SECOND FORM's CARD OF 'laws.FnExactMarkCut'. -/
def fnExactMarkCutUptoCard : Claim7 := { stood := { row := fnExactMarkCutUptoRow, standIns := [], harness := (true, "f0644adf2f7533aa28229296e026f2927b52d7c384487479090245bc15f0d6b0"), looks := false }, kinds := [], alts := [], laidByText := true, laidKinds := [.data, .data, .data], laidTests := true, laidLooks := .later }
def FnExactMarkCutUptoCardSaid : Prop := Claim7.holds Tryd.pinned (.plain (OpenSpec.upto fnExactMarkCutSpec)) fnExactMarkCutUptoCard
end Rows
end Go.Proofs.YteooaljhdmmooaaDoor
