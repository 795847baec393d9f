/-
  DERIVED. GIVEN WITH THE SEED: THE CARDS: each row of YtoocbagnfkgbfaaGreatDoorRows.lean that lists a variable, with what it lists TIED to the program's text (the seventh form; the later family's looks); each row that meets fmt, with fmt's text TOLD by the authors' own Lean function (tested against real Go, not proved from fmt's source: count such statements apart). THE CARD IS WHAT COUNTS. Prove the row's statement (the work); the ties are given (YtoocbagnfkgbfaaGreatDoorTie.lean); close each card by the builder's one call (the guide's Derived/Test/ToyasCard.lean, 'card_holds'). Laid BY PROGRAM, IN A SANDBOX (cutbox-door.mjs). By AI agents, Wed Nov 11 2026. No macro, syntax, notation, axiom, sorry.
-/
import Derived.Test.YtoocbagnfkgbfaaGreatDoorRows
import GoSem.ClaimSeven
namespace Go.Proofs.YtoocbagnfkgbfaaGreatDoor
namespace Rows

/-- THE TIED CARD OF 'laws.FnEntered'. -/
def fnEnteredCard : Claim7 := { stood := { row := fnEnteredRow, standIns := [], harness := (true, "f9a53466ce9bf2a0c942e031ff0b832b40a887fa496e6021b527b08701429cc0"), looks := true }, kinds := [], alts := [], laidByText := true, laidKinds := [.handle, .data, .sentinel, .sentinel, .sentinel, .sentinel, .sentinel, .sentinel], laidTests := true, laidLooks := .later }
def FnEnteredCardSaid : Prop := Claim7.holds Tryz.pinned (.plain (OpenSpec.ofChange fnEnteredSpec)) fnEnteredCard

/-- THE TIED CARD OF 'laws.FnBroken'. -/
def fnBrokenCard : Claim7 := { stood := { row := fnBrokenRow, standIns := [], harness := (true, "f9a53466ce9bf2a0c942e031ff0b832b40a887fa496e6021b527b08701429cc0"), looks := true }, kinds := [], alts := [], laidByText := true, laidKinds := [.handle, .data, .sentinel, .sentinel, .sentinel, .sentinel, .sentinel, .sentinel], laidTests := true, laidLooks := .later }
def FnBrokenCardSaid : Prop := Claim7.holds Tryz.pinned (.plain (OpenSpec.ofChange fnBrokenSpec)) fnBrokenCard

/-- THE TIED CARD OF 'laws.FnMounted'. -/
def fnMountedCard : Claim7 := { stood := { row := fnMountedRow, standIns := [], harness := (true, "f9a53466ce9bf2a0c942e031ff0b832b40a887fa496e6021b527b08701429cc0"), looks := true }, kinds := [], alts := [], laidByText := true, laidKinds := [.handle, .data, .sentinel, .sentinel, .sentinel, .sentinel, .sentinel, .sentinel], laidTests := true, laidLooks := .later }
def FnMountedCardSaid : Prop := Claim7.holds Tryz.pinned (.plain (OpenSpec.ofChange fnMountedSpec)) fnMountedCard

/-- THE TIED CARD OF 'laws.FnScrubbed'. -/
def fnScrubbedCard : Claim7 := { stood := { row := fnScrubbedRow, standIns := [], harness := (true, "f9a53466ce9bf2a0c942e031ff0b832b40a887fa496e6021b527b08701429cc0"), looks := true }, kinds := [], alts := [], laidByText := true, laidKinds := [.handle, .data, .sentinel, .sentinel, .sentinel, .sentinel, .sentinel, .sentinel], laidTests := true, laidLooks := .later }
def FnScrubbedCardSaid : Prop := Claim7.holds Tryz.pinned (.plain (OpenSpec.ofChange fnScrubbedSpec)) fnScrubbedCard

/-- THE TIED CARD OF 'laws.FnExactGet'. -/
def fnExactGetCard : Claim7 := { stood := { row := fnExactGetRow, standIns := [], harness := (true, "f9a53466ce9bf2a0c942e031ff0b832b40a887fa496e6021b527b08701429cc0"), looks := true }, kinds := [], alts := [], laidByText := true, laidKinds := [.handle, .data, .sentinel, .sentinel, .sentinel, .sentinel, .sentinel], laidTests := true, laidLooks := .later }
def FnExactGetCardSaid : Prop := Claim7.holds Tryz.pinned (.plain (OpenSpec.ofChange fnExactGetSpec)) fnExactGetCard

/-- THE TIED CARD OF 'laws.FnExactMount'. -/
def fnExactMountCard : Claim7 := { stood := { row := fnExactMountRow, standIns := [], harness := (true, "f9a53466ce9bf2a0c942e031ff0b832b40a887fa496e6021b527b08701429cc0"), looks := true }, kinds := [], alts := [], laidByText := true, laidKinds := [.handle, .data, .sentinel, .sentinel, .sentinel, .sentinel, .sentinel], laidTests := true, laidLooks := .later }
def FnExactMountCardSaid : Prop := Claim7.holds Tryz.pinned (.plain (OpenSpec.ofChange fnExactMountSpec)) fnExactMountCard

/-- THE TIED CARD OF 'laws.FnExactBroken'. -/
def fnExactBrokenCard : Claim7 := { stood := { row := fnExactBrokenRow, standIns := [], harness := (true, "f9a53466ce9bf2a0c942e031ff0b832b40a887fa496e6021b527b08701429cc0"), looks := true }, kinds := [], alts := [], laidByText := true, laidKinds := [.handle, .data, .sentinel, .sentinel, .sentinel, .sentinel, .sentinel, .sentinel], laidTests := true, laidLooks := .later }
def FnExactBrokenCardSaid : Prop := Claim7.holds Tryz.pinned (.plain (OpenSpec.ofChange fnExactBrokenSpec)) fnExactBrokenCard

/-- THE TIED CARD OF 'laws.FnExactSame'. -/
def fnExactSameCard : Claim7 := { stood := { row := fnExactSameRow, standIns := [], harness := (true, "f9a53466ce9bf2a0c942e031ff0b832b40a887fa496e6021b527b08701429cc0"), looks := true }, kinds := [], alts := [], laidByText := true, laidKinds := [.handle, .data, .sentinel, .sentinel, .sentinel, .sentinel, .sentinel], laidTests := true, laidLooks := .later }
def FnExactSameCardSaid : Prop := Claim7.holds Tryz.pinned (.plain (OpenSpec.ofChange fnExactSameSpec)) fnExactSameCard

/-- THE TIED CARD OF 'laws.FnExactRotten'. -/
def fnExactRottenCard : Claim7 := { stood := { row := fnExactRottenRow, standIns := [], harness := (true, "f9a53466ce9bf2a0c942e031ff0b832b40a887fa496e6021b527b08701429cc0"), looks := true }, kinds := [], alts := [], laidByText := true, laidKinds := [.handle, .data, .sentinel, .sentinel, .sentinel, .sentinel, .sentinel], laidTests := true, laidLooks := .later }
def FnExactRottenCardSaid : Prop := Claim7.holds Tryz.pinned (.plain (OpenSpec.ofChange fnExactRottenSpec)) fnExactRottenCard

/-- THE TIED CARD OF 'laws.FnExactScrubbed'. -/
def fnExactScrubbedCard : Claim7 := { stood := { row := fnExactScrubbedRow, standIns := [], harness := (true, "f9a53466ce9bf2a0c942e031ff0b832b40a887fa496e6021b527b08701429cc0"), looks := true }, kinds := [], alts := [], laidByText := true, laidKinds := [.handle, .data, .sentinel, .sentinel, .sentinel, .sentinel, .sentinel, .sentinel], laidTests := true, laidLooks := .later }
def FnExactScrubbedCardSaid : Prop := Claim7.holds Tryz.pinned (.plain (OpenSpec.ofChange fnExactScrubbedSpec)) fnExactScrubbedCard

/-- THE SECOND FORM's CARD OF 'laws.FnEntered'. -/
def fnEnteredUptoCard : Claim7 := { stood := { row := fnEnteredUptoRow, standIns := [], harness := (true, "f9a53466ce9bf2a0c942e031ff0b832b40a887fa496e6021b527b08701429cc0"), looks := true }, kinds := [], alts := [], laidByText := true, laidKinds := [.handle, .data, .sentinel, .sentinel, .sentinel, .sentinel, .sentinel, .sentinel], laidTests := true, laidLooks := .later }
def FnEnteredUptoCardSaid : Prop := Claim7.holds Tryz.pinned (.plain (OpenSpec.upto fnEnteredSpec)) fnEnteredUptoCard

/-- THE SECOND FORM's CARD OF 'laws.FnBroken'. -/
def fnBrokenUptoCard : Claim7 := { stood := { row := fnBrokenUptoRow, standIns := [], harness := (true, "f9a53466ce9bf2a0c942e031ff0b832b40a887fa496e6021b527b08701429cc0"), looks := true }, kinds := [], alts := [], laidByText := true, laidKinds := [.handle, .data, .sentinel, .sentinel, .sentinel, .sentinel, .sentinel, .sentinel], laidTests := true, laidLooks := .later }
def FnBrokenUptoCardSaid : Prop := Claim7.holds Tryz.pinned (.plain (OpenSpec.upto fnBrokenSpec)) fnBrokenUptoCard

/-- THE SECOND FORM's CARD OF 'laws.FnMounted'. -/
def fnMountedUptoCard : Claim7 := { stood := { row := fnMountedUptoRow, standIns := [], harness := (true, "f9a53466ce9bf2a0c942e031ff0b832b40a887fa496e6021b527b08701429cc0"), looks := true }, kinds := [], alts := [], laidByText := true, laidKinds := [.handle, .data, .sentinel, .sentinel, .sentinel, .sentinel, .sentinel, .sentinel], laidTests := true, laidLooks := .later }
def FnMountedUptoCardSaid : Prop := Claim7.holds Tryz.pinned (.plain (OpenSpec.upto fnMountedSpec)) fnMountedUptoCard

/-- THE SECOND FORM's CARD OF 'laws.FnScrubbed'. -/
def fnScrubbedUptoCard : Claim7 := { stood := { row := fnScrubbedUptoRow, standIns := [], harness := (true, "f9a53466ce9bf2a0c942e031ff0b832b40a887fa496e6021b527b08701429cc0"), looks := true }, kinds := [], alts := [], laidByText := true, laidKinds := [.handle, .data, .sentinel, .sentinel, .sentinel, .sentinel, .sentinel, .sentinel], laidTests := true, laidLooks := .later }
def FnScrubbedUptoCardSaid : Prop := Claim7.holds Tryz.pinned (.plain (OpenSpec.upto fnScrubbedSpec)) fnScrubbedUptoCard

/-- THE SECOND FORM's CARD OF 'laws.FnExactGet'. -/
def fnExactGetUptoCard : Claim7 := { stood := { row := fnExactGetUptoRow, standIns := [], harness := (true, "f9a53466ce9bf2a0c942e031ff0b832b40a887fa496e6021b527b08701429cc0"), looks := true }, kinds := [], alts := [], laidByText := true, laidKinds := [.handle, .data, .sentinel, .sentinel, .sentinel, .sentinel, .sentinel], laidTests := true, laidLooks := .later }
def FnExactGetUptoCardSaid : Prop := Claim7.holds Tryz.pinned (.plain (OpenSpec.upto fnExactGetSpec)) fnExactGetUptoCard

/-- THE SECOND FORM's CARD OF 'laws.FnExactMount'. -/
def fnExactMountUptoCard : Claim7 := { stood := { row := fnExactMountUptoRow, standIns := [], harness := (true, "f9a53466ce9bf2a0c942e031ff0b832b40a887fa496e6021b527b08701429cc0"), looks := true }, kinds := [], alts := [], laidByText := true, laidKinds := [.handle, .data, .sentinel, .sentinel, .sentinel, .sentinel, .sentinel], laidTests := true, laidLooks := .later }
def FnExactMountUptoCardSaid : Prop := Claim7.holds Tryz.pinned (.plain (OpenSpec.upto fnExactMountSpec)) fnExactMountUptoCard

/-- THE SECOND FORM's CARD OF 'laws.FnExactBroken'. -/
def fnExactBrokenUptoCard : Claim7 := { stood := { row := fnExactBrokenUptoRow, standIns := [], harness := (true, "f9a53466ce9bf2a0c942e031ff0b832b40a887fa496e6021b527b08701429cc0"), looks := true }, kinds := [], alts := [], laidByText := true, laidKinds := [.handle, .data, .sentinel, .sentinel, .sentinel, .sentinel, .sentinel, .sentinel], laidTests := true, laidLooks := .later }
def FnExactBrokenUptoCardSaid : Prop := Claim7.holds Tryz.pinned (.plain (OpenSpec.upto fnExactBrokenSpec)) fnExactBrokenUptoCard

/-- THE SECOND FORM's CARD OF 'laws.FnExactSame'. -/
def fnExactSameUptoCard : Claim7 := { stood := { row := fnExactSameUptoRow, standIns := [], harness := (true, "f9a53466ce9bf2a0c942e031ff0b832b40a887fa496e6021b527b08701429cc0"), looks := true }, kinds := [], alts := [], laidByText := true, laidKinds := [.handle, .data, .sentinel, .sentinel, .sentinel, .sentinel, .sentinel], laidTests := true, laidLooks := .later }
def FnExactSameUptoCardSaid : Prop := Claim7.holds Tryz.pinned (.plain (OpenSpec.upto fnExactSameSpec)) fnExactSameUptoCard

/-- THE SECOND FORM's CARD OF 'laws.FnExactRotten'. -/
def fnExactRottenUptoCard : Claim7 := { stood := { row := fnExactRottenUptoRow, standIns := [], harness := (true, "f9a53466ce9bf2a0c942e031ff0b832b40a887fa496e6021b527b08701429cc0"), looks := true }, kinds := [], alts := [], laidByText := true, laidKinds := [.handle, .data, .sentinel, .sentinel, .sentinel, .sentinel, .sentinel], laidTests := true, laidLooks := .later }
def FnExactRottenUptoCardSaid : Prop := Claim7.holds Tryz.pinned (.plain (OpenSpec.upto fnExactRottenSpec)) fnExactRottenUptoCard

/-- THE SECOND FORM's CARD OF 'laws.FnExactScrubbed'. -/
def fnExactScrubbedUptoCard : Claim7 := { stood := { row := fnExactScrubbedUptoRow, standIns := [], harness := (true, "f9a53466ce9bf2a0c942e031ff0b832b40a887fa496e6021b527b08701429cc0"), looks := true }, kinds := [], alts := [], laidByText := true, laidKinds := [.handle, .data, .sentinel, .sentinel, .sentinel, .sentinel, .sentinel, .sentinel], laidTests := true, laidLooks := .later }
def FnExactScrubbedUptoCardSaid : Prop := Claim7.holds Tryz.pinned (.plain (OpenSpec.upto fnExactScrubbedSpec)) fnExactScrubbedUptoCard
end Rows
end Go.Proofs.YtoocbagnfkgbfaaGreatDoor
