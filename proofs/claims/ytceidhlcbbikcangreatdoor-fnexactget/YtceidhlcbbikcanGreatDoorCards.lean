/-
  DERIVED. GIVEN WITH THE SEED: THE CARDS: each row of YtceidhlcbbikcanGreatDoorRows.lean that lists a variable, with what it lists TIED to the program's text (the seventh form; the later family's looks); each row that meets fmt, with fmt's text TOLD by the authors' own Lean function (tested against real Go, not proved from fmt's source: count such statements apart). THE CARD IS WHAT COUNTS. Prove the row's statement (the work); the ties are given (YtceidhlcbbikcanGreatDoorTie.lean); close each card by the builder's one call (the guide's Derived/Test/ToyasCard.lean, 'card_holds'). Laid BY PROGRAM, IN A SANDBOX (cutbox-door.mjs). By AI agents, Wed Nov 11 2026. No macro, syntax, notation, axiom, sorry.
-/
import Derived.Test.YtceidhlcbbikcanGreatDoorRows
import GoSem.ClaimSeven
namespace Go.Proofs.YtceidhlcbbikcanGreatDoor
namespace Rows

/-- THE TIED CARD OF 'laws.FnExactFtlOk'. -/
def fnExactFtlOkCard : Claim7 := { stood := { row := fnExactFtlOkRow, standIns := [], harness := (true, "405d1cecf0e98cdb348cdb4a67f541c1dffcda548b23cafe64aa50b8834cf2ae"), looks := true }, kinds := [], alts := [], laidByText := true, laidKinds := [.handle, .data, .sentinel, .sentinel, .sentinel, .sentinel, .sentinel], laidTests := true, laidLooks := .later }
def FnExactFtlOkCardSaid : Prop := Claim7.holds Tryz.pinned (.plain (OpenSpec.ofChange fnExactFtlOkSpec)) fnExactFtlOkCard

/-- THE TIED CARD OF 'laws.FnExactGet'. -/
def fnExactGetCard : Claim7 := { stood := { row := fnExactGetRow, standIns := [], harness := (true, "405d1cecf0e98cdb348cdb4a67f541c1dffcda548b23cafe64aa50b8834cf2ae"), looks := true }, kinds := [], alts := [], laidByText := true, laidKinds := [.handle, .data, .sentinel, .sentinel, .sentinel, .sentinel, .sentinel], laidTests := true, laidLooks := .later }
def FnExactGetCardSaid : Prop := Claim7.holds Tryz.pinned (.plain (OpenSpec.ofChange fnExactGetSpec)) fnExactGetCard

/-- THE TIED CARD OF 'laws.FnExactPlan'. -/
def fnExactPlanCard : Claim7 := { stood := { row := fnExactPlanRow, standIns := [], harness := (true, "405d1cecf0e98cdb348cdb4a67f541c1dffcda548b23cafe64aa50b8834cf2ae"), looks := true }, kinds := [], alts := [], laidByText := true, laidKinds := [.handle, .data, .sentinel, .sentinel, .sentinel, .sentinel, .sentinel, .sentinel], laidTests := true, laidLooks := .later }
def FnExactPlanCardSaid : Prop := Claim7.holds Tryz.pinned (.plain (OpenSpec.ofChange fnExactPlanSpec)) fnExactPlanCard

/-- THE SECOND FORM's CARD OF 'laws.FnExactFtlOk'. -/
def fnExactFtlOkUptoCard : Claim7 := { stood := { row := fnExactFtlOkUptoRow, standIns := [], harness := (true, "405d1cecf0e98cdb348cdb4a67f541c1dffcda548b23cafe64aa50b8834cf2ae"), looks := true }, kinds := [], alts := [], laidByText := true, laidKinds := [.handle, .data, .sentinel, .sentinel, .sentinel, .sentinel, .sentinel], laidTests := true, laidLooks := .later }
def FnExactFtlOkUptoCardSaid : Prop := Claim7.holds Tryz.pinned (.plain (OpenSpec.upto fnExactFtlOkSpec)) fnExactFtlOkUptoCard

/-- THE SECOND FORM's CARD OF 'laws.FnExactGet'. -/
def fnExactGetUptoCard : Claim7 := { stood := { row := fnExactGetUptoRow, standIns := [], harness := (true, "405d1cecf0e98cdb348cdb4a67f541c1dffcda548b23cafe64aa50b8834cf2ae"), looks := true }, kinds := [], alts := [], laidByText := true, laidKinds := [.handle, .data, .sentinel, .sentinel, .sentinel, .sentinel, .sentinel], laidTests := true, laidLooks := .later }
def FnExactGetUptoCardSaid : Prop := Claim7.holds Tryz.pinned (.plain (OpenSpec.upto fnExactGetSpec)) fnExactGetUptoCard

/-- THE SECOND FORM's CARD OF 'laws.FnExactPlan'. -/
def fnExactPlanUptoCard : Claim7 := { stood := { row := fnExactPlanUptoRow, standIns := [], harness := (true, "405d1cecf0e98cdb348cdb4a67f541c1dffcda548b23cafe64aa50b8834cf2ae"), looks := true }, kinds := [], alts := [], laidByText := true, laidKinds := [.handle, .data, .sentinel, .sentinel, .sentinel, .sentinel, .sentinel, .sentinel], laidTests := true, laidLooks := .later }
def FnExactPlanUptoCardSaid : Prop := Claim7.holds Tryz.pinned (.plain (OpenSpec.upto fnExactPlanSpec)) fnExactPlanUptoCard
end Rows
end Go.Proofs.YtceidhlcbbikcanGreatDoor
