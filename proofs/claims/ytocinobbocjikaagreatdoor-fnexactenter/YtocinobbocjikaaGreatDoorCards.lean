/-
  DERIVED. GIVEN WITH THE SEED: THE CARDS: each row of YtocinobbocjikaaGreatDoorRows.lean that lists a variable, with what it lists TIED to the program's text (the seventh form; the later family's looks); each row that meets fmt, with fmt's text TOLD by the authors' own Lean function (tested against real Go, not proved from fmt's source: count such statements apart). THE CARD IS WHAT COUNTS. Prove the row's statement (the work); the ties are given (YtocinobbocjikaaGreatDoorTie.lean); close each card by the builder's one call (the guide's Derived/Test/ToyasCard.lean, 'card_holds'). Laid BY PROGRAM, IN A SANDBOX (cutbox-door.mjs). By AI agents, Wed Nov 11 2026. No macro, syntax, notation, axiom, sorry.
-/
import Derived.Test.YtocinobbocjikaaGreatDoorRows
import GoSem.ClaimSeven
namespace Go.Proofs.YtocinobbocjikaaGreatDoor
namespace Rows

/-- THE TIED CARD OF 'laws.FnEntered'. -/
def fnEnteredCard : Claim7 := { stood := { row := fnEnteredRow, standIns := [], harness := (true, "4a3d9ba2a7e73fb9fdffe4c8c6e0a7132238cee69ebcc06e5a878042906ddf5e"), looks := true }, kinds := [], alts := [], laidByText := true, laidKinds := [.handle, .data, .sentinel, .sentinel, .sentinel, .sentinel, .sentinel, .sentinel], laidTests := true, laidLooks := .later }
def FnEnteredCardSaid : Prop := Claim7.holds Tryz.pinned (.plain (OpenSpec.ofChange fnEnteredSpec)) fnEnteredCard

/-- THE TIED CARD OF 'laws.FnRoom'. -/
def fnRoomCard : Claim7 := { stood := { row := fnRoomRow, standIns := [], harness := (true, "4a3d9ba2a7e73fb9fdffe4c8c6e0a7132238cee69ebcc06e5a878042906ddf5e"), looks := true }, kinds := [], alts := [], laidByText := true, laidKinds := [.handle, .data, .sentinel, .sentinel, .sentinel, .sentinel, .sentinel, .sentinel], laidTests := true, laidLooks := .later }
def FnRoomCardSaid : Prop := Claim7.holds Tryz.pinned (.plain (OpenSpec.ofChange fnRoomSpec)) fnRoomCard

/-- THE TIED CARD OF 'laws.FnExactPlan'. -/
def fnExactPlanCard : Claim7 := { stood := { row := fnExactPlanRow, standIns := [], harness := (true, "4a3d9ba2a7e73fb9fdffe4c8c6e0a7132238cee69ebcc06e5a878042906ddf5e"), looks := true }, kinds := [], alts := [], laidByText := true, laidKinds := [.handle, .data, .sentinel, .sentinel, .sentinel, .sentinel, .sentinel, .sentinel], laidTests := true, laidLooks := .later }
def FnExactPlanCardSaid : Prop := Claim7.holds Tryz.pinned (.plain (OpenSpec.ofChange fnExactPlanSpec)) fnExactPlanCard

/-- THE TIED CARD OF 'laws.FnExactEnter'. -/
def fnExactEnterCard : Claim7 := { stood := { row := fnExactEnterRow, standIns := [], harness := (true, "4a3d9ba2a7e73fb9fdffe4c8c6e0a7132238cee69ebcc06e5a878042906ddf5e"), looks := true }, kinds := [], alts := [], laidByText := true, laidKinds := [.handle, .data, .sentinel, .sentinel, .sentinel, .sentinel, .sentinel, .sentinel], laidTests := true, laidLooks := .later }
def FnExactEnterCardSaid : Prop := Claim7.holds Tryz.pinned (.plain (OpenSpec.ofChange fnExactEnterSpec)) fnExactEnterCard

/-- THE TIED CARD OF 'laws.FnExactLevel'. -/
def fnExactLevelCard : Claim7 := { stood := { row := fnExactLevelRow, standIns := [], harness := (true, "4a3d9ba2a7e73fb9fdffe4c8c6e0a7132238cee69ebcc06e5a878042906ddf5e"), looks := true }, kinds := [], alts := [], laidByText := true, laidKinds := [.handle, .data, .sentinel, .sentinel, .sentinel, .sentinel, .sentinel], laidTests := true, laidLooks := .later }
def FnExactLevelCardSaid : Prop := Claim7.holds Tryz.pinned (.plain (OpenSpec.ofChange fnExactLevelSpec)) fnExactLevelCard

/-- THE SECOND FORM's CARD OF 'laws.FnEntered'. -/
def fnEnteredUptoCard : Claim7 := { stood := { row := fnEnteredUptoRow, standIns := [], harness := (true, "4a3d9ba2a7e73fb9fdffe4c8c6e0a7132238cee69ebcc06e5a878042906ddf5e"), looks := true }, kinds := [], alts := [], laidByText := true, laidKinds := [.handle, .data, .sentinel, .sentinel, .sentinel, .sentinel, .sentinel, .sentinel], laidTests := true, laidLooks := .later }
def FnEnteredUptoCardSaid : Prop := Claim7.holds Tryz.pinned (.plain (OpenSpec.upto fnEnteredSpec)) fnEnteredUptoCard

/-- THE SECOND FORM's CARD OF 'laws.FnRoom'. -/
def fnRoomUptoCard : Claim7 := { stood := { row := fnRoomUptoRow, standIns := [], harness := (true, "4a3d9ba2a7e73fb9fdffe4c8c6e0a7132238cee69ebcc06e5a878042906ddf5e"), looks := true }, kinds := [], alts := [], laidByText := true, laidKinds := [.handle, .data, .sentinel, .sentinel, .sentinel, .sentinel, .sentinel, .sentinel], laidTests := true, laidLooks := .later }
def FnRoomUptoCardSaid : Prop := Claim7.holds Tryz.pinned (.plain (OpenSpec.upto fnRoomSpec)) fnRoomUptoCard

/-- THE SECOND FORM's CARD OF 'laws.FnExactPlan'. -/
def fnExactPlanUptoCard : Claim7 := { stood := { row := fnExactPlanUptoRow, standIns := [], harness := (true, "4a3d9ba2a7e73fb9fdffe4c8c6e0a7132238cee69ebcc06e5a878042906ddf5e"), looks := true }, kinds := [], alts := [], laidByText := true, laidKinds := [.handle, .data, .sentinel, .sentinel, .sentinel, .sentinel, .sentinel, .sentinel], laidTests := true, laidLooks := .later }
def FnExactPlanUptoCardSaid : Prop := Claim7.holds Tryz.pinned (.plain (OpenSpec.upto fnExactPlanSpec)) fnExactPlanUptoCard

/-- THE SECOND FORM's CARD OF 'laws.FnExactEnter'. -/
def fnExactEnterUptoCard : Claim7 := { stood := { row := fnExactEnterUptoRow, standIns := [], harness := (true, "4a3d9ba2a7e73fb9fdffe4c8c6e0a7132238cee69ebcc06e5a878042906ddf5e"), looks := true }, kinds := [], alts := [], laidByText := true, laidKinds := [.handle, .data, .sentinel, .sentinel, .sentinel, .sentinel, .sentinel, .sentinel], laidTests := true, laidLooks := .later }
def FnExactEnterUptoCardSaid : Prop := Claim7.holds Tryz.pinned (.plain (OpenSpec.upto fnExactEnterSpec)) fnExactEnterUptoCard

/-- THE SECOND FORM's CARD OF 'laws.FnExactLevel'. -/
def fnExactLevelUptoCard : Claim7 := { stood := { row := fnExactLevelUptoRow, standIns := [], harness := (true, "4a3d9ba2a7e73fb9fdffe4c8c6e0a7132238cee69ebcc06e5a878042906ddf5e"), looks := true }, kinds := [], alts := [], laidByText := true, laidKinds := [.handle, .data, .sentinel, .sentinel, .sentinel, .sentinel, .sentinel], laidTests := true, laidLooks := .later }
def FnExactLevelUptoCardSaid : Prop := Claim7.holds Tryz.pinned (.plain (OpenSpec.upto fnExactLevelSpec)) fnExactLevelUptoCard
end Rows
end Go.Proofs.YtocinobbocjikaaGreatDoor
