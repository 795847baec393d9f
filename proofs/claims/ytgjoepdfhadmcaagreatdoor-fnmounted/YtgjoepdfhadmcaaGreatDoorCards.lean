/-
  DERIVED. GIVEN WITH THE SEED: THE CARDS: each row of YtgjoepdfhadmcaaGreatDoorRows.lean that lists a variable, with what it lists TIED to the program's text (the seventh form; the later family's looks); each row that meets fmt, with fmt's text TOLD by the authors' own Lean function (tested against real Go, not proved from fmt's source: count such statements apart). THE CARD IS WHAT COUNTS. Prove the row's statement (the work); the ties are given (YtgjoepdfhadmcaaGreatDoorTie.lean); close each card by the builder's one call (the guide's Derived/Test/ToyasCard.lean, 'card_holds'). Laid BY PROGRAM, IN A SANDBOX (cutbox-door.mjs). By AI agents, Wed Nov 11 2026. No macro, syntax, notation, axiom, sorry.
-/
import Derived.Test.YtgjoepdfhadmcaaGreatDoorRows
import GoSem.ClaimSeven
namespace Go.Proofs.YtgjoepdfhadmcaaGreatDoor
namespace Rows

/-- THE TIED CARD OF 'laws.FnBroken'. -/
def fnBrokenCard : Claim7 := { stood := { row := fnBrokenRow, standIns := [], harness := (true, "9fda07e48a8a0a0b8c7e1dd4b3f1503ed872b18c6e7b6bf67ee0d8bc7570ad4f"), looks := true }, kinds := [], alts := [], laidByText := true, laidKinds := [.handle, .data, .sentinel, .sentinel, .sentinel, .sentinel, .sentinel, .sentinel], laidTests := true, laidLooks := .later }
def FnBrokenCardSaid : Prop := Claim7.holds Tryz.pinned (.plain (OpenSpec.ofChange fnBrokenSpec)) fnBrokenCard

/-- THE TIED CARD OF 'laws.FnMounted'. -/
def fnMountedCard : Claim7 := { stood := { row := fnMountedRow, standIns := [], harness := (true, "9fda07e48a8a0a0b8c7e1dd4b3f1503ed872b18c6e7b6bf67ee0d8bc7570ad4f"), looks := true }, kinds := [], alts := [], laidByText := true, laidKinds := [.handle, .data, .sentinel, .sentinel, .sentinel, .sentinel, .sentinel, .sentinel], laidTests := true, laidLooks := .later }
def FnMountedCardSaid : Prop := Claim7.holds Tryz.pinned (.plain (OpenSpec.ofChange fnMountedSpec)) fnMountedCard

/-- THE TIED CARD OF 'laws.FnScrubbed'. -/
def fnScrubbedCard : Claim7 := { stood := { row := fnScrubbedRow, standIns := [], harness := (true, "9fda07e48a8a0a0b8c7e1dd4b3f1503ed872b18c6e7b6bf67ee0d8bc7570ad4f"), looks := true }, kinds := [], alts := [], laidByText := true, laidKinds := [.handle, .data, .sentinel, .sentinel, .sentinel, .sentinel, .sentinel, .sentinel], laidTests := true, laidLooks := .later }
def FnScrubbedCardSaid : Prop := Claim7.holds Tryz.pinned (.plain (OpenSpec.ofChange fnScrubbedSpec)) fnScrubbedCard

/-- THE TIED CARD OF 'laws.FnCaches'. -/
def fnCachesCard : Claim7 := { stood := { row := fnCachesRow, standIns := [], harness := (true, "9fda07e48a8a0a0b8c7e1dd4b3f1503ed872b18c6e7b6bf67ee0d8bc7570ad4f"), looks := true }, kinds := [], alts := [], laidByText := true, laidKinds := [.handle, .data, .sentinel, .sentinel, .sentinel, .sentinel, .sentinel, .sentinel], laidTests := true, laidLooks := .later }
def FnCachesCardSaid : Prop := Claim7.holds Tryz.pinned (.plain (OpenSpec.ofChange fnCachesSpec)) fnCachesCard

/-- THE TIED CARD OF 'laws.FnFlushed'. -/
def fnFlushedCard : Claim7 := { stood := { row := fnFlushedRow, standIns := [], harness := (true, "9fda07e48a8a0a0b8c7e1dd4b3f1503ed872b18c6e7b6bf67ee0d8bc7570ad4f"), looks := true }, kinds := [], alts := [], laidByText := true, laidKinds := [.handle, .data, .sentinel, .sentinel, .sentinel, .sentinel, .sentinel, .sentinel], laidTests := true, laidLooks := .later }
def FnFlushedCardSaid : Prop := Claim7.holds Tryz.pinned (.plain (OpenSpec.ofChange fnFlushedSpec)) fnFlushedCard

/-- THE SECOND FORM's CARD OF 'laws.FnBroken'. -/
def fnBrokenUptoCard : Claim7 := { stood := { row := fnBrokenUptoRow, standIns := [], harness := (true, "9fda07e48a8a0a0b8c7e1dd4b3f1503ed872b18c6e7b6bf67ee0d8bc7570ad4f"), looks := true }, kinds := [], alts := [], laidByText := true, laidKinds := [.handle, .data, .sentinel, .sentinel, .sentinel, .sentinel, .sentinel, .sentinel], laidTests := true, laidLooks := .later }
def FnBrokenUptoCardSaid : Prop := Claim7.holds Tryz.pinned (.plain (OpenSpec.upto fnBrokenSpec)) fnBrokenUptoCard

/-- THE SECOND FORM's CARD OF 'laws.FnMounted'. -/
def fnMountedUptoCard : Claim7 := { stood := { row := fnMountedUptoRow, standIns := [], harness := (true, "9fda07e48a8a0a0b8c7e1dd4b3f1503ed872b18c6e7b6bf67ee0d8bc7570ad4f"), looks := true }, kinds := [], alts := [], laidByText := true, laidKinds := [.handle, .data, .sentinel, .sentinel, .sentinel, .sentinel, .sentinel, .sentinel], laidTests := true, laidLooks := .later }
def FnMountedUptoCardSaid : Prop := Claim7.holds Tryz.pinned (.plain (OpenSpec.upto fnMountedSpec)) fnMountedUptoCard

/-- THE SECOND FORM's CARD OF 'laws.FnScrubbed'. -/
def fnScrubbedUptoCard : Claim7 := { stood := { row := fnScrubbedUptoRow, standIns := [], harness := (true, "9fda07e48a8a0a0b8c7e1dd4b3f1503ed872b18c6e7b6bf67ee0d8bc7570ad4f"), looks := true }, kinds := [], alts := [], laidByText := true, laidKinds := [.handle, .data, .sentinel, .sentinel, .sentinel, .sentinel, .sentinel, .sentinel], laidTests := true, laidLooks := .later }
def FnScrubbedUptoCardSaid : Prop := Claim7.holds Tryz.pinned (.plain (OpenSpec.upto fnScrubbedSpec)) fnScrubbedUptoCard

/-- THE SECOND FORM's CARD OF 'laws.FnCaches'. -/
def fnCachesUptoCard : Claim7 := { stood := { row := fnCachesUptoRow, standIns := [], harness := (true, "9fda07e48a8a0a0b8c7e1dd4b3f1503ed872b18c6e7b6bf67ee0d8bc7570ad4f"), looks := true }, kinds := [], alts := [], laidByText := true, laidKinds := [.handle, .data, .sentinel, .sentinel, .sentinel, .sentinel, .sentinel, .sentinel], laidTests := true, laidLooks := .later }
def FnCachesUptoCardSaid : Prop := Claim7.holds Tryz.pinned (.plain (OpenSpec.upto fnCachesSpec)) fnCachesUptoCard

/-- THE SECOND FORM's CARD OF 'laws.FnFlushed'. -/
def fnFlushedUptoCard : Claim7 := { stood := { row := fnFlushedUptoRow, standIns := [], harness := (true, "9fda07e48a8a0a0b8c7e1dd4b3f1503ed872b18c6e7b6bf67ee0d8bc7570ad4f"), looks := true }, kinds := [], alts := [], laidByText := true, laidKinds := [.handle, .data, .sentinel, .sentinel, .sentinel, .sentinel, .sentinel, .sentinel], laidTests := true, laidLooks := .later }
def FnFlushedUptoCardSaid : Prop := Claim7.holds Tryz.pinned (.plain (OpenSpec.upto fnFlushedSpec)) fnFlushedUptoCard
end Rows
end Go.Proofs.YtgjoepdfhadmcaaGreatDoor
