/-
  DERIVED. GIVEN WITH THE SEED: THE CARDS: each row of YtigodbamphejmaaGreatDoorRows.lean that lists a variable, with what it lists TIED to the program's text (the seventh form; the later family's looks); each row that meets fmt, with fmt's text TOLD by the authors' own Lean function (tested against real Go, not proved from fmt's source: count such statements apart). THE CARD IS WHAT COUNTS. Prove the row's statement (the work); the ties are given (YtigodbamphejmaaGreatDoorTie.lean); close each card by the builder's one call (the guide's Derived/Test/ToyasCard.lean, 'card_holds'). Laid BY PROGRAM, IN A SANDBOX (cutbox-door.mjs). By AI agents, Wed Nov 11 2026. No macro, syntax, notation, axiom, sorry.
-/
import Derived.Test.YtigodbamphejmaaGreatDoorRows
import GoSem.ClaimSeven
namespace Go.Proofs.YtigodbamphejmaaGreatDoor
namespace Rows

/-- THE TIED CARD OF 'isthmuslaw.BridgePlays'. -/
def bridgePlaysCard : Claim7 := { stood := { row := bridgePlaysRow, standIns := [], harness := (true, "25052d910e1e97f57bd4022dc0391e56a4d3f3aba99cd00558dde5584e23b3c8"), looks := true }, kinds := [], alts := [], laidByText := true, laidKinds := [.handle], laidTests := true, laidLooks := .later }
def BridgePlaysCardSaid : Prop := Claim7.holds Tryz.pinned (.plain (OpenSpec.ofChange bridgePlaysSpec)) bridgePlaysCard

/-- THE TIED CARD OF 'isthmuslaw.BlockOf'. -/
def blockOfCard : Claim7 := { stood := { row := blockOfRow, standIns := [], harness := (true, "25052d910e1e97f57bd4022dc0391e56a4d3f3aba99cd00558dde5584e23b3c8"), looks := true }, kinds := [], alts := [], laidByText := true, laidKinds := [.handle], laidTests := true, laidLooks := .later }
def BlockOfCardSaid : Prop := Claim7.holds Tryz.pinned (.plain (OpenSpec.ofChange blockOfSpec)) blockOfCard

/-- THE TIED CARD OF 'isthmuslaw.CycleOf'. -/
def cycleOfCard : Claim7 := { stood := { row := cycleOfRow, standIns := [], harness := (true, "25052d910e1e97f57bd4022dc0391e56a4d3f3aba99cd00558dde5584e23b3c8"), looks := true }, kinds := [], alts := [], laidByText := true, laidKinds := [.handle], laidTests := true, laidLooks := .later }
def CycleOfCardSaid : Prop := Claim7.holds Tryz.pinned (.plain (OpenSpec.ofChange cycleOfSpec)) cycleOfCard

/-- THE SECOND FORM's CARD OF 'isthmuslaw.BridgePlays'. -/
def bridgePlaysUptoCard : Claim7 := { stood := { row := bridgePlaysUptoRow, standIns := [], harness := (true, "25052d910e1e97f57bd4022dc0391e56a4d3f3aba99cd00558dde5584e23b3c8"), looks := true }, kinds := [], alts := [], laidByText := true, laidKinds := [.handle], laidTests := true, laidLooks := .later }
def BridgePlaysUptoCardSaid : Prop := Claim7.holds Tryz.pinned (.plain (OpenSpec.upto bridgePlaysSpec)) bridgePlaysUptoCard

/-- THE SECOND FORM's CARD OF 'isthmuslaw.BlockOf'. -/
def blockOfUptoCard : Claim7 := { stood := { row := blockOfUptoRow, standIns := [], harness := (true, "25052d910e1e97f57bd4022dc0391e56a4d3f3aba99cd00558dde5584e23b3c8"), looks := true }, kinds := [], alts := [], laidByText := true, laidKinds := [.handle], laidTests := true, laidLooks := .later }
def BlockOfUptoCardSaid : Prop := Claim7.holds Tryz.pinned (.plain (OpenSpec.upto blockOfSpec)) blockOfUptoCard

/-- THE SECOND FORM's CARD OF 'isthmuslaw.CycleOf'. -/
def cycleOfUptoCard : Claim7 := { stood := { row := cycleOfUptoRow, standIns := [], harness := (true, "25052d910e1e97f57bd4022dc0391e56a4d3f3aba99cd00558dde5584e23b3c8"), looks := true }, kinds := [], alts := [], laidByText := true, laidKinds := [.handle], laidTests := true, laidLooks := .later }
def CycleOfUptoCardSaid : Prop := Claim7.holds Tryz.pinned (.plain (OpenSpec.upto cycleOfSpec)) cycleOfUptoCard
end Rows
end Go.Proofs.YtigodbamphejmaaGreatDoor
