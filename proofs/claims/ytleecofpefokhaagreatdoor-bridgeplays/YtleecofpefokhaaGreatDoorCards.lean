/-
  DERIVED. GIVEN WITH THE SEED: THE CARDS: each row of YtleecofpefokhaaGreatDoorRows.lean that lists a variable, with what it lists TIED to the program's text (the seventh form; the later family's looks); each row that meets fmt, with fmt's text TOLD by the authors' own Lean function (tested against real Go, not proved from fmt's source: count such statements apart). THE CARD IS WHAT COUNTS. Prove the row's statement (the work); the ties are given (YtleecofpefokhaaGreatDoorTie.lean); close each card by the builder's one call (the guide's Derived/Test/ToyasCard.lean, 'card_holds'). Laid BY PROGRAM, IN A SANDBOX (cutbox-door.mjs). By AI agents, Wed Nov 11 2026. No macro, syntax, notation, axiom, sorry.
-/
import Derived.Test.YtleecofpefokhaaGreatDoorRows
import GoSem.ClaimSeven
namespace Go.Proofs.YtleecofpefokhaaGreatDoor
namespace Rows

/-- THE TIED CARD OF 'isthmuslaw.BridgePlays'. -/
def bridgePlaysCard : Claim7 := { stood := { row := bridgePlaysRow, standIns := [], harness := (true, "57e8cac9fb3359544dc49e8c81947a56760bd3639a038f22e26521fd8ebbbea3"), looks := true }, kinds := [], alts := [], laidByText := true, laidKinds := [.handle], laidTests := true, laidLooks := .later }
def BridgePlaysCardSaid : Prop := Claim7.holds Tryz.pinned (.plain (OpenSpec.ofChange bridgePlaysSpec)) bridgePlaysCard

/-- THE SECOND FORM's CARD OF 'isthmuslaw.BridgePlays'. -/
def bridgePlaysUptoCard : Claim7 := { stood := { row := bridgePlaysUptoRow, standIns := [], harness := (true, "57e8cac9fb3359544dc49e8c81947a56760bd3639a038f22e26521fd8ebbbea3"), looks := true }, kinds := [], alts := [], laidByText := true, laidKinds := [.handle], laidTests := true, laidLooks := .later }
def BridgePlaysUptoCardSaid : Prop := Claim7.holds Tryz.pinned (.plain (OpenSpec.upto bridgePlaysSpec)) bridgePlaysUptoCard
end Rows
end Go.Proofs.YtleecofpefokhaaGreatDoor
