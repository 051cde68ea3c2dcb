/-
  DERIVED. GIVEN WITH THE SEED: THE CARDS: each row of YtkoghblolnklmaaDoorRows.lean that lists a variable, with what it lists TIED to the program's text (the seventh form; the later family's looks); each row that meets fmt, with fmt's text TOLD by the authors' own Lean function (tested against real Go, not proved from fmt's source: count such statements apart). THE CARD IS WHAT COUNTS. Prove the row's statement (the work); the ties are given (YtkoghblolnklmaaDoorTie.lean); close each card by the builder's one call (the guide's Derived/Test/ToyasCard.lean, 'card_holds'). Laid BY PROGRAM, IN A SANDBOX (cutbox-door.mjs). By AI agents, Wed Nov 11 2026. No macro, syntax, notation, axiom, sorry.
-/
import Derived.Test.YtkoghblolnklmaaDoorRows
import GoSem.ClaimSeven
namespace Go.Proofs.YtkoghblolnklmaaDoor
namespace Rows

/-- THE TIED CARD OF 'isthmuslaw.SetsPlay'. -/
def setsPlayCard : Claim7 := { stood := { row := setsPlayRow, standIns := [], harness := (true, "9ced2091b741c119cb6e121118cadeba01f97308f49dca094f136c147a22fdf7"), looks := true }, kinds := [], alts := [], laidByText := true, laidKinds := [.handle], laidTests := true, laidLooks := .later }
def SetsPlayCardSaid : Prop := Claim7.holds Tryd.pinned (.plain (OpenSpec.ofChange setsPlaySpec)) setsPlayCard

/-- THE SECOND FORM's CARD OF 'isthmuslaw.SetsPlay'. -/
def setsPlayUptoCard : Claim7 := { stood := { row := setsPlayUptoRow, standIns := [], harness := (true, "9ced2091b741c119cb6e121118cadeba01f97308f49dca094f136c147a22fdf7"), looks := true }, kinds := [], alts := [], laidByText := true, laidKinds := [.handle], laidTests := true, laidLooks := .later }
def SetsPlayUptoCardSaid : Prop := Claim7.holds Tryd.pinned (.plain (OpenSpec.upto setsPlaySpec)) setsPlayUptoCard
end Rows
end Go.Proofs.YtkoghblolnklmaaDoor
