/- Draws. -/
import Derived.Test.YtedcncpkikdldaaSW2
namespace Go.Proofs.Ytedcncpkikdldaa.S
open Go.RowKit


theorem sets_drewN {w : World} {p b : Nat} {L : List Nat} (h : SetsAt w p b L) (n : Nat) : SetsAt (w.drewN n) p b L := ⟨h.hp, h.hb⟩

theorem drewN_drewN (w : World) (n m : Nat) : (w.drewN n).drewN m = w.drewN (n + m) := by simp [World.drewN, Nat.add_assoc]

/-- How many of the first k numbers fit. -/
def cnt (f : Nat → Bool) : Nat → Nat
  | 0 => 0
  | k + 1 => cnt f k + if f k then 1 else 0

theorem cnt_le (f : Nat → Bool) : ∀ k, cnt f k ≤ k
  | 0 => Nat.le_refl _
  | k + 1 => by have := cnt_le f k; simp only [cnt]; split <;> omega

end Go.Proofs.Ytedcncpkikdldaa.S
