/- The memory of Parts: a row of rows. -/
import Derived.Test.YtpkdpddillebfaaDoorSO
namespace Go.Proofs.YtpkdpddillebfaaDoor.S
open Go.RowKit


/-- The rows as values. -/
def rvals (Gs : List (List Nat)) (r c : Nat → Nat) : List Value := (List.range Gs.length).map fun i => .slice (some ⟨r i, 0, none⟩) (Gs.getD i []).length (c i)

/-- What t is: a row of rows. -/
structure POut (w : World) (base : Nat) (t : Value) (Gs : List (List Nat)) (r c : Nat → Nat) : Prop where
  own : w.ownsRow base 30 1 t Gs.length (rvals Gs r c)
  each : ∀ i, i < Gs.length → w.ownsInts base 3 .i64 (.slice (some ⟨r i, 0, none⟩) (Gs.getD i []).length (c i)) (ints (Gs.getD i []))
  apart : ∀ i j, i < Gs.length → j < Gs.length → i ≠ j → r i ≠ r j

/-- The row of rows lies in none of the rows. -/
theorem POut.ne {w : World} {base : Nat} {t : Value} {Gs : List (List Nat)} {r c : Nat → Nat} (h : POut w base t Gs r c) (i : Nat) (hi : i < Gs.length) : t.ownBlock ≠ some (r i) := by
  intro e
  have h2 := (h.each i hi).1.2
  rcases h.own.2 with ⟨rfl, _⟩ | ⟨g, cap, cur, rfl, _, hg, _⟩
  · simp [Value.ownBlock] at e
  · simp only [Value.ownBlock, Option.some.injEq] at e
    rcases h2 with ⟨h3, _⟩ | ⟨g', cap', cur', h3, _, hg', _⟩
    · cases h3
    · simp only [Value.slice.injEq, Option.some.injEq, Addr.mk.injEq] at h3
      rw [← h3.1.1, ← e, hg] at hg'
      injection hg' with h4
      injection h4 with _ h5
      exact absurd h5 (by decide)

end Go.Proofs.YtpkdpddillebfaaDoor.S
