/- Labels that are told along edges until nothing changes; the bridges' numbers, rising. -/
import Derived.Test.YtedcncpkikdldaaBp
namespace Go.Proofs.Ytedcncpkikdldaa.S



/-- The bridges' numbers as the document has them. -/
def idsOf (R B : List (Int × Int × Int)) : List Int := (R.filter fun e => decide (e ∈ B)).map (·.1)

theorem rising_eq : ∀ {A B : List Int}, A.Pairwise (· < ·) → B.Pairwise (· < ·) → (∀ x, x ∈ A ↔ x ∈ B) → A = B
  | [], [], _, _, _ => rfl
  | [], b :: B, _, _, h => by have := (h b).2 List.mem_cons_self; simp at this
  | a :: A, [], _, _, h => by have := (h a).1 List.mem_cons_self; simp at this
  | a :: A, b :: B, ha, hb, h => by
    rw [List.pairwise_cons] at ha hb
    have hab : a = b := by
      have h1 := (h a).1 List.mem_cons_self
      have h2 := (h b).2 List.mem_cons_self
      rcases List.mem_cons.1 h1 with h1 | h1
      · exact h1
      · rcases List.mem_cons.1 h2 with h2 | h2
        · exact h2.symm
        · have := hb.1 a h1; have := ha.1 b h2; omega
    subst hab
    refine congrArg _ (rising_eq ha.2 hb.2 fun x => ?_)
    constructor
    · intro hx
      rcases List.mem_cons.1 ((h x).1 (List.mem_cons_of_mem _ hx)) with k | k
      · have := ha.1 x hx; omega
      · exact k
    · intro hx
      rcases List.mem_cons.1 ((h x).2 (List.mem_cons_of_mem _ hx)) with k | k
      · have := hb.1 x hx; omega
      · exact k

end Go.Proofs.Ytedcncpkikdldaa.S
