/- The keys of a map, rising. -/
import Derived.Test.YtigodbamphejmaaGreatB1
namespace Go.Proofs.YtigodbamphejmaaGreat.S
open Go.RowKit Go.WideMaps Go.Maps

theorem zero3 : ∀ w, (zeroValue 3).run Tryz.prog w = .ok (.int .i64 0) w := fun w => by kernel_rfl

/-- The keys, rising. -/
theorem keys_up {w : World} {m N : Nat} {R : Value → Option (DataW Unit × List MemPlace)} {D : DataW Unit} (hm : w.ownsMap Tryz.prog 3 R m N D) {K ss : List Int} (hK : K.Pairwise (· < ·)) (hk : ∀ x : Int, Maps.has D (.int .i64 x) = true ↔ x ∈ K) (hp : ss.Perm (intKeys D)) :
    (ss.mergeSort fun x y => decide (x ≤ y)) = K ∧ ss.length = K.length := by
  have hc : CollectedI D (fun _ => false) K := ⟨hK.imp (fun h => by omega), fun x => by rw [hk x]; simp⟩
  have hp' : ss.Perm K := hp.trans (hc.perm hm law3 Tryz.underlying3 (fun _ => rfl)).symm
  refine ⟨?_, hp'.length_eq⟩
  rw [mergeSort_of_perm_i hp']
  exact List.mergeSort_of_pairwise (hK.imp (fun h => by simp; omega))

end Go.Proofs.YtigodbamphejmaaGreat.S
