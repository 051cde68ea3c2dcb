/- slices.Insert at edges: one is put in at a place. -/
import Derived.Test.YtmbkicdahalakaaDoorI
import Derived.Lib.Overlaps
import Derived.Lib.AppendZeros
import Derived.Deep.RegionLaw
namespace Go.Proofs.YtmbkicdahalakaaDoor
open Go.RowKit

theorem addr0_add (b n : Nat) : (⟨b, 0, none⟩ : Addr).add n = ⟨b, n, none⟩ := by
  unfold Addr.add
  split <;> simp_all

theorem addr_lit (b o n : Nat) : (⟨b, o, none⟩ : Addr).add n = ⟨b, o + n, none⟩ := by
  unfold Addr.add
  split
  · next h => rw [h]; rfl
  · rfl

/-- A block of edges as cells. -/
theorem cells_of_block {w : World} {b : Nat} {x : E} (h : w.heap[b]? = some (.cells (encE x).toArray 59)) : ∀ j u, (rowV [x])[j]? = some u → w.cell? ((⟨b, 0, none⟩ : Addr).add j) = some u := by
  intro j u hu
  rw [addr0_add]
  have e : rowV [x] = encE x := by simp [rowV]
  rw [e] at hu
  simp [World.cell?, h, hu]

set_option maxHeartbeats 2000000 in
set_option maxRecDepth 100000 in
theorem insert_end (B i vb : Nat) (v : Value) (L : List E) (x : E) (w : World) (h : Owns w B 59 v L) (hB : B ≤ w.heap.size) (hx : w.heap[vb]? = some (.cells (encE x).toArray 59)) (hi : i = L.length) (hl : L.length ≤ 1000) :
    Calls Tryd.prog 39 #[v, .int .i64 (i : Int), .slice (some ⟨vb, 0, none⟩) 1 1] w fun e w' => ∃ v', e = .returned v' ∧ Owns w' B 59 v' (L ++ [x]) ∧ w.grownBy w' v.ownBlock ∧ Fresh w v v' := by
  obtain ⟨v', w', hr, h2, h3, h4⟩ := append_E 49 w B v L [x] h hB ⟨vb, 0, none⟩ 1 1 rfl (cells_of_block hx) (by simp; omega)
  have HF : Hid (Owns w' B 59 v' (L ++ [x]) ∧ w.grownBy w' v.ownBlock ∧ Fresh w v v') := ⟨h2, h3, h4⟩
  clear h2 h3 h4 hx
  rcases h.shape with ⟨rfl, hL⟩ | ⟨g, cap, rfl, h1, h2, h3, h4⟩
  · subst hL
    have hi0 : i = 0 := hi
    subst hi0
    have HR : Hid (_ = _) := hr
    clear h hr hi hl
    go_enter Tryd.func39, Tryd.ntmps39
    go_wp2_with (at_builtin; refine Lib.wpList_append_run _ rfl _ _ _ _ rfl _ _ rfl rfl _ _ HR.out ?_)
    go_ret
    exact ⟨v', rfl, HF.out⟩
  · rw [← hi] at hr h3 HF
    have h4' : cap ≤ 9223372036854775807 := by simp only [maxLen] at h4; omega
    have HF' : Hid (Owns w' B 59 v' (L ++ [x]) ∧ w.grownBy w' (some g) ∧ Fresh w (.slice (some ⟨g, 0, none⟩) i cap) v') := HF
    have HR : Hid (_ = _) := hr
    clear h h4 HF hr
    rw [← hi]
    clear hi
    go_enter Tryd.func39, Tryd.ntmps39
    go_wp2_with (at_builtin; refine Lib.wpList_append_run _ rfl _ _ _ _ rfl _ _ rfl rfl _ _ HR.out ?_)
    all_goals
      go_ret
      exact ⟨v', rfl, HF'.out⟩

end Go.Proofs.YtmbkicdahalakaaDoor
