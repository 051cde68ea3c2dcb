/- Rows of the document's own graph: appended to; taken apart. -/
import Derived.Test.YtmbkicdahalakaaDoorX
import Derived.Deep.RegionHeldLaw
namespace Go.Proofs.YtmbkicdahalakaaDoor
open Go.RowKit

theorem append_none (ty : TypeId) (w : World) (g c n : Nat) (hn : n ≤ c) :
    (Builtin.append_ #[49, 49] ty #[.slice (some ⟨g, 0, none⟩) n c, .slice none 0 0]).run Tryd.prog w = .ok (.slice (some ⟨g, 0, none⟩) n c) w := by
  obtain ⟨i, hi, hs, hb, hz⟩ := info59
  simp [Builtin.append_, run_underlying Tryd.underlying49, sizeOf, typeInfo, hi, Builtin.lenOf, hn, Builtin.firstCells, storeCells]

/-- A row is appended to a row. -/
theorem app_row (ty : TypeId) (W : World) (B B2 : Nat) (g c : Nat) (u : Value) (L M : List E) (h : Owns W B 59 (.slice (some ⟨g, 0, none⟩) L.length c) L) (hu : Owns W B2 59 u M) (hB : B ≤ W.heap.size) (hl : L.length + M.length ≤ 100000) :
    ∃ v' w', (Builtin.append_ #[49, 49] ty #[.slice (some ⟨g, 0, none⟩) L.length c, u]).run Tryd.prog W = .ok v' w' ∧ Owns w' B 59 v' (L ++ M) ∧ Below B W w' := by
  rcases hu.shape with ⟨rfl, hM⟩ | ⟨gu, cu, rfl, _, _, _, _⟩
  · subst hM
    have hc : L.length ≤ c := by
      rcases h.shape with ⟨e, _⟩ | ⟨_, _, e, _, _, h3, _⟩
      · simp at e
      · injection e with _ _ e; omega
    exact ⟨_, _, append_none ty W g c _ hc, by simpa using h, Below.refl _ _⟩
  · obtain ⟨v', w', h1, h2, h3, _⟩ := append_E ty W B _ L M h hB ⟨gu, 0, none⟩ M.length cu rfl (World.ownsRow.cells hu rfl) hl
    refine ⟨v', w', h1, h2, ⟨h3.os, h3.tape, h3.output, h3.size, fun k hk => h3.block k (by omega) (fun e => ?_)⟩⟩
    have := (World.ownsRow.lt h k e.symm).1
    omega

theorem owns_empty (W : World) : Owns (W.alloc (.cells #[] 59)) W.heap.size 59 (.slice (some ⟨W.heap.size, 0, none⟩) 0 0) [] :=
  World.ownsRow_made W #[] 0 (Nat.le_refl _) (by simp [maxLen]) (by simp)

/-- A copy of a row. -/
theorem copy_row (ty : TypeId) (W : World) (B2 : Nat) (u : Value) (M : List E) (hu : Owns W B2 59 u M) (hl : M.length ≤ 1000) :
    ∃ a m c w', (Builtin.append_ #[49, 49] ty #[.slice (some ⟨W.heap.size, 0, none⟩) 0 0, u]).run Tryd.prog (W.alloc (.cells #[] 59)) = .ok (.slice a m c) w' ∧ Owns w' W.heap.size 59 (.slice a m c) M ∧ Below W.heap.size W w' := by
  obtain ⟨v', w', h1, h2, h3⟩ := app_row ty (W.alloc (.cells #[] 59)) W.heap.size B2 W.heap.size 0 u [] M (owns_empty W) (hu.below (below_box W _)) (by simp) (by simp; omega)
  obtain ⟨a, m, c, rfl⟩ := h2.slice
  exact ⟨a, m, c, w', h1, h2, (below_box W _).trans h3⟩

/-- A copy of a row, and one more. -/
theorem radd_row (ty : TypeId) (W : World) (B2 : Nat) (u : Value) (M : List E) (x0 x1 x2 : Int) (hu : Owns W B2 59 u M) (hl : M.length ≤ 1000) :
    ∃ a m c w2 a' m' c' w3, (Builtin.append_ #[49, 49] ty #[.slice (some ⟨W.heap.size, 0, none⟩) 0 0, u]).run Tryd.prog (W.alloc (.cells #[] 59)) = .ok (.slice a m c) w2 ∧
      (Builtin.append_ #[49, 49] ty #[.slice a m c, .slice (some ⟨w2.heap.size, 0, none⟩) 1 1]).run Tryd.prog (w2.alloc (.cells #[.int .i64 x0, .int .i64 x1, .int .i64 x2] 59)) = .ok (.slice a' m' c') w3 ∧
      Owns w3 W.heap.size 59 (.slice a' m' c') (M ++ [(x0, x1, x2)]) ∧ Below W.heap.size W w3 := by
  obtain ⟨a, m, c, w2, h1, h2, h3⟩ := copy_row ty W B2 u M hu hl
  obtain ⟨v', w3, h4, h5, h6, _, _⟩ := app_one ty w2 W.heap.size _ M x0 x1 x2 h2 h3.size hl
  obtain ⟨a', m', c', rfl⟩ := h5.slice
  exact ⟨a, m, c, w2, a', m', c', w3, h1, h4, h5, h3.trans h6⟩

/-- A new row in a graph's block. -/
theorem step1_new {w w1 w3 : World} {B gT p : Nat} {n : Int} {v u : Value} {L M : List E} (h : GAt w B gT 59 p n v L) (hB : B ≤ w.heap.size) (hb : Below w.heap.size w w1) (hr : Owns w3 w1.heap.size 59 u M) (hb3 : Below w1.heap.size w1 w3) :
    Step1 w (w3.setCell ⟨p, 1, none⟩ u) B gT p n v M ∧ w3.cell? ⟨p, 1, none⟩ = some v ∧ w3.frozen? ⟨p, 1, none⟩ = false := by
  have hb' : Below w.heap.size w w3 := hb.trans (hb3.mono hb.size)
  have h3 := h.below hb'
  have hg : w3.grownBy w3 v.ownBlock := ⟨rfl, rfl, rfl, Nat.le_refl _, fun _ _ _ => rfl⟩
  have hlt : ∀ k, u.ownBlock = some k → w.heap.size ≤ k := fun k hk => Nat.le_trans hb.size (World.ownsRow.lt hr k hk).1
  have hup : u.ownBlock ≠ some p := fun e => by have := hlt p e; have := h.plt; omega
  exact ⟨⟨u, h3.store hg (hr.mono (Nat.le_trans hB hb.size)) hup, (Kept.of_below hb').setCell 1 u, fun k hk => Or.inr (hlt k hk)⟩, h3.c1, h3.f1 1⟩

set_option maxHeartbeats 400000 in
theorem in_any (x lo hi : Int) (ok : Bool) (w : World) (hok : decide (lo ≤ x ∧ x ≤ hi) = ok) :
    Calls Tryd.prog 40 #[.int .i64 x, .int .i64 lo, .int .i64 hi] w fun e w' => e = .returned (.bool ok) ∧ w' = w := by
  by_cases h1 : lo ≤ x
  · by_cases h2 : x ≤ hi
    · have HO : Hid (ok = true) := by
        show ok = true
        rw [← hok]; exact decide_eq_true ⟨h1, h2⟩
      clear hok
      go_enter Tryd.func40, Tryd.ntmps40
      go_wp2
      go_ret
      exact ⟨by rw [HO.out]; rfl, rfl⟩
    · have HO : Hid (ok = false) := by
        show ok = false
        rw [← hok]; exact decide_eq_false (fun h => h2 h.2)
      clear hok
      go_enter Tryd.func40, Tryd.ntmps40
      go_wp2
      go_ret
      exact ⟨by rw [HO.out]; rfl, rfl⟩
  · have HO : Hid (ok = false) := by
      show ok = false
      rw [← hok]; exact decide_eq_false (fun h => h1 h.1)
    clear hok
    go_enter Tryd.func40, Tryd.ntmps40
    go_wp2
    go_ret
    exact ⟨by rw [HO.out]; rfl, rfl⟩

end Go.Proofs.YtmbkicdahalakaaDoor
