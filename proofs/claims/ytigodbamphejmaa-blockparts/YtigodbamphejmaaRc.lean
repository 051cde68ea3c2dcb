/- The fact 'ringed': two blocks. -/
import Derived.Test.YtigodbamphejmaaRb
import Derived.Test.YtigodbamphejmaaKfh
import Derived.Test.YtigodbamphejmaaDf
namespace Go.Proofs.Ytigodbamphejmaa.S
open Go.RowKit Go.WideMaps Go.Maps

/-- What a row of numbers is. -/
theorem nats_shape {w : World} {base : Nat} {v : Value} {K : List Nat} (h : w.ownsRow base 3 1 v K.length (natsV K)) : ∃ a cap, v = .slice a K.length cap ∧ (0 < K.length → ∃ g, a = some ⟨g, 0, none⟩ ∧ ∀ j, j < K.length → w.cell? ⟨g, j, none⟩ = some (.int .i64 ((K.getD j 0 : Nat) : Int))) := by
  have h0 := h
  rcases h.2 with ⟨rfl, hz⟩ | ⟨g, cap, cur, rfl, hb, hg, _⟩
  · exact ⟨none, 0, by rw [hz], fun k => by omega⟩
  · refine ⟨_, cap, rfl, fun _ => ⟨g, rfl, fun j hj => ?_⟩⟩
    rw [h0.cellAt j (by omega)]
    simp [natsV, hj]

theorem row_below {w w' : World} {base e s n : Nat} {v : Value} {xs : List Value} (h : w.ownsRow base e s v n xs) (hb : Below w.heap.size w w') : w'.ownsRow base e s v n xs := h.kept ⟨hb.os, hb.tape, hb.output, hb.size, fun k hk _ => hb.block k hk⟩ (Classical.em _)

theorem three_below (w : World) (o1 o2 o3 : Obj) : Below w.heap.size w (((w.alloc o1).alloc o2).alloc o3) := (((Below.refl _ _).alloc (Nat.le_refl _) _).alloc (by simp) _).alloc (by simp; omega) _

/-- The rows that the fact names. -/
theorem three_rows (w : World) (g : Nat) (h : RowsAt w g [[0, 1, 2], [3, 4, 5]] 2) : RowsAt (((w.alloc (.cells #[.int .i64 0, .int .i64 1, .int .i64 2] 3)).alloc (.cells #[.int .i64 3, .int .i64 4, .int .i64 5] 3)).alloc (.cells #[.slice (some ⟨w.heap.size, 0, none⟩) 3 3, .slice (some ⟨w.heap.size + 1, 0, none⟩) 3 3] 37)) g [[0, 1, 2], [3, 4, 5]] 2 ∧ RowsAt (((w.alloc (.cells #[.int .i64 0, .int .i64 1, .int .i64 2] 3)).alloc (.cells #[.int .i64 3, .int .i64 4, .int .i64 5] 3)).alloc (.cells #[.slice (some ⟨w.heap.size, 0, none⟩) 3 3, .slice (some ⟨w.heap.size + 1, 0, none⟩) 3 3] 37)) (w.heap.size + 1 + 1) [[0, 1, 2], [3, 4, 5]] 2 := by
  refine ⟨h.below (three_below w _ _ _), ?_⟩
  have s1 : (w.alloc (.cells #[.int .i64 0, .int .i64 1, .int .i64 2] 3)).heap.size = w.heap.size + 1 := by simp
  have s2 : ((w.alloc (.cells #[.int .i64 0, .int .i64 1, .int .i64 2] 3)).alloc (.cells #[.int .i64 3, .int .i64 4, .int .i64 5] 3)).heap.size = w.heap.size + 1 + 1 := by simp
  obtain ⟨W3, hW3⟩ : ∃ W3, W3 = (((w.alloc (.cells #[.int .i64 0, .int .i64 1, .int .i64 2] 3)).alloc (.cells #[.int .i64 3, .int .i64 4, .int .i64 5] 3)).alloc (.cells #[.slice (some ⟨w.heap.size, 0, none⟩) 3 3, .slice (some ⟨w.heap.size + 1, 0, none⟩) 3 3] 37)) := ⟨_, rfl⟩
  have a1 : W3.heap[w.heap.size]? = some (.cells #[.int .i64 0, .int .i64 1, .int .i64 2] 3) := by
    rw [hW3, Below.heap_alloc _ _ _ (by omega), Below.heap_alloc _ _ _ (by omega)]; exact heap_alloc_new w _
  have a2 : W3.heap[w.heap.size + 1]? = some (.cells #[.int .i64 3, .int .i64 4, .int .i64 5] 3) := by
    rw [hW3, Below.heap_alloc _ _ _ (by omega)]
    have := heap_alloc_new (w.alloc (.cells #[.int .i64 0, .int .i64 1, .int .i64 2] 3)) (.cells #[.int .i64 3, .int .i64 4, .int .i64 5] 3)
    rw [s1] at this; exact this
  have a3 : W3.heap[w.heap.size + 1 + 1]? = some (.cells #[.slice (some ⟨w.heap.size, 0, none⟩) 3 3, .slice (some ⟨w.heap.size + 1, 0, none⟩) 3 3] 37) := by
    have := heap_alloc_new ((w.alloc (.cells #[.int .i64 0, .int .i64 1, .int .i64 2] 3)).alloc (.cells #[.int .i64 3, .int .i64 4, .int .i64 5] 3)) (.cells #[.slice (some ⟨w.heap.size, 0, none⟩) 3 3, .slice (some ⟨w.heap.size + 1, 0, none⟩) 3 3] 37)
    rw [s2] at this; rw [hW3]; exact this
  rw [← hW3]
  clear hW3 s1 s2
  intro i hi
  rcases (show i = 0 ∨ i = 1 by omega) with rfl | rfl
  · refine ⟨w.heap.size, 3, by simp [World.cell?, a3], fun j hj => ?_⟩
    have hj : j < 3 := hj
    rcases (show j = 0 ∨ j = 1 ∨ j = 2 by omega) with rfl | rfl | rfl <;> simp [World.cell?, a1]
  · refine ⟨w.heap.size + 1, 3, by simp [World.cell?, a3], fun j hj => ?_⟩
    have hj : j < 3 := hj
    rcases (show j = 0 ∨ j = 1 ∨ j = 2 by omega) with rfl | rfl | rfl <;> simp [World.cell?, a2]

set_option maxHeartbeats 2000000 in
set_option maxRecDepth 100000 in
theorem ringed_any (w : World) : Calls Try.prog 28 #[] w fun e w' => e = .returned (.bool true) ∧ Below w.heap.size w w' := by
  go_enter Try.func28, Try.ntmps28
  go_wp2_with fail
  refine (rings_any w).mono ?_
  rintro e w1 ⟨v, rfl, hg, hb⟩
  have HG : Hid (G.GAt w1 w.heap.size 91 50 w.heap.size ((5 : Nat) : Int) v RL ∧ Below w.heap.size w w1) := ⟨hg, hb⟩
  clear hg hb
  go_wp2_with fail
  refine (bof_any 5 w.heap.size w.heap.size 6 v RL w1 HG.out.1 (by omega) ed_RL (by omega)).mono ?_
  rintro e w2 ⟨pB, m, N, D, vB, l, cs, rfl, hat, hN, hlm, hbs, hcb, hrow, hb2⟩
  obtain rfl := ring_labels hbs
  obtain rfl := ring_cuts hcb
  have HAT : Hid (BlAt w2 pB m N D vB ∧ Lm D RL ll ∧ w2.ownsRow w1.heap.size 3 1 vB 1 (natsV [2])) := ⟨hat, hlm, hrow⟩
  have HB2 : Hid (Below w.heap.size w w2) := HG.out.2.trans (hb2.mono HG.out.2.size)
  clear hat hlm hbs hcb hrow hb2 HG
  go_wp2_with fail
  refine (bcuts_any pB m N w1.heap.size D vB [2] w2 HAT.out.1 HAT.out.2.2 (by simp)).mono ?_
  rintro e w3 ⟨v3, rfl, hrow3, hb3⟩
  obtain ⟨a3, c3, rfl, hc3⟩ := nats_shape hrow3
  have HB3 : Hid (Below w2.heap.size w2 w3) := hb3
  have hA : Below w3.heap.size w3 (w3.alloc (.cells #[.int .i64 2] 3)) := (Below.refl _ _).alloc (Nat.le_refl _) _
  have HS3 : Hid (0 < 1 → ∃ r1 r2, a3 = some ⟨r1, 0, none⟩ ∧ (some ⟨w3.heap.size, 0, none⟩ : Option Addr) = some ⟨r2, 0, none⟩ ∧ (∀ j, j < 1 → (w3.alloc (.cells #[.int .i64 2] 3)).cell? ⟨r1, j, none⟩ = some (.int .i64 2)) ∧ ∀ j, j < 1 → (w3.alloc (.cells #[.int .i64 2] 3)).cell? ⟨r2, j, none⟩ = some (.int .i64 2)) := fun _ => by
    obtain ⟨g, hg, hcell⟩ := hc3 (by simp)
    refine ⟨g, w3.heap.size, hg, rfl, fun j hj => ?_, fun j hj => ?_⟩
    · obtain rfl : j = 0 := by omega
      exact cell_below (hcell 0 (by simp)) hA
    · obtain rfl : j = 0 := by omega
      exact cell_one_new w3 (.int .i64 2) 3 0 _ (by simp)
  have HBA : Hid (Below w2.heap.size w2 (w3.alloc (.cells #[.int .i64 2] 3))) := hb3.trans (hA.mono hb3.size)
  clear hrow3 hc3 hb3 hA
  go_wp2_with fail
  refine (same_ints a3 (some ⟨w3.heap.size, 0, none⟩) 1 c3 1 (fun _ => 2) _ HS3.out (by omega)).mono ?_
  rintro e w4 ⟨rfl, k4, hw4⟩
  have HB4 : Hid (Below w2.heap.size w2 w4) := HBA.out.trans (by rw [hw4]; exact (below_drewN (Below.refl _ _) k4).mono HBA.out.size)
  clear hw4 HS3 HBA HB3
  go_wp2_with fail
  refine (bparts_any pB m N D vB w4 (HAT.out.1.below HB4.out) HAT.out.2.1 ring_good (by unfold G.Up; decide) (by decide) (by decide) (by omega)).mono ?_
  rintro e w5 ⟨v5, rfl, hall, hb5⟩
  rw [ring_blks] at hall
  obtain ⟨g5, c5, rfl, hr5⟩ := hall
  have HR5 : Hid (RowsAt w5 g5 [[0, 1, 2], [3, 4, 5]] 2) := hr5
  have HB5 : Hid (Below w.heap.size w w5) := (HB2.out.trans (HB4.out.mono HB2.out.size)).trans (hb5.mono (HB2.out.trans (HB4.out.mono HB2.out.size)).size)
  clear hr5 hb5
  go_wp2_with fail
  refine (sames_rows (some ⟨g5, 0, none⟩) (some ⟨w5.heap.size + 1 + 1, 0, none⟩) 2 c5 2 [[0, 1, 2], [3, 4, 5]] _ (fun _ => ⟨g5, _, rfl, rfl, three_rows w5 g5 HR5.out⟩) (by omega) (fun i => by rcases i with _ | _ | i <;> simp)).mono ?_
  rintro e w6 ⟨rfl, k6, hw6⟩
  have HB6 : Hid (Below w.heap.size w w6) := by
    rw [hw6]
    exact below_drewN (HB5.out.trans ((three_below w5 _ _ _).mono HB5.out.size)) k6
  clear hw6
  go_wp2_with fail
  go_ret
  exact ⟨rfl, HB6.out⟩

end Go.Proofs.Ytigodbamphejmaa.S
