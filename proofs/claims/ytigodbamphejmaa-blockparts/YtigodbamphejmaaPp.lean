/- The law's walk. -/
import Derived.Test.YtigodbamphejmaaPn
import Derived.Test.YtigodbamphejmaaRc
import Derived.Test.YtigodbamphejmaaOb
namespace Go.Proofs.Ytigodbamphejmaa.S
open Go.RowKit Go.WideMaps Go.Maps

theorem info58 : (Try.prog.info? 58).map (fun i => (i.zero, i.size, i.bytes)) = some (some (.map none), 1, 8) := by kernel_rfl

/-- The first x maps of the nodes. -/
structure Row1 (w0 w : World) (n x : Nat) : Prop where
  sn : w.ownsMap Try.prog 3 (plainElem (H := Unit) Try.prog 4) w0.heap.size 0 (.map [])
  tb : ∀ y, y < n → w.cell? ⟨w0.heap.size + 1, y, none⟩ = some (if y < x then .map (some (w0.heap.size + 1 + 1 + y)) else .map none)
  fz : ∀ y, w.frozen? ⟨w0.heap.size + 1, y, none⟩ = false
  mp : ∀ y, y < x → w.ownsMap Try.prog 3 (plainElem (H := Unit) Try.prog 4) (w0.heap.size + 1 + 1 + y) 0 (.map [])
  size : w.heap.size = w0.heap.size + 1 + 1 + x
  below : Below w0.heap.size w0 w

theorem row1_start (w0 : World) (n : Nat) : Row1 w0 ((w0.alloc (.map #[] 0)).alloc (.cells (madeCells #[.map none] n) 58)) n 0 := by
  have hb : Below (w0.alloc (.map #[] 0)).heap.size (w0.alloc (.map #[] 0)) ((w0.alloc (.map #[] 0)).alloc (.cells (madeCells #[.map none] n) 58)) := (Below.refl _ _).alloc (Nat.le_refl _) _
  have hs : (w0.alloc (.map #[] 0)).heap.size = w0.heap.size + 1 := by simp
  have hh : ((w0.alloc (.map #[] 0)).alloc (.cells (madeCells #[.map none] n) 58)).heap[w0.heap.size + 1]? = some (.cells (madeCells #[.map none] n) 58) := by
    have := heap_alloc_new (w0.alloc (.map #[] 0)) (.cells (madeCells #[.map none] n) 58)
    rw [hs] at this; exact this
  refine ⟨(World.ownsMap_made w0 _ _ _).alloc _, fun y hy => ?_, fun y => by simp only [World.frozen?, hh]; rfl, fun y hy => by omega, by simp, ((Below.refl _ _).alloc (Nat.le_refl _) _).trans (hb.mono (by omega))⟩
  simp only [World.cell?, hh]
  simp [madeCells, hy, Nat.mod_one]

theorem row1_step {w0 w : World} {n x : Nat} (h : Row1 w0 w n x) (hx : x < n) : Row1 w0 ((w.alloc (.map #[] 0)).setCell ⟨w0.heap.size + 1, x, none⟩ (.map (some w.heap.size))) n (x + 1) := by
  have hne : w0.heap.size + 1 ≠ w.heap.size := by have := h.size; omega
  have hb1 : Below w.heap.size w (w.alloc (.map #[] 0)) := (Below.refl _ _).alloc (Nat.le_refl _) _
  have hlt : w0.heap.size + 1 < w.heap.size := by have := h.size; omega
  have hmk : ∀ (m : Nat) (D : DataW Unit), (w.alloc (.map #[] 0)).ownsMap Try.prog 3 (plainElem Try.prog 4) m 0 D → m ≠ w0.heap.size + 1 → ((w.alloc (.map #[] 0)).setCell ⟨w0.heap.size + 1, x, none⟩ (.map (some w.heap.size))).ownsMap Try.prog 3 (plainElem Try.prog 4) m 0 D := fun m D hm hne => hm.setCell (a := ⟨w0.heap.size + 1, x, none⟩) hne _
  refine ⟨hmk _ _ (h.sn.alloc _) (by omega), fun y hy => ?_, fun y => ?_, fun y hy => ?_, ?_, ?_⟩
  · by_cases e : y = x
    · subst e
      rw [World.cell?_setCell_same _ _ _ ((hb1.cell (p := ⟨w0.heap.size + 1, y, none⟩) hlt).trans (h.tb y hy))]
      rw [if_pos (by omega), h.size]
    · rw [World.cell?_setCell_other _ _ _ _ (fun c => e (by injection c with _ c _; omega)), hb1.cell (p := ⟨w0.heap.size + 1, y, none⟩) hlt, h.tb y hy]
      by_cases c : y < x
      · rw [if_pos c, if_pos (by omega)]
      · rw [if_neg c, if_neg (by omega)]
  · rw [World.frozen?_setCell]
    have := h.fz y
    simp only [World.frozen?] at this ⊢
    rw [hb1.block _ hlt]; exact this
  · by_cases e : y = x
    · subst e
      have := hmk _ _ (World.ownsMap_made w Try.prog 3 (plainElem Try.prog 4)) (by omega)
      rw [h.size] at this ⊢
      exact this
    · exact hmk _ _ ((h.mp y (by omega)).alloc _) (by omega)
  · simp [h.size]; try omega
  · exact (h.below.alloc h.below.size _).setCell (by simp) _

/-- All that the law has made ahead of its maps. -/
structure Had (w W : World) (g b mb N n p pw bw pt bt mp Nr gp cp : Nat) (v vb : Value) (D Dr : DataW Unit) (R B : List (Int × Int × Int)) (l cs Wr Tr : List Nat) : Prop where
  ga : G.GAt W w.heap.size 91 50 g (n : Int) v R
  n14 : n ≤ 14
  ed : Ed n 50 R
  at_ : BlAt W b mb N D vb
  cuts : CutsB R n cs
  row : ∃ B0, W.ownsRow B0 3 1 vb cs.length (natsV cs)
  lab : Lab4 R l
  run : ∃ w1, Run w1 W p pw bw pt bt mp n R B Wr Tr Dr Nr
  parts : RowsAt W gp (blks R l) (blks R l).length
  below : Below w.heap.size w W

end Go.Proofs.Ytigodbamphejmaa.S
