/- What the rounds of SetsPlay are said by. -/
import Derived.Test.YtkoghblolnklmaaDoorS
import Derived.Deep.RegionHeld
import Derived.Deep.DeepCutAuto
import Derived.Deep.LoopGhost
namespace Go.Proofs.YtkoghblolnklmaaDoor
open Go.RowKit

structure PairsAt (w : World) (bl off m : Nat) (ps : Nat → Int × Int) : Prop where
  a : ∀ i, i < m → w.cell? ⟨bl, off + i * 2, none⟩ = some (.int .i64 (ps i).1)
  b : ∀ i, i < m → w.cell? ⟨bl, off + i * 2 + 1, none⟩ = some (.int .i64 (ps i).2)

/-- The Sets value and the law's own row. -/
structure Both (W w : World) (p b cw bw : Nat) (L M : List Nat) : Prop where
  sa : SetsAt w p b L
  sw : WAt w cw bw M
  lb : W.heap.size ≤ b
  lw : W.heap.size ≤ bw
  n1 : p ≠ bw
  n2 : b ≠ bw
  n3 : cw ≠ b
  below : Below W.heap.size W w

theorem Both.below' {W w w' : World} {p b cw bw : Nat} {L M : List Nat} (h : Both W w p b cw bw L M) (k : Below w.heap.size w w') : Both W w' p b cw bw L M :=
  ⟨h.sa.below k h.sa.plt h.sa.blt, h.sw.below k h.sw.plt h.sw.blt, h.lb, h.lw, h.n1, h.n2, h.n3, h.below.trans (k.mono h.below.size)⟩

theorem Both.drewN {W w : World} {p b cw bw : Nat} {L M : List Nat} (h : Both W w p b cw bw L M) (n : Nat) : Both W (w.drewN n) p b cw bw L M := h.below' (below_drewN (Below.refl _ _) n)

theorem Both.first {W w w' : World} {p b cw bw : Nat} {L L' M : List Nat} (h : Both W w p b cw bw L M) (hs : SetsAt w' p b L') (k : But b w w') : Both W w' p b cw bw L' M :=
  ⟨hs, ⟨by rw [k.block cw h.sw.plt h.n3]; exact h.sw.hp, by rw [k.block bw h.sw.blt (fun e => h.n2 e.symm)]; exact h.sw.hb⟩, h.lb, h.lw, h.n1, h.n2, h.n3, h.below.trans (k.below h.lb h.below.size)⟩

theorem Both.set {W w : World} {p b cw bw : Nat} {L M : List Nat} (h : Both W w p b cw bw L M) (k v : Nat) : Both W (w.setCell ⟨bw, k, none⟩ (.int .i64 (v : Int))) p b cw bw L (M.set k v) :=
  ⟨⟨by rw [Below.heap_setCell _ _ _ _ h.n1]; exact h.sa.hp, by rw [Below.heap_setCell _ _ _ _ h.n2]; exact h.sa.hb⟩, h.sw.set k v, h.lb, h.lw, h.n1, h.n2, h.n3, h.below.setCell h.lw _⟩

theorem Both.gl {W w : World} {p b cw bw : Nat} {L M : List Nat} (h : Both W w p b cw bw L M) (hg : Gl W) : Gl w := hg.below h.below

theorem both_start {W w : World} {p b n : Nat} (hs : SetsAt w p b (List.range n)) (hb : Below W.heap.size W w) (hl : W.heap.size ≤ b) :
    Both W ((w.alloc (.cells (madeCells #[.int .i64 0] n) 3)).alloc (.cells #[.slice (some ⟨w.heap.size, 0, none⟩) n n] 30)) p b (w.heap.size + 1) w.heap.size (List.range n) (fill n 0) := by
  have q1 := hs.plt
  have q2 := hs.blt
  refine ⟨sets_alloc (sets_alloc hs _) _, ⟨?_, ?_⟩, hl, hb.size, by omega, by omega, by omega, (hb.alloc hb.size _).alloc (by have := hb.size; simp; omega) _⟩
  · have := heap_alloc_new (w.alloc (.cells (madeCells #[.int .i64 0] n) 3)) (.cells #[.slice (some ⟨w.heap.size, 0, none⟩) n n] 30)
    rw [World.size_alloc] at this
    rw [this, fill_length]
  · rw [Below.heap_alloc _ _ _ (by simp), heap_alloc_new, made_vals]

theorem sets_drew {w : World} {p b : Nat} {L : List Nat} (h : SetsAt w p b L) : SetsAt w.drew p b L := ⟨h.hp, h.hb⟩

theorem join_nm (x y p b : Nat) (L : List Nat) (ok : Bool) (w : World) (hs : SetsAt w p b L) (hx : x < L.length) (hy : y < L.length) (hlen : L.length ≤ 40) (hok : decide (L.getD x 0 ≠ L.getD y 0) = ok) :
    Calls Tryd.prog 6 #[.pointer (some ⟨p, 0, none⟩), .int .i64 (x : Int), .int .i64 (y : Int)] w fun e w' => e = .returned (.tuple #[.bool ok, .nilIface]) ∧ SetsAt w' p b (joinL L x y) ∧ But b w w' := by
  rw [← hok]
  exact join_in x y p b L w hs hx hy hlen

theorem many_n {n c : Nat} (p b : Nat) (L : List Nat) (w : World) (hs : SetsAt w p b L) (hg : Good n L) (hn : n ≤ 40) (hc : cnt (isLeast L) n = c) :
    Calls Tryd.prog 10 #[.pointer (some ⟨p, 0, none⟩)] w fun e w' => e = .returned (.int .i64 (c : Int)) ∧ Below w.heap.size w w' := by
  have := many_any p b L w hs (by rw [hg.len]; exact hn)
  rw [hg.len, hc] at this
  exact this

theorem least_n {n X : Nat} (x p b : Nat) (L : List Nat) (w : World) (hs : SetsAt w p b L) (hg : Good n L) (hx : x < n) (hX : L.getD x 0 = X) :
    Calls Tryd.prog 8 #[.pointer (some ⟨p, 0, none⟩), .int .i64 (x : Int)] w fun e w' => e = .returned (.tuple #[.int .i64 (X : Int), .nilIface]) ∧ Below w.heap.size w w' := by
  have := least_in (x : Int) p b L w hs (by omega) (by rw [hg.len]; omega)
  rw [Int.toNat_natCast, hX] at this
  exact this

theorem size_n {n s : Nat} (x p b : Nat) (L : List Nat) (w : World) (hs : SetsAt w p b L) (hg : Good n L) (hn : n ≤ 40) (hx : x < n) (hS : cnt (isSame L x) n = s) :
    Calls Tryd.prog 9 #[.pointer (some ⟨p, 0, none⟩), .int .i64 (x : Int)] w fun e w' => e = .returned (.tuple #[.int .i64 (s : Int), .nilIface]) ∧ Below w.heap.size w w' := by
  have := size_in (x : Int) p b L w hs (by omega) (by rw [hg.len]; omega) (by rw [hg.len]; exact hn)
  rw [Int.toNat_natCast, hg.len, hS] at this
  exact this

theorem all_n {n : Nat} (p b : Nat) (L : List Nat) (w : World) (hs : SetsAt w p b L) (hg : Good n L) (hn : n ≤ 40) :
    Calls Tryd.prog 12 #[.pointer (some ⟨p, 0, none⟩)] w fun e w' => ∃ g cap, e = .returned (.slice (some ⟨g, 0, none⟩) (grps L n).length cap) ∧ RowsAt w' g (grps L n) (grps L n).length ∧ Below w.heap.size w w' := by
  have hl := hg.len
  refine (all_any p b L w hs (by omega) (fun i hi => by have := hg.le i (by omega); omega)).mono ?_
  rintro e w' ⟨v, rfl, ⟨g, cap, rfl, h⟩, hb⟩
  rw [hl] at h ⊢
  exact ⟨g, cap, rfl, h, hb⟩

theorem cell_below {w w' : World} {k i : Nat} {v : Value} (h : w.cell? ⟨k, i, none⟩ = some v) (hb : Below w.heap.size w w') : w'.cell? ⟨k, i, none⟩ = some v :=
  (hb.cell (p := ⟨k, i, none⟩) (lt_of_cell h)).trans h

theorem RowsAt.below {w w' : World} {g c : Nat} {Gs : List (List Nat)} (h : RowsAt w g Gs c) (hb : Below w.heap.size w w') : RowsAt w' g Gs c := by
  intro i hi
  obtain ⟨r, cap, h1, h2⟩ := h i hi
  exact ⟨r, cap, cell_below h1 hb, fun j hj => cell_below (h2 j hj) hb⟩

/-- Parts' rows can be read. -/
theorem POut.rows {w : World} {base g m cap : Nat} {Gs : List (List Nat)} {r c : Nat → Nat} (h : POut w base (.slice (some ⟨g, 0, none⟩) m cap) Gs r c) (hm : m = Gs.length) : RowsAt w g Gs m := by
  intro i hi
  refine ⟨r i, c i, h.outcell hm i (by omega), fun j hj => ?_⟩
  have h1 := (h.each i (by omega)).1
  rw [ints_length] at h1
  rw [h1.cellAt j (by omega)]
  generalize Gs.getD i [] = G at *
  simp [ints, hj]

/-- What a node asks for is asked of: the first list's first one, or this round's. -/
def zOf (n : Nat) (x0 : Int) (x : Nat) : Nat := if 0 ≤ x0 ∧ x0 < (n : Int) then x0.toNat else x
theorem zOf_lt {n x : Nat} (x0 : Int) (h : x < n) : zOf n x0 x < n := by
  unfold zOf
  split <;> omega
theorem zOf_in {n x : Nat} {x0 : Int} (h1 : 0 ≤ x0) (h2 : x0 < (n : Int)) : ((zOf n x0 x : Nat) : Int) = x0 := by
  unfold zOf
  rw [if_pos ⟨h1, h2⟩]; omega
theorem zOf_out {n x : Nat} {x0 : Int} (h : x0 < 0 ∨ (n : Int) ≤ x0) : zOf n x0 x = x := by
  unfold zOf
  rw [if_neg (by omega)]

theorem grps_small {n : Nat} {L : List Nat} (g : Good n L) (i : Nat) : ((grps L n).getD i []).length ≤ n := by
  rcases Nat.lt_or_ge i (grps L n).length with h | h
  · obtain ⟨x, _, _, e⟩ := grps_at g i h
    rw [e, grp_length]; exact cnt_le _ _
  · simp [List.getElem?_eq_none h]

end Go.Proofs.YtkoghblolnklmaaDoor
