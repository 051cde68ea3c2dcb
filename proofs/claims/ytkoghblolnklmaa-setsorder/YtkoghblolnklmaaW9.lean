/- The law SetsOrder: what its rounds are said by. -/
import Derived.Test.YtkoghblolnklmaaM
import Derived.Deep.RegionHeld
import Derived.Deep.DeepCutAuto
import Derived.Deep.LoopGhost
namespace Go.Proofs.Ytkoghblolnklmaa
open Go.RowKit

/-- The i-th two that the first is asked to put together. -/
def fa (ps : Nat → Int × Int) (n : Nat) (i : Nat) : Nat × Nat := (pk (ps i).1 n, pk (ps i).2 n)
/-- .. and the second. -/
def fb (ps : Nat → Int × Int) (m t n : Nat) (i : Nat) : Nat × Nat := (pk (ps ((i + t) % m)).2 n, pk (ps ((i + t) % m)).1 n)

structure PairsAt (w : World) (bl off m : Nat) (ps : Nat → Int × Int) : Prop where
  a : ∀ i, i < m → w.cell? ⟨bl, off + i * 2, none⟩ = some (.int .i64 (ps i).1)
  b : ∀ i, i < m → w.cell? ⟨bl, off + i * 2 + 1, none⟩ = some (.int .i64 (ps i).2)

/-- The two Sets values of the law. -/
structure Two (W w : World) (pa ba pb bb : Nat) (A B : List Nat) : Prop where
  sa : SetsAt w pa ba A
  sb : SetsAt w pb bb B
  la : W.heap.size ≤ ba
  lb : W.heap.size ≤ bb
  n1 : pb ≠ ba
  n2 : bb ≠ ba
  n3 : pa ≠ bb
  below : Below W.heap.size W w

theorem okJ_le (f : Nat → Nat × Nat) (n : Nat) : ∀ k, okJ f n k ≤ k
  | 0 => Nat.le_refl _
  | k + 1 => by have := okJ_le f n k; simp only [okJ]; split <;> omega

theorem box_two (w : World) (a1 a2 b1 b2 : Value) : ((w.alloc (.cells #[a1, a2] 31)).alloc (.cells #[b1, b2] 31)).drew.cell? ⟨w.heap.size, 0, none⟩ = some a1 ∧ ((w.alloc (.cells #[a1, a2] 31)).alloc (.cells #[b1, b2] 31)).drew.cell? ⟨w.heap.size, 1, none⟩ = some a2 ∧
    ((w.alloc (.cells #[a1, a2] 31)).alloc (.cells #[b1, b2] 31)).drew.cell? ⟨w.heap.size + 1, 0, none⟩ = some b1 ∧ ((w.alloc (.cells #[a1, a2] 31)).alloc (.cells #[b1, b2] 31)).drew.cell? ⟨w.heap.size + 1, 1, none⟩ = some b2 ∧ Below w.heap.size w ((w.alloc (.cells #[a1, a2] 31)).alloc (.cells #[b1, b2] 31)).drew := by
  have h1 : ((w.alloc (.cells #[a1, a2] 31)).alloc (.cells #[b1, b2] 31)).heap[w.heap.size]? = some (.cells #[a1, a2] 31) := by
    rw [Below.heap_alloc _ _ _ (by simp), heap_alloc_new]
  have h2 : ((w.alloc (.cells #[a1, a2] 31)).alloc (.cells #[b1, b2] 31)).heap[w.heap.size + 1]? = some (.cells #[b1, b2] 31) := by
    have := heap_alloc_new (w.alloc (.cells #[a1, a2] 31)) (.cells #[b1, b2] 31)
    rw [World.size_alloc] at this; exact this
  exact ⟨cell_of_heap h1 0, cell_of_heap h1 1, cell_of_heap h2 0, cell_of_heap h2 1, (below_two w _ _).drew⟩

theorem But.cell {b : Nat} {w w' : World} (h : But b w w') {p : Addr} (hp : p.block < w.heap.size) (hn : p.block ≠ b) : w'.cell? p = w.cell? p := World.cell?_of_block (w := w) (h.block p.block hp hn)

theorem sets_drew {w : World} {p b : Nat} {L : List Nat} (h : SetsAt w p b L) : SetsAt w.drew p b L := ⟨h.hp, h.hb⟩

theorem SetsAt.but {w w' : World} {p b c : Nat} {L : List Nat} (h : SetsAt w p b L) (k : But c w w') (hp : p ≠ c) (hb : b ≠ c) : SetsAt w' p b L :=
  ⟨by rw [k.block p h.plt hp]; exact h.hp, by rw [k.block b h.blt hb]; exact h.hb⟩

theorem Two.below' {W w w' : World} {pa ba pb bb : Nat} {A B : List Nat} (h : Two W w pa ba pb bb A B) (k : Below w.heap.size w w') : Two W w' pa ba pb bb A B :=
  ⟨h.sa.below k h.sa.plt h.sa.blt, h.sb.below k h.sb.plt h.sb.blt, h.la, h.lb, h.n1, h.n2, h.n3, h.below.trans (k.mono h.below.size)⟩

theorem Two.first {W w w' : World} {pa ba pb bb : Nat} {A B A' : List Nat} (h : Two W w pa ba pb bb A B) (hs : SetsAt w' pa ba A') (k : But ba w w') : Two W w' pa ba pb bb A' B :=
  ⟨hs, h.sb.but k h.n1 h.n2, h.la, h.lb, h.n1, h.n2, h.n3, h.below.trans (k.below h.la h.below.size)⟩

theorem Two.second {W w w' : World} {pa ba pb bb : Nat} {A B B' : List Nat} (h : Two W w pa ba pb bb A B) (hs : SetsAt w' pb bb B') (k : But bb w w') : Two W w' pa ba pb bb A B' :=
  ⟨h.sa.but k h.n3 (fun e => h.n2 e.symm), hs, h.la, h.lb, h.n1, h.n2, h.n3, h.below.trans (k.below h.lb h.below.size)⟩

/-- Two boxes that hold two pairs. -/
def Boxes (W w : World) (s t : Value) (x1 x2 x3 x4 : Int) : Prop :=
  ∃ q13 q14 : Nat, s = .pointer (some ⟨q13, 0, none⟩) ∧ t = .pointer (some ⟨q14, 0, none⟩) ∧ w.cell? ⟨q13, 0, none⟩ = some (.int .i64 x1) ∧ w.cell? ⟨q13, 1, none⟩ = some (.int .i64 x2) ∧ w.cell? ⟨q14, 0, none⟩ = some (.int .i64 x3) ∧ w.cell? ⟨q14, 1, none⟩ = some (.int .i64 x4) ∧ W.heap.size ≤ q13 ∧ W.heap.size ≤ q14 ∧ Below W.heap.size W w

theorem boxes_ab (w : World) (x1 x2 x3 x4 : Int) : Boxes w ((w.alloc (.cells #[.int .i64 x1, .int .i64 x2] 31)).alloc (.cells #[.int .i64 x3, .int .i64 x4] 31)).drew (.pointer (some ⟨w.heap.size, 0, none⟩)) (.pointer (some ⟨w.heap.size + 1, 0, none⟩)) x1 x2 x3 x4 :=
  have h := box_two w (.int .i64 x1) (.int .i64 x2) (.int .i64 x3) (.int .i64 x4)
  ⟨_, _, rfl, rfl, h.1, h.2.1, h.2.2.1, h.2.2.2.1, Nat.le_refl _, Nat.le_succ _, h.2.2.2.2⟩
theorem boxes_ba (w : World) (x1 x2 x3 x4 : Int) : Boxes w ((w.alloc (.cells #[.int .i64 x3, .int .i64 x4] 31)).alloc (.cells #[.int .i64 x1, .int .i64 x2] 31)).drew (.pointer (some ⟨w.heap.size + 1, 0, none⟩)) (.pointer (some ⟨w.heap.size, 0, none⟩)) x1 x2 x3 x4 :=
  have h := box_two w (.int .i64 x3) (.int .i64 x4) (.int .i64 x1) (.int .i64 x2)
  ⟨_, _, rfl, rfl, h.2.2.1, h.2.2.2.1, h.1, h.2.1, Nat.le_succ _, Nat.le_refl _, h.2.2.2.2⟩

theorem join_nm (x y p b : Nat) (L : List Nat) (ok : Bool) (w : World) (hs : SetsAt w p b L) (hx : x < L.length) (hy : y < L.length) (hlen : L.length ≤ 40) (hok : decide (L.getD x 0 ≠ L.getD y 0) = ok) :
    Calls Try.prog 7 #[.pointer (some ⟨p, 0, none⟩), .int .i64 (x : Int), .int .i64 (y : Int)] w fun e w' => e = .returned (.tuple #[.bool ok, .nilIface]) ∧ SetsAt w' p b (joinL L x y) ∧ But b w w' := by
  rw [← hok]
  exact join_in x y p b L w hs hx hy hlen

/-- In whichever order they came. -/
theorem order_same {m t n : Nat} (ps : Nat → Int × Int) (hn : 0 < n) (ht : 0 < m → t < m) : runJ (fb ps m t n) n m = runJ (fa ps n) n m := by
  refine run_same (fun i _ => ⟨pk_lt _ _ hn, pk_lt _ _ hn⟩) (fun i _ => ⟨pk_lt _ _ hn, pk_lt _ _ hn⟩) (fun i hi => ?_) (fun i hi => ?_)
  · exact ⟨(i + t) % m, Nat.mod_lt _ (by omega), rfl⟩
  · refine ⟨(i + (m - t)) % m, Nat.mod_lt _ (by omega), ?_⟩
    have e : ((i + (m - t)) % m + t) % m = i := by
      have := ht (by omega)
      rw [Nat.mod_add_mod, show i + (m - t) + t = i + m by omega, Nat.add_mod_right, Nat.mod_eq_of_lt hi]
    unfold fa fb
    rw [e]

/-- What a round does to the first. -/
theorem ok_true {f : Nat → Nat × Nat} {n k x y : Nat} (hf : f k = (x, y)) (h : decide ((runJ f n k).getD x 0 ≠ (runJ f n k).getD y 0) = true) : okJ f n (k + 1) = okJ f n k + 1 := by
  simp only [okJ, hf]
  rw [if_pos (of_decide_eq_true h)]
theorem ok_false {f : Nat → Nat × Nat} {n k x y : Nat} (hf : f k = (x, y)) (h : decide ((runJ f n k).getD x 0 ≠ (runJ f n k).getD y 0) = false) : okJ f n (k + 1) = okJ f n k := by
  simp only [okJ, hf]
  rw [if_neg (of_decide_eq_false h)]; rfl
theorem run_succ {f : Nat → Nat × Nat} {n k x y : Nat} (hf : f k = (x, y)) : runJ f n (k + 1) = joinL (runJ f n k) x y := by
  simp only [runJ, hf]

theorem many_n {n c : Nat} (p b : Nat) (L : List Nat) (w : World) (hs : SetsAt w p b L) (hg : Good n L) (hn : n ≤ 40) (hc : cnt (isLeast L) n = c) :
    Calls Try.prog 8 #[.pointer (some ⟨p, 0, none⟩)] w fun e w' => e = .returned (.int .i64 (c : Int)) ∧ Below w.heap.size w w' := by
  have := many_any p b L w hs (by rw [hg.len]; exact hn)
  rw [hg.len, hc] at this
  exact this

/-- Rows that can be read: the i-th at the i-th cell. -/
def RowsAt (w : World) (g : Nat) (Gs : List (List Nat)) (c : Nat) : Prop :=
  ∀ i, i < c → ∃ r cap, w.cell? ⟨g, i, none⟩ = some (.slice (some ⟨r, 0, none⟩) (Gs.getD i []).length cap) ∧ ∀ j, j < (Gs.getD i []).length → w.cell? ⟨r, j, none⟩ = some (.int .i64 (((Gs.getD i []).getD j 0 : Nat) : Int))

theorem RowsAt.below {w w' : World} {g c : Nat} {Gs : List (List Nat)} (h : RowsAt w g Gs c) (hb : Below w.heap.size w w') : RowsAt w' g Gs c := by
  intro i hi
  obtain ⟨r, cap, h1, h2⟩ := h i hi
  exact ⟨r, cap, (hb.cell (p := ⟨g, i, none⟩) (lt_of_cell h1)).trans h1, fun j hj => (hb.cell (p := ⟨r, j, none⟩) (lt_of_cell (h2 j hj))).trans (h2 j hj)⟩

theorem all_n {n c : Nat} (p b : Nat) (L : List Nat) (w : World) (hs : SetsAt w p b L) (hg : Good n L) (hn : n ≤ 40) (hc : cnt (isLeast L) n = c) :
    Calls Try.prog 9 #[.pointer (some ⟨p, 0, none⟩)] w fun e w' => ∃ g cap, e = .returned (.slice (some ⟨g, 0, none⟩) c cap) ∧ RowsAt w' g (grps L n) c ∧ Below w.heap.size w w' := by
  have hl := hg.len
  refine (all_any p b L w hs (by omega) (fun i hi => by have := hg.le i (by omega); omega)).mono ?_
  rintro e w' ⟨v, rfl, ⟨g, cap, rfl, h⟩, hb⟩
  rw [hl] at h
  have hlen : (grps L L.length).length = c := by rw [hl, grps_length hg n (Nat.le_refl _), hc]
  rw [hlen]
  have hlen' : (grps L n).length = c := by rw [← hl]; exact hlen
  rw [hlen'] at h
  exact ⟨g, cap, rfl, h, hb⟩

/-- What is known of a row of All's. -/
theorem row_known {n i : Nat} {L : List Nat} (hg : Good n L) (hi : i < (grps L n).length) : ∃ X, ((grps L n).getD i []).getD 0 0 = X ∧ 0 < ((grps L n).getD i []).length ∧
    ∀ j, j < ((grps L n).getD i []).length → ((grps L n).getD i []).getD j 0 < n ∧ L.getD (((grps L n).getD i []).getD j 0) 0 = X ∧ cnt (isSame L (((grps L n).getD i []).getD j 0)) n = ((grps L n).getD i []).length := by
  obtain ⟨x, hx, hl, e⟩ := grps_at hg i hi
  rw [e]
  refine ⟨x, grp_head hg hx hl, ?_, fun j hj => ?_⟩
  · have := (grp_some hg hx).2 hl
    exact List.length_pos_iff.2 this
  · have h1 := grp_elem (L := L) (n := n) (x := x) j hj
    exact ⟨h1.1, h1.2, same_size h1.2⟩

theorem least_n {n X : Nat} (x p b : Nat) (L : List Nat) (w : World) (hs : SetsAt w p b L) (hg : Good n L) (hx : x < n) (hX : L.getD x 0 = X) :
    Calls Try.prog 10 #[.pointer (some ⟨p, 0, none⟩), .int .i64 (x : Int)] w fun e w' => e = .returned (.tuple #[.int .i64 (X : Int), .nilIface]) ∧ Below w.heap.size w w' := by
  have := least_in (x : Int) p b L w hs (by omega) (by rw [hg.len]; omega)
  rw [Int.toNat_natCast, hX] at this
  exact this

theorem size_n {n s : Nat} (x p b : Nat) (L : List Nat) (w : World) (hs : SetsAt w p b L) (hg : Good n L) (hn : n ≤ 40) (hx : x < n) (hS : cnt (isSame L x) n = s) :
    Calls Try.prog 11 #[.pointer (some ⟨p, 0, none⟩), .int .i64 (x : Int)] w fun e w' => e = .returned (.tuple #[.int .i64 (s : Int), .nilIface]) ∧ Below w.heap.size w w' := by
  have := size_in (x : Int) p b L w hs (by omega) (by rw [hg.len]; omega) (by rw [hg.len]; exact hn)
  rw [Int.toNat_natCast, hg.len, hS] at this
  exact this

/-- The five cells that a round of the law's last loop reads. -/
structure Five (w : World) (g1 g2 i r1 r2 j gl c1 c2 E X : Nat) : Prop where
  a1 : w.cell? ⟨g1, i, none⟩ = some (.slice (some ⟨r1, 0, none⟩) gl c1)
  a2 : w.cell? ⟨g2, i, none⟩ = some (.slice (some ⟨r2, 0, none⟩) gl c2)
  e1 : w.cell? ⟨r1, j, none⟩ = some (.int .i64 (E : Int))
  e2 : w.cell? ⟨r2, j, none⟩ = some (.int .i64 (E : Int))
  z : w.cell? ⟨r1, 0, none⟩ = some (.int .i64 (X : Int))

theorem cell_below {w w' : World} {k i : Nat} {v : Value} (h : w.cell? ⟨k, i, none⟩ = some v) (hb : Below w.heap.size w w') : w'.cell? ⟨k, i, none⟩ = some v :=
  (hb.cell (p := ⟨k, i, none⟩) (lt_of_cell h)).trans h

theorem Five.below {w w' : World} {g1 g2 i r1 r2 j gl c1 c2 E X : Nat} (h : Five w g1 g2 i r1 r2 j gl c1 c2 E X) (hb : Below w.heap.size w w') : Five w' g1 g2 i r1 r2 j gl c1 c2 E X :=
  ⟨cell_below h.a1 hb, cell_below h.a2 hb, cell_below h.e1 hb, cell_below h.e2 hb, cell_below h.z hb⟩

end Go.Proofs.Ytkoghblolnklmaa
