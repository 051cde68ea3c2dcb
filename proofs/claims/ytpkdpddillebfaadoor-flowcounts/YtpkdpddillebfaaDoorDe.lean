/- The document's rooms: rooms; Ask. -/
import Derived.Test.YtpkdpddillebfaaDoorDbD
import Derived.Test.YtpkdpddillebfaaDoorYa
namespace Go.Proofs.YtpkdpddillebfaaDoor.S
open Go Go.ChangeMaps Go.MapKept Go.WideShapes
open Go.RowKit Go.WideMaps Go.Maps F

theorem info30s : (Tryd.prog.info? 30).map (fun i => (i.zero, i.size, i.bytes)) = some (some (.slice none 0 0), 1, 24) := by kernel_rfl

/-- Rows that are laid one after the other. -/
structure Rows1 (w wq : World) (n i : Nat) : Prop where
  out : ∀ j, j < n → w.heap.size < wq.heap.size ∧ wq.cell? ⟨w.heap.size, j, none⟩ = some (if j < i then .slice (some ⟨w.heap.size + 1 + j, 0, none⟩) n n else .slice none 0 0) ∧ wq.frozen? ⟨w.heap.size, j, none⟩ = false
  row : ∀ k j, k < i → j < n → wq.cell? ⟨w.heap.size + 1 + k, j, none⟩ = some (.int .i64 0) ∧ wq.frozen? ⟨w.heap.size + 1 + k, j, none⟩ = false
  size : wq.heap.size = w.heap.size + 1 + i
  bel : Below w.heap.size w wq

theorem made_cell (w : World) (v : Value) (n : Nat) (t : TypeId) (j : Nat) (hj : j < n) : (w.alloc (.cells (madeCells #[v] n) t)).cell? ⟨w.heap.size, j, none⟩ = some v ∧ (w.alloc (.cells (madeCells #[v] n) t)).frozen? ⟨w.heap.size, j, none⟩ = false := by
  have hh := heap_alloc_new w (.cells (madeCells #[v] n) t)
  obtain ⟨W, hW⟩ : ∃ W, w.alloc (.cells (madeCells #[v] n) t) = W := ⟨_, rfl⟩
  rw [hW] at hh ⊢
  have hc : (madeCells #[v] n)[j]? = some v := by simp [madeCells, hj, Nat.mod_one]
  exact ⟨by simp [World.cell?, hh, hc], by simp [World.frozen?, hh]⟩

theorem Rows1.start (w : World) (n : Nat) : Rows1 w (w.alloc (.cells (madeCells #[.slice none 0 0] n) 30)) n 0 :=
  ⟨fun j hj => ⟨by simp, by rw [if_neg (by omega)]; exact (made_cell w _ n 30 j hj).1, (made_cell w _ n 30 j hj).2⟩, fun k j hk => by omega, by simp, (Below.refl _ _).alloc (Nat.le_refl _) _⟩

theorem frozen_below {w w' : World} {k i : Nat} {f : Bool} (h : w.frozen? ⟨k, i, none⟩ = f) (hk : k < w.heap.size) (hb : Below w.heap.size w w') : w'.frozen? ⟨k, i, none⟩ = f := by
  unfold World.frozen? at h ⊢
  rw [hb.block k hk]; exact h

theorem Rows1.next {w wq : World} {n i : Nat} (h : Rows1 w wq n i) (hi : i < n) : Rows1 w ((wq.alloc (.cells (madeCells #[.int .i64 0] n) 3)).setCell ⟨w.heap.size, i, none⟩ (.slice (some ⟨wq.heap.size, 0, none⟩) n n)) n (i + 1) := by
  have hbA : Below wq.heap.size wq (wq.alloc (.cells (madeCells #[.int .i64 0] n) 3)) := (Below.refl _ _).alloc (Nat.le_refl _) _
  have hlt := (h.out i hi).1
  refine ⟨fun j hj => ⟨by simp; omega, ?_, ?_⟩, fun k j hk hj => ?_, by simp [h.size]; omega, ?_⟩
  · by_cases e : j = i
    · subst e
      rw [if_pos (by omega), ← h.size]
      exact World.cell?_setCell_same _ _ _ (cell_below (h.out j hj).2.1 hbA)
    · rw [World.cell?_setCell_other _ _ _ _ (fun k => by injection k with _ k2; exact e k2.symm)]
      rw [cell_below (h.out j hj).2.1 hbA]
      by_cases c : j < i
      · rw [if_pos c, if_pos (by omega)]
      · rw [if_neg c, if_neg (by omega)]
  · rw [World.frozen?_setCell]; exact frozen_below (h.out j hj).2.2 hlt hbA
  · rw [World.cell?_setCell_far _ _ _ _ (by show w.heap.size ≠ w.heap.size + 1 + k; omega), World.frozen?_setCell]
    by_cases e : k = i
    · subst e
      rw [← h.size]
      exact made_cell wq _ n 3 j hj
    · have h1 := h.row k j (by omega) hj
      exact ⟨cell_below h1.1 hbA, frozen_below h1.2 (lt_of_cell h1.1) hbA⟩
  · exact (h.bel.trans (hbA.mono h.bel.size)).setCell (Nat.le_refl _) _

theorem Rows1.mat {w wq : World} {n : Nat} (h : Rows1 w wq n n) : Mat wq w.heap.size (fun i => w.heap.size + 1 + i) n (fun _ _ => 0) :=
  ⟨fun i hi => by have := (h.out i hi).2.1; rwa [if_pos hi] at this, fun i j hi hj => h.row i j hi hj, fun i j _ _ e => by omega, fun i _ e => by omega⟩

set_option maxHeartbeats 2000000 in
set_option maxRecDepth 100000 in
theorem rooms_any (n : Nat) (w : World) (hn : n ≤ 100) :
    Calls Tryd.prog 57 #[.int .i64 (n : Int)] w fun e w' => e = .returned (.slice (some ⟨w.heap.size, 0, none⟩) n n) ∧ Mat w' w.heap.size (fun i => w.heap.size + 1 + i) n (fun _ _ => 0) ∧ Below w.heap.size w w' := by
  have hmk := fun W => run_make_row' (P := Tryd.prog) 100 30 (.slice none 0 0) 24 Tryd.underlying100 info30s rfl .i64 .i64 n (by omega) (by omega) W
  have hmk2 := fun W => run_make_row' (P := Tryd.prog) 30 3 (.int .i64 0) 8 Tryd.underlying30 Tryd.info3 rfl .i64 .i64 n (by omega) (by omega) W
  have HS : Hid (Rows1 w (w.alloc (.cells (madeCells #[.slice none 0 0] n) 30)) n 0) := Rows1.start w n
  go_enter Tryd.func57, Tryd.ntmps57
  go_wp2_with fail
  go_loopw [9] (fun s9 wq => ∃ i : Nat, i ≤ n ∧ s9 = .int .i64 i ∧ Rows1 w wq n i) (fun s9 _ => n - (intOf s9).toNat)
  case atStart => exact ⟨0, Nat.zero_le _, rfl, HS.out⟩
  case round =>
    clear HS
    obtain ⟨i, hi, rfl, hr⟩ := hrel
    have HR : Hid (Rows1 w wr n i) := hr
    clear hr
    by_cases hlt : i < n
    · as_aux_lemma =>
      have HN : Hid (Rows1 w ((wr.alloc (.cells (madeCells #[.int .i64 0] n) 3)).setCell ⟨w.heap.size, i, none⟩ (.slice (some ⟨wr.heap.size, 0, none⟩) n n)) n (i + 1)) := HR.out.next hlt
      have hbA : Below wr.heap.size wr (wr.alloc (.cells (madeCells #[.int .i64 0] n) 3)) := (Below.refl _ _).alloc (Nat.le_refl _) _
      have q1 := cell_below (HR.out.out i hlt).2.1 hbA
      have q2 := frozen_below (HR.out.out i hlt).2.2 (HR.out.out i hlt).1 hbA
      rw [if_neg (Nat.lt_irrefl i)] at q1
      clear hbA
      go_wp2_with fail
      go_roundw
      case rel => exact ⟨i + 1, by omega, by go_num, HN.out⟩
      case measure => simp [intOf]; omega
    · as_aux_lemma =>
      have hie : n = i := by omega
      subst hie
      go_wp2_with fail
      go_ret
      exact ⟨rfl, HR.out.mat, HR.out.bel⟩

end Go.Proofs.YtpkdpddillebfaaDoor.S
