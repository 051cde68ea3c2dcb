/- The contracts of New, Size and pick. -/
import Derived.Test.YtkoghblolnklmaaDoorW3
import Derived.Deep.OwnRows
namespace Go.Proofs.YtkoghblolnklmaaDoor
open Go.RowKit

theorem Tryd.info3 : (Tryd.prog.info? 3).map (fun i => (i.zero, i.size, i.bytes)) = some (some (.int .i64 0), 1, 8) := by kernel_rfl

theorem heap_alloc_new (w : World) (o : Obj) : (w.alloc o).heap[w.heap.size]? = some o := by
  show (w.heap.push o)[w.heap.size]? = _
  rw [Array.getElem?_push, if_pos rfl]

theorem new_start (w : World) (n : Nat) : SetsAt ((w.alloc (.cells (madeCells #[.int .i64 0] n) 3)).alloc (.cells #[.slice (some ⟨w.heap.size, 0, none⟩) n n] 45)) (w.heap.size + 1) w.heap.size (fill n 0) := by
  refine ⟨?_, ?_⟩
  · have := heap_alloc_new (w.alloc (.cells (madeCells #[.int .i64 0] n) 3)) (.cells #[.slice (some ⟨w.heap.size, 0, none⟩) n n] 45)
    rw [World.size_alloc] at this
    rw [this, fill_length]
  · rw [Below.heap_alloc _ _ _ (by simp), heap_alloc_new, made_vals]

set_option maxHeartbeats 400000 in
theorem new_in (n : Nat) (w : World) (hn : n ≤ 40) :
    Calls Tryd.prog 4 #[.int .i64 (n : Int)] w fun e w' => e = .returned (.tuple #[.pointer (some ⟨w.heap.size + 1, 0, none⟩), .nilIface]) ∧ SetsAt w' (w.heap.size + 1) w.heap.size (List.range n) ∧ Below w.heap.size w w' := by
  have hmk := fun W => run_make_row' (P := Tryd.prog) 30 3 (.int .i64 0) 8 Tryd.underlying30 Tryd.info3 rfl .i64 .i64 n (by omega) (by omega) W
  have h0 : ¬ ((n : Int) < 0) := by omega
  have h1 : ¬ ((40 : Int) < (n : Int)) := by omega
  go_enter Tryd.func4, Tryd.ntmps4
  go_wp2_with fail
  go_loopw [5, 22] (fun _ i wr => ∃ k : Nat, k ≤ n ∧ i = .int .i64 k ∧ SetsAt wr (w.heap.size + 1) w.heap.size (fill n k) ∧ Below w.heap.size w wr) (fun _ i _ => n - (intOf i).toNat)
  case atStart => exact ⟨0, Nat.zero_le _, rfl, new_start w n, below_two w _ _⟩
  case round =>
    obtain ⟨k, hk, rfl, hs, hb⟩ := hrel
    clear hmk
    by_cases hlt : k < n
    · have hp := hs.pcell
      have hc := hs.bcell k (by rw [fill_length]; exact hlt)
      have hf := hs.bfrozen k
      have hs' := hs.set k k
      rw [fill_succ] at hs'
      have HS : Hid (SetsAt (wr.setCell ⟨w.heap.size, k, none⟩ (.int .i64 (k : Int))) (w.heap.size + 1) w.heap.size (fill n (k + 1))) := hs'
      have HB : Hid (Below w.heap.size w (wr.setCell ⟨w.heap.size, k, none⟩ (.int .i64 (k : Int)))) := hb.setCell (Nat.le_refl _) _
      rw [fill_length] at hp
      clear hs hs' hb
      generalize (fill n k).getD k 0 = z at hc
      go_wp2
      go_roundw
      case rel => exact ⟨k + 1, by omega, by go_num, HS.out, HB.out⟩
      case measure => simp [intOf]; omega
    · have hke : k = n := by omega
      subst hke
      rw [fill_all] at hs
      have HS : Hid (SetsAt wr (w.heap.size + 1) w.heap.size (List.range k)) := hs
      have HB : Hid (Below w.heap.size w wr) := hb
      clear hs hb
      go_wp2
      go_ret2
      exact ⟨rfl, HS.out, HB.out⟩

theorem cell_of_heap {w : World} {k : Nat} {c : Array Value} {t : TypeId} (h : w.heap[k]? = some (.cells c t)) (i : Nat) : w.cell? ⟨k, i, none⟩ = c[i]? := by
  simp [World.cell?, h]

theorem heap3 (w : World) (o1 o2 o3 : Obj) : (((w.alloc o1).alloc o2).alloc o3).heap[w.heap.size]? = some o1 ∧ (((w.alloc o1).alloc o2).alloc o3).heap[w.heap.size + 1]? = some o2 ∧ (((w.alloc o1).alloc o2).alloc o3).heap[w.heap.size + 1 + 1]? = some o3 := by
  refine ⟨?_, ?_, ?_⟩
  · rw [Below.heap_alloc _ _ _ (by simp; omega), Below.heap_alloc _ _ _ (by simp), heap_alloc_new]
  · rw [Below.heap_alloc _ _ _ (by simp)]
    have := heap_alloc_new (w.alloc o1) o2
    rw [World.size_alloc] at this; exact this
  · have := heap_alloc_new ((w.alloc o1).alloc o2) o3
    rw [World.size_alloc, World.size_alloc] at this; exact this

theorem below_four (w : World) (o1 o2 o3 o4 : Obj) : Below w.heap.size w ((((w.alloc o1).alloc o2).alloc o3).alloc o4) :=
  ((below_two w o1 o2).alloc (by simp; omega) _).alloc (by simp; omega) _

set_option maxHeartbeats 400000 in
theorem size_in (x : Int) (p b : Nat) (L : List Nat) (w : World) (hs : SetsAt w p b L) (hx0 : 0 ≤ x) (hx : x < (L.length : Int)) (hlen : L.length ≤ 40) :
    Calls Tryd.prog 9 #[.pointer (some ⟨p, 0, none⟩), .int .i64 x] w fun e w' => e = .returned (.tuple #[.int .i64 (cnt (isSame L x.toNat) L.length : Int), .nilIface]) ∧ Below w.heap.size w w' := by
  obtain ⟨x, rfl⟩ := Int.eq_ofNat_of_zero_le hx0
  rw [Int.toNat_natCast]
  have h3 := heap3 w (Obj.cells #[Value.pointer (some { block := p, off := 0 })] 23) (Obj.cells #[Value.int IntKind.i64 ↑x] 3) (Obj.cells #[Value.int IntKind.i64 ↑x] 3)
  have hb4 := below_four w (Obj.cells #[Value.pointer (some { block := p, off := 0 })] 23) (Obj.cells #[Value.int IntKind.i64 ↑x] 3) (Obj.cells #[Value.int IntKind.i64 ↑x] 3) (Obj.cells #[Value.pointer (some { block := p, off := 0 })] 23)
  have H3 := (show Hid _ from h3)
  have H4 := (show Hid _ from hb4)
  clear h3 hb4
  have hmf' := hmf
  go_enter Tryd.func9, Tryd.ntmps9
  go_wp2_with fail
  refine (check1_in (x : Int) (w.heap.size + 1 + 1) p b 1 L _ (sets_alloc (sets_alloc (sets_alloc hs _) _) _) ?c1 ?c2 hx0 hx).mono ?_
  case c1 => rw [cell_of_heap H3.out.2.2]; rfl
  case c2 => simp
  rintro e w' ⟨rfl, rfl⟩
  go_wp2_with fail
  refine (count_size x p b w.heap.size (w.heap.size + 1) L _ (sets_alloc (sets_alloc (sets_alloc (sets_alloc hs _) _) _) _) ?c1 ?c2 (by omega) hlen).mono ?_
  case c1 => rw [World.cell?_alloc_lt _ _ _ (by simp; omega), cell_of_heap H3.out.1]; rfl
  case c2 => rw [World.cell?_alloc_lt _ _ _ (by simp), cell_of_heap H3.out.2.1]; rfl
  rintro e w' ⟨rfl, n, rfl⟩
  have HB : Hid (Below w.heap.size w _) := below_drewN H4.out n
  clear H3 H4 hs
  go_wp2
  go_ret2
  exact ⟨rfl, HB.out⟩

end Go.Proofs.YtkoghblolnklmaaDoor
