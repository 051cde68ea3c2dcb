/- New. -/
import Derived.Test.YtedcncpkikdldaaSW3
namespace Go.Proofs.Ytedcncpkikdldaa.S
open Go.RowKit


theorem Try.info3 : (Try.prog.info? 3).map (fun i => (i.zero, i.size, i.bytes)) = some (some (.int .i64 0), 1, 8) := by kernel_rfl

theorem heap_alloc_new (w : World) (o : Obj) : (w.alloc o).heap[w.heap.size]? = some o := by
  show (w.heap.push o)[w.heap.size]? = _
  rw [Array.getElem?_push, if_pos rfl]

theorem new_start (w : World) (n : Nat) : SetsAt ((w.alloc (.cells (madeCells #[.int .i64 0] n) 3)).alloc (.cells #[.slice (some ⟨w.heap.size, 0, none⟩) n n] 73)) (w.heap.size + 1) w.heap.size (fill n 0) := by
  refine ⟨?_, ?_⟩
  · have := heap_alloc_new (w.alloc (.cells (madeCells #[.int .i64 0] n) 3)) (.cells #[.slice (some ⟨w.heap.size, 0, none⟩) n n] 73)
    rw [World.size_alloc] at this
    rw [this, fill_length]
  · rw [Below.heap_alloc _ _ _ (by simp), heap_alloc_new, made_vals]

set_option maxHeartbeats 400000 in
theorem new_in (n : Nat) (w : World) (hn : n ≤ 40) :
    Calls Try.prog 9 #[.int .i64 (n : Int)] w fun e w' => e = .returned (.tuple #[.pointer (some ⟨w.heap.size + 1, 0, none⟩), .nilIface]) ∧ SetsAt w' (w.heap.size + 1) w.heap.size (List.range n) ∧ Below w.heap.size w w' := by
  have hmk := fun W => run_make_row' (P := Try.prog) 37 3 (.int .i64 0) 8 Try.underlying37 Try.info3 rfl .i64 .i64 n (by omega) (by omega) W
  have h0 : ¬ ((n : Int) < 0) := by omega
  have h1 : ¬ ((40 : Int) < (n : Int)) := by omega
  go_enter Try.func9, Try.ntmps9
  go_wp2_with fail
  go_loopw [5, 22] (fun _ i wr => ∃ k : Nat, k ≤ n ∧ i = .int .i64 k ∧ SetsAt wr (w.heap.size + 1) w.heap.size (fill n k) ∧ Below w.heap.size w wr) (fun _ i _ => n - (intOf i).toNat)
  case atStart => exact ⟨0, Nat.zero_le _, rfl, new_start w n, below_two w _ _⟩
  case round =>
    obtain ⟨k, hk, rfl, hs, hb⟩ := hrel
    clear hmk
    by_cases hlt : k < n
    · have hp := hs.pcell
      have hc := hs.bcell k (by rw [fill_length]; exact hlt)
      have hf := hs.bfrozen k
      have hs' := hs.set k k
      rw [fill_succ] at hs'
      have HS : Hid (SetsAt (wr.setCell ⟨w.heap.size, k, none⟩ (.int .i64 (k : Int))) (w.heap.size + 1) w.heap.size (fill n (k + 1))) := hs'
      have HB : Hid (Below w.heap.size w (wr.setCell ⟨w.heap.size, k, none⟩ (.int .i64 (k : Int)))) := hb.setCell (Nat.le_refl _) _
      rw [fill_length] at hp
      clear hs hs' hb
      generalize (fill n k).getD k 0 = z at hc
      go_wp2
      go_roundw
      case rel => exact ⟨k + 1, by omega, by go_num, HS.out, HB.out⟩
      case measure => simp [intOf]; omega
    · have hke : k = n := by omega
      subst hke
      rw [fill_all] at hs
      have HS : Hid (SetsAt wr (w.heap.size + 1) w.heap.size (List.range k)) := hs
      have HB : Hid (Below w.heap.size w wr) := hb
      clear hs hb
      go_wp2
      go_ret2
      exact ⟨rfl, HS.out, HB.out⟩

end Go.Proofs.Ytedcncpkikdldaa.S
