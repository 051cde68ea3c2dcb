/- check, the closure and slices.ContainsFunc. -/
import Derived.Test.YtebcjaenhiiflaaGreatDoorSB
namespace Go.Proofs.YtebcjaenhiiflaaGreatDoor.S
open Go.RowKit

set_option maxHeartbeats 400000 in
theorem strange_in (x : Int) (p b c : Nat) (L : List Nat) (w : World) (hs : SetsAt w p b L) (hc : w.cell? ⟨c, 0, none⟩ = some (.pointer (some ⟨p, 0, none⟩))) (hx0 : 0 ≤ x) (hx : x < (L.length : Int)) :
    Calls Tryz.prog 310 #[.int .i64 x, .pointer (some ⟨c, 0, none⟩)] w fun e w' => e = .returned (.bool false) ∧ w' = w := by
  have hp := hs.pcell
  have h0 : ¬ (x < 0) := by omega
  have h1 : ¬ ((L.length : Int) ≤ x) := by omega
  clear hs
  go_enter Tryz.func310, Tryz.ntmps310
  go_wp2
  go_ret
  exact ⟨rfl, rfl⟩

set_option maxHeartbeats 400000 in
theorem strange_out (x : Int) (p b c : Nat) (L : List Nat) (w : World) (hs : SetsAt w p b L) (hc : w.cell? ⟨c, 0, none⟩ = some (.pointer (some ⟨p, 0, none⟩))) (hx : x < 0 ∨ (L.length : Int) ≤ x) :
    Calls Tryz.prog 310 #[.int .i64 x, .pointer (some ⟨c, 0, none⟩)] w fun e w' => e = .returned (.bool true) ∧ w' = w := by
  have hp := hs.pcell
  clear hs
  rcases hx with h | h
  · go_enter Tryz.func310, Tryz.ntmps310
    go_wp2
    go_ret
    exact ⟨rfl, rfl⟩
  · have h0 : ¬ (x < 0) := by omega
    go_enter Tryz.func310, Tryz.ntmps310
    go_wp2
    go_ret
    exact ⟨rfl, rfl⟩

set_option maxHeartbeats 400000 in
theorem index_in (N : List Int) (s p b c cap : Nat) (L : List Nat) (w : World) (hs : SetsAt w p b L) (hc : w.cell? ⟨c, 0, none⟩ = some (.pointer (some ⟨p, 0, none⟩)))
    (hrow : ∀ i, i < N.length → w.cell? ⟨s, i, none⟩ = some (.int .i64 (N.getD i 0))) (hl : N.length ≤ 2) (hall : ∀ i, i < N.length → 0 ≤ N.getD i 0 ∧ N.getD i 0 < (L.length : Int)) :
    Calls Tryz.prog 260 #[.slice (some ⟨s, 0, none⟩) N.length cap, .func (.func 310) #[] #[.pointer (some ⟨c, 0, none⟩)]] w fun e w' => e = .returned (.int .i64 (-1)) ∧ w' = w := by
  go_enter Tryz.func260, Tryz.ntmps260
  go_wp2_with fail
  go_loop [5, 8] (fun _ i => ∃ k : Nat, k ≤ N.length ∧ i = .int .i64 k) (fun _ i => N.length - (intOf i).toNat)
  case atStart => exact ⟨0, Nat.zero_le _, rfl⟩
  case round =>
    obtain ⟨k, hk, rfl⟩ := hrel
    by_cases hlt : k < N.length
    · have hcell := hrow k hlt
      have ha := hall k hlt
      generalize N.getD k 0 = x at hcell ha
      clear hrow hall
      go_wp2_with fail
      refine (strange_in x p b c L _ hs hc ha.1 ha.2).mono ?_
      rintro e w' ⟨rfl, rfl⟩
      go_wp2
      go_round
      case rel => exact ⟨k + 1, by omega, by go_num⟩
      case measure => simp [intOf]; omega
    · go_wp2
      go_ret
      exact ⟨rfl, rfl⟩

set_option maxHeartbeats 400000 in
theorem index_out (N : List Int) (s p b c cap : Nat) (L : List Nat) (w : World) (hs : SetsAt w p b L) (hc : w.cell? ⟨c, 0, none⟩ = some (.pointer (some ⟨p, 0, none⟩)))
    (hrow : ∀ i, i < N.length → w.cell? ⟨s, i, none⟩ = some (.int .i64 (N.getD i 0))) (hl : N.length ≤ 2) (j : Nat) (hj : j < N.length) (hstr : N.getD j 0 < 0 ∨ (L.length : Int) ≤ N.getD j 0) :
    Calls Tryz.prog 260 #[.slice (some ⟨s, 0, none⟩) N.length cap, .func (.func 310) #[] #[.pointer (some ⟨c, 0, none⟩)]] w fun e w' => (∃ k : Nat, e = .returned (.int .i64 (k : Int))) ∧ w' = w := by
  go_enter Tryz.func260, Tryz.ntmps260
  go_wp2_with fail
  go_loop [5, 8] (fun _ i => ∃ k : Nat, k ≤ j ∧ i = .int .i64 k) (fun _ i => N.length - (intOf i).toNat)
  case atStart => exact ⟨0, Nat.zero_le _, rfl⟩
  case round =>
    obtain ⟨k, hk, rfl⟩ := hrel
    have hlt : k < N.length := by omega
    have hcell := hrow k hlt
    by_cases ha : 0 ≤ N.getD k 0 ∧ N.getD k 0 < (L.length : Int)
    · have hkj : k ≠ j := by rintro rfl; omega
      have hkj' : k < j := by omega
      clear hstr hrow hkj
      generalize N.getD k 0 = x at hcell ha
      go_wp2_with fail
      refine (strange_in x p b c L _ hs hc ha.1 ha.2).mono ?_
      rintro e w' ⟨rfl, rfl⟩
      go_wp2
      go_round
      case rel => exact ⟨k + 1, by omega, by go_num⟩
      case measure => simp [intOf]; omega
    · clear hstr hrow
      generalize N.getD k 0 = x at hcell ha
      have hx : x < 0 ∨ (L.length : Int) ≤ x := by omega
      clear ha
      go_wp2_with fail
      refine (strange_out x p b c L _ hs hc hx).mono ?_
      rintro e w' ⟨rfl, rfl⟩
      go_wp2
      go_ret
      exact ⟨⟨k, rfl⟩, rfl⟩

set_option maxHeartbeats 400000 in
theorem contains_in (N : List Int) (s p b c cap : Nat) (L : List Nat) (w : World) (hs : SetsAt w p b L) (hc : w.cell? ⟨c, 0, none⟩ = some (.pointer (some ⟨p, 0, none⟩)))
    (hrow : ∀ i, i < N.length → w.cell? ⟨s, i, none⟩ = some (.int .i64 (N.getD i 0))) (hl : N.length ≤ 2) (hall : ∀ i, i < N.length → 0 ≤ N.getD i 0 ∧ N.getD i 0 < (L.length : Int)) :
    Calls Tryz.prog 311 #[.slice (some ⟨s, 0, none⟩) N.length cap, .func (.func 310) #[] #[.pointer (some ⟨c, 0, none⟩)]] w fun e w' => e = .returned (.bool false) ∧ w' = w := by
  go_enter Tryz.func311, Tryz.ntmps311
  go_wp2_with fail
  refine (index_in N s p b c cap L _ hs hc hrow hl hall).mono ?_
  rintro e w' ⟨rfl, rfl⟩
  clear hs hc hrow hall
  go_wp2
  go_ret
  exact ⟨rfl, rfl⟩

set_option maxHeartbeats 400000 in
theorem contains_out (N : List Int) (s p b c cap : Nat) (L : List Nat) (w : World) (hs : SetsAt w p b L) (hc : w.cell? ⟨c, 0, none⟩ = some (.pointer (some ⟨p, 0, none⟩)))
    (hrow : ∀ i, i < N.length → w.cell? ⟨s, i, none⟩ = some (.int .i64 (N.getD i 0))) (hl : N.length ≤ 2) (j : Nat) (hj : j < N.length) (hstr : N.getD j 0 < 0 ∨ (L.length : Int) ≤ N.getD j 0) :
    Calls Tryz.prog 311 #[.slice (some ⟨s, 0, none⟩) N.length cap, .func (.func 310) #[] #[.pointer (some ⟨c, 0, none⟩)]] w fun e w' => e = .returned (.bool true) ∧ w' = w := by
  go_enter Tryz.func311, Tryz.ntmps311
  go_wp2_with fail
  refine (index_out N s p b c cap L _ hs hc hrow hl j hj hstr).mono ?_
  rintro e w' ⟨⟨k, rfl⟩, rfl⟩
  clear hs hc hrow hstr
  have hk : (0 : Int) ≤ (k : Int) := by omega
  go_wp2
  go_ret
  exact ⟨rfl, rfl⟩

end Go.Proofs.YtebcjaenhiiflaaGreatDoor.S
namespace Go.Proofs.YtebcjaenhiiflaaGreatDoor.S
open Go.RowKit

theorem hmf (fn : Fn) (first cap : Array Value) (w : World) : (Instr.makeFunc fn first cap).run Tryz.prog w = .ok (.func fn first cap) w := rfl

theorem sets_alloc {w : World} {p b : Nat} {L : List Nat} (h : SetsAt w p b L) (o : Obj) : SetsAt (w.alloc o) p b L :=
  h.below ((Below.refl w.heap.size w).alloc (Nat.le_refl _) o) h.plt h.blt

set_option maxHeartbeats 400000 in
theorem check_in (N : List Int) (s p b cap : Nat) (L : List Nat) (w : World) (hs : SetsAt w p b L)
    (hrow : ∀ i, i < N.length → w.cell? ⟨s, i, none⟩ = some (.int .i64 (N.getD i 0))) (hsl : s < w.heap.size) (hl : N.length ≤ 2) (hall : ∀ i, i < N.length → 0 ≤ N.getD i 0 ∧ N.getD i 0 < (L.length : Int)) :
    Calls Tryz.prog 232 #[.pointer (some ⟨p, 0, none⟩), .slice (some ⟨s, 0, none⟩) N.length cap] w fun e w' => e = .returned .nilIface ∧ w' = w.alloc (.cells #[.pointer (some ⟨p, 0, none⟩)] 175) := by
  have hmf' := hmf
  go_enter Tryz.func232, Tryz.ntmps232
  go_wp2_with fail
  refine (contains_in N s p b w.heap.size cap L _ (sets_alloc hs _) (by simp) (fun i hi => ?_) hl hall).mono ?_
  · rw [World.cell?_alloc_lt _ _ _ hsl]; exact hrow i hi
  · rintro e w' ⟨rfl, rfl⟩
    clear hs hrow hall
    go_wp2
    go_ret
    exact ⟨rfl, rfl⟩

set_option maxHeartbeats 400000 in
theorem check_out (N : List Int) (s p b cap : Nat) (L : List Nat) (w : World) (hs : SetsAt w p b L)
    (hrow : ∀ i, i < N.length → w.cell? ⟨s, i, none⟩ = some (.int .i64 (N.getD i 0))) (hsl : s < w.heap.size) (hl : N.length ≤ 2) (j : Nat) (hj : j < N.length) (hstr : N.getD j 0 < 0 ∨ (L.length : Int) ≤ N.getD j 0) :
    Calls Tryz.prog 232 #[.pointer (some ⟨p, 0, none⟩), .slice (some ⟨s, 0, none⟩) N.length cap] w fun e w' => e = .returned (.iface 23 (.int .i64 2)) ∧ w' = w.alloc (.cells #[.pointer (some ⟨p, 0, none⟩)] 175) := by
  have hmf' := hmf
  go_enter Tryz.func232, Tryz.ntmps232
  go_wp2_with fail
  refine (contains_out N s p b w.heap.size cap L _ (sets_alloc hs _) (by simp) (fun i hi => ?_) hl j hj hstr).mono ?_
  · rw [World.cell?_alloc_lt _ _ _ hsl]; exact hrow i hi
  · rintro e w' ⟨rfl, rfl⟩
    clear hs hrow hstr
    go_wp2
    go_ret
    exact ⟨rfl, rfl⟩

/-- Two new blocks: the numbers that are asked, and what check boxes. -/
theorem below_two (w : World) (o o' : Obj) : Below w.heap.size w ((w.alloc o).alloc o') :=
  ((Below.refl _ _).alloc (Nat.le_refl _) _).alloc (by simp) _

theorem check1_in (x : Int) (s p b cap : Nat) (L : List Nat) (w : World) (hs : SetsAt w p b L)
    (h0 : w.cell? ⟨s, 0, none⟩ = some (.int .i64 x)) (hsl : s < w.heap.size) (hx0 : 0 ≤ x) (hx : x < (L.length : Int)) :
    Calls Tryz.prog 232 #[.pointer (some ⟨p, 0, none⟩), .slice (some ⟨s, 0, none⟩) 1 cap] w fun e w' => e = .returned .nilIface ∧ w' = w.alloc (.cells #[.pointer (some ⟨p, 0, none⟩)] 175) := by
  refine check_in [x] s p b cap L w hs (fun i hi => ?_) hsl (by simp) (fun i hi => ?_)
  · have : i = 0 := by simpa using hi
    subst this; simpa using h0
  · have : i = 0 := by simpa using hi
    subst this; exact ⟨hx0, hx⟩

theorem check2_in (x y : Int) (s p b cap : Nat) (L : List Nat) (w : World) (hs : SetsAt w p b L)
    (h0 : w.cell? ⟨s, 0, none⟩ = some (.int .i64 x)) (h1 : w.cell? ⟨s, 1, none⟩ = some (.int .i64 y)) (hsl : s < w.heap.size) (hx0 : 0 ≤ x) (hx : x < (L.length : Int)) (hy0 : 0 ≤ y) (hy : y < (L.length : Int)) :
    Calls Tryz.prog 232 #[.pointer (some ⟨p, 0, none⟩), .slice (some ⟨s, 0, none⟩) 2 cap] w fun e w' => e = .returned .nilIface ∧ w' = w.alloc (.cells #[.pointer (some ⟨p, 0, none⟩)] 175) := by
  refine check_in [x, y] s p b cap L w hs (fun i hi => ?_) hsl (by simp) (fun i hi => ?_)
  · have : i = 0 ∨ i = 1 := by simp at hi; omega
    rcases this with rfl | rfl
    · simpa using h0
    · simpa using h1
  · have : i = 0 ∨ i = 1 := by simp at hi; omega
    rcases this with rfl | rfl
    · exact ⟨hx0, hx⟩
    · exact ⟨hy0, hy⟩

theorem check2_out (x y : Int) (s p b cap : Nat) (L : List Nat) (w : World) (hs : SetsAt w p b L)
    (h0 : w.cell? ⟨s, 0, none⟩ = some (.int .i64 x)) (h1 : w.cell? ⟨s, 1, none⟩ = some (.int .i64 y)) (hsl : s < w.heap.size) (hx : (x < 0 ∨ (L.length : Int) ≤ x) ∨ (y < 0 ∨ (L.length : Int) ≤ y)) :
    Calls Tryz.prog 232 #[.pointer (some ⟨p, 0, none⟩), .slice (some ⟨s, 0, none⟩) 2 cap] w fun e w' => e = .returned (.iface 23 (.int .i64 2)) ∧ w' = w.alloc (.cells #[.pointer (some ⟨p, 0, none⟩)] 175) := by
  have hrow : ∀ i, i < [x, y].length → w.cell? ⟨s, i, none⟩ = some (.int .i64 ([x, y].getD i 0)) := by
    intro i hi
    have : i = 0 ∨ i = 1 := by simp at hi; omega
    rcases this with rfl | rfl
    · simpa using h0
    · simpa using h1
  rcases hx with hx | hx
  · exact check_out [x, y] s p b cap L w hs hrow hsl (by simp) 0 (by simp) hx
  · exact check_out [x, y] s p b cap L w hs hrow hsl (by simp) 1 (by simp) hx

set_option maxHeartbeats 400000 in
theorem least_in (x : Int) (p b : Nat) (L : List Nat) (w : World) (hs : SetsAt w p b L) (hx0 : 0 ≤ x) (hx : x < (L.length : Int)) :
    Calls Tryz.prog 247 #[.pointer (some ⟨p, 0, none⟩), .int .i64 x] w fun e w' => e = .returned (.tuple #[.int .i64 ((L.getD x.toNat 0 : Nat) : Int), .nilIface]) ∧ Below w.heap.size w w' := by
  obtain ⟨x, rfl⟩ := Int.eq_ofNat_of_zero_le hx0
  rw [Int.toNat_natCast]
  go_enter Tryz.func247, Tryz.ntmps247
  go_wp2_with fail
  refine (check1_in (x : Int) w.heap.size p b 1 L _ (sets_alloc hs _) (by simp) (by simp) hx0 hx).mono ?_
  rintro e w' ⟨rfl, rfl⟩
  have hs2 := sets_alloc (sets_alloc hs (Obj.cells #[Value.int IntKind.i64 ↑x] 3)) (Obj.cells #[Value.pointer (some { block := p, off := 0 })] 175)
  have hb := below_two w (Obj.cells #[Value.int IntKind.i64 ↑x] 3) (Obj.cells #[Value.pointer (some { block := p, off := 0 })] 175)
  generalize (w.alloc (Obj.cells #[Value.int IntKind.i64 ↑x] 3)).alloc (Obj.cells #[Value.pointer (some { block := p, off := 0 })] 175) = W at hs2 hb ⊢
  have hp := hs2.pcell
  have hc := hs2.bcell x (by omega)
  have HB : Hid (Below w.heap.size w W) := hb
  clear hs hs2 hb
  generalize hy : L.getD x 0 = y at hc
  have HY : Hid (L.getD x 0 = y) := hy
  clear hy
  go_wp2
  go_ret2
  exact ⟨by rw [HY.out]; rfl, HB.out⟩

end Go.Proofs.YtebcjaenhiiflaaGreatDoor.S
namespace Go.Proofs.YtebcjaenhiiflaaGreatDoor.S
open Go.RowKit

theorem sets_drewN {w : World} {p b : Nat} {L : List Nat} (h : SetsAt w p b L) (n : Nat) : SetsAt (w.drewN n) p b L := ⟨h.hp, h.hb⟩

theorem drewN_drewN (w : World) (n m : Nat) : (w.drewN n).drewN m = w.drewN (n + m) := by simp [World.drewN, Nat.add_assoc]

/-- How many of the first k numbers fit. -/
def cnt (f : Nat → Bool) : Nat → Nat
  | 0 => 0
  | k + 1 => cnt f k + if f k then 1 else 0

theorem cnt_le (f : Nat → Bool) : ∀ k, cnt f k ≤ k
  | 0 => Nat.le_refl _
  | k + 1 => by have := cnt_le f k; simp only [cnt]; split <;> omega

end Go.Proofs.YtebcjaenhiiflaaGreatDoor.S
namespace Go.Proofs.YtebcjaenhiiflaaGreatDoor.S
open Go.RowKit

theorem Tryz.info3 : (Tryz.prog.info? 3).map (fun i => (i.zero, i.size, i.bytes)) = some (some (.int .i64 0), 1, 8) := by kernel_rfl

theorem heap_alloc_new (w : World) (o : Obj) : (w.alloc o).heap[w.heap.size]? = some o := by
  show (w.heap.push o)[w.heap.size]? = _
  rw [Array.getElem?_push, if_pos rfl]

theorem new_start (w : World) (n : Nat) : SetsAt ((w.alloc (.cells (madeCells #[.int .i64 0] n) 3)).alloc (.cells #[.slice (some ⟨w.heap.size, 0, none⟩) n n] 268)) (w.heap.size + 1) w.heap.size (fill n 0) := by
  refine ⟨?_, ?_⟩
  · have := heap_alloc_new (w.alloc (.cells (madeCells #[.int .i64 0] n) 3)) (.cells #[.slice (some ⟨w.heap.size, 0, none⟩) n n] 268)
    rw [World.size_alloc] at this
    rw [this, fill_length]
  · rw [Below.heap_alloc _ _ _ (by simp), heap_alloc_new, made_vals]

set_option maxHeartbeats 400000 in
theorem new_in (n : Nat) (w : World) (hn : n ≤ 40) :
    Calls Tryz.prog 224 #[.int .i64 (n : Int)] w fun e w' => e = .returned (.tuple #[.pointer (some ⟨w.heap.size + 1, 0, none⟩), .nilIface]) ∧ SetsAt w' (w.heap.size + 1) w.heap.size (List.range n) ∧ Below w.heap.size w w' := by
  have hmk := fun W => run_make_row' (P := Tryz.prog) 48 3 (.int .i64 0) 8 Tryz.underlying48 Tryz.info3 rfl .i64 .i64 n (by omega) (by omega) W
  have h0 : ¬ ((n : Int) < 0) := by omega
  have h1 : ¬ ((40 : Int) < (n : Int)) := by omega
  go_enter Tryz.func224, Tryz.ntmps224
  go_wp2_with fail
  go_loopw [5, 22] (fun _ i wr => ∃ k : Nat, k ≤ n ∧ i = .int .i64 k ∧ SetsAt wr (w.heap.size + 1) w.heap.size (fill n k) ∧ Below w.heap.size w wr) (fun _ i _ => n - (intOf i).toNat)
  case atStart => exact ⟨0, Nat.zero_le _, rfl, new_start w n, below_two w _ _⟩
  case round =>
    obtain ⟨k, hk, rfl, hs, hb⟩ := hrel
    clear hmk
    by_cases hlt : k < n
    · have hp := hs.pcell
      have hc := hs.bcell k (by rw [fill_length]; exact hlt)
      have hf := hs.bfrozen k
      have hs' := hs.set k k
      rw [fill_succ] at hs'
      have HS : Hid (SetsAt (wr.setCell ⟨w.heap.size, k, none⟩ (.int .i64 (k : Int))) (w.heap.size + 1) w.heap.size (fill n (k + 1))) := hs'
      have HB : Hid (Below w.heap.size w (wr.setCell ⟨w.heap.size, k, none⟩ (.int .i64 (k : Int)))) := hb.setCell (Nat.le_refl _) _
      rw [fill_length] at hp
      clear hs hs' hb
      generalize (fill n k).getD k 0 = z at hc
      go_wp2
      go_roundw
      case rel => exact ⟨k + 1, by omega, by go_num, HS.out, HB.out⟩
      case measure => simp [intOf]; omega
    · have hke : k = n := by omega
      subst hke
      rw [fill_all] at hs
      have HS : Hid (SetsAt wr (w.heap.size + 1) w.heap.size (List.range k)) := hs
      have HB : Hid (Below w.heap.size w wr) := hb
      clear hs hb
      go_wp2
      go_ret2
      exact ⟨rfl, HS.out, HB.out⟩

theorem below_four (w : World) (o1 o2 o3 o4 : Obj) : Below w.heap.size w ((((w.alloc o1).alloc o2).alloc o3).alloc o4) :=
  ((below_two w o1 o2).alloc (by simp; omega) _).alloc (by simp; omega) _

end Go.Proofs.YtebcjaenhiiflaaGreatDoor.S
namespace Go.Proofs.YtebcjaenhiiflaaGreatDoor.S
open Go.RowKit

/-- One number of a row, where hi is named lo. -/
def named (lo hi l : Nat) : Nat := if l = hi then lo else l

/-- The first k numbers of the row are named anew. -/
def part (L : List Nat) (lo hi k : Nat) : List Nat := ((L.take k).map (named lo hi)) ++ L.drop k

/-- Two sets put together. -/
def joinL (L : List Nat) (x y : Nat) : List Nat := L.map (named (min (L.getD x 0) (L.getD y 0)) (max (L.getD x 0) (L.getD y 0)))

theorem part_length (L : List Nat) (lo hi k : Nat) : (part L lo hi k).length = L.length := by simp [part]; omega

theorem part_zero (L : List Nat) (lo hi : Nat) : part L lo hi 0 = L := by simp [part]

theorem part_all (L : List Nat) (lo hi : Nat) : part L lo hi L.length = L.map (named lo hi) := by simp [part]

theorem part_at (L : List Nat) (lo hi k : Nat) (h : k < L.length) : (part L lo hi k).getD k 0 = L.getD k 0 := by
  simp [part, List.getD_eq_getElem?_getD, List.getElem?_append_right, Nat.min_eq_left (Nat.le_of_lt h)]

theorem part_succ (L : List Nat) (lo hi k : Nat) (h : k < L.length) : part L lo hi (k + 1) = (part L lo hi k).set k (named lo hi (L.getD k 0)) := by
  have e : L.drop k = L.getD k 0 :: L.drop (k + 1) := by
    rw [List.drop_eq_getElem_cons h]; simp [h]
  unfold part
  rw [List.take_succ_eq_append_getElem h, e, List.set_append_right _ _ (by simp; omega)]
  rw [List.map_append, List.append_assoc]
  congr 1
  have e2 : k - (List.map (named lo hi) (List.take k L)).length = 0 := by simp; omega
  have e3 : L.getD k 0 = L[k] := by simp [h]
  rw [e2, e3]
  rfl

theorem part_hit (L : List Nat) (lo hi k : Nat) (h : k < L.length) (e : L.getD k 0 = hi) : part L lo hi (k + 1) = (part L lo hi k).set k lo := by
  rw [part_succ L lo hi k h, named, if_pos e]

theorem part_miss (L : List Nat) (lo hi k : Nat) (h : k < L.length) (e : L.getD k 0 ≠ hi) : part L lo hi (k + 1) = part L lo hi k := by
  rw [part_succ L lo hi k h, named, if_neg e, ← part_at L lo hi k h]
  apply List.ext_getElem
  · simp
  · intro i h1 h2
    rw [List.getElem_set]
    split
    · next e => subst e; simp [h2]
    · rfl

theorem joinL_same (L : List Nat) (x y : Nat) (e : L.getD x 0 = L.getD y 0) : joinL L x y = L := by
  unfold joinL
  rw [← e, Nat.min_self, Nat.max_self]
  conv => rhs; rw [← List.map_id L]
  apply List.map_congr_left
  intro l _
  simp [named]; intro h; exact h.symm

set_option maxHeartbeats 400000 in
theorem join_in (x y p b : Nat) (L : List Nat) (w : World) (hs : SetsAt w p b L) (hx : x < L.length) (hy : y < L.length) (hlen : L.length ≤ 40) :
    Calls Tryz.prog 119 #[.pointer (some ⟨p, 0, none⟩), .int .i64 (x : Int), .int .i64 (y : Int)] w fun e w' => e = .returned (.tuple #[.bool (decide (L.getD x 0 ≠ L.getD y 0)), .nilIface]) ∧ SetsAt w' p b (joinL L x y) ∧ But b w w' := by
  go_enter Tryz.func119, Tryz.ntmps119
  go_wp2_with fail
  refine (check2_in (x : Int) (y : Int) w.heap.size p b 2 L _ (sets_alloc hs _) ?c1 ?c2 ?c3 (by omega) (by omega) (by omega) (by omega)).mono ?_
  case c1 => simp
  case c2 => simp
  case c3 => simp
  rintro e w' ⟨rfl, rfl⟩
  have hs2 := sets_alloc (sets_alloc hs (Obj.cells #[Value.int IntKind.i64 ↑x, Value.int IntKind.i64 ↑y] 3)) (Obj.cells #[Value.pointer (some { block := p, off := 0 })] 175)
  have hb := below_two w (Obj.cells #[Value.int IntKind.i64 ↑x, Value.int IntKind.i64 ↑y] 3) (Obj.cells #[Value.pointer (some { block := p, off := 0 })] 175)
  generalize (w.alloc (Obj.cells #[Value.int IntKind.i64 ↑x, Value.int IntKind.i64 ↑y] 3)).alloc (Obj.cells #[Value.pointer (some { block := p, off := 0 })] 175) = W at hs2 hb ⊢
  have HB : Hid (But b w W) := But.of_below hb
  clear hb hs
  have hp := hs2.pcell
  have hcx := hs2.bcell x hx
  have hcy := hs2.bcell y hy
  have HX := (show Hid (∃ X, L.getD x 0 = X) from ⟨_, rfl⟩)
  generalize hX : L.getD x 0 = X at hcx
  generalize hY : L.getD y 0 = Y at hcy
  have HX : Hid (L.getD x 0 = X) := hX
  have HY : Hid (L.getD y 0 = Y) := hY
  clear hX hY
  have HS : Hid (SetsAt W p b L) := hs2
  clear hs2
  rcases Nat.lt_trichotomy X Y with hlt | heq | hgt
  · have h1 : (X : Int) < (Y : Int) := by omega
    have hne : ((Y : Int) == (X : Int)) = false := beq_eq_false_iff_ne.2 (by omega)
    have hne' : ((X : Int) == (Y : Int)) = false := beq_eq_false_iff_ne.2 (by omega)
    have HJ : Hid (joinL L x y = L.map (named X Y)) := by
      show joinL L x y = _
      unfold joinL
      rw [HX.out, HY.out, Nat.min_eq_left (by omega), Nat.max_eq_right (by omega)]
    have HN : Hid (L.getD x 0 ≠ L.getD y 0) := by
      show L.getD x 0 ≠ L.getD y 0
      rw [HX.out, HY.out]; omega
    clear HX HY
    go_wp2_with fail
    go_quiet (fail)
    clear hcx hcy
    go_wp2_with fail
    have HB2 : Hid (But b w (W.drewN nq)) := HB.out.trans (But.of_below (below_drewN (Below.refl _ _) nq))
    have HS2 : Hid (SetsAt (W.drewN nq) p b L) := sets_drewN HS.out nq
    clear HB HS
    generalize W.drewN nq = V at *
    clear hp
    go_loopw [11, 12, 59] (fun _ _ i wr => ∃ k : Nat, k ≤ L.length ∧ i = .int .i64 k ∧ SetsAt wr p b (part L X Y k) ∧ But b w wr) (fun _ _ i _ => L.length - (intOf i).toNat)
    case atStart => exact ⟨0, Nat.zero_le _, rfl, by rw [part_zero]; exact HS2.out, HB2.out⟩
    case round =>
      obtain ⟨k, hk, rfl, hs, hb⟩ := hrel
      by_cases hlt : k < L.length
      · have hp := hs.pcell
        have hc := hs.bcell k (by rw [part_length]; exact hlt)
        have hf := hs.bfrozen k
        rw [part_length] at hp
        rw [part_at _ _ _ _ hlt] at hc
        by_cases hz : L.getD k 0 = Y
        · have HS : Hid (SetsAt (wr.setCell ⟨b, k, none⟩ (.int .i64 (X : Int))) p b (part L X Y (k + 1))) := by
            have := hs.set k X
            rw [← part_hit L X Y k hlt hz] at this; exact this
          have HB : Hid (But b w (wr.setCell ⟨b, k, none⟩ (.int .i64 (X : Int)))) := hb.setCell _ _
          rw [hz] at hc
          clear hs hb hz
          go_wp2
          go_roundw
          case rel => exact ⟨k + 1, by omega, by go_num, HS.out, HB.out⟩
          case measure => simp [intOf]; omega
        · have HS : Hid (SetsAt wr p b (part L X Y (k + 1))) := by
            show SetsAt wr p b (part L X Y (k + 1))
            rw [part_miss L X Y k hlt hz]; exact hs
          have HB : Hid (But b w wr) := hb
          generalize L.getD k 0 = z at hc hz
          have hzb : ((z : Int) == (Y : Int)) = false := beq_eq_false_iff_ne.2 (by omega)
          clear hs hb hz
          go_wp2
          go_roundw
          case rel => exact ⟨k + 1, by omega, by go_num, HS.out, HB.out⟩
          case measure => simp [intOf]; omega
      · have hke : k = L.length := by omega
        subst hke
        rw [part_all, ← HJ.out] at hs
        have HS : Hid (SetsAt wr p b (joinL L x y)) := hs
        have HB : Hid (But b w wr) := hb
        clear hs hb
        go_wp2
        go_ret2
        exact ⟨by rw [decide_eq_true HN.out]; rfl, HS.out, HB.out⟩
  · subst heq
    have HJ : Hid (joinL L x y = L) := joinL_same L x y (HX.out.trans HY.out.symm)
    have HN : Hid (L.getD x 0 = L.getD y 0) := HX.out.trans HY.out.symm
    clear HX HY
    go_wp2_with fail
    go_quiet (fail)
    clear hcx hcy
    go_wp2_with fail
    go_ret2
    exact ⟨by rw [HN.out]; simp, by rw [HJ.out]; exact sets_drewN HS.out nq, HB.out.trans (But.of_below (below_drewN (Below.refl _ _) nq))⟩
  · have h1 : (Y : Int) < (X : Int) := by omega
    have hne : ((X : Int) == (Y : Int)) = false := beq_eq_false_iff_ne.2 (by omega)
    have hne' : ((Y : Int) == (X : Int)) = false := beq_eq_false_iff_ne.2 (by omega)
    have HJ : Hid (joinL L x y = L.map (named Y X)) := by
      show joinL L x y = _
      unfold joinL
      rw [HX.out, HY.out, Nat.min_eq_right (by omega), Nat.max_eq_left (by omega)]
    have HN : Hid (L.getD x 0 ≠ L.getD y 0) := by
      show L.getD x 0 ≠ L.getD y 0
      rw [HX.out, HY.out]; omega
    clear HX HY
    go_wp2_with fail
    go_quiet (fail)
    clear hcx hcy
    go_wp2_with fail
    have HB2 : Hid (But b w (W.drewN nq)) := HB.out.trans (But.of_below (below_drewN (Below.refl _ _) nq))
    have HS2 : Hid (SetsAt (W.drewN nq) p b L) := sets_drewN HS.out nq
    clear HB HS
    generalize W.drewN nq = V at *
    clear hp
    go_loopw [11, 12, 59] (fun _ _ i wr => ∃ k : Nat, k ≤ L.length ∧ i = .int .i64 k ∧ SetsAt wr p b (part L Y X k) ∧ But b w wr) (fun _ _ i _ => L.length - (intOf i).toNat)
    case atStart => exact ⟨0, Nat.zero_le _, rfl, by rw [part_zero]; exact HS2.out, HB2.out⟩
    case round =>
      obtain ⟨k, hk, rfl, hs, hb⟩ := hrel
      by_cases hlt : k < L.length
      · have hp := hs.pcell
        have hc := hs.bcell k (by rw [part_length]; exact hlt)
        have hf := hs.bfrozen k
        rw [part_length] at hp
        rw [part_at _ _ _ _ hlt] at hc
        by_cases hz : L.getD k 0 = X
        · have HS : Hid (SetsAt (wr.setCell ⟨b, k, none⟩ (.int .i64 (Y : Int))) p b (part L Y X (k + 1))) := by
            have := hs.set k Y
            rw [← part_hit L Y X k hlt hz] at this; exact this
          have HB : Hid (But b w (wr.setCell ⟨b, k, none⟩ (.int .i64 (Y : Int)))) := hb.setCell _ _
          rw [hz] at hc
          clear hs hb hz
          go_wp2
          go_roundw
          case rel => exact ⟨k + 1, by omega, by go_num, HS.out, HB.out⟩
          case measure => simp [intOf]; omega
        · have HS : Hid (SetsAt wr p b (part L Y X (k + 1))) := by
            show SetsAt wr p b (part L Y X (k + 1))
            rw [part_miss L Y X k hlt hz]; exact hs
          have HB : Hid (But b w wr) := hb
          generalize L.getD k 0 = z at hc hz
          have hzb : ((z : Int) == (X : Int)) = false := beq_eq_false_iff_ne.2 (by omega)
          clear hs hb hz
          go_wp2
          go_roundw
          case rel => exact ⟨k + 1, by omega, by go_num, HS.out, HB.out⟩
          case measure => simp [intOf]; omega
      · have hke : k = L.length := by omega
        subst hke
        rw [part_all, ← HJ.out] at hs
        have HS : Hid (SetsAt wr p b (joinL L x y)) := hs
        have HB : Hid (But b w wr) := hb
        clear hs hb
        go_wp2
        go_ret2
        exact ⟨by rw [decide_eq_true HN.out]; rfl, HS.out, HB.out⟩

end Go.Proofs.YtebcjaenhiiflaaGreatDoor.S
namespace Go.Proofs.YtebcjaenhiiflaaGreatDoor.S
open Go.RowKit Go.WideMaps Go.Maps
open Go.ChangeShapes (lits)

/-- Numbers as Go has them. -/
def ints (l : List Nat) : List Int := l.map fun i : Nat => (i : Int)

theorem ints_append (a b : List Nat) : ints (a ++ b) = ints a ++ ints b := by simp [ints]

theorem ints_length (a : List Nat) : (ints a).length = a.length := by simp [ints]

/-- Of the first k numbers those whose least is y. -/
def grp (L : List Nat) (k y : Nat) : List Nat := (List.range k).filter fun i => L.getD i 0 == y

theorem grp_succ_same (L : List Nat) (k : Nat) : grp L (k + 1) (L.getD k 0) = grp L k (L.getD k 0) ++ [k] := by
  simp [grp, List.range_succ]

theorem grp_succ_other (L : List Nat) (k y : Nat) (h : L.getD k 0 ≠ y) : grp L (k + 1) y = grp L k y := by
  have hb : (L.getD k 0 == y) = false := beq_eq_false_iff_ne.2 h
  unfold grp
  rw [List.range_succ, List.filter_append, List.filter_cons, hb]
  simp

/-- A map that reads as the rows gathered of the first k numbers. -/
def gInv (L : List Nat) (k : Nat) (D : DataW Unit) : Prop :=
  IsMap D ∧ ∀ (y : Nat) (zd : DataW Unit), D.atKey (.int .i64 (y : Int)) zd = if grp L k y = [] then zd else .slice (lits .i64 (ints (grp L k y))) []

theorem lits_inj {a b : List Int} (h : (lits .i64 a : List (DataW Unit)) = lits .i64 b) : a = b := by
  unfold lits at h
  exact (List.map_inj_right (fun x y hxy => by cases hxy; rfl)).1 h

theorem gInv_start (L : List Nat) : gInv L 0 (.map []) := ⟨isMap_empty, fun y zd => by simp [grp]; rfl⟩

/-- What is found is what was gathered. -/
theorem gInv_found {L : List Nat} {k y : Nat} {D : DataW Unit} (h : gInv L k D) {w : World} {base : Nat} {e : TypeId} {v : Value} {zs : List Int} (ho : w.ownsInts base e .i64 v zs)
    (hat : D.atKey (.int .i64 (y : Int)) .nil = rowDatum .i64 v zs) : zs = ints (grp L k y) := by
  rw [h.2] at hat
  split at hat
  · next hg =>
    rw [hg]
    rcases ho.datum (H := Unit) with ⟨_, h2⟩ | h2
    · exact h2
    · rw [h2] at hat; cases hat
  · next hg =>
    rcases ho.datum (H := Unit) with ⟨h1, _⟩ | h2
    · rw [h1] at hat; cases hat
    · rw [h2] at hat
      injection hat with h3 _
      exact (lits_inj h3).symm

theorem gInv_step {L : List Nat} {k : Nat} {D : DataW Unit} (h : gInv L k D) {w w1 : World} {base : Nat} {e : TypeId} {v v' : Value} {zs : List Int} (ho : w.ownsInts base e .i64 v zs)
    (hat : D.atKey (.int .i64 ((L.getD k 0 : Nat) : Int)) .nil = rowDatum .i64 v zs) (ho' : w1.ownsInts base e .i64 v' (zs ++ [(k : Int)])) :
    gInv L (k + 1) (D.put (.int .i64 ((L.getD k 0 : Nat) : Int)) (rowDatum .i64 v' (zs ++ [(k : Int)]))) := by
  have hz := gInv_found h ho hat
  refine ⟨h.1.put _ _, fun y zd => ?_⟩
  by_cases e : L.getD k 0 = y
  · subst e
    rw [atKey_put_same h.1 (by trivial), grp_succ_same, if_neg (by simp), ho'.datum_pos (by simp), hz, ints_append]
    rfl
  · have hne : Lit.int .i64 (y : Int) ≠ Lit.int .i64 ((L.getD k 0 : Nat) : Int) := fun h => e (by injection h with _ h2; omega)
    rw [atKey_put_other hne, h.2, grp_succ_other L k y e]

/-- The look-up, in a later world, of a map of rows: the key is not there, or its row. -/
theorem look_later {P : Program} {wl wr : World} {t k E base e b n : Nat} {D : DataW Unit} {key : Value} {kl : Lit} (hg : wl.ownsGroups P k base e .i64 b n D) (hb : Below wl.heap.size wl wr)
    (K : Keyed P k) (ht : P.underlying t = some (.map k E)) (hz : (zeroValue E).run P wr = .ok (.slice none 0 0) wr) (hkey : keyOf P k key = some kl) :
    ((Instr.lookup t (.map (some b)) key true).run P wr = .ok (.tuple #[.slice none 0 0, .bool false]) wr ∧ ∀ zd, D.atKey kl zd = zd) ∨
    ∃ v zs, (Instr.lookup t (.map (some b)) key true).run P wr = .ok (.tuple #[v, .bool true]) wr ∧ wl.ownsInts base e .i64 v zs ∧ ∀ zd, D.atKey kl zd = rowDatum .i64 v zs := by
  obtain ⟨es, clock, hh, F, hs, rfl, hbb, hlen, hap⟩ := hg
  have hh' : wr.heap[b]? = some (.map es clock) := (hb.block b (lt_of_some hh)).trans hh
  rcases Maps.fit_look true K ht hz hh' F hkey with ⟨hrun, _, hat⟩ | ⟨e0, y, hm0, h3, hrun, hR, hat, _⟩
  · exact Or.inl ⟨by simpa using hrun, hat⟩
  · obtain ⟨zs, ho, rfl⟩ := rowElem_inv hR
    exact Or.inr ⟨e0.val, zs, by simpa using hrun, ho, hat⟩

theorem look_none {P : Program} {wl wr : World} {t k E base e b n m y : Nat} {L : List Nat} {D : DataW Unit} (hg : wl.ownsGroups P k base e .i64 b n D) (hD : gInv L m D) (hb : Below wl.heap.size wl wr)
    (K : Keyed P k) (ht : P.underlying t = some (.map k E)) (hz : (zeroValue E).run P wr = .ok (.slice none 0 0) wr) (hkey : keyOf P k (.int .i64 (y : Int)) = some (.int .i64 (y : Int))) (hy : grp L m y = []) :
    (Instr.lookup t (.map (some b)) (.int .i64 (y : Int)) true).run P wr = .ok (.tuple #[.slice none 0 0, .bool false]) wr := by
  rcases look_later hg hb K ht hz hkey with ⟨hrun, _⟩ | ⟨v, zs, _, _, hat⟩
  · exact hrun
  · have h1 := hat .nil
    have h2 := hat (.map [])
    rw [hD.2, if_pos hy] at h1 h2
    rw [← h1] at h2
    cases h2

theorem look_some {P : Program} {wl wr : World} {t k E base e b n m y : Nat} {L : List Nat} {D : DataW Unit} (hg : wl.ownsGroups P k base e .i64 b n D) (hD : gInv L m D) (hb : Below wl.heap.size wl wr)
    (K : Keyed P k) (ht : P.underlying t = some (.map k E)) (hz : (zeroValue E).run P wr = .ok (.slice none 0 0) wr) (hkey : keyOf P k (.int .i64 (y : Int)) = some (.int .i64 (y : Int))) (hy : grp L m y ≠ []) :
    ∃ r c, (Instr.lookup t (.map (some b)) (.int .i64 (y : Int)) true).run P wr = .ok (.tuple #[.slice (some ⟨r, 0, none⟩) (grp L m y).length c, .bool true]) wr ∧ wl.ownsInts base e .i64 (.slice (some ⟨r, 0, none⟩) (grp L m y).length c) (ints (grp L m y)) := by
  rcases look_later hg hb K ht hz hkey with ⟨_, hat⟩ | ⟨v, zs, hrun, ho, hat⟩
  · have h1 := hat .nil
    rw [hD.2, if_neg hy] at h1
    cases h1
  · have hzs := gInv_found hD ho (hat .nil)
    subst hzs
    rcases ho.1.2 with ⟨_, h0⟩ | ⟨g, cap, cur, rfl, _⟩
    · rw [ints_length] at h0
      exact absurd (List.length_eq_zero_iff.1 h0) hy
    · rw [ints_length] at hrun ho
      exact ⟨g, cap, hrun, ho⟩

/-- The rows of the first k numbers that are the least of theirs. -/
def grps (L : List Nat) (k : Nat) : List (List Nat) := ((List.range k).map (grp L L.length)).filter fun l => !l.isEmpty

theorem grps_succ_none (L : List Nat) (k : Nat) (h : grp L L.length k = []) : grps L (k + 1) = grps L k := by
  simp [grps, List.range_succ, h]

theorem grps_succ_some (L : List Nat) (k : Nat) (h : grp L L.length k ≠ []) : grps L (k + 1) = grps L k ++ [grp L L.length k] := by
  simp [grps, List.range_succ, h]

theorem grps_le (L : List Nat) (k : Nat) : (grps L k).length ≤ k := by
  unfold grps
  refine Nat.le_trans (List.length_filter_le _ _) ?_
  simp

/-- Rows that lie in memory as values. -/
def rowsAre (wl : World) (base : Nat) (vs : List Value) (Gs : List (List Nat)) : Prop :=
  vs.length = Gs.length ∧ ∀ i, i < Gs.length → ∃ r c, vs[i]? = some (.slice (some ⟨r, 0, none⟩) (Gs.getD i []).length c) ∧ wl.ownsInts base 3 .i64 (.slice (some ⟨r, 0, none⟩) (Gs.getD i []).length c) (ints (Gs.getD i []))

theorem rowsAre_snoc {wl : World} {base : Nat} {vs : List Value} {Gs : List (List Nat)} (h : rowsAre wl base vs Gs) {r c : Nat} {G : List Nat} (ho : wl.ownsInts base 3 .i64 (.slice (some ⟨r, 0, none⟩) G.length c) (ints G)) :
    rowsAre wl base (vs ++ [.slice (some ⟨r, 0, none⟩) G.length c]) (Gs ++ [G]) := by
  have hl := h.1
  refine ⟨by simp [hl], fun i hi => ?_⟩
  by_cases e : i < Gs.length
  · obtain ⟨r', c', h1, h2⟩ := h.2 i e
    have e1 : (Gs ++ [G]).getD i [] = Gs.getD i [] := by simp [List.getElem?_append_left e]
    rw [e1]
    exact ⟨r', c', by rw [List.getElem?_append_left (by omega)]; exact h1, h2⟩
  · have e2 : i = Gs.length := by simp at hi; omega
    subst e2
    have e1 : (Gs ++ [G]).getD Gs.length [] = G := by simp
    rw [e1]
    exact ⟨r, c, by rw [List.getElem?_append_right (by omega), h.1]; simp, ho⟩

/-- What All hands back. -/
def AllAt (w : World) (v : Value) (Gs : List (List Nat)) : Prop :=
  ∃ g cap, v = .slice (some ⟨g, 0, none⟩) Gs.length cap ∧ ∀ i, i < Gs.length → ∃ r c, w.cell? ⟨g, i, none⟩ = some (.slice (some ⟨r, 0, none⟩) (Gs.getD i []).length c) ∧ ∀ j, j < (Gs.getD i []).length → w.cell? ⟨r, j, none⟩ = some (.int .i64 (((Gs.getD i []).getD j 0 : Nat) : Int))

theorem lt_of_cell {w : World} {k i : Nat} {v : Value} (h : w.cell? ⟨k, i, none⟩ = some v) : k < w.heap.size := by
  rcases Nat.lt_or_ge k w.heap.size with h' | h'
  · exact h'
  · simp [World.cell?, Array.getElem?_eq_none h'] at h

theorem AllAt.below {w w' : World} {v : Value} {Gs : List (List Nat)} (h : AllAt w v Gs) (hb : Below w.heap.size w w') : AllAt w' v Gs := by
  obtain ⟨g, cap, hv, h⟩ := h
  refine ⟨g, cap, hv, fun i hi => ?_⟩
  obtain ⟨r, c, h1, h2⟩ := h i hi
  refine ⟨r, c, (hb.cell (p := ⟨g, i, none⟩) (lt_of_cell h1)).trans h1, fun j hj => (hb.cell (p := ⟨r, j, none⟩) (lt_of_cell (h2 j hj))).trans (h2 j hj)⟩

theorem allAt_of {wl wr : World} {base M : Nat} {v : Value} {vs : List Value} {Gs : List (List Nat)} (hr : rowsAre wl base vs Gs) (ho : wr.ownsRow M 48 1 v vs.length vs) (hv : v ≠ .slice none 0 0) (hb : Below wl.heap.size wl wr) : AllAt wr v Gs := by
  rcases ho.2 with ⟨h0, _⟩ | ⟨g, cap, cur, rfl, _⟩
  · exact absurd h0 hv
  · refine ⟨g, cap, by rw [hr.1], fun i hi => ?_⟩
    obtain ⟨r, c, h1, h2⟩ := hr.2 i hi
    refine ⟨r, c, ?_, fun j hj => ?_⟩
    · rw [ho.cellAt i (by rw [hr.1]; omega)]; exact h1
    · have hlt := (h2.1.lt r rfl).2
      have h3 := h2.1
      rw [ints_length] at h3
      rw [hb.cell (p := ⟨r, j, none⟩) hlt, h3.cellAt j (by omega)]
      clear h1 h2 h3
      generalize Gs.getD i [] = G at *
      simp [ints, hj]

end Go.Proofs.YtebcjaenhiiflaaGreatDoor.S
namespace Go.Proofs.YtebcjaenhiiflaaGreatDoor.S
open Go.RowKit Go.WideMaps Go.Maps

theorem zero48 (w : World) : (zeroValue 48).run Tryz.prog w = .ok (.slice none 0 0) w := by kernel_rfl

theorem law3 : Keyed Tryz.prog 3 := int_keyed Tryz.underlying3

theorem Tryz.info48 : (Tryz.prog.info? 48).map (fun i => (i.zero, i.size, i.bytes)) = some (some (.slice none 0 0), 1, 24) := by kernel_rfl

theorem key_small (y : Nat) (h : y ≤ 1000000) : keyOf Tryz.prog 3 (.int .i64 (y : Int)) = some (.int .i64 (y : Int)) := keyOf_int_mk Tryz.underlying3 (WalkArith.wf_i64 (by omega))

theorem len_groups {w : World} {t k E base e b n : Nat} {D : DataW Unit} (h : w.ownsGroups Tryz.prog k base e .i64 b n D) (ht : Tryz.prog.underlying t = some (.map k E)) : ∃ m : Nat, m ≤ n ∧ ∀ ty, (Builtin.len_ #[t] ty #[.map (some b)]).run Tryz.prog w = .ok (.int .i64 (m : Int)) w := by
  obtain ⟨es, clock, hb, F, hs, rfl, _⟩ := h
  exact ⟨es.size, hs, fun ty => by simp [Builtin.len_, run_underlying ht, MapKept.run_getObj_map hb, goInt, Result.andThen]⟩

theorem one_slice (a : Option Addr) (n c : Nat) : ∀ u ∈ [Value.slice a n c], u.oneCell' = true := by
  intro u hu
  simp at hu
  subst hu
  rfl

set_option maxHeartbeats 400000 in
set_option maxRecDepth 100000 in
theorem all_any (p b : Nat) (L : List Nat) (w : World) (hs : SetsAt w p b L) (hlen : L.length ≤ 40) (hL : ∀ i, i < L.length → L.getD i 0 ≤ 1000000) :
    Calls Tryz.prog 143 #[.pointer (some ⟨p, 0, none⟩)] w fun e w' => ∃ v, e = .returned v ∧ AllAt w' v (grps L L.length) ∧ Below w.heap.size w w' := by
  have hmm := @run_makeMap Tryz.prog
  obtain ⟨i0, hi, hz0, hz1, hz2⟩ := info_parts Tryz.info3
  have hp := hs.pcell
  have hpl := hs.plt
  have hp' : (w.alloc (.map #[] 0)).cell? ⟨p, 0, none⟩ = some (.slice (some ⟨b, 0, none⟩) L.length L.length) := by rw [World.cell?_alloc_lt _ _ _ hpl]; exact hp
  go_enter Tryz.func143, Tryz.ntmps143
  go_wp2_with fail
  go_loopw [4, 5, 16] (fun _ _ i wr => ∃ k : Nat, k ≤ L.length ∧ i = .int .i64 k ∧ (∃ D : DataW Unit, gInv L k D ∧ wr.ownsGroups Tryz.prog 3 (w.heap.size + 1) 3 .i64 w.heap.size k D) ∧ Below w.heap.size w wr ∧ w.heap.size + 1 ≤ wr.heap.size)
    (fun _ _ i _ => L.length - (intOf i).toNat)
  case atStart => exact ⟨0, Nat.zero_le _, rfl, ⟨.map [], gInv_start L, World.ownsGroups_made _ _ _ _ _⟩, (Below.refl _ _).alloc (Nat.le_refl _) _, by simp⟩
  case round =>
    obtain ⟨k, hk, rfl, ⟨D, hD, hown⟩, hnx, hws⟩ := hrel
    clear hp' hmm
    by_cases hlt : k < L.length
    · have hcx : wr.cell? ⟨b, k, none⟩ = some (.int .i64 ((L.getD k 0 : Nat) : Int)) := (hnx.cell (p := ⟨b, k, none⟩) hs.blt).trans (hs.bcell k hlt)
      have hkey := key_small (L.getD k 0) (hL k hlt)
      have HD : Hid (gInv L k D) := hD
      have HS : Hid (SetsAt w p b L) := hs
      clear hD hs hL hp
      generalize hy : L.getD k 0 = y at hcx hkey
      have HY : Hid (L.getD k 0 = y) := hy
      clear hy
      go_wp2_with (first
        | (at_lookup; refine wpList_lookup_groups _ rfl _ _ 199 rfl 3 48 3 .i64 law3 Tryz.underlying199 (zero48 _) (w.heap.size + 1) w.heap.size k _ rfl hown (by unfold maxLen; omega) _ _ rfl hkey ?_; intro v zs hat hoi hzl hback)
        | (at_builtin; refine wpList_append_own_at _ rfl _ _ 48 rfl (w.heap.size + 1) 3 i0 (.int .i64 0) 1 8 Tryz.underlying48 hi hz0 hz1 hz2 rfl (by decide) _ _ _ rfl (hoi.1.alloc _) ⟨wr.heap.size, 0, none⟩ 1 1 [.int .i64 k] rfl rfl (cell_one_new _ _ _) (ints_oneCell .i64 [(k : Int)]) (by unfold maxLen; omega) (by omega) (by simp; omega) ?_; intro v' w1 hown' hgrow hnil hloc)
        | (at_mapUpdate; refine wpList_mapUpdate_back _ rfl _ _ _ 199 rfl hback rfl rfl rfl ((World.grownBy_alloc _ _ _).trans hgrow) (hoi.appended hown' (WalkArith.wf_i64 (by omega))) (by simp; omega) (hloc.imp id (fun h => ⟨_, h, by simp⟩)) ?_; intro w2 hown2 hgrow2)
        | go_in)
      have hall := (World.grownBy_alloc wr _ _).trans hgrow
      have ho' := hoi.appended hown' (WalkArith.wf_i64 (by omega))
      rw [← HY.out] at hat hown2
      go_roundw
      case rel => exact ⟨k + 1, by omega, by go_num, ⟨_, gInv_step HD.out hoi hat ho', hown2⟩, hnx.groups hoi hall hgrow2 hnx.size (Nat.le_succ _) (Nat.le_refl _), Nat.le_trans hws (Nat.le_trans hall.size hgrow2.size)⟩
      case measure => simp [intOf]; omega
    · have hke : k = L.length := by omega
      subst hke
      rename World => wl
      obtain ⟨m, hm, hlenm⟩ := len_groups hown Tryz.underlying199
      obtain ⟨j0, hj, hj0, hj1, hj2⟩ := info_parts Tryz.info48
      have hpr : wl.cell? ⟨p, 0, none⟩ = some (.slice (some ⟨b, 0, none⟩) L.length L.length) := (hnx.cell (p := ⟨p, 0, none⟩) hpl).trans hp
      have HD : Hid (gInv L L.length D) := hD
      have HO : Hid (wl.ownsGroups Tryz.prog 3 (w.heap.size + 1) 3 .i64 w.heap.size L.length D) := hown
      have HN : Hid (Below w.heap.size w wl) := hnx
      have hprlt : p < wl.heap.size := Nat.lt_of_lt_of_le hpl hnx.size
      clear hD hs hL hp hown hnx hi hz0 hz1 hz2
      go_wp2_with (first
        | (at_make; refine wpList_make_own _ rfl _ _ 51 rfl wl.heap.size 48 j0 (.slice none 0 0) 1 Tryz.underlying51 hj hj0 hj1 .i64 .i64 _ m rfl rfl rfl (by rw [hj2]; omega) (by unfold maxLen; omega) (Nat.le_refl _) ?_; intro w1 hown1 hgrow1; have hp1 : w1.cell? ⟨p, 0, none⟩ = some (.slice (some ⟨b, 0, none⟩) L.length L.length) := by rw [World.cell?_of_block (w := wl) (hgrow1.block p hprlt (by simp))]; exact hpr)
        | fail)
      have HB1 : Hid (Below wl.heap.size wl w1) := (Below.refl _ _).grown hgrow1 (Nat.le_refl _) (by simp)
      clear hpr hgrow1 hlenm hm
      go_loopw [6, 7, 8, 9, 38] (fun t _ _ _ i wq => ∃ k : Nat, k ≤ L.length ∧ i = .int .i64 k ∧ (∃ vs, rowsAre wl (w.heap.size + 1) vs (grps L k) ∧ wq.ownsRow wl.heap.size 48 1 t vs.length vs) ∧ t ≠ .slice none 0 0 ∧ Below wl.heap.size wl wq)
        (fun _ _ _ _ i _ => L.length - (intOf i).toNat)
      case atStart => exact ⟨0, Nat.zero_le _, rfl, ⟨[], ⟨rfl, by simp [grps]⟩, hown1⟩, by simp, HB1.out⟩
      case round =>
        obtain ⟨k, hk, rfl, ⟨vs, hrows, howk⟩, htn, hbk⟩ := hrel
        clear hown1 hp1
        have hvl := hrows.1
        have hgl := grps_le L k
        by_cases hlt : k < L.length
        · by_cases hg : grp L L.length k = []
          · have hrun := look_none HO.out HD.out hbk law3 Tryz.underlying199 (zero48 wr) (key_small k (by omega)) hg
            have HR : Hid (rowsAre wl (w.heap.size + 1) vs (grps L (k + 1))) := by
              show rowsAre wl (w.heap.size + 1) vs (grps L (k + 1))
              rw [grps_succ_none L k hg]; exact hrows
            have HK : Hid (wr.ownsRow wl.heap.size 48 1 u6 vs.length vs) := howk
            clear hrows howk hg
            go_wp2
            go_roundw
            case rel => exact ⟨k + 1, by omega, by go_num, ⟨vs, HR.out, HK.out⟩, htn, hbk⟩
            case measure => simp [intOf]; omega
          · obtain ⟨r, c, hrun, hoi⟩ := look_some HO.out HD.out hbk law3 Tryz.underlying199 (zero48 wr) (key_small k (by omega)) hg
            have HR : Hid (rowsAre wl (w.heap.size + 1) (vs ++ [.slice (some ⟨r, 0, none⟩) (grp L L.length k).length c]) (grps L (k + 1))) := by
              show rowsAre wl (w.heap.size + 1) _ (grps L (k + 1))
              rw [grps_succ_some L k hg]; exact rowsAre_snoc hrows hoi
            clear hrows hoi hg
            generalize (grp L L.length k).length = gl at *
            go_wp2_with (first
              | (at_builtin; refine wpList_append_own_at _ rfl _ _ 51 rfl wl.heap.size 48 j0 (.slice none 0 0) 1 24 Tryz.underlying51 hj hj0 hj1 hj2 rfl (by decide) u6 vs.length vs rfl (howk.alloc _) ⟨wr.heap.size, 0, none⟩ 1 1 [.slice (some ⟨r, 0, none⟩) gl c] rfl rfl (cell_one_new _ _ _) (one_slice _ _ _) (by unfold maxLen; omega) (by omega) (by have := hbk.size; simp; omega) ?_; intro v' w1 hown' hgrow hnil hloc)
              | fail)
            have hall := (World.grownBy_alloc wr _ _).trans hgrow
            go_roundw
            case rel => exact ⟨k + 1, by omega, by go_num, ⟨_, HR.out, by simpa using hown'⟩, fun h => htn (hnil.1 h).1, hbk.grown hall hbk.size (fun j hj => (howk.lt j hj).1)⟩
            case measure => simp [intOf]; omega
        · have hke : k = L.length := by omega
          subst hke
          have HA : Hid (AllAt wr u6 (grps L L.length)) := allAt_of hrows howk htn hbk
          go_wp2
          go_ret
          exact ⟨_, rfl, HA.out, HN.out.trans (hbk.mono HN.out.size)⟩

end Go.Proofs.YtebcjaenhiiflaaGreatDoor.S
