/- check and Least. -/
import Derived.Test.YtedcncpkikdldaaSW1
namespace Go.Proofs.Ytedcncpkikdldaa.S
open Go.RowKit


theorem hmf (fn : Fn) (first cap : Array Value) (w : World) : (Instr.makeFunc fn first cap).run Try.prog w = .ok (.func fn first cap) w := rfl

theorem sets_alloc {w : World} {p b : Nat} {L : List Nat} (h : SetsAt w p b L) (o : Obj) : SetsAt (w.alloc o) p b L :=
  h.below ((Below.refl w.heap.size w).alloc (Nat.le_refl _) o) h.plt h.blt

set_option maxHeartbeats 400000 in
theorem check_in (N : List Int) (s p b cap : Nat) (L : List Nat) (w : World) (hs : SetsAt w p b L)
    (hrow : ∀ i, i < N.length → w.cell? ⟨s, i, none⟩ = some (.int .i64 (N.getD i 0))) (hsl : s < w.heap.size) (hl : N.length ≤ 2) (hall : ∀ i, i < N.length → 0 ≤ N.getD i 0 ∧ N.getD i 0 < (L.length : Int)) :
    Calls Try.prog 36 #[.pointer (some ⟨p, 0, none⟩), .slice (some ⟨s, 0, none⟩) N.length cap] w fun e w' => e = .returned .nilIface ∧ w' = w.alloc (.cells #[.pointer (some ⟨p, 0, none⟩)] 25) := by
  have hmf' := hmf
  go_enter Try.func36, Try.ntmps36
  go_wp2_with fail
  refine (contains_in N s p b w.heap.size cap L _ (sets_alloc hs _) (by simp) (fun i hi => ?_) hl hall).mono ?_
  · rw [World.cell?_alloc_lt _ _ _ hsl]; exact hrow i hi
  · rintro e w' ⟨rfl, rfl⟩
    clear hs hrow hall
    go_wp2
    go_ret
    exact ⟨rfl, rfl⟩

/-- Two new blocks: the numbers that are asked, and what check boxes. -/
theorem below_two (w : World) (o o' : Obj) : Below w.heap.size w ((w.alloc o).alloc o') :=
  ((Below.refl _ _).alloc (Nat.le_refl _) _).alloc (by simp) _

theorem check1_in (x : Int) (s p b cap : Nat) (L : List Nat) (w : World) (hs : SetsAt w p b L)
    (h0 : w.cell? ⟨s, 0, none⟩ = some (.int .i64 x)) (hsl : s < w.heap.size) (hx0 : 0 ≤ x) (hx : x < (L.length : Int)) :
    Calls Try.prog 36 #[.pointer (some ⟨p, 0, none⟩), .slice (some ⟨s, 0, none⟩) 1 cap] w fun e w' => e = .returned .nilIface ∧ w' = w.alloc (.cells #[.pointer (some ⟨p, 0, none⟩)] 25) := by
  refine check_in [x] s p b cap L w hs (fun i hi => ?_) hsl (by simp) (fun i hi => ?_)
  · have : i = 0 := by simpa using hi
    subst this; simpa using h0
  · have : i = 0 := by simpa using hi
    subst this; exact ⟨hx0, hx⟩

theorem check2_in (x y : Int) (s p b cap : Nat) (L : List Nat) (w : World) (hs : SetsAt w p b L)
    (h0 : w.cell? ⟨s, 0, none⟩ = some (.int .i64 x)) (h1 : w.cell? ⟨s, 1, none⟩ = some (.int .i64 y)) (hsl : s < w.heap.size) (hx0 : 0 ≤ x) (hx : x < (L.length : Int)) (hy0 : 0 ≤ y) (hy : y < (L.length : Int)) :
    Calls Try.prog 36 #[.pointer (some ⟨p, 0, none⟩), .slice (some ⟨s, 0, none⟩) 2 cap] w fun e w' => e = .returned .nilIface ∧ w' = w.alloc (.cells #[.pointer (some ⟨p, 0, none⟩)] 25) := by
  refine check_in [x, y] s p b cap L w hs (fun i hi => ?_) hsl (by simp) (fun i hi => ?_)
  · have : i = 0 ∨ i = 1 := by simp at hi; omega
    rcases this with rfl | rfl
    · simpa using h0
    · simpa using h1
  · have : i = 0 ∨ i = 1 := by simp at hi; omega
    rcases this with rfl | rfl
    · exact ⟨hx0, hx⟩
    · exact ⟨hy0, hy⟩

set_option maxHeartbeats 400000 in
theorem least_in (x : Int) (p b : Nat) (L : List Nat) (w : World) (hs : SetsAt w p b L) (hx0 : 0 ≤ x) (hx : x < (L.length : Int)) :
    Calls Try.prog 13 #[.pointer (some ⟨p, 0, none⟩), .int .i64 x] w fun e w' => e = .returned (.tuple #[.int .i64 ((L.getD x.toNat 0 : Nat) : Int), .nilIface]) ∧ Below w.heap.size w w' := by
  obtain ⟨x, rfl⟩ := Int.eq_ofNat_of_zero_le hx0
  rw [Int.toNat_natCast]
  go_enter Try.func13, Try.ntmps13
  go_wp2_with fail
  refine (check1_in (x : Int) w.heap.size p b 1 L _ (sets_alloc hs _) (by simp) (by simp) hx0 hx).mono ?_
  rintro e w' ⟨rfl, rfl⟩
  have hs2 := sets_alloc (sets_alloc hs (Obj.cells #[Value.int IntKind.i64 ↑x] 3)) (Obj.cells #[Value.pointer (some { block := p, off := 0 })] 25)
  have hb := below_two w (Obj.cells #[Value.int IntKind.i64 ↑x] 3) (Obj.cells #[Value.pointer (some { block := p, off := 0 })] 25)
  generalize (w.alloc (Obj.cells #[Value.int IntKind.i64 ↑x] 3)).alloc (Obj.cells #[Value.pointer (some { block := p, off := 0 })] 25) = W at hs2 hb ⊢
  have hp := hs2.pcell
  have hc := hs2.bcell x (by omega)
  have HB : Hid (Below w.heap.size w W) := hb
  clear hs hs2 hb
  generalize hy : L.getD x 0 = y at hc
  have HY : Hid (L.getD x 0 = y) := hy
  clear hy
  go_wp2
  go_ret2
  exact ⟨by rw [HY.out]; rfl, HB.out⟩

end Go.Proofs.Ytedcncpkikdldaa.S
