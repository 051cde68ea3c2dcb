/- What lies out of range; Same. -/
import Derived.Test.YtebcjaenhiiflaaGreatDoorSM
namespace Go.Proofs.YtebcjaenhiiflaaGreatDoor.S
open Go.RowKit

/-- A number that is none of the members. -/
def Strange (n : Nat) (x : Int) : Prop := x < 0 ∨ (n : Int) ≤ x

set_option maxHeartbeats 400000 in
theorem new_out (n : Int) (w : World) (h : n < 0 ∨ 40 < n) :
    Calls Tryz.prog 224 #[.int .i64 n] w fun e w' => e = .returned (.tuple #[.pointer none, .iface 23 (.int .i64 2)]) ∧ Below w.heap.size w w' := by
  rcases h with h | h
  · go_enter Tryz.func224, Tryz.ntmps224
    go_wp2
    go_ret2
    exact ⟨rfl, Below.refl _ _⟩
  · have h0 : ¬ n < 0 := by omega
    go_enter Tryz.func224, Tryz.ntmps224
    go_wp2
    go_ret2
    exact ⟨rfl, Below.refl _ _⟩

set_option maxHeartbeats 400000 in
theorem join_out (x y : Int) (p b : Nat) (L : List Nat) (w : World) (hs : SetsAt w p b L) (hx : Strange L.length x ∨ Strange L.length y) :
    Calls Tryz.prog 119 #[.pointer (some ⟨p, 0, none⟩), .int .i64 x, .int .i64 y] w fun e w' => e = .returned (.tuple #[.bool false, .iface 23 (.int .i64 2)]) ∧ Below w.heap.size w w' := by
  have HX : Hid (Strange L.length x ∨ Strange L.length y) := hx
  clear hx
  go_enter Tryz.func119, Tryz.ntmps119
  go_wp2_with fail
  refine (check2_out x y w.heap.size p b 2 L _ (sets_alloc hs _) (by simp) (by simp) (by simp) HX.out).mono ?_
  rintro e w' ⟨rfl, rfl⟩
  clear hs
  go_wp2
  go_ret2
  exact ⟨rfl, below_two _ _ _⟩

set_option maxHeartbeats 400000 in
theorem same_out (x y : Int) (p b : Nat) (L : List Nat) (w : World) (hs : SetsAt w p b L) (hx : Strange L.length x ∨ Strange L.length y) :
    Calls Tryz.prog 130 #[.pointer (some ⟨p, 0, none⟩), .int .i64 x, .int .i64 y] w fun e w' => e = .returned (.tuple #[.bool false, .iface 23 (.int .i64 2)]) ∧ Below w.heap.size w w' := by
  have HX : Hid (Strange L.length x ∨ Strange L.length y) := hx
  clear hx
  go_enter Tryz.func130, Tryz.ntmps130
  go_wp2_with fail
  refine (check2_out x y w.heap.size p b 2 L _ (sets_alloc hs _) (by simp) (by simp) (by simp) HX.out).mono ?_
  rintro e w' ⟨rfl, rfl⟩
  clear hs
  go_wp2
  go_ret2
  exact ⟨rfl, below_two _ _ _⟩

set_option maxHeartbeats 400000 in
theorem same_in (x y p b : Nat) (L : List Nat) (s : Bool) (w : World) (hs : SetsAt w p b L) (hx : x < L.length) (hy : y < L.length) (hv : (((L.getD x 0 : Nat) : Int) == ((L.getD y 0 : Nat) : Int)) = s) :
    Calls Tryz.prog 130 #[.pointer (some ⟨p, 0, none⟩), .int .i64 (x : Int), .int .i64 (y : Int)] w fun e w' => e = .returned (.tuple #[.bool s, .nilIface]) ∧ Below w.heap.size w w' := by
  go_enter Tryz.func130, Tryz.ntmps130
  go_wp2_with fail
  refine (check2_in (x : Int) (y : Int) w.heap.size p b 2 L _ (sets_alloc hs _) ?c1 ?c2 ?c3 (by omega) (by omega) (by omega) (by omega)).mono ?_
  case c1 => simp
  case c2 => simp
  case c3 => simp
  rintro e w' ⟨rfl, rfl⟩
  have hs2 := sets_alloc (sets_alloc hs (Obj.cells #[Value.int IntKind.i64 ↑x, Value.int IntKind.i64 ↑y] 3)) (Obj.cells #[Value.pointer (some { block := p, off := 0 })] 175)
  have hb := below_two w (Obj.cells #[Value.int IntKind.i64 ↑x, Value.int IntKind.i64 ↑y] 3) (Obj.cells #[Value.pointer (some { block := p, off := 0 })] 175)
  generalize (w.alloc (Obj.cells #[Value.int IntKind.i64 ↑x, Value.int IntKind.i64 ↑y] 3)).alloc (Obj.cells #[Value.pointer (some { block := p, off := 0 })] 175) = W at hs2 hb ⊢
  have HB : Hid (Below w.heap.size w W) := hb
  clear hb hs
  have hp := hs2.pcell
  have hcx := hs2.bcell x hx
  have hcy := hs2.bcell y hy
  clear hs2
  generalize L.getD x 0 = X at *
  generalize L.getD y 0 = Y at *
  go_wp2_with fail
  go_quiet (fail)
  clear hcx hcy hp
  go_wp2_with fail
  go_ret2
  exact ⟨by simp, below_drewN HB.out _⟩

end Go.Proofs.YtebcjaenhiiflaaGreatDoor.S
