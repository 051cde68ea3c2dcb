/- What lies out of range; Same. -/
import Derived.Test.YtpkdpddillebfaaDoorSM
namespace Go.Proofs.YtpkdpddillebfaaDoor.S
open Go.RowKit


set_option maxHeartbeats 400000 in
theorem same_in (x y p b : Nat) (L : List Nat) (s : Bool) (w : World) (hs : SetsAt w p b L) (hx : x < L.length) (hy : y < L.length) (hv : (((L.getD x 0 : Nat) : Int) == ((L.getD y 0 : Nat) : Int)) = s) :
    Calls Tryd.prog 9 #[.pointer (some ⟨p, 0, none⟩), .int .i64 (x : Int), .int .i64 (y : Int)] w fun e w' => e = .returned (.tuple #[.bool s, .nilIface]) ∧ Below w.heap.size w w' := by
  go_enter Tryd.func9, Tryd.ntmps9
  go_wp2_with fail
  refine (check2_in (x : Int) (y : Int) w.heap.size p b 2 L _ (sets_alloc hs _) ?c1 ?c2 ?c3 (by omega) (by omega) (by omega) (by omega)).mono ?_
  case c1 => simp
  case c2 => simp
  case c3 => simp
  rintro e w' ⟨rfl, rfl⟩
  have hs2 := sets_alloc (sets_alloc hs (Obj.cells #[Value.int IntKind.i64 ↑x, Value.int IntKind.i64 ↑y] 3)) (Obj.cells #[Value.pointer (some { block := p, off := 0 })] 23)
  have hb := below_two w (Obj.cells #[Value.int IntKind.i64 ↑x, Value.int IntKind.i64 ↑y] 3) (Obj.cells #[Value.pointer (some { block := p, off := 0 })] 23)
  generalize (w.alloc (Obj.cells #[Value.int IntKind.i64 ↑x, Value.int IntKind.i64 ↑y] 3)).alloc (Obj.cells #[Value.pointer (some { block := p, off := 0 })] 23) = W at hs2 hb ⊢
  have HB : Hid (Below w.heap.size w W) := hb
  clear hb hs
  have hp := hs2.pcell
  have hcx := hs2.bcell x hx
  have hcy := hs2.bcell y hy
  clear hs2
  generalize L.getD x 0 = X at *
  generalize L.getD y 0 = Y at *
  go_wp2_with fail
  go_quiet (fail)
  clear hcx hcy hp
  go_wp2_with fail
  go_ret2
  exact ⟨by simp, below_drewN HB.out _⟩

end Go.Proofs.YtpkdpddillebfaaDoor.S
