/- The contract of joined. -/
import Derived.Test.YtkoghblolnklmaaW7
namespace Go.Proofs.Ytkoghblolnklmaa
open Go.RowKit

theorem join_int (x y : Int) (p b : Nat) (L : List Nat) (w : World) (hs : SetsAt w p b L) (hx0 : 0 ≤ x) (hx : x < (L.length : Int)) (hy0 : 0 ≤ y) (hy : y < (L.length : Int)) (hlen : L.length ≤ 40) :
    Calls Try.prog 7 #[.pointer (some ⟨p, 0, none⟩), .int .i64 x, .int .i64 y] w fun e w' => e = .returned (.tuple #[.bool (decide (L.getD x.toNat 0 ≠ L.getD y.toNat 0)), .nilIface]) ∧ SetsAt w' p b (joinL L x.toNat y.toNat) ∧ But b w w' := by
  obtain ⟨x, rfl⟩ := Int.eq_ofNat_of_zero_le hx0
  obtain ⟨y, rfl⟩ := Int.eq_ofNat_of_zero_le hy0
  rw [Int.toNat_natCast, Int.toNat_natCast]
  exact join_in x y p b L w hs (by omega) (by omega) hlen

theorem new_int (n : Int) (w : World) (hn0 : 0 ≤ n) (hn : n ≤ 40) :
    Calls Try.prog 6 #[.int .i64 n] w fun e w' => e = .returned (.tuple #[.pointer (some ⟨w.heap.size + 1, 0, none⟩), .nilIface]) ∧ SetsAt w' (w.heap.size + 1) w.heap.size (List.range n.toNat) ∧ Below w.heap.size w w' := by
  obtain ⟨n, rfl⟩ := Int.eq_ofNat_of_zero_le hn0
  rw [Int.toNat_natCast]
  exact new_in n w (by omega)

theorem but_below {b : Nat} {w w' : World} (h : But b w w') {B : Nat} (hB : B ≤ b) (hb : B ≤ w.heap.size) : Below B w w' := h.below hB hb

set_option maxHeartbeats 400000 in
theorem joined_any (w : World) : Calls Try.prog 4 #[] w fun e w' => e = .returned (.bool true) ∧ Below w.heap.size w w' := by
  go_enter Try.func4, Try.ntmps4
  go_wp2_with fail
  refine (new_int 3 _ (by decide) (by decide)).mono ?_
  rintro e w1 ⟨rfl, hs1, hb1⟩
  rw [show List.range (Int.toNat 3) = [0, 1, 2] from rfl] at hs1
  go_wp2_with fail
  refine (join_int 2 1 _ _ _ _ hs1 (by decide) (by decide) (by decide) (by decide) (by decide)).mono ?_
  rintro e w2 ⟨rfl, hs2, hb2⟩
  rw [show joinL [0, 1, 2] (Int.toNat 2) (Int.toNat 1) = [0, 1, 1] from rfl] at hs2
  rw [show decide ([0, 1, 2].getD (Int.toNat 2) 0 ≠ [0, 1, 2].getD (Int.toNat 1) 0) = true from rfl]
  go_wp2_with fail
  refine (join_int 1 2 _ _ _ _ hs2 (by decide) (by decide) (by decide) (by decide) (by decide)).mono ?_
  rintro e w3 ⟨rfl, hs3, hb3⟩
  rw [show joinL [0, 1, 1] (Int.toNat 1) (Int.toNat 2) = [0, 1, 1] from rfl] at hs3
  rw [show decide ([0, 1, 1].getD (Int.toNat 1) 0 ≠ [0, 1, 1].getD (Int.toNat 2) 0) = false from rfl]
  have HB3 : Hid (Below w.heap.size w w3) := (hb1.trans (hb2.below (Nat.le_refl _) hb1.size)).trans (hb3.below (Nat.le_refl _) (Nat.le_trans hb1.size hb2.size))
  clear hs1 hs2 hb1 hb2 hb3
  go_wp2_with fail
  refine (least_in 2 _ _ _ _ hs3 (by decide) (by decide)).mono ?_
  rintro e w4 ⟨rfl, hb4⟩
  have hs4 := hs3.below hb4 hs3.plt hs3.blt
  have HB4 : Hid (Below w.heap.size w w4) := HB3.out.trans (hb4.mono HB3.out.size)
  rw [show ([0, 1, 1].getD (Int.toNat 2) 0) = 1 from rfl]
  clear hs3 hb4 HB3
  go_wp2_with fail
  refine (many_any _ _ _ _ hs4 (by decide)).mono ?_
  rintro e w5 ⟨rfl, hb5⟩
  have hs5 := hs4.below hb5 hs4.plt hs4.blt
  have HB5 : Hid (Below w.heap.size w w5) := HB4.out.trans (hb5.mono HB4.out.size)
  rw [show cnt (isLeast [0, 1, 1]) [0, 1, 1].length = 2 from rfl]
  clear hs4 hb5 HB4
  go_wp2_with fail
  refine (all_any _ _ _ _ hs5 (by decide) (by decide)).mono ?_
  rintro e w6 ⟨v, rfl, ⟨g, cap, rfl, _⟩, hb6⟩
  have HB6 : Hid (Below w.heap.size w w6) := HB5.out.trans (hb6.mono HB5.out.size)
  rw [show (grps [0, 1, 1] [0, 1, 1].length).length = 2 from rfl]
  clear hs5 hb6 HB5
  go_wp2
  go_ret
  exact ⟨rfl, HB6.out⟩

end Go.Proofs.Ytkoghblolnklmaa
