/- The contracts of package bridge's across and Ids. -/
import Derived.Test.YtpkdpddillebfabBc
namespace Go.Proofs.Ytpkdpddillebfab.S
open Go.RowKit Go.WideMaps Go.Maps
variable {p pw bw pt bt m N n : Nat} {W T : List Nat} {D : DataW Unit}

theorem box_two (w : World) (u v : Value) : (w.alloc (.cells #[u, v] 48)).cell? ⟨w.heap.size, 0, none⟩ = some u ∧ (w.alloc (.cells #[u, v] 48)).cell? ⟨w.heap.size, 1, none⟩ = some v := by
  constructor <;> simp

theorem box_two_below {w w' : World} {u v : Value} (h : Below (w.alloc (.cells #[u, v] 48)).heap.size (w.alloc (.cells #[u, v] 48)) w') : w'.cell? ⟨w.heap.size, 0, none⟩ = some u ∧ w'.cell? ⟨w.heap.size, 1, none⟩ = some v := by
  have hb := box_two w u v
  constructor
  · rw [h.cell (p := ⟨w.heap.size, 0, none⟩) (by simp)]; exact hb.1
  · rw [h.cell (p := ⟨w.heap.size, 1, none⟩) (by simp)]; exact hb.2

theorem below_alloc_then {w w' : World} {o : Obj} (h : Below (w.alloc o).heap.size (w.alloc o) w') : Below w.heap.size w w' :=
  ((Below.refl _ w).alloc (Nat.le_refl _) o).trans (h.mono (by simp))

set_option maxHeartbeats 1000000 in
theorem across_one (a b X Y : Nat) (w : World) (h : BAt w p pw bw pt bt m N W T D) (hg : Good n T) (ha : a < n) (hb : b < n) (hX : T.getD a 0 = X) (hY : T.getD b 0 = Y) :
    Calls Try.prog 81 #[.pointer (some ⟨p, 0, none⟩), .agg #[.int .i64 (a : Int), .int .i64 (b : Int)], .int .i64 (X : Int)] w fun e w' => e = .returned (.int .i64 (Y : Int)) ∧ Below w.heap.size w w' := by
  have HW : Hid (∀ w', Below w.heap.size w w' → BAt w' p pw bw pt bt m N W T D) := fun w' hb => h.below hb
  clear h
  go_enter Try.func81, Try.ntmps81
  go_wp2_with fail
  refine (part_n a _ (HW.out _ ((Below.refl _ w).alloc (Nat.le_refl _) _)) hg ha hX).mono ?_
  rintro e w1 ⟨rfl, b1⟩
  have c1 := (box_two_below b1).2
  have B1 : Hid (Below w.heap.size w w1) := below_alloc_then b1
  clear b1
  go_wp2_with fail
  refine (part_n b w1 (HW.out _ B1.out) hg hb hY).mono ?_
  rintro e w2 ⟨rfl, b2⟩
  have B2 : Hid (Below w.heap.size w w2) := B1.out.trans (b2.mono B1.out.size)
  clear b2
  go_wp2
  go_ret
  exact ⟨rfl, B2.out⟩

set_option maxHeartbeats 1000000 in
theorem across_two (a b X Y : Nat) (w : World) (h : BAt w p pw bw pt bt m N W T D) (hg : Good n T) (ha : a < n) (hb : b < n) (hX : T.getD a 0 = X) (hY : T.getD b 0 = Y) (hne : Y ≠ X) :
    Calls Try.prog 81 #[.pointer (some ⟨p, 0, none⟩), .agg #[.int .i64 (a : Int), .int .i64 (b : Int)], .int .i64 (Y : Int)] w fun e w' => e = .returned (.int .i64 (X : Int)) ∧ Below w.heap.size w w' := by
  have HW : Hid (∀ w', Below w.heap.size w w' → BAt w' p pw bw pt bt m N W T D) := fun w' hb => h.below hb
  clear h
  go_enter Try.func81, Try.ntmps81
  go_wp2_with fail
  refine (part_n a _ (HW.out _ ((Below.refl _ w).alloc (Nat.le_refl _) _)) hg ha hX).mono ?_
  rintro e w1 ⟨rfl, b1⟩
  have c1 := (box_two_below b1).2
  have c0 := (box_two_below b1).1
  have B1 : Hid (Below w.heap.size w w1) := below_alloc_then b1
  have hl : w.heap.size < w1.heap.size := by have := b1.size; simp at this; omega
  clear b1
  go_wp2_with fail
  refine (part_n b w1 (HW.out _ B1.out) hg hb hY).mono ?_
  rintro e w2 ⟨rfl, b2⟩
  have c2 : w2.cell? ⟨w.heap.size, 0, none⟩ = some (.int .i64 (a : Int)) := (b2.cell (p := ⟨w.heap.size, 0, none⟩) hl).trans c0
  have B2 : Hid (Below w.heap.size w w2) := B1.out.trans (b2.mono B1.out.size)
  clear b2 c0 c1
  go_wp2_with fail
  refine (part_n a w2 (HW.out _ B2.out) hg ha hX).mono ?_
  rintro e w3 ⟨rfl, b3⟩
  have B3 : Hid (Below w.heap.size w w3) := B2.out.trans (b3.mono B2.out.size)
  clear b3
  go_wp2
  go_ret
  exact ⟨rfl, B3.out⟩

set_option maxHeartbeats 1000000 in
theorem across_none (a b X Y fr : Nat) (w : World) (h : BAt w p pw bw pt bt m N W T D) (hg : Good n T) (ha : a < n) (hb : b < n) (hX : T.getD a 0 = X) (hY : T.getD b 0 = Y) (h1 : fr ≠ X) (h2 : fr ≠ Y) :
    Calls Try.prog 81 #[.pointer (some ⟨p, 0, none⟩), .agg #[.int .i64 (a : Int), .int .i64 (b : Int)], .int .i64 (fr : Int)] w fun e w' => e = .returned (.int .i64 (-1)) ∧ Below w.heap.size w w' := by
  have HW : Hid (∀ w', Below w.heap.size w w' → BAt w' p pw bw pt bt m N W T D) := fun w' hb => h.below hb
  clear h
  go_enter Try.func81, Try.ntmps81
  go_wp2_with fail
  refine (part_n a _ (HW.out _ ((Below.refl _ w).alloc (Nat.le_refl _) _)) hg ha hX).mono ?_
  rintro e w1 ⟨rfl, b1⟩
  have c1 := (box_two_below b1).2
  have B1 : Hid (Below w.heap.size w w1) := below_alloc_then b1
  clear b1
  go_wp2_with fail
  refine (part_n b w1 (HW.out _ B1.out) hg hb hY).mono ?_
  rintro e w2 ⟨rfl, b2⟩
  have B2 : Hid (Below w.heap.size w w2) := B1.out.trans (b2.mono B1.out.size)
  clear b2 c1
  go_wp2
  go_ret
  exact ⟨rfl, B2.out⟩

end Go.Proofs.Ytpkdpddillebfab.S

