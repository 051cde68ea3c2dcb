/- The contracts of package bridge's across and Ids. -/
import Derived.Test.YtpkdpddillebfaaBc
namespace Go.Proofs.Ytpkdpddillebfaa.S
open Go.RowKit Go.WideMaps Go.Maps Go.Sort Go.Shelf
variable {p pw bw pt bt m N n : Nat} {W T : List Nat} {D : DataW Unit}

theorem box_two (w : World) (u v : Value) : (w.alloc (.cells #[u, v] 31)).cell? ⟨w.heap.size, 0, none⟩ = some u ∧ (w.alloc (.cells #[u, v] 31)).cell? ⟨w.heap.size, 1, none⟩ = some v := by
  constructor <;> simp

theorem box_two_below {w w' : World} {u v : Value} (h : Below (w.alloc (.cells #[u, v] 31)).heap.size (w.alloc (.cells #[u, v] 31)) w') : w'.cell? ⟨w.heap.size, 0, none⟩ = some u ∧ w'.cell? ⟨w.heap.size, 1, none⟩ = some v := by
  have hb := box_two w u v
  constructor
  · rw [h.cell (p := ⟨w.heap.size, 0, none⟩) (by simp)]; exact hb.1
  · rw [h.cell (p := ⟨w.heap.size, 1, none⟩) (by simp)]; exact hb.2

theorem below_alloc_then {w w' : World} {o : Obj} (h : Below (w.alloc o).heap.size (w.alloc o) w') : Below w.heap.size w w' :=
  ((Below.refl _ w).alloc (Nat.le_refl _) o).trans (h.mono (by simp))

set_option maxHeartbeats 1000000 in
theorem across_one (a b X Y : Nat) (w : World) (h : BAt w p pw bw pt bt m N W T D) (hg : Good n T) (ha : a < n) (hb : b < n) (hX : T.getD a 0 = X) (hY : T.getD b 0 = Y) :
    Calls Try.prog 103 #[.pointer (some ⟨p, 0, none⟩), .agg #[.int .i64 (a : Int), .int .i64 (b : Int)], .int .i64 (X : Int)] w fun e w' => e = .returned (.int .i64 (Y : Int)) ∧ Below w.heap.size w w' := by
  have HW : Hid (∀ w', Below w.heap.size w w' → BAt w' p pw bw pt bt m N W T D) := fun w' hb => h.below hb
  clear h
  go_enter Try.func103, Try.ntmps103
  go_wp2_with fail
  refine (part_n a _ (HW.out _ ((Below.refl _ w).alloc (Nat.le_refl _) _)) hg ha hX).mono ?_
  rintro e w1 ⟨rfl, b1⟩
  have c1 := (box_two_below b1).2
  have B1 : Hid (Below w.heap.size w w1) := below_alloc_then b1
  clear b1
  go_wp2_with fail
  refine (part_n b w1 (HW.out _ B1.out) hg hb hY).mono ?_
  rintro e w2 ⟨rfl, b2⟩
  have B2 : Hid (Below w.heap.size w w2) := B1.out.trans (b2.mono B1.out.size)
  clear b2
  go_wp2
  go_ret
  exact ⟨rfl, B2.out⟩

set_option maxHeartbeats 1000000 in
theorem across_two (a b X Y : Nat) (w : World) (h : BAt w p pw bw pt bt m N W T D) (hg : Good n T) (ha : a < n) (hb : b < n) (hX : T.getD a 0 = X) (hY : T.getD b 0 = Y) (hne : Y ≠ X) :
    Calls Try.prog 103 #[.pointer (some ⟨p, 0, none⟩), .agg #[.int .i64 (a : Int), .int .i64 (b : Int)], .int .i64 (Y : Int)] w fun e w' => e = .returned (.int .i64 (X : Int)) ∧ Below w.heap.size w w' := by
  have HW : Hid (∀ w', Below w.heap.size w w' → BAt w' p pw bw pt bt m N W T D) := fun w' hb => h.below hb
  clear h
  go_enter Try.func103, Try.ntmps103
  go_wp2_with fail
  refine (part_n a _ (HW.out _ ((Below.refl _ w).alloc (Nat.le_refl _) _)) hg ha hX).mono ?_
  rintro e w1 ⟨rfl, b1⟩
  have c1 := (box_two_below b1).2
  have c0 := (box_two_below b1).1
  have B1 : Hid (Below w.heap.size w w1) := below_alloc_then b1
  have hl : w.heap.size < w1.heap.size := by have := b1.size; simp at this; omega
  clear b1
  go_wp2_with fail
  refine (part_n b w1 (HW.out _ B1.out) hg hb hY).mono ?_
  rintro e w2 ⟨rfl, b2⟩
  have c2 : w2.cell? ⟨w.heap.size, 0, none⟩ = some (.int .i64 (a : Int)) := (b2.cell (p := ⟨w.heap.size, 0, none⟩) hl).trans c0
  have B2 : Hid (Below w.heap.size w w2) := B1.out.trans (b2.mono B1.out.size)
  clear b2 c0 c1
  go_wp2_with fail
  refine (part_n a w2 (HW.out _ B2.out) hg ha hX).mono ?_
  rintro e w3 ⟨rfl, b3⟩
  have B3 : Hid (Below w.heap.size w w3) := B2.out.trans (b3.mono B2.out.size)
  clear b3
  go_wp2
  go_ret
  exact ⟨rfl, B3.out⟩

set_option maxHeartbeats 1000000 in
theorem across_none (a b X Y fr : Nat) (w : World) (h : BAt w p pw bw pt bt m N W T D) (hg : Good n T) (ha : a < n) (hb : b < n) (hX : T.getD a 0 = X) (hY : T.getD b 0 = Y) (h1 : fr ≠ X) (h2 : fr ≠ Y) :
    Calls Try.prog 103 #[.pointer (some ⟨p, 0, none⟩), .agg #[.int .i64 (a : Int), .int .i64 (b : Int)], .int .i64 (fr : Int)] w fun e w' => e = .returned (.int .i64 (-1)) ∧ Below w.heap.size w w' := by
  have HW : Hid (∀ w', Below w.heap.size w w' → BAt w' p pw bw pt bt m N W T D) := fun w' hb => h.below hb
  clear h
  go_enter Try.func103, Try.ntmps103
  go_wp2_with fail
  refine (part_n a _ (HW.out _ ((Below.refl _ w).alloc (Nat.le_refl _) _)) hg ha hX).mono ?_
  rintro e w1 ⟨rfl, b1⟩
  have c1 := (box_two_below b1).2
  have B1 : Hid (Below w.heap.size w w1) := below_alloc_then b1
  clear b1
  go_wp2_with fail
  refine (part_n b w1 (HW.out _ B1.out) hg hb hY).mono ?_
  rintro e w2 ⟨rfl, b2⟩
  have B2 : Hid (Below w.heap.size w w2) := B1.out.trans (b2.mono B1.out.size)
  clear b2 c1
  go_wp2
  go_ret
  exact ⟨rfl, B2.out⟩

theorem sortsA (k : Nat) : AnyZI.SortsIn Try.prog Try.sortedA_ren Fence.wide k :=
  ⟨fun blk off cap ss W hH hblk hsz => callsIn_wide.2 (AnyM.slices_Sort_int Try.sortA blk off cap ss W hH hblk hsz),
   fun p cap W => callsIn_wide.2 (AnyM.slices_Sort_int_none Try.sortA p cap W)⟩

set_option maxHeartbeats 1000000 in
theorem ids_row (w : World) (h : BAt w p pw bw pt bt m N W T D) (hN : N ≤ 1000) :
    Calls Try.prog 22 #[.pointer (some ⟨p, 0, none⟩)] w fun e w' => ∃ (v : Value) (ss : List Int), e = .returned v ∧ ss.Perm (intKeys D) ∧
      w'.ownsRow w.heap.size 3 1 v ss.length ((ss.mergeSort (fun x y => decide (x ≤ y))).map encZ) ∧ (v = .slice none 0 0 ↔ ss = []) ∧ Below w.heap.size w w' := by
  refine (callsIn_wide (n := 6)).1 ?_
  have hc := h.c2
  have hown := h.hm
  have hmax : Maps.size D ≤ maxLen := Nat.le_trans hown.size_le (by unfold maxLen; omega)
  have hbytes : Maps.size D * 8 ≤ 140737488355328 := by have := hown.size_le; omega
  clear h
  have hbl := hown.lt
  have hseq : SeqGives Fence.wide 2 Try.prog 77 #[.pointer (some ⟨w.heap.size, 0, none⟩)] encZ (fun ss => ss.Perm (intKeys D)) (Maps.size D) (w.alloc (.cells #[.map (some m)] 87)) :=
    AnyZI.keys_gives (ρ := Try.keysA_ren) { Try.keysA with } Fence.wide _ trivial rfl (by omega) w.heap.size m N D _ (by simp) (by simp) (by
      obtain ⟨es, clock, hb, Ft, hs, hD⟩ := hown
      exact ⟨es, clock, (Below.heap_alloc _ _ m hbl).trans hb, Ft, hs, hD⟩)
  have cK : ∀ mb W, CallsIn Fence.wide 5 Try.prog 50 #[.map mb] W fun e w' => e = .returned (.func (.func 77) #[] #[.pointer (some ⟨W.heap.size, 0, none⟩)]) ∧ w' = W.alloc (.cells #[.map mb] 87) := fun mb W => AnyZI.keys_in Try.keysA Fence.wide 5 trivial rfl mb W
  have cS := AnyZI.sorted_in Try.sortedA Fence.wide 5 trivial trivial trivial trivial rfl (by omega) (sortsA _) (enters_of Try.func76 (by kernel_rfl) rfl) 77 #[.pointer (some ⟨w.heap.size, 0, none⟩)] trivial (enters_of Try.func77 (by kernel_rfl) rfl) _ _ hmax hbytes _ hseq
  change CallsIn _ _ Try.prog 49 _ _ _ at cS
  have hfK : Fence.wide.fn 50 := trivial
  have hfS : Fence.wide.fn 49 := trivial
  clear hown hseq hmax hbytes hbl
  refine callsIn_of_wp Try.func22 rfl trivial ?_ rfl
  simp only [Try.ntmps22, List.size_toArray, List.length_cons, List.length_nil, Nat.reduceAdd, Nat.reduceSub, Array.replicate_succ, Array.replicate_zero, List.push_toArray, List.append_toArray, List.nil_append, List.cons_append]
  gi_wp2_with (first
    | (gi_at_call 50; refine (cK _ _).mono ?_; rintro e w' ⟨rfl, rfl⟩)
    | (gi_at_call 49; refine cS.mono ?_; rintro e w' ⟨v, ss, rfl, hS, hrow, hnil, hb⟩))
  go_ret
  exact ⟨v, ss, rfl, hS, ownsRow_base_a hrow (by simp), hnil, ((Below.refl _ w).alloc (Nat.le_refl _) _).trans (hb.mono (by simp))⟩

end Go.Proofs.Ytpkdpddillebfaa.S
