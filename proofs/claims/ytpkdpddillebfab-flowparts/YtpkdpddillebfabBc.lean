/- The contracts of package bridge's New, Whole, Twice, Wholes, Parts, part. -/
import Derived.Test.YtpkdpddillebfabBb
namespace Go.Proofs.Ytpkdpddillebfab.S
open Go.RowKit Go.WideMaps Go.Maps
variable {p pw bw pt bt m N n : Nat} {W T : List Nat} {D : DataW Unit}

theorem heap_allocs (w : World) (o1 o2 : Obj) : ((w.alloc o1).alloc o2).heap[w.heap.size + 1]? = some o2 := by
  have := heap_alloc_new (w.alloc o1) o2
  rwa [World.size_alloc] at this

theorem bnew_at {w w1 w2 : World} {n : Nat} (h1 : SetsAt w1 (w.heap.size + 1) w.heap.size (List.range n)) (h2 : SetsAt w2 (w1.heap.size + 1) w1.heap.size (List.range n)) (b2 : Below w1.heap.size w1 w2) :
    BAt ((w2.alloc (.map #[] 0)).alloc (.cells #[.pointer (some ⟨w.heap.size + 1, 0, none⟩), .pointer (some ⟨w1.heap.size + 1, 0, none⟩), .map (some w2.heap.size)] 84)) (w2.heap.size + 1) (w.heap.size + 1) w.heap.size (w1.heap.size + 1) w1.heap.size w2.heap.size 0 (List.range n) (List.range n) (.map []) := by
  have hb : Below w2.heap.size w2 ((w2.alloc (.map #[] 0)).alloc (.cells #[.pointer (some ⟨w.heap.size + 1, 0, none⟩), .pointer (some ⟨w1.heap.size + 1, 0, none⟩), .map (some w2.heap.size)] 84)) := below_two _ _ _
  have s1 : w1.heap.size ≤ w2.heap.size := b2.size
  have l1 := h1.plt
  have l2 := h2.plt
  refine ⟨heap_allocs _ _ _, ?_, ?_, ?_, by omega, by omega⟩
  · exact (h1.below b2 h1.plt h1.blt).below hb (by omega) (by omega)
  · exact h2.below hb (by omega) (by omega)
  · exact (World.ownsMap_made w2 Try.prog 3 pairR).alloc _

set_option maxHeartbeats 1000000 in
theorem bnew_in (n : Nat) (w : World) (hn : n ≤ 40) :
    Calls Try.prog 32 #[.int .i64 (n : Int)] w fun e w' => ∃ p pw bw pt bt m, e = .returned (.tuple #[.pointer (some ⟨p, 0, none⟩), .nilIface]) ∧ BAt w' p pw bw pt bt m 0 (List.range n) (List.range n) (.map []) ∧ Below w.heap.size w w' ∧ w.heap.size ≤ p ∧ w.heap.size ≤ bw ∧ w.heap.size ≤ bt ∧ w.heap.size ≤ m := by
  have hmm := @run_makeMap Try.prog
  go_enter Try.func32, Try.ntmps32
  go_wp2_with fail
  refine (new_in n w hn).mono ?_
  rintro e w1 ⟨rfl, h1, b1⟩
  have H1 : Hid (SetsAt w1 (w.heap.size + 1) w.heap.size (List.range n)) := h1
  have B1 : Hid (Below w.heap.size w w1) := b1
  clear h1 b1
  go_wp2_with fail
  refine (new_in n w1 hn).mono ?_
  rintro e w2 ⟨rfl, h2, b2⟩
  have H2 : Hid (SetsAt w2 (w1.heap.size + 1) w1.heap.size (List.range n)) := h2
  have B2 : Hid (Below w1.heap.size w1 w2) := b2
  clear h2 b2
  go_wp2
  go_ret2
  have hh := bnew_at H1.out H2.out B2.out
  have hs1 := B1.out.size
  have hs2 := B2.out.size
  refine ⟨_, _, _, _, _, _, rfl, hh, ?_, by omega, by omega, by omega, by omega⟩
  exact (B1.out.trans (B2.out.mono hs1)).trans ((below_two _ _ _).mono (by omega))

set_option maxHeartbeats 400000 in
theorem whole_in (x y : Nat) (s : Bool) (w : World) (h : BAt w p pw bw pt bt m N W T D) (hx : x < W.length) (hy : y < W.length) (hv : (((W.getD x 0 : Nat) : Int) == ((W.getD y 0 : Nat) : Int)) = s) :
    Calls Try.prog 17 #[.pointer (some ⟨p, 0, none⟩), .int .i64 (x : Int), .int .i64 (y : Int)] w fun e w' => e = .returned (.tuple #[.bool s, .nilIface]) ∧ Below w.heap.size w w' := by
  have hc := h.c0
  go_enter Try.func17, Try.ntmps17
  go_wp2_with fail
  refine (same_in x y pw bw W s w h.sw hx hy hv).mono ?_
  rintro e w1 ⟨rfl, b1⟩
  have B1 : Hid (Below w.heap.size w w1) := b1
  clear b1 h hc hv
  go_wp2
  go_ret2
  exact ⟨rfl, B1.out⟩

set_option maxHeartbeats 400000 in
theorem part_n {X : Nat} (x : Nat) (w : World) (h : BAt w p pw bw pt bt m N W T D) (hg : Good n T) (hx : x < n) (hX : T.getD x 0 = X) :
    Calls Try.prog 74 #[.pointer (some ⟨p, 0, none⟩), .int .i64 (x : Int)] w fun e w' => e = .returned (.int .i64 (X : Int)) ∧ Below w.heap.size w w' := by
  have hc := h.c1
  go_enter Try.func74, Try.ntmps74
  go_wp2_with fail
  refine (least_n x pt bt T w h.st hg hx hX).mono ?_
  rintro e w1 ⟨rfl, b1⟩
  have B1 : Hid (Below w.heap.size w w1) := b1
  clear b1 h hc hX
  go_wp2
  go_ret
  exact ⟨rfl, B1.out⟩

end Go.Proofs.Ytpkdpddillebfab.S
