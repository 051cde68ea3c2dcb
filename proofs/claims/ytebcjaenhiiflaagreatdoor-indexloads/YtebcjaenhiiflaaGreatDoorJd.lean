/- A new index. -/
import Derived.Test.YtebcjaenhiiflaaGreatDoorJc
namespace Go.Proofs.YtebcjaenhiiflaaGreatDoor.I
open Go.RowKit Go.WideMaps Go.Maps Go.Lib

theorem gnew_out (n : Int) (w : World) (h : n < 0 ∨ 40 < n) :
    Calls Tryz.prog 53 #[.int .i64 n] w fun e w' => e = .returned (.tuple #[.pointer none, .iface 23 (.int .i64 2)]) ∧ w' = w := by
  by_cases h0 : n < 0
  · have hd : decide (n < 0) = true := decide_eq_true h0
    go_enter Tryz.func53, Tryz.ntmps53
    go_wp2_with fail
    go_ret2
    exact ⟨rfl, rfl⟩
  · have h1 : 40 < n := by omega
    have hd : decide (n < 0) = false := decide_eq_false h0
    have hd1 : decide (40 < n) = true := decide_eq_true h1
    go_enter Tryz.func53, Tryz.ntmps53
    go_wp2_with fail
    go_ret2
    exact ⟨rfl, rfl⟩

theorem inew_out (n : Int) (w : World) (h : n < 0 ∨ 40 < n) :
    Calls Tryz.prog 17 #[.int .i64 n] w fun e w' => e = .returned (.tuple #[.pointer none, .iface 23 (.int .i64 2)]) ∧ w' = w := by
  have HN : Hid _ := gnew_out n w h
  clear h
  go_enter Tryz.func17, Tryz.ntmps17
  go_wp2_with (go_at_call 53; refine Calls.mono HN.out ?_; rintro e w1 ⟨rfl, hw1⟩; subst w1)
  go_ret2
  exact ⟨rfl, rfl⟩

/-- What New leaves. -/
def InewPost (w : World) (n : Nat) (e : Ending) (w' : World) : Prop :=
  ∃ x p q v B W T D pw bw pt bt mp N, e = .returned (.tuple #[.pointer (some ⟨x, 0, none⟩), .nilIface]) ∧ IAt w w' x p q n v [] [] B W T D pw bw pt bt mp N

set_option maxHeartbeats 1000000 in
set_option maxRecDepth 100000 in
theorem inew_in (n : Nat) (w : World) (h : n ≤ 40) : Calls Tryz.prog 17 #[.int .i64 (n : Int)] w (InewPost w n) := by
  have HN : Hid _ := G.new_in (n : Int) w (by omega) (by omega)
  have HL : Hid (n ≤ 40) := h
  clear h
  go_enter Tryz.func17, Tryz.ntmps17
  go_wp2_with (go_at_call 53; refine Calls.mono HN.out ?_; rintro e w1 ⟨rfl, hw1'⟩; have HW1 : Hid (w1 = w.alloc (.cells #[.int .i64 (n : Int), .slice none 0 0] 168)) := hw1'; clear hw1')
  have hw1 := HW1.out
  have hg : G.GAt w1 w.heap.size 168 61 w.heap.size (n : Int) (.slice none 0 0) [] := by
    rw [hw1]
    exact ⟨World.alloc_heap_new w _, World.ownsRow_nil _ _ _ _, by simp [Value.ownBlock]⟩
  have hb1 : Below w.heap.size w w1 := by rw [hw1]; exact (Below.refl _ _).alloc (Nat.le_refl _) _
  have HG : Hid (G.GAt w1 w.heap.size 168 61 w.heap.size (n : Int) (.slice none 0 0) []) := hg
  have HB1 : Hid (Below w.heap.size w w1) := hb1
  have HO : Hid _ := S.of_gen n w.heap.size w.heap.size (.slice none 0 0) [] w1 hg (Ok.nil HL.out)
  clear hg hb1 hw1 HN HW1
  refine Calls.mono HO.out ?_
  rintro e w2 ⟨q, pw, bw, pt, bt, mp, B, W, T, D, N, rfl, hr⟩
  have HR : Hid (S.Rn w1 w2 q pw bw pt bt mp n [] B W T D N) := hr
  clear hr HO
  go_wp2_with fail
  go_ret2
  have hb := HB1.out.size
  refine ⟨w2.heap.size, w.heap.size, q, .slice none 0 0, B, W, T, D, pw, bw, pt, bt, mp, N, rfl, ?_⟩
  have hb2 : Below w2.heap.size w2 (w2.alloc (.cells #[.pointer (some ⟨w.heap.size, 0, none⟩), .pointer (some ⟨q, 0, none⟩)] 85)) := (Below.refl _ _).alloc (Nat.le_refl _) _
  have hr2 := HR.out.below' hb2
  refine ⟨World.alloc_heap_new w2 _, (HG.out.below HR.out.below).below hb2, { hr2 with below := HB1.out.trans (hr2.below.mono hb), hb := ⟨by have := HR.out.hb; omega, by have := HR.out.hb; omega, by have := HR.out.hb; omega⟩ }, Ok.nil HL.out, List.Perm.refl _, Nat.le_trans hb HR.out.below.size, Nat.le_refl _⟩

end Go.Proofs.YtebcjaenhiiflaaGreatDoor.I
