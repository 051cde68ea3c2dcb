/- The contracts of a graph's Edges, At and Without. -/
import Derived.Test.YtmbkicdahalakaaDoorV
import Derived.Deep.RegionHeld
namespace Go.Proofs.YtmbkicdahalakaaDoor
open Go.RowKit

set_option maxHeartbeats 400000 in
theorem edges_any (n : Int) (B p : Nat) (v : Value) (L : List E) (w : World) (h : GAt w B 81 59 p n v L) (hl : L.length ≤ 120) :
    Calls Tryd.prog 27 #[.pointer (some ⟨p, 0, none⟩)] w fun e w' => ∃ u, e = .returned u ∧ Owns w' w.heap.size 59 u L ∧ Below w.heap.size w w' := by
  have HC : Hid (Calls Tryd.prog 43 #[.pointer (some ⟨p, 0, none⟩), .func (.func 47) #[] #[]] w fun e w' => ∃ u, e = .returned u ∧ Owns w' w.heap.size 59 u L ∧ Below w.heap.size w w') := by
    have := those_ed (fun _ => true) n B p v L w h hl (fun W x0 x1 x2 _ => ed1_any x0 x1 x2 W)
    have e : L.filter (fun _ => true) = L := by simp
    rw [e] at this
    exact this
  clear h
  go_enter Tryd.func27, Tryd.ntmps27
  go_wp2_with fail
  refine HC.out.mono ?_
  rintro e w1 ⟨u, rfl, ho, hb⟩
  have HR : Hid (Owns w1 w.heap.size 59 u L ∧ Below w.heap.size w w1) := ⟨ho, hb⟩
  clear ho hb HC
  go_wp2_with fail
  go_ret
  exact ⟨_, rfl, HR.out⟩

set_option maxHeartbeats 400000 in
theorem at_out (x n : Int) (B p : Nat) (v : Value) (L : List E) (w : World) (h : GAt w B 81 59 p n v L) (hx : ¬ (0 ≤ x ∧ x < n)) :
    Calls Tryd.prog 23 #[.pointer (some ⟨p, 0, none⟩), .int .i64 x] w fun e w' => e = .returned (.tuple #[.slice none 0 0, .iface 29 (.int .i64 2)]) ∧ Below w.heap.size w w' := by
  have HC : Hid (Calls Tryd.prog 38 #[.pointer (some ⟨p, 0, none⟩), .int .i64 x] (w.alloc (.cells #[.int .i64 x] 3)) fun e w' => e = .returned (.bool false) ∧ w' = w.alloc (.cells #[.int .i64 x] 3)) := has_f x n B p v L _ (h.below (below_box w _)) hx
  clear h hx
  go_enter Tryd.func23, Tryd.ntmps23
  go_wp2_with fail
  refine HC.out.mono ?_
  rintro e w1 ⟨rfl, hw⟩
  have HB : Hid (Below w.heap.size w w1) := by
    show Below w.heap.size w w1
    rw [hw]; exact below_box w _
  clear hw HC
  go_wp2_with fail
  go_ret2
  exact ⟨rfl, HB.out⟩

/-- The edges of a node. -/
def ofNode (x : Int) : E → Bool := fun e => e.2.1 == x || e.2.2 == x

set_option maxHeartbeats 400000 in
theorem at_in (x n : Int) (B p : Nat) (v : Value) (L : List E) (w : World) (h : GAt w B 81 59 p n v L) (hl : L.length ≤ 120) (hx : 0 ≤ x ∧ x < n) :
    Calls Tryd.prog 23 #[.pointer (some ⟨p, 0, none⟩), .int .i64 x] w fun e w' => ∃ u, e = .returned (.tuple #[u, .nilIface]) ∧ Owns w' w.heap.size 59 u (L.filter (ofNode x)) ∧ Below w.heap.size w w' := by
  have hb0 := below_box w (.cells #[.int .i64 x] 3)
  have HC : Hid (Calls Tryd.prog 38 #[.pointer (some ⟨p, 0, none⟩), .int .i64 x] (w.alloc (.cells #[.int .i64 x] 3)) fun e w' => e = .returned (.bool true) ∧ w' = w.alloc (.cells #[.int .i64 x] 3)) := has_t x n B p v L _ (h.below hb0) hx
  have HD : Hid (Calls Tryd.prog 43 #[.pointer (some ⟨p, 0, none⟩), .func (.func 44) #[] #[.pointer (some ⟨w.heap.size, 0, none⟩)]] (w.alloc (.cells #[.int .i64 x] 3)) fun e w' => ∃ u, e = .returned u ∧ Owns w' w.heap.size 59 u (L.filter (ofNode x)) ∧ Below w.heap.size w w') := by
    have hc : (w.alloc (.cells #[.int .i64 x] 3)).cell? ⟨w.heap.size, 0, none⟩ = some (.int .i64 x) := by rw [World.cell?_alloc_at _ _ _ _ rfl]; rfl
    have := those_at (ofNode x) n B p w.heap.size v L _ (h.below hb0) hl (fun W x0 x1 x2 hb => at1_any x0 x1 x2 x w.heap.size _ W ((hb.cell (p := ⟨w.heap.size, 0, none⟩) (by simp)).trans hc) rfl)
    refine this.mono ?_
    rintro e w' ⟨u, he, ho, hb⟩
    exact ⟨u, he, ho.mono (by simp), hb0.trans (hb.mono (by simp))⟩
  clear h hx hb0
  go_enter Tryd.func23, Tryd.ntmps23
  go_wp2_with fail
  refine HC.out.mono ?_
  rintro e w1 ⟨rfl, hw⟩
  have HW : Hid (w1 = w.alloc (.cells #[.int .i64 x] 3)) := hw
  clear hw HC
  go_wp2_with fail
  rw [HW.out]
  refine HD.out.mono ?_
  rintro e w2 ⟨u, rfl, ho, hb⟩
  have HR : Hid (Owns w2 w.heap.size 59 u (L.filter (ofNode x)) ∧ Below w.heap.size w w2) := ⟨ho, hb⟩
  clear ho hb HD HW
  go_wp2_with fail
  go_ret2
  exact ⟨_, rfl, HR.out⟩

/-- The edges that stay. -/
def stays (Fe Fn : Nat → Int) (me mn : Nat) : E → Bool := fun e => !among Fe me e.1 && !among Fn mn e.2.1 && !among Fn mn e.2.2

set_option maxHeartbeats 2000000 in
set_option maxRecDepth 100000 in
theorem without_any (n : Int) (B p : Nat) (v : Value) (L : List E) (ae an : Option Addr) (me mn ce cn : Nat) (Fe Fn : Nat → Int) (w : World) (h : GAt w B 81 59 p n v L) (hl : L.length ≤ 120) (hie : Ints w ae me Fe) (hin : Ints w an mn Fn) (hme : me ≤ 1000) (hmn : mn ≤ 1000) :
    Calls Tryd.prog 25 #[.pointer (some ⟨p, 0, none⟩), .slice ae me ce, .slice an mn cn] w fun e w' => ∃ p' v', e = .returned (.pointer (some ⟨p', 0, none⟩)) ∧ GAt w' w.heap.size 81 59 p' n v' (L.filter (stays Fe Fn me mn)) ∧ Below w.heap.size w w' := by
  obtain ⟨W0, hW0⟩ : ∃ W0, W0 = (w.alloc (.cells #[.slice ae me ce] 30)).alloc (.cells #[.slice an mn cn] 30) := ⟨_, rfl⟩
  have hb0 : Below w.heap.size w W0 := by rw [hW0]; exact ((Below.refl _ _).alloc (Nat.le_refl _) _).alloc (by simp) _
  have hs0 : W0.heap.size = w.heap.size + 1 + 1 := by rw [hW0]; simp
  have he0 : W0.cell? ⟨w.heap.size, 0, none⟩ = some (.slice ae me ce) := by
    rw [hW0, World.cell?_alloc_lt _ _ ⟨w.heap.size, 0, none⟩ (by simp), World.cell?_alloc_at _ _ _ _ rfl]; rfl
  have hn0 : W0.cell? ⟨w.heap.size + 1, 0, none⟩ = some (.slice an mn cn) := by
    rw [hW0, World.cell?_alloc_at _ _ _ _ (by simp)]; rfl
  have hg0 := h.below hb0
  have hc0 := hg0.c0
  have HD : Hid (Calls Tryd.prog 43 #[.pointer (some ⟨p, 0, none⟩), .func (.func 45) #[] #[.pointer (some ⟨w.heap.size, 0, none⟩), .pointer (some ⟨w.heap.size + 1, 0, none⟩)]] W0.drew fun e w' => ∃ a m c, e = .returned (.slice a m c) ∧ w'.cell? ⟨p, 0, none⟩ = some (.int .i64 n) ∧ Hid (Owns w' w.heap.size 59 (.slice a m c) (L.filter (stays Fe Fn me mn)) ∧ Below w.heap.size w w')) := by
    have hbd : Below W0.heap.size W0 W0.drew := ⟨rfl, rfl, rfl, Nat.le_refl _, fun _ _ => rfl⟩
    have hbd2 : Below w.heap.size w W0.drew := hb0.trans (hbd.mono hb0.size)
    have := those_wo (stays Fe Fn me mn) n B p w.heap.size (w.heap.size + 1) v L W0.drew (hg0.below hbd) hl (fun W x0 x1 x2 hb => by
      have hbW : Below w.heap.size w W := hbd2.trans (hb.mono (by show w.heap.size ≤ W0.heap.size; omega))
      exact wo1_any x0 x1 x2 w.heap.size (w.heap.size + 1) ae an me mn ce cn Fe Fn _ W ((hb.cell (p := ⟨w.heap.size, 0, none⟩) (by show w.heap.size < W0.heap.size; omega)).trans he0) ((hb.cell (p := ⟨w.heap.size + 1, 0, none⟩) (by show w.heap.size + 1 < W0.heap.size; omega)).trans hn0) (hie.below hbW) (hin.below hbW) hme hmn rfl)
    refine this.mono ?_
    rintro e w' ⟨u, he, ho, hb⟩
    obtain ⟨a, m, c, rfl⟩ := ho.slice
    exact ⟨a, m, c, he, (hb.cell (p := ⟨p, 0, none⟩) (hg0.below hbd).plt).trans hc0, ho.mono (by show w.heap.size ≤ W0.heap.size; omega), hbd2.trans (hb.mono (by show w.heap.size ≤ W0.heap.size; omega))⟩
  have HW0 : Hid (W0 = (w.alloc (.cells #[.slice ae me ce] 30)).alloc (.cells #[.slice an mn cn] 30)) := hW0
  have hplt := h.plt
  clear hW0 hb0 hs0 he0 hn0 hg0 h hie hin
  go_enter Tryd.func25, Tryd.ntmps25
  go_wp2_with fail
  rw [← HW0.out]
  go_region_held (fun w' => w'.cell? ⟨p, 0, none⟩ = some (.int .i64 n)) (go_keep) (first | (go_at_call 43; refine HD.out.mono ?_; rintro e w2 ⟨a', m', c', rfl, hq, hr⟩))
  all_goals
    go_wp2_with fail
    go_ret
    refine ⟨_, _, rfl, ⟨heap_alloc_new _ _, hr.out.1.below (below_box _ _), ?_⟩, hr.out.2.trans ((below_box _ _).mono hr.out.2.size)⟩
    intro e
    have := (World.ownsRow.lt hr.out.1 _ e).2
    omega

end Go.Proofs.YtmbkicdahalakaaDoor
