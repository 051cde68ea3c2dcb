/- The three closures that those is called with. -/
import Derived.Test.YtmbkicdahalakaaDoorT
namespace Go.Proofs.YtmbkicdahalakaaDoor
open Go.RowKit

theorem below_box (w : World) (o : Obj) : Below w.heap.size w (w.alloc o) := (Below.refl _ _).alloc (Nat.le_refl _) _

set_option maxHeartbeats 400000 in
theorem ed1_any (x0 x1 x2 : Int) (w : World) :
    Calls Tryd.prog 47 #[.agg #[.int .i64 x0, .int .i64 x1, .int .i64 x2]] w fun e w' => e = .returned (.bool true) ∧ Below w.heap.size w w' := by
  go_enter Tryd.func47, Tryd.ntmps47
  go_wp2
  go_ret
  exact ⟨rfl, below_box _ _⟩

set_option maxHeartbeats 400000 in
theorem at1_any (x0 x1 x2 y : Int) (xb : Nat) (ok : Bool) (w : World) (hc : w.cell? ⟨xb, 0, none⟩ = some (.int .i64 y)) (hok : (x1 == y || x2 == y) = ok) :
    Calls Tryd.prog 44 #[.agg #[.int .i64 x0, .int .i64 x1, .int .i64 x2], .pointer (some ⟨xb, 0, none⟩)] w fun e w' => e = .returned (.bool ok) ∧ Below w.heap.size w w' := by
  have hlt : xb < w.heap.size := lt_of_cell hc
  by_cases h1 : x1 = y
  · have HO : Hid (ok = true) := by
      show ok = true
      rw [← hok, h1]; simp
    clear hok
    subst h1
    go_enter Tryd.func44, Tryd.ntmps44
    go_wp2
    go_ret
    exact ⟨by rw [HO.out]; rfl, below_box _ _⟩
  · have h1b : (x1 == y) = false := beq_eq_false_iff_ne.2 h1
    by_cases h2 : x2 = y
    · have HO : Hid (ok = true) := by
        show ok = true
        rw [← hok, h2]; simp
      clear hok h1
      subst h2
      go_enter Tryd.func44, Tryd.ntmps44
      go_wp2
      go_ret
      exact ⟨by rw [HO.out]; rfl, below_box _ _⟩
    · have h2b : (x2 == y) = false := beq_eq_false_iff_ne.2 h2
      have HO : Hid (ok = false) := by
        show ok = false
        rw [← hok, h1b, h2b]; rfl
      clear hok h1 h2
      go_enter Tryd.func44, Tryd.ntmps44
      go_wp2
      go_ret
      exact ⟨by rw [HO.out]; rfl, below_box _ _⟩

set_option maxHeartbeats 1000000 in
set_option maxRecDepth 100000 in
theorem wo1_any (x0 x1 x2 : Int) (eb nb : Nat) (ae an : Option Addr) (me mn ce cn : Nat) (Fe Fn : Nat → Int) (ok : Bool) (w : World) (he : w.cell? ⟨eb, 0, none⟩ = some (.slice ae me ce)) (hn : w.cell? ⟨nb, 0, none⟩ = some (.slice an mn cn))
    (hie : Ints w ae me Fe) (hin : Ints w an mn Fn) (hme : me ≤ 1000) (hmn : mn ≤ 1000) (hok : (!among Fe me x0 && !among Fn mn x1 && !among Fn mn x2) = ok) :
    Calls Tryd.prog 45 #[.agg #[.int .i64 x0, .int .i64 x1, .int .i64 x2], .pointer (some ⟨eb, 0, none⟩), .pointer (some ⟨nb, 0, none⟩)] w fun e w' => e = .returned (.bool ok) ∧ Below w.heap.size w w' := by
  have hlt : eb < w.heap.size := lt_of_cell he
  have hlt2 : nb < w.heap.size := lt_of_cell hn
  have HE : Hid (∀ o, Ints (w.alloc o) ae me Fe) := fun o => hie.below (below_box w o)
  have HN : Hid (∀ o, Ints (w.alloc o) an mn Fn) := fun o => hin.below (below_box w o)
  clear hie hin
  cases hc1 : among Fe me x0 with
  | true =>
    have HC1 : Hid (among Fe me x0 = true) := hc1
    have HO : Hid (ok = false) := by
      show ok = false
      rw [← hok, hc1]; rfl
    clear hok hc1
    go_enter Tryd.func45, Tryd.ntmps45
    go_wp2_with fail
    refine (contains_any ae me ce Fe x0 true _ (HE.out _) hme HC1.out).mono ?_
    rintro e w1 ⟨rfl, rfl⟩
    go_wp2_with fail
    go_ret
    exact ⟨by rw [HO.out]; rfl, below_box _ _⟩
  | false =>
    have HC1 : Hid (among Fe me x0 = false) := hc1
    rw [hc1] at hok
    clear hc1
    cases hc2 : among Fn mn x1 with
    | true =>
      have HC2 : Hid (among Fn mn x1 = true) := hc2
      have HO : Hid (ok = false) := by
        show ok = false
        rw [← hok, hc2]; rfl
      clear hok hc2
      go_enter Tryd.func45, Tryd.ntmps45
      go_wp2_with fail
      refine (contains_any ae me ce Fe x0 false _ (HE.out _) hme HC1.out).mono ?_
      rintro e w1 ⟨rfl, rfl⟩
      go_wp2_with fail
      refine (contains_any an mn cn Fn x1 true _ (HN.out _) hmn HC2.out).mono ?_
      rintro e w1 ⟨rfl, rfl⟩
      go_wp2_with fail
      go_ret
      exact ⟨by rw [HO.out]; rfl, below_box _ _⟩
    | false =>
      have HC2 : Hid (among Fn mn x1 = false) := hc2
      rw [hc2] at hok
      clear hc2
      have HC3 : Hid (among Fn mn x2 = !ok) := by
        show among Fn mn x2 = !ok
        rw [← hok]; simp
      clear hok
      go_enter Tryd.func45, Tryd.ntmps45
      go_wp2_with fail
      refine (contains_any ae me ce Fe x0 false _ (HE.out _) hme HC1.out).mono ?_
      rintro e w1 ⟨rfl, rfl⟩
      go_wp2_with fail
      refine (contains_any an mn cn Fn x1 false _ (HN.out _) hmn HC2.out).mono ?_
      rintro e w1 ⟨rfl, rfl⟩
      go_wp2_with fail
      refine (contains_any an mn cn Fn x2 (!ok) _ (HN.out _) hmn HC3.out).mono ?_
      rintro e w1 ⟨rfl, rfl⟩
      cases ok
      · go_wp2_with fail
        go_ret
        exact ⟨rfl, below_box _ _⟩
      · go_wp2_with fail
        go_ret
        exact ⟨rfl, below_box _ _⟩

/-- One edge is appended to a row. -/
theorem app_one (ty : TypeId) (W : World) (B : Nat) (u : Value) (M : List E) (x0 x1 x2 : Int) (h : Owns W B 59 u M) (hB : B ≤ W.heap.size) (hl : M.length ≤ 1000) :
    ∃ v' w', (Builtin.append_ #[49, 49] ty #[u, .slice (some ⟨W.heap.size, 0, none⟩) 1 1]).run Tryd.prog (W.alloc (.cells #[.int .i64 x0, .int .i64 x1, .int .i64 x2] 59)) = .ok v' w' ∧ Owns w' B 59 v' (M ++ [(x0, x1, x2)]) ∧ Below B W w' ∧ Fresh W u v' ∧ W.grownBy w' u.ownBlock := by
  have h' : Owns (W.alloc (.cells #[.int .i64 x0, .int .i64 x1, .int .i64 x2] 59)) B 59 u M := h.below (below_box W _)
  obtain ⟨v', w', h1, h2, h3, h4⟩ := append_E ty _ B u M [(x0, x1, x2)] h' (Nat.le_trans hB (by simp)) ⟨W.heap.size, 0, none⟩ 1 1 rfl (cells_of_block (heap_alloc_new W _)) (by simp; omega)
  have hg : W.grownBy w' u.ownBlock := by
    have hb := below_box W (.cells #[.int .i64 x0, .int .i64 x1, .int .i64 x2] 59)
    exact ⟨h3.os.trans hb.os, h3.tape.trans hb.tape, h3.output.trans hb.output, Nat.le_trans hb.size h3.size, fun k hk hn => (h3.block k (Nat.lt_of_lt_of_le hk hb.size) hn).trans (hb.block k hk)⟩
  refine ⟨v', w', h1, h2, ⟨hg.os, hg.tape, hg.output, hg.size, fun k hk => hg.block k (by omega) (fun e => ?_)⟩, fun k hk => ?_, hg⟩
  · have := (World.ownsRow.lt h k e.symm).1
    omega
  · rcases h4 k hk with h5 | h5
    · exact Or.inl h5
    · exact Or.inr (Nat.le_trans (by simp) h5)

end Go.Proofs.YtmbkicdahalakaaDoor
