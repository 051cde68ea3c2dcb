/- What one round of the law asks. -/
import Derived.Test.YtmbkicdahalakaaDoorZa
import Derived.Test.YtmbkicdahalakaaDoorYd
namespace Go.Proofs.YtmbkicdahalakaaDoor
open Go.RowKit

/-- The edge of that number, or none. -/
def seenE (L : List E) (id : Int) : E := (seen L id).getD (0, 0, 0)

theorem pedge {w0 w : World} {p q : Nat} {n : Int} {v u : Value} {R L : List E} {xb : Nat} {cs : Array Value} (h : Rnd w0 w p q n v u R L xb cs) (hi : Inv R L) (id y0 y1 y2 c : Int) (hy : seenE L id = (y0, y1, y2)) (hc : dropC L id = c) :
    Calls Tryd.prog 21 #[.pointer (some ⟨p, 0, none⟩), .int .i64 id] w fun e w' => ∃ er, e = .returned (.tuple #[.agg #[.int .i64 y0, .int .i64 y1, .int .i64 y2], er]) ∧ er = errV c ∧ Below w.heap.size w w' := by
  rcases place_hit hi.up id with ⟨x, h1, h2, h3⟩ | ⟨_, _, h3⟩
  · have e : x = (y0, y1, y2) := by rw [← hy]; simp [seenE, h3]
    subst e
    have ec : c = 0 := by rw [← hc]; simp [dropC, h3]
    refine (edge_hit id n y0 y1 y2 w0.heap.size p (place L id) v L w h.two.ga hi.up hi.len rfl h1 h3).mono ?_
    rintro e w' ⟨rfl, hb⟩
    exact ⟨_, rfl, by rw [ec]; rfl, hb⟩
  · have e : (0, 0, 0) = (y0, y1, y2) := by rw [← hy]; simp [seenE, h3]
    injection e with e0 e1
    injection e1 with e1 e2
    subst e0 e1 e2
    have ec : c = 7 := by rw [← hc]; simp [dropC, h3]
    refine (edge_miss id n w0.heap.size p v L w h.two.ga hi.up hi.len h3).mono ?_
    rintro e w' ⟨rfl, hb⟩
    exact ⟨_, rfl, by rw [ec]; rfl, hb⟩

theorem pat_in {w0 w : World} {p q : Nat} {n : Int} {v u : Value} {R L : List E} {xb : Nat} {cs : Array Value} (h : Rnd w0 w p q n v u R L xb cs) (hi : Inv R L) (a : Int) (ha : 0 ≤ a ∧ a < n) :
    Calls Tryd.prog 23 #[.pointer (some ⟨p, 0, none⟩), .int .i64 a] w fun e w' => ∃ g, e = .returned (.tuple #[g, .nilIface]) ∧ Owns w' w.heap.size 59 g (L.filter (ofNode a)) ∧ Below w.heap.size w w' := at_in a n w0.heap.size p v L w h.two.ga hi.len ha

theorem pat_out {w0 w : World} {p q : Nat} {n : Int} {v u : Value} {R L : List E} {xb : Nat} {cs : Array Value} (h : Rnd w0 w p q n v u R L xb cs) (a : Int) (ha : ¬ (0 ≤ a ∧ a < n)) :
    Calls Tryd.prog 23 #[.pointer (some ⟨p, 0, none⟩), .int .i64 a] w fun e w' => e = .returned (.tuple #[.slice none 0 0, .iface 29 (.int .i64 2)]) ∧ Below w.heap.size w w' := at_out a n w0.heap.size p v L w h.two.ga ha

theorem seen_take {L : List E} {k : Nat} {x : E} (id : Int) (h : L[k]? = some x) : seen (L.take (k + 1)) id = if x.1 = id then some x else seen (L.take k) id := by
  obtain ⟨hlt, he⟩ := List.getElem?_eq_some_iff.1 h
  rw [List.take_succ_eq_append_getElem hlt, he, seen_snoc]

theorem seenE_hit {L : List E} {k : Nat} {x : E} (id : Int) (h : L[k]? = some x) (hx : x.1 = id) : seenE (L.take (k + 1)) id = x ∧ dropC (L.take (k + 1)) id = 0 := by
  simp [seenE, dropC, seen_take id h, hx]
theorem seenE_miss {L : List E} {k : Nat} {x : E} (id : Int) (h : L[k]? = some x) (hx : x.1 ≠ id) : seenE (L.take (k + 1)) id = seenE (L.take k) id ∧ dropC (L.take (k + 1)) id = dropC (L.take k) id := by
  simp [seenE, dropC, seen_take id h, hx]

/-- The inner loop's memory. -/
structure Mid (wa wl wq : World) (wb : Nat) (sv s : Value) (L A : List E) (z : E) : Prop where
  hw : wq.heap[wb]? = some (.cells #[.int .i64 z.1, .int .i64 z.2.1, .int .i64 z.2.2] 59)
  hs : Owns wq (wb + 1) 59 sv L
  ha : Owns wq wl.heap.size 59 s A
  hb : Below wb wa wq
  hz : wl.heap.size ≤ wq.heap.size

theorem Mid.heap {wa wl wq wx : World} {wb : Nat} {sv s : Value} {L A : List E} {z : E} (h : Mid wa wl wq wb sv s L A z) (h1 : wx.heap = wq.heap) (h2 : wx.os = wq.os) (h3 : wx.tape = wq.tape) (h4 : wx.output = wq.output) : Mid wa wl wx wb sv s L A z := by
  have hb : Below wq.heap.size wq wx := ⟨h2, h3, h4, by rw [h1]; exact Nat.le_refl _, fun k _ => by rw [h1]⟩
  exact ⟨by rw [h1]; exact h.hw, h.hs.below hb, h.ha.below hb, ⟨h2.trans h.hb.os, h3.trans h.hb.tape, h4.trans h.hb.output, by rw [h1]; exact h.hb.size, fun k hk => by rw [h1]; exact h.hb.block k hk⟩, by rw [h1]; exact h.hz⟩

theorem Mid.store {wa wl wq wx : World} {wb : Nat} {sv s : Value} {L A : List E} {z : E} (h : Mid wa wl wq wb sv s L A z) (hwl : wb < wl.heap.size) (x : E) (h1 : wx.heap = (((wq.setCell ⟨wb, 0, none⟩ (.int .i64 x.1)).setCell ⟨wb, 1, none⟩ (.int .i64 x.2.1)).setCell ⟨wb, 2, none⟩ (.int .i64 x.2.2)).heap) (h2 : wx.os = wq.os) (h3 : wx.tape = wq.tape) (h4 : wx.output = wq.output) : Mid wa wl wx wb sv s L A x := by
  have hsz : wx.heap.size = wq.heap.size := by rw [h1]; simp
  have hother : ∀ k, k ≠ wb → wx.heap[k]? = wq.heap[k]? := fun k hk => by
    rw [h1, Below.heap_setCell _ _ _ _ hk, Below.heap_setCell _ _ _ _ hk, Below.heap_setCell _ _ _ _ hk]
  have hg : wq.grownBy wx (some wb) := ⟨h2, h3, h4, by rw [hsz]; exact Nat.le_refl _, fun k _ hk => hother k (fun e => hk (by rw [e]))⟩
  have hne : ∀ {B : Nat} {v : Value} {M : List E}, Owns wq B 59 v M → wb < B → v.ownBlock = none ∨ v.ownBlock ≠ some wb := by
    intro B v M ho hB
    refine Or.inr (fun e => ?_)
    have := (World.ownsRow.lt ho wb e).1
    omega
  refine ⟨?_, World.ownsRow.kept h.hs hg (hne h.hs (by omega)), World.ownsRow.kept h.ha hg (hne h.ha hwl), ⟨h2.trans h.hb.os, h3.trans h.hb.tape, h4.trans h.hb.output, by rw [hsz]; exact h.hb.size, fun k hk => by rw [hother k (by omega)]; exact h.hb.block k hk⟩, by rw [hsz]; exact h.hz⟩
  rw [h1]
  simp only [World.setCell, Array.getElem?_modify, h.hw]
  simp

theorem Mid.app {wa wl wq : World} {wb : Nat} {sv s : Value} {L A : List E} {z : E} (h : Mid wa wl wq wb sv s L A z) (hwl : wb < wl.heap.size) (hsv : ∀ k, sv.ownBlock = some k → k < wl.heap.size) (hl : A.length ≤ 1000) (ty : TypeId) (x0 x1 x2 : Int) :
    ∃ a m c w', (Builtin.append_ #[49, 49] ty #[s, .slice (some ⟨wq.heap.size, 0, none⟩) 1 1]).run Tryd.prog (wq.alloc (.cells #[.int .i64 x0, .int .i64 x1, .int .i64 x2] 59)) = .ok (.slice a m c) w' ∧ Mid wa wl w' wb sv (.slice a m c) L (A ++ [(x0, x1, x2)]) z := by
  obtain ⟨v', w', h1, h2, h3, _, h5⟩ := app_one ty wq wl.heap.size s A x0 x1 x2 h.ha h.hz hl
  obtain ⟨a, m, c, rfl⟩ := h2.slice
  refine ⟨a, m, c, w', h1, ⟨by rw [h3.block wb hwl]; exact h.hw, World.ownsRow.kept h.hs h5 ?_, h2, ⟨h3.os.trans h.hb.os, h3.tape.trans h.hb.tape, h3.output.trans h.hb.output, Nat.le_trans h.hb.size h3.size, fun k hk => (h3.block k (by omega)).trans (h.hb.block k hk)⟩, Nat.le_trans h.hz h3.size⟩⟩
  cases e : sv.ownBlock with
  | none => exact Or.inl rfl
  | some k =>
    refine Or.inr (fun e2 => ?_)
    have h6 := hsv k e
    have h7 := (World.ownsRow.lt h.ha k e2.symm).1
    omega

end Go.Proofs.YtmbkicdahalakaaDoor
