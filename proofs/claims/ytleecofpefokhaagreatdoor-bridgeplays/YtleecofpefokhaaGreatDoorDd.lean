/- The contract of the document's own Twice: by all edges that are taken away. -/
import Derived.Test.YtleecofpefokhaaGreatDoorDc
namespace Go.Proofs.YtleecofpefokhaaGreatDoor.S
open Go.RowKit Go.WideMaps Go.Maps

/-- Rows of labels, in a row that a box holds. -/
structure AllL (w : World) (base cw n : Nat) (v : Value) (P : List (Nat × List Nat)) : Prop where
  own : w.ownsRow base 39 1 v P.length (P.map fun p => .slice (some ⟨p.1, 0, none⟩) n n)
  rows : ∀ p ∈ P, RowL w p.1 p.2 ∧ p.2.length = n
  box : w.heap[cw]? = some (.cells #[v] 42)

theorem AllL.below {w w' : World} {base cw n : Nat} {v : Value} {P : List (Nat × List Nat)} (h : AllL w base cw n v P) (hb : Below w.heap.size w w') : AllL w' base cw n v P :=
  ⟨h.own.kept (grown_below hb) (by cases v.ownBlock <;> simp), fun p hp => ⟨(h.rows p hp).1.below hb (h.rows p hp).1.lt, (h.rows p hp).2⟩, (hb.block cw (lt_of_some h.box)).trans h.box⟩

theorem AllL.shape {w : World} {base cw n : Nat} {v : Value} {P : List (Nat × List Nat)} (h : AllL w base cw n v P) (hp : 0 < P.length) : ∃ g cap, v = .slice (some ⟨g, 0, none⟩) P.length cap ∧ ∀ i p, P[i]? = some p → w.cell? ⟨g, i, none⟩ = some (.slice (some ⟨p.1, 0, none⟩) n n) := by
  have h0 := h.own
  rcases h.own.2 with ⟨_, hz⟩ | ⟨g, cap, cur, rfl, _⟩
  · omega
  · refine ⟨g, cap, rfl, fun i p hi => ?_⟩
    rw [h0.cellAt i (by have := (List.getElem?_eq_some_iff.1 hi).1; omega)]
    simp [hi]

/-- The block that a row of rows lies in. -/
theorem own_block {w : World} {base : Nat} {v : Value} {k : Nat} {xs : List Value} (h : w.ownsRow base 39 1 v k xs) {g : Nat} (hg : v.ownBlock = some g) : ∃ cur, w.heap[g]? = some (.cells cur 39) := by
  rcases h.2 with ⟨rfl, _⟩ | ⟨g', cap, cur, rfl, _, hc, _⟩
  · simp [Value.ownBlock] at hg
  · simp [Value.ownBlock] at hg
    subst hg
    exact ⟨_, hc⟩

theorem AllL.push {w w4 : World} {base cw n b : Nat} {v v' : Value} {P : List (Nat × List Nat)} {l : List Nat} {o : Obj} (h : AllL w base cw n v P) (hr : RowL w b l) (hl : l.length = n) (hown : w4.ownsRow base 39 1 v' (P.length + 1) ((P.map fun p => .slice (some ⟨p.1, 0, none⟩) n n) ++ [.slice (some ⟨b, 0, none⟩) n n]))
    (hg : (w.alloc o).grownBy w4 v.ownBlock) : AllL (w4.setCell ⟨cw, 0, none⟩ v') base cw n v' (P ++ [(b, l)]) ∧ w4.cell? ⟨cw, 0, none⟩ = some v ∧ w4.frozen? ⟨cw, 0, none⟩ = false := by
  have hne : ∀ k, k < w.heap.size → (∀ cur, w.heap[k]? ≠ some (.cells cur 39)) → w4.heap[k]? = w.heap[k]? := by
    intro k hk hn
    have h1 : (w.alloc o).heap[k]? = w.heap[k]? := Below.heap_alloc w o k hk
    rw [hg.block k (by simp; omega) (fun e => ?_), h1]
    obtain ⟨cur, hc⟩ := own_block h.own e.symm
    exact hn cur hc
  have hbox : w4.heap[cw]? = some (.cells #[v] 42) := (hne cw (lt_of_some h.box) (fun cur => by rw [h.box]; simp)).trans h.box
  have hrow : ∀ p ∈ P ++ [(b, l)], RowL w4 p.1 p.2 ∧ p.2.length = n := by
    intro p hp
    have h1 : RowL w p.1 p.2 ∧ p.2.length = n := by
      rcases List.mem_append.1 hp with hp | hp
      · exact h.rows p hp
      · rw [List.mem_singleton.1 hp]; exact ⟨hr, hl⟩
    exact ⟨(hne p.1 h1.1.lt (fun cur => by rw [h1.1]; simp)).trans h1.1, h1.2⟩
  refine ⟨⟨?_, ?_, ?_⟩, by simp [World.cell?, hbox], by simp [World.frozen?, hbox]⟩
  · have hv : v'.ownBlock ≠ some cw := by
      intro e
      obtain ⟨cur, hc⟩ := own_block hown e
      rw [hbox] at hc; simp at hc
    have e1 : (P ++ [(b, l)]).length = P.length + 1 := by simp
    have e2 : ((P ++ [(b, l)]).map fun p => Value.slice (some ⟨p.1, 0, none⟩) n n) = (P.map fun p => .slice (some ⟨p.1, 0, none⟩) n n) ++ [.slice (some ⟨b, 0, none⟩) n n] := by simp
    rw [e1, e2]
    refine hown.kept (row := some cw) ⟨rfl, rfl, rfl, by simp, fun i _ hi => Below.heap_setCell _ _ _ _ (fun e => hi (by rw [e]))⟩ ?_
    exact Or.inr hv
  · intro p hp
    refine ⟨?_, (hrow p hp).2⟩
    show (w4.setCell ⟨cw, 0, none⟩ v').heap[p.1]? = _
    rw [Below.heap_setCell _ _ _ _ (fun e => ?_)]
    · exact (hrow p hp).1
    · have := (hrow p hp).1
      unfold RowL at this
      have e' : p.1 = cw := e
      rw [e', hbox] at this
      simp at this
  · simp [World.setCell, Array.getElem?_modify, hbox]

set_option maxHeartbeats 1000000 in
set_option maxRecDepth 100000 in
theorem twice1 (x y cw n base : Nat) (v : Value) (P : List (Nat × List Nat)) (s : Bool) (w : World) (h : AllL w base cw n v P) (hp : 0 < P.length) (hpl : P.length ≤ 1000) (hx : x < n) (hy : y < n) (hs : s = true ↔ ∀ p ∈ P, p.2.getD x 0 = p.2.getD y 0) :
    Calls Tryz.prog 31 #[.int .i64 (x : Int), .int .i64 (y : Int), .pointer (some ⟨cw, 0, none⟩)] w fun e w' => e = .returned (.bool s) ∧ ∃ n, w' = w.drewN n := by
  have HH : Hid (AllL w base cw n v P) := h
  obtain ⟨g, cap, rfl, hcells⟩ := h.shape hp
  have HC : Hid (∀ i p, P[i]? = some p → w.cell? ⟨g, i, none⟩ = some (.slice (some ⟨p.1, 0, none⟩) n n)) := hcells
  have hbox : w.cell? ⟨cw, 0, none⟩ = some (.slice (some ⟨g, 0, none⟩) P.length cap) := by simp [World.cell?, h.box]
  have HS : Hid (s = true ↔ ∀ p ∈ P, p.2.getD x 0 = p.2.getD y 0) := hs
  obtain ⟨m, hm⟩ : ∃ m, P.length = m := ⟨_, rfl⟩
  have HM : Hid (P.length = m) := hm
  rw [hm] at hbox hpl
  clear h hcells hs hm hp
  go_enter Tryz.func31, Tryz.ntmps31
  go_wp2_with fail
  go_loopw [7, 10] (fun _ s10 wq => ∃ j : Nat, j ≤ m ∧ s10 = .int .i64 j ∧ (∀ i p, i < j → P[i]? = some p → p.2.getD x 0 = p.2.getD y 0) ∧ ∃ q, wq = w.drewN q) (fun _ s10 _ => m - (intOf s10).toNat)
  case atStart => exact ⟨0, Nat.zero_le _, rfl, fun i p hi => by omega, 0, rfl⟩
  case round =>
    obtain ⟨j, hj, rfl, hall, q, hq0⟩ := hrel
    have HQ : Hid (wr = w.drewN q) := hq0
    clear hq0
    have HALL : Hid (∀ i p, i < j → P[i]? = some p → p.2.getD x 0 = p.2.getD y 0) := hall
    clear hall
    by_cases hlt : j < m
    · obtain ⟨⟨b, l⟩, hpj⟩ : ∃ p, P[j]? = some p := ⟨_, List.getElem?_eq_getElem (by rw [HM.out]; exact hlt)⟩
      have HPJ : Hid (P[j]? = some (b, l)) := hpj
      have hrow := HH.out.rows _ (List.mem_of_getElem? hpj)
      have c0 : wr.cell? ⟨g, j, none⟩ = some (.slice (some ⟨b, 0, none⟩) n n) := by rw [HQ.out]; exact HC.out j (b, l) hpj
      have cx : wr.cell? ⟨b, x, none⟩ = some (.int .i64 ((l.getD x 0 : Nat) : Int)) := by rw [HQ.out]; exact hrow.1.cell x (by rw [hrow.2]; exact hx)
      have cy : wr.cell? ⟨b, y, none⟩ = some (.int .i64 ((l.getD y 0 : Nat) : Int)) := by rw [HQ.out]; exact hrow.1.cell y (by rw [hrow.2]; exact hy)
      obtain ⟨X, hX⟩ : ∃ X, l.getD x 0 = X := ⟨_, rfl⟩
      obtain ⟨Y, hY⟩ : ∃ Y, l.getD y 0 = Y := ⟨_, rfl⟩
      rw [hX] at cx
      rw [hY] at cy
      have HXY : Hid (l.getD x 0 = X ∧ l.getD y 0 = Y) := ⟨hX, hY⟩
      clear hX hY hpj hrow hbox
      by_cases hxy : X = Y
      · subst hxy
        go_wp2_with fail
        go_quiet (fail)
        clear c0 cx cy
        go_wp2_with fail
        go_roundw
        case rel =>
          refine ⟨j + 1, by omega, by go_num, fun i p hi hpi => ?_, q + nq, by rw [HQ.out, drewN_drewN]⟩
          by_cases hij : i = j
          · subst hij
            rw [HPJ.out] at hpi
            injection hpi with hpi
            rw [← hpi, HXY.out.1, HXY.out.2]
          · exact HALL.out i p (by omega) hpi
        case measure => simp [intOf]; omega
      · have hq : ((X : Int) == (Y : Int)) = false := beq_eq_false_iff_ne.2 (by omega)
        have HF : Hid (s = false) := by
          show s = false
          cases s with
          | false => rfl
          | true =>
            have := HS.out.1 rfl (b, l) (List.mem_of_getElem? HPJ.out)
            rw [HXY.out.1, HXY.out.2] at this
            exact absurd this hxy
        go_wp2_with fail
        go_quiet (fail)
        clear c0 cx cy
        go_wp2_with fail
        go_ret
        exact ⟨by rw [HF.out]; rfl, q + nq, by rw [HQ.out, drewN_drewN]⟩
    · have hje : j = m := by omega
      subst hje
      have HF : Hid (s = true) := HS.out.2 (fun p hp => by
        obtain ⟨i, hi, hpi⟩ := List.mem_iff_getElem.1 hp
        exact HALL.out i p (by rw [← HM.out]; exact hi) (by rw [List.getElem?_eq_getElem hi, hpi]))
      go_wp2_with fail
      go_ret
      exact ⟨by rw [HF.out]; rfl, q, HQ.out⟩

end Go.Proofs.YtleecofpefokhaaGreatDoor.S
