/- Graphs: the program's own. -/
import Derived.Test.YtebcjaenhiiflaaGreatDoorGR
namespace Go.Proofs.YtebcjaenhiiflaaGreatDoor.G
open Go.RowKit

set_option maxHeartbeats 400000 in
theorem ed1_any (x0 x1 x2 : Int) (w : World) :
    Calls Tryz.prog 106 #[.agg #[.int .i64 x0, .int .i64 x1, .int .i64 x2]] w fun e w' => e = .returned (.bool true) ∧ Below w.heap.size w w' := by
  go_enter Tryz.func106, Tryz.ntmps106
  go_wp2
  go_ret
  exact ⟨rfl, below_box _ _⟩

set_option maxHeartbeats 2000000 in
set_option maxRecDepth 100000 in
theorem those_ed (pf : E → Bool) (n : Int) (B p : Nat) (v : Value) (L : List E) (w : World) (h : GAt w B 168 61 p n v L) (hl : L.length ≤ 120)
    (hf : ∀ W x0 x1 x2, Below w.heap.size w W → Calls Tryz.prog 106 #[.agg #[.int .i64 x0, .int .i64 x1, .int .i64 x2]] W fun e w' => e = .returned (.bool (pf (x0, x1, x2))) ∧ Below W.heap.size W w') :
    Calls Tryz.prog 105 #[.pointer (some ⟨p, 0, none⟩), .func (.func 106) #[] #[]] w fun e w' => ∃ u, e = .returned u ∧ Owns w' w.heap.size 61 u (L.filter pf) ∧ Below w.heap.size w w' := by
  have HF : Hid (∀ W x0 x1 x2, Below w.heap.size w W → Calls Tryz.prog 106 #[.agg #[.int .i64 x0, .int .i64 x1, .int .i64 x2]] W fun e w' => e = .returned (.bool (pf (x0, x1, x2))) ∧ Below W.heap.size W w') := hf
  have HG : Hid (GAt w B 168 61 p n v L) := h
  obtain ⟨m, hm⟩ : ∃ m, m = L.length := ⟨_, rfl⟩
  have HM : Hid (m = L.length) := hm
  have hp := h.c1
  obtain ⟨va, vc, hv⟩ := h.row.slice_len
  rw [← hm] at hv hl
  have HV : Hid (v = .slice va m vc) := hv
  rw [hv] at hp
  clear hf h hv hm
  go_enter Tryz.func105, Tryz.ntmps105
  go_wp2_with fail
  go_loopg [5, 7, 13] m (fun r s5 _ s13 wq => ∃ k : Nat, s13 = .int .i64 k ∧ k + r = m ∧ Owns wq w.heap.size 61 s5 ((L.take k).filter pf) ∧ Below w.heap.size w wq)
  case atStart => exact ⟨0, rfl, by omega, World.ownsRow_nil _ _ _ _, Below.refl _ _⟩
  case round =>
    obtain ⟨k, rfl, hk, ho, hb⟩ := hrel
    have HO : Hid (Owns wr w.heap.size 61 u5 ((L.take k).filter pf)) := ho
    have HB : Hid (Below w.heap.size w wr) := hb
    clear ho hb
    by_cases hlt : k < m
    · obtain ⟨x0, x1, x2, hx⟩ : ∃ x0 x1 x2, L[k]? = some (x0, x1, x2) := ⟨_, _, _, List.getElem?_eq_getElem (by rw [← HM.out]; exact hlt)⟩
      have HX : Hid (L[k]? = some (x0, x1, x2)) := hx
      obtain ⟨g, hva⟩ : ∃ g, va = some ⟨g, 0, none⟩ := by
        rcases HG.out.row.shape with ⟨_, e⟩ | ⟨g, cap, e, _⟩
        · rw [e] at hx; simp at hx
        · rw [HV.out] at e
          injection e with e1 _ _
          exact ⟨g, e1⟩
      have hg1 := HG.out.below HB.out
      obtain ⟨r0, r1, r2⟩ := hg1.row.at (g := g) (by rw [HV.out, hva]; rfl) hx
      have r0' : wr.cell? ⟨g, k * 3, none⟩ = some (.int .i64 x0) := r0
      have r1' : wr.cell? ⟨g, k * 3 + 1, none⟩ = some (.int .i64 x1) := r1
      have r2' : wr.cell? ⟨g, k * 3 + 2, none⟩ = some (.int .i64 x2) := r2
      clear hg1 r0 r1 r2 hx
      subst hva
      have HB1 : Hid (Below w.heap.size w (wr.alloc (.cells #[.int .i64 x0, .int .i64 x1, .int .i64 x2] 61))) := HB.out.alloc HB.out.size _
      go_wp2_with fail
      refine (HF.out _ x0 x1 x2 HB1.out).mono ?_
      rintro e w2 ⟨rfl, hb2⟩
      have hb2' : Below (wr.heap.size + 1) (wr.alloc (.cells #[.int .i64 x0, .int .i64 x1, .int .i64 x2] 61)) w2 := by simpa using hb2
      have HB2 : Hid (Below w.heap.size w w2) := HB1.out.trans (hb2.mono HB1.out.size)
      have hb3 : Below wr.heap.size wr w2 := (below_box wr _).trans (hb2'.mono (by omega))
      have HO2 : Hid (Owns w2 w.heap.size 61 u5 ((L.take k).filter pf)) := HO.out.below hb3
      cases hpf : pf (x0, x1, x2) with
      | true =>
        as_aux_lemma =>
        have hh : w2.heap[wr.heap.size]? = some (.cells #[.int .i64 x0, .int .i64 x1, .int .i64 x2] 61) := by rw [hb2'.block wr.heap.size (by omega)]; exact heap_alloc_new wr _
        have q0 : w2.cell? ⟨wr.heap.size, 0, none⟩ = some (.int .i64 x0) := by simp [World.cell?, hh]
        have q1 : w2.cell? ⟨wr.heap.size, 1, none⟩ = some (.int .i64 x1) := by simp [World.cell?, hh]
        have q2 : w2.cell? ⟨wr.heap.size, 2, none⟩ = some (.int .i64 x2) := by simp [World.cell?, hh]
        obtain ⟨v', w3, hr, ho3, hb4, _, _⟩ := app_one 33 w2 w.heap.size u5 _ x0 x1 x2 HO2.out HB2.out.size (by have := filter_len L k pf; rw [← HM.out] at this; omega)
        have HR : Hid (_ = _) := hr
        have HO3 : Hid (Owns w3 w.heap.size 61 v' ((L.take (k + 1)).filter pf)) := by
          show Owns w3 w.heap.size 61 v' ((L.take (k + 1)).filter pf)
          rw [take_filter pf HX.out, hpf]; exact ho3
        have HB3 : Hid (Below w.heap.size w w3) := HB2.out.trans hb4
        clear hr ho3 hb4 hh hb2 hb2' hb3 HO2 HO HB HB1 HB2 hpf r0' r1' r2'
        go_wp2_with (at_builtin; refine Lib.wpList_append_run _ rfl _ _ _ _ rfl _ _ rfl rfl _ _ HR.out ?_)
        go_roundg (gk - 1)
        case measure => omega
        case rel => exact ⟨k + 1, by go_num, by omega, HO3.out, HB3.out⟩
      | false =>
        as_aux_lemma =>
        have HO3 : Hid (Owns w2 w.heap.size 61 u5 ((L.take (k + 1)).filter pf)) := by
          show Owns w2 w.heap.size 61 u5 ((L.take (k + 1)).filter pf)
          rw [take_filter pf HX.out, hpf]
          simpa using HO2.out
        clear hb2 hb2' hb3 HO2 HO HB HB1 hpf r0' r1' r2'
        go_wp2_with fail
        go_roundg (gk - 1)
        case measure => omega
        case rel => exact ⟨k + 1, by go_num, by omega, HO3.out, HB2.out⟩
    · have hke : L.take k = L := List.take_of_length_le (by rw [← HM.out]; omega)
      have HO3 : Hid (Owns wr w.heap.size 61 u5 (L.filter pf)) := by
        show Owns wr w.heap.size 61 u5 (L.filter pf)
        have := HO.out
        rw [hke] at this; exact this
      clear hke HO
      go_wp2_with fail
      go_ret
      exact ⟨_, rfl, HO3.out, HB.out⟩

set_option maxHeartbeats 400000 in
theorem edges_any (n : Int) (B p : Nat) (v : Value) (L : List E) (w : World) (h : GAt w B 168 61 p n v L) (hl : L.length ≤ 120) :
    Calls Tryz.prog 48 #[.pointer (some ⟨p, 0, none⟩)] w fun e w' => ∃ u, e = .returned u ∧ Owns w' w.heap.size 61 u L ∧ Below w.heap.size w w' := by
  have HC : Hid (Calls Tryz.prog 105 #[.pointer (some ⟨p, 0, none⟩), .func (.func 106) #[] #[]] w fun e w' => ∃ u, e = .returned u ∧ Owns w' w.heap.size 61 u L ∧ Below w.heap.size w w') := by
    have := those_ed (fun _ => true) n B p v L w h hl (fun W x0 x1 x2 _ => ed1_any x0 x1 x2 W)
    have e : L.filter (fun _ => true) = L := by simp
    rw [e] at this
    exact this
  clear h
  go_enter Tryz.func48, Tryz.ntmps48
  go_wp2_with fail
  refine HC.out.mono ?_
  rintro e w1 ⟨u, rfl, ho, hb⟩
  have HR : Hid (Owns w1 w.heap.size 61 u L ∧ Below w.heap.size w w1) := ⟨ho, hb⟩
  clear ho hb HC
  go_wp2_with fail
  go_ret
  exact ⟨_, rfl, HR.out⟩

end Go.Proofs.YtebcjaenhiiflaaGreatDoor.G
