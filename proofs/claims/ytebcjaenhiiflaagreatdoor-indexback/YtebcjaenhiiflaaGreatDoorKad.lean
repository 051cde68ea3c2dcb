/- Graphs: the program's own. -/
import Derived.Test.YtebcjaenhiiflaaGreatDoorG5
import Derived.Test.YtebcjaenhiiflaaGreatDoorBBh
import Derived.Maps.RangeWalk
import Derived.Maps.OwnSet
namespace Go.Proofs.YtebcjaenhiiflaaGreatDoor.G

open Go.RowKit

set_option maxHeartbeats 1000000 in
set_option maxRecDepth 100000 in
theorem index_any (a : Option Addr) (m cap : Nat) (F : Nat → Int) (x : Int) (w : World) (h : Ints w a m F) (hm : m ≤ 1000) :
    Calls Tryz.prog 361 #[.slice a m cap, .int .i64 x] w fun e w' => ∃ r : Int, e = .returned (.int .i64 r) ∧ decide (0 ≤ r) = among F m x ∧ w' = w := by
  have HI : Hid (Ints w a m F) := h
  clear h
  go_enter Tryz.func361, Tryz.ntmps361
  go_wp2_with fail
  go_loopg [5, 8] m (fun r _ s8 wq => ∃ k : Nat, s8 = .int .i64 k ∧ k + r = m ∧ (∀ t, t < k → F t ≠ x) ∧ wq = w)
  case atStart => exact ⟨0, rfl, by omega, fun t ht => by omega, rfl⟩
  case round =>
    obtain ⟨k, rfl, hk, hno, rfl⟩ := hrel
    by_cases hlt : k < m
    · obtain ⟨bl, off, ha, hc⟩ := HI.out.some_ (by omega)
      have c := hc k hlt
      subst ha
      clear hc
      by_cases hy : x = F k
      · as_aux_lemma =>
        have HA : Hid (decide (0 ≤ (k : Int)) = among F m x) := by
          show decide (0 ≤ (k : Int)) = among F m x
          rw [among_hit hlt hy.symm]; simp
        clear hno
        generalize F k = y at *
        subst hy
        go_wp2_with fail
        go_ret
        exact ⟨k, rfl, HA.out, rfl⟩
      · as_aux_lemma =>
        have HN : Hid (∀ t, t < k + 1 → F t ≠ x) := by
          intro t ht
          rcases Nat.lt_succ_iff_lt_or_eq.1 ht with h | h
          · exact hno t h
          · subst h; exact fun e => hy e.symm
        clear hno
        generalize F k = y at *
        have hyb : (x == y) = false := beq_eq_false_iff_ne.2 hy
        clear hy
        go_wp2_with fail
        go_roundg (gk - 1)
        case measure => omega
        case rel => exact ⟨k + 1, by go_num, by omega, HN.out, rfl⟩
    · have hke : m = k := by omega
      have HA : Hid (decide (0 ≤ (-1 : Int)) = among F m x) := by
        show decide (0 ≤ (-1 : Int)) = among F m x
        rw [among_miss (fun t ht => hno t (by omega))]; rfl
      clear hno
      go_wp2_with fail
      go_ret
      exact ⟨-1, rfl, HA.out, rfl⟩

set_option maxHeartbeats 400000 in
theorem contains_any (a : Option Addr) (m cap : Nat) (F : Nat → Int) (x : Int) (ok : Bool) (w : World) (h : Ints w a m F) (hm : m ≤ 1000) (hok : among F m x = ok) :
    Calls Tryz.prog 324 #[.slice a m cap, .int .i64 x] w fun e w' => e = .returned (.bool ok) ∧ w' = w := by
  have HI : Hid (Ints w a m F) := h
  have HO : Hid (among F m x = ok) := hok
  clear h hok
  go_enter Tryz.func324, Tryz.ntmps324
  go_wp2_with fail
  refine (index_any a m cap F x w HI.out hm).mono ?_
  rintro e w' ⟨r, rfl, hr, rfl⟩
  have HR : Hid (decide (0 ≤ r) = ok) := hr.trans HO.out
  clear hr
  go_wp2_with fail
  go_ret
  exact ⟨by rw [← HR.out]; rfl, rfl⟩

set_option maxHeartbeats 400000 in
theorem at1_any (x0 x1 x2 y : Int) (xb : Nat) (ok : Bool) (w : World) (hc : w.cell? ⟨xb, 0, none⟩ = some (.int .i64 y)) (hok : (x1 == y || x2 == y) = ok) :
    Calls Tryz.prog 321 #[.agg #[.int .i64 x0, .int .i64 x1, .int .i64 x2], .pointer (some ⟨xb, 0, none⟩)] w fun e w' => e = .returned (.bool ok) ∧ Below w.heap.size w w' := by
  have hlt : xb < w.heap.size := lt_of_cell hc
  by_cases h1 : x1 = y
  · have HO : Hid (ok = true) := by
      show ok = true
      rw [← hok, h1]; simp
    clear hok
    subst h1
    go_enter Tryz.func321, Tryz.ntmps321
    go_wp2
    go_ret
    exact ⟨by rw [HO.out]; rfl, below_box _ _⟩
  · have h1b : (x1 == y) = false := beq_eq_false_iff_ne.2 h1
    by_cases h2 : x2 = y
    · have HO : Hid (ok = true) := by
        show ok = true
        rw [← hok, h2]; simp
      clear hok h1
      subst h2
      go_enter Tryz.func321, Tryz.ntmps321
      go_wp2
      go_ret
      exact ⟨by rw [HO.out]; rfl, below_box _ _⟩
    · have h2b : (x2 == y) = false := beq_eq_false_iff_ne.2 h2
      have HO : Hid (ok = false) := by
        show ok = false
        rw [← hok, h1b, h2b]; rfl
      clear hok h1 h2
      go_enter Tryz.func321, Tryz.ntmps321
      go_wp2
      go_ret
      exact ⟨by rw [HO.out]; rfl, below_box _ _⟩

set_option maxHeartbeats 1000000 in
set_option maxRecDepth 100000 in
theorem wo1_any (x0 x1 x2 : Int) (eb nb : Nat) (ae an : Option Addr) (me mn ce cn : Nat) (Fe Fn : Nat → Int) (ok : Bool) (w : World) (he : w.cell? ⟨eb, 0, none⟩ = some (.slice ae me ce)) (hn : w.cell? ⟨nb, 0, none⟩ = some (.slice an mn cn))
    (hie : Ints w ae me Fe) (hin : Ints w an mn Fn) (hme : me ≤ 1000) (hmn : mn ≤ 1000) (hok : (!among Fe me x0 && !among Fn mn x1 && !among Fn mn x2) = ok) :
    Calls Tryz.prog 323 #[.agg #[.int .i64 x0, .int .i64 x1, .int .i64 x2], .pointer (some ⟨eb, 0, none⟩), .pointer (some ⟨nb, 0, none⟩)] w fun e w' => e = .returned (.bool ok) ∧ Below w.heap.size w w' := by
  have hlt : eb < w.heap.size := lt_of_cell he
  have hlt2 : nb < w.heap.size := lt_of_cell hn
  have HE : Hid (∀ o, Ints (w.alloc o) ae me Fe) := fun o => hie.below (below_box w o)
  have HN : Hid (∀ o, Ints (w.alloc o) an mn Fn) := fun o => hin.below (below_box w o)
  clear hie hin
  cases hc1 : among Fe me x0 with
  | true =>
    have HC1 : Hid (among Fe me x0 = true) := hc1
    have HO : Hid (ok = false) := by
      show ok = false
      rw [← hok, hc1]; rfl
    clear hok hc1
    go_enter Tryz.func323, Tryz.ntmps323
    go_wp2_with fail
    refine (contains_any ae me ce Fe x0 true _ (HE.out _) hme HC1.out).mono ?_
    rintro e w1 ⟨rfl, rfl⟩
    go_wp2_with fail
    go_ret
    exact ⟨by rw [HO.out]; rfl, below_box _ _⟩
  | false =>
    have HC1 : Hid (among Fe me x0 = false) := hc1
    rw [hc1] at hok
    clear hc1
    cases hc2 : among Fn mn x1 with
    | true =>
      have HC2 : Hid (among Fn mn x1 = true) := hc2
      have HO : Hid (ok = false) := by
        show ok = false
        rw [← hok, hc2]; rfl
      clear hok hc2
      go_enter Tryz.func323, Tryz.ntmps323
      go_wp2_with fail
      refine (contains_any ae me ce Fe x0 false _ (HE.out _) hme HC1.out).mono ?_
      rintro e w1 ⟨rfl, rfl⟩
      go_wp2_with fail
      refine (contains_any an mn cn Fn x1 true _ (HN.out _) hmn HC2.out).mono ?_
      rintro e w1 ⟨rfl, rfl⟩
      go_wp2_with fail
      go_ret
      exact ⟨by rw [HO.out]; rfl, below_box _ _⟩
    | false =>
      have HC2 : Hid (among Fn mn x1 = false) := hc2
      rw [hc2] at hok
      clear hc2
      have HC3 : Hid (among Fn mn x2 = !ok) := by
        show among Fn mn x2 = !ok
        rw [← hok]; simp
      clear hok
      go_enter Tryz.func323, Tryz.ntmps323
      go_wp2_with fail
      refine (contains_any ae me ce Fe x0 false _ (HE.out _) hme HC1.out).mono ?_
      rintro e w1 ⟨rfl, rfl⟩
      go_wp2_with fail
      refine (contains_any an mn cn Fn x1 false _ (HN.out _) hmn HC2.out).mono ?_
      rintro e w1 ⟨rfl, rfl⟩
      go_wp2_with fail
      refine (contains_any an mn cn Fn x2 (!ok) _ (HN.out _) hmn HC3.out).mono ?_
      rintro e w1 ⟨rfl, rfl⟩
      cases ok
      · go_wp2_with fail
        go_ret
        exact ⟨rfl, below_box _ _⟩
      · go_wp2_with fail
        go_ret
        exact ⟨rfl, below_box _ _⟩

set_option maxHeartbeats 2000000 in
set_option maxRecDepth 100000 in
theorem those_at (pf : E → Bool) (n : Int) (B p : Nat) (xb : Nat) (v : Value) (L : List E) (w : World) (h : GAt w B 168 61 p n v L) (hl : L.length ≤ 120)
    (hf : ∀ W x0 x1 x2, Below w.heap.size w W → Calls Tryz.prog 321 #[.agg #[.int .i64 x0, .int .i64 x1, .int .i64 x2], .pointer (some ⟨xb, 0, none⟩)] W fun e w' => e = .returned (.bool (pf (x0, x1, x2))) ∧ Below W.heap.size W w') :
    Calls Tryz.prog 105 #[.pointer (some ⟨p, 0, none⟩), .func (.func 321) #[] #[.pointer (some ⟨xb, 0, none⟩)]] w fun e w' => ∃ u, e = .returned u ∧ Owns w' w.heap.size 61 u (L.filter pf) ∧ Below w.heap.size w w' := by
  have HF : Hid (∀ W x0 x1 x2, Below w.heap.size w W → Calls Tryz.prog 321 #[.agg #[.int .i64 x0, .int .i64 x1, .int .i64 x2], .pointer (some ⟨xb, 0, none⟩)] W fun e w' => e = .returned (.bool (pf (x0, x1, x2))) ∧ Below W.heap.size W w') := hf
  have HG : Hid (GAt w B 168 61 p n v L) := h
  obtain ⟨m, hm⟩ : ∃ m, m = L.length := ⟨_, rfl⟩
  have HM : Hid (m = L.length) := hm
  have hp := h.c1
  obtain ⟨va, vc, hv⟩ := h.row.slice_len
  rw [← hm] at hv hl
  have HV : Hid (v = .slice va m vc) := hv
  rw [hv] at hp
  clear hf h hv hm
  go_enter Tryz.func105, Tryz.ntmps105
  go_wp2_with fail
  go_loopg [5, 7, 13] m (fun r s5 _ s13 wq => ∃ k : Nat, s13 = .int .i64 k ∧ k + r = m ∧ Owns wq w.heap.size 61 s5 ((L.take k).filter pf) ∧ Below w.heap.size w wq)
  case atStart => exact ⟨0, rfl, by omega, World.ownsRow_nil _ _ _ _, Below.refl _ _⟩
  case round =>
    obtain ⟨k, rfl, hk, ho, hb⟩ := hrel
    have HO : Hid (Owns wr w.heap.size 61 u5 ((L.take k).filter pf)) := ho
    have HB : Hid (Below w.heap.size w wr) := hb
    clear ho hb
    by_cases hlt : k < m
    · obtain ⟨x0, x1, x2, hx⟩ : ∃ x0 x1 x2, L[k]? = some (x0, x1, x2) := ⟨_, _, _, List.getElem?_eq_getElem (by rw [← HM.out]; exact hlt)⟩
      have HX : Hid (L[k]? = some (x0, x1, x2)) := hx
      obtain ⟨g, hva⟩ : ∃ g, va = some ⟨g, 0, none⟩ := by
        rcases HG.out.row.shape with ⟨_, e⟩ | ⟨g, cap, e, _⟩
        · rw [e] at hx; simp at hx
        · rw [HV.out] at e
          injection e with e1 _ _
          exact ⟨g, e1⟩
      have hg1 := HG.out.below HB.out
      obtain ⟨r0, r1, r2⟩ := hg1.row.at (g := g) (by rw [HV.out, hva]; rfl) hx
      have r0' : wr.cell? ⟨g, k * 3, none⟩ = some (.int .i64 x0) := r0
      have r1' : wr.cell? ⟨g, k * 3 + 1, none⟩ = some (.int .i64 x1) := r1
      have r2' : wr.cell? ⟨g, k * 3 + 2, none⟩ = some (.int .i64 x2) := r2
      clear hg1 r0 r1 r2 hx
      subst hva
      have HB1 : Hid (Below w.heap.size w (wr.alloc (.cells #[.int .i64 x0, .int .i64 x1, .int .i64 x2] 61))) := HB.out.alloc HB.out.size _
      go_wp2_with fail
      refine (HF.out _ x0 x1 x2 HB1.out).mono ?_
      rintro e w2 ⟨rfl, hb2⟩
      have hb2' : Below (wr.heap.size + 1) (wr.alloc (.cells #[.int .i64 x0, .int .i64 x1, .int .i64 x2] 61)) w2 := by simpa using hb2
      have HB2 : Hid (Below w.heap.size w w2) := HB1.out.trans (hb2.mono HB1.out.size)
      have hb3 : Below wr.heap.size wr w2 := (below_box wr _).trans (hb2'.mono (by omega))
      have HO2 : Hid (Owns w2 w.heap.size 61 u5 ((L.take k).filter pf)) := HO.out.below hb3
      cases hpf : pf (x0, x1, x2) with
      | true =>
        as_aux_lemma =>
        have hh : w2.heap[wr.heap.size]? = some (.cells #[.int .i64 x0, .int .i64 x1, .int .i64 x2] 61) := by rw [hb2'.block wr.heap.size (by omega)]; exact heap_alloc_new wr _
        have q0 : w2.cell? ⟨wr.heap.size, 0, none⟩ = some (.int .i64 x0) := by simp [World.cell?, hh]
        have q1 : w2.cell? ⟨wr.heap.size, 1, none⟩ = some (.int .i64 x1) := by simp [World.cell?, hh]
        have q2 : w2.cell? ⟨wr.heap.size, 2, none⟩ = some (.int .i64 x2) := by simp [World.cell?, hh]
        obtain ⟨v', w3, hr, ho3, hb4, _, _⟩ := app_one 33 w2 w.heap.size u5 _ x0 x1 x2 HO2.out HB2.out.size (by have := filter_len L k pf; rw [← HM.out] at this; omega)
        have HR : Hid (_ = _) := hr
        have HO3 : Hid (Owns w3 w.heap.size 61 v' ((L.take (k + 1)).filter pf)) := by
          show Owns w3 w.heap.size 61 v' ((L.take (k + 1)).filter pf)
          rw [take_filter pf HX.out, hpf]; exact ho3
        have HB3 : Hid (Below w.heap.size w w3) := HB2.out.trans hb4
        clear hr ho3 hb4 hh hb2 hb2' hb3 HO2 HO HB HB1 HB2 hpf r0' r1' r2'
        go_wp2_with (at_builtin; refine Lib.wpList_append_run _ rfl _ _ _ _ rfl _ _ rfl rfl _ _ HR.out ?_)
        go_roundg (gk - 1)
        case measure => omega
        case rel => exact ⟨k + 1, by go_num, by omega, HO3.out, HB3.out⟩
      | false =>
        as_aux_lemma =>
        have HO3 : Hid (Owns w2 w.heap.size 61 u5 ((L.take (k + 1)).filter pf)) := by
          show Owns w2 w.heap.size 61 u5 ((L.take (k + 1)).filter pf)
          rw [take_filter pf HX.out, hpf]
          simpa using HO2.out
        clear hb2 hb2' hb3 HO2 HO HB HB1 hpf r0' r1' r2'
        go_wp2_with fail
        go_roundg (gk - 1)
        case measure => omega
        case rel => exact ⟨k + 1, by go_num, by omega, HO3.out, HB2.out⟩
    · have hke : L.take k = L := List.take_of_length_le (by rw [← HM.out]; omega)
      have HO3 : Hid (Owns wr w.heap.size 61 u5 (L.filter pf)) := by
        show Owns wr w.heap.size 61 u5 (L.filter pf)
        have := HO.out
        rw [hke] at this; exact this
      clear hke HO
      go_wp2_with fail
      go_ret
      exact ⟨_, rfl, HO3.out, HB.out⟩

set_option maxHeartbeats 2000000 in
set_option maxRecDepth 100000 in
theorem those_wo (pf : E → Bool) (n : Int) (B p : Nat) (eb nb : Nat) (v : Value) (L : List E) (w : World) (h : GAt w B 168 61 p n v L) (hl : L.length ≤ 120)
    (hf : ∀ W x0 x1 x2, Below w.heap.size w W → Calls Tryz.prog 323 #[.agg #[.int .i64 x0, .int .i64 x1, .int .i64 x2], .pointer (some ⟨eb, 0, none⟩), .pointer (some ⟨nb, 0, none⟩)] W fun e w' => e = .returned (.bool (pf (x0, x1, x2))) ∧ Below W.heap.size W w') :
    Calls Tryz.prog 105 #[.pointer (some ⟨p, 0, none⟩), .func (.func 323) #[] #[.pointer (some ⟨eb, 0, none⟩), .pointer (some ⟨nb, 0, none⟩)]] w fun e w' => ∃ u, e = .returned u ∧ Owns w' w.heap.size 61 u (L.filter pf) ∧ Below w.heap.size w w' := by
  have HF : Hid (∀ W x0 x1 x2, Below w.heap.size w W → Calls Tryz.prog 323 #[.agg #[.int .i64 x0, .int .i64 x1, .int .i64 x2], .pointer (some ⟨eb, 0, none⟩), .pointer (some ⟨nb, 0, none⟩)] W fun e w' => e = .returned (.bool (pf (x0, x1, x2))) ∧ Below W.heap.size W w') := hf
  have HG : Hid (GAt w B 168 61 p n v L) := h
  obtain ⟨m, hm⟩ : ∃ m, m = L.length := ⟨_, rfl⟩
  have HM : Hid (m = L.length) := hm
  have hp := h.c1
  obtain ⟨va, vc, hv⟩ := h.row.slice_len
  rw [← hm] at hv hl
  have HV : Hid (v = .slice va m vc) := hv
  rw [hv] at hp
  clear hf h hv hm
  go_enter Tryz.func105, Tryz.ntmps105
  go_wp2_with fail
  go_loopg [5, 7, 13] m (fun r s5 _ s13 wq => ∃ k : Nat, s13 = .int .i64 k ∧ k + r = m ∧ Owns wq w.heap.size 61 s5 ((L.take k).filter pf) ∧ Below w.heap.size w wq)
  case atStart => exact ⟨0, rfl, by omega, World.ownsRow_nil _ _ _ _, Below.refl _ _⟩
  case round =>
    obtain ⟨k, rfl, hk, ho, hb⟩ := hrel
    have HO : Hid (Owns wr w.heap.size 61 u5 ((L.take k).filter pf)) := ho
    have HB : Hid (Below w.heap.size w wr) := hb
    clear ho hb
    by_cases hlt : k < m
    · obtain ⟨x0, x1, x2, hx⟩ : ∃ x0 x1 x2, L[k]? = some (x0, x1, x2) := ⟨_, _, _, List.getElem?_eq_getElem (by rw [← HM.out]; exact hlt)⟩
      have HX : Hid (L[k]? = some (x0, x1, x2)) := hx
      obtain ⟨g, hva⟩ : ∃ g, va = some ⟨g, 0, none⟩ := by
        rcases HG.out.row.shape with ⟨_, e⟩ | ⟨g, cap, e, _⟩
        · rw [e] at hx; simp at hx
        · rw [HV.out] at e
          injection e with e1 _ _
          exact ⟨g, e1⟩
      have hg1 := HG.out.below HB.out
      obtain ⟨r0, r1, r2⟩ := hg1.row.at (g := g) (by rw [HV.out, hva]; rfl) hx
      have r0' : wr.cell? ⟨g, k * 3, none⟩ = some (.int .i64 x0) := r0
      have r1' : wr.cell? ⟨g, k * 3 + 1, none⟩ = some (.int .i64 x1) := r1
      have r2' : wr.cell? ⟨g, k * 3 + 2, none⟩ = some (.int .i64 x2) := r2
      clear hg1 r0 r1 r2 hx
      subst hva
      have HB1 : Hid (Below w.heap.size w (wr.alloc (.cells #[.int .i64 x0, .int .i64 x1, .int .i64 x2] 61))) := HB.out.alloc HB.out.size _
      go_wp2_with fail
      refine (HF.out _ x0 x1 x2 HB1.out).mono ?_
      rintro e w2 ⟨rfl, hb2⟩
      have hb2' : Below (wr.heap.size + 1) (wr.alloc (.cells #[.int .i64 x0, .int .i64 x1, .int .i64 x2] 61)) w2 := by simpa using hb2
      have HB2 : Hid (Below w.heap.size w w2) := HB1.out.trans (hb2.mono HB1.out.size)
      have hb3 : Below wr.heap.size wr w2 := (below_box wr _).trans (hb2'.mono (by omega))
      have HO2 : Hid (Owns w2 w.heap.size 61 u5 ((L.take k).filter pf)) := HO.out.below hb3
      cases hpf : pf (x0, x1, x2) with
      | true =>
        as_aux_lemma =>
        have hh : w2.heap[wr.heap.size]? = some (.cells #[.int .i64 x0, .int .i64 x1, .int .i64 x2] 61) := by rw [hb2'.block wr.heap.size (by omega)]; exact heap_alloc_new wr _
        have q0 : w2.cell? ⟨wr.heap.size, 0, none⟩ = some (.int .i64 x0) := by simp [World.cell?, hh]
        have q1 : w2.cell? ⟨wr.heap.size, 1, none⟩ = some (.int .i64 x1) := by simp [World.cell?, hh]
        have q2 : w2.cell? ⟨wr.heap.size, 2, none⟩ = some (.int .i64 x2) := by simp [World.cell?, hh]
        obtain ⟨v', w3, hr, ho3, hb4, _, _⟩ := app_one 33 w2 w.heap.size u5 _ x0 x1 x2 HO2.out HB2.out.size (by have := filter_len L k pf; rw [← HM.out] at this; omega)
        have HR : Hid (_ = _) := hr
        have HO3 : Hid (Owns w3 w.heap.size 61 v' ((L.take (k + 1)).filter pf)) := by
          show Owns w3 w.heap.size 61 v' ((L.take (k + 1)).filter pf)
          rw [take_filter pf HX.out, hpf]; exact ho3
        have HB3 : Hid (Below w.heap.size w w3) := HB2.out.trans hb4
        clear hr ho3 hb4 hh hb2 hb2' hb3 HO2 HO HB HB1 HB2 hpf r0' r1' r2'
        go_wp2_with (at_builtin; refine Lib.wpList_append_run _ rfl _ _ _ _ rfl _ _ rfl rfl _ _ HR.out ?_)
        go_roundg (gk - 1)
        case measure => omega
        case rel => exact ⟨k + 1, by go_num, by omega, HO3.out, HB3.out⟩
      | false =>
        as_aux_lemma =>
        have HO3 : Hid (Owns w2 w.heap.size 61 u5 ((L.take (k + 1)).filter pf)) := by
          show Owns w2 w.heap.size 61 u5 ((L.take (k + 1)).filter pf)
          rw [take_filter pf HX.out, hpf]
          simpa using HO2.out
        clear hb2 hb2' hb3 HO2 HO HB HB1 hpf r0' r1' r2'
        go_wp2_with fail
        go_roundg (gk - 1)
        case measure => omega
        case rel => exact ⟨k + 1, by go_num, by omega, HO3.out, HB2.out⟩
    · have hke : L.take k = L := List.take_of_length_le (by rw [← HM.out]; omega)
      have HO3 : Hid (Owns wr w.heap.size 61 u5 (L.filter pf)) := by
        show Owns wr w.heap.size 61 u5 (L.filter pf)
        have := HO.out
        rw [hke] at this; exact this
      clear hke HO
      go_wp2_with fail
      go_ret
      exact ⟨_, rfl, HO3.out, HB.out⟩

/-- The edges of a node. -/
def ofNode (x : Int) : E → Bool := fun e => e.2.1 == x || e.2.2 == x

set_option maxHeartbeats 400000 in
theorem at_in (x n : Int) (B p : Nat) (v : Value) (L : List E) (w : World) (h : GAt w B 168 61 p n v L) (hl : L.length ≤ 120) (hx : 0 ≤ x ∧ x < n) :
    Calls Tryz.prog 245 #[.pointer (some ⟨p, 0, none⟩), .int .i64 x] w fun e w' => ∃ u, e = .returned (.tuple #[u, .nilIface]) ∧ Owns w' w.heap.size 61 u (L.filter (ofNode x)) ∧ Below w.heap.size w w' := by
  have hb0 := below_box w (.cells #[.int .i64 x] 3)
  have HC : Hid (Calls Tryz.prog 116 #[.pointer (some ⟨p, 0, none⟩), .int .i64 x] (w.alloc (.cells #[.int .i64 x] 3)) fun e w' => e = .returned (.bool true) ∧ w' = w.alloc (.cells #[.int .i64 x] 3)) := has_t x n B p v L _ (h.below hb0) hx
  have HD : Hid (Calls Tryz.prog 105 #[.pointer (some ⟨p, 0, none⟩), .func (.func 321) #[] #[.pointer (some ⟨w.heap.size, 0, none⟩)]] (w.alloc (.cells #[.int .i64 x] 3)) fun e w' => ∃ u, e = .returned u ∧ Owns w' w.heap.size 61 u (L.filter (ofNode x)) ∧ Below w.heap.size w w') := by
    have hc : (w.alloc (.cells #[.int .i64 x] 3)).cell? ⟨w.heap.size, 0, none⟩ = some (.int .i64 x) := by rw [World.cell?_alloc_at _ _ _ _ rfl]; rfl
    have := those_at (ofNode x) n B p w.heap.size v L _ (h.below hb0) hl (fun W x0 x1 x2 hb => at1_any x0 x1 x2 x w.heap.size _ W ((hb.cell (p := ⟨w.heap.size, 0, none⟩) (by simp)).trans hc) rfl)
    refine this.mono ?_
    rintro e w' ⟨u, he, ho, hb⟩
    exact ⟨u, he, ho.mono (by simp), hb0.trans (hb.mono (by simp))⟩
  clear h hx hb0
  go_enter Tryz.func245, Tryz.ntmps245
  go_wp2_with fail
  refine HC.out.mono ?_
  rintro e w1 ⟨rfl, hw⟩
  have HW : Hid (w1 = w.alloc (.cells #[.int .i64 x] 3)) := hw
  clear hw HC
  go_wp2_with fail
  rw [HW.out]
  refine HD.out.mono ?_
  rintro e w2 ⟨u, rfl, ho, hb⟩
  have HR : Hid (Owns w2 w.heap.size 61 u (L.filter (ofNode x)) ∧ Below w.heap.size w w2) := ⟨ho, hb⟩
  clear ho hb HD HW
  go_wp2_with fail
  go_ret2
  exact ⟨_, rfl, HR.out⟩

set_option maxHeartbeats 2000000 in
set_option maxRecDepth 100000 in
theorem without_any (n : Int) (B p : Nat) (v : Value) (L : List E) (ae an : Option Addr) (me mn ce cn : Nat) (Fe Fn : Nat → Int) (w : World) (h : GAt w B 168 61 p n v L) (hl : L.length ≤ 120) (hie : Ints w ae me Fe) (hin : Ints w an mn Fn) (hme : me ≤ 1000) (hmn : mn ≤ 1000) :
    Calls Tryz.prog 257 #[.pointer (some ⟨p, 0, none⟩), .slice ae me ce, .slice an mn cn] w fun e w' => ∃ p' v', e = .returned (.pointer (some ⟨p', 0, none⟩)) ∧ GAt w' w.heap.size 168 61 p' n v' (L.filter (stays Fe Fn me mn)) ∧ Below w.heap.size w w' := by
  obtain ⟨W0, hW0⟩ : ∃ W0, W0 = (w.alloc (.cells #[.slice ae me ce] 48)).alloc (.cells #[.slice an mn cn] 48) := ⟨_, rfl⟩
  have hb0 : Below w.heap.size w W0 := by rw [hW0]; exact ((Below.refl _ _).alloc (Nat.le_refl _) _).alloc (by simp) _
  have hs0 : W0.heap.size = w.heap.size + 1 + 1 := by rw [hW0]; simp
  have he0 : W0.cell? ⟨w.heap.size, 0, none⟩ = some (.slice ae me ce) := by
    rw [hW0, World.cell?_alloc_lt _ _ ⟨w.heap.size, 0, none⟩ (by simp), World.cell?_alloc_at _ _ _ _ rfl]; rfl
  have hn0 : W0.cell? ⟨w.heap.size + 1, 0, none⟩ = some (.slice an mn cn) := by
    rw [hW0, World.cell?_alloc_at _ _ _ _ (by simp)]; rfl
  have hg0 := h.below hb0
  have hc0 := hg0.c0
  have HD : Hid (Calls Tryz.prog 105 #[.pointer (some ⟨p, 0, none⟩), .func (.func 323) #[] #[.pointer (some ⟨w.heap.size, 0, none⟩), .pointer (some ⟨w.heap.size + 1, 0, none⟩)]] W0.drew fun e w' => ∃ a m c, e = .returned (.slice a m c) ∧ w'.cell? ⟨p, 0, none⟩ = some (.int .i64 n) ∧ Hid (Owns w' w.heap.size 61 (.slice a m c) (L.filter (stays Fe Fn me mn)) ∧ Below w.heap.size w w')) := by
    have hbd : Below W0.heap.size W0 W0.drew := ⟨rfl, rfl, rfl, Nat.le_refl _, fun _ _ => rfl⟩
    have hbd2 : Below w.heap.size w W0.drew := hb0.trans (hbd.mono hb0.size)
    have := those_wo (stays Fe Fn me mn) n B p w.heap.size (w.heap.size + 1) v L W0.drew (hg0.below hbd) hl (fun W x0 x1 x2 hb => by
      have hbW : Below w.heap.size w W := hbd2.trans (hb.mono (by show w.heap.size ≤ W0.heap.size; omega))
      exact wo1_any x0 x1 x2 w.heap.size (w.heap.size + 1) ae an me mn ce cn Fe Fn _ W ((hb.cell (p := ⟨w.heap.size, 0, none⟩) (by show w.heap.size < W0.heap.size; omega)).trans he0) ((hb.cell (p := ⟨w.heap.size + 1, 0, none⟩) (by show w.heap.size + 1 < W0.heap.size; omega)).trans hn0) (hie.below hbW) (hin.below hbW) hme hmn rfl)
    refine this.mono ?_
    rintro e w' ⟨u, he, ho, hb⟩
    obtain ⟨a, m, c, rfl⟩ := ho.slice
    exact ⟨a, m, c, he, (hb.cell (p := ⟨p, 0, none⟩) (hg0.below hbd).plt).trans hc0, ho.mono (by show w.heap.size ≤ W0.heap.size; omega), hbd2.trans (hb.mono (by show w.heap.size ≤ W0.heap.size; omega))⟩
  have HW0 : Hid (W0 = (w.alloc (.cells #[.slice ae me ce] 48)).alloc (.cells #[.slice an mn cn] 48)) := hW0
  have hplt := h.plt
  clear hW0 hb0 hs0 he0 hn0 hg0 h hie hin
  go_enter Tryz.func257, Tryz.ntmps257
  go_wp2_with fail
  rw [← HW0.out]
  go_region_held (fun w' => w'.cell? ⟨p, 0, none⟩ = some (.int .i64 n)) (go_keep) (first | (go_at_call 105; refine HD.out.mono ?_; rintro e w2 ⟨a', m', c', rfl, hq, hr⟩))
  all_goals
    go_wp2_with fail
    go_ret
    refine ⟨_, _, rfl, ⟨heap_alloc_new _ _, hr.out.1.below (below_box _ _), ?_⟩, hr.out.2.trans ((below_box _ _).mono hr.out.2.size)⟩
    intro e
    have := (World.ownsRow.lt hr.out.1 _ e).2
    omega

end Go.Proofs.YtebcjaenhiiflaaGreatDoor.G
namespace Go.Proofs.YtebcjaenhiiflaaGreatDoor.S
open Go.RowKit Go.WideMaps Go.Maps

/-- The edges of a graph of n nodes, at most i, their numbers up to 2 ^ 40. -/
structure Ed (n i : Nat) (L : List (Int × Int × Int)) : Prop where
  up : G.Up L
  ids : ∀ e ∈ L, 0 ≤ e.1 ∧ e.1 ≤ 1099511627776
  ends : ∀ e ∈ L, ∃ x y : Nat, x < y ∧ y < n ∧ e = (e.1, (x : Int), (y : Int))
  len : L.length ≤ i

theorem wf_small {x : Int} (h0 : 0 ≤ x) (h1 : x ≤ 1099511627776) : (Lit.int .i64 x).wf = true := WalkArith.wf_i64 (by omega)

theorem below_kept' {w0 w w' : World} {q : Nat} {o : Option Nat} (h : Below w0.heap.size w0 w) (k : G.Kept q o w w') (h1 : w0.heap.size ≤ q) (h2 : ∀ j, o = some j → w0.heap.size ≤ j) : Below w0.heap.size w0 w' :=
  ⟨k.os.trans h.os, k.tape.trans h.tape, k.output.trans h.output, Nat.le_trans h.size k.size, fun j hj => (k.block j (Nat.lt_of_lt_of_le hj h.size) (by omega) (fun e => by have := h2 j e.symm; omega)).trans (h.block j hj)⟩

theorem Ed.mono {n i j : Nat} {L : List (Int × Int × Int)} (h : Ed n i L) (hij : i ≤ j) : Ed n j L :=
  ⟨h.up, fun e he => by have := h.ids e he; omega, h.ends, by have := h.len; omega⟩

end Go.Proofs.YtebcjaenhiiflaaGreatDoor.S
namespace Go.Proofs.YtebcjaenhiiflaaGreatDoor.S

/-- An edge at a node; its other end; all edges but a node's. -/
def tch (e : Int × Int × Int) (x : Nat) : Prop := ea e = x ∨ eb e = x
instance (e : Int × Int × Int) (x : Nat) : Decidable (tch e x) := inferInstanceAs (Decidable (_ ∨ _))
def ot (e : Int × Int × Int) (x : Nat) : Nat := if x = ea e then eb e else ea e
def wo (R : List (Int × Int × Int)) (x : Nat) : List (Int × Int × Int) := R.filter fun d => decide (ea d ≠ x ∧ eb d ≠ x)
/-- Two edges at a node lie on one ring through it. -/
def Rx (R : List (Int × Int × Int)) (x i j : Nat) : Prop := ∃ e f, R[i]? = some e ∧ R[j]? = some f ∧ tch e x ∧ tch f x ∧ cnR (wo R x) (ot e x) (ot f x)
/-- Two edges of one block, by their places. -/
def Blk (R : List (Int × Int × Int)) : Nat → Nat → Prop := Conn fun i j => ∃ x, Rx R x i j

section
variable {R : List (Int × Int × Int)} {x y z i j k u v : Nat} {e f : Int × Int × Int}

theorem mem_wo : e ∈ wo R x ↔ e ∈ R ∧ ea e ≠ x ∧ eb e ≠ x := by simp [wo]

theorem ot_end (_ : tch e x) (hp : ea e ≠ eb e) : tch e (ot e x) ∧ ot e x ≠ x := by
  unfold tch ot at *
  split
  · next k => exact ⟨.inr rfl, fun c => hp (by omega)⟩
  · next k => exact ⟨.inl rfl, fun c => k c.symm⟩

theorem ot_of (h : tch e x) (hy : tch e y) (hne : y ≠ x) : ot e x = y := by
  unfold tch ot at *
  split <;> omega

/-- An edge's ends but one node are together without it. -/
theorem ends_wo (he : e ∈ R) (hy : tch e y) (hz : tch e z) (hyx : y ≠ x) (hzx : z ≠ x) : cnR (wo R x) y z := by
  by_cases hyz : y = z
  · subst hyz; exact cn_refl _
  · unfold tch at hy hz
    rcases hy with hy | hy <;> rcases hz with hz | hz
    · omega
    · have := cn_edge (a := ea) (b := eb) (T := (· ∈ wo R x)) (mem_wo.2 ⟨he, by omega, by omega⟩)
      rw [hy, hz] at this; exact this
    · have := cn_edge (a := ea) (b := eb) (T := (· ∈ wo R x)) (mem_wo.2 ⟨he, by omega, by omega⟩)
      rw [hy, hz] at this; exact cn_symm this
    · omega

/-- A node is alone without its edges. -/
theorem alone (h : cnR (wo R x) x y) : y = x := by
  have : (x = x ↔ y = x) := Conn.least (P := fun u v => (u = x ↔ v = x)) h (fun _ => Iff.rfl) (fun _ _ h => h.symm) (fun _ _ _ h k => h.trans k) (by
    rintro _ _ ⟨e, he, rfl, rfl⟩
    have := mem_wo.1 he
    constructor <;> intro c <;> omega)
  exact this.1 rfl

theorem Rx.symm (h : Rx R x i j) : Rx R x j i := by
  obtain ⟨e, f, h1, h2, h3, h4, h5⟩ := h
  exact ⟨f, e, h2, h1, h4, h3, cn_symm h5⟩
theorem Rx.trans (h : Rx R x i j) (k' : Rx R x j k) : Rx R x i k := by
  obtain ⟨e, f, h1, h2, h3, h4, h5⟩ := h
  obtain ⟨f', g, k1, k2, k3, k4, k5⟩ := k'
  rw [h2] at k1; cases k1
  exact ⟨e, g, h1, k2, h3, k4, cn_trans h5 k5⟩
theorem Rx.refl (h : R[i]? = some e) (ht : tch e x) : Rx R x i i := ⟨e, e, h, h, ht, ht, cn_refl _⟩

/-- All of a block but one node is together without it. -/
theorem block_side (hp : ∀ e ∈ R, ea e ≠ eb e) (h : Blk R i j) (hi : R[i]? = some e) (hj : R[j]? = some f) (hy : tch e y) (hz : tch f z) (hyx : y ≠ x) (hzx : z ≠ x) : cnR (wo R x) y z := by
  have key : i = j ∨ ∃ e f, R[i]? = some e ∧ R[j]? = some f ∧ ∀ y z, tch e y → tch f z → y ≠ x → z ≠ x → cnR (wo R x) y z := by
    refine Conn.least (P := fun i j => i = j ∨ ∃ e f, R[i]? = some e ∧ R[j]? = some f ∧ ∀ y z, tch e y → tch f z → y ≠ x → z ≠ x → cnR (wo R x) y z) h (fun _ => .inl rfl) ?_ ?_ ?_
    · rintro i j (h | ⟨e, f, h1, h2, h3⟩)
      · exact .inl h.symm
      · exact .inr ⟨f, e, h2, h1, fun y z hy hz hyx hzx => cn_symm (h3 z y hz hy hzx hyx)⟩
    · rintro i j k (rfl | ⟨e, f, h1, h2, h3⟩) (rfl | ⟨f', g, k1, k2, k3⟩)
      · exact .inl rfl
      · exact .inr ⟨f', g, k1, k2, k3⟩
      · exact .inr ⟨e, f, h1, h2, h3⟩
      · rw [h2] at k1; cases k1
        refine .inr ⟨e, g, h1, k2, fun y z hy hz hyx hzx => ?_⟩
        have hpf := hp f (List.mem_of_getElem? h2)
        by_cases hc : ea f = x
        · exact cn_trans (h3 y (eb f) hy (.inr rfl) hyx (by omega)) (k3 (eb f) z (.inr rfl) hz (by omega) hzx)
        · exact cn_trans (h3 y (ea f) hy (.inl rfl) hyx hc) (k3 (ea f) z (.inl rfl) hz hc hzx)
    · rintro i j ⟨w, e, f, h1, h2, h3, h4, h5⟩
      refine .inr ⟨e, f, h1, h2, fun y z hy hz hyx hzx => ?_⟩
      by_cases hw : w = x
      · subst hw
        rw [ot_of h3 hy hyx, ot_of h4 hz hzx] at h5; exact h5
      · exact cn_trans (ends_wo (List.mem_of_getElem? h1) hy h3 hyx hw) (ends_wo (List.mem_of_getElem? h2) h4 hz hw hzx)
  rcases key with rfl | ⟨e', f', h1, h2, h3⟩
  · rw [hi] at hj; cases hj
    exact ends_wo (List.mem_of_getElem? hi) hy hz hyx hzx
  · rw [hi] at h1; rw [hj] at h2; cases h1; cases h2
    exact h3 y z hy hz hyx hzx

/-- Two edges at a node are of one block just if they lie on one ring through it. -/
theorem block_at (hp : ∀ e ∈ R, ea e ≠ eb e) (hi : R[i]? = some e) (hj : R[j]? = some f) (he : tch e x) (hf : tch f x) : Blk R i j ↔ cnR (wo R x) (ot e x) (ot f x) := by
  constructor
  · intro h
    have h1 := ot_end he (hp e (List.mem_of_getElem? hi))
    have h2 := ot_end hf (hp f (List.mem_of_getElem? hj))
    exact block_side hp h hi hj h1.1 h2.1 h1.2 h2.2
  · intro h
    exact Conn.base ⟨x, e, f, hi, hj, he, hf, h⟩

/-- Two blocks that have two nodes in common are one. -/
theorem block_two (hp : ∀ e ∈ R, ea e ≠ eb e) {i' j' : Nat} {e' f' : Int × Int × Int} (hi : R[i]? = some e) (hj : R[j]? = some f) (hi' : R[i']? = some e') (hj' : R[j']? = some f')
    (he : tch e x) (hf : tch f x) (he' : tch e' y) (hf' : tch f' y) (hxy : x ≠ y) (h : Blk R i i') (k : Blk R j j') : Blk R i j := by
  rw [block_at hp hi hj he hf]
  have h1 := ot_end he (hp e (List.mem_of_getElem? hi))
  have h2 := ot_end hf (hp f (List.mem_of_getElem? hj))
  have a1 := block_side (x := x) hp h hi hi' h1.1 he' h1.2 hxy.symm
  have a2 := block_side (x := x) hp k hj hj' h2.1 hf' h2.2 hxy.symm
  exact cn_trans a1 (cn_symm a2)

theorem getElem?_inj_of {i j : Nat} (hn : R.Pairwise fun a b => a.1 < b.1) (h : R[i]? = some e) (k : R[j]? = some e) : i = j := by
  obtain ⟨hi, h⟩ := List.getElem?_eq_some_iff.1 h
  obtain ⟨hj, k⟩ := List.getElem?_eq_some_iff.1 k
  rw [List.pairwise_iff_getElem] at hn
  rcases Nat.lt_trichotomy i j with c | c | c
  · have := hn i j hi hj c; rw [h, k] at this; omega
  · exact c
  · have := hn j i hj hi c; rw [h, k] at this; omega

/-- A block of one edge is a bridge, and a bridge a block. -/
theorem block_bridge (hp : ∀ e ∈ R, ea e ≠ eb e) (hn : R.Pairwise fun a b => a.1 < b.1) (hi : R[i]? = some e) : brR R e ↔ ∀ j, Blk R i j → j = i := by
  have heR := List.mem_of_getElem? hi
  have hpe := hp e heR
  constructor
  · rintro ⟨_, hb⟩ j h
    have : (i = i ↔ j = i) := Conn.least (P := fun u v => (u = i ↔ v = i)) h (fun _ => Iff.rfl) (fun _ _ h => h.symm) (fun _ _ _ h k => h.trans k) (by
      have key : ∀ {x v}, Rx R x i v → v = i := by
        rintro x v ⟨e', f, h1, h2, h3, h4, h5⟩
        rw [hi] at h1; cases h1
        refine Classical.byContradiction fun hv => hb ?_
        have hef : f ≠ e := fun c => hv (getElem?_inj_of hn h2 (c ▸ hi))
        have a1 : cn ea eb (but (· ∈ R) e) (ot e x) (ot f x) := cn_mono h5 (fun d hd => ⟨(mem_wo.1 hd).1, fun c => by
          subst c
          have := (mem_wo.1 hd).2
          unfold tch at h3
          omega⟩)
        have a2 : cn ea eb (but (· ∈ R) e) (ea f) (eb f) := cn_edge ⟨List.mem_of_getElem? h2, hef⟩
        have hpf := hp f (List.mem_of_getElem? h2)
        have a3 : cn ea eb (but (· ∈ R) e) (ot f x) x := by
          rcases h4 with h4 | h4
          · rw [ot_of (y := eb f) (.inl h4) (.inr rfl) (by omega)]
            rw [h4] at a2; exact cn_symm a2
          · rw [ot_of (y := ea f) (.inr h4) (.inl rfl) (by omega)]
            rw [h4] at a2; exact a2
        have a4 := cn_trans a1 a3
        rcases h3 with h3 | h3
        · rw [ot_of (y := eb e) (.inl h3) (.inr rfl) (by omega)] at a4
          rw [h3]; exact cn_symm a4
        · rw [ot_of (y := ea e) (.inr h3) (.inl rfl) (by omega)] at a4
          rw [h3]; exact a4
      rintro u v ⟨x, hr⟩
      constructor
      · intro c; rw [c] at hr; exact key hr
      · intro c; rw [c] at hr; exact key hr.symm)
    exact this.1 rfl
  · intro h
    refine ⟨heR, fun hc => ?_⟩
    -- some other edge at the first end leads to what the second one is together with
    have hno : ∀ f ∈ R, f ≠ e → tch f (ea e) → ¬ cnR (wo R (ea e)) (eb e) (ot f (ea e)) := by
      intro f hf hfe ht hcn
      obtain ⟨j, hj⟩ := List.getElem?_of_mem hf
      have : j = i := h j (Conn.base ⟨ea e, e, f, hi, hj, .inl rfl, ht, by rw [ot_of (y := eb e) (.inl rfl) (.inr rfl) hpe.symm]; exact hcn⟩)
      subst this
      rw [hi] at hj; cases hj
      exact hfe rfl
    have hx : ¬ cnR (wo R (ea e)) (eb e) (ea e) := fun c => hpe (alone (cn_symm c)).symm
    have : (cnR (wo R (ea e)) (eb e) (ea e) ↔ cnR (wo R (ea e)) (eb e) (eb e)) := Conn.least (P := fun u v => (cnR (wo R (ea e)) (eb e) u ↔ cnR (wo R (ea e)) (eb e) v)) hc (fun _ => Iff.rfl) (fun _ _ h => h.symm) (fun _ _ _ h k => h.trans k) (by
      rintro _ _ ⟨d, ⟨hd, hde⟩, rfl, rfl⟩
      have hpd := hp d hd
      by_cases ht : tch d (ea e)
      · have h1 := hno d hd hde ht
        rcases ht with ht | ht
        · rw [ot_of (y := eb d) (.inl ht) (.inr rfl) (by omega)] at h1
          rw [ht]; exact ⟨fun c => absurd c hx, fun c => absurd c h1⟩
        · rw [ot_of (y := ea d) (.inr ht) (.inl rfl) (by omega)] at h1
          rw [ht]; exact ⟨fun c => absurd c h1, fun c => absurd c hx⟩
      · have hd' : cnR (wo R (ea e)) (ea d) (eb d) := cn_edge (mem_wo.2 ⟨hd, fun c => ht (.inl c), fun c => ht (.inr c)⟩)
        exact ⟨fun c => cn_trans c hd', fun c => cn_trans c (cn_symm hd')⟩)
    exact hx (this.2 (cn_refl _))

/-- A node parts just if two of its edges lie on no ring through it. -/
theorem cut_iff (hp : ∀ e ∈ R, ea e ≠ eb e) : (∃ u v, u ≠ x ∧ v ≠ x ∧ cnR R u v ∧ ¬ cnR (wo R x) u v) ↔ ∃ e ∈ R, ∃ f ∈ R, tch e x ∧ tch f x ∧ ¬ cnR (wo R x) (ot e x) (ot f x) := by
  have edge : ∀ {e}, e ∈ R → tch e x → cnR R (ot e x) x := by
    intro e he ht
    have hpe := hp e he
    have := cn_edge (a := ea) (b := eb) (T := (· ∈ R)) he
    rcases ht with h | h
    · rw [ot_of (y := eb e) (.inl h) (.inr rfl) (by omega)]; rw [h] at this; exact cn_symm this
    · rw [ot_of (y := ea e) (.inr h) (.inl rfl) (by omega)]; rw [h] at this; exact this
  constructor
  · rintro ⟨u, v, hu, hv, h, hn⟩
    refine Classical.byContradiction fun hno => ?_
    have hall : ∀ e ∈ R, ∀ f ∈ R, tch e x → tch f x → cnR (wo R x) (ot e x) (ot f x) := fun e he f hf h1 h2 => Classical.byContradiction fun c => hno ⟨e, he, f, hf, h1, h2, c⟩
    have key := Conn.least (P := fun u v => ((u = x ∨ ∃ e ∈ R, tch e x ∧ cnR (wo R x) u (ot e x)) ∧ (v = x ∨ ∃ e ∈ R, tch e x ∧ cnR (wo R x) v (ot e x))) ∨ cnR (wo R x) u v) h (fun _ => .inr (cn_refl _)) ?_ ?_ ?_
    · rcases key with ⟨h1, h2⟩ | h1
      · rcases h1 with h1 | ⟨e, he, ht, h1⟩
        · exact hu h1
        · rcases h2 with h2 | ⟨f, hf, ht', h2⟩
          · exact hv h2
          · exact hn (cn_trans h1 (cn_trans (hall e he f hf ht ht') (cn_symm h2)))
      · exact hn h1
    · rintro u v (⟨h1, h2⟩ | h)
      · exact .inl ⟨h2, h1⟩
      · exact .inr (cn_symm h)
    · have go : ∀ {v w}, (v = x ∨ ∃ e ∈ R, tch e x ∧ cnR (wo R x) v (ot e x)) → cnR (wo R x) v w → (w = x ∨ ∃ e ∈ R, tch e x ∧ cnR (wo R x) w (ot e x)) := by
        rintro v w (rfl | ⟨e, he, ht, h⟩) hc
        · exact .inl (alone hc)
        · exact .inr ⟨e, he, ht, cn_trans (cn_symm hc) h⟩
      rintro u v w (⟨h1, h2⟩ | h) (⟨k1, k2⟩ | k)
      · exact .inl ⟨h1, k2⟩
      · exact .inl ⟨h1, go h2 k⟩
      · exact .inl ⟨go k1 (cn_symm h), k2⟩
      · exact .inr (cn_trans h k)
    · rintro _ _ ⟨d, hd, rfl, rfl⟩
      have hpd := hp d hd
      by_cases ht : tch d x
      · refine .inl ?_
        rcases ht with h | h
        · exact ⟨.inl h, .inr ⟨d, hd, .inl h, by rw [ot_of (y := eb d) (.inl h) (.inr rfl) (by omega)]; exact cn_refl _⟩⟩
        · exact ⟨.inr ⟨d, hd, .inr h, by rw [ot_of (y := ea d) (.inr h) (.inl rfl) (by omega)]; exact cn_refl _⟩, .inl h⟩
      · exact .inr (cn_edge (mem_wo.2 ⟨hd, fun c => ht (.inl c), fun c => ht (.inr c)⟩))
  · rintro ⟨e, he, f, hf, h1, h2, h3⟩
    exact ⟨ot e x, ot f x, (ot_end h1 (hp e he)).2, (ot_end h2 (hp f hf)).2, cn_trans (edge he h1) (cn_symm (edge hf h2)), h3⟩

/-- The state of the program: labels of edges by their places; behind the nodes below x, and the edges at x that are in D. -/
structure Bs (R : List (Int × Int × Int)) (x : Nat) (D L : List Nat) : Prop where
  good : Good R.length L
  alike : ∀ u v, Lk R.length L u v ↔ Conn (fun i j => (∃ y, y < x ∧ Rx R y i j) ∨ (i ∈ D ∧ j ∈ D ∧ Rx R x i j)) u v

variable {D L : List Nat}

theorem bs_start (R : List (Int × Int × Int)) : Bs R 0 [] (List.range R.length) := by
  refine ⟨good_range _, fun u v => ⟨?_, fun h => ?_⟩⟩
  · rintro (rfl | ⟨h1, h2, h3⟩)
    · exact Conn.refl _
    · have e1 : (List.range R.length).getD u 0 = u := by simp [h1]
      have e2 : (List.range R.length).getD v 0 = v := by simp [h2]
      rw [e1, e2] at h3; subst h3; exact Conn.refl _
  · exact Conn.least (P := Lk R.length (List.range R.length)) h (fun _ => Lk.refl _) (fun _ _ h => h.symm) (fun _ _ _ h k => h.trans k) (by
      rintro i j (⟨y, hy, _⟩ | ⟨h, _⟩)
      · omega
      · simp at h)

theorem Rx.lt (h : Rx R x i j) : i < R.length ∧ j < R.length := by
  obtain ⟨e, f, h1, h2, _⟩ := h
  exact ⟨(List.getElem?_eq_some_iff.1 h1).1, (List.getElem?_eq_some_iff.1 h2).1⟩

theorem bs_new (s : Bs R x D L) (hno : ∀ j ∈ D, ¬ Rx R x j i) : Bs R x (D ++ [i]) L := by
  refine ⟨s.good, fun u v => ?_⟩
  rw [s.alike]
  constructor
  · intro h
    refine Conn.lift h ?_
    rintro p q (h | ⟨h1, h2, h3⟩)
    · exact Conn.base (.inl h)
    · exact Conn.base (.inr ⟨List.mem_append_left _ h1, List.mem_append_left _ h2, h3⟩)
  · intro h
    refine Conn.lift h ?_
    rintro p q (h | ⟨h1, h2, h3⟩)
    · exact Conn.base (.inl h)
    · rcases List.mem_append.1 h1 with h1 | h1
      · rcases List.mem_append.1 h2 with h2 | h2
        · exact Conn.base (.inr ⟨h1, h2, h3⟩)
        · rw [List.mem_singleton.1 h2] at h3
          exact absurd h3 (hno p h1)
      · rcases List.mem_append.1 h2 with h2 | h2
        · rw [List.mem_singleton.1 h1] at h3
          exact absurd h3.symm (hno q h2)
        · rw [List.mem_singleton.1 h1, List.mem_singleton.1 h2]; exact Conn.refl _

theorem bs_join (s : Bs R x D L) (hj : j ∈ D) (h : Rx R x j i) : Bs R x (D ++ [i]) (joinL L j i) := by
  have hl := h.lt
  refine ⟨good_join s.good hl.1 hl.2, fun u v => ?_⟩
  rw [Lk_join s.good.len hl.1 hl.2]
  have up : ∀ {u v}, Lk R.length L u v → Conn (fun p q => (∃ y, y < x ∧ Rx R y p q) ∨ (p ∈ D ++ [i] ∧ q ∈ D ++ [i] ∧ Rx R x p q)) u v := by
    intro u v h
    refine Conn.lift ((s.alike u v).1 h) ?_
    rintro p q (h | ⟨h1, h2, h3⟩)
    · exact Conn.base (.inl h)
    · exact Conn.base (.inr ⟨List.mem_append_left _ h1, List.mem_append_left _ h2, h3⟩)
  have b : Conn (fun p q => (∃ y, y < x ∧ Rx R y p q) ∨ (p ∈ D ++ [i] ∧ q ∈ D ++ [i] ∧ Rx R x p q)) j i := Conn.base (.inr ⟨List.mem_append_left _ hj, by simp, h⟩)
  constructor
  · rintro (h | ⟨h, k⟩ | ⟨h, k⟩)
    · exact up h
    · exact (up h).trans (b.trans (up k))
    · exact (up h).trans (b.symm.trans (up k))
  · intro h'
    have key : Lk R.length (joinL L j i) u v := Conn.least (P := Lk R.length (joinL L j i)) h' (fun _ => Lk.refl _) (fun _ _ h => h.symm) (fun _ _ _ h k => h.trans k) (by
      have old : ∀ {p q}, Lk R.length L p q → Lk R.length (joinL L j i) p q := fun h => (Lk_join s.good.len hl.1 hl.2).2 (.inl h)
      have ji : Lk R.length (joinL L j i) j i := (Lk_join s.good.len hl.1 hl.2).2 (.inr (.inl ⟨Lk.refl _, Lk.refl _⟩))
      rintro p q (h1 | ⟨h1, h2, h3⟩)
      · exact old ((s.alike p q).2 (Conn.base (.inl h1)))
      · rcases List.mem_append.1 h1 with h1 | h1
        · rcases List.mem_append.1 h2 with h2 | h2
          · exact old ((s.alike p q).2 (Conn.base (.inr ⟨h1, h2, h3⟩)))
          · rw [List.mem_singleton.1 h2] at h3 ⊢
            exact (old ((s.alike p j).2 (Conn.base (.inr ⟨h1, hj, h3.trans h.symm⟩)))).trans ji
        · rw [List.mem_singleton.1 h1] at h3 ⊢
          rcases List.mem_append.1 h2 with h2 | h2
          · exact (ji.symm).trans (old ((s.alike j q).2 (Conn.base (.inr ⟨hj, h2, h.trans h3⟩))))
          · rw [List.mem_singleton.1 h2]; exact Lk.refl _)
    exact (Lk_join s.good.len hl.1 hl.2).1 key

theorem bs_next (s : Bs R x D L) (hD : ∀ i e, R[i]? = some e → tch e x → i ∈ D) : Bs R (x + 1) [] L := by
  refine ⟨s.good, fun u v => ?_⟩
  rw [s.alike]
  constructor
  · intro h
    refine Conn.lift h ?_
    rintro p q (⟨y, hy, h⟩ | ⟨_, _, h3⟩)
    · exact Conn.base (.inl ⟨y, by omega, h⟩)
    · exact Conn.base (.inl ⟨x, by omega, h3⟩)
  · intro h
    refine Conn.lift h ?_
    rintro p q (⟨y, hy, h⟩ | ⟨h, _⟩)
    · by_cases c : y = x
      · rw [c] at h
        obtain ⟨e, f, h1, h2, h3, h4, _⟩ := id h
        exact Conn.base (.inr ⟨hD p e h1 h3, hD q f h2 h4, h⟩)
      · exact Conn.base (.inl ⟨y, by omega, h⟩)
    · simp at h

theorem bs_end {n : Nat} (s : Bs R n [] L) (hin : ∀ e ∈ R, ea e < n ∧ eb e < n) (u v : Nat) : Lk R.length L u v ↔ Blk R u v := by
  rw [s.alike]
  constructor
  · intro h
    refine Conn.lift h ?_
    rintro p q (⟨y, _, h⟩ | ⟨h, _⟩)
    · exact Conn.base ⟨y, h⟩
    · simp at h
  · intro h
    refine Conn.lift h ?_
    rintro p q ⟨y, h⟩
    obtain ⟨e, f, h1, h2, h3, h4, _⟩ := id h
    have := hin e (List.mem_of_getElem? h1)
    refine Conn.base (.inl ⟨y, ?_, h⟩)
    unfold tch at h3
    omega

/-- The first edges of the parts at a node: a part, and the place of the edge that came first. -/
def lb (R : List (Int × Int × Int)) (x : Nat) (K : List Nat) (j : Nat) : Nat := K.getD (ot (R.getD j (0, 0, 0)) x) 0

structure Gth (R : List (Int × Int × Int)) (x : Nat) (K D : List Nat) (ks : List (Nat × Nat)) : Prop where
  nd : ks.Pairwise fun p q => p.1 ≠ q.1
  at_ : ∀ p ∈ ks, p.2 ∈ D ∧ lb R x K p.2 = p.1
  all : ∀ j ∈ D, ∃ p ∈ ks, p.1 = lb R x K j

theorem gth_start (R : List (Int × Int × Int)) (x : Nat) (K : List Nat) : Gth R x K [] [] := ⟨.nil, by simp, by simp⟩

theorem gth_new {K : List Nat} {ks : List (Nat × Nat)} (g : Gth R x K D ks) (hno : ∀ p ∈ ks, p.1 ≠ lb R x K i) : Gth R x K (D ++ [i]) (ks ++ [(lb R x K i, i)]) := by
  refine ⟨?_, ?_, ?_⟩
  · rw [List.pairwise_append]
    exact ⟨g.nd, List.pairwise_singleton _ _, fun p hp q hq => by rw [List.mem_singleton.1 hq]; exact hno p hp⟩
  · intro p hp
    rcases List.mem_append.1 hp with h | h
    · exact ⟨List.mem_append_left _ (g.at_ p h).1, (g.at_ p h).2⟩
    · rw [List.mem_singleton.1 h]; exact ⟨by simp, rfl⟩
  · intro j hj
    rcases List.mem_append.1 hj with h | h
    · obtain ⟨p, h1, h2⟩ := g.all j h
      exact ⟨p, List.mem_append_left _ h1, h2⟩
    · rw [List.mem_singleton.1 h]; exact ⟨(lb R x K i, i), by simp, rfl⟩

theorem gth_old {K : List Nat} {ks : List (Nat × Nat)} (g : Gth R x K D ks) {p : Nat × Nat} (hp : p ∈ ks) (h : p.1 = lb R x K i) : Gth R x K (D ++ [i]) ks := by
  refine ⟨g.nd, fun p hp => ⟨List.mem_append_left _ (g.at_ p hp).1, (g.at_ p hp).2⟩, ?_⟩
  intro j hj
  rcases List.mem_append.1 hj with h' | h'
  · exact g.all j h'
  · rw [List.mem_singleton.1 h']; exact ⟨p, hp, h⟩

theorem getD_of {i : Nat} (h : R[i]? = some e) : R.getD i (0, 0, 0) = e := by simp [h]

/-- Labels of the nodes without one: alike just if together. -/
def Kx (n : Nat) (R : List (Int × Int × Int)) (x : Nat) (K : List Nat) : Prop := ∀ u v, u < n → v < n → (K.getD u 0 = K.getD v 0 ↔ cnR (wo R x) u v)

theorem ot_lt {n : Nat} (hin : ∀ e ∈ R, ea e < n ∧ eb e < n) (he : e ∈ R) : ot e x < n := by
  have := hin e he
  unfold ot; split <;> omega

theorem Rx_lb {n : Nat} {K : List Nat} (hK : Kx n R x K) (hin : ∀ e ∈ R, ea e < n ∧ eb e < n) (hi : R[i]? = some e) (hj : R[j]? = some f) (he : tch e x) (hf : tch f x) : Rx R x i j ↔ lb R x K i = lb R x K j := by
  unfold lb
  rw [getD_of hi, getD_of hj, hK _ _ (ot_lt hin (List.mem_of_getElem? hi)) (ot_lt hin (List.mem_of_getElem? hj))]
  constructor
  · rintro ⟨e', f', h1, h2, _, _, h5⟩
    rw [hi] at h1; rw [hj] at h2; cases h1; cases h2; exact h5
  · exact fun h => ⟨e, f, hi, hj, he, hf, h⟩

/-- A node with edges into several parts is one that parts. -/
theorem gth_cut {n : Nat} {K : List Nat} {ks : List (Nat × Nat)} (g : Gth R x K D ks) (hK : Kx n R x K) (hin : ∀ e ∈ R, ea e < n ∧ eb e < n) (hD : ∀ i, i ∈ D ↔ ∃ e, R[i]? = some e ∧ tch e x) :
    1 < ks.length ↔ ∃ e ∈ R, ∃ f ∈ R, tch e x ∧ tch f x ∧ ¬ cnR (wo R x) (ot e x) (ot f x) := by
  have key : ∀ {i j e f}, R[i]? = some e → R[j]? = some f → (lb R x K i = lb R x K j ↔ cnR (wo R x) (ot e x) (ot f x)) := by
    intro i j e f hi hj
    unfold lb
    rw [getD_of hi, getD_of hj, hK _ _ (ot_lt hin (List.mem_of_getElem? hi)) (ot_lt hin (List.mem_of_getElem? hj))]
  constructor
  · intro h
    match ks, g, h with
    | p :: q :: r, g, _ =>
      have h1 := g.at_ p (by simp)
      have h2 := g.at_ q (by simp)
      obtain ⟨e, he, ht⟩ := (hD _).1 h1.1
      obtain ⟨f, hf, ht'⟩ := (hD _).1 h2.1
      refine ⟨e, List.mem_of_getElem? he, f, List.mem_of_getElem? hf, ht, ht', fun c => ?_⟩
      rw [← key he hf, h1.2, h2.2] at c
      exact (List.pairwise_cons.1 g.nd).1 q (by simp) c
  · rintro ⟨e, he, f, hf, ht, ht', h⟩
    obtain ⟨i, hi⟩ := List.getElem?_of_mem he
    obtain ⟨j, hj⟩ := List.getElem?_of_mem hf
    obtain ⟨p, hp, hp'⟩ := g.all i ((hD i).2 ⟨e, hi, ht⟩)
    obtain ⟨q, hq, hq'⟩ := g.all j ((hD j).2 ⟨f, hj, ht'⟩)
    rw [← key hi hj, ← hp', ← hq'] at h
    match ks, hp, hq with
    | [], hp, _ => simp at hp
    | [r], hp, hq =>
      rw [List.mem_singleton.1 hp, List.mem_singleton.1 hq] at h
      exact absurd rfl h
    | _ :: _ :: _, _, _ => simp

/-- The document's labels of edges: each is one of its block. -/
def Lbs (R : List (Int × Int × Int)) (l : List Nat) : Prop := l.length = R.length ∧ ∀ i, i < R.length → l.getD i 0 ≤ i ∧ Blk R i (l.getD i 0)

theorem lbs_start (R : List (Int × Int × Int)) : Lbs R (List.range R.length) := ⟨by simp, fun i hi => by
  have e : (List.range R.length).getD i 0 = i := by simp [hi]
  rw [e]; exact ⟨Nat.le_refl _, Conn.refl _⟩⟩

theorem lbs_step {l : List Nat} (h : Lbs R l) (hr : Rx R x i k) (hlt : l.getD i 0 < l.getD k 0) : Lbs R (l.set k (l.getD i 0)) ∧ (l.set k (l.getD i 0)).sum < l.sum := by
  have hl := hr.lt
  refine ⟨⟨by simp [h.1], fun j hj => ?_⟩, ?_⟩
  · by_cases c : k = j
    · subst c
      have e : (l.set k (l.getD i 0)).getD k 0 = l.getD i 0 := by simp [h.1, hl.2]
      rw [e]
      have h1 := h.2 k hl.2
      exact ⟨by omega, (Conn.base ⟨x, hr.symm⟩ : Blk R k i).trans (h.2 i hl.1).2⟩
    · have e : (l.set k (l.getD i 0)).getD j 0 = l.getD j 0 := by simp [c]
      rw [e]; exact h.2 j hj
  · have := sum_set l k (l.getD i 0) (by rw [h.1]; exact hl.2)
    omega

theorem lbs_done {l : List Nat} (h : Lbs R l) (hd : ∀ x i k, Rx R x i k → ¬ l.getD i 0 < l.getD k 0) : Good R.length l ∧ ∀ u v, Lk R.length l u v ↔ Blk R u v := by
  have hiff : ∀ u v, Lk R.length l u v ↔ Blk R u v := by
    intro u v
    constructor
    · rintro (rfl | ⟨h1, h2, h3⟩)
      · exact Conn.refl _
      · have a := (h.2 u h1).2
        have b := (h.2 v h2).2
        rw [h3] at a
        exact Conn.trans a (Conn.symm b)
    · intro k
      exact Conn.least (P := Lk R.length l) k (fun _ => Lk.refl _) (fun _ _ h => h.symm) (fun _ _ _ h k => h.trans k) (by
        rintro p q ⟨x, hr⟩
        have h1 := hd x p q hr
        have h2 := hd x q p hr.symm
        exact .inr ⟨hr.lt.1, hr.lt.2, by omega⟩)
  refine ⟨⟨h.1, fun i hi => (h.2 i hi).1, fun i hi => ?_⟩, hiff⟩
  have h1 := (hiff i (l.getD i 0)).2 (h.2 i hi).2
  rcases h1 with h1 | ⟨_, _, h3⟩
  · rw [← h1, ← h1]
  · exact h3.symm

/-- The program's labels and the document's are one. -/
theorem bs_lbs {n : Nat} {l : List Nat} (s : Bs R n [] L) (hin : ∀ e ∈ R, ea e < n ∧ eb e < n) (g : Good R.length l) (h : ∀ u v, Lk R.length l u v ↔ Blk R u v) : L = l :=
  good_eq s.good g (fun u v => (bs_end s hin u v).trans (h u v).symm)

end

end Go.Proofs.YtebcjaenhiiflaaGreatDoor.S
namespace Go.Proofs.YtebcjaenhiiflaaGreatDoor.S
open Go.RowKit Go.WideMaps Go.Maps

theorem Ed.nat {n i : Nat} {L : List (Int × Int × Int)} (h : Ed n i L) {e : Int × Int × Int} (he : e ∈ L) : e.2.1 = (ea e : Int) ∧ e.2.2 = (eb e : Int) ∧ ea e < n ∧ eb e < n ∧ ea e < eb e := by
  obtain ⟨x, y, hxy, hy, hq⟩ := h.ends e he
  have h1 : e.2.1 = (x : Int) := by rw [hq]
  have h2 : e.2.2 = (y : Int) := by rw [hq]
  have h3 : ea e = x := by unfold ea; rw [h1]; simp
  have h4 : eb e = y := by unfold eb; rw [h2]; simp
  rw [h3, h4]
  exact ⟨h1, h2, by omega, by omega, by omega⟩

theorem Ed.inn {n i : Nat} {L : List (Int × Int × Int)} (h : Ed n i L) : ∀ e ∈ L, ea e < n ∧ eb e < n := fun _ he => ⟨(h.nat he).2.2.1, (h.nat he).2.2.2.1⟩
theorem Ed.proper {n i : Nat} {L : List (Int × Int × Int)} (h : Ed n i L) : ∀ e ∈ L, ea e ≠ eb e := fun e he => by have := (h.nat he).2.2.2.2; omega

theorem wo_stays {n i : Nat} {L : List (Int × Int × Int)} (h : Ed n i L) (x : Nat) (Fe : Nat → Int) : L.filter (G.stays Fe (fun _ => (x : Int)) 0 1) = wo L x := by
  unfold wo
  apply List.filter_congr
  intro e he
  have hn := h.nat he
  unfold G.stays G.among
  rw [hn.1, hn.2.1, Bool.eq_iff_iff]
  simp
  omega

theorem kx_joins {n i : Nat} {L : List (Int × Int × Int)} (h : Ed n i L) (x : Nat) : Good n (joins (List.range n) (wo L x)) ∧ Kx n L x (joins (List.range n) (wo L x)) := by
  have hin : ∀ d ∈ wo L x, ea d < n ∧ eb d < n := fun d hd => h.inn d (mem_wo.1 hd).1
  have hg := good_joins (wo L x) _ (good_range n) hin
  refine ⟨hg, fun u v hu hv => ?_⟩
  rw [← Lk.iff hu hv, Lk_joins (wo L x) _ (good_range n) hin]
  constructor
  · intro c
    refine Conn.lift c ?_
    rintro p q (c | ⟨e, he, rfl, rfl⟩)
    · rcases c with rfl | ⟨h1, h2, h3⟩
      · exact Conn.refl _
      · have e1 : (List.range n).getD p 0 = p := by simp [h1]
        have e2 : (List.range n).getD q 0 = q := by simp [h2]
        rw [e1, e2] at h3; subst h3; exact Conn.refl _
    · exact cn_edge he
  · intro c
    refine Conn.lift c ?_
    rintro p q ⟨e, he, rfl, rfl⟩
    exact Conn.base (.inr ⟨e, he, rfl, rfl⟩)

theorem But.cell {b : Nat} {w w' : World} (h : But b w w') {g i : Nat} {v : Value} (hg : w.cell? ⟨g, i, none⟩ = some v) (h1 : g ≠ b) : w'.cell? ⟨g, i, none⟩ = some v := by
  have hl := lt_of_cell hg
  simp only [World.cell?] at hg ⊢
  rw [h.block g hl h1]; exact hg

theorem joins_snoc (L : List Nat) (ds : List (Int × Int × Int)) (d : Int × Int × Int) : joins L (ds ++ [d]) = joinL (joins L ds) (ea d) (eb d) := by
  rw [joins_append]; rfl

set_option maxHeartbeats 2000000 in
set_option maxRecDepth 100000 in
theorem bwo_any (x n B0 q M : Nat) (u : Value) (R : List (Int × Int × Int)) (w : World) (h : G.GAt w B0 168 61 q (n : Int) u R) (hn : n ≤ 40) (hed : Ed n M R) (hM : M ≤ 120) :
    Calls Tryz.prog 246 #[.pointer (some ⟨q, 0, none⟩), .int .i64 (x : Int)] w fun e w' => ∃ p b K, e = .returned (.pointer (some ⟨p, 0, none⟩)) ∧ SetsAt w' p b K ∧ Good n K ∧ Kx n R x K ∧ Below w.heap.size w w' ∧ w.heap.size ≤ p ∧ w.heap.size ≤ b := by
  have HG : Hid (G.GAt w B0 168 61 q (n : Int) u R) := h
  have HE : Hid (Ed n M R) := hed
  have HKX := (show Hid _ from kx_joins hed x)
  have hlen := hed.len
  clear h hed
  go_enter Tryz.func246, Tryz.ntmps246
  go_wp2_with fail
  refine (G.nodes_any (n : Int) B0 q u R w HG.out).mono ?_
  rintro e w1 ⟨rfl, hw1⟩
  subst hw1
  go_wp2_with fail
  refine (new_in n w1 hn).mono ?_
  rintro e w2 ⟨rfl, hs2, hb2⟩
  have HS2 : Hid (SetsAt w2 (w1.heap.size + 1) w1.heap.size (List.range n) ∧ Below w1.heap.size w1 w2) := ⟨hs2, hb2⟩
  have hsz : w1.heap.size + 1 < w2.heap.size := hs2.plt
  obtain ⟨W1, hW1⟩ : ∃ W1, W1 = w2.alloc (.cells #[.int .i64 (x : Int)] 3) := ⟨_, rfl⟩
  have hbW : Below w2.heap.size w2 W1 := by rw [hW1]; exact (Below.refl _ _).alloc (Nat.le_refl _) _
  have hcW : W1.cell? ⟨w2.heap.size, 0, none⟩ = some (.int .i64 (x : Int)) := by rw [hW1, World.cell?_alloc_at _ _ _ _ rfl]; rfl
  have HW1 : Hid (w2.alloc (.cells #[.int .i64 (x : Int)] 3) = W1) := hW1.symm
  have HBW : Hid (Below w2.heap.size w2 W1 ∧ W1.cell? ⟨w2.heap.size, 0, none⟩ = some (.int .i64 (x : Int))) := ⟨hbW, hcW⟩
  clear hs2 hb2 hW1 hbW hcW
  go_wp2_with fail
  rw [HW1.out]
  refine (G.without_any (n : Int) B0 q u R none (some ⟨w2.heap.size, 0, none⟩) 0 1 0 1 (fun _ => 0) (fun _ => (x : Int)) W1 ((HG.out.below HS2.out.2).below HBW.out.1) (by omega) ⟨fun h => by omega⟩ ⟨fun _ => ⟨w2.heap.size, 0, rfl, fun t ht => by
    obtain rfl : t = 0 := by omega
    exact HBW.out.2⟩⟩ (by omega) (by omega)).mono ?_
  rintro e w3 ⟨p', v', rfl, hg3, hb3⟩
  rw [wo_stays HE.out] at hg3
  have HG3 : Hid (G.GAt w3 W1.heap.size 168 61 p' (n : Int) v' (wo R x)) := hg3
  have HB3 : Hid (Below w2.heap.size w2 w3) := HBW.out.1.trans (hb3.mono HBW.out.1.size)
  have hwl : (wo R x).length ≤ R.length := List.length_filter_le _ _
  clear hg3 hb3 HBW HW1
  go_wp2_with fail
  refine (G.edges_any (n : Int) _ p' v' (wo R x) w3 HG3.out (by omega)).mono ?_
  rintro e w4 ⟨v, rfl, ho, hb4⟩
  obtain ⟨m, hm⟩ : ∃ m, m = (wo R x).length := ⟨_, rfl⟩
  have HM' : Hid (m = (wo R x).length) := hm
  obtain ⟨va, vc, hv⟩ := ho.slice_len
  rw [← hm] at hv hwl
  subst hv
  have HO : Hid (G.Owns w4 w3.heap.size 61 (.slice va m vc) (wo R x)) := ho
  have HB4 : Hid (Below w2.heap.size w2 w4) := HB3.out.trans (hb4.mono HB3.out.size)
  have HS4 : Hid (SetsAt w4 (w1.heap.size + 1) w1.heap.size (List.range n)) := HS2.out.1.below HB4.out hsz (by omega)
  have hs34 : w2.heap.size ≤ w3.heap.size := HB3.out.size
  clear ho hb4 hm
  go_wp2_with fail
  go_loopw [21] (fun s21 wq => ∃ j : Nat, j ≤ m ∧ s21 = .int .i64 j ∧ SetsAt wq (w1.heap.size + 1) w1.heap.size (joins (List.range n) ((wo R x).take j)) ∧ But w1.heap.size w4 wq) (fun s21 _ => m - (intOf s21).toNat)
  case atStart => exact ⟨0, Nat.zero_le _, rfl, by simpa [joins] using HS4.out, But.refl _ _⟩
  case round =>
    clear HS4
    obtain ⟨j, hj, rfl, hs, hk⟩ := hrel
    have HR : Hid (SetsAt wr (w1.heap.size + 1) w1.heap.size (joins (List.range n) ((wo R x).take j)) ∧ But w1.heap.size w4 wr) := ⟨hs, hk⟩
    clear hs hk
    by_cases hlt : j < m
    · obtain ⟨e, hxe⟩ : ∃ e, (wo R x)[j]? = some e := ⟨_, List.getElem?_eq_getElem (by rw [← HM'.out]; exact hlt)⟩
      have heL := (mem_wo.1 (List.mem_of_getElem? hxe)).1
      have hnat := HE.out.nat heL
      obtain ⟨g, hva⟩ : ∃ g, va = some ⟨g, 0, none⟩ := by
        rcases HO.out.shape with ⟨_, k⟩ | ⟨g, cap, k, _⟩
        · rw [k] at hxe; simp at hxe
        · injection k with e1 _ _
          exact ⟨g, e1⟩
      subst hva
      obtain ⟨r0, r1, r2⟩ := HO.out.at (g := g) rfl hxe
      have hgb := World.ownsRow.lt HO.out g rfl
      have q0 := (HR.out.2.cell (g := g) r0 (by omega))
      have q1 := (HR.out.2.cell (g := g) r1 (by omega))
      have q2 := (HR.out.2.cell (g := g) r2 (by omega))
      have HTK : Hid ((wo R x).take (j + 1) = (wo R x).take j ++ [e]) := by
        show (wo R x).take (j + 1) = _
        rw [List.take_add_one, hxe]; rfl
      rw [hnat.1] at q1
      rw [hnat.2.1] at q2
      obtain ⟨hA, hE, hAE⟩ := hnat.2.2
      have HAE : Hid (joins (List.range n) ((wo R x).take (j + 1)) = joinL (joins (List.range n) ((wo R x).take j)) (ea e) (eb e)) := by
        show joins _ _ = _
        rw [HTK.out, joins_snoc]
      have hgl : (joins (List.range n) ((wo R x).take j)).length = n := (good_joins ((wo R x).take j) _ (good_range n) (fun d hd => HE.out.inn d (mem_wo.1 (List.mem_of_mem_take hd)).1)).len
      generalize ea e = A at *
      generalize eb e = E at *
      generalize e.1 = x0 at *
      generalize joins (List.range n) ((wo R x).take j) = J at *
      clear hxe r0 r1 r2 heL hnat HTK
      -- the edge's box
      obtain ⟨W1, hW1⟩ : ∃ W1, W1 = wr.alloc (.cells #[.int .i64 x0, .int .i64 (A : Int), .int .i64 (E : Int)] 61) := ⟨_, rfl⟩
      have hh : W1.heap[wr.heap.size]? = some (.cells #[.int .i64 x0, .int .i64 (A : Int), .int .i64 (E : Int)] 61) := by rw [hW1]; exact heap_alloc_new wr _
      have p0 : W1.cell? ⟨wr.heap.size, 0, none⟩ = some (.int .i64 x0) := by simp [World.cell?, hh]
      have p1 : W1.cell? ⟨wr.heap.size, 1, none⟩ = some (.int .i64 (A : Int)) := by simp [World.cell?, hh]
      have p2 : W1.cell? ⟨wr.heap.size, 2, none⟩ = some (.int .i64 (E : Int)) := by simp [World.cell?, hh]
      have hbW : Below wr.heap.size wr W1 := by rw [hW1]; exact (Below.refl _ _).alloc (Nat.le_refl _) _
      have HR1 : Hid (SetsAt W1 (w1.heap.size + 1) w1.heap.size J ∧ But w1.heap.size w4 W1) := ⟨HR.out.1.below hbW HR.out.1.plt HR.out.1.blt, HR.out.2.trans (But.of_below hbW)⟩
      have HW1 : Hid (wr.alloc (.cells #[.int .i64 x0, .int .i64 (A : Int), .int .i64 (E : Int)] 61) = W1) := hW1.symm
      clear hh hW1 hbW HR
      go_wp2_with fail
      rw [HW1.out]
      refine (join_nm A E _ _ J _ W1 HR1.out.1 (by omega) (by omega) (by omega) rfl).mono ?_
      rintro e' w5 ⟨rfl, hs5, hk5⟩
      have HR5 : Hid (SetsAt w5 (w1.heap.size + 1) w1.heap.size (joins (List.range n) ((wo R x).take (j + 1))) ∧ But w1.heap.size w4 w5) := by
        rw [HAE.out]
        exact ⟨hs5, HR1.out.2.trans hk5⟩
      clear hs5 hk5 HR1 p0 p1 p2
      go_wp2_with fail
      go_roundw
      case rel => exact ⟨j + 1, by omega, by go_num, HR5.out.1, HR5.out.2⟩
      case measure => simp [intOf]; omega
    · have hje : j = m := by omega
      subst hje
      have HF : Hid (SetsAt wr (w1.heap.size + 1) w1.heap.size (joins (List.range n) (wo R x))) := by
        have := HR.out.1
        rw [List.take_of_length_le (by rw [← HM'.out]; omega)] at this
        exact this
      have HBF : Hid (Below w1.heap.size w1 wr) := (HS2.out.2.trans (HB4.out.mono HS2.out.2.size)).trans (HR.out.2.below (Nat.le_refl _) (by have := HB4.out.size; omega))
      clear HR
      go_wp2_with fail
      go_ret
      exact ⟨_, _, _, rfl, HF.out, HKX.out.1, HKX.out.2, HBF.out, Nat.le_succ _, Nat.le_refl _⟩

end Go.Proofs.YtebcjaenhiiflaaGreatDoor.S
namespace Go.Proofs.YtebcjaenhiiflaaGreatDoor.S
open Go Go.ChangeMaps Go.MapKept Go.WideShapes
open Go.WideElems (Fit rd rg pl rd_key rd_val rg_of rd_mk other_key)
open Go.Maps (Keyed)

section
variable {H : Type} {P : Program} {k : TypeId} {R : Value → Option (DataW H × List MemPlace)} {w : World} {b r n : Nat} {D : DataW H} {left : Lit → Bool} {cnt : Nat}

theorem ranges_store {t e : TypeId} (h : w.ranges P k R b r n D left cnt) (K : Keyed P k) (ht : P.underlying t = some (.map k e)) {key val : Value} {kl : Lit} {d : DataW H} {ps : List MemPlace}
    (hkey : keyOf P k key = some kl) (hv : R val = some (d, ps)) (hhas : Maps.has D kl = true) :
    ∃ w', (Instr.mapUpdate t (.map (some b)) key val).run P w = .ok () w' ∧ w'.ranges P k R b r n (D.put kl d) left cnt ∧ w.mapTurned w' b := by
  have hne := h.ne
  obtain ⟨es, clock, since, seen, c0, hb, F, hs, rfl, hr, hold, rfl, hl1, hl2, hsc, hsk⟩ := h
  rcases K.find w hkey es.toList F.keys with ⟨h1, h2⟩ | ⟨j, e0, h1, h2, h3⟩
  · exfalso
    rw [Maps.has_eq, List.any_eq_true] at hhas
    obtain ⟨p, hp, hpk⟩ := hhas
    obtain ⟨x, hx, rfl⟩ := List.mem_map.1 (mem_sorted.1 hp)
    obtain ⟨y, hy⟩ := F.reads x hx
    have e1 := WideAt.sameKey_eq hpk
    rw [rg_of hy] at e1
    exact h2 x hx (K.inj (e1 ▸ rd_key hy) hkey)
  · have hj : es[j]? = some e0 := by simpa using h2
    have hjl : j < es.toList.length := (List.getElem?_eq_some_iff.1 h2).1
    have hkeyf : ∀ e', es[j]? = some e' → ({ e' with key := key, val := val } : MapEntry).key = e'.key := fun e' he' => by rw [hj] at he'; cases he'; exact h3.symm
    have hlist : (es.modify j (fun e' => { e' with key := key, val := val })).toList = es.toList.set j { e0 with key := key, val := val } := by rw [Array.toList_modify, modify_eq_set _ _ _ _ h2]
    have who : ∀ x ∈ es.toList.set j { e0 with key := key, val := val }, x = { e0 with key := key, val := val } ∨ (x ∈ es.toList ∧ x.key ≠ key) := by
      intro x hx
      obtain ⟨i, hi, ex⟩ := List.getElem_of_mem hx
      rw [List.getElem_set] at ex
      split at ex
      · exact Or.inl ex.symm
      · rename_i hne
        have hi' : i < es.toList.length := by simpa using hi
        refine Or.inr ⟨ex ▸ List.getElem_mem hi', ?_⟩
        rw [← h3]
        exact other_key F h2 (by rw [List.getElem?_eq_getElem hi', ex]) (fun e1 => hne e1.symm)
    have he0 : e0 ∈ es.toList := List.mem_of_getElem? h2
    have hrg0 : (rg P k R e0).1 = kl := by
      obtain ⟨y, hy⟩ := F.reads e0 he0
      have m0 := rd_key hy
      rw [h3, hkey] at m0
      rw [rg_of hy]; exact (Option.some.inj m0).symm
    have hrgn : (rg P k R { e0 with key := key, val := val }).1 = kl := by rw [rg_of (rd_mk hkey hv)]
    refine ⟨_, ?_, ⟨es.modify j (fun e' => { e' with key := key, val := val }), clock, since, seen, c0, heap_setBlock_same hb _, ⟨by simpa using F.size, stamped_modify F.stamped _ _ (fun _ _ => rfl) (fun e' _ he' => hkeyf e' he'), ?_⟩, by simpa using hs, ?_, (heap_setBlock_other hb _ hne).trans hr, ?_, ?_, ?_, ?_, hsc, hsk⟩, ⟨es, clock, _, clock, hb, rfl⟩⟩
    · simp [Instr.mapUpdate, run_underlying ht, MapKept.run_getObj_map hb, K.check w false hkey, h1, hj, h3, K.stays w hkey, MapKept.run_setObj_map _ hb, Result.andThen, setBlock]
    · intro x hx
      rw [hlist] at hx
      rcases who x hx with rfl | ⟨hx', _⟩
      · exact ⟨_, rd_mk hkey hv⟩
      · exact F.reads x hx'
    · rw [DataW.put_eq]
      congr 1
      symm
      refine Maps.sorted_put K.one ⟨key, hkey⟩ (Maps.fit_keys F) (Maps.fit_apart K F) ?_
      rw [Maps.filter_one K F hkey h2 h3, hlist, List.map_set, rg_of (rd_mk hkey hv)]
      exact set_perm _ _ (by simpa using hjl) _
    · intro x hx
      rw [hlist] at hx
      rcases who x hx with rfl | ⟨hx', _⟩
      · exact hold e0 he0
      · exact hold x hx'
    · have e1 : ∀ a : Array MapEntry, (leftOf a seen).size = ((a.toList.map MapEntry.born).filter fun e => !seen.contains e).length := fun a => by
        unfold leftOf
        rw [← Array.length_toList, Array.toList_filter, List.filter_map, List.length_map]
        rfl
      rw [e1, e1, hlist, List.map_set]
      have e2 : (es.toList.map MapEntry.born).set j e0.born = es.toList.map MapEntry.born := by
        apply List.ext_getElem
        · simp
        · intro i h1' h2'
          rw [List.getElem_set]
          split
          · next hji =>
            subst hji
            rw [List.getElem_map]
            have := (List.getElem?_eq_some_iff.1 h2).2
            rw [this]
          · rfl
      rw [e2]
    · intro x hx
      rw [hlist] at hx
      rcases who x hx with rfl | ⟨hx', _⟩
      · rw [hrgn, ← hrg0, hl1 e0 he0]
      · exact hl1 x hx'
    · intro kl' hk
      obtain ⟨x, hx, rfl⟩ := hl2 kl' hk
      by_cases hxk : x.key = key
      · have : (rg P k R x).1 = kl := by
          obtain ⟨y, hy⟩ := F.reads x hx
          have m0 := rd_key hy
          rw [hxk, hkey] at m0
          rw [rg_of hy]; exact (Option.some.inj m0).symm
        refine ⟨{ e0 with key := key, val := val }, ?_, by rw [hrgn, this]⟩
        rw [hlist]
        exact List.mem_iff_getElem.2 ⟨j, by simpa using hjl, by simp⟩
      · refine ⟨x, ?_, rfl⟩
        rw [hlist]
        obtain ⟨i, hi⟩ := List.getElem?_of_mem hx
        obtain ⟨hil, hie⟩ := List.getElem?_eq_some_iff.1 hi
        have hij : j ≠ i := by
          rintro rfl
          rw [h2] at hi; cases hi; exact hxk h3
        exact List.mem_iff_getElem.2 ⟨i, by simpa using hil, by rw [List.getElem_set, if_neg hij]; exact hie⟩

end

section
variable {H : Type} {P : Program} (w : World) {ops : Array Oper} {rest : List Oper} {o : Oper} {a : Act} {Q : Exit → Act → World → Prop}

theorem wpList_mapUpdate_ranges (hg : o.guard = none) (m x v : Operand) (t : TypeId) (hop : o.op = Op.mapUpdate t m x v)
    (k e : TypeId) (K : Keyed P k) (ht : P.underlying t = some (.map k e)) (R : Value → Option (DataW H × List MemPlace)) (b r n : Nat) (D : DataW H) (left : Lit → Bool) (cnt : Nat)
    (hm : a.eval m = .map (some b)) (h : w.ranges P k R b r n D left cnt) (key val : Value) (kl : Lit) (hx : a.eval x = key) (hv : a.eval v = val) (hkey : keyOf P k key = some kl)
    (d : DataW H) (ps : List MemPlace) (hval : R val = some (d, ps)) (hhas : Maps.has D kl = true)
    (hK : ∀ w', w'.ranges P k R b r n (D.put kl d) left cnt → w.mapTurned w' b → wpList P ops Q rest (a.put o.dst undef) w') :
    wpList P ops Q (o :: rest) a w := by
  refine wpList_plain hg fun K' hK' => ?_
  obtain ⟨w', hrun, r1, r2⟩ := ranges_store h K ht hkey hval hhas
  unfold Oper.wp
  simp [execOp, hop, hm, hx, hv, hrun, Result.andThen]
  exact hK' _ _ (hK w' r1 r2)

end

end Go.Proofs.YtebcjaenhiiflaaGreatDoor.S
namespace Go.Proofs.YtebcjaenhiiflaaGreatDoor.S
open Go.RowKit Go.WideMaps Go.Maps

/-- The number of the edge at a place. -/
def idAt (R : List (Int × Int × Int)) (j : Nat) : Int := (R.getD j (0, 0, 0)).1

theorem idAt_of {R : List (Int × Int × Int)} {i : Nat} {e : Int × Int × Int} (h : R[i]? = some e) : idAt R i = e.1 := by simp [idAt, h]

theorem idAt_lt {R : List (Int × Int × Int)} (hu : G.Up R) {i j : Nat} (h : i < j) (hj : j < R.length) : idAt R i < idAt R j := by
  have := List.pairwise_iff_getElem.1 hu i j (by omega) hj h
  simpa [idAt, hj, show i < R.length by omega] using this

theorem idAt_inj {R : List (Int × Int × Int)} (hu : G.Up R) {i j : Nat} (hi : i < R.length) (hj : j < R.length) (h : idAt R i = idAt R j) : i = j := by
  rcases Nat.lt_trichotomy i j with c | c | c
  · have := idAt_lt hu c hj; omega
  · exact c
  · have := idAt_lt hu c hi; omega

/-- The map has of each edge's number the one of the least edge that it is alike with. -/
structure Lm (D : DataW Unit) (R : List (Int × Int × Int)) (L : List Nat) : Prop where
  key : ∀ x : Int, Maps.has D (.int .i64 x) = true ↔ ∃ e ∈ R, e.1 = x
  val : ∀ i e, R[i]? = some e → ∀ zd, D.atKey (.int .i64 e.1) zd = .lit (.int .i64 (idAt R (L.getD i 0)))

/-- The Blocks value. -/
structure BlAt (w : World) (p m N : Nat) (D : DataW Unit) (v : Value) : Prop where
  hp : w.heap[p]? = some (.cells #[.map (some m), v] 196)
  hm : w.ownsMap Tryz.prog 3 (plainElem Tryz.prog 3) m N D

namespace BlAt
variable {w w' : World} {p m N : Nat} {D D' : DataW Unit} {v : Value}
theorem plt (h : BlAt w p m N D v) : p < w.heap.size := lt_of_some h.hp
theorem c0 (h : BlAt w p m N D v) : w.cell? ⟨p, 0, none⟩ = some (.map (some m)) := by simp [World.cell?, h.hp]
theorem c1 (h : BlAt w p m N D v) : w.cell? ⟨p, 1, none⟩ = some v := by simp [World.cell?, h.hp]
theorem ne (h : BlAt w p m N D v) : p ≠ m := by
  obtain ⟨es, c, hb, _⟩ := h.hm
  rintro rfl
  rw [h.hp] at hb; simp at hb
theorem below (h : BlAt w p m N D v) (hb : Below w.heap.size w w') : BlAt w' p m N D v :=
  ⟨by rw [hb.block p h.plt]; exact h.hp, h.hm.kept (row := none) ⟨hb.os, hb.tape, hb.output, hb.size, fun k hk _ => hb.block k hk⟩ (by simp)⟩
theorem drewN (h : BlAt w p m N D v) (n : Nat) : BlAt (w.drewN n) p m N D v := ⟨h.hp, h.hm⟩
end BlAt

/-- A number is named anew. -/
def nm (lo hi l : Int) : Int := if l = hi then lo else l

theorem nm_id {R : List (Int × Int × Int)} {L : List Nat} (hu : G.Up R) (g : Good R.length L) {x y i : Nat} (hx : x < R.length) (hy : y < R.length) (hi : i < R.length) :
    nm (min (idAt R (L.getD x 0)) (idAt R (L.getD y 0))) (max (idAt R (L.getD x 0)) (idAt R (L.getD y 0))) (idAt R (L.getD i 0)) = idAt R ((joinL L x y).getD i 0) := by
  have lx := g.le x hx
  have ly := g.le y hy
  have li := g.le i hi
  rw [joinL_at _ _ _ _ (by rw [g.len]; exact hi)]
  generalize L.getD x 0 = X at *
  generalize L.getD y 0 = Y at *
  generalize L.getD i 0 = I at *
  have hmin : min (idAt R X) (idAt R Y) = idAt R (min X Y) := by
    rcases Nat.lt_trichotomy X Y with c | c | c
    · have := idAt_lt hu c (by omega); rw [Nat.min_eq_left (by omega)]; omega
    · subst c; rw [Nat.min_self]; omega
    · have := idAt_lt hu c (by omega); rw [Nat.min_eq_right (by omega)]; omega
  have hmax : max (idAt R X) (idAt R Y) = idAt R (max X Y) := by
    rcases Nat.lt_trichotomy X Y with c | c | c
    · have := idAt_lt hu c (by omega); rw [Nat.max_eq_right (by omega)]; omega
    · subst c; rw [Nat.max_self]; omega
    · have := idAt_lt hu c (by omega); rw [Nat.max_eq_left (by omega)]; omega
  rw [hmin, hmax]
  unfold nm named
  by_cases c : I = max X Y
  · rw [if_pos (by rw [c]), if_pos c]
  · rw [if_neg (fun k => c (idAt_inj hu (by omega) (by omega) k)), if_neg c]

/-- Amid the range over the map. -/
structure Mid (D : DataW Unit) (R : List (Int × Int × Int)) (L : List Nat) (lo hi : Int) (left : Lit → Bool) : Prop where
  key : ∀ x : Int, Maps.has D (.int .i64 x) = true ↔ ∃ e ∈ R, e.1 = x
  old : ∀ i e, R[i]? = some e → left (.int .i64 e.1) = true → ∀ zd, D.atKey (.int .i64 e.1) zd = .lit (.int .i64 (idAt R (L.getD i 0)))
  new : ∀ i e, R[i]? = some e → left (.int .i64 e.1) = false → ∀ zd, D.atKey (.int .i64 e.1) zd = .lit (.int .i64 (nm lo hi (idAt R (L.getD i 0))))

theorem mid_start {D : DataW Unit} {R : List (Int × Int × Int)} {L : List Nat} (h : Lm D R L) (lo hi : Int) : Mid D R L lo hi (Maps.has D) :=
  ⟨h.key, fun i e he _ => h.val i e he, fun i e he hl => by
    rw [(h.key e.1).2 ⟨e, List.mem_of_getElem? he, rfl⟩] at hl; cases hl⟩

theorem mid_end {D : DataW Unit} {R : List (Int × Int × Int)} {L : List Nat} {x y : Nat} {left : Lit → Bool} (hu : G.Up R) (g : Good R.length L) (hx : x < R.length) (hy : y < R.length)
    (h : Mid D R L (min (idAt R (L.getD x 0)) (idAt R (L.getD y 0))) (max (idAt R (L.getD x 0)) (idAt R (L.getD y 0))) left) (hl : ∀ kl, left kl = false) : Lm D R (joinL L x y) :=
  ⟨h.key, fun i e he zd => by
    rw [h.new i e he (hl _) zd, nm_id hu g hx hy (List.getElem?_eq_some_iff.1 he).1]⟩

theorem key_self (x y : Int) : (Lit.int .i64 x).sameKey (.int .i64 y) = decide (x = y) := by
  by_cases h : x = y
  · subst h; rw [WideAt.sameKey_self (isKeyLit x)]; simp
  · rw [sameKey_ne (by simpa using h)]; simp [h]

theorem up_one {R : List (Int × Int × Int)} (hu : G.Up R) {i j : Nat} {e f : Int × Int × Int} (hi : R[i]? = some e) (hj : R[j]? = some f) (h : e.1 = f.1) : i = j ∧ e = f := by
  have e1 := idAt_of hi
  have e2 := idAt_of hj
  have hij := idAt_inj hu (List.getElem?_eq_some_iff.1 hi).1 (List.getElem?_eq_some_iff.1 hj).1 (by rw [e1, e2, h])
  subst hij
  rw [hi] at hj; cases hj
  exact ⟨rfl, rfl⟩

/-- An entry that stays as it is. -/
theorem mid_stay {D : DataW Unit} {R : List (Int × Int × Int)} {L : List Nat} {lo hi : Int} {left : Lit → Bool} (hu : G.Up R) (h : Mid D R L lo hi left) {i : Nat} {e : Int × Int × Int} (he : R[i]? = some e) (hl : left (.int .i64 e.1) = true) (hne : idAt R (L.getD i 0) ≠ hi) :
    Mid D R L lo hi (fun z => left z && !z.sameKey (.int .i64 e.1)) := by
  refine ⟨h.key, fun j f hf hlf zd => ?_, fun j f hf hlf zd => ?_⟩
  · simp only [Bool.and_eq_true] at hlf
    exact h.old j f hf hlf.1 zd
  · by_cases c : f.1 = e.1
    · obtain ⟨rfl, rfl⟩ := up_one hu hf he c
      rw [h.old j f hf hl zd]
      unfold nm
      rw [if_neg hne]
    · simp only [key_self, c, decide_false, Bool.not_false, Bool.and_true] at hlf
      exact h.new j f hf hlf zd

/-- An entry that is named anew. -/
theorem mid_turn {D : DataW Unit} {R : List (Int × Int × Int)} {L : List Nat} {lo hi : Int} {left : Lit → Bool} (hD : IsMap D) (hu : G.Up R) (h : Mid D R L lo hi left) {i : Nat} {e : Int × Int × Int} (he : R[i]? = some e) (heq : idAt R (L.getD i 0) = hi) :
    Mid (D.put (.int .i64 e.1) (.lit (.int .i64 lo))) R L lo hi (fun z => left z && !z.sameKey (.int .i64 e.1)) := by
  refine ⟨fun x => ?_, fun j f hf hlf zd => ?_, fun j f hf hlf zd => ?_⟩
  · by_cases c : x = e.1
    · subst c
      rw [has_put_same hD (isKeyLit _)]
      exact ⟨fun _ => ⟨e, List.mem_of_getElem? he, rfl⟩, fun _ => rfl⟩
    · rw [has_put_other (by simpa using c)]; exact h.key x
  · by_cases c : f.1 = e.1
    · simp [key_self, c] at hlf
    · rw [atKey_put_other (by simpa using c)]
      simp only [Bool.and_eq_true] at hlf
      exact h.old j f hf hlf.1 zd
  · by_cases c : f.1 = e.1
    · obtain ⟨rfl, rfl⟩ := up_one hu hf he c
      rw [atKey_put_same hD (isKeyLit _)]
      unfold nm
      rw [if_pos heq]
    · rw [atKey_put_other (by simpa using c)]
      simp only [key_self, c, decide_false, Bool.not_false, Bool.and_true] at hlf
      exact h.new j f hf hlf zd

theorem But.next {m r : Nat} {w w1 w2 : World} (h : But m w w1) (hr : w.heap.size ≤ r) (hg : w1.grownBy w2 (some r)) : But m w w2 :=
  ⟨hg.os.trans h.os, hg.tape.trans h.tape, hg.output.trans h.output, Nat.le_trans h.size hg.size, fun k hk hn => (hg.block k (Nat.lt_of_lt_of_le hk h.size) (fun e => by injection e with e; omega)).trans (h.block k hk hn)⟩

theorem But.turned {m : Nat} {w w1 w2 : World} (h : But m w w1) (hg : w1.mapTurned w2 m) : But m w w2 :=
  ⟨hg.grown.os.trans h.os, hg.grown.tape.trans h.tape, hg.grown.output.trans h.output, Nat.le_trans h.size hg.grown.size, fun k hk hn => (hg.grown.block k (Nat.lt_of_lt_of_le hk h.size) (fun e => by injection e with e; omega)).trans (h.block k hk hn)⟩

theorem zero3 (w : World) : (zeroValue 3).run Tryz.prog w = .ok (.int .i64 0) w := by kernel_rfl

theorem lit_inj {a b : Int} (h : (DataW.lit (.int .i64 a) : DataW Unit) = .lit (.int .i64 b)) : a = b := by
  injection h with h
  injection h

/-- What is looked up. -/
theorem look_least {w : World} {m N : Nat} {D : DataW Unit} {R : List (Int × Int × Int)} {L : List Nat} (hm : w.ownsMap Tryz.prog 3 (plainElem Tryz.prog 3) m N D) (hl : Lm D R L) {i : Nat} {e : Int × Int × Int} (he : R[i]? = some e) (hw : (Lit.int .i64 e.1).wf = true) :
    (Instr.lookup 183 (.map (some m)) (.int .i64 e.1) false).run Tryz.prog w = .ok (.int .i64 (idAt R (L.getD i 0))) w := by
  obtain ⟨c, hrun, hat, _⟩ := hm.lookup_int law3 Tryz.underlying183 Tryz.underlying3 (zero3 w) (key3 e.1 hw)
  rw [hl.val i e he] at hat
  have : c = idAt R (L.getD i 0) := by
    have h2 := lit_inj hat
    exact h2.symm
  rw [hrun, this]

set_option maxHeartbeats 4000000 in
set_option maxRecDepth 100000 in
theorem bjoin_any {R : List (Int × Int × Int)} {L : List Nat} {e f : Int × Int × Int} (x y p m N : Nat) (D : DataW Unit) (v : Value) (w : World) (h : BlAt w p m N D v) (hl : Lm D R L) (g : Good R.length L) (hu : G.Up R) (hx : R[x]? = some e) (hy : R[y]? = some f) (hid : ∀ e ∈ R, 0 ≤ e.1 ∧ e.1 ≤ 1099511627776) :
    Calls Tryz.prog 249 #[.pointer (some ⟨p, 0, none⟩), .int .i64 e.1, .int .i64 f.1] w fun en w' => en = .returned (.tuple #[]) ∧ ∃ D', BlAt w' p m N D' v ∧ Lm D' R (joinL L x y) ∧ But m w w' := by
  have hxl := (List.getElem?_eq_some_iff.1 hx).1
  have hyl := (List.getElem?_eq_some_iff.1 hy).1
  have hwf : ∀ e ∈ R, (Lit.int .i64 e.1).wf = true := fun e he => wf_small (hid e he).1 (hid e he).2
  have hix : 0 ≤ idAt R (L.getD x 0) ∧ idAt R (L.getD x 0) ≤ 1099511627776 := by
    have hl := Nat.lt_of_le_of_lt (g.le x hxl) hxl
    have := idAt_of (List.getElem?_eq_getElem hl)
    rw [this]; exact hid _ (List.getElem_mem hl)
  have hiy : 0 ≤ idAt R (L.getD y 0) ∧ idAt R (L.getD y 0) ≤ 1099511627776 := by
    have hl := Nat.lt_of_le_of_lt (g.le y hyl) hyl
    have := idAt_of (List.getElem?_eq_getElem hl)
    rw [this]; exact hid _ (List.getElem_mem hl)
  have lk1 := fun n => look_least (h.drewN n).hm hl hx (hwf e (List.mem_of_getElem? hx))
  have lk2 := fun n => look_least (h.drewN n).hm hl hy (hwf f (List.mem_of_getElem? hy))
  have hc0 := h.c0
  have HB : Hid (BlAt w p m N D v) := h
  have HL : Hid (Lm D R L) := hl
  have HGD : Hid (Good R.length L ∧ G.Up R ∧ x < R.length ∧ y < R.length) := ⟨g, hu, hxl, hyl⟩
  have HWF : Hid (∀ e ∈ R, (Lit.int .i64 e.1).wf = true) := hwf
  obtain ⟨X, hX⟩ : ∃ X, idAt R (L.getD x 0) = X := ⟨_, rfl⟩
  obtain ⟨Y, hY⟩ : ∃ Y, idAt R (L.getD y 0) = Y := ⟨_, rfl⟩
  rw [hX] at lk1 hix
  rw [hY] at lk2 hiy
  have HXY : Hid (idAt R (L.getD x 0) = X ∧ idAt R (L.getD y 0) = Y) := ⟨hX, hY⟩
  have HSM : Hid (X = Y → joinL L x y = L) := fun k => by
    apply joinL_same
    exact idAt_inj hu (Nat.lt_of_le_of_lt (g.le x hxl) hxl) (Nat.lt_of_le_of_lt (g.le y hyl) hyl) (by rw [hX, hY]; exact k)
  have hwX : (Lit.int .i64 X).wf = true := wf_small hix.1 hix.2
  have hwY : (Lit.int .i64 Y).wf = true := wf_small hiy.1 hiy.2
  clear h hl g hu hxl hyl hwf hX hY hid hx hy
  generalize e.1 = e1 at *
  generalize f.1 = f1 at *
  by_cases heq : X = Y
  · subst heq
    go_enter Tryz.func249, Tryz.ntmps249
    go_wp2_with fail
    go_quiet (fail)
    go_wp2_with fail
    refine bodyPost_ret (results_none rfl _ _ _) rfl ?_
    exact ⟨rfl, D, HB.out.drewN _, by rw [HSM.out trivial]; exact HL.out, But.of_below (below_drewN (Below.refl _ _) _)⟩
  · obtain ⟨lo, hlo⟩ : ∃ lo, min X Y = lo := ⟨_, rfl⟩
    obtain ⟨hi, hhi⟩ : ∃ hi, max X Y = hi := ⟨_, rfl⟩
    have hwlo : (Lit.int .i64 lo).wf = true := by
      rcases Int.le_total X Y with c | c
      · rw [← hlo, Int.min_eq_left c]; exact hwX
      · rw [← hlo, Int.min_eq_right c]; exact hwY
    have hne : (lo == hi) = false := beq_eq_false_iff_ne.2 (by omega)
    have HMM : Hid (min (idAt R (L.getD x 0)) (idAt R (L.getD y 0)) = lo ∧ max (idAt R (L.getD x 0)) (idAt R (L.getD y 0)) = hi) := by
      refine ⟨?_, ?_⟩ <;> rw [HXY.out.1, HXY.out.2] <;> assumption
    have hmsz := HB.out.hm.lt
    have hpsz := HB.out.plt
    have hpm := HB.out.ne
    rcases Int.lt_or_gt_of_ne heq with hlt | hgt
    · obtain ⟨rfl, rfl⟩ : X = lo ∧ Y = hi := by omega
      go_enter Tryz.func249, Tryz.ntmps249
      go_wp2_with fail
      go_quiet (fail)
      have HPW : Hid (w.heap[p]? = some (.cells #[.map (some m), v] 196)) := HB.out.hp
      have HOW : Hid (BlAt (w.drewN nq) p m N D v ∧ But m w (w.drewN nq)) := ⟨HB.out.drewN nq, But.of_below (below_drewN (Below.refl _ _) nq)⟩
      have HSZ : Hid ((w.drewN nq).heap.size = w.heap.size) := rfl
      generalize w.drewN nq = W at *
      have hown := HOW.out.1.hm
      have hc0 := HOW.out.1.c0
      clear lk1 lk2 HB HXY HSM heq
      go_wp2_with (first
        | (at_range; refine wpList_range_own _ rfl _ 183 rfl 3 3 law3 Tryz.underlying183 (plainElem Tryz.prog 3) m N D rfl hown ?_; intro w0 hrg0 hg0 hs0)
        | fail)
      go_frame
      have HR0 : Hid (w0.ranges Tryz.prog 3 (plainElem Tryz.prog 3) m W.heap.size N D (Maps.has D) (Maps.size D)) := hrg0
      have HG0 : Hid (But m w w0) := HOW.out.2.trans ⟨hg0.os, hg0.tape, hg0.output, hg0.size, fun k hk _ => hg0.block k hk (by simp)⟩
      clear hrg0 hg0 hs0 hown hc0
      go_loopw [8] (fun _ wr => ∃ (Dc : DataW Unit) (left : Lit → Bool) (cnt : Nat), wr.ranges Tryz.prog 3 (plainElem Tryz.prog 3) m W.heap.size N Dc left cnt ∧ Mid Dc R L X Y left ∧ But m w wr) (fun _ wr => wr.rangeLeft m W.heap.size)
      case atStart => exact ⟨D, _, _, HR0.out, mid_start HL.out _ _, HG0.out⟩
      case round =>
        obtain ⟨Dc, left, cnt, hrg, hmid, hbt⟩ := hrel
        have HRG : Hid (wr.ranges Tryz.prog 3 (plainElem Tryz.prog 3) m W.heap.size N Dc left cnt) := hrg
        have HMD : Hid (Mid Dc R L X Y left) := hmid
        have HBT : Hid (But m w wr) := hbt
        clear hrg hmid hbt HR0 HG0
        go_wp2_with (first
          | (at_next; refine wpList_next_ranges_ii _ rfl _ rfl 3 3 .i64 .i64 law3 Tryz.underlying3 Tryz.underlying3 m W.heap.size N Dc left cnt rfl HRG.out ?_ ?_)
          | fail)
        · intro _ hl0
          have HL0 : Hid (∀ kl, left kl = false) := hl0
          clear hl0
          go_wp2
          go_end0
          refine ⟨rfl, Dc, ⟨?_, HRG.out.owns⟩, mid_end HGD.out.2.1 HGD.out.1 HGD.out.2.2.1 HGD.out.2.2.2 (by rw [HMM.out.1, HMM.out.2]; exact HMD.out) HL0.out, HBT.out⟩
          rw [HBT.out.block p hpsz hpm]; exact HPW.out
        · intro x1 c w1 cnt1 hwx hwc hlx hat hrg1 hlt1 hg1 hs1 hen
          obtain ⟨d, hdR, rfl⟩ := (HMD.out.key x1).1 (has_true_of_atKey hat)
          obtain ⟨t, ht⟩ := List.getElem?_of_mem hdR
          have hc : c = idAt R (L.getD t 0) := by
            have h1 := HMD.out.old t d ht hlx .nil
            rw [hat] at h1
            exact lit_inj h1
          have HB1 : Hid (But m w w1) := HBT.out.next (by rw [HSZ.out]; exact Nat.le_refl _) hg1
          have HR1 : Hid (w1.ranges Tryz.prog 3 (plainElem Tryz.prog 3) m W.heap.size N Dc (fun z => left z && !z.sameKey (.int .i64 d.1)) cnt1 ∧ cnt1 < cnt) := ⟨hrg1, hlt1⟩
          have HLX : Hid (left (.int .i64 d.1) = true) := hlx
          have HT : Hid (R[t]? = some d ∧ c = idAt R (L.getD t 0)) := ⟨ht, hc⟩
          have hkey := key3 d.1 hwx
          have HHAS : Hid (Maps.has Dc (.int .i64 d.1) = true) := has_true_of_atKey hat
          have hp1 : w1.heap[p]? = some (.cells #[.map (some m), v] 196) := by rw [HB1.out.block p hpsz hpm]; exact HPW.out
          have hc1 : w1.cell? ⟨p, 0, none⟩ = some (.map (some m)) := by simp [World.cell?, hp1]
          clear hwx hwc hlx hat hrg1 hlt1 hg1 hs1 hdR ht hc hp1
          by_cases hch : c = Y
          · as_aux_lemma =>
            have hcb : (c == Y) = true := beq_iff_eq.2 hch
            have HMT := (show Hid _ from mid_turn HR1.out.1.owns.isMap HGD.out.2.1 HMD.out HT.out.1 (HT.out.2.symm.trans hch))
            generalize d.1 = x1 at *
            clear hch
            go_wp2_with (first
              | (at_mapUpdate; refine wpList_mapUpdate_ranges _ rfl _ _ _ 183 rfl 3 3 law3 Tryz.underlying183 (plainElem Tryz.prog 3) m W.heap.size N Dc _ cnt1 rfl HR1.out.1 _ _ _ rfl rfl hkey _ [] (plainElem_int Tryz.underlying3 hwlo) HHAS.out ?_; intro w2 hrg2 hturn2)
              | fail)
            go_frame
            go_roundw
            case rel => exact ⟨_, _, cnt1, hrg2, HMT.out, HB1.out.turned hturn2⟩
            case measure => rw [hrg2.left_eq, HRG.out.left_eq]; exact HR1.out.2
          · as_aux_lemma =>
            have hcb : (c == Y) = false := beq_eq_false_iff_ne.2 hch
            have HMT := (show Hid _ from mid_stay HGD.out.2.1 HMD.out HT.out.1 HLX.out (fun k => hch (HT.out.2.trans k)))
            generalize d.1 = x1 at *
            clear hch
            go_wp2_with fail
            go_roundw
            case rel => exact ⟨_, _, cnt1, HR1.out.1, HMT.out, HB1.out⟩
            case measure => rw [HR1.out.1.left_eq, HRG.out.left_eq]; exact HR1.out.2
    · obtain ⟨rfl, rfl⟩ : Y = lo ∧ X = hi := by omega
      go_enter Tryz.func249, Tryz.ntmps249
      go_wp2_with fail
      go_quiet (fail)
      have HPW : Hid (w.heap[p]? = some (.cells #[.map (some m), v] 196)) := HB.out.hp
      have HOW : Hid (BlAt (w.drewN nq) p m N D v ∧ But m w (w.drewN nq)) := ⟨HB.out.drewN nq, But.of_below (below_drewN (Below.refl _ _) nq)⟩
      have HSZ : Hid ((w.drewN nq).heap.size = w.heap.size) := rfl
      generalize w.drewN nq = W at *
      have hown := HOW.out.1.hm
      have hc0 := HOW.out.1.c0
      clear lk1 lk2 HB HXY HSM heq
      go_wp2_with (first
        | (at_range; refine wpList_range_own _ rfl _ 183 rfl 3 3 law3 Tryz.underlying183 (plainElem Tryz.prog 3) m N D rfl hown ?_; intro w0 hrg0 hg0 hs0)
        | fail)
      go_frame
      have HR0 : Hid (w0.ranges Tryz.prog 3 (plainElem Tryz.prog 3) m W.heap.size N D (Maps.has D) (Maps.size D)) := hrg0
      have HG0 : Hid (But m w w0) := HOW.out.2.trans ⟨hg0.os, hg0.tape, hg0.output, hg0.size, fun k hk _ => hg0.block k hk (by simp)⟩
      clear hrg0 hg0 hs0 hown hc0
      go_loopw [8] (fun _ wr => ∃ (Dc : DataW Unit) (left : Lit → Bool) (cnt : Nat), wr.ranges Tryz.prog 3 (plainElem Tryz.prog 3) m W.heap.size N Dc left cnt ∧ Mid Dc R L Y X left ∧ But m w wr) (fun _ wr => wr.rangeLeft m W.heap.size)
      case atStart => exact ⟨D, _, _, HR0.out, mid_start HL.out _ _, HG0.out⟩
      case round =>
        obtain ⟨Dc, left, cnt, hrg, hmid, hbt⟩ := hrel
        have HRG : Hid (wr.ranges Tryz.prog 3 (plainElem Tryz.prog 3) m W.heap.size N Dc left cnt) := hrg
        have HMD : Hid (Mid Dc R L Y X left) := hmid
        have HBT : Hid (But m w wr) := hbt
        clear hrg hmid hbt HR0 HG0
        go_wp2_with (first
          | (at_next; refine wpList_next_ranges_ii _ rfl _ rfl 3 3 .i64 .i64 law3 Tryz.underlying3 Tryz.underlying3 m W.heap.size N Dc left cnt rfl HRG.out ?_ ?_)
          | fail)
        · intro _ hl0
          have HL0 : Hid (∀ kl, left kl = false) := hl0
          clear hl0
          go_wp2
          go_end0
          refine ⟨rfl, Dc, ⟨?_, HRG.out.owns⟩, mid_end HGD.out.2.1 HGD.out.1 HGD.out.2.2.1 HGD.out.2.2.2 (by rw [HMM.out.1, HMM.out.2]; exact HMD.out) HL0.out, HBT.out⟩
          rw [HBT.out.block p hpsz hpm]; exact HPW.out
        · intro x1 c w1 cnt1 hwx hwc hlx hat hrg1 hlt1 hg1 hs1 hen
          obtain ⟨d, hdR, rfl⟩ := (HMD.out.key x1).1 (has_true_of_atKey hat)
          obtain ⟨t, ht⟩ := List.getElem?_of_mem hdR
          have hc : c = idAt R (L.getD t 0) := by
            have h1 := HMD.out.old t d ht hlx .nil
            rw [hat] at h1
            exact lit_inj h1
          have HB1 : Hid (But m w w1) := HBT.out.next (by rw [HSZ.out]; exact Nat.le_refl _) hg1
          have HR1 : Hid (w1.ranges Tryz.prog 3 (plainElem Tryz.prog 3) m W.heap.size N Dc (fun z => left z && !z.sameKey (.int .i64 d.1)) cnt1 ∧ cnt1 < cnt) := ⟨hrg1, hlt1⟩
          have HLX : Hid (left (.int .i64 d.1) = true) := hlx
          have HT : Hid (R[t]? = some d ∧ c = idAt R (L.getD t 0)) := ⟨ht, hc⟩
          have hkey := key3 d.1 hwx
          have HHAS : Hid (Maps.has Dc (.int .i64 d.1) = true) := has_true_of_atKey hat
          have hp1 : w1.heap[p]? = some (.cells #[.map (some m), v] 196) := by rw [HB1.out.block p hpsz hpm]; exact HPW.out
          have hc1 : w1.cell? ⟨p, 0, none⟩ = some (.map (some m)) := by simp [World.cell?, hp1]
          clear hwx hwc hlx hat hrg1 hlt1 hg1 hs1 hdR ht hc hp1
          by_cases hch : c = X
          · as_aux_lemma =>
            have hcb : (c == X) = true := beq_iff_eq.2 hch
            have HMT := (show Hid _ from mid_turn HR1.out.1.owns.isMap HGD.out.2.1 HMD.out HT.out.1 (HT.out.2.symm.trans hch))
            generalize d.1 = x1 at *
            clear hch
            go_wp2_with (first
              | (at_mapUpdate; refine wpList_mapUpdate_ranges _ rfl _ _ _ 183 rfl 3 3 law3 Tryz.underlying183 (plainElem Tryz.prog 3) m W.heap.size N Dc _ cnt1 rfl HR1.out.1 _ _ _ rfl rfl hkey _ [] (plainElem_int Tryz.underlying3 hwlo) HHAS.out ?_; intro w2 hrg2 hturn2)
              | fail)
            go_frame
            go_roundw
            case rel => exact ⟨_, _, cnt1, hrg2, HMT.out, HB1.out.turned hturn2⟩
            case measure => rw [hrg2.left_eq, HRG.out.left_eq]; exact HR1.out.2
          · as_aux_lemma =>
            have hcb : (c == X) = false := beq_eq_false_iff_ne.2 hch
            have HMT := (show Hid _ from mid_stay HGD.out.2.1 HMD.out HT.out.1 HLX.out (fun k => hch (HT.out.2.trans k)))
            generalize d.1 = x1 at *
            clear hch
            go_wp2_with fail
            go_roundw
            case rel => exact ⟨_, _, cnt1, HR1.out.1, HMT.out, HB1.out⟩
            case measure => rw [HR1.out.1.left_eq, HRG.out.left_eq]; exact HR1.out.2

end Go.Proofs.YtebcjaenhiiflaaGreatDoor.S
namespace Go.Proofs.YtebcjaenhiiflaaGreatDoor.S
open Go.RowKit Go.WideMaps Go.Maps

/-- The places of a node's edges. -/
def plc (R : List (Int × Int × Int)) (x : Nat) : List Nat := (List.range R.length).filter fun i => decide (tch (R.getD i (0, 0, 0)) x)

theorem list_places (R : List (Int × Int × Int)) : (List.range R.length).map (fun i => R.getD i (0, 0, 0)) = R := by
  apply List.ext_getElem
  · simp
  · intro i h1 h2
    simp [h2]

theorem at_places {n M : Nat} {R : List (Int × Int × Int)} (h : Ed n M R) (x : Nat) : R.filter (G.ofNode (x : Int)) = (plc R x).map fun i => R.getD i (0, 0, 0) := by
  have h1 : R.filter (G.ofNode (x : Int)) = R.filter fun e => decide (tch e x) := by
    apply List.filter_congr
    intro e he
    have hn := h.nat he
    unfold G.ofNode
    rw [hn.1, hn.2.1, Bool.eq_iff_iff]
    simp only [Bool.or_eq_true, beq_iff_eq, decide_eq_true_eq]
    unfold tch
    omega
  rw [h1]
  unfold plc
  conv => lhs; rw [← list_places R]
  rw [List.filter_map]
  rfl

theorem mem_plc {R : List (Int × Int × Int)} {x i : Nat} : i ∈ plc R x ↔ ∃ e, R[i]? = some e ∧ tch e x := by
  unfold plc
  rw [List.mem_filter, List.mem_range, decide_eq_true_eq]
  constructor
  · rintro ⟨h1, h2⟩
    refine ⟨R[i], List.getElem?_eq_getElem h1, ?_⟩
    simpa [h1] using h2
  · rintro ⟨e, he, ht⟩
    refine ⟨(List.getElem?_eq_some_iff.1 he).1, ?_⟩
    rw [getD_of he]; exact ht

theorem plc_len (R : List (Int × Int × Int)) (x : Nat) : (plc R x).length ≤ R.length := by
  unfold plc
  exact Nat.le_trans (List.length_filter_le _ _) (by simp)

set_option maxHeartbeats 400000 in
theorem other_any (x0 : Int) (A E x z : Nat) (w : World) (hz : (if x = A then E else A) = z) :
    Calls Tryz.prog 248 #[.agg #[.int .i64 x0, .int .i64 (A : Int), .int .i64 (E : Int)], .int .i64 (x : Int)] w fun e w' => e = .returned (.int .i64 (z : Int)) ∧ Below w.heap.size w w' := by
  by_cases h : x = A
  · rw [if_pos h] at hz
    subst hz h
    go_enter Tryz.func248, Tryz.ntmps248
    go_wp2
    go_ret
    exact ⟨rfl, (Below.refl _ _).alloc (Nat.le_refl _) _⟩
  · rw [if_neg h] at hz
    subst hz
    have hne : ((x : Int) == (A : Int)) = false := beq_eq_false_iff_ne.2 (by omega)
    go_enter Tryz.func248, Tryz.ntmps248
    go_wp2
    go_ret
    exact ⟨rfl, (Below.refl _ _).alloc (Nat.le_refl _) _⟩

/-- The map of the first edges of the parts at a node. -/
structure Fm (D : DataW Unit) (R : List (Int × Int × Int)) (ks : List (Nat × Nat)) : Prop where
  key : ∀ z : Nat, Maps.has D (.int .i64 (z : Int)) = true ↔ ∃ p ∈ ks, p.1 = z
  val : ∀ p ∈ ks, ∀ zd, D.atKey (.int .i64 (p.1 : Int)) zd = .lit (.int .i64 (idAt R p.2))
  tidy : Tidy D
  size : Maps.size D = ks.length

theorem Fm.start (R : List (Int × Int × Int)) : Fm (.map []) R [] := ⟨fun z => by simp [Maps.has], by simp, tidy_empty, rfl⟩

theorem Fm.put {D : DataW Unit} {R : List (Int × Int × Int)} {ks : List (Nat × Nat)} (h : Fm D R ks) (z i : Nat) (hno : ∀ p ∈ ks, p.1 ≠ z) : Fm (D.put (.int .i64 (z : Int)) (.lit (.int .i64 (idAt R i)))) R (ks ++ [(z, i)]) := by
  have hnh : Maps.has D (.int .i64 (z : Int)) = false := by
    rw [Bool.eq_false_iff]
    intro c
    obtain ⟨p, hp, hpz⟩ := (h.key z).1 c
    exact hno p hp hpz
  refine ⟨fun y => ?_, fun p hp zd => ?_, h.tidy.put (isKeyLit _) _, ?_⟩
  · by_cases c : y = z
    · subst c
      rw [has_put_same h.tidy.isMap (isKeyLit _)]
      exact ⟨fun _ => ⟨(y, i), by simp, rfl⟩, fun _ => rfl⟩
    · rw [has_put_other (by simp; omega), h.key]
      constructor
      · rintro ⟨p, hp, hpy⟩; exact ⟨p, List.mem_append_left _ hp, hpy⟩
      · rintro ⟨p, hp, hpy⟩
        rcases List.mem_append.1 hp with hp | hp
        · exact ⟨p, hp, hpy⟩
        · rw [List.mem_singleton.1 hp] at hpy; exact absurd hpy.symm c
  · rcases List.mem_append.1 hp with hp | hp
    · have := hno p hp
      rw [atKey_put_other (by simp; omega)]; exact h.val p hp zd
    · rw [List.mem_singleton.1 hp, atKey_put_same h.tidy.isMap (isKeyLit _)]
  · rw [size_put h.tidy, hnh, h.size]; simp

/-- A node parts. -/
def cutP (R : List (Int × Int × Int)) (x : Nat) : Prop := ∃ e ∈ R, ∃ f ∈ R, tch e x ∧ tch f x ∧ ¬ cnR (wo R x) (ot e x) (ot f x)

theorem Bk.below_new {a b c : Nat} {w0 w w' : World} (h : Below w0.heap.size w0 w) (k : Bk a b c w w') (h1 : w0.heap.size ≤ a) (h2 : w0.heap.size ≤ b) (h3 : w0.heap.size ≤ c) : Below w0.heap.size w0 w' :=
  ⟨k.os.trans h.os, k.tape.trans h.tape, k.output.trans h.output, Nat.le_trans h.size k.size, fun j hj => (k.block j (Nat.lt_of_lt_of_le hj h.size) (by omega) (by omega) (by omega)).trans (h.block j hj)⟩

theorem SetsAt.bk {a b c p q : Nat} {L : List Nat} {w w' : World} (h : SetsAt w p q L) (k : Bk a b c w w') (h1 : p ≠ a ∧ p ≠ b ∧ p ≠ c) (h2 : q ≠ a ∧ q ≠ b ∧ q ≠ c) : SetsAt w' p q L :=
  ⟨by rw [k.block p h.plt h1.1 h1.2.1 h1.2.2]; exact h.hp, by rw [k.block q h.blt h2.1 h2.2.1 h2.2.2]; exact h.hb⟩

set_option maxHeartbeats 4000000 in
set_option maxRecDepth 100000 in
theorem gather_any (x n B0 q M p m N : Nat) (u v : Value) (R : List (Int × Int × Int)) (L : List Nat) (D : DataW Unit) (w : World) (h : G.GAt w B0 168 61 q (n : Int) u R) (hn : n ≤ 40) (hx : x < n) (hed : Ed n M R) (hM : M ≤ 120)
    (hb : BlAt w p m N D v) (hl : Lm D R L) (hs : Bs R x [] L) :
    Calls Tryz.prog 135 #[.pointer (some ⟨p, 0, none⟩), .pointer (some ⟨q, 0, none⟩), .int .i64 (x : Int)] w fun e w' => ∃ (k : Nat) (D' : DataW Unit) (L' : List Nat), e = .returned (.int .i64 (k : Int)) ∧ BlAt w' p m N D' v ∧ Lm D' R L' ∧ Bs R (x + 1) [] L' ∧ But m w w' ∧ (1 < k ↔ cutP R x) := by
  have hpm := hb.ne
  have hpw := hb.plt
  have hmw := hb.hm.lt
  have hlen := hed.len
  have hpl := plc_len R x
  have HG : Hid (G.GAt w B0 168 61 q (n : Int) u R) := h
  have HE : Hid (Ed n M R) := hed
  have HB : Hid (BlAt w p m N D v) := hb
  have HL : Hid (Lm D R L) := hl
  have HS : Hid (Bs R x [] L) := hs
  have HID : Hid (∀ e ∈ R, 0 ≤ e.1 ∧ e.1 ≤ 1099511627776) := fun e he => by have := hed.ids e he; omega
  clear h hed hb hl hs
  go_enter Tryz.func135, Tryz.ntmps135
  go_wp2_with fail
  refine (G.at_in (x : Int) (n : Int) B0 q u R w HG.out (by omega) (by omega)).mono ?_
  rintro e w1 ⟨v1, rfl, ho1, hb1⟩
  rw [at_places HE.out] at ho1
  obtain ⟨va, vc, hv⟩ := ho1.slice_len
  obtain ⟨len, hlenv⟩ : ∃ len, (plc R x).length = len := ⟨_, rfl⟩
  rw [List.length_map, hlenv] at hv
  rw [hlenv] at hpl
  subst hv
  have HLEN : Hid ((plc R x).length = len) := hlenv
  have HO1 : Hid (G.Owns w1 w.heap.size 61 (.slice va len vc) ((plc R x).map fun i => R.getD i (0, 0, 0)) ∧ Below w.heap.size w w1) := ⟨ho1, hb1⟩
  clear ho1 hb1 hlenv
  go_wp2_with fail
  refine (bwo_any x n B0 q M u R w1 (HG.out.below HO1.out.2) hn HE.out hM).mono ?_
  rintro e w2 ⟨ps, bs, K, rfl, hs2, hgK, hKx, hb2, hps, hbs⟩
  have hsz1 := HO1.out.2.size
  have HB2 : Hid (Below w.heap.size w w2) := HO1.out.2.trans (hb2.mono HO1.out.2.size)
  have HO2 : Hid (G.Owns w2 w.heap.size 61 (.slice va len vc) ((plc R x).map fun i => R.getD i (0, 0, 0))) := HO1.out.1.below hb2
  have HS2 : Hid (SetsAt w2 ps bs K ∧ Good n K ∧ Kx n R x K) := ⟨hs2, hgK, hKx⟩
  have hps2 := hs2.plt
  have hbs2 := hs2.blt
  -- the map
  obtain ⟨w3, hw3⟩ : ∃ w3, w3 = w2.alloc (.map #[] 0) := ⟨_, rfl⟩
  have hb3 : Below w2.heap.size w2 w3 := by rw [hw3]; exact (Below.refl _ _).alloc (Nat.le_refl _) _
  have hm3 : w3.ownsMap Tryz.prog 3 (plainElem (H := Unit) Tryz.prog 3) w2.heap.size 0 (.map []) := by rw [hw3]; exact World.ownsMap_made w2 _ _ _
  have HW3 : Hid (w2.alloc (.map #[] 0) = w3) := hw3.symm
  have HB3 : Hid (Below w.heap.size w w3 ∧ Below w2.heap.size w2 w3) := ⟨HB2.out.trans (hb3.mono HB2.out.size), hb3⟩
  have HM3 : Hid (w3.ownsMap Tryz.prog 3 (plainElem (H := Unit) Tryz.prog 3) w2.heap.size 0 (.map [])) := hm3
  have hsz2 := HB2.out.size
  have hmm := @run_makeMap Tryz.prog
  clear hs2 hgK hKx hb2 hw3 hb3 hm3 HO1
  go_wp2_with fail
  rw [HW3.out]
  clear hmm
  go_loopw [29] (fun s29 wq => ∃ (t N1 : Nat) (Dt Df : DataW Unit) (Lt : List Nat) (ks : List (Nat × Nat)), t ≤ len ∧ s29 = .int .i64 t ∧ BlAt wq p m N Dt v ∧ Lm Dt R Lt ∧ Bs R x ((plc R x).take t) Lt ∧ Gth R x K ((plc R x).take t) ks ∧ wq.ownsMap Tryz.prog 3 (plainElem Tryz.prog 3) w2.heap.size N1 Df ∧ N1 ≤ t ∧ Fm Df R ks ∧ Bk m w2.heap.size w2.heap.size w3 wq) (fun s29 _ => len - (intOf s29).toNat)
  case atStart => exact ⟨0, 0, D, .map [], L, [], Nat.zero_le _, rfl, HB.out.below HB3.out.1, HL.out, HS.out, gth_start R x K, HM3.out, Nat.le_refl _, Fm.start R, Bk.refl _⟩
  case round =>
    clear HB HL HS HM3
    obtain ⟨t, N1, Dt, Df, Lt, ks, ht, rfl, hbl, hlm, hbs', hgth, hmf, hN1, hfm, hbk⟩ := hrel
    have HBL : Hid (BlAt wr p m N Dt v ∧ Lm Dt R Lt) := ⟨hbl, hlm⟩
    have HBS : Hid (Bs R x ((plc R x).take t) Lt ∧ Gth R x K ((plc R x).take t) ks) := ⟨hbs', hgth⟩
    have HFM : Hid (wr.ownsMap Tryz.prog 3 (plainElem Tryz.prog 3) w2.heap.size N1 Df ∧ Fm Df R ks) := ⟨hmf, hfm⟩
    have HBK : Hid (Bk m w2.heap.size w2.heap.size w3 wr) := hbk
    clear hbl hlm hbs' hgth hmf hfm hbk
    by_cases hlt : t < len
    · obtain ⟨i, hi⟩ : ∃ i, (plc R x)[t]? = some i := ⟨_, List.getElem?_eq_getElem (by rw [HLEN.out]; exact hlt)⟩
      obtain ⟨e, he, hte⟩ := mem_plc.1 (List.mem_of_getElem? hi)
      have hnat := HE.out.nat (List.mem_of_getElem? he)
      have hxe : ((plc R x).map fun i => R.getD i (0, 0, 0))[t]? = some e := by rw [List.getElem?_map, hi]; simp [he]
      obtain ⟨g, hva⟩ : ∃ g, va = some ⟨g, 0, none⟩ := by
        rcases HO2.out.shape with ⟨_, k⟩ | ⟨g, cap, k, _⟩
        · rw [k] at hxe; simp at hxe
        · injection k with e1 _ _
          exact ⟨g, e1⟩
      subst hva
      have hO3 := HO2.out.below HB3.out.2
      obtain ⟨r0, r1, r2⟩ := hO3.at (g := g) rfl hxe
      have hgb := World.ownsRow.lt HO2.out g rfl
      have q0 := HBK.out.cell r0 (by omega) (by omega) (by omega)
      have q1 := HBK.out.cell r1 (by omega) (by omega) (by omega)
      have q2 := HBK.out.cell r2 (by omega) (by omega) (by omega)
      rw [hnat.1] at q1
      rw [hnat.2.1] at q2
      have HTK : Hid ((plc R x).take (t + 1) = (plc R x).take t ++ [i]) := by
        show (plc R x).take (t + 1) = _
        rw [List.take_add_one, hi]; rfl
      have HIE : Hid (R[i]? = some e ∧ tch e x) := ⟨he, hte⟩
      obtain ⟨z, hz⟩ : ∃ z, (if x = ea e then eb e else ea e) = z := ⟨_, rfl⟩
      have hzn : z < n := by rw [← hz]; have := hnat.2.2; split <;> omega
      obtain ⟨k, hk⟩ : ∃ k, K.getD z 0 = k := ⟨_, rfl⟩
      have HLB : Hid (lb R x K i = k) := by
        show lb R x K i = k
        unfold lb ot
        rw [getD_of he, hz, hk]
      have hkn : k < n := by rw [← hk]; exact Nat.lt_of_le_of_lt (HS2.out.2.1.le z hzn) hzn
      have hidw := HE.out.ids e (List.mem_of_getElem? he)
      have hwid0 : (Lit.int .i64 e.1).wf = true := wf_small hidw.1 (by omega)
      have hkey := key3 (k : Int) (wf_small (by omega) (by omega))
      obtain ⟨x0, hx0⟩ : ∃ x0, e.1 = x0 := ⟨_, rfl⟩
      obtain ⟨A, hA⟩ : ∃ A, ea e = A := ⟨_, rfl⟩
      obtain ⟨E, hE⟩ : ∃ E, eb e = E := ⟨_, rfl⟩
      have HXE : Hid (x0 = e.1) := hx0.symm
      rw [hA, hE] at hz
      have HZ : Hid ((if x = A then E else A) = z ∧ K.getD z 0 = k) := ⟨hz, hk⟩
      have hwid : (Lit.int .i64 x0).wf = true := by rw [← hx0]; exact hwid0
      rw [hx0] at q0
      rw [hA] at q1
      rw [hE] at q2
      -- the edge's box
      obtain ⟨W1, hW1⟩ : ∃ W1, W1 = wr.alloc (.cells #[.int .i64 x0, .int .i64 (A : Int), .int .i64 (E : Int)] 61) := ⟨_, rfl⟩
      have hh : W1.heap[wr.heap.size]? = some (.cells #[.int .i64 x0, .int .i64 (A : Int), .int .i64 (E : Int)] 61) := by rw [hW1]; exact heap_alloc_new wr _
      have hbW : Below wr.heap.size wr W1 := by rw [hW1]; exact (Below.refl _ _).alloc (Nat.le_refl _) _
      have HBX : Hid (W1.heap[wr.heap.size]? = some (.cells #[.int .i64 x0, .int .i64 (A : Int), .int .i64 (E : Int)] 61) ∧ Below wr.heap.size wr W1) := ⟨hh, hbW⟩
      have p0 : W1.cell? ⟨wr.heap.size, 0, none⟩ = some (.int .i64 x0) := by simp [World.cell?, hh]
      have p1 : W1.cell? ⟨wr.heap.size, 1, none⟩ = some (.int .i64 (A : Int)) := by simp [World.cell?, hh]
      have p2 : W1.cell? ⟨wr.heap.size, 2, none⟩ = some (.int .i64 (E : Int)) := by simp [World.cell?, hh]
      have HW1 : Hid (wr.alloc (.cells #[.int .i64 x0, .int .i64 (A : Int), .int .i64 (E : Int)] 61) = W1) := hW1.symm
      have hwr1 : wr.heap.size < W1.heap.size := lt_of_some hh
      have hwrs := HBK.out.size
      have hw3s := HB3.out.2.size
      clear hi he hte hnat hxe hO3 r0 r1 r2 hz hk hh hW1 hbW hidw hx0 hA hE hwid0
      go_wp2_with fail
      rw [HW1.out]
      refine (other_any x0 A E x z W1 HZ.out.1).mono ?_
      rintro e' w4 ⟨rfl, hb4⟩
      have HB4 : Hid (Below W1.heap.size W1 w4 ∧ Below wr.heap.size wr w4) := ⟨hb4, HBX.out.2.trans (hb4.mono HBX.out.2.size)⟩
      clear hb4 p0 p1 p2
      go_wp2_with fail
      refine (least_n z ps bs K w4 ((HS2.out.1.below HB3.out.2 hps2 hbs2 |>.bk HBK.out (by omega) (by omega)).below HB4.out.2 (by omega) (by omega)) HS2.out.2.1 hzn HZ.out.2).mono ?_
      rintro e' w5 ⟨rfl, hb5⟩
      have HB5 : Hid (Below wr.heap.size wr w5) := HB4.out.2.trans (hb5.mono HB4.out.2.size)
      have hh5 : w5.heap[wr.heap.size]? = some (.cells #[.int .i64 x0, .int .i64 (A : Int), .int .i64 (E : Int)] 61) := by
        rw [hb5.block _ (Nat.lt_of_lt_of_le hwr1 HB4.out.1.size), HB4.out.1.block _ hwr1]; exact HBX.out.1
      have p0 : w5.cell? ⟨wr.heap.size, 0, none⟩ = some (.int .i64 x0) := by simp [World.cell?, hh5]
      have hown : w5.ownsMap Tryz.prog 3 (plainElem Tryz.prog 3) w2.heap.size N1 Df := HFM.out.1.kept (row := none) ⟨HB5.out.os, HB5.out.tape, HB5.out.output, HB5.out.size, fun k hk _ => HB5.out.block k hk⟩ (by simp)
      have HBL5 : Hid (BlAt w5 p m N Dt v) := HBL.out.1.below HB5.out
      have HBK5 : Hid (Bk m w2.heap.size w2.heap.size w3 w5) := HBK.out.trans (Bk.of_below HB5.out)
      clear hb5 hh5 HB4 HBX HW1 hwr1
      by_cases hc : ∃ pq ∈ ks, pq.1 = k
      · as_aux_lemma =>
        obtain ⟨⟨k', j⟩, hpq, hk'⟩ := hc
        simp only at hk'
        subst hk'
        have hj := HBS.out.2.at_ _ hpq
        simp only at hj
        obtain ⟨f, hf, htf⟩ := mem_plc.1 (List.mem_of_mem_take hj.1)
        have hhas : Maps.has Df (.int .i64 (k' : Int)) = true := (HFM.out.2.key k').2 ⟨_, hpq, rfl⟩
        have hval := HFM.out.2.val _ hpq (.lit (.int .i64 0))
        simp only at hval
        rw [idAt_of hf] at hval
        have HVAL : Hid (Df.atKey (.int .i64 (k' : Int)) (.lit (.int .i64 0)) = .lit (.int .i64 f.1)) := hval
        have hrx : Rx R x j i := (Rx_lb HS2.out.2.2 HE.out.inn hf HIE.out.1 htf HIE.out.2).2 (by rw [hj.2, HLB.out])
        have HNX : Hid (Bs R x ((plc R x).take (t + 1)) (joinL Lt j i) ∧ Gth R x K ((plc R x).take (t + 1)) ks) := by
          rw [HTK.out]
          exact ⟨bs_join HBS.out.1 hj.1 hrx, gth_old HBS.out.2 hpq HLB.out.symm⟩
        have HF : Hid (R[j]? = some f) := hf
        have HHAS : Hid (Maps.has Df (.int .i64 (k' : Int)) = true) := hhas
        clear hj hf htf hhas hval hrx hpq
        go_wp2_with (first
          | (at_lookup; refine wpList_lookup_own_ok_int _ rfl _ _ 183 rfl 3 3 .i64 law3 Tryz.underlying183 Tryz.underlying3 (zero3 _) w2.heap.size N1 Df rfl hown _ _ rfl hkey ?_; intro c hat hwc; rw [HVAL.out] at hat; obtain rfl := lit_inj hat; rw [HHAS.out]; clear hat hwc)
          | fail)
        rw [HXE.out]
        refine (bjoin_any j i p m N Dt v w5 HBL5.out HBL.out.2 HBS.out.1.good HE.out.up HF.out HIE.out.1 HID.out).mono ?_
        rintro e' w6 ⟨rfl, D6, hb6, hl6, hk6⟩
        have hm6 : w6.ownsMap Tryz.prog 3 (plainElem Tryz.prog 3) w2.heap.size N1 Df := hown.kept (row := some m) ⟨hk6.os, hk6.tape, hk6.output, hk6.size, fun k hk hn => hk6.block k hk (fun c => hn (by rw [c]))⟩ (by simp; omega)
        have HR6 : Hid (BlAt w6 p m N D6 v ∧ Lm D6 R (joinL Lt j i) ∧ w6.ownsMap Tryz.prog 3 (plainElem Tryz.prog 3) w2.heap.size N1 Df ∧ Bk m w2.heap.size w2.heap.size w3 w6) := ⟨hb6, hl6, hm6, HBK5.out.trans (Bk.of_w hk6)⟩
        clear hb6 hl6 hk6 hm6 hown p0
        go_wp2_with fail
        go_roundw
        case rel => exact ⟨t + 1, N1, D6, Df, joinL Lt j i, ks, by omega, by go_num, HR6.out.1, HR6.out.2.1, HNX.out.1, HNX.out.2, HR6.out.2.2.1, by omega, HFM.out.2, HR6.out.2.2.2⟩
        case measure => simp [intOf]; omega
      · as_aux_lemma =>
        have hno : ∀ pq ∈ ks, pq.1 ≠ k := fun pq hp c => hc ⟨pq, hp, c⟩
        have hhas : Maps.has Df (.int .i64 (k : Int)) = false := by
          rw [Bool.eq_false_iff]
          intro c
          obtain ⟨pq, hp, hpk⟩ := (HFM.out.2.key k).1 c
          exact hno pq hp hpk
        have HHAS : Hid (Maps.has Df (.int .i64 (k : Int)) = false) := hhas
        have HVAL : Hid (Df.atKey (.int .i64 (k : Int)) (.lit (.int .i64 0)) = .lit (.int .i64 0)) := atKey_of_not_has hhas _
        have HNX : Hid (Bs R x ((plc R x).take (t + 1)) Lt ∧ Gth R x K ((plc R x).take (t + 1)) (ks ++ [(k, i)]) ∧ Fm (Df.put (.int .i64 (k : Int)) (.lit (.int .i64 x0))) R (ks ++ [(k, i)])) := by
          rw [HTK.out]
          refine ⟨bs_new HBS.out.1 (fun j hj hr => ?_), ?_, ?_⟩
          · obtain ⟨f, hf, htf⟩ := mem_plc.1 (List.mem_of_mem_take hj)
            obtain ⟨pq, hp, hpk⟩ := HBS.out.2.all j hj
            refine hno pq hp ?_
            rw [hpk, (Rx_lb HS2.out.2.2 HE.out.inn hf HIE.out.1 htf HIE.out.2).1 hr, HLB.out]
          · have := gth_new (i := i) HBS.out.2 (fun pq hp => by rw [HLB.out]; exact hno pq hp)
            rw [HLB.out] at this; exact this
          · have := HFM.out.2.put k i hno
            rw [idAt_of HIE.out.1, ← HXE.out] at this; exact this
        have hNm : N1 < maxLen := by unfold maxLen; omega
        clear hc hno hhas
        go_wp2_with (first
          | (at_lookup; refine wpList_lookup_own_ok_int _ rfl _ _ 183 rfl 3 3 .i64 law3 Tryz.underlying183 Tryz.underlying3 (zero3 _) w2.heap.size N1 Df rfl hown _ _ rfl hkey ?_; intro c hat hwc; rw [HVAL.out] at hat; obtain rfl := lit_inj hat; rw [HHAS.out]; clear hat hwc)
          | (at_mapUpdate; refine wpList_mapUpdate_own _ rfl _ _ _ 183 rfl 3 3 law3 Tryz.underlying183 (plainElem Tryz.prog 3) w2.heap.size N1 Df rfl hown hNm _ _ _ rfl rfl hkey _ [] (plainElem_int Tryz.underlying3 hwid) ?_; intro w6 hown6 hgrow6)
          | fail)
        go_roundw
        case rel => exact ⟨t + 1, N1 + 1, Dt, _, Lt, ks ++ [(k, i)], by omega, by go_num, ⟨by rw [hgrow6.block p HBL5.out.plt (by simp; omega)]; exact HBL5.out.hp, HBL5.out.hm.kept hgrow6 (by simp; omega)⟩, HBL.out.2, HNX.out.1, HNX.out.2.1, hown6, by omega, HNX.out.2.2, HBK5.out.trans (Bk.of_m hgrow6)⟩
        case measure => simp [intOf]; omega
    · have hte : t = len := by omega
      subst hte
      have htk : (plc R x).take t = plc R x := by rw [← HLEN.out]; exact List.take_length
      have hbs9 := HBS.out
      rw [htk] at hbs9
      have HBS9 : Hid (Bs R (x + 1) [] Lt) := bs_next hbs9.1 (fun i e he ht => mem_plc.2 ⟨e, he, ht⟩)
      have HCUT : Hid (1 < ks.length ↔ cutP R x) := gth_cut hbs9.2 HS2.out.2.2 HE.out.inn (fun i => mem_plc)
      have HBT : Hid (But m w wr) := ⟨HBK.out.os.trans HB3.out.1.os, HBK.out.tape.trans HB3.out.1.tape, HBK.out.output.trans HB3.out.1.output, Nat.le_trans HB3.out.1.size HBK.out.size, fun k hk hn => (HBK.out.block k (by have := HB3.out.1.size; omega) hn (by omega) (by omega)).trans (HB3.out.1.block k hk)⟩
      have hown := HFM.out.1
      have hsz := HFM.out.2.size
      have HSZ : Hid (Maps.size Df = ks.length) := hsz
      clear htk hbs9 hsz
      go_wp2_with (first
        | (at_len; refine wpList_len_own _ rfl _ 183 rfl 3 3 Tryz.underlying183 (plainElem Tryz.prog 3) w2.heap.size N1 Df rfl hown ?_)
        | fail)
      go_ret
      exact ⟨ks.length, Dt, Lt, by rw [HSZ.out]; rfl, HBL.out.1, HBL.out.2, HBS9.out, HBT.out, HCUT.out⟩

end Go.Proofs.YtebcjaenhiiflaaGreatDoor.S
namespace Go.Proofs.YtebcjaenhiiflaaGreatDoor.S
open Go.RowKit Go.WideMaps Go.Maps

theorem Lm.start : Lm (.map []) [] [] := ⟨fun x => by simp [Maps.has], fun i e h => by simp at h⟩

theorem Lm.snoc {D : DataW Unit} {R : List (Int × Int × Int)} {k : Nat} {e : Int × Int × Int} (hu : G.Up R) (hD : IsMap D) (h : Lm D (R.take k) (List.range k)) (he : R[k]? = some e) :
    Lm (D.put (.int .i64 e.1) (.lit (.int .i64 e.1))) (R.take (k + 1)) (List.range (k + 1)) := by
  have hk : k < R.length := (List.getElem?_eq_some_iff.1 he).1
  have ht : R.take (k + 1) = R.take k ++ [e] := by rw [List.take_add_one, he]; rfl
  have hne : ∀ i f, i < k → R[i]? = some f → f.1 ≠ e.1 := fun i f hi hf c => by
    have := (up_one hu hf he c).1; omega
  refine ⟨fun x => ?_, fun i f hf zd => ?_⟩
  · by_cases c : x = e.1
    · subst c
      rw [has_put_same hD (isKeyLit _)]
      exact ⟨fun _ => ⟨e, by rw [ht]; simp, rfl⟩, fun _ => rfl⟩
    · rw [has_put_other (by simpa using c), h.key]
      constructor
      · rintro ⟨f, hf, hx⟩; exact ⟨f, by rw [ht]; exact List.mem_append_left _ hf, hx⟩
      · rintro ⟨f, hf, hx⟩
        rw [ht] at hf
        rcases List.mem_append.1 hf with hf | hf
        · exact ⟨f, hf, hx⟩
        · rw [List.mem_singleton.1 hf] at hx; exact absurd hx.symm c
  · have hi : i < k + 1 := by have := (List.getElem?_eq_some_iff.1 hf).1; simp at this; omega
    rw [List.getElem?_take, if_pos hi] at hf
    have hid : idAt (R.take (k + 1)) ((List.range (k + 1)).getD i 0) = f.1 := by
      have e1 : (List.range (k + 1)).getD i 0 = i := by simp [hi]
      rw [e1]
      apply idAt_of
      rw [List.getElem?_take, if_pos hi]; exact hf
    rw [hid]
    by_cases c : i = k
    · subst c
      rw [he] at hf; cases hf
      rw [atKey_put_same hD (isKeyLit _)]
    · have hik : i < k := by omega
      rw [atKey_put_other (by simpa using hne i f hik hf)]
      have hf' : (R.take k)[i]? = some f := by rw [List.getElem?_take, if_pos hik]; exact hf
      rw [h.val i f hf' zd]
      have e2 : (List.range k).getD i 0 = i := by simp [hik]
      rw [e2, idAt_of hf']

/-- The nodes below x that part, rising. -/
structure CutsB (R : List (Int × Int × Int)) (x : Nat) (cs : List Nat) : Prop where
  up : cs.Pairwise (· < ·)
  mem : ∀ y, y ∈ cs ↔ y < x ∧ cutP R y

theorem CutsB.start (R : List (Int × Int × Int)) : CutsB R 0 [] := ⟨.nil, fun y => by simp⟩
theorem CutsB.yes {R : List (Int × Int × Int)} {x : Nat} {cs : List Nat} (h : CutsB R x cs) (hc : cutP R x) : CutsB R (x + 1) (cs ++ [x]) := by
  refine ⟨?_, fun y => ?_⟩
  · rw [List.pairwise_append]
    exact ⟨h.up, List.pairwise_singleton _ _, fun a ha b hb => by rw [List.mem_singleton.1 hb]; exact ((h.mem a).1 ha).1⟩
  · rw [List.mem_append, h.mem, List.mem_singleton]
    constructor
    · rintro (⟨h1, h2⟩ | rfl)
      · exact ⟨by omega, h2⟩
      · exact ⟨by omega, hc⟩
    · rintro ⟨h1, h2⟩
      by_cases c : y = x
      · exact .inr c
      · exact .inl ⟨by omega, h2⟩
theorem CutsB.no {R : List (Int × Int × Int)} {x : Nat} {cs : List Nat} (h : CutsB R x cs) (hc : ¬ cutP R x) : CutsB R (x + 1) cs := by
  refine ⟨h.up, fun y => ?_⟩
  rw [h.mem]
  constructor
  · rintro ⟨h1, h2⟩; exact ⟨by omega, h2⟩
  · rintro ⟨h1, h2⟩
    by_cases c : y = x
    · subst c; exact absurd h2 hc
    · exact ⟨by omega, h2⟩
theorem rise_len : ∀ (cs : List Nat) (lo x : Nat), cs.Pairwise (· < ·) → (∀ y ∈ cs, lo ≤ y ∧ y < x) → cs.length ≤ x - lo
  | [], _, _, _, _ => by simp
  | a :: cs, lo, x, hp, hm => by
    have h1 := List.pairwise_cons.1 hp
    have ha := hm a (by simp)
    have := rise_len cs (a + 1) x h1.2 (fun y hy => ⟨h1.1 y hy, (hm y (List.mem_cons_of_mem _ hy)).2⟩)
    simp; omega
theorem CutsB.len {R : List (Int × Int × Int)} {x : Nat} {cs : List Nat} (h : CutsB R x cs) : cs.length ≤ x := by
  have := rise_len cs 0 x h.up (fun y hy => ⟨Nat.zero_le _, ((h.mem y).1 hy).1⟩)
  omega

/-- A row of numbers as values. -/
def natsV (l : List Nat) : List Value := l.map fun x : Nat => .int .i64 (x : Int)

theorem gat_but {w w' : World} {B0 gT eT q m : Nat} {n : Int} {u : Value} {L : List (Int × Int × Int)} (h : G.GAt w B0 gT eT q n u L) (k : But m w w') (hm : ∃ es c, w.heap[m]? = some (.map es c)) : G.GAt w' B0 gT eT q n u L := by
  obtain ⟨es, c, hm⟩ := hm
  refine ⟨?_, ⟨h.row.1, ?_⟩, h.ne⟩
  · rw [k.block q h.plt (by rintro rfl; have := h.hp.symm.trans hm; simp at this)]; exact h.hp
  · rcases h.row.2 with hn | ⟨g, cap, cur, rfl, hB, hg, rest⟩
    · exact .inl hn
    · refine .inr ⟨g, cap, cur, rfl, hB, ?_, rest⟩
      rw [k.block g (lt_of_some hg) (by rintro rfl; have := hg.symm.trans hm; simp at this)]
      exact hg

theorem row_slice {w : World} {base e s : Nat} {v : Value} {n : Nat} {xs : List Value} (h : w.ownsRow base e s v n xs) : ∃ a c, v = .slice a n c := by
  rcases h.2 with ⟨rfl, rfl⟩ | ⟨g, cap, cur, rfl, _⟩
  · exact ⟨none, 0, rfl⟩
  · exact ⟨_, cap, rfl⟩

theorem BlAt.store {w : World} {p m N : Nat} {D : DataW Unit} {v : Value} (h : BlAt w p m N D v) (v' : Value) : BlAt (w.setCell ⟨p, 1, none⟩ v') p m N D v' := by
  refine ⟨?_, h.hm.setCell (Ne.symm h.ne) _⟩
  simp only [World.setCell, Array.getElem?_modify, h.hp]
  simp

/-- A graph is kept while a row of numbers grows. -/
theorem gat_row {w w' : World} {B0 gT q base k : Nat} {n : Int} {u v : Value} {L : List (Int × Int × Int)} {xs : List Value} (h : G.GAt w B0 gT 61 q n u L) (hg : w.grownBy w' v.ownBlock) (hr : w.ownsRow base 3 1 v k xs) (hgT : gT ≠ 3 := by decide) : G.GAt w' B0 gT 61 q n u L := by
  have hne : ∀ g cur t, w.heap[g]? = some (.cells cur t) → t ≠ 3 → some g ≠ v.ownBlock := by
    intro g cur t hc ht he
    rcases hr.2 with ⟨rfl, _⟩ | ⟨g', cap, cur', rfl, _, hg', _⟩
    · simp [Value.ownBlock] at he
    · simp only [Value.ownBlock, Option.some.injEq] at he
      subst he
      rw [hc] at hg'
      injection hg' with hg'
      injection hg' with _ hg' _
      exact ht hg'
  refine ⟨?_, ⟨h.row.1, ?_⟩, h.ne⟩
  · rw [hg.block q h.plt (hne q _ gT h.hp hgT)]; exact h.hp
  · rcases h.row.2 with hn | ⟨g, cap, cur, rfl, hB, hg', rest⟩
    · exact .inl hn
    · refine .inr ⟨g, cap, cur, rfl, hB, ?_, rest⟩
      rw [hg.block g (lt_of_some hg') (hne g _ 61 hg' (by decide))]
      exact hg'

theorem gat_but' {w w' : World} {B0 q p : Nat} {n : Int} {u : Value} {L : List (Int × Int × Int)} {cs : Array Value} (h : G.GAt w B0 168 61 q n u L) (k : But p w w') (hp : w.heap[p]? = some (.cells cs 196)) : G.GAt w' B0 168 61 q n u L := by
  refine ⟨?_, ⟨h.row.1, ?_⟩, h.ne⟩
  · rw [k.block q h.plt (by rintro rfl; have := h.hp.symm.trans hp; simp at this)]; exact h.hp
  · rcases h.row.2 with hn | ⟨g, cap, cur, rfl, hB, hg, rest⟩
    · exact .inl hn
    · refine .inr ⟨g, cap, cur, rfl, hB, ?_, rest⟩
      rw [k.block g (lt_of_some hg) (by rintro rfl; have := hg.symm.trans hp; simp at this)]
      exact hg

/-- What Of hands back. -/
def OfPost (R : List (Int × Int × Int)) (n : Nat) (w : World) (e : Ending) (w' : World) : Prop :=
  ∃ (p m N : Nat) (D : DataW Unit) (v : Value) (L cs : List Nat), e = .returned (.pointer (some ⟨p, 0, none⟩)) ∧ BlAt w' p m N D v ∧ N ≤ 120 ∧ Lm D R L ∧ Bs R n [] L ∧ CutsB R n cs ∧ w'.ownsRow w.heap.size 3 1 v cs.length (natsV cs) ∧ Below w.heap.size w w'

set_option maxHeartbeats 4000000 in
set_option maxRecDepth 100000 in
theorem bof_any (n B0 q M : Nat) (u : Value) (R : List (Int × Int × Int)) (w : World) (h : G.GAt w B0 168 61 q (n : Int) u R) (hn : n ≤ 40) (hed : Ed n M R) (hM : M ≤ 120) :
    Calls Tryz.prog 79 #[.pointer (some ⟨q, 0, none⟩)] w (OfPost R n w) := by
  have hlen := hed.len
  have HG : Hid (G.GAt w B0 168 61 q (n : Int) u R) := h
  have HE : Hid (Ed n M R) := hed
  have hmm := @run_makeMap Tryz.prog
  -- the value
  obtain ⟨w1, hw1⟩ : ∃ w1, w1 = (w.alloc (.map #[] 0)).alloc (.cells #[.map (some w.heap.size), .slice none 0 0] 196) := ⟨_, rfl⟩
  have hb1 : Below w.heap.size w w1 := by rw [hw1]; exact ((Below.refl _ _).alloc (Nat.le_refl _) _).alloc (by simp) _
  have hbl1 : BlAt w1 (w.heap.size + 1) w.heap.size 0 (.map []) (.slice none 0 0) := by
    rw [hw1]
    refine ⟨?_, (World.ownsMap_made w _ _ _).alloc _⟩
    have := heap_alloc_new (w.alloc (.map #[] 0)) (.cells #[.map (some w.heap.size), .slice none 0 0] 196)
    rw [World.size_alloc] at this; exact this
  have HW1 : Hid ((w.alloc (.map #[] 0)).alloc (.cells #[.map (some w.heap.size), .slice none 0 0] 196) = w1) := hw1.symm
  have HBL1 : Hid (BlAt w1 (w.heap.size + 1) w.heap.size 0 (.map []) (.slice none 0 0) ∧ Below w.heap.size w w1) := ⟨hbl1, hb1⟩
  have hw1s := hbl1.plt
  clear h hed hw1 hb1 hbl1
  go_enter Tryz.func79, Tryz.ntmps79
  go_wp2_with fail
  rw [HW1.out]
  refine (G.edges_any (n : Int) B0 q u R w1 (HG.out.below HBL1.out.2) (by omega)).mono ?_
  rintro e w2 ⟨vr, rfl, ho, hb2⟩
  obtain ⟨len, hm⟩ : ∃ len, R.length = len := ⟨_, rfl⟩
  have HLEN : Hid (R.length = len) := hm
  obtain ⟨va, vc, hv⟩ := ho.slice_len
  rw [hm] at hv hlen
  subst hv
  have HO : Hid (G.Owns w2 w1.heap.size 61 (.slice va len vc) R) := ho
  have HBL2 : Hid (BlAt w2 (w.heap.size + 1) w.heap.size 0 (.map []) (.slice none 0 0) ∧ Below w.heap.size w w2) := ⟨HBL1.out.1.below hb2, HBL1.out.2.trans (hb2.mono HBL1.out.2.size)⟩
  have hw2s := hb2.size
  clear ho hb2 hm hmm
  go_wp2_with fail
  go_loopw [13] (fun s13 wq => ∃ (j : Nat) (Dj : DataW Unit), j ≤ len ∧ s13 = .int .i64 j ∧ BlAt wq (w.heap.size + 1) w.heap.size j Dj (.slice none 0 0) ∧ Lm Dj (R.take j) (List.range j) ∧ But w.heap.size w2 wq) (fun s13 _ => len - (intOf s13).toNat)
  case atStart => exact ⟨0, _, Nat.zero_le _, rfl, HBL2.out.1, Lm.start, But.refl _ _⟩
  case round =>
    obtain ⟨j, Dj, hj, rfl, hbl, hlm, hbt⟩ := hrel
    have HBL : Hid (BlAt wr (w.heap.size + 1) w.heap.size j Dj (.slice none 0 0) ∧ Lm Dj (R.take j) (List.range j) ∧ But w.heap.size w2 wr) := ⟨hbl, hlm, hbt⟩
    clear hbl hlm hbt
    by_cases hlt : j < len
    · obtain ⟨e, hx⟩ : ∃ e, R[j]? = some e := ⟨_, List.getElem?_eq_getElem (by rw [HLEN.out]; exact hlt)⟩
      have hnat := HE.out.nat (List.mem_of_getElem? hx)
      have hids := HE.out.ids e (List.mem_of_getElem? hx)
      obtain ⟨g, hva⟩ : ∃ g, va = some ⟨g, 0, none⟩ := by
        rcases HO.out.shape with ⟨_, k⟩ | ⟨g, cap, k, _⟩
        · rw [k] at hx; simp at hx
        · injection k with e1 _ _
          exact ⟨g, e1⟩
      subst hva
      obtain ⟨r0, r1, r2⟩ := HO.out.at (g := g) rfl hx
      have hgb := World.ownsRow.lt HO.out g rfl
      have q0 := HBL.out.2.2.cell r0 (by omega)
      have q1 := HBL.out.2.2.cell r1 (by omega)
      have q2 := HBL.out.2.2.cell r2 (by omega)
      have HLM : Hid (Lm (Dj.put (.int .i64 e.1) (.lit (.int .i64 e.1))) (R.take (j + 1)) (List.range (j + 1))) := Lm.snoc HE.out.up HBL.out.1.hm.isMap HBL.out.2.1 hx
      have hwid : (Lit.int .i64 e.1).wf = true := wf_small hids.1 (by omega)
      generalize e.1 = x0 at *
      generalize e.2.1 = x1 at *
      generalize e.2.2 = x2 at *
      -- the edge's box
      obtain ⟨W1, hW1⟩ : ∃ W1, W1 = wr.alloc (.cells #[.int .i64 x0, .int .i64 x1, .int .i64 x2] 61) := ⟨_, rfl⟩
      have hh : W1.heap[wr.heap.size]? = some (.cells #[.int .i64 x0, .int .i64 x1, .int .i64 x2] 61) := by rw [hW1]; exact heap_alloc_new wr _
      have hbW : Below wr.heap.size wr W1 := by rw [hW1]; exact (Below.refl _ _).alloc (Nat.le_refl _) _
      have p0 : W1.drew.cell? ⟨wr.heap.size, 0, none⟩ = some (.int .i64 x0) := by
        show W1.cell? ⟨wr.heap.size, 0, none⟩ = _
        simp [World.cell?, hh]
      have hblW := HBL.out.1.below hbW
      have c0 : W1.drew.cell? ⟨w.heap.size + 1, 0, none⟩ = some (.map (some w.heap.size)) := hblW.c0
      obtain ⟨W2, hup, hown2, hgr2⟩ := World.ownsMap.update (w := W1.drew) (hblW.hm) law3 Tryz.underlying183 (by unfold maxLen; omega) (key3 x0 hwid) (plainElem_int Tryz.underlying3 hwid)
      have HR2 : Hid (BlAt W2 (w.heap.size + 1) w.heap.size (j + 1) (Dj.put (.int .i64 x0) (.lit (.int .i64 x0))) (.slice none 0 0) ∧ But w.heap.size w2 W2) :=
        ⟨⟨(hgr2.block _ hblW.plt (by simp)).trans hblW.hp, hown2⟩, (HBL.out.2.2.trans (But.of_below hbW)).trans ⟨hgr2.os, hgr2.tape, hgr2.output, hgr2.size, fun k hk hn => hgr2.block k hk (fun c => hn (by injection c))⟩⟩
      have HW1 : Hid (wr.alloc (.cells #[.int .i64 x0, .int .i64 x1, .int .i64 x2] 61) = W1) := hW1.symm
      clear hx hnat hids r0 r1 r2 hW1 hh hbW hblW hown2 hgr2 hwid HBL
      go_upto_region 5 with fail
      rw [HW1.out]
      go_region
      all_goals
        go_wp2_with fail
        go_roundw
        case rel => exact ⟨j + 1, _, by omega, by go_num, HR2.out.1, HLM.out, HR2.out.2⟩
        case measure => simp [intOf]; omega
    · have hje : j = len := by omega
      subst hje
      have htk : R.take j = R := List.take_of_length_le (by rw [HLEN.out]; exact Nat.le_refl _)
      have hbl9 := HBL.out
      rw [htk] at hbl9
      have hBt : Below w.heap.size w wr := HBL2.out.2.trans (hbl9.2.2.below (Nat.le_refl _) HBL2.out.2.size)
      have HF : Hid (BlAt wr (w.heap.size + 1) w.heap.size j Dj (.slice none 0 0) ∧ Lm Dj R (List.range R.length) ∧ Below w.heap.size w wr ∧ G.GAt wr B0 168 61 q (n : Int) u R) := ⟨hbl9.1, by rw [HLEN.out]; exact hbl9.2.1, hBt, HG.out.below hBt⟩
      obtain ⟨i0, hi0, hz0, hz1, hz2⟩ := info_parts Tryz.info3
      clear htk hbl9 hBt HBL HBL2 HO HBL1 HW1
      generalize wr = W0 at *
      go_wp2_with fail
      refine (G.nodes_any (n : Int) B0 q u R W0 HF.out.2.2.2).mono ?_
      rintro e w3 ⟨rfl, hw3⟩
      subst hw3
      go_wp2_with fail
      go_loopw [28] (fun s28 wq => ∃ (x : Nat) (Dx : DataW Unit) (Lx cs : List Nat) (v : Value), x ≤ n ∧ CutsB R x cs ∧ s28 = .int .i64 x ∧ G.GAt wq B0 168 61 q (n : Int) u R ∧ BlAt wq (w.heap.size + 1) w.heap.size j Dx v ∧ Lm Dx R Lx ∧ Bs R x [] Lx ∧ wq.ownsRow w.heap.size 3 1 v cs.length (natsV cs) ∧ v.ownBlock ≠ some (w.heap.size + 1) ∧ v.ownBlock ≠ some w.heap.size ∧ Below w.heap.size w wq) (fun s28 _ => n - (intOf s28).toNat)
      case atStart => exact ⟨0, Dj, _, [], _, Nat.zero_le _, CutsB.start R, rfl, HF.out.2.2.2, HF.out.1, HF.out.2.1, bs_start R, World.ownsRow_nil _ _ _ _, by simp [Value.ownBlock], by simp [Value.ownBlock], HF.out.2.2.1⟩
      case round =>
        clear HF
        obtain ⟨x, Dx, Lx, cs, v, hx, hcs, rfl, hgx, hbx, hlx, hsx, hox, hv1, hv2, hBx⟩ := hrel
        have HX : Hid (G.GAt wr B0 168 61 q (n : Int) u R ∧ BlAt wr (w.heap.size + 1) w.heap.size j Dx v ∧ Lm Dx R Lx ∧ Bs R x [] Lx) := ⟨hgx, hbx, hlx, hsx⟩
        have HOX : Hid (wr.ownsRow w.heap.size 3 1 v cs.length (natsV cs) ∧ v.ownBlock ≠ some (w.heap.size + 1) ∧ v.ownBlock ≠ some w.heap.size ∧ Below w.heap.size w wr) := ⟨hox, hv1, hv2, hBx⟩
        have HCS : Hid (CutsB R x cs) := hcs
        clear hgx hbx hlx hsx hox hv1 hv2 hBx hcs
        by_cases hlt2 : x < n
        · go_wp2_with fail
          refine (gather_any x n B0 q M _ _ j u v R Lx Dx wr HX.out.1 hn hlt2 HE.out hM HX.out.2.1 HX.out.2.2.1 HX.out.2.2.2).mono ?_
          rintro e w4 ⟨k, D4, L4, rfl, hb4, hl4, hs4, hk4, hcut4⟩
          have hg4 := gat_but HX.out.1 hk4 (by obtain ⟨es, c, hb, _⟩ := HX.out.2.1.hm; exact ⟨es, c, hb⟩)
          have hgr4 : wr.grownBy w4 (some w.heap.size) := ⟨hk4.os, hk4.tape, hk4.output, hk4.size, fun i hi hne => hk4.block i hi (fun c => hne (by rw [c]))⟩
          have ho4 := HOX.out.1.kept hgr4 (.inr HOX.out.2.2.1)
          have hB4 : Below w.heap.size w w4 := HOX.out.2.2.2.trans (hk4.below (Nat.le_refl _) HOX.out.2.2.2.size)
          have H4 : Hid (G.GAt w4 B0 168 61 q (n : Int) u R ∧ BlAt w4 (w.heap.size + 1) w.heap.size j D4 v ∧ Lm D4 R L4 ∧ Bs R (x + 1) [] L4 ∧ Below w.heap.size w w4) := ⟨hg4, hb4, hl4, hs4, hB4⟩
          have HOV : Hid (v.ownBlock ≠ some (w.heap.size + 1) ∧ v.ownBlock ≠ some w.heap.size) := ⟨HOX.out.2.1, HOX.out.2.2.1⟩
          have HCUT : Hid (1 < k ↔ cutP R x) := hcut4
          clear hk4 hcut4 hg4 hgr4 hl4 hs4 HX HOX
          by_cases hk1 : 1 < k
          · as_aux_lemma =>
            have HC : Hid (CutsB R (x + 1) (cs ++ [x])) := HCS.out.yes (HCUT.out.1 hk1)
            have hcl := HCS.out.len
            have hc1 := hb4.c1
            have hpl := hb4.plt
            have hsz := hB4.size
            have HFZ : Hid (∀ w', (w4.alloc (.cells #[.int .i64 (x : Int)] 3)).grownBy w' v.ownBlock → w'.heap[w.heap.size + 1]? = some (.cells #[.map (some w.heap.size), v] 196)) := fun w' hg => by
              rw [hg.block _ (by simp; omega) (fun c => HOV.out.1 c.symm), Below.heap_alloc _ _ _ hpl]; exact hb4.hp
            have HO4 : Hid (w4.ownsRow w.heap.size 3 1 v cs.length (natsV cs)) := ho4
            clear hb4 hB4 HCUT
            go_wp2_with (first
              | (at_builtin; refine wpList_append_own_at _ rfl _ _ 48 rfl w.heap.size 3 i0 (.int .i64 0) 1 8 Tryz.underlying48 hi0 hz0 hz1 hz2 rfl (by decide) v _ _ rfl (ho4.alloc _) ⟨w4.heap.size, 0, none⟩ 1 1 [.int .i64 (x : Int)] rfl rfl (cell_one_new _ _ _) (ints_oneCell .i64 [(x : Int)]) (by unfold maxLen; omega) (by omega) (by simp; omega) ?_; intro v5 w5 hown5 hgrow5 hnil5 hloc5; obtain ⟨a5, c5, rfl⟩ := row_slice hown5; have hp5 := HFZ.out w5 hgrow5; have hf5 : w5.frozen? ⟨w.heap.size + 1, 1, none⟩ = false := (by simp [World.frozen?, hp5]); have hc5 : w5.cell? ⟨w.heap.size + 1, 1, none⟩ = some v := (by simp [World.cell?, hp5]))
              | fail)
            have hbl5 : BlAt w5 (w.heap.size + 1) w.heap.size j D4 v := ⟨hp5, (H4.out.2.1.hm.alloc _).kept hgrow5 (fun c => HOV.out.2 c.symm)⟩
            have hg5 : G.GAt w5 B0 168 61 q (n : Int) u R := gat_row (H4.out.1.below ((Below.refl _ _).alloc (Nat.le_refl _) _)) hgrow5 (HO4.out.alloc _)
            have hB5 : Below w.heap.size w w5 := (H4.out.2.2.2.2.trans (((Below.refl _ _).alloc (Nat.le_refl _) _).mono H4.out.2.2.2.2.size)).grown hgrow5 (by simp; omega) (fun i hi => (World.ownsRow.lt HO4.out i hi).1)
            have hne5 : (Value.slice a5 (cs.length + 1) c5).ownBlock ≠ some (w.heap.size + 1) ∧ (Value.slice a5 (cs.length + 1) c5).ownBlock ≠ some w.heap.size := by
              rcases hloc5 with c | c
              · rw [c]; exact HOV.out
              · rw [c]; refine ⟨?_, ?_⟩ <;> simp <;> omega
            have hbt : But (w.heap.size + 1) w5 (w5.setCell ⟨w.heap.size + 1, 1, none⟩ (.slice a5 (cs.length + 1) c5)) := (But.refl _ _).setCell _ _
            have HR6 : Hid (G.GAt (w5.setCell ⟨w.heap.size + 1, 1, none⟩ (.slice a5 (cs.length + 1) c5)) B0 168 61 q (n : Int) u R ∧ BlAt (w5.setCell ⟨w.heap.size + 1, 1, none⟩ (.slice a5 (cs.length + 1) c5)) (w.heap.size + 1) w.heap.size j D4 (.slice a5 (cs.length + 1) c5) ∧ (w5.setCell ⟨w.heap.size + 1, 1, none⟩ (.slice a5 (cs.length + 1) c5)).ownsRow w.heap.size 3 1 (.slice a5 (cs.length + 1) c5) (cs ++ [x]).length (natsV (cs ++ [x])) ∧ Below w.heap.size w (w5.setCell ⟨w.heap.size + 1, 1, none⟩ (.slice a5 (cs.length + 1) c5))) := by
              refine ⟨gat_but' hg5 hbt hp5, hbl5.store _, ?_, hB5.trans (hbt.below (by omega) hB5.size)⟩
              have := hown5.kept (w' := w5.setCell ⟨w.heap.size + 1, 1, none⟩ (.slice a5 (cs.length + 1) c5)) (row := some (w.heap.size + 1)) ⟨hbt.os, hbt.tape, hbt.output, hbt.size, fun i hi hne => hbt.block i hi (fun c => hne (by rw [c]))⟩ (.inr hne5.1)
              simpa [natsV] using this
            have HNE : Hid ((Value.slice a5 (cs.length + 1) c5).ownBlock ≠ some (w.heap.size + 1) ∧ (Value.slice a5 (cs.length + 1) c5).ownBlock ≠ some w.heap.size) := hne5
            clear hbl5 hg5 hB5 hne5 hbt hown5 hgrow5 hnil5 hloc5 hp5 hf5 hc5
            generalize w5.setCell ⟨w.heap.size + 1, 1, none⟩ (.slice a5 (cs.length + 1) c5) = w6 at *
            go_wp2_with fail
            go_roundw
            case rel => exact ⟨x + 1, D4, L4, cs ++ [x], _, by omega, HC.out, by go_num, HR6.out.1, HR6.out.2.1, H4.out.2.2.1, H4.out.2.2.2.1, HR6.out.2.2.1, HNE.out.1, HNE.out.2, HR6.out.2.2.2⟩
            case measure => simp [intOf]; omega
          · as_aux_lemma =>
            have HC : Hid (CutsB R (x + 1) cs) := HCS.out.no (fun c => hk1 (HCUT.out.2 c))
            have HO4 : Hid (w4.ownsRow w.heap.size 3 1 v cs.length (natsV cs)) := ho4
            clear hb4 hB4 HCUT ho4
            go_wp2_with fail
            go_roundw
            case rel => exact ⟨x + 1, D4, L4, cs, v, by omega, HC.out, by go_num, H4.out.1, H4.out.2.1, H4.out.2.2.1, H4.out.2.2.2.1, HO4.out, HOV.out.1, HOV.out.2, H4.out.2.2.2.2⟩
            case measure => simp [intOf]; omega
        · have hxe : x = n := by omega
          subst hxe
          go_wp2_with fail
          go_ret
          exact ⟨_, _, j, Dx, v, Lx, cs, rfl, HX.out.2.1, by omega, HX.out.2.2.1, HX.out.2.2.2, HCS.out, HOX.out.1, HOX.out.2.2.2⟩

end Go.Proofs.YtebcjaenhiiflaaGreatDoor.S
