/- At, Without and Edge of a graph. -/
import Derived.Test.YtpkdpddillebfaaDoorGX
namespace Go.Proofs.YtpkdpddillebfaaDoor.G
open Go.RowKit

set_option maxHeartbeats 1000000 in
set_option maxRecDepth 100000 in
theorem edge_hit (id n x0 x1 x2 : Int) (B p k : Nat) (v : Value) (L : List E) (w : World) (h : GAt w B 90 59 p n v L) (hu : Up L) (hl : L.length ≤ 120) (hk : k = place L id) (hx : L[k]? = some (x0, x1, x2)) (hs : seen L id = some (x0, x1, x2)) :
    Calls Tryd.prog 22 #[.pointer (some ⟨p, 0, none⟩), .int .i64 id] w fun e w' => e = .returned (.tuple #[.agg #[.int .i64 x0, .int .i64 x1, .int .i64 x2], .nilIface]) ∧ Below w.heap.size w w' := by
  have hb0 : Below w.heap.size w (w.alloc (.cells #[.int .i64 0, .int .i64 0, .int .i64 0] 59)) := (Below.refl _ _).alloc (Nat.le_refl _) _
  have HC : Hid (Calls Tryd.prog 43 #[.pointer (some ⟨p, 0, none⟩), .int .i64 id] (w.alloc (.cells #[.int .i64 0, .int .i64 0, .int .i64 0] 59)) fun e w' => e = .returned (.tuple #[.int .i64 (k : Int), .bool true]) ∧ Below (w.heap.size + 1) (w.alloc (.cells #[.int .i64 0, .int .i64 0, .int .i64 0] 59)) w') := by
    have := find_any id B p k n v L true _ (h.below hb0) hu (by omega) hk (by rw [hs]; rfl)
    refine this.mono ?_
    rintro e w' ⟨h1, h2⟩
    exact ⟨h1, by simpa using h2⟩
  have hlt : k < L.length := (List.getElem?_eq_some_iff.1 hx).1
  have HG : Hid (GAt w B 90 59 p n v L) := h
  have HX : Hid (L[k]? = some (x0, x1, x2)) := hx
  obtain ⟨m, hm⟩ : ∃ m, m = L.length := ⟨_, rfl⟩
  obtain ⟨g, cap, hv⟩ : ∃ g cap, v = .slice (some ⟨g, 0, none⟩) m cap := by
    rcases h.row.shape with ⟨_, e⟩ | ⟨g, cap, e, _⟩
    · rw [e] at hlt; simp at hlt
    · exact ⟨g, cap, by rw [hm]; exact e⟩
  rw [← hm] at hlt hl
  clear h hu hs hb0 hx hk hm
  go_enter Tryd.func22, Tryd.ntmps22
  go_wp2_with fail
  refine HC.out.mono ?_
  rintro e w1 ⟨rfl, hb⟩
  have hh : w1.heap[w.heap.size]? = some (.cells #[.int .i64 0, .int .i64 0, .int .i64 0] 59) := by rw [hb.block w.heap.size (by omega)]; exact heap_alloc_new w _
  have q0 : w1.cell? ⟨w.heap.size, 0, none⟩ = some (.int .i64 0) := by simp [World.cell?, hh]
  have q1 : w1.cell? ⟨w.heap.size, 1, none⟩ = some (.int .i64 0) := by simp [World.cell?, hh]
  have q2 : w1.cell? ⟨w.heap.size, 2, none⟩ = some (.int .i64 0) := by simp [World.cell?, hh]
  have q3 : ∀ i, w1.frozen? ⟨w.heap.size, i, none⟩ = false := fun i => by simp [World.frozen?, hh]
  have hb1 : Below w.heap.size w w1 := ((Below.refl _ _).alloc (Nat.le_refl _) _).trans (hb.mono (by omega))
  have HB : Hid (Below w.heap.size w w1) := hb1
  have hg1 := HG.out.below hb1
  have hp := hg1.c1
  have hrow := hg1.row.at (g := g) (by rw [hv]; rfl) HX.out
  rw [hv] at hp
  obtain ⟨r0, r1, r2⟩ := hrow
  have r0' : w1.cell? ⟨g, k * 3, none⟩ = some (.int .i64 x0) := r0
  have r1' : w1.cell? ⟨g, k * 3 + 1, none⟩ = some (.int .i64 x1) := r1
  have r2' : w1.cell? ⟨g, k * 3 + 2, none⟩ = some (.int .i64 x2) := r2
  clear hb hh HC hb1 hg1 hv r0 r1 r2
  go_wp2
  (try simp only [Exit.inBlock, Exit.then])
  refine bodyPost_ret (v := .tuple #[.agg #[.int .i64 x0, .int .i64 x1, .int .i64 x2], .nilIface]) ?_ rfl ⟨rfl, ?_⟩
  · rw [results_cell_tmp rfl]
    go_simp
  · exact ((HB.out.setCell (Nat.le_refl _) _).setCell (Nat.le_refl _) _).setCell (Nat.le_refl _) _

/-- Is one among them? -/
def among (F : Nat → Int) (m : Nat) (x : Int) : Bool := (List.range m).any fun t => F t == x

theorem among_hit {F : Nat → Int} {m t : Nat} {x : Int} (ht : t < m) (h : F t = x) : among F m x = true := by
  simp only [among, List.any_eq_true, List.mem_range]
  exact ⟨t, ht, by simp [h]⟩

theorem among_miss {F : Nat → Int} {m : Nat} {x : Int} (h : ∀ t, t < m → F t ≠ x) : among F m x = false := by
  simp only [among, List.any_eq_false, List.mem_range]
  intro t ht
  simpa using h t ht

set_option maxHeartbeats 1000000 in
set_option maxRecDepth 100000 in
theorem index_any (a : Option Addr) (m cap : Nat) (F : Nat → Int) (x : Int) (w : World) (h : Ints w a m F) (hm : m ≤ 1000) :
    Calls Tryd.prog 79 #[.slice a m cap, .int .i64 x] w fun e w' => ∃ r : Int, e = .returned (.int .i64 r) ∧ decide (0 ≤ r) = among F m x ∧ w' = w := by
  have HI : Hid (Ints w a m F) := h
  clear h
  go_enter Tryd.func79, Tryd.ntmps79
  go_wp2_with fail
  go_loopg [5, 8] m (fun r _ s8 wq => ∃ k : Nat, s8 = .int .i64 k ∧ k + r = m ∧ (∀ t, t < k → F t ≠ x) ∧ wq = w)
  case atStart => exact ⟨0, rfl, by omega, fun t ht => by omega, rfl⟩
  case round =>
    obtain ⟨k, rfl, hk, hno, rfl⟩ := hrel
    by_cases hlt : k < m
    · obtain ⟨bl, off, ha, hc⟩ := HI.out.some_ (by omega)
      have c := hc k hlt
      subst ha
      clear hc
      by_cases hy : x = F k
      · as_aux_lemma =>
        have HA : Hid (decide (0 ≤ (k : Int)) = among F m x) := by
          show decide (0 ≤ (k : Int)) = among F m x
          rw [among_hit hlt hy.symm]; simp
        clear hno
        generalize F k = y at *
        subst hy
        go_wp2_with fail
        go_ret
        exact ⟨k, rfl, HA.out, rfl⟩
      · as_aux_lemma =>
        have HN : Hid (∀ t, t < k + 1 → F t ≠ x) := by
          intro t ht
          rcases Nat.lt_succ_iff_lt_or_eq.1 ht with h | h
          · exact hno t h
          · subst h; exact fun e => hy e.symm
        clear hno
        generalize F k = y at *
        have hyb : (x == y) = false := beq_eq_false_iff_ne.2 hy
        clear hy
        go_wp2_with fail
        go_roundg (gk - 1)
        case measure => omega
        case rel => exact ⟨k + 1, by go_num, by omega, HN.out, rfl⟩
    · have hke : m = k := by omega
      have HA : Hid (decide (0 ≤ (-1 : Int)) = among F m x) := by
        show decide (0 ≤ (-1 : Int)) = among F m x
        rw [among_miss (fun t ht => hno t (by omega))]; rfl
      clear hno
      go_wp2_with fail
      go_ret
      exact ⟨-1, rfl, HA.out, rfl⟩

set_option maxHeartbeats 400000 in
theorem contains_any (a : Option Addr) (m cap : Nat) (F : Nat → Int) (x : Int) (ok : Bool) (w : World) (h : Ints w a m F) (hm : m ≤ 1000) (hok : among F m x = ok) :
    Calls Tryd.prog 53 #[.slice a m cap, .int .i64 x] w fun e w' => e = .returned (.bool ok) ∧ w' = w := by
  have HI : Hid (Ints w a m F) := h
  have HO : Hid (among F m x = ok) := hok
  clear h hok
  go_enter Tryd.func53, Tryd.ntmps53
  go_wp2_with fail
  refine (index_any a m cap F x w HI.out hm).mono ?_
  rintro e w' ⟨r, rfl, hr, rfl⟩
  have HR : Hid (decide (0 ≤ r) = ok) := hr.trans HO.out
  clear hr
  go_wp2_with fail
  go_ret
  exact ⟨by rw [← HR.out]; rfl, rfl⟩

set_option maxHeartbeats 400000 in
theorem at1_any (x0 x1 x2 y : Int) (xb : Nat) (ok : Bool) (w : World) (hc : w.cell? ⟨xb, 0, none⟩ = some (.int .i64 y)) (hok : (x1 == y || x2 == y) = ok) :
    Calls Tryd.prog 51 #[.agg #[.int .i64 x0, .int .i64 x1, .int .i64 x2], .pointer (some ⟨xb, 0, none⟩)] w fun e w' => e = .returned (.bool ok) ∧ Below w.heap.size w w' := by
  have hlt : xb < w.heap.size := lt_of_cell hc
  by_cases h1 : x1 = y
  · have HO : Hid (ok = true) := by
      show ok = true
      rw [← hok, h1]; simp
    clear hok
    subst h1
    go_enter Tryd.func51, Tryd.ntmps51
    go_wp2
    go_ret
    exact ⟨by rw [HO.out]; rfl, below_box _ _⟩
  · have h1b : (x1 == y) = false := beq_eq_false_iff_ne.2 h1
    by_cases h2 : x2 = y
    · have HO : Hid (ok = true) := by
        show ok = true
        rw [← hok, h2]; simp
      clear hok h1
      subst h2
      go_enter Tryd.func51, Tryd.ntmps51
      go_wp2
      go_ret
      exact ⟨by rw [HO.out]; rfl, below_box _ _⟩
    · have h2b : (x2 == y) = false := beq_eq_false_iff_ne.2 h2
      have HO : Hid (ok = false) := by
        show ok = false
        rw [← hok, h1b, h2b]; rfl
      clear hok h1 h2
      go_enter Tryd.func51, Tryd.ntmps51
      go_wp2
      go_ret
      exact ⟨by rw [HO.out]; rfl, below_box _ _⟩

set_option maxHeartbeats 1000000 in
set_option maxRecDepth 100000 in
theorem wo1_any (x0 x1 x2 : Int) (eb nb : Nat) (ae an : Option Addr) (me mn ce cn : Nat) (Fe Fn : Nat → Int) (ok : Bool) (w : World) (he : w.cell? ⟨eb, 0, none⟩ = some (.slice ae me ce)) (hn : w.cell? ⟨nb, 0, none⟩ = some (.slice an mn cn))
    (hie : Ints w ae me Fe) (hin : Ints w an mn Fn) (hme : me ≤ 1000) (hmn : mn ≤ 1000) (hok : (!among Fe me x0 && !among Fn mn x1 && !among Fn mn x2) = ok) :
    Calls Tryd.prog 52 #[.agg #[.int .i64 x0, .int .i64 x1, .int .i64 x2], .pointer (some ⟨eb, 0, none⟩), .pointer (some ⟨nb, 0, none⟩)] w fun e w' => e = .returned (.bool ok) ∧ Below w.heap.size w w' := by
  have hlt : eb < w.heap.size := lt_of_cell he
  have hlt2 : nb < w.heap.size := lt_of_cell hn
  have HE : Hid (∀ o, Ints (w.alloc o) ae me Fe) := fun o => hie.below (below_box w o)
  have HN : Hid (∀ o, Ints (w.alloc o) an mn Fn) := fun o => hin.below (below_box w o)
  clear hie hin
  cases hc1 : among Fe me x0 with
  | true =>
    have HC1 : Hid (among Fe me x0 = true) := hc1
    have HO : Hid (ok = false) := by
      show ok = false
      rw [← hok, hc1]; rfl
    clear hok hc1
    go_enter Tryd.func52, Tryd.ntmps52
    go_wp2_with fail
    refine (contains_any ae me ce Fe x0 true _ (HE.out _) hme HC1.out).mono ?_
    rintro e w1 ⟨rfl, rfl⟩
    go_wp2_with fail
    go_ret
    exact ⟨by rw [HO.out]; rfl, below_box _ _⟩
  | false =>
    have HC1 : Hid (among Fe me x0 = false) := hc1
    rw [hc1] at hok
    clear hc1
    cases hc2 : among Fn mn x1 with
    | true =>
      have HC2 : Hid (among Fn mn x1 = true) := hc2
      have HO : Hid (ok = false) := by
        show ok = false
        rw [← hok, hc2]; rfl
      clear hok hc2
      go_enter Tryd.func52, Tryd.ntmps52
      go_wp2_with fail
      refine (contains_any ae me ce Fe x0 false _ (HE.out _) hme HC1.out).mono ?_
      rintro e w1 ⟨rfl, rfl⟩
      go_wp2_with fail
      refine (contains_any an mn cn Fn x1 true _ (HN.out _) hmn HC2.out).mono ?_
      rintro e w1 ⟨rfl, rfl⟩
      go_wp2_with fail
      go_ret
      exact ⟨by rw [HO.out]; rfl, below_box _ _⟩
    | false =>
      have HC2 : Hid (among Fn mn x1 = false) := hc2
      rw [hc2] at hok
      clear hc2
      have HC3 : Hid (among Fn mn x2 = !ok) := by
        show among Fn mn x2 = !ok
        rw [← hok]; simp
      clear hok
      go_enter Tryd.func52, Tryd.ntmps52
      go_wp2_with fail
      refine (contains_any ae me ce Fe x0 false _ (HE.out _) hme HC1.out).mono ?_
      rintro e w1 ⟨rfl, rfl⟩
      go_wp2_with fail
      refine (contains_any an mn cn Fn x1 false _ (HN.out _) hmn HC2.out).mono ?_
      rintro e w1 ⟨rfl, rfl⟩
      go_wp2_with fail
      refine (contains_any an mn cn Fn x2 (!ok) _ (HN.out _) hmn HC3.out).mono ?_
      rintro e w1 ⟨rfl, rfl⟩
      cases ok
      · go_wp2_with fail
        go_ret
        exact ⟨rfl, below_box _ _⟩
      · go_wp2_with fail
        go_ret
        exact ⟨rfl, below_box _ _⟩

set_option maxHeartbeats 2000000 in
set_option maxRecDepth 100000 in
theorem those_at (pf : E → Bool) (n : Int) (B p : Nat) (xb : Nat) (v : Value) (L : List E) (w : World) (h : GAt w B 90 59 p n v L) (hl : L.length ≤ 120)
    (hf : ∀ W x0 x1 x2, Below w.heap.size w W → Calls Tryd.prog 51 #[.agg #[.int .i64 x0, .int .i64 x1, .int .i64 x2], .pointer (some ⟨xb, 0, none⟩)] W fun e w' => e = .returned (.bool (pf (x0, x1, x2))) ∧ Below W.heap.size W w') :
    Calls Tryd.prog 50 #[.pointer (some ⟨p, 0, none⟩), .func (.func 51) #[] #[.pointer (some ⟨xb, 0, none⟩)]] w fun e w' => ∃ u, e = .returned u ∧ Owns w' w.heap.size 59 u (L.filter pf) ∧ Below w.heap.size w w' := by
  have HF : Hid (∀ W x0 x1 x2, Below w.heap.size w W → Calls Tryd.prog 51 #[.agg #[.int .i64 x0, .int .i64 x1, .int .i64 x2], .pointer (some ⟨xb, 0, none⟩)] W fun e w' => e = .returned (.bool (pf (x0, x1, x2))) ∧ Below W.heap.size W w') := hf
  have HG : Hid (GAt w B 90 59 p n v L) := h
  obtain ⟨m, hm⟩ : ∃ m, m = L.length := ⟨_, rfl⟩
  have HM : Hid (m = L.length) := hm
  have hp := h.c1
  obtain ⟨va, vc, hv⟩ := h.row.slice_len
  rw [← hm] at hv hl
  have HV : Hid (v = .slice va m vc) := hv
  rw [hv] at hp
  clear hf h hv hm
  go_enter Tryd.func50, Tryd.ntmps50
  go_wp2_with fail
  go_loopg [5, 7, 13] m (fun r s5 _ s13 wq => ∃ k : Nat, s13 = .int .i64 k ∧ k + r = m ∧ Owns wq w.heap.size 59 s5 ((L.take k).filter pf) ∧ Below w.heap.size w wq)
  case atStart => exact ⟨0, rfl, by omega, World.ownsRow_nil _ _ _ _, Below.refl _ _⟩
  case round =>
    obtain ⟨k, rfl, hk, ho, hb⟩ := hrel
    have HO : Hid (Owns wr w.heap.size 59 u5 ((L.take k).filter pf)) := ho
    have HB : Hid (Below w.heap.size w wr) := hb
    clear ho hb
    by_cases hlt : k < m
    · obtain ⟨x0, x1, x2, hx⟩ : ∃ x0 x1 x2, L[k]? = some (x0, x1, x2) := ⟨_, _, _, List.getElem?_eq_getElem (by rw [← HM.out]; exact hlt)⟩
      have HX : Hid (L[k]? = some (x0, x1, x2)) := hx
      obtain ⟨g, hva⟩ : ∃ g, va = some ⟨g, 0, none⟩ := by
        rcases HG.out.row.shape with ⟨_, e⟩ | ⟨g, cap, e, _⟩
        · rw [e] at hx; simp at hx
        · rw [HV.out] at e
          injection e with e1 _ _
          exact ⟨g, e1⟩
      have hg1 := HG.out.below HB.out
      obtain ⟨r0, r1, r2⟩ := hg1.row.at (g := g) (by rw [HV.out, hva]; rfl) hx
      have r0' : wr.cell? ⟨g, k * 3, none⟩ = some (.int .i64 x0) := r0
      have r1' : wr.cell? ⟨g, k * 3 + 1, none⟩ = some (.int .i64 x1) := r1
      have r2' : wr.cell? ⟨g, k * 3 + 2, none⟩ = some (.int .i64 x2) := r2
      clear hg1 r0 r1 r2 hx
      subst hva
      have HB1 : Hid (Below w.heap.size w (wr.alloc (.cells #[.int .i64 x0, .int .i64 x1, .int .i64 x2] 59))) := HB.out.alloc HB.out.size _
      go_wp2_with fail
      refine (HF.out _ x0 x1 x2 HB1.out).mono ?_
      rintro e w2 ⟨rfl, hb2⟩
      have hb2' : Below (wr.heap.size + 1) (wr.alloc (.cells #[.int .i64 x0, .int .i64 x1, .int .i64 x2] 59)) w2 := by simpa using hb2
      have HB2 : Hid (Below w.heap.size w w2) := HB1.out.trans (hb2.mono HB1.out.size)
      have hb3 : Below wr.heap.size wr w2 := (below_box wr _).trans (hb2'.mono (by omega))
      have HO2 : Hid (Owns w2 w.heap.size 59 u5 ((L.take k).filter pf)) := HO.out.below hb3
      cases hpf : pf (x0, x1, x2) with
      | true =>
        as_aux_lemma =>
        have hh : w2.heap[wr.heap.size]? = some (.cells #[.int .i64 x0, .int .i64 x1, .int .i64 x2] 59) := by rw [hb2'.block wr.heap.size (by omega)]; exact heap_alloc_new wr _
        have q0 : w2.cell? ⟨wr.heap.size, 0, none⟩ = some (.int .i64 x0) := by simp [World.cell?, hh]
        have q1 : w2.cell? ⟨wr.heap.size, 1, none⟩ = some (.int .i64 x1) := by simp [World.cell?, hh]
        have q2 : w2.cell? ⟨wr.heap.size, 2, none⟩ = some (.int .i64 x2) := by simp [World.cell?, hh]
        obtain ⟨v', w3, hr, ho3, hb4, _, _⟩ := app_one 49 w2 w.heap.size u5 _ x0 x1 x2 HO2.out HB2.out.size (by have := filter_len L k pf; rw [← HM.out] at this; omega)
        have HR : Hid (_ = _) := hr
        have HO3 : Hid (Owns w3 w.heap.size 59 v' ((L.take (k + 1)).filter pf)) := by
          show Owns w3 w.heap.size 59 v' ((L.take (k + 1)).filter pf)
          rw [take_filter pf HX.out, hpf]; exact ho3
        have HB3 : Hid (Below w.heap.size w w3) := HB2.out.trans hb4
        clear hr ho3 hb4 hh hb2 hb2' hb3 HO2 HO HB HB1 HB2 hpf r0' r1' r2'
        go_wp2_with (at_builtin; refine Lib.wpList_append_run _ rfl _ _ _ _ rfl _ _ rfl rfl _ _ HR.out ?_)
        go_roundg (gk - 1)
        case measure => omega
        case rel => exact ⟨k + 1, by go_num, by omega, HO3.out, HB3.out⟩
      | false =>
        as_aux_lemma =>
        have HO3 : Hid (Owns w2 w.heap.size 59 u5 ((L.take (k + 1)).filter pf)) := by
          show Owns w2 w.heap.size 59 u5 ((L.take (k + 1)).filter pf)
          rw [take_filter pf HX.out, hpf]
          simpa using HO2.out
        clear hb2 hb2' hb3 HO2 HO HB HB1 hpf r0' r1' r2'
        go_wp2_with fail
        go_roundg (gk - 1)
        case measure => omega
        case rel => exact ⟨k + 1, by go_num, by omega, HO3.out, HB2.out⟩
    · have hke : L.take k = L := List.take_of_length_le (by rw [← HM.out]; omega)
      have HO3 : Hid (Owns wr w.heap.size 59 u5 (L.filter pf)) := by
        show Owns wr w.heap.size 59 u5 (L.filter pf)
        have := HO.out
        rw [hke] at this; exact this
      clear hke HO
      go_wp2_with fail
      go_ret
      exact ⟨_, rfl, HO3.out, HB.out⟩

set_option maxHeartbeats 2000000 in
set_option maxRecDepth 100000 in
theorem those_wo (pf : E → Bool) (n : Int) (B p : Nat) (eb nb : Nat) (v : Value) (L : List E) (w : World) (h : GAt w B 90 59 p n v L) (hl : L.length ≤ 120)
    (hf : ∀ W x0 x1 x2, Below w.heap.size w W → Calls Tryd.prog 52 #[.agg #[.int .i64 x0, .int .i64 x1, .int .i64 x2], .pointer (some ⟨eb, 0, none⟩), .pointer (some ⟨nb, 0, none⟩)] W fun e w' => e = .returned (.bool (pf (x0, x1, x2))) ∧ Below W.heap.size W w') :
    Calls Tryd.prog 50 #[.pointer (some ⟨p, 0, none⟩), .func (.func 52) #[] #[.pointer (some ⟨eb, 0, none⟩), .pointer (some ⟨nb, 0, none⟩)]] w fun e w' => ∃ u, e = .returned u ∧ Owns w' w.heap.size 59 u (L.filter pf) ∧ Below w.heap.size w w' := by
  have HF : Hid (∀ W x0 x1 x2, Below w.heap.size w W → Calls Tryd.prog 52 #[.agg #[.int .i64 x0, .int .i64 x1, .int .i64 x2], .pointer (some ⟨eb, 0, none⟩), .pointer (some ⟨nb, 0, none⟩)] W fun e w' => e = .returned (.bool (pf (x0, x1, x2))) ∧ Below W.heap.size W w') := hf
  have HG : Hid (GAt w B 90 59 p n v L) := h
  obtain ⟨m, hm⟩ : ∃ m, m = L.length := ⟨_, rfl⟩
  have HM : Hid (m = L.length) := hm
  have hp := h.c1
  obtain ⟨va, vc, hv⟩ := h.row.slice_len
  rw [← hm] at hv hl
  have HV : Hid (v = .slice va m vc) := hv
  rw [hv] at hp
  clear hf h hv hm
  go_enter Tryd.func50, Tryd.ntmps50
  go_wp2_with fail
  go_loopg [5, 7, 13] m (fun r s5 _ s13 wq => ∃ k : Nat, s13 = .int .i64 k ∧ k + r = m ∧ Owns wq w.heap.size 59 s5 ((L.take k).filter pf) ∧ Below w.heap.size w wq)
  case atStart => exact ⟨0, rfl, by omega, World.ownsRow_nil _ _ _ _, Below.refl _ _⟩
  case round =>
    obtain ⟨k, rfl, hk, ho, hb⟩ := hrel
    have HO : Hid (Owns wr w.heap.size 59 u5 ((L.take k).filter pf)) := ho
    have HB : Hid (Below w.heap.size w wr) := hb
    clear ho hb
    by_cases hlt : k < m
    · obtain ⟨x0, x1, x2, hx⟩ : ∃ x0 x1 x2, L[k]? = some (x0, x1, x2) := ⟨_, _, _, List.getElem?_eq_getElem (by rw [← HM.out]; exact hlt)⟩
      have HX : Hid (L[k]? = some (x0, x1, x2)) := hx
      obtain ⟨g, hva⟩ : ∃ g, va = some ⟨g, 0, none⟩ := by
        rcases HG.out.row.shape with ⟨_, e⟩ | ⟨g, cap, e, _⟩
        · rw [e] at hx; simp at hx
        · rw [HV.out] at e
          injection e with e1 _ _
          exact ⟨g, e1⟩
      have hg1 := HG.out.below HB.out
      obtain ⟨r0, r1, r2⟩ := hg1.row.at (g := g) (by rw [HV.out, hva]; rfl) hx
      have r0' : wr.cell? ⟨g, k * 3, none⟩ = some (.int .i64 x0) := r0
      have r1' : wr.cell? ⟨g, k * 3 + 1, none⟩ = some (.int .i64 x1) := r1
      have r2' : wr.cell? ⟨g, k * 3 + 2, none⟩ = some (.int .i64 x2) := r2
      clear hg1 r0 r1 r2 hx
      subst hva
      have HB1 : Hid (Below w.heap.size w (wr.alloc (.cells #[.int .i64 x0, .int .i64 x1, .int .i64 x2] 59))) := HB.out.alloc HB.out.size _
      go_wp2_with fail
      refine (HF.out _ x0 x1 x2 HB1.out).mono ?_
      rintro e w2 ⟨rfl, hb2⟩
      have hb2' : Below (wr.heap.size + 1) (wr.alloc (.cells #[.int .i64 x0, .int .i64 x1, .int .i64 x2] 59)) w2 := by simpa using hb2
      have HB2 : Hid (Below w.heap.size w w2) := HB1.out.trans (hb2.mono HB1.out.size)
      have hb3 : Below wr.heap.size wr w2 := (below_box wr _).trans (hb2'.mono (by omega))
      have HO2 : Hid (Owns w2 w.heap.size 59 u5 ((L.take k).filter pf)) := HO.out.below hb3
      cases hpf : pf (x0, x1, x2) with
      | true =>
        as_aux_lemma =>
        have hh : w2.heap[wr.heap.size]? = some (.cells #[.int .i64 x0, .int .i64 x1, .int .i64 x2] 59) := by rw [hb2'.block wr.heap.size (by omega)]; exact heap_alloc_new wr _
        have q0 : w2.cell? ⟨wr.heap.size, 0, none⟩ = some (.int .i64 x0) := by simp [World.cell?, hh]
        have q1 : w2.cell? ⟨wr.heap.size, 1, none⟩ = some (.int .i64 x1) := by simp [World.cell?, hh]
        have q2 : w2.cell? ⟨wr.heap.size, 2, none⟩ = some (.int .i64 x2) := by simp [World.cell?, hh]
        obtain ⟨v', w3, hr, ho3, hb4, _, _⟩ := app_one 49 w2 w.heap.size u5 _ x0 x1 x2 HO2.out HB2.out.size (by have := filter_len L k pf; rw [← HM.out] at this; omega)
        have HR : Hid (_ = _) := hr
        have HO3 : Hid (Owns w3 w.heap.size 59 v' ((L.take (k + 1)).filter pf)) := by
          show Owns w3 w.heap.size 59 v' ((L.take (k + 1)).filter pf)
          rw [take_filter pf HX.out, hpf]; exact ho3
        have HB3 : Hid (Below w.heap.size w w3) := HB2.out.trans hb4
        clear hr ho3 hb4 hh hb2 hb2' hb3 HO2 HO HB HB1 HB2 hpf r0' r1' r2'
        go_wp2_with (at_builtin; refine Lib.wpList_append_run _ rfl _ _ _ _ rfl _ _ rfl rfl _ _ HR.out ?_)
        go_roundg (gk - 1)
        case measure => omega
        case rel => exact ⟨k + 1, by go_num, by omega, HO3.out, HB3.out⟩
      | false =>
        as_aux_lemma =>
        have HO3 : Hid (Owns w2 w.heap.size 59 u5 ((L.take (k + 1)).filter pf)) := by
          show Owns w2 w.heap.size 59 u5 ((L.take (k + 1)).filter pf)
          rw [take_filter pf HX.out, hpf]
          simpa using HO2.out
        clear hb2 hb2' hb3 HO2 HO HB HB1 hpf r0' r1' r2'
        go_wp2_with fail
        go_roundg (gk - 1)
        case measure => omega
        case rel => exact ⟨k + 1, by go_num, by omega, HO3.out, HB2.out⟩
    · have hke : L.take k = L := List.take_of_length_le (by rw [← HM.out]; omega)
      have HO3 : Hid (Owns wr w.heap.size 59 u5 (L.filter pf)) := by
        show Owns wr w.heap.size 59 u5 (L.filter pf)
        have := HO.out
        rw [hke] at this; exact this
      clear hke HO
      go_wp2_with fail
      go_ret
      exact ⟨_, rfl, HO3.out, HB.out⟩

/-- The edges of a node. -/
def ofNode (x : Int) : E → Bool := fun e => e.2.1 == x || e.2.2 == x

set_option maxHeartbeats 400000 in
theorem at_in (x n : Int) (B p : Nat) (v : Value) (L : List E) (w : World) (h : GAt w B 90 59 p n v L) (hl : L.length ≤ 120) (hx : 0 ≤ x ∧ x < n) :
    Calls Tryd.prog 24 #[.pointer (some ⟨p, 0, none⟩), .int .i64 x] w fun e w' => ∃ u, e = .returned (.tuple #[u, .nilIface]) ∧ Owns w' w.heap.size 59 u (L.filter (ofNode x)) ∧ Below w.heap.size w w' := by
  have hb0 := below_box w (.cells #[.int .i64 x] 3)
  have HC : Hid (Calls Tryd.prog 45 #[.pointer (some ⟨p, 0, none⟩), .int .i64 x] (w.alloc (.cells #[.int .i64 x] 3)) fun e w' => e = .returned (.bool true) ∧ w' = w.alloc (.cells #[.int .i64 x] 3)) := has_t x n B p v L _ (h.below hb0) hx
  have HD : Hid (Calls Tryd.prog 50 #[.pointer (some ⟨p, 0, none⟩), .func (.func 51) #[] #[.pointer (some ⟨w.heap.size, 0, none⟩)]] (w.alloc (.cells #[.int .i64 x] 3)) fun e w' => ∃ u, e = .returned u ∧ Owns w' w.heap.size 59 u (L.filter (ofNode x)) ∧ Below w.heap.size w w') := by
    have hc : (w.alloc (.cells #[.int .i64 x] 3)).cell? ⟨w.heap.size, 0, none⟩ = some (.int .i64 x) := by rw [World.cell?_alloc_at _ _ _ _ rfl]; rfl
    have := those_at (ofNode x) n B p w.heap.size v L _ (h.below hb0) hl (fun W x0 x1 x2 hb => at1_any x0 x1 x2 x w.heap.size _ W ((hb.cell (p := ⟨w.heap.size, 0, none⟩) (by simp)).trans hc) rfl)
    refine this.mono ?_
    rintro e w' ⟨u, he, ho, hb⟩
    exact ⟨u, he, ho.mono (by simp), hb0.trans (hb.mono (by simp))⟩
  clear h hx hb0
  go_enter Tryd.func24, Tryd.ntmps24
  go_wp2_with fail
  refine HC.out.mono ?_
  rintro e w1 ⟨rfl, hw⟩
  have HW : Hid (w1 = w.alloc (.cells #[.int .i64 x] 3)) := hw
  clear hw HC
  go_wp2_with fail
  rw [HW.out]
  refine HD.out.mono ?_
  rintro e w2 ⟨u, rfl, ho, hb⟩
  have HR : Hid (Owns w2 w.heap.size 59 u (L.filter (ofNode x)) ∧ Below w.heap.size w w2) := ⟨ho, hb⟩
  clear ho hb HD HW
  go_wp2_with fail
  go_ret2
  exact ⟨_, rfl, HR.out⟩

/-- The edges that stay. -/
def stays (Fe Fn : Nat → Int) (me mn : Nat) : E → Bool := fun e => !among Fe me e.1 && !among Fn mn e.2.1 && !among Fn mn e.2.2

set_option maxHeartbeats 2000000 in
set_option maxRecDepth 100000 in
theorem without_any (n : Int) (B p : Nat) (v : Value) (L : List E) (ae an : Option Addr) (me mn ce cn : Nat) (Fe Fn : Nat → Int) (w : World) (h : GAt w B 90 59 p n v L) (hl : L.length ≤ 120) (hie : Ints w ae me Fe) (hin : Ints w an mn Fn) (hme : me ≤ 1000) (hmn : mn ≤ 1000) :
    Calls Tryd.prog 26 #[.pointer (some ⟨p, 0, none⟩), .slice ae me ce, .slice an mn cn] w fun e w' => ∃ p' v', e = .returned (.pointer (some ⟨p', 0, none⟩)) ∧ GAt w' w.heap.size 90 59 p' n v' (L.filter (stays Fe Fn me mn)) ∧ Below w.heap.size w w' := by
  obtain ⟨W0, hW0⟩ : ∃ W0, W0 = (w.alloc (.cells #[.slice ae me ce] 30)).alloc (.cells #[.slice an mn cn] 30) := ⟨_, rfl⟩
  have hb0 : Below w.heap.size w W0 := by rw [hW0]; exact ((Below.refl _ _).alloc (Nat.le_refl _) _).alloc (by simp) _
  have hs0 : W0.heap.size = w.heap.size + 1 + 1 := by rw [hW0]; simp
  have he0 : W0.cell? ⟨w.heap.size, 0, none⟩ = some (.slice ae me ce) := by
    rw [hW0, World.cell?_alloc_lt _ _ ⟨w.heap.size, 0, none⟩ (by simp), World.cell?_alloc_at _ _ _ _ rfl]; rfl
  have hn0 : W0.cell? ⟨w.heap.size + 1, 0, none⟩ = some (.slice an mn cn) := by
    rw [hW0, World.cell?_alloc_at _ _ _ _ (by simp)]; rfl
  have hg0 := h.below hb0
  have hc0 := hg0.c0
  have HD : Hid (Calls Tryd.prog 50 #[.pointer (some ⟨p, 0, none⟩), .func (.func 52) #[] #[.pointer (some ⟨w.heap.size, 0, none⟩), .pointer (some ⟨w.heap.size + 1, 0, none⟩)]] W0.drew fun e w' => ∃ a m c, e = .returned (.slice a m c) ∧ w'.cell? ⟨p, 0, none⟩ = some (.int .i64 n) ∧ Hid (Owns w' w.heap.size 59 (.slice a m c) (L.filter (stays Fe Fn me mn)) ∧ Below w.heap.size w w')) := by
    have hbd : Below W0.heap.size W0 W0.drew := ⟨rfl, rfl, rfl, Nat.le_refl _, fun _ _ => rfl⟩
    have hbd2 : Below w.heap.size w W0.drew := hb0.trans (hbd.mono hb0.size)
    have := those_wo (stays Fe Fn me mn) n B p w.heap.size (w.heap.size + 1) v L W0.drew (hg0.below hbd) hl (fun W x0 x1 x2 hb => by
      have hbW : Below w.heap.size w W := hbd2.trans (hb.mono (by show w.heap.size ≤ W0.heap.size; omega))
      exact wo1_any x0 x1 x2 w.heap.size (w.heap.size + 1) ae an me mn ce cn Fe Fn _ W ((hb.cell (p := ⟨w.heap.size, 0, none⟩) (by show w.heap.size < W0.heap.size; omega)).trans he0) ((hb.cell (p := ⟨w.heap.size + 1, 0, none⟩) (by show w.heap.size + 1 < W0.heap.size; omega)).trans hn0) (hie.below hbW) (hin.below hbW) hme hmn rfl)
    refine this.mono ?_
    rintro e w' ⟨u, he, ho, hb⟩
    obtain ⟨a, m, c, rfl⟩ := ho.slice
    exact ⟨a, m, c, he, (hb.cell (p := ⟨p, 0, none⟩) (hg0.below hbd).plt).trans hc0, ho.mono (by show w.heap.size ≤ W0.heap.size; omega), hbd2.trans (hb.mono (by show w.heap.size ≤ W0.heap.size; omega))⟩
  have HW0 : Hid (W0 = (w.alloc (.cells #[.slice ae me ce] 30)).alloc (.cells #[.slice an mn cn] 30)) := hW0
  have hplt := h.plt
  clear hW0 hb0 hs0 he0 hn0 hg0 h hie hin
  go_enter Tryd.func26, Tryd.ntmps26
  go_wp2_with fail
  rw [← HW0.out]
  go_region_held (fun w' => w'.cell? ⟨p, 0, none⟩ = some (.int .i64 n)) (go_keep) (first | (go_at_call 50; refine HD.out.mono ?_; rintro e w2 ⟨a', m', c', rfl, hq, hr⟩))
  all_goals
    go_wp2_with fail
    go_ret
    refine ⟨_, _, rfl, ⟨heap_alloc_new _ _, hr.out.1.below (below_box _ _), ?_⟩, hr.out.2.trans ((below_box _ _).mono hr.out.2.size)⟩
    intro e
    have := (World.ownsRow.lt hr.out.1 _ e).2
    omega

end Go.Proofs.YtpkdpddillebfaaDoor.G
