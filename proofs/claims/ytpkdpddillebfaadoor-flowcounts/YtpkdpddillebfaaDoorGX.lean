/- Edges; rows that are appended to. -/
import Derived.Test.YtpkdpddillebfaaDoorGR
namespace Go.Proofs.YtpkdpddillebfaaDoor.G
open Go.RowKit

/-- A list of numbers that came in. -/
structure Ints (w : World) (a : Option Addr) (m : Nat) (F : Nat → Int) : Prop where
  some_ : 0 < m → ∃ bl off, a = some ⟨bl, off, none⟩ ∧ (∀ t, t < m → w.cell? ⟨bl, off + t, none⟩ = some (.int .i64 (F t)))

theorem Ints.below {w w' : World} {a : Option Addr} {m : Nat} {F : Nat → Int} (h : Ints w a m F) (hb : Below w.heap.size w w') : Ints w' a m F := by
  refine ⟨fun h0 => ?_⟩
  obtain ⟨bl, off, e, hc⟩ := h.some_ h0
  exact ⟨bl, off, e, fun t ht => (hb.cell (p := ⟨bl, off + t, none⟩) (lt_of_cell (hc t ht))).trans (hc t ht)⟩

theorem below_box (w : World) (o : Obj) : Below w.heap.size w (w.alloc o) := (Below.refl _ _).alloc (Nat.le_refl _) _

set_option maxHeartbeats 400000 in
theorem ed1_any (x0 x1 x2 : Int) (w : World) :
    Calls Tryd.prog 54 #[.agg #[.int .i64 x0, .int .i64 x1, .int .i64 x2]] w fun e w' => e = .returned (.bool true) ∧ Below w.heap.size w w' := by
  go_enter Tryd.func54, Tryd.ntmps54
  go_wp2
  go_ret
  exact ⟨rfl, below_box _ _⟩

/-- One edge is appended to a row. -/
theorem app_one (ty : TypeId) (W : World) (B : Nat) (u : Value) (M : List E) (x0 x1 x2 : Int) (h : Owns W B 59 u M) (hB : B ≤ W.heap.size) (hl : M.length ≤ 1000) :
    ∃ v' w', (Builtin.append_ #[49, 49] ty #[u, .slice (some ⟨W.heap.size, 0, none⟩) 1 1]).run Tryd.prog (W.alloc (.cells #[.int .i64 x0, .int .i64 x1, .int .i64 x2] 59)) = .ok v' w' ∧ Owns w' B 59 v' (M ++ [(x0, x1, x2)]) ∧ Below B W w' ∧ Fresh W u v' ∧ W.grownBy w' u.ownBlock := by
  have h' : Owns (W.alloc (.cells #[.int .i64 x0, .int .i64 x1, .int .i64 x2] 59)) B 59 u M := h.below (below_box W _)
  obtain ⟨v', w', h1, h2, h3, h4⟩ := append_E ty _ B u M [(x0, x1, x2)] h' (Nat.le_trans hB (by simp)) ⟨W.heap.size, 0, none⟩ 1 1 rfl (cells_of_block (heap_alloc_new W _)) (by simp; omega)
  have hg : W.grownBy w' u.ownBlock := by
    have hb := below_box W (.cells #[.int .i64 x0, .int .i64 x1, .int .i64 x2] 59)
    exact ⟨h3.os.trans hb.os, h3.tape.trans hb.tape, h3.output.trans hb.output, Nat.le_trans hb.size h3.size, fun k hk hn => (h3.block k (Nat.lt_of_lt_of_le hk hb.size) hn).trans (hb.block k hk)⟩
  refine ⟨v', w', h1, h2, ⟨hg.os, hg.tape, hg.output, hg.size, fun k hk => hg.block k (by omega) (fun e => ?_)⟩, fun k hk => ?_, hg⟩
  · have := (World.ownsRow.lt h k e.symm).1
    omega
  · rcases h4 k hk with h5 | h5
    · exact Or.inl h5
    · exact Or.inr (Nat.le_trans (by simp) h5)

theorem take_filter {L : List E} {k : Nat} {x : E} (pf : E → Bool) (h : L[k]? = some x) : (L.take (k + 1)).filter pf = (L.take k).filter pf ++ (if pf x then [x] else []) := by
  obtain ⟨hlt, he⟩ := List.getElem?_eq_some_iff.1 h
  rw [List.take_succ_eq_append_getElem hlt, List.filter_append, he]
  simp [List.filter_cons]

theorem filter_len (L : List E) (k : Nat) (pf : E → Bool) : ((L.take k).filter pf).length ≤ L.length := Nat.le_trans (List.length_filter_le _ _) (by simp; omega)

set_option maxHeartbeats 2000000 in
set_option maxRecDepth 100000 in
theorem those_ed (pf : E → Bool) (n : Int) (B p : Nat) (v : Value) (L : List E) (w : World) (h : GAt w B 90 59 p n v L) (hl : L.length ≤ 120)
    (hf : ∀ W x0 x1 x2, Below w.heap.size w W → Calls Tryd.prog 54 #[.agg #[.int .i64 x0, .int .i64 x1, .int .i64 x2]] W fun e w' => e = .returned (.bool (pf (x0, x1, x2))) ∧ Below W.heap.size W w') :
    Calls Tryd.prog 50 #[.pointer (some ⟨p, 0, none⟩), .func (.func 54) #[] #[]] w fun e w' => ∃ u, e = .returned u ∧ Owns w' w.heap.size 59 u (L.filter pf) ∧ Below w.heap.size w w' := by
  have HF : Hid (∀ W x0 x1 x2, Below w.heap.size w W → Calls Tryd.prog 54 #[.agg #[.int .i64 x0, .int .i64 x1, .int .i64 x2]] W fun e w' => e = .returned (.bool (pf (x0, x1, x2))) ∧ Below W.heap.size W w') := hf
  have HG : Hid (GAt w B 90 59 p n v L) := h
  obtain ⟨m, hm⟩ : ∃ m, m = L.length := ⟨_, rfl⟩
  have HM : Hid (m = L.length) := hm
  have hp := h.c1
  obtain ⟨va, vc, hv⟩ := h.row.slice_len
  rw [← hm] at hv hl
  have HV : Hid (v = .slice va m vc) := hv
  rw [hv] at hp
  clear hf h hv hm
  go_enter Tryd.func50, Tryd.ntmps50
  go_wp2_with fail
  go_loopg [5, 7, 13] m (fun r s5 _ s13 wq => ∃ k : Nat, s13 = .int .i64 k ∧ k + r = m ∧ Owns wq w.heap.size 59 s5 ((L.take k).filter pf) ∧ Below w.heap.size w wq)
  case atStart => exact ⟨0, rfl, by omega, World.ownsRow_nil _ _ _ _, Below.refl _ _⟩
  case round =>
    obtain ⟨k, rfl, hk, ho, hb⟩ := hrel
    have HO : Hid (Owns wr w.heap.size 59 u5 ((L.take k).filter pf)) := ho
    have HB : Hid (Below w.heap.size w wr) := hb
    clear ho hb
    by_cases hlt : k < m
    · obtain ⟨x0, x1, x2, hx⟩ : ∃ x0 x1 x2, L[k]? = some (x0, x1, x2) := ⟨_, _, _, List.getElem?_eq_getElem (by rw [← HM.out]; exact hlt)⟩
      have HX : Hid (L[k]? = some (x0, x1, x2)) := hx
      obtain ⟨g, hva⟩ : ∃ g, va = some ⟨g, 0, none⟩ := by
        rcases HG.out.row.shape with ⟨_, e⟩ | ⟨g, cap, e, _⟩
        · rw [e] at hx; simp at hx
        · rw [HV.out] at e
          injection e with e1 _ _
          exact ⟨g, e1⟩
      have hg1 := HG.out.below HB.out
      obtain ⟨r0, r1, r2⟩ := hg1.row.at (g := g) (by rw [HV.out, hva]; rfl) hx
      have r0' : wr.cell? ⟨g, k * 3, none⟩ = some (.int .i64 x0) := r0
      have r1' : wr.cell? ⟨g, k * 3 + 1, none⟩ = some (.int .i64 x1) := r1
      have r2' : wr.cell? ⟨g, k * 3 + 2, none⟩ = some (.int .i64 x2) := r2
      clear hg1 r0 r1 r2 hx
      subst hva
      have HB1 : Hid (Below w.heap.size w (wr.alloc (.cells #[.int .i64 x0, .int .i64 x1, .int .i64 x2] 59))) := HB.out.alloc HB.out.size _
      go_wp2_with fail
      refine (HF.out _ x0 x1 x2 HB1.out).mono ?_
      rintro e w2 ⟨rfl, hb2⟩
      have hb2' : Below (wr.heap.size + 1) (wr.alloc (.cells #[.int .i64 x0, .int .i64 x1, .int .i64 x2] 59)) w2 := by simpa using hb2
      have HB2 : Hid (Below w.heap.size w w2) := HB1.out.trans (hb2.mono HB1.out.size)
      have hb3 : Below wr.heap.size wr w2 := (below_box wr _).trans (hb2'.mono (by omega))
      have HO2 : Hid (Owns w2 w.heap.size 59 u5 ((L.take k).filter pf)) := HO.out.below hb3
      cases hpf : pf (x0, x1, x2) with
      | true =>
        as_aux_lemma =>
        have hh : w2.heap[wr.heap.size]? = some (.cells #[.int .i64 x0, .int .i64 x1, .int .i64 x2] 59) := by rw [hb2'.block wr.heap.size (by omega)]; exact heap_alloc_new wr _
        have q0 : w2.cell? ⟨wr.heap.size, 0, none⟩ = some (.int .i64 x0) := by simp [World.cell?, hh]
        have q1 : w2.cell? ⟨wr.heap.size, 1, none⟩ = some (.int .i64 x1) := by simp [World.cell?, hh]
        have q2 : w2.cell? ⟨wr.heap.size, 2, none⟩ = some (.int .i64 x2) := by simp [World.cell?, hh]
        obtain ⟨v', w3, hr, ho3, hb4, _, _⟩ := app_one 49 w2 w.heap.size u5 _ x0 x1 x2 HO2.out HB2.out.size (by have := filter_len L k pf; rw [← HM.out] at this; omega)
        have HR : Hid (_ = _) := hr
        have HO3 : Hid (Owns w3 w.heap.size 59 v' ((L.take (k + 1)).filter pf)) := by
          show Owns w3 w.heap.size 59 v' ((L.take (k + 1)).filter pf)
          rw [take_filter pf HX.out, hpf]; exact ho3
        have HB3 : Hid (Below w.heap.size w w3) := HB2.out.trans hb4
        clear hr ho3 hb4 hh hb2 hb2' hb3 HO2 HO HB HB1 HB2 hpf r0' r1' r2'
        go_wp2_with (at_builtin; refine Lib.wpList_append_run _ rfl _ _ _ _ rfl _ _ rfl rfl _ _ HR.out ?_)
        go_roundg (gk - 1)
        case measure => omega
        case rel => exact ⟨k + 1, by go_num, by omega, HO3.out, HB3.out⟩
      | false =>
        as_aux_lemma =>
        have HO3 : Hid (Owns w2 w.heap.size 59 u5 ((L.take (k + 1)).filter pf)) := by
          show Owns w2 w.heap.size 59 u5 ((L.take (k + 1)).filter pf)
          rw [take_filter pf HX.out, hpf]
          simpa using HO2.out
        clear hb2 hb2' hb3 HO2 HO HB HB1 hpf r0' r1' r2'
        go_wp2_with fail
        go_roundg (gk - 1)
        case measure => omega
        case rel => exact ⟨k + 1, by go_num, by omega, HO3.out, HB2.out⟩
    · have hke : L.take k = L := List.take_of_length_le (by rw [← HM.out]; omega)
      have HO3 : Hid (Owns wr w.heap.size 59 u5 (L.filter pf)) := by
        show Owns wr w.heap.size 59 u5 (L.filter pf)
        have := HO.out
        rw [hke] at this; exact this
      clear hke HO
      go_wp2_with fail
      go_ret
      exact ⟨_, rfl, HO3.out, HB.out⟩

set_option maxHeartbeats 400000 in
theorem edges_any (n : Int) (B p : Nat) (v : Value) (L : List E) (w : World) (h : GAt w B 90 59 p n v L) (hl : L.length ≤ 120) :
    Calls Tryd.prog 28 #[.pointer (some ⟨p, 0, none⟩)] w fun e w' => ∃ u, e = .returned u ∧ Owns w' w.heap.size 59 u L ∧ Below w.heap.size w w' := by
  have HC : Hid (Calls Tryd.prog 50 #[.pointer (some ⟨p, 0, none⟩), .func (.func 54) #[] #[]] w fun e w' => ∃ u, e = .returned u ∧ Owns w' w.heap.size 59 u L ∧ Below w.heap.size w w') := by
    have := those_ed (fun _ => true) n B p v L w h hl (fun W x0 x1 x2 _ => ed1_any x0 x1 x2 W)
    have e : L.filter (fun _ => true) = L := by simp
    rw [e] at this
    exact this
  clear h
  go_enter Tryd.func28, Tryd.ntmps28
  go_wp2_with fail
  refine HC.out.mono ?_
  rintro e w1 ⟨u, rfl, ho, hb⟩
  have HR : Hid (Owns w1 w.heap.size 59 u L ∧ Below w.heap.size w w1) := ⟨ho, hb⟩
  clear ho hb HC
  go_wp2_with fail
  go_ret
  exact ⟨_, rfl, HR.out⟩

theorem append_none (ty : TypeId) (w : World) (g c n : Nat) (hn : n ≤ c) :
    (Builtin.append_ #[49, 49] ty #[.slice (some ⟨g, 0, none⟩) n c, .slice none 0 0]).run Tryd.prog w = .ok (.slice (some ⟨g, 0, none⟩) n c) w := by
  obtain ⟨i, hi, hs, hb, hz⟩ := info59
  simp [Builtin.append_, run_underlying Tryd.underlying49, sizeOf, typeInfo, hi, Builtin.lenOf, hn, Builtin.firstCells, storeCells]

/-- A row is appended to a row. -/
theorem app_row (ty : TypeId) (W : World) (B B2 : Nat) (g c : Nat) (u : Value) (L M : List E) (h : Owns W B 59 (.slice (some ⟨g, 0, none⟩) L.length c) L) (hu : Owns W B2 59 u M) (hB : B ≤ W.heap.size) (hl : L.length + M.length ≤ 100000) :
    ∃ v' w', (Builtin.append_ #[49, 49] ty #[.slice (some ⟨g, 0, none⟩) L.length c, u]).run Tryd.prog W = .ok v' w' ∧ Owns w' B 59 v' (L ++ M) ∧ Below B W w' := by
  rcases hu.shape with ⟨rfl, hM⟩ | ⟨gu, cu, rfl, _, _, _, _⟩
  · subst hM
    have hc : L.length ≤ c := by
      rcases h.shape with ⟨e, _⟩ | ⟨_, _, e, _, _, h3, _⟩
      · simp at e
      · injection e with _ _ e; omega
    exact ⟨_, _, append_none ty W g c _ hc, by simpa using h, Below.refl _ _⟩
  · obtain ⟨v', w', h1, h2, h3, _⟩ := append_E ty W B _ L M h hB ⟨gu, 0, none⟩ M.length cu rfl (World.ownsRow.cells hu rfl) hl
    refine ⟨v', w', h1, h2, ⟨h3.os, h3.tape, h3.output, h3.size, fun k hk => h3.block k (by omega) (fun e => ?_)⟩⟩
    have := (World.ownsRow.lt h k e.symm).1
    omega

theorem owns_empty (W : World) : Owns (W.alloc (.cells #[] 59)) W.heap.size 59 (.slice (some ⟨W.heap.size, 0, none⟩) 0 0) [] :=
  World.ownsRow_made W #[] 0 (Nat.le_refl _) (by simp [maxLen]) (by simp)

/-- A copy of a row. -/
theorem copy_row (ty : TypeId) (W : World) (B2 : Nat) (u : Value) (M : List E) (hu : Owns W B2 59 u M) (hl : M.length ≤ 1000) :
    ∃ a m c w', (Builtin.append_ #[49, 49] ty #[.slice (some ⟨W.heap.size, 0, none⟩) 0 0, u]).run Tryd.prog (W.alloc (.cells #[] 59)) = .ok (.slice a m c) w' ∧ Owns w' W.heap.size 59 (.slice a m c) M ∧ Below W.heap.size W w' := by
  obtain ⟨v', w', h1, h2, h3⟩ := app_row ty (W.alloc (.cells #[] 59)) W.heap.size B2 W.heap.size 0 u [] M (owns_empty W) (hu.below (below_box W _)) (by simp) (by simp; omega)
  obtain ⟨a, m, c, rfl⟩ := h2.slice
  exact ⟨a, m, c, w', h1, h2, (below_box W _).trans h3⟩

end Go.Proofs.YtpkdpddillebfaaDoor.G
