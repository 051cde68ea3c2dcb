/- Rows of the document's own graph: appended to; its Add. -/
import Derived.Test.YtebcjaenhiiflaaGreatDoorGB
namespace Go.Proofs.YtebcjaenhiiflaaGreatDoor.G
open Go.RowKit

theorem append_none (ty : TypeId) (w : World) (g c n : Nat) (hn : n ≤ c) :
    (Builtin.append_ #[33, 33] ty #[.slice (some ⟨g, 0, none⟩) n c, .slice none 0 0]).run Tryz.prog w = .ok (.slice (some ⟨g, 0, none⟩) n c) w := by
  obtain ⟨i, hi, hs, hb, hz⟩ := info61
  simp [Builtin.append_, run_underlying Tryz.underlying33, sizeOf, typeInfo, hi, Builtin.lenOf, hn, Builtin.firstCells, storeCells]

/-- A row is appended to a row. -/
theorem app_row (ty : TypeId) (W : World) (B B2 : Nat) (g c : Nat) (u : Value) (L M : List E) (h : Owns W B 61 (.slice (some ⟨g, 0, none⟩) L.length c) L) (hu : Owns W B2 61 u M) (hB : B ≤ W.heap.size) (hl : L.length + M.length ≤ 100000) :
    ∃ v' w', (Builtin.append_ #[33, 33] ty #[.slice (some ⟨g, 0, none⟩) L.length c, u]).run Tryz.prog W = .ok v' w' ∧ Owns w' B 61 v' (L ++ M) ∧ Below B W w' := by
  rcases hu.shape with ⟨rfl, hM⟩ | ⟨gu, cu, rfl, _, _, _, _⟩
  · subst hM
    have hc : L.length ≤ c := by
      rcases h.shape with ⟨e, _⟩ | ⟨_, _, e, _, _, h3, _⟩
      · simp at e
      · injection e with _ _ e; omega
    exact ⟨_, _, append_none ty W g c _ hc, by simpa using h, Below.refl _ _⟩
  · obtain ⟨v', w', h1, h2, h3, _⟩ := append_E ty W B _ L M h hB ⟨gu, 0, none⟩ M.length cu rfl (World.ownsRow.cells hu rfl) hl
    refine ⟨v', w', h1, h2, ⟨h3.os, h3.tape, h3.output, h3.size, fun k hk => h3.block k (by omega) (fun e => ?_)⟩⟩
    have := (World.ownsRow.lt h k e.symm).1
    omega

theorem owns_empty (W : World) : Owns (W.alloc (.cells #[] 61)) W.heap.size 61 (.slice (some ⟨W.heap.size, 0, none⟩) 0 0) [] :=
  World.ownsRow_made W #[] 0 (Nat.le_refl _) (by simp [maxLen]) (by simp)

/-- A copy of a row. -/
theorem copy_row (ty : TypeId) (W : World) (B2 : Nat) (u : Value) (M : List E) (hu : Owns W B2 61 u M) (hl : M.length ≤ 1000) :
    ∃ a m c w', (Builtin.append_ #[33, 33] ty #[.slice (some ⟨W.heap.size, 0, none⟩) 0 0, u]).run Tryz.prog (W.alloc (.cells #[] 61)) = .ok (.slice a m c) w' ∧ Owns w' W.heap.size 61 (.slice a m c) M ∧ Below W.heap.size W w' := by
  obtain ⟨v', w', h1, h2, h3⟩ := app_row ty (W.alloc (.cells #[] 61)) W.heap.size B2 W.heap.size 0 u [] M (owns_empty W) (hu.below (below_box W _)) (by simp) (by simp; omega)
  obtain ⟨a, m, c, rfl⟩ := h2.slice
  exact ⟨a, m, c, w', h1, h2, (below_box W _).trans h3⟩

/-- A copy of a row, and one more. -/
theorem radd_row (ty : TypeId) (W : World) (B2 : Nat) (u : Value) (M : List E) (x0 x1 x2 : Int) (hu : Owns W B2 61 u M) (hl : M.length ≤ 1000) :
    ∃ a m c w2 a' m' c' w3, (Builtin.append_ #[33, 33] ty #[.slice (some ⟨W.heap.size, 0, none⟩) 0 0, u]).run Tryz.prog (W.alloc (.cells #[] 61)) = .ok (.slice a m c) w2 ∧
      (Builtin.append_ #[33, 33] ty #[.slice a m c, .slice (some ⟨w2.heap.size, 0, none⟩) 1 1]).run Tryz.prog (w2.alloc (.cells #[.int .i64 x0, .int .i64 x1, .int .i64 x2] 61)) = .ok (.slice a' m' c') w3 ∧
      Owns w3 W.heap.size 61 (.slice a' m' c') (M ++ [(x0, x1, x2)]) ∧ Below W.heap.size W w3 := by
  obtain ⟨a, m, c, w2, h1, h2, h3⟩ := copy_row ty W B2 u M hu hl
  obtain ⟨v', w3, h4, h5, h6, _, _⟩ := app_one ty w2 W.heap.size _ M x0 x1 x2 h2 h3.size hl
  obtain ⟨a', m', c', rfl⟩ := h5.slice
  exact ⟨a, m, c, w2, a', m', c', w3, h1, h4, h5, h3.trans h6⟩

/-- A new row in a graph's block. -/
theorem step1_new {w w1 w3 : World} {B gT p : Nat} {n : Int} {v u : Value} {L M : List E} (h : GAt w B gT 61 p n v L) (hB : B ≤ w.heap.size) (hb : Below w.heap.size w w1) (hr : Owns w3 w1.heap.size 61 u M) (hb3 : Below w1.heap.size w1 w3) :
    Step1 w (w3.setCell ⟨p, 1, none⟩ u) B gT p n v M ∧ w3.cell? ⟨p, 1, none⟩ = some v ∧ w3.frozen? ⟨p, 1, none⟩ = false := by
  have hb' : Below w.heap.size w w3 := hb.trans (hb3.mono hb.size)
  have h3 := h.below hb'
  have hg : w3.grownBy w3 v.ownBlock := ⟨rfl, rfl, rfl, Nat.le_refl _, fun _ _ _ => rfl⟩
  have hlt : ∀ k, u.ownBlock = some k → w.heap.size ≤ k := fun k hk => Nat.le_trans hb.size (World.ownsRow.lt hr k hk).1
  have hup : u.ownBlock ≠ some p := fun e => by have := hlt p e; have := h.plt; omega
  exact ⟨⟨u, h3.store hg (hr.mono (Nat.le_trans hB hb.size)) hup, (Kept.of_below hb').setCell 1 u, fun k hk => Or.inr (hlt k hk)⟩, h3.c1, h3.f1 1⟩

set_option maxHeartbeats 400000 in
theorem in_any (x lo hi : Int) (ok : Bool) (w : World) (hok : decide (lo ≤ x ∧ x ≤ hi) = ok) :
    Calls Tryz.prog 45 #[.int .i64 x, .int .i64 lo, .int .i64 hi] w fun e w' => e = .returned (.bool ok) ∧ w' = w := by
  by_cases h1 : lo ≤ x
  · by_cases h2 : x ≤ hi
    · have HO : Hid (ok = true) := by
        show ok = true
        rw [← hok]; exact decide_eq_true ⟨h1, h2⟩
      clear hok
      go_enter Tryz.func45, Tryz.ntmps45
      go_wp2
      go_ret
      exact ⟨by rw [HO.out]; rfl, rfl⟩
    · have HO : Hid (ok = false) := by
        show ok = false
        rw [← hok]; exact decide_eq_false (fun h => h2 h.2)
      clear hok
      go_enter Tryz.func45, Tryz.ntmps45
      go_wp2
      go_ret
      exact ⟨by rw [HO.out]; rfl, rfl⟩
  · have HO : Hid (ok = false) := by
      show ok = false
      rw [← hok]; exact decide_eq_false (fun h => h1 h.1)
    clear hok
    go_enter Tryz.func45, Tryz.ntmps45
    go_wp2
    go_ret
    exact ⟨by rw [HO.out]; rfl, rfl⟩

theorem in_t (x lo hi : Int) (w : World) (h : lo ≤ x ∧ x ≤ hi) : Calls Tryz.prog 45 #[.int .i64 x, .int .i64 lo, .int .i64 hi] w fun e w' => e = .returned (.bool true) ∧ w' = w := in_any x lo hi true w (decide_eq_true h)

theorem in_f (x lo hi : Int) (w : World) (h : ¬ (lo ≤ x ∧ x ≤ hi)) : Calls Tryz.prog 45 #[.int .i64 x, .int .i64 lo, .int .i64 hi] w fun e w' => e = .returned (.bool false) ∧ w' = w := in_any x lo hi false w (decide_eq_false h)

set_option maxHeartbeats 2000000 in
set_option maxRecDepth 100000 in
theorem radd_range (id a b n : Int) (B q : Nat) (u : Value) (R : List E) (w : World) (h : GAt w B 40 61 q n u R) (h0 : 0 ≤ n) (h40 : n ≤ 40) (hr : ¬ InRange id a b n) :
    Calls Tryz.prog 20 #[.pointer (some ⟨q, 0, none⟩), .int .i64 id, .int .i64 a, .int .i64 b] w fun e w' => e = .returned (.int .i64 2) ∧ Below w.heap.size w w' := by
  have hc := h.c0
  clear h
  by_cases h1 : 0 ≤ id ∧ id ≤ 1099511627776
  · have H1 : Hid (0 ≤ id ∧ id ≤ 1099511627776) := h1
    by_cases h2 : 0 ≤ a ∧ a ≤ n - 1
    · have H2 : Hid (0 ≤ a ∧ a ≤ n - 1) := h2
      have H3 : Hid (¬ (0 ≤ b ∧ b ≤ n - 1)) := fun h3 => hr ⟨h1, ⟨h2.1, by omega⟩, ⟨h3.1, by omega⟩⟩
      clear hr h1 h2
      go_enter Tryz.func20, Tryz.ntmps20
      go_wp2_with fail
      refine (in_t id 0 1099511627776 w H1.out).mono ?_
      rintro e w1 ⟨rfl, rfl⟩
      go_wp2_with fail
      refine (in_t a 0 (n - 1) _ H2.out).mono ?_
      rintro e w2 ⟨rfl, rfl⟩
      go_wp2_with fail
      refine (in_f b 0 (n - 1) _ H3.out).mono ?_
      rintro e w3 ⟨rfl, rfl⟩
      go_wp2_with fail
      go_ret
      exact ⟨rfl, Below.refl _ _⟩
    · have H2 : Hid (¬ (0 ≤ a ∧ a ≤ n - 1)) := h2
      clear hr h1 h2
      go_enter Tryz.func20, Tryz.ntmps20
      go_wp2_with fail
      refine (in_t id 0 1099511627776 w H1.out).mono ?_
      rintro e w1 ⟨rfl, rfl⟩
      go_wp2_with fail
      refine (in_f a 0 (n - 1) _ H2.out).mono ?_
      rintro e w2 ⟨rfl, rfl⟩
      go_wp2_with fail
      go_ret
      exact ⟨rfl, Below.refl _ _⟩
  · have H1 : Hid (¬ (0 ≤ id ∧ id ≤ 1099511627776)) := h1
    clear hr h1
    go_enter Tryz.func20, Tryz.ntmps20
    go_wp2_with fail
    refine (in_f id 0 1099511627776 w H1.out).mono ?_
    rintro e w1 ⟨rfl, rfl⟩
    go_wp2_with fail
    go_ret
    exact ⟨rfl, Below.refl _ _⟩

set_option maxHeartbeats 2000000 in
set_option maxRecDepth 100000 in
theorem radd_arg (id a n : Int) (B q : Nat) (u : Value) (R : List E) (w : World) (h : GAt w B 40 61 q n u R) (h0 : 0 ≤ n) (h40 : n ≤ 40) (hr : InRange id a a n) :
    Calls Tryz.prog 20 #[.pointer (some ⟨q, 0, none⟩), .int .i64 id, .int .i64 a, .int .i64 a] w fun e w' => e = .returned (.int .i64 1) ∧ Below w.heap.size w w' := by
  have hc := h.c0
  have H1 : Hid (0 ≤ id ∧ id ≤ 1099511627776) := hr.1
  have H2 : Hid (0 ≤ a ∧ a ≤ n - 1) := ⟨hr.2.1.1, by have := hr.2.1.2; omega⟩
  clear hr h
  go_enter Tryz.func20, Tryz.ntmps20
  go_wp2_with fail
  refine (in_t id 0 1099511627776 w H1.out).mono ?_
  rintro e w1 ⟨rfl, rfl⟩
  go_wp2_with fail
  refine (in_t a 0 (n - 1) _ H2.out).mono ?_
  rintro e w2 ⟨rfl, rfl⟩
  go_wp2_with fail
  refine (in_t a 0 (n - 1) _ H2.out).mono ?_
  rintro e w3 ⟨rfl, rfl⟩
  go_wp2_with fail
  go_ret
  exact ⟨rfl, Below.refl _ _⟩

/-- What Add of the document's own graph tells, and leaves. -/
def RaddPost (w : World) (B q : Nat) (n : Int) (u : Value) (R : List E) (id lo hi : Int) (e : Ending) (w' : World) : Prop :=
  ((∃ x ∈ R, x.1 = id) ∧ e = .returned (.int .i64 9) ∧ Below w.heap.size w w') ∨
  ((∀ x ∈ R, x.1 ≠ id) ∧ 120 ≤ R.length ∧ e = .returned (.int .i64 12) ∧ Below w.heap.size w w') ∨
  ((∀ x ∈ R, x.1 ≠ id) ∧ R.length < 120 ∧ e = .returned (.int .i64 0) ∧ Step1 w w' B 40 q n u (R ++ [(id, lo, hi)]))

set_option maxHeartbeats 4000000 in
set_option maxRecDepth 100000 in
theorem radd_in (id a b n lo hi : Int) (B q : Nat) (u : Value) (R : List E) (w : World) (h : GAt w B 40 61 q n u R) (hB : B ≤ w.heap.size) (hl : R.length ≤ 120) (h0 : 0 ≤ n) (h40 : n ≤ 40) (hr : InRange id a b n) (hab : a ≠ b) (hlo : lo = min a b) (hhi : hi = max a b) :
    Calls Tryz.prog 20 #[.pointer (some ⟨q, 0, none⟩), .int .i64 id, .int .i64 a, .int .i64 b] w fun e w' => RaddPost w B q n u R id lo hi e w' := by
  have hc := h.c0
  have hu1 := h.c1
  have H1 : Hid (0 ≤ id ∧ id ≤ 1099511627776) := hr.1
  have H2 : Hid (0 ≤ a ∧ a ≤ n - 1) := ⟨hr.2.1.1, by have := hr.2.1.2; omega⟩
  have H3 : Hid (0 ≤ b ∧ b ≤ n - 1) := ⟨hr.2.2.1, by have := hr.2.2.2; omega⟩
  have HG : Hid (GAt w B 40 61 q n u R) := h
  have HB : Hid (B ≤ w.heap.size) := hB
  have hqlt := h.plt
  obtain ⟨m, hm⟩ : ∃ m, m = R.length := ⟨_, rfl⟩
  have HM : Hid (m = R.length) := hm
  obtain ⟨ua, uc, hv⟩ := h.row.slice_len
  rw [← hm] at hv hl
  have HV : Hid (u = .slice ua m uc) := hv
  rw [hv] at hu1
  have h5 : (a == b) = false := beq_eq_false_iff_ne.2 hab
  clear hr h hB hv hm
  go_enter Tryz.func20, Tryz.ntmps20
  go_wp2_with fail
  refine (in_t id 0 1099511627776 w H1.out).mono ?_
  rintro e w1 ⟨rfl, rfl⟩
  go_wp2_with fail
  refine (in_t a 0 (n - 1) _ H2.out).mono ?_
  rintro e w2 ⟨rfl, rfl⟩
  go_wp2_with fail
  refine (in_t b 0 (n - 1) _ H3.out).mono ?_
  rintro e w ⟨rfl, rfl⟩
  go_wp2_with fail
  go_loopg [10, 42] m (fun r _ s42 wq => ∃ k : Nat, s42 = .int .i64 k ∧ k + r = m ∧ (∀ x ∈ R.take k, x.1 ≠ id) ∧ Below w.heap.size w wq)
  case atStart => exact ⟨0, rfl, by omega, fun x hx => by simp at hx, Below.refl _ _⟩
  case round =>
    obtain ⟨k, rfl, hk, hno, hb⟩ := hrel
    have HNO : Hid (∀ x ∈ R.take k, x.1 ≠ id) := hno
    have HBW : Hid (Below w.heap.size w wr) := hb
    clear hno hb
    by_cases hlt : k < m
    · obtain ⟨x0, x1, x2, hx⟩ : ∃ x0 x1 x2, R[k]? = some (x0, x1, x2) := ⟨_, _, _, List.getElem?_eq_getElem (by rw [← HM.out]; exact hlt)⟩
      have HX : Hid (R[k]? = some (x0, x1, x2)) := hx
      obtain ⟨g, hua⟩ : ∃ g, ua = some ⟨g, 0, none⟩ := by
        rcases HG.out.row.shape with ⟨_, e⟩ | ⟨g, cap, e, _⟩
        · rw [e] at hx; simp at hx
        · rw [HV.out] at e
          injection e with e1 _ _
          exact ⟨g, e1⟩
      obtain ⟨r0, r1, r2⟩ := (HG.out.below HBW.out).row.at (g := g) (by rw [HV.out, hua]; rfl) hx
      have r0' : wr.cell? ⟨g, k * 3, none⟩ = some (.int .i64 x0) := r0
      have r1' : wr.cell? ⟨g, k * 3 + 1, none⟩ = some (.int .i64 x1) := r1
      have r2' : wr.cell? ⟨g, k * 3 + 2, none⟩ = some (.int .i64 x2) := r2
      have HB1 : Hid (∀ o, Below w.heap.size w (wr.alloc o)) := fun o => HBW.out.alloc HBW.out.size _
      clear r0 r1 r2 hx
      subst hua
      by_cases hid : x0 = id
      · as_aux_lemma =>
        have HH : Hid (∃ x ∈ R, x.1 = id) := ⟨_, List.mem_of_getElem? HX.out, hid⟩
        subst hid
        go_wp2_with fail
        go_ret
        exact Or.inl ⟨HH.out, rfl, HB1.out _⟩
      · as_aux_lemma =>
        have HN : Hid (∀ x ∈ R.take (k + 1), x.1 ≠ id) := by
          intro x hx
          obtain ⟨hlt', he⟩ := List.getElem?_eq_some_iff.1 HX.out
          rw [List.take_succ_eq_append_getElem hlt', he] at hx
          rcases List.mem_append.1 hx with h | h
          · exact HNO.out x h
          · rw [List.mem_singleton.1 h]; exact hid
        have hib : (x0 == id) = false := beq_eq_false_iff_ne.2 hid
        clear hid
        go_wp2_with fail
        go_roundg (gk - 1)
        case measure => omega
        case rel => exact ⟨k + 1, by go_num, by omega, HN.out, HB1.out _⟩
    · have HN : Hid (∀ x ∈ R, x.1 ≠ id) := by
        have e : R.take k = R := List.take_of_length_le (by rw [← HM.out]; omega)
        have := HNO.out
        rw [e] at this; exact this
      have hg := HG.out.below HBW.out
      have hu2 := hg.c1
      have hq2 := hg.plt
      rw [HV.out] at hu2
      clear HNO
      by_cases hf : 120 ≤ m
      · as_aux_lemma =>
        have hf' : (120 : Int) ≤ (m : Int) := by omega
        have HF : Hid (120 ≤ R.length) := by rw [← HM.out]; exact hf
        clear hg
        go_wp2_with fail
        go_ret
        exact Or.inr (Or.inl ⟨HN.out, HF.out, rfl, HBW.out⟩)
      · have hf' : ¬ ((120 : Int) ≤ (m : Int)) := by omega
        have HF : Hid (R.length < 120) := by
          show R.length < 120
          rw [← HM.out]; omega
        obtain ⟨a1, m1, c1, wa, a2, m2, c2, wb, e1, e2, e3, e4⟩ := radd_row 33 wr B u R id lo hi hg.row (by have := HF.out; omega)
        obtain ⟨s1, s2, s3⟩ := step1_new HG.out HB.out HBW.out e3 e4
        rw [HV.out] at e1 s2
        have HE1 : Hid (_ = _) := e1
        have HE2 : Hid (_ = _) := e2
        have HS : Hid (Step1 w (wb.setCell ⟨q, 1, none⟩ (.slice a2 m2 c2)) B 40 q n u (R ++ [(id, lo, hi)])) := s1
        clear hg e1 e2 e3 e4 s1
        rcases Int.lt_or_gt_of_ne hab with hlt2 | hgt2
        · as_aux_lemma =>
          obtain rfl : lo = a := by rw [hlo]; omega
          obtain rfl : hi = b := by rw [hhi]; omega
          clear hlo hhi hab
          have hn : ¬ (hi < lo) := by omega
          go_wp2_with (first
            | (at_builtin; refine Lib.wpList_append_run _ rfl _ _ _ _ rfl _ _ rfl rfl _ _ HE1.out ?_; clear HE1)
            | (at_builtin; refine Lib.wpList_append_run _ rfl _ _ _ _ rfl _ _ rfl rfl _ _ HE2.out ?_))
          go_ret
          exact Or.inr (Or.inr ⟨HN.out, HF.out, rfl, HS.out⟩)
        · as_aux_lemma =>
          obtain rfl : lo = b := by rw [hlo]; omega
          obtain rfl : hi = a := by rw [hhi]; omega
          clear hlo hhi hab
          have hn : lo < hi := by omega
          go_wp2_with (first
            | (at_builtin; refine Lib.wpList_append_run _ rfl _ _ _ _ rfl _ _ rfl rfl _ _ HE1.out ?_; clear HE1)
            | (at_builtin; refine Lib.wpList_append_run _ rfl _ _ _ _ rfl _ _ rfl rfl _ _ HE2.out ?_))
          go_ret
          exact Or.inr (Or.inr ⟨HN.out, HF.out, rfl, HS.out⟩)

end Go.Proofs.YtebcjaenhiiflaaGreatDoor.G
