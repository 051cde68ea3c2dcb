/- Rows of the document's own graph: appended to; its Add. -/
import Derived.Test.YtebcjaenhiiflaaGreatDoorGMB
import Derived.Test.YtebcjaenhiiflaaGreatDoorProg
import Derived.RowKit
import Derived.KernelRfl
import Derived.WalkKit
import Derived.LaidEql
import Derived.Stop.Asserts
import Derived.RowKitTokens
namespace Go.Proofs.YtebcjaenhiiflaaGreatDoor.G
open Go.RowKit

theorem append_none (ty : TypeId) (w : World) (g c n : Nat) (hn : n ≤ c) :
    (Builtin.append_ #[33, 33] ty #[.slice (some ⟨g, 0, none⟩) n c, .slice none 0 0]).run Tryz.prog w = .ok (.slice (some ⟨g, 0, none⟩) n c) w := by
  obtain ⟨i, hi, hs, hb, hz⟩ := info61
  simp [Builtin.append_, run_underlying Tryz.underlying33, sizeOf, typeInfo, hi, Builtin.lenOf, hn, Builtin.firstCells, storeCells]

/-- A row is appended to a row. -/
theorem app_row (ty : TypeId) (W : World) (B B2 : Nat) (g c : Nat) (u : Value) (L M : List E) (h : Owns W B 61 (.slice (some ⟨g, 0, none⟩) L.length c) L) (hu : Owns W B2 61 u M) (hB : B ≤ W.heap.size) (hl : L.length + M.length ≤ 100000) :
    ∃ v' w', (Builtin.append_ #[33, 33] ty #[.slice (some ⟨g, 0, none⟩) L.length c, u]).run Tryz.prog W = .ok v' w' ∧ Owns w' B 61 v' (L ++ M) ∧ Below B W w' := by
  rcases hu.shape with ⟨rfl, hM⟩ | ⟨gu, cu, rfl, _, _, _, _⟩
  · subst hM
    have hc : L.length ≤ c := by
      rcases h.shape with ⟨e, _⟩ | ⟨_, _, e, _, _, h3, _⟩
      · simp at e
      · injection e with _ _ e; omega
    exact ⟨_, _, append_none ty W g c _ hc, by simpa using h, Below.refl _ _⟩
  · obtain ⟨v', w', h1, h2, h3, _⟩ := append_E ty W B _ L M h hB ⟨gu, 0, none⟩ M.length cu rfl (World.ownsRow.cells hu rfl) hl
    refine ⟨v', w', h1, h2, ⟨h3.os, h3.tape, h3.output, h3.size, fun k hk => h3.block k (by omega) (fun e => ?_)⟩⟩
    have := (World.ownsRow.lt h k e.symm).1
    omega

theorem owns_empty (W : World) : Owns (W.alloc (.cells #[] 61)) W.heap.size 61 (.slice (some ⟨W.heap.size, 0, none⟩) 0 0) [] :=
  World.ownsRow_made W #[] 0 (Nat.le_refl _) (by simp [maxLen]) (by simp)

/-- A copy of a row. -/
theorem copy_row (ty : TypeId) (W : World) (B2 : Nat) (u : Value) (M : List E) (hu : Owns W B2 61 u M) (hl : M.length ≤ 1000) :
    ∃ a m c w', (Builtin.append_ #[33, 33] ty #[.slice (some ⟨W.heap.size, 0, none⟩) 0 0, u]).run Tryz.prog (W.alloc (.cells #[] 61)) = .ok (.slice a m c) w' ∧ Owns w' W.heap.size 61 (.slice a m c) M ∧ Below W.heap.size W w' := by
  obtain ⟨v', w', h1, h2, h3⟩ := app_row ty (W.alloc (.cells #[] 61)) W.heap.size B2 W.heap.size 0 u [] M (owns_empty W) (hu.below (below_box W _)) (by simp) (by simp; omega)
  obtain ⟨a, m, c, rfl⟩ := h2.slice
  exact ⟨a, m, c, w', h1, h2, (below_box W _).trans h3⟩

/-- A copy of a row, and one more. -/
theorem radd_row (ty : TypeId) (W : World) (B2 : Nat) (u : Value) (M : List E) (x0 x1 x2 : Int) (hu : Owns W B2 61 u M) (hl : M.length ≤ 1000) :
    ∃ a m c w2 a' m' c' w3, (Builtin.append_ #[33, 33] ty #[.slice (some ⟨W.heap.size, 0, none⟩) 0 0, u]).run Tryz.prog (W.alloc (.cells #[] 61)) = .ok (.slice a m c) w2 ∧
      (Builtin.append_ #[33, 33] ty #[.slice a m c, .slice (some ⟨w2.heap.size, 0, none⟩) 1 1]).run Tryz.prog (w2.alloc (.cells #[.int .i64 x0, .int .i64 x1, .int .i64 x2] 61)) = .ok (.slice a' m' c') w3 ∧
      Owns w3 W.heap.size 61 (.slice a' m' c') (M ++ [(x0, x1, x2)]) ∧ Below W.heap.size W w3 := by
  obtain ⟨a, m, c, w2, h1, h2, h3⟩ := copy_row ty W B2 u M hu hl
  obtain ⟨v', w3, h4, h5, h6, _, _⟩ := app_one ty w2 W.heap.size _ M x0 x1 x2 h2 h3.size hl
  obtain ⟨a', m', c', rfl⟩ := h5.slice
  exact ⟨a, m, c, w2, a', m', c', w3, h1, h4, h5, h3.trans h6⟩

/-- A new row in a graph's block. -/
theorem step1_new {w w1 w3 : World} {B gT p : Nat} {n : Int} {v u : Value} {L M : List E} (h : GAt w B gT 61 p n v L) (hB : B ≤ w.heap.size) (hb : Below w.heap.size w w1) (hr : Owns w3 w1.heap.size 61 u M) (hb3 : Below w1.heap.size w1 w3) :
    Step1 w (w3.setCell ⟨p, 1, none⟩ u) B gT p n v M ∧ w3.cell? ⟨p, 1, none⟩ = some v ∧ w3.frozen? ⟨p, 1, none⟩ = false := by
  have hb' : Below w.heap.size w w3 := hb.trans (hb3.mono hb.size)
  have h3 := h.below hb'
  have hg : w3.grownBy w3 v.ownBlock := ⟨rfl, rfl, rfl, Nat.le_refl _, fun _ _ _ => rfl⟩
  have hlt : ∀ k, u.ownBlock = some k → w.heap.size ≤ k := fun k hk => Nat.le_trans hb.size (World.ownsRow.lt hr k hk).1
  have hup : u.ownBlock ≠ some p := fun e => by have := hlt p e; have := h.plt; omega
  exact ⟨⟨u, h3.store hg (hr.mono (Nat.le_trans hB hb.size)) hup, (Kept.of_below hb').setCell 1 u, fun k hk => Or.inr (hlt k hk)⟩, h3.c1, h3.f1 1⟩

set_option maxHeartbeats 400000 in
theorem in_any (x lo hi : Int) (ok : Bool) (w : World) (hok : decide (lo ≤ x ∧ x ≤ hi) = ok) :
    Calls Tryz.prog 45 #[.int .i64 x, .int .i64 lo, .int .i64 hi] w fun e w' => e = .returned (.bool ok) ∧ w' = w := by
  by_cases h1 : lo ≤ x
  · by_cases h2 : x ≤ hi
    · have HO : Hid (ok = true) := by
        show ok = true
        rw [← hok]; exact decide_eq_true ⟨h1, h2⟩
      clear hok
      go_enter Tryz.func45, Tryz.ntmps45
      go_wp2
      go_ret
      exact ⟨by rw [HO.out]; rfl, rfl⟩
    · have HO : Hid (ok = false) := by
        show ok = false
        rw [← hok]; exact decide_eq_false (fun h => h2 h.2)
      clear hok
      go_enter Tryz.func45, Tryz.ntmps45
      go_wp2
      go_ret
      exact ⟨by rw [HO.out]; rfl, rfl⟩
  · have HO : Hid (ok = false) := by
      show ok = false
      rw [← hok]; exact decide_eq_false (fun h => h1 h.1)
    clear hok
    go_enter Tryz.func45, Tryz.ntmps45
    go_wp2
    go_ret
    exact ⟨by rw [HO.out]; rfl, rfl⟩

theorem in_t (x lo hi : Int) (w : World) (h : lo ≤ x ∧ x ≤ hi) : Calls Tryz.prog 45 #[.int .i64 x, .int .i64 lo, .int .i64 hi] w fun e w' => e = .returned (.bool true) ∧ w' = w := in_any x lo hi true w (decide_eq_true h)

theorem in_f (x lo hi : Int) (w : World) (h : ¬ (lo ≤ x ∧ x ≤ hi)) : Calls Tryz.prog 45 #[.int .i64 x, .int .i64 lo, .int .i64 hi] w fun e w' => e = .returned (.bool false) ∧ w' = w := in_any x lo hi false w (decide_eq_false h)

set_option maxHeartbeats 2000000 in
set_option maxRecDepth 100000 in
theorem radd_range (id a b n : Int) (B q : Nat) (u : Value) (R : List E) (w : World) (h : GAt w B 40 61 q n u R) (h0 : 0 ≤ n) (h40 : n ≤ 40) (hr : ¬ InRange id a b n) :
    Calls Tryz.prog 20 #[.pointer (some ⟨q, 0, none⟩), .int .i64 id, .int .i64 a, .int .i64 b] w fun e w' => e = .returned (.int .i64 2) ∧ Below w.heap.size w w' := by
  have hc := h.c0
  clear h
  by_cases h1 : 0 ≤ id ∧ id ≤ 1099511627776
  · have H1 : Hid (0 ≤ id ∧ id ≤ 1099511627776) := h1
    by_cases h2 : 0 ≤ a ∧ a ≤ n - 1
    · have H2 : Hid (0 ≤ a ∧ a ≤ n - 1) := h2
      have H3 : Hid (¬ (0 ≤ b ∧ b ≤ n - 1)) := fun h3 => hr ⟨h1, ⟨h2.1, by omega⟩, ⟨h3.1, by omega⟩⟩
      clear hr h1 h2
      go_enter Tryz.func20, Tryz.ntmps20
      go_wp2_with fail
      refine (in_t id 0 1099511627776 w H1.out).mono ?_
      rintro e w1 ⟨rfl, rfl⟩
      go_wp2_with fail
      refine (in_t a 0 (n - 1) _ H2.out).mono ?_
      rintro e w2 ⟨rfl, rfl⟩
      go_wp2_with fail
      refine (in_f b 0 (n - 1) _ H3.out).mono ?_
      rintro e w3 ⟨rfl, rfl⟩
      go_wp2_with fail
      go_ret
      exact ⟨rfl, Below.refl _ _⟩
    · have H2 : Hid (¬ (0 ≤ a ∧ a ≤ n - 1)) := h2
      clear hr h1 h2
      go_enter Tryz.func20, Tryz.ntmps20
      go_wp2_with fail
      refine (in_t id 0 1099511627776 w H1.out).mono ?_
      rintro e w1 ⟨rfl, rfl⟩
      go_wp2_with fail
      refine (in_f a 0 (n - 1) _ H2.out).mono ?_
      rintro e w2 ⟨rfl, rfl⟩
      go_wp2_with fail
      go_ret
      exact ⟨rfl, Below.refl _ _⟩
  · have H1 : Hid (¬ (0 ≤ id ∧ id ≤ 1099511627776)) := h1
    clear hr h1
    go_enter Tryz.func20, Tryz.ntmps20
    go_wp2_with fail
    refine (in_f id 0 1099511627776 w H1.out).mono ?_
    rintro e w1 ⟨rfl, rfl⟩
    go_wp2_with fail
    go_ret
    exact ⟨rfl, Below.refl _ _⟩

set_option maxHeartbeats 2000000 in
set_option maxRecDepth 100000 in
theorem radd_arg (id a n : Int) (B q : Nat) (u : Value) (R : List E) (w : World) (h : GAt w B 40 61 q n u R) (h0 : 0 ≤ n) (h40 : n ≤ 40) (hr : InRange id a a n) :
    Calls Tryz.prog 20 #[.pointer (some ⟨q, 0, none⟩), .int .i64 id, .int .i64 a, .int .i64 a] w fun e w' => e = .returned (.int .i64 1) ∧ Below w.heap.size w w' := by
  have hc := h.c0
  have H1 : Hid (0 ≤ id ∧ id ≤ 1099511627776) := hr.1
  have H2 : Hid (0 ≤ a ∧ a ≤ n - 1) := ⟨hr.2.1.1, by have := hr.2.1.2; omega⟩
  clear hr h
  go_enter Tryz.func20, Tryz.ntmps20
  go_wp2_with fail
  refine (in_t id 0 1099511627776 w H1.out).mono ?_
  rintro e w1 ⟨rfl, rfl⟩
  go_wp2_with fail
  refine (in_t a 0 (n - 1) _ H2.out).mono ?_
  rintro e w2 ⟨rfl, rfl⟩
  go_wp2_with fail
  refine (in_t a 0 (n - 1) _ H2.out).mono ?_
  rintro e w3 ⟨rfl, rfl⟩
  go_wp2_with fail
  go_ret
  exact ⟨rfl, Below.refl _ _⟩

/-- What Add of the document's own graph tells, and leaves. -/
def RaddPost (w : World) (B q : Nat) (n : Int) (u : Value) (R : List E) (id lo hi : Int) (e : Ending) (w' : World) : Prop :=
  ((∃ x ∈ R, x.1 = id) ∧ e = .returned (.int .i64 9) ∧ Below w.heap.size w w') ∨
  ((∀ x ∈ R, x.1 ≠ id) ∧ 120 ≤ R.length ∧ e = .returned (.int .i64 12) ∧ Below w.heap.size w w') ∨
  ((∀ x ∈ R, x.1 ≠ id) ∧ R.length < 120 ∧ e = .returned (.int .i64 0) ∧ Step1 w w' B 40 q n u (R ++ [(id, lo, hi)]))

set_option maxHeartbeats 4000000 in
set_option maxRecDepth 100000 in
theorem radd_in (id a b n lo hi : Int) (B q : Nat) (u : Value) (R : List E) (w : World) (h : GAt w B 40 61 q n u R) (hB : B ≤ w.heap.size) (hl : R.length ≤ 120) (h0 : 0 ≤ n) (h40 : n ≤ 40) (hr : InRange id a b n) (hab : a ≠ b) (hlo : lo = min a b) (hhi : hi = max a b) :
    Calls Tryz.prog 20 #[.pointer (some ⟨q, 0, none⟩), .int .i64 id, .int .i64 a, .int .i64 b] w fun e w' => RaddPost w B q n u R id lo hi e w' := by
  have hc := h.c0
  have hu1 := h.c1
  have H1 : Hid (0 ≤ id ∧ id ≤ 1099511627776) := hr.1
  have H2 : Hid (0 ≤ a ∧ a ≤ n - 1) := ⟨hr.2.1.1, by have := hr.2.1.2; omega⟩
  have H3 : Hid (0 ≤ b ∧ b ≤ n - 1) := ⟨hr.2.2.1, by have := hr.2.2.2; omega⟩
  have HG : Hid (GAt w B 40 61 q n u R) := h
  have HB : Hid (B ≤ w.heap.size) := hB
  have hqlt := h.plt
  obtain ⟨m, hm⟩ : ∃ m, m = R.length := ⟨_, rfl⟩
  have HM : Hid (m = R.length) := hm
  obtain ⟨ua, uc, hv⟩ := h.row.slice_len
  rw [← hm] at hv hl
  have HV : Hid (u = .slice ua m uc) := hv
  rw [hv] at hu1
  have h5 : (a == b) = false := beq_eq_false_iff_ne.2 hab
  clear hr h hB hv hm
  go_enter Tryz.func20, Tryz.ntmps20
  go_wp2_with fail
  refine (in_t id 0 1099511627776 w H1.out).mono ?_
  rintro e w1 ⟨rfl, rfl⟩
  go_wp2_with fail
  refine (in_t a 0 (n - 1) _ H2.out).mono ?_
  rintro e w2 ⟨rfl, rfl⟩
  go_wp2_with fail
  refine (in_t b 0 (n - 1) _ H3.out).mono ?_
  rintro e w ⟨rfl, rfl⟩
  go_wp2_with fail
  go_loopg [10, 42] m (fun r _ s42 wq => ∃ k : Nat, s42 = .int .i64 k ∧ k + r = m ∧ (∀ x ∈ R.take k, x.1 ≠ id) ∧ Below w.heap.size w wq)
  case atStart => exact ⟨0, rfl, by omega, fun x hx => by simp at hx, Below.refl _ _⟩
  case round =>
    obtain ⟨k, rfl, hk, hno, hb⟩ := hrel
    have HNO : Hid (∀ x ∈ R.take k, x.1 ≠ id) := hno
    have HBW : Hid (Below w.heap.size w wr) := hb
    clear hno hb
    by_cases hlt : k < m
    · obtain ⟨x0, x1, x2, hx⟩ : ∃ x0 x1 x2, R[k]? = some (x0, x1, x2) := ⟨_, _, _, List.getElem?_eq_getElem (by rw [← HM.out]; exact hlt)⟩
      have HX : Hid (R[k]? = some (x0, x1, x2)) := hx
      obtain ⟨g, hua⟩ : ∃ g, ua = some ⟨g, 0, none⟩ := by
        rcases HG.out.row.shape with ⟨_, e⟩ | ⟨g, cap, e, _⟩
        · rw [e] at hx; simp at hx
        · rw [HV.out] at e
          injection e with e1 _ _
          exact ⟨g, e1⟩
      obtain ⟨r0, r1, r2⟩ := (HG.out.below HBW.out).row.at (g := g) (by rw [HV.out, hua]; rfl) hx
      have r0' : wr.cell? ⟨g, k * 3, none⟩ = some (.int .i64 x0) := r0
      have r1' : wr.cell? ⟨g, k * 3 + 1, none⟩ = some (.int .i64 x1) := r1
      have r2' : wr.cell? ⟨g, k * 3 + 2, none⟩ = some (.int .i64 x2) := r2
      have HB1 : Hid (∀ o, Below w.heap.size w (wr.alloc o)) := fun o => HBW.out.alloc HBW.out.size _
      clear r0 r1 r2 hx
      subst hua
      by_cases hid : x0 = id
      · as_aux_lemma =>
        have HH : Hid (∃ x ∈ R, x.1 = id) := ⟨_, List.mem_of_getElem? HX.out, hid⟩
        subst hid
        go_wp2_with fail
        go_ret
        exact Or.inl ⟨HH.out, rfl, HB1.out _⟩
      · as_aux_lemma =>
        have HN : Hid (∀ x ∈ R.take (k + 1), x.1 ≠ id) := by
          intro x hx
          obtain ⟨hlt', he⟩ := List.getElem?_eq_some_iff.1 HX.out
          rw [List.take_succ_eq_append_getElem hlt', he] at hx
          rcases List.mem_append.1 hx with h | h
          · exact HNO.out x h
          · rw [List.mem_singleton.1 h]; exact hid
        have hib : (x0 == id) = false := beq_eq_false_iff_ne.2 hid
        clear hid
        go_wp2_with fail
        go_roundg (gk - 1)
        case measure => omega
        case rel => exact ⟨k + 1, by go_num, by omega, HN.out, HB1.out _⟩
    · have HN : Hid (∀ x ∈ R, x.1 ≠ id) := by
        have e : R.take k = R := List.take_of_length_le (by rw [← HM.out]; omega)
        have := HNO.out
        rw [e] at this; exact this
      have hg := HG.out.below HBW.out
      have hu2 := hg.c1
      have hq2 := hg.plt
      rw [HV.out] at hu2
      clear HNO
      by_cases hf : 120 ≤ m
      · as_aux_lemma =>
        have hf' : (120 : Int) ≤ (m : Int) := by omega
        have HF : Hid (120 ≤ R.length) := by rw [← HM.out]; exact hf
        clear hg
        go_wp2_with fail
        go_ret
        exact Or.inr (Or.inl ⟨HN.out, HF.out, rfl, HBW.out⟩)
      · have hf' : ¬ ((120 : Int) ≤ (m : Int)) := by omega
        have HF : Hid (R.length < 120) := by
          show R.length < 120
          rw [← HM.out]; omega
        obtain ⟨a1, m1, c1, wa, a2, m2, c2, wb, e1, e2, e3, e4⟩ := radd_row 33 wr B u R id lo hi hg.row (by have := HF.out; omega)
        obtain ⟨s1, s2, s3⟩ := step1_new HG.out HB.out HBW.out e3 e4
        rw [HV.out] at e1 s2
        have HE1 : Hid (_ = _) := e1
        have HE2 : Hid (_ = _) := e2
        have HS : Hid (Step1 w (wb.setCell ⟨q, 1, none⟩ (.slice a2 m2 c2)) B 40 q n u (R ++ [(id, lo, hi)])) := s1
        clear hg e1 e2 e3 e4 s1
        rcases Int.lt_or_gt_of_ne hab with hlt2 | hgt2
        · as_aux_lemma =>
          obtain rfl : lo = a := by rw [hlo]; omega
          obtain rfl : hi = b := by rw [hhi]; omega
          clear hlo hhi hab
          have hn : ¬ (hi < lo) := by omega
          go_wp2_with (first
            | (at_builtin; refine Lib.wpList_append_run _ rfl _ _ _ _ rfl _ _ rfl rfl _ _ HE1.out ?_; clear HE1)
            | (at_builtin; refine Lib.wpList_append_run _ rfl _ _ _ _ rfl _ _ rfl rfl _ _ HE2.out ?_))
          go_ret
          exact Or.inr (Or.inr ⟨HN.out, HF.out, rfl, HS.out⟩)
        · as_aux_lemma =>
          obtain rfl : lo = b := by rw [hlo]; omega
          obtain rfl : hi = a := by rw [hhi]; omega
          clear hlo hhi hab
          have hn : lo < hi := by omega
          go_wp2_with (first
            | (at_builtin; refine Lib.wpList_append_run _ rfl _ _ _ _ rfl _ _ rfl rfl _ _ HE1.out ?_; clear HE1)
            | (at_builtin; refine Lib.wpList_append_run _ rfl _ _ _ _ rfl _ _ rfl rfl _ _ HE2.out ?_))
          go_ret
          exact Or.inr (Or.inr ⟨HN.out, HF.out, rfl, HS.out⟩)

end Go.Proofs.YtebcjaenhiiflaaGreatDoor.G
namespace Go.Proofs.YtebcjaenhiiflaaGreatDoor.G
open Go.RowKit Go.Extern.Stop Go.Stop Go.Extern

theorem method_run {P : Program} {W : World} {z : Sem Value} {f : TypeId → Addr → Nat → Nat → Sem Value} {v : Value} {t : TypeId} {a : Addr} {fl : Nat}
    (hp : (ReflectliteValue.parts v).run P W = .ok (some (t, a, fl)) W) : (ReflectliteValue.method z f #[v]).run P W = (f t a fl (fl % 32)).run P W := by
  show Sem.run P (ReflectliteValue.parts v >>= _) W = _
  rw [Sem.run_bind, hp]
  rfl

theorem set_run {P : Program} {W W' : World} {v x val : Value} {dst src : TypeId} {a b : Addr} {fl fl' : Nat} (h1 : (ReflectliteValue.parts v).run P W = .ok (some (dst, a, fl)) W) (h2 : (ReflectliteValue.parts x).run P W = .ok (some (src, b, fl')) W)
    (hfl : (fl / ReflectliteValue.flagAddr % 2 == 0) = false) (hl : (loadVar src b).run P W = .ok val W) (hd : (Rtype.directlyAssignable dst src).run P W = .ok true W) (hs : (storeVar dst a val).run P W = .ok () W') :
    (ReflectliteValue.set #[v, x]).run P W = .ok (.tuple #[]) W' := by
  show Sem.run P (ReflectliteValue.parts v >>= _) W = _
  rw [Sem.run_bind, h1]
  show Sem.run P (ReflectliteValue.parts x >>= _) W = _
  rw [Sem.run_bind, h2]
  simp [hfl, hl, hd, hs, Result.andThen]

theorem as_nil (t : Value) (w : World) :
    Calls Tryz.prog 203 #[.nilIface, t] w fun e w' => e = .returned (.bool false) ∧ w' = w := by
  go_enter Tryz.func203, Tryz.ntmps203
  go_wp2
  go_ret
  exact ⟨rfl, rfl⟩

theorem Tryz.valueOf246 (t : Addr) (w : World) : (ReflectliteValue.unpack (.iface 246 (.pointer (some t)))).run Tryz.prog w
    = .ok (.agg #[.pointer (some ⟨9, 246, none⟩), .pointer (some ⟨w.heap.size, 0, none⟩), .int .u64 150]) (w.alloc (.cells #[.pointer (some t)] 246)) := by kernel_rfl

theorem Tryz.type246 (a : Addr) (w : World) : (ReflectliteValue.methodAny (ReflectliteValue.valueError "reflectlite.Value.Type" 0) (fun t _ _ _ => ReflectliteType.toType t) #[.agg #[.pointer (some ⟨9, 246, none⟩), .pointer (some a), .int .u64 150]]).run Tryz.prog w
    = .ok (.iface 248 (.agg #[.pointer (some ⟨9, 246, none⟩)])) w := by kernel_rfl

theorem Tryz.methodKind (h : Value) (w : World) : (Go.method 546 248 (.agg #[h]) "Kind").run Tryz.prog w = .ok (402, h) w := by kernel_rfl

theorem Tryz.kind246 (w : World) : ((ReflectliteType.abiMethod fun t => (fun a : Nat => Value.int IntKind.u8 (a : Int)) <$> Rtype.kind t) #[.pointer (some ⟨9, 246, none⟩)]).run Tryz.prog w = .ok (.int .u8 22) w := by kernel_rfl

theorem Tryz.kind23 (w : World) : ((ReflectliteType.abiMethod fun t => (fun a : Nat => Value.int IntKind.u8 (a : Int)) <$> Rtype.kind t) #[.pointer (some ⟨9, 23, none⟩)]).run Tryz.prog w = .ok (.int .u8 2) w := by kernel_rfl

theorem Tryz.parts246 (a : Addr) (w : World) : (ReflectliteValue.parts (.agg #[.pointer (some ⟨9, 246, none⟩), .pointer (some a), .int .u64 150])).run Tryz.prog w = .ok (some (246, a, 150)) w := by kernel_rfl

theorem Tryz.isNil246 (a p : Addr) (W : World) (ha : W.cell? a = some (.pointer (some p))) :
    (ReflectliteValue.method (ReflectliteValue.valueError "reflectlite.Value.IsNil" 0) ReflectliteValue.isNil #[.agg #[.pointer (some ⟨9, 246, none⟩), .pointer (some a), .int .u64 150]]).run Tryz.prog W = .ok (.bool false) W := by
  rw [method_run (Tryz.parts246 a W)]
  simp [ReflectliteValue.isNil, loadVar, isAgg, underlying, Tryz.underlying246, ha, Result.andThen]

theorem Tryz.methodElem (h : Value) (w : World) : (Go.method 546 248 (.agg #[h]) "Elem").run Tryz.prog w = .ok (415, .agg #[h]) w := by kernel_rfl

theorem Tryz.methodImplements (h : Value) (w : World) : (Go.method 546 248 (.agg #[h]) "Implements").run Tryz.prog w = .ok (416, .agg #[h]) w := by kernel_rfl

theorem Tryz.methodAssignableTo (h : Value) (w : World) : (Go.method 546 248 (.agg #[h]) "AssignableTo").run Tryz.prog w = .ok (414, .agg #[h]) w := by kernel_rfl

theorem Tryz.elem246 (w : World) : (ReflectliteType.method ReflectliteType.elem #[.agg #[.pointer (some ⟨9, 246, none⟩)]]).run Tryz.prog w = .ok (.iface 248 (.agg #[.pointer (some ⟨9, 23, none⟩)])) w := by kernel_rfl

theorem Tryz.implements23 (w : World) : (ReflectliteType.relation "Implements" ReflectliteType.implements_ #[.agg #[.pointer (some ⟨9, 23, none⟩)], .iface 248 (.agg #[.pointer (some ⟨9, 28, none⟩)])]).run Tryz.prog w = .ok (.bool true) w := by kernel_rfl

theorem Tryz.typeOf23 (v : Value) (w : World) : (ReflectliteType.typeOf #[.iface 23 v]).run Tryz.prog w = .ok (.iface 248 (.agg #[.pointer (some ⟨9, 23, none⟩)])) w := by kernel_rfl

theorem Tryz.assignable23 (w : World) : (ReflectliteType.relation "AssignableTo" ReflectliteType.assignableTo #[.agg #[.pointer (some ⟨9, 23, none⟩)], .iface 248 (.agg #[.pointer (some ⟨9, 23, none⟩)])]).run Tryz.prog w = .ok (.bool true) w := by kernel_rfl

theorem Tryz.valueOf23 (e : Int) (w : World) : (ReflectliteValue.unpack (.iface 23 (.int .i64 e))).run Tryz.prog w
    = .ok (.agg #[.pointer (some ⟨9, 23, none⟩), .pointer (some ⟨w.heap.size, 0, none⟩), .int .u64 130]) (w.alloc (.cells #[.int .i64 e] 23)) := by kernel_rfl

theorem Tryz.elemOf246 (w : World) : (Rtype.elem? 246).run Tryz.prog w = .ok (some 23) w := by kernel_rfl

theorem Tryz.mk23 (p : Addr) (w : World) : (ReflectliteValue.mk 23 p ReflectliteValue.flagAddr).run Tryz.prog w = .ok (.agg #[.pointer (some ⟨9, 23, none⟩), .pointer (some p), .int .u64 386]) w := by kernel_rfl

theorem Tryz.elemV246 (a p : Addr) (W : World) (ha : W.cell? a = some (.pointer (some p))) :
    (ReflectliteValue.method (ReflectliteValue.valueError "reflectlite.Value.Elem" 0) ReflectliteValue.elem #[.agg #[.pointer (some ⟨9, 246, none⟩), .pointer (some a), .int .u64 150]]).run Tryz.prog W
      = .ok (.agg #[.pointer (some ⟨9, 23, none⟩), .pointer (some p), .int .u64 386]) W := by
  rw [method_run (Tryz.parts246 a W)]
  simp [ReflectliteValue.elem, loadVar, isAgg, underlying, Tryz.underlying246, ha, Result.andThen, Tryz.elemOf246, Tryz.mk23]

theorem Tryz.parts23a (a : Addr) (w : World) : (ReflectliteValue.parts (.agg #[.pointer (some ⟨9, 23, none⟩), .pointer (some a), .int .u64 386])).run Tryz.prog w = .ok (some (23, a, 386)) w := by kernel_rfl

theorem Tryz.parts23 (a : Addr) (w : World) : (ReflectliteValue.parts (.agg #[.pointer (some ⟨9, 23, none⟩), .pointer (some a), .int .u64 130])).run Tryz.prog w = .ok (some (23, a, 130)) w := by kernel_rfl

theorem Tryz.direct23 (w : World) : (Rtype.directlyAssignable 23 23).run Tryz.prog w = .ok true w := by kernel_rfl

theorem Tryz.size23 (w : World) : (sizeOf 23).run Tryz.prog w = .ok 1 w := by kernel_rfl

theorem Tryz.set23 (ta b : Addr) (e : Int) (old : Value) (W : World) (hb : W.cell? b = some (.int .i64 e)) (ht : W.cell? ta = some old) (hf : W.frozen? ta = false) :
    (ReflectliteValue.set #[.agg #[.pointer (some ⟨9, 23, none⟩), .pointer (some ta), .int .u64 386], .agg #[.pointer (some ⟨9, 23, none⟩), .pointer (some b), .int .u64 130]]).run Tryz.prog W
      = .ok (.tuple #[]) (W.setCell ta (.int .i64 e)) := by
  refine set_run (Tryz.parts23a ta W) (Tryz.parts23 b W) rfl (val := .int .i64 e) ?_ (Tryz.direct23 W) ?_
  · simp [loadVar, isAgg, underlying, Tryz.underlying23, hb, Result.andThen]
  · simp [storeVar, Result.andThen, Value.cells, storeCells, Addr.add]
    rw [run_store Tryz.prog W ta _ _ (by rfl)]
    simp [ht, hf]

set_option maxRecDepth 100000 in
set_option maxHeartbeats 4000000 in
theorem as_hit (e : Int) (t : Addr) (old : Value) (w : World) (hg : w.cell? ⟨0, 0, none⟩ = some (.iface 248 (.agg #[.pointer (some ⟨9, 28, none⟩)]))) (ht0 : w.cell? t = some old) (hf0 : w.frozen? t = false) :
    Calls Tryz.prog 203 #[.iface 23 (.int .i64 e), .iface 246 (.pointer (some t))] w fun ev w' => ev = .returned (.bool true) ∧ w' = ((((w.alloc (.cells #[.pointer (some t)] 246)).alloc (.cells #[.pointer (some ⟨9, 246, none⟩), .pointer (some ⟨w.heap.size, 0, none⟩), .int .u64 150] 158)).alloc (.cells #[.pointer (some ⟨9, 246, none⟩), .pointer (some ⟨w.heap.size, 0, none⟩), .int .u64 150] 158)).alloc (.cells #[.int .i64 e] 23)).setCell t (.int .i64 e) := by
  have h6 := @run_callFunc_extern Tryz.prog 107 _ (fun args => ReflectliteValue.unpack (args.getD 0 (.tuple #[]))) Tryz.func107 (by kernel_rfl) (by kernel_rfl) (by kernel_rfl) (by kernel_rfl)
  have h7 := @run_callFunc_extern Tryz.prog 298 _ (ReflectliteValue.methodAny (ReflectliteValue.valueError "reflectlite.Value.Type" 0) (fun t _ _ _ => ReflectliteType.toType t)) Tryz.func298 (by kernel_rfl) (by kernel_rfl) (by kernel_rfl) (by kernel_rfl)
  have h8 := @run_callFunc_extern Tryz.prog 299 _ (ReflectliteValue.method (ReflectliteValue.valueError "reflectlite.Value.IsNil" 0) ReflectliteValue.isNil) Tryz.func299 (by kernel_rfl) (by kernel_rfl) (by kernel_rfl) (by kernel_rfl)
  have h27 := @run_callFunc_extern Tryz.prog 402 _ (ReflectliteType.abiMethod fun t => do pure (.int .u8 (← Rtype.kind t))) Tryz.func402 (by kernel_rfl) (by kernel_rfl) (by kernel_rfl) (by kernel_rfl)
  have h37 := @run_callFunc_extern Tryz.prog 415 _ (ReflectliteType.method ReflectliteType.elem) Tryz.func415 (by kernel_rfl) (by kernel_rfl) (by kernel_rfl) (by kernel_rfl)
  have h38 := @run_callFunc_extern Tryz.prog 416 _ (ReflectliteType.relation "Implements" ReflectliteType.implements_) Tryz.func416 (by kernel_rfl) (by kernel_rfl) (by kernel_rfl) (by kernel_rfl)
  have h10 := @run_callFunc_extern Tryz.prog 344 _ ReflectliteType.typeOf Tryz.func344 (by kernel_rfl) (by kernel_rfl) (by kernel_rfl) (by kernel_rfl)
  have h35 := @run_callFunc_extern Tryz.prog 414 _ (ReflectliteType.relation "AssignableTo" ReflectliteType.assignableTo) Tryz.func414 (by kernel_rfl) (by kernel_rfl) (by kernel_rfl) (by kernel_rfl)
  have h11 := @run_callFunc_extern Tryz.prog 345 _ (ReflectliteValue.method (ReflectliteValue.valueError "reflectlite.Value.Elem" 0) ReflectliteValue.elem) Tryz.func345 (by kernel_rfl) (by kernel_rfl) (by kernel_rfl) (by kernel_rfl)
  have h12 := @run_callFunc_extern Tryz.prog 346 _ ReflectliteValue.set Tryz.func346 (by kernel_rfl) (by kernel_rfl) (by kernel_rfl) (by kernel_rfl)
  have tO := Tryz.typeOf23
  have mA := Tryz.methodAssignableTo
  have a25 := Tryz.assignable23
  have v25 := Tryz.valueOf23
  have f6 := Tryz.valueOf246
  have f7 := Tryz.type246
  have mK := Tryz.methodKind
  have mE := Tryz.methodElem
  have mI := Tryz.methodImplements
  have k27 := Tryz.kind246
  have k25 := Tryz.kind23
  have e27 := Tryz.elem246
  have i25 := Tryz.implements23
  have n8 := Tryz.isNil246 ⟨w.heap.size, 0, none⟩ t ((w.alloc (.cells #[.pointer (some t)] 246)).alloc (.cells #[.pointer (some ⟨9, 246, none⟩), .pointer (some ⟨w.heap.size, 0, none⟩), .int .u64 150] 158)) (by simp)
  have hlt : 0 < w.heap.size := by
    rcases Nat.eq_zero_or_pos w.heap.size with h0 | h
    · simp [World.cell?, h0] at hg
    · exact h
  have hg2 : ((w.alloc (.cells #[.pointer (some t)] 246)).alloc (.cells #[.pointer (some ⟨9, 246, none⟩), .pointer (some ⟨w.heap.size, 0, none⟩), .int .u64 150] 158)).cell? ⟨0, 0, none⟩ = some (.iface 248 (.agg #[.pointer (some ⟨9, 28, none⟩)])) := by
    rw [World.cell?_alloc_lt _ _ ⟨0, 0, none⟩ (by simp), World.cell?_alloc_lt _ _ ⟨0, 0, none⟩ hlt]; exact hg
  have htl : t.block < w.heap.size := by
    rcases Nat.lt_or_ge t.block w.heap.size with h | h
    · exact h
    · simp [World.cell?, Array.getElem?_eq_none h] at ht0
  have el := Tryz.elemV246 ⟨w.heap.size, 0, none⟩ t (((w.alloc (.cells #[.pointer (some t)] 246)).alloc (.cells #[.pointer (some ⟨9, 246, none⟩), .pointer (some ⟨w.heap.size, 0, none⟩), .int .u64 150] 158)).alloc (.cells #[.pointer (some ⟨9, 246, none⟩), .pointer (some ⟨w.heap.size, 0, none⟩), .int .u64 150] 158)) (by rw [World.cell?_alloc_lt _ _ ⟨w.heap.size, 0, none⟩ (by simp; omega)]; simp)
  have st := Tryz.set23 t ⟨w.heap.size + 1 + 1 + 1, 0, none⟩ e old ((((w.alloc (.cells #[.pointer (some t)] 246)).alloc (.cells #[.pointer (some ⟨9, 246, none⟩), .pointer (some ⟨w.heap.size, 0, none⟩), .int .u64 150] 158)).alloc (.cells #[.pointer (some ⟨9, 246, none⟩), .pointer (some ⟨w.heap.size, 0, none⟩), .int .u64 150] 158)).alloc (.cells #[.int .i64 e] 23))
    (by rw [World.cell?_alloc_at _ _ _ _ (by simp)]; rfl)
    (by rw [World.cell?_alloc_lt _ _ t (by simp; omega), World.cell?_alloc_lt _ _ t (by simp; omega), World.cell?_alloc_lt _ _ t (by simp; omega), World.cell?_alloc_lt _ _ t htl]; exact ht0)
    (by rw [World.frozen?_alloc_old _ _ t (by simp; omega), World.frozen?_alloc_old _ _ t (by simp; omega), World.frozen?_alloc_old _ _ t (by simp; omega), World.frozen?_alloc_old _ _ t (Nat.ne_of_lt htl)]; exact hf0)
  go_enter Tryz.func203, Tryz.ntmps203
  go_wp2
  refine wp_loop_rounds 1 ?_
  rw [rounds_succ]
  go_wp2
  go_ret
  exact ⟨rfl, rfl⟩

end Go.Proofs.YtebcjaenhiiflaaGreatDoor.G
namespace Go.Proofs.YtebcjaenhiiflaaGreatDoor.G
open Go.RowKit Go.Extern.Stop Go.Stop Go.Extern

/-- The type that package errors keeps of errors. -/
def Gl (w : World) : Prop := w.cell? ⟨0, 0, none⟩ = some (.iface 248 (.agg #[.pointer (some ⟨9, 28, none⟩)]))

theorem Gl.below {w w' : World} (h : Gl w) (hb : Below w.heap.size w w') : Gl w' :=
  (hb.cell (p := ⟨0, 0, none⟩) (lt_of_cell h)).trans h

theorem below_four (w : World) (o1 o2 o3 o4 : Obj) : Below w.heap.size w ((((w.alloc o1).alloc o2).alloc o3).alloc o4) :=
  ((((Below.refl _ _).alloc (Nat.le_refl _) _).alloc (by simp) _).alloc (by simp; omega) _).alloc (by simp; omega) _

theorem below_as (w : World) (t : Nat) (h : w.heap.size ≤ t) (o1 o2 o3 o4 o5 : Obj) (v : Value) : Below w.heap.size w ((((((w.alloc o1).alloc o2).alloc o3).alloc o4).alloc o5).setCell ⟨t, 0, none⟩ v) :=
  ((below_four w o1 o2 o3 o4).alloc (by simp; omega) _).setCell h _

set_option maxHeartbeats 400000 in
theorem tell_errno (n : Int) (w : World) (hg : Gl w) : Calls Tryz.prog 104 #[.iface 23 (.int .i64 n)] w fun e w' => e = .returned (.int .i64 n) ∧ Below w.heap.size w w' := by
  have hg1 : Gl (w.alloc (.cells #[.int .i64 0] 23)) := hg.below ((Below.refl _ _).alloc (Nat.le_refl _) _)
  have HG : Hid (Gl (w.alloc (.cells #[.int .i64 0] 23))) := hg1
  clear hg hg1
  go_enter Tryz.func104, Tryz.ntmps104
  go_wp2_with fail
  refine (as_hit n ⟨w.heap.size, 0, none⟩ (.int .i64 0) _ (by exact HG.out) (by simp) (by simp)).mono ?_
  rintro e w' ⟨rfl, hw⟩
  have hb : Below w.heap.size w w' := by rw [hw]; exact below_as w _ (Nat.le_refl _) _ _ _ _ _ _
  have hc : w'.cell? ⟨w.heap.size, 0, none⟩ = some (.int .i64 n) := by
    rw [hw]
    refine World.cell?_setCell_same _ _ _ (u := .int .i64 0) ?_
    have h1 : (w.alloc (.cells #[.int .i64 0] 23)).cell? ⟨w.heap.size, 0, none⟩ = some (.int .i64 0) := by simp
    refine (Below.cell (p := ⟨w.heap.size, 0, none⟩) (below_four (w.alloc (.cells #[.int .i64 0] 23)) _ _ _ _) (by simp)).trans h1
  have HB : Hid (Below w.heap.size w w') := hb
  clear hw hb HG
  go_wp2
  go_ret
  exact ⟨rfl, HB.out⟩

theorem noAt (v : Value) (w : World) : (Instr.typeAssert (.iface 23 v) 28 148 true).run Tryz.prog w = .ok (.tuple #[.pointer none, .bool false]) w := by kernel_rfl

theorem noUnwrap (v : Value) (w : World) : (Instr.typeAssert (.iface 23 v) 28 150 true).run Tryz.prog w = .ok (.tuple #[.nilIface, .bool false]) w := run_typeAssert_lacksB Tryz.underlying150 (by kernel_rfl) (by kernel_rfl) v 28 w

set_option maxRecDepth 100000 in
set_option maxHeartbeats 400000 in
theorem bare_errno (n : Int) (w : World) (hg : Gl w) : Calls Tryz.prog 47 #[.iface 23 (.int .i64 n)] w fun e w' => e = .returned (.tuple #[.int .i64 n, .bool true]) ∧ Below w.heap.size w w' := by
  go_enter Tryz.func47, Tryz.ntmps47
  go_wp2_with fail
  refine (tell_errno n _ hg).mono ?_
  rintro e w' ⟨rfl, hb⟩
  have na := noAt
  have nu := noUnwrap
  have HB : Hid (Below w.heap.size w w') := hb
  clear hb hg
  go_wp2_with fail
  refine wp_loop_rounds 1 ?_
  rw [rounds_succ]
  go_wp2
  go_ret2
  exact ⟨rfl, HB.out⟩

set_option maxHeartbeats 400000 in
theorem bare_no (n : Int) (w : World) (hg : Gl w) : Calls Tryz.prog 12 #[.iface 23 (.int .i64 n), .int .i64 n] w fun e w' => e = .returned (.bool true) ∧ Below w.heap.size w w' := by
  go_enter Tryz.func12, Tryz.ntmps12
  go_wp2_with fail
  refine (bare_errno n _ hg).mono ?_
  rintro e w' ⟨rfl, hb⟩
  have HB : Hid (Below w.heap.size w w') := hb
  clear hb hg
  go_wp2
  go_ret
  exact ⟨by simp, HB.out⟩

set_option maxRecDepth 100000 in
set_option maxHeartbeats 400000 in
theorem bare_ok (w : World) : Calls Tryz.prog 12 #[.nilIface, .int .i64 0] w fun e w' => e = .returned (.bool true) ∧ Below w.heap.size w w' := by
  go_enter Tryz.func12, Tryz.ntmps12
  go_wp2_with fail
  have h30 : Calls Tryz.prog 47 #[.nilIface] w fun e w' => e = .returned (.tuple #[.int .i64 0, .bool true]) ∧ w' = w := by
    go_enter Tryz.func47, Tryz.ntmps47
    go_wp2
    refine wp_loop_rounds 1 ?_
    rw [rounds_succ]
    go_wp2
    go_ret2
    exact ⟨rfl, rfl⟩
  refine h30.mono ?_
  rintro e w' ⟨rfl, rfl⟩
  go_wp2
  go_ret
  exact ⟨rfl, Below.refl _ _⟩

/-- An error as the program tells it. -/
def errV (c : Int) : Value := if c = 0 then .nilIface else .iface 23 (.int .i64 c)

theorem bare_any (v : Value) (c : Int) (w : World) (hg : Gl w) (hv : v = errV c) : Calls Tryz.prog 12 #[v, .int .i64 c] w fun e w' => e = .returned (.bool true) ∧ Below w.heap.size w w' := by
  subst hv
  by_cases h : c = 0
  · subst h; exact bare_ok w
  · have : errV c = .iface 23 (.int .i64 c) := by simp [errV, h]
    rw [this]; exact bare_no c w hg

end Go.Proofs.YtebcjaenhiiflaaGreatDoor.G
