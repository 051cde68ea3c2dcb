/- Package flow: Ways. -/
import Derived.Test.YtpkdpddillebfaaDoorDnO
import Derived.Test.YtpkdpddillebfaaDoorDe
namespace Go.Proofs.YtpkdpddillebfaaDoor.S
open Go Go.ChangeMaps Go.MapKept Go.WideShapes
open Go.RowKit Go.WideMaps Go.Maps F

theorem RowI.shape {w : World} {B : Nat} {v : Value} {xs : List Int} (h : RowI w B v xs) : ∃ a c, v = .slice a xs.length c := by
  rcases h.2 with hn | ⟨g, cap, cur, h1, _⟩
  · obtain ⟨h2, h3⟩ : v = .slice none 0 0 ∧ xs.length = 0 := by simpa using hn
    exact ⟨none, 0, by rw [h2, h3]⟩
  · exact ⟨_, cap, h1⟩

/-- Ways that are told. -/
structure WaR (wq : World) (g k : Nat) (vs : Nat → Value) (PS : List (List Stp)) : Prop where
  lt : g < wq.heap.size
  out : ∀ i, i < k → wq.cell? ⟨g, i, none⟩ = some (if i < PS.length then vs i else .slice none 0 0) ∧ wq.frozen? ⟨g, i, none⟩ = false
  row : ∀ (i : Nat) (P : List Stp), PS[i]? = some P → RowI wq (g + 1) (vs i) (P.map (·.1))

/-- What is known of ways. -/
structure WaF (D : List Stp) (a b : Int) (PS : List (List Stp)) : Prop where
  walk : ∀ P ∈ PS, Walk a P b ∧ ∀ s ∈ P, s ∈ D
  one : (PS.flatten.map (·.1)).Nodup

theorem grown_set (w : World) (g i : Nat) (v : Value) : w.grownBy (w.setCell ⟨g, i, none⟩ v) (some g) :=
  ⟨rfl, rfl, rfl, by simp, fun k _ hn => Below.heap_setCell _ _ _ _ (fun e => hn (by first | rw [e] | (rw [← e])))⟩

theorem WaR.more {w w' : World} {g k rm : Nat} {vs : Nat → Value} {PS : List (List Stp)} (h : WaR w g k vs PS) (hb : But rm w w') (hrm : rm < g) {v : Value} {P : List Stp} (hv : RowI w' w.heap.size v (P.map (·.1))) :
    WaR (w'.setCell ⟨g, PS.length, none⟩ v) g k (fun i => if i = PS.length then v else vs i) (PS ++ [P]) := by
  have hlt : g < w'.heap.size := Nat.lt_of_lt_of_le h.lt hb.size
  have hfz : ∀ i, i < k → w'.frozen? ⟨g, i, none⟩ = false := fun i hi => by
    have := (h.out i hi).2
    unfold World.frozen? at this ⊢
    rw [hb.block g h.lt (by omega)]; exact this
  refine ⟨by simpa using hlt, fun i hi => ⟨?_, by rw [World.frozen?_setCell]; exact hfz i hi⟩, fun i Q hQ => ?_⟩
  · have hc := keep_cell (o := i) hb.grown (by omega) (h.out i hi).1
    by_cases e : i = PS.length
    · subst e
      rw [if_pos (by simp), if_pos rfl]
      exact World.cell?_setCell_same _ _ _ hc
    · rw [World.cell?_setCell_other _ _ _ _ (fun k => by injection k with _ k2; exact e k2.symm), hc, if_neg e]
      by_cases c : i < PS.length
      · rw [if_pos c, if_pos (by simp; omega)]
      · rw [if_neg c, if_neg (by simp; omega)]
  · by_cases e : i = PS.length
    · subst e
      rw [List.getElem?_append_right (Nat.le_refl _)] at hQ
      simp at hQ
      subst hQ
      rw [if_pos rfl]
      have hl := h.lt
      exact (hv.beside (grown_set w' g _ v) h.lt).mono (by omega)
    · have hi : i < PS.length := by
        have := (List.getElem?_eq_some_iff.1 hQ).1
        simp at this
        omega
      rw [List.getElem?_append_left hi] at hQ
      rw [if_neg e]
      exact ((h.row i Q hQ).beside hb.grown (by omega)).beside (grown_set w' g _ v) (by omega)

theorem lr_one (ss : List (Stp × Int)) (h : ∀ t ∈ ss, t.2 = 1) {q : Stp} (hq : q ∈ lD ss) : lr ss q = 1 := by
  induction ss using snoc_ind with
  | h0 => simp [lD] at hq
  | h1 l t ih =>
    rw [lD_snoc] at hq
    rw [lr_snoc]
    simp only
    by_cases e1 : q = bk t.1
    · rw [if_pos e1]; exact h t (by simp)
    · rw [if_neg e1]
      by_cases e2 : q = t.1
      · rw [if_pos e2]
      · rw [if_neg e2]
        refine ih (fun x hx => h x (by simp [hx])) ?_
        rcases List.mem_append.1 hq with k | k
        · exact k
        · simp at k
          rcases k with k | k
          · exact absurd k e2
          · exact absurd k e1

theorem edS_one (L : List Stp) : ∀ t ∈ edS L, t.2 = 1 := fun t ht => by
  obtain ⟨d, hd, rfl⟩ := List.mem_map.1 ht
  rfl

/-- What Ways hands back. -/
def WaysPost (w : World) (a b m : Nat) (L : List Stp) (e : Ending) (w' : World) : Prop :=
  ∃ (k g : Nat) (vs : Nat → Value) (PS : List (List Stp)), e = .returned (.tuple #[.slice (some ⟨g, 0, none⟩) k k, .nilIface]) ∧ Val (cap (lD (edS L)) (lr (edS L))) a b m k ∧ PS.length = k ∧ WaR w' g k vs PS ∧ WaF (lD (edS L)) a b PS ∧ Below w.heap.size w w' ∧ w.heap.size ≤ g

/-- A round of Ways. -/
structure WRd (w3 wq : World) (p lm rm N g k : Nat) (D : List Stp) (r0 : Stp → Int) (a b : Int) (j : Nat) : Prop where
  x : ∃ (vs : Nat → Value) (PS : List (List Stp)) (r : Stp → Int) (M : DataW Unit), PS.length = j ∧ WaR wq g k vs PS ∧ WaF D a b PS ∧ NetR wq p lm rm (N + 1000 * j) M D r ∧ Un D r0 a b r ((k : Int) - j) (PS.flatten.map (·.1)) ∧ (∀ x, r x + r (bk x) ≤ 2)
  but : But rm w3 wq

set_option maxHeartbeats 2000000 in
set_option maxRecDepth 100000 in
theorem ways_any (n B0 q a b m : Nat) (u : Value) (L : List (Int × Int × Int)) (w : World) (h : G.GAt w B0 90 59 q (n : Int) u L) (hn : n ≤ 16) (hed : Ed n 70 L) (ha : a < n) (hb : b < n) (hab : a ≠ b) (hm : m ≤ 120) :
    Calls Tryd.prog 36 #[.pointer (some ⟨q, 0, none⟩), .int .i64 (a : Int), .int .i64 (b : Int), .int .i64 (m : Int)] w (WaysPost w a b m L) := by
  have HG : Hid (G.GAt w B0 90 59 q (n : Int) u L) := h
  have HE : Hid (Ed n 70 L) := hed
  have hlen := hed.len
  clear h hed
  go_enter Tryd.func36, Tryd.ntmps36
  go_wp2_with fail
  refine (check_any n B0 q a b m u L w HG.out ha hb hab hm).mono ?_
  rintro e w1 ⟨rfl, hb1⟩
  have HB1 : Hid (Below w.heap.size w w1) := hb1
  clear hb1
  go_wp2_with fail
  refine (byEdges_any n B0 q u L w1 (HG.out.below HB1.out) hn HE.out).mono ?_
  rintro e w2 ⟨p, lm, rm, N, B, f, rfl, hL, hN, hb2, _, _, hrm, _⟩
  have HB2 : Hid (Below w.heap.size w w2 ∧ w.heap.size ≤ rm) := ⟨HB1.out.trans (hb2.mono HB1.out.size), Nat.le_trans HB1.out.size hrm⟩
  have HL : Hid (Laid w2 p lm rm N B (edS L) f) := hL
  have HC : Hid _ := fill_laid hL (net_edS HE.out) (by simp [edS]; omega) (one_edS L) (tt_edS HE.out hn) (by omega) (a := (a : Int)) (b := (b : Int)) (most := m) hm (by omega) (by omega) (by omega) (by omega) (by omega)
  clear hL hb2 hrm
  go_wp2_with fail
  refine Calls.mono HC.out ?_
  rintro e w3 ⟨k, r, rfl, hv, hfl⟩
  have HF : Hid (Val (cap (lD (edS L)) (lr (edS L))) a b m k ∧ Fl w2 w3 p lm rm (N + 1000 * m) B (lD (edS L)) (lr (edS L)) f (lg (edS L)) a b k r) := ⟨hv, hfl⟩
  clear HC hv hfl
  have hkm : (k : Int) ≤ m := HF.out.1.le
  have hmk := fun W => run_make_row' (P := Tryd.prog) 39 30 (.slice none 0 0) 24 Tryd.underlying39 info30s rfl .i64 .i64 k (by omega) (by omega) W
  obtain ⟨g, hg⟩ : ∃ g, w3.heap.size = g := ⟨_, rfl⟩
  have HGS : Hid (w3.heap.size = g) := hg
  obtain ⟨D, hD⟩ : ∃ D, lD (edS L) = D := ⟨_, rfl⟩
  obtain ⟨r0, hr0⟩ : ∃ r0, lr (edS L) = r0 := ⟨_, rfl⟩
  have HSB : Hid (w.heap.size ≤ rm ∧ rm < B ∧ B ≤ w3.heap.size ∧ p < w3.heap.size ∧ p ≠ rm ∧ Below w.heap.size w w3) := by
    obtain ⟨M, LL, hA, _, _, hbt⟩ := HF.out.2
    exact ⟨HB2.out.2, hA.rb, hA.lv.le, lt_of_some hA.net.hp, hA.net.ne, HB2.out.1.trans ⟨hbt.os, hbt.tape, hbt.output, hbt.size, fun i hi => hbt.block i (Nat.lt_of_lt_of_le hi HB2.out.1.size) (by have := HB2.out.2; omega)⟩⟩
  have HU : Hid (∀ (wq : World) (j : Nat), j < k → WRd w3 wq p lm rm (N + 1000 * m) g k D r0 a b j → Calls Tryd.prog 65 #[.pointer (some ⟨p, 0, none⟩), .int .i64 (a : Int), .int .i64 (b : Int)] wq fun e w' => ∃ va vl vc, e = .returned (.slice va vl vc) ∧ WRd w3 (w'.setCell ⟨g, j, none⟩ (.slice va vl vc)) p lm rm (N + 1000 * m) g k D r0 a b (j + 1) ∧ w'.cell? ⟨g, j, none⟩ = some (.slice none 0 0) ∧ w'.frozen? ⟨g, j, none⟩ = false) := by
    rw [← hD, ← hr0]
    intro wq j hj hw
    obtain ⟨⟨vs, PS, rj, M, hl, hwr, hwf, hnet, hun, hsum⟩, hbut⟩ := hw
    obtain ⟨M3, LL, hA, _, _, _⟩ := HF.out.2
    obtain ⟨s1, s2, s3, s4, s5, s6⟩ := HSB.out
    have hgs := HGS.out
    have hAq := (hA.more (N' := N + 1000 * m + 1000 * j) (by omega)).taken hbut hnet (Nat.le_refl _)
    refine (undo_any p lm rm _ B M LL _ rj _ f _ (a : Int) (b : Int) ((k : Int) - j) (PS.flatten.map (·.1)) wq hAq (net_edS HE.out) (fun x s => lg_mem (edS L) s x) (fun x => ?_) (tt_edS HE.out hn) ?_ (fun s _ => lr_le (edS L) (one_edS L) s) hsum (ed_same HE.out) (by omega) (by omega) (by omega) (by omega) (by omega) hun (by omega)).mono ?_
    · have := lg_len (edS L) x
      have : (edS L).length ≤ 70 := by simp [edS]; omega
      omega
    · rw [lD_len]
      have : (edS L).length ≤ 70 := by simp [edS]; omega
      omega
    · rintro e w' ⟨v, P, r', M', L', rfl, hrow, hA', hbt', hun', hwalk, hsD, hnd, hsum'⟩
      obtain ⟨va, vc, hve⟩ := hrow.shape
      refine ⟨va, _, vc, by rw [hve], ?_⟩
      rw [← hve]
      refine ⟨⟨⟨fun i => if i = PS.length then v else vs i, PS ++ [P], r', M', by simp [hl], ?_, ⟨fun Q hQ => ?_, ?_⟩, ?_, ?_, hsum'⟩, ?_⟩, ?_, ?_⟩
      · rw [← hl]
        exact hwr.more hbt' (by omega) hrow
      · rcases List.mem_append.1 hQ with hQ | hQ
        · exact hwf.walk Q hQ
        · rw [List.mem_singleton.1 hQ]
          exact ⟨hwalk, fun s hs => (hsD s hs).1⟩
      · rw [List.flatten_append, List.map_append, List.nodup_append]
        refine ⟨hwf.one, by simpa using hnd, fun x hx y hy => ?_⟩
        rintro rfl
        simp at hy
        obtain ⟨y1, y2, hy⟩ := hy
        exact (hsD _ hy).2 hx
      · have := hA'.net.beside (grown_set w' g j v) (fun e => by injection e with e; omega) (fun e => by injection e with e; omega)
        rw [show N + 1000 * m + 1000 * (j + 1) = N + 1000 * m + 1000 * j + 1000 by omega]
        exact this
      · rw [show (k : Int) - ((j + 1 : Nat) : Int) = (k : Int) - j - 1 by omega, List.flatten_append, List.map_append]
        simpa using hun'
      · have h1 := hbut.trans hbt'
        exact ⟨h1.os, h1.tape, h1.output, by simpa using h1.size, fun i hi hne => (Below.heap_setCell _ _ _ _ (by show i ≠ g; omega)).trans (h1.block i hi hne)⟩
      · have := keep_cell (o := j) hbt'.grown (by omega) (hwr.out j hj).1
        rwa [if_neg (by omega)] at this
      · have := (hwr.out j hj).2
        unfold World.frozen? at this ⊢
        rw [hbt'.block g hwr.lt (by omega)]; exact this
  have HS : Hid (WRd w3 (w3.alloc (.cells (madeCells #[.slice none 0 0] k) 30)) p lm rm (N + 1000 * m) g k D r0 a b 0) := by
    rw [← hD, ← hr0, ← hg]
    obtain ⟨M, LL, hA, hfi, hsum, hbt⟩ := HF.out.2
    have hbA : Below w3.heap.size w3 (w3.alloc (.cells (madeCells #[.slice none 0 0] k) 30)) := (Below.refl _ _).alloc (Nat.le_refl _) _
    have hle : ∀ x, lr (edS L) x + lr (edS L) (bk x) ≤ 2 := fun x => by
      have := lr_le (edS L) (one_edS L) x
      have := lr_le (edS L) (one_edS L) (bk x)
      omega
    refine ⟨⟨fun _ => .nilIface, [], r, M, rfl, ⟨by simp, fun i hi => ?_, fun i P hP => by simp at hP⟩, ⟨by simp, by simp⟩, hA.net.below hbA, ⟨by simpa using hfi, fun s hs => ?_, fun s hs hU => by simp at hU⟩, fun x => by rw [hsum]; exact hle x⟩, But.of_below hbA⟩
    · have := made_cell w3 (.slice none 0 0) k 30 i hi
      rw [if_neg (by simp)]
      exact this
    · rw [hsum, lr_one _ (edS_one L) hs, lr_one _ (edS_one L) ((net_edS HE.out).back s hs)]; rfl
  have HV : Hid (Val (cap (lD (edS L)) (lr (edS L))) a b m k ∧ lD (edS L) = D) := ⟨HF.out.1, hD⟩
  clear HF HL hD hr0 hg
  go_wp2_with fail
  rw [HGS.out]
  go_loopw [32] (fun s32 wq => ∃ j : Nat, j ≤ k ∧ s32 = .int .i64 j ∧ WRd w3 wq p lm rm (N + 1000 * m) g k D r0 a b j) (fun s32 _ => k - (intOf s32).toNat)
  case atStart => exact ⟨0, Nat.zero_le _, rfl, HS.out⟩
  case round =>
    clear HS hmk
    obtain ⟨j, hj, rfl, hr⟩ := hrel
    have HR : Hid (WRd w3 wr p lm rm (N + 1000 * m) g k D r0 a b j) := hr
    clear hr
    by_cases hjk : j < k
    · as_aux_lemma =>
      have HC : Hid _ := HU.out wr j hjk HR.out
      clear HR HU
      go_wp2_with fail
      refine Calls.mono HC.out ?_
      rintro e w5 ⟨va, vl, vc, rfl, hw5, c5, f5⟩
      have HN : Hid (WRd w3 (w5.setCell ⟨g, j, none⟩ (.slice va vl vc)) p lm rm (N + 1000 * m) g k D r0 a b (j + 1)) := hw5
      clear HC hw5
      go_wp2_with fail
      go_roundw
      case rel => exact ⟨j + 1, by omega, by go_num, HN.out⟩
      case measure => simp [intOf]; omega
    · have hje : k = j := by omega
      subst hje
      have HP : Hid (WaysPost w a b m L (.returned (.tuple #[.slice (some ⟨g, 0, none⟩) k k, .nilIface])) wr) := by
        obtain ⟨⟨vs, PS, rj, M, hl, hwr, hwf, _, _, _⟩, hbut⟩ := HR.out
        obtain ⟨s1, s2, s3, s4, s5, s6⟩ := HSB.out
        have hgs := HGS.out
        refine ⟨k, g, vs, PS, rfl, HV.out.1, hl, hwr, by rw [HV.out.2]; exact hwf, s6.trans ⟨hbut.os, hbut.tape, hbut.output, hbut.size, fun i hi => hbut.block i (Nat.lt_of_lt_of_le hi s6.size) (by omega)⟩, by have := s6.size; omega⟩
      clear HR HU
      go_wp2_with fail
      go_ret2
      exact HP.out

end Go.Proofs.YtpkdpddillebfaaDoor.S
