/- The contract of the document's own Bridges. -/
import Derived.Test.YtigodbamphejmaaGreatDoorD1
import Derived.Test.YtigodbamphejmaaGreatDoorGYd
import Derived.Test.YtigodbamphejmaaGreatDoorGYe
import Derived.Test.YtigodbamphejmaaGreatDoorS1
namespace Go.Proofs.YtigodbamphejmaaGreatDoor.S
open Go.RowKit Go.WideMaps Go.Maps

theorem rest_eq (R : List (Int × Int × Int)) (e : Int × Int × Int) (Fn : Nat → Int) : R.filter (G.stays (fun _ => e.1) Fn 1 0) = rest R e := by
  unfold rest
  refine List.filter_congr (fun d _ => ?_)
  have h1 : G.among (fun _ => e.1) 1 d.1 = decide (e.1 = d.1) := by
    simp only [G.among, List.range_succ, List.range_zero, List.nil_append, List.any_cons, List.any_nil, Bool.or_false]
    exact Bool.eq_iff_iff.2 (by simp)
  have h2 : ∀ x, G.among Fn 0 x = false := fun x => by simp [G.among]
  unfold G.stays
  rw [h1, h2, h2]
  by_cases h : d.1 = e.1
  · simp [h]
  · simp [h, Ne.symm h]

theorem inn_rest {n : Nat} {R : List (Int × Int × Int)} (h : Inn n R) (e : Int × Int × Int) : Inn n (rest R e) := fun d hd => h d (List.mem_filter.1 hd).1
theorem rest_len (R : List (Int × Int × Int)) (e : Int × Int × Int) : (rest R e).length ≤ R.length := List.length_filter_le _ _

theorem ids_step {R B : List (Int × Int × Int)} {j : Nat} {e : Int × Int × Int} (hj : R[j]? = some e) : idsOf (R.take (j + 1)) B = idsOf (R.take j) B ++ if e ∈ B then [e.1] else [] := by
  unfold idsOf
  rw [List.take_add_one, hj]
  simp only [Option.toList_some, List.filter_append, List.map_append]
  by_cases h : e ∈ B <;> simp [h]

theorem ids_len (R B : List (Int × Int × Int)) : (idsOf R B).length ≤ R.length := by
  unfold idsOf
  rw [List.length_map]; exact List.length_filter_le _ _

/-- Without one edge, and the labels of what is left. -/
theorem one_id (w : World) (x : Int) : G.Ints (w.alloc (.cells #[.int .i64 x] 3)) (some ⟨w.heap.size, 0, none⟩) 1 (fun _ => x) :=
  ⟨fun _ => ⟨w.heap.size, 0, rfl, fun t ht => by
    have : t = 0 := by omega
    subst this; simp⟩⟩
theorem no_id (w : World) : G.Ints w none 0 (fun _ => 0) := ⟨fun h => by omega⟩

set_option maxHeartbeats 4000000 in
set_option maxRecDepth 100000 in
theorem bridges_doc {Bs : List (Int × Int × Int)} (n B q : Nat) (u : Value) (R L : List (Int × Int × Int)) (w : World) (h : G.GAt w B 33 55 q (n : Int) u R) (hi : G.Inv R L) (hl : L.length ≤ 120) (hn : n ≤ 40) (hin : Inn n L) (hbr : ∀ e ∈ L, (e ∈ Bs ↔ ¬ cnR (rest R e) (ea e) (eb e))) :
    Calls Tryz.prog 10 #[.pointer (some ⟨q, 0, none⟩)] w fun e w' => ∃ v, e = .returned v ∧ w'.ownsRow w.heap.size 3 1 v (idsOf L Bs).length ((idsOf L Bs).map (Value.int .i64)) ∧ Below w.heap.size w w' := by
  have HG : Hid (G.GAt w B 33 55 q (n : Int) u R) := h
  have HS : Hid (∀ e ∈ L, (e ∈ Bs ↔ ¬ cnR (rest R e) (ea e) (eb e))) := hbr
  have HIN : Hid (Inn n L) := hin
  have HINR : Hid (Inn n R) := fun e he => hin e (hi.perm.mem_iff.1 he)
  have HI : Hid (G.Inv R L) := hi
  have hRL : R.length = L.length := hi.perm.length_eq
  obtain ⟨i0, hi0, hz0, hz1, hz2⟩ := info_parts Tryz.info3
  clear h hin hbr hi
  go_enter Tryz.func10, Tryz.ntmps10
  go_wp2_with fail
  refine (G.sorted_any B q (n : Int) u R L w HG.out HI.out).mono ?_
  rintro e w1 ⟨v, rfl, ho, hb1⟩
  obtain ⟨m, hm⟩ : ∃ m, m = L.length := ⟨_, rfl⟩
  have HM : Hid (m = L.length) := hm
  have HMR : Hid (m = R.length) := hm.trans hRL.symm
  obtain ⟨va, vc, hv⟩ := ho.slice_len
  rw [← hm] at hv hl
  have HV : Hid (v = .slice va m vc) := hv
  have HO : Hid (G.Owns w1 w.heap.size 55 v L) := ho
  have HB1 : Hid (Below w.heap.size w w1) := hb1
  subst hv
  clear hm ho hb1 hRL
  go_wp2_with fail
  go_loopw [3, 10] (fun s3 s10 wq => ∃ j : Nat, j ≤ m ∧ s10 = .int .i64 j ∧ wq.ownsRow w1.heap.size 3 1 s3 (idsOf (L.take j) Bs).length ((idsOf (L.take j) Bs).map (Value.int .i64)) ∧ Below w1.heap.size w1 wq) (fun _ s10 _ => m - (intOf s10).toNat)
  case atStart => exact ⟨0, Nat.zero_le _, rfl, World.ownsRow_nil _ _ _ _, Below.refl _ _⟩
  case round =>
    obtain ⟨j, hj, rfl, hrow, hb⟩ := hrel
    by_cases hlt : j < m
    · obtain ⟨⟨x0, x1, x2⟩, hx⟩ : ∃ e, L[j]? = some e := ⟨_, List.getElem?_eq_getElem (by rw [← HM.out]; exact hlt)⟩
      have heR := List.mem_of_getElem? hx
      obtain ⟨hA, hE, h1, h2⟩ := HIN.out _ heR
      obtain ⟨g, hva⟩ : ∃ g, va = some ⟨g, 0, none⟩ := by
        rcases HO.out.shape with ⟨_, e⟩ | ⟨g, cap, e, _⟩
        · rw [e] at hx; simp at hx
        · injection e with e1 _ _
          exact ⟨g, e1⟩
      subst hva
      obtain ⟨r0, r1, r2⟩ := (HO.out.below hb).at (g := g) rfl hx
      have HST : Hid (idsOf (L.take (j + 1)) Bs = idsOf (L.take j) Bs ++ if (x0, x1, x2) ∈ Bs then [x0] else []) := ids_step hx
      have HBR : Hid ((x0, x1, x2) ∈ Bs ↔ ¬ cnR (rest R (x0, x1, x2)) (ea (x0, x1, x2)) (eb (x0, x1, x2))) := HS.out _ heR
      simp only at h1 h2 r0 r1 r2
      generalize hAe : ea (x0, x1, x2) = A at *
      generalize hEe : eb (x0, x1, x2) = E at *
      clear hAe hEe
      subst h1 h2
      have HROW : Hid (wr.ownsRow w1.heap.size 3 1 u3 (idsOf (L.take j) Bs).length ((idsOf (L.take j) Bs).map (Value.int .i64))) := hrow
      have HLEN : Hid ((idsOf (L.take j) Bs).length ≤ m) := by
        have h1 := ids_len (L.take j) Bs
        have h2 : (L.take j).length ≤ j := by simp; omega
        show (idsOf (L.take j) Bs).length ≤ m
        omega
      have HB : Hid (Below w1.heap.size w1 wr) := hb
      have hbs := hb.size
      clear hrow hb hx
      -- the edge's box, and its number's
      obtain ⟨W1, hW1⟩ : ∃ W1, W1 = wr.alloc (.cells #[.int .i64 x0, .int .i64 (A : Int), .int .i64 (E : Int)] 55) := ⟨_, rfl⟩
      have hh : W1.heap[wr.heap.size]? = some (.cells #[.int .i64 x0, .int .i64 (A : Int), .int .i64 (E : Int)] 55) := by rw [hW1]; exact heap_alloc_new wr _
      have HBX : Hid (W1.heap[wr.heap.size]? = some (.cells #[.int .i64 x0, .int .i64 (A : Int), .int .i64 (E : Int)] 55)) := hh
      have p0 : W1.cell? ⟨wr.heap.size, 0, none⟩ = some (.int .i64 x0) := by simp [World.cell?, hh]
      have HBW : Hid (Below w1.heap.size w1 W1) := by
        show Below w1.heap.size w1 W1
        rw [hW1]; exact HB.out.alloc hbs _
      have HRW : Hid (W1.ownsRow w1.heap.size 3 1 u3 (idsOf (L.take j) Bs).length ((idsOf (L.take j) Bs).map (Value.int .i64))) := by
        show W1.ownsRow _ _ _ _ _ _
        rw [hW1]; exact HROW.out.alloc _
      have HW1 : Hid (wr.alloc (.cells #[.int .i64 x0, .int .i64 (A : Int), .int .i64 (E : Int)] 55) = W1) := hW1.symm
      have hW1s : wr.heap.size < W1.heap.size := lt_of_some hh
      have hsz : W1.heap.size = wr.heap.size + 1 := by rw [hW1]; simp
      clear hh hW1 HROW HB
      have HWO : Hid (Calls Tryz.prog 46 #[.pointer (some ⟨q, 0, none⟩), .slice (some ⟨wr.heap.size + 1, 0, none⟩) 1 1, .slice none 0 0] (W1.alloc (.cells #[.int .i64 x0] 3)) fun e w' => ∃ q' v', e = .returned (.pointer (some ⟨q', 0, none⟩)) ∧ G.GAt w' W1.heap.size 33 55 q' (n : Int) v' (rest R (x0, (A : Int), (E : Int))) ∧ Below W1.heap.size W1 w') := by
        have hg := (HG.out.below HB1.out).below HBW.out
        have hb2 : Below W1.heap.size W1 (W1.alloc (.cells #[.int .i64 x0] 3)) := (Below.refl _ _).alloc (Nat.le_refl _) _
        have h1i := one_id W1 x0
        rw [hsz] at h1i
        refine (G.rwithout_any (n : Int) B q u R _ none 1 0 1 0 (fun _ => x0) (fun _ => 0) _ (hg.below hb2) (by rw [← HMR.out]; omega) h1i (no_id _) (by omega) (by omega)).mono ?_
        rintro e w' ⟨q', v', rfl, hg', hb'⟩
        rw [rest_eq R (x0, (A : Int), (E : Int))] at hg'
        refine ⟨q', v', rfl, ⟨hg'.hp, hg'.row.mono (by simp), hg'.ne⟩, hb2.trans (hb'.mono (by simp))⟩
      go_wp2_with fail
      rw [HW1.out]
      refine Calls.mono HWO.out ?_
      rintro e' w2 ⟨q', v', rfl, hg2, hb2⟩
      have HG2 : Hid (G.GAt w2 W1.heap.size 33 55 q' (n : Int) v' (rest R (x0, (A : Int), (E : Int))) ∧ Below W1.heap.size W1 w2) := ⟨hg2, hb2⟩
      clear hg2 hb2 HWO p0
      go_wp2_with fail
      refine (labels_any n W1.heap.size q' v' (rest R (x0, (A : Int), (E : Int))) w2 HG2.out.1 (Nat.le_trans (rest_len _ _) (by rw [← HMR.out]; exact hl)) hn (inn_rest HINR.out _)).mono ?_
      rintro e' w3 ⟨b, l, rfl, hr, hbb, hll, hlab, hb3⟩
      have hW3 : Below W1.heap.size W1 w3 := HG2.out.2.trans (hb3.mono HG2.out.2.size)
      have HB3 : Hid (Below w1.heap.size w1 w3) := HBW.out.trans (hW3.mono HBW.out.size)
      have HR3 : Hid (w3.ownsRow w1.heap.size 3 1 u3 (idsOf (L.take j) Bs).length ((idsOf (L.take j) Bs).map (Value.int .i64))) := HRW.out.kept (grown_below hW3) (by cases u3.ownBlock <;> simp)
      have hh3 : w3.heap[wr.heap.size]? = some (.cells #[.int .i64 x0, .int .i64 (A : Int), .int .i64 (E : Int)] 55) := (hW3.block _ hW1s).trans HBX.out
      have c0 : w3.cell? ⟨wr.heap.size, 0, none⟩ = some (.int .i64 x0) := by simp [World.cell?, hh3]
      have c1 : w3.cell? ⟨wr.heap.size, 1, none⟩ = some (.int .i64 (A : Int)) := by simp [World.cell?, hh3]
      have c2 : w3.cell? ⟨wr.heap.size, 2, none⟩ = some (.int .i64 (E : Int)) := by simp [World.cell?, hh3]
      have cA := hr.cell A (by omega)
      have cE := hr.cell E (by omega)
      have HXY : Hid ((x0, (A : Int), (E : Int)) ∈ Bs ↔ l.getD A 0 ≠ l.getD E 0) := by
        show _ ∈ Bs ↔ _
        rw [HBR.out, Ne, hlab A E hA hE]
      clear hr hbb hlab hb3 hW3 hh3 HBX HBW HRW HG2 HBR hW1s r0 r1 r2
      generalize l.getD A 0 = X at *
      generalize l.getD E 0 = Y at *
      by_cases hxy : X = Y
      · as_aux_lemma =>
        subst hxy
        have HF : Hid (w3.ownsRow w1.heap.size 3 1 u3 (idsOf (L.take (j + 1)) Bs).length ((idsOf (L.take (j + 1)) Bs).map (Value.int .i64))) := by
          show w3.ownsRow _ _ _ _ _ _
          rw [HST.out, if_neg (fun k => (HXY.out.1 k) rfl), List.append_nil]; exact HR3.out
        clear HST HXY HR3
        go_wp2_with fail
        go_quiet (fail)
        clear c0 c1 c2 cA cE
        go_wp2_with fail
        go_roundw
        case rel => exact ⟨j + 1, by omega, by go_num, HF.out, below_drewN HB3.out nq⟩
        case measure => simp [intOf]; omega
      · as_aux_lemma =>
        have HST' : Hid (idsOf (L.take (j + 1)) Bs = idsOf (L.take j) Bs ++ [x0]) := by
          show idsOf (L.take (j + 1)) Bs = _
          rw [HST.out, if_pos (HXY.out.2 hxy)]
        have hq : ((X : Int) == (Y : Int)) = false := beq_eq_false_iff_ne.2 (by omega)
        have hlen := HLEN.out
        clear HST HXY
        generalize idsOf (L.take j) Bs = K at *
        go_wp2_with fail
        go_quiet (fail)
        have d0 : (w3.drewN nq).cell? ⟨wr.heap.size, 0, none⟩ = some (.int .i64 x0) := c0
        have HD : Hid ((w3.drewN nq).ownsRow w1.heap.size 3 1 u3 K.length (K.map (Value.int .i64)) ∧ Below w1.heap.size w1 (w3.drewN nq)) := ⟨HR3.out, below_drewN HB3.out nq⟩
        clear c0 c1 c2 cA cE HR3 HB3
        generalize w3.drewN nq = V at *
        have hrow := HD.out.1
        have hVs := HD.out.2.size
        have HLT := hrow.lt
        go_wp2_with (first
          | (at_builtin; refine wpList_append_own_at _ rfl _ _ 39 rfl w1.heap.size 3 i0 (.int .i64 0) 1 8 Tryz.underlying39 hi0 hz0 hz1 hz2 rfl (by decide) u3 _ _ rfl (hrow.alloc _) ⟨V.heap.size, 0, none⟩ 1 1 [.int .i64 x0] rfl rfl (cell_one_new _ _ _) (ints_oneCell .i64 [x0]) (by unfold maxLen; omega) (by omega) (by simp; omega) ?_; intro v'' w4 hown' hgrow hnil hloc)
          | fail)
        have HF : Hid (w4.ownsRow w1.heap.size 3 1 v'' (idsOf (L.take (j + 1)) Bs).length ((idsOf (L.take (j + 1)) Bs).map (Value.int .i64))) := by
          show w4.ownsRow _ _ _ _ _ _
          rw [HST'.out]
          simpa using hown'
        go_roundw
        case rel => exact ⟨j + 1, by omega, by go_num, HF.out, HD.out.2.grown ((World.grownBy_alloc V _ _).trans hgrow) hVs (fun j hj => (HLT j hj).1)⟩
        case measure => simp [intOf]; omega
    · have hje : j = m := by omega
      subst hje
      have HF : Hid (wr.ownsRow w.heap.size 3 1 u3 (idsOf L Bs).length ((idsOf L Bs).map (Value.int .i64)) ∧ Below w.heap.size w wr) := by
        have ht : L.take j = L := List.take_of_length_le (by rw [← HM.out]; omega)
        rw [ht] at hrow
        exact ⟨ownsRow_base_a hrow HB1.out.size, HB1.out.trans (hb.mono HB1.out.size)⟩
      clear hrow hb
      go_wp2_with fail
      go_ret
      exact ⟨_, rfl, HF.out⟩

end Go.Proofs.YtigodbamphejmaaGreatDoor.S
namespace Go.Proofs.YtigodbamphejmaaGreatDoor.S
open Go.RowKit Go.WideMaps Go.Maps

/-- Rows of labels, in a row that a box holds. -/
structure AllL (w : World) (base cw n : Nat) (v : Value) (P : List (Nat × List Nat)) : Prop where
  own : w.ownsRow base 39 1 v P.length (P.map fun p => .slice (some ⟨p.1, 0, none⟩) n n)
  rows : ∀ p ∈ P, RowL w p.1 p.2 ∧ p.2.length = n
  box : w.heap[cw]? = some (.cells #[v] 42)

theorem AllL.below {w w' : World} {base cw n : Nat} {v : Value} {P : List (Nat × List Nat)} (h : AllL w base cw n v P) (hb : Below w.heap.size w w') : AllL w' base cw n v P :=
  ⟨h.own.kept (grown_below hb) (by cases v.ownBlock <;> simp), fun p hp => ⟨(h.rows p hp).1.below hb (h.rows p hp).1.lt, (h.rows p hp).2⟩, (hb.block cw (lt_of_some h.box)).trans h.box⟩

theorem AllL.shape {w : World} {base cw n : Nat} {v : Value} {P : List (Nat × List Nat)} (h : AllL w base cw n v P) (hp : 0 < P.length) : ∃ g cap, v = .slice (some ⟨g, 0, none⟩) P.length cap ∧ ∀ i p, P[i]? = some p → w.cell? ⟨g, i, none⟩ = some (.slice (some ⟨p.1, 0, none⟩) n n) := by
  have h0 := h.own
  rcases h.own.2 with ⟨_, hz⟩ | ⟨g, cap, cur, rfl, _⟩
  · omega
  · refine ⟨g, cap, rfl, fun i p hi => ?_⟩
    rw [h0.cellAt i (by have := (List.getElem?_eq_some_iff.1 hi).1; omega)]
    simp [hi]

/-- The block that a row of rows lies in. -/
theorem own_block {w : World} {base : Nat} {v : Value} {k : Nat} {xs : List Value} (h : w.ownsRow base 39 1 v k xs) {g : Nat} (hg : v.ownBlock = some g) : ∃ cur, w.heap[g]? = some (.cells cur 39) := by
  rcases h.2 with ⟨rfl, _⟩ | ⟨g', cap, cur, rfl, _, hc, _⟩
  · simp [Value.ownBlock] at hg
  · simp [Value.ownBlock] at hg
    subst hg
    exact ⟨_, hc⟩

theorem AllL.push {w w4 : World} {base cw n b : Nat} {v v' : Value} {P : List (Nat × List Nat)} {l : List Nat} {o : Obj} (h : AllL w base cw n v P) (hr : RowL w b l) (hl : l.length = n) (hown : w4.ownsRow base 39 1 v' (P.length + 1) ((P.map fun p => .slice (some ⟨p.1, 0, none⟩) n n) ++ [.slice (some ⟨b, 0, none⟩) n n]))
    (hg : (w.alloc o).grownBy w4 v.ownBlock) : AllL (w4.setCell ⟨cw, 0, none⟩ v') base cw n v' (P ++ [(b, l)]) ∧ w4.cell? ⟨cw, 0, none⟩ = some v ∧ w4.frozen? ⟨cw, 0, none⟩ = false := by
  have hne : ∀ k, k < w.heap.size → (∀ cur, w.heap[k]? ≠ some (.cells cur 39)) → w4.heap[k]? = w.heap[k]? := by
    intro k hk hn
    have h1 : (w.alloc o).heap[k]? = w.heap[k]? := Below.heap_alloc w o k hk
    rw [hg.block k (by simp; omega) (fun e => ?_), h1]
    obtain ⟨cur, hc⟩ := own_block h.own e.symm
    exact hn cur hc
  have hbox : w4.heap[cw]? = some (.cells #[v] 42) := (hne cw (lt_of_some h.box) (fun cur => by rw [h.box]; simp)).trans h.box
  have hrow : ∀ p ∈ P ++ [(b, l)], RowL w4 p.1 p.2 ∧ p.2.length = n := by
    intro p hp
    have h1 : RowL w p.1 p.2 ∧ p.2.length = n := by
      rcases List.mem_append.1 hp with hp | hp
      · exact h.rows p hp
      · rw [List.mem_singleton.1 hp]; exact ⟨hr, hl⟩
    exact ⟨(hne p.1 h1.1.lt (fun cur => by rw [h1.1]; simp)).trans h1.1, h1.2⟩
  refine ⟨⟨?_, ?_, ?_⟩, by simp [World.cell?, hbox], by simp [World.frozen?, hbox]⟩
  · have hv : v'.ownBlock ≠ some cw := by
      intro e
      obtain ⟨cur, hc⟩ := own_block hown e
      rw [hbox] at hc; simp at hc
    have e1 : (P ++ [(b, l)]).length = P.length + 1 := by simp
    have e2 : ((P ++ [(b, l)]).map fun p => Value.slice (some ⟨p.1, 0, none⟩) n n) = (P.map fun p => .slice (some ⟨p.1, 0, none⟩) n n) ++ [.slice (some ⟨b, 0, none⟩) n n] := by simp
    rw [e1, e2]
    refine hown.kept (row := some cw) ⟨rfl, rfl, rfl, by simp, fun i _ hi => Below.heap_setCell _ _ _ _ (fun e => hi (by rw [e]))⟩ ?_
    exact Or.inr hv
  · intro p hp
    refine ⟨?_, (hrow p hp).2⟩
    show (w4.setCell ⟨cw, 0, none⟩ v').heap[p.1]? = _
    rw [Below.heap_setCell _ _ _ _ (fun e => ?_)]
    · exact (hrow p hp).1
    · have := (hrow p hp).1
      unfold RowL at this
      have e' : p.1 = cw := e
      rw [e', hbox] at this
      simp at this
  · simp [World.setCell, Array.getElem?_modify, hbox]

set_option maxHeartbeats 1000000 in
set_option maxRecDepth 100000 in
theorem thrice1 (x y cw n base : Nat) (v : Value) (P : List (Nat × List Nat)) (s : Bool) (w : World) (h : AllL w base cw n v P) (hp : 0 < P.length) (hpl : P.length ≤ 1000) (hx : x < n) (hy : y < n) (hs : s = true ↔ ∀ p ∈ P, p.2.getD x 0 = p.2.getD y 0) :
    Calls Tryz.prog 76 #[.int .i64 (x : Int), .int .i64 (y : Int), .pointer (some ⟨cw, 0, none⟩)] w fun e w' => e = .returned (.bool s) ∧ ∃ n, w' = w.drewN n := by
  have HH : Hid (AllL w base cw n v P) := h
  obtain ⟨g, cap, rfl, hcells⟩ := h.shape hp
  have HC : Hid (∀ i p, P[i]? = some p → w.cell? ⟨g, i, none⟩ = some (.slice (some ⟨p.1, 0, none⟩) n n)) := hcells
  have hbox : w.cell? ⟨cw, 0, none⟩ = some (.slice (some ⟨g, 0, none⟩) P.length cap) := by simp [World.cell?, h.box]
  have HS : Hid (s = true ↔ ∀ p ∈ P, p.2.getD x 0 = p.2.getD y 0) := hs
  obtain ⟨m, hm⟩ : ∃ m, P.length = m := ⟨_, rfl⟩
  have HM : Hid (P.length = m) := hm
  rw [hm] at hbox hpl
  clear h hcells hs hm hp
  go_enter Tryz.func76, Tryz.ntmps76
  go_wp2_with fail
  go_loopw [7, 10] (fun _ s10 wq => ∃ j : Nat, j ≤ m ∧ s10 = .int .i64 j ∧ (∀ i p, i < j → P[i]? = some p → p.2.getD x 0 = p.2.getD y 0) ∧ ∃ q, wq = w.drewN q) (fun _ s10 _ => m - (intOf s10).toNat)
  case atStart => exact ⟨0, Nat.zero_le _, rfl, fun i p hi => by omega, 0, rfl⟩
  case round =>
    obtain ⟨j, hj, rfl, hall, q, hq0⟩ := hrel
    have HQ : Hid (wr = w.drewN q) := hq0
    clear hq0
    have HALL : Hid (∀ i p, i < j → P[i]? = some p → p.2.getD x 0 = p.2.getD y 0) := hall
    clear hall
    by_cases hlt : j < m
    · obtain ⟨⟨b, l⟩, hpj⟩ : ∃ p, P[j]? = some p := ⟨_, List.getElem?_eq_getElem (by rw [HM.out]; exact hlt)⟩
      have HPJ : Hid (P[j]? = some (b, l)) := hpj
      have hrow := HH.out.rows _ (List.mem_of_getElem? hpj)
      have c0 : wr.cell? ⟨g, j, none⟩ = some (.slice (some ⟨b, 0, none⟩) n n) := by rw [HQ.out]; exact HC.out j (b, l) hpj
      have cx : wr.cell? ⟨b, x, none⟩ = some (.int .i64 ((l.getD x 0 : Nat) : Int)) := by rw [HQ.out]; exact hrow.1.cell x (by rw [hrow.2]; exact hx)
      have cy : wr.cell? ⟨b, y, none⟩ = some (.int .i64 ((l.getD y 0 : Nat) : Int)) := by rw [HQ.out]; exact hrow.1.cell y (by rw [hrow.2]; exact hy)
      obtain ⟨X, hX⟩ : ∃ X, l.getD x 0 = X := ⟨_, rfl⟩
      obtain ⟨Y, hY⟩ : ∃ Y, l.getD y 0 = Y := ⟨_, rfl⟩
      rw [hX] at cx
      rw [hY] at cy
      have HXY : Hid (l.getD x 0 = X ∧ l.getD y 0 = Y) := ⟨hX, hY⟩
      clear hX hY hpj hrow hbox
      by_cases hxy : X = Y
      · subst hxy
        go_wp2_with fail
        go_quiet (fail)
        clear c0 cx cy
        go_wp2_with fail
        go_roundw
        case rel =>
          refine ⟨j + 1, by omega, by go_num, fun i p hi hpi => ?_, q + nq, by rw [HQ.out, drewN_drewN]⟩
          by_cases hij : i = j
          · subst hij
            rw [HPJ.out] at hpi
            injection hpi with hpi
            rw [← hpi, HXY.out.1, HXY.out.2]
          · exact HALL.out i p (by omega) hpi
        case measure => simp [intOf]; omega
      · have hq : ((X : Int) == (Y : Int)) = false := beq_eq_false_iff_ne.2 (by omega)
        have HF : Hid (s = false) := by
          show s = false
          cases s with
          | false => rfl
          | true =>
            have := HS.out.1 rfl (b, l) (List.mem_of_getElem? HPJ.out)
            rw [HXY.out.1, HXY.out.2] at this
            exact absurd this hxy
        go_wp2_with fail
        go_quiet (fail)
        clear c0 cx cy
        go_wp2_with fail
        go_ret
        exact ⟨by rw [HF.out]; rfl, q + nq, by rw [HQ.out, drewN_drewN]⟩
    · have hje : j = m := by omega
      subst hje
      have HF : Hid (s = true) := HS.out.2 (fun p hp => by
        obtain ⟨i, hi, hpi⟩ := List.mem_iff_getElem.1 hp
        exact HALL.out i p (by rw [← HM.out]; exact hi) (by rw [List.getElem?_eq_getElem hi, hpi]))
      go_wp2_with fail
      go_ret
      exact ⟨by rw [HF.out]; rfl, q, HQ.out⟩

end Go.Proofs.YtigodbamphejmaaGreatDoor.S
namespace Go.Proofs.YtigodbamphejmaaGreatDoor.S
open Go.RowKit Go.WideMaps Go.Maps

set_option maxHeartbeats 1000000 in
set_option maxRecDepth 100000 in
theorem parts_any76 (n cw : Nat) (L : List Nat) (w : World) (hal : Alike 76 w n cw L) (hgd : Good n L) (hn : n ≤ 40) :
    Calls Tryz.prog 50 #[.int .i64 (n : Int), .func (.func 76) #[] #[.pointer (some ⟨cw, 0, none⟩)]] w fun e w' => ∃ t r c, e = .returned t ∧ POut w' w.heap.size t (grps L n) r c ∧ Below w.heap.size w w' := by
  obtain ⟨i0, hi0, hz0, hz1, hz2⟩ := info_parts Tryz.info3
  obtain ⟨j0, hj0, hy0, hy1, hy2⟩ := info_parts Tryz.info39
  have HAL : Hid (Alike 76 w n cw L) := hal
  have HG : Hid (Good n L) := hgd
  clear hal hgd
  go_enter Tryz.func50, Tryz.ntmps50
  go_wp2_with fail
  go_loopw [5, 6, 7, 8, 9, 11] (fun s5 _ _ _ _ s11 wq => ∃ x : Nat, x ≤ n ∧ s11 = .int .i64 x ∧ (∃ r c, POut wq w.heap.size s5 (pgr L x) r c) ∧ Below w.heap.size w wq) (fun _ _ _ _ _ s11 _ => n - (intOf s11).toNat)
  case atStart => exact ⟨0, Nat.zero_le _, rfl, ⟨fun _ => 0, fun _ => 0, pout_start _ _ _ _⟩, Below.refl _ _⟩
  case round =>
    obtain ⟨x, hx, rfl, ⟨r, c, hP⟩, hbx⟩ := hrel
    by_cases hlt : x < n
    · obtain ⟨a, cap, rfl, ha⟩ := hP.shape
      have hml : (pgr L x).length ≤ 40 := by
        have := List.length_filter_le (fun y => L.getD y 0 == y) (List.range x)
        rw [List.length_range] at this
        rw [pgr_length]; unfold lst; omega
      have HP : Hid (POut wr w.heap.size (.slice a (pgr L x).length cap) (pgr L x) r c) := hP
      have HA : Hid (0 < (pgr L x).length → ∃ g, a = some ⟨g, 0, none⟩) := ha
      have HM : Hid ((pgr L x).length = (lst L x).length) := pgr_length L x
      have HBX : Hid (Below w.heap.size w wr) := hbx
      generalize hm : (pgr L x).length = m at *
      have HML : Hid ((pgr L x).length = m) := hm
      clear hP ha hbx hm
      rename World => wo
      go_wp2_with fail
      go_loopw [7, 8, 9, 16] (fun s7 _ _ s16 wq => ∃ i : Nat, i ≤ m ∧ s16 = .int .i64 i ∧ s7 = .int .i64 (-1) ∧ (∀ j, j < i → (lst L x).getD j 0 ≠ L.getD x 0) ∧ ∃ q, wq = wo.drewN q) (fun _ _ _ s16 _ => m - (intOf s16).toNat)
      case atStart => exact ⟨0, Nat.zero_le _, rfl, rfl, fun j hj => absurd hj (by omega), 0, rfl⟩
      case round =>
        obtain ⟨i, him, rfl, rfl, hno, q, hq⟩ := hrel
        have hPq := pout_drewN HP.out q
        have hBq := below_drewN HBX.out q
        rw [← hq] at hPq hBq
        have HQ : Hid (wr = wo.drewN q) := hq
        clear hq
        have HPQ : Hid (POut wr w.heap.size (.slice a m cap) (pgr L x) r c) := hPq
        have HBQ : Hid (Below w.heap.size w wr) := hBq
        have HNO : Hid (∀ j, j < i → (lst L x).getD j 0 ≠ L.getD x 0) := hno
        clear hPq hBq hno
        by_cases hil : i < m
        · obtain ⟨g, hag⟩ := HA.out (by omega)
          subst hag
          have hil' : i < (pgr L x).length := by rw [HML.out]; exact hil
          have hil2 : i < (lst L x).length := by rw [← pgr_length]; exact hil'
          obtain ⟨hyx, hyy⟩ := lst_at hil2
          have hGi := pgr_at L x i hil2
          have hhd := grp_head' HG.out hx hyx hyy
          have hps := grp_pos hyx hyy
          rw [← hGi] at hhd hps
          have c1 := HPQ.out.outcell HML.out.symm i hil'
          have c2 := HPQ.out.head i hil' hps
          rw [hhd] at c2
          have HGi : Hid ((pgr L x).getD i [] = grp L x ((lst L x).getD i 0)) := hGi
          have hLl := HG.out.len
          have HYL : Hid (L.getD ((lst L x).getD i 0) 0 = (lst L x).getD i 0) := hyy
          generalize hyd : (lst L x).getD i 0 = y at *
          have HYD : Hid ((lst L x).getD i 0 = y) := hyd
          clear hGi hhd hyy hyd hLl
          generalize hgl : ((pgr L x).getD i []).length = gl at *
          have HGL : Hid (((pgr L x).getD i []).length = gl) := hgl
          have hgp : (0 : Int) < (gl : Int) := by omega
          clear hgl hps
          go_wp2_with fail
          by_cases he : y = L.getD x 0
          · have hv : (((L.getD y 0 : Nat) : Int) == ((L.getD x 0 : Nat) : Int)) = true := by rw [HYL.out, ← he]; simp
            refine (HAL.out _ HBQ.out y x true (by omega) hlt hv).mono ?_
            rintro e w' ⟨rfl, q', hq'⟩
            have HPV : Hid (POut w' w.heap.size (.slice (some ⟨g, 0, none⟩) m cap) (pgr L x) r c) := by rw [hq']; exact pout_drewN HPQ.out q'
            have HBV : Hid (Below w.heap.size w w') := by rw [hq']; exact below_drewN HBQ.out q'
            have c1' : w'.cell? ⟨g, i, none⟩ = some (.slice (some ⟨r i, 0, none⟩) gl (c i)) := by rw [hq']; exact c1
            have hoi := HPV.out.each i hil'
            rw [HGL.out] at hoi
            have hle : (ints ((pgr L x).getD i [])).length ≤ 40 := by
              rw [ints_length, HGi.out, grp_length]
              have := cnt_le (fun i => L.getD i 0 == y) x
              omega
            have hws := HBV.out.size
            have HE : Hid (y = L.getD x 0) := he
            clear hv hq' c1 c2 he
            go_wp2_with (first
              | (at_builtin; refine wpList_append_own_at _ rfl _ _ 39 rfl w.heap.size 3 i0 (.int .i64 0) 1 8 Tryz.underlying39 hi0 hz0 hz1 hz2 rfl (by decide) (.slice (some ⟨r i, 0, none⟩) gl (c i)) _ _ rfl (hoi.1.alloc _) ⟨w'.heap.size, 0, none⟩ 1 1 [.int .i64 x] rfl rfl (cell_one_new _ _ _) (ints_oneCell .i64 [(x : Int)]) (by unfold maxLen; omega) (by omega) (by simp; omega) ?_; intro v' w1 hown' hgrow hnil hloc; obtain ⟨⟨ρ, κ, hv'⟩, c3, f3⟩ := grow_facts HPV.out HML.out.symm hil' hown' hgrow; rw [HGL.out] at hv' c3; rw [hv'])
              | fail)
            have ho2 := hoi.appended hown' (WalkArith.wf_i64 (by omega))
            have hio : w.heap.size ≤ r i := (hoi.1.lt (r i) rfl).1
            have hgo : w.heap.size ≤ g := (HPV.out.own.lt g rfl).1
            rw [hv'] at ho2 hloc
            rw [← HGL.out] at ho2
            have hloc' : ρ = r i ∨ ρ = w'.heap.size + 1 := by simpa [Value.ownBlock] using hloc
            have ho3 : w1.ownsInts w.heap.size 3 .i64 (.slice (some ⟨ρ, 0, none⟩) (((pgr L x).getD i []).length + 1) κ) (ints ((pgr L x).getD i [] ++ [x])) := by
              rw [ints_append]; exact ho2
            have hgw := HPV.out.grow HML.out.symm hil' x _ ho3 hgrow hloc'
            rw [HGL.out] at hgw
            have hpf := pgr_found hil2 (HYD.out.trans HE.out)
            rw [HYD.out, ← HGi.out] at hpf
            rw [← hpf] at hgw
            have hbw : Below w.heap.size w (w1.setCell ⟨g, i, none⟩ (.slice (some ⟨ρ, 0, none⟩) (gl + 1) κ)) := (HBV.out.grown ((World.grownBy_alloc w' _ _).trans hgrow) hws (fun j hj => (hoi.1.lt j hj).1)).setCell hgo _
            go_roundw
            case rel => exact ⟨x + 1, by omega, by go_num, ⟨_, _, hgw⟩, hbw⟩
            case measure => simp [intOf]; omega
          · have hv : (((L.getD y 0 : Nat) : Int) == ((L.getD x 0 : Nat) : Int)) = false := by rw [HYL.out]; exact beq_eq_false_iff_ne.2 (by omega)
            refine (HAL.out _ HBQ.out y x false (by omega) hlt hv).mono ?_
            rintro e w' ⟨rfl, q', hq'⟩
            have HNE : Hid (y ≠ L.getD x 0) := he
            have HQ' : Hid (w' = wr.drewN q') := hq'
            clear hv hq' he
            go_wp2_with fail
            go_roundw
            case rel => exact ⟨i + 1, by omega, by go_num, rfl, fun j hj => if e : j = i then by rw [e, HYD.out]; exact HNE.out else HNO.out j (by omega), q + q', by rw [HQ'.out, HQ.out, drewN_drewN]⟩
            case measure => simp [intOf]; omega
        · have hie : i = m := by omega
          subst hie
          have howt := HPQ.out.own
          rw [HML.out] at howt
          have hws := HBQ.out.size
          go_wp2_with (first
            | (at_builtin; refine wpList_append_own_at _ rfl _ _ 42 rfl w.heap.size 39 j0 (.slice none 0 0) 1 24 Tryz.underlying42 hj0 hy0 hy1 hy2 rfl (by decide) (.slice a i cap) _ _ rfl ((howt.alloc _).alloc _) ⟨wr.heap.size + 1, 0, none⟩ 1 1 [.slice (some ⟨wr.heap.size, 0, none⟩) 1 1] rfl rfl (cell_second _ _ _ _) (one_slice _ _ _) (by unfold maxLen; omega) (by omega) (by simp; omega) ?_; intro v' w1 hown' hgrow hnil hloc)
            | fail)
          have hown2 : w1.ownsRow w.heap.size 39 1 v' ((pgr L x).length + 1) (rvals (pgr L x) r c ++ [.slice (some ⟨wr.heap.size, 0, none⟩) 1 1]) := by
            rw [HML.out]; exact hown'
          obtain ⟨r', c', hsn⟩ := HPQ.out.snoc hws x _ hown2 hgrow (by omega)
          rw [← pgr_none HG.out hlt (by rw [← HM.out]; exact HNO.out)] at hsn
          have hbw : Below w.heap.size w w1 := HBQ.out.grown (((World.grownBy_alloc wr _ _).trans (World.grownBy_alloc _ _ _)).trans hgrow) hws (fun j hj => (HPQ.out.own.lt j hj).1)
          go_roundw
          case rel => exact ⟨x + 1, by omega, by go_num, ⟨r', c', hsn⟩, hbw⟩
          case measure => simp [intOf]; omega
    · have hxe : x = n := by omega
      subst hxe
      have HP : Hid (∃ r c, POut wr w.heap.size u5 (grps L x) r c) := by
        rw [← pgr_all HG.out]; exact ⟨r, c, hP⟩
      have HBX : Hid (Below w.heap.size w wr) := hbx
      clear hP hbx
      go_wp2_with fail
      go_ret
      obtain ⟨r', c', hP'⟩ := HP.out
      exact ⟨_, r', c', rfl, hP', HBX.out⟩

end Go.Proofs.YtigodbamphejmaaGreatDoor.S
