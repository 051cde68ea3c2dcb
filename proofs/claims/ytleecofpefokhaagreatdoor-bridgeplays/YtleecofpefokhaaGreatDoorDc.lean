/- The contract of the document's own Bridges. -/
import Derived.Test.YtleecofpefokhaaGreatDoorDb
namespace Go.Proofs.YtleecofpefokhaaGreatDoor.S
open Go.RowKit Go.WideMaps Go.Maps

theorem rest_eq (R : List (Int × Int × Int)) (e : Int × Int × Int) (Fn : Nat → Int) : R.filter (G.stays (fun _ => e.1) Fn 1 0) = rest R e := by
  unfold rest
  refine List.filter_congr (fun d _ => ?_)
  have h1 : G.among (fun _ => e.1) 1 d.1 = decide (e.1 = d.1) := by
    simp only [G.among, List.range_succ, List.range_zero, List.nil_append, List.any_cons, List.any_nil, Bool.or_false]
    exact Bool.eq_iff_iff.2 (by simp)
  have h2 : ∀ x, G.among Fn 0 x = false := fun x => by simp [G.among]
  unfold G.stays
  rw [h1, h2, h2]
  by_cases h : d.1 = e.1
  · simp [h]
  · simp [h, Ne.symm h]

theorem inn_rest {n : Nat} {R : List (Int × Int × Int)} (h : Inn n R) (e : Int × Int × Int) : Inn n (rest R e) := fun d hd => h d (List.mem_filter.1 hd).1
theorem rest_len (R : List (Int × Int × Int)) (e : Int × Int × Int) : (rest R e).length ≤ R.length := List.length_filter_le _ _

theorem ids_step {R B : List (Int × Int × Int)} {j : Nat} {e : Int × Int × Int} (hj : R[j]? = some e) : idsOf (R.take (j + 1)) B = idsOf (R.take j) B ++ if e ∈ B then [e.1] else [] := by
  unfold idsOf
  rw [List.take_add_one, hj]
  simp only [Option.toList_some, List.filter_append, List.map_append]
  by_cases h : e ∈ B <;> simp [h]

theorem ids_len (R B : List (Int × Int × Int)) : (idsOf R B).length ≤ R.length := by
  unfold idsOf
  rw [List.length_map]; exact List.length_filter_le _ _

/-- Without one edge, and the labels of what is left. -/
theorem one_id (w : World) (x : Int) : G.Ints (w.alloc (.cells #[.int .i64 x] 3)) (some ⟨w.heap.size, 0, none⟩) 1 (fun _ => x) :=
  ⟨fun _ => ⟨w.heap.size, 0, rfl, fun t ht => by
    have : t = 0 := by omega
    subst this; simp⟩⟩
theorem no_id (w : World) : G.Ints w none 0 (fun _ => 0) := ⟨fun h => by omega⟩

set_option maxHeartbeats 4000000 in
set_option maxRecDepth 100000 in
theorem bridges_doc {W T : List Nat} {Bs : List (Int × Int × Int)} (n B q : Nat) (u : Value) (R : List (Int × Int × Int)) (w : World) (h : G.GAt w B 33 58 q (n : Int) u R) (hup : R.Pairwise fun x y => x.1 < y.1) (hl : R.length ≤ 120) (hn : n ≤ 40) (s : St n R W T Bs) :
    Calls Tryz.prog 8 #[.pointer (some ⟨q, 0, none⟩)] w fun e w' => ∃ v, e = .returned v ∧ w'.ownsRow w.heap.size 3 1 v (idsOf R Bs).length ((idsOf R Bs).map (Value.int .i64)) ∧ Below w.heap.size w w' := by
  have HG : Hid (G.GAt w B 33 58 q (n : Int) u R) := h
  have HS : Hid (St n R W T Bs) := s
  have HIN : Hid (Inn n R) := fun e he => ⟨(s.inn e he).1, (s.inn e he).2, (s.nat e he).1, (s.nat e he).2⟩
  have HI : Hid (G.Inv R R) := ⟨hup, List.Perm.refl _, hl⟩
  obtain ⟨i0, hi0, hz0, hz1, hz2⟩ := info_parts Tryz.info3
  clear h s hup
  go_enter Tryz.func8, Tryz.ntmps8
  go_wp2_with fail
  refine (G.sorted_any B q (n : Int) u R R w HG.out HI.out).mono ?_
  rintro e w1 ⟨v, rfl, ho, hb1⟩
  obtain ⟨m, hm⟩ : ∃ m, m = R.length := ⟨_, rfl⟩
  have HM : Hid (m = R.length) := hm
  obtain ⟨va, vc, hv⟩ := ho.slice_len
  rw [← hm] at hv hl
  have HV : Hid (v = .slice va m vc) := hv
  have HO : Hid (G.Owns w1 w.heap.size 58 v R) := ho
  have HB1 : Hid (Below w.heap.size w w1) := hb1
  subst hv
  clear hm ho hb1
  go_wp2_with fail
  go_loopw [3, 10] (fun s3 s10 wq => ∃ j : Nat, j ≤ m ∧ s10 = .int .i64 j ∧ wq.ownsRow w1.heap.size 3 1 s3 (idsOf (R.take j) Bs).length ((idsOf (R.take j) Bs).map (Value.int .i64)) ∧ Below w1.heap.size w1 wq) (fun _ s10 _ => m - (intOf s10).toNat)
  case atStart => exact ⟨0, Nat.zero_le _, rfl, World.ownsRow_nil _ _ _ _, Below.refl _ _⟩
  case round =>
    obtain ⟨j, hj, rfl, hrow, hb⟩ := hrel
    by_cases hlt : j < m
    · obtain ⟨⟨x0, x1, x2⟩, hx⟩ : ∃ e, R[j]? = some e := ⟨_, List.getElem?_eq_getElem (by rw [← HM.out]; exact hlt)⟩
      have heR := List.mem_of_getElem? hx
      obtain ⟨hA, hE, h1, h2⟩ := HIN.out _ heR
      obtain ⟨g, hva⟩ : ∃ g, va = some ⟨g, 0, none⟩ := by
        rcases HO.out.shape with ⟨_, e⟩ | ⟨g, cap, e, _⟩
        · rw [e] at hx; simp at hx
        · injection e with e1 _ _
          exact ⟨g, e1⟩
      subst hva
      obtain ⟨r0, r1, r2⟩ := (HO.out.below hb).at (g := g) rfl hx
      have HST : Hid (idsOf (R.take (j + 1)) Bs = idsOf (R.take j) Bs ++ if (x0, x1, x2) ∈ Bs then [x0] else []) := ids_step hx
      have HBR : Hid ((x0, x1, x2) ∈ Bs ↔ ¬ cnR (rest R (x0, x1, x2)) (ea (x0, x1, x2)) (eb (x0, x1, x2))) := HS.out.bridge heR
      simp only at h1 h2 r0 r1 r2
      generalize hAe : ea (x0, x1, x2) = A at *
      generalize hEe : eb (x0, x1, x2) = E at *
      clear hAe hEe
      subst h1 h2
      have HROW : Hid (wr.ownsRow w1.heap.size 3 1 u3 (idsOf (R.take j) Bs).length ((idsOf (R.take j) Bs).map (Value.int .i64))) := hrow
      have HLEN : Hid ((idsOf (R.take j) Bs).length ≤ m) := by
        have h1 := ids_len (R.take j) Bs
        have h2 : (R.take j).length ≤ j := by simp; omega
        show (idsOf (R.take j) Bs).length ≤ m
        omega
      have HB : Hid (Below w1.heap.size w1 wr) := hb
      have hbs := hb.size
      clear hrow hb hx
      -- the edge's box, and its number's
      obtain ⟨W1, hW1⟩ : ∃ W1, W1 = wr.alloc (.cells #[.int .i64 x0, .int .i64 (A : Int), .int .i64 (E : Int)] 58) := ⟨_, rfl⟩
      have hh : W1.heap[wr.heap.size]? = some (.cells #[.int .i64 x0, .int .i64 (A : Int), .int .i64 (E : Int)] 58) := by rw [hW1]; exact heap_alloc_new wr _
      have HBX : Hid (W1.heap[wr.heap.size]? = some (.cells #[.int .i64 x0, .int .i64 (A : Int), .int .i64 (E : Int)] 58)) := hh
      have p0 : W1.cell? ⟨wr.heap.size, 0, none⟩ = some (.int .i64 x0) := by simp [World.cell?, hh]
      have HBW : Hid (Below w1.heap.size w1 W1) := by
        show Below w1.heap.size w1 W1
        rw [hW1]; exact HB.out.alloc hbs _
      have HRW : Hid (W1.ownsRow w1.heap.size 3 1 u3 (idsOf (R.take j) Bs).length ((idsOf (R.take j) Bs).map (Value.int .i64))) := by
        show W1.ownsRow _ _ _ _ _ _
        rw [hW1]; exact HROW.out.alloc _
      have HW1 : Hid (wr.alloc (.cells #[.int .i64 x0, .int .i64 (A : Int), .int .i64 (E : Int)] 58) = W1) := hW1.symm
      have hW1s : wr.heap.size < W1.heap.size := lt_of_some hh
      have hsz : W1.heap.size = wr.heap.size + 1 := by rw [hW1]; simp
      clear hh hW1 HROW HB
      have HWO : Hid (Calls Tryz.prog 25 #[.pointer (some ⟨q, 0, none⟩), .slice (some ⟨wr.heap.size + 1, 0, none⟩) 1 1, .slice none 0 0] (W1.alloc (.cells #[.int .i64 x0] 3)) fun e w' => ∃ q' v', e = .returned (.pointer (some ⟨q', 0, none⟩)) ∧ G.GAt w' W1.heap.size 33 58 q' (n : Int) v' (rest R (x0, (A : Int), (E : Int))) ∧ Below W1.heap.size W1 w') := by
        have hg := (HG.out.below HB1.out).below HBW.out
        have hb2 : Below W1.heap.size W1 (W1.alloc (.cells #[.int .i64 x0] 3)) := (Below.refl _ _).alloc (Nat.le_refl _) _
        have h1i := one_id W1 x0
        rw [hsz] at h1i
        refine (G.rwithout_any (n : Int) B q u R _ none 1 0 1 0 (fun _ => x0) (fun _ => 0) _ (hg.below hb2) (by rw [← HM.out]; omega) h1i (no_id _) (by omega) (by omega)).mono ?_
        rintro e w' ⟨q', v', rfl, hg', hb'⟩
        rw [rest_eq R (x0, (A : Int), (E : Int))] at hg'
        refine ⟨q', v', rfl, ⟨hg'.hp, hg'.row.mono (by simp), hg'.ne⟩, hb2.trans (hb'.mono (by simp))⟩
      go_wp2_with fail
      rw [HW1.out]
      refine Calls.mono HWO.out ?_
      rintro e' w2 ⟨q', v', rfl, hg2, hb2⟩
      have HG2 : Hid (G.GAt w2 W1.heap.size 33 58 q' (n : Int) v' (rest R (x0, (A : Int), (E : Int))) ∧ Below W1.heap.size W1 w2) := ⟨hg2, hb2⟩
      clear hg2 hb2 HWO p0
      go_wp2_with fail
      refine (labels_any n W1.heap.size q' v' (rest R (x0, (A : Int), (E : Int))) w2 HG2.out.1 (Nat.le_trans (rest_len _ _) (by rw [← HM.out]; exact hl)) hn (inn_rest HIN.out _)).mono ?_
      rintro e' w3 ⟨b, l, rfl, hr, hbb, hll, hlab, hb3⟩
      have hW3 : Below W1.heap.size W1 w3 := HG2.out.2.trans (hb3.mono HG2.out.2.size)
      have HB3 : Hid (Below w1.heap.size w1 w3) := HBW.out.trans (hW3.mono HBW.out.size)
      have HR3 : Hid (w3.ownsRow w1.heap.size 3 1 u3 (idsOf (R.take j) Bs).length ((idsOf (R.take j) Bs).map (Value.int .i64))) := HRW.out.kept (grown_below hW3) (by cases u3.ownBlock <;> simp)
      have hh3 : w3.heap[wr.heap.size]? = some (.cells #[.int .i64 x0, .int .i64 (A : Int), .int .i64 (E : Int)] 58) := (hW3.block _ hW1s).trans HBX.out
      have c0 : w3.cell? ⟨wr.heap.size, 0, none⟩ = some (.int .i64 x0) := by simp [World.cell?, hh3]
      have c1 : w3.cell? ⟨wr.heap.size, 1, none⟩ = some (.int .i64 (A : Int)) := by simp [World.cell?, hh3]
      have c2 : w3.cell? ⟨wr.heap.size, 2, none⟩ = some (.int .i64 (E : Int)) := by simp [World.cell?, hh3]
      have cA := hr.cell A (by omega)
      have cE := hr.cell E (by omega)
      have HXY : Hid ((x0, (A : Int), (E : Int)) ∈ Bs ↔ l.getD A 0 ≠ l.getD E 0) := by
        show _ ∈ Bs ↔ _
        rw [HBR.out, Ne, hlab A E hA hE]
      clear hr hbb hlab hb3 hW3 hh3 HBX HBW HRW HG2 HBR hW1s r0 r1 r2
      generalize l.getD A 0 = X at *
      generalize l.getD E 0 = Y at *
      by_cases hxy : X = Y
      · as_aux_lemma =>
        subst hxy
        have HF : Hid (w3.ownsRow w1.heap.size 3 1 u3 (idsOf (R.take (j + 1)) Bs).length ((idsOf (R.take (j + 1)) Bs).map (Value.int .i64))) := by
          show w3.ownsRow _ _ _ _ _ _
          rw [HST.out, if_neg (fun k => (HXY.out.1 k) rfl), List.append_nil]; exact HR3.out
        clear HST HXY HR3
        go_wp2_with fail
        go_quiet (fail)
        clear c0 c1 c2 cA cE
        go_wp2_with fail
        go_roundw
        case rel => exact ⟨j + 1, by omega, by go_num, HF.out, below_drewN HB3.out nq⟩
        case measure => simp [intOf]; omega
      · as_aux_lemma =>
        have HST' : Hid (idsOf (R.take (j + 1)) Bs = idsOf (R.take j) Bs ++ [x0]) := by
          show idsOf (R.take (j + 1)) Bs = _
          rw [HST.out, if_pos (HXY.out.2 hxy)]
        have hq : ((X : Int) == (Y : Int)) = false := beq_eq_false_iff_ne.2 (by omega)
        have hlen := HLEN.out
        clear HST HXY
        generalize idsOf (R.take j) Bs = K at *
        go_wp2_with fail
        go_quiet (fail)
        have d0 : (w3.drewN nq).cell? ⟨wr.heap.size, 0, none⟩ = some (.int .i64 x0) := c0
        have HD : Hid ((w3.drewN nq).ownsRow w1.heap.size 3 1 u3 K.length (K.map (Value.int .i64)) ∧ Below w1.heap.size w1 (w3.drewN nq)) := ⟨HR3.out, below_drewN HB3.out nq⟩
        clear c0 c1 c2 cA cE HR3 HB3
        generalize w3.drewN nq = V at *
        have hrow := HD.out.1
        have hVs := HD.out.2.size
        have HLT := hrow.lt
        go_wp2_with (first
          | (at_builtin; refine wpList_append_own_at _ rfl _ _ 39 rfl w1.heap.size 3 i0 (.int .i64 0) 1 8 Tryz.underlying39 hi0 hz0 hz1 hz2 rfl (by decide) u3 _ _ rfl (hrow.alloc _) ⟨V.heap.size, 0, none⟩ 1 1 [.int .i64 x0] rfl rfl (cell_one_new _ _ _) (ints_oneCell .i64 [x0]) (by unfold maxLen; omega) (by omega) (by simp; omega) ?_; intro v'' w4 hown' hgrow hnil hloc)
          | fail)
        have HF : Hid (w4.ownsRow w1.heap.size 3 1 v'' (idsOf (R.take (j + 1)) Bs).length ((idsOf (R.take (j + 1)) Bs).map (Value.int .i64))) := by
          show w4.ownsRow _ _ _ _ _ _
          rw [HST'.out]
          simpa using hown'
        go_roundw
        case rel => exact ⟨j + 1, by omega, by go_num, HF.out, HD.out.2.grown ((World.grownBy_alloc V _ _).trans hgrow) hVs (fun j hj => (HLT j hj).1)⟩
        case measure => simp [intOf]; omega
    · have hje : j = m := by omega
      subst hje
      have HF : Hid (wr.ownsRow w.heap.size 3 1 u3 (idsOf R Bs).length ((idsOf R Bs).map (Value.int .i64)) ∧ Below w.heap.size w wr) := by
        have ht : R.take j = R := List.take_of_length_le (by rw [← HM.out]; omega)
        rw [ht] at hrow
        exact ⟨ownsRow_base_a hrow HB1.out.size, HB1.out.trans (hb.mono HB1.out.size)⟩
      clear hrow hb
      go_wp2_with fail
      go_ret
      exact ⟨_, rfl, HF.out⟩

end Go.Proofs.YtleecofpefokhaaGreatDoor.S
