/- Package cycle: Pairs, the walk. -/
import Derived.Test.YtigodbamphejmaaGreatVs
namespace Go.Proofs.YtigodbamphejmaaGreat.S
open Go.RowKit Go.WideMaps Go.Maps

/-- What a row of edges' numbers is. -/
theorem idv_shape {w : World} {B : Nat} {v : Value} {L : List Edg} (h : w.ownsRow B 3 1 v L.length (idV L)) : ∃ a cap, v = .slice a L.length cap ∧ L.length ≤ cap ∧ cap ≤ maxLen ∧ (0 < L.length → ∃ g, a = some ⟨g, 0, none⟩ ∧ g < w.heap.size ∧ ∀ j e, L[j]? = some e → w.cell? ⟨g, j, none⟩ = some (.int .i64 e.1)) := by
  have h0 := h
  rcases h.2 with ⟨rfl, hz⟩ | ⟨g, cap, cur, rfl, hb, hg, h4, h5, _⟩
  · exact ⟨none, 0, by rw [hz], by omega, by simp [maxLen], fun k => by omega⟩
  · refine ⟨_, cap, rfl, h4, h5, fun _ => ⟨g, rfl, lt_of_some hg, fun j e he => ?_⟩⟩
    have hj := (List.getElem?_eq_some_iff.1 he).1
    rw [h0.cellAt j (by omega)]
    simp [idV, he]

theorem drop_at {L : List Edg} {i : Nat} {e : Edg} (h : L[i]? = some e) : L.drop i = e :: L.drop (i + 1) := by
  obtain ⟨hlt, he⟩ := List.getElem?_eq_some_iff.1 h
  rw [List.drop_eq_getElem_cons hlt, he]

/-- What Pairs holds on to. -/
structure Pq (W3 w : World) (u : Value) (M : List (Int × Int)) : Prop where
  own : OwnsP w W3.heap.size u M
  below : Below W3.heap.size W3 w

theorem Pq.drewN {W3 w : World} {u : Value} {M : List (Int × Int)} (h : Pq W3 w u M) (k : Nat) : Pq W3 (w.drewN k) u M := ⟨h.own.below (below_drewN (Below.refl _ _) k), below_drewN h.below k⟩

set_option maxHeartbeats 4000000 in
set_option maxRecDepth 100000 in
theorem cpairs_any (c mb rest : Nat) (S R : List Edg) (f : Edg → Nat) (w : World) (h : Cx w c mb rest S R f) :
    Calls Tryz.prog 15 #[.pointer (some ⟨c, 0, none⟩)] w fun e w' => ∃ v, e = .returned v ∧ OwnsP w' w.heap.size v (pairsOf (R.filter fun e => decide (f e ≠ 0)) fun e d => decide (f e = f d)) ∧ Below w.heap.size w w' := by
  have hb1 : Below w.heap.size w (w.alloc (.cells #[.pointer (some ⟨c, 0, none⟩)] 26)) := (Below.refl _ _).alloc (Nat.le_refl _) _
  have HX : Hid (Cx w c mb rest S R f ∧ Cb (w.alloc (.cells #[.pointer (some ⟨c, 0, none⟩)] 26)) w.heap.size c mb rest S f ∧ Cx (w.alloc (.cells #[.pointer (some ⟨c, 0, none⟩)] 26)) c mb rest S R f) := ⟨h, ⟨heap_alloc_new w _, h.co.below hb1⟩, h.below hb1⟩
  have HI : Hid _ := cids_any c mb rest S R f (w.alloc (.cells #[.pointer (some ⟨c, 0, none⟩)] 26)) HX.out.2.2.co h.mem h.up HX.out.2.2.small
  have hmf' := hmf
  clear h hb1
  go_enter Tryz.func15, Tryz.ntmps15
  go_wp2_with fail
  refine Calls.mono HI.out ?_
  rintro e w2 ⟨v2, rfl, hrow2, hb2⟩
  have HW : Hid (w2.ownsRow (w.heap.size + 1) 3 1 v2 R.length (idV R) ∧ Below (w.alloc (.cells #[.pointer (some ⟨c, 0, none⟩)] 26)).heap.size (w.alloc (.cells #[.pointer (some ⟨c, 0, none⟩)] 26)) w2) := ⟨by simpa using hrow2, hb2⟩
  have HD : Hid (Calls Tryz.prog 34 #[v2, .func (.func 39) #[] #[.pointer (some ⟨w.heap.size, 0, none⟩)]] w2 fun e w' => ∃ v, e = .returned v ∧ w'.ownsRow w.heap.size 3 1 v (R.filter fun e => decide (f e ≠ 0)).length (idV (R.filter fun e => decide (f e ≠ 0))) ∧ Below w.heap.size w w' ∧ Cb w' w.heap.size c mb rest S f) := by
    have HB2 : Below w.heap.size w w2 := ((Below.refl _ _).alloc (Nat.le_refl _) _).trans (HW.out.2.mono (by simp))
    rcases HW.out.1.2 with ⟨hv, hz⟩ | ⟨g, cap, cur, hv, hbg, _⟩
    · subst hv
      have hR : R = [] := List.eq_nil_of_length_eq_zero hz
      refine (delete_none_pr w.heap.size w2).mono ?_
      rintro e w' ⟨rfl, hw'⟩
      subst hw'
      refine ⟨_, rfl, ?_, HB2, HX.out.2.1.below HW.out.2⟩
      rw [hR]
      exact World.ownsRow_nil _ _ _ _
    · subst hv
      have hbw := HX.out.2.1
      obtain ⟨u, hu⟩ := hbw.co.st
      obtain ⟨D0, N0, k1, k2⟩ := hbw.co.mp
      have hlb := lt_of_some hbw.bx
      have hlc := lt_of_some hu
      have hlm := k1.lt
      simp at hlb hlc hlm
      have hrw : w2.ownsRow (w.heap.size + 1) 3 1 (.slice (some ⟨g, 0, none⟩) R.length cap) R.length (rowZ (R.map (·.1))) := by rw [rowZ_ids]; exact HW.out.1
      refine (delete_pr (pfOf R fun e => decide (f e = 0)) w.heap.size g R.length cap (w.heap.size + 1) (R.map (·.1)) w2 hrw (by rw [List.length_map]; have := HX.out.1.len; omega) (by simp) (fun W hW x hx => ?_)).mono ?_
      · obtain ⟨e, he, rfl⟩ := List.mem_map.1 hx
        rw [pfOf_at HX.out.1.up _ he]
        have hcb : Cb W w.heap.size c mb rest S f := (HX.out.2.1.below HW.out.2).grown hW (by omega) (by omega) (by omega)
        exact pr1_any w.heap.size c mb rest S f e W hcb ((HX.out.1.mem e).2 he) (HX.out.1.wf e he)
      · rintro e w' ⟨v', rfl, hrow', hg'⟩
        refine ⟨v', rfl, ?_, ?_, (HX.out.2.1.below HW.out.2).grown hg' (by omega) (by omega) (by omega)⟩
        · rw [filter_ids R (fun e => decide (f e = 0)) _ (fun e he => pfOf_at HX.out.1.up _ he), rowZ_ids, List.length_map] at hrow'
          have e1 : (R.filter fun e => !decide (f e = 0)) = R.filter fun e => decide (f e ≠ 0) := by
            apply List.filter_congr
            intro e _
            by_cases h0 : f e = 0 <;> simp [h0]
          rw [e1] at hrow'
          exact row_mono hrow' (by omega)
        · exact HB2.grown hg' HB2.size (fun j hj => by injection hj with hj; omega)
  clear hrow2 hb2 HI
  go_wp2_with fail
  refine Calls.mono HD.out ?_
  rintro e w3 ⟨v3, rfl, hrow3, hb3, hcb3⟩
  obtain ⟨L, hL⟩ : ∃ L, (R.filter fun e => decide (f e ≠ 0)) = L := ⟨_, rfl⟩
  rw [hL] at hrow3
  have HL : Hid ((R.filter fun e => decide (f e ≠ 0)) = L) := hL
  obtain ⟨T, hT⟩ : ∃ T, (pairsOf L fun e d => decide (f e = f d)) = T := ⟨_, rfl⟩
  have HT : Hid ((pairsOf L fun e d => decide (f e = f d)) = T) := hT
  have hTl : T.length ≤ 3600 := by
    rw [← hT]
    have h1 := pairsOf_len (fun e d => decide (f e = f d)) L
    have h2 : L.length ≤ 60 := by rw [← hL]; exact Nat.le_trans (List.length_filter_le _ _) HX.out.1.len
    have h3 := Nat.mul_le_mul h2 h2
    omega
  obtain ⟨a3, cap, rfl, hcap, hcm, hc3⟩ := idv_shape hrow3
  obtain ⟨m, hm⟩ : ∃ m, L.length = m := ⟨_, rfl⟩
  have HM : Hid (L.length = m) := hm
  rw [hm] at hcap hc3 ⊢
  have hm60 : m ≤ 60 := by rw [← hm, ← hL]; exact Nat.le_trans (List.length_filter_le _ _) HX.out.1.len
  have HC : Hid ((0 < m → ∃ g, a3 = some ⟨g, 0, none⟩ ∧ g < w3.heap.size ∧ ∀ j e, L[j]? = some e → w3.cell? ⟨g, j, none⟩ = some (.int .i64 e.1)) ∧ Cb w3 w.heap.size c mb rest S f ∧ Below w.heap.size w w3) := ⟨hc3, hcb3, hb3⟩
  have HP0 : Hid (∃ M, Pq w3 w3 (.slice none 0 0) M ∧ M ++ (pairsOf (L.drop 0) fun e d => decide (f e = f d)) = T) := ⟨[], ⟨World.ownsRow_nil _ _ _ _, Below.refl _ _⟩, by simpa using hT⟩
  simp only [maxLen] at hcm
  clear hrow3 hb3 hcb3 hc3 hm hL hT HD HW
  go_wp2_with fail
  go_loopw [4, 15] (fun s4 s15 wq => ∃ i : Nat, i ≤ m ∧ s15 = .int .i64 i ∧ ∃ M, Pq w3 wq s4 M ∧ M ++ (pairsOf (L.drop i) fun e d => decide (f e = f d)) = T) (fun _ s15 _ => m - (intOf s15).toNat)
  case atStart => exact ⟨0, Nat.zero_le _, rfl, HP0.out⟩
  case round =>
    clear HP0
    obtain ⟨i, hi, rfl, M, hpq, hMT⟩ := hrel
    have HP : Hid (Pq w3 wr u4 M ∧ M ++ (pairsOf (L.drop i) fun e d => decide (f e = f d)) = T) := ⟨hpq, hMT⟩
    clear hpq hMT
    by_cases hlt : i < m
    · obtain ⟨e, he⟩ : ∃ e, L[i]? = some e := ⟨_, List.getElem?_eq_getElem (by rw [HM.out]; exact hlt)⟩
      obtain ⟨g, rfl, hgl, hcell⟩ := HC.out.1 (by omega)
      have hce : wr.cell? ⟨g, i, none⟩ = some (.int .i64 e.1) := (HP.out.1.below.cell (p := ⟨g, i, none⟩) hgl).trans (hcell i e he)
      have HE : Hid (L[i]? = some e ∧ ∀ j d, L[j]? = some d → w3.cell? ⟨g, j, none⟩ = some (.int .i64 d.1)) := ⟨he, hcell⟩
      have HI0 : Hid (∃ M, Pq w3 wr u4 M ∧ M ++ ((((L.drop (i + 1)).drop 0).filter fun d => decide (f e = f d)).map (fun d => (e.1, d.1)) ++ pairsOf (L.drop (i + 1)) fun e d => decide (f e = f d)) = T) := ⟨M, HP.out.1, by
        have := HP.out.2
        rw [drop_at he] at this
        exact this⟩
      obtain ⟨E, hE⟩ : ∃ E, e.1 = E := ⟨_, rfl⟩
      have HEE : Hid (e.1 = E) := hE
      rw [hE] at hce
      clear he hcell hE
      have hw1 : IntKind.i64.wrap ((i : Int) + 1) = (i : Int) + 1 := by rw [IntKind.wrap_i64]; omega
      have hb2 : (i : Int) + 1 ≤ (m : Int) := by omega
      have hb3 : (0 : Int) ≤ (i : Int) + 1 := by omega
      have hb4 : (i : Int) + 1 ≤ (cap : Int) := by omega
      have hb5 : (m : Int) ≤ (cap : Int) := by omega
      have htn : ((i : Int) + 1).toNat = i + 1 := by omega
      by_cases hcj : cap = i + 1
      · go_wp2_with fail
        clear hw1 hb2 hb3 hb4 hb5 htn hce
        obtain ⟨r, hr⟩ : ∃ r, m - (i + 1) = r := ⟨_, rfl⟩
        have HR : Hid (m - (i + 1) = r) := hr
        rw [hr]
        go_loopw [4, 25] (fun s4 s25 wq => ∃ j : Nat, j ≤ r ∧ s25 = .int .i64 j ∧ ∃ M, Pq w3 wq s4 M ∧ M ++ ((((L.drop (i + 1)).drop j).filter fun d => decide (f e = f d)).map (fun d => (e.1, d.1)) ++ pairsOf (L.drop (i + 1)) fun e d => decide (f e = f d)) = T) (fun _ s25 _ => r - (intOf s25).toNat)
        case atStart => exact ⟨0, Nat.zero_le _, rfl, HI0.out⟩
        case round =>
          clear HI0 HP
          obtain ⟨j, hj, rfl, M, hpq, hMT⟩ := hrel
          have HP : Hid (Pq w3 wr u4 M ∧ M ++ ((((L.drop (i + 1)).drop j).filter fun d => decide (f e = f d)).map (fun d => (e.1, d.1)) ++ pairsOf (L.drop (i + 1)) fun e d => decide (f e = f d)) = T) := ⟨hpq, hMT⟩
          clear hpq hMT
          by_cases hltj : j < r
          · exact absurd hltj (by omega)
          · as_aux_lemma =>
            have HF : Hid (M ++ (pairsOf (L.drop (i + 1)) fun e d => decide (f e = f d)) = T) := by
              have h1 := HP.out.2
              have h2 : (L.drop (i + 1)).drop j = [] := List.drop_eq_nil_of_le (by rw [List.length_drop, HM.out]; omega)
              rw [h2] at h1
              exact h1
            clear hr
            go_wp2_with fail
            go_roundw
            case rel => exact ⟨i + 1, by omega, by go_num, M, HP.out.1, HF.out⟩
            case measure => simp [intOf]; omega
      · go_wp2_with fail
        clear hw1 hb2 hb3 hb4 hb5 htn hce
        obtain ⟨r, hr⟩ : ∃ r, m - (i + 1) = r := ⟨_, rfl⟩
        have HR : Hid (m - (i + 1) = r) := hr
        rw [hr]
        go_loopw [4, 25] (fun s4 s25 wq => ∃ j : Nat, j ≤ r ∧ s25 = .int .i64 j ∧ ∃ M, Pq w3 wq s4 M ∧ M ++ ((((L.drop (i + 1)).drop j).filter fun d => decide (f e = f d)).map (fun d => (e.1, d.1)) ++ pairsOf (L.drop (i + 1)) fun e d => decide (f e = f d)) = T) (fun _ s25 _ => r - (intOf s25).toNat)
        case atStart => exact ⟨0, Nat.zero_le _, rfl, HI0.out⟩
        case round =>
          clear HI0 HP
          obtain ⟨j, hj, rfl, M, hpq, hMT⟩ := hrel
          have HP : Hid (Pq w3 wr u4 M ∧ M ++ ((((L.drop (i + 1)).drop j).filter fun d => decide (f e = f d)).map (fun d => (e.1, d.1)) ++ pairsOf (L.drop (i + 1)) fun e d => decide (f e = f d)) = T) := ⟨hpq, hMT⟩
          clear hpq hMT
          by_cases hltj : j < r
          · obtain ⟨d, hd⟩ : ∃ d, L[i + 1 + j]? = some d := ⟨_, List.getElem?_eq_getElem (by rw [HM.out]; omega)⟩
            have hcd : wr.cell? ⟨g, i + 1 + j, none⟩ = some (.int .i64 d.1) := (HP.out.1.below.cell (p := ⟨g, i + 1 + j, none⟩) hgl).trans (HE.out.2 _ d hd)
            have hdr : (L.drop (i + 1)).drop j = d :: (L.drop (i + 1)).drop (j + 1) := drop_at (by rw [List.getElem?_drop]; exact hd)
            have hcb := HC.out.2.1.below HP.out.1.below
            have hb0 : wr.cell? ⟨w.heap.size, 0, none⟩ = some (.pointer (some ⟨c, 0, none⟩)) := by simp [World.cell?, hcb.bx]
            have hb1 := hcb.co.cell1
            have inL : ∀ {k : Nat} {x : Edg}, L[k]? = some x → x ∈ R := fun {k x} hk => by
              have := List.mem_of_getElem? hk
              rw [← HL.out] at this
              exact (List.mem_filter.1 this).1
            have lk1 := fun n => ((hcb.below (below_drewN (Below.refl _ _) n)).co.look_in ((HX.out.1.mem e).2 (inL HE.out.1)) (HX.out.1.wf e (inL HE.out.1))).2
            have lk2 := fun n => ((hcb.below (below_drewN (Below.refl _ _) n)).co.look_in ((HX.out.1.mem d).2 (inL hd)) (HX.out.1.wf d (inL hd))).2
            unfold ringV at lk1 lk2
            have HMl : Hid (M.length ≤ 3600) := by
              have := congrArg List.length HP.out.2
              rw [List.length_append] at this
              show M.length ≤ 3600
              omega
            have HN : Hid (∀ M', (if f e = f d then M' = M ++ [(e.1, d.1)] else M' = M) → M' ++ ((((L.drop (i + 1)).drop (j + 1)).filter fun d => decide (f e = f d)).map (fun d => (e.1, d.1)) ++ pairsOf (L.drop (i + 1)) fun e d => decide (f e = f d)) = T) := fun M' hM' => by
              have h1 := HP.out.2
              rw [hdr, List.filter_cons] at h1
              by_cases hfe : f e = f d
              · rw [if_pos hfe] at hM'
                rw [if_pos (by simpa using hfe)] at h1
                rw [hM', ← h1]; simp
              · rw [if_neg hfe] at hM'
                rw [if_neg (by simpa using hfe)] at h1
                rw [hM', ← h1]
            obtain ⟨Y, hY⟩ : ∃ Y, d.1 = Y := ⟨_, rfl⟩
            obtain ⟨x, hx⟩ : ∃ x, f e = x := ⟨_, rfl⟩
            obtain ⟨y, hy⟩ : ∃ y, f d = y := ⟨_, rfl⟩
            rw [HEE.out, hx] at lk1
            rw [hY, hy] at lk2
            rw [hY] at hcd
            rw [hx, hy, HEE.out, hY] at HN
            have heq := eq101
            clear hcb hd hdr inL hY hy
            by_cases hxy : x = y
            · as_aux_lemma =>
              subst hxy
              have HNO : Hid _ := HN.out (M ++ [(E, Y)]) (by rw [if_pos rfl])
              go_upto_region 9 with fail
              go_quiet (fail)
              have HPQ := HP.out.1.drewN nq
              obtain ⟨v', w4, hrn, ho4, hg4, hf4⟩ := more_pair 22 (wr.drewN nq) w3.heap.size u4 M E Y HPQ.own HPQ.below.size (by have := HMl.out; omega)
              have HRN : Hid (_ = _) := hrn
              have HP4 : Hid (Pq w3 w4 v' (M ++ [(E, Y)])) := ⟨ho4, HPQ.below.grown hg4 HPQ.below.size (fun k hk => (World.ownsRow.lt HPQ.own k hk).1)⟩
              clear hrn ho4 hg4 hf4 HPQ
              go_wp2_with (at_builtin; refine Lib.wpList_append_run _ rfl _ _ _ _ rfl _ _ rfl rfl _ _ HRN.out ?_)
              go_roundw
              case rel =>
                refine ⟨j + 1, by omega, by go_num, M ++ [(E, Y)], HP4.out, ?_⟩
                have := HNO.out
                rw [hx, HEE.out]
                exact this
              case measure => simp [intOf]; omega
            · as_aux_lemma =>
              have hbe : ((x : Int) == (y : Int)) = false := beq_eq_false_iff_ne.2 (by omega)
              have HNO : Hid _ := HN.out M (by rw [if_neg hxy])
              go_upto_region 9 with fail
              go_quiet (fail)
              go_wp2_with fail
              go_roundw
              case rel =>
                refine ⟨j + 1, by omega, by go_num, M, HP.out.1.drewN _, ?_⟩
                have := HNO.out
                rw [hx, HEE.out]
                exact this
              case measure => simp [intOf]; omega
          · as_aux_lemma =>
            have HF : Hid (M ++ (pairsOf (L.drop (i + 1)) fun e d => decide (f e = f d)) = T) := by
              have h1 := HP.out.2
              have h2 : (L.drop (i + 1)).drop j = [] := List.drop_eq_nil_of_le (by rw [List.length_drop, HM.out]; omega)
              rw [h2] at h1
              exact h1
            clear hr
            go_wp2_with fail
            go_roundw
            case rel => exact ⟨i + 1, by omega, by go_num, M, HP.out.1, HF.out⟩
            case measure => simp [intOf]; omega
    · as_aux_lemma =>
      have HF : Hid (OwnsP wr w.heap.size u4 (pairsOf L fun e d => decide (f e = f d)) ∧ Below w.heap.size w wr) := by
        have hie : i = m := by omega
        have h1 := HP.out.2
        rw [hie, ← HM.out, List.drop_length] at h1
        simp only [pairsOf, List.append_nil] at h1
        have hb := HC.out.2.2
        have h2 := HP.out.1
        rw [h1, ← HT.out] at h2
        exact ⟨h2.own.mono hb.size, hb.trans (h2.below.mono hb.size)⟩
      go_wp2_with fail
      go_ret
      refine ⟨_, rfl, ?_, HF.out.2⟩
      rw [HL.out]
      exact HF.out.1

end Go.Proofs.YtigodbamphejmaaGreat.S
