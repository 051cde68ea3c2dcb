/- Package flow: way over steps that are used up. -/
import Derived.Test.YtpkdpddillebfaaDoorFpM
namespace Go.Proofs.YtpkdpddillebfaaDoor.S
open Go Go.ChangeMaps Go.MapKept Go.WideShapes
open Go.RowKit Go.WideMaps Go.Maps F

set_option maxHeartbeats 8000000 in
set_option maxRecDepth 100000 in
theorem search_un (p lm rm N B nb : Nat) (M : DataW Unit) (L : DataW Value) (D : List Stp) (r : Stp → Int) (f : Int → Value) (g : Int → List Stp) (inn : Stp → Bool) (a b : Int) (w : World) (h : NetA w p lm rm N B M L D r f g)
    (hg : ∀ x s, s ∈ g x ↔ s ∈ D ∧ fr s = x) (hgl : ∀ x, (g x).length ≤ 1000) (hr : ∀ s ∈ D, 0 ≤ tt s ∧ tt s < 1000) (hDl : D.length ≤ 500) (ha0 : 0 ≤ a) (ha1 : a < 1000) (hb0 : 0 ≤ b) (hb1 : b < 1000)
    (hf : ∀ W s, s ∈ D → Below w.heap.size w W → Calls Tryd.prog 87 #[vS s, .pointer (some ⟨nb, 0, none⟩)] W fun e w' => e = .returned (.bool (inn s)) ∧ Below W.heap.size W w') :
    Calls Tryd.prog 84 #[.pointer (some ⟨p, 0, none⟩), .int .i64 a, .int .i64 b, .func (.func 87) #[] #[.pointer (some ⟨nb, 0, none⟩)]] w (WayPost2 w D inn a b) := by
  have HF : Hid (∀ W s, s ∈ D → Below w.heap.size w W → Calls Tryd.prog 87 #[vS s, .pointer (some ⟨nb, 0, none⟩)] W fun e w' => e = .returned (.bool (inn s)) ∧ Below W.heap.size W w') := hf
  have HN : Hid (NetA w p lm rm N B M L D r f g) := h
  have HG : Hid ((∀ x s, s ∈ g x ↔ s ∈ D ∧ fr s = x) ∧ (∀ x, (g x).length ≤ 1000) ∧ ∀ s ∈ D, 0 ≤ tt s ∧ tt s < 1000) := ⟨hg, hgl, hr⟩
  obtain ⟨w1, r1, hsz1, c0, hS0, hQ0⟩ := sea_start w g inn ha0 ha1
  have HS0 : Hid (OutR w w.heap.size g inn a 0 (.slice (some ⟨w1.heap.size, 0, none⟩) 1 1) (w1.alloc (.cells #[.int .i64 a] 3))) := ⟨[a], c0, hS0, Nat.zero_le _, hQ0, fun k y hk => by omega⟩
  have hmm := @run_makeMap Tryd.prog
  obtain ⟨cb, hcb⟩ : ∃ cb, w.heap.size = cb := ⟨_, rfl⟩
  have HCB : Hid (w.heap.size = cb) := hcb
  clear h hf hg hgl hr hS0 hQ0 hsz1
  unfold vS at r1
  rw [hcb] at r1 HS0
  go_enter Tryd.func84, Tryd.ntmps84
  go_wp2_with fail
  clear hcb
  go_loopg [10] 1000 (fun rr s10 wq => ∃ i, i + rr = 1000 ∧ OutR w cb g inn a i s10 wq)
  case atStart => exact ⟨0, by omega, HS0.out⟩
  case round =>
    clear HS0 r1
    obtain ⟨i, hi, hout⟩ := hrel
    obtain ⟨q, c, hsea, hiq, ⟨ad, cap, rfl, hq⟩, hdn⟩ := hout
    have HSEA : Hid (Sea w wr cb g inn a q c) := hsea
    have HDN : Hid (Dn g inn q i) := hdn
    have hql := hsea.len
    obtain ⟨ln, hln⟩ : ∃ ln, (q.drop i).length = ln := ⟨_, rfl⟩
    have HLN : Hid ((q.drop i).length = ln) := hln
    have HQ : Hid (q.drop i ≠ [] → ∃ g o, ad = some ⟨g, o, none⟩ ∧ Que wr w.heap.size g o cap (q.drop i)) := hq
    rw [hln]
    obtain ⟨wy, hwy⟩ : ∃ wy, wy = wr := ⟨_, rfl⟩
    subst hwy
    obtain ⟨gk1, hgk1⟩ : ∃ gk1, gk1 = gk := ⟨_, rfl⟩
    subst hgk1
    clear hsea hdn hq hln
    by_cases hpos : 0 < ln
    · -- a place is at its turn
      have hlnq : ln = q.length - i := by have := HLN.out; simp at this; omega
      have hiq2 : i < q.length := by omega
      have hne : q.drop i ≠ [] := fun e => by have := HLN.out; rw [e] at this; simp at this; omega
      obtain ⟨gq, o, had, hque⟩ := HQ.out hne
      subst had
      obtain ⟨x, hx⟩ : ∃ x, q[i]? = some x := ⟨_, List.getElem?_eq_getElem (by omega)⟩
      have hx0 := HSEA.out.rng x (List.mem_of_getElem? hx)
      have hc10 : wy.cell? ⟨gq, o, none⟩ = some (.int .i64 x) := by
        have := hque.got 0 x (by rw [List.getElem?_drop]; simpa using hx)
        simpa using this
      have hA := HN.out.below HSEA.out.bel
      have hp0 : wy.cell? ⟨p, 0, none⟩ = some (.map (some lm)) := by simp [World.cell?, hA.net.hp]
      obtain ⟨va, vc, hv⟩ := (hA.lv.row x).slice_len
      obtain ⟨m, hm⟩ : ∃ m, (g x).length = m := ⟨_, rfl⟩
      rw [hm] at hv
      have lk : ∀ n, (Instr.lookup 159 (.map (some lm)) (.int .i64 x) false).run Tryd.prog (wy.drewN n) = .ok (.slice va m vc) (wy.drewN n) := fun n => by
        rw [← hv]
        exact (hA.below (below_drewN (Below.refl _ _) n)).lv.look (wf_small hx0.1 (by omega))
      have HM : Hid ((g x).length = m) := hm
      have HV : Hid (f x = .slice va m vc) := hv
      have hml : m ≤ 1000 := by rw [← hm]; exact HG.out.2.1 x
      have HX : Hid (q[i]? = some x) := hx
      have HQUE : Hid (Que wy w.heap.size gq o cap (q.drop i)) := hque
      have HL2 : Hid (ln = q.length - i) := hlnq
      clear hA hv hm hx hque hne HQ hlnq
      go_wp2_with fail
      go_quiet (fail)
      go_wp2_with fail
      have HIN : Hid (InR w cb g inn a i x 0 (.slice (some ⟨gq, o, none⟩) ln cap) (wy.drewN nq)) := by
        have hb := below_drewN (Below.refl wy.heap.size wy) nq
        rw [HL2.out]
        exact ⟨q, c, gq, o, cap, HSEA.out.below hb, HX.out, rfl, HQUE.out.kept (grown_below hb) (by simp), HDN.out, fun s hs => by simp at hs⟩
      clear HSEA HDN HLN HX HQUE HL2 lk hc10 hp0
      obtain ⟨wz, hwz⟩ : ∃ wz, wy.drewN nq = wz := ⟨_, rfl⟩
      rw [hwz] at HIN ⊢
      clear hwz
      go_loopg [10, 39] m (fun rr s10 s39 wq => ∃ j : Nat, s39 = .int .i64 j ∧ j + rr = m ∧ InR w cb g inn a i x j s10 wq)
      case atStart => exact ⟨0, rfl, by omega, HIN.out⟩
      case round =>
        clear HIN
        obtain ⟨j, rfl, hj, hin⟩ := hrel
        have HIN : Hid (InR w cb g inn a i x j u10 wr) := hin
        clear hin
        by_cases hjm : j < m
        · obtain ⟨q', c', gq', o', cap', hsea, hx, hu, hque, hdn, hjj⟩ := HIN.out
          subst hu
          obtain ⟨⟨y0, y1, y2⟩, hs⟩ : ∃ s : Stp, (g x)[j]? = some s := ⟨_, List.getElem?_eq_getElem (by rw [HM.out]; exact hjm)⟩
          have hsg := List.mem_of_getElem? hs
          obtain ⟨hsD, hsx⟩ := (HG.out.1 x _).1 hsg
          have htt : 0 ≤ y2 ∧ y2 < 1000 := HG.out.2.2 _ hsD
          have hA := HN.out.below hsea.bel
          obtain ⟨gw, hva⟩ : ∃ gw, va = some ⟨gw, 0, none⟩ := by
            rcases (hA.lv.row x).shape with ⟨_, e⟩ | ⟨gw, cap, e, _⟩
            · rw [e] at hs; simp at hs
            · rw [HV.out] at e
              injection e with e1 _ _
              exact ⟨gw, e1⟩
          subst hva
          obtain ⟨r0, r1, r2⟩ := (hA.lv.row x).at (g := gw) (by rw [HV.out]; rfl) hs
          simp only at r0 r1 r2
          have hbW : Below wr.heap.size wr (wr.alloc (.cells #[.int .i64 y0, .int .i64 y1, .int .i64 y2] 136)) := (Below.refl _ _).alloc (Nat.le_refl _) _
          have lk := ((hsea.below hbW).look htt.1 htt.2).1
          have HSK : Hid ((inn (y0, y1, y2) = true → y2 ∈ q') → ∀ w', Below wr.heap.size wr w' → InR w cb g inn a i x (j + 1) (.slice (some ⟨gq', o', none⟩) (q'.length - i) cap') w') := fun hn w' hb => InR.skip hsea hx hque hdn hjj hs hn hb
          obtain ⟨lq, hlq⟩ : ∃ lq, q'.length - i = lq := ⟨_, rfl⟩
          rw [hlq] at HSK
          have HLQ : Hid (q'.length - i = lq) := hlq
          have HSEA : Hid (Sea w wr cb g inn a q' c') := hsea
          have HREST : Hid (q'[i]? = some x ∧ Que wr w.heap.size gq' o' cap' (q'.drop i) ∧ Dn g inn q' i ∧ (∀ s ∈ (g x).take j, inn s = true → tt s ∈ q') ∧ (g x)[j]? = some (y0, y1, y2) ∧ (y0, y1, y2) ∈ D ∧ y1 = x ∧ i < q'.length) := ⟨hx, hque, hdn, hjj, hs, hsD, hsx, (List.getElem?_eq_some_iff.1 hx).1⟩
          rw [hlq]
          have HBX : Hid (∀ t : Stp, ((wr.alloc (.cells #[.int .i64 y0, .int .i64 y1, .int .i64 y2] 136)).alloc (.cells #[.int .i64 t.1, .int .i64 t.2.1, .int .i64 t.2.2] 136)).heap[wr.heap.size]? = some (.cells #[.int .i64 y0, .int .i64 y1, .int .i64 y2] 136)) := fun t => heap_alloc2_old wr _ _
          have HBB : Hid (∀ t : Stp, Below wr.heap.size wr ((wr.alloc (.cells #[.int .i64 y0, .int .i64 y1, .int .i64 y2] 136)).alloc (.cells #[.int .i64 t.1, .int .i64 t.2.1, .int .i64 t.2.2] 136))) := fun t => hbW.alloc (by simp) _
          clear hx hque hdn hjj hs hsg hsD hsx hA hbW hsea hlq HIN
          cases hc : c' y2 with
          | some t =>
            as_aux_lemma =>
            obtain ⟨t0, t1, t2⟩ := t
            have HE : Hid _ := HSK.out (fun _ => (HSEA.out.has y2).1 (by rw [hc]; rfl)) _ (HBB.out (t0, t1, t2))
            rw [hc] at lk
            unfold vS at lk
            simp only [Option.getD, Option.isSome] at lk HE
            clear hc HSK HREST HSEA HBX HBB HLQ
            go_wp2_with fail
            go_roundg (gk - 1)
            case measure => omega
            case rel => exact ⟨j + 1, by go_num, by omega, HE.out⟩
          | none =>
            obtain ⟨W2, hW2⟩ : ∃ W2, W2 = (wr.alloc (.cells #[.int .i64 y0, .int .i64 y1, .int .i64 y2] 136)).alloc (.cells #[.int .i64 0, .int .i64 0, .int .i64 0] 136) := ⟨_, rfl⟩
            have hbW2 : Below wr.heap.size wr W2 := by rw [hW2]; exact HBB.out (0, 0, 0)
            have hbx : W2.heap[wr.heap.size]? = some (.cells #[.int .i64 y0, .int .i64 y1, .int .i64 y2] 136) := by rw [hW2]; exact HBX.out (0, 0, 0)
            have p0 : W2.cell? ⟨wr.heap.size, 0, none⟩ = some (.int .i64 y0) := by simp [World.cell?, hbx]
            have p1 : W2.cell? ⟨wr.heap.size, 1, none⟩ = some (.int .i64 y1) := by simp [World.cell?, hbx]
            have p2 : W2.cell? ⟨wr.heap.size, 2, none⟩ = some (.int .i64 y2) := by simp [World.cell?, hbx]
            have HW2 : Hid ((wr.alloc (.cells #[.int .i64 y0, .int .i64 y1, .int .i64 y2] 136)).alloc (.cells #[.int .i64 0, .int .i64 0, .int .i64 0] 136) = W2) := hW2.symm
            have hbel : Below w.heap.size w W2 := HSEA.out.bel.trans (hbW2.mono HSEA.out.bel.size)
            have HC : Hid _ := HF.out W2 (y0, y1, y2) HREST.out.2.2.2.2.2.1 hbel
            have HB2 : Hid (Below wr.heap.size wr W2) := hbW2
            rw [hc] at lk
            unfold vS at lk HC
            simp only [Option.getD, Option.isSome] at lk
            have HCN : Hid (c' y2 = none) := hc
            clear hc HBX HBB hW2 hbW2 hbx hbel
            go_wp2_with fail
            rw [HW2.out]
            refine Calls.mono HC.out ?_
            rintro e w3 ⟨rfl, hb3⟩
            have HB3 : Hid (Below wr.heap.size wr w3) := HB2.out.trans (hb3.mono HB2.out.size)
            have q0 := cell_below p0 hb3
            have q1 := cell_below p1 hb3
            have q2 := cell_below p2 hb3
            clear p0 p1 p2 lk hb3 HC r0 r1 r2
            cases hin : inn (y0, y1, y2) with
            | false =>
              as_aux_lemma =>
              have HE : Hid _ := HSK.out (fun h => by rw [hin] at h; cases h) w3 HB3.out
              clear hin HSK HREST HSEA HLQ q0 q1 q2
              go_wp2_with fail
              go_roundg (gk - 1)
              case measure => omega
              case rel => exact ⟨j + 1, by go_num, by omega, HE.out⟩
            | true =>
              as_aux_lemma =>
              obtain ⟨h1, h2, h3, h4, h5, h6, h7, h8⟩ := HREST.out
              obtain ⟨w4, u4, g4, w6, v6, g6, o6, cap6, a6, e6, s6, q6⟩ := sea_more (i := i) (s := (y0, y1, y2)) (HSEA.out.below HB3.out) (h2.kept (grown_below HB3.out) (by simp)) (by rw [h1]; exact congrArg some h7.symm) (by rw [show fr (y0, y1, y2) = x from h7]; exact List.mem_of_getElem? h5) hin HCN.out htt.1 htt.2
              have hbc : wr.heap.size ≠ cb := by
                obtain ⟨N, C, hcm, _⟩ := (HSEA.out.below HB3.out).cm
                exact hcm.ne_cells q0
              have p2 := keep_cell g4 hbc q2
              have HE : Hid (InR w cb g inn a i x (j + 1) (.slice (some ⟨g6, o6, none⟩) (lq + 1) cap6) w6) := by
                have := InR.more (s := (y0, y1, y2)) h1 h3 h4 h5 s6 q6
                rw [show q'.length + 1 - i = lq + 1 by have := HLQ.out; omega] at this
                exact this
              rw [show q'.length + 1 - i = lq + 1 by have := HLQ.out; omega] at e6
              rw [HLQ.out] at a6
              subst e6
              have HR : Hid (_ = _) := a6
              unfold vS tt at u4
              unfold tt at HR
              simp only at u4 HR
              clear h1 h2 h3 h4 h5 h6 h7 h8 hin g4 s6 q6 a6 HSK HREST HSEA HLQ HCN
              go_wp2_with (at_builtin; refine Lib.wpList_append_run _ rfl _ _ _ _ rfl _ _ rfl rfl _ _ HR.out ?_)
              go_roundg (gk - 1)
              case measure => omega
              case rel => exact ⟨j + 1, by go_num, by omega, HE.out⟩
        · have hje : m = j := by omega
          subst hje
          obtain ⟨gq', o', len, cap', hu, hlc, hout, hout0⟩ := HIN.out.done (by rw [HM.out]; exact Nat.le_refl _)
          subst hu
          by_cases hcz : cap' = 0
          · as_aux_lemma =>
            have hlz : len = 0 := by omega
            subst hcz
            subst hlz
            have HO : Hid (OutR w cb g inn a (i + 1) (.slice (some ⟨gq', o', none⟩) 0 0) wr) := hout0 rfl _ _
            clear HIN hout hout0
            go_wp2_with fail
            go_roundg (gk1 - 1)
            case measure => omega
            case rel => exact ⟨i + 1, by omega, HO.out⟩
          · as_aux_lemma =>
            have HO : Hid (OutR w cb g inn a (i + 1) (.slice (some ⟨gq', o' + 1, none⟩) len cap') wr) := hout
            clear HIN hout hout0
            go_wp2_with fail
            go_roundg (gk1 - 1)
            case measure => omega
            case rel => exact ⟨i + 1, by omega, HO.out⟩
    · have hln0 : ln = 0 := by omega
      subst hln0
      have hiq2 : i = q.length := by have := HLN.out; simp at this; omega
      subst hiq2
      have lk := (HSEA.out.look hb0 hb1).1
      cases hcb2 : c b with
      | none =>
        as_aux_lemma =>
        have HCL : Hid _ := sea_closed HSEA.out HDN.out (D := D) (fun s hs => (HG.out.1 _ _).2 ⟨hs, rfl⟩) hcb2
        rw [hcb2] at lk
        unfold vS at lk
        simp only [Option.getD, Option.isSome] at lk
        clear hcb2
        go_wp2_with fail
        go_ret
        refine ⟨_, [], rfl, HSEA.out.bel.trans ((Below.refl _ _).alloc HSEA.out.bel.size _), World.ownsRow_nil _ _ _ _, .inr ⟨rfl, HCL.out⟩⟩
      | some t =>
        as_aux_lemma =>
        obtain ⟨t0, t1, t2⟩ := t
        rw [hcb2] at lk
        unfold vS at lk
        simp only [Option.getD, Option.isSome] at lk
        obtain ⟨k0, hk0, hk0e⟩ := List.mem_iff_getElem.1 ((HSEA.out.has b).1 (by rw [hcb2]; rfl))
        have HK0 : Hid (Back g inn q b b k0 []) := Back.start (by rw [List.getElem?_eq_getElem hk0, hk0e])
        have HS5 : Hid (Sea w (wy.alloc (.cells #[.int .i64 t0, .int .i64 t1, .int .i64 t2] 136)) cb g inn a q c) := HSEA.out.below ((Below.refl _ _).alloc (Nat.le_refl _) _)
        clear hcb2 hk0 hk0e HSEA
        go_wp2_with fail
        go_loopg [17, 18] k0 (fun rr s17 s18 wq => ∃ at_ P, s18 = .int .i64 at_ ∧ Back g inn q at_ b rr P ∧ Sea w wq cb g inn a q c ∧ G.Owns wq (cb + 1) 136 s17 P)
        case atStart => exact ⟨b, [], rfl, HK0.out, HS5.out, World.ownsRow_nil _ _ _ _⟩
        case round =>
          clear HK0 HS5 lk
          obtain ⟨at_, P, rfl, hback, hsea, hown⟩ := hrel
          have HB : Hid (Back g inn q at_ b gk P ∧ Sea w wr cb g inn a q c ∧ G.Owns wr (cb + 1) 136 u17 P) := ⟨hback, hsea, hown⟩
          have hat := hsea.rng at_ (List.mem_of_getElem? hback.here)
          have hPl : P.length ≤ 500 := Nat.le_trans (nodup_sub P D hback.nd (fun s hs => ((HG.out.1 _ _).1 (hback.good s hs).2).1)) hDl
          clear hback hown
          by_cases hae : at_ = a
          · as_aux_lemma =>
            subst hae
            have HRV : Hid _ := rev_any wr (cb + 1) u17 P HB.out.2.2 (by omega)
            go_wp2_with fail
            refine Calls.mono HRV.out ?_
            rintro e w5 ⟨rfl, ho5, hg5⟩
            have HP : Hid (Below w.heap.size w w5 ∧ G.Owns w5 w.heap.size 136 u17 P.reverse) := by
              have h1 := (HB.out.2.1.row HB.out.2.2 hg5).bel
              exact ⟨h1, ho5.mono (by rw [← HCB.out]; omega)⟩
            clear ho5 hg5 HRV
            go_wp2_with fail
            go_ret
            refine ⟨_, P.reverse, rfl, HP.out.1, HP.out.2, .inl ⟨HB.out.1.walk, (List.pairwise_reverse.2 (HB.out.1.nd.imp (fun h => h.symm))), fun s hs => ?_⟩⟩
            have := HB.out.1.good s (List.mem_reverse.1 hs)
            exact ⟨((HG.out.1 _ _).1 this.2).1, this.1⟩
          · as_aux_lemma =>
            obtain ⟨k', hk', hback'⟩ := Back.step HB.out.2.1.bfs HB.out.1 hae
            have lk := (hsea.look hat.1 hat.2).2
            obtain ⟨t, ht⟩ : ∃ t, (c at_).getD (0, 0, 0) = t := ⟨_, rfl⟩
            rw [ht] at lk
            simp only [ht] at hback'
            obtain ⟨v6, w6, a6, o6, g6⟩ := more_S 137 wr (cb + 1) u17 P t HB.out.2.2 (by
              obtain ⟨N, C, hcm, _⟩ := hsea.cm
              obtain ⟨es, clock, hb, _⟩ := hcm.mp
              exact lt_of_some hb) (by omega)
            have hsea6 := hsea.row HB.out.2.2 g6
            have lk6 := (hsea6.look hat.1 hat.2).2
            rw [ht] at lk6
            have HE : Hid (Back g inn q (fr t) b k' (P ++ [t]) ∧ Sea w w6 cb g inn a q c ∧ G.Owns w6 (cb + 1) 136 v6 (P ++ [t])) := ⟨hback', hsea6, o6⟩
            have HR : Hid (_ = _) := a6
            obtain ⟨t0, t1, t2⟩ := t
            unfold vS at lk lk6
            unfold fr at HE
            simp only at lk lk6 HR HE
            have hb1 : (at_ != a) = true := by simp [hae]
            have hfd := field146
            clear ht a6 o6 g6 hsea6 hback' hsea HB
            go_wp2_with (at_builtin; refine Lib.wpList_append_run _ rfl _ _ _ _ rfl _ _ rfl rfl _ _ HR.out ?_)
            go_roundg k'
            case measure => exact hk'
            case rel => exact ⟨t1, _, rfl, HE.out.1, HE.out.2.1, HE.out.2.2⟩

set_option maxHeartbeats 1000000 in
set_option maxRecDepth 100000 in
/-- Whether a step is used up. -/
theorem used_any (p lm rm N nb : Nat) (M : DataW Unit) (D : List Stp) (r : Stp → Int) (s : Stp) (w : World) (h : NetR w p lm rm N M D r) (hs : s ∈ D) (hc : w.cell? ⟨nb, 0, none⟩ = some (.pointer (some ⟨p, 0, none⟩))) :
    Calls Tryd.prog 87 #[vS s, .pointer (some ⟨nb, 0, none⟩)] w fun e w' => e = .returned (.bool (!decide (0 < r s))) ∧ Below w.heap.size w w' := by
  have hbA : Below w.heap.size w (w.alloc (.cells #[.int .i64 s.1, .int .i64 s.2.1, .int .i64 s.2.2] 136)) := (Below.refl _ _).alloc (Nat.le_refl _) _
  have hc2 := cell_below hc hbA
  have HC : Hid _ := free_any p lm rm N M D r s _ (h.below hbA) hs
  have HB : Hid (Below w.heap.size w (w.alloc (.cells #[.int .i64 s.1, .int .i64 s.2.1, .int .i64 s.2.2] 136))) := hbA
  obtain ⟨t, ht⟩ : ∃ t, decide (0 < r s) = t := ⟨_, rfl⟩
  rw [ht] at HC ⊢
  unfold vS at HC ⊢
  obtain ⟨x, y, z⟩ := s
  simp only at HC HB hc2 ⊢
  clear h hbA ht hs
  go_enter Tryd.func87, Tryd.ntmps87
  go_wp2_with fail
  refine Calls.mono HC.out ?_
  rintro e w1 ⟨rfl, hb1⟩
  have HB1 : Hid (Below w.heap.size w w1) := HB.out.trans (hb1.mono HB.out.size)
  clear hb1 HC
  go_wp2_with fail
  go_ret
  exact ⟨rfl, HB1.out⟩

end Go.Proofs.YtpkdpddillebfaaDoor.S
namespace Go.Proofs.YtpkdpddillebfaaDoor.S
open Go Go.ChangeMaps Go.MapKept Go.WideShapes
open Go.RowKit Go.WideMaps Go.Maps F

/-- A row of ids. -/
abbrev RowI (w : World) (B : Nat) (v : Value) (xs : List Int) : Prop := w.ownsRow B 3 1 v xs.length (xs.map fun x => Value.int .i64 x)

theorem RowI.below {w w' : World} {B : Nat} {v : Value} {xs : List Int} (h : RowI w B v xs) (hb : Below w.heap.size w w') : RowI w' B v xs :=
  World.ownsRow.kept h (grown_below hb) (by cases hv : v.ownBlock <;> simp)

theorem RowI.beside {w w' : World} {B : Nat} {v : Value} {xs : List Int} (h : RowI w B v xs) {k : Nat} (hg : w.grownBy w' (some k)) (hk : k < B) : RowI w' B v xs :=
  World.ownsRow.kept h hg (by
    cases hv : v.ownBlock with
    | none => exact .inl rfl
    | some j =>
      refine .inr (fun e => ?_)
      injection e with e
      have := (World.ownsRow.lt h j hv).1
      omega)

theorem RowI.mono {w : World} {B B' : Nat} {v : Value} {xs : List Int} (h : RowI w B v xs) (hB : B' ≤ B) : RowI w B' v xs :=
  ⟨h.1, h.2.imp id fun ⟨g, cap, cur, h1, hb, rest⟩ => ⟨g, cap, cur, h1, Nat.le_trans hB hb, rest⟩⟩

/-- What undo leaves. -/
def UndoPost (w : World) (p lm rm N B : Nat) (D : List Stp) (r0 : Stp → Int) (f : Int → Value) (g : Int → List Stp) (a b k : Int) (U : List Int) (e : Ending) (w' : World) : Prop :=
  ∃ (v : Value) (P : List Stp) (r : Stp → Int) (M : DataW Unit) (L : DataW Value), e = .returned v ∧ RowI w' w.heap.size v (P.map (·.1)) ∧ NetA w' p lm rm (N + 1000) B M L D r f g ∧ But rm w w' ∧
    Un D r0 a b r (k - 1) (U ++ P.map (·.1)) ∧ Walk a P b ∧ (∀ s ∈ P, s ∈ D ∧ s.1 ∉ U) ∧ (P.map (·.1)).Nodup ∧ ∀ x, r x + r (bk x) ≤ 2

theorem NetR.beside {w w' : World} {p lm rm N : Nat} {M : DataW Unit} {D : List Stp} {r : Stp → Int} {o : Option Nat} (h : NetR w p lm rm N M D r) (hg : w.grownBy w' o) (h1 : o ≠ some p) (h2 : o ≠ some rm) : NetR w' p lm rm N M D r :=
  ⟨(hg.block p (lt_of_some h.hp) (fun e => h1 (by first | exact e | exact e.symm))).trans h.hp, h.mp.kept hg (fun e => h2 (by first | exact e | exact e.symm)), h.rom⟩

/-- Where the box of a step lies, and that of the net. -/
def C4 (w : World) (nb p bx : Nat) (s : Stp) : Prop := w.cell? ⟨nb, 0, none⟩ = some (.pointer (some ⟨p, 0, none⟩)) ∧ w.cell? ⟨bx, 0, none⟩ = some (.int .i64 s.1) ∧ w.cell? ⟨bx, 1, none⟩ = some (.int .i64 s.2.1) ∧ w.cell? ⟨bx, 2, none⟩ = some (.int .i64 s.2.2)

theorem C4.below {w w' : World} {nb p bx : Nat} {s : Stp} (h : C4 w nb p bx s) (hb : Below w.heap.size w w') : C4 w' nb p bx s := ⟨cell_below h.1 hb, cell_below h.2.1 hb, cell_below h.2.2.1 hb, cell_below h.2.2.2 hb⟩

theorem C4.but {w w' : World} {nb p bx rm : Nat} {s : Stp} (h : C4 w nb p bx s) (hb : But rm w w') (h1 : nb ≠ rm) (h2 : bx ≠ rm) : C4 w' nb p bx s := ⟨keep_cell hb.grown h1 h.1, keep_cell hb.grown h2 h.2.1, keep_cell hb.grown h2 h.2.2.1, keep_cell hb.grown h2 h.2.2.2⟩

/-- A way that is being taken back. -/
structure UR (w2 wq : World) (p lm rm N nb : Nat) (D : List Stp) (r : Stp → Int) (P : List Stp) (j : Nat) (v : Value) : Prop where
  row : RowI wq w2.heap.size v ((P.take j).map (·.1))
  net : ∃ M, NetR wq p lm rm (N + 2 * j) M D (tks r ((P.take j).map bk))
  but : But rm w2 wq
  cell : wq.cell? ⟨nb, 0, none⟩ = some (.pointer (some ⟨p, 0, none⟩))

set_option maxHeartbeats 4000000 in
set_option maxRecDepth 100000 in
theorem undo_any (p lm rm N B : Nat) (M : DataW Unit) (L : DataW Value) (D : List Stp) (r r0 : Stp → Int) (f : Int → Value) (g : Int → List Stp) (a b k : Int) (U : List Int) (w : World) (h : NetA w p lm rm N B M L D r f g) (hD : Net D)
    (hg : ∀ x s, s ∈ g x ↔ s ∈ D ∧ fr s = x) (hgl : ∀ x, (g x).length ≤ 1000) (hr : ∀ s ∈ D, 0 ≤ tt s ∧ tt s < 1000) (hDl : D.length ≤ 500) (h0 : ∀ s ∈ D, r0 s ≤ 1) (hoff : ∀ x, r x + r (bk x) ≤ 2) (hid : ∀ s ∈ D, ∀ t ∈ D, s.1 = t.1 → s = t ∨ s = bk t) (hN : N ≤ 400000) (ha0 : 0 ≤ a) (ha1 : a < 1000) (hb0 : 0 ≤ b) (hb9 : b < 1000)
    (hun : Un D r0 a b r k U) (hk : 0 < k) :
    Calls Tryd.prog 65 #[.pointer (some ⟨p, 0, none⟩), .int .i64 a, .int .i64 b] w (UndoPost w p lm rm N B D r0 f g a b k U) := by
  obtain ⟨w1, hw1⟩ : ∃ w1, w.alloc (.cells #[.pointer (some ⟨p, 0, none⟩)] 104) = w1 := ⟨_, rfl⟩
  have hb1 : Below w.heap.size w w1 := by rw [← hw1]; exact (Below.refl _ _).alloc (Nat.le_refl _) _
  have hnb : w1.cell? ⟨w.heap.size, 0, none⟩ = some (.pointer (some ⟨p, 0, none⟩)) := by rw [← hw1]; simp
  obtain ⟨nb, hnbe⟩ : ∃ nb, w.heap.size = nb := ⟨_, rfl⟩
  have hnb' := hnb
  rw [hnbe] at hnb'
  have HC : Hid _ := search_un p lm rm N B nb M L D r f g (fun s => !decide (0 < r s)) a b w1 (h.below hb1) hg hgl hr hDl ha0 ha1 hb0 hb9 (fun W s hs hW => used_any p lm rm N nb M D r s W ((h.net.below hb1).below hW) hs (cell_below hnb' hW))
  have HW1 : Hid (w.alloc (.cells #[.pointer (some ⟨p, 0, none⟩)] 104) = w1) := hw1
  have HNB : Hid (w.heap.size = nb) := hnbe
  have HX : Hid (Net D ∧ D.length ≤ 500 ∧ (∀ x, r x + r (bk x) ≤ 2) ∧ rm < B ∧ B ≤ w.heap.size ∧ Un D r0 a b r k U ∧ (∀ s ∈ D, ∀ t ∈ D, s.1 = t.1 → s = t ∨ s = bk t)) := ⟨hD, hDl, hoff, h.rb, h.lv.le, hun, hid⟩
  have HB1 : Hid (Below w.heap.size w w1 ∧ NetA w1 p lm rm N B M L D r f g) := ⟨hb1, h.below hb1⟩
  have HTH : Hid (∀ S : Int → Bool, S a = true → S b = false → (∀ s ∈ D, out S s = true → (!decide (0 < r s)) = false) → False) := fun S ha hb hs => un_there hun.fill hk h0 ha hb (fun s h1 h2 => by have := hs s h1 h2; simpa using this)
  rw [hnbe] at hnb
  clear h hD hg hgl hr hDl h0 hoff hid hun hw1 hb1 hnbe hnb'
  go_enter Tryd.func65, Tryd.ntmps65
  go_wp2_with fail
  rw [HW1.out, HNB.out]
  refine Calls.mono HC.out ?_
  rintro e w2 ⟨v, P, rfl, hb2, ho, hP⟩
  have HW : Hid (Walk a P b ∧ P.Nodup ∧ ∀ s ∈ P, s ∈ D ∧ r s = 0) := by
    rcases hP with ⟨h1, h2, h3⟩ | ⟨_, S, h2, h3, h4⟩
    · refine ⟨h1, h2, fun s hs => ⟨(h3 s hs).1, ?_⟩⟩
      have h5 := (h3 s hs).2
      have h6 := HB1.out.2.net.rom.pos s
      simp at h5
      omega
    · exact (HTH.out S h2 h3 h4).elim
  clear HC HTH hP
  obtain ⟨m, hpm⟩ : ∃ m, m = P.length := ⟨_, rfl⟩
  obtain ⟨va, vc, hv⟩ := ho.slice_len
  rw [← hpm] at hv
  subst hv
  have HO : Hid (G.Owns w2 w1.heap.size 136 (.slice va m vc) P) := ho
  have HM : Hid (m = P.length) := hpm
  have HB2 : Hid (Below w1.heap.size w1 w2 ∧ NetA w2 p lm rm N B M L D r f g) := ⟨hb2, HB1.out.2.below hb2⟩
  have hn2 := cell_below hnb hb2
  have hmD : m ≤ 500 := by
    have h1 := nodup_sub P D HW.out.2.1 (fun x hx => (HW.out.2.2 x hx).1)
    rw [HM.out]
    exact Nat.le_trans h1 HX.out.2.1
  clear hb2 ho hpm hnb
  go_wp2_with fail
  obtain ⟨i0, hi, hz0, hz1, hz2⟩ := info_parts Tryd.info3
  have HRB : Hid (rm < B ∧ B ≤ w.heap.size ∧ w.heap.size < w1.heap.size ∧ w1.heap.size ≤ w2.heap.size ∧ p < w2.heap.size) := by
    refine ⟨HX.out.2.2.2.1, HX.out.2.2.2.2.1, ?_, HB2.out.1.size, lt_of_some HB2.out.2.net.hp⟩
    rw [← HW1.out]; simp
  have HS : Hid (UR w2 w2 p lm rm N nb D r P 0 (.slice none 0 0)) := ⟨World.ownsRow_nil _ _ _ _, ⟨M, by simpa [tks] using HB2.out.2.net⟩, But.refl' _ _, hn2⟩
  clear hn2
  go_loopw [7, 16] (fun s7 s16 wq => ∃ (j : Nat), j ≤ m ∧ s16 = .int .i64 j ∧ UR w2 wq p lm rm N nb D r P j s7) (fun _ s16 _ => m - (intOf s16).toNat)
  case atStart => exact ⟨0, Nat.zero_le _, rfl, HS.out⟩
  case round =>
    clear HS
    obtain ⟨j, hj, rfl, hur⟩ := hrel
    have HR : Hid (UR w2 wr p lm rm N nb D r P j u7) := hur
    clear hur
    by_cases hjm : j < m
    · obtain ⟨s, hs⟩ : ∃ s, P[j]? = some s := ⟨_, List.getElem?_eq_getElem (by rw [← HM.out]; exact hjm)⟩
      have hsP := List.mem_of_getElem? hs
      obtain ⟨gw, hva⟩ : ∃ gw, va = some ⟨gw, 0, none⟩ := by
        rcases HO.out.shape with ⟨_, e⟩ | ⟨gw, cap, e, _⟩
        · rw [e] at hs; simp at hs
        · injection e with e1 _ _
          exact ⟨gw, e1⟩
      subst hva
      obtain ⟨c0, c1, c2⟩ := HO.out.at (g := gw) rfl hs
      obtain ⟨l1, l2, l3, l4, l5⟩ := HRB.out
      have hgw : gw ≠ rm := by
        have h1 := (World.ownsRow.lt HO.out gw rfl).1
        omega
      have q0 := keep_cell HR.out.but.grown hgw c0
      have q1 := keep_cell HR.out.but.grown hgw c1
      have q2 := keep_cell HR.out.but.grown hgw c2
      obtain ⟨W1, hW1⟩ : ∃ W1, W1 = wr.alloc (.cells #[.int .i64 s.1, .int .i64 s.2.1, .int .i64 s.2.2] 136) := ⟨_, rfl⟩
      have hbW : Below wr.heap.size wr W1.drew := by rw [hW1]; exact ((Below.refl _ _).alloc (Nat.le_refl _) _).drew
      have hsz := HR.out.but.size
      obtain ⟨bx, hbx⟩ : ∃ bx, wr.heap.size = bx := ⟨_, rfl⟩
      have hh : W1.heap[bx]? = some (.cells #[.int .i64 s.1, .int .i64 s.2.1, .int .i64 s.2.2] 136) := by rw [hW1, ← hbx]; exact heap_alloc_new wr _
      have hc1 : C4 W1.drew nb p bx s := ⟨cell_below HR.out.cell hbW, by show W1.cell? _ = _; simp [World.cell?, hh], by show W1.cell? _ = _; simp [World.cell?, hh], by show W1.cell? _ = _; simp [World.cell?, hh]⟩
      have hnbr : nb ≠ rm := by have := HNB.out; omega
      have hbxr : bx ≠ rm := by omega
      have hrow : RowI W1.drew w2.heap.size u7 ((P.take j).map (·.1)) := HR.out.row.below hbW
      have hne : ∀ t ∈ P, fr t ≠ tt t := fun t ht => HX.out.1.ne t (HW.out.2.2 t ht).1
      have hbb : ∀ t ∈ P.map bk, fr t ≠ tt t := fun t ht => by
        have := hne _ (mem_bk.1 ht)
        rw [fr_bk, tt_bk] at this
        exact fun e => this e.symm
      have hts : tks r ((P.take (j + 1)).map bk) = tk (tks r ((P.take j).map bk)) (bk s) := by
        rw [take_snoc hs, List.map_append]
        exact tks_snoc r _ (bk s)
      have HC : Hid (Calls Tryd.prog 88 #[vS s] W1.drew fun e w8 => e = .returned (vS (bk s)) ∧ C4 w8 nb p bx s ∧ Hid (Calls Tryd.prog 86 #[.pointer (some ⟨p, 0, none⟩), vS (bk s)] w8 fun e w9 => e = .returned (.tuple #[]) ∧ C4 w9 nb p bx s ∧ Hid ((∃ M9, NetR w9 p lm rm (N + 2 * (j + 1)) M9 D (tks r ((P.take (j + 1)).map bk))) ∧ But rm w2 w9 ∧ RowI w9 w2.heap.size u7 ((P.take j).map (·.1)) ∧ bx < w9.heap.size))) := by
        obtain ⟨M', hnet⟩ := HR.out.net
        refine (back_any s W1.drew).mono ?_
        rintro e w8 ⟨rfl, hb8⟩
        have hb8' : Below wr.heap.size wr w8 := hbW.trans (hb8.mono hbW.size)
        refine ⟨rfl, hc1.below hb8, ?_⟩
        refine (take_any p lm rm _ M' D _ (bk s) w8 (hnet.below hb8') (HX.out.1.back s (HW.out.2.2 s hsP).1) HX.out.1 ?_ (by omega) (fun x => ?_)).mono ?_
        · have hsum := HX.out.2.2.2.2.2.1.sum s (HW.out.2.2 s hsP).1
          have h0 := (HW.out.2.2 s hsP).2
          have hoth := tks_other ((P.take j).map bk) r (bk s) (fun t ht => hbb t (by
            obtain ⟨x, hx, e⟩ := List.mem_map.1 ht
            exact List.mem_map.2 ⟨x, List.mem_of_mem_take hx, e⟩)) (fun k => not_mem_take HW.out.2.1 hs (by have := mem_bk.1 k; rwa [bk_bk] at this))
          omega
        · have h1 := tks_sum ((P.take j).map bk) r (fun t ht => hbb t (by
            obtain ⟨x, hx, e⟩ := List.mem_map.1 ht
            exact List.mem_map.2 ⟨x, List.mem_of_mem_take hx, e⟩)) x
          have h2 := hnet.rom.pos (bk x)
          have h3 := HX.out.2.2.1 x
          omega
        · rintro e w9 ⟨rfl, M9, N9, hn9, hN9, hb9⟩
          refine ⟨rfl, (hc1.below hb8).but hb9 hnbr hbxr, ⟨M9, ?_⟩, (HR.out.but.trans (But.of_below hb8')).trans hb9, ?_, ?_⟩
          · rw [hts]
            exact ⟨hn9.hp, hn9.mp.mono (by omega), hn9.rom⟩
          · exact (hrow.below hb8).beside hb9.grown (by omega)
          · have := lt_of_some hh
            have := hb8.size
            have := hb9.size
            have : W1.drew.heap.size = W1.heap.size := rfl
            omega
      have HW2 : Hid (wr.alloc (.cells #[.int .i64 s.1, .int .i64 s.2.1, .int .i64 s.2.2] 136) = W1) := hW1.symm
      have HBX : Hid (wr.heap.size = bx) := hbx
      have HTK : Hid ((P.take (j + 1)).map (·.1) = (P.take j).map (·.1) ++ [s.1] ∧ (P.take j).length = j) := by
        refine ⟨by rw [take_snoc hs, List.map_append]; rfl, by simp; have := HM.out; omega⟩
      unfold C4 vS bk at HC
      unfold C4 at hc1
      obtain ⟨x, y, z⟩ := s
      simp only at HC hc1 q0 q1 q2 HW2 HTK
      clear hs hsP c0 c1 c2 hgw hbW hh hnbr hbxr hrow hne hbb hts hW1 hbx l1 l2 l3 l4 l5 hsz
      go_upto_region 5 with fail
      rw [HW2.out, HBX.out]
      clear q0 q1 q2
      go_region_held (fun w' => (w'.cell? ⟨nb, 0, none⟩ = some (.pointer (some ⟨p, 0, none⟩)) ∧ w'.cell? ⟨bx, 0, none⟩ = some (.int .i64 x) ∧ w'.cell? ⟨bx, 1, none⟩ = some (.int .i64 y) ∧ w'.cell? ⟨bx, 2, none⟩ = some (.int .i64 z))) (with_reducible assumption)
        (first
        | (go_at_call 88; refine Calls.mono HC.out ?_; rintro e w8 ⟨rfl, hc8, HC2⟩)
        | (go_at_call 86; refine Calls.mono HC2.out ?_; rintro e w9 ⟨rfl, hc9, HF⟩))
      all_goals
        obtain ⟨hnet, hbut, hrow, hbs⟩ := HF.out
        have HN9 : Hid ((∃ M9, NetR w9 p lm rm (N + 2 * (j + 1)) M9 D (tks r ((P.take (j + 1)).map bk))) ∧ But rm w2 w9) := ⟨hnet, hbut⟩
        have hlr : ((P.take j).map (·.1)).length = j := by rw [List.length_map]; exact HTK.out.2
        have hrow : w9.ownsRow w2.heap.size 3 1 u7 j (((P.take j).map (·.1)).map fun x => Value.int .i64 x) := by
          have h1 := hrow
          unfold RowI at h1
          rwa [hlr] at h1
        have hb0' := hbut.size
        clear HC HC2 HF hnet hbut hc1
        go_wp2_with (first
          | (at_builtin; refine wpList_append_own_at _ rfl _ _ 30 rfl w2.heap.size 3 i0 (.int .i64 0) 1 8 Tryd.underlying30 hi hz0 hz1 hz2 rfl (by decide) _ _ _ rfl (hrow.alloc _) ⟨w9.heap.size, 0, none⟩ 1 1 [.int .i64 x] rfl rfl (cell_one_new _ _ _) (ints_oneCell .i64 [(x : Int)]) (by unfold maxLen; omega) (by omega) (by simp; omega) ?_; intro v' w10 hown' hgrow hnil hloc)
          | fail)
        have HE : Hid (UR w2 w10 p lm rm N nb D r P (j + 1) v') := by
          have hall : w9.grownBy w10 u7.ownBlock := (World.grownBy_alloc w9 _ _).trans hgrow
          have hob : ∀ i, u7.ownBlock = some i → w2.heap.size ≤ i := fun i hi => (World.ownsRow.lt hrow i hi).1
          obtain ⟨l1, l2, l3, l4, l5⟩ := HRB.out
          have hnbe := HNB.out
          obtain ⟨M9, hnet⟩ := HN9.out.1
          refine ⟨?_, ⟨M9, hnet.beside hall (fun e => ?_) (fun e => ?_)⟩, ⟨hall.os.trans HN9.out.2.os, hall.tape.trans HN9.out.2.tape, hall.output.trans HN9.out.2.output, Nat.le_trans HN9.out.2.size hall.size, fun i hi hne => ?_⟩, ?_⟩
          · unfold RowI
            rw [HTK.out.1, List.length_append, hlr, List.map_append]
            exact hown'
          · have := hob _ e; omega
          · have := hob _ e; omega
          · exact (hall.block i (Nat.lt_of_lt_of_le hi HN9.out.2.size) (fun e => by have := hob i (by first | exact e | exact e.symm); omega)).trans (HN9.out.2.block i hi hne)
          · rw [World.cell?_of_block (w := w9) (hall.block nb (by omega) (fun e => by have := hob nb (by first | exact e | exact e.symm); omega))]
            exact hc9.1
        have hbxe := HBX.out
        subst hbxe
        go_roundw
        case rel => exact ⟨j + 1, by omega, by go_num, HE.out⟩
        case measure => simp [intOf]; omega
    · have hje : m = j := by omega
      subst hje
      have HE : Hid (UndoPost w p lm rm N B D r0 f g a b k U (.returned u7) wr) := by
        obtain ⟨M', hnet⟩ := HR.out.net
        have htk : P.take m = P := List.take_of_length_le (by rw [← HM.out]; exact Nat.le_refl _)
        rw [htk] at hnet
        have hrow := HR.out.row
        rw [htk] at hrow
        have hnx := HX.out.2.2.2.2.2.1.next HX.out.1 HX.out.2.2.2.2.2.2 HW.out.1 HW.out.2.1 HW.out.2.2
        obtain ⟨l1, l2, l3, l4, l5⟩ := HRB.out
        have hbb : ∀ t ∈ P.map bk, fr t ≠ tt t := fun t ht => by
          have := HX.out.1.ne _ (HW.out.2.2 _ (mem_bk.1 ht)).1
          rw [fr_bk, tt_bk] at this
          exact fun e => this e.symm
        refine ⟨u7, P, _, M', L, rfl, hrow.mono (by omega), (HB2.out.2.more (N' := N + 1000) (by omega)).taken HR.out.but ⟨hnet.hp, hnet.mp.mono (by omega), hnet.rom⟩ (Nat.le_refl _), ((But.of_below HB1.out.1).trans (But.of_below HB2.out.1)).trans HR.out.but, hnx.1, HW.out.1, fun s hs => ⟨(HW.out.2.2 s hs).1, hnx.2.1 s hs⟩, hnx.2.2, fun x => ?_⟩
        rw [tks_sum _ r hbb]
        exact HX.out.2.2.1 x
      clear HR
      go_wp2_with fail
      go_ret
      exact HE.out

end Go.Proofs.YtpkdpddillebfaaDoor.S
