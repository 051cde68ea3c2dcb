/- Package flow: way. -/
import Derived.Test.YtpkdpddillebfaaDoorFn
namespace Go.Proofs.YtpkdpddillebfaaDoor.S
open Go Go.ChangeMaps Go.MapKept Go.WideShapes
open Go.RowKit Go.WideMaps Go.Maps F

/-- What way gives. -/
def WayPost2 (w : World) (D : List Stp) (inn : Stp → Bool) (a b : Int) (e : Ending) (w' : World) : Prop :=
  ∃ v P, e = .returned v ∧ Below w.heap.size w w' ∧ G.Owns w' w.heap.size 136 v P ∧ ((Walk a P b ∧ P.Nodup ∧ ∀ s ∈ P, s ∈ D ∧ inn s = true) ∨ (P = [] ∧ ∃ S : Int → Bool, S a = true ∧ S b = false ∧ ∀ s ∈ D, out S s = true → inn s = false))

theorem field146 (x y z : Int) (w : World) : (Instr.field 136 (.agg #[.int .i64 x, .int .i64 y, .int .i64 z]) 1).run Tryd.prog w = .ok (.int .i64 y) w := by kernel_rfl

theorem vS_eq (s : Stp) : vS s = .agg #[.int .i64 s.1, .int .i64 s.2.1, .int .i64 s.2.2] := rfl

set_option maxHeartbeats 8000000 in
set_option maxRecDepth 100000 in
theorem search_any (p lm rm N B : Nat) (M : DataW Unit) (L : DataW Value) (D : List Stp) (r : Stp → Int) (f : Int → Value) (g : Int → List Stp) (inn : Stp → Bool) (a b : Int) (w : World) (h : NetA w p lm rm N B M L D r f g)
    (hg : ∀ x s, s ∈ g x ↔ s ∈ D ∧ fr s = x) (hgl : ∀ x, (g x).length ≤ 1000) (hr : ∀ s ∈ D, 0 ≤ tt s ∧ tt s < 1000) (hDl : D.length ≤ 500) (ha0 : 0 ≤ a) (ha1 : a < 1000) (hb0 : 0 ≤ b) (hb1 : b < 1000)
    (hf : ∀ W s, s ∈ D → Below w.heap.size w W → Calls Tryd.prog 85 #[.pointer (some ⟨p, 0, none⟩), vS s] W fun e w' => e = .returned (.bool (inn s)) ∧ Below W.heap.size W w') :
    Calls Tryd.prog 84 #[.pointer (some ⟨p, 0, none⟩), .int .i64 a, .int .i64 b, .func (.func 85) #[.pointer (some ⟨p, 0, none⟩)] #[]] w (WayPost2 w D inn a b) := by
  have HF : Hid (∀ W s, s ∈ D → Below w.heap.size w W → Calls Tryd.prog 85 #[.pointer (some ⟨p, 0, none⟩), vS s] W fun e w' => e = .returned (.bool (inn s)) ∧ Below W.heap.size W w') := hf
  have HN : Hid (NetA w p lm rm N B M L D r f g) := h
  have HG : Hid ((∀ x s, s ∈ g x ↔ s ∈ D ∧ fr s = x) ∧ (∀ x, (g x).length ≤ 1000) ∧ ∀ s ∈ D, 0 ≤ tt s ∧ tt s < 1000) := ⟨hg, hgl, hr⟩
  obtain ⟨w1, r1, hsz1, c0, hS0, hQ0⟩ := sea_start w g inn ha0 ha1
  have HS0 : Hid (OutR w w.heap.size g inn a 0 (.slice (some ⟨w1.heap.size, 0, none⟩) 1 1) (w1.alloc (.cells #[.int .i64 a] 3))) := ⟨[a], c0, hS0, Nat.zero_le _, hQ0, fun k y hk => by omega⟩
  have hmm := @run_makeMap Tryd.prog
  obtain ⟨cb, hcb⟩ : ∃ cb, w.heap.size = cb := ⟨_, rfl⟩
  have HCB : Hid (w.heap.size = cb) := hcb
  clear h hf hg hgl hr hS0 hQ0 hsz1
  unfold vS at r1
  rw [hcb] at r1 HS0
  go_enter Tryd.func84, Tryd.ntmps84
  go_wp2_with fail
  clear hcb
  go_loopg [10] 1000 (fun rr s10 wq => ∃ i, i + rr = 1000 ∧ OutR w cb g inn a i s10 wq)
  case atStart => exact ⟨0, by omega, HS0.out⟩
  case round =>
    clear HS0 r1
    obtain ⟨i, hi, hout⟩ := hrel
    obtain ⟨q, c, hsea, hiq, ⟨ad, cap, rfl, hq⟩, hdn⟩ := hout
    have HSEA : Hid (Sea w wr cb g inn a q c) := hsea
    have HDN : Hid (Dn g inn q i) := hdn
    have hql := hsea.len
    obtain ⟨ln, hln⟩ : ∃ ln, (q.drop i).length = ln := ⟨_, rfl⟩
    have HLN : Hid ((q.drop i).length = ln) := hln
    have HQ : Hid (q.drop i ≠ [] → ∃ g o, ad = some ⟨g, o, none⟩ ∧ Que wr w.heap.size g o cap (q.drop i)) := hq
    rw [hln]
    obtain ⟨wy, hwy⟩ : ∃ wy, wy = wr := ⟨_, rfl⟩
    subst hwy
    obtain ⟨gk1, hgk1⟩ : ∃ gk1, gk1 = gk := ⟨_, rfl⟩
    subst hgk1
    clear hsea hdn hq hln
    by_cases hpos : 0 < ln
    · -- a place is at its turn
      have hlnq : ln = q.length - i := by have := HLN.out; simp at this; omega
      have hiq2 : i < q.length := by omega
      have hne : q.drop i ≠ [] := fun e => by have := HLN.out; rw [e] at this; simp at this; omega
      obtain ⟨gq, o, had, hque⟩ := HQ.out hne
      subst had
      obtain ⟨x, hx⟩ : ∃ x, q[i]? = some x := ⟨_, List.getElem?_eq_getElem (by omega)⟩
      have hx0 := HSEA.out.rng x (List.mem_of_getElem? hx)
      have hc10 : wy.cell? ⟨gq, o, none⟩ = some (.int .i64 x) := by
        have := hque.got 0 x (by rw [List.getElem?_drop]; simpa using hx)
        simpa using this
      have hA := HN.out.below HSEA.out.bel
      have hp0 : wy.cell? ⟨p, 0, none⟩ = some (.map (some lm)) := by simp [World.cell?, hA.net.hp]
      obtain ⟨va, vc, hv⟩ := (hA.lv.row x).slice_len
      obtain ⟨m, hm⟩ : ∃ m, (g x).length = m := ⟨_, rfl⟩
      rw [hm] at hv
      have lk : ∀ n, (Instr.lookup 159 (.map (some lm)) (.int .i64 x) false).run Tryd.prog (wy.drewN n) = .ok (.slice va m vc) (wy.drewN n) := fun n => by
        rw [← hv]
        exact (hA.below (below_drewN (Below.refl _ _) n)).lv.look (wf_small hx0.1 (by omega))
      have HM : Hid ((g x).length = m) := hm
      have HV : Hid (f x = .slice va m vc) := hv
      have hml : m ≤ 1000 := by rw [← hm]; exact HG.out.2.1 x
      have HX : Hid (q[i]? = some x) := hx
      have HQUE : Hid (Que wy w.heap.size gq o cap (q.drop i)) := hque
      have HL2 : Hid (ln = q.length - i) := hlnq
      clear hA hv hm hx hque hne HQ hlnq
      go_wp2_with fail
      go_quiet (fail)
      go_wp2_with fail
      have HIN : Hid (InR w cb g inn a i x 0 (.slice (some ⟨gq, o, none⟩) ln cap) (wy.drewN nq)) := by
        have hb := below_drewN (Below.refl wy.heap.size wy) nq
        rw [HL2.out]
        exact ⟨q, c, gq, o, cap, HSEA.out.below hb, HX.out, rfl, HQUE.out.kept (grown_below hb) (by simp), HDN.out, fun s hs => by simp at hs⟩
      clear HSEA HDN HLN HX HQUE HL2 lk hc10 hp0
      obtain ⟨wz, hwz⟩ : ∃ wz, wy.drewN nq = wz := ⟨_, rfl⟩
      rw [hwz] at HIN ⊢
      clear hwz
      go_loopg [10, 39] m (fun rr s10 s39 wq => ∃ j : Nat, s39 = .int .i64 j ∧ j + rr = m ∧ InR w cb g inn a i x j s10 wq)
      case atStart => exact ⟨0, rfl, by omega, HIN.out⟩
      case round =>
        clear HIN
        obtain ⟨j, rfl, hj, hin⟩ := hrel
        have HIN : Hid (InR w cb g inn a i x j u10 wr) := hin
        clear hin
        by_cases hjm : j < m
        · obtain ⟨q', c', gq', o', cap', hsea, hx, hu, hque, hdn, hjj⟩ := HIN.out
          subst hu
          obtain ⟨⟨y0, y1, y2⟩, hs⟩ : ∃ s : Stp, (g x)[j]? = some s := ⟨_, List.getElem?_eq_getElem (by rw [HM.out]; exact hjm)⟩
          have hsg := List.mem_of_getElem? hs
          obtain ⟨hsD, hsx⟩ := (HG.out.1 x _).1 hsg
          have htt : 0 ≤ y2 ∧ y2 < 1000 := HG.out.2.2 _ hsD
          have hA := HN.out.below hsea.bel
          obtain ⟨gw, hva⟩ : ∃ gw, va = some ⟨gw, 0, none⟩ := by
            rcases (hA.lv.row x).shape with ⟨_, e⟩ | ⟨gw, cap, e, _⟩
            · rw [e] at hs; simp at hs
            · rw [HV.out] at e
              injection e with e1 _ _
              exact ⟨gw, e1⟩
          subst hva
          obtain ⟨r0, r1, r2⟩ := (hA.lv.row x).at (g := gw) (by rw [HV.out]; rfl) hs
          simp only at r0 r1 r2
          have hbW : Below wr.heap.size wr (wr.alloc (.cells #[.int .i64 y0, .int .i64 y1, .int .i64 y2] 136)) := (Below.refl _ _).alloc (Nat.le_refl _) _
          have lk := ((hsea.below hbW).look htt.1 htt.2).1
          have HSK : Hid ((inn (y0, y1, y2) = true → y2 ∈ q') → ∀ w', Below wr.heap.size wr w' → InR w cb g inn a i x (j + 1) (.slice (some ⟨gq', o', none⟩) (q'.length - i) cap') w') := fun hn w' hb => InR.skip hsea hx hque hdn hjj hs hn hb
          obtain ⟨lq, hlq⟩ : ∃ lq, q'.length - i = lq := ⟨_, rfl⟩
          rw [hlq] at HSK
          have HLQ : Hid (q'.length - i = lq) := hlq
          have HSEA : Hid (Sea w wr cb g inn a q' c') := hsea
          have HREST : Hid (q'[i]? = some x ∧ Que wr w.heap.size gq' o' cap' (q'.drop i) ∧ Dn g inn q' i ∧ (∀ s ∈ (g x).take j, inn s = true → tt s ∈ q') ∧ (g x)[j]? = some (y0, y1, y2) ∧ (y0, y1, y2) ∈ D ∧ y1 = x ∧ i < q'.length) := ⟨hx, hque, hdn, hjj, hs, hsD, hsx, (List.getElem?_eq_some_iff.1 hx).1⟩
          rw [hlq]
          have HBX : Hid (∀ t : Stp, ((wr.alloc (.cells #[.int .i64 y0, .int .i64 y1, .int .i64 y2] 136)).alloc (.cells #[.int .i64 t.1, .int .i64 t.2.1, .int .i64 t.2.2] 136)).heap[wr.heap.size]? = some (.cells #[.int .i64 y0, .int .i64 y1, .int .i64 y2] 136)) := fun t => heap_alloc2_old wr _ _
          have HBB : Hid (∀ t : Stp, Below wr.heap.size wr ((wr.alloc (.cells #[.int .i64 y0, .int .i64 y1, .int .i64 y2] 136)).alloc (.cells #[.int .i64 t.1, .int .i64 t.2.1, .int .i64 t.2.2] 136))) := fun t => hbW.alloc (by simp) _
          clear hx hque hdn hjj hs hsg hsD hsx hA hbW hsea hlq HIN
          cases hc : c' y2 with
          | some t =>
            as_aux_lemma =>
            obtain ⟨t0, t1, t2⟩ := t
            have HE : Hid _ := HSK.out (fun _ => (HSEA.out.has y2).1 (by rw [hc]; rfl)) _ (HBB.out (t0, t1, t2))
            rw [hc] at lk
            unfold vS at lk
            simp only [Option.getD, Option.isSome] at lk HE
            clear hc HSK HREST HSEA HBX HBB HLQ
            go_wp2_with fail
            go_roundg (gk - 1)
            case measure => omega
            case rel => exact ⟨j + 1, by go_num, by omega, HE.out⟩
          | none =>
            obtain ⟨W2, hW2⟩ : ∃ W2, W2 = (wr.alloc (.cells #[.int .i64 y0, .int .i64 y1, .int .i64 y2] 136)).alloc (.cells #[.int .i64 0, .int .i64 0, .int .i64 0] 136) := ⟨_, rfl⟩
            have hbW2 : Below wr.heap.size wr W2 := by rw [hW2]; exact HBB.out (0, 0, 0)
            have hbx : W2.heap[wr.heap.size]? = some (.cells #[.int .i64 y0, .int .i64 y1, .int .i64 y2] 136) := by rw [hW2]; exact HBX.out (0, 0, 0)
            have p0 : W2.cell? ⟨wr.heap.size, 0, none⟩ = some (.int .i64 y0) := by simp [World.cell?, hbx]
            have p1 : W2.cell? ⟨wr.heap.size, 1, none⟩ = some (.int .i64 y1) := by simp [World.cell?, hbx]
            have p2 : W2.cell? ⟨wr.heap.size, 2, none⟩ = some (.int .i64 y2) := by simp [World.cell?, hbx]
            have HW2 : Hid ((wr.alloc (.cells #[.int .i64 y0, .int .i64 y1, .int .i64 y2] 136)).alloc (.cells #[.int .i64 0, .int .i64 0, .int .i64 0] 136) = W2) := hW2.symm
            have hbel : Below w.heap.size w W2 := HSEA.out.bel.trans (hbW2.mono HSEA.out.bel.size)
            have HC : Hid _ := HF.out W2 (y0, y1, y2) HREST.out.2.2.2.2.2.1 hbel
            have HB2 : Hid (Below wr.heap.size wr W2) := hbW2
            rw [hc] at lk
            unfold vS at lk HC
            simp only [Option.getD, Option.isSome] at lk
            have HCN : Hid (c' y2 = none) := hc
            clear hc HBX HBB hW2 hbW2 hbx hbel
            go_wp2_with fail
            rw [HW2.out]
            refine Calls.mono HC.out ?_
            rintro e w3 ⟨rfl, hb3⟩
            have HB3 : Hid (Below wr.heap.size wr w3) := HB2.out.trans (hb3.mono HB2.out.size)
            have q0 := cell_below p0 hb3
            have q1 := cell_below p1 hb3
            have q2 := cell_below p2 hb3
            clear p0 p1 p2 lk hb3 HC r0 r1 r2
            cases hin : inn (y0, y1, y2) with
            | false =>
              as_aux_lemma =>
              have HE : Hid _ := HSK.out (fun h => by rw [hin] at h; cases h) w3 HB3.out
              clear hin HSK HREST HSEA HLQ q0 q1 q2
              go_wp2_with fail
              go_roundg (gk - 1)
              case measure => omega
              case rel => exact ⟨j + 1, by go_num, by omega, HE.out⟩
            | true =>
              as_aux_lemma =>
              obtain ⟨h1, h2, h3, h4, h5, h6, h7, h8⟩ := HREST.out
              obtain ⟨w4, u4, g4, w6, v6, g6, o6, cap6, a6, e6, s6, q6⟩ := sea_more (i := i) (s := (y0, y1, y2)) (HSEA.out.below HB3.out) (h2.kept (grown_below HB3.out) (by simp)) (by rw [h1]; exact congrArg some h7.symm) (by rw [show fr (y0, y1, y2) = x from h7]; exact List.mem_of_getElem? h5) hin HCN.out htt.1 htt.2
              have hbc : wr.heap.size ≠ cb := by
                obtain ⟨N, C, hcm, _⟩ := (HSEA.out.below HB3.out).cm
                exact hcm.ne_cells q0
              have p2 := keep_cell g4 hbc q2
              have HE : Hid (InR w cb g inn a i x (j + 1) (.slice (some ⟨g6, o6, none⟩) (lq + 1) cap6) w6) := by
                have := InR.more (s := (y0, y1, y2)) h1 h3 h4 h5 s6 q6
                rw [show q'.length + 1 - i = lq + 1 by have := HLQ.out; omega] at this
                exact this
              rw [show q'.length + 1 - i = lq + 1 by have := HLQ.out; omega] at e6
              rw [HLQ.out] at a6
              subst e6
              have HR : Hid (_ = _) := a6
              unfold vS tt at u4
              unfold tt at HR
              simp only at u4 HR
              clear h1 h2 h3 h4 h5 h6 h7 h8 hin g4 s6 q6 a6 HSK HREST HSEA HLQ HCN
              go_wp2_with (at_builtin; refine Lib.wpList_append_run _ rfl _ _ _ _ rfl _ _ rfl rfl _ _ HR.out ?_)
              go_roundg (gk - 1)
              case measure => omega
              case rel => exact ⟨j + 1, by go_num, by omega, HE.out⟩
        · have hje : m = j := by omega
          subst hje
          obtain ⟨gq', o', len, cap', hu, hlc, hout, hout0⟩ := HIN.out.done (by rw [HM.out]; exact Nat.le_refl _)
          subst hu
          by_cases hcz : cap' = 0
          · as_aux_lemma =>
            have hlz : len = 0 := by omega
            subst hcz
            subst hlz
            have HO : Hid (OutR w cb g inn a (i + 1) (.slice (some ⟨gq', o', none⟩) 0 0) wr) := hout0 rfl _ _
            clear HIN hout hout0
            go_wp2_with fail
            go_roundg (gk1 - 1)
            case measure => omega
            case rel => exact ⟨i + 1, by omega, HO.out⟩
          · as_aux_lemma =>
            have HO : Hid (OutR w cb g inn a (i + 1) (.slice (some ⟨gq', o' + 1, none⟩) len cap') wr) := hout
            clear HIN hout hout0
            go_wp2_with fail
            go_roundg (gk1 - 1)
            case measure => omega
            case rel => exact ⟨i + 1, by omega, HO.out⟩
    · have hln0 : ln = 0 := by omega
      subst hln0
      have hiq2 : i = q.length := by have := HLN.out; simp at this; omega
      subst hiq2
      have lk := (HSEA.out.look hb0 hb1).1
      cases hcb2 : c b with
      | none =>
        as_aux_lemma =>
        have HCL : Hid _ := sea_closed HSEA.out HDN.out (D := D) (fun s hs => (HG.out.1 _ _).2 ⟨hs, rfl⟩) hcb2
        rw [hcb2] at lk
        unfold vS at lk
        simp only [Option.getD, Option.isSome] at lk
        clear hcb2
        go_wp2_with fail
        go_ret
        refine ⟨_, [], rfl, HSEA.out.bel.trans ((Below.refl _ _).alloc HSEA.out.bel.size _), World.ownsRow_nil _ _ _ _, .inr ⟨rfl, HCL.out⟩⟩
      | some t =>
        as_aux_lemma =>
        obtain ⟨t0, t1, t2⟩ := t
        rw [hcb2] at lk
        unfold vS at lk
        simp only [Option.getD, Option.isSome] at lk
        obtain ⟨k0, hk0, hk0e⟩ := List.mem_iff_getElem.1 ((HSEA.out.has b).1 (by rw [hcb2]; rfl))
        have HK0 : Hid (Back g inn q b b k0 []) := Back.start (by rw [List.getElem?_eq_getElem hk0, hk0e])
        have HS5 : Hid (Sea w (wy.alloc (.cells #[.int .i64 t0, .int .i64 t1, .int .i64 t2] 136)) cb g inn a q c) := HSEA.out.below ((Below.refl _ _).alloc (Nat.le_refl _) _)
        clear hcb2 hk0 hk0e HSEA
        go_wp2_with fail
        go_loopg [17, 18] k0 (fun rr s17 s18 wq => ∃ at_ P, s18 = .int .i64 at_ ∧ Back g inn q at_ b rr P ∧ Sea w wq cb g inn a q c ∧ G.Owns wq (cb + 1) 136 s17 P)
        case atStart => exact ⟨b, [], rfl, HK0.out, HS5.out, World.ownsRow_nil _ _ _ _⟩
        case round =>
          clear HK0 HS5 lk
          obtain ⟨at_, P, rfl, hback, hsea, hown⟩ := hrel
          have HB : Hid (Back g inn q at_ b gk P ∧ Sea w wr cb g inn a q c ∧ G.Owns wr (cb + 1) 136 u17 P) := ⟨hback, hsea, hown⟩
          have hat := hsea.rng at_ (List.mem_of_getElem? hback.here)
          have hPl : P.length ≤ 500 := Nat.le_trans (nodup_sub P D hback.nd (fun s hs => ((HG.out.1 _ _).1 (hback.good s hs).2).1)) hDl
          clear hback hown
          by_cases hae : at_ = a
          · as_aux_lemma =>
            subst hae
            have HRV : Hid _ := rev_any wr (cb + 1) u17 P HB.out.2.2 (by omega)
            go_wp2_with fail
            refine Calls.mono HRV.out ?_
            rintro e w5 ⟨rfl, ho5, hg5⟩
            have HP : Hid (Below w.heap.size w w5 ∧ G.Owns w5 w.heap.size 136 u17 P.reverse) := by
              have h1 := (HB.out.2.1.row HB.out.2.2 hg5).bel
              exact ⟨h1, ho5.mono (by rw [← HCB.out]; omega)⟩
            clear ho5 hg5 HRV
            go_wp2_with fail
            go_ret
            refine ⟨_, P.reverse, rfl, HP.out.1, HP.out.2, .inl ⟨HB.out.1.walk, (List.pairwise_reverse.2 (HB.out.1.nd.imp (fun h => h.symm))), fun s hs => ?_⟩⟩
            have := HB.out.1.good s (List.mem_reverse.1 hs)
            exact ⟨((HG.out.1 _ _).1 this.2).1, this.1⟩
          · as_aux_lemma =>
            obtain ⟨k', hk', hback'⟩ := Back.step HB.out.2.1.bfs HB.out.1 hae
            have lk := (hsea.look hat.1 hat.2).2
            obtain ⟨t, ht⟩ : ∃ t, (c at_).getD (0, 0, 0) = t := ⟨_, rfl⟩
            rw [ht] at lk
            simp only [ht] at hback'
            obtain ⟨v6, w6, a6, o6, g6⟩ := more_S 137 wr (cb + 1) u17 P t HB.out.2.2 (by
              obtain ⟨N, C, hcm, _⟩ := hsea.cm
              obtain ⟨es, clock, hb, _⟩ := hcm.mp
              exact lt_of_some hb) (by omega)
            have hsea6 := hsea.row HB.out.2.2 g6
            have lk6 := (hsea6.look hat.1 hat.2).2
            rw [ht] at lk6
            have HE : Hid (Back g inn q (fr t) b k' (P ++ [t]) ∧ Sea w w6 cb g inn a q c ∧ G.Owns w6 (cb + 1) 136 v6 (P ++ [t])) := ⟨hback', hsea6, o6⟩
            have HR : Hid (_ = _) := a6
            obtain ⟨t0, t1, t2⟩ := t
            unfold vS at lk lk6
            unfold fr at HE
            simp only at lk lk6 HR HE
            have hb1 : (at_ != a) = true := by simp [hae]
            have hfd := field146
            clear ht a6 o6 g6 hsea6 hback' hsea HB
            go_wp2_with (at_builtin; refine Lib.wpList_append_run _ rfl _ _ _ _ rfl _ _ rfl rfl _ _ HR.out ?_)
            go_roundg k'
            case measure => exact hk'
            case rel => exact ⟨t1, _, rfl, HE.out.1, HE.out.2.1, HE.out.2.2⟩

end Go.Proofs.YtpkdpddillebfaaDoor.S
