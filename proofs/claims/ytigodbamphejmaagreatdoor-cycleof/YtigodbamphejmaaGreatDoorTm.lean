/- The law's walk: what goes round each edge, and which part together. -/
import Derived.Test.YtigodbamphejmaaGreatDoorTl
namespace Go.Proofs.YtigodbamphejmaaGreatDoor.S
open Go.RowKit Go.WideMaps Go.Maps

set_option maxHeartbeats 8000000 in
set_option maxRecDepth 100000 in
theorem cycleof_in (n : Nat) (a : Option Addr) (bl off m cap : Nat) (ps : Nat → Int × Int) (w : World) (hn : n ≤ 16) (hm : m ≤ 30) (hgl : G.Gl w) (ha : 0 < m → a = some ⟨bl, off, none⟩) (hp : PairsAt w bl off m ps) (hbl : 0 < m → bl < w.heap.size) :
    Calls Tryz.prog 5 #[.int .i64 (n : Int), .slice a m cap] w fun e w' => e = .returned (.bool true) ∧ Below w.heap.size w w' := by
  have HGL : Hid (G.Gl w) := hgl
  have HMD : Hid _ := made_in n a bl off m cap ps w hn (by omega) ha hp hbl
  have h30 : ¬ ((30 : Int) < (m : Int)) := by omega
  clear hgl ha hp hbl
  go_enter Tryz.func5, Tryz.ntmps5
  go_wp2_with fail
  refine Calls.mono HMD.out ?_
  rintro e w1 ⟨p, q, v, u, R, L, rfl, hmk⟩
  have hed := hmk.ed (by omega)
  have hLl : L.length ≤ 30 := Nat.le_trans hmk.len hm
  have HM : Hid (Mk w w1 p q n m v u R L) := hmk
  have hok0 := ok_of hed hn (by omega)
  have hids : ∀ e ∈ L, e.1 ≠ 99 := fun e he => by have := hed.ids e he; omega
  have hgr := gr_all L hok0.nd hok0.inn.nodes
  obtain ⟨t, ht⟩ : ∃ t, (grw n L).1 = t := ⟨_, rfl⟩
  obtain ⟨o, ho⟩ : ∃ o, (grw n L).2 = o := ⟨_, rfl⟩
  rw [ht, ho] at hgr
  obtain ⟨f, hf⟩ : ∃ f, covN n t o = f := ⟨_, rfl⟩
  obtain ⟨L3, hL3⟩ : ∃ L3, lab3 n L (o ++ t) f = L3 := ⟨_, rfl⟩
  have hpm : ∀ e, e ∈ R ↔ e ∈ L := fun e => hmk.inv.perm.mem_iff
  have hRl : R.length ≤ 30 := by rw [hmk.inv.perm.length_eq]; exact hLl
  have HO : Hid (Ok n L ∧ Gr n L t o ∧ (∀ e, e ∈ R ↔ e ∈ L) ∧ R.length ≤ 30 ∧ L.length ≤ 30 ∧ ∀ e ∈ L, e.1 ≠ 99) := ⟨hok0, hgr, hpm, hRl, hLl, hids⟩
  have HS : Hid ((∀ e, e ∈ o ++ t ↔ e ∈ L) ∧ (o ++ t).length ≤ 30 ∧ o.length ≤ 30) := ⟨fun e => by rw [List.mem_append, hgr.mem e]; exact or_comm, by rw [List.length_append]; have := hgr.len; omega, by have := hgr.len; omega⟩
  have HN : Hid ((grw n L).1 = t ∧ (grw n L).2 = o ∧ covN n t o = f ∧ lab3 n L (o ++ t) f = L3) := ⟨ht, ho, hf, hL3⟩
  have HFB : Hid (∀ d, f d < 18446744073709551616) := fun d => by rw [← hf]; exact covN_lt n t o d (by have := HS.out.2.2; omega)
  have HOF : Hid (Calls Tryz.prog 29 #[.pointer (some ⟨p, 0, none⟩)] w1 fun e w' => ∃ c mb q3 bq, e = .returned (.pointer (some ⟨c, 0, none⟩)) ∧ Cv w1 w' c mb o.length (o ++ t) f ∧ w'.heap[c]? = some (.cells #[.int .i64 (o.length : Int), .map (some mb), .pointer (some ⟨q3, 0, none⟩)] 98) ∧ SetsAt w' q3 bq L3) := by
    have := cof_any n w.heap.size p v L L3 w1 HM.out.two.ga hok0 (fun W c mb hcv => by
      rw [ht, ho, hf] at hcv
      have h2 := unparted_any n w.heap.size p c mb o.length v L (o ++ t) f w1 W (HM.out.two.ga.below hcv.below) hcv hok0 HS.out.1 HFB.out (by have := HS.out.2.1; omega)
      rw [hL3] at h2
      exact h2)
    rw [ht, ho, hf] at this
    exact this
  clear hmk hed hLl hok0 hids hgr ht ho hf hL3 hpm hRl HMD
  go_wp2_with fail
  refine Calls.mono HOF.out ?_
  rintro e w2 ⟨c, mb, q3, bq, rfl, hcv, hc98, hsets⟩
  have hup : (L.map (·.1)).Pairwise (· < ·) := List.pairwise_map.2 HM.out.inv.up
  have HC2 : Hid (Cx w2 c mb o.length (o ++ t) L f ∧ w2.heap[c]? = some (.cells #[.int .i64 (o.length : Int), .map (some mb), .pointer (some ⟨q3, 0, none⟩)] 98) ∧ SetsAt w2 q3 bq L3 ∧ Below w1.heap.size w1 w2 ∧ Below w.heap.size w w2) := ⟨hcv.cx HS.out.1 hup HO.out.1.wf (by have := HO.out.2.2.2.2.1; omega) (by have := HS.out.2.1; omega), hc98, hsets, hcv.below, HM.out.two.below.trans (hcv.below.mono HM.out.two.below.size)⟩
  clear hcv hc98 hsets HOF hup
  go_wp2_with fail
  have hrg := rings_doc n w.heap.size q u R L w2 (HM.out.two.ra.below HC2.out.2.2.2.1) HM.out.inv (by have := HO.out.2.2.2.2.1; omega) (by omega) HO.out.1.inn HO.out.1.nd HO.out.1.one
  rw [HN.out.1, HN.out.2.1] at hrg
  refine Calls.mono hrg ?_
  rintro e w3 ⟨v3, base, P, rfl, hRw, hPm, hb3⟩
  obtain ⟨no, hno⟩ : ∃ no, o.length = no := ⟨_, rfl⟩
  have hno30 : no ≤ 30 := by rw [← hno]; exact HS.out.2.2
  have hPl : P.length = no := by
    have := congrArg List.length hPm
    rw [List.length_map, List.length_map, hno] at this
    exact this
  obtain ⟨a3, k3, hv3⟩ : ∃ a3 k3, v3 = .slice a3 no k3 := by
    rcases hRw.own.2 with ⟨h1, h2⟩ | ⟨g, cap, cur, h1, _⟩
    · exact ⟨none, 0, by rw [h1, ← hPl, h2]⟩
    · exact ⟨_, cap, by rw [h1, hPl]⟩
  subst hv3
  obtain ⟨W3, hW3⟩ : ∃ W3, W3 = w3.alloc (.cells #[.slice a3 no k3] 42) := ⟨_, rfl⟩
  have HW3 : Hid (w3.alloc (.cells #[.slice a3 no k3] 42) = W3) := hW3.symm
  have hbW : Below w3.heap.size w3 W3 := by rw [hW3]; exact (Below.refl _ _).alloc (Nat.le_refl _) _
  have hbX : W3.cell? ⟨w3.heap.size, 0, none⟩ = some (.slice a3 no k3) := by rw [hW3]; simp
  have hb23 : Below w2.heap.size w2 W3 := hb3.trans (hbW.mono hb3.size)
  have HK : Hid (Cx W3 c mb o.length (o ++ t) L f ∧ W3.heap[c]? = some (.cells #[.int .i64 (o.length : Int), .map (some mb), .pointer (some ⟨q3, 0, none⟩)] 98) ∧ SetsAt W3 q3 bq L3 ∧ Below w1.heap.size w1 W3 ∧ Below w.heap.size w W3 ∧ Rw W3 base (.slice a3 no k3) P ∧ W3.cell? ⟨w3.heap.size, 0, none⟩ = some (.slice a3 no k3)) :=
    ⟨HC2.out.1.below hb23, (hb23.block c (lt_of_some HC2.out.2.1)).trans HC2.out.2.1, HC2.out.2.2.1.below hb23 HC2.out.2.2.1.plt HC2.out.2.2.1.blt, HC2.out.2.2.2.1.trans (hb23.mono HC2.out.2.2.2.1.size), HC2.out.2.2.2.2.trans (hb23.mono HC2.out.2.2.2.2.size), hRw.below hbW, hbX⟩
  have HP : Hid (P.map (·.2.2) = o.map (ringOf n t) ∧ P.length = no ∧ o.length = no) := ⟨hPm, hPl, hno⟩
  clear hRw hPm hb3 hbW hb23 HC2 hW3 hPl hno
  -- the questions
  have HG : Hid (∀ W, Below W3.heap.size W3 W → G.GAt W w.heap.size 33 55 q (n : Int) u R ∧ Cx W c mb no (o ++ t) L f ∧ W.cell? ⟨w3.heap.size, 0, none⟩ = some (.slice a3 no k3)) := fun W hW => by
    have h1 := HK.out.2.2.2.1.trans (hW.mono HK.out.2.2.2.1.size)
    refine ⟨HM.out.two.ra.below h1, ?_, cell_below HK.out.2.2.2.2.2.2 hW⟩
    have h2 := HK.out.1.below hW
    rw [HP.out.2.2] at h2
    exact h2
  obtain ⟨nb, hnb⟩ : ∃ nb, (L.filter fun e => decide (f e = 0)).length = nb := ⟨_, rfl⟩
  obtain ⟨F, hF⟩ : ∃ F : Nat → Int, (fun j => ((L.filter fun e => decide (f e = 0)).map (·.1)).getD j 0) = F := ⟨_, rfl⟩
  have hnb30 : nb ≤ 30 := by rw [← hnb]; exact Nat.le_trans (List.length_filter_le _ _) HO.out.2.2.2.2.1
  have H32 : Hid (∀ W, Below W3.heap.size W3 W → Calls Tryz.prog 32 #[.pointer (some ⟨c, 0, none⟩)] W fun e w' => ∃ a k, e = .returned (.slice a nb k) ∧ w'.cell? ⟨w3.heap.size, 0, none⟩ = some (.slice a3 no k3) ∧ Below W3.heap.size W3 w' ∧ RdI w' a nb F) := fun W hW => by
    refine (cbridges_any c mb no (o ++ t) L f W (HG.out W hW).2.1).mono ?_
    rintro e w' ⟨v', rfl, hrow, hb'⟩
    have h2 := hW.trans (hb'.mono hW.size)
    rw [← rowZ_ids] at hrow
    have hrow' : w'.ownsRow W.heap.size 3 1 v' ((L.filter fun e => decide (f e = 0)).map (·.1)).length (rowZ ((L.filter fun e => decide (f e = 0)).map (·.1))) := by rw [List.length_map]; exact hrow
    obtain ⟨a', k', rfl, hrd⟩ := rdI_of (m := nb) (by rw [List.length_map]; exact hnb) hrow'
    rw [hF] at hrd
    exact ⟨a', k', rfl, (HG.out w' h2).2.2, h2, hrd⟩
  have H10 : Hid (∀ W, Below W3.heap.size W3 W → Calls Tryz.prog 10 #[.pointer (some ⟨q, 0, none⟩)] W fun e w' => ∃ a k, e = .returned (.slice a nb k) ∧ w'.cell? ⟨w3.heap.size, 0, none⟩ = some (.slice a3 no k3) ∧ Below W3.heap.size W3 w' ∧ Below W.heap.size W w' ∧ RdI w' a nb F) := fun W hW => by
    refine (bridges_doc (Bs := L.filter fun e => decide (f e = 0)) n w.heap.size q u R L W (HG.out W hW).1 HM.out.inv (by have := HO.out.2.2.2.2.1; omega) (by omega) HO.out.1.inn (fun e he => ?_)).mono ?_
    · rw [← rest_br HO.out.1.one HO.out.2.2.1 he, ← covN_br HO.out.2.1 HO.out.1.inn he, HN.out.2.2.1, List.mem_filter, decide_eq_true_iff]
      exact ⟨fun h => h.2, fun h => ⟨he, h⟩⟩
    · rintro e w' ⟨v', rfl, hrow, hb'⟩
      have h2 := hW.trans (hb'.mono hW.size)
      rw [idsOf_filter] at hrow
      obtain ⟨a', k', rfl, hrd⟩ := rdI_of (m := nb) (by rw [List.length_map]; exact hnb) hrow
      rw [hF] at hrd
      exact ⟨a', k', rfl, (HG.out w' h2).2.2, h2, hb', hrd⟩
  have H11 : Hid (∀ W a1 k1 a2 k2, Below W3.heap.size W3 W → RdI W a1 nb F → RdI W a2 nb F → Calls Tryz.prog 11 #[.slice a1 nb k1, .slice a2 nb k2] W fun e w' => e = .returned (.bool true) ∧ w'.cell? ⟨w3.heap.size, 0, none⟩ = some (.slice a3 no k3) ∧ Below W3.heap.size W3 w') := fun W a1 k1 a2 k2 hW h1 h2 => by
    refine (same_ints a1 a2 nb k1 k2 F W (fun hp => ?_) (by omega)).mono ?_
    · obtain ⟨g1, e1, _, f1⟩ := h1 hp
      obtain ⟨g2, e2, _, f2⟩ := h2 hp
      exact ⟨g1, g2, e1, e2, f1, f2⟩
    · rintro e w' ⟨rfl, k, hw⟩
      have h3 : Below W3.heap.size W3 w' := by rw [hw]; exact below_drewN hW k
      exact ⟨rfl, (HG.out w' h3).2.2, h3⟩
  obtain ⟨M, hM⟩ : ∃ M, pairsOf L (dq n R) = M := ⟨_, rfl⟩
  obtain ⟨np, hnp⟩ : ∃ np, M.length = np := ⟨_, rfl⟩
  have hnp30 : np ≤ 900 := by
    rw [← hnp, ← hM]
    have h1 := pairsOf_len (dq n R) L
    have h3 := Nat.mul_le_mul HO.out.2.2.2.2.1 HO.out.2.2.2.2.1
    omega
  have HMM : Hid (pairsOf L (dq n R) = M ∧ M.length = np) := ⟨hM, hnp⟩
  have H34 : Hid (∀ W, Below W3.heap.size W3 W → Calls Tryz.prog 34 #[.pointer (some ⟨c, 0, none⟩)] W fun e w' => ∃ a k, e = .returned (.slice a np k) ∧ w'.cell? ⟨w3.heap.size, 0, none⟩ = some (.slice a3 no k3) ∧ Below W3.heap.size W3 w' ∧ OwnsP w' 0 (.slice a np k) M) := fun W hW => by
    refine (cpairs_any c mb no (o ++ t) L f W (HG.out W hW).2.1).mono ?_
    rintro e w' ⟨v', rfl, hrow, hb'⟩
    have h2 := hW.trans (hb'.mono hW.size)
    have h3 := pairs_eq HO.out.2.1 HO.out.1 HO.out.2.2.1
    rw [HN.out.2.2.1, hM] at h3
    rw [h3] at hrow
    obtain ⟨a', k', hv', _⟩ := hrow.shape
    rw [hnp] at hv'
    subst hv'
    exact ⟨a', k', rfl, (HG.out w' h2).2.2, h2, hrow.mono (Nat.zero_le _)⟩
  have H35 : Hid (∀ W, Below W3.heap.size W3 W → Calls Tryz.prog 35 #[.pointer (some ⟨q, 0, none⟩)] W fun e w' => ∃ a k, e = .returned (.slice a np k) ∧ w'.cell? ⟨w3.heap.size, 0, none⟩ = some (.slice a3 no k3) ∧ Below W3.heap.size W3 w' ∧ Below W.heap.size W w' ∧ OwnsP w' 0 (.slice a np k) M) := fun W hW => by
    refine (pairs_doc n w.heap.size q u R L W (HG.out W hW).1 HM.out.inv (by have := HO.out.2.2.2.2.1; omega) (by omega) HO.out.1.inn).mono ?_
    rintro e w' ⟨v', rfl, hrow, hb'⟩
    have h2 := hW.trans (hb'.mono hW.size)
    rw [hM] at hrow
    obtain ⟨a', k', hv', _⟩ := hrow.shape
    rw [hnp] at hv'
    subst hv'
    exact ⟨a', k', rfl, (HG.out w' h2).2.2, h2, hb', hrow.mono (Nat.zero_le _)⟩
  have H33 : Hid (∀ W a1 k1 a2 k2, Below W3.heap.size W3 W → OwnsP W 0 (.slice a1 np k1) M → OwnsP W 0 (.slice a2 np k2) M → Calls Tryz.prog 33 #[.slice a1 np k1, .slice a2 np k2] W fun e w' => e = .returned (.bool true) ∧ w'.cell? ⟨w3.heap.size, 0, none⟩ = some (.slice a3 no k3) ∧ Below W3.heap.size W3 w') := fun W a1 k1 a2 k2 hW h1 h2 => by
    refine (samePairs_n a1 a2 k1 k2 np M W hnp (by omega) h1 h2).mono ?_
    rintro e w' ⟨rfl, k, hw⟩
    have h3 : Below W3.heap.size W3 w' := by rw [hw]; exact below_drewN hW k
    exact ⟨rfl, (HG.out w' h3).2.2, h3⟩
  obtain ⟨Gs, hGs⟩ : ∃ Gs, grps L3 n = Gs := ⟨_, rfl⟩
  obtain ⟨nt, hnt⟩ : ∃ nt, Gs.length = nt := ⟨_, rfl⟩
  have hgd3 : Good n L3 := by rw [← HN.out.2.2.2]; exact lab3_good _ _ _
  have HGL3 : Hid (nt ≤ 16 ∧ ∀ i, (Gs.getD i []).length ≤ 16) := ⟨by
    have := grps_le L3 n
    rw [hGs, hnt] at this
    omega, fun i => by
    have := grps_small hgd3 i
    rw [hGs] at this
    omega⟩
  have H36 : Hid (∀ W, Below W3.heap.size W3 W → Calls Tryz.prog 36 #[.pointer (some ⟨c, 0, none⟩)] W fun e w' => ∃ a k, e = .returned (.slice a nt k) ∧ w'.cell? ⟨w3.heap.size, 0, none⟩ = some (.slice a3 no k3) ∧ Below W3.heap.size W3 w' ∧ Rd w' a Gs nt) := fun W hW => by
    refine (cthrice_n c q3 bq n nt _ _ L3 Gs W ((hW.block c (lt_of_some HK.out.2.1)).trans HK.out.2.1) (HK.out.2.2.1.below hW HK.out.2.2.1.plt HK.out.2.2.1.blt) hgd3 (by omega) hGs hnt).mono ?_
    rintro e w' ⟨a', k', rfl, hr, hb'⟩
    have h2 := hW.trans (hb'.mono hW.size)
    exact ⟨a', k', rfl, (HG.out w' h2).2.2, h2, hr⟩
  have H37 : Hid (∀ W, Below W3.heap.size W3 W → Calls Tryz.prog 37 #[.pointer (some ⟨q, 0, none⟩)] W fun e w' => ∃ a k, e = .returned (.slice a nt k) ∧ w'.cell? ⟨w3.heap.size, 0, none⟩ = some (.slice a3 no k3) ∧ Below W3.heap.size W3 w' ∧ Below W.heap.size W w' ∧ Rd w' a Gs nt) := fun W hW => by
    refine (thrice_n n w.heap.size q nt u R L3 Gs W (HG.out W hW).1 HO.out.2.2.2.1 (by omega) (fun e he => HO.out.1.inn e ((HO.out.2.2.1 e).1 he)) hgd3 (fun x y hx hy => ?_) hGs hnt).mono ?_
    · rw [← HN.out.2.2.2, ← HN.out.2.2.1]
      exact thrice_eq HO.out.2.1 HO.out.1 HO.out.2.2.1 hx hy
    · rintro e w' ⟨a', k', rfl, hr, hb'⟩
      have h2 := hW.trans (hb'.mono hW.size)
      exact ⟨a', k', rfl, (HG.out w' h2).2.2, h2, hb', hr⟩
  have H15 : Hid (∀ W a1 k1 a2 k2, Below W3.heap.size W3 W → Rd W a1 Gs nt → Rd W a2 Gs nt → Calls Tryz.prog 15 #[.slice a1 nt k1, .slice a2 nt k2] W fun e w' => e = .returned (.bool true) ∧ w'.cell? ⟨w3.heap.size, 0, none⟩ = some (.slice a3 no k3) ∧ Below W3.heap.size W3 w') := fun W a1 k1 a2 k2 hW h1 h2 => by
    refine (sames_rows a1 a2 nt k1 k2 Gs W (fun hc => ?_) (by have := HGL3.out.1; omega) (fun i => Nat.le_trans (HGL3.out.2 i) (by omega))).mono ?_
    · obtain ⟨g1, e1, r1⟩ := h1 hc
      obtain ⟨g2, e2, r2⟩ := h2 hc
      exact ⟨g1, g2, e1, e2, r1, r2⟩
    · rintro e w' ⟨rfl, k, hw⟩
      have h3 : Below W3.heap.size W3 w' := by rw [hw]; exact below_drewN hW k
      exact ⟨rfl, (HG.out w' h3).2.2, h3⟩
  have H31 : Hid (∀ W, Below W3.heap.size W3 W → Calls Tryz.prog 31 #[.pointer (some ⟨c, 0, none⟩)] W fun e w' => e = .returned (.int .i64 (no : Int)) ∧ w' = W) := fun W hW => crest_any c mb no (o ++ t) f W (HG.out W hW).2.1.co
  have HBD : Hid (Below W3.heap.size W3 W3.drew) := (Below.refl _ _).drew
  have hS0 : W3.drew.cell? ⟨w3.heap.size, 0, none⟩ = some (.slice a3 no k3) := hbX
  clear hgd3 hnb hF hM hnp hGs hnt hrg
  go_upto_region 10 with fail
  rw [HW3.out]
  clear hbX
  go_cut [74] from 46 to 74 (fun s74 wx => s74 = .bool false ∧ Below W3.heap.size W3 wx)
  case first =>
    go_region_held (fun w' => w'.cell? ⟨w3.heap.size, 0, none⟩ = some (.slice a3 no k3)) (with_reducible assumption)
      (first
        | (go_at_call 31; refine Calls.mono (H31.out _ HBD.out) ?_; rintro e' w4 ⟨rfl, hw4⟩; subst hw4; clear H31)
        | (go_at_call 32; refine Calls.mono (H32.out _ HBD.out) ?_; rintro e' w5 ⟨a5, k5, rfl, hs5, hb5, hr5⟩; have H5 : Hid (Below W3.heap.size W3 w5 ∧ RdI w5 a5 nb F) := ⟨hb5, hr5⟩; clear hb5 hr5 H32)
        | (go_at_call 10; refine Calls.mono (H10.out _ H5.out.1) ?_; rintro e' w6 ⟨a6, k6, rfl, hs6, hb6, hc6, hr6⟩; have H6 : Hid (Below W3.heap.size W3 w6 ∧ RdI w6 a5 nb F ∧ RdI w6 a6 nb F) := ⟨hb6, H5.out.2.below hc6, hr6⟩; clear hb6 hc6 hr6 H10)
        | (go_at_call 11; refine Calls.mono (H11.out _ a5 k5 a6 k6 H6.out.1 H6.out.2.1 H6.out.2.2) ?_; rintro e' w7 ⟨rfl, hs7, hb7⟩; have H7 : Hid (Below W3.heap.size W3 w7) := hb7; clear hb7 H11)
        | (go_at_call 34; refine Calls.mono (H34.out _ H7.out) ?_; rintro e' w8 ⟨a8, k8, rfl, hs8, hb8, hr8⟩; have H8 : Hid (Below W3.heap.size W3 w8 ∧ OwnsP w8 0 (.slice a8 np k8) M) := ⟨hb8, hr8⟩; clear hb8 hr8 H34)
        | (go_at_call 35; refine Calls.mono (H35.out _ H8.out.1) ?_; rintro e' w9 ⟨a9, k9, rfl, hs9, hb9, hc9, hr9⟩; have H9 : Hid (Below W3.heap.size W3 w9 ∧ OwnsP w9 0 (.slice a8 np k8) M ∧ OwnsP w9 0 (.slice a9 np k9) M) := ⟨hb9, H8.out.2.below hc9, hr9⟩; clear hb9 hc9 hr9 H35)
        | (go_at_call 33; refine Calls.mono (H33.out _ a8 k8 a9 k9 H9.out.1 H9.out.2.1 H9.out.2.2) ?_; rintro e' wa ⟨rfl, hsa, hba⟩; have HA : Hid (Below W3.heap.size W3 wa) := hba; clear hba H33)
        | (go_at_call 36; refine Calls.mono (H36.out _ HA.out) ?_; rintro e' wb ⟨ab, kb, rfl, hsb, hbb, hrb⟩; have HB : Hid (Below W3.heap.size W3 wb ∧ Rd wb ab Gs nt) := ⟨hbb, hrb⟩; clear hbb hrb H36)
        | (go_at_call 37; refine Calls.mono (H37.out _ HB.out.1) ?_; rintro e' wd ⟨ad, kd, rfl, hsd, hbd, hcd, hrd⟩; have HD : Hid (Below W3.heap.size W3 wd ∧ Rd wd ab Gs nt ∧ Rd wd ad Gs nt) := ⟨hbd, HB.out.2.below hcd, hrd⟩; clear hbd hcd hrd H37)
        | (go_at_call 15; refine Calls.mono (H15.out _ ab kb ad kd HD.out.1 HD.out.2.1 HD.out.2.2) ?_; rintro e' we ⟨rfl, hse, hbe⟩; have HE : Hid (Below W3.heap.size W3 we) := hbe; clear hbe H15))
    all_goals
      go_wp2_with fail
      go_meet
      case rel => exact ⟨rfl, HE.out⟩
  case rest =>
    obtain ⟨rfl, hbc⟩ := hcut
    have HBC : Hid (Below W3.heap.size W3 wc) := hbc
    clear hbc H31 H32 H10 H11 H34 H35 H33 H36 H37 H15 HBD hS0 HMM HGL3 hnb30 hnp30
    go_wp2_with fail
    refine (G.sorted_any w.heap.size q (n : Int) u R L wc (HG.out wc HBC.out).1 HM.out.inv).mono ?_
    rintro e w5 ⟨va, rfl, hall, hb5⟩
    obtain ⟨Ba, hBa⟩ : ∃ Ba, wc.heap.size = Ba := ⟨_, rfl⟩
    rw [hBa] at hall
    obtain ⟨aa, ca, hva⟩ := hall.slice_len
    obtain ⟨len, hlen⟩ : ∃ len, L.length = len := ⟨_, rfl⟩
    have HLEN : Hid (L.length = len) := hlen
    rw [hlen] at hva
    subst hva
    have hlen30 : len ≤ 30 := by rw [← hlen]; exact HO.out.2.2.2.2.1
    have HF0 : Hid (CF w w5 c mb no (o ++ t) L f base (.slice a3 no k3) P w3.heap.size Ba (.slice aa len ca)) := by
      have h1 := HBC.out.trans (hb5.mono HBC.out.size)
      exact ⟨(HG.out w5 h1).2.1.co, HK.out.2.2.2.2.2.1.below h1, (HG.out w5 h1).2.2, hall, HK.out.2.2.2.2.1.trans (h1.mono HK.out.2.2.2.2.1.size)⟩
    have HRD : Hid (∀ W e k, CF w W c mb no (o ++ t) L f base (.slice a3 no k3) P w3.heap.size Ba (.slice aa len ca) → e ∈ L → k < no → Calls Tryz.prog 38 #[.int .i64 e.1, .int .i64 ((k : Nat) : Int), .pointer (some ⟨w3.heap.size, 0, none⟩)] W fun en w' => en = .returned (.bool (covB n t o e k)) ∧ w' = W) := fun W e k hcf he hk => by
      obtain ⟨d, hd⟩ : ∃ d, o[k]? = some d := ⟨_, List.getElem?_eq_getElem (by rw [HP.out.2.2]; exact hk)⟩
      obtain ⟨⟨ρ, κ, K⟩, hPk⟩ : ∃ p, P[k]? = some p := ⟨_, List.getElem?_eq_getElem (by rw [HP.out.2.1]; exact hk)⟩
      have hKK : K = ringOf n t d := by
        have h1 := congrArg (fun l => l[k]?) HP.out.1
        simp only [List.getElem?_map, hPk, hd, Option.map_some] at h1
        injection h1
      have hKl : K.length ≤ 1000 := by
        rw [hKK]
        unfold ringOf
        rw [List.length_cons, List.length_map]
        have h1 := List.length_filter_le (fun f => tcv n t f d) t
        have h2 := HO.out.2.1.len
        have h3 := HO.out.2.2.2.2.1
        omega
      exact round_any e.1 k w3.heap.size base ρ κ _ P K _ W hcf.rw hcf.box hPk hKl (by rw [HP.out.2.1]; omega) (by rw [hKK]; exact (ring_mem HO.out.2.1 HO.out.1 he hd).symm)
    have HCV : Hid (∀ W e, CF w W c mb no (o ++ t) L f base (.slice a3 no k3) P w3.heap.size Ba (.slice aa len ca) → e ∈ L → Calls Tryz.prog 39 #[.pointer (some ⟨c, 0, none⟩), .int .i64 e.1] W fun en w' => en = .returned (.tuple #[.int .i64 ((cnt (covB n t o e) no : Nat) : Int), .nilIface]) ∧ Below W.heap.size W w') := fun W e hcf he => by
      have h1 := covered_in c mb no (o ++ t) f e W hcf.co ((HS.out.1 e).2 he) (HO.out.1.wf e he) (HFB.out e)
      rw [← HN.out.2.2.1, pc_covN n t o e (by have := HS.out.2.2; omega), HP.out.2.2] at h1
      exact h1
    have HAL : Hid (∀ W e d, CF w W c mb no (o ++ t) L f base (.slice a3 no k3) P w3.heap.size Ba (.slice aa len ca) → e ∈ L → d ∈ L → Calls Tryz.prog 40 #[.pointer (some ⟨c, 0, none⟩), .int .i64 e.1, .int .i64 d.1] W fun en w' => en = .returned (.tuple #[.bool (allK (covB n t o e) (covB n t o d) no), .nilIface]) ∧ Below W.heap.size W w') := fun W e d hcf he hd => by
      have h1 := calike_in c mb no (o ++ t) f e d W hcf.co ((HS.out.1 e).2 he) ((HS.out.1 d).2 hd) (HO.out.1.wf e he) (HO.out.1.wf d hd)
      rw [← HN.out.2.2.1, ← allK_cov, HP.out.2.2] at h1
      exact h1
    have HOT : Hid (∀ W, CF w W c mb no (o ++ t) L f base (.slice a3 no k3) P w3.heap.size Ba (.slice aa len ca) → (Calls Tryz.prog 39 #[.pointer (some ⟨c, 0, none⟩), .int .i64 99] W fun en w' => en = .returned (.tuple #[.int .i64 0, .iface 29 (.int .i64 7)]) ∧ Below W.heap.size W w') ∧ (Calls Tryz.prog 40 #[.pointer (some ⟨c, 0, none⟩), .int .i64 0, .int .i64 99] W fun en w' => en = .returned (.tuple #[.bool false, .iface 29 (.int .i64 7)]) ∧ Below W.heap.size W w')) := fun W hcf => by
      have h99 : ∀ e ∈ o ++ t, e.1 ≠ 99 := fun e he => HO.out.2.2.2.2.2 e ((HS.out.1 e).1 he)
      exact ⟨covered_out c mb no (o ++ t) f 99 W hcf.co h99 (wf_small (by omega) (by omega)), calike_out c mb no (o ++ t) f 0 99 W hcf.co h99 (wf_small (by omega) (by omega)) (wf_small (by omega) (by omega))⟩
    clear hall hb5 hlen hBa HBC HG HK HM HN HFB
    go_wp2_with fail
    go_loopw [12] (fun s12 wq => ∃ x : Nat, x ≤ len ∧ s12 = .int .i64 x ∧ CF w wq c mb no (o ++ t) L f base (.slice a3 no k3) P w3.heap.size Ba (.slice aa len ca)) (fun s12 _ => len - (intOf s12).toNat)
    case atStart => exact ⟨0, Nat.zero_le _, rfl, HF0.out⟩
    case round =>
      clear HF0
      obtain ⟨x, hx, rfl, hcf⟩ := hrel
      have HF1 : Hid (CF w wr c mb no (o ++ t) L f base (.slice a3 no k3) P w3.heap.size Ba (.slice aa len ca)) := hcf
      clear hcf
      by_cases hxl : x < len
      · rename World => wo
        obtain ⟨e, he⟩ : ∃ e, L[x]? = some e := ⟨_, List.getElem?_eq_getElem (by rw [HLEN.out]; exact hxl)⟩
        obtain ⟨g, haa⟩ : ∃ g, aa = some ⟨g, 0, none⟩ := owns_block HF1.out.all (by rw [HLEN.out]; exact hxl)
        subst haa
        have c1 := HF1.out.cell he
        have cb := HF1.out.box
        obtain ⟨X, hX⟩ : ∃ X, e.1 = X := ⟨_, rfl⟩
        obtain ⟨pe, hpe⟩ : ∃ pe, covB n t o e = pe := ⟨_, rfl⟩
        have HE : Hid (L[x]? = some e ∧ e.1 = X ∧ covB n t o e = pe) := ⟨he, hX, hpe⟩
        rw [hX] at c1
        clear he hX hpe
        go_wp2_with fail
        go_loopw [13, 14] (fun s13 s14 wq => ∃ k : Nat, k ≤ no ∧ s14 = .int .i64 k ∧ s13 = .int .i64 ((cnt pe k : Nat) : Int) ∧ wq = wo) (fun _ s14 _ => no - (intOf s14).toNat)
        case atStart => exact ⟨0, Nat.zero_le _, rfl, rfl, rfl⟩
        case round =>
          obtain ⟨k, hk, rfl, rfl, rfl⟩ := hrel
          have hck := cnt_le pe k
          by_cases hkl : k < no
          · as_aux_lemma =>
            have HCL : Hid (Calls Tryz.prog 38 #[.int .i64 X, .int .i64 ((k : Nat) : Int), .pointer (some ⟨w3.heap.size, 0, none⟩)] wr fun en w' => en = .returned (.bool (pe k)) ∧ w' = wr) := by
              have := HRD.out wr e k HF1.out (List.mem_of_getElem? HE.out.1) hkl
              rw [HE.out.2.1, HE.out.2.2] at this
              exact this
            obtain ⟨s, hs⟩ : ∃ s, pe k = s := ⟨_, rfl⟩
            have HCN : Hid (cnt pe (k + 1) = cnt pe k + if s = true then 1 else 0) := by
              show cnt pe k + _ = _
              rw [hs]
            rw [hs] at HCL
            obtain ⟨cn, hcn⟩ : ∃ cn, cnt pe k = cn := ⟨_, rfl⟩
            rw [hcn] at HCN hck ⊢
            clear hs hcn
            cases s with
            | true =>
              as_aux_lemma =>
              go_wp2_with fail
              refine Calls.mono HCL.out ?_
              rintro e' w6 ⟨rfl, hw6⟩
              subst hw6
              go_wp2_with fail
              go_roundw
              case rel => exact ⟨k + 1, by omega, by go_num, by rw [HCN.out]; go_num, trivial⟩
              case measure => simp [intOf]; omega
            | false =>
              as_aux_lemma =>
              go_wp2_with fail
              refine Calls.mono HCL.out ?_
              rintro e' w6 ⟨rfl, hw6⟩
              subst hw6
              go_wp2_with fail
              go_roundw
              case rel => exact ⟨k + 1, by omega, by go_num, by rw [HCN.out]; go_num, trivial⟩
              case measure => simp [intOf]; omega
          · have hke : k = no := by omega
            have HC2 : Hid (Calls Tryz.prog 39 #[.pointer (some ⟨c, 0, none⟩), .int .i64 X] wr fun en w' => en = .returned (.tuple #[.int .i64 ((cnt pe k : Nat) : Int), .nilIface]) ∧ Below wr.heap.size wr w') := by
              have := HCV.out wr e HF1.out (List.mem_of_getElem? HE.out.1)
              rw [HE.out.2.1, HE.out.2.2, ← hke] at this
              exact this
            obtain ⟨cn, hcn⟩ : ∃ cn, cnt pe k = cn := ⟨_, rfl⟩
            rw [hcn] at HC2 ⊢
            clear hcn hck hke
            go_wp2_with fail
            refine Calls.mono HC2.out ?_
            rintro e' w6 ⟨rfl, hb6⟩
            have HF2 : Hid (CF w w6 c mb no (o ++ t) L f base (.slice a3 no k3) P w3.heap.size Ba (.slice (some ⟨g, 0, none⟩) len ca)) := HF1.out.below' hb6
            clear hb6 HC2 HF1 c1 cb hkl hk
            go_wp2_with fail
            go_loopw [17] (fun s17 wq => ∃ y : Nat, y ≤ len ∧ s17 = .int .i64 y ∧ CF w wq c mb no (o ++ t) L f base (.slice a3 no k3) P w3.heap.size Ba (.slice (some ⟨g, 0, none⟩) len ca)) (fun s17 _ => len - (intOf s17).toNat)
            case atStart => exact ⟨0, Nat.zero_le _, rfl, HF2.out⟩
            case round =>
              clear HF2
              obtain ⟨y, hy, rfl, hcf⟩ := hrel
              have HF3 : Hid (CF w wr c mb no (o ++ t) L f base (.slice a3 no k3) P w3.heap.size Ba (.slice (some ⟨g, 0, none⟩) len ca)) := hcf
              clear hcf
              by_cases hyl : y < len
              · as_aux_lemma =>
                rename World => wj
                obtain ⟨d, hd⟩ : ∃ d, L[y]? = some d := ⟨_, List.getElem?_eq_getElem (by rw [HLEN.out]; exact hyl)⟩
                have c1 := HF3.out.cell HE.out.1
                have c2 := HF3.out.cell hd
                have cb := HF3.out.box
                obtain ⟨Y, hY⟩ : ∃ Y, d.1 = Y := ⟨_, rfl⟩
                obtain ⟨pd, hpd⟩ : ∃ pd, covB n t o d = pd := ⟨_, rfl⟩
                rw [HE.out.2.1] at c1
                rw [hY] at c2
                have HR1 : Hid (∀ k, k < no → ∀ Q, Calls Tryz.prog 38 #[.int .i64 X, .int .i64 ((k : Nat) : Int), .pointer (some ⟨w3.heap.size, 0, none⟩)] (wj.drewN Q) fun en w' => en = .returned (.bool (pe k)) ∧ w' = wj.drewN Q) := fun k hk Q => by
                  have := HRD.out (wj.drewN Q) e k (HF3.out.below' (below_drewN (Below.refl _ _) Q)) (List.mem_of_getElem? HE.out.1) hk
                  rw [HE.out.2.1, HE.out.2.2] at this
                  exact this
                have HR2 : Hid (∀ k, k < no → ∀ Q, Calls Tryz.prog 38 #[.int .i64 Y, .int .i64 ((k : Nat) : Int), .pointer (some ⟨w3.heap.size, 0, none⟩)] (wj.drewN Q) fun en w' => en = .returned (.bool (pd k)) ∧ w' = wj.drewN Q) := fun k hk Q => by
                  have := HRD.out (wj.drewN Q) d k (HF3.out.below' (below_drewN (Below.refl _ _) Q)) (List.mem_of_getElem? hd) hk
                  rw [hY, hpd] at this
                  exact this
                have HA2 : Hid (∀ W, CF w W c mb no (o ++ t) L f base (.slice a3 no k3) P w3.heap.size Ba (.slice (some ⟨g, 0, none⟩) len ca) → Calls Tryz.prog 40 #[.pointer (some ⟨c, 0, none⟩), .int .i64 X, .int .i64 Y] W fun en w' => en = .returned (.tuple #[.bool (allK pe pd no), .nilIface]) ∧ Below W.heap.size W w') := fun W hcf => by
                  have := HAL.out W e d hcf (List.mem_of_getElem? HE.out.1) (List.mem_of_getElem? hd)
                  rw [HE.out.2.1, HE.out.2.2, hY, hpd] at this
                  exact this
                clear hd hY hpd
                go_wp2_with fail
                go_loopw [18, 19] (fun s18 s19 wq => ∃ k : Nat, k ≤ no ∧ s19 = .int .i64 k ∧ s18 = .bool (allK pe pd k) ∧ ∃ Q, wq = wj.drewN Q) (fun _ s19 _ => no - (intOf s19).toNat)
                case atStart => exact ⟨0, Nat.zero_le _, rfl, rfl, 0, rfl⟩
                case round =>
                  obtain ⟨k, hk, rfl, rfl, Q, hQ⟩ := hrel
                  have HQ : Hid (wr = wj.drewN Q) := hQ
                  have d1 : wr.cell? ⟨g, x * 3, none⟩ = some (.int .i64 X) := by rw [hQ]; exact c1
                  have d2 : wr.cell? ⟨g, y * 3, none⟩ = some (.int .i64 Y) := by rw [hQ]; exact c2
                  have db : wr.cell? ⟨w3.heap.size, 0, none⟩ = some (.slice a3 no k3) := by rw [hQ]; exact cb
                  have HF5 : Hid (CF w wr c mb no (o ++ t) L f base (.slice a3 no k3) P w3.heap.size Ba (.slice (some ⟨g, 0, none⟩) len ca)) := by
                    show CF _ _ _ _ _ _ _ _ _ _ _ _ _ _
                    rw [hQ]; exact HF3.out.below' (below_drewN (Below.refl _ _) Q)
                  clear hQ c1 c2 cb
                  by_cases hkl : k < no
                  · as_aux_lemma =>
                    have HQ1 : Hid (∀ n1, Calls Tryz.prog 38 #[.int .i64 X, .int .i64 ((k : Nat) : Int), .pointer (some ⟨w3.heap.size, 0, none⟩)] (wr.drewN n1) fun en w' => en = .returned (.bool (pe k)) ∧ w' = wr.drewN n1) := fun n1 => by
                      have := HR1.out k hkl (Q + n1)
                      rw [HQ.out, drewN_drewN]; exact this
                    have HQ2 : Hid (∀ n1, Calls Tryz.prog 38 #[.int .i64 Y, .int .i64 ((k : Nat) : Int), .pointer (some ⟨w3.heap.size, 0, none⟩)] (wr.drewN n1) fun en w' => en = .returned (.bool (pd k)) ∧ w' = wr.drewN n1) := fun n1 => by
                      have := HR2.out k hkl (Q + n1)
                      rw [HQ.out, drewN_drewN]; exact this
                    obtain ⟨s1, hs1⟩ : ∃ s1, pe k = s1 := ⟨_, rfl⟩
                    obtain ⟨s2, hs2⟩ : ∃ s2, pd k = s2 := ⟨_, rfl⟩
                    obtain ⟨b, hb⟩ : ∃ b, allK pe pd k = b := ⟨_, rfl⟩
                    have HNX : Hid (allK pe pd (k + 1) = (b && (s1 == s2))) := by
                      show (allK pe pd k && (pe k == pd k)) = _
                      rw [hb, hs1, hs2]
                    rw [hs1] at HQ1
                    rw [hs2] at HQ2
                    rw [hb]
                    clear hs1 hs2 hb
                    cases b with
                    | false =>
                      as_aux_lemma =>
                      have HN2 : Hid (allK pe pd (k + 1) = false) := by show _ = _; rw [HNX.out]; rfl
                      clear HNX
                      go_wp2_with fail
                      go_quiet (fail)
                      go_wp2_with fail
                      go_roundw
                      case rel => exact ⟨k + 1, by omega, by go_num, by rw [HN2.out], Q + nq, by rw [HQ.out, drewN_drewN]⟩
                      case measure => simp [intOf]; omega
                    | true =>
                      have HN2 : Hid (allK pe pd (k + 1) = (s1 == s2)) := by show _ = _; rw [HNX.out]; rfl
                      clear HNX
                      cases s1 <;> cases s2
                      all_goals
                        as_aux_lemma =>
                        go_wp2_with fail
                        go_quiet ((first | (go_at_call 38; with_reducible exact Calls.quiet_of_same (HQ1.out _)) | (go_at_call 38; with_reducible exact Calls.quiet_of_same (HQ2.out _))))
                        go_wp2_with fail
                        go_roundw
                        case rel => exact ⟨k + 1, by omega, by go_num, by rw [HN2.out]; rfl, Q + nq, by rw [HQ.out, drewN_drewN]⟩
                        case measure => simp [intOf]; omega
                  · as_aux_lemma =>
                    have hke : k = no := by omega
                    obtain ⟨b, hb⟩ : ∃ b, allK pe pd k = b := ⟨_, rfl⟩
                    have hS0 : wr.drew.cell? ⟨g, x * 3, none⟩ = some (.int .i64 X) ∧ wr.drew.cell? ⟨g, y * 3, none⟩ = some (.int .i64 Y) := ⟨d1, d2⟩
                    have HA3 : Hid (Calls Tryz.prog 40 #[.pointer (some ⟨c, 0, none⟩), .int .i64 X, .int .i64 Y] wr.drew fun en w' => en = .returned (.tuple #[.bool b, .nilIface]) ∧ (w'.cell? ⟨g, x * 3, none⟩ = some (.int .i64 X) ∧ w'.cell? ⟨g, y * 3, none⟩ = some (.int .i64 Y)) ∧ Below wr.heap.size wr w') := by
                      have := HA2.out wr.drew (HF5.out.below' (Below.refl _ _).drew)
                      rw [← hke, hb] at this
                      refine this.mono ?_
                      rintro en w' ⟨rfl, hb'⟩
                      exact ⟨rfl, ⟨cell_below hS0.1 hb', cell_below hS0.2 hb'⟩, (Below.refl _ _).drew.trans hb'⟩
                    rw [hb]
                    clear hb hke
                    go_upto_region 34 with fail
                    go_cut [20, 21] from 149 to 163 (fun s20 s21 wx => s20 = .bool b ∧ s21 = .nilIface ∧ Below wr.heap.size wr wx)
                    case first =>
                      go_region_held (fun w' => w'.cell? ⟨g, x * 3, none⟩ = some (.int .i64 X) ∧ w'.cell? ⟨g, y * 3, none⟩ = some (.int .i64 Y)) (with_reducible assumption)
                        (first | (go_at_call 40; refine Calls.mono HA3.out ?_; rintro e' w7 ⟨rfl, hS7, hb7'⟩; have hb7 : Hid (Below wr.heap.size wr w7) := hb7'; clear hb7'))
                      all_goals
                        go_wp2_with fail
                        go_meet
                        case rel => exact ⟨rfl, rfl, hb7.out⟩
                    case rest =>
                      obtain ⟨rfl, rfl, hbc⟩ := hcut
                      have HF6 : Hid (CF w _ c mb no (o ++ t) L f base (.slice a3 no k3) P w3.heap.size Ba (.slice (some ⟨g, 0, none⟩) len ca)) := HF5.out.below' hbc
                      clear hbc d1 d2 db hS0 HA3 HA2 HR1 HR2 HF5 HF3 HQ
                      cases b with
                      | true =>
                        as_aux_lemma =>
                        go_wp2_with fail
                        go_roundw
                        case rel => exact ⟨y + 1, by omega, by go_num, HF6.out⟩
                        case measure => simp [intOf]; omega
                      | false =>
                        as_aux_lemma =>
                        go_wp2_with fail
                        go_roundw
                        case rel => exact ⟨y + 1, by omega, by go_num, HF6.out⟩
                        case measure => simp [intOf]; omega
              · as_aux_lemma =>
                go_wp2_with fail
                go_roundw
                case rel => exact ⟨x + 1, by omega, by go_num, HF3.out⟩
                case measure => simp [intOf]; omega
      · as_aux_lemma =>
        go_wp2_with fail
        refine Calls.mono (HOT.out _ HF1.out).1 ?_
        rintro e v1 ⟨rfl, hb1⟩
        have HF4 : Hid (CF w v1 c mb no (o ++ t) L f base (.slice a3 no k3) P w3.heap.size Ba (.slice aa len ca)) := HF1.out.below' hb1
        clear hb1 HF1
        go_wp2_with fail
        refine Calls.mono (HOT.out _ HF4.out).2 ?_
        rintro e v2 ⟨rfl, hb2⟩
        have HG1 : Hid (Below w.heap.size w v2) := (HF4.out.below' hb2).below
        clear hb2 HF4
        go_wp2_with fail
        refine (G.bare_any (.iface 29 (.int .i64 7)) 7 v2 (HGL.out.below HG1.out) (by simp [G.errV])).mono ?_
        rintro e v3' ⟨rfl, hb3⟩
        have HG2 : Hid (Below w.heap.size w v3') := HG1.out.trans (hb3.mono HG1.out.size)
        clear hb3 HG1
        go_wp2_with fail
        refine (G.bare_any (.iface 29 (.int .i64 7)) 7 v3' (HGL.out.below HG2.out) (by simp [G.errV])).mono ?_
        rintro e v4 ⟨rfl, hb4⟩
        have HG3 : Hid (Below w.heap.size w v4) := HG2.out.trans (hb4.mono HG2.out.size)
        clear hb4 HG2
        go_wp2_with fail
        go_ret
        exact ⟨rfl, HG3.out⟩

end Go.Proofs.YtigodbamphejmaaGreatDoor.S
