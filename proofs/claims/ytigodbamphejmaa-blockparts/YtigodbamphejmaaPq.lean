/- The law's walk. -/
import Derived.Test.YtigodbamphejmaaPv
namespace Go.Proofs.Ytigodbamphejmaa.S
open Go.RowKit Go.WideMaps Go.Maps

set_option maxHeartbeats 8000000 in
set_option maxRecDepth 100000 in
theorem parts_in (n0 : Int) (a : Option Addr) (bl off m cap : Nat) (ps : Nat → Int × Int) (w : World) (hm : m ≤ 60) (ha : 0 < m → a = some ⟨bl, off, none⟩) (hp : PairsAt w bl off m ps) (hbl : 0 < m → bl < w.heap.size) :
    Calls Try.prog 5 #[.int .i64 n0, .slice a m cap] w fun e w' => e = .returned (.bool true) ∧ Below w.heap.size w w' := by
  have h60 : ¬ ((60 : Int) < (m : Int)) := by omega
  have HMD : Hid (∀ W, Below w.heap.size w W → Calls Try.prog 17 #[.int .i64 n0, .slice a m cap] W (MadePost W)) := fun W hW => made_any n0 a bl off m cap ps W hm ha ⟨fun i hi => (hW.cell (p := ⟨bl, off + i * 2, none⟩) (hbl (by omega))).trans (hp.a i hi), fun i hi => (hW.cell (p := ⟨bl, off + i * 2 + 1, none⟩) (hbl (by omega))).trans (hp.b i hi)⟩ (fun h => Nat.lt_of_lt_of_le (hbl h) hW.size)
  clear ha hp hbl
  go_enter Try.func5, Try.ntmps5
  go_wp2_with fail
  refine (ringed_any w).mono ?_
  rintro e w1 ⟨rfl, hb1⟩
  have HB1 : Hid (Below w.heap.size w w1) := hb1
  clear hb1
  go_wp2_with fail
  refine Calls.mono (HMD.out w1 HB1.out) ?_
  rintro e w2 ⟨g, v, n, R, rfl, hga, hn0, hn14, hed, hb2⟩
  have HG : Hid (G.GAt w2 w1.heap.size 91 50 g (n : Int) v R ∧ Ed n 50 R ∧ Below w1.heap.size w1 w2) := ⟨hga, hed, hb2⟩
  clear hga hed hb2 HMD
  go_wp2_with fail
  refine (bof_any n w1.heap.size g 50 v R w2 HG.out.1 (by omega) HG.out.2.1 (by omega)).mono ?_
  rintro e w3 ⟨b, mb, N, D, vb, l, cs, rfl, hat, hN, hlm, hbs, hcb, hrow, hb3⟩
  have HG3 : Hid (G.GAt w3 w1.heap.size 91 50 g (n : Int) v R) := HG.out.1.below hb3
  have HAT : Hid (BlAt w3 b mb N D vb ∧ Lm D R l ∧ Bs R n [] l ∧ w3.ownsRow w2.heap.size 3 1 vb cs.length (natsV cs) ∧ CutsB R n cs) := ⟨hat, hlm, hbs, hrow, hcb⟩
  have HB3 : Hid (Below w1.heap.size w1 w3) := HG.out.2.2.trans (hb3.mono HG.out.2.2.size)
  clear hat hlm hbs hrow hb3 hcb
  go_wp2_with fail
  refine (of_any n w1.heap.size g v R w3 HG3.out hn14 HG.out.2.1).mono ?_
  rintro e w4 ⟨p, pw, bw, pt, bt, mp, B, Wr, Tr, Dr, Nr, rfl, hrun⟩
  have HRUN : Hid (Run w3 w4 p pw bw pt bt mp n R B Wr Tr Dr Nr) := hrun
  clear hrun
  go_wp2_with fail
  have HLAB : Hid (Lab4 R l) := ⟨HAT.out.2.2.1.good, bs_end HAT.out.2.2.1 HG.out.2.1.inn, HG.out.2.1.proper, HG.out.2.1.up⟩
  have HID : Hid (∀ e ∈ R, 0 ≤ e.1 ∧ e.1 ≤ 1000000) := fun e he => by have := HG.out.2.1.ids e he; omega
  refine (bparts_any b mb N D vb w4 (HAT.out.1.below HRUN.out.below) HAT.out.2.1 HLAB.out.good HLAB.out.up HID.out (by have := HG.out.2.1.len; omega) (by omega)).mono ?_
  rintro e w5 ⟨v5, rfl, hall, hb5⟩
  obtain ⟨gp, cp, rfl, hr5⟩ := hall
  have HH : Hid (Had w1 w5 g b mb N n p pw bw pt bt mp Nr gp cp v vb D Dr R B l cs Wr Tr) :=
    ⟨(HG3.out.below HRUN.out.below).below hb5, hn14, HG.out.2.1, (HAT.out.1.below HRUN.out.below).below hb5, HAT.out.2.2.2.2, ⟨_, row_below (row_below HAT.out.2.2.2.1 HRUN.out.below) hb5⟩, HLAB.out, ⟨_, HRUN.out.below' hb5⟩, hr5, (HB3.out.trans (HRUN.out.below.mono HB3.out.size)).trans (hb5.mono (HB3.out.trans (HRUN.out.below.mono HB3.out.size)).size)⟩
  have HB5 : Hid (Below w.heap.size w w5) := HB1.out.trans (HH.out.below.mono HB1.out.size)
  obtain ⟨K, hK⟩ : ∃ K, (blks R l).length = K := ⟨_, rfl⟩
  have HK : Hid ((blks R l).length = K) := hK
  rw [hK]
  clear hr5 hb5 HG HG3 HAT HRUN HB3 HLAB hK
  have hmm := @run_makeMap Try.prog
  have hmk := fun W => run_make_row' (P := Try.prog) 59 58 (.map none) 8 Try.underlying59 info58 rfl .i64 .i64 n (by omega) (by omega) W
  have HR1 : Hid (Row1 w5 ((w5.alloc (.map #[] 0)).alloc (.cells (madeCells #[.map none] n) 58)) n 0) := row1_start w5 n
  go_wp2_with fail
  refine (G.nodes_any (n : Int) w1.heap.size g v R _ (HH.out.ga.below ((Below.refl _ _).alloc (Nat.le_refl _) _))).mono ?_
  rintro e w6 ⟨rfl, hw6⟩
  subst hw6
  go_wp2_with fail
  clear hmk
  go_loopw [11] (fun s11 wq => ∃ x : Nat, x ≤ n ∧ s11 = .int .i64 x ∧ Row1 w5 wq n x) (fun s11 _ => n - (intOf s11).toNat)
  case atStart => exact ⟨0, Nat.zero_le _, rfl, HR1.out⟩
  case round =>
    clear HR1
    obtain ⟨x, hx, rfl, hr1⟩ := hrel
    have HR1 : Hid (Row1 w5 wr n x) := hr1
    clear hr1
    go_wp2_with fail
    refine (G.nodes_any (n : Int) w1.heap.size g v R _ (HH.out.ga.below HR1.out.below)).mono ?_
    rintro e w6 ⟨rfl, hw6⟩
    subst hw6
    by_cases hlt : x < n
    · as_aux_lemma =>
      have hsz := HR1.out.size
      have hb1 : Below w6.heap.size w6 (w6.alloc (.map #[] 0)) := (Below.refl _ _).alloc (Nat.le_refl _) _
      have c1 : (w6.alloc (.map #[] 0)).cell? ⟨w5.heap.size + 1, x, none⟩ = some (.map none) := by
        have := HR1.out.tb x hlt
        rw [if_neg (by omega)] at this
        exact cell_below this hb1
      have c2 : (w6.alloc (.map #[] 0)).frozen? ⟨w5.heap.size + 1, x, none⟩ = false := by
        have := HR1.out.fz x
        simp only [World.frozen?] at this ⊢
        rw [hb1.block _ (by omega)]; exact this
      have HR2 : Hid (Row1 w5 ((w6.alloc (.map #[] 0)).setCell ⟨w5.heap.size + 1, x, none⟩ (.map (some w6.heap.size))) n (x + 1)) := row1_step HR1.out hlt
      clear hb1 hsz HR1
      go_wp2_with fail
      go_roundw
      case rel => exact ⟨x + 1, by omega, by go_num, HR2.out⟩
      case measure => simp [intOf]; omega
    · have hxe : x = n := by omega
      subst hxe
      have HM0 : Hid (Mid5 w5 w6 w6 x R l 0 0 0 (.slice none 0 0)) := ⟨⟨_, _, row1_end HR1.out, InvS.start R l x⟩, World.ownsRow_nil _ _ _ _, HR1.out.below, Nat.le_refl _, HR1.out.size⟩
      have HKN : Hid (K = nk l R.length ∧ R.length ≤ 50) := ⟨by rw [← HK.out]; exact blks_nk R l, HH.out.ed.len⟩
      have hK50 : K ≤ 50 := by rw [HKN.out.1]; exact Nat.le_trans (nk_le _ _) HKN.out.2
      obtain ⟨j0, hj0, hy0, hy1, hy2⟩ := info_parts Try.info3
      clear HR1 hmm
      go_wp2_with fail
      go_loopw [12, 13] (fun s12 s13 wq => ∃ k : Nat, k ≤ K ∧ s13 = .int .i64 k ∧ Mid5 w5 w6 wq x R l k 0 k s12) (fun _ s13 _ => K - (intOf s13).toNat)
      case atStart => exact ⟨0, Nat.zero_le _, rfl, HM0.out⟩
      case round =>
        clear HM0
        obtain ⟨k, hk, rfl, hm5⟩ := hrel
        have HM : Hid (Mid5 w5 w6 wr x R l k 0 k u12) := hm5
        clear hm5
        by_cases hlt : k < K
        · have HKK : Hid (k < nk l R.length) := by rw [← HKN.out.1]; exact hlt
          obtain ⟨r, cr, hc1, hc2⟩ := HH.out.parts.below HM.out.below k (by rw [HK.out]; exact hlt)
          rw [blks_nj HKK.out] at hc1 hc2
          have hJ0 := nj_pos HKK.out
          have hJ50 := Nat.le_trans (nj_le l R.length k) HKN.out.2
          obtain ⟨J, hJ⟩ : ∃ J, nj l R.length k = J := ⟨_, rfl⟩
          have HJ : Hid (nj l R.length k = J) := hJ
          have hc0 : wr.cell? ⟨r, 0, none⟩ = some (.int .i64 ((idN R (pos l R.length k 0) : Nat) : Int)) := by
            have := hc2 0 (by omega)
            rw [blks_id HKK.out hJ0] at this
            exact this
          obtain ⟨X0, hX0⟩ : ∃ X0, idN R (pos l R.length k 0) = X0 := ⟨_, rfl⟩
          have HX0 : Hid (idN R (pos l R.length k 0) = X0) := hX0
          rw [hX0] at hc0
          have HROW : Hid (wr.cell? ⟨gp, k, none⟩ = some (.slice (some ⟨r, 0, none⟩) J cr) ∧ ∀ j, j < J → wr.cell? ⟨r, j, none⟩ = some (.int .i64 ((idN R (pos l R.length k j) : Nat) : Int))) := by
            refine ⟨by rw [← hJ]; exact hc1, fun j hj => ?_⟩
            have := hc2 j (by omega)
            rw [blks_id HKK.out (by omega)] at this
            exact this
          rw [hJ] at hc1 hJ0 hJ50
          have hown := HM.out.lone
          have hll := lones_len R l k
          clear hc2 hX0 hJ
          go_upto_if 71 with fail
          go_cut [12] from 66 to 80 (fun s12 wx => Mid5 w5 w6 wx x R l k 0 (k + 1) s12 ∧ wr.heap.size ≤ wx.heap.size ∧ ∀ g i v, g < w6.heap.size → wr.cell? ⟨g, i, none⟩ = some v → wx.cell? ⟨g, i, none⟩ = some v)
          case first =>
            by_cases hJ1 : J = 1
            · as_aux_lemma =>
              have hJb : ((J : Int) == 1) = true := beq_iff_eq.2 (by omega)
              have HJ1 : Hid (J = 1) := hJ1
              clear hJ1
              have hsz := HM.out.size
              go_wp2_with (first
                | (at_builtin; refine wpList_append_own_at _ rfl _ _ 37 rfl w6.heap.size 3 j0 (.int .i64 0) 1 8 Try.underlying37 hj0 hy0 hy1 hy2 rfl (by decide) u12 _ _ rfl (hown.alloc _) ⟨wr.heap.size, 0, none⟩ 1 1 [.int .i64 (X0 : Int)] rfl rfl (cell_one_new _ _ _) (ints_oneCell .i64 [(X0 : Int)]) (by unfold maxLen; omega) (by omega) (by simp; omega) ?_; intro v5 w8 hown5 hgrow5 hnil5 hloc5)
                | fail)
              go_meet
              case rel =>
                have h1 := HM.out.lone_yes (by rw [HJ.out]; exact HJ1.out) hgrow5 (by rw [HX0.out]; exact hown5)
                have h2 : wr.heap.size ≤ w8.heap.size := by have := hgrow5.size; simp at this; omega
                refine ⟨h1, h2, fun g i v hg hc => ?_⟩
                exact grown_cell hgrow5 (cell_below hc ((Below.refl _ _).alloc (Nat.le_refl _) _)) (by simp; omega) (fun e => by have := (hown.lt g e.symm).1; omega)
            · as_aux_lemma =>
              have hJb : ((J : Int) == 1) = false := beq_eq_false_iff_ne.2 (by omega)
              go_wp2_with fail
              go_meet
              case rel => exact ⟨HM.out.lone_no (by rw [HJ.out]; exact hJ1), Nat.le_refl _, fun _ _ _ _ hc => hc⟩
          case rest =>
            obtain ⟨hm6, _, _⟩ := hcut
            have HM6 : Hid (Mid5 w5 w6 wc x R l k 0 (k + 1) u12) := hm6
            clear hm6 hc1 hc0 hown HROW HM HX0
            go_wp2_with fail
            go_loopw [14] (fun s14 wq => ∃ j : Nat, j ≤ J ∧ s14 = .int .i64 j ∧ Mid5 w5 w6 wq x R l k j (k + 1) u12) (fun s14 _ => J - (intOf s14).toNat)
            case atStart => exact ⟨0, Nat.zero_le _, rfl, HM6.out⟩
            case round =>
              clear HM6
              obtain ⟨j, hj, rfl, hm7⟩ := hrel
              have HM7 : Hid (Mid5 w5 w6 wr x R l k j (k + 1) u12) := hm7
              clear hm7
              obtain ⟨r, cr, hc1, hc2⟩ := HH.out.parts.below HM7.out.below k (by rw [HK.out]; exact hlt)
              rw [blks_nj HKK.out, HJ.out] at hc1 hc2
              by_cases hltj : j < J
              · have HJJ : Hid (j < nj l R.length k) := by rw [HJ.out]; exact hltj
                have hcj := hc2 j hltj
                rw [blks_id HKK.out HJJ.out] at hcj
                have hpos := (pos_mem HJJ.out).1
                obtain ⟨X, hX⟩ : ∃ X, idN R (pos l R.length k j) = X := ⟨_, rfl⟩
                obtain ⟨A, hA⟩ : ∃ A, ea (R.getD (pos l R.length k j) (0, 0, 0)) = A := ⟨_, rfl⟩
                obtain ⟨E, hE⟩ : ∃ E, eb (R.getD (pos l R.length k j) (0, 0, 0)) = E := ⟨_, rfl⟩
                have hnat := HH.out.ed.nat (List.mem_of_getElem? (at_pos hpos))
                rw [hA, hE] at hnat
                obtain ⟨_, _, hAn, hEn, hAE⟩ := hnat
                have hXs : X ≤ 1000000 := by rw [← hX]; exact (idN_cast (R := R) HID.out hpos).2
                rw [hX] at hcj
                have HX : Hid (idN R (pos l R.length k j) = X ∧ ea (R.getD (pos l R.length k j) (0, 0, 0)) = A ∧ eb (R.getD (pos l R.length k j) (0, 0, 0)) = E ∧ pos l R.length k j < R.length) := ⟨hX, hA, hE, hpos⟩
                clear hc2 hX hA hE hpos
                go_wp2_with fail
                refine (edge_pos HH.out.ed (by omega) (HH.out.ga.below HM7.out.below) HX.out.2.2.2 HX.out.1 HX.out.2.1 HX.out.2.2.1).mono ?_
                rintro e w7 ⟨rfl, hb7⟩
                have HM8 : Hid (Mid5 w5 w6 w7 x R l k j (k + 1) u12) := HM7.out.below' hb7
                clear hb7 hc1 hcj HM7
                obtain ⟨Ds, Dx, hat7, hinv⟩ := HM8.out.at_
                have HINV : Hid (InvS R l x k j Ds Dx) := hinv
                have hle := HM8.out.le
                have hsz := HM8.out.size
                -- the edge's box
                obtain ⟨W1, hW1⟩ : ∃ W1, W1 = w7.alloc (.cells #[.int .i64 (X : Int), .int .i64 (A : Int), .int .i64 (E : Int)] 50) := ⟨_, rfl⟩
                have hh : W1.heap[w7.heap.size]? = some (.cells #[.int .i64 (X : Int), .int .i64 (A : Int), .int .i64 (E : Int)] 50) := by rw [hW1]; exact heap_alloc_new w7 _
                have hb1 : Below w7.heap.size w7 W1 := by rw [hW1]; exact (Below.refl _ _).alloc (Nat.le_refl _) _
                have HW1 : Hid (w7.alloc (.cells #[.int .i64 (X : Int), .int .i64 (A : Int), .int .i64 (E : Int)] 50) = W1) := hW1.symm
                have HAT1 : Hid (AtS W1 w5.heap.size (w5.heap.size + 1) x 100 Ds Dx ∧ Frame5 w5 w6 W1 x R l (k + 1) u12) := ⟨hat7.below hb1, HM8.out.frame.below' hb1⟩
                have hwX : (Lit.int .i64 (X : Int)).wf = true := wf_small (by omega) (by omega)
                have lk := look_false HAT1.out.1.sn hwX (by have := HINV.out.fresh HH.out.lab.up HID.out HKK.out HJJ.out; rw [HX.out.1] at this; exact this)
                have hsn := HAT1.out.1.sn
                have hkX := key3 (X : Int) hwX
                have HBX : Hid (W1.heap[w7.heap.size]? = some (.cells #[.int .i64 (X : Int), .int .i64 (A : Int), .int .i64 (E : Int)] 50)) := hh
                obtain ⟨bx, hbx⟩ : ∃ bx, w7.heap.size = bx := ⟨_, rfl⟩
                clear hW1 hb1 hat7 hinv HM8 hh
                go_upto_region 28 with fail
                rw [HW1.out]
                rw [hbx] at HBX hsz
                clear hbx HW1
                have p0 : W1.cell? ⟨bx, 0, none⟩ = some (.int .i64 (X : Int)) := by have := HBX.out; simp [World.cell?, this]
                go_wp2_with (first
                  | (at_mapUpdate; refine wpList_mapUpdate_own _ rfl _ _ _ 58 rfl 3 4 law3 Try.underlying58 (plainElem Try.prog 4) w5.heap.size 100 Ds rfl hsn (by unfold maxLen; omega) _ _ _ rfl rfl hkX _ [] (plainElem_bool Try.underlying4 true) ?_; intro w8 hown8 hgrow8)
                  | fail)
                have hbxl : bx < W1.heap.size := lt_of_some HBX.out
                have HAT8 : Hid (AtS w8 w5.heap.size (w5.heap.size + 1) x 101 (Ds.put (.int .i64 (X : Int)) (.lit (.bool true))) Dx ∧ Frame5 w5 w6 w8 x R l (k + 1) u12) := ⟨HAT1.out.1.seen hgrow8 hown8 (by omega), HAT1.out.2.grown hgrow8 (Nat.le_refl _) (by omega)⟩
                have hb8 : w8.heap[bx]? = some (.cells #[.int .i64 (X : Int), .int .i64 (A : Int), .int .i64 (E : Int)] 50) := by rw [hgrow8.block bx hbxl (by simp; omega)]; exact HBX.out
                have hbx8 : bx < w8.heap.size := lt_of_some hb8
                have hbxg : w5.heap.size + 1 + 1 + x ≤ bx := by omega
                clear hown8 hgrow8 hsn lk p0 HBX HAT1 hbxl
                obtain ⟨vA, sA, wA1, wA2, rA1, gA1, rA2, HATA, gA2⟩ := at_entry HAT8.out.1.drew (by omega) hAn (show k ≤ 1000 by omega)
                obtain ⟨vE, sE, wE1, wE2, rE1, gE1, rE2, HATE, gE2⟩ := at_entry HATA (by omega) hEn (show k ≤ 1000 by omega)
                have hEA : ¬ E = A := by omega
                simp only [if_neg hEA] at HATE
                have HFE : Hid (Mid5 w5 w6 wE2 x R l k (j + 1) (k + 1) u12) := by
                  have hnx := HINV.out.next HKK.out HJJ.out HX.out.2.1 HX.out.2.2.1 (.lit (.bool true)) (.lit (.bool true)) (.lit (.bool true)) (by omega)
                  rw [HX.out.1] at hnx
                  exact ((HAT8.out.2.drew.grown gA2 (by omega) (by omega)).grown gE2 (by omega) (by omega)).mid (HATE.tight hnx HH.out.ed) hnx
                obtain ⟨mA, hmA⟩ : ∃ mA, w5.heap.size + 1 + 1 + A = mA := ⟨_, rfl⟩
                obtain ⟨mE, hmE⟩ : ∃ mE, w5.heap.size + 1 + 1 + E = mE := ⟨_, rfl⟩
                obtain ⟨ga, hga⟩ : ∃ ga, w5.heap.size + 1 = ga := ⟨_, rfl⟩
                have tA8 := HAT8.out.1.tb A hAn
                have tE8 := HAT8.out.1.tb E hEn
                have hgl := HAT8.out.1.lt
                rw [hmA] at rA1 gA1 rA2 gA2 tA8
                rw [hmE] at rE1 gE1 rE2 gE2 tE8
                rw [hga] at tA8 tE8 hgl hmA hmE
                have keepS : ∀ {w w' : World} {b : Nat}, w.grownBy w' (some b) → b ≠ bx → b ≠ ga → w8.heap.size ≤ w.heap.size → (w.cell? ⟨bx, 1, none⟩ = some (.int .i64 (A : Int)) ∧ w.cell? ⟨bx, 2, none⟩ = some (.int .i64 (E : Int)) ∧ w.cell? ⟨ga, A, none⟩ = some (.map (some mA)) ∧ w.cell? ⟨ga, E, none⟩ = some (.map (some mE))) → w'.cell? ⟨bx, 1, none⟩ = some (.int .i64 (A : Int)) ∧ w'.cell? ⟨bx, 2, none⟩ = some (.int .i64 (E : Int)) ∧ w'.cell? ⟨ga, A, none⟩ = some (.map (some mA)) ∧ w'.cell? ⟨ga, E, none⟩ = some (.map (some mE)) := fun {w w' b} hg h1 h2 h3 ⟨k1, k2, k3, k4⟩ =>
                  ⟨grown_cell hg k1 (by omega) (by simp; omega), grown_cell hg k2 (by omega) (by simp; omega), grown_cell hg k3 (by omega) (by simp; omega), grown_cell hg k4 (by omega) (by simp; omega)⟩
                have hS8 : w8.drew.cell? ⟨bx, 1, none⟩ = some (.int .i64 (A : Int)) ∧ w8.drew.cell? ⟨bx, 2, none⟩ = some (.int .i64 (E : Int)) ∧ w8.drew.cell? ⟨ga, A, none⟩ = some (.map (some mA)) ∧ w8.drew.cell? ⟨ga, E, none⟩ = some (.map (some mE)) := by
                  refine ⟨?_, ?_, tA8, tE8⟩
                  · show w8.cell? ⟨bx, 1, none⟩ = _
                    simp [World.cell?, hb8]
                  · show w8.cell? ⟨bx, 2, none⟩ = _
                    simp [World.cell?, hb8]
                have z8 : w8.drew.heap.size = w8.heap.size := rfl
                have zA : w8.heap.size ≤ wA2.heap.size := gA2.size
                have hSA1 := keepS gA1 (by omega) (by omega) (by omega) hS8
                have hSA2 := keepS gA2 (by omega) (by omega) (by omega) hS8
                have hSE1 := keepS gE1 (by omega) (by omega) zA hSA2
                have hSE2 := keepS gE2 (by omega) (by omega) zA hSA2
                rw [hga]
                have HGA : Hid (w5.heap.size + 1 = ga) := hga
                clear keepS hga hmA hmE tA8 tE8 hgl HATA HATE HAT8 gA1 gA2 gE1 gE2 hb8 z8 zA hEA hbx8 hbxg hle hsz hkX hwX HINV
                go_region_held (fun w' => w'.cell? ⟨bx, 1, none⟩ = some (.int .i64 (A : Int)) ∧ w'.cell? ⟨bx, 2, none⟩ = some (.int .i64 (E : Int)) ∧ w'.cell? ⟨ga, A, none⟩ = some (.map (some mA)) ∧ w'.cell? ⟨ga, E, none⟩ = some (.map (some mE))) (with_reducible assumption) (fail)
                all_goals
                  have hga := HGA.out
                  subst hga
                  go_wp2_with fail
                  go_roundw
                  case rel => exact ⟨j + 1, by omega, by go_num, HFE.out⟩
                  case measure => simp [intOf]; omega
              · as_aux_lemma =>
                have hje : j = J := by omega
                subst hje
                have HF : Hid (Mid5 w5 w6 wr x R l (k + 1) 0 (k + 1) u12) := by
                  obtain ⟨Ds, Dx, h1, h2⟩ := HM7.out.at_
                  rw [← HJ.out] at h2
                  exact HM7.out.frame.mid h1 h2.turn
                go_wp2_with fail
                go_roundw
                case rel => exact ⟨k + 1, by omega, by go_num, HF.out⟩
                case measure => simp [intOf]; omega
        · have hke : k = K := by omega
          obtain rfl := hke
          obtain ⟨Ds, Dx, hatk, hinvk⟩ := HM.out.at_
          have hszD : Maps.size Ds = R.length := seen_all (by rw [← HKN.out.1]; exact hinvk) HH.out.lab.good HH.out.lab.up HID.out
          have hR50 := HKN.out.2
          have HAT : Hid (AtS wr w5.heap.size (w5.heap.size + 1) x 100 Ds Dx ∧ InvS R l x k 0 Ds Dx) := ⟨hatk, hinvk⟩
          have hsn := hatk.sn
          obtain ⟨len, hlen⟩ : ∃ len, R.length = len := ⟨_, rfl⟩
          have HLEN : Hid (R.length = len) := hlen
          rw [hlen] at hszD hR50
          clear hatk hinvk hlen
          go_wp2_with (first
            | (at_len; refine wpList_len_own _ rfl _ 58 rfl 3 4 Try.underlying58 (plainElem Try.prog 4) w5.heap.size 100 Ds rfl hsn ?_; rw [hszD])
            | fail)
          refine (G.edges_any (x : Int) w1.heap.size g v R _ (HH.out.ga.below HM.out.below) (by have := HKN.out.2; omega)).mono ?_
          rintro e w9 ⟨ue, rfl, hoe, hb9⟩
          obtain ⟨ae, ce, hue⟩ := hoe.slice_len
          rw [HLEN.out] at hue
          subst hue
          have HM9 : Hid (Frame5 w5 w6 w9 x R l k u12 ∧ AtS w9 w5.heap.size (w5.heap.size + 1) x 100 Ds Dx) := ⟨HM.out.frame.below' hb9, HAT.out.1.below hb9⟩
          clear hoe hb9 hsn
          go_wp2_with fail
          obtain ⟨wq0, hrun0⟩ := HH.out.run
          refine (ids_ups (hrun0.below' HM9.out.1.below)).mono ?_
          rintro e w10 ⟨vi, rfl, hri, hb10⟩
          have HLU : Hid ((lones R l k).map (fun x : Nat => (x : Int)) = ups R B) := by
            have := lones_ups hrun0.now.st HH.out.lab HID.out
            rw [← HKN.out.1] at this; exact this
          have hri2 : w10.ownsRow w9.heap.size 3 1 vi (lones R l k).length (natsV (lones R l k)) := by
            rw [← HLU.out, List.length_map, List.map_map] at hri
            exact hri
          obtain ⟨a1, c1, hu12, hc1⟩ := nats_shape (row_below HM9.out.1.lone hb10)
          obtain ⟨a2, c2, hvi, hc2⟩ := nats_shape hri2
          subst hvi
          have HSM : Hid (0 < (lones R l k).length → ∃ r1 r2, a1 = some ⟨r1, 0, none⟩ ∧ a2 = some ⟨r2, 0, none⟩ ∧ (∀ j, j < (lones R l k).length → w10.cell? ⟨r1, j, none⟩ = some (.int .i64 (((lones R l k).getD j 0 : Nat) : Int))) ∧ ∀ j, j < (lones R l k).length → w10.cell? ⟨r2, j, none⟩ = some (.int .i64 (((lones R l k).getD j 0 : Nat) : Int))) := fun hpos => by
            obtain ⟨g1, e1, f1⟩ := hc1 hpos
            obtain ⟨g2, e2, f2⟩ := hc2 hpos
            exact ⟨g1, g2, e1, e2, f1, f2⟩
          have HLL : Hid ((lones R l k).length ≤ 1000000) := Nat.le_trans (lones_len R l k) (by omega)
          have HM10 : Hid (Below w5.heap.size w5 w10 ∧ AtS w10 w5.heap.size (w5.heap.size + 1) x 100 Ds Dx ∧ w6.heap.size ≤ w10.heap.size) := ⟨(HM9.out.1.below' hb10).below, HM9.out.2.below hb10, (HM9.out.1.below' hb10).size⟩
          subst hu12
          obtain ⟨ll, hll⟩ : ∃ ll, (lones R l k).length = ll := ⟨_, rfl⟩
          rw [hll] at HSM HLL ⊢
          have hle6 := HM9.out.1.le
          clear hri hri2 hb10 hc1 hc2 hrun0 hll HM HM9
          go_wp2_with fail
          refine (same_ints a1 a2 ll c1 c2 (fun j => (((lones R l k).getD j 0 : Nat) : Int)) w10 HSM.out HLL.out).mono ?_
          rintro e w11 ⟨rfl, k11, hw11⟩
          have HM11 : Hid (Below w5.heap.size w5 w11 ∧ AtS w11 w5.heap.size (w5.heap.size + 1) x 100 Ds Dx ∧ w6.heap.size ≤ w11.heap.size) := by
            have hb : Below w10.heap.size w10 w11 := by rw [hw11]; exact below_drewN (Below.refl _ _) k11
            exact ⟨HM10.out.1.trans (hb.mono HM10.out.1.size), HM10.out.2.1.below hb, Nat.le_trans HM10.out.2.2 hb.size⟩
          clear hw11 HM10 HSM HLL
          have hmm := @run_makeMap Try.prog
          go_wp2_with fail
          clear hmm
          obtain ⟨m2, hm2⟩ : ∃ m2, w11.heap.size = m2 := ⟨_, rfl⟩
          obtain ⟨W12, hW12⟩ : ∃ W12, W12 = w11.alloc (.map #[] 0) := ⟨_, rfl⟩
          have HNK : Hid (NodeK R l x Dx) := nodeK (by rw [← HKN.out.1]; exact HAT.out.2)
          have hs12 : W12.heap.size = m2 + 1 := by rw [hW12, ← hm2]; simp
          have hmk : w5.heap.size + 1 + 1 + x ≤ m2 := by have := HM11.out.2.2; omega
          have hb12 : Below w11.heap.size w11 W12 := by rw [hW12]; exact (Below.refl _ _).alloc (Nat.le_refl _) _
          have HN0 : Hid (Nd w5 W12 W12 x R l Ds Dx m2 0 0 (.slice none 0 0)) := by
            refine ⟨[], .map [], [], World.ownsRow_nil _ _ _ _, CutsB.start R, ?_, Bo.start.congr (fun p q => ⟨fun h => h.elim, fun ⟨z, hz, _⟩ => by omega⟩), HM11.out.2.1.below hb12, HM11.out.1.trans (hb12.mono HM11.out.1.size), Nat.le_refl _⟩
            rw [hW12, ← hm2]; exact (World.ownsMap_made w11 _ _ _).mono (by omega)
          rw [← hW12, hm2]
          clear hW12 hm2 hb12 HM11
          go_loopw [17, 19] (fun s17 s19 wq => ∃ y : Nat, y ≤ x ∧ s19 = .int .i64 y ∧ Nd w5 W12 wq x R l Ds Dx m2 y y s17) (fun _ s19 _ => x - (intOf s19).toNat)
          case atStart => exact ⟨0, Nat.zero_le _, rfl, HN0.out⟩
          case round =>
            clear HN0
            obtain ⟨y, hy, rfl, cl, D2, ks2, hrow, hcb, hown2, hbo, hats, hbel, hsz12⟩ := hrel
            have HND : Hid (CutsB R y cl ∧ Bo (Vn R l y) D2 ks2) := ⟨hcb, hbo⟩
            have HAT4 : Hid (AtS wr w5.heap.size (w5.heap.size + 1) x 100 Ds Dx ∧ Below w5.heap.size w5 wr) := ⟨hats, hbel⟩
            have HMP : Hid (wr.ownsRow W12.heap.size 3 1 u17 cl.length (natsV cl) ∧ wr.ownsMap Try.prog 31 (plainElem Try.prog 3) m2 1000000 D2) := ⟨hrow, hown2⟩
            have hcl := hcb.len
            clear hcb hbo hats hbel hown2 hrow
            go_wp2_with fail
            refine (G.nodes_any (x : Int) w1.heap.size g v R _ (HH.out.ga.below HAT4.out.2)).mono ?_
            rintro e w13 ⟨rfl, hw13⟩
            subst hw13
            by_cases hlty : y < x
            · have tby := HAT4.out.1.tb y hlty
              have hmy := HAT4.out.1.mp y hlty
              obtain ⟨my, hmy'⟩ : ∃ my, w5.heap.size + 1 + 1 + y = my := ⟨_, rfl⟩
              have HMY : Hid (w5.heap.size + 1 + 1 + y = my) := hmy'
              obtain ⟨sz, hsz⟩ : ∃ sz, Maps.size (Dx y) = sz := ⟨_, rfl⟩
              have HCUT : Hid (1 < sz ↔ cutP R y) := by
                have := node_cut HH.out.lab HNK.out hlty
                rw [hsz] at this; exact this
              rw [hmy'] at tby hmy
              have hrow := HMP.out.1
              clear hmy'
              go_upto_if 154 with (first
                | (at_len; refine wpList_len_own _ rfl _ 58 rfl 3 4 Try.underlying58 (plainElem Try.prog 4) my 100 (Dx y) rfl hmy ?_; rw [hsz])
                | fail)
              go_cut [17] from 149 to 158 (fun s17 wx => Nd w5 W12 wx x R l Ds Dx m2 y (y + 1) s17)
              case first =>
                by_cases h1 : 1 < sz
                · as_aux_lemma =>
                  have h1i : (1 : Int) < (sz : Int) := by omega
                  have H1 : Hid (1 < sz) := h1
                  clear h1
                  go_wp2_with (first
                    | (at_builtin; refine wpList_append_own_at _ rfl _ _ 37 rfl W12.heap.size 3 j0 (.int .i64 0) 1 8 Try.underlying37 hj0 hy0 hy1 hy2 rfl (by decide) u17 _ _ rfl (hrow.alloc _) ⟨w13.heap.size, 0, none⟩ 1 1 [.int .i64 (y : Int)] rfl rfl (cell_one_new _ _ _) (ints_oneCell .i64 [(y : Int)]) (by unfold maxLen; omega) (by omega) (by simp; omega) ?_; intro v5 w14 hown5 hgrow5 hnil5 hloc5)
                    | fail)
                  go_meet
                  case rel =>
                    have hlt : ∀ j, u17.ownBlock = some j → W12.heap.size ≤ j := fun j hj => (hrow.lt j hj).1
                    have hb1 : Below w13.heap.size w13 (w13.alloc (.cells #[.int .i64 (y : Int)] 3)) := (Below.refl _ _).alloc (Nat.le_refl _) _
                    refine ⟨cl ++ [y], D2, ks2, ?_, HND.out.1.yes (HCUT.out.1 H1.out), (HMP.out.2.alloc _).kept hgrow5 (fun e => by have := hlt _ e.symm; omega), HND.out.2, (HAT4.out.1.below hb1).kept hgrow5 (fun e => by have := hlt _ e.symm; omega) (fun e => by have := hlt _ e.symm; omega) (fun z hz e => by have := hlt _ e.symm; omega), (HAT4.out.2.trans (hb1.mono HAT4.out.2.size)).grown hgrow5 (by have := HAT4.out.2.size; simp; omega) (fun j hj => by have := hlt j hj; omega), by have := hgrow5.size; simp at this; omega⟩
                    simp only [List.length_append, natsV, List.map_append] at hown5 ⊢
                    exact hown5
                · as_aux_lemma =>
                  have h1i : ¬ (1 : Int) < (sz : Int) := by omega
                  have H1 : Hid (¬ 1 < sz) := h1
                  clear h1
                  go_wp2_with fail
                  go_meet
                  case rel => exact ⟨cl, D2, ks2, HMP.out.1, HND.out.1.no (fun c => H1.out (HCUT.out.2 c)), HMP.out.2, HND.out.2, HAT4.out.1, HAT4.out.2, hsz12⟩
              case rest =>
                obtain ⟨cl', D3, ks3, hrow', hcb', hown3, hbo3, hats', hbel', hsz'⟩ := hcut
                have HR5 : Hid (wc.ownsRow W12.heap.size 3 1 u17 cl'.length (natsV cl') ∧ CutsB R (y + 1) cl' ∧ AtS wc w5.heap.size (w5.heap.size + 1) x 100 Ds Dx ∧ Below w5.heap.size w5 wc) := ⟨hrow', hcb', hats', hbel'⟩
                have HO5 : Hid (wc.ownsMap Try.prog 31 (plainElem Try.prog 3) m2 1000000 D3 ∧ Bo (Vn R l y) D3 ks3) := ⟨hown3, hbo3⟩
                have tb5 := hats'.tb y hlty
                have hm5 := hats'.mp y hlty
                rw [HMY.out] at tb5 hm5
                have hmyl : my < m2 := by have := HMY.out; omega
                clear hrow' hcb' hown3 hbo3 hats' hbel' tby hmy hrow HMP HND HAT4 HCUT hsz hsz12 hcl
                go_wp2_with (first
                  | (at_range; refine wpList_range_own _ rfl _ 58 rfl 3 4 law3 Try.underlying58 (plainElem Try.prog 4) my 100 (Dx y) rfl hm5 ?_; intro v0 hrg0 hg0 hs0)
                  | fail)
                go_frame
                have HRG0 : Hid (v0.ranges Try.prog 3 (plainElem Try.prog 4) my wc.heap.size 100 (Dx y) (Maps.has (Dx y)) (Maps.size (Dx y))) := hrg0
                have HB0 : Hid (But m2 wc v0) := ⟨hg0.os, hg0.tape, hg0.output, hg0.size, fun k hk _ => hg0.block k hk (by simp)⟩
                have HOB0 : Hid (v0.ownsMap Try.prog 31 (plainElem Try.prog 3) m2 1000000 D3) := HO5.out.1.kept hg0 (by simp)
                clear hrg0 hg0 hs0 tb5 hm5
                go_loopw [20] (fun _ wq => ∃ (left : Lit → Bool) (cnt : Nat) (D : DataW Unit) (ks : List Nat), wq.ranges Try.prog 3 (plainElem Try.prog 4) my wc.heap.size 100 (Dx y) left cnt ∧ wq.ownsMap Try.prog 31 (plainElem Try.prog 3) m2 1000000 D ∧ Bo (Vo R l y left) D ks ∧ But m2 wc wq) (fun _ wq => wq.rangeLeft my wc.heap.size)
                case atStart => exact ⟨_, _, D3, ks3, HRG0.out, HOB0.out, HO5.out.2.congr (fun a b => (Vo.start (node_all HNK.out hlty) a b).symm), HB0.out⟩
                case round =>
                  clear HRG0 HB0 HOB0 HO5
                  obtain ⟨left, cnt, D4, ks4, hrg, hob, hbo, hbt⟩ := hrel
                  have HRG : Hid (wr.ranges Try.prog 3 (plainElem Try.prog 4) my wc.heap.size 100 (Dx y) left cnt) := hrg
                  have HOB : Hid (wr.ownsMap Try.prog 31 (plainElem Try.prog 3) m2 1000000 D4 ∧ Bo (Vo R l y left) D4 ks4) := ⟨hob, hbo⟩
                  have HBT : Hid (But m2 wc wr) := hbt
                  clear hrg hob hbo hbt
                  go_wp2_with (first
                    | (at_next; refine wpList_next_ranges_ib _ rfl _ rfl 3 4 law3 Try.underlying3 Try.underlying4 my wc.heap.size 100 (Dx y) left cnt rfl HRG.out ?_ ?_)
                    | fail)
                  · as_aux_lemma =>
                    intro _ hl0
                    have HF : Hid (Nd w5 W12 wr x R l Ds Dx m2 (y + 1) (y + 1) u17) :=
                      ⟨cl', D4, ks4, row_but HR5.out.1 HBT.out (by omega), HR5.out.2.1, HOB.out.1, HOB.out.2.congr (fun a b => Vo.stop hl0 a b), HR5.out.2.2.1.but HBT.out (by omega), HR5.out.2.2.2.trans (HBT.out.below (by omega) HR5.out.2.2.2.size), Nat.le_trans hsz' HBT.out.size⟩
                    clear hl0
                    go_wp2_with fail
                    go_roundw
                    case rel => exact ⟨y + 1, by omega, by go_num, HF.out⟩
                    case measure => simp [intOf]; omega
                  · intro x1 c1 v1 cnt1 hlx hhx hrg1 hlt1 hg1 hs1 hen
                    obtain ⟨cur, rfl, hcn, hct⟩ := node_has HNK.out hlty hhx
                    have HCUR : Hid (cur < nk l R.length ∧ Tk R l cur y ∧ left (.int .i64 (cur : Int)) = true) := ⟨hcn, hct, hlx⟩
                    have HB1' : Hid (But m2 wc v1) := HBT.out.next (Nat.le_refl _) hg1
                    have HOB1 : Hid (v1.ownsMap Try.prog 31 (plainElem Try.prog 3) m2 1000000 D4) := HOB.out.1.kept hg1 (by simp; omega)
                    have HRG1 : Hid (v1.ranges Try.prog 3 (plainElem Try.prog 4) my wc.heap.size 100 (Dx y) (fun z => left z && !z.sameKey (.int .i64 (cur : Int))) cnt1 ∧ cnt1 < cnt) := ⟨hrg1, hlt1⟩
                    have tb1 := (HR5.out.2.2.1.but HB1'.out (by omega)).tb y hlty
                    rw [HMY.out] at tb1
                    have hm1 := hrg1.owns
                    have hwc : wc.heap.size < v1.heap.size := hrg1.lt
                    clear hlx hhx hrg1 hlt1 hg1 hs1 hcn hct
                    go_wp2_with (first
                      | (at_range; refine wpList_range_own _ rfl _ 58 rfl 3 4 law3 Try.underlying58 (plainElem Try.prog 4) my 100 (Dx y) rfl hm1 ?_; intro v2 hrg2 hg2 hs2)
                      | fail)
                    go_frame
                    have HRG2 : Hid (v2.ranges Try.prog 3 (plainElem Try.prog 4) my v1.heap.size 100 (Dx y) (Maps.has (Dx y)) (Maps.size (Dx y))) := hrg2
                    have HB2 : Hid (But m2 wc v2) := HB1'.out.trans ⟨hg2.os, hg2.tape, hg2.output, hg2.size, fun k hk _ => hg2.block k hk (by simp)⟩
                    have HOB2 : Hid (v2.ownsMap Try.prog 31 (plainElem Try.prog 3) m2 1000000 D4) := HOB1.out.kept hg2 (by simp)
                    have HRO2 : Hid (v2.ranges Try.prog 3 (plainElem Try.prog 4) my wc.heap.size 100 (Dx y) (fun z => left z && !z.sameKey (.int .i64 (cur : Int))) cnt1) := HRG1.out.1.kept hg2 (by simp) (by simp)
                    clear hrg2 hg2 hs2 tb1 hm1
                    go_loopw [21] (fun _ wq => ∃ (left2 : Lit → Bool) (cnt2 : Nat) (D : DataW Unit) (ks : List Nat), wq.ranges Try.prog 3 (plainElem Try.prog 4) my v1.heap.size 100 (Dx y) left2 cnt2 ∧ wq.ranges Try.prog 3 (plainElem Try.prog 4) my wc.heap.size 100 (Dx y) (fun z => left z && !z.sameKey (.int .i64 (cur : Int))) cnt1 ∧ wq.ownsMap Try.prog 31 (plainElem Try.prog 3) m2 1000000 D ∧ Bo (Vi R l y (fun z => left z && !z.sameKey (.int .i64 (cur : Int))) cur left2) D ks ∧ But m2 wc wq) (fun _ wq => wq.rangeLeft my v1.heap.size)
                    case atStart => exact ⟨_, _, D4, ks4, HRG2.out, HRO2.out, HOB2.out, HOB.out.2.congr (fun a b => (Vi.start (node_all HNK.out hlty) HCUR.out.2.2 a b).symm), HB2.out⟩
                    case round =>
                      clear HRG2 HB2 HOB2 HRO2
                      obtain ⟨left2, cnt2, D5, ks5, hrgi, hrgo, hob5, hbo5, hbt5⟩ := hrel
                      have HRI : Hid (wr.ranges Try.prog 3 (plainElem Try.prog 4) my v1.heap.size 100 (Dx y) left2 cnt2) := hrgi
                      have HRO : Hid (wr.ranges Try.prog 3 (plainElem Try.prog 4) my wc.heap.size 100 (Dx y) (fun z => left z && !z.sameKey (.int .i64 (cur : Int))) cnt1) := hrgo
                      have HO5 : Hid (wr.ownsMap Try.prog 31 (plainElem Try.prog 3) m2 1000000 D5 ∧ Bo (Vi R l y (fun z => left z && !z.sameKey (.int .i64 (cur : Int))) cur left2) D5 ks5) := ⟨hob5, hbo5⟩
                      have HBT5 : Hid (But m2 wc wr) := hbt5
                      clear hrgi hrgo hob5 hbo5 hbt5
                      go_wp2_with (first
                        | (at_next; refine wpList_next_ranges_ib _ rfl _ rfl 3 4 law3 Try.underlying3 Try.underlying4 my v1.heap.size 100 (Dx y) left2 cnt2 rfl HRI.out ?_ ?_)
                        | fail)
                      · as_aux_lemma =>
                        intro _ hl0
                        have HF : Hid (Bo (Vo R l y (fun z => left z && !z.sameKey (.int .i64 (cur : Int)))) D5 ks5) := HO5.out.2.congr (fun a b => Vi.stop hl0 (by simp [same_key]) a b)
                        clear hl0
                        go_wp2_with fail
                        go_roundw
                        case rel => exact ⟨_, _, D5, ks5, HRO.out, HO5.out.1, HF.out, HBT5.out⟩
                        case measure => rw [HRO.out.left_eq, HRG.out.left_eq]; exact HRG1.out.2
                      · intro x2 c2 v3 cnt3 hlx2 hhx2 hrg3 hlt3 hg3 hs3 hen3
                        obtain ⟨q, rfl, hqn, hqt⟩ := node_has HNK.out hlty hhx2
                        have HQ : Hid (q < nk l R.length ∧ Tk R l q y ∧ left2 (.int .i64 (q : Int)) = true) := ⟨hqn, hqt, hlx2⟩
                        have HB3 : Hid (But m2 wc v3) := HBT5.out.next (by omega) hg3
                        have HOB3 : Hid (v3.ownsMap Try.prog 31 (plainElem Try.prog 3) m2 1000000 D5) := HO5.out.1.kept hg3 (by simp; omega)
                        have HRI3 : Hid (v3.ranges Try.prog 3 (plainElem Try.prog 4) my v1.heap.size 100 (Dx y) (fun z => left2 z && !z.sameKey (.int .i64 (q : Int))) cnt3 ∧ cnt3 < cnt2) := ⟨hrg3, hlt3⟩
                        have HRO3 : Hid (v3.ranges Try.prog 3 (plainElem Try.prog 4) my wc.heap.size 100 (Dx y) (fun z => left z && !z.sameKey (.int .i64 (cur : Int))) cnt1) := HRO.out.kept hg3 (by simp; omega) (by simp; omega)
                        clear hlx2 hhx2 hrg3 hlt3 hg3 hs3 hqn hqt
                        by_cases hcq : cur < q
                        · as_aux_lemma =>
                          have hci : (cur : Int) < (q : Int) := by omega
                          have hMt : Mt R l cur q y := ⟨HCUR.out.1, HQ.out.1, hcq, HCUR.out.2.1, HQ.out.2.1⟩
                          have hsm := Vn.small HKN.out.2 hMt
                          have hfr := Vi.fresh (left := (fun z => left z && !z.sameKey (.int .i64 (cur : Int)))) HH.out.lab hMt HQ.out.2.2
                          obtain ⟨st, w8, w9, lk0, r1, lk1, r2, hown9, g9⟩ := both_more (w := v3.drew) (show v3.drew.ownsMap Try.prog 31 (plainElem Try.prog 3) m2 1000000 D5 from HOB3.out) HO5.out.2 hsm.1 hsm.2 hfr
                          have HF : Hid (∃ (left2 : Lit → Bool) (cnt2 : Nat) (D : DataW Unit) (ks : List Nat), w9.ranges Try.prog 3 (plainElem Try.prog 4) my v1.heap.size 100 (Dx y) left2 cnt2 ∧ w9.ranges Try.prog 3 (plainElem Try.prog 4) my wc.heap.size 100 (Dx y) (fun z => left z && !z.sameKey (.int .i64 (cur : Int))) cnt1 ∧ w9.ownsMap Try.prog 31 (plainElem Try.prog 3) m2 1000000 D ∧ Bo (Vi R l y (fun z => left z && !z.sameKey (.int .i64 (cur : Int))) cur left2) D ks ∧ But m2 wc w9) := by
                            refine ⟨_, cnt3, _, _, World.ranges.kept (w := v3.drew) (show v3.drew.ranges Try.prog 3 (plainElem Try.prog 4) my v1.heap.size 100 (Dx y) (fun z => left2 z && !z.sameKey (.int .i64 (q : Int))) cnt3 from HRI3.out.1) g9 (by simp; omega) (by simp; omega), World.ranges.kept (w := v3.drew) (show v3.drew.ranges Try.prog 3 (plainElem Try.prog 4) my wc.heap.size 100 (Dx y) (fun z => left z && !z.sameKey (.int .i64 (cur : Int))) cnt1 from HRO3.out) g9 (by simp; omega) (by simp; omega), hown9, (HO5.out.2.put hsm.1 hsm.2 hfr).congr (fun a b => (Vi.take hMt a b).symm), ?_⟩
                            exact (HB3.out.trans (But.of_below (Below.refl _ _).drew)).trans ⟨g9.os, g9.tape, g9.output, g9.size, fun k hk hne => g9.block k hk (fun e => hne (by injection e))⟩
                          have HMS : Hid (w9.rangeLeft my v1.heap.size < wr.rangeLeft my v1.heap.size) := by
                            have h9 := World.ranges.kept (w := v3.drew) (show v3.drew.ranges Try.prog 3 (plainElem Try.prog 4) my v1.heap.size 100 (Dx y) (fun z => left2 z && !z.sameKey (.int .i64 (q : Int))) cnt3 from HRI3.out.1) g9 (by simp; omega) (by simp; omega)
                            rw [h9.left_eq, HRI.out.left_eq]; exact HRI3.out.2
                          have r2w : (Instr.entryStore 62 (.map (some m2)) (.int .i64 st) (.int .i64 (IntKind.i64.wrap 1))).run Try.prog w8 = .ok () w9 := r2
                          clear hown9 g9 hfr hsm hMt r2
                          go_upto_region 48 with fail
                          go_region_held (fun _ => True) (with_reducible assumption) (fail)
                          all_goals
                            go_wp2_with fail
                            go_roundw
                            case rel => exact HF.out
                            case measure => exact HMS.out
                        · as_aux_lemma =>
                          have hci : ¬ (cur : Int) < (q : Int) := by omega
                          have hMt : ¬ Mt R l cur q y := fun h => hcq h.2.2.1
                          have HF : Hid (Bo (Vi R l y (fun z => left z && !z.sameKey (.int .i64 (cur : Int))) cur (fun z => left2 z && !z.sameKey (.int .i64 (q : Int)))) D5 ks5) := HO5.out.2.congr (fun a b => (Vi.pass hMt a b).symm)
                          go_wp2_with fail
                          go_roundw
                          case rel => exact ⟨_, _, D5, ks5, HRI3.out.1, HRO3.out, HOB3.out, HF.out, HB3.out⟩
                          case measure => rw [HRI3.out.1.left_eq, HRI.out.left_eq]; exact HRI3.out.2
            · have hye : y = x := by omega
              subst hye
              have hm2o := HMP.out.2
              go_wp2_with (first
                | (at_range; refine wpList_range_own _ rfl _ 62 rfl 31 3 law31 Try.underlying62 (plainElem Try.prog 3) m2 1000000 D2 rfl hm2o ?_; intro v0 hrg0 hg0 hs0)
                | fail)
              go_frame
              have HRG0 : Hid (v0.ranges Try.prog 31 (plainElem Try.prog 3) m2 w13.heap.size 1000000 D2 (Maps.has D2) (Maps.size D2)) := hrg0
              have HB0 : Hid (Below w13.heap.size w13 v0) := ⟨hg0.os, hg0.tape, hg0.output, hg0.size, fun k hk => hg0.block k hk (by simp)⟩
              clear hrg0 hg0 hs0 hm2o
              go_loopw [23] (fun _ wq => ∃ (left : Lit → Bool) (cnt : Nat), wq.ranges Try.prog 31 (plainElem Try.prog 3) m2 w13.heap.size 1000000 D2 left cnt ∧ Below w13.heap.size w13 wq) (fun _ wq => wq.rangeLeft m2 w13.heap.size)
              case atStart => exact ⟨_, _, HRG0.out, HB0.out⟩
              case round =>
                clear HRG0 HB0
                obtain ⟨left, cnt, hrg, hbt⟩ := hrel
                have HRG : Hid (wr.ranges Try.prog 31 (plainElem Try.prog 3) m2 w13.heap.size 1000000 D2 left cnt) := hrg
                have HBT : Hid (Below w13.heap.size w13 wr) := hbt
                clear hrg hbt
                go_wp2_with (first
                  | (at_next; refine wpList_next_ranges_vi _ rfl _ rfl 31 3 law31 Try.underlying3 m2 w13.heap.size 1000000 D2 left cnt rfl HRG.out ?_ ?_)
                  | fail)
                · intro _ _
                  obtain ⟨B0, hrow0⟩ := HH.out.row
                  have HB5' : Hid (Below w5.heap.size w5 wr) := HAT4.out.2.trans (HBT.out.mono HAT4.out.2.size)
                  go_wp2_with fail
                  refine (bcuts_any b mb N B0 D vb cs wr (HH.out.at_.below HB5'.out) (row_below hrow0 HB5'.out) (by have := HH.out.cuts.len; have := HH.out.n14; omega)).mono ?_
                  rintro e w14 ⟨v14, rfl, hrow14, hb14⟩
                  obtain rfl := CutsB.eq HH.out.cuts HND.out.1
                  obtain ⟨a1, c1, hu17, hc1⟩ := nats_shape (row_below (row_below HMP.out.1 HBT.out) hb14)
                  obtain ⟨a2, c2, hv14, hc2⟩ := nats_shape hrow14
                  subst hv14
                  subst hu17
                  have HSM : Hid (0 < cs.length → ∃ r1 r2, a1 = some ⟨r1, 0, none⟩ ∧ a2 = some ⟨r2, 0, none⟩ ∧ (∀ j, j < cs.length → w14.cell? ⟨r1, j, none⟩ = some (.int .i64 ((cs.getD j 0 : Nat) : Int))) ∧ ∀ j, j < cs.length → w14.cell? ⟨r2, j, none⟩ = some (.int .i64 ((cs.getD j 0 : Nat) : Int))) := fun hpos => by
                    obtain ⟨g1, e1, f1⟩ := hc1 hpos
                    obtain ⟨g2, e2, f2⟩ := hc2 hpos
                    exact ⟨g1, g2, e1, e2, f1, f2⟩
                  have HB14 : Hid (Below w.heap.size w w14) := HB5.out.trans ((HB5'.out.trans (hb14.mono HB5'.out.size)).mono HB5.out.size)
                  have hcsl := HH.out.cuts.len
                  have hcs14 := HH.out.n14
                  clear hc1 hc2 hrow14 hb14
                  go_wp2_with fail
                  refine (same_ints a1 a2 cs.length c1 c2 (fun j => ((cs.getD j 0 : Nat) : Int)) w14 HSM.out (by omega)).mono ?_
                  rintro e w15 ⟨rfl, k15, hw15⟩
                  have HB15 : Hid (Below w.heap.size w w15) := by
                    have hb : Below w14.heap.size w14 w15 := by rw [hw15]; exact below_drewN (Below.refl _ _) k15
                    exact HB14.out.trans (hb.mono HB14.out.size)
                  clear hw15
                  go_wp2_with fail
                  go_ret
                  exact ⟨rfl, HB15.out⟩
                · intro key c kl v1 cnt1 hk hat hrg1 hlt1 hg1 hs1 hen
                  obtain rfl := HND.out.2.one hk hat
                  have HRG1 : Hid (v1.ranges Try.prog 31 (plainElem Try.prog 3) m2 w13.heap.size 1000000 D2 (fun z => left z && !z.sameKey kl) cnt1 ∧ cnt1 < cnt) := ⟨hrg1, hlt1⟩
                  have HB1'' : Hid (Below w13.heap.size w13 v1) := HBT.out.trans ((⟨hg1.os, hg1.tape, hg1.output, hg1.size, fun k hk => hg1.block k (Nat.lt_of_lt_of_le hk HBT.out.size) (fun e => by injection e with e; omega)⟩ : Below w13.heap.size wr v1))
                  clear hk hat hrg1 hlt1 hg1 hs1
                  go_wp2_with fail
                  go_roundw
                  case rel => exact ⟨_, _, HRG1.out.1, HB1''.out⟩
                  case measure => rw [HRG1.out.1.left_eq, HRG.out.left_eq]; exact HRG1.out.2

end Go.Proofs.Ytigodbamphejmaa.S
