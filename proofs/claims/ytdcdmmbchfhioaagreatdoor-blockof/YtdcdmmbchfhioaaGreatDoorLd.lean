/- The law's walk: what the blocks are, and what the document's are. -/
import Derived.Test.YtdcdmmbchfhioaaGreatDoorLac
import Derived.Test.YtdcdmmbchfhioaaGreatDoorLe
import Derived.Test.YtdcdmmbchfhioaaGreatDoorCd
import Derived.Test.YtdcdmmbchfhioaaGreatDoorCb
import Derived.Test.YtdcdmmbchfhioaaGreatDoorKfh
import Derived.Test.YtdcdmmbchfhioaaGreatDoorGYf
namespace Go.Proofs.YtdcdmmbchfhioaaGreatDoor.S
open Go.RowKit Go.WideMaps Go.Maps

set_option maxHeartbeats 8000000 in
set_option maxRecDepth 100000 in
theorem blockof_in (n : Nat) (a : Option Addr) (bl off m cap : Nat) (ps : Nat → Int × Int) (w : World) (hn : n ≤ 16) (hm : m ≤ 60) (hgl : G.Gl w) (ha : 0 < m → a = some ⟨bl, off, none⟩) (hp : PairsAt w bl off m ps) (hbl : 0 < m → bl < w.heap.size) :
    Calls Tryz.prog 4 #[.int .i64 (n : Int), .slice a m cap] w fun e w' => e = .returned (.bool true) ∧ Below w.heap.size w w' := by
  have HGL : Hid (G.Gl w) := hgl
  have HMD : Hid _ := made_in n a bl off m cap ps w hn hm ha hp hbl
  clear hgl ha hp hbl
  go_enter Tryz.func4, Tryz.ntmps4
  go_wp2_with fail
  refine Calls.mono HMD.out ?_
  rintro e w1 ⟨p, q, v, u, R, L, rfl, hmk⟩
  have hed := hmk.ed hm
  have hid : ∀ e ∈ L, 0 ≤ e.1 ∧ e.1 ≤ 1000000 := fun e he => by have := hed.ids e he; omega
  have HM : Hid (Mk w w1 p q n m v u R L) := hmk
  have HE : Hid (Ed n (60 + 1) L ∧ (∀ e ∈ L, 0 ≤ e.1 ∧ e.1 ≤ 1000000) ∧ L.length ≤ 60) := ⟨hed, hid, Nat.le_trans hmk.len hm⟩
  clear hmk hed hid HMD
  go_wp2_with fail
  refine (bof_any n w.heap.size p (60 + 1) v L w1 HM.out.two.ga (by omega) HE.out.1 (by omega)).mono ?_
  rintro e w2 ⟨pb, mb, N, D, vb, lB, cs, rfl, hat, hN, hlm, hbs, hcb, hrow, hb2⟩
  have HB2 : Hid (Below w1.heap.size w1 w2 ∧ Below w.heap.size w w2) := ⟨hb2, HM.out.two.below.trans (hb2.mono HM.out.two.below.size)⟩
  have HAT : Hid (BlAt w2 pb mb N D vb ∧ Lm D L lB ∧ Bs L n [] lB ∧ w2.ownsRow w1.heap.size 3 1 vb cs.length (natsV cs)) := ⟨hat, hlm, hbs, hrow⟩
  have HCS : Hid (CutsB L n cs) := hcb
  have hcl := hcb.len
  clear hat hlm hbs hcb hrow hb2
  go_wp2_with fail
  refine (blocks_doc n w.heap.size q (60 + 1) u R L w2 (HM.out.two.ra.below HB2.out.1) HM.out.inv HE.out.1 (by omega) (by omega)).mono ?_
  rintro e w3 ⟨l, hgd, hlk, aP, cP, rfl, hrows, hb3⟩
  obtain rfl : lB = l := bs_lbs HAT.out.2.2.1 HE.out.1.inn hgd hlk
  have HGD : Hid (Good L.length lB) := hgd
  have HB3 : Hid (Below w2.heap.size w2 w3 ∧ Below w1.heap.size w1 w3 ∧ Below w.heap.size w w3) := ⟨hb3, HB2.out.1.trans (hb3.mono HB2.out.1.size), HB2.out.2.trans (hb3.mono HB2.out.2.size)⟩
  have HR3 : Hid (Rd w3 aP (blks L lB) (blks L lB).length) := hrows
  obtain ⟨kb, hkb⟩ : ∃ kb, (blks L lB).length = kb := ⟨_, rfl⟩
  have HKB : Hid ((blks L lB).length = kb) := hkb
  rw [hkb]
  clear hgd hlk hrows hb3 hkb
  go_wp2_with fail
  refine (bparts_any pb mb N D vb w3 (HAT.out.1.below HB3.out.1) HAT.out.2.1 HGD.out HM.out.inv.up HE.out.2.1 (by have := HE.out.2.2; omega) (by omega)).mono ?_
  rintro e w4 ⟨v4, rfl, ⟨g4, c4, rfl, hr4⟩, hb4⟩
  have HB4 : Hid (Below w3.heap.size w3 w4) := hb4
  have HR4 : Hid (RowsAt w4 g4 (blks L lB) (blks L lB).length ∧ Rd w4 aP (blks L lB) (blks L lB).length) := ⟨hr4, HR3.out.below hb4⟩
  rw [HKB.out]
  clear hr4 hb4
  go_wp2_with fail
  refine (sames_rows (some ⟨g4, 0, none⟩) aP kb c4 cP (blks L lB) w4 (fun hc => ?_) ?_ (fun i => Nat.le_trans (blks_row L lB i) (by have := HE.out.2.2; omega))).mono ?_
  · obtain ⟨g, e, hr⟩ := HR4.out.2 (by rw [HKB.out]; exact hc)
    have h1 := HR4.out.1
    rw [HKB.out] at h1 hr
    exact ⟨g4, g, rfl, e, h1, hr⟩
  · have := blks_len L lB
    have := HE.out.2.2
    have := HKB.out
    omega
  rintro e w5 ⟨rfl, k5, hw5⟩
  have HB5 : Hid (Below w3.heap.size w3 w5) := HB4.out.trans (by rw [hw5]; exact below_drewN (Below.refl _ _) k5 |>.mono HB4.out.size)
  clear hw5 HR4 HB4
  go_wp2_with fail
  refine (bcuts_any pb mb N w1.heap.size D vb cs w5 ((HAT.out.1.below HB3.out.1).below HB5.out) (row_below (row_below HAT.out.2.2.2 HB3.out.1) HB5.out) (by omega)).mono ?_
  rintro e w6 ⟨v6, rfl, hrow6, hb6⟩
  have HB6 : Hid (Below w3.heap.size w3 w6 ∧ Below w1.heap.size w1 w6) := ⟨HB5.out.trans (hb6.mono HB5.out.size), HB3.out.2.1.trans ((HB5.out.trans (hb6.mono HB5.out.size)).mono HB3.out.2.1.size)⟩
  have HR6 : Hid (w6.ownsRow w5.heap.size 3 1 v6 cs.length (natsV cs)) := hrow6
  clear hrow6 hb6
  go_wp2_with fail
  refine (cuts_doc n w.heap.size q (60 + 1) u R L w6 (HM.out.two.ra.below HB6.out.2) HM.out.inv HE.out.1 (by omega)).mono ?_
  rintro e w7 ⟨v7, cs', rfl, hcb', hrow7, hb7⟩
  obtain rfl := CutsB.eq HCS.out hcb'
  have HB7 : Hid (Below w3.heap.size w3 w7 ∧ Below w1.heap.size w1 w7) := ⟨HB6.out.1.trans (hb7.mono HB6.out.1.size), HB6.out.2.trans (hb7.mono HB6.out.2.size)⟩
  obtain ⟨a6, k6, rfl, hc6⟩ := nats_shape (row_below HR6.out hb7)
  obtain ⟨a7, k7, rfl, hc7⟩ := nats_shape hrow7
  have HSM : Hid (0 < cs.length → ∃ r1 r2, a6 = some ⟨r1, 0, none⟩ ∧ a7 = some ⟨r2, 0, none⟩ ∧ (∀ j, j < cs.length → w7.cell? ⟨r1, j, none⟩ = some (.int .i64 ((cs.getD j 0 : Nat) : Int))) ∧ ∀ j, j < cs.length → w7.cell? ⟨r2, j, none⟩ = some (.int .i64 ((cs.getD j 0 : Nat) : Int))) := fun hpos => by
    obtain ⟨g1, e1, f1⟩ := hc6 hpos
    obtain ⟨g2, e2, f2⟩ := hc7 hpos
    exact ⟨g1, g2, e1, e2, f1, f2⟩
  clear hcb' hrow7 hb7 hc6 hc7 HR6
  go_wp2_with fail
  refine (same_ints a6 a7 cs.length k6 k7 (fun j => ((cs.getD j 0 : Nat) : Int)) w7 HSM.out (by omega)).mono ?_
  rintro e w8 ⟨rfl, k8, hw8⟩
  have hb78 : Below w7.heap.size w7 w8 := by rw [hw8]; exact below_drewN (Below.refl _ _) k8
  have HB8 : Hid (Below w3.heap.size w3 w8 ∧ Below w1.heap.size w1 w8) := ⟨HB7.out.1.trans (hb78.mono HB7.out.1.size), HB7.out.2.trans (hb78.mono HB7.out.2.size)⟩
  clear hw8 hb78 HSM
  go_wp2_with fail
  refine (G.sorted_any w.heap.size q (n : Int) u R L w8 (HM.out.two.ra.below HB8.out.2) HM.out.inv).mono ?_
  rintro e w9 ⟨va, rfl, hall, hb9⟩
  obtain ⟨aa, ca, hva⟩ := hall.slice_len
  have HB9 : Hid (Below w3.heap.size w3 w9) := HB8.out.1.trans (hb9.mono HB8.out.1.size)
  have HF0 : Hid (BFin w w9 pb mb N n D vb va L lB w8.heap.size aP) := ⟨(HAT.out.1.below HB3.out.1).below HB9.out, HAT.out.2.1, HR3.out.below HB9.out, hall, HB3.out.2.2.trans (HB9.out.mono HB3.out.2.2.size)⟩
  obtain ⟨len, hlen⟩ : ∃ len, L.length = len := ⟨_, rfl⟩
  have HLEN : Hid (L.length = len) := hlen
  rw [hlen] at hva
  subst hva
  have hlen60 : len ≤ 60 := by rw [← hlen]; exact HE.out.2.2
  clear hall hb9 hlen HB2 HB3 HR3 HB5 HB6 HB7 HB8 HB9 HCS HAT hcl
  have HQ : Hid (Good L.length lB ∧ G.Up L ∧ ∀ e ∈ L, 0 ≤ e.1 ∧ e.1 ≤ 1000000) := ⟨HGD.out, HM.out.inv.up, HE.out.2.1⟩
  clear HM HGD
  go_wp2_with fail
  go_loopw [11] (fun s11 wq => ∃ x : Nat, x ≤ len ∧ s11 = .int .i64 x ∧ BFin w wq pb mb N n D vb (.slice aa len ca) L lB w8.heap.size aP) (fun s11 _ => len - (intOf s11).toNat)
  case atStart => exact ⟨0, Nat.zero_le _, rfl, HF0.out⟩
  case round =>
    clear HF0
    obtain ⟨x, hx, rfl, hf⟩ := hrel
    have HF1 : Hid (BFin w wr pb mb N n D vb (.slice aa len ca) L lB w8.heap.size aP) := hf
    clear hf
    by_cases hxl : x < len
    · go_wp2_with fail
      go_loopw [12] (fun s12 wq => ∃ y : Nat, y ≤ len ∧ s12 = .int .i64 y ∧ BFin w wq pb mb N n D vb (.slice aa len ca) L lB w8.heap.size aP) (fun s12 _ => len - (intOf s12).toNat)
      case atStart => exact ⟨0, Nat.zero_le _, rfl, HF1.out⟩
      case round =>
        clear HF1
        obtain ⟨y, hy, rfl, hf⟩ := hrel
        have HF2 : Hid (BFin w wr pb mb N n D vb (.slice aa len ca) L lB w8.heap.size aP) := hf
        clear hf
        by_cases hyl : y < len
        · as_aux_lemma =>
          obtain ⟨g, haa⟩ : ∃ g, aa = some ⟨g, 0, none⟩ := by
            rcases HF2.out.all.shape with ⟨h1, h2⟩ | ⟨g, cap, h1, _⟩
            · have := HLEN.out; rw [h2] at this; simp at this; omega
            · injection h1 with e1 _ _
              exact ⟨g, e1⟩
          subst haa
          obtain ⟨X, hX⟩ : ∃ X, idN L x = X := ⟨_, rfl⟩
          obtain ⟨Y, hY⟩ : ∃ Y, idN L y = Y := ⟨_, rfl⟩
          have HXY : Hid (idN L x = X ∧ idN L y = Y ∧ x < L.length ∧ y < L.length) := ⟨hX, hY, by rw [HLEN.out]; exact hxl, by rw [HLEN.out]; exact hyl⟩
          have c1 := all_cell HF2.out HQ.out.2.2 HXY.out.2.2.1 hX
          have c2 := all_cell HF2.out HQ.out.2.2 HXY.out.2.2.2 hY
          obtain ⟨s, hs⟩ : ∃ s : Bool, s = decide (lB.getD x 0 = lB.getD y 0) := ⟨_, rfl⟩
          have HS : Hid (s = true ↔ lB.getD x 0 = lB.getD y 0) := by
            show s = true ↔ _
            rw [hs, decide_eq_true_eq]
          clear hX hY hs
          go_upto_region 17 with fail
          go_cut [13, 14] from 61 to 75 (fun s13 s14 wx => s13 = .bool s ∧ s14 = .nilIface ∧ Below wr.heap.size wr wx)
          case first =>
            go_region_held (fun w' => w'.cell? ⟨g, x * 3, none⟩ = some (.int .i64 (X : Int)) ∧ w'.cell? ⟨g, y * 3, none⟩ = some (.int .i64 (Y : Int))) (go_keep)
              (first | (refine Calls.mono (bsame_n HF2.out.drew HQ.out.1 HQ.out.2.1 HQ.out.2.2 x y X Y s HXY.out.2.2.1 HXY.out.2.2.2 HXY.out.1 HXY.out.2.1 HS.out) ?_; rintro e w' ⟨rfl, rfl⟩))
            all_goals
              go_wp2_with fail
              go_meet
              case rel => exact ⟨rfl, rfl, (Below.refl _ _).drew⟩
          case rest =>
            obtain ⟨rfl, rfl, hbc⟩ := hcut
            have HF3 : Hid (BFin w wc pb mb N n D vb (.slice (some ⟨g, 0, none⟩) len ca) L lB w8.heap.size aP) := HF2.out.below' hbc
            clear hbc c1 c2 HF2
            have c1 := all_cell HF3.out HQ.out.2.2 HXY.out.2.2.1 HXY.out.1
            have c2 := all_cell HF3.out HQ.out.2.2 HXY.out.2.2.2 HXY.out.2.1
            go_upto_region 18 with fail
            go_cut [93] from 76 to 93 (fun s93 wx => s93 = .bool false ∧ Below wc.heap.size wc wx)
            case first =>
              go_region_held (fun w' => w'.cell? ⟨g, x * 3, none⟩ = some (.int .i64 (X : Int)) ∧ w'.cell? ⟨g, y * 3, none⟩ = some (.int .i64 (Y : Int))) (go_keep)
                (first | (refine Calls.mono (bin_n HF3.out.drew HQ.out.1 HQ.out.2.1 HQ.out.2.2 (by have := HE.out.2.2; omega) x y X Y cP s HXY.out.2.2.1 HXY.out.2.2.2 HXY.out.1 HXY.out.2.1 HS.out kb HKB.out) ?_; rintro e w' ⟨rfl, rfl⟩))
              all_goals
                go_wp2_with fail
                go_meet
                case rel => exact ⟨rfl, (Below.refl _ _).drew⟩
            case rest =>
              obtain ⟨rfl, hbc⟩ := hcut
              rename_i wd
              have HF4 : Hid (BFin w _ pb mb N n D vb (.slice (some ⟨g, 0, none⟩) len ca) L lB w8.heap.size aP) := HF3.out.below' hbc
              clear hbc c1 c2 HF3
              go_wp2_with fail
              go_roundw
              case rel => exact ⟨y + 1, by omega, by go_num, HF4.out⟩
              case measure => simp [intOf]; omega
        · as_aux_lemma =>
          go_wp2_with fail
          go_roundw
          case rel => exact ⟨x + 1, by omega, by go_num, HF2.out⟩
          case measure => simp [intOf]; omega
    · as_aux_lemma =>
      go_wp2_with fail
      refine (bsame_out 99 0 pb mb N D vb _ HF1.out.at_ HF1.out.lm (fun e he h => by have := (HE.out.1.ids e he).2; omega) (wf_small (by omega) (by omega)) (wf_small (by omega) (by omega))).mono ?_
      rintro e v1 ⟨rfl, hb1⟩
      have HG1 : Hid (Below w.heap.size w v1) := (HF1.out.below' hb1).below
      clear hb1 HF1
      go_wp2_with fail
      refine (G.bare_any (.iface 29 (.int .i64 7)) 7 v1 (HGL.out.below HG1.out) (by simp [G.errV])).mono ?_
      rintro e v2 ⟨rfl, hb2⟩
      have HG2 : Hid (Below w.heap.size w v2) := HG1.out.trans (hb2.mono HG1.out.size)
      clear hb2 HG1
      go_wp2_with fail
      go_ret
      exact ⟨rfl, HG2.out⟩

end Go.Proofs.YtdcdmmbchfhioaaGreatDoor.S
