/- The law SetsOrder: the walk. -/
import Derived.Test.YtkoghblolnklmaaW9
namespace Go.Proofs.Ytkoghblolnklmaa
open Go.RowKit

set_option maxHeartbeats 8000000 in
set_option maxRecDepth 100000 in
theorem order_any (n0 turn : Int) (a : Option Addr) (bl off m cap : Nat) (ps : Nat → Int × Int) (w : World) (hm : m ≤ 100) (ha : 0 < m → a = some ⟨bl, off, none⟩) (hps : PairsAt w bl off m ps) (hbl : 0 < m → bl < w.heap.size) :
    Calls Try.prog 3 #[.int .i64 n0, .slice a m cap, .int .i64 turn] w fun e w' => e = .returned (.bool true) ∧ Below w.heap.size w w' := by
  have h100 : ¬ ((100 : Int) < (m : Int)) := by omega
  have HAA : Hid (0 < m → a = some ⟨bl, off, none⟩) := ha
  have HBL : Hid (0 < m → bl < w.heap.size) := hbl
  clear ha hbl
  go_enter Try.func3, Try.ntmps3
  go_wp2_with fail
  refine (joined_any _).mono ?_
  rintro e w0 ⟨rfl, hb1⟩
  go_wp2_with fail
  refine (pick_any n0 40 _ (by omega) (by omega)).mono ?_
  rintro e w1 ⟨rfl, rfl⟩
  have hn1 := pk_lt n0 40 (by omega)
  generalize hn : pk n0 40 = n1 at hn1
  have HN : Hid (pk n0 40 = n1) := hn
  clear hn
  go_wp2_with fail
  rw [show (1 + (n1 : Int)) = ((n1 + 1 : Nat) : Int) from by omega]
  have hn40 : n1 + 1 ≤ 40 := by omega
  have hn0' : 0 < n1 + 1 := by omega
  clear hn1 HN
  generalize n1 + 1 = n at *
  refine (new_in n _ hn40).mono ?_
  rintro e w2 ⟨rfl, hs2, hb2⟩
  go_wp2_with fail
  refine (new_in n _ hn40).mono ?_
  rintro e w3 ⟨rfl, hs3, hb3⟩
  have HT : Hid (Two w w3 (w1.heap.size + 1) w1.heap.size (w2.heap.size + 1) w2.heap.size (List.range n) (List.range n)) := by
    have q1 := hb1.size
    have q2 := hs2.plt
    have q3 := hs2.blt
    exact ⟨hs2.below hb3 q2 q3, hs3, q1, by omega, by omega, by omega, by omega, (hb1.trans (hb2.mono q1)).trans (hb3.mono (by omega))⟩
  generalize w1.heap.size + 1 = pa at *
  generalize w1.heap.size = ba at *
  generalize w2.heap.size + 1 = pb at *
  generalize w2.heap.size = bb at *
  have HP : Hid (PairsAt w bl off m ps) := hps
  generalize htt : pk turn m = t
  have HTT : Hid (pk turn m = t) := htt
  clear htt
  clear hs2 hs3 hb1 hb2 hb3 hps
  go_wp2_with fail
  go_loopg [11, 12, 13, 14, 15, 16, 17, 18] m (fun r s11 i _ _ _ _ _ _ wr => ∃ k : Nat, i = .int .i64 k ∧ k + r = m ∧ s11 = .int .i64 (okJ (fa ps n) n k : Int) ∧ Two w wr pa ba pb bb (runJ (fa ps n) n k) (runJ (fb ps m t n) n k))
  case atStart => exact ⟨0, rfl, by omega, rfl, HT.out⟩
  case round =>
    obtain ⟨k, rfl, hk, rfl, hT⟩ := hrel
    clear HT
    by_cases hlt : k < m
    · have haa := HAA.out (by omega)
      have hbl := HBL.out (by omega)
      clear HAA HBL
      subst haa
      have HF : Hid (fa ps n k = (pk (ps k).1 n, pk (ps k).2 n)) := rfl
      have HG : Hid (fb ps m t n k = (pk (ps ((k + t) % m)).2 n, pk (ps ((k + t) % m)).1 n)) := rfl
      have htl : t < m := by have := pk_lt turn m (by omega); rw [HTT.out] at this; exact this
      have hj := Nat.mod_lt (k + t) (show 0 < m by omega)
      have hblr : ∀ o, wr.cell? ⟨bl, o, none⟩ = w.cell? ⟨bl, o, none⟩ := fun o => hT.below.cell (p := ⟨bl, o, none⟩) hbl
      have c1 := (hblr _).trans (HP.out.a k hlt)
      have c2 := (hblr _).trans (HP.out.b k hlt)
      have c3 := (hblr _).trans (HP.out.a _ hj)
      have c4 := (hblr _).trans (HP.out.b _ hj)
      have hmod : ((k : Int) + (t : Int)) % (m : Int) = (((k + t) % m : Nat) : Int) := by rw [Int.natCast_emod, Int.natCast_add]
      have hmod' : ((k : Int) + (t : Int)).tmod (m : Int) = (((k + t) % m : Nat) : Int) := by rw [Int.tmod_eq_emod_of_nonneg (by omega)]; exact hmod
      generalize (ps k).1 = x1 at *
      generalize (ps k).2 = x2 at *
      generalize (ps ((k + t) % m)).1 = x3 at *
      generalize (ps ((k + t) % m)).2 = x4 at *
      generalize (k + t) % m = j at *
      have H2 : Hid (Two w wr pa ba pb bb (runJ (fa ps n) n k) (runJ (fb ps m t n) n k)) := hT
      have hokl : okJ (fa ps n) n k ≤ k := okJ_le _ _ k
      clear hT hblr
      go_upto_region 14 with fail
      go_cut [13, 14] from 60 to 116 (fun s13 s14 wx => Boxes wr wx s13 s14 x1 x2 x3 x4)
      case first =>
        have hkt : (0 : Int) ≤ (k : Int) + (t : Int) := by omega
        have hml : (1 : Int) ≤ (m : Int) := by omega
        have hmz : ((m : Int) == 0) = false := beq_eq_false_iff_ne.2 (by omega)
        have hjl : (j : Int) < (m : Int) := by omega
        go_region_held (fun w' => w'.cell? ⟨bl, off + k * 2, none⟩ = some (.int .i64 x1) ∧ w'.cell? ⟨bl, off + k * 2 + 1, none⟩ = some (.int .i64 x2) ∧ w'.cell? ⟨bl, off + j * 2, none⟩ = some (.int .i64 x3) ∧ w'.cell? ⟨bl, off + j * 2 + 1, none⟩ = some (.int .i64 x4)) (go_keep)
          (first | (go_at_call 5; refine (pick_any turn m _ (by omega) (by omega)).mono ?_; rintro e w' ⟨rfl, rfl⟩; rw [HTT.out]))
        all_goals
          go_wp2_with fail
          go_meet
          case rel =>
            first | exact boxes_ab wr x1 x2 x3 x4 | exact boxes_ba wr x1 x2 x3 x4
      case rest =>
        obtain ⟨q13, q14, rfl, rfl, d1, d2, d3, d4, l13, l14, hbx⟩ := hcut
        have hT := H2.out.below' hbx
        have hga := good_run (f := fa ps n) (n := n) k (fun i _ => ⟨pk_lt _ _ hn0', pk_lt _ _ hn0'⟩)
        have hgb := good_run (f := fb ps m t n) (n := n) k (fun i _ => ⟨pk_lt _ _ hn0', pk_lt _ _ hn0'⟩)
        have k1 : q13 ≠ ba := by have := H2.out.sa.blt; omega
        have k2 : q14 ≠ ba := by have := H2.out.sa.blt; omega
        have k3 : q13 < wc.heap.size := lt_of_cell d1
        have k4 : q14 < wc.heap.size := lt_of_cell d3
        have k5 : q14 ≠ bb := by have := H2.out.sb.blt; omega
        have HRA : Hid (runJ (fa ps n) n (k + 1) = joinL (runJ (fa ps n) n k) (pk x1 n) (pk x2 n)) := run_succ HF.out
        have HRB : Hid (runJ (fb ps m t n) n (k + 1) = joinL (runJ (fb ps m t n) n k) (pk x4 n) (pk x3 n)) := run_succ HG.out
        generalize hok : decide ((runJ (fa ps n) n k).getD (pk x1 n) 0 ≠ (runJ (fa ps n) n k).getD (pk x2 n) 0) = ok
        generalize hok' : decide ((runJ (fb ps m t n) n k).getD (pk x4 n) 0 ≠ (runJ (fb ps m t n) n k).getD (pk x3 n) 0) = ok'
        have HOK : Hid (decide ((runJ (fa ps n) n k).getD (pk x1 n) 0 ≠ (runJ (fa ps n) n k).getD (pk x2 n) 0) = ok) := hok
        have HOK' : Hid (decide ((runJ (fb ps m t n) n k).getD (pk x4 n) 0 ≠ (runJ (fb ps m t n) n k).getD (pk x3 n) 0) = ok') := hok'
        have H3 : Hid (Two w wc pa ba pb bb (runJ (fa ps n) n k) (runJ (fb ps m t n) n k)) := hT
        have HA : Hid ((runJ (fa ps n) n k).length = n) := hga.len
        have HB : Hid ((runJ (fb ps m t n) n k).length = n) := hgb.len
        clear hT hbx H2 l13 l14 hga hgb c1 c2 c3 c4 hmod hmod' hj htl hok hok'
        go_upto_region 15 with fail
        go_cut [15, 16] from 60 to 116 (fun s15 s16 wx => s15 = .bool ok ∧ s16 = .nilIface ∧ Two w wx pa ba pb bb (runJ (fa ps n) n (k + 1)) (runJ (fb ps m t n) n k) ∧ wx.cell? ⟨q14, 0, none⟩ = some (.int .i64 x3) ∧ wx.cell? ⟨q14, 1, none⟩ = some (.int .i64 x4) ∧ q14 < wx.heap.size)
        case first =>
          go_region_held (fun w' => w'.cell? ⟨q13, 0, none⟩ = some (.int .i64 x1) ∧ w'.cell? ⟨q13, 1, none⟩ = some (.int .i64 x2)) (go_keep)
            (first | (go_at_call_of 5 x1; refine (pick_any x1 n _ (by omega) (by omega)).mono ?_; rintro e w' ⟨rfl, rfl⟩) | (go_at_call_of 5 x2; refine (pick_any x2 n _ (by omega) (by omega)).mono ?_; rintro e w' ⟨rfl, rfl⟩) | (go_at_call 7; refine (join_nm (pk x1 n) (pk x2 n) pa ba (runJ (fa ps n) n k) ok _ (by exact sets_drew H3.out.sa) (by rw [HA.out]; exact pk_lt _ _ hn0') (by rw [HA.out]; exact pk_lt _ _ hn0') (by rw [HA.out]; exact hn40) HOK.out).mono ?_; rintro e w' ⟨rfl, hsj, hbj⟩; have e1 : w'.cell? ⟨q13, 0, none⟩ = some (.int .i64 x1) := (hbj.cell (p := ⟨q13, 0, none⟩) k3 k1).trans d1; have e2 : w'.cell? ⟨q13, 1, none⟩ = some (.int .i64 x2) := (hbj.cell (p := ⟨q13, 1, none⟩) k3 k1).trans d2))
          all_goals
            have hTw := (H3.out.below' ((Below.refl _ _).drew)).first hsj hbj
            rw [← HRA.out] at hTw
            have f1 := (hbj.cell (p := ⟨q14, 0, none⟩) k4 k2).trans d3
            have f2 := (hbj.cell (p := ⟨q14, 1, none⟩) k4 k2).trans d4
            have f3 := Nat.lt_of_lt_of_le k4 hbj.size
            have HX : Hid _ := And.intro hTw (And.intro f1 (And.intro f2 f3))
            clear hTw f1 f2 f3
            go_wp2_with fail
            go_meet
            case rel => exact ⟨rfl, rfl, HX.out⟩
        case rest =>
          obtain ⟨rfl, rfl, hT, d3, d4, k4⟩ := hcut
          rename World => wd
          have H3 : Hid (Two w wd pa ba pb bb (runJ (fa ps n) n (k + 1)) (runJ (fb ps m t n) n k)) := hT
          clear hT d1 d2 k3 k1 k2
          go_upto_region 16 with fail
          go_cut [17, 18] from 60 to 116 (fun s17 s18 wx => s17 = .bool ok' ∧ s18 = .nilIface ∧ Two w wx pa ba pb bb (runJ (fa ps n) n (k + 1)) (runJ (fb ps m t n) n (k + 1)))
          case first =>
            go_region_held (fun w' => w'.cell? ⟨q14, 0, none⟩ = some (.int .i64 x3) ∧ w'.cell? ⟨q14, 1, none⟩ = some (.int .i64 x4)) (go_keep)
              (first | (go_at_call_of 5 x4; refine (pick_any x4 n _ (by omega) (by omega)).mono ?_; rintro e w' ⟨rfl, rfl⟩) | (go_at_call_of 5 x3; refine (pick_any x3 n _ (by omega) (by omega)).mono ?_; rintro e w' ⟨rfl, rfl⟩) | (go_at_call 7; refine (join_nm (pk x4 n) (pk x3 n) pb bb (runJ (fb ps m t n) n k) ok' _ (by exact sets_drew H3.out.sb) (by rw [HB.out]; exact pk_lt _ _ hn0') (by rw [HB.out]; exact pk_lt _ _ hn0') (by rw [HB.out]; exact hn40) HOK'.out).mono ?_; rintro e w' ⟨rfl, hsj, hbj⟩; have e1 : w'.cell? ⟨q14, 0, none⟩ = some (.int .i64 x3) := (hbj.cell (p := ⟨q14, 0, none⟩) k4 k5).trans d3; have e2 : w'.cell? ⟨q14, 1, none⟩ = some (.int .i64 x4) := (hbj.cell (p := ⟨q14, 1, none⟩) k4 k5).trans d4))
            all_goals
              have hTw := (H3.out.below' ((Below.refl _ _).drew)).second hsj hbj
              rw [← HRB.out] at hTw
              have HX : Hid _ := hTw
              clear hTw
              go_wp2_with fail
              go_meet
              case rel => exact ⟨rfl, rfl, HX.out⟩
          case rest =>
            obtain ⟨rfl, rfl, hT⟩ := hcut
            have H4 : Hid (Two w wc pa ba pb bb (runJ (fa ps n) n (k + 1)) (runJ (fb ps m t n) n (k + 1))) := hT
            clear hT d3 d4 k4 k5 H3
            cases ok with
            | true =>
              have HO : Hid (okJ (fa ps n) n (k + 1) = okJ (fa ps n) n k + 1) := ok_true HF.out HOK.out
              go_wp2_with fail
              go_roundg (gk - 1)
              case measure => omega
              case rel => exact ⟨k + 1, by go_num, by omega, by rw [HO.out]; go_num, H4.out⟩
            | false =>
              have HO : Hid (okJ (fa ps n) n (k + 1) = okJ (fa ps n) n k) := ok_false HF.out HOK.out
              go_wp2_with fail
              go_roundg (gk - 1)
              case measure => omega
              case rel => exact ⟨k + 1, by go_num, by omega, by rw [HO.out], H4.out⟩
    · have hke : k = m := by omega
      subst hke
      have hfs : ∀ i, i < k → (fa ps n i).1 < n ∧ (fa ps n i).2 < n := fun i _ => ⟨pk_lt _ _ hn0', pk_lt _ _ hn0'⟩
      have hAB : runJ (fb ps k t n) n k = runJ (fa ps n) n k := order_same ps hn0' (by intro h; have := pk_lt turn k h; rw [HTT.out] at this; exact this)
      have hmany := ok_many (f := fa ps n) (n := n) k hfs
      have hgood := good_run (f := fa ps n) (n := n) k hfs
      rw [hAB] at hT
      clear HTT HP hAB hfs
      generalize okJ (fa ps n) n k = ones at *
      generalize runJ (fa ps n) n k = L at *
      generalize hcc : cnt (isLeast L) n = c at *
      have HG : Hid (Good n L) := hgood
      have HC : Hid (cnt (isLeast L) n = c) := hcc
      have hne : ((c : Int) != (n : Int) - (ones : Int)) = false := by
        have : (c : Int) = (n : Int) - (ones : Int) := by omega
        rw [this]; simp
      have H5 : Hid (Two w wr pa ba pb bb L L) := hT
      clear hgood hcc hT
      go_wp2_with fail
      refine (many_n pa ba L _ H5.out.sa HG.out hn40 HC.out).mono ?_
      rintro e w4 ⟨rfl, hb4⟩
      have H6 : Hid (Two w w4 pa ba pb bb L L) := H5.out.below' hb4
      clear H5 hb4
      go_wp2_with fail
      refine (many_n pb bb L _ H6.out.sb HG.out hn40 HC.out).mono ?_
      rintro e w5 ⟨rfl, hb5⟩
      have H7 : Hid (Two w w5 pa ba pb bb L L) := H6.out.below' hb5
      clear H6 hb5
      go_wp2_with fail
      refine (many_n pa ba L _ H7.out.sa HG.out hn40 HC.out).mono ?_
      rintro e w6 ⟨rfl, hb6⟩
      have H8 : Hid (Two w w6 pa ba pb bb L L) := H7.out.below' hb6
      clear H7 hb6
      go_wp2_with fail
      refine (all_n pa ba L _ H8.out.sa HG.out hn40 HC.out).mono ?_
      rintro e w7 ⟨g1, cap1, rfl, hr1, hb7⟩
      have H9 : Hid (Two w w7 pa ba pb bb L L) := H8.out.below' hb7
      clear H8 hb7
      go_wp2_with fail
      refine (all_n pb bb L _ H9.out.sb HG.out hn40 HC.out).mono ?_
      rintro e w8 ⟨g2, cap2, rfl, hr2, hb8⟩
      have H10 : Hid (Two w w8 pa ba pb bb L L) := H9.out.below' hb8
      have HR1 : Hid (RowsAt w8 g1 (grps L n) c) := hr1.below hb8
      have HR2 : Hid (RowsAt w8 g2 (grps L n) c) := hr2
      clear H9 hb8 hr1 hr2
      go_wp2_with fail
      refine (many_n pa ba L _ H10.out.sa HG.out hn40 HC.out).mono ?_
      rintro e w9 ⟨rfl, hb9⟩
      have H11 : Hid (Two w w9 pa ba pb bb L L) := H10.out.below' hb9
      have HS1 : Hid (RowsAt w9 g1 (grps L n) c) := HR1.out.below hb9
      have HS2 : Hid (RowsAt w9 g2 (grps L n) c) := HR2.out.below hb9
      have hclen : (grps L n).length = c := by rw [grps_length HG.out n (Nat.le_refl _), HC.out]
      have HCL : Hid ((grps L n).length = c) := hclen
      have hc40 : c ≤ 40 := by omega
      clear H10 hb9 HR1 HR2 hclen hmany hne
      go_wp2_with fail
      go_loopg [21, 22, 23, 24, 25, 26, 27] c (fun r s21 s22 _ _ _ _ _ wq => ∃ i : Nat, s22 = .int .i64 i ∧ i + r = c ∧ s21 = .int .i64 (tot (grps L n) i : Int) ∧ Below w9.heap.size w9 wq)
      case atStart => exact ⟨0, rfl, by omega, rfl, Below.refl _ _⟩
      case round =>
        obtain ⟨i, rfl, hi, rfl, hbq⟩ := hrel
        have htl := tot_le HG.out gk i (by rw [HCL.out]; exact hi)
        by_cases hic : i < c
        · obtain ⟨X, hX, hpos, hkn⟩ := row_known HG.out (i := i) (by rw [HCL.out]; exact hic)
          have htn : tot (grps L n) (i + 1) ≤ n := tot_le HG.out (gk - 1) (i + 1) (by rw [HCL.out]; omega)
          have HTS : Hid (tot (grps L n) (i + 1) = tot (grps L n) i + ((grps L n).getD i []).length) := rfl
          rw [HTS.out] at htn
          obtain ⟨r1, c1, a1, b1⟩ := (HS1.out.below hbq) i hic
          obtain ⟨r2, c2, a2, b2⟩ := (HS2.out.below hbq) i hic
          have z0 := b1 0 hpos
          rw [hX] at z0
          generalize hGG : (grps L n).getD i [] = G at *
          generalize hgl : G.length = gl at *
          generalize tot (grps L n) i = T at *
          have HK : Hid (∀ j, j < gl → G.getD j 0 < n ∧ L.getD (G.getD j 0) 0 = X ∧ cnt (isSame L (G.getD j 0)) n = gl) := hkn
          have HB1 : Hid (∀ j, j < gl → wr.cell? ⟨r1, j, none⟩ = some (.int .i64 ((G.getD j 0 : Nat) : Int))) := b1
          have HB2 : Hid (∀ j, j < gl → wr.cell? ⟨r2, j, none⟩ = some (.int .i64 ((G.getD j 0 : Nat) : Int))) := b2
          clear hkn b1 b2 hX hGG hgl
          go_wp2_with fail
          go_quiet (fail)
          go_wp2_with fail
          have HBO : Hid (Below w9.heap.size w9 wr) := hbq
          have HA1 : Hid (wr.cell? ⟨g1, i, none⟩ = some (.slice (some ⟨r1, 0, none⟩) gl c1)) := a1
          have HA2 : Hid (wr.cell? ⟨g2, i, none⟩ = some (.slice (some ⟨r2, 0, none⟩) gl c2)) := a2
          have HZ : Hid (wr.cell? ⟨r1, 0, none⟩ = some (.int .i64 (X : Int))) := z0
          clear hbq a1 a2 z0
          rename World => wo
          go_loopg [21, 23, 24, 25, 26, 27] gl (fun r s21 s23 _ _ _ _ wq => ∃ j : Nat, s23 = .int .i64 j ∧ j + r = gl ∧ s21 = .int .i64 ((T + j : Nat) : Int) ∧ Below wo.heap.size wo wq)
          case atStart => exact ⟨0, rfl, by omega, rfl, below_drewN (Below.refl _ _) _⟩
          case round =>
            obtain ⟨j, rfl, hj, rfl, hbj⟩ := hrel
            have HW : Hid (Below w9.heap.size w9 wr) := HBO.out.trans (hbj.mono HBO.out.size)
            have HO1 : Hid (Below wo.heap.size wo wr) := hbj
            by_cases hjg : j < gl
            · obtain ⟨hE, hEX, hES⟩ := HK.out j hjg
              have five : Five wo g1 g2 i r1 r2 j gl c1 c2 (G.getD j 0) X := ⟨HA1.out, HA2.out, HB1.out j hjg, HB2.out j hjg, HZ.out⟩
              have HF1 : Hid (Five wr g1 g2 i r1 r2 j gl c1 c2 (G.getD j 0) X) := five.below hbj
              generalize G.getD j 0 = E at *
              have HEX : Hid (L.getD E 0 = X) := hEX
              have HES : Hid (cnt (isSame L E) n = gl) := hES
              have HSA : Hid (SetsAt wr pa ba L) := H11.out.sa.below HW.out H11.out.sa.plt H11.out.sa.blt
              clear hEX hES five hbj
              have q1 := HF1.out.a1
              have q2 := HF1.out.e1
              go_wp2_with fail
              refine (least_n E pa ba L _ HSA.out HG.out hE HEX.out).mono ?_
              rintro e wa ⟨rfl, hba⟩
              have HF2 : Hid (Five wa g1 g2 i r1 r2 j gl c1 c2 E X) := HF1.out.below hba
              have HSB : Hid (SetsAt wa pa ba L) := HSA.out.below hba HSA.out.plt HSA.out.blt
              have HO2 : Hid (Below wo.heap.size wo wa) := HO1.out.trans (hba.mono HO1.out.size)
              clear q1 q2 HF1 HSA HW hba HO1
              have q1 := HF2.out.a1
              have q2 := HF2.out.e1
              go_wp2_with fail
              refine (size_n E pa ba L _ HSB.out HG.out hn40 hE HES.out).mono ?_
              rintro e wb ⟨rfl, hbb⟩
              have hF3 := HF2.out.below hbb
              have HO3 : Hid (Below wo.heap.size wo wb) := HO2.out.trans (hbb.mono HO2.out.size)
              clear q1 q2 HF2 HSB HO2 hbb
              have q1 := hF3.a1
              have q2 := hF3.a2
              have q3 := hF3.e1
              have q4 := hF3.e2
              have q5 := hF3.z
              clear hF3
              go_wp2_with fail
              go_quiet (fail)
              go_wp2_with fail
              go_roundg (gk - 1)
              case measure => omega
              case rel => exact ⟨j + 1, by go_num, by omega, by go_num, below_drewN HO3.out _⟩
            · have hje : j = gl := by omega
              subst hje
              have q1 := cell_below HA1.out hbj
              clear hbj HK HB1 HB2
              go_wp2_with fail
              go_roundg (c - (i + 1))
              case measure => omega
              case rel => exact ⟨i + 1, by go_num, by omega, by rw [HTS.out], HW.out⟩
        · have hic' : i = c := by omega
          subst hic'
          have htot : tot (grps L n) i = n := by rw [← HCL.out]; exact tot_all HG.out
          have HBE : Hid (Below w.heap.size w wr) := H11.out.below.trans (hbq.mono H11.out.below.size)
          rw [htot]
          clear htl htot hbq
          go_wp2_with fail
          go_ret
          exact ⟨by simp, HBE.out⟩

end Go.Proofs.Ytkoghblolnklmaa
