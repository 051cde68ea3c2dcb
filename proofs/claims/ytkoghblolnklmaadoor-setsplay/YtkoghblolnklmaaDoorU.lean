/- The law SetsPlay: the walk. -/
import Derived.Test.YtkoghblolnklmaaDoorT
namespace Go.Proofs.YtkoghblolnklmaaDoor
open Go.RowKit

set_option maxHeartbeats 8000000 in
set_option maxRecDepth 100000 in
theorem play_in (n : Nat) (a : Option Addr) (bl off m cap : Nat) (ps : Nat → Int × Int) (w : World) (hn : n ≤ 40) (hm : m ≤ 80) (hgl : Gl w) (ha : 0 < m → a = some ⟨bl, off, none⟩) (hps : PairsAt w bl off m ps) (hbl : 0 < m → bl < w.heap.size) :
    Calls Tryd.prog 3 #[.int .i64 (n : Int), .slice a m cap] w fun e w' => e = .returned (.bool true) ∧ Below w.heap.size w w' := by
  have h80 : ¬ ((80 : Int) < (m : Int)) := by omega
  have HAA : Hid (0 < m → a = some ⟨bl, off, none⟩) := ha
  have HBL : Hid (0 < m → bl < w.heap.size) := hbl
  have HGL : Hid (Gl w) := hgl
  have HP : Hid (PairsAt w bl off m ps) := hps
  have hmk := fun W => run_make_row' (P := Tryd.prog) 30 3 (.int .i64 0) 8 Tryd.underlying30 Tryd.info3 rfl .i64 .i64 n (by omega) (by omega) W
  have h0 : ¬ ((n : Int) < 0) := by omega
  have h1 : ¬ ((40 : Int) < (n : Int)) := by omega
  have hd0 : decide ((n : Int) < 0) = false := decide_eq_false h0
  have hd1 : decide ((40 : Int) < (n : Int)) = false := decide_eq_false h1
  have hmf' := hmf
  clear ha hbl hgl hps
  go_enter Tryd.func3, Tryd.ntmps3
  go_wp2_with fail
  refine (new_in n _ hn).mono ?_
  rintro e w1 ⟨rfl, hs1, hb1⟩
  have HB0 : Hid (Both w ((w1.alloc (.cells (madeCells #[.int .i64 0] n) 3)).alloc (.cells #[.slice (some ⟨w1.heap.size, 0, none⟩) n n] 30)) (w.heap.size + 1) w.heap.size (w1.heap.size + 1) w1.heap.size (List.range n) (fill n 0)) := both_start hs1 hb1 (Nat.le_refl _)
  have hw1 : w.heap.size ≤ w1.heap.size := hb1.size
  clear hs1 hb1
  go_wp2_with fail
  clear hmk h0 h1 hd0 hd1
  go_loopw [8] (fun s8 wq => ∃ k : Nat, k ≤ n ∧ s8 = .int .i64 k ∧ Both w wq (w.heap.size + 1) w.heap.size (w1.heap.size + 1) w1.heap.size (List.range n) (fill n k)) (fun s8 _ => n - (intOf s8).toNat)
  case atStart => exact ⟨0, Nat.zero_le _, rfl, HB0.out⟩
  case round =>
    obtain ⟨k, hk, rfl, hB⟩ := hrel
    clear HB0
    by_cases hlt : k < n
    · as_aux_lemma =>
      have hp := hB.sw.pcell
      have hc := hB.sw.bcell k (by rw [fill_length]; exact hlt)
      have hf := hB.sw.bfrozen k
      have hB' := hB.set k k
      rw [fill_succ] at hB'
      rw [fill_length] at hp
      have HB : Hid (Both w (wr.setCell ⟨w1.heap.size, k, none⟩ (.int .i64 (k : Int))) (w.heap.size + 1) w.heap.size (w1.heap.size + 1) w1.heap.size (List.range n) (fill n (k + 1))) := hB'
      clear hB hB'
      generalize (fill n k).getD k 0 = z at hc
      go_wp2_with fail
      go_roundw
      case rel => exact ⟨k + 1, by omega, by go_num, HB.out⟩
      case measure => simp [intOf]; omega
    · have hke : n = k := by omega
      subst hke
      rw [fill_all] at hB
      have HB : Hid (Both w wr (w.heap.size + 1) w.heap.size (w1.heap.size + 1) w1.heap.size (List.range n) (List.range n)) := hB
      clear hB
      generalize hp' : w.heap.size + 1 = p at *
      generalize w1.heap.size + 1 = cw at *
      generalize w1.heap.size = bw at *
      clear hp' hw1
      go_wp2_with fail
      go_loopg [9, 10, 11, 12, 13, 14, 15, 16, 17, 18, 19, 20, 21, 22, 23, 24, 25, 26, 27, 28, 29, 30] m (fun r s9 _ _ _ _ _ _ _ _ _ _ _ _ _ _ _ _ _ _ _ _ _ wq => ∃ k : Nat, s9 = .int .i64 k ∧ k + r = m ∧ ∃ L, Good n L ∧ Both w wq p w.heap.size cw bw L L)
      case atStart => exact ⟨0, rfl, by omega, _, good_range n, HB.out⟩
      case round =>
        obtain ⟨k, rfl, hk, L, hgd, hB⟩ := hrel
        clear HB
        have HG : Hid (Good n L) := hgd
        have HB : Hid (Both w wr p w.heap.size cw bw L L) := hB
        have HLL : Hid (L.length = n) := hgd.len
        clear hgd hB
        by_cases hlt : k < m
        · have haa := HAA.out (by omega)
          have hbl := HBL.out (by omega)
          clear HAA HBL
          subst haa
          have hblr : ∀ o, wr.cell? ⟨bl, o, none⟩ = w.cell? ⟨bl, o, none⟩ := fun o => HB.out.below.cell (p := ⟨bl, o, none⟩) hbl
          have c1 := (hblr _).trans (HP.out.a k hlt)
          have c2 := (hblr _).trans (HP.out.b k hlt)
          have H0 : Hid (w.cell? ⟨bl, off, none⟩ = some (.int .i64 (ps 0).1)) := by
            have := HP.out.a 0 (by omega)
            rw [Nat.zero_mul, Nat.add_zero] at this
            exact this
          generalize (ps k).1 = x1 at *
          generalize (ps k).2 = x2 at *
          generalize (ps 0).1 = x0 at *
          clear hblr
          go_wp2_with fail
          go_quiet (fail)
          have HB1 : Hid (Both w (wr.drewN nq) p w.heap.size cw bw L L) := HB.out.drewN nq
          clear c1 c2 HB
          generalize wr.drewN nq = wa at *
          by_cases hst : Strange n x1 ∨ Strange n x2
          · as_aux_lemma =>
            have HST : Hid (Strange L.length x1 ∨ Strange L.length x2) := by rw [HLL.out]; exact hst
            have hcs : x1 < 0 ∨ (¬ x1 < 0 ∧ (n : Int) ≤ x1) ∨ ((¬ x1 < 0 ∧ ¬ (n : Int) ≤ x1) ∧ x2 < 0) ∨ ((¬ x1 < 0 ∧ ¬ (n : Int) ≤ x1) ∧ ¬ x2 < 0 ∧ (n : Int) ≤ x2) := by
              unfold Strange at hst
              omega
            clear hst
            rcases hcs with g1 | ⟨g1, g2⟩ | ⟨⟨g1, g2⟩, g3⟩ | ⟨⟨g1, g2⟩, g3, g4⟩
            all_goals
              go_wp2_with fail
              refine (join_out x1 x2 p w.heap.size L _ HB1.out.sa HST.out).mono ?_
              rintro e wb ⟨rfl, hbb⟩
              have HB2 : Hid (Both w wb p w.heap.size cw bw L L) := HB1.out.below' hbb
              clear hbb HB1
              go_wp2_with fail
              refine (same_out x1 x2 p w.heap.size L _ HB2.out.sa HST.out).mono ?_
              rintro e wb' ⟨rfl, hbb⟩
              have HB3 : Hid (Both w wb' p w.heap.size cw bw L L) := HB2.out.below' hbb
              clear hbb HB2
              go_wp2_with fail
              refine (bare_two _ (HB3.out.gl HGL.out)).mono ?_
              rintro e wb2 ⟨rfl, hbb⟩
              have HB4 : Hid (Both w wb2 p w.heap.size cw bw L L) := HB3.out.below' hbb
              clear hbb HB3
              go_wp2_with fail
              refine (bare_two _ (HB4.out.gl HGL.out)).mono ?_
              rintro e wb3 ⟨rfl, hbb⟩
              have HB5 : Hid (Both w wb3 p w.heap.size cw bw L L) := HB4.out.below' hbb
              clear hbb HB4
              go_wp2_with fail
              go_roundg (gk - 1)
              case measure => omega
              case rel => exact ⟨k + 1, by go_num, by omega, L, HG.out, HB5.out⟩
          · have hx1 : 0 ≤ x1 ∧ x1 < (n : Int) ∧ 0 ≤ x2 ∧ x2 < (n : Int) := by
              unfold Strange at hst
              omega
            obtain ⟨g1, g2, g3, g4⟩ := hx1
            clear hst
            obtain ⟨X, rfl⟩ := Int.eq_ofNat_of_zero_le g1
            obtain ⟨Y, rfl⟩ := Int.eq_ofNat_of_zero_le g3
            have hXn : X < n := by omega
            have hYn : Y < n := by omega
            have h5 : ¬ ((X : Int) < 0) := by omega
            have h6 : ¬ ((n : Int) ≤ (X : Int)) := by omega
            have h7 : ¬ ((Y : Int) < 0) := by omega
            have h8 : ¬ ((n : Int) ≤ (Y : Int)) := by omega
            generalize hok : decide (L.getD X 0 ≠ L.getD Y 0) = ok
            have HOK : Hid (decide (L.getD X 0 ≠ L.getD Y 0) = ok) := hok
            have hne : (((L.getD X 0 : Nat) : Int) != ((L.getD Y 0 : Nat) : Int)) = ok := by
              rw [← hok]
              by_cases e : L.getD X 0 = L.getD Y 0
              · rw [e]; simp
              · have : ((L.getD X 0 : Nat) : Int) ≠ ((L.getD Y 0 : Nat) : Int) := by omega
                simp only [bne_iff_ne.2 this, decide_eq_true e]
            clear hok g1 g2 g3 g4
            go_wp2_with fail
            refine (join_nm X Y p w.heap.size L ok _ HB1.out.sa (by rw [HLL.out]; exact hXn) (by rw [HLL.out]; exact hYn) (by rw [HLL.out]; exact hn) HOK.out).mono ?_
            rintro e wb ⟨rfl, hsj, hbj⟩
            have HB2 : Hid (Both w wb p w.heap.size cw bw (joinL L X Y) L) := HB1.out.first hsj hbj
            have HGJ : Hid (Good n (joinL L X Y)) := good_join HG.out hXn hYn
            clear hsj hbj HB1
            have d1 := HB2.out.sw.pcell
            have d2 := HB2.out.sw.bcell X (by rw [HLL.out]; exact hXn)
            have d3 := HB2.out.sw.bcell Y (by rw [HLL.out]; exact hYn)
            rw [HLL.out] at d1
            have HJ : Hid (joinL L X Y = L.map (named (min (L.getD X 0) (L.getD Y 0)) (max (L.getD X 0) (L.getD Y 0)))) := rfl
            generalize L.getD X 0 = A at *
            generalize L.getD Y 0 = B at *
            go_wp2_with fail
            go_quiet (fail)
            go_upto_region 25 with fail
            have HB3 : Hid (Both w (wb.drewN nq) p w.heap.size cw bw (joinL L X Y) L) := HB2.out.drewN nq
            have d1' : (wb.drewN nq).cell? ⟨cw, 0, none⟩ = _ := d1
            have d2' : (wb.drewN nq).cell? ⟨bw, X, none⟩ = _ := d2
            have d3' : (wb.drewN nq).cell? ⟨bw, Y, none⟩ = _ := d3
            clear HB2 d1 d2 d3 hne HOK
            generalize wb.drewN nq = wc0 at *
            go_cut [18, 19] from 72 to 277 (fun s18 s19 wx => s18 = .int .i64 ((min A B : Nat) : Int) ∧ s19 = .int .i64 ((max A B : Nat) : Int) ∧ Both w wx p w.heap.size cw bw (joinL L X Y) L)
            case first =>
             as_aux_lemma =>
              rcases Nat.lt_trichotomy A B with hab | hab | hab
              · have q1 : (A : Int) < (B : Int) := by omega
                have M1 : Hid (min A B = A) := Nat.min_eq_left (by omega)
                have M2 : Hid (max A B = B) := Nat.max_eq_right (by omega)
                go_quiet (fail)
                go_wp2_with fail
                go_meet
                case rel => exact ⟨by rw [M1.out], by rw [M2.out], HB3.out.drewN _⟩
              · subst hab
                have M1 : Hid (min A A = A) := Nat.min_self A
                have M2 : Hid (max A A = A) := Nat.max_self A
                go_quiet (fail)
                go_wp2_with fail
                go_meet
                case rel => exact ⟨by rw [M1.out], by rw [M2.out], HB3.out.drewN _⟩
              · have q1 : (B : Int) < (A : Int) := by omega
                have M1 : Hid (min A B = B) := Nat.min_eq_right (by omega)
                have M2 : Hid (max A B = A) := Nat.max_eq_left (by omega)
                go_quiet (fail)
                go_wp2_with fail
                go_meet
                case rel => exact ⟨by rw [M1.out], by rw [M2.out], HB3.out.drewN _⟩
            case rest =>
              obtain ⟨rfl, rfl, hB4⟩ := hcut
              have HB4 : Hid (Both w wc p w.heap.size cw bw (joinL L X Y) L) := hB4
              clear hB4 HB3 d1' d2' d3'
              generalize min A B = lo at *
              generalize max A B = hi at *
              go_wp2_with fail
              go_loopg [20] n (fun r s20 wq => ∃ j : Nat, s20 = .int .i64 j ∧ j + r = n ∧ Both w wq p w.heap.size cw bw (joinL L X Y) (part L lo hi j))
              case atStart => exact ⟨0, rfl, by omega, by rw [part_zero]; exact HB4.out⟩
              case round =>
                obtain ⟨j, rfl, hj, hB5⟩ := hrel
                clear HB4
                by_cases hjn : j < n
                · as_aux_lemma =>
                  have e1 := hB5.sw.pcell
                  have hjl : j < L.length := by rw [HLL.out]; exact hjn
                  have e2 := hB5.sw.bcell j (by rw [part_length]; exact hjl)
                  have e3 := hB5.sw.bfrozen j
                  rw [part_length, HLL.out] at e1
                  rw [part_at _ _ _ _ hjl] at e2
                  by_cases hz : L.getD j 0 = hi
                  · have HS : Hid (Both w (wr.setCell ⟨bw, j, none⟩ (.int .i64 (lo : Int))) p w.heap.size cw bw (joinL L X Y) (part L lo hi (j + 1))) := by
                      have := hB5.set j lo
                      rw [← part_hit L lo hi j hjl hz] at this; exact this
                    rw [hz] at e2
                    clear hB5 hz hjl
                    go_wp2_with fail
                    go_roundg (gk - 1)
                    case measure => omega
                    case rel => exact ⟨j + 1, by go_num, by omega, HS.out⟩
                  · have HS : Hid (Both w wr p w.heap.size cw bw (joinL L X Y) (part L lo hi (j + 1))) := by
                      show Both w wr p w.heap.size cw bw (joinL L X Y) (part L lo hi (j + 1))
                      rw [part_miss L lo hi j hjl hz]; exact hB5
                    generalize L.getD j 0 = z at e2 hz
                    have hzb : ((z : Int) == (hi : Int)) = false := beq_eq_false_iff_ne.2 (by omega)
                    clear hB5 hz hjl
                    go_wp2_with fail
                    go_roundg (gk - 1)
                    case measure => omega
                    case rel => exact ⟨j + 1, by go_num, by omega, HS.out⟩
                · have hje : L.length = j := by rw [HLL.out]; omega
                  have hpa := part_all L lo hi
                  rw [hje, ← HJ.out] at hpa
                  rw [hpa] at hB5
                  have HB6 : Hid (Both w wr p w.heap.size cw bw (joinL L X Y) (joinL L X Y)) := hB5
                  have hjn2 : n = j := by have := HLL.out; omega
                  subst hjn2
                  clear hpa hje hB5 HJ HLL HG
                  generalize joinL L X Y = J at *
                  have c0 : wr.cell? ⟨bl, off, none⟩ = some (.int .i64 x0) := (HB6.out.below.cell (p := ⟨bl, off, none⟩) hbl).trans H0.out
                  have hZn := zOf_lt x0 hXn
                  have HZI : Hid (0 ≤ x0 → x0 < (n : Int) → ((zOf n x0 X : Nat) : Int) = x0) := zOf_in
                  have HZO : Hid (x0 < 0 ∨ (n : Int) ≤ x0 → zOf n x0 X = X) := zOf_out
                  generalize zOf n x0 X = Z at *
                  generalize hbz : decide (x0 < 0 ∨ (n : Int) ≤ x0) = bz
                  have HBZ : Hid (decide (x0 < 0 ∨ (n : Int) ≤ x0) = bz) := hbz
                  clear hbz
                  go_upto_region 32 with fail
                  go_cut [191] from 72 to 277 (fun s191 wx => s191 = .bool bz ∧ wx = wr)
                  case first =>
                   as_aux_lemma =>
                    by_cases q1 : x0 < 0
                    · have HV : Hid (bz = true) := HBZ.out.symm.trans (decide_eq_true (Or.inl q1))
                      clear HBZ
                      go_wp2_with fail
                      go_meet
                      case rel => exact ⟨by rw [HV.out], rfl⟩
                    · by_cases q2 : (n : Int) ≤ x0
                      · have HV : Hid (bz = true) := HBZ.out.symm.trans (decide_eq_true (Or.inr q2))
                        clear HBZ
                        go_wp2_with fail
                        go_meet
                        case rel => exact ⟨by rw [HV.out], rfl⟩
                      · have HV : Hid (bz = false) := HBZ.out.symm.trans (decide_eq_false (by omega))
                        clear HBZ
                        go_wp2_with fail
                        go_meet
                        case rel => exact ⟨by rw [HV.out], rfl⟩
                  case rest =>
                    obtain ⟨rfl, hwc⟩ := hcut
                    have HWC : Hid (wc = wr) := hwc
                    clear hwc
                    go_upto_if 191 with fail
                    go_cut [21] from 72 to 277 (fun s21 wx => s21 = .int .i64 (Z : Int) ∧ wx = wr)
                    case first =>
                     as_aux_lemma =>
                      cases bz with
                      | true =>
                        have HZ : Hid (Z = X) := HZO.out (of_decide_eq_true HBZ.out)
                        go_wp2_with fail
                        go_meet
                        case rel => exact ⟨by rw [HZ.out], HWC.out⟩
                      | false =>
                        have hno := of_decide_eq_false HBZ.out
                        have HZ : Hid ((Z : Int) = x0) := HZI.out (by omega) (by omega)
                        clear hno
                        go_wp2_with fail
                        go_meet
                        case rel => exact ⟨by rw [HZ.out], HWC.out⟩
                    case rest =>
                      obtain ⟨rfl, hwc⟩ := hcut
                      rename World => wl
                      have HB7 : Hid (Both w wl p w.heap.size cw bw J J) := by rw [hwc]; exact HB6.out
                      clear hwc HWC HB6 HBZ HZI HZO c0
                      go_wp2_with fail
                      go_loopg [22, 23, 24] n (fun r s22 s23 s24 wq => ∃ j : Nat, s24 = .int .i64 j ∧ j + r = n ∧ s22 = .int .i64 (cnt (isSame J Z) j : Int) ∧ s23 = .int .i64 (cnt (isLeast J) j : Int) ∧ ∃ q, wq = wl.drewN q)
                      case atStart => exact ⟨0, rfl, by omega, rfl, rfl, 0, rfl⟩
                      case round =>
                        obtain ⟨j, rfl, hj, rfl, rfl, q, hq⟩ := hrel
                        have HB8 : Hid (Both w wr p w.heap.size cw bw J J) := by rw [hq]; exact HB7.out.drewN q
                        have HQ : Hid (wr = wl.drewN q) := hq
                        have HJL : Hid (J.length = n) := HGJ.out.len
                        clear hq
                        have e1 := HB8.out.sw.pcell
                        have e3 := HB8.out.sw.bcell Z (by rw [HJL.out]; exact hZn)
                        rw [HJL.out] at e1
                        by_cases hjn : j < n
                        · as_aux_lemma =>
                          have e2 := HB8.out.sw.bcell j (by rw [HJL.out]; exact hjn)
                          have l1 := cnt_le (isSame J Z) j
                          have l2 := cnt_le (isLeast J) j
                          have HC1 : Hid (cnt (isSame J Z) (j + 1) = cnt (isSame J Z) j + if (((J.getD j 0 : Nat) : Int) == ((J.getD Z 0 : Nat) : Int)) then 1 else 0) := rfl
                          have HC2 : Hid (cnt (isLeast J) (j + 1) = cnt (isLeast J) j + if (((J.getD j 0 : Nat) : Int) == (j : Int)) then 1 else 0) := rfl
                          generalize J.getD j 0 = V at *
                          generalize J.getD Z 0 = U at *
                          generalize cnt (isSame J Z) j = n1 at *
                          generalize cnt (isLeast J) j = n2 at *
                          generalize hb1 : ((V : Int) == (U : Int)) = b1 at *
                          generalize hb2 : ((V : Int) == (j : Int)) = b2 at *
                          cases b1 <;> cases b2
                          all_goals
                            go_wp2_with fail
                            go_quiet (fail)
                            go_wp2_with fail
                            go_roundg (gk - 1)
                            case measure => omega
                            case rel => exact ⟨j + 1, by go_num, by omega, by rw [HC1.out]; simp, by rw [HC2.out]; simp, _, by rw [HQ.out]; exact drewN_drewN _ _ _⟩
                        · have hjn2 : n = j := by omega
                          subst hjn2
                          have e2 := HB8.out.sw.bcell Y (by rw [HJL.out]; exact hYn)
                          generalize hsb : (((J.getD Z 0 : Nat) : Int) == ((J.getD Y 0 : Nat) : Int)) = sb
                          have HSB : Hid ((((J.getD Z 0 : Nat) : Int) == ((J.getD Y 0 : Nat) : Int)) = sb) := hsb
                          generalize hsz : cnt (isSame J Z) n = sz at *
                          generalize hmn : cnt (isLeast J) n = mn at *
                          have HSZ : Hid (cnt (isSame J Z) n = sz) := hsz
                          generalize hu : J.getD Z 0 = U
                          have HU : Hid (J.getD Z 0 = U) := hu
                          clear hu
                          have HMN : Hid (cnt (isLeast J) n = mn) := hmn
                          clear hsb hsz hmn e1 e2 e3 HB7 HQ
                          go_wp2_with fail
                          refine (same_in Z Y p w.heap.size J sb _ HB8.out.sa (by rw [HJL.out]; exact hZn) (by rw [HJL.out]; exact hYn) HSB.out).mono ?_
                          rintro e wd ⟨rfl, hbd⟩
                          have HB9 : Hid (Both w wd p w.heap.size cw bw J J) := HB8.out.below' hbd
                          clear hbd HB8
                          go_wp2_with fail
                          refine (least_n Z p w.heap.size J _ HB9.out.sa HGJ.out hZn HU.out).mono ?_
                          rintro e we ⟨rfl, hbe⟩
                          have HB10 : Hid (Both w we p w.heap.size cw bw J J) := HB9.out.below' hbe
                          clear hbe HB9
                          go_wp2_with fail
                          refine (size_n Z p w.heap.size J _ HB10.out.sa HGJ.out hn hZn HSZ.out).mono ?_
                          rintro e wf ⟨rfl, hbf⟩
                          have HB11 : Hid (Both w wf p w.heap.size cw bw J J) := HB10.out.below' hbf
                          clear hbf HB10
                          have e1 := HB11.out.sw.pcell
                          have e2 := HB11.out.sw.bcell Z (by rw [HJL.out]; exact hZn)
                          have e3 := HB11.out.sw.bcell Y (by rw [HJL.out]; exact hYn)
                          have hsb := HSB.out
                          rw [HJL.out] at e1
                          rw [HU.out] at e2 hsb
                          clear HU HSB HSZ
                          generalize J.getD Y 0 = V at *
                          go_upto_region 45 with fail
                          go_region_held (fun w' => w'.cell? ⟨cw, 0, none⟩ = some (.slice (some ⟨bw, 0, none⟩) n n) ∧ w'.cell? ⟨bw, Z, none⟩ = some (.int .i64 (U : Int)) ∧ w'.cell? ⟨bw, Y, none⟩ = some (.int .i64 (V : Int))) (go_keep)
                            (first | (go_at_call 10; refine (many_n p w.heap.size J _ (by exact sets_drew HB11.out.sa) HGJ.out hn HMN.out).mono ?_; rintro e w' ⟨rfl, hbw⟩; have f1 := cell_below (w := wf.drew) e1 hbw; have f2 := cell_below (w := wf.drew) e2 hbw; have f3 := cell_below (w := wf.drew) e3 hbw))
                          all_goals
                            have HB12 : Hid (Both w w' p w.heap.size cw bw J J) := (HB11.out.below' ((Below.refl _ _).drew)).below' hbw
                            clear hbw f1 f2 f3 e1 e2 e3
                            go_wp2_with fail
                            go_roundg (m - (k + 1))
                            case measure => omega
                            case rel => exact ⟨k + 1, by go_num, by omega, J, HGJ.out, HB12.out⟩
        · have HN1 : Hid (Strange L.length (n : Int)) := by rw [HLL.out]; exact Or.inr (Int.le_refl _)
          have HN2 : Hid (Strange L.length (-1)) := Or.inl (by decide)
          go_wp2_with fail
          refine (least_out (n : Int) p w.heap.size L _ HB.out.sa HN1.out).mono ?_
          rintro e w2 ⟨rfl, hb2⟩
          have HB2 : Hid (Both w w2 p w.heap.size cw bw L L) := HB.out.below' hb2
          clear hb2 HB
          go_wp2_with fail
          refine (size_out (-1) p w.heap.size L _ HB2.out.sa HN2.out).mono ?_
          rintro e w3 ⟨rfl, hb3⟩
          have HB3 : Hid (Both w w3 p w.heap.size cw bw L L) := HB2.out.below' hb3
          clear hb3 HB2
          go_wp2_with fail
          refine (bare_two _ (HB3.out.gl HGL.out)).mono ?_
          rintro e w4 ⟨rfl, hb4⟩
          have HB4 : Hid (Both w w4 p w.heap.size cw bw L L) := HB3.out.below' hb4
          clear hb4 HB3
          go_wp2_with fail
          refine (bare_two _ (HB4.out.gl HGL.out)).mono ?_
          rintro e w5 ⟨rfl, hb5⟩
          have HB5 : Hid (Both w w5 p w.heap.size cw bw L L) := HB4.out.below' hb5
          clear hb5 HB4
          go_wp2_with fail
          refine (all_n p w.heap.size L _ HB5.out.sa HG.out hn).mono ?_
          rintro e w6 ⟨g1, cap1, rfl, hr1, hb6⟩
          have HB6 : Hid (Both w w6 p w.heap.size cw bw L L) := HB5.out.below' hb6
          have HR1 : Hid (RowsAt w6 g1 (grps L n) (grps L n).length) := hr1
          clear hb6 HB5 hr1
          go_wp2_with fail
          refine (parts_any n cw bw L _ HB6.out.sw HG.out hn).mono ?_
          rintro e w7 ⟨t, r, c, rfl, hP, hb7⟩
          have HB7 : Hid (Below w.heap.size w w7) := HB6.out.below.trans (hb7.mono HB6.out.below.size)
          obtain ⟨a2, cap2, ht, ha2⟩ := hP.shape
          have HR2 : Hid (0 < (grps L n).length → ∃ g1' g2, (some ⟨g1, 0, none⟩ : Option Addr) = some ⟨g1', 0, none⟩ ∧ a2 = some ⟨g2, 0, none⟩ ∧ RowsAt w7 g1' (grps L n) (grps L n).length ∧ RowsAt w7 g2 (grps L n) (grps L n).length) := by
            intro h
            obtain ⟨g2, e2⟩ := ha2 h
            rw [ht, e2] at hP
            exact ⟨g1, g2, rfl, e2, HR1.out.below hb7, hP.rows rfl⟩
          have HC : Hid ((grps L n).length ≤ 1000000) := by
            have := grps_le L n
            exact Nat.le_trans this (by omega)
          have HD : Hid (∀ i, ((grps L n).getD i []).length ≤ 1000000) := fun i => Nat.le_trans (grps_small HG.out i) (by omega)
          rw [ht]
          clear hP hb7 ht ha2 HB6 HR1
          go_wp2_with fail
          refine (sames_rows (some ⟨g1, 0, none⟩) a2 (grps L n).length cap1 cap2 (grps L n) _ HR2.out HC.out HD.out).mono ?_
          rintro e w8 ⟨rfl, q, hq⟩
          have HB8 : Hid (Below w.heap.size w w8) := by rw [hq]; exact below_drewN HB7.out q
          clear hq HR2 HC HD HB7
          go_wp2_with fail
          go_ret
          exact ⟨rfl, HB8.out⟩

end Go.Proofs.YtkoghblolnklmaaDoor
