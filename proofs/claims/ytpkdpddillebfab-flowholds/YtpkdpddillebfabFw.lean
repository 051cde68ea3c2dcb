/- FlowHolds: the law's walk. -/
import Derived.Test.YtpkdpddillebfabFv
namespace Go.Proofs.Ytpkdpddillebfab.S
open Go Go.ChangeMaps Go.MapKept Go.WideShapes
open Go.RowKit Go.WideMaps Go.Maps F

theorem bool_of (p : Prop) : ∃ s : Bool, s = true ↔ p := ⟨@decide p (Classical.propDecidable p), by simp⟩

theorem pow_lt {m : Nat} (h : m ≤ 50) : 2 ^ m ≤ 1125899906842624 := by
  have := Nat.pow_le_pow_right (n := 2) (by omega) h
  exact this

set_option maxHeartbeats 8000000 in
set_option maxRecDepth 100000 in
theorem holds_in (n0 x0 y0 : Int) (a0 : Option Addr) (bl off m0 c0 : Nat) (ps : Nat → Int × Int) (w : World) (hm0 : m0 ≤ 10) (ha : 0 < m0 → a0 = some ⟨bl, off, none⟩) (hp : PairsAt w bl off m0 ps) (hbl : 0 < m0 → bl < w.heap.size) :
    Calls Try.prog 3 #[.int .i64 n0, .slice a0 m0 c0, .int .i64 x0, .int .i64 y0] w fun e w' => e = .returned (.bool true) ∧ Below w.heap.size w w' := by
  have h10 : ¬ ((10 : Int) < (m0 : Int)) := by omega
  have HMD : Hid (∀ (n1 : Int) W, Below w.heap.size w W → Calls Try.prog 6 #[.int .i64 n1, .slice a0 m0 c0] W (MadePost W)) := fun n1 W hW => made_any n1 a0 bl off m0 c0 ps W (by omega) ha ⟨fun i hi => (hW.cell (p := ⟨bl, off + i * 2, none⟩) (hbl (by omega))).trans (hp.a i hi), fun i hi => (hW.cell (p := ⟨bl, off + i * 2 + 1, none⟩) (hbl (by omega))).trans (hp.b i hi)⟩ (fun h => Nat.lt_of_lt_of_le (hbl h) hW.size)
  clear ha hp hbl
  go_enter Try.func3, Try.ntmps3
  go_wp2_with fail
  refine (parted_any w).mono ?_
  rintro e w1 ⟨rfl, hb1⟩
  have HB1 : Hid (Below w.heap.size w w1) := hb1
  clear hb1
  go_wp2_with fail
  refine (pick_any n0 7 w1 (by omega) (by omega)).mono ?_
  rintro e w1' ⟨rfl, hw1'⟩
  subst hw1'
  go_wp2_with fail
  refine Calls.mono (HMD.out _ w1' HB1.out) ?_
  rintro e w2 ⟨g, v, n, L, rfl, hga, hn0, hn14, hed, hb2⟩
  have HG : Hid (G.GAt w2 w1'.heap.size 58 36 g (n : Int) v L ∧ Ed n 50 L) := ⟨hga, hed⟩
  have HB2 : Hid (Below w.heap.size w w2) := HB1.out.trans (hb2.mono HB1.out.size)
  have HED : Hid (Ed n 50 L) := hed
  have hL50 := hed.len
  clear hga hed hb2 HMD HB1
  go_wp2_with fail
  refine (G.nodes_any (n : Int) w1'.heap.size g v L w2 HG.out.1).mono ?_
  rintro e w3 ⟨rfl, hw3⟩
  subst hw3
  go_wp2_with fail
  refine (pick_any x0 n w3 hn0 (by omega)).mono ?_
  rintro e w4 ⟨rfl, hw4⟩
  subst hw4
  go_wp2_with fail
  refine (G.nodes_any (n : Int) w1'.heap.size g v L w4 HG.out.1).mono ?_
  rintro e w5 ⟨rfl, hw5⟩
  subst hw5
  go_wp2_with fail
  refine (pick_any y0 n w5 hn0 (by omega)).mono ?_
  rintro e w6 ⟨rfl, hw6⟩
  subst hw6
  have han := pk_lt x0 n hn0
  have hbn := pk_lt y0 n hn0
  generalize pk x0 n = a at *
  generalize pk y0 n = b at *
  by_cases hab : a = b
  · as_aux_lemma =>
    subst hab
    go_wp2_with fail
    go_ret
    exact ⟨rfl, HB2.out⟩
  · have hab' : ((a : Int) == (b : Int)) = false := beq_eq_false_iff_ne.2 (by omega)
    go_wp2_with fail
    refine (flowEdges_any n w1'.heap.size g a b 120 v L w6 HG.out.1 hn14 HED.out han hbn hab (by omega)).mono ?_
    rintro e w7 ⟨x, rfl, hvx, hb7⟩
    have HX : Hid (Val (cap (lD (edS L)) (lr (edS L))) a b (120 : Nat) x) := hvx
    have HB7 : Hid (Below w6.heap.size w6 w7) := hb7
    clear hvx hb7
    go_wp2_with fail
    refine (flowNodes_any n w1'.heap.size g a b 120 v L w7 (HG.out.1.below HB7.out) hn14 HED.out han hbn hab (by omega)).mono ?_
    rintro e w8 ⟨y, rfl, hvy, hb8⟩
    have HY : Hid (Val (cap (lD (noS n L)) (lr (noS n L))) (2 * (a : Int) + 1) (2 * (b : Int)) (120 : Nat) y) := hvy
    have HB8 : Hid (Below w6.heap.size w6 w8) := HB7.out.trans (hb8.mono HB7.out.size)
    clear hvy hb8 HB7
    go_wp2_with fail
    refine (flowEdges_any n w1'.heap.size g b a 120 v L w8 (HG.out.1.below HB8.out) hn14 HED.out hbn han (fun e => hab e.symm) (by omega)).mono ?_
    rintro e w9 ⟨x', rfl, hvx', hb9⟩
    have hxx : x' = x := by
      have := val_unique (val_symm HED.out hvx') HX.out
      omega
    subst hxx
    have hyx : (y : Int) ≤ (x' : Int) := val_nodes_edges HED.out HX.out HY.out
    have hyx2 : ¬ ((x' : Int) < (y : Int)) := by omega
    have HB9 : Hid (Below w6.heap.size w6 w9) := HB8.out.trans (hb9.mono HB8.out.size)
    clear hvx' hb9 HB8
    go_wp2_with fail
    refine (G.edges_any (n : Int) w1'.heap.size g v L w9 (HG.out.1.below HB9.out) (by omega)).mono ?_
    rintro e w10 ⟨ve, rfl, ho, hb10⟩
    obtain ⟨m, hm⟩ : ∃ m, m = L.length := ⟨_, rfl⟩
    have HM : Hid (m = L.length) := hm
    obtain ⟨va, vc, hv⟩ := ho.slice_len
    rw [← hm] at hv hL50
    subst hv
    have HO : Hid (G.Owns w10 w9.heap.size 36 (.slice va m vc) L) := ho
    have HB10 : Hid (Below w6.heap.size w6 w10) := HB9.out.trans (hb10.mono HB9.out.size)
    have HG10 : Hid (∀ W, Below w10.heap.size w10 W → G.GAt W w1'.heap.size 58 36 g (n : Int) v L) := fun W hW => (HG.out.1.below HB10.out).below hW
    have hpw := pow_lt hL50
    clear ho hb10 hm HB9
    go_wp2_with fail
    go_loopw [17, 18] (fun s17 s18 wq => ∃ s ls : Nat, s ≤ 2 ^ m ∧ ls ≤ 50 ∧ s18 = .int .i64 s ∧ s17 = .int .i64 ls ∧ Lst L a b s ls ∧ Below w10.heap.size w10 wq) (fun _ s18 _ => 2 ^ m - (intOf s18).toNat)
    case atStart => exact ⟨0, m, Nat.zero_le _, hL50, rfl, rfl, by rw [HM.out]; exact Lst.start L a b, Below.refl _ _⟩
    case round =>
      obtain ⟨s, ls, hs, hls, rfl, rfl, hlst, hb⟩ := hrel
      have HL : Hid (Lst L a b s ls) := hlst
      have HB : Hid (Below w10.heap.size w10 wr) := hb
      clear hlst hb
      obtain ⟨wy, hwy⟩ : ∃ wy, wy = wr := ⟨_, rfl⟩
      subst hwy
      have hmn : ((m : Int)).toNat = m := by omega
      have hmi : min m 64 = m := by omega
      have hpc : ((2 ^ m : Nat) : Int) = (2 : Int) ^ m := by simp
      have hwp : IntKind.i64.wrap ((2 : Int) ^ m) = (2 : Int) ^ m := by
        rw [← hpc, IntKind.wrap_i64]; omega
      have hm0' : (0 : Int) ≤ (m : Int) := by omega
      by_cases hlt : s < 2 ^ m
      · have hlt' : (s : Int) < (2 : Int) ^ m := by rw [← hpc]; omega
        clear hpc
        go_wp2_with fail
        go_loopw [19, 20] (fun s19 s20 wq => ∃ j : Nat, j ≤ m ∧ s20 = .int .i64 j ∧ OwnsI wq w10.heap.size s19 ((tl L s j).map (·.1)) ∧ Below w10.heap.size w10 wq) (fun _ s20 _ => m - (intOf s20).toNat)
        case atStart => exact ⟨0, Nat.zero_le _, rfl, World.ownsRow_nil _ _ _ _, HB.out⟩
        case round =>
          clear HB
          obtain ⟨j, hj, rfl, hown, hb⟩ := hrel
          have HR : Hid (OwnsI wr w10.heap.size u19 ((tl L s j).map (·.1)) ∧ Below w10.heap.size w10 wr) := ⟨hown, hb⟩
          clear hown hb
          by_cases hjm : j < m
          · have hjn : ((j : Int)).toNat = j := by omega
            have hji : min j 64 = j := by omega
            have hj0' : (0 : Int) ≤ (j : Int) := by omega
            have hbit := bit_of s j (by omega)
            obtain ⟨e, hx⟩ : ∃ e, L[j]? = some e := ⟨_, List.getElem?_eq_getElem (by rw [← HM.out]; exact hjm)⟩
            cases htb : s.testBit j with
            | false =>
              as_aux_lemma =>
              rw [htb] at hbit
              have hbit0 : bits .and .i64 ((s : Int) / 2 ^ j) 1 = 0 := hbit
              have HN : Hid (OwnsI wr w10.heap.size u19 ((tl L s (j + 1)).map (·.1)) ∧ Below w10.heap.size w10 wr) := by
                rw [tl_no htb]; exact HR.out
              clear hbit htb hx HR
              go_wp2_with fail
              go_roundw
              case rel => exact ⟨j + 1, by omega, by go_num, HN.out.1, HN.out.2⟩
              case measure => simp [intOf]; omega
            | true =>
              as_aux_lemma =>
              rw [htb] at hbit
              have hbit1 : bits .and .i64 ((s : Int) / 2 ^ j) 1 = 1 := hbit
              obtain ⟨g2, hva⟩ : ∃ g2, va = some ⟨g2, 0, none⟩ := by
                rcases HO.out.shape with ⟨_, k⟩ | ⟨g2, cap2, k, _⟩
                · rw [k] at hx; simp at hx
                · injection k with e1 _ _
                  exact ⟨g2, e1⟩
              subst hva
              obtain ⟨r0, _, _⟩ := HO.out.at (g := g2) rfl hx
              have q0 := cell_below r0 HR.out.2
              obtain ⟨x0', hx0'⟩ : ∃ x0', e.1 = x0' := ⟨_, rfl⟩
              rw [hx0'] at q0
              obtain ⟨v5, w12, ha5, ho5, hb5⟩ := more_I 34 wr w10.heap.size u19 _ x0' HR.out.1 HR.out.2.size (by
                have := tl_len L s j
                rw [List.length_map]; omega)
              have HN : Hid (OwnsI w12 w10.heap.size v5 ((tl L s (j + 1)).map (·.1)) ∧ Below w10.heap.size w10 w12) := by
                rw [tl_yes htb hx, List.map_append]
                refine ⟨?_, HR.out.2.trans hb5⟩
                rw [show [e].map (·.1) = [x0'] by rw [← hx0']; rfl]
                exact ho5
              have HA : Hid (_ = _) := ha5
              clear hbit htb hx HR r0 hx0' ha5 ho5 hb5
              go_wp2_with (at_builtin; refine Lib.wpList_append_run _ rfl _ _ _ _ rfl _ _ rfl rfl _ _ HA.out ?_)
              go_roundw
              case rel => exact ⟨j + 1, by omega, by go_num, HN.out.1, HN.out.2⟩
              case measure => simp [intOf]; omega
          · have hje : m = j := by omega
            subst hje
            obtain ⟨a6, c6, hu6⟩ := HR.out.1.slice
            subst hu6
            obtain ⟨cl, hcl⟩ : ∃ cl, ((tl L s m).map (·.1)).length = cl := ⟨_, rfl⟩
            rw [hcl]
            have hcl2 : cl = (tl L s m).length := by rw [← hcl, List.length_map]
            have HI : Hid (G.Ints wr a6 cl (fun t => ((tl L s m).map (·.1)).getD t 0)) := by
              have := HR.out.1.ints
              rw [hcl] at this
              exact this
            have hcm : cl ≤ 50 := by
              have := tl_len L s m
              omega
            have HCL : Hid (cl = (tl L s L.length).length) := by rw [← HM.out]; exact hcl2
            have HBR : Hid (Below w10.heap.size w10 wr) := HR.out.2
            have HW : Hid (∀ x y, cnR (L.filter (G.stays (fun t => ((tl L s m).map (·.1)).getD t 0) (fun _ => 0) cl 0)) x y ↔ cnE L (tkE L s) x y) := fun x y => by
              have := without_ids HED.out s x y
              rw [← HM.out, ← hcl2] at this
              exact this
            clear hcl hcl2 HR hjm hj
            by_cases hless : cl < ls
            · have HC : Hid _ := G.without_any (n : Int) w1'.heap.size g v L a6 none cl 0 c6 0 (fun t => ((tl L s m).map (·.1)).getD t 0) (fun _ => 0) wr (HG10.out wr HBR.out) (by rw [← HM.out]; omega) HI.out ⟨fun h => absurd h (by omega)⟩ (by omega) (by omega)
              have hless' : (cl : Int) < (ls : Int) := by omega
              go_wp2_with fail
              refine Calls.mono HC.out ?_
              rintro e w11 ⟨p11, v11, rfl, hg11, hb11⟩
              obtain ⟨z, hz⟩ := bool_of (cnE L (tkE L s) a b)
              have HT : Hid _ := ktog_any hg11 hn14 (HED.out.filter _) han hbn z (hz.trans (HW.out a b).symm)
              have HZ : Hid (z = true ↔ cnE L (tkE L s) a b) := hz
              have HB11 : Hid (Below w10.heap.size w10 w11) := HBR.out.trans (hb11.mono HBR.out.size)
              clear hg11 hb11 hz HC HI HW
              go_wp2_with fail
              refine Calls.mono HT.out ?_
              rintro e w12 ⟨rfl, hb12⟩
              have HB12 : Hid (Below w10.heap.size w10 w12) := HB11.out.trans (hb12.mono HB11.out.size)
              clear hb12 HT HB11
              cases z with
              | true =>
                as_aux_lemma =>
                have HN : Hid (Lst L a b (s + 1) ls) := HL.out.skip (.inr (HZ.out.1 rfl))
                go_wp2_with fail
                go_roundw
                case rel => exact ⟨s + 1, ls, by omega, hls, by go_num, rfl, HN.out, HB12.out⟩
                case measure => simp [intOf]; omega
              | false =>
                as_aux_lemma =>
                have HN : Hid (Lst L a b (s + 1) cl) := by
                  have := HL.out.less (by rw [← HCL.out]; exact hless) (fun k => by have := HZ.out.2 k; cases this)
                  rw [← HCL.out] at this
                  exact this
                go_wp2_with fail
                go_roundw
                case rel => exact ⟨s + 1, cl, by omega, hcm, by go_num, rfl, HN.out, HB12.out⟩
                case measure => simp [intOf]; omega
            · as_aux_lemma =>
              have hless' : ¬ ((cl : Int) < (ls : Int)) := by omega
              have HN : Hid (Lst L a b (s + 1) ls) := HL.out.skip (.inl (by rw [← HCL.out]; omega))
              clear HI HW
              go_wp2_with fail
              go_roundw
              case rel => exact ⟨s + 1, ls, by omega, hls, by go_num, rfl, HN.out, HBR.out⟩
              case measure => simp [intOf]; omega
      · have hse : s = 2 ^ m := by omega
        obtain ⟨hxl, hx50⟩ := least_edges (ls := ls) (k := x') HED.out hab (by
          have := HL.out
          rw [hse, HM.out] at this
          exact this) HX.out
        subst hxl
        have hnl : ¬ ((s : Int) < (2 : Int) ^ m) := by rw [← hpc]; omega
        clear hpc HL hse
        go_wp2_with fail
        obtain ⟨wq3, hwq3⟩ : ∃ wq3, wq3 = wy := ⟨_, rfl⟩
        subst hwq3
        obtain ⟨lo, hlo⟩ : ∃ lo, min a b = lo := ⟨_, rfl⟩
        obtain ⟨hi, hhi⟩ : ∃ hi, max a b = hi := ⟨_, rfl⟩
        have HLH : Hid (min a b = lo ∧ max a b = hi) := ⟨hlo, hhi⟩
        have hmin : min (a : Int) (b : Int) = (lo : Int) := by omega
        have hmax : max (a : Int) (b : Int) = (hi : Int) := by omega
        clear hlo hhi
        go_loopw [21] (fun s21 wq => ∃ i : Nat, i ≤ m ∧ s21 = .int .i64 i ∧ (∀ i' e, i' < i → L[i']? = some e → ¬ (e.2.1 = (lo : Int) ∧ e.2.2 = (hi : Int))) ∧ wq = wq3) (fun s21 _ => m - (intOf s21).toNat)
        case atStart => exact ⟨0, Nat.zero_le _, rfl, fun i' e h => by omega, rfl⟩
        case round =>
          obtain ⟨i, hi', rfl, hna, rfl⟩ := hrel
          have HNA : Hid (∀ i' e, i' < i → L[i']? = some e → ¬ (e.2.1 = (lo : Int) ∧ e.2.2 = (hi : Int))) := hna
          clear hna
          by_cases him : i < m
          · obtain ⟨e, hx⟩ : ∃ e, L[i]? = some e := ⟨_, List.getElem?_eq_getElem (by rw [← HM.out]; exact him)⟩
            obtain ⟨g2, hva⟩ : ∃ g2, va = some ⟨g2, 0, none⟩ := by
              rcases HO.out.shape with ⟨_, k⟩ | ⟨g2, cap2, k, _⟩
              · rw [k] at hx; simp at hx
              · injection k with e1 _ _
                exact ⟨g2, e1⟩
            subst hva
            obtain ⟨_, r1, r2⟩ := HO.out.at (g := g2) rfl hx
            have q1 := cell_below r1 HB.out
            have q2 := cell_below r2 HB.out
            have HEX : Hid (L[i]? = some e) := hx
            obtain ⟨y1, hy1⟩ : ∃ y1, e.2.1 = y1 := ⟨_, rfl⟩
            obtain ⟨y2, hy2⟩ : ∃ y2, e.2.2 = y2 := ⟨_, rfl⟩
            rw [hy1] at q1
            rw [hy2] at q2
            have HEY : Hid (e.2.1 = y1 ∧ e.2.2 = y2) := ⟨hy1, hy2⟩
            clear hx r1 r2 hy1 hy2
            have HNX : Hid (¬ (y1 = (lo : Int) ∧ y2 = (hi : Int)) → ∀ i' e, i' < i + 1 → L[i']? = some e → ¬ (e.2.1 = (lo : Int) ∧ e.2.2 = (hi : Int))) := fun hne i' e' hi1 he' => by
              by_cases c : i' = i
              · subst c
                have := HEX.out
                rw [he'] at this
                injection this with this
                rw [this, HEY.out.1, HEY.out.2]
                exact hne
              · exact HNA.out i' e' (by omega) he'
            clear HNA
            by_cases k1 : y1 = (lo : Int)
            · by_cases k2 : y2 = (hi : Int)
              · as_aux_lemma =>
                have e1 : (y1 == (lo : Int)) = true := beq_iff_eq.2 k1
                have e2 : (y2 == (hi : Int)) = true := beq_iff_eq.2 k2
                clear k1 k2
                go_wp2_with fail
                go_ret
                exact ⟨rfl, (HB2.out.trans (HB10.out.mono HB2.out.size)).trans (HB.out.mono (HB2.out.trans (HB10.out.mono HB2.out.size)).size)⟩
              · as_aux_lemma =>
                have HN : Hid _ := HNX.out (fun h => k2 h.2)
                have e1 : (y1 == (lo : Int)) = true := beq_iff_eq.2 k1
                have e2 : (y2 == (hi : Int)) = false := beq_eq_false_iff_ne.2 k2
                clear k1 k2
                go_wp2_with fail
                go_roundw
                case rel => exact ⟨i + 1, by omega, by go_num, HN.out, by first | rfl | trivial⟩
                case measure => simp [intOf]; omega
            · as_aux_lemma =>
              have HN : Hid _ := HNX.out (fun h => k1 h.1)
              have e1 : (y1 == (lo : Int)) = false := beq_eq_false_iff_ne.2 k1
              clear k1
              go_wp2_with fail
              go_roundw
              case rel => exact ⟨i + 1, by omega, by go_num, HN.out, by first | rfl | trivial⟩
              case measure => simp [intOf]; omega
          · have hie : m = i := by omega
            have HNJ : Hid (∀ e ∈ L, ¬ (ea e = a ∧ eb e = b) ∧ ¬ (ea e = b ∧ eb e = a)) := fun e he => by
              obtain ⟨e1, e2, e3, e4, e5⟩ := ed_ends HED.out he
              obtain ⟨k, hk, hke⟩ := List.mem_iff_getElem.1 he
              have := HNA.out k e (by rw [← hie, HM.out]; exact hk) (by rw [List.getElem?_eq_getElem hk, hke])
              rw [e1, e2] at this
              obtain ⟨l1, l2⟩ := HLH.out
              omega
            have HBQ : Hid (Below w10.heap.size w10 wr) := HB.out
            clear HNA hmin hmax hie
            obtain ⟨w13, hw13⟩ : ∃ w13, w13 = wr := ⟨_, rfl⟩
            subst hw13
            go_wp2_with fail
            refine (G.nodes_any (n : Int) w1'.heap.size g v L _ (HG10.out _ HBQ.out)).mono ?_
            rintro e w14 ⟨rfl, hw14⟩
            subst hw14
            go_wp2_with fail
            have hnn : ((n : Int)).toNat = n := by omega
            have hni : min n 64 = n := by omega
            have hpn := pow_lt (m := n) (by omega)
            have hpc2 : ((2 ^ n : Nat) : Int) = (2 : Int) ^ n := by simp
            have hwp2 : IntKind.i64.wrap ((2 : Int) ^ n) = (2 : Int) ^ n := by
              obtain ⟨P2, hP2⟩ : ∃ P2, 2 ^ n = P2 := ⟨_, rfl⟩
              rw [← hpc2, IntKind.wrap_i64, hP2]
              rw [hP2] at hpn
              omega
            have hn0' : (0 : Int) ≤ (n : Int) := by omega
            have HPC2 : Hid (((2 ^ n : Nat) : Int) = (2 : Int) ^ n) := hpc2
            clear hpc2
            go_loopw [17, 22] (fun s17 s22 wq => ∃ s ls : Nat, s ≤ 2 ^ n ∧ ls ≤ 50 ∧ s22 = .int .i64 s ∧ s17 = .int .i64 ls ∧ Lsn L n a b s ls ∧ Below w10.heap.size w10 wq) (fun _ s22 _ => 2 ^ n - (intOf s22).toNat)
            case atStart => exact ⟨0, n, Nat.zero_le _, by omega, rfl, rfl, Lsn.start L n a b, HBQ.out⟩
            case round =>
              clear HBQ HB
              obtain ⟨s, ls, hs2, hls2, rfl, rfl, hlsn, hb⟩ := hrel
              have HL2 : Hid (Lsn L n a b s ls) := hlsn
              have HB : Hid (Below w10.heap.size w10 wr) := hb
              clear hlsn hb
              obtain ⟨wz, hwz⟩ : ∃ wz, wz = wr := ⟨_, rfl⟩
              subst hwz
              go_wp2_with fail
              refine (G.nodes_any (n : Int) w1'.heap.size g v L wz (HG10.out _ HB.out)).mono ?_
              rintro e w15 ⟨rfl, hw15⟩
              subst hw15
              by_cases hlt2 : s < 2 ^ n
              · have hlt2' : (s : Int) < (2 : Int) ^ n := by rw [← HPC2.out]; omega
                have hai : min a 64 = a := by omega
                have hbi : min b 64 = b := by omega
                have hat : ((a : Int)).toNat = a := by omega
                have hbt : ((b : Int)).toNat = b := by omega
                have ha0' : (0 : Int) ≤ (a : Int) := by omega
                have hb0' : (0 : Int) ≤ (b : Int) := by omega
                have hbita := bit_of s a (by omega)
                have hbitb := bit_of s b (by omega)
                cases hta : s.testBit a with
                | true =>
                  as_aux_lemma =>
                  rw [hta] at hbita
                  have hba1 : bits .and .i64 ((s : Int) / 2 ^ a) 1 = 1 := hbita
                  have HN : Hid (Lsn L n a b (s + 1) ls) := HL2.out.skip (.inl hta)
                  clear hbita hbitb hta
                  go_wp2_with fail
                  go_roundw
                  case rel => exact ⟨s + 1, ls, by omega, hls2, by go_num, rfl, HN.out, HB.out⟩
                  case measure => simp [intOf]; omega
                | false =>
                  rw [hta] at hbita
                  have hba0 : bits .and .i64 ((s : Int) / 2 ^ a) 1 = 0 := hbita
                  cases htb : s.testBit b with
                  | true =>
                    as_aux_lemma =>
                    rw [htb] at hbitb
                    have hbb1 : bits .and .i64 ((s : Int) / 2 ^ b) 1 = 1 := hbitb
                    have HN : Hid (Lsn L n a b (s + 1) ls) := HL2.out.skip (.inr (.inl htb))
                    clear hbita hbitb hta htb
                    go_wp2_with fail
                    go_roundw
                    case rel => exact ⟨s + 1, ls, by omega, hls2, by go_num, rfl, HN.out, HB.out⟩
                    case measure => simp [intOf]; omega
                  | false =>
                    rw [htb] at hbitb
                    have hbb0 : bits .and .i64 ((s : Int) / 2 ^ b) 1 = 0 := hbitb
                    have HTT : Hid (s.testBit a = false ∧ s.testBit b = false) := ⟨hta, htb⟩
                    clear hbita hbitb hta htb
                    go_wp2_with fail
                    clear hai hbi hat hbt ha0' hb0' hba0 hbb0
                    go_loopw [23, 24] (fun s23 s24 wq => ∃ j : Nat, j ≤ n ∧ s24 = .int .i64 j ∧ OwnsI wq w10.heap.size s23 ((tn s j).map fun z : Nat => (z : Int)) ∧ Below w10.heap.size w10 wq) (fun _ s24 _ => n - (intOf s24).toNat)
                    case atStart => exact ⟨0, Nat.zero_le _, rfl, World.ownsRow_nil _ _ _ _, HB.out⟩
                    case round =>
                      clear HB
                      obtain ⟨j, hj, rfl, hown, hb⟩ := hrel
                      have HR : Hid (OwnsI wr w10.heap.size u23 ((tn s j).map fun z : Nat => (z : Int)) ∧ Below w10.heap.size w10 wr) := ⟨hown, hb⟩
                      clear hown hb
                      go_wp2_with fail
                      refine (G.nodes_any (n : Int) w1'.heap.size g v L wr (HG10.out _ HR.out.2)).mono ?_
                      rintro e w16 ⟨rfl, hw16⟩
                      subst hw16
                      by_cases hjm : j < n
                      · have hjn : ((j : Int)).toNat = j := by omega
                        have hji : min j 64 = j := by omega
                        have hj0' : (0 : Int) ≤ (j : Int) := by omega
                        have hbit := bit_of s j (by omega)
                        cases htb : s.testBit j with
                        | false =>
                          as_aux_lemma =>
                          rw [htb] at hbit
                          have hbit0 : bits .and .i64 ((s : Int) / 2 ^ j) 1 = 0 := hbit
                          have HN : Hid (OwnsI w16 w10.heap.size u23 ((tn s (j + 1)).map fun z : Nat => (z : Int)) ∧ Below w10.heap.size w10 w16) := by
                            rw [tn_no htb]; exact HR.out
                          clear hbit htb HR
                          go_wp2_with fail
                          go_roundw
                          case rel => exact ⟨j + 1, by omega, by go_num, HN.out.1, HN.out.2⟩
                          case measure => simp [intOf]; omega
                        | true =>
                          as_aux_lemma =>
                          rw [htb] at hbit
                          have hbit1 : bits .and .i64 ((s : Int) / 2 ^ j) 1 = 1 := hbit
                          obtain ⟨v5, w17, ha5, ho5, hb5⟩ := more_I 34 w16 w10.heap.size u23 _ (j : Int) HR.out.1 HR.out.2.size (by
                            have := tn_len s j
                            rw [List.length_map]; omega)
                          have HN : Hid (OwnsI w17 w10.heap.size v5 ((tn s (j + 1)).map fun z : Nat => (z : Int)) ∧ Below w10.heap.size w10 w17) := by
                            rw [tn_yes htb, List.map_append]
                            exact ⟨ho5, HR.out.2.trans hb5⟩
                          have HA : Hid (_ = _) := ha5
                          clear hbit htb HR ha5 ho5 hb5
                          go_wp2_with (at_builtin; refine Lib.wpList_append_run _ rfl _ _ _ _ rfl _ _ rfl rfl _ _ HA.out ?_)
                          go_roundw
                          case rel => exact ⟨j + 1, by omega, by go_num, HN.out.1, HN.out.2⟩
                          case measure => simp [intOf]; omega
                      · have hje : n = j := by omega
                        subst hje
                        obtain ⟨a6, c6, hu6⟩ := HR.out.1.slice
                        subst hu6
                        obtain ⟨cl, hcl⟩ : ∃ cl, ((tn s n).map fun z : Nat => (z : Int)).length = cl := ⟨_, rfl⟩
                        rw [hcl]
                        have hcl2 : cl = (tn s n).length := by rw [← hcl, List.length_map]
                        have HI : Hid (G.Ints w16 a6 cl (fun t => ((tn s n).map fun z : Nat => (z : Int)).getD t 0)) := by
                          have := HR.out.1.ints
                          rw [hcl] at this
                          exact this
                        have hcm : cl ≤ 50 := by
                          have := tn_len s n
                          omega
                        have HCL : Hid (cl = (tn s n).length) := hcl2
                        have HBR : Hid (Below w10.heap.size w10 w16) := HR.out.2
                        have HW : Hid (∀ x y, cnR (L.filter (G.stays (fun _ => 0) (fun t => ((tn s n).map fun z : Nat => (z : Int)).getD t 0) 0 cl)) x y ↔ cnw L (tn s n) x y) := fun x y => by
                          have := without_nodes HED.out s x y
                          rw [← hcl2] at this
                          exact this
                        clear hcl hcl2 HR hjm hj
                        by_cases hless : cl < ls
                        · have HC : Hid _ := G.without_any (n : Int) w1'.heap.size g v L none a6 0 cl 0 c6 (fun _ => 0) (fun t => ((tn s n).map fun z : Nat => (z : Int)).getD t 0) w16 (HG10.out w16 HBR.out) (by rw [← HM.out]; omega) ⟨fun h => absurd h (by omega)⟩ HI.out (by omega) (by omega)
                          have hless' : (cl : Int) < (ls : Int) := by omega
                          go_wp2_with fail
                          refine Calls.mono HC.out ?_
                          rintro e w18 ⟨p11, v11, rfl, hg11, hb11⟩
                          obtain ⟨z, hz⟩ := bool_of (cnw L (tn s n) a b)
                          have HT : Hid _ := ktog_any hg11 hn14 (HED.out.filter _) han hbn z (hz.trans (HW.out a b).symm)
                          have HZ : Hid (z = true ↔ cnw L (tn s n) a b) := hz
                          have HB11 : Hid (Below w10.heap.size w10 w18) := HBR.out.trans (hb11.mono HBR.out.size)
                          clear hg11 hb11 hz HC HI HW
                          go_wp2_with fail
                          refine Calls.mono HT.out ?_
                          rintro e w19 ⟨rfl, hb12⟩
                          have HB12 : Hid (Below w10.heap.size w10 w19) := HB11.out.trans (hb12.mono HB11.out.size)
                          clear hb12 HT HB11
                          cases z with
                          | true =>
                            as_aux_lemma =>
                            have HN : Hid (Lsn L n a b (s + 1) ls) := HL2.out.skip (.inr (.inr (.inr (HZ.out.1 rfl))))
                            go_wp2_with fail
                            go_roundw
                            case rel => exact ⟨s + 1, ls, by omega, hls2, by go_num, rfl, HN.out, HB12.out⟩
                            case measure => simp [intOf]; omega
                          | false =>
                            as_aux_lemma =>
                            have HN : Hid (Lsn L n a b (s + 1) cl) := by
                              have := HL2.out.less HTT.out.1 HTT.out.2 (by rw [← HCL.out]; exact hless) (fun k => by have := HZ.out.2 k; cases this)
                              rw [← HCL.out] at this
                              exact this
                            go_wp2_with fail
                            go_roundw
                            case rel => exact ⟨s + 1, cl, by omega, hcm, by go_num, rfl, HN.out, HB12.out⟩
                            case measure => simp [intOf]; omega
                        · as_aux_lemma =>
                          have hless' : ¬ ((cl : Int) < (ls : Int)) := by omega
                          have HN : Hid (Lsn L n a b (s + 1) ls) := HL2.out.skip (.inr (.inr (.inl (by rw [← HCL.out]; omega))))
                          clear HI HW
                          go_wp2_with fail
                          go_roundw
                          case rel => exact ⟨s + 1, ls, by omega, hls2, by go_num, rfl, HN.out, HBR.out⟩
                          case measure => simp [intOf]; omega
              · as_aux_lemma =>
                have hse : s = 2 ^ n := by omega
                have hyl := least_nodes (ls := ls) (k := y) HED.out han hbn hab HNJ.out (by
                  have := HL2.out
                  rw [hse] at this
                  exact this) HY.out (by omega)
                subst hyl
                have hnl2 : ¬ ((s : Int) < (2 : Int) ^ n) := by rw [← HPC2.out]; omega
                clear hse HL2
                go_wp2_with fail
                go_ret
                refine ⟨by simp, ?_⟩
                have h1 := HB2.out.trans (HB10.out.mono HB2.out.size)
                exact h1.trans (HB.out.mono h1.size)

end Go.Proofs.Ytpkdpddillebfab.S
