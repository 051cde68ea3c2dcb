/- The law's walk, where the list is short and n is a number of nodes. -/
import Derived.Test.YtleecofpefokhaaGreatDoorZb
namespace Go.Proofs.YtleecofpefokhaaGreatDoor.S
open Go.RowKit Go.WideMaps Go.Maps

theorem play_start {w w1 : World} {p pw bw pt bt mp n : Nat} (h : BAt w1 p pw bw pt bt mp 0 (List.range n) (List.range n) (.map [])) (hb : Below w.heap.size w w1) (h1 : w.heap.size ≤ bw) (h2 : w.heap.size ≤ bt) (h3 : w.heap.size ≤ mp) :
    Play w (w1.alloc (.cells #[.int .i64 (n : Int), .slice none 0 0] 33)) p pw bw pt bt mp w1.heap.size n 0 [] [] (List.range n) (List.range n) (.map []) 0 (.slice none 0 0) := by
  have hb1 : Below w1.heap.size w1 (w1.alloc (.cells #[.int .i64 (n : Int), .slice none 0 0] 33)) := (Below.refl _ _).alloc (Nat.le_refl _) _
  exact ⟨⟨h.below hb1, St.start n, Dis.empty⟩, ⟨heap_alloc_new w1 _, World.ownsRow_nil _ _ _ _, fun e => by cases e⟩, hb.alloc hb.size _, by simp, List.Pairwise.nil, by simp, by simp, Nat.le_refl _, h1, h2, h3, hb.size⟩

/-- What the loop over the numbers has found. -/
theorem found_step {K : List Int} {x : Int} {k : Nat} {t : Bool} (h : t = true ↔ ∃ j, j < k ∧ K.getD j 0 = x) : ((t || (K.getD k 0 == x)) = true ↔ ∃ j, j < k + 1 ∧ K.getD j 0 = x) := by
  rw [Bool.or_eq_true, h, beq_iff_eq]
  constructor
  · rintro (⟨j, h1, h2⟩ | h1)
    · exact ⟨j, by omega, h2⟩
    · exact ⟨k, by omega, h1⟩
  · rintro ⟨j, h1, h2⟩
    by_cases hj : j = k
    · subst hj; exact .inr h2
    · exact .inl ⟨j, by omega, h2⟩

theorem found_end {K : List Int} {x : Int} : (∃ j, j < K.length ∧ K.getD j 0 = x) ↔ x ∈ K := by
  constructor
  · rintro ⟨j, h1, rfl⟩
    simp [h1]
  · intro h
    obtain ⟨j, h1, rfl⟩ := List.mem_iff_getElem.1 h
    exact ⟨j, h1, by simp [h1]⟩

theorem ids_small {w0 w : World} {p pw bw pt bt mp q n i N : Nat} {R B : List (Int × Int × Int)} {W T : List Nat} {D : DataW Unit} {u : Value} (h : Play w0 w p pw bw pt bt mp q n i R B W T D N u) : (idsOf R B).length ≤ i := Nat.le_trans (ids_len R B) h.rl

/-- Rows that can be read, of which there are so many. -/
def Rd (w : World) (a : Option Addr) (Gs : List (List Nat)) (c : Nat) : Prop := 0 < c → ∃ g, a = some ⟨g, 0, none⟩ ∧ RowsAt w g Gs c
theorem Rd.below {w w' : World} {a : Option Addr} {Gs : List (List Nat)} {c : Nat} (h : Rd w a Gs c) (hb : Below w.heap.size w w') : Rd w' a Gs c := fun hc => by
  obtain ⟨g, h1, h2⟩ := h hc
  exact ⟨g, h1, h2.below hb⟩

/-- All that is known behind the last edge. -/
structure Fin (w0 w : World) (p pw bw pt bt mp q n i : Nat) (R B : List (Int × Int × Int)) (W T : List Nat) (D : DataW Unit) (N : Nat) (u : Value) (aw at_ : Option Addr) : Prop where
  play : Play w0 w p pw bw pt bt mp q n i R B W T D N u
  rw_ : Rd w aw (grps W n) (grps W n).length
  rt_ : Rd w at_ (grps T n) (grps T n).length

section
variable {w0 w w' : World} {p pw bw pt bt mp q n i N : Nat} {R B : List (Int × Int × Int)} {W T : List Nat} {D : DataW Unit} {u : Value} {aw at_ : Option Addr}

theorem Fin.below' (h : Fin w0 w p pw bw pt bt mp q n i R B W T D N u aw at_) (hb : Below w.heap.size w w') : Fin w0 w' p pw bw pt bt mp q n i R B W T D N u aw at_ := ⟨h.play.below' hb, h.rw_.below hb, h.rt_.below hb⟩

theorem Play.inn (h : Play w0 w p pw bw pt bt mp q n i R B W T D N u) : Inn n R := fun e he => ⟨(h.now.st.inn e he).1, (h.now.st.inn e he).2, (h.now.st.nat e he).1, (h.now.st.nat e he).2⟩
theorem Play.hW (h : Play w0 w p pw bw pt bt mp q n i R B W T D N u) (x y : Nat) (hx : x < n) (hy : y < n) : W.getD x 0 = W.getD y 0 ↔ cnR R x y := by
  rw [← h.now.st.hW, Lk.iff hx hy]
theorem Play.hT (h : Play w0 w p pw bw pt bt mp q n i R B W T D N u) (x y : Nat) (hx : x < n) (hy : y < n) : T.getD x 0 = T.getD y 0 ↔ (cnR R x y ∧ ∀ e ∈ R, cnR (rest R e) x y) := h.now.st.twos hx hy

theorem in_good (L : List Nat) (hg : Good n L) (hn : n ≤ 40) (ad : Option Addr) (cap x y : Nat) (s : Bool) (w : World) (h : Rd w ad (grps L n) (grps L n).length) (hx : x < n) (hy : y < n) (hs : (((L.getD x 0 : Nat) : Int) == ((L.getD y 0 : Nat) : Int)) = s) :
    Calls Tryz.prog 18 #[.slice ad (grps L n).length cap, .int .i64 (x : Int), .int .i64 (y : Int)] w fun e w' => e = .returned (.bool s) ∧ w' = w := by
  refine in_rows ad _ cap x y (grps L n) s w h ?_ (fun i => Nat.le_trans (grps_small hg i) (by omega)) ?_
  · have := grps_le L n; omega
  · rw [← grps_in hg hx hy, ← hs, beq_iff_eq]
    omega

theorem sames_good (L : List Nat) (hg : Good n L) (hn : n ≤ 40) (g1 c1 c2 : Nat) (ad : Option Addr) (w : World) (h1 : RowsAt w g1 (grps L n) (grps L n).length) (h2 : Rd w ad (grps L n) (grps L n).length) :
    Calls Tryz.prog 13 #[.slice (some ⟨g1, 0, none⟩) (grps L n).length c1, .slice ad (grps L n).length c2] w fun e w' => e = .returned (.bool true) ∧ Below w.heap.size w w' := by
  refine (sames_rows (some ⟨g1, 0, none⟩) ad (grps L n).length c1 c2 (grps L n) w (fun hc => ?_) ?_ (fun i => Nat.le_trans (grps_small hg i) (by omega))).mono ?_
  · obtain ⟨g, e, hr⟩ := h2 hc
    exact ⟨g1, g, rfl, e, h1, hr⟩
  · have := grps_le L n; omega
  · rintro e w' ⟨rfl, k, rfl⟩
    exact ⟨rfl, below_drewN (Below.refl _ _) k⟩
end

set_option maxHeartbeats 8000000 in
set_option maxRecDepth 100000 in
theorem play_in (n : Nat) (a : Option Addr) (bl off m cap : Nat) (ps : Nat → Int × Int) (w : World) (hn : n ≤ 20) (hm : m ≤ 40) (hgl : G.Gl w) (ha : 0 < m → a = some ⟨bl, off, none⟩) (hp : PairsAt w bl off m ps) (hbl : 0 < m → bl < w.heap.size) :
    Calls Tryz.prog 3 #[.int .i64 (n : Int), .slice a m cap] w fun e w' => e = .returned (.bool true) ∧ Below w.heap.size w w' := by
  have h40 : ¬ ((40 : Int) < (m : Int)) := by omega
  have h20 : ¬ ((20 : Int) < (n : Int)) := by omega
  have h0 : ¬ ((n : Int) < 0) := by omega
  have h41 : ¬ ((40 : Int) < (n : Int)) := by omega
  have HGL : Hid (G.Gl w) := hgl
  have HA : Hid (0 < m → a = some ⟨bl, off, none⟩) := ha
  have HP : Hid (PairsAt w bl off m ps) := hp
  have HBL : Hid (0 < m → bl < w.heap.size) := hbl
  clear hgl ha hp hbl
  go_enter Tryz.func3, Tryz.ntmps3
  go_wp2_with fail
  refine (bnew_in n w (by omega)).mono ?_
  rintro e w1 ⟨p, pw, bw, pt, bt, mp, rfl, hb1, hbl1, h1, h2, h3, h4⟩
  have HS : Hid (Play w (w1.alloc (.cells #[.int .i64 (n : Int), .slice none 0 0] 33)) p pw bw pt bt mp w1.heap.size n 0 [] [] (List.range n) (List.range n) (.map []) 0 (.slice none 0 0)) := play_start hb1 hbl1 h2 h3 h4
  clear hb1 hbl1 h1 h2 h3 h4
  generalize hq : w1.heap.size = q at HS
  have HQ : Hid (w1.heap.size = q) := hq
  clear hq
  go_wp2_with fail
  simp only [HQ.out]
  go_loopw [8] (fun s8 wq => ∃ (i : Nat) (R B : List (Int × Int × Int)) (W T : List Nat) (D : DataW Unit) (N : Nat) (u : Value), i ≤ m ∧ s8 = .int .i64 i ∧ Play w wq p pw bw pt bt mp q n i R B W T D N u) (fun s8 _ => m - (intOf s8).toNat)
  case atStart => exact ⟨0, _, _, _, _, _, _, _, Nat.zero_le _, rfl, HS.out⟩
  case round =>
    clear HS HQ
    obtain ⟨i, R, B, W, T, D, N, u, hi, rfl, hpl⟩ := hrel
    have HPL : Hid (Play w wr p pw bw pt bt mp q n i R B W T D N u) := hpl
    clear hpl
    by_cases hlt : i < m
    · obtain rfl := HA.out (by omega)
      have hbl := HBL.out (by omega)
      have c1 : wr.cell? ⟨bl, off + i * 2, none⟩ = some (.int .i64 (ps i).1) := (HPL.out.below.cell (p := ⟨bl, off + i * 2, none⟩) hbl).trans (HP.out.a i hlt)
      have c2 : wr.cell? ⟨bl, off + i * 2 + 1, none⟩ = some (.int .i64 (ps i).2) := (HPL.out.below.cell (p := ⟨bl, off + i * 2 + 1, none⟩) hbl).trans (HP.out.b i hlt)
      generalize (ps i).1 = x at *
      generalize (ps i).2 = y at *
      clear hbl
      go_wp2_with fail
      go_quiet (fail)
      have HPV : Hid (Play w (wr.drewN nq) p pw bw pt bt mp q n i R B W T D N u) := HPL.out.below' (below_drewN (Below.refl _ _) nq)
      clear c1 c2 HPL
      generalize wr.drewN nq = V at *
      go_wp2_with fail
      refine (step_add x y HPV.out (by omega) (by omega)).mono ?_
      rintro e w2 ⟨code, rfl, hcall⟩
      have HC : Hid _ := hcall
      clear hcall HPV
      go_wp2_with fail
      refine Calls.mono HC.out ?_
      rintro e w3 ⟨ok, R', B', W', T', D', N', u', rfl, hpl3, hok⟩
      have HP3 : Hid (Play w w3 p pw bw pt bt mp q n (i + 1) R' B' W' T' D' N' u') := hpl3
      have HOK : Hid (ok = true ↔ (i : Int) ∈ idsOf R' B') := hok
      obtain ⟨ev, hev⟩ : ∃ ev, ev = G.errV code := ⟨_, rfl⟩
      rw [← hev]
      have HEV : Hid (ev = G.errV code) := hev
      clear hpl3 hok HC hev
      go_wp2_with fail
      refine (G.bare_any ev code w3 (HGL.out.below HP3.out.below) HEV.out).mono ?_
      rintro e w4 ⟨rfl, hb4⟩
      have HP4 : Hid (Play w w4 p pw bw pt bt mp q n (i + 1) R' B' W' T' D' N' u') := HP3.out.below' hb4
      clear hb4 HP3 HEV
      go_wp2_with fail
      refine (bridges_doc n w.heap.size q u' R' w4 HP4.out.gra HP4.out.up (by have := HP4.out.rl; omega) (by omega) HP4.out.now.st).mono ?_
      rintro e w5 ⟨v5, rfl, hrow5, hb5⟩
      have HP5 : Hid (Play w w5 p pw bw pt bt mp q n (i + 1) R' B' W' T' D' N' u') := HP4.out.below' hb5
      have hkl := ids_small HP5.out
      obtain ⟨a5, k5, rfl, hc5⟩ := ints_shape hrow5
      have HK : Hid (0 < (idsOf R' B').length → ∃ g, a5 = some ⟨g, 0, none⟩ ∧ ∀ j, j < (idsOf R' B').length → w5.cell? ⟨g, j, none⟩ = some (.int .i64 ((idsOf R' B').getD j 0))) := hc5
      have HIDS : Hid (∀ W', Below w5.heap.size w5 W' → Calls Tryz.prog 10 #[.pointer (some ⟨p, 0, none⟩)] W' fun e w' => ∃ v, e = .returned v ∧ w'.ownsRow W'.heap.size 3 1 v (idsOf R' B').length ((idsOf R' B').map (Value.int .i64)) ∧ Below W'.heap.size W' w') := fun W' hW' => ids_n (HP5.out.below' hW').now HP5.out.up (by have := HP5.out.nl; omega)
      clear hrow5 hb5 HP4 hc5
      generalize idsOf R' B' = K at *
      obtain ⟨gl, hgl⟩ : ∃ gl, K.length = gl := ⟨_, rfl⟩
      have HLEN : Hid (K.length = gl) := hgl
      rw [hgl] at hkl ⊢
      clear hgl
      go_wp2_with fail
      go_loopw [15, 16] (fun s15 s16 wq => ∃ (k : Nat) (t : Bool), k ≤ gl ∧ s16 = .int .i64 k ∧ s15 = .bool t ∧ (t = true ↔ ∃ j, j < k ∧ K.getD j 0 = (i : Int)) ∧ wq = w5) (fun _ s16 _ => gl - (intOf s16).toNat)
      case atStart => exact ⟨0, false, Nat.zero_le _, rfl, rfl, ⟨fun k => absurd k (by simp), fun ⟨j, hj, _⟩ => by omega⟩, rfl⟩
      case round =>
        obtain ⟨k, t, hk, rfl, rfl, ht, hw⟩ := hrel
        subst hw
        by_cases hkl' : k < gl
        · as_aux_lemma =>
          obtain ⟨g, rfl, hcells⟩ := HK.out (by rw [HLEN.out]; omega)
          have ck := hcells k (by rw [HLEN.out]; exact hkl')
          have HFS : Hid ((t || (K.getD k 0 == (i : Int))) = true ↔ ∃ j, j < k + 1 ∧ K.getD j 0 = (i : Int)) := found_step ht
          clear hcells ht
          generalize K.getD k 0 = z at ck HFS
          cases t with
          | true =>
            go_wp2_with fail
            go_roundw
            case rel => exact ⟨k + 1, true, by omega, by go_num, rfl, by simpa using HFS.out, by first | trivial | rfl⟩
            case measure => simp [intOf]; omega
          | false =>
            by_cases hz : z = (i : Int)
            · subst hz
              go_wp2_with fail
              go_roundw
              case rel => exact ⟨k + 1, true, by omega, by go_num, rfl, by simpa using HFS.out, by first | trivial | rfl⟩
              case measure => simp [intOf]; omega
            · have hq : (z == (i : Int)) = false := beq_eq_false_iff_ne.2 hz
              have HF2 : Hid (false = true ↔ ∃ j, j < k + 1 ∧ K.getD j 0 = (i : Int)) := by
                have := HFS.out
                rw [hq] at this; exact this
              clear HFS
              go_wp2_with fail
              go_roundw
              case rel => exact ⟨k + 1, false, by omega, by go_num, rfl, HF2.out, by first | trivial | rfl⟩
              case measure => simp [intOf]; omega
        · as_aux_lemma =>
          have hke : k = gl := by omega
          subst hke
          have HT : Hid (t = ok) := by
            show t = ok
            rw [Bool.eq_iff_iff, ht, HOK.out, ← found_end, HLEN.out]
          clear ht
          obtain rfl := HT.out
          go_wp2_with fail
          refine Calls.mono (HIDS.out wr (Below.refl _ _)) ?_
          rintro e w6 ⟨v6, rfl, hrow6, hb6⟩
          have HP6 : Hid (Play w w6 p pw bw pt bt mp q n (i + 1) R' B' W' T' D' N' u') := HP5.out.below' hb6
          obtain ⟨a6, k6, rfl, hc6⟩ := ints_shape hrow6
          rw [HLEN.out]
          have HSM : Hid (0 < k → ∃ r1 r2, a6 = some ⟨r1, 0, none⟩ ∧ a5 = some ⟨r2, 0, none⟩ ∧ (∀ j, j < k → w6.cell? ⟨r1, j, none⟩ = some (.int .i64 (K.getD j 0))) ∧ ∀ j, j < k → w6.cell? ⟨r2, j, none⟩ = some (.int .i64 (K.getD j 0))) := fun hpos => by
            obtain ⟨g1, e1, f1⟩ := hc6 (by rw [HLEN.out]; exact hpos)
            obtain ⟨g2, e2, f2⟩ := HK.out (by rw [HLEN.out]; exact hpos)
            exact ⟨g1, g2, e1, e2, fun j hj => f1 j (by rw [HLEN.out]; exact hj), fun j hj => cell_below (f2 j (by rw [HLEN.out]; exact hj)) hb6⟩
          clear hrow6 hb6 hc6 HIDS HK HP5
          go_wp2_with fail
          refine (same_ints a6 a5 k k6 k5 (fun j => K.getD j 0) w6 HSM.out (by omega)).mono ?_
          rintro e w7 ⟨rfl, nn, hw7⟩
          have HP7 : Hid (Play w w7 p pw bw pt bt mp q n (i + 1) R' B' W' T' D' N' u') := by
            show Play w w7 p pw bw pt bt mp q n (i + 1) R' B' W' T' D' N' u'
            rw [hw7]; exact HP6.out.below' (below_drewN (Below.refl _ _) nn)
          clear hw7 HP6 HSM
          go_wp2_with fail
          go_roundw
          case rel => exact ⟨i + 1, R', B', W', T', D', N', u', by omega, by go_num, HP7.out⟩
          case measure => simp [intOf]; omega
    · have hie : i = m := by omega
      subst hie
      have hn40 : n ≤ 40 := by omega
      have HWL : Hid (W.length = n ∧ T.length = n) := ⟨HPL.out.now.st.gw.len, HPL.out.now.st.gt.len⟩
      have HGW : Hid (Good n W ∧ Good n T) := ⟨HPL.out.now.st.gw, HPL.out.now.st.gt⟩
      clear HA HP HBL
      go_wp2_with fail
      refine (whole_doc n w.heap.size q u R W wr HPL.out.gra (by have := HPL.out.rl; omega) hn40 HPL.out.inn HGW.out.1 HPL.out.hW).mono ?_
      rintro e w2 ⟨aw, cw, rfl, hrw, hb2⟩
      have HP2 : Hid (Play w w2 p pw bw pt bt mp q n i R B W T D N u ∧ Rd w2 aw (grps W n) (grps W n).length) := ⟨HPL.out.below' hb2, hrw⟩
      clear hrw hb2 HPL
      go_wp2_with fail
      refine (twice_doc n w.heap.size q u R T w2 HP2.out.1.gra (by have := HP2.out.1.rl; omega) hn40 HP2.out.1.inn HGW.out.2 HP2.out.1.hT).mono ?_
      rintro e w3 ⟨at_, ct, rfl, hrt, hb3⟩
      have HF3 : Hid (Fin w w3 p pw bw pt bt mp q n i R B W T D N u aw at_) := ⟨HP2.out.1.below' hb3, HP2.out.2.below hb3, hrt⟩
      clear hrt hb3 HP2
      go_wp2_with fail
      refine (wholes_n w3 HF3.out.play.now.at_ HGW.out.1 hn40).mono ?_
      rintro e w4 ⟨g4, c4, rfl, hr4, hb4⟩
      have HF4 : Hid (Fin w w4 p pw bw pt bt mp q n i R B W T D N u aw at_ ∧ RowsAt w4 g4 (grps W n) (grps W n).length) := ⟨HF3.out.below' hb4, hr4⟩
      clear hr4 hb4 HF3
      go_wp2_with fail
      refine (sames_good W HGW.out.1 hn40 g4 c4 cw aw w4 HF4.out.2 HF4.out.1.rw_).mono ?_
      rintro e w5 ⟨rfl, hb5⟩
      have HF5 : Hid (Fin w w5 p pw bw pt bt mp q n i R B W T D N u aw at_) := HF4.out.1.below' hb5
      clear hb5 HF4
      go_wp2_with fail
      refine (parts_n w5 HF5.out.play.now.at_ HGW.out.2 hn40).mono ?_
      rintro e w6 ⟨g6, c6, rfl, hr6, hb6⟩
      have HF6 : Hid (Fin w w6 p pw bw pt bt mp q n i R B W T D N u aw at_ ∧ RowsAt w6 g6 (grps T n) (grps T n).length) := ⟨HF5.out.below' hb6, hr6⟩
      clear hr6 hb6 HF5
      go_wp2_with fail
      refine (sames_good T HGW.out.2 hn40 g6 c6 ct at_ w6 HF6.out.2 HF6.out.1.rt_).mono ?_
      rintro e w7 ⟨rfl, hb7⟩
      have HF7 : Hid (Fin w w7 p pw bw pt bt mp q n i R B W T D N u aw at_) := HF6.out.1.below' hb7
      clear hb7 HF6
      go_wp2_with fail
      go_loopw [19] (fun s19 wq => ∃ x : Nat, x ≤ n ∧ s19 = .int .i64 x ∧ Fin w wq p pw bw pt bt mp q n i R B W T D N u aw at_) (fun s19 _ => n - (intOf s19).toNat)
      case atStart => exact ⟨0, Nat.zero_le _, rfl, HF7.out⟩
      case round =>
        clear HF7
        obtain ⟨x, hx, rfl, hf⟩ := hrel
        have HF8 : Hid (Fin w wr p pw bw pt bt mp q n i R B W T D N u aw at_) := hf
        clear hf
        by_cases hxl : x < n
        · go_wp2_with fail
          go_loopw [20] (fun s20 wq => ∃ y : Nat, y ≤ n ∧ s20 = .int .i64 y ∧ Fin w wq p pw bw pt bt mp q n i R B W T D N u aw at_) (fun s20 _ => n - (intOf s20).toNat)
          case atStart => exact ⟨0, Nat.zero_le _, rfl, HF8.out⟩
          case round =>
            clear HF8
            obtain ⟨y, hy, rfl, hf⟩ := hrel
            have HF9 : Hid (Fin w wr p pw bw pt bt mp q n i R B W T D N u aw at_) := hf
            clear hf
            by_cases hyl : y < n
            · as_aux_lemma =>
              obtain ⟨s1, hs1⟩ : ∃ s1, (((W.getD x 0 : Nat) : Int) == ((W.getD y 0 : Nat) : Int)) = s1 := ⟨_, rfl⟩
              obtain ⟨s2, hs2⟩ : ∃ s2, (((T.getD x 0 : Nat) : Int) == ((T.getD y 0 : Nat) : Int)) = s2 := ⟨_, rfl⟩
              have HS1 : Hid ((((W.getD x 0 : Nat) : Int) == ((W.getD y 0 : Nat) : Int)) = s1) := hs1
              have HS2 : Hid ((((T.getD x 0 : Nat) : Int) == ((T.getD y 0 : Nat) : Int)) = s2) := hs2
              clear hs1 hs2
              go_wp2_with fail
              refine (whole_in x y s1 _ HF9.out.play.now.at_ (by rw [HWL.out.1]; exact hxl) (by rw [HWL.out.1]; exact hyl) HS1.out).mono ?_
              rintro e v1 ⟨rfl, hb1⟩
              have HG1 : Hid (Fin w v1 p pw bw pt bt mp q n i R B W T D N u aw at_) := HF9.out.below' hb1
              clear hb1 HF9
              go_wp2_with fail
              refine (twice_in x y s2 v1 HG1.out.play.now.at_ (by rw [HWL.out.2]; exact hxl) (by rw [HWL.out.2]; exact hyl) HS2.out).mono ?_
              rintro e v2 ⟨rfl, hb2⟩
              have HG2 : Hid (Fin w v2 p pw bw pt bt mp q n i R B W T D N u aw at_) := HG1.out.below' hb2
              clear hb2 HG1
              go_wp2_with fail
              refine (in_good W HGW.out.1 hn40 aw cw x y s1 v2 HG2.out.rw_ hxl hyl HS1.out).mono ?_
              rintro e v3 ⟨rfl, hv3⟩
              subst hv3
              go_wp2_with fail
              refine (in_good T HGW.out.2 hn40 at_ ct x y s2 v3 HG2.out.rt_ hxl hyl HS2.out).mono ?_
              rintro e v4 ⟨rfl, hv4⟩
              subst hv4
              go_wp2_with fail
              go_roundw
              case rel => exact ⟨y + 1, by omega, by go_num, HG2.out⟩
              case measure => simp [intOf]; omega
            · as_aux_lemma =>
              go_wp2_with fail
              go_roundw
              case rel => exact ⟨x + 1, by omega, by go_num, HF9.out⟩
              case measure => simp [intOf]; omega
        · as_aux_lemma =>
          have HN1 : Hid (Strange W.length (n : Int) ∨ Strange W.length 0) := .inl (.inr (by rw [HWL.out.1]; exact Int.le_refl _))
          have HN2 : Hid (Strange T.length 0 ∨ Strange T.length (-1)) := .inr (.inl (by decide))
          go_wp2_with fail
          refine (whole_out (n : Int) 0 _ HF8.out.play.now.at_ HN1.out).mono ?_
          rintro e v1 ⟨rfl, hb1⟩
          have HG1 : Hid (Fin w v1 p pw bw pt bt mp q n i R B W T D N u aw at_) := HF8.out.below' hb1
          clear hb1 HF8
          go_wp2_with fail
          refine (twice_out 0 (-1) v1 HG1.out.play.now.at_ HN2.out).mono ?_
          rintro e v2 ⟨rfl, hb2⟩
          have HG2 : Hid (Fin w v2 p pw bw pt bt mp q n i R B W T D N u aw at_) := HG1.out.below' hb2
          clear hb2 HG1
          go_wp2_with fail
          refine (G.bare_any (.iface 29 (.int .i64 2)) 2 v2 (HGL.out.below HG2.out.play.below) (by simp [G.errV])).mono ?_
          rintro e v3 ⟨rfl, hb3⟩
          have HG3 : Hid (Below w.heap.size w v3) := (HG2.out.play.below' hb3).below
          clear hb3 HG2
          go_wp2_with fail
          refine (G.bare_any (.iface 29 (.int .i64 2)) 2 v3 (HGL.out.below HG3.out) (by simp [G.errV])).mono ?_
          rintro e v4 ⟨rfl, hb4⟩
          have HG4 : Hid (Below w.heap.size w v4) := HG3.out.trans (hb4.mono HG3.out.size)
          clear hb4 HG3
          go_wp2_with fail
          go_ret
          exact ⟨rfl, HG4.out⟩

end Go.Proofs.YtleecofpefokhaaGreatDoor.S
