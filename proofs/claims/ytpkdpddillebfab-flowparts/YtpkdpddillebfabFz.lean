/- FlowParts: the law's walk. -/
import Derived.Test.YtpkdpddillebfabFxY
namespace Go.Proofs.Ytpkdpddillebfab.S
open Go Go.ChangeMaps Go.MapKept Go.WideShapes
open Go.RowKit Go.WideMaps Go.Maps F

theorem bool_ex (p : Prop) : ∃ s : Bool, s = true ↔ p := ⟨@decide p (Classical.propDecidable p), by simp⟩

/-- One node is looked at, whether it parts. -/
def Ap (L : List Stp) (x y z : Nat) : Prop := ∃ z', z' < z ∧ z' ≠ x ∧ z' ≠ y ∧ ¬ cnw L [z'] x y

theorem Ap.keep {L : List Stp} {x y z : Nat} (h : Ap L x y z) : Ap L x y (z + 1) := by
  obtain ⟨z', h1, h2⟩ := h
  exact ⟨z', by omega, h2⟩

theorem Ap.step {L : List Stp} {x y z : Nat} : Ap L x y (z + 1) ↔ Ap L x y z ∨ (z ≠ x ∧ z ≠ y ∧ ¬ cnw L [z] x y) := by
  constructor
  · rintro ⟨z', h1, h2⟩
    by_cases e : z' = z
    · subst e; exact .inr h2
    · exact .inl ⟨z', by omega, h2⟩
  · rintro (h | h)
    · exact h.keep
    · exact ⟨z, by omega, h⟩

set_option maxHeartbeats 8000000 in
set_option maxRecDepth 100000 in
theorem fparts_in (n0 : Int) (a0 : Option Addr) (bl off m0 c0 : Nat) (ps : Nat → Int × Int) (w : World) (hm0 : m0 ≤ 40) (ha : 0 < m0 → a0 = some ⟨bl, off, none⟩) (hp : PairsAt w bl off m0 ps) (hbl : 0 < m0 → bl < w.heap.size) :
    Calls Try.prog 4 #[.int .i64 n0, .slice a0 m0 c0] w fun e w' => e = .returned (.bool true) ∧ Below w.heap.size w w' := by
  have h40 : ¬ ((40 : Int) < (m0 : Int)) := by omega
  have HMD : Hid (∀ (n1 : Int) W, Below w.heap.size w W → Calls Try.prog 6 #[.int .i64 n1, .slice a0 m0 c0] W (MadePost W)) := fun n1 W hW => made_any n1 a0 bl off m0 c0 ps W (by omega) ha ⟨fun i hi => (hW.cell (p := ⟨bl, off + i * 2, none⟩) (hbl (by omega))).trans (hp.a i hi), fun i hi => (hW.cell (p := ⟨bl, off + i * 2 + 1, none⟩) (hbl (by omega))).trans (hp.b i hi)⟩ (fun h => Nat.lt_of_lt_of_le (hbl h) hW.size)
  clear ha hp hbl
  go_enter Try.func4, Try.ntmps4
  go_wp2_with fail
  refine (parted_any w).mono ?_
  rintro e w1 ⟨rfl, hb1⟩
  have HB1 : Hid (Below w.heap.size w w1) := hb1
  clear hb1
  go_wp2_with fail
  refine (pick_any n0 9 w1 (by omega) (by omega)).mono ?_
  rintro e w1' ⟨rfl, hw1'⟩
  subst hw1'
  go_wp2_with fail
  refine Calls.mono (HMD.out _ w1' HB1.out) ?_
  rintro e w2 ⟨g, v, n, L, rfl, hga, hn0, hn14, hed, hb2⟩
  have HG : Hid (G.GAt w2 w1'.heap.size 58 36 g (n : Int) v L) := hga
  have HB2 : Hid (Below w.heap.size w w2) := HB1.out.trans (hb2.mono HB1.out.size)
  have HED : Hid (Ed n 50 L) := hed
  have hL50 := hed.len
  clear hga hed hb2 HMD HB1
  go_wp2_with fail
  refine (whl_of HG.out hn14 HED.out).mono ?_
  rintro e w3 ⟨p, rfl, hwh, hb3⟩
  have HW3 : Hid (Whl w3 p n L ∧ Below w2.heap.size w2 w3) := ⟨hwh, hb3⟩
  clear hwh hb3
  go_wp2_with fail
  refine (thr_any (HG.out.below HW3.out.2) HED.out hn14).mono ?_
  rintro e w4 ⟨c, rfl, hb4, P, hP, hPi, hth⟩
  have HTH : Hid _ := hth w4 (Below.refl _ _)
  have HP : Hid (Good n P ∧ ∀ x y, x < n → y < n → (P.getD x 0 = P.getD y 0 ↔ (cnR L x y ∧ ∀ e ∈ L, ∀ f ∈ L, cn ea eb (but (but (· ∈ L) e) f) x y))) := ⟨hP, hPi⟩
  have HW4 : Hid (Whl w4 p n L ∧ Below w2.heap.size w2 w4) := ⟨HW3.out.1.below hb4, HW3.out.2.trans (hb4.mono HW3.out.2.size)⟩
  clear hb4 hP hPi hth HW3
  go_wp2_with fail
  refine Calls.mono HTH.out ?_
  rintro e w5 ⟨u5, rfl, hall, hb5⟩
  obtain ⟨gt, ct, hu5, hrows⟩ := hall
  subst hu5
  obtain ⟨K, hK⟩ : ∃ K, (grps P n).length = K := ⟨_, rfl⟩
  have HK : Hid ((grps P n).length = K) := hK
  have hKn : K ≤ 14 := by
    have := grps_le P n
    omega
  rw [hK]
  have HR5 : Hid (∀ i, i < K → ∃ r c, w5.cell? ⟨gt, i, none⟩ = some (.slice (some ⟨r, 0, none⟩) ((grps P n).getD i []).length c) ∧ ∀ j, j < ((grps P n).getD i []).length → w5.cell? ⟨r, j, none⟩ = some (.int .i64 ((((grps P n).getD i []).getD j 0 : Nat) : Int))) := fun i hi => hrows i (by rw [hK]; exact hi)
  have HW5 : Hid (Whl w5 p n L ∧ Below w2.heap.size w2 w5) := ⟨HW4.out.1.below hb5, HW4.out.2.trans (hb5.mono HW4.out.2.size)⟩
  clear hb5 hrows hK HTH HW4
  go_wp2_with fail
  refine (G.nodes_any (n : Int) w1'.heap.size g v L w5 (HG.out.below HW5.out.2)).mono ?_
  rintro e w6 ⟨rfl, hw6⟩
  subst hw6
  have hmk := fun W => run_make_row' (P := Try.prog) 34 3 (.int .i64 0) 8 Try.underlying34 Try.info3 rfl .i64 .i64 n (by omega) (by omega) W
  have hmm := @run_makeMap Try.prog
  have HRL : Hid (RowL (w6.alloc (.cells (madeCells #[.int .i64 0] n) 3)) w6.heap.size (fill n 0)) := rowL_made w6 n
  obtain ⟨pb, hpb⟩ : ∃ pb, w6.heap.size = pb := ⟨_, rfl⟩
  have HPB : Hid (w6.heap.size = pb) := hpb
  rw [hpb] at HRL
  go_wp2_with fail
  clear hmk hpb
  go_loopw [10] (fun s10 wq => ∃ (i : Nat) (l : List Nat), i ≤ K ∧ s10 = .int .i64 i ∧ RowL wq pb l ∧ PartAt l (grps P n) n i 0 ∧ Below w6.heap.size w6 wq) (fun s10 _ => K - (intOf s10).toNat)
  case atStart => exact ⟨0, _, Nat.zero_le _, rfl, HRL.out, PartAt.start _ _, (Below.refl _ _).alloc (Nat.le_refl _) _⟩
  case round =>
    clear HRL
    obtain ⟨i, l, hi, rfl, hrl, hpa, hb⟩ := hrel
    have HR : Hid (RowL wr pb l ∧ PartAt l (grps P n) n i 0 ∧ Below w6.heap.size w6 wr) := ⟨hrl, hpa, hb⟩
    clear hrl hpa hb
    obtain ⟨wy, hwy⟩ : ∃ wy, wy = wr := ⟨_, rfl⟩
    subst hwy
    by_cases hik : i < K
    · obtain ⟨r, rc, hr1, hr2⟩ := HR5.out i hik
      obtain ⟨ln, hln⟩ : ∃ ln, ((grps P n).getD i []).length = ln := ⟨_, rfl⟩
      rw [hln] at hr1 hr2
      have HLN : Hid (((grps P n).getD i []).length = ln) := hln
      have hln14 : ln ≤ 14 := by
        have := grps_small HP.out.1 i
        omega
      have HR1 : Hid (w6.cell? ⟨gt, i, none⟩ = some (.slice (some ⟨r, 0, none⟩) ln rc) ∧ ∀ j, j < ln → w6.cell? ⟨r, j, none⟩ = some (.int .i64 ((((grps P n).getD i []).getD j 0 : Nat) : Int))) := ⟨hr1, hr2⟩
      clear hr1 hr2 hln
      go_wp2_with fail
      go_loopw [11] (fun s11 wq => ∃ (k : Nat) (l : List Nat), k ≤ ln ∧ s11 = .int .i64 k ∧ RowL wq pb l ∧ PartAt l (grps P n) n i k ∧ Below w6.heap.size w6 wq) (fun s11 _ => ln - (intOf s11).toNat)
      case atStart => exact ⟨0, l, Nat.zero_le _, rfl, HR.out.1, HR.out.2.1, HR.out.2.2⟩
      case round =>
        clear HR
        obtain ⟨k, l2, hk, rfl, hrl, hpa, hb⟩ := hrel
        have HR2 : Hid (RowL wr pb l2 ∧ PartAt l2 (grps P n) n i k ∧ Below w6.heap.size w6 wr) := ⟨hrl, hpa, hb⟩
        have q0 := cell_below HR1.out.1 hb
        clear hrl hpa hb
        by_cases hkl : k < ln
        · as_aux_lemma =>
          have q1 := cell_below (HR1.out.2 k hkl) HR2.out.2.2
          obtain ⟨vv, hvv⟩ : ∃ vv, ((grps P n).getD i []).getD k 0 = vv := ⟨_, rfl⟩
          have hvn : vv < n := by rw [← hvv]; exact grps_node HP.out.1 (by rw [HK.out]; exact hik) (by rw [HLN.out]; exact hkl)
          rw [hvv] at q1
          have hl2 := HR2.out.2.1.len
          have q2 := HR2.out.1.cell vv (by rw [hl2]; exact hvn)
          have q3 := HR2.out.1.frozen vv
          have HN : Hid (RowL (wr.setCell ⟨pb, vv, none⟩ (.int .i64 (i : Int))) pb (l2.set vv i) ∧ PartAt (l2.set vv i) (grps P n) n i (k + 1) ∧ Below w6.heap.size w6 (wr.setCell ⟨pb, vv, none⟩ (.int .i64 (i : Int)))) :=
            ⟨HR2.out.1.set vv i, HR2.out.2.1.set HP.out.1 (by rw [HK.out]; exact hik) (by rw [HLN.out]; exact hkl) hvv hvn, HR2.out.2.2.setCell (by show w6.heap.size ≤ pb; rw [HPB.out]; exact Nat.le_refl _) _⟩
          clear hvv HR2 hl2
          go_wp2_with fail
          go_roundw
          case rel => exact ⟨k + 1, _, by omega, by go_num, HN.out.1, HN.out.2.1, HN.out.2.2⟩
          case measure => simp [intOf]; omega
        · as_aux_lemma =>
          have HN : Hid (PartAt l2 (grps P n) n (i + 1) 0) := HR2.out.2.1.next (by rw [HLN.out]; omega)
          go_wp2_with fail
          go_roundw
          case rel => exact ⟨i + 1, l2, by omega, by go_num, HR2.out.1, HN.out, HR2.out.2.2⟩
          case measure => simp [intOf]; omega
    · have hie : K = i := by omega
      subst hie
      have HPT : Hid (RowL wy pb l ∧ l.length = n ∧ ∀ x y, x < n → y < n → (l.getD x 0 = l.getD y 0 ↔ P.getD x 0 = P.getD y 0)) := by
        have h1 := HR.out.2.1
        rw [← HK.out] at h1
        exact ⟨HR.out.1, h1.len, fun x y hx hy => h1.iff HP.out.1 hx hy⟩
      have HBY : Hid (Below w2.heap.size w2 wy ∧ Whl wy p n L) := by
        have h1 := HW5.out.2.trans (HR.out.2.2.mono HW5.out.2.size)
        exact ⟨h1, HW5.out.1.below HR.out.2.2⟩
      clear HR HR5 HW5 hik
      have hm0w : (wy.alloc (.map #[] 0)).ownsMap (H := Unit) Try.prog 48 (plainElem Try.prog 4) wy.heap.size 0 (.map []) := World.ownsMap_made wy _ _ _
      obtain ⟨mb, hmb⟩ : ∃ mb, wy.heap.size = mb := ⟨_, rfl⟩
      obtain ⟨W0, hW0⟩ : ∃ W0, W0 = wy.alloc (.map #[] 0) := ⟨_, rfl⟩
      have hbW0 : Below wy.heap.size wy W0 := by rw [hW0]; exact (Below.refl _ _).alloc (Nat.le_refl _) _
      have hsW0 : W0.heap.size = mb + 1 := by rw [hW0, ← hmb]; simp
      rw [← hW0, hmb] at hm0w
      have HM0 : Hid (W0.ownsMap (H := Unit) Try.prog 48 (plainElem Try.prog 4) mb 0 (.map []) ∧ Below wy.heap.size wy W0 ∧ W0.heap.size = mb + 1) := ⟨hm0w, hbW0, hsW0⟩
      have HW0 : Hid (wy.alloc (.map #[] 0) = W0) := hW0.symm
      have HMB : Hid (wy.heap.size = mb) := hmb
      clear hm0w hbW0 hsW0 hW0 hmb
      go_wp2_with fail
      rw [HW0.out, HMB.out]
      refine (G.edges_any (n : Int) w1'.heap.size g v L W0 (HG.out.below (HBY.out.1.trans (HM0.out.2.1.mono HBY.out.1.size))) (by omega)).mono ?_
      rintro e w7 ⟨ve, rfl, ho, hb7⟩
      obtain ⟨m, hm⟩ : ∃ m, m = L.length := ⟨_, rfl⟩
      have HM : Hid (m = L.length) := hm
      obtain ⟨va, vc, hv⟩ := ho.slice_len
      rw [← hm] at hv hL50
      subst hv
      have HI0 : Hid (w7.ownsMap (H := Unit) Try.prog 48 (plainElem Try.prog 4) mb 0 (.map []) ∧ Is (.map []) (EndsOf L 0) ∧ Below wy.heap.size wy w7 ∧ G.Owns w7 (mb + 1) 36 (.slice va m vc) L) := by
        refine ⟨HM0.out.1.kept (grown_below hb7) (by simp), Is.start.congr (fun q => ⟨fun h => h.elim, fun ⟨i, e, h, _⟩ => by omega⟩), HM0.out.2.1.trans (hb7.mono HM0.out.2.1.size), ?_⟩
        rw [← HM0.out.2.2]
        exact ho
      clear ho hb7 hm HM0 HW0
      go_wp2_with fail
      go_loopw [81] (fun s81 wq => ∃ (j : Nat) (D : DataW Unit), j ≤ m ∧ s81 = .int .i64 j ∧ wq.ownsMap Try.prog 48 (plainElem Try.prog 4) mb j D ∧ Is D (EndsOf L j) ∧ Below wy.heap.size wy wq ∧ G.Owns wq (mb + 1) 36 (.slice va m vc) L) (fun s81 _ => m - (intOf s81).toNat)
      case atStart => exact ⟨0, _, Nat.zero_le _, rfl, HI0.out.1, HI0.out.2.1, HI0.out.2.2.1, HI0.out.2.2.2⟩
      case round =>
        clear HI0
        obtain ⟨j, D, hj, rfl, hom, his, hb, hown⟩ := hrel
        have HI : Hid (wr.ownsMap Try.prog 48 (plainElem Try.prog 4) mb j D ∧ Is D (EndsOf L j) ∧ Below wy.heap.size wy wr ∧ G.Owns wr (mb + 1) 36 (.slice va m vc) L) := ⟨hom, his, hb, hown⟩
        clear hom his hb hown
        by_cases hjm : j < m
        · as_aux_lemma =>
          obtain ⟨⟨y0, y1, y2⟩, hx⟩ : ∃ e : Stp, L[j]? = some e := ⟨_, List.getElem?_eq_getElem (by rw [← HM.out]; exact hjm)⟩
          obtain ⟨g2, hva⟩ : ∃ g2, va = some ⟨g2, 0, none⟩ := by
            rcases HI.out.2.2.2.shape with ⟨_, k⟩ | ⟨g2, cap2, k, _⟩
            · rw [k] at hx; simp at hx
            · injection k with e1 _ _
              exact ⟨g2, e1⟩
          subst hva
          obtain ⟨r0, r1, r2⟩ := HI.out.2.2.2.at (g := g2) rfl hx
          simp only at r0 r1 r2
          have hbW : Below wr.heap.size wr (wr.alloc (.cells #[.int .i64 y0, .int .i64 y1, .int .i64 y2] 36)) := (Below.refl _ _).alloc (Nat.le_refl _) _
          have hwf : wfP (y1, y2) := endsOf_wf HED.out hn14 (j := j + 1) ⟨j, _, by omega, hx, rfl⟩
          obtain ⟨w8, u8, m8, i8, g8⟩ := is_put (HI.out.1.kept (grown_below hbW) (by simp)) HI.out.2.1 (fun q hq => endsOf_wf HED.out hn14 hq) (by omega) hwf
          have HN : Hid (w8.ownsMap Try.prog 48 (plainElem Try.prog 4) mb (j + 1) (D.put (pkI (y1, y2)) (.lit (.bool true))) ∧ Is (D.put (pkI (y1, y2)) (.lit (.bool true))) (EndsOf L (j + 1)) ∧ Below wy.heap.size wy w8 ∧ G.Owns w8 (mb + 1) 36 (.slice (some ⟨g2, 0, none⟩) m vc) L) := by
            have h1 := HI.out.2.2.1.trans (hbW.mono HI.out.2.2.1.size)
            refine ⟨m8, i8.congr (fun q => ?_), h1.trans (below_of_grown g8 h1.size (by rw [HMB.out]; exact Nat.le_refl _)), ?_⟩
            · constructor
              · rintro (⟨i, e, h2, h3, h4⟩ | h2)
                · exact ⟨i, e, by omega, h3, h4⟩
                · exact ⟨j, _, by omega, hx, h2⟩
              · rintro ⟨i, e, h2, h3, h4⟩
                by_cases c : i = j
                · subst c
                  rw [hx] at h3
                  injection h3 with h3
                  subst h3
                  exact .inr h4
                · exact .inl ⟨i, e, by omega, h3, h4⟩
            · refine World.ownsRow.kept (HI.out.2.2.2.below hbW) g8 (.inr (fun e => ?_))
              have := (World.ownsRow.lt HI.out.2.2.2 g2 rfl).1
              have e' : g2 = mb := Option.some.inj e
              omega
          unfold vP at u8
          simp only at u8
          clear hx hbW hwf m8 i8 g8 HI
          go_wp2_with fail
          go_roundw
          case rel => exact ⟨j + 1, _, by omega, by go_num, HN.out.1, HN.out.2.1, HN.out.2.2.1, HN.out.2.2.2⟩
          case measure => simp [intOf]; omega
        · have hje : m = j := by omega
          subst hje
          have HJ : Hid (Is D (EndsOf L m)) := HI.out.2.1
          obtain ⟨wC, hwC⟩ : ∃ wC, wC = wr := ⟨_, rfl⟩
          subst hwC
          have HC : Hid (∀ W, Below wC.heap.size wC W → G.GAt W w1'.heap.size 58 36 g (n : Int) v L ∧ Whl W p n L ∧ RowL W pb l ∧ W.ownsMap Try.prog 48 (plainElem Try.prog 4) mb m D ∧ Below w2.heap.size w2 W) := fun W hW => by
            have h0 := HI.out.2.2.1
            have h1 := HBY.out.1.trans (h0.mono HBY.out.1.size)
            have h2 := h1.trans (hW.mono h1.size)
            have hpl := HPT.out.1.lt
            exact ⟨HG.out.below h2, (HBY.out.2.below h0).below hW, (HPT.out.1.below h0 hpl).below hW (Nat.lt_of_lt_of_le hpl h0.size), HI.out.1.kept (grown_below hW) (by simp), h2⟩
          have HPL : Hid (l.length = n ∧ ∀ x y, x < n → y < n → (l.getD x 0 = l.getD y 0 ↔ P.getD x 0 = P.getD y 0)) := HPT.out.2
          clear HI HPT HBY hjm hj
          go_wp2_with fail
          go_loopw [15] (fun s15 wq => ∃ x : Nat, x ≤ n ∧ s15 = .int .i64 x ∧ Below wC.heap.size wC wq) (fun s15 _ => n - (intOf s15).toNat)
          case atStart => exact ⟨0, Nat.zero_le _, rfl, Below.refl _ _⟩
          case round =>
            obtain ⟨x, hx, rfl, hb⟩ := hrel
            have HBX : Hid (Below wC.heap.size wC wr) := hb
            clear hb
            obtain ⟨wx, hwx⟩ : ∃ wx, wx = wr := ⟨_, rfl⟩
            subst hwx
            go_wp2_with fail
            refine (G.nodes_any (n : Int) w1'.heap.size g v L wx (HC.out wx HBX.out).1).mono ?_
            rintro e w9 ⟨rfl, hw9⟩
            subst hw9
            by_cases hxn : x < n
            · go_wp2_with fail
              go_loopw [16] (fun s16 wq => ∃ y : Nat, x < y ∧ y ≤ n ∧ s16 = .int .i64 y ∧ Below wC.heap.size wC wq) (fun s16 _ => n - (intOf s16).toNat)
              case atStart => exact ⟨x + 1, by omega, by omega, by go_num, HBX.out⟩
              case round =>
                clear HBX
                obtain ⟨y, hxy, hy, rfl, hb⟩ := hrel
                have HBY : Hid (Below wC.heap.size wC wr) := hb
                clear hb
                obtain ⟨wv, hwv⟩ : ∃ wv, wv = wr := ⟨_, rfl⟩
                subst hwv
                go_wp2_with fail
                refine (G.nodes_any (n : Int) w1'.heap.size g v L wv (HC.out wv HBY.out).1).mono ?_
                rintro e w10 ⟨rfl, hw10⟩
                subst hw10
                by_cases hyn : y < n
                · have hxy0 : x ≠ y := by omega
                  go_wp2_with fail
                  refine (flowEdges_any n w1'.heap.size g x y 3 v L w10 (HC.out w10 HBY.out).1 hn14 HED.out hxn hyn hxy0 (by omega)).mono ?_
                  rintro e w11 ⟨k, rfl, hvk, hb11⟩
                  have hk3 : k ≤ 3 := by have := hvk.le; omega
                  obtain ⟨b1, hb1⟩ := bool_ex (cnR L x y)
                  obtain ⟨b2, hb2⟩ := bool_ex (twR L x y)
                  have h1k : b1 = true ↔ 1 ≤ k := by
                    rw [hb1, ← one_iff, ← val_ge (m := 0) HED.out hvk (by omega)]; omega
                  have h2k : b2 = true ↔ 2 ≤ k := by
                    rw [hb2, ← two_iff HED.out, ← val_ge (m := 1) HED.out hvk (by omega)]; omega
                  have h3k : l.getD x 0 = l.getD y 0 ↔ 3 ≤ k := by
                    rw [HPL.out.2 x y hxn hyn, HP.out.2 x y hxn hyn, ← few_iff HED.out, ← val_ge (m := 2) HED.out hvk (by omega)]; omega
                  have HKK : Hid ((b1 = true ↔ 1 ≤ k) ∧ (b2 = true ↔ 2 ≤ k) ∧ (l.getD x 0 = l.getD y 0 ↔ 3 ≤ k)) := ⟨h1k, h2k, h3k⟩
                  have HB12 : Hid ((b1 = true ↔ cnR L x y) ∧ (b2 = true ↔ twR L x y)) := ⟨hb1, hb2⟩
                  have HB11 : Hid (Below wC.heap.size wC w11) := HBY.out.trans (hb11.mono HBY.out.size)
                  have HY1 : Hid _ := whl_any (HC.out w11 HB11.out).2.1 hxn hyn b1 hb1
                  clear hvk hb11 hb1 hb2 h1k h2k h3k
                  go_wp2_with fail
                  refine Calls.mono HY1.out ?_
                  rintro e w12 ⟨rfl, hb12⟩
                  have HBZ : Hid (Below wC.heap.size wC w12) := HB11.out.trans (hb12.mono HB11.out.size)
                  have HY2 : Hid _ := tw_any (HC.out w12 HBZ.out).2.1 hxn hyn b2 HB12.out.2
                  clear hb12 HY1 HB11
                  go_wp2_with fail
                  refine Calls.mono HY2.out ?_
                  rintro e w13 ⟨rfl, hb13⟩
                  have HB13 : Hid (Below wC.heap.size wC w13) := HBZ.out.trans (hb13.mono HBZ.out.size)
                  have q1 := (HC.out w13 HB13.out).2.2.1.cell x (by rw [HPL.out.1]; exact hxn)
                  have q2 := (HC.out w13 HB13.out).2.2.1.cell y (by rw [HPL.out.1]; exact hyn)
                  obtain ⟨px, hpx⟩ : ∃ px, l.getD x 0 = px := ⟨_, rfl⟩
                  obtain ⟨py, hpy⟩ : ∃ py, l.getD y 0 = py := ⟨_, rfl⟩
                  rw [hpx] at q1 HKK
                  rw [hpy] at q2 HKK
                  clear hb13 HY2 HBZ hpx hpy
                  go_upto_region 35 with fail
                  go_cut [162] from 127 to 161 (fun s162 wx => s162 = .bool false ∧ Below wC.heap.size wC wx)
                  case first =>
                    obtain ⟨k1, k2, k3⟩ := HKK.out
                    rcases (show k = 0 ∨ k = 1 ∨ k = 2 ∨ k = 3 by omega) with rfl | rfl | rfl | rfl
                    · as_aux_lemma =>
                      have e1 : b1 = false := by cases b1; rfl; exact absurd (k1.1 rfl) (by omega)
                      have e2 : b2 = false := by cases b2; rfl; exact absurd (k2.1 rfl) (by omega)
                      have e3 : ((px : Int) == (py : Int)) = false := beq_eq_false_iff_ne.2 (fun e => by have := k3.1 (by omega); omega)
                      subst e1
                      subst e2
                      clear k1 k2 k3 HKK HB12
                      go_quiet (fail)
                      go_wp2_with fail
                      go_meet
                      case rel => exact ⟨rfl, below_drewN HB13.out _⟩
                    · as_aux_lemma =>
                      have e1 : b1 = true := k1.2 (by omega)
                      have e2 : b2 = false := by cases b2; rfl; exact absurd (k2.1 rfl) (by omega)
                      have e3 : ((px : Int) == (py : Int)) = false := beq_eq_false_iff_ne.2 (fun e => by have := k3.1 (by omega); omega)
                      subst e1
                      subst e2
                      clear k1 k2 k3 HKK HB12
                      go_quiet (fail)
                      go_wp2_with fail
                      go_meet
                      case rel => exact ⟨rfl, below_drewN HB13.out _⟩
                    · as_aux_lemma =>
                      have e1 : b1 = true := k1.2 (by omega)
                      have e2 : b2 = true := k2.2 (by omega)
                      have e3 : ((px : Int) == (py : Int)) = false := beq_eq_false_iff_ne.2 (fun e => by have := k3.1 (by omega); omega)
                      subst e1
                      subst e2
                      clear k1 k2 k3 HKK HB12
                      go_quiet (fail)
                      go_wp2_with fail
                      go_meet
                      case rel => exact ⟨rfl, below_drewN HB13.out _⟩
                    · as_aux_lemma =>
                      have e1 : b1 = true := k1.2 (by omega)
                      have e2 : b2 = true := k2.2 (by omega)
                      have e3 : ((px : Int) == (py : Int)) = true := beq_iff_eq.2 (by have := k3.2 (by omega); omega)
                      subst e1
                      subst e2
                      clear k1 k2 k3 HKK HB12
                      go_quiet (fail)
                      go_wp2_with fail
                      go_meet
                      case rel => exact ⟨rfl, below_drewN HB13.out _⟩
                  case rest =>
                    obtain ⟨rfl, hbc⟩ := hcut
                    have HBD : Hid (Below wC.heap.size wC wc) := hbc
                    clear hbc q1 q2 HB13
                    obtain ⟨wd, hwd⟩ : ∃ wd, wd = wc := ⟨_, rfl⟩
                    subst hwd
                    go_wp2_with fail
                    refine (flowNodes_any n w1'.heap.size g x y 2 v L wd (HC.out wd HBD.out).1 hn14 HED.out hxn hyn hxy0 (by omega)).mono ?_
                    rintro e w14 ⟨mk, rfl, hvm, hb14⟩
                    have HVM : Hid (Val (cap (lD (noS n L)) (lr (noS n L))) (2 * (x : Int) + 1) (2 * (y : Int)) (2 : Nat) mk) := hvm
                    have HB14 : Hid (Below wC.heap.size wC w14) := HBD.out.trans (hb14.mono HBD.out.size)
                    have hwxy : wfP ((x : Int), (y : Int)) := ⟨wf_small (x := (x : Int)) (by omega) (by omega), wf_small (x := (y : Int)) (by omega) (by omega)⟩
                    clear hvm hb14 HBD
                    by_cases hj : EndsOf L m ((x : Int), (y : Int))
                    · as_aux_lemma =>
                      have lk := is_look (HC.out w14 HB14.out).2.2.2.1 HJ.out hj hwxy
                      unfold vP at lk
                      simp only at lk
                      clear hj
                      go_wp2_with fail
                      go_roundw
                      case rel => exact ⟨y + 1, by omega, by omega, by go_num, HB14.out⟩
                      case measure => simp [intOf]; omega
                    · have lk := is_none (HC.out w14 HB14.out).2.2.2.1 HJ.out (fun q hq => endsOf_wf HED.out hn14 hq) hj hwxy
                      unfold vP at lk
                      simp only at lk
                      have HNJ : Hid (∀ e ∈ L, ¬ (ea e = x ∧ eb e = y) ∧ ¬ (ea e = y ∧ eb e = x)) := fun e he => by
                        obtain ⟨e1, e2, e3, e4, e5⟩ := ed_ends HED.out he
                        obtain ⟨i, hi2, hie⟩ := List.mem_iff_getElem.1 he
                        refine ⟨fun h => hj ⟨i, e, by rw [HM.out]; exact hi2, by rw [List.getElem?_eq_getElem hi2, hie], ?_⟩, by omega⟩
                        rw [e1, e2, h.1, h.2]
                      clear hj
                      by_cases hk0 : k = 0
                      · as_aux_lemma =>
                        subst hk0
                        go_wp2_with fail
                        go_roundw
                        case rel => exact ⟨y + 1, by omega, by omega, by go_num, HB14.out⟩
                        case measure => simp [intOf]; omega
                      · have hk0' : ((k : Int) == 0) = false := beq_eq_false_iff_ne.2 (by omega)
                        have HCN : Hid (cnR L x y) := HB12.out.1.1 (HKK.out.1.2 (by omega))
                        have HAI : Hid (Ap L x y n ↔ (mk : Int) < 2) := (apart_iff HED.out hyn hxy0 HNJ.out HCN.out HVM.out).trans (by omega)
                        clear HKK HB12 HNJ HVM
                        go_wp2_with fail
                        clear lk hk0'
                        go_loopw [24, 25] (fun s24 s25 wq => ∃ (z : Nat) (ap : Bool), z ≤ n ∧ s25 = .int .i64 z ∧ s24 = .bool ap ∧ (ap = true ↔ Ap L x y z) ∧ Below wC.heap.size wC wq) (fun _ s25 _ => n - (intOf s25).toNat)
                        case atStart => exact ⟨0, false, Nat.zero_le _, rfl, rfl, ⟨(fun h => by cases h), fun ⟨z', h, _⟩ => by omega⟩, HB14.out⟩
                        case round =>
                          clear HB14
                          obtain ⟨z, ap, hz, rfl, rfl, hap, hb⟩ := hrel
                          have HAP : Hid (ap = true ↔ Ap L x y z) := hap
                          have HBz : Hid (Below wC.heap.size wC wr) := hb
                          clear hap hb
                          go_wp2_with fail
                          refine (G.nodes_any (n : Int) w1'.heap.size g v L wr (HC.out wr HBz.out).1).mono ?_
                          rintro e w15 ⟨rfl, hw15⟩
                          subst hw15
                          by_cases hzn : z < n
                          · cases ap with
                            | true =>
                              as_aux_lemma =>
                              have HN : Hid (Ap L x y (z + 1)) := (HAP.out.1 rfl).keep
                              go_wp2_with fail
                              go_roundw
                              case rel => exact ⟨z + 1, true, by omega, by go_num, rfl, ⟨fun _ => HN.out, fun _ => rfl⟩, HBz.out⟩
                              case measure => simp [intOf]; omega
                            | false =>
                              by_cases hzx : z = x
                              · as_aux_lemma =>
                                have HN : Hid (false = true ↔ Ap L x y (z + 1)) := by
                                  show false = true ↔ _
                                  rw [Ap.step, ← HAP.out]
                                  exact ⟨fun h => .inl h, fun h => h.elim id (fun h => absurd hzx h.1)⟩
                                have e1 : ((z : Int) != (x : Int)) = false := by simp [hzx]
                                clear hzx
                                go_wp2_with fail
                                go_roundw
                                case rel => exact ⟨z + 1, false, by omega, by go_num, rfl, HN.out, HBz.out⟩
                                case measure => simp [intOf]; omega
                              · have e1 : ((z : Int) != (x : Int)) = true := by simp; omega
                                by_cases hzy : z = y
                                · as_aux_lemma =>
                                  have HN : Hid (false = true ↔ Ap L x y (z + 1)) := by
                                    show false = true ↔ _
                                    rw [Ap.step, ← HAP.out]
                                    exact ⟨fun h => .inl h, fun h => h.elim id (fun h => absurd hzy h.2.1)⟩
                                  have e2 : ((z : Int) != (y : Int)) = false := by simp [hzy]
                                  clear hzx hzy
                                  go_wp2_with fail
                                  go_roundw
                                  case rel => exact ⟨z + 1, false, by omega, by go_num, rfl, HN.out, HBz.out⟩
                                  case measure => simp [intOf]; omega
                                · as_aux_lemma =>
                                  have e2 : ((z : Int) != (y : Int)) = true := by simp; omega
                                  obtain ⟨W6, hW6⟩ : ∃ W6, W6 = w15.alloc (.cells #[.int .i64 (z : Int)] 3) := ⟨_, rfl⟩
                                  have hbW6 : Below w15.heap.size w15 W6 := by rw [hW6]; exact (Below.refl _ _).alloc (Nat.le_refl _) _
                                  have hn6 : W6.heap[w15.heap.size]? = some (.cells #[.int .i64 (z : Int)] 3) := by rw [hW6]; exact heap_alloc_new w15 _
                                  have HB6 : Hid (Below wC.heap.size wC W6) := HBz.out.trans (hbW6.mono HBz.out.size)
                                  have HC6 : Hid _ := wo1_any (a := z) (g1 := w15.heap.size) (HC.out W6 HB6.out).1 (by rw [← HM.out]; omega) (by simp [World.cell?, hn6])
                                  have HW6 : Hid (w15.alloc (.cells #[.int .i64 (z : Int)] 3) = W6) := hW6.symm
                                  obtain ⟨s, hs⟩ := bool_ex (cnw L [z] x y)
                                  have HS : Hid (s = true ↔ cnw L [z] x y) := hs
                                  have HN : Hid ((!s) = true ↔ Ap L x y (z + 1)) := by
                                    show (!s) = true ↔ _
                                    rw [Ap.step, ← HAP.out, ← hs]
                                    cases s
                                    · exact ⟨fun _ => .inr ⟨hzx, hzy, by simp⟩, fun _ => rfl⟩
                                    · exact ⟨(fun h => by cases h), fun h => h.elim (fun h => by cases h) (fun h => absurd rfl h.2.2)⟩
                                  clear hW6 hbW6 hn6 hs hzx hzy HAP
                                  go_wp2_with fail
                                  rw [HW6.out]
                                  refine Calls.mono HC6.out ?_
                                  rintro e w16 ⟨p16, v16, rfl, hg16, hb16⟩
                                  have HT : Hid _ := ktog_any hg16 hn14 (HED.out.filter _) hxn hyn s (HS.out.trans (wo1_cn HED.out z x y).symm)
                                  have HB16 : Hid (Below wC.heap.size wC w16) := HB6.out.trans (hb16.mono HB6.out.size)
                                  clear hg16 hb16 HC6 HB6 HS
                                  go_wp2_with fail
                                  refine Calls.mono HT.out ?_
                                  rintro e w17 ⟨rfl, hb17⟩
                                  have HB17 : Hid (Below wC.heap.size wC w17) := HB16.out.trans (hb17.mono HB16.out.size)
                                  clear hb17 HT HB16
                                  go_wp2_with fail
                                  go_roundw
                                  case rel => exact ⟨z + 1, !s, by omega, by go_num, rfl, HN.out, HB17.out⟩
                                  case measure => simp [intOf]; omega
                          · have hze : n = z := by omega
                            subst hze
                            have HEND : Hid (ap = true ↔ (mk : Int) < 2) := HAP.out.trans HAI.out
                            clear HAP HAI hzn
                            by_cases hm2 : 2 ≤ (mk : Int)
                            · as_aux_lemma =>
                              have hapf : ap = false := by
                                cases ap
                                · rfl
                                · have := HEND.out.1 rfl; omega
                              subst hapf
                              clear HEND
                              go_wp2_with fail
                              go_roundw
                              case rel => exact ⟨y + 1, by omega, by omega, by go_num, HBz.out⟩
                              case measure => simp [intOf]; omega
                            · as_aux_lemma =>
                              have hapt : ap = true := HEND.out.2 (by omega)
                              subst hapt
                              clear HEND
                              go_wp2_with fail
                              go_roundw
                              case rel => exact ⟨y + 1, by omega, by omega, by go_num, HBz.out⟩
                              case measure => simp [intOf]; omega
                · as_aux_lemma =>
                  go_wp2_with fail
                  go_roundw
                  case rel => exact ⟨x + 1, by omega, by go_num, HBY.out⟩
                  case measure => simp [intOf]; omega
            · as_aux_lemma =>
              go_wp2_with fail
              go_ret
              refine ⟨rfl, ?_⟩
              have h1 := (HC.out w9 HBX.out).2.2.2.2
              exact HB2.out.trans (h1.mono HB2.out.size)

end Go.Proofs.Ytpkdpddillebfab.S
