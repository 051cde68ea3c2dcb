/- The law's walk (BridgeOrder). -/
import Derived.Test.YtedcncpkikdldaaOd
namespace Go.Proofs.Ytedcncpkikdldaa.S
open Go.RowKit Go.WideMaps Go.Maps

/-- Behind some edges: the value, and those that are left. -/
structure Ord (w2 w : World) (p pw bw pt bt mp n : Nat) (L left R B : List (Int × Int × Int)) (W T : List Nat) (D : DataW Unit) (N : Nat) (v : Value) : Prop where
  run : Run w2 w p pw bw pt bt mp n R B W T D N
  own : G.Owns w w2.heap.size 50 v left
  perm : (R ++ left).Perm L

section
variable {w2 w w' : World} {p pw bw pt bt mp n N : Nat} {L left R B : List (Int × Int × Int)} {W T : List Nat} {D : DataW Unit} {v : Value}

theorem Ord.below' (h : Ord w2 w p pw bw pt bt mp n L left R B W T D N v) (hb : Below w.heap.size w w') : Ord w2 w' p pw bw pt bt mp n L left R B W T D N v := ⟨h.run.below' hb, h.own.below hb, h.perm⟩

/-- A row of edges is kept by a step. -/
theorem own_bk (hb : BAt w p pw bw pt bt mp N W T D) {B0 : Nat} (h : G.Owns w B0 50 v left) (k : Bk bw bt mp w w') : G.Owns w' B0 50 v left := by
  obtain ⟨es, c, hm⟩ := hb.mobj
  refine ⟨h.1, ?_⟩
  rcases h.2 with hn | ⟨g, cap, cur, rfl, hB, hg, rest⟩
  · exact .inl hn
  · refine .inr ⟨g, cap, cur, rfl, hB, ?_, rest⟩
    rw [k.block g (lt_of_some hg) ?_ ?_ ?_]
    · exact hg
    all_goals rintro rfl
    · have := hg.symm.trans hb.sw.hb; simp at this
    · have := hg.symm.trans hb.st.hb; simp at this
    · have := hg.symm.trans hm; simp at this

theorem perm_step {k : Nat} {e : Int × Int × Int} (h : (R ++ left).Perm L) (hk : left[k]? = some e) : ((R ++ [e]) ++ (left.take k ++ left.drop (k + 1))).Perm L := by
  obtain ⟨hl, he⟩ := List.getElem?_eq_some_iff.1 hk
  have h1 : left = left.take k ++ e :: left.drop (k + 1) := by
    rw [← he, ← List.drop_eq_getElem_cons hl, List.take_append_drop]
  have h2 : (e :: (left.take k ++ left.drop (k + 1))).Perm left := by
    conv => rhs; rw [h1]
    exact List.perm_middle.symm
  rw [List.append_assoc]
  exact (List.Perm.append_left R h2).trans h

theorem sames_two (K : List Nat) (hg : Good n K) (hn : n ≤ 40) (g1 g2 c1 c2 : Nat) (w : World) (h1 : RowsAt w g1 (grps K n) (grps K n).length) (h2 : RowsAt w g2 (grps K n) (grps K n).length) :
    Calls Try.prog 25 #[.slice (some ⟨g1, 0, none⟩) (grps K n).length c1, .slice (some ⟨g2, 0, none⟩) (grps K n).length c2] w fun e w' => e = .returned (.bool true) ∧ Below w.heap.size w w' := by
  refine (sames_rows (some ⟨g1, 0, none⟩) (some ⟨g2, 0, none⟩) (grps K n).length c1 c2 (grps K n) w (fun _ => ⟨g1, g2, rfl, rfl, h1, h2⟩) ?_ (fun i => Nat.le_trans (grps_small hg i) (by omega))).mono ?_
  · have := grps_le K n; omega
  · rintro e w' ⟨rfl, k, rfl⟩
    exact ⟨rfl, below_drewN (Below.refl _ _) k⟩

theorem same_ups (K : List Int) (hK : K.length ≤ 1000) (a1 a2 : Option Addr) (c1 c2 : Nat) (w : World)
    (h1 : 0 < K.length → ∃ g, a1 = some ⟨g, 0, none⟩ ∧ ∀ j, j < K.length → w.cell? ⟨g, j, none⟩ = some (.int .i64 (K.getD j 0))) (h2 : 0 < K.length → ∃ g, a2 = some ⟨g, 0, none⟩ ∧ ∀ j, j < K.length → w.cell? ⟨g, j, none⟩ = some (.int .i64 (K.getD j 0))) :
    Calls Try.prog 24 #[.slice a1 K.length c1, .slice a2 K.length c2] w fun e w' => e = .returned (.bool true) ∧ Below w.heap.size w w' := by
  refine (same_ints a1 a2 K.length c1 c2 (fun j => K.getD j 0) w (fun hp => ?_) (by omega)).mono ?_
  · obtain ⟨g1, e1, f1⟩ := h1 hp
    obtain ⟨g2, e2, f2⟩ := h2 hp
    exact ⟨g1, g2, e1, e2, f1, f2⟩
  · rintro e w' ⟨rfl, k, rfl⟩
    exact ⟨rfl, below_drewN (Below.refl _ _) k⟩

theorem ups_small (h : Run w2 w p pw bw pt bt mp n R B W T D N) : (ups R B).length ≤ 50 := by
  rw [ups_length]
  have h1 : (idsOf R B).length ≤ R.length := by unfold idsOf; rw [List.length_map]; exact List.length_filter_le _ _
  have := h.rl; omega

/-- What is left without one: two rows, appended to a new one. -/
theorem left_rows (y : World) (B0 g ll cl k : Nat) (left : List (Int × Int × Int)) (h : G.Owns y B0 50 (.slice (some ⟨g, 0, none⟩) ll cl) left) (hll : left.length = ll) (hk : k < ll) (hl : ll ≤ 1000) (hcl : ll ≤ cl) (q : Addr) (hq : cl ≠ k + 1 → q = ⟨g, (k + 1) * 3, none⟩) :
    ∃ a1 m1 c1 w1 a2 m2 c2 w2, (Builtin.append_ #[47, 47] 47 #[.slice (some ⟨y.heap.size, 0, none⟩) 0 0, .slice (some ⟨g, 0, none⟩) k cl]).run Try.prog (y.alloc (.cells #[] 50)).drew = .ok (.slice a1 m1 c1) w1 ∧
      (Builtin.append_ #[47, 47] 47 #[.slice a1 m1 c1, .slice (some q) (ll - (k + 1)) (cl - (k + 1))]).run Try.prog w1 = .ok (.slice a2 m2 c2) w2 ∧
      G.Owns w2 y.heap.size 50 (.slice a2 m2 c2) (left.take k ++ left.drop (k + 1)) ∧ Below y.heap.size y w2 := by
  subst hll
  have hb0 : Below y.heap.size y (y.alloc (.cells #[] 50)).drew := ((Below.refl _ _).alloc (Nat.le_refl _) _).drew
  have h0 : G.Owns (y.alloc (.cells #[] 50)).drew y.heap.size 50 (.slice (some ⟨y.heap.size, 0, none⟩) 0 0) [] := (G.owns_empty y).below ((Below.refl _ _).drew)
  have hc0 := World.ownsRow.cells (h.below hb0) rfl
  have hg := (World.ownsRow.lt h g rfl).2
  obtain ⟨v1, w1, r1, o1, gr1, _⟩ := G.append_E 47 (y.alloc (.cells #[] 50)).drew y.heap.size _ [] (left.take k) h0 hb0.size ⟨g, 0, none⟩ k cl (by simp; omega) (fun j u hj => by
    refine hc0 j u ?_
    rw [← G.rowV_take] at hj
    rw [List.getElem?_take] at hj
    split at hj
    · exact hj
    · cases hj) (by simp; omega)
  have hb1 : Below y.heap.size y w1 := hb0.grown gr1 hb0.size (fun j hj => by simp [Value.ownBlock] at hj; omega)
  obtain ⟨a1, m1, c1, rfl⟩ := o1.slice
  have hc1 := World.ownsRow.cells (h.below hb1) rfl
  obtain ⟨v2, w2, r2, o2, gr2, _⟩ := G.append_E 47 w1 y.heap.size _ ([] ++ left.take k) (left.drop (k + 1)) o1 hb1.size q (left.length - (k + 1)) (cl - (k + 1)) (by simp) (fun j u hj => by
    by_cases hc : cl = k + 1
    · have hd : left.drop (k + 1) = [] := List.drop_eq_nil_of_le (by omega)
      rw [hd] at hj
      simp [G.rowV] at hj
    rw [hq hc]
    rw [← G.rowV_drop, List.getElem?_drop] at hj
    have := hc1 _ u hj
    have e1 : (⟨g, 0, none⟩ : Addr).add ((k + 1) * 3 + j) = (⟨g, (k + 1) * 3, none⟩ : Addr).add j := by
      unfold Addr.add
      simp
    rw [← e1]; exact this) (by simp; omega)
  obtain ⟨a2, m2, c2, rfl⟩ := o2.slice
  have hb2 : Below y.heap.size y w2 := hb1.grown gr2 hb1.size (fun j hj => (World.ownsRow.lt o1 j hj).1)
  exact ⟨a1, m1, c1, w1, a2, m2, c2, w2, r1, r2, by simpa using o2, hb2⟩

end

set_option maxHeartbeats 16000000 in
set_option maxRecDepth 100000 in
theorem order_in (n0 : Int) (a : Option Addr) (bl off m cap : Nat) (ps : Nat → Int × Int) (ao : Option Addr) (mo co : Nat) (F : Nat → Int) (w : World) (hm : m ≤ 60) (hmo : mo ≤ 100) (ha : 0 < m → a = some ⟨bl, off, none⟩) (hp : PairsAt w bl off m ps) (hbl : 0 < m → bl < w.heap.size) (hio : G.Ints w ao mo F) :
    Calls Try.prog 4 #[.int .i64 n0, .slice a m cap, .slice ao mo co] w fun e w' => e = .returned (.bool true) ∧ Below w.heap.size w w' := by
  have h60 : ¬ ((60 : Int) < (m : Int)) := by omega
  have h100 : ¬ ((100 : Int) < (mo : Int)) := by omega
  have HIO : Hid (G.Ints w ao mo F) := hio
  have HMD : Hid (∀ w', Below w.heap.size w w' → Calls Try.prog 16 #[.int .i64 n0, .slice a m cap] w' (MadePost w')) := fun w' hb => made_any n0 a bl off m cap ps w' hm ha ⟨fun i hi => (hb.cell (p := ⟨bl, off + i * 2, none⟩) (hbl (by omega))).trans (hp.a i hi), fun i hi => (hb.cell (p := ⟨bl, off + i * 2 + 1, none⟩) (hbl (by omega))).trans (hp.b i hi)⟩ (fun h => Nat.lt_of_lt_of_le (hbl h) hb.size)
  clear ha hp hbl hio
  go_enter Try.func4, Try.ntmps4
  go_wp2_with fail
  refine (crossed_true w).mono ?_
  rintro e w1 ⟨rfl, hb1⟩
  have HB1 : Hid (Below w.heap.size w w1) := hb1
  clear hb1
  go_wp2_with fail
  refine Calls.mono (HMD.out w1 HB1.out) ?_
  rintro e w3 ⟨q, u, n, L, rfl, hg3, hn0, hn14, hed, hb3⟩
  have HG3 : Hid (G.GAt w3 w1.heap.size 88 50 q (n : Int) u L ∧ Ed n 50 L) := ⟨hg3, hed⟩
  have HB3 : Hid (Below w.heap.size w w3) := HB1.out.trans (hb3.mono HB1.out.size)
  clear hg3 hed hb3 HMD HB1
  go_wp2_with fail
  refine (of_any n w1.heap.size q u L w3 HG3.out.1 hn14 HG3.out.2).mono ?_
  rintro e w2 ⟨pa, pwa, bwa, pta, bta, mpa, Ba, Wa, Ta, Da, Na, rfl, hra⟩
  have HRA : Hid (Run w3 w2 pa pwa bwa pta bta mpa n L Ba Wa Ta Da Na) := hra
  have HB2 : Hid (Below w.heap.size w w2) := HB3.out.trans (hra.below.mono HB3.out.size)
  have HG2 : Hid (G.GAt w2 w1.heap.size 88 50 q (n : Int) u L) := HG3.out.1.below hra.below
  clear hra HB3
  go_wp2_with fail
  refine (G.nodes_any (n : Int) w1.heap.size q u L w2 HG2.out).mono ?_
  rintro e w4 ⟨rfl, hw4⟩
  subst hw4
  go_wp2_with fail
  refine (bnew_in n w4 (by omega)).mono ?_
  rintro e w5 ⟨p, pw, bw, pt, bt, mp, rfl, hb5, hbl5, _, h2, h3, h4⟩
  have HR5 : Hid (Run w4 w5 p pw bw pt bt mp n [] [] (List.range n) (List.range n) (.map []) 0) := run_start hb5 hbl5 h2 h3 h4
  clear hb5 hbl5 h2 h3 h4
  go_wp2_with fail
  refine (G.edges_any (n : Int) w1.heap.size q u L w5 (HG2.out.below HR5.out.below) (by have := HG3.out.2.len; omega)).mono ?_
  rintro e w6 ⟨v6, rfl, ho6, hb6⟩
  have HO6 : Hid (Ord w4 w6 p pw bw pt bt mp n L L [] [] (List.range n) (List.range n) (.map []) 0 v6) := ⟨HR5.out.below' hb6, ho6.mono HR5.out.below.size, by simp⟩
  clear ho6 hb6 HR5 HG2
  go_wp2_with fail
  go_loopw [11, 12] (fun s11 s12 wq => ∃ (left R B : List (Int × Int × Int)) (W T : List Nat) (D : DataW Unit) (N : Nat), s12 = .int .i64 (R.length : Nat) ∧ (∃ al cl, s11 = .slice al left.length cl) ∧ R.length + left.length ≤ 50 ∧ Ord w4 wq p pw bw pt bt mp n L left R B W T D N s11) (fun s11 _ _ => match s11 with | .slice _ k _ => k | _ => 0)
  case atStart =>
    obtain ⟨al, cl, hv⟩ := HO6.out.own.slice_len
    refine ⟨L, [], [], _, _, _, _, rfl, ⟨al, cl, hv⟩, ?_, HO6.out⟩
    have := HG3.out.2.len
    simp; omega
  case round =>
    clear HO6
    obtain ⟨left, R, B, W, T, D, N, rfl, ⟨al, cl, hv⟩, hlen, hord⟩ := hrel
    subst hv
    have HOR : Hid (Ord w4 wr p pw bw pt bt mp n L left R B W T D N (.slice al left.length cl)) := hord
    clear hord
    obtain ⟨ll, hll⟩ : ∃ ll, left.length = ll := ⟨_, rfl⟩
    have HLL : Hid (left.length = ll) := hll
    obtain ⟨i, hie⟩ : ∃ i, R.length = i := ⟨_, rfl⟩
    have HI : Hid (R.length = i) := hie
    rw [hll, hie] at hlen ⊢
    clear hll hie
    by_cases hpos : 0 < ll
    · have hll50 : ll ≤ 50 := by omega
      have HBW : Hid (Below w.heap.size w wr) := HB2.out.trans (HOR.out.run.below.mono HB2.out.size)
      go_upto_if 64 with fail
      go_cut [13] from 54 to 140 (fun s13 wx => ∃ k : Nat, k < ll ∧ s13 = .int .i64 k ∧ wx = wr)
      case first =>
        by_cases hmo0 : 0 < mo
        · as_aux_lemma =>
          obtain ⟨ob, oo, rfl, hcells⟩ := (HIO.out.below HBW.out).some_ hmo0
          have hmod := Nat.mod_lt i hmo0
          have cI := hcells (i % mo) hmod
          have hrem : (i : Int).tmod (mo : Int) = ((i % mo : Nat) : Int) := by
            rw [Int.tmod_eq_emod_of_nonneg (by omega)]; omega
          generalize i % mo = j at *
          generalize F j = z at *
          have hmz : ((mo : Int) == 0) = false := beq_eq_false_iff_ne.2 (by omega)
          have hmo1 : (0 : Int) < (mo : Int) := by omega
          clear hcells
          go_wp2_with fail
          refine (pick_any z ll _ hpos (by omega)).mono ?_
          rintro e w7 ⟨rfl, hw7⟩
          subst hw7
          go_wp2_with fail
          go_meet
          case rel => exact ⟨_, pk_lt z ll hpos, rfl, rfl⟩
        · as_aux_lemma =>
          have hmz : mo = 0 := by omega
          subst hmz
          go_wp2_with fail
          go_meet
          case rel => exact ⟨ll - 1, by omega, by simp; omega, rfl⟩
      case rest =>
        obtain ⟨k, hk, rfl, hwc⟩ := hcut
        rw [hwc]
        clear hwc
        obtain ⟨ee, hx⟩ : ∃ e, left[k]? = some e := ⟨_, List.getElem?_eq_getElem (by rw [HLL.out]; exact hk)⟩
        have heL : ee ∈ L := HOR.out.perm.subset (List.mem_append_right _ (List.mem_of_getElem? hx))
        obtain ⟨x, y, hxy, hyn, he⟩ := HG3.out.2.ends ee heL
        have hids := HG3.out.2.ids ee heL
        have hunl : Unl (R ++ left) := HOR.out.perm.symm.pairwise HRA.out.unl (fun {a b} h => h.symm)
        have hone : ∀ d ∈ R, d.1 ≠ ee.1 := fun d hd => (List.pairwise_append.1 hunl).2.2 d hd ee (List.mem_of_getElem? hx)
        obtain ⟨g, hal⟩ : ∃ g, al = some ⟨g, 0, none⟩ := by
          rcases HOR.out.own.shape with ⟨_, q⟩ | ⟨g, cap, q, _⟩
          · rw [q] at hx; simp at hx
          · injection q with e1 _ _
            exact ⟨g, e1⟩
        subst hal
        obtain ⟨r0, r1, r2⟩ := HOR.out.own.at (g := g) rfl hx
        have HPS := (show Hid _ from perm_step HOR.out.perm hx)
        obtain ⟨x0, hx0⟩ : ∃ x0, ee.1 = x0 := ⟨_, rfl⟩
        rw [hx0] at he hids hone r0
        subst he
        have HONE : Hid (∀ d ∈ R, d.1 ≠ x0) := hone
        simp only at r0 r1 r2
        clear hx hone hx0 heL hunl
        have HOW : Hid (Ord w4 wr p pw bw pt bt mp n L left R B W T D N (.slice (some ⟨g, 0, none⟩) ll cl)) := by
          have := HOR.out
          rw [HLL.out] at this; exact this
        -- the edge's box
        obtain ⟨W1, hW1⟩ : ∃ W1, W1 = wr.alloc (.cells #[.int .i64 x0, .int .i64 (x : Int), .int .i64 (y : Int)] 50) := ⟨_, rfl⟩
        have hh : W1.heap[wr.heap.size]? = some (.cells #[.int .i64 x0, .int .i64 (x : Int), .int .i64 (y : Int)] 50) := by rw [hW1]; exact heap_alloc_new wr _
        have HBX : Hid (W1.heap[wr.heap.size]? = some (.cells #[.int .i64 x0, .int .i64 (x : Int), .int .i64 (y : Int)] 50)) := hh
        have hbW : Below wr.heap.size wr W1 := by rw [hW1]; exact (Below.refl _ _).alloc (Nat.le_refl _) _
        have HO1 : Hid (Ord w4 W1 p pw bw pt bt mp n L left R B W T D N (.slice (some ⟨g, 0, none⟩) ll cl)) := HOW.out.below' hbW
        have HW1 : Hid (wr.alloc (.cells #[.int .i64 x0, .int .i64 (x : Int), .int .i64 (y : Int)] 50) = W1) := hW1.symm
        have hW1s : wr.heap.size < W1.heap.size := lt_of_some hh
        have hri : R.length < 50 := by rw [HI.out]; omega
        clear hh hW1 hbW HOR HOW HIO
        go_wp2_with fail
        rw [HW1.out]
        refine (ids_ups HO1.out.run).mono ?_
        rintro e y1 ⟨x1, rfl, hrow1, hb1⟩
        obtain ⟨a1, k1', hx1, _⟩ := ints_shape hrow1
        subst hx1
        have HO2 : Hid (Ord w4 y1 p pw bw pt bt mp n L left R B W T D N (.slice (some ⟨g, 0, none⟩) ll cl) ∧ Below W1.heap.size W1 y1) := ⟨HO1.out.below' hb1, hb1⟩
        clear hrow1 hb1 HO1
        go_wp2_with fail
        refine (parts_n y1 HO2.out.1.run.now.at_ HO2.out.1.run.now.st.gt (by omega)).mono ?_
        rintro e y2 ⟨g2, c2, rfl, _, hb2⟩
        have HO3 : Hid (Ord w4 y2 p pw bw pt bt mp n L left R B W T D N (.slice (some ⟨g, 0, none⟩) ll cl)) := HO2.out.1.below' hb2
        have hh2 : y2.heap[wr.heap.size]? = some (.cells #[.int .i64 x0, .int .i64 (x : Int), .int .i64 (y : Int)] 50) := by
          rw [hb2.block _ (Nat.lt_of_lt_of_le hW1s HO2.out.2.size), HO2.out.2.block _ hW1s]; exact HBX.out
        have p0 : y2.cell? ⟨wr.heap.size, 0, none⟩ = some (.int .i64 x0) := by simp [World.cell?, hh2]
        have p1 : y2.cell? ⟨wr.heap.size, 1, none⟩ = some (.int .i64 (x : Int)) := by simp [World.cell?, hh2]
        have p2 : y2.cell? ⟨wr.heap.size, 2, none⟩ = some (.int .i64 (y : Int)) := by simp [World.cell?, hh2]
        have hcounts : (ups R B).length ≤ 50 ∧ (grps T n).length ≤ n := ⟨ups_small HO3.out.run, grps_le T n⟩
        clear hh2 hb2 HO2 HBX
        go_wp2_with fail
        refine (run_add HO3.out.run x0 y x (by omega) (by omega) (by omega) (by omega) hids HONE.out hri).mono ?_
        rintro e y3 ⟨ok, B', W', T', D', N', rfl, hr3, hbk3, hok9, hcs⟩
        clear hok9
        rw [(edge_self hxy).2] at hr3 hcs
        have HO4 : Hid (Run w4 y3 p pw bw pt bt mp n (R ++ [(x0, (x : Int), (y : Int))]) B' W' T' D' N' ∧ G.Owns y3 w4.heap.size 50 (.slice (some ⟨g, 0, none⟩) ll cl) left) := ⟨hr3, own_bk HO3.out.run.now.at_ HO3.out.own hbk3⟩
        rw [← ups_length, ← ups_length] at hcs
        have HCS := (show Hid _ from hcs)
        clear hr3 hbk3 hcs HO3 p0 p1 p2
        go_upto_region 24 with fail
        go_cut [130] from 54 to 129 (fun s130 wx => s130 = .bool false ∧ Run w4 wx p pw bw pt bt mp n (R ++ [(x0, (x : Int), (y : Int))]) B' W' T' D' N' ∧ G.Owns wx w4.heap.size 50 (.slice (some ⟨g, 0, none⟩) ll cl) left)
        case first =>
          cases ok with
          | true =>
            as_aux_lemma =>
            have h12 : (ups (R ++ [(x0, (x : Int), (y : Int))]) B').length = (ups R B).length + 1 ∧ (grps T' n).length = (grps T n).length := HCS.out
            clear HCS
            go_wp2_with fail
            refine (ids_ups HO4.out.1).mono ?_
            rintro e y4 ⟨x4, rfl, hrow4, hb4⟩
            obtain ⟨a4, k4', hx4, _⟩ := ints_shape hrow4
            subst hx4
            have HO5 : Hid (Run w4 y4 p pw bw pt bt mp n (R ++ [(x0, (x : Int), (y : Int))]) B' W' T' D' N' ∧ G.Owns y4 w4.heap.size 50 (.slice (some ⟨g, 0, none⟩) ll cl) left) := ⟨HO4.out.1.below' hb4, HO4.out.2.below hb4⟩
            rw [h12.1]
            clear hrow4 hb4 HO4
            have hlu := hcounts.1
            generalize (ups R B).length = lu at *
            go_wp2_with fail
            refine (parts_n y4 HO5.out.1.now.at_ HO5.out.1.now.st.gt (by omega)).mono ?_
            rintro e y5 ⟨g5, c5, rfl, _, hb5⟩
            have HO6 : Hid (Run w4 y5 p pw bw pt bt mp n (R ++ [(x0, (x : Int), (y : Int))]) B' W' T' D' N' ∧ G.Owns y5 w4.heap.size 50 (.slice (some ⟨g, 0, none⟩) ll cl) left) := ⟨HO5.out.1.below' hb5, HO5.out.2.below hb5⟩
            rw [h12.2]
            clear hb5 HO5 h12
            generalize (grps T n).length = lt at *
            go_wp2_with fail
            go_meet
            case rel => exact ⟨rfl, HO6.out.1, HO6.out.2⟩
          | false =>
            as_aux_lemma =>
            have h12 : (ups R B).length + (grps T' n).length = (ups (R ++ [(x0, (x : Int), (y : Int))]) B').length + (grps T n).length ∧ (ups (R ++ [(x0, (x : Int), (y : Int))]) B').length ≤ (ups R B).length := HCS.out
            clear HCS
            go_wp2_with fail
            refine (ids_ups HO4.out.1).mono ?_
            rintro e y4 ⟨x4, rfl, hrow4, hb4⟩
            obtain ⟨a4, k4', hx4, _⟩ := ints_shape hrow4
            subst hx4
            have HO5 : Hid (Run w4 y4 p pw bw pt bt mp n (R ++ [(x0, (x : Int), (y : Int))]) B' W' T' D' N' ∧ G.Owns y4 w4.heap.size 50 (.slice (some ⟨g, 0, none⟩) ll cl) left) := ⟨HO4.out.1.below' hb4, HO4.out.2.below hb4⟩
            clear hrow4 hb4 HO4
            go_wp2_with fail
            refine (parts_n y4 HO5.out.1.now.at_ HO5.out.1.now.st.gt (by omega)).mono ?_
            rintro e y5 ⟨g5, c5, rfl, _, hb5⟩
            have HO6 : Hid (Run w4 y5 p pw bw pt bt mp n (R ++ [(x0, (x : Int), (y : Int))]) B' W' T' D' N' ∧ G.Owns y5 w4.heap.size 50 (.slice (some ⟨g, 0, none⟩) ll cl) left) := ⟨HO5.out.1.below' hb5, HO5.out.2.below hb5⟩
            have hlt' : (grps T' n).length ≤ n := grps_le T' n
            clear hb5 HO5
            generalize (ups R B).length = lu at *
            generalize (grps T n).length = lt at *
            generalize (ups (R ++ [(x0, (x : Int), (y : Int))]) B').length = lu' at *
            generalize (grps T' n).length = lt' at *
            obtain ⟨d, hd⟩ : ∃ d, lu = lu' + d := ⟨lu - lu', by omega⟩
            have hd2 : lt = lt' + d := by omega
            subst hd hd2
            have hq : (((lu' + d : Nat) : Int) - (lu' : Int) == ((lt' + d : Nat) : Int) - (lt' : Int)) = true := beq_iff_eq.2 (by omega)
            go_wp2_with fail
            go_meet
            case rel => exact ⟨by simp only [Value.bool.injEq, bne_eq_false_iff_eq]; omega, HO6.out.1, HO6.out.2⟩
        case rest =>
          obtain ⟨rfl, hcr, hco⟩ := hcut
          have HO6 : Hid (Run w4 wc p pw bw pt bt mp n (R ++ [(x0, (x : Int), (y : Int))]) B' W' T' D' N' ∧ G.Owns wc w4.heap.size 50 (.slice (some ⟨g, 0, none⟩) ll cl) left) := ⟨hcr, hco⟩
          clear hcr hco HCS HO4
          generalize wc = y5 at *
          go_upto_region 26 with fail
          have hcl : ll ≤ cl := by
            rcases HO6.out.2.shape with ⟨q, _⟩ | ⟨_, _, q, _, _, q2, _⟩
            · simp at q
            · injection q with _ _ q3; rw [HLL.out] at q2; omega
          have hwr : IntKind.i64.wrap ((k : Int) + 1) = (k : Int) + 1 := by rw [IntKind.wrap_i64]; omega
          have hka : (k : Int) ≤ (k : Int) + 1 := by omega
          have hkb : (0 : Int) ≤ (k : Int) + 1 := by omega
          have hkd : (k : Int) + 1 ≤ (ll : Int) := by omega
          have htn : ((k : Int) + 1).toNat = k + 1 := by omega
          by_cases hck : cl = k + 1
          · subst hck
            obtain rfl : ll = k + 1 := by omega
            obtain ⟨b1, mm1, cc1, z1, b2, mm2, cc2, z2, he1, he2, how, hbz⟩ := left_rows y5 w4.heap.size g (k + 1) (k + 1) k left HO6.out.2 HLL.out hk (by omega) hcl ⟨g, 0, none⟩ (fun h => absurd rfl h)
            have hkc : k ≤ k + 1 := by omega
            have hk1 : k + 1 ≤ (k + 1) := by omega
            simp only [Nat.sub_self] at he2
            have HE1 : Hid (_ = _) := he1
            have HE2 : Hid (_ = _) := he2
            have hll' : z2.ownsRow y5.heap.size 50 3 (.slice b2 mm2 cc2) _ _ := how
            have hmm : k = mm2 := by
              obtain ⟨q1, q2, q3⟩ := how.slice_len
              injection q3 with _ q4 _
              rw [q4]; have := HLL.out; simp; omega
            have HFN : Hid (Ord w4 z2 p pw bw pt bt mp n L (left.take k ++ left.drop (k + 1)) (R ++ [(x0, (x : Int), (y : Int))]) B' W' T' D' N' (.slice b2 mm2 cc2)) := ⟨HO6.out.1.below' hbz, how.mono HO6.out.1.below.size, HPS.out⟩
            clear he1 he2 how hbz hll' HO6
            subst hmm
            go_region_law (first
              | (refine G.step_append_runK rfl (.tmp 131) (.tmp 134) 47 47 rfl (.slice (some ⟨y5.heap.size, 0, none⟩) 0 0) (.slice (some ⟨g, 0, none⟩) k (k + 1)) (by first | rfl | (simp [Act.eval]; done) | (simp [Act.eval, Act.put]; done)) (by first | rfl | (simp [Act.eval]; done) | (simp [Act.eval, Act.put]; done)) HE1.out ?_)
              | (refine G.step_append_runK rfl (.tmp 135) (.tmp 139) 47 47 rfl (.slice b1 mm1 cc1) (.slice (some ⟨g, 0, none⟩) 0 0) (by first | rfl | (simp [Act.eval]; done) | (simp [Act.eval, Act.put]; done)) (by first | rfl | (simp [Act.eval]; done) | (simp [Act.eval, Act.put]; done)) HE2.out ?_))
            all_goals
              go_wp2_with fail
              go_roundw
              case rel => exact ⟨_, _, B', W', T', D', N', by rw [List.length_append, HI.out]; go_num, ⟨b2, cc2, by have := HLL.out; simp; omega⟩, by have := HLL.out; have := HI.out; simp; omega, HFN.out⟩
              case measure => simp
          · obtain ⟨b1, mm1, cc1, z1, b2, mm2, cc2, z2, he1, he2, how, hbz⟩ := left_rows y5 w4.heap.size g ll cl k left HO6.out.2 HLL.out hk (by omega) hcl ⟨g, (k + 1) * 3, none⟩ (fun _ => rfl)
            have hkc : k ≤ cl := by omega
            have hk1 : k + 1 ≤ ll := by omega
            have HE1 : Hid (_ = _) := he1
            have HE2 : Hid (_ = _) := he2
            have hll' : z2.ownsRow y5.heap.size 50 3 (.slice b2 mm2 cc2) _ _ := how
            have hmm : mm2 = ll - 1 := by
              obtain ⟨q1, q2, q3⟩ := how.slice_len
              injection q3 with _ q4 _
              rw [q4]; have := HLL.out; simp; omega
            have HFN : Hid (Ord w4 z2 p pw bw pt bt mp n L (left.take k ++ left.drop (k + 1)) (R ++ [(x0, (x : Int), (y : Int))]) B' W' T' D' N' (.slice b2 mm2 cc2)) := ⟨HO6.out.1.below' hbz, how.mono HO6.out.1.below.size, HPS.out⟩
            clear he1 he2 how hbz hll' HO6
            subst hmm
            go_region_law (first
              | (refine G.step_append_runK rfl (.tmp 131) (.tmp 134) 47 47 rfl (.slice (some ⟨y5.heap.size, 0, none⟩) 0 0) (.slice (some ⟨g, 0, none⟩) k cl) (by first | rfl | (simp [Act.eval]; done) | (simp [Act.eval, Act.put]; done)) (by first | rfl | (simp [Act.eval]; done) | (simp [Act.eval, Act.put]; done)) HE1.out ?_)
              | (refine G.step_append_runK rfl (.tmp 135) (.tmp 139) 47 47 rfl (.slice b1 mm1 cc1) (.slice (some ⟨g, (k + 1) * 3, none⟩) (ll - (k + 1)) (cl - (k + 1))) (by first | rfl | (simp [Act.eval]; done) | (simp [Act.eval, Act.put]; done)) (by first | rfl | (simp [Act.eval]; done) | (simp [Act.eval, Act.put]; done)) HE2.out ?_))
            all_goals
              go_wp2_with fail
              go_roundw
              case rel => exact ⟨_, _, B', W', T', D', N', by rw [List.length_append, HI.out]; go_num, ⟨b2, cc2, by have := HLL.out; simp; omega⟩, by have := HLL.out; have := HI.out; simp; omega, HFN.out⟩
              case measure => simp; omega
    · have hl0 : ll = 0 := by omega
      subst hl0
      have hleft : left = [] := List.eq_nil_of_length_eq_zero HLL.out
      have hperm : R.Perm L := by have := HOR.out.perm; rw [hleft, List.append_nil] at this; exact this
      obtain ⟨hWW, hTT, hUU⟩ := same_all HOR.out.run.now.st HRA.out.now.st hperm HOR.out.run.unl
      subst hWW
      subst hTT
      have HUU : Hid (ups R B = ups L Ba) := hUU
      have HRB : Hid (Run w4 wr p pw bw pt bt mp n R B W T D N) := HOR.out.run
      have HA7 : Hid (Run w3 wr pa pwa bwa pta bta mpa n L Ba W T Da Na) := HRA.out.below' HOR.out.run.below
      have HGD : Hid (Good n W ∧ Good n T) := ⟨HRB.out.now.st.gw, HRB.out.now.st.gt⟩
      have HCN : Hid ((grps T n).length = (grps W n).length + (ups L Ba).length) := by
        have := ids_count HA7.out.now.st HA7.out.unl
        rw [← ups_length] at this; exact this
      have HUS : Hid ((ups L Ba).length ≤ 50) := ups_small HA7.out
      have HBW : Hid (Below w.heap.size w wr) := HB2.out.trans (HRB.out.below.mono HB2.out.size)
      have hn40 : n ≤ 40 := by omega
      clear hleft hperm hUU HOR HRA HB2 HIO
      as_aux_lemma =>
      go_wp2_with fail
      refine (ids_ups HA7.out).mono ?_
      rintro e v1 ⟨x1, rfl, hrow1, hb1⟩
      obtain ⟨a1, k1', hx1, hc1⟩ := ints_shape hrow1
      subst hx1
      have HC1 : Hid (∀ w', Below v1.heap.size v1 w' → 0 < (ups L Ba).length → ∃ g, a1 = some ⟨g, 0, none⟩ ∧ ∀ j, j < (ups L Ba).length → w'.cell? ⟨g, j, none⟩ = some (.int .i64 ((ups L Ba).getD j 0))) := fun w' hb hp => by
        obtain ⟨g, e1, f1'⟩ := hc1 hp
        exact ⟨g, e1, fun j hj => cell_below (f1' j hj) hb⟩
      have HB1 : Hid (Below wr.heap.size wr v1) := hb1
      clear hrow1 hc1 hb1
      go_wp2_with fail
      refine (ids_ups (HRB.out.below' HB1.out)).mono ?_
      rintro e v2 ⟨x2, rfl, hrow2, hb2⟩
      rw [HUU.out] at hrow2
      obtain ⟨a2, k2', hx2, hc2⟩ := ints_shape hrow2
      subst hx2
      have HC2 : Hid ((0 < (ups L Ba).length → ∃ g, a1 = some ⟨g, 0, none⟩ ∧ ∀ j, j < (ups L Ba).length → v2.cell? ⟨g, j, none⟩ = some (.int .i64 ((ups L Ba).getD j 0))) ∧ (0 < (ups L Ba).length → ∃ g, a2 = some ⟨g, 0, none⟩ ∧ ∀ j, j < (ups L Ba).length → v2.cell? ⟨g, j, none⟩ = some (.int .i64 ((ups L Ba).getD j 0)))) := ⟨HC1.out v2 hb2, hc2⟩
      have HBV2 : Hid (Below wr.heap.size wr v2) := HB1.out.trans (hb2.mono HB1.out.size)
      clear hrow2 hc2 hb2 HC1 HB1
      obtain ⟨K, hK⟩ : ∃ K, K = ups L Ba := ⟨_, rfl⟩
      rw [← hK]
      have HK : Hid (K = ups L Ba) := hK
      clear hK
      go_wp2_with fail
      refine (same_ups K (by rw [HK.out]; have := HUS.out; omega) a1 a2 k1' k2' v2 (by rw [HK.out]; exact HC2.out.1) (by rw [HK.out]; exact HC2.out.2)).mono ?_
      rintro e v3 ⟨rfl, hb3⟩
      have HBV3 : Hid (Below wr.heap.size wr v3) := HBV2.out.trans (hb3.mono HBV2.out.size)
      clear hb3 HBV2 HC2
      go_wp2_with fail
      refine (wholes_n v3 (HA7.out.below' HBV3.out).now.at_ HGD.out.1 hn40).mono ?_
      rintro e v4 ⟨g4, c4, rfl, hr4, hb4⟩
      have HBV4 : Hid (Below wr.heap.size wr v4 ∧ RowsAt v4 g4 (grps W n) (grps W n).length) := ⟨HBV3.out.trans (hb4.mono HBV3.out.size), hr4⟩
      clear hb4 hr4 HBV3
      go_wp2_with fail
      refine (wholes_n v4 (HRB.out.below' HBV4.out.1).now.at_ HGD.out.1 hn40).mono ?_
      rintro e v5 ⟨g5, c5, rfl, hr5, hb5⟩
      have HBV5 : Hid (Below wr.heap.size wr v5 ∧ RowsAt v5 g4 (grps W n) (grps W n).length ∧ RowsAt v5 g5 (grps W n) (grps W n).length) := ⟨HBV4.out.1.trans (hb5.mono HBV4.out.1.size), HBV4.out.2.below hb5, hr5⟩
      clear hb5 hr5 HBV4
      go_wp2_with fail
      refine (sames_two W HGD.out.1 hn40 g4 g5 c4 c5 v5 HBV5.out.2.1 HBV5.out.2.2).mono ?_
      rintro e v6 ⟨rfl, hb6⟩
      have HBV6 : Hid (Below wr.heap.size wr v6) := HBV5.out.1.trans (hb6.mono HBV5.out.1.size)
      clear hb6 HBV5
      go_wp2_with fail
      refine (parts_n v6 (HA7.out.below' HBV6.out).now.at_ HGD.out.2 hn40).mono ?_
      rintro e v7 ⟨g7, c7, rfl, hr7, hb7⟩
      have HBV7 : Hid (Below wr.heap.size wr v7 ∧ RowsAt v7 g7 (grps T n) (grps T n).length) := ⟨HBV6.out.trans (hb7.mono HBV6.out.size), hr7⟩
      clear hb7 hr7 HBV6
      go_wp2_with fail
      refine (parts_n v7 (HRB.out.below' HBV7.out.1).now.at_ HGD.out.2 hn40).mono ?_
      rintro e v8 ⟨g8, c8, rfl, hr8, hb8⟩
      have HBV8 : Hid (Below wr.heap.size wr v8 ∧ RowsAt v8 g7 (grps T n) (grps T n).length ∧ RowsAt v8 g8 (grps T n) (grps T n).length) := ⟨HBV7.out.1.trans (hb8.mono HBV7.out.1.size), HBV7.out.2.below hb8, hr8⟩
      clear hb8 hr8 HBV7
      go_wp2_with fail
      refine (sames_two T HGD.out.2 hn40 g7 g8 c7 c8 v8 HBV8.out.2.1 HBV8.out.2.2).mono ?_
      rintro e v9 ⟨rfl, hb9⟩
      have HBV9 : Hid (Below wr.heap.size wr v9) := HBV8.out.1.trans (hb9.mono HBV8.out.1.size)
      clear hb9 HBV8
      go_wp2_with fail
      refine (parts_n v9 (HA7.out.below' HBV9.out).now.at_ HGD.out.2 hn40).mono ?_
      rintro e y1 ⟨g10, c10, rfl, _, hb10⟩
      have HBY1 : Hid (Below wr.heap.size wr y1) := HBV9.out.trans (hb10.mono HBV9.out.size)
      clear hb10 HBV9
      go_wp2_with fail
      refine (wholes_n y1 (HA7.out.below' HBY1.out).now.at_ HGD.out.1 hn40).mono ?_
      rintro e y2 ⟨g11, c11, rfl, _, hb11⟩
      have HBY2 : Hid (Below wr.heap.size wr y2) := HBY1.out.trans (hb11.mono HBY1.out.size)
      clear hb11 HBY1
      go_wp2_with fail
      refine (ids_ups (HA7.out.below' HBY2.out)).mono ?_
      rintro e y3 ⟨x3, rfl, hrow3, hb12⟩
      obtain ⟨a3, k3', hx3, _⟩ := ints_shape hrow3
      subst hx3
      have HBY3 : Hid (Below w.heap.size w y3) := HBW.out.trans ((HBY2.out.trans (hb12.mono HBY2.out.size)).mono HBW.out.size)
      clear hrow3 hb12 HBY2
      have hcn := HCN.out
      have hus := HUS.out
      have hgl : (grps W n).length ≤ n := grps_le W n
      generalize (grps T n).length = lt at *
      generalize (grps W n).length = lw at *
      generalize (ups L Ba).length = lu at *
      subst hcn
      go_wp2_with fail
      go_ret
      exact ⟨by simp, HBY3.out⟩

end Go.Proofs.Ytedcncpkikdldaa.S
