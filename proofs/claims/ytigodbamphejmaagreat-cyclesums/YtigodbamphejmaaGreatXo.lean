/- The law's walk: rings are counted. -/
import Derived.Test.YtigodbamphejmaaGreatXn
namespace Go.Proofs.YtigodbamphejmaaGreat.S
open Go.RowKit Go.WideMaps Go.Maps

theorem PairsAt.below {w w' : World} {bl off m : Nat} {ps : Nat → Int × Int} (h : PairsAt w bl off m ps) (hb : Below w.heap.size w w') : PairsAt w' bl off m ps := ⟨fun i hi => cell_below (h.a i hi) hb, fun i hi => cell_below (h.b i hi) hb⟩

/-- A row of numbers that can be read. -/
def RdI (w : World) (a : Option Addr) (m : Nat) (F : Nat → Int) : Prop := 0 < m → ∃ g, a = some ⟨g, 0, none⟩ ∧ g < w.heap.size ∧ ∀ j, j < m → w.cell? ⟨g, j, none⟩ = some (.int .i64 (F j))

theorem RdI.below {w w' : World} {a : Option Addr} {m : Nat} {F : Nat → Int} (h : RdI w a m F) (hb : Below w.heap.size w w') : RdI w' a m F := fun hm => by
  obtain ⟨g, h1, h2, h3⟩ := h hm
  exact ⟨g, h1, Nat.lt_of_lt_of_le h2 hb.size, fun j hj => cell_below (h3 j hj) hb⟩

theorem rdI_of {w : World} {base : Nat} {v : Value} {K : List Int} {m : Nat} (hm : K.length = m) (h : w.ownsRow base 3 1 v K.length (rowZ K)) : ∃ a cap, v = .slice a m cap ∧ RdI w a m (fun j => K.getD j 0) := by
  subst hm
  have h0 := h
  rcases h.2 with ⟨rfl, hz⟩ | ⟨g, cap, cur, rfl, _, hc, _⟩
  · exact ⟨none, 0, by rw [hz], fun hp => absurd hp (by omega)⟩
  · refine ⟨_, cap, rfl, fun _ => ⟨g, rfl, lt_of_some hc, fun j hj => ?_⟩⟩
    rw [h0.cellAt j (by omega)]
    simp [rowZ, hj]

section
variable {P : Program} (w : World) {ops : Array Oper} {rest : List Oper} {o : Oper} {a : Act} {Q : Exit → Act → World → Prop}

/-- The step of a range over the map of the pairs. -/
theorem wpList_next_pairs (hg : o.guard = none) (it : Operand) (hop : o.op = Op.next it false) (V : Int × Int → Prop)
    (b r n : Nat) (D : DataW Unit) (hI : Is D V) (hV : ∀ x, V x → wfP x) (left : Lit → Bool) (cnt : Nat) (hit : a.eval it = .pointer (some ⟨r, 0, none⟩)) (h : w.ranges Tryz.prog 41 (plainElem Tryz.prog 4) b r n D left cnt)
    (hDone : cnt = 0 → (∀ kl, left kl = false) → wpList Tryz.prog ops Q rest (a.put o.dst (.tuple #[.bool false])) w)
    (hMore : ∀ (x y : Int) (c : Value) (w' : World) (cnt' : Nat), V (x, y) → w'.ranges Tryz.prog 41 (plainElem Tryz.prog 4) b r n D (fun z => left z && !z.sameKey (pkI (x, y))) cnt' → cnt' < cnt →
      w.grownBy w' (some r) → w'.heap.size = w.heap.size → (Instr.entry (.pointer (some ⟨r, 0, none⟩))).run Tryz.prog w' = .ok (.tuple #[.agg #[.int .i64 x, .int .i64 y], c]) w' → wpList Tryz.prog ops Q rest (a.put o.dst (.tuple #[.bool true, .agg #[.int .i64 x, .int .i64 y], c])) w') :
    wpList Tryz.prog ops Q (o :: rest) a w :=
  wpList_next_ranges w hg it hop 41 law31 (plainElem Tryz.prog 4) (fun v : Value => v) (fun v : Value => v) (fun key kl _ => ⟨key, rfl⟩) (fun v y _ => ⟨v, rfl⟩)
    b r n D left cnt hit h hDone (fun key c kl y w' cnt' hkey _ _ hat hrg hlt hgr hsz hen => by
      obtain ⟨⟨x1, x2⟩, hx, rfl⟩ := (hI.key kl).1 (has_true_of_atKey hat)
      have hk := pkI_of (hV _ hx) hkey
      subst hk
      exact hMore x1 x2 c w' cnt' hx hrg hlt hgr hsz hen)
end

/-- All that the law holds on to. -/
structure Ls (w : World) (p c mb q bq n : Nat) (B0 : Nat) (v : Value) (L : List Edg) (p2 pw bw pt bt mp : Nat) (B : List Edg) (W T : List Nat) (D : DataW Unit) (N : Nat) (w00 : World) : Prop where
  ga : G.GAt w B0 76 49 p (n : Int) v L
  cw : Cw w c mb q bq n L
  run : Run w00 w p2 pw bw pt bt mp n L B W T D N

theorem Ls.below {w w' : World} {p c mb q bq n : Nat} {B0 : Nat} {v : Value} {L : List Edg} {p2 pw bw pt bt mp : Nat} {B : List Edg} {W T : List Nat} {D : DataW Unit} {N : Nat} {w00 : World} (h : Ls w p c mb q bq n B0 v L p2 pw bw pt bt mp B W T D N w00) (hb : Below w.heap.size w w') : Ls w' p c mb q bq n B0 v L p2 pw bw pt bt mp B W T D N w00 :=
  ⟨h.ga.below hb, h.cw.below hb, h.run.below' hb⟩

set_option maxHeartbeats 8000000 in
set_option maxRecDepth 100000 in
theorem sums_in (n0 : Int) (a : Option Addr) (bl off m cap : Nat) (ps : Nat → Int × Int) (w : World) (hm : m ≤ 45) (ha : 0 < m → a = some ⟨bl, off, none⟩) (hp : PairsAt w bl off m ps) (hbl : 0 < m → bl < w.heap.size) :
    Calls Tryz.prog 3 #[.int .i64 n0, .slice a m cap] w fun e w' => e = .returned (.bool true) ∧ Below w.heap.size w w' := by
  have h45 : ¬ ((45 : Int) < (m : Int)) := by omega
  have HA : Hid ((0 < m → a = some ⟨bl, off, none⟩) ∧ PairsAt w bl off m ps ∧ (0 < m → bl < w.heap.size)) := ⟨ha, hp, hbl⟩
  have hmm := @run_makeMap Tryz.prog
  clear ha hp hbl
  go_enter Tryz.func3, Tryz.ntmps3
  go_wp2_with fail
  refine (covered_fact w).mono ?_
  rintro e w1 ⟨rfl, hb1⟩
  have HB1 : Hid (Below w.heap.size w w1) := hb1
  have hs1 := hb1.size
  clear hb1
  go_wp2_with fail
  refine (made_any n0 a bl off m cap ps w1 (by omega) HA.out.1 (HA.out.2.1.below HB1.out) (fun h => by have := HA.out.2.2 h; omega)).mono ?_
  rintro e w2 ⟨p, v, n, L, rfl, hga, hn0, hn14, hed, hb2⟩
  have hLl : L.length ≤ 50 := hed.len
  have hup : (L.map (·.1)).Pairwise (· < ·) := List.pairwise_map.2 hed.up
  have hok := ok_of hed (by omega) (by omega) (by omega)
  have hgr := gr_all L hok.nd hok.inn.nodes
  have HL : Hid (Ok n L ∧ Gr n L (grw n L).1 (grw n L).2 ∧ Ed n 50 L ∧ (L.map (·.1)).Pairwise (· < ·) ∧ L.length ≤ 50) := ⟨hok, hgr, hed, hup, hLl⟩
  have HG2 : Hid (G.GAt w2 w1.heap.size 76 49 p (n : Int) v L ∧ Below w.heap.size w w2) := ⟨hga, HB1.out.trans (hb2.mono HB1.out.size)⟩
  clear hga hb2 hed hup hok hgr hLl HA HB1 hs1
  go_wp2_with fail
  refine (cyc_any n w1.heap.size p v L w2 HG2.out.1 HL.out.1 HL.out.2.2.2.1).mono ?_
  rintro e w3 ⟨c, mb, q, bq, rfl, hcw, hb3⟩
  have HC3 : Hid (Cw w3 c mb q bq n L ∧ G.GAt w3 w1.heap.size 76 49 p (n : Int) v L ∧ Below w.heap.size w w3) := ⟨hcw, HG2.out.1.below hb3, HG2.out.2.trans (hb3.mono HG2.out.2.size)⟩
  clear hcw hb3 HG2
  go_wp2_with fail
  refine (of_any n w1.heap.size p v L w3 HC3.out.2.1 hn14 HL.out.2.2.1).mono ?_
  rintro e w4 ⟨p2, pw, bw, pt, bt, mp, B, W, T, D, N, rfl, hrun⟩
  have HL4 : Hid (Ls w4 p c mb q bq n w1.heap.size v L p2 pw bw pt bt mp B W T D N w3 ∧ Below w.heap.size w w4) := ⟨⟨HC3.out.2.1.below hrun.below, HC3.out.1.below hrun.below, hrun⟩, HC3.out.2.2.trans (hrun.below.mono HC3.out.2.2.size)⟩
  have HST : Hid (St n L W T B) := hrun.now.st
  clear hrun HC3
  have hcount := rest_count HST.out HL.out.1.nd
  obtain ⟨R0, hR0⟩ : ∃ x, (grw n L).2.length = x := ⟨_, rfl⟩
  obtain ⟨E0, hE0⟩ : ∃ x, L.length = x := ⟨_, rfl⟩
  obtain ⟨G0, hG0⟩ : ∃ x, (grps W n).length = x := ⟨_, rfl⟩
  rw [hR0, hE0, hG0] at hcount
  have HN0 : Hid ((grw n L).2.length = R0 ∧ L.length = E0 ∧ (grps W n).length = G0) := ⟨hR0, hE0, hG0⟩
  have hE50 : E0 ≤ 50 := by rw [← hE0]; exact HL.out.2.2.2.2
  have hG14 : G0 ≤ 14 := by rw [← hG0]; exact Nat.le_trans (grps_le W n) hn14
  have HRI : Hid ((R0 : Int) = (E0 : Int) - (n : Int) + (G0 : Int)) := by show (R0 : Int) = _; omega
  clear hR0 hE0 hG0 hcount
  go_wp2_with fail
  refine (crest_any c mb _ _ _ w4 HL4.out.1.cw.cx.co).mono ?_
  rintro e w5 ⟨rfl, hw5⟩
  subst hw5
  rw [HN0.out.1, HRI.out]
  go_wp2_with fail
  refine (G.edges_any (n : Int) w1.heap.size p v L w5 HL4.out.1.ga (by rw [HN0.out.2.1]; omega)).mono ?_
  rintro e w6 ⟨ue, rfl, hoe, hb6⟩
  obtain ⟨ea', ec', hue⟩ := hoe.slice_len
  rw [HN0.out.2.1] at hue
  subst hue
  have HL6 : Hid (Ls w6 p c mb q bq n w1.heap.size v L p2 pw bw pt bt mp B W T D N w3 ∧ Below w.heap.size w w6) := ⟨HL4.out.1.below hb6, HL4.out.2.trans (hb6.mono HL4.out.2.size)⟩
  clear hoe hb6 HL4
  go_wp2_with fail
  refine (G.nodes_any (n : Int) w1.heap.size p v L w6 HL6.out.1.ga).mono ?_
  rintro e w7 ⟨rfl, hw7⟩
  subst hw7
  go_wp2_with fail
  refine (wholes_n w7 HL6.out.1.run.now.at_ HST.out.gw (by omega)).mono ?_
  rintro e w8 ⟨gw, kw, rfl, _, hb8⟩
  rw [HN0.out.2.2]
  have HL8 : Hid (Ls w8 p c mb q bq n w1.heap.size v L p2 pw bw pt bt mp B W T D N w3 ∧ Below w.heap.size w w8) := ⟨HL6.out.1.below hb8, HL6.out.2.trans (hb8.mono HL6.out.2.size)⟩
  clear hb8 HL6
  obtain ⟨nb, hnb⟩ : ∃ nb, ((L.filter fun e => decide (covN n (grw n L).1 (grw n L).2 e = 0)).map (·.1)).length = nb := ⟨_, rfl⟩
  have hnb50 : nb ≤ 50 := by
    rw [← hnb, List.length_map]
    exact Nat.le_trans (List.length_filter_le _ _) HL.out.2.2.2.2
  obtain ⟨F, hF⟩ : ∃ F : Nat → Int, (fun j => ((L.filter fun e => decide (covN n (grw n L).1 (grw n L).2 e = 0)).map (·.1)).getD j 0) = F := ⟨_, rfl⟩
  have HNB : Hid (((L.filter fun e => decide (covN n (grw n L).1 (grw n L).2 e = 0)).map (·.1)).length = nb ∧ (fun j => ((L.filter fun e => decide (covN n (grw n L).1 (grw n L).2 e = 0)).map (·.1)).getD j 0) = F) := ⟨hnb, hF⟩
  clear hnb hF
  go_wp2_with fail
  refine (cbridges_any c mb _ _ L _ w8 HL8.out.1.cw.cx).mono ?_
  rintro e w9 ⟨v9, rfl, hrow9, hb9⟩
  rw [← rowZ_ids] at hrow9
  have hrow9' : w9.ownsRow w8.heap.size 3 1 v9 ((L.filter fun e => decide (covN n (grw n L).1 (grw n L).2 e = 0)).map (·.1)).length (rowZ ((L.filter fun e => decide (covN n (grw n L).1 (grw n L).2 e = 0)).map (·.1))) := by rw [List.length_map]; exact hrow9
  obtain ⟨a9, k9, rfl, hrd9⟩ := rdI_of (m := nb) HNB.out.1 hrow9'
  rw [HNB.out.2] at hrd9
  have HL9 : Hid (Ls w9 p c mb q bq n w1.heap.size v L p2 pw bw pt bt mp B W T D N w3 ∧ Below w.heap.size w w9 ∧ RdI w9 a9 nb F) := ⟨HL8.out.1.below hb9, HL8.out.2.trans (hb9.mono HL8.out.2.size), hrd9⟩
  clear hrow9 hrow9' hb9 hrd9 HL8
  go_wp2_with fail
  refine (ids_ups HL9.out.1.run).mono ?_
  rintro e wa ⟨va, rfl, hrowa, hba⟩
  rw [ups_ids HST.out HL.out.2.1 HL.out.1.inn HL.out.2.2.2.1] at hrowa
  obtain ⟨aa, ka, rfl, hrda⟩ := rdI_of (m := nb) HNB.out.1 hrowa
  rw [HNB.out.2] at hrda
  have HLa : Hid (Ls wa p c mb q bq n w1.heap.size v L p2 pw bw pt bt mp B W T D N w3 ∧ Below w.heap.size w wa ∧ RdI wa a9 nb F ∧ RdI wa aa nb F) := ⟨HL9.out.1.below hba, HL9.out.2.1.trans (hba.mono HL9.out.2.1.size), HL9.out.2.2.below hba, hrda⟩
  clear hrowa hba hrda HL9
  go_wp2_with fail
  refine (same_ints a9 aa nb k9 ka F wa (fun hp => ?_) (by omega)).mono ?_
  · obtain ⟨g1, e1, _, f1⟩ := HLa.out.2.2.1 hp
    obtain ⟨g2, e2, _, f2⟩ := HLa.out.2.2.2 hp
    exact ⟨g1, g2, e1, e2, f1, f2⟩
  rintro e wb ⟨rfl, kb, hwb⟩
  have HLb : Hid (Ls wb p c mb q bq n w1.heap.size v L p2 pw bw pt bt mp B W T D N w3 ∧ Below w.heap.size w wb) := by
    have hbb : Below wa.heap.size wa wb := by rw [hwb]; exact below_drewN (Below.refl _ _) kb
    exact ⟨HLa.out.1.below hbb, HLa.out.2.1.trans (hbb.mono HLa.out.2.1.size)⟩
  clear hwb HLa HNB hnb50
  obtain ⟨M, hM⟩ : ∃ M, (pairsOf (L.filter fun e => decide (covN n (grw n L).1 (grw n L).2 e ≠ 0)) fun e d => decide (covN n (grw n L).1 (grw n L).2 e = covN n (grw n L).1 (grw n L).2 d)) = M := ⟨_, rfl⟩
  obtain ⟨np, hnp⟩ : ∃ np, M.length = np := ⟨_, rfl⟩
  have hnp25 : np ≤ 2500 := by
    rw [← hnp, ← hM]
    have h1 := pairsOf_len (fun e d => decide (covN n (grw n L).1 (grw n L).2 e = covN n (grw n L).1 (grw n L).2 d)) (L.filter fun e => decide (covN n (grw n L).1 (grw n L).2 e ≠ 0))
    have h2 : (L.filter fun e => decide (covN n (grw n L).1 (grw n L).2 e ≠ 0)).length ≤ 50 := Nat.le_trans (List.length_filter_le _ _) HL.out.2.2.2.2
    have h3 := Nat.mul_le_mul h2 h2
    omega
  obtain ⟨f, hf⟩ : ∃ f, covN n (grw n L).1 (grw n L).2 = f := ⟨_, rfl⟩
  have HMM : Hid (M.length = np ∧ ∀ x y, (x, y) ∈ M ↔ ∃ e ∈ L, ∃ d ∈ L, e.1 < d.1 ∧ f e ≠ 0 ∧ f e = f d ∧ x = e.1 ∧ y = d.1) := ⟨hnp, fun x y => by
    rw [← hM, mem_pairsOf (HL.out.2.2.2.1.sublist (List.Sublist.map _ List.filter_sublist)), hf]
    constructor
    · rintro ⟨e, he, d, hd, h1, h2, h3⟩
      obtain ⟨he1, he2⟩ := List.mem_filter.1 he
      obtain ⟨hd1, hd2⟩ := List.mem_filter.1 hd
      injection h3 with h3 h4
      exact ⟨e, he1, d, hd1, h1, of_decide_eq_true he2, of_decide_eq_true h2, h3, h4⟩
    · rintro ⟨e, he, d, hd, h1, h2, h3, rfl, rfl⟩
      exact ⟨e, List.mem_filter.2 ⟨he, decide_eq_true h2⟩, d, List.mem_filter.2 ⟨hd, decide_eq_true (h3 ▸ h2)⟩, h1, decide_eq_true h3, rfl⟩⟩
  have HWF : Hid (∀ x, x ∈ M → wfP x) := fun x hx => by
    obtain ⟨x1, x2⟩ := x
    obtain ⟨e, he, d, hd, _, _, _, rfl, rfl⟩ := (HMM.out.2 x1 x2).1 hx
    exact ⟨HL.out.1.wf e he, HL.out.1.wf d hd⟩
  go_wp2_with fail
  refine (cpairs_any c mb _ _ L _ wb HLb.out.1.cw.cx).mono ?_
  rintro e wc ⟨vc, rfl, hoc, hbc⟩
  rw [hM] at hoc
  obtain ⟨ac, kc, hvc, hcells⟩ := hoc.shape
  rw [hnp] at hvc hcells
  subst hvc
  have HLc : Hid (Ls wc p c mb q bq n w1.heap.size v L p2 pw bw pt bt mp B W T D N w3 ∧ Below w.heap.size w wc ∧ (0 < np → ∃ g, ac = some ⟨g, 0, none⟩ ∧ ∀ j x, M[j]? = some x → wc.cell? ⟨g, j * 2, none⟩ = some (.int .i64 x.1) ∧ wc.cell? ⟨g, j * 2 + 1, none⟩ = some (.int .i64 x.2))) := ⟨HLb.out.1.below hbc, HLb.out.2.trans (hbc.mono HLb.out.2.size), hcells⟩
  -- what is asked of each two
  have HQ : Hid (∀ W' e d, Below wc.heap.size wc W' → e ∈ L → d ∈ L → e.1 < d.1 → f e ≠ 0 → f e = f d → ∃ k : Nat, k ≠ 0 ∧ k ≤ 64 ∧
      (Calls Tryz.prog 16 #[.pointer (some ⟨c, 0, none⟩), .int .i64 e.1, .int .i64 d.1] W' fun en w' => en = .returned (.tuple #[.bool true, .nilIface]) ∧ Below W'.heap.size W' w') ∧
      (∀ W'', Below wc.heap.size wc W'' → (Calls Tryz.prog 17 #[.pointer (some ⟨c, 0, none⟩), .int .i64 e.1] W'' fun en w' => en = .returned (.tuple #[.int .i64 (k : Int), .nilIface]) ∧ Below W''.heap.size W'' w') ∧
        (Calls Tryz.prog 17 #[.pointer (some ⟨c, 0, none⟩), .int .i64 d.1] W'' fun en w' => en = .returned (.tuple #[.int .i64 (k : Int), .nilIface]) ∧ Below W''.heap.size W'' w') ∧
        (Calls Tryz.prog 18 #[.pointer (some ⟨p, 0, none⟩), .int .i64 e.1] W'' fun en w' => en = .returned (.tuple #[.agg #[.int .i64 e.1, .int .i64 e.2.1, .int .i64 e.2.2], .nilIface]) ∧ Below W''.heap.size W'' w') ∧
        (Calls Tryz.prog 18 #[.pointer (some ⟨p, 0, none⟩), .int .i64 d.1] W'' fun en w' => en = .returned (.tuple #[.agg #[.int .i64 d.1, .int .i64 d.2.1, .int .i64 d.2.2], .nilIface]) ∧ Below W''.heap.size W'' w') ∧
        (Calls Tryz.prog 19 #[.pointer (some ⟨p2, 0, none⟩), .int .i64 e.2.1, .int .i64 d.2.1] W'' fun en w' => en = .returned (.tuple #[.bool true, .nilIface]) ∧ Below W''.heap.size W'' w'))) := fun W' e d hW he hd hlt h0 h1 => by
    have hS : ∀ x, x ∈ (grw n L).2 ++ (grw n L).1 ↔ x ∈ L := fun x => by rw [List.mem_append, HL.out.2.1.mem x]; exact or_comm
    have hol : (grw n L).2.length ≤ 63 := by have h2 := HL.out.2.1.len; have h3 := HL.out.2.2.2.2; omega
    have hfb : ∀ d, f d < 18446744073709551616 := fun d => by rw [← hf]; exact covN_lt n _ _ d hol
    have hpc : pc 64 (f e) ≠ 0 := fun k => h0 (by
      rw [← hf] at k ⊢
      rw [pc_covN n _ _ e hol] at k
      unfold covN
      rw [← bitsN_none (grw n L).2.length]
      refine bitsN_congr (fun i hi => ?_)
      have hz : ∀ j, j ≤ (grw n L).2.length → i < j → cnt (covB n (grw n L).1 (grw n L).2 e) j = 0 → covB n (grw n L).1 (grw n L).2 e i = false := by
        intro j
        induction j with
        | zero => intro _ h; omega
        | succ j ih =>
          intro hj hij hc
          simp only [cnt] at hc
          by_cases hij' : i = j
          · rw [hij']
            cases hb : covB n (grw n L).1 (grw n L).2 e j with
            | false => rfl
            | true => rw [hb] at hc; simp at hc
          · exact ih (by omega) (by omega) (by omega)
      exact hz _ (Nat.le_refl _) hi k)
    have h64 := pc_small (f e)
    have hne : e ≠ d := fun k => by rw [k] at hlt; omega
    have htw : twR L (ea e) (ea d) := by
      rw [← hf] at h0 h1
      exact pair_tw HL.out.2.1 HL.out.1.inn he hd hne h0 h1
    have hLW : ∀ X, Below wc.heap.size wc X → Ls X p c mb q bq n w1.heap.size v L p2 pw bw pt bt mp B W T D N w3 := fun X hX => HLc.out.1.below hX
    have cx := fun X hX => (hLW X hX).cw.cx
    rw [hf] at cx
    refine ⟨pc 64 (f e), hpc, h64, ?_, fun X hX => ⟨?_, ?_, ?_, ?_, ?_⟩⟩
    · have h2 := calike_in c mb _ _ f e d W' (cx W' hW).co ((hS e).2 he) ((hS d).2 hd) (HL.out.1.wf e he) (HL.out.1.wf d hd)
      rw [decide_eq_true h1] at h2
      exact h2
    · exact covered_in c mb _ _ f e X (cx X hX).co ((hS e).2 he) (HL.out.1.wf e he) (hfb e)
    · have h2 := covered_in c mb _ _ f d X (cx X hX).co ((hS d).2 hd) (HL.out.1.wf d hd) (hfb d)
      rw [← h1] at h2
      exact h2
    · exact edge_get (n : Int) _ p v L X (hLW X hX).ga HL.out.2.2.1.up (by have := HL.out.2.2.2.2; omega) he
    · exact edge_get (n : Int) _ p v L X (hLW X hX).ga HL.out.2.2.1.up (by have := HL.out.2.2.2.2; omega) hd
    · have h2 := twice_yes (hLW X hX).run (HL.out.1.inn e he).1 (HL.out.1.inn d hd).1 htw
      rw [(HL.out.1.inn e he).2.2.1, (HL.out.1.inn d hd).2.2.1]
      exact h2
  have HI0 : Hid ((wc.alloc (.map #[] 0)).ownsMap (H := Unit) Tryz.prog 41 (plainElem Tryz.prog 4) wc.heap.size 0 (.map []) ∧ Is (.map []) (fun x => x ∈ M.take 0) ∧ Below wc.heap.size wc (wc.alloc (.map #[] 0))) := ⟨World.ownsMap_made wc _ _ _, Is.start.congr (fun x => by simp), (Below.refl _ _).alloc (Nat.le_refl _) _⟩
  clear hoc hbc hcells HLb hM hnp hf
  go_wp2_with fail
  go_loopw [10] (fun s10 wq => ∃ (i : Nat) (D' : DataW Unit), i ≤ np ∧ s10 = .int .i64 i ∧ wq.ownsMap Tryz.prog 41 (plainElem Tryz.prog 4) wc.heap.size i D' ∧ Is D' (fun x => x ∈ M.take i) ∧ Below wc.heap.size wc wq) (fun s10 _ => np - (intOf s10).toNat)
  case atStart => exact ⟨0, _, Nat.zero_le _, rfl, HI0.out.1, HI0.out.2.1, HI0.out.2.2⟩
  case round =>
    clear HI0
    obtain ⟨i, D', hi, rfl, hmap, his, hbq⟩ := hrel
    have HI : Hid (wr.ownsMap Tryz.prog 41 (plainElem Tryz.prog 4) wc.heap.size i D' ∧ Is D' (fun x => x ∈ M.take i) ∧ Below wc.heap.size wc wr) := ⟨hmap, his, hbq⟩
    clear hmap his hbq
    by_cases hlt : i < np
    · as_aux_lemma =>
      obtain ⟨⟨X, Y⟩, hx⟩ : ∃ x, M[i]? = some x := ⟨_, List.getElem?_eq_getElem (by rw [HMM.out.1]; exact hlt)⟩
      obtain ⟨e, he, d, hd, h1, h2, h3, hX, hY⟩ := (HMM.out.2 X Y).1 (List.mem_of_getElem? hx)
      obtain ⟨g, rfl, hcell⟩ := HLc.out.2.2 (by omega)
      have c1 : wr.cell? ⟨g, i * 2, none⟩ = some (.int .i64 X) := cell_below (hcell i _ hx).1 HI.out.2.2
      have c2 : wr.cell? ⟨g, i * 2 + 1, none⟩ = some (.int .i64 Y) := cell_below (hcell i _ hx).2 HI.out.2.2
      have hbA : Below wr.heap.size wr (wr.alloc (.cells #[.int .i64 X, .int .i64 Y] 41)) := (Below.refl _ _).alloc (Nat.le_refl _) _
      have hbx : (wr.alloc (.cells #[.int .i64 X, .int .i64 Y] 41)).heap[wr.heap.size]? = some (.cells #[.int .i64 X, .int .i64 Y] 41) := heap_alloc_new wr _
      obtain ⟨W1, hW1⟩ : ∃ W1, wr.alloc (.cells #[.int .i64 X, .int .i64 Y] 41) = W1 := ⟨_, rfl⟩
      rw [hW1] at hbA hbx
      have HW1 : Hid (wr.alloc (.cells #[.int .i64 X, .int .i64 Y] 41) = W1) := hW1
      have hBW : Below wc.heap.size wc W1 := HI.out.2.2.trans (hbA.mono HI.out.2.2.size)
      obtain ⟨k, hk0, hk64, q1, q2⟩ := HQ.out W1 e d hBW he hd h1 h2 h3
      have HKP : Hid (∀ W'', Below W1.heap.size W1 W'' → Below wc.heap.size wc W'' ∧ W''.cell? ⟨wr.heap.size, 0, none⟩ = some (.int .i64 X) ∧ W''.cell? ⟨wr.heap.size, 1, none⟩ = some (.int .i64 Y)) := fun W'' hb => by
        have h4 := (hb.block wr.heap.size (lt_of_some hbx)).trans hbx
        exact ⟨hBW.trans (hb.mono hBW.size), by simp [World.cell?, h4], by simp [World.cell?, h4]⟩
      rw [← hX] at q1 q2
      rw [← hY] at q1 q2
      obtain ⟨ea1, hea1⟩ : ∃ z, e.2.1 = z := ⟨_, rfl⟩
      obtain ⟨ea2, hea2⟩ : ∃ z, e.2.2 = z := ⟨_, rfl⟩
      obtain ⟨da1, hda1⟩ : ∃ z, d.2.1 = z := ⟨_, rfl⟩
      obtain ⟨da2, hda2⟩ : ∃ z, d.2.2 = z := ⟨_, rfl⟩
      rw [hea1, hea2, hda1, hda2] at q2
      have HQ1 : Hid _ := q1
      have HQ2 : Hid _ := q2
      have HMP : Hid (W1.ownsMap Tryz.prog 41 (plainElem Tryz.prog 4) wc.heap.size i D') := HI.out.1.kept (grown_below hbA) (by simp)
      have HX : Hid (M[i]? = some (X, Y) ∧ wfP (X, Y)) := ⟨hx, HWF.out _ (List.mem_of_getElem? hx)⟩
      have hkb : ((k : Int) == 0) = false := beq_eq_false_iff_ne.2 (by omega)
      obtain ⟨b1, b2⟩ := (HKP.out W1 (Below.refl _ _)).2
      clear hx he hd h1 h2 h3 hX hY hcell hbA hbx hW1 hBW q1 q2 hea1 hea2 hda1 hda2 hk0
      go_wp2_with fail
      rw [HW1.out]
      refine Calls.mono HQ1.out ?_
      rintro e' w7 ⟨rfl, hb7⟩
      have HB7 : Hid (Below W1.heap.size W1 w7) := hb7
      clear hb7 c1 c2 b1 b2
      obtain ⟨hc7, b1, b2⟩ := HKP.out w7 HB7.out
      have HD7 : Hid _ := (HQ2.out w7 hc7).1
      clear hc7
      go_wp2_with fail
      refine Calls.mono HD7.out ?_
      rintro e' w8 ⟨rfl, hb8⟩
      have HB8 : Hid (Below W1.heap.size W1 w8) := HB7.out.trans (hb8.mono HB7.out.size)
      clear hb8 HB7 HD7 b1 b2
      obtain ⟨hc8, b1, b2⟩ := HKP.out w8 HB8.out
      have HD8 : Hid _ := (HQ2.out w8 hc8).2.1
      clear hc8
      go_wp2_with fail
      refine Calls.mono HD8.out ?_
      rintro e' w9' ⟨rfl, hb9⟩
      have HB9 : Hid (Below W1.heap.size W1 w9') := HB8.out.trans (hb9.mono HB8.out.size)
      clear hb9 HB8 HD8 b1 b2
      obtain ⟨hc9, b1, b2⟩ := HKP.out w9' HB9.out
      have HD9 : Hid _ := (HQ2.out w9' hc9).2.2.1
      clear hc9
      go_wp2_with fail
      refine Calls.mono HD9.out ?_
      rintro e' wa' ⟨rfl, hba⟩
      have hBa : Below W1.heap.size W1 wa' := HB9.out.trans (hba.mono HB9.out.size)
      have HBa : Hid (Below W1.heap.size W1 (wa'.alloc (.cells #[.int .i64 X, .int .i64 ea1, .int .i64 ea2] 49))) := hBa.alloc hBa.size _
      have hxa : (wa'.alloc (.cells #[.int .i64 X, .int .i64 ea1, .int .i64 ea2] 49)).heap[wa'.heap.size]? = some (.cells #[.int .i64 X, .int .i64 ea1, .int .i64 ea2] 49) := heap_alloc_new wa' _
      obtain ⟨Wa, hWa⟩ : ∃ Wa, wa'.alloc (.cells #[.int .i64 X, .int .i64 ea1, .int .i64 ea2] 49) = Wa := ⟨_, rfl⟩
      rw [hWa] at HBa hxa
      have HWa : Hid (wa'.alloc (.cells #[.int .i64 X, .int .i64 ea1, .int .i64 ea2] 49) = Wa) := hWa
      have HXA : Hid (Wa.heap[wa'.heap.size]? = some (.cells #[.int .i64 X, .int .i64 ea1, .int .i64 ea2] 49)) := hxa
      have bz : (wa'.alloc (.cells #[.int .i64 X, .int .i64 ea1, .int .i64 ea2] 49)).cell? ⟨wr.heap.size, 1, none⟩ = some (.int .i64 Y) := by rw [hWa]; exact (HKP.out Wa HBa.out).2.2
      clear hba hBa hxa hWa HB9 HD9 b1 b2
      have HDa : Hid _ := (HQ2.out Wa (HKP.out Wa HBa.out).1).2.2.2.1
      go_wp2_with fail
      rw [HWa.out]
      refine Calls.mono HDa.out ?_
      rintro e' wb' ⟨rfl, hbb⟩
      have hBb : Below W1.heap.size W1 wb' := HBa.out.trans (hbb.mono HBa.out.size)
      have hxa2 := (hbb.block _ (lt_of_some HXA.out)).trans HXA.out
      have hbB : Below wb'.heap.size wb' (wb'.alloc (.cells #[.int .i64 Y, .int .i64 da1, .int .i64 da2] 49)) := (Below.refl _ _).alloc (Nat.le_refl _) _
      obtain ⟨Wb, hWb⟩ : ∃ Wb, wb'.alloc (.cells #[.int .i64 Y, .int .i64 da1, .int .i64 da2] 49) = Wb := ⟨_, rfl⟩
      have hxb : Wb.heap[wb'.heap.size]? = some (.cells #[.int .i64 Y, .int .i64 da1, .int .i64 da2] 49) := by rw [← hWb]; exact heap_alloc_new wb' _
      have z1 : (wb'.alloc (.cells #[.int .i64 Y, .int .i64 da1, .int .i64 da2] 49)).cell? ⟨wa'.heap.size, 1, none⟩ = some (.int .i64 ea1) := by
        have := (hbB.block _ (lt_of_some hxa2)).trans hxa2
        simp [World.cell?, this]
      have z2 : (wb'.alloc (.cells #[.int .i64 Y, .int .i64 da1, .int .i64 da2] 49)).cell? ⟨wb'.heap.size, 1, none⟩ = some (.int .i64 da1) := by simp
      rw [hWb] at hbB
      have HBB : Hid (Below W1.heap.size W1 Wb) := hBb.trans (hbB.mono hBb.size)
      have HWb : Hid (wb'.alloc (.cells #[.int .i64 Y, .int .i64 da1, .int .i64 da2] 49) = Wb) := hWb
      have HDb : Hid _ := (HQ2.out Wb (HKP.out Wb HBB.out).1).2.2.2.2
      clear hbb hBb hxa2 hbB hWb hxb HBa HXA HDa bz
      go_wp2_with fail
      rw [HWb.out]
      refine Calls.mono HDb.out ?_
      rintro e' wd ⟨rfl, hbd⟩
      have hBd : Below W1.heap.size W1 wd := HBB.out.trans (hbd.mono HBB.out.size)
      obtain ⟨hcd, b1, b2⟩ := HKP.out wd hBd
      have hmd : wd.ownsMap Tryz.prog 41 (plainElem Tryz.prog 4) wc.heap.size i D' := HMP.out.kept (grown_below hBd) (by simp)
      obtain ⟨we, hup, hme, hge⟩ := hmd.update law31 Tryz.underlying39 (by unfold maxLen; omega) (pkI_key HX.out.2) (plainElem_bool Tryz.underlying4 true)
      have hup' : (Instr.mapUpdate 39 (.map (some wc.heap.size)) (.agg #[.int .i64 X, .int .i64 Y]) (.bool true)).run Tryz.prog wd = .ok () we := hup
      have HF : Hid (we.ownsMap Tryz.prog 41 (plainElem Tryz.prog 4) wc.heap.size (i + 1) (D'.put (pkI (X, Y)) (.lit (.bool true))) ∧ Is (D'.put (pkI (X, Y)) (.lit (.bool true))) (fun x => x ∈ M.take (i + 1)) ∧ Below wc.heap.size wc we) := by
        refine ⟨hme, (HI.out.2.1.put (fun x hx => HWF.out x (List.mem_of_mem_take hx)) (X, Y) HX.out.2).congr (fun x => ?_), hcd.grown hge hcd.size (fun j hj => by injection hj with hj; omega)⟩
        obtain ⟨hl, hx⟩ := List.getElem?_eq_some_iff.1 HX.out.1
        rw [List.take_succ_eq_append_getElem hl, hx, List.mem_append, List.mem_singleton]
      clear hbd hBd hcd hmd hup hme hge HBB HDb z1 z2
      go_wp2_with fail
      go_roundw
      case rel => exact ⟨i + 1, _, by omega, by go_num, HF.out.1, HF.out.2.1, HF.out.2.2⟩
      case measure => simp [intOf]; omega
    · have hie : i = np := by omega
      have HIS : Hid (Is D' (fun x => x ∈ M)) := HI.out.2.1.congr (fun x => by rw [hie, ← HMM.out.1, List.take_length])
      have HCL : Hid (∀ x1 x2 y2, (x1, x2) ∈ M → (x1, y2) ∈ M → x2 < y2 → (x2, y2) ∈ M) := fun x1 x2 y2 h1 h2 h3 => by
        obtain ⟨e, he, d, hd, k1, k2, k3, rfl, rfl⟩ := (HMM.out.2 x1 x2).1 h1
        obtain ⟨e', he', d', hd', l1, l2, l3, l4, rfl⟩ := (HMM.out.2 _ y2).1 h2
        have hee := HL.out.1.one e he e' he' l4
        subst hee
        exact (HMM.out.2 _ _).2 ⟨d, hd, d', hd', h3, k3 ▸ k2, k3.symm.trans l3, rfl, rfl⟩
      have hm0 := HI.out.1
      have hsi := HI.out.2.2.size
      rename World => wi
      clear hie
      go_wp2_with (first
        | (at_range; refine wpList_range_own _ rfl _ 39 rfl 41 4 law31 Tryz.underlying39 (plainElem Tryz.prog 4) wc.heap.size i D' rfl hm0 ?_; intro v0 hrg0 hg0 hs0)
        | fail)
      go_frame
      have HRG0 : Hid (v0.ranges Tryz.prog 41 (plainElem Tryz.prog 4) wc.heap.size wi.heap.size i D' (Maps.has D') (Maps.size D')) := hrg0
      have HB0 : Hid (Below wc.heap.size wc v0) := HI.out.2.2.grown hg0 HI.out.2.2.size (fun j hj => by cases hj)
      clear hrg0 hg0 hs0 hm0 HI
      go_loopw [24] (fun _ wq => ∃ (left : Lit → Bool) (cnt : Nat), wq.ranges Tryz.prog 41 (plainElem Tryz.prog 4) wc.heap.size wi.heap.size i D' left cnt ∧ Below wc.heap.size wc wq) (fun _ wq => wq.rangeLeft wc.heap.size wi.heap.size)
      case atStart => exact ⟨_, _, HRG0.out, HB0.out⟩
      case round =>
        clear HRG0 HB0
        obtain ⟨left, cnt, hrg, hbq⟩ := hrel
        have HRG : Hid (wr.ranges Tryz.prog 41 (plainElem Tryz.prog 4) wc.heap.size wi.heap.size i D' left cnt) := hrg
        have HBQ : Hid (Below wc.heap.size wc wr) := hbq
        clear hrg hbq
        go_wp2_with (first
          | (at_next; refine wpList_next_pairs _ rfl _ rfl (fun x => x ∈ M) wc.heap.size wi.heap.size i D' HIS.out HWF.out left cnt rfl HRG.out ?_ ?_)
          | fail)
        · intro _ _
          clear HRG HIS HCL HQ HMM HWF
          obtain ⟨hcx, hcy, hc63⟩ := (HLc.out.1.below HBQ.out).cw.hc
          have HLr : Hid (Ls wr p c mb q bq n w1.heap.size v L p2 pw bw pt bt mp B W T D N w3 ∧ Below w.heap.size w wr) := ⟨HLc.out.1.below HBQ.out, HLc.out.2.1.trans (HBQ.out.mono HLc.out.2.1.size)⟩
          obtain ⟨L3, hL3⟩ : ∃ L3, lab3 n L ((grw n L).2 ++ (grw n L).1) (covN n (grw n L).1 (grw n L).2) = L3 := ⟨_, rfl⟩
          have hgd3 : Good n L3 := by rw [← hL3]; exact lab3_good _ _ _
          have HTH : Hid (Calls Tryz.prog 20 #[.pointer (some ⟨c, 0, none⟩)] wr fun e w' => ∃ v, e = .returned v ∧ AllAt w' v (grps L3 n) ∧ Below wr.heap.size wr w') := by
            have hs := HLr.out.1.cw.sets
            rw [hL3] at hs
            exact cthrice_any c q bq n hcx hcy L3 wr hc63 hs hgd3 (by omega)
          have HTW : Hid (∀ x y, x < n → y < n → L3.getD x 0 = L3.getD y 0 → twR L x y) := fun x y hx hy h => by
            rw [← hL3] at h
            exact thrice_tw HL.out.2.1 HL.out.1.inn hx hy h
          have HGD : Hid (Good n L3) := hgd3
          clear hc63 hL3 hgd3 HBQ HLc
          go_wp2_with fail
          refine Calls.mono HTH.out ?_
          rintro e' wt ⟨vt, rfl, ⟨gt, kt, rfl, hrows⟩, hbt⟩
          obtain ⟨Gs, hGs⟩ : ∃ Gs, grps L3 n = Gs := ⟨_, rfl⟩
          obtain ⟨ng, hng⟩ : ∃ ng, Gs.length = ng := ⟨_, rfl⟩
          rw [hGs] at hrows ⊢
          rw [hng] at hrows ⊢
          have hng14 : ng ≤ 14 := by rw [← hng, ← hGs]; exact Nat.le_trans (grps_le L3 n) hn14
          have HGS : Hid (∀ x, x < ng → ∃ z, Gs.getD x [] = grp L3 n z) := fun x hx => by
            obtain ⟨z, _, _, h3⟩ := grps_at HGD.out x (by rw [hGs, hng]; exact hx)
            rw [hGs] at h3
            exact ⟨z, h3⟩
          have HRW : Hid (∀ x, x < ng → ∃ r k, wt.cell? ⟨gt, x, none⟩ = some (.slice (some ⟨r, 0, none⟩) (Gs.getD x []).length k) ∧ ∀ j, j < (Gs.getD x []).length → wt.cell? ⟨r, j, none⟩ = some (.int .i64 (((Gs.getD x []).getD j 0 : Nat) : Int))) := hrows
          have HLt : Hid (Ls wt p c mb q bq n w1.heap.size v L p2 pw bw pt bt mp B W T D N w3 ∧ Below w.heap.size w wt) := ⟨HLr.out.1.below hbt, HLr.out.2.trans (hbt.mono HLr.out.2.size)⟩
          clear hrows hbt hGs hng HTH HLr
          go_wp2_with fail
          go_loopw [27] (fun s27 wq => ∃ x : Nat, x ≤ ng ∧ s27 = .int .i64 x ∧ Below wt.heap.size wt wq) (fun s27 _ => ng - (intOf s27).toNat)
          case atStart => exact ⟨0, Nat.zero_le _, rfl, Below.refl _ _⟩
          case round =>
            obtain ⟨x, hx, rfl, hbq⟩ := hrel
            have HBX : Hid (Below wt.heap.size wt wr) := hbq
            clear hbq
            by_cases hxl : x < ng
            · obtain ⟨z, hz⟩ := HGS.out x hxl
              obtain ⟨r, kr, hr, hrc⟩ := HRW.out x hxl
              rw [hz] at hr hrc
              obtain ⟨Rw, hRw⟩ : ∃ Rw, grp L3 n z = Rw := ⟨_, rfl⟩
              have HMG : Hid (∀ j, j < Rw.length → Rw.getD j 0 < n ∧ L3.getD (Rw.getD j 0) 0 = z) := fun j hj => by
                have : Rw.getD j 0 ∈ grp L3 n z := by
                  rw [hRw, List.getD_eq_getElem?_getD, List.getElem?_eq_getElem hj]
                  simp
                exact mem_grp.1 this
              rw [hRw] at hr hrc
              have hrl : Rw.length ≤ 40 := by
                rw [← hRw, grp_length]
                have := cnt_le (fun i => L3.getD i 0 == z) n
                omega
              obtain ⟨rl, hrl'⟩ : ∃ rl, Rw.length = rl := ⟨_, rfl⟩
              rw [hrl'] at hr hrc hrl HMG
              have HCE : Hid (∀ W', Below wt.heap.size wt W' → W'.cell? ⟨gt, x, none⟩ = some (.slice (some ⟨r, 0, none⟩) rl kr) ∧ ∀ j, j < rl → W'.cell? ⟨r, j, none⟩ = some (.int .i64 ((Rw.getD j 0 : Nat) : Int))) := fun W' hW' => ⟨cell_below hr hW', fun j hj => cell_below (hrc j hj) hW'⟩
              clear hz hr hrc hRw hrl'
              go_wp2_with fail
              go_loopw [28] (fun s28 wq => ∃ k : Nat, k ≤ rl ∧ s28 = .int .i64 k ∧ Below wt.heap.size wt wq) (fun s28 _ => rl - (intOf s28).toNat)
              case atStart => exact ⟨0, Nat.zero_le _, rfl, HBX.out⟩
              case round =>
                clear HBX
                obtain ⟨k, hk, rfl, hbq⟩ := hrel
                have HBY : Hid (Below wt.heap.size wt wr) := hbq
                clear hbq
                obtain ⟨c0, cj⟩ := HCE.out wr HBY.out
                by_cases hkl : k < rl
                · as_aux_lemma =>
                  have c1 := cj 0 (by omega)
                  have c2 := cj k hkl
                  obtain ⟨A, hA⟩ : ∃ A, Rw.getD 0 0 = A := ⟨_, rfl⟩
                  obtain ⟨Bk, hBk⟩ : ∃ Bk, Rw.getD k 0 = Bk := ⟨_, rfl⟩
                  have hAn := HMG.out 0 (by omega)
                  have hBn := HMG.out k hkl
                  rw [hA] at c1 hAn
                  rw [hBk] at c2 hBn
                  have hS0 : (wr.drew.cell? ⟨gt, x, none⟩ = some (.slice (some ⟨r, 0, none⟩) rl kr) ∧ wr.drew.cell? ⟨r, 0, none⟩ = some (.int .i64 (A : Int)) ∧ wr.drew.cell? ⟨r, k, none⟩ = some (.int .i64 (Bk : Int))) := ⟨c0, c1, c2⟩
                  have HCT : Hid (Calls Tryz.prog 19 #[.pointer (some ⟨p2, 0, none⟩), .int .i64 (A : Int), .int .i64 (Bk : Int)] wr.drew fun e w' => e = .returned (.tuple #[.bool true, .nilIface]) ∧ (w'.cell? ⟨gt, x, none⟩ = some (.slice (some ⟨r, 0, none⟩) rl kr) ∧ w'.cell? ⟨r, 0, none⟩ = some (.int .i64 (A : Int)) ∧ w'.cell? ⟨r, k, none⟩ = some (.int .i64 (Bk : Int))) ∧ Below wt.heap.size wt w') := by
                    have hbd : Below wt.heap.size wt wr.drew := HBY.out.drew
                    refine (twice_yes (HLt.out.1.below hbd).run hAn.1 hBn.1 (HTW.out A Bk hAn.1 hBn.1 (hAn.2.trans hBn.2.symm))).mono ?_
                    rintro e' w' ⟨rfl, hb'⟩
                    exact ⟨rfl, ⟨cell_below hS0.1 hb', cell_below hS0.2.1 hb', cell_below hS0.2.2 hb'⟩, hbd.trans (hb'.mono hbd.size)⟩
                  have hrl0 : (0 : Int) < (rl : Int) := by omega
                  clear hA hBk hAn hBn cj
                  go_upto_region 43 with fail
                  go_cut [29, 30] from 223 to 240 (fun s29 s30 wx => s29 = .bool true ∧ s30 = .nilIface ∧ Below wt.heap.size wt wx)
                  case first =>
                    go_region_held (fun w' => (w'.cell? ⟨gt, x, none⟩ = some (.slice (some ⟨r, 0, none⟩) rl kr) ∧ w'.cell? ⟨r, 0, none⟩ = some (.int .i64 (A : Int)) ∧ w'.cell? ⟨r, k, none⟩ = some (.int .i64 (Bk : Int)))) (with_reducible assumption)
                      (first | (go_at_call 19; refine Calls.mono HCT.out ?_; rintro e' w7' ⟨rfl, hS7, hb7'⟩; have hb7 : Hid (Below wt.heap.size wt w7') := hb7'; clear hb7'))
                    all_goals
                      go_wp2_with fail
                      go_meet
                      case rel => exact ⟨rfl, rfl, hb7.out⟩
                  case rest =>
                    obtain ⟨rfl, rfl, hbc2⟩ := hcut
                    have HBZ : Hid _ := hbc2
                    clear hbc2 hS0 HCT c0 c1 c2
                    go_wp2_with fail
                    go_roundw
                    case rel => exact ⟨k + 1, by omega, by go_num, HBZ.out⟩
                    case measure => simp [intOf]; omega
                · as_aux_lemma =>
                  clear cj
                  go_wp2_with fail
                  go_roundw
                  case rel => exact ⟨x + 1, by omega, by go_num, HBY.out⟩
                  case measure => simp [intOf]; omega
            · as_aux_lemma =>
              go_wp2_with fail
              go_ret
              exact ⟨rfl, HLt.out.2.trans (HBX.out.mono HLt.out.2.size)⟩
        · as_aux_lemma =>
          intro x1 x2 c1 v1 cnt1 hx hrg1 hlt1 hg1 hs1 hen
          have hwi : wi.heap.size < v1.heap.size := hrg1.lt
          have HX : Hid ((x1, x2) ∈ M) := hx
          have HR1 : Hid (v1.ranges Tryz.prog 41 (plainElem Tryz.prog 4) wc.heap.size wi.heap.size i D' (fun z => left z && !z.sameKey (pkI (x1, x2))) cnt1 ∧ cnt1 < cnt) := ⟨hrg1, hlt1⟩
          have HB1 : Hid (Below wc.heap.size wc v1) := HBQ.out.grown hg1 HBQ.out.size (fun j hj => by injection hj with hj; omega)
          have hm1 : (v1.alloc (.cells #[.int .i64 x1, .int .i64 x2] 41)).ownsMap (H := Unit) Tryz.prog 41 (plainElem Tryz.prog 4) wc.heap.size i D' := hrg1.owns.alloc _
          clear hx hrg1 hlt1 hg1 hs1
          go_wp2_with (first
            | (at_range; refine wpList_range_own _ rfl _ 39 rfl 41 4 law31 Tryz.underlying39 (plainElem Tryz.prog 4) wc.heap.size i D' rfl hm1 ?_; intro v2 hrg2 hg2 hs2)
            | fail)
          go_frame
          rw [World.size_alloc] at hrg2 hs2
          rw [World.size_alloc]
          have hgA : v1.grownBy (v1.alloc (.cells #[.int .i64 x1, .int .i64 x2] 41)) none := grown_below ((Below.refl _ _).alloc (Nat.le_refl _) _)
          have hbx : v2.heap[v1.heap.size]? = some (.cells #[.int .i64 x1, .int .i64 x2] 41) := (hg2.block _ (by simp) (by simp)).trans (heap_alloc_new v1 _)
          have HS0 : Hid (v2.ranges Tryz.prog 41 (plainElem Tryz.prog 4) wc.heap.size (v1.heap.size + 1) i D' (Maps.has D') (Maps.size D') ∧ v2.ranges Tryz.prog 41 (plainElem Tryz.prog 4) wc.heap.size wi.heap.size i D' (fun z => left z && !z.sameKey (pkI (x1, x2))) cnt1 ∧ v2.heap[v1.heap.size]? = some (.cells #[.int .i64 x1, .int .i64 x2] 41) ∧ Below wc.heap.size wc v2) := by
            refine ⟨hrg2, (HR1.out.1.kept hgA (by simp) (by simp)).kept hg2 (by simp) (by simp), hbx, (HB1.out.grown hgA HB1.out.size (fun j hj => by cases hj)).grown hg2 (by have := HB1.out.size; simp; omega) (fun j hj => by cases hj)⟩
          clear hrg2 hg2 hs2 hm1 hgA hbx hen
          go_loopw [25] (fun _ wq => ∃ (left2 : Lit → Bool) (cnt2 : Nat), wq.ranges Tryz.prog 41 (plainElem Tryz.prog 4) wc.heap.size (v1.heap.size + 1) i D' left2 cnt2 ∧ wq.ranges Tryz.prog 41 (plainElem Tryz.prog 4) wc.heap.size wi.heap.size i D' (fun z => left z && !z.sameKey (pkI (x1, x2))) cnt1 ∧ wq.heap[v1.heap.size]? = some (.cells #[.int .i64 x1, .int .i64 x2] 41) ∧ Below wc.heap.size wc wq) (fun _ wq => wq.rangeLeft wc.heap.size (v1.heap.size + 1))
          case atStart => exact ⟨_, _, HS0.out.1, HS0.out.2.1, HS0.out.2.2.1, HS0.out.2.2.2⟩
          case round =>
            clear HS0
            obtain ⟨left2, cnt2, hri, hro, hbx, hbq⟩ := hrel
            have HRI : Hid (wr.ranges Tryz.prog 41 (plainElem Tryz.prog 4) wc.heap.size (v1.heap.size + 1) i D' left2 cnt2) := hri
            have HRO : Hid (wr.ranges Tryz.prog 41 (plainElem Tryz.prog 4) wc.heap.size wi.heap.size i D' (fun z => left z && !z.sameKey (pkI (x1, x2))) cnt1 ∧ wr.heap[v1.heap.size]? = some (.cells #[.int .i64 x1, .int .i64 x2] 41) ∧ Below wc.heap.size wc wr) := ⟨hro, hbx, hbq⟩
            clear hri hro hbx hbq
            go_wp2_with (first
              | (at_next; refine wpList_next_pairs _ rfl _ rfl (fun x => x ∈ M) wc.heap.size (v1.heap.size + 1) i D' HIS.out HWF.out left2 cnt2 rfl HRI.out ?_ ?_)
              | fail)
            · as_aux_lemma =>
              intro _ _
              go_wp2_with fail
              go_roundw
              case rel => exact ⟨_, _, HRO.out.1, HRO.out.2.2⟩
              case measure => rw [HRO.out.1.left_eq, HRG.out.left_eq]; exact HR1.out.2
            · intro y1 y2 c2 v3 cnt3 hy hrg3 hlt3 hg3 hs3 hen3
              have hwv : v1.heap.size + 1 < v3.heap.size := hrg3.lt
              have hsz3 : wc.heap.size ≤ v1.heap.size := HB1.out.size
              have hbx3 : v3.heap[v1.heap.size]? = some (.cells #[.int .i64 x1, .int .i64 x2] 41) := (hg3.block _ (by omega) (fun e => by injection e with e; omega)).trans HRO.out.2.1
              have hb3 : Below wc.heap.size wc v3 := HRO.out.2.2.grown hg3 HRO.out.2.2.size (fun j hj => by injection hj with hj; omega)
              have hro3 := HRO.out.1.kept hg3 (fun e => by injection e with e; omega) (fun e => by injection e with e; omega)
              have hgA : v3.grownBy (v3.alloc (.cells #[.int .i64 y1, .int .i64 y2] 41)) none := grown_below ((Below.refl _ _).alloc (Nat.le_refl _) _)
              obtain ⟨W3, hW3⟩ : ∃ W3, v3.alloc (.cells #[.int .i64 y1, .int .i64 y2] 41) = W3 := ⟨_, rfl⟩
              have hbY : W3.heap[v3.heap.size]? = some (.cells #[.int .i64 y1, .int .i64 y2] 41) := by rw [← hW3]; exact heap_alloc_new v3 _
              rw [hW3] at hgA
              have hbX : W3.heap[v1.heap.size]? = some (.cells #[.int .i64 x1, .int .i64 x2] 41) := (hgA.block _ (by omega) (by simp)).trans hbx3
              have HF : Hid (W3.ranges Tryz.prog 41 (plainElem Tryz.prog 4) wc.heap.size (v1.heap.size + 1) i D' (fun z => left2 z && !z.sameKey (pkI (y1, y2))) cnt3 ∧ W3.ranges Tryz.prog 41 (plainElem Tryz.prog 4) wc.heap.size wi.heap.size i D' (fun z => left z && !z.sameKey (pkI (x1, x2))) cnt1 ∧ W3.heap[v1.heap.size]? = some (.cells #[.int .i64 x1, .int .i64 x2] 41) ∧ Below wc.heap.size wc W3) := ⟨hrg3.kept hgA (by simp) (by simp), hro3.kept hgA (by simp) (by simp), hbX, hb3.grown hgA hb3.size (fun j hj => by cases hj)⟩
              have HMS : Hid (W3.rangeLeft wc.heap.size (v1.heap.size + 1) < wr.rangeLeft wc.heap.size (v1.heap.size + 1)) := by
                show _ < _
                rw [HF.out.1.left_eq, HRI.out.left_eq]; exact hlt3
              have p1 : W3.cell? ⟨v1.heap.size, 0, none⟩ = some (.int .i64 x1) := by simp [World.cell?, hbX]
              have p2' : W3.cell? ⟨v1.heap.size, 1, none⟩ = some (.int .i64 x2) := by simp [World.cell?, hbX]
              have p3 : W3.cell? ⟨v3.heap.size, 0, none⟩ = some (.int .i64 y1) := by simp [World.cell?, hbY]
              have p4 : W3.cell? ⟨v3.heap.size, 1, none⟩ = some (.int .i64 y2) := by simp [World.cell?, hbY]
              have HW3 : Hid (v3.alloc (.cells #[.int .i64 y1, .int .i64 y2] 41) = W3) := hW3
              have HLK : Hid (x1 = y1 → x2 < y2 → (Instr.lookup 39 (.map (some wc.heap.size)) (.agg #[.int .i64 x2, .int .i64 y2]) false).run Tryz.prog W3 = .ok (.bool true) W3) := fun h1 h2 => by
                subst h1
                have hin := HCL.out x1 x2 y2 HX.out hy h2
                exact is_look HF.out.1.owns HIS.out hin (HWF.out _ hin)
              clear hy hrg3 hlt3 hg3 hs3 hbx3 hb3 hro3 hgA hW3 hbY hbX HRI HRO
              by_cases h1 : x1 = y1
              · have h1' : (x1 == y1) = true := by rw [h1]; simp
                by_cases h2 : x2 < y2
                · as_aux_lemma =>
                  have lk := HLK.out h1 h2
                  subst h1
                  clear h1'
                  go_upto_region 34 with fail
                  rw [HW3.out]
                  clear hen3
                  go_wp2_with fail
                  go_roundw
                  case rel => exact ⟨_, _, HF.out.1, HF.out.2.1, HF.out.2.2.1, HF.out.2.2.2⟩
                  case measure => exact HMS.out
                · as_aux_lemma =>
                  subst h1
                  clear h1'
                  go_upto_region 34 with fail
                  rw [HW3.out]
                  clear hen3
                  go_wp2_with fail
                  go_roundw
                  case rel => exact ⟨_, _, HF.out.1, HF.out.2.1, HF.out.2.2.1, HF.out.2.2.2⟩
                  case measure => exact HMS.out
              · as_aux_lemma =>
                have h1' : (x1 == y1) = false := beq_eq_false_iff_ne.2 h1
                go_upto_region 34 with fail
                rw [HW3.out]
                clear hen3
                go_wp2_with fail
                go_roundw
                case rel => exact ⟨_, _, HF.out.1, HF.out.2.1, HF.out.2.2.1, HF.out.2.2.2⟩
                case measure => exact HMS.out

end Go.Proofs.YtigodbamphejmaaGreat.S
