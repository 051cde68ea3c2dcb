/- FlowCounts: the walk. -/
import Derived.Test.YtpkdpddillebfaaDoorDrS
namespace Go.Proofs.YtpkdpddillebfaaDoor.S
open Go Go.ChangeMaps Go.MapKept Go.WideShapes
open Go.RowKit Go.WideMaps Go.Maps F

/-- The numbers of some ways. -/
def wIds (PS : List (List Stp)) : List Int := PS.flatten.map (·.1)

theorem add0 (b n : Nat) : (⟨b, 0, none⟩ : Addr).add n = ⟨b, n, none⟩ := by
  unfold Addr.add
  split
  · next h => rw [h]
  · simp

/-- What is known behind some ways. -/
structure FI (w9 wq : World) (ub : Nat) (U : List Int) : Prop where
  us : ∃ C, Us wq ub U.length C U
  bel : Below w9.heap.size w9 wq

theorem FI.below {w9 w w' : World} {ub : Nat} {U : List Int} (h : FI w9 w ub U) (hb : Below w.heap.size w w') : FI w9 w' ub U := by
  obtain ⟨C, hc⟩ := h.us
  exact ⟨⟨C, hc.below hb⟩, h.bel.trans (hb.mono h.bel.size)⟩

theorem fresh_id {D : List Stp} {a b : Int} {PS : List (List Stp)} (h : WaF D a b PS) {i t : Nat} {P : List Stp} {s : Stp} (hP : PS[i]? = some P) (hs : P[t]? = some s) : s.1 ∉ wIds (PS.take i) ++ (P.take t).map (·.1) := by
  have h1 := h.one
  rw [← List.take_append_drop (i + 1) PS, take_snoc hP, List.flatten_append, List.flatten_append, List.map_append, List.map_append, List.nodup_append] at h1
  have h2 := h1.1
  have h3 : ([P] : List (List Stp)).flatten = P := by simp
  have h4 : P = (P.take t ++ [s]) ++ P.drop (t + 1) := by rw [← take_snoc hs, List.take_append_drop]
  rw [h3] at h2
  have h5 : (P.map (·.1) : List Int) = ((P.take t).map (·.1) ++ [s.1]) ++ (P.drop (t + 1)).map (·.1) := by
    conv => lhs; rw [h4]
    rw [List.map_append, List.map_append]
    rfl
  rw [h5, ← List.append_assoc, ← List.append_assoc, List.nodup_append] at h2
  have h6 := h2.1
  rw [List.nodup_append] at h6
  exact fun k => h6.2.2 _ k _ (by simp) rfl

theorem wIds_next {PS : List (List Stp)} {i : Nat} {P : List Stp} (hP : PS[i]? = some P) : wIds (PS.take (i + 1)) = wIds (PS.take i) ++ P.map (·.1) := by
  unfold wIds
  rw [take_snoc hP, List.flatten_append, List.map_append]
  simp

theorem wIds_len {n : Nat} {L : List Stp} (he : Ed n 70 L) {a b : Int} {PS : List (List Stp)} (h : WaF (lD (edS L)) a b PS) {i t : Nat} {P : List Stp} (hP : PS[i]? = some P) : (wIds (PS.take i) ++ (P.take t).map (·.1)).length ≤ 70 := by
  have h1 := ids_len he h
  rw [← List.take_append_drop (i + 1) PS, take_snoc hP, List.flatten_append, List.flatten_append, List.map_append, List.map_append] at h1
  unfold wIds
  have h3 : ([P] : List (List Stp)).flatten = P := by simp
  rw [h3] at h1
  simp only [List.length_append, List.length_map, List.length_take] at h1 ⊢
  omega

set_option maxHeartbeats 8000000 in
set_option maxRecDepth 100000 in
theorem fc_ok (n : Nat) (ad : Option Addr) (m cap a b most : Nat) (w : World) (hn : n ≤ 16) (hm : m ≤ 60) (hgl : G.Gl w) (hmade : Calls Tryd.prog 31 #[.int .i64 (n : Int), .slice ad m cap] w (LMade w n m)) (ha : a < n) (hb : b < n) (hab : a ≠ b) (hmost : most ≤ 120) :
    Calls Tryd.prog 5 #[.int .i64 (n : Int), .slice ad m cap, .int .i64 (a : Int), .int .i64 (b : Int), .int .i64 (most : Int)] w fun e w' => e = .returned (.bool true) ∧ Below w.heap.size w w' := by
  have HM : Hid _ := hmade
  have HGL : Hid (∀ {W : World}, Below w.heap.size w W → G.Gl W) := fun hb => (hb.cell (p := ⟨0, 0, none⟩) (lt_of_cell hgl)).trans hgl
  clear hmade hgl
  go_enter Tryd.func5, Tryd.ntmps5
  go_wp2_with fail
  refine Calls.mono HM.out ?_
  rintro e w1 ⟨p, q, v, u, R, L, rfl, hmk⟩
  have HK : Hid (Mk w w1 p q n m v u R L ∧ Ed n 70 L ∧ InR2 n R ∧ R.length ≤ 60) := by
    have he := hmk.ed hm
    refine ⟨hmk, he, fun e hr => ?_, ?_⟩
    · obtain ⟨x, y, h1, h2, h3⟩ := he.ends e (hmk.inv.perm.mem_iff.1 hr)
      exact ⟨x, y, by omega, h2, h1, by rw [h3], by rw [h3]⟩
    · rw [hmk.inv.perm.length_eq]; have := hmk.len; omega
  clear hmk HM
  go_wp2_with fail
  refine (byE_any n _ q a b most u R w1 HK.out.1.two.ra (by omega) HK.out.2.2.1 HK.out.2.2.2 ha hb hab hmost).mono ?_
  rintro e w2 ⟨k1, rfl, hv1, hb2⟩
  have HV1 : Hid (Val (fun S => ((R.filter (crs S)).length : Int)) a b most k1) := hv1
  have HB2 : Hid (Below w1.heap.size w1 w2) := hb2
  clear hv1 hb2
  go_wp2_with fail
  refine (byN_any n _ q a b most u R w2 (HK.out.1.two.ra.below HB2.out) (by omega) HK.out.2.2.1 HK.out.2.2.2 ha hb hab hmost).mono ?_
  rintro e w3 ⟨k2, PR, rfl, hpr, hv2, hb3⟩
  have HV2 : Hid (PrOf a b R R.length PR ∧ Val (docC n a b PR) a ((n + b : Nat) : Int) most k2) := ⟨hpr, hv2⟩
  have HB3 : Hid (Below w1.heap.size w1 w3) := HB2.out.trans (hb3.mono HB2.out.size)
  clear hpr hv2 hb3
  obtain ⟨yd, hyd⟩ : ∃ yd, min (most : Int) (((R.filter (dirB a b)).length : Int) + (k2 : Int)) = yd := ⟨_, rfl⟩
  rw [hyd]
  have HYD : Hid (min (most : Int) (((R.filter (dirB a b)).length : Int) + (k2 : Int)) = yd) := hyd
  clear hyd
  go_wp2_with fail
  refine (flowEdges_any n _ p a b most v L w3 (HK.out.1.two.ga.below HB3.out) hn HK.out.2.1 ha hb hab hmost).mono ?_
  rintro e w4 ⟨k4, rfl, hv4, hb4⟩
  have hk4 : (k4 : Int) = (k1 : Int) := (edges_one HK.out.1.inv.perm HK.out.2.1 HV1.out hv4).symm
  have HB4 : Hid (Below w1.heap.size w1 w4) := HB3.out.trans (hb4.mono HB3.out.size)
  rw [hk4]
  clear hv4 hb4 hk4
  go_wp2_with fail
  refine (flowNodes_any n _ p a b most v L w4 (HK.out.1.two.ga.below HB4.out) hn HK.out.2.1 ha hb hab hmost).mono ?_
  rintro e w5 ⟨k5, rfl, hv5, hb5⟩
  have hk5 : (k5 : Int) = yd := by rw [← HYD.out]; exact nodes_one HK.out.1.inv.perm HK.out.2.1 hn ha hb hab HV2.out.1 HV2.out.2 hv5
  have HB5 : Hid (Below w1.heap.size w1 w5) := HB4.out.trans (hb5.mono HB4.out.size)
  rw [hk5]
  clear hv5 hb5 hk5 HV2 HYD
  go_wp2_with fail
  refine (ways_any n _ p a b most v L w5 (HK.out.1.two.ga.below HB5.out) hn HK.out.2.1 ha hb hab hmost).mono ?_
  rintro e w6 ⟨k, g, vs, PS, rfl, hv6, hPS, hwr, hwf, hb6, hg6⟩
  obtain rfl : k1 = k := by have := edges_one HK.out.1.inv.perm HK.out.2.1 HV1.out hv6; omega
  have HB6 : Hid (Below w1.heap.size w1 w6) := HB5.out.trans (hb6.mono HB5.out.size)
  have HW : Hid (PS.length = k1 ∧ WaR w6 g k1 vs PS ∧ WaF (lD (edS L)) a b PS) := ⟨hPS, hwr, hwf⟩
  have hkm : (k1 : Int) ≤ most := hv6.le
  have HBW : Hid (∀ {W : World}, Below w1.heap.size w1 W → Below w.heap.size w W) := fun hb => HK.out.1.two.below.trans (hb.mono HK.out.1.two.below.size)
  clear hv6 hPS hwr hwf hb6 hg6 HV1
  go_wp2_with fail
  refine (G.bare_any _ 0 w6 (HGL.out (HBW.out HB6.out)) rfl).mono ?_
  rintro e w7 ⟨rfl, hb7⟩
  have HB7 : Hid (Below w1.heap.size w1 w7 ∧ Below w6.heap.size w6 w7) := ⟨HB6.out.trans (hb7.mono HB6.out.size), hb7⟩
  clear hb7
  go_wp2_with fail
  refine (G.bare_any _ 0 w7 (HGL.out (HBW.out HB7.out.1)) rfl).mono ?_
  rintro e w8 ⟨rfl, hb8⟩
  have HB8 : Hid (Below w1.heap.size w1 w8 ∧ Below w6.heap.size w6 w8) := ⟨HB7.out.1.trans (hb8.mono HB7.out.1.size), HB7.out.2.trans (hb8.mono HB7.out.2.size)⟩
  clear hb8
  go_wp2_with fail
  refine (G.bare_any _ 0 w8 (HGL.out (HBW.out HB8.out.1)) rfl).mono ?_
  rintro e w9 ⟨rfl, hb9⟩
  have HB9 : Hid (Below w1.heap.size w1 w9 ∧ Below w6.heap.size w6 w9) := ⟨HB8.out.1.trans (hb9.mono HB8.out.1.size), HB8.out.2.trans (hb9.mono HB8.out.2.size)⟩
  clear hb9
  have hmm := @run_makeMap Tryd.prog
  obtain ⟨ub, hub⟩ : ∃ ub, w9.heap.size = ub := ⟨_, rfl⟩
  have HUB : Hid (w9.heap.size = ub) := hub
  have HS : Hid (FI w9 (w9.alloc (.map #[] 0)) ub (wIds (PS.take 0))) := by
    rw [← hub]
    exact ⟨⟨_, us_new w9⟩, (Below.refl _ _).alloc (Nat.le_refl _) _⟩
  clear hub
  go_wp2_with fail
  rw [HUB.out]
  go_loopw [25] (fun s25 wq => ∃ i : Nat, i ≤ k1 ∧ s25 = .int .i64 i ∧ FI w9 wq ub (wIds (PS.take i))) (fun s25 _ => k1 - (intOf s25).toNat)
  case atStart => exact ⟨0, Nat.zero_le _, rfl, HS.out⟩
  case round =>
    clear HS hmm
    obtain ⟨i, hi, rfl, hfi⟩ := hrel
    have HR : Hid (FI w9 wr ub (wIds (PS.take i))) := hfi
    clear hfi
    by_cases hik : i < k1
    · obtain ⟨P, hP⟩ : ∃ P, PS[i]? = some P := ⟨_, List.getElem?_eq_getElem (by rw [HW.out.1]; exact hik)⟩
      obtain ⟨va, vc, hva⟩ := (HW.out.2.1.row i P hP).shape
      rw [List.length_map] at hva
      obtain ⟨pl, hpl⟩ : ∃ pl, P.length = pl := ⟨_, rfl⟩
      rw [hpl] at hva
      have HP : Hid (PS[i]? = some P ∧ vs i = .slice va pl vc ∧ P.length = pl) := ⟨hP, hva, hpl⟩
      have HCW : Hid (∀ W, Below w9.heap.size w9 W → W.cell? ⟨g, i, none⟩ = some (.slice va pl vc)) := fun W hW => by
        have h1 := (HW.out.2.1.out i hik).1
        rw [if_pos (by rw [HW.out.1]; exact hik), hva] at h1
        exact cell_below (cell_below h1 HB9.out.2) hW
      have HPW : Hid (Walk (a : Int) P (b : Int) ∧ (∀ s ∈ P, s ∈ lD (edS L)) ∧ pl ≤ 70) := by
        have h1 := HW.out.2.2.walk P (List.mem_of_getElem? hP)
        refine ⟨h1.1, h1.2, ?_⟩
        have := wIds_len (t := pl) HK.out.2.1 HW.out.2.2 hP
        rw [List.length_append, List.length_map, List.length_take] at this
        omega
      obtain ⟨wy, hwy⟩ : ∃ wy, wy = wr := ⟨_, rfl⟩
      subst hwy
      have hpl70 := HPW.out.2.2
      have hs0 : FI w9 wy ub (wIds (PS.take i) ++ (P.take 0).map (·.1)) := by simpa using HR.out
      have HS : Hid (FI w9 wy ub (wIds (PS.take i) ++ (P.take 0).map (·.1))) := hs0
      clear hs0
      clear hP hva hpl
      go_wp2_with fail
      go_loopw [26, 27] (fun s26 s27 wq => ∃ (t : Nat) (z : Int), t ≤ pl ∧ s27 = .int .i64 t ∧ s26 = .int .i64 z ∧ Walk z (P.drop t) (b : Int) ∧ FI w9 wq ub (wIds (PS.take i) ++ (P.take t).map (·.1))) (fun _ s27 _ => pl - (intOf s27).toNat)
      case atStart => exact ⟨0, _, Nat.zero_le _, rfl, rfl, by simpa using HPW.out.1, HS.out⟩
      case round =>
        clear HS HR
        obtain ⟨t, z, ht, rfl, rfl, hwk, hfi⟩ := hrel
        have HR : Hid (Walk z (P.drop t) (b : Int) ∧ FI w9 wr ub (wIds (PS.take i) ++ (P.take t).map (·.1))) := ⟨hwk, hfi⟩
        have hcw := HCW.out wr hfi.bel
        clear hwk hfi
        by_cases htp : t < pl
        · obtain ⟨s, hs⟩ : ∃ s, P[t]? = some s := ⟨_, List.getElem?_eq_getElem (by rw [HP.out.2.2]; exact htp)⟩
          have hsP := List.mem_of_getElem? hs
          obtain ⟨x, y, hxy, hyn, hmem, h0, h1, hft⟩ := step_edge HK.out.2.1 (HPW.out.2.1 s hsP)
          have hdr : P.drop t = s :: P.drop (t + 1) := by
            obtain ⟨l1, l2⟩ := List.getElem?_eq_some_iff.1 hs
            rw [List.drop_eq_getElem_cons l1, l2]
          have hwk := HR.out.1
          rw [hdr] at hwk
          obtain ⟨hz, hwk2⟩ : fr s = z ∧ Walk (tt s) (P.drop (t + 1)) (b : Int) := hwk
          obtain ⟨id, hid⟩ : ∃ id, s.1 = id := ⟨_, rfl⟩
          rw [hid] at hmem h0 h1
          obtain ⟨gr, hgr⟩ : ∃ gr, va = some ⟨gr, 0, none⟩ := by
            have hrow := HW.out.2.1.row i P HP.out.1
            rcases hrow.2 with hn0 | ⟨g', cap', cur, h1', _⟩
            · have := hn0.2
              rw [List.length_map, HP.out.2.2] at this
              omega
            · rw [HP.out.2.1] at h1'
              injection h1' with e1 _ _
              exact ⟨g', e1⟩
          subst hgr
          have hel : wr.cell? ⟨gr, t, none⟩ = some (.int .i64 id) := by
            have hrow := HW.out.2.1.row i P HP.out.1
            rw [HP.out.2.1] at hrow
            have h2 := World.ownsRow.cells hrow rfl t (.int .i64 id) (by rw [List.getElem?_map, List.getElem?_map, hs, ← hid]; rfl)
            rw [add0] at h2
            exact cell_below (cell_below h2 HB9.out.2) HR.out.2.bel
          have HE : Hid (Calls Tryd.prog 22 #[.pointer (some ⟨p, 0, none⟩), .int .i64 id] wr fun e w' => e = .returned (.tuple #[.agg #[.int .i64 id, .int .i64 (x : Int), .int .i64 (y : Int)], .nilIface]) ∧ Below wr.heap.size wr w') := by
            have hga := HK.out.1.two.ga.below (HB9.out.1.trans (HR.out.2.bel.mono HB9.out.1.size))
            rcases G.place_hit HK.out.1.inv.up id with ⟨e, h1, h2, h3⟩ | ⟨h1, _⟩
            · have h4 := G.seen_some HK.out.1.inv.up hmem rfl
              rw [h4] at h3
              injection h3 with h3
              subst h3
              exact G.edge_hit id (n : Int) id x y _ p _ v L wr hga HK.out.1.inv.up HK.out.1.inv.len rfl h1 h4
            · exact absurd rfl (h1 _ hmem)
          have HFR : Hid (id ∉ wIds (PS.take i) ++ (P.take t).map (·.1) ∧ (wIds (PS.take i) ++ (P.take t).map (·.1)).length ≤ 70 ∧ wIds (PS.take i) ++ (P.take (t + 1)).map (·.1) = (wIds (PS.take i) ++ (P.take t).map (·.1)) ++ [id]) := by
            refine ⟨by rw [← hid]; exact fresh_id HW.out.2.2 HP.out.1 hs, wIds_len HK.out.2.1 HW.out.2.2 HP.out.1, ?_⟩
            rw [take_snoc hs, List.map_append, ← List.append_assoc, ← hid]
            rfl
          obtain ⟨z2, hz2⟩ : ∃ z2, tt s = z2 := ⟨_, rfl⟩
          rw [hz2] at hwk2 hft
          rw [hz] at hft
          have HWK : Hid (Walk z2 (P.drop (t + 1)) (b : Int)) := hwk2
          have hzz : (x : Int) + (y : Int) - z = z2 := by omega
          have hw1 : IntKind.i64.wrap ((x : Int) + (y : Int)) = (x : Int) + (y : Int) := by rw [IntKind.wrap_i64]; omega
          have hw2 : IntKind.i64.wrap ((x : Int) + (y : Int) - z) = z2 := by rw [IntKind.wrap_i64]; omega
          have hwt : IntKind.i64.wrap ((t : Int) + 1) = ((t + 1 : Nat) : Int) := by rw [IntKind.wrap_i64]; omega
          clear hs hsP hmem hdr hwk2 hz hid hz2
          go_wp2_with fail
          refine Calls.mono HE.out ?_
          rintro e wE ⟨rfl, hbE⟩
          clear HE
          obtain ⟨W1, hW1⟩ : ∃ W1, wE.alloc (.cells #[.int .i64 id, .int .i64 (x : Int), .int .i64 (y : Int)] 59) = W1 := ⟨_, rfl⟩
          have hbA : Below wE.heap.size wE W1 := by rw [← hW1]; exact (Below.refl _ _).alloc (Nat.le_refl _) _
          obtain ⟨bx, hbx⟩ : ∃ bx, wE.heap.size = bx := ⟨_, rfl⟩
          have hh : W1.heap[bx]? = some (.cells #[.int .i64 id, .int .i64 (x : Int), .int .i64 (y : Int)] 59) := by rw [← hW1, ← hbx]; exact heap_alloc_new wE _
          have p0 : W1.cell? ⟨bx, 0, none⟩ = some (.int .i64 id) := by simp [World.cell?, hh]
          have p1 : W1.cell? ⟨bx, 1, none⟩ = some (.int .i64 (x : Int)) := by simp [World.cell?, hh]
          have p2 : W1.cell? ⟨bx, 2, none⟩ = some (.int .i64 (y : Int)) := by simp [World.cell?, hh]
          have hF1 := (HR.out.2.below hbE).below hbA
          obtain ⟨C, hus⟩ := hF1.us
          have hwf : (Lit.int .i64 id).wf = true := wf_small h0 (by omega)
          have lk := hus.look hwf
          rw [decide_eq_false HFR.out.1] at lk
          obtain ⟨W2, up, hus2, hg2⟩ := hus.put hwf (by have := HFR.out.2.1; omega)
          have hbu : bx ≠ ub := fun e => by
            obtain ⟨es, clock, hb', _⟩ := hus.mp
            rw [← e, hh] at hb'
            simp at hb'
          have q1 := keep_cell hg2 hbu p1
          have q2 := keep_cell hg2 hbu p2
          have HF2 : Hid (FI w9 W2 ub (wIds (PS.take i) ++ (P.take (t + 1)).map (·.1))) := by
            rw [HFR.out.2.2]
            refine ⟨by rw [List.length_append]; exact hus2, ?_⟩
            have h1 := hF1.bel
            exact ⟨hg2.os.trans h1.os, hg2.tape.trans h1.tape, hg2.output.trans h1.output, Nat.le_trans h1.size hg2.size, fun j hj => (hg2.block j (Nat.lt_of_lt_of_le hj h1.size) (fun e => by have := HUB.out; injection e with e; omega)).trans (h1.block j hj)⟩
          have HW1 : Hid (wE.alloc (.cells #[.int .i64 id, .int .i64 (x : Int), .int .i64 (y : Int)] 59) = W1) := hW1
          have HBX : Hid (wE.heap.size = bx) := hbx
          clear hW1 hbA hbx hh hF1 hus hus2 hg2 hbu hbE HR hel hcw hwf
          rcases hft with ⟨e1, e2⟩ | ⟨e1, e2⟩
          · as_aux_lemma =>
            subst e1
            subst e2
            go_wp2_with fail
            rw [HW1.out, HBX.out, lk]
            go_wp2_with fail
            go_roundw
            case rel => exact ⟨t + 1, (y : Int), by omega, by go_num, rfl, HWK.out, HF2.out⟩
            case measure => simp [intOf]; omega
          · as_aux_lemma =>
            subst e1
            subst e2
            have hne : ((x : Int) == (y : Int)) = false := beq_eq_false_iff_ne.2 (by omega)
            go_wp2_with fail
            rw [HW1.out, HBX.out, lk]
            go_wp2_with fail
            go_roundw
            case rel => exact ⟨t + 1, (x : Int), by omega, by go_num, rfl, HWK.out, HF2.out⟩
            case measure => simp [intOf]; omega
        · have hte : pl = t := by omega
          subst hte
          have hzb : z = (b : Int) := by
            have h1 := HR.out.1
            rw [List.drop_eq_nil_of_le (by rw [HP.out.2.2]; exact Nat.le_refl _)] at h1
            exact h1
          subst hzb
          have HF : Hid (FI w9 wr ub (wIds (PS.take (i + 1)))) := by
            have h1 := HR.out.2
            rw [show P.take pl = P from List.take_of_length_le (by rw [HP.out.2.2]; exact Nat.le_refl _)] at h1
            rw [wIds_next HP.out.1]
            exact h1
          clear HR
          go_wp2_with fail
          go_roundw
          case rel => exact ⟨i + 1, by omega, by go_num, HF.out⟩
          case measure => simp [intOf]; omega
    · have HF : Hid (Below w.heap.size w wr) := HBW.out (HB9.out.1.trans (HR.out.bel.mono HB9.out.1.size))
      have hie : k1 = i := by omega
      subst hie
      clear HR
      go_wp2_with fail
      go_ret
      exact ⟨rfl, HF.out⟩

/-- Whatever is asked of two graphs that were made. -/
theorem fc_in (n : Nat) (ad : Option Addr) (bl off m cap : Nat) (ps : Nat → Int × Int) (x y most : Int) (w : World) (hn : n ≤ 16) (hm : m ≤ 60) (hgl : G.Gl w) (ha : 0 < m → ad = some ⟨bl, off, none⟩) (hp : PairsAt w bl off m ps) (hbl : 0 < m → bl < w.heap.size) :
    Calls Tryd.prog 5 #[.int .i64 (n : Int), .slice ad m cap, .int .i64 x, .int .i64 y, .int .i64 most] w fun e w' => e = .returned (.bool true) ∧ Below w.heap.size w w' := by
  have hmade := lmade_in n ad bl off m cap ps w hn hm ha hp hbl
  by_cases hok : AskOk n x y most
  · by_cases hxy : x = y
    · exact fc_err n ad m cap x y most 1 w hn hgl hmade (.inr ⟨hok, hxy, rfl⟩)
    · obtain ⟨⟨h1, h2⟩, ⟨h3, h4⟩, h5, h6⟩ := hok
      obtain ⟨a, rfl⟩ := Int.eq_ofNat_of_zero_le h1
      obtain ⟨b, rfl⟩ := Int.eq_ofNat_of_zero_le h3
      obtain ⟨c, rfl⟩ := Int.eq_ofNat_of_zero_le h5
      exact fc_ok n ad m cap a b c w hn hm hgl hmade (by omega) (by omega) (by omega) (by omega)
  · exact fc_err n ad m cap x y most 2 w hn hgl hmade (.inl ⟨hok, rfl⟩)

end Go.Proofs.YtpkdpddillebfaaDoor.S
