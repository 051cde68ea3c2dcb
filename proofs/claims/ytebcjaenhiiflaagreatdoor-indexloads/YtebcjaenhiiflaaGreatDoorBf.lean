/- The contract of package bridge's closeRing. -/
import Derived.Test.YtebcjaenhiiflaaGreatDoorBcd
namespace Go.Proofs.YtebcjaenhiiflaaGreatDoor.S
open Go.RowKit Go.WideMaps Go.Maps

variable {p pw bw pt bt m N n : Nat} {R B : List (Int × Int × Int)} {W T : List Nat} {D : DataW Unit}

/-- The world is kept, but for three blocks. -/
structure Bk (bw bt m : Nat) (w w' : World) : Prop where
  os : w'.os = w.os
  tape : w'.tape = w.tape
  output : w'.output = w.output
  size : w.heap.size ≤ w'.heap.size
  block : ∀ k, k < w.heap.size → k ≠ bw → k ≠ bt → k ≠ m → w'.heap[k]? = w.heap[k]?

theorem Bk.refl (w : World) : Bk bw bt m w w := ⟨rfl, rfl, rfl, Nat.le_refl _, fun _ _ _ _ _ => rfl⟩
theorem Bk.of_below {w w' : World} (h : Below w.heap.size w w') : Bk bw bt m w w' := ⟨h.os, h.tape, h.output, h.size, fun k hk _ _ _ => h.block k hk⟩
theorem Bk.of_w {w w' : World} (h : But bw w w') : Bk bw bt m w w' := ⟨h.os, h.tape, h.output, h.size, fun k hk h1 _ _ => h.block k hk h1⟩
theorem Bk.of_t {w w' : World} (h : But bt w w') : Bk bw bt m w w' := ⟨h.os, h.tape, h.output, h.size, fun k hk _ h1 _ => h.block k hk h1⟩
theorem Bk.of_m {w w' : World} (h : w.grownBy w' (some m)) : Bk bw bt m w w' := ⟨h.os, h.tape, h.output, h.size, fun k hk _ _ h1 => h.block k hk (by simpa using h1)⟩
theorem Bk.trans {x y z : World} (h : Bk bw bt m x y) (k : Bk bw bt m y z) : Bk bw bt m x z :=
  ⟨k.os.trans h.os, k.tape.trans h.tape, k.output.trans h.output, Nat.le_trans h.size k.size, fun i hi h1 h2 h3 => (k.block i (Nat.lt_of_lt_of_le hi h.size) h1 h2 h3).trans (h.block i hi h1 h2 h3)⟩
theorem Bk.cell {w w' : World} (h : Bk bw bt m w w') {g i : Nat} {v : Value} (hg : w.cell? ⟨g, i, none⟩ = some v) (h1 : g ≠ bw) (h2 : g ≠ bt) (h3 : g ≠ m) : w'.cell? ⟨g, i, none⟩ = some v := by
  have hl := lt_of_cell hg
  simp only [World.cell?] at hg ⊢
  rw [h.block g hl h1 h2 h3]; exact hg

theorem joins_append : ∀ (a b : List (Int × Int × Int)) (L : List Nat), joins L (a ++ b) = joins (joins L a) b
  | [], _, _ => rfl
  | x :: a, b, L => by
    show joins (joinL L (ea x) (eb x)) (a ++ b) = _
    rw [joins_append a b]; rfl

theorem zero180 (w : World) : (zeroValue 180).run Tryz.prog w = .ok (pairV 0 0) w := by kernel_rfl

/-- A bridge's ends, looked up. -/
theorem look_pair {w : World} (h : BAt w p pw bw pt bt m N W T D) (hd : Dis D B) {e : Int × Int × Int} (he : e ∈ B) (hw : (Lit.int .i64 e.1).wf = true) (hn : e.2.1 = (ea e : Int) ∧ e.2.2 = (eb e : Int)) :
    (Instr.lookup 176 (.map (some m)) (.int .i64 e.1) false).run Tryz.prog w = .ok (.agg #[.int .i64 (ea e : Int), .int .i64 (eb e : Int)]) w := by
  obtain ⟨v, ps, hrun, hR⟩ := h.hm.lookup law3 Tryz.underlying176 (zero180 w) (pairR_mk 0 0) (key3 e.1 hw)
  rw [hd.val e he] at hR
  obtain ⟨c, rfl, hc⟩ := pairR_inv hR
  have h1 : pairD e.2.1 e.2.2 = pairD c.1 c.2 := by injection hc
  obtain ⟨h2, h3⟩ := pairD_inj h1
  rw [hrun, ← h2, ← h3, hn.1, hn.2]
  rfl

theorem field35a (a b : Int) (w : World) : (Instr.field 180 (.agg #[.int .i64 a, .int .i64 b]) 0).run Tryz.prog w = .ok (.int .i64 a) w := by kernel_rfl
theorem field35b (a b : Int) (w : World) : (Instr.field 180 (.agg #[.int .i64 a, .int .i64 b]) 1).run Tryz.prog w = .ok (.int .i64 b) w := by kernel_rfl

/-- What a row of numbers is. -/
theorem ids_shape {w : World} {base : Nat} {v : Value} {ds : List (Int × Int × Int)} (h : w.ownsRow base 3 1 v ds.length (idsV ds)) : ∃ a cap, v = .slice a ds.length cap ∧ (0 < ds.length → ∃ g, a = some ⟨g, 0, none⟩ ∧ base ≤ g ∧ g < w.heap.size ∧ ∀ j e, ds[j]? = some e → w.cell? ⟨g, j, none⟩ = some (.int .i64 e.1)) := by
  have h0 := h
  rcases h.2 with ⟨rfl, hz⟩ | ⟨g, cap, cur, rfl, hb, hg, _⟩
  · exact ⟨none, 0, by rw [hz], fun k => by omega⟩
  · refine ⟨_, cap, rfl, fun _ => ⟨g, rfl, hb, lt_of_some hg, fun j e hj => ?_⟩⟩
    rw [h0.cellAt j (by have := (List.getElem?_eq_some_iff.1 hj).1; omega)]
    simp [idsV, hj]

theorem filter_step {B ds : List (Int × Int × Int)} {j : Nat} {e : Int × Int × Int} (hj : ds[j]? = some e) (d : Int × Int × Int) : d ∈ B.filter (fun d => decide (d ∉ ds.take (j + 1))) ↔ d ∈ B.filter (fun d => decide (d ∉ ds.take j)) ∧ d ≠ e := by
  have ht : ds.take (j + 1) = ds.take j ++ [e] := by rw [List.take_add_one, hj]; rfl
  simp only [List.mem_filter, decide_eq_true_eq, ht, List.mem_append, List.mem_singleton, not_or]
  exact ⟨fun h => ⟨⟨h.1, h.2.1⟩, h.2.2⟩, fun h => ⟨h.1.1, h.1.2, h.2⟩⟩

theorem nodup_take {ds : List (Int × Int × Int)} (h : ds.Nodup) {j : Nat} {e : Int × Int × Int} (hj : ds[j]? = some e) : e ∉ ds.take j := by
  intro hm
  obtain ⟨i, hi, he⟩ := List.mem_iff_getElem.1 hm
  obtain ⟨hl, hje⟩ := List.getElem?_eq_some_iff.1 hj
  have hi' : i < j := by simp at hi; omega
  rw [List.getElem_take] at he
  exact (List.pairwise_iff_getElem.1 h i j (by omega) hl hi') (by rw [he, hje])

set_option maxHeartbeats 4000000 in
set_option maxRecDepth 100000 in
theorem close_ring (x y : Nat) (w : World) (h : BAt w p pw bw pt bt m N W T D) (s : St n R W T B) (hd : Dis D B) (hB : B.length ≤ 1000) (hn : n ≤ 40) (hx : x < n) (hy : y < n) (hc : cnR R x y) (hid : ∀ e ∈ R, (Lit.int .i64 e.1).wf = true) :
    Calls Tryz.prog 118 #[.pointer (some ⟨p, 0, none⟩), .int .i64 (x : Int), .int .i64 (y : Int)] w fun e w' => e = .returned (.tuple #[]) ∧ ∃ ds D', (∀ e, e ∈ ds ↔ sepR R x y e) ∧ BAt w' p pw bw pt bt m N W (joins T ds) D' ∧ Dis D' (B.filter fun e => decide (e ∉ ds)) ∧ Bk bw bt m w w' := by
  have hplt := h.plt
  have hblt : bw < w.heap.size ∧ bt < w.heap.size ∧ m < w.heap.size := ⟨h.sw.blt, h.st.blt, h.hm.lt⟩
  have HW : Hid (∀ w', Below w.heap.size w w' → BAt w' p pw bw pt bt m N W T D) := fun w' hb => h.below hb
  obtain ⟨X, hX⟩ : ∃ X, T.getD x 0 = X := ⟨_, rfl⟩
  obtain ⟨Y, hY⟩ : ∃ Y, T.getD y 0 = Y := ⟨_, rfl⟩
  have hXn : X < n := by rw [← hX]; exact s.lab hx
  have hYn : Y < n := by rw [← hY]; exact s.lab hy
  have HX : Hid (T.getD x 0 = X ∧ T.getD X 0 = X) := ⟨hX, by rw [← hX]; exact s.gt.idem x hx⟩
  have HY : Hid (T.getD y 0 = Y ∧ T.getD Y 0 = Y) := ⟨hY, by rw [← hY]; exact s.gt.idem y hy⟩
  have HC : Hid (cnR R X Y) := by
    show cnR R X Y
    rw [← hX, ← hY]
    exact cn_trans (cn_symm (s.rep hx).1) (cn_trans hc (s.rep hy).1)
  have HS : Hid (St n R W T B) := s
  have HD : Hid (Dis D B) := hd
  have HID : Hid (∀ e ∈ R, (Lit.int .i64 e.1).wf = true) := hid
  clear h s hd hX hY hc hid
  go_enter Tryz.func118, Tryz.ntmps118
  go_wp2_with fail
  refine (part_n x w (HW.out w (Below.refl _ _)) HS.out.gt hx HX.out.1).mono ?_
  rintro e w1 ⟨rfl, b1⟩
  have B1 : Hid (Below w.heap.size w w1) := b1
  clear b1
  go_wp2_with fail
  refine (part_n y w1 (HW.out w1 B1.out) HS.out.gt hy HY.out.1).mono ?_
  rintro e w2 ⟨rfl, b2⟩
  have B2 : Hid (Below w.heap.size w w2) := B1.out.trans (b2.mono B1.out.size)
  clear b2 B1
  go_wp2_with fail
  refine (way_any 1000 HS.out HD.out (Nat.le_refl _) X Y (-1) (· ∈ R) B w2 (HW.out w2 B2.out) (.inl ⟨rfl, rfl⟩) (fun d hd _ _ => (HS.out.hB d).2 hd) hB hXn HX.out.2 hYn HY.out.2).mono ?_
  rintro e w3 ⟨b3, hpost⟩
  rcases hpost with ⟨_, v, ds, rfl, hway, hlen, hrow⟩ | ⟨hno, _⟩
  case inr => exact absurd HC.out hno
  obtain ⟨av, cap, rfl, hav⟩ := ids_shape hrow
  have B3 : Hid (Below w.heap.size w w3) := B2.out.trans (b3.mono B2.out.size)
  have hw2 := B2.out.size
  have HAV : Hid (0 < ds.length → ∃ g, av = some ⟨g, 0, none⟩ ∧ w.heap.size ≤ g ∧ g < w3.heap.size ∧ ∀ j e, ds[j]? = some e → w3.cell? ⟨g, j, none⟩ = some (.int .i64 e.1)) := fun hl => by
    obtain ⟨g, h1, h2, h3, h4⟩ := hav hl
    exact ⟨g, h1, by omega, h3, h4⟩
  have HWY : Hid (ds.Nodup ∧ ∀ e, e ∈ ds ↔ sepR R x y e) := ⟨hway.1, Way.ends HS.out hx hy (by rw [HX.out.1, HY.out.1]; exact hway)⟩
  have HWB : Hid (∀ e ∈ ds, e ∈ B) := Way.mem_B HS.out HC.out hway
  obtain ⟨len, hlen'⟩ : ∃ len, ds.length = len := ⟨_, rfl⟩
  have HLEN : Hid (ds.length = len) := hlen'
  rw [hlen'] at hlen ⊢
  clear hav hrow hway b3 B2 hw2 hlen'
  go_wp2_with fail
  go_loopw [9, 23] (fun _ s23 wq => ∃ j : Nat, j ≤ len ∧ s23 = .int .i64 j ∧ ∃ Dj, BAt wq p pw bw pt bt m N W (joins T (ds.take j)) Dj ∧ Dis Dj (B.filter fun e => decide (e ∉ ds.take j)) ∧ Bk bw bt m w3 wq) (fun _ s23 _ => len - (intOf s23).toNat)
  case atStart =>
    refine ⟨0, Nat.zero_le _, rfl, D, by simpa [joins] using HW.out w3 B3.out, ?_, Bk.refl _⟩
    have : (B.filter fun e => decide (e ∉ ds.take 0)) = B := by simp
    rw [this]; exact HD.out
  case round =>
    obtain ⟨j, hj, rfl, Dj, hbj, hdj, hkj⟩ := hrel
    by_cases hlt : j < len
    · obtain ⟨e, he⟩ : ∃ e, ds[j]? = some e := ⟨_, List.getElem?_eq_getElem (by rw [HLEN.out]; exact hlt)⟩
      obtain ⟨g, rfl, hg1, hg2, hg3⟩ := HAV.out (by rw [HLEN.out]; omega)
      have hcell : wr.cell? ⟨g, j, none⟩ = some (.int .i64 e.1) := hkj.cell (hg3 j e he) (by omega) (by omega) (by omega)
      have heB := HWB.out e (List.mem_of_getElem? he)
      have heR := ((HS.out.hB e).1 heB).1
      have hinn := HS.out.inn e heR
      have heF : e ∈ B.filter fun e => decide (e ∉ ds.take j) := List.mem_filter.2 ⟨heB, by simpa using nodup_take HWY.out.1 he⟩
      have hgood : Good n (joins T (ds.take j)) := good_joins _ T HS.out.gt (fun d hd => HS.out.inn d ((HS.out.hB d).1 (HWB.out d (List.mem_of_mem_take hd))).1)
      have HJ : Hid (joins T (ds.take (j + 1)) = joinL (joins T (ds.take j)) (ea e) (eb e)) := by
        show joins T (ds.take (j + 1)) = _
        rw [List.take_add_one, he]
        exact joins_append _ _ _
      have HDD : Hid (Dis (Dj.del (.int .i64 e.1)) (B.filter fun e => decide (e ∉ ds.take (j + 1)))) :=
        hdj.del e (fun d hd hde => HS.out.one d ((HS.out.hB d).1 (List.mem_filter.1 hd).1).1 e heR hde) (filter_step he)
      obtain ⟨J, hJ⟩ : ∃ J, J = joins T (ds.take j) := ⟨_, rfl⟩
      rw [← hJ] at hbj hgood
      have HJ' : Hid (joins T (ds.take (j + 1)) = joinL J (ea e) (eb e)) := by
        show joins T (ds.take (j + 1)) = joinL J (ea e) (eb e)
        rw [hJ]; exact HJ.out
      have HLK : Hid (∀ {W' T' : List Nat} {w' : World}, BAt w' p pw bw pt bt m N W' T' Dj → (Instr.lookup 176 (.map (some m)) (.int .i64 e.1) false).run Tryz.prog w' = .ok (.agg #[.int .i64 (ea e : Int), .int .i64 (eb e : Int)]) w') := fun hb => look_pair hb hdj heF (HID.out e heR) (HS.out.nat e heR)
      have hkey := key3 e.1 (HID.out e heR)
      have HKEY : Hid (keyOf Tryz.prog 3 (.int .i64 e.1) = some (.int .i64 e.1)) := hkey
      have HBJ : Hid (BAt wr p pw bw pt bt m N W J Dj) := hbj
      have HKJ : Hid (Bk bw bt m w3 wr) := hkj
      have hlk := HLK.out hbj.drew
      have hc1 : wr.drew.cell? ⟨p, 1, none⟩ = some (.pointer (some ⟨pt, 0, none⟩)) := hbj.drew.c1
      have hc2 : wr.drew.cell? ⟨p, 2, none⟩ = some (.map (some m)) := hbj.drew.c2
      have hA : ea e < J.length := by rw [hgood.len]; exact hinn.1
      have hBn : eb e < J.length := by rw [hgood.len]; exact hinn.2
      have hJl : J.length ≤ 40 := by rw [hgood.len]; exact hn
      clear hJ HJ hg3 heB heR hinn heF hgood hbj hdj hkj hkey
      generalize e.1 = x0 at *
      generalize ea e = A at *
      generalize eb e = E at *
      generalize hok : decide (J.getD A 0 ≠ J.getD E 0) = ok
      have HOK : Hid (decide (J.getD A 0 ≠ J.getD E 0) = ok) := hok
      clear hok he
      have hfa := field35a (A : Int) (E : Int)
      have hfb := field35b (A : Int) (E : Int)
      go_upto_region 4 with fail
      go_region_held (fun w' => w'.cell? ⟨p, 1, none⟩ = some (.pointer (some ⟨pt, 0, none⟩)) ∧ w'.cell? ⟨p, 2, none⟩ = some (.map (some m)) ∧ (Instr.lookup 176 (.map (some m)) (.int .i64 x0) false).run Tryz.prog w' = .ok (.agg #[.int .i64 (A : Int), .int .i64 (E : Int)]) w') (exact ⟨by assumption, by assumption, by assumption⟩)
        (first | (go_at_call 119; refine (join_nm A E pt bt J ok _ (by exact HBJ.out.drew.st) hA hBn hJl HOK.out).mono ?_; rintro e w4 ⟨rfl, hsj, hbt⟩; have hb4 := HBJ.out.drew.joinT hsj hbt; have d1 := hb4.c1; have d2 := hb4.c2; have d3 := HLK.out hb4))
      all_goals
        have hown := hb4.hm
        have HB4 : Hid (BAt w4 p pw bw pt bt m N W (joinL J A E) Dj) := hb4
        have HBT : Hid (Bk bw bt m wr w4) := (Bk.of_below ((Below.refl _ _).drew)).trans (Bk.of_t hbt)
        clear hb4 hbt hsj d3 hlk hfa hfb hc1 hc2 d1
        go_wp2_with (first
          | (at_delete; refine wpList_delete_own _ rfl _ _ 176 3 rfl 180 law3 Tryz.underlying176 _ m N Dj rfl hown _ _ rfl HKEY.out ?_; intro w5 hown5 hturn5; go_frame)
          | fail)
        have hgm := hturn5.grown
        have hb5 := HB4.out.mapped hown5 hgm
        rw [← HJ'.out] at hb5
        go_roundw
        case rel => exact ⟨j + 1, by omega, by go_num, _, hb5, HDD.out, (HKJ.out.trans HBT.out).trans (Bk.of_m hgm)⟩
        case measure => simp [intOf]; omega
    · have hje : j = len := by omega
      subst hje
      have HF : Hid (BAt wr p pw bw pt bt m N W (joins T ds) Dj ∧ Dis Dj (B.filter fun e => decide (e ∉ ds)) ∧ Bk bw bt m w wr) := by
        have ht : ds.take j = ds := by rw [← HLEN.out]; exact List.take_length
        rw [ht] at hbj hdj
        exact ⟨hbj, hdj, (Bk.of_below B3.out).trans hkj⟩
      clear hbj hdj hkj
      go_wp2_with fail
      go_end0
      exact ⟨rfl, ds, Dj, HWY.out.2, HF.out.1, HF.out.2.1, HF.out.2.2⟩

end Go.Proofs.YtebcjaenhiiflaaGreatDoor.S
