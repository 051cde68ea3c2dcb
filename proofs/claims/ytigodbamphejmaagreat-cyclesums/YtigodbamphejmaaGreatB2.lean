/- The contract of package bridge's closeRing. -/
import Derived.Test.YtigodbamphejmaaGreatB1
import Derived.Lib.SlKeysI
namespace Go.Proofs.YtigodbamphejmaaGreat.S
open Go.RowKit Go.WideMaps Go.Maps
variable {p pw bw pt bt m N n : Nat} {R B : List (Int × Int × Int)} {W T : List Nat} {D : DataW Unit}

/-- The world is kept, but for three blocks. -/
structure Bk (bw bt m : Nat) (w w' : World) : Prop where
  os : w'.os = w.os
  tape : w'.tape = w.tape
  output : w'.output = w.output
  size : w.heap.size ≤ w'.heap.size
  block : ∀ k, k < w.heap.size → k ≠ bw → k ≠ bt → k ≠ m → w'.heap[k]? = w.heap[k]?

theorem Bk.refl (w : World) : Bk bw bt m w w := ⟨rfl, rfl, rfl, Nat.le_refl _, fun _ _ _ _ _ => rfl⟩

theorem Bk.of_below {w w' : World} (h : Below w.heap.size w w') : Bk bw bt m w w' := ⟨h.os, h.tape, h.output, h.size, fun k hk _ _ _ => h.block k hk⟩

theorem Bk.of_w {w w' : World} (h : But bw w w') : Bk bw bt m w w' := ⟨h.os, h.tape, h.output, h.size, fun k hk h1 _ _ => h.block k hk h1⟩

theorem Bk.of_t {w w' : World} (h : But bt w w') : Bk bw bt m w w' := ⟨h.os, h.tape, h.output, h.size, fun k hk _ h1 _ => h.block k hk h1⟩

theorem Bk.of_m {w w' : World} (h : w.grownBy w' (some m)) : Bk bw bt m w w' := ⟨h.os, h.tape, h.output, h.size, fun k hk _ _ h1 => h.block k hk (by simpa using h1)⟩

theorem Bk.trans {x y z : World} (h : Bk bw bt m x y) (k : Bk bw bt m y z) : Bk bw bt m x z :=
  ⟨k.os.trans h.os, k.tape.trans h.tape, k.output.trans h.output, Nat.le_trans h.size k.size, fun i hi h1 h2 h3 => (k.block i (Nat.lt_of_lt_of_le hi h.size) h1 h2 h3).trans (h.block i hi h1 h2 h3)⟩

theorem Bk.cell {w w' : World} (h : Bk bw bt m w w') {g i : Nat} {v : Value} (hg : w.cell? ⟨g, i, none⟩ = some v) (h1 : g ≠ bw) (h2 : g ≠ bt) (h3 : g ≠ m) : w'.cell? ⟨g, i, none⟩ = some v := by
  have hl := lt_of_cell hg
  simp only [World.cell?] at hg ⊢
  rw [h.block g hl h1 h2 h3]; exact hg

theorem joins_append : ∀ (a b : List (Int × Int × Int)) (L : List Nat), joins L (a ++ b) = joins (joins L a) b
  | [], _, _ => rfl
  | x :: a, b, L => by
    show joins (joinL L (ea x) (eb x)) (a ++ b) = _
    rw [joins_append a b]; rfl

theorem zero41 (w : World) : (zeroValue 41).run Tryz.prog w = .ok (pairV 0 0) w := by kernel_rfl

/-- A bridge's ends, looked up. -/
theorem look_pair {w : World} (h : BAt w p pw bw pt bt m N W T D) (hd : Dis D B) {e : Int × Int × Int} (he : e ∈ B) (hw : (Lit.int .i64 e.1).wf = true) (hn : e.2.1 = (ea e : Int) ∧ e.2.2 = (eb e : Int)) :
    (Instr.lookup 77 (.map (some m)) (.int .i64 e.1) false).run Tryz.prog w = .ok (.agg #[.int .i64 (ea e : Int), .int .i64 (eb e : Int)]) w := by
  obtain ⟨v, ps, hrun, hR⟩ := h.hm.lookup law3 Tryz.underlying77 (zero41 w) (pairR_mk 0 0) (key3 e.1 hw)
  rw [hd.val e he] at hR
  obtain ⟨c, rfl, hc⟩ := pairR_inv hR
  have h1 : pairD e.2.1 e.2.2 = pairD c.1 c.2 := by injection hc
  obtain ⟨h2, h3⟩ := pairD_inj h1
  rw [hrun, ← h2, ← h3, hn.1, hn.2]
  rfl

theorem field35a (a b : Int) (w : World) : (Instr.field 41 (.agg #[.int .i64 a, .int .i64 b]) 0).run Tryz.prog w = .ok (.int .i64 a) w := by kernel_rfl

theorem field35b (a b : Int) (w : World) : (Instr.field 41 (.agg #[.int .i64 a, .int .i64 b]) 1).run Tryz.prog w = .ok (.int .i64 b) w := by kernel_rfl

/-- What a row of numbers is. -/
theorem ids_shape {w : World} {base : Nat} {v : Value} {ds : List (Int × Int × Int)} (h : w.ownsRow base 3 1 v ds.length (idsV ds)) : ∃ a cap, v = .slice a ds.length cap ∧ (0 < ds.length → ∃ g, a = some ⟨g, 0, none⟩ ∧ base ≤ g ∧ g < w.heap.size ∧ ∀ j e, ds[j]? = some e → w.cell? ⟨g, j, none⟩ = some (.int .i64 e.1)) := by
  have h0 := h
  rcases h.2 with ⟨rfl, hz⟩ | ⟨g, cap, cur, rfl, hb, hg, _⟩
  · exact ⟨none, 0, by rw [hz], fun k => by omega⟩
  · refine ⟨_, cap, rfl, fun _ => ⟨g, rfl, hb, lt_of_some hg, fun j e hj => ?_⟩⟩
    rw [h0.cellAt j (by have := (List.getElem?_eq_some_iff.1 hj).1; omega)]
    simp [idsV, hj]

theorem filter_step {B ds : List (Int × Int × Int)} {j : Nat} {e : Int × Int × Int} (hj : ds[j]? = some e) (d : Int × Int × Int) : d ∈ B.filter (fun d => decide (d ∉ ds.take (j + 1))) ↔ d ∈ B.filter (fun d => decide (d ∉ ds.take j)) ∧ d ≠ e := by
  have ht : ds.take (j + 1) = ds.take j ++ [e] := by rw [List.take_add_one, hj]; rfl
  simp only [List.mem_filter, decide_eq_true_eq, ht, List.mem_append, List.mem_singleton, not_or]
  exact ⟨fun h => ⟨⟨h.1, h.2.1⟩, h.2.2⟩, fun h => ⟨h.1.1, h.1.2, h.2⟩⟩

theorem nodup_take {ds : List (Int × Int × Int)} (h : ds.Nodup) {j : Nat} {e : Int × Int × Int} (hj : ds[j]? = some e) : e ∉ ds.take j := by
  intro hm
  obtain ⟨i, hi, he⟩ := List.mem_iff_getElem.1 hm
  obtain ⟨hl, hje⟩ := List.getElem?_eq_some_iff.1 hj
  have hi' : i < j := by simp at hi; omega
  rw [List.getElem_take] at he
  exact (List.pairwise_iff_getElem.1 h i j (by omega) hl hi') (by rw [he, hje])

set_option maxHeartbeats 4000000 in
set_option maxRecDepth 100000 in
theorem close_ring (x y : Nat) (w : World) (h : BAt w p pw bw pt bt m N W T D) (s : St n R W T B) (hd : Dis D B) (hB : B.length ≤ 1000) (hn : n ≤ 40) (hx : x < n) (hy : y < n) (hc : cnR R x y) (hid : ∀ e ∈ R, (Lit.int .i64 e.1).wf = true) :
    Calls Tryz.prog 56 #[.pointer (some ⟨p, 0, none⟩), .int .i64 (x : Int), .int .i64 (y : Int)] w fun e w' => e = .returned (.tuple #[]) ∧ ∃ ds D', (∀ e, e ∈ ds ↔ sepR R x y e) ∧ BAt w' p pw bw pt bt m N W (joins T ds) D' ∧ Dis D' (B.filter fun e => decide (e ∉ ds)) ∧ Bk bw bt m w w' := by
  have hplt := h.plt
  have hblt : bw < w.heap.size ∧ bt < w.heap.size ∧ m < w.heap.size := ⟨h.sw.blt, h.st.blt, h.hm.lt⟩
  have HW : Hid (∀ w', Below w.heap.size w w' → BAt w' p pw bw pt bt m N W T D) := fun w' hb => h.below hb
  obtain ⟨X, hX⟩ : ∃ X, T.getD x 0 = X := ⟨_, rfl⟩
  obtain ⟨Y, hY⟩ : ∃ Y, T.getD y 0 = Y := ⟨_, rfl⟩
  have hXn : X < n := by rw [← hX]; exact s.lab hx
  have hYn : Y < n := by rw [← hY]; exact s.lab hy
  have HX : Hid (T.getD x 0 = X ∧ T.getD X 0 = X) := ⟨hX, by rw [← hX]; exact s.gt.idem x hx⟩
  have HY : Hid (T.getD y 0 = Y ∧ T.getD Y 0 = Y) := ⟨hY, by rw [← hY]; exact s.gt.idem y hy⟩
  have HC : Hid (cnR R X Y) := by
    show cnR R X Y
    rw [← hX, ← hY]
    exact cn_trans (cn_symm (s.rep hx).1) (cn_trans hc (s.rep hy).1)
  have HS : Hid (St n R W T B) := s
  have HD : Hid (Dis D B) := hd
  have HID : Hid (∀ e ∈ R, (Lit.int .i64 e.1).wf = true) := hid
  clear h s hd hX hY hc hid
  go_enter Tryz.func56, Tryz.ntmps56
  go_wp2_with fail
  refine (part_n x w (HW.out w (Below.refl _ _)) HS.out.gt hx HX.out.1).mono ?_
  rintro e w1 ⟨rfl, b1⟩
  have B1 : Hid (Below w.heap.size w w1) := b1
  clear b1
  go_wp2_with fail
  refine (part_n y w1 (HW.out w1 B1.out) HS.out.gt hy HY.out.1).mono ?_
  rintro e w2 ⟨rfl, b2⟩
  have B2 : Hid (Below w.heap.size w w2) := B1.out.trans (b2.mono B1.out.size)
  clear b2 B1
  go_wp2_with fail
  refine (way_any 1000 HS.out HD.out (Nat.le_refl _) X Y (-1) (· ∈ R) B w2 (HW.out w2 B2.out) (.inl ⟨rfl, rfl⟩) (fun d hd _ _ => (HS.out.hB d).2 hd) hB hXn HX.out.2 hYn HY.out.2).mono ?_
  rintro e w3 ⟨b3, hpost⟩
  rcases hpost with ⟨_, v, ds, rfl, hway, hlen, hrow⟩ | ⟨hno, _⟩
  case inr => exact absurd HC.out hno
  obtain ⟨av, cap, rfl, hav⟩ := ids_shape hrow
  have B3 : Hid (Below w.heap.size w w3) := B2.out.trans (b3.mono B2.out.size)
  have hw2 := B2.out.size
  have HAV : Hid (0 < ds.length → ∃ g, av = some ⟨g, 0, none⟩ ∧ w.heap.size ≤ g ∧ g < w3.heap.size ∧ ∀ j e, ds[j]? = some e → w3.cell? ⟨g, j, none⟩ = some (.int .i64 e.1)) := fun hl => by
    obtain ⟨g, h1, h2, h3, h4⟩ := hav hl
    exact ⟨g, h1, by omega, h3, h4⟩
  have HWY : Hid (ds.Nodup ∧ ∀ e, e ∈ ds ↔ sepR R x y e) := ⟨hway.1, Way.ends HS.out hx hy (by rw [HX.out.1, HY.out.1]; exact hway)⟩
  have HWB : Hid (∀ e ∈ ds, e ∈ B) := Way.mem_B HS.out HC.out hway
  obtain ⟨len, hlen'⟩ : ∃ len, ds.length = len := ⟨_, rfl⟩
  have HLEN : Hid (ds.length = len) := hlen'
  rw [hlen'] at hlen ⊢
  clear hav hrow hway b3 B2 hw2 hlen'
  go_wp2_with fail
  go_loopw [9, 23] (fun _ s23 wq => ∃ j : Nat, j ≤ len ∧ s23 = .int .i64 j ∧ ∃ Dj, BAt wq p pw bw pt bt m N W (joins T (ds.take j)) Dj ∧ Dis Dj (B.filter fun e => decide (e ∉ ds.take j)) ∧ Bk bw bt m w3 wq) (fun _ s23 _ => len - (intOf s23).toNat)
  case atStart =>
    refine ⟨0, Nat.zero_le _, rfl, D, by simpa [joins] using HW.out w3 B3.out, ?_, Bk.refl _⟩
    have : (B.filter fun e => decide (e ∉ ds.take 0)) = B := by simp
    rw [this]; exact HD.out
  case round =>
    obtain ⟨j, hj, rfl, Dj, hbj, hdj, hkj⟩ := hrel
    by_cases hlt : j < len
    · obtain ⟨e, he⟩ : ∃ e, ds[j]? = some e := ⟨_, List.getElem?_eq_getElem (by rw [HLEN.out]; exact hlt)⟩
      obtain ⟨g, rfl, hg1, hg2, hg3⟩ := HAV.out (by rw [HLEN.out]; omega)
      have hcell : wr.cell? ⟨g, j, none⟩ = some (.int .i64 e.1) := hkj.cell (hg3 j e he) (by omega) (by omega) (by omega)
      have heB := HWB.out e (List.mem_of_getElem? he)
      have heR := ((HS.out.hB e).1 heB).1
      have hinn := HS.out.inn e heR
      have heF : e ∈ B.filter fun e => decide (e ∉ ds.take j) := List.mem_filter.2 ⟨heB, by simpa using nodup_take HWY.out.1 he⟩
      have hgood : Good n (joins T (ds.take j)) := good_joins _ T HS.out.gt (fun d hd => HS.out.inn d ((HS.out.hB d).1 (HWB.out d (List.mem_of_mem_take hd))).1)
      have HJ : Hid (joins T (ds.take (j + 1)) = joinL (joins T (ds.take j)) (ea e) (eb e)) := by
        show joins T (ds.take (j + 1)) = _
        rw [List.take_add_one, he]
        exact joins_append _ _ _
      have HDD : Hid (Dis (Dj.del (.int .i64 e.1)) (B.filter fun e => decide (e ∉ ds.take (j + 1)))) :=
        hdj.del e (fun d hd hde => HS.out.one d ((HS.out.hB d).1 (List.mem_filter.1 hd).1).1 e heR hde) (filter_step he)
      obtain ⟨J, hJ⟩ : ∃ J, J = joins T (ds.take j) := ⟨_, rfl⟩
      rw [← hJ] at hbj hgood
      have HJ' : Hid (joins T (ds.take (j + 1)) = joinL J (ea e) (eb e)) := by
        show joins T (ds.take (j + 1)) = joinL J (ea e) (eb e)
        rw [hJ]; exact HJ.out
      have HLK : Hid (∀ {W' T' : List Nat} {w' : World}, BAt w' p pw bw pt bt m N W' T' Dj → (Instr.lookup 77 (.map (some m)) (.int .i64 e.1) false).run Tryz.prog w' = .ok (.agg #[.int .i64 (ea e : Int), .int .i64 (eb e : Int)]) w') := fun hb => look_pair hb hdj heF (HID.out e heR) (HS.out.nat e heR)
      have hkey := key3 e.1 (HID.out e heR)
      have HKEY : Hid (keyOf Tryz.prog 3 (.int .i64 e.1) = some (.int .i64 e.1)) := hkey
      have HBJ : Hid (BAt wr p pw bw pt bt m N W J Dj) := hbj
      have HKJ : Hid (Bk bw bt m w3 wr) := hkj
      have hlk := HLK.out hbj.drew
      have hc1 : wr.drew.cell? ⟨p, 1, none⟩ = some (.pointer (some ⟨pt, 0, none⟩)) := hbj.drew.c1
      have hc2 : wr.drew.cell? ⟨p, 2, none⟩ = some (.map (some m)) := hbj.drew.c2
      have hA : ea e < J.length := by rw [hgood.len]; exact hinn.1
      have hBn : eb e < J.length := by rw [hgood.len]; exact hinn.2
      have hJl : J.length ≤ 40 := by rw [hgood.len]; exact hn
      clear hJ HJ hg3 heB heR hinn heF hgood hbj hdj hkj hkey
      generalize e.1 = x0 at *
      generalize ea e = A at *
      generalize eb e = E at *
      generalize hok : decide (J.getD A 0 ≠ J.getD E 0) = ok
      have HOK : Hid (decide (J.getD A 0 ≠ J.getD E 0) = ok) := hok
      clear hok he
      have hfa := field35a (A : Int) (E : Int)
      have hfb := field35b (A : Int) (E : Int)
      go_upto_region 4 with fail
      go_region_held (fun w' => w'.cell? ⟨p, 1, none⟩ = some (.pointer (some ⟨pt, 0, none⟩)) ∧ w'.cell? ⟨p, 2, none⟩ = some (.map (some m)) ∧ (Instr.lookup 77 (.map (some m)) (.int .i64 x0) false).run Tryz.prog w' = .ok (.agg #[.int .i64 (A : Int), .int .i64 (E : Int)]) w') (exact ⟨by assumption, by assumption, by assumption⟩)
        (first | (go_at_call 46; refine (join_nm A E pt bt J ok _ (by exact HBJ.out.drew.st) hA hBn hJl HOK.out).mono ?_; rintro e w4 ⟨rfl, hsj, hbt⟩; have hb4 := HBJ.out.drew.joinT hsj hbt; have d1 := hb4.c1; have d2 := hb4.c2; have d3 := HLK.out hb4))
      all_goals
        have hown := hb4.hm
        have HB4 : Hid (BAt w4 p pw bw pt bt m N W (joinL J A E) Dj) := hb4
        have HBT : Hid (Bk bw bt m wr w4) := (Bk.of_below ((Below.refl _ _).drew)).trans (Bk.of_t hbt)
        clear hb4 hbt hsj d3 hlk hfa hfb hc1 hc2 d1
        go_wp2_with (first
          | (at_delete; refine wpList_delete_own _ rfl _ _ 77 3 rfl 41 law3 Tryz.underlying77 _ m N Dj rfl hown _ _ rfl HKEY.out ?_; intro w5 hown5 hturn5; go_frame)
          | fail)
        have hgm := hturn5.grown
        have hb5 := HB4.out.mapped hown5 hgm
        rw [← HJ'.out] at hb5
        go_roundw
        case rel => exact ⟨j + 1, by omega, by go_num, _, hb5, HDD.out, (HKJ.out.trans HBT.out).trans (Bk.of_m hgm)⟩
        case measure => simp [intOf]; omega
    · have hje : j = len := by omega
      subst hje
      have HF : Hid (BAt wr p pw bw pt bt m N W (joins T ds) Dj ∧ Dis Dj (B.filter fun e => decide (e ∉ ds)) ∧ Bk bw bt m w wr) := by
        have ht : ds.take j = ds := by rw [← HLEN.out]; exact List.take_length
        rw [ht] at hbj hdj
        exact ⟨hbj, hdj, (Bk.of_below B3.out).trans hkj⟩
      clear hbj hdj hkj
      go_wp2_with fail
      go_end0
      exact ⟨rfl, ds, Dj, HWY.out.2, HF.out.1, HF.out.2.1, HF.out.2.2⟩

end Go.Proofs.YtigodbamphejmaaGreat.S
namespace Go.Proofs.YtigodbamphejmaaGreat.S
open Go.RowKit Go.WideMaps Go.Maps
variable {p pw bw pt bt m N n : Nat} {R B : List (Int × Int × Int)} {W T : List Nat} {D : DataW Unit}

theorem joinL_comm (L : List Nat) (x y : Nat) : joinL L x y = joinL L y x := by
  unfold joinL; rw [Nat.min_comm, Nat.max_comm]

/-- The edge as it is kept. -/
def edge (i : Int) (x y : Nat) : Int × Int × Int := (i, ((min x y : Nat) : Int), ((max x y : Nat) : Int))

theorem edge_nat (i : Int) (x y : Nat) : (edge i x y).2.1 = (ea (edge i x y) : Int) ∧ (edge i x y).2.2 = (eb (edge i x y) : Int) := by simp [edge, ea, eb]

theorem edge_ends (i : Int) (x y : Nat) : ea (edge i x y) = min x y ∧ eb (edge i x y) = max x y := by
  unfold edge ea eb
  exact ⟨by simp, by simp⟩

theorem edge_or (i : Int) (x y : Nat) : (ea (edge i x y) = x ∧ eb (edge i x y) = y) ∨ (ea (edge i x y) = y ∧ eb (edge i x y) = x) := by
  obtain ⟨h1, h2⟩ := edge_ends i x y
  rw [h1, h2]; omega

theorem sep_comm {R : List (Int × Int × Int)} {x y : Nat} (e : Int × Int × Int) : sepR R x y e ↔ sepR R y x e :=
  ⟨fun h => ⟨h.1, fun k => h.2 (cn_symm k)⟩, fun h => ⟨h.1, fun k => h.2 (cn_symm k)⟩⟩

/-- The value and what is known behind an edge. -/
structure Now (w : World) (p pw bw pt bt m N n : Nat) (R B : List (Int × Int × Int)) (W T : List Nat) (D : DataW Unit) : Prop where
  at_ : BAt w p pw bw pt bt m N W T D
  st : St n R W T B
  dis : Dis D B

theorem Now.below {w w' : World} (h : Now w p pw bw pt bt m N n R B W T D) (hb : Below w.heap.size w w') : Now w' p pw bw pt bt m N n R B W T D := ⟨h.at_.below hb, h.st, h.dis⟩

/-- What Add leaves. -/
def AddPost (w : World) (p pw bw pt bt m N n : Nat) (R B : List (Int × Int × Int)) (i : Int) (x y : Nat) (e : Ending) (w' : World) : Prop :=
  ∃ ok W' T' D' B' N', e = .returned (.tuple #[.bool ok, .nilIface]) ∧ Now w' p pw bw pt bt m N' n (R ++ [edge i x y]) B' W' T' D' ∧ B'.length ≤ B.length + 1 ∧ N' ≤ N + 1 ∧ Bk bw bt m w w' ∧ (ok = true ↔ edge i x y ∈ B')

theorem apart_now {w w' : World} {D' : DataW Unit} {N' : Nat} (h : Now w p pw bw pt bt m N n R B W T D) (i : Int) {x y : Nat} (hx : x < n) (hy : y < n) (hone : ∀ e ∈ R, e.1 ≠ i) (hne : W.getD x 0 ≠ W.getD y 0)
    (hb : BAt w' p pw bw pt bt m N' (joinL W x y) T D') (hD : D' = D.put (.int .i64 i) (pairD ((min x y : Nat) : Int) ((max x y : Nat) : Int))) :
    Now w' p pw bw pt bt m N' n (R ++ [edge i x y]) (B ++ [edge i x y]) (joinL W x y) T D' := by
  obtain ⟨h1, h2⟩ := edge_ends i x y
  have hmn : min x y < n := by omega
  have hmx : max x y < n := by omega
  have hj : joinL W (ea (edge i x y)) (eb (edge i x y)) = joinL W x y := by
    rcases edge_or i x y with ⟨a, b⟩ | ⟨a, b⟩ <;> rw [a, b]
    exact joinL_comm _ _ _
  have hs := h.st.apart (edge i x y) (by rw [h1]; exact hmn) (by rw [h2]; exact hmx) (edge_nat i x y) hone (by
    rcases edge_or i x y with ⟨a, b⟩ | ⟨a, b⟩ <;> rw [a, b]
    · exact hne
    · exact hne.symm)
  rw [hj] at hs
  refine ⟨hb, hs, ?_⟩
  rw [hD]
  exact h.dis.put h.at_.hm.isMap (edge i x y) (fun e he => hone e ((h.st.hB e).1 he).1)

theorem within_now {w w' : World} {D' : DataW Unit} {ds : List (Int × Int × Int)} (h : Now w p pw bw pt bt m N n R B W T D) (i : Int) {x y : Nat} (hx : x < n) (hy : y < n) (hone : ∀ e ∈ R, e.1 ≠ i) (he : W.getD x 0 = W.getD y 0)
    (hds : ∀ e, e ∈ ds ↔ sepR R x y e) (hb : BAt w' p pw bw pt bt m N W (joins T ds) D') (hd : Dis D' (B.filter fun e => decide (e ∉ ds))) :
    Now w' p pw bw pt bt m N n (R ++ [edge i x y]) (B.filter fun e => decide (e ∉ ds)) W (joins T ds) D' := by
  obtain ⟨h1, h2⟩ := edge_ends i x y
  refine ⟨hb, h.st.within (edge i x y) (by rw [h1]; omega) (by rw [h2]; omega) (edge_nat i x y) hone ?_ ?_ (fun e => by simp [List.mem_filter]), hd⟩
  · rcases edge_or i x y with ⟨a, b⟩ | ⟨a, b⟩ <;> rw [a, b]
    · exact he
    · exact he.symm
  · intro e
    rw [hds]
    rcases edge_or i x y with ⟨a, b⟩ | ⟨a, b⟩ <;> rw [a, b]
    exact sep_comm e

set_option maxHeartbeats 2000000 in
set_option maxRecDepth 100000 in
theorem badd_apart (i : Int) (x y : Nat) (w : World) (h : Now w p pw bw pt bt m N n R B W T D) (hx : x < n) (hy : y < n) (hn : n ≤ 40) (hN : N ≤ 1000) (hne : W.getD x 0 ≠ W.getD y 0) (hone : ∀ e ∈ R, e.1 ≠ i) (hwf : (Lit.int .i64 i).wf = true) :
    Calls Tryz.prog 30 #[.pointer (some ⟨p, 0, none⟩), .int .i64 i, .int .i64 (x : Int), .int .i64 (y : Int)] w (AddPost w p pw bw pt bt m N n R B i x y) := by
  have hxy : ((x : Int) == (y : Int)) = false := beq_eq_false_iff_ne.2 (fun e => hne (by rw [Int.ofNat_inj.1 e]))
  have hWl := h.st.gw.len
  have HH : Hid (Now w p pw bw pt bt m N n R B W T D) := h
  have HNE : Hid (W.getD x 0 ≠ W.getD y 0) := hne
  have HONE : Hid (∀ e ∈ R, e.1 ≠ i) := hone
  have HKEY : Hid (keyOf Tryz.prog 3 (.int .i64 i) = some (.int .i64 i)) := key3 i hwf
  have hlt := h.at_.plt
  clear h hne hone
  go_enter Tryz.func30, Tryz.ntmps30
  go_wp2_with fail
  refine (whole_in x y false w HH.out.at_ (by omega) (by omega) (beq_eq_false_iff_ne.2 (fun e => HNE.out (Int.ofNat_inj.1 e)))).mono ?_
  rintro e w1 ⟨rfl, b1⟩
  have hb1 := HH.out.at_.below b1
  have HB1 : Hid (BAt w1 p pw bw pt bt m N W T D) := hb1
  have B1 : Hid (Below w.heap.size w w1) := b1
  have hc0 := hb1.c0
  clear b1 hb1
  go_wp2_with fail
  refine (join_nm x y pw bw W true w1 HB1.out.sw (by omega) (by omega) (by omega) (decide_eq_true HNE.out)).mono ?_
  rintro e w2 ⟨rfl, hs2, k2⟩
  have hb2 := HB1.out.joinW hs2 k2
  have HB2 : Hid (BAt w2 p pw bw pt bt m N (joinL W x y) T D) := hb2
  have K2 : Hid (Bk bw bt m w w2) := (Bk.of_below B1.out).trans (Bk.of_w k2)
  have hown := hb2.hm
  have hc2 := hb2.c2
  clear hb2 hs2 k2 hc0
  go_wp2_with (first
    | (at_mapUpdate; refine wpList_mapUpdate_own _ rfl _ _ _ 77 rfl 3 41 law3 Tryz.underlying77 pairR m N D rfl hown (by unfold maxLen; omega) _ _ _ rfl rfl HKEY.out _ [] (pairR_mk _ _) ?_; intro w5 hown5 hgrow5)
    | fail)
  go_ret2
  refine ⟨true, _, _, _, _, _, rfl, apart_now HH.out i hx hy HONE.out HNE.out (HB2.out.mapped hown5 hgrow5) ?_, by simp, Nat.le_refl _, K2.out.trans (Bk.of_m hgrow5), by simp⟩
  have e1 : ((min x y : Nat) : Int) = min (x : Int) (y : Int) := by omega
  have e2 : ((max x y : Nat) : Int) = max (x : Int) (y : Int) := by omega
  rw [e1, e2]

set_option maxHeartbeats 2000000 in
set_option maxRecDepth 100000 in
theorem badd_within (i : Int) (x y : Nat) (w : World) (h : Now w p pw bw pt bt m N n R B W T D) (hx : x < n) (hy : y < n) (hxy : x ≠ y) (hn : n ≤ 40) (hB : B.length ≤ 1000) (he : W.getD x 0 = W.getD y 0) (hone : ∀ e ∈ R, e.1 ≠ i) (hid : ∀ e ∈ R, (Lit.int .i64 e.1).wf = true) :
    Calls Tryz.prog 30 #[.pointer (some ⟨p, 0, none⟩), .int .i64 i, .int .i64 (x : Int), .int .i64 (y : Int)] w (AddPost w p pw bw pt bt m N n R B i x y) := by
  have hxy' : ((x : Int) == (y : Int)) = false := beq_eq_false_iff_ne.2 (fun e => hxy (Int.ofNat_inj.1 e))
  have hWl := h.st.gw.len
  have HH : Hid (Now w p pw bw pt bt m N n R B W T D) := h
  have HE : Hid (W.getD x 0 = W.getD y 0) := he
  have HONE : Hid (∀ e ∈ R, e.1 ≠ i) := hone
  have HID : Hid (∀ e ∈ R, (Lit.int .i64 e.1).wf = true) := hid
  clear h he hone hid
  go_enter Tryz.func30, Tryz.ntmps30
  go_wp2_with fail
  refine (whole_in x y true w HH.out.at_ (by omega) (by omega) (by rw [HE.out]; simp)).mono ?_
  rintro e w1 ⟨rfl, b1⟩
  have HB1 : Hid (BAt w1 p pw bw pt bt m N W T D) := HH.out.at_.below b1
  have B1 : Hid (Below w.heap.size w w1) := b1
  clear b1
  go_wp2_with fail
  refine (close_ring x y w1 HB1.out HH.out.st HH.out.dis hB hn hx hy ((HH.out.st.hW x y).1 ((Lk.iff hx hy).2 HE.out)) HID.out).mono ?_
  rintro e w2 ⟨rfl, ds, D', hds, hb2, hd2, k2⟩
  have HX : Hid (Now w2 p pw bw pt bt m N n (R ++ [edge i x y]) (B.filter fun e => decide (e ∉ ds)) W (joins T ds) D' ∧ Bk bw bt m w w2) := ⟨within_now HH.out i hx hy HONE.out HE.out hds hb2 hd2, (Bk.of_below B1.out).trans k2⟩
  clear hds hb2 hd2 k2
  go_wp2
  go_ret2
  refine ⟨false, _, _, _, _, _, rfl, HX.out.1, ?_, Nat.le_succ _, HX.out.2, ?_⟩
  · have := List.length_filter_le (fun e => decide (e ∉ ds)) B
    omega
  · refine ⟨fun k => absurd k (by simp), fun k => ?_⟩
    have h1 := (HH.out.st.hB _).1 (List.mem_filter.1 k).1
    exact absurd rfl (HONE.out _ h1.1)

theorem badd_in (i : Int) (x y : Nat) (w : World) (h : Now w p pw bw pt bt m N n R B W T D) (hx : x < n) (hy : y < n) (hxy : x ≠ y) (hn : n ≤ 40) (hN : N ≤ 1000) (hB : B.length ≤ 1000) (hone : ∀ e ∈ R, e.1 ≠ i) (hwf : (Lit.int .i64 i).wf = true) (hid : ∀ e ∈ R, (Lit.int .i64 e.1).wf = true) :
    Calls Tryz.prog 30 #[.pointer (some ⟨p, 0, none⟩), .int .i64 i, .int .i64 (x : Int), .int .i64 (y : Int)] w (AddPost w p pw bw pt bt m N n R B i x y) := by
  by_cases he : W.getD x 0 = W.getD y 0
  · exact badd_within i x y w h hx hy hxy hn hB he hone hid
  · exact badd_apart i x y w h hx hy hn hN he hone hwf

end Go.Proofs.YtigodbamphejmaaGreat.S
namespace Go.Proofs.YtigodbamphejmaaGreat.S
open Go.RowKit Go.WideMaps Go.Maps

/-- A number is the least of its set. -/
def isLeast (L : List Nat) (x : Nat) : Bool := ((L.getD x 0 : Nat) : Int) == (x : Int)

theorem list_eq_of_getD {n : Nat} {A B : List Nat} (ha : A.length = n) (hb : B.length = n) (h : ∀ i, i < n → A.getD i 0 = B.getD i 0) : A = B := by
  apply List.ext_getElem
  · omega
  · intro i h1 h2
    have := h i (by omega)
    simpa [h1, h2] using this

theorem cnt_congr {f g : Nat → Bool} : ∀ n, (∀ i, i < n → f i = g i) → cnt f n = cnt g n
  | 0, _ => rfl
  | k + 1, h => by simp only [cnt]; rw [cnt_congr k (fun i hi => h i (by omega)), h k (by omega)]

theorem cnt_less {f g : Nat → Bool} (t : Nat) (hf : f t = true) (hg : g t = false) : ∀ n, (∀ i, i < n → i ≠ t → f i = g i) → t < n → cnt f n = cnt g n + 1
  | 0, _, h => by omega
  | k + 1, h, ht => by
    simp only [cnt]
    by_cases e : t = k
    · subst e
      rw [cnt_congr t (fun i hi => h i (by omega) (by omega)), hf, hg]; simp
    · rw [cnt_less t hf hg k (fun i hi hn => h i (by omega) hn) (by omega), h k (by omega) (by omega)]
      omega

theorem isLeast_iff (L : List Nat) (x : Nat) : isLeast L x = true ↔ L.getD x 0 = x := by
  unfold isLeast
  rw [beq_iff_eq]; omega

theorem isLeast_join {n : Nat} {L : List Nat} (g : Good n L) {x y : Nat} (hx : x < n) (hy : y < n) (hne : L.getD x 0 ≠ L.getD y 0) : cnt (isLeast L) n = cnt (isLeast (joinL L x y)) n + 1 := by
  have hlen := g.len
  have hmx : max (L.getD x 0) (L.getD y 0) < n := by have := g.le x hx; have := g.le y hy; omega
  have hhi : L.getD (max (L.getD x 0) (L.getD y 0)) 0 = max (L.getD x 0) (L.getD y 0) := by
    rcases Nat.le_total (L.getD x 0) (L.getD y 0) with h | h
    · rw [Nat.max_eq_right h]; exact g.idem y hy
    · rw [Nat.max_eq_left h]; exact g.idem x hx
  refine cnt_less (max (L.getD x 0) (L.getD y 0)) ((isLeast_iff _ _).2 hhi) ?_ n (fun i hi hn => ?_) hmx
  · rw [Bool.eq_false_iff]
    intro h
    rw [isLeast_iff, joinL_at _ _ _ _ (by omega), hhi] at h
    unfold named at h
    rw [if_pos rfl] at h
    omega
  · rw [Bool.eq_iff_iff, isLeast_iff, isLeast_iff, joinL_at _ _ _ _ (by omega)]
    have := g.le i hi
    unfold named
    split
    · next e => constructor <;> intro h <;> omega
    · exact Iff.rfl

theorem grps_length {n : Nat} {L : List Nat} (g : Good n L) : ∀ k, k ≤ n → (grps L k).length = cnt (isLeast L) k
  | 0, _ => rfl
  | k + 1, hk => by
    have ih := grps_length g k (by omega)
    have hs := grp_some g (x := k) (by omega)
    have hl := isLeast_iff L k
    have e := g.len
    simp only [cnt]
    by_cases h : grp L n k = []
    · have hn : isLeast L k = false := by
        rw [Bool.eq_false_iff]; intro h2; exact (hs.2 (hl.1 h2)) h
      rw [grps_succ_none L k (by rw [e]; exact h), ih, hn]; simp
    · rw [grps_succ_some L k (by rw [e]; exact h), List.length_append, ih, hl.2 (hs.1 h)]; simp

variable {n : Nat} {R B : List (Int × Int × Int)} {W T : List Nat}

/-- A row of least members hangs on what is alike alone. -/
theorem good_eq {L M : List Nat} (g : Good n L) (h : Good n M) (e : ∀ u v, Lk n L u v ↔ Lk n M u v) : L = M := by
  have key : ∀ {L M : List Nat}, Good n L → Good n M → (∀ u v, Lk n L u v ↔ Lk n M u v) → ∀ i, i < n → M.getD i 0 ≤ L.getD i 0 := by
    intro L M g h e i hi
    have hl : L.getD i 0 < n := Nat.lt_of_le_of_lt (g.le i hi) hi
    have h1 : Lk n L (L.getD i 0) i := (Lk.iff hl hi).2 (g.idem i hi)
    have h2 := (Lk.iff hl hi).1 ((e _ _).1 h1)
    rw [← h2]
    exact h.le _ hl
  refine list_eq_of_getD g.len h.len (fun i hi => ?_)
  have h1 := key g h e i hi
  have h2 := key h g (fun u v => (e u v).symm) i hi
  omega

/-- Each join puts two together. -/
def Eff (L : List Nat) : List (Int × Int × Int) → Prop
  | [] => True
  | d :: ds => L.getD (ea d) 0 ≠ L.getD (eb d) 0 ∧ Eff (joinL L (ea d) (eb d)) ds

theorem eff_count : ∀ (ds : List (Int × Int × Int)) (L : List Nat), Good n L → (∀ d ∈ ds, ea d < n ∧ eb d < n) → Eff L ds → cnt (isLeast L) n = cnt (isLeast (joins L ds)) n + ds.length
  | [], _, _, _, _ => rfl
  | d :: ds, L, g, hd, he => by
    have h1 := hd d List.mem_cons_self
    have ih := eff_count ds _ (good_join g h1.1 h1.2) (fun e h => hd e (List.mem_cons_of_mem _ h)) he.2
    have h2 := isLeast_join g h1.1 h1.2 he.1
    show cnt (isLeast L) n = cnt (isLeast (joins (joinL L (ea d) (eb d)) ds)) n + (d :: ds).length
    rw [List.length_cons]
    omega

theorem eff_bridges (s : St n R W T B) : ∀ (ds done : List (Int × Int × Int)), (done ++ ds).Nodup → (∀ e ∈ done ++ ds, e ∈ B) → Eff (joins T done) ds
  | [], _, _, _ => trivial
  | d :: ds, done, hnd, hB => by
    have hin : ∀ e ∈ done, ea e < n ∧ eb e < n := fun e he => s.inn e ((s.hB e).1 (hB e (List.mem_append_left _ he))).1
    have hdB := (s.hB d).1 (hB d (by simp))
    have hd := s.inn d hdB.1
    refine ⟨fun k => ?_, ?_⟩
    · have h1 := (Lk_joins done T s.gt hin).1 ((Lk.iff hd.1 hd.2).2 k)
      refine hdB.2 (Conn.lift h1 ?_)
      rintro x y (h | ⟨e, he, rfl, rfl⟩)
      · exact ((s.hT x y).1 h).2 d hdB.1
      · refine cn_edge ⟨((s.hB e).1 (hB e (List.mem_append_left _ he))).1, ?_⟩
        rintro rfl
        rw [List.nodup_append] at hnd
        exact hnd.2.2 e he e (by simp) rfl
    · have e1 : joinL (joins T done) (ea d) (eb d) = joins T (done ++ [d]) := by rw [joins_append]; rfl
      rw [e1]
      refine eff_bridges s ds (done ++ [d]) ?_ ?_
      · rw [List.append_assoc]; exact hnd
      · intro e he
        rw [List.append_assoc] at he
        exact hB e he

/-- All bridges over the parts that no one edge parts: what is held together. -/
theorem bridges_all (s : St n R W T B) : joins T B = W := by
  have hin : ∀ e ∈ B, ea e < n ∧ eb e < n := fun e he => s.inn e ((s.hB e).1 he).1
  refine good_eq (good_joins B T s.gt hin) s.gw (fun u v => ?_)
  rw [Lk_joins B T s.gt hin, s.hW]
  constructor
  · intro h
    refine Conn.lift h ?_
    rintro x y (h | ⟨e, he, rfl, rfl⟩)
    · exact ((s.hT x y).1 h).1
    · exact cn_edge ((s.hB e).1 he).1
  · intro h
    refine Conn.lift h ?_
    rintro _ _ ⟨e, he, rfl, rfl⟩
    rcases br_or (a := ea) (b := eb) (T := (· ∈ R)) he with k | k
    · exact Conn.base (.inr ⟨e, (s.hB e).2 k, rfl, rfl⟩)
    · exact Conn.base (.inl ((s.hT _ _).2 k))

theorem count_all (s : St n R W T B) (hB : B.Nodup) : (grps T n).length = (grps W n).length + B.length := by
  rw [grps_length s.gt n (Nat.le_refl _), grps_length s.gw n (Nat.le_refl _)]
  have h1 := eff_count B T s.gt (fun e he => s.inn e ((s.hB e).1 he).1) (eff_bridges s B [] (by simpa using hB) (by simp))
  rw [bridges_all s] at h1
  exact h1

/-- The bridges, as they stand among the edges. -/
def brs (R B : List (Int × Int × Int)) : List (Int × Int × Int) := R.filter fun e => decide (e ∈ B)

theorem mem_brs (s : St n R W T B) (e : Int × Int × Int) : e ∈ brs R B ↔ brR R e := by
  unfold brs
  rw [List.mem_filter, decide_eq_true_eq, s.hB]
  exact ⟨fun h => h.2, fun h => ⟨h.1, h⟩⟩

theorem St.brs (s : St n R W T B) : St n R W T (brs R B) := { s with hB := mem_brs s }

/-- The numbers of the edges are unlike. -/
def Unl (R : List (Int × Int × Int)) : Prop := R.Pairwise fun x y => x.1 ≠ y.1

theorem idsOf_nodup (h : Unl R) : (idsOf R B).Nodup := by
  unfold idsOf
  rw [List.Nodup, List.pairwise_map]
  exact List.Pairwise.filter _ h

theorem brs_nodup (h : Unl R) : (brs R B).Nodup := (List.Pairwise.filter _ h).imp (fun h e => h (by rw [e]))

theorem ids_count (s : St n R W T B) (h : Unl R) : (grps T n).length = (grps W n).length + (idsOf R B).length := by
  have := count_all s.brs (brs_nodup h)
  rw [this]
  unfold idsOf brs
  rw [List.length_map]

/-- The numbers of the bridges, rising. -/
def ups (R B : List (Int × Int × Int)) : List Int := (idsOf R B).mergeSort fun x y => decide (x ≤ y)

theorem ups_length (R B : List (Int × Int × Int)) : (ups R B).length = (idsOf R B).length := by
  unfold ups; exact List.length_mergeSort _

theorem mem_idsOf (s : St n R W T B) (x : Int) : x ∈ idsOf R B ↔ ∃ e, brR R e ∧ e.1 = x := by
  unfold idsOf
  rw [List.mem_map]
  constructor
  · rintro ⟨e, he, rfl⟩; exact ⟨e, (mem_brs s e).1 he, rfl⟩
  · rintro ⟨e, he, rfl⟩; exact ⟨e, (mem_brs s e).2 he, rfl⟩

/-- What is known hangs on the edges alone. -/
theorem same_all {R' B' : List (Int × Int × Int)} {W' T' : List Nat} (s : St n R W T B) (s' : St n R' W' T' B') (hp : R.Perm R') (h : Unl R) : W = W' ∧ T = T' ∧ ups R B = ups R' B' := by
  have hm : (fun e => e ∈ R) = fun e => e ∈ R' := by funext e; exact propext hp.mem_iff
  have h' : Unl R' := hp.pairwise h (fun {a b} k => k.symm)
  refine ⟨good_eq s.gw s'.gw (fun u v => ?_), good_eq s.gt s'.gt (fun u v => ?_), ?_⟩
  · rw [s.hW, s'.hW]; simp only [cnR]; rw [hm]
  · rw [s.hT, s'.hT]; simp only [twR]; rw [hm]
  · unfold ups
    refine mergeSort_of_perm_i ((List.perm_ext_iff_of_nodup (idsOf_nodup h) (idsOf_nodup h')).2 fun x => ?_)
    rw [mem_idsOf s, mem_idsOf s']
    simp only [brR]
    rw [hm]

end Go.Proofs.YtigodbamphejmaaGreat.S
