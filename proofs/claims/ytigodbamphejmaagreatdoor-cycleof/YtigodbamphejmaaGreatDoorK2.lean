/- The contracts of graph's Other and of package block's gather. -/
import Derived.Test.YtigodbamphejmaaGreatDoorK1
namespace Go.Proofs.YtigodbamphejmaaGreatDoor.S
open Go.RowKit Go.WideMaps Go.Maps

/-- The places of a node's edges. -/
def plc (R : List (Int × Int × Int)) (x : Nat) : List Nat := (List.range R.length).filter fun i => decide (tch (R.getD i (0, 0, 0)) x)

theorem list_places (R : List (Int × Int × Int)) : (List.range R.length).map (fun i => R.getD i (0, 0, 0)) = R := by
  apply List.ext_getElem
  · simp
  · intro i h1 h2
    simp [h2]

theorem at_places {n M : Nat} {R : List (Int × Int × Int)} (h : Ed n M R) (x : Nat) : R.filter (G.ofNode (x : Int)) = (plc R x).map fun i => R.getD i (0, 0, 0) := by
  have h1 : R.filter (G.ofNode (x : Int)) = R.filter fun e => decide (tch e x) := by
    apply List.filter_congr
    intro e he
    have hn := h.nat he
    unfold G.ofNode
    rw [hn.1, hn.2.1, Bool.eq_iff_iff]
    simp only [Bool.or_eq_true, beq_iff_eq, decide_eq_true_eq]
    unfold tch
    omega
  rw [h1]
  unfold plc
  conv => lhs; rw [← list_places R]
  rw [List.filter_map]
  rfl

theorem mem_plc {R : List (Int × Int × Int)} {x i : Nat} : i ∈ plc R x ↔ ∃ e, R[i]? = some e ∧ tch e x := by
  unfold plc
  rw [List.mem_filter, List.mem_range, decide_eq_true_eq]
  constructor
  · rintro ⟨h1, h2⟩
    refine ⟨R[i], List.getElem?_eq_getElem h1, ?_⟩
    simpa [h1] using h2
  · rintro ⟨e, he, ht⟩
    refine ⟨(List.getElem?_eq_some_iff.1 he).1, ?_⟩
    rw [getD_of he]; exact ht

theorem plc_len (R : List (Int × Int × Int)) (x : Nat) : (plc R x).length ≤ R.length := by
  unfold plc
  exact Nat.le_trans (List.length_filter_le _ _) (by simp)

set_option maxHeartbeats 400000 in
theorem other_any (x0 : Int) (A E x z : Nat) (w : World) (hz : (if x = A then E else A) = z) :
    Calls Tryz.prog 94 #[.agg #[.int .i64 x0, .int .i64 (A : Int), .int .i64 (E : Int)], .int .i64 (x : Int)] w fun e w' => e = .returned (.int .i64 (z : Int)) ∧ Below w.heap.size w w' := by
  by_cases h : x = A
  · rw [if_pos h] at hz
    subst hz h
    go_enter Tryz.func94, Tryz.ntmps94
    go_wp2
    go_ret
    exact ⟨rfl, (Below.refl _ _).alloc (Nat.le_refl _) _⟩
  · rw [if_neg h] at hz
    subst hz
    have hne : ((x : Int) == (A : Int)) = false := beq_eq_false_iff_ne.2 (by omega)
    go_enter Tryz.func94, Tryz.ntmps94
    go_wp2
    go_ret
    exact ⟨rfl, (Below.refl _ _).alloc (Nat.le_refl _) _⟩

/-- The map of the first edges of the parts at a node. -/
structure Fm (D : DataW Unit) (R : List (Int × Int × Int)) (ks : List (Nat × Nat)) : Prop where
  key : ∀ z : Nat, Maps.has D (.int .i64 (z : Int)) = true ↔ ∃ p ∈ ks, p.1 = z
  val : ∀ p ∈ ks, ∀ zd, D.atKey (.int .i64 (p.1 : Int)) zd = .lit (.int .i64 (idAt R p.2))
  tidy : Tidy D
  size : Maps.size D = ks.length

theorem Fm.start (R : List (Int × Int × Int)) : Fm (.map []) R [] := ⟨fun z => by simp [Maps.has], by simp, tidy_empty, rfl⟩

theorem Fm.put {D : DataW Unit} {R : List (Int × Int × Int)} {ks : List (Nat × Nat)} (h : Fm D R ks) (z i : Nat) (hno : ∀ p ∈ ks, p.1 ≠ z) : Fm (D.put (.int .i64 (z : Int)) (.lit (.int .i64 (idAt R i)))) R (ks ++ [(z, i)]) := by
  have hnh : Maps.has D (.int .i64 (z : Int)) = false := by
    rw [Bool.eq_false_iff]
    intro c
    obtain ⟨p, hp, hpz⟩ := (h.key z).1 c
    exact hno p hp hpz
  refine ⟨fun y => ?_, fun p hp zd => ?_, h.tidy.put (isKeyLit _) _, ?_⟩
  · by_cases c : y = z
    · subst c
      rw [has_put_same h.tidy.isMap (isKeyLit _)]
      exact ⟨fun _ => ⟨(y, i), by simp, rfl⟩, fun _ => rfl⟩
    · rw [has_put_other (by simp; omega), h.key]
      constructor
      · rintro ⟨p, hp, hpy⟩; exact ⟨p, List.mem_append_left _ hp, hpy⟩
      · rintro ⟨p, hp, hpy⟩
        rcases List.mem_append.1 hp with hp | hp
        · exact ⟨p, hp, hpy⟩
        · rw [List.mem_singleton.1 hp] at hpy; exact absurd hpy.symm c
  · rcases List.mem_append.1 hp with hp | hp
    · have := hno p hp
      rw [atKey_put_other (by simp; omega)]; exact h.val p hp zd
    · rw [List.mem_singleton.1 hp, atKey_put_same h.tidy.isMap (isKeyLit _)]
  · rw [size_put h.tidy, hnh, h.size]; simp

/-- A node parts. -/
def cutP (R : List (Int × Int × Int)) (x : Nat) : Prop := ∃ e ∈ R, ∃ f ∈ R, tch e x ∧ tch f x ∧ ¬ cnR (wo R x) (ot e x) (ot f x)

theorem Bk.below_new {a b c : Nat} {w0 w w' : World} (h : Below w0.heap.size w0 w) (k : Bk a b c w w') (h1 : w0.heap.size ≤ a) (h2 : w0.heap.size ≤ b) (h3 : w0.heap.size ≤ c) : Below w0.heap.size w0 w' :=
  ⟨k.os.trans h.os, k.tape.trans h.tape, k.output.trans h.output, Nat.le_trans h.size k.size, fun j hj => (k.block j (Nat.lt_of_lt_of_le hj h.size) (by omega) (by omega) (by omega)).trans (h.block j hj)⟩

theorem SetsAt.bk {a b c p q : Nat} {L : List Nat} {w w' : World} (h : SetsAt w p q L) (k : Bk a b c w w') (h1 : p ≠ a ∧ p ≠ b ∧ p ≠ c) (h2 : q ≠ a ∧ q ≠ b ∧ q ≠ c) : SetsAt w' p q L :=
  ⟨by rw [k.block p h.plt h1.1 h1.2.1 h1.2.2]; exact h.hp, by rw [k.block q h.blt h2.1 h2.2.1 h2.2.2]; exact h.hb⟩

set_option maxHeartbeats 4000000 in
set_option maxRecDepth 100000 in
theorem gather_any (x n B0 q M p m N : Nat) (u v : Value) (R : List (Int × Int × Int)) (L : List Nat) (D : DataW Unit) (w : World) (h : G.GAt w B0 124 55 q (n : Int) u R) (hn : n ≤ 40) (hx : x < n) (hed : Ed n M R) (hM : M ≤ 100)
    (hb : BlAt w p m N D v) (hl : Lm D R L) (hs : Bs R x [] L) :
    Calls Tryz.prog 59 #[.pointer (some ⟨p, 0, none⟩), .pointer (some ⟨q, 0, none⟩), .int .i64 (x : Int)] w fun e w' => ∃ (k : Nat) (D' : DataW Unit) (L' : List Nat), e = .returned (.int .i64 (k : Int)) ∧ BlAt w' p m N D' v ∧ Lm D' R L' ∧ Bs R (x + 1) [] L' ∧ But m w w' ∧ (1 < k ↔ cutP R x) := by
  have hpm := hb.ne
  have hpw := hb.plt
  have hmw := hb.hm.lt
  have hlen := hed.len
  have hpl := plc_len R x
  have HG : Hid (G.GAt w B0 124 55 q (n : Int) u R) := h
  have HE : Hid (Ed n M R) := hed
  have HB : Hid (BlAt w p m N D v) := hb
  have HL : Hid (Lm D R L) := hl
  have HS : Hid (Bs R x [] L) := hs
  have HID : Hid (∀ e ∈ R, 0 ≤ e.1 ∧ e.1 ≤ 1000000) := fun e he => by have := hed.ids e he; omega
  clear h hed hb hl hs
  go_enter Tryz.func59, Tryz.ntmps59
  go_wp2_with fail
  refine (G.at_in (x : Int) (n : Int) B0 q u R w HG.out (by omega) (by omega)).mono ?_
  rintro e w1 ⟨v1, rfl, ho1, hb1⟩
  rw [at_places HE.out] at ho1
  obtain ⟨va, vc, hv⟩ := ho1.slice_len
  obtain ⟨len, hlenv⟩ : ∃ len, (plc R x).length = len := ⟨_, rfl⟩
  rw [List.length_map, hlenv] at hv
  rw [hlenv] at hpl
  subst hv
  have HLEN : Hid ((plc R x).length = len) := hlenv
  have HO1 : Hid (G.Owns w1 w.heap.size 55 (.slice va len vc) ((plc R x).map fun i => R.getD i (0, 0, 0)) ∧ Below w.heap.size w w1) := ⟨ho1, hb1⟩
  clear ho1 hb1 hlenv
  go_wp2_with fail
  refine (bwo_any x n B0 q M u R w1 (HG.out.below HO1.out.2) hn HE.out hM).mono ?_
  rintro e w2 ⟨ps, bs, K, rfl, hs2, hgK, hKx, hb2, hps, hbs⟩
  have hsz1 := HO1.out.2.size
  have HB2 : Hid (Below w.heap.size w w2) := HO1.out.2.trans (hb2.mono HO1.out.2.size)
  have HO2 : Hid (G.Owns w2 w.heap.size 55 (.slice va len vc) ((plc R x).map fun i => R.getD i (0, 0, 0))) := HO1.out.1.below hb2
  have HS2 : Hid (SetsAt w2 ps bs K ∧ Good n K ∧ Kx n R x K) := ⟨hs2, hgK, hKx⟩
  have hps2 := hs2.plt
  have hbs2 := hs2.blt
  -- the map
  obtain ⟨w3, hw3⟩ : ∃ w3, w3 = w2.alloc (.map #[] 0) := ⟨_, rfl⟩
  have hb3 : Below w2.heap.size w2 w3 := by rw [hw3]; exact (Below.refl _ _).alloc (Nat.le_refl _) _
  have hm3 : w3.ownsMap Tryz.prog 3 (plainElem (H := Unit) Tryz.prog 3) w2.heap.size 0 (.map []) := by rw [hw3]; exact World.ownsMap_made w2 _ _ _
  have HW3 : Hid (w2.alloc (.map #[] 0) = w3) := hw3.symm
  have HB3 : Hid (Below w.heap.size w w3 ∧ Below w2.heap.size w2 w3) := ⟨HB2.out.trans (hb3.mono HB2.out.size), hb3⟩
  have HM3 : Hid (w3.ownsMap Tryz.prog 3 (plainElem (H := Unit) Tryz.prog 3) w2.heap.size 0 (.map [])) := hm3
  have hsz2 := HB2.out.size
  have hmm := @run_makeMap Tryz.prog
  clear hs2 hgK hKx hb2 hw3 hb3 hm3 HO1
  go_wp2_with fail
  rw [HW3.out]
  clear hmm
  go_loopw [29] (fun s29 wq => ∃ (t N1 : Nat) (Dt Df : DataW Unit) (Lt : List Nat) (ks : List (Nat × Nat)), t ≤ len ∧ s29 = .int .i64 t ∧ BlAt wq p m N Dt v ∧ Lm Dt R Lt ∧ Bs R x ((plc R x).take t) Lt ∧ Gth R x K ((plc R x).take t) ks ∧ wq.ownsMap Tryz.prog 3 (plainElem Tryz.prog 3) w2.heap.size N1 Df ∧ N1 ≤ t ∧ Fm Df R ks ∧ Bk m w2.heap.size w2.heap.size w3 wq) (fun s29 _ => len - (intOf s29).toNat)
  case atStart => exact ⟨0, 0, D, .map [], L, [], Nat.zero_le _, rfl, HB.out.below HB3.out.1, HL.out, HS.out, gth_start R x K, HM3.out, Nat.le_refl _, Fm.start R, Bk.refl _⟩
  case round =>
    clear HB HL HS HM3
    obtain ⟨t, N1, Dt, Df, Lt, ks, ht, rfl, hbl, hlm, hbs', hgth, hmf, hN1, hfm, hbk⟩ := hrel
    have HBL : Hid (BlAt wr p m N Dt v ∧ Lm Dt R Lt) := ⟨hbl, hlm⟩
    have HBS : Hid (Bs R x ((plc R x).take t) Lt ∧ Gth R x K ((plc R x).take t) ks) := ⟨hbs', hgth⟩
    have HFM : Hid (wr.ownsMap Tryz.prog 3 (plainElem Tryz.prog 3) w2.heap.size N1 Df ∧ Fm Df R ks) := ⟨hmf, hfm⟩
    have HBK : Hid (Bk m w2.heap.size w2.heap.size w3 wr) := hbk
    clear hbl hlm hbs' hgth hmf hfm hbk
    by_cases hlt : t < len
    · obtain ⟨i, hi⟩ : ∃ i, (plc R x)[t]? = some i := ⟨_, List.getElem?_eq_getElem (by rw [HLEN.out]; exact hlt)⟩
      obtain ⟨e, he, hte⟩ := mem_plc.1 (List.mem_of_getElem? hi)
      have hnat := HE.out.nat (List.mem_of_getElem? he)
      have hxe : ((plc R x).map fun i => R.getD i (0, 0, 0))[t]? = some e := by rw [List.getElem?_map, hi]; simp [he]
      obtain ⟨g, hva⟩ : ∃ g, va = some ⟨g, 0, none⟩ := by
        rcases HO2.out.shape with ⟨_, k⟩ | ⟨g, cap, k, _⟩
        · rw [k] at hxe; simp at hxe
        · injection k with e1 _ _
          exact ⟨g, e1⟩
      subst hva
      have hO3 := HO2.out.below HB3.out.2
      obtain ⟨r0, r1, r2⟩ := hO3.at (g := g) rfl hxe
      have hgb := World.ownsRow.lt HO2.out g rfl
      have q0 := HBK.out.cell r0 (by omega) (by omega) (by omega)
      have q1 := HBK.out.cell r1 (by omega) (by omega) (by omega)
      have q2 := HBK.out.cell r2 (by omega) (by omega) (by omega)
      rw [hnat.1] at q1
      rw [hnat.2.1] at q2
      have HTK : Hid ((plc R x).take (t + 1) = (plc R x).take t ++ [i]) := by
        show (plc R x).take (t + 1) = _
        rw [List.take_add_one, hi]; rfl
      have HIE : Hid (R[i]? = some e ∧ tch e x) := ⟨he, hte⟩
      obtain ⟨z, hz⟩ : ∃ z, (if x = ea e then eb e else ea e) = z := ⟨_, rfl⟩
      have hzn : z < n := by rw [← hz]; have := hnat.2.2; split <;> omega
      obtain ⟨k, hk⟩ : ∃ k, K.getD z 0 = k := ⟨_, rfl⟩
      have HLB : Hid (lb R x K i = k) := by
        show lb R x K i = k
        unfold lb ot
        rw [getD_of he, hz, hk]
      have hkn : k < n := by rw [← hk]; exact Nat.lt_of_le_of_lt (HS2.out.2.1.le z hzn) hzn
      have hidw := HE.out.ids e (List.mem_of_getElem? he)
      have hwid0 : (Lit.int .i64 e.1).wf = true := wf_small hidw.1 (by omega)
      have hkey := key3 (k : Int) (wf_small (by omega) (by omega))
      obtain ⟨x0, hx0⟩ : ∃ x0, e.1 = x0 := ⟨_, rfl⟩
      obtain ⟨A, hA⟩ : ∃ A, ea e = A := ⟨_, rfl⟩
      obtain ⟨E, hE⟩ : ∃ E, eb e = E := ⟨_, rfl⟩
      have HXE : Hid (x0 = e.1) := hx0.symm
      rw [hA, hE] at hz
      have HZ : Hid ((if x = A then E else A) = z ∧ K.getD z 0 = k) := ⟨hz, hk⟩
      have hwid : (Lit.int .i64 x0).wf = true := by rw [← hx0]; exact hwid0
      rw [hx0] at q0
      rw [hA] at q1
      rw [hE] at q2
      -- the edge's box
      obtain ⟨W1, hW1⟩ : ∃ W1, W1 = wr.alloc (.cells #[.int .i64 x0, .int .i64 (A : Int), .int .i64 (E : Int)] 55) := ⟨_, rfl⟩
      have hh : W1.heap[wr.heap.size]? = some (.cells #[.int .i64 x0, .int .i64 (A : Int), .int .i64 (E : Int)] 55) := by rw [hW1]; exact heap_alloc_new wr _
      have hbW : Below wr.heap.size wr W1 := by rw [hW1]; exact (Below.refl _ _).alloc (Nat.le_refl _) _
      have HBX : Hid (W1.heap[wr.heap.size]? = some (.cells #[.int .i64 x0, .int .i64 (A : Int), .int .i64 (E : Int)] 55) ∧ Below wr.heap.size wr W1) := ⟨hh, hbW⟩
      have p0 : W1.cell? ⟨wr.heap.size, 0, none⟩ = some (.int .i64 x0) := by simp [World.cell?, hh]
      have p1 : W1.cell? ⟨wr.heap.size, 1, none⟩ = some (.int .i64 (A : Int)) := by simp [World.cell?, hh]
      have p2 : W1.cell? ⟨wr.heap.size, 2, none⟩ = some (.int .i64 (E : Int)) := by simp [World.cell?, hh]
      have HW1 : Hid (wr.alloc (.cells #[.int .i64 x0, .int .i64 (A : Int), .int .i64 (E : Int)] 55) = W1) := hW1.symm
      have hwr1 : wr.heap.size < W1.heap.size := lt_of_some hh
      have hwrs := HBK.out.size
      have hw3s := HB3.out.2.size
      clear hi he hte hnat hxe hO3 r0 r1 r2 hz hk hh hW1 hbW hidw hx0 hA hE hwid0
      go_wp2_with fail
      rw [HW1.out]
      refine (other_any x0 A E x z W1 HZ.out.1).mono ?_
      rintro e' w4 ⟨rfl, hb4⟩
      have HB4 : Hid (Below W1.heap.size W1 w4 ∧ Below wr.heap.size wr w4) := ⟨hb4, HBX.out.2.trans (hb4.mono HBX.out.2.size)⟩
      clear hb4 p0 p1 p2
      go_wp2_with fail
      refine (least_n z ps bs K w4 ((HS2.out.1.below HB3.out.2 hps2 hbs2 |>.bk HBK.out (by omega) (by omega)).below HB4.out.2 (by omega) (by omega)) HS2.out.2.1 hzn HZ.out.2).mono ?_
      rintro e' w5 ⟨rfl, hb5⟩
      have HB5 : Hid (Below wr.heap.size wr w5) := HB4.out.2.trans (hb5.mono HB4.out.2.size)
      have hh5 : w5.heap[wr.heap.size]? = some (.cells #[.int .i64 x0, .int .i64 (A : Int), .int .i64 (E : Int)] 55) := by
        rw [hb5.block _ (Nat.lt_of_lt_of_le hwr1 HB4.out.1.size), HB4.out.1.block _ hwr1]; exact HBX.out.1
      have p0 : w5.cell? ⟨wr.heap.size, 0, none⟩ = some (.int .i64 x0) := by simp [World.cell?, hh5]
      have hown : w5.ownsMap Tryz.prog 3 (plainElem Tryz.prog 3) w2.heap.size N1 Df := HFM.out.1.kept (row := none) ⟨HB5.out.os, HB5.out.tape, HB5.out.output, HB5.out.size, fun k hk _ => HB5.out.block k hk⟩ (by simp)
      have HBL5 : Hid (BlAt w5 p m N Dt v) := HBL.out.1.below HB5.out
      have HBK5 : Hid (Bk m w2.heap.size w2.heap.size w3 w5) := HBK.out.trans (Bk.of_below HB5.out)
      clear hb5 hh5 HB4 HBX HW1 hwr1
      by_cases hc : ∃ pq ∈ ks, pq.1 = k
      · as_aux_lemma =>
        obtain ⟨⟨k', j⟩, hpq, hk'⟩ := hc
        simp only at hk'
        subst hk'
        have hj := HBS.out.2.at_ _ hpq
        simp only at hj
        obtain ⟨f, hf, htf⟩ := mem_plc.1 (List.mem_of_mem_take hj.1)
        have hhas : Maps.has Df (.int .i64 (k' : Int)) = true := (HFM.out.2.key k').2 ⟨_, hpq, rfl⟩
        have hval := HFM.out.2.val _ hpq (.lit (.int .i64 0))
        simp only at hval
        rw [idAt_of hf] at hval
        have HVAL : Hid (Df.atKey (.int .i64 (k' : Int)) (.lit (.int .i64 0)) = .lit (.int .i64 f.1)) := hval
        have hrx : Rx R x j i := (Rx_lb HS2.out.2.2 HE.out.inn hf HIE.out.1 htf HIE.out.2).2 (by rw [hj.2, HLB.out])
        have HNX : Hid (Bs R x ((plc R x).take (t + 1)) (joinL Lt j i) ∧ Gth R x K ((plc R x).take (t + 1)) ks) := by
          rw [HTK.out]
          exact ⟨bs_join HBS.out.1 hj.1 hrx, gth_old HBS.out.2 hpq HLB.out.symm⟩
        have HF : Hid (R[j]? = some f) := hf
        have HHAS : Hid (Maps.has Df (.int .i64 (k' : Int)) = true) := hhas
        clear hj hf htf hhas hval hrx hpq
        go_wp2_with (first
          | (at_lookup; refine wpList_lookup_own_ok_int _ rfl _ _ 83 rfl 3 3 .i64 law3 Tryz.underlying83 Tryz.underlying3 (zero3 _) w2.heap.size N1 Df rfl hown _ _ rfl hkey ?_; intro c hat hwc; rw [HVAL.out] at hat; obtain rfl := lit_inj hat; rw [HHAS.out]; clear hat hwc)
          | fail)
        rw [HXE.out]
        refine (bjoin_any j i p m N Dt v w5 HBL5.out HBL.out.2 HBS.out.1.good HE.out.up HF.out HIE.out.1 HID.out).mono ?_
        rintro e' w6 ⟨rfl, D6, hb6, hl6, hk6⟩
        have hm6 : w6.ownsMap Tryz.prog 3 (plainElem Tryz.prog 3) w2.heap.size N1 Df := hown.kept (row := some m) ⟨hk6.os, hk6.tape, hk6.output, hk6.size, fun k hk hn => hk6.block k hk (fun c => hn (by rw [c]))⟩ (by simp; omega)
        have HR6 : Hid (BlAt w6 p m N D6 v ∧ Lm D6 R (joinL Lt j i) ∧ w6.ownsMap Tryz.prog 3 (plainElem Tryz.prog 3) w2.heap.size N1 Df ∧ Bk m w2.heap.size w2.heap.size w3 w6) := ⟨hb6, hl6, hm6, HBK5.out.trans (Bk.of_w hk6)⟩
        clear hb6 hl6 hk6 hm6 hown p0
        go_wp2_with fail
        go_roundw
        case rel => exact ⟨t + 1, N1, D6, Df, joinL Lt j i, ks, by omega, by go_num, HR6.out.1, HR6.out.2.1, HNX.out.1, HNX.out.2, HR6.out.2.2.1, by omega, HFM.out.2, HR6.out.2.2.2⟩
        case measure => simp [intOf]; omega
      · as_aux_lemma =>
        have hno : ∀ pq ∈ ks, pq.1 ≠ k := fun pq hp c => hc ⟨pq, hp, c⟩
        have hhas : Maps.has Df (.int .i64 (k : Int)) = false := by
          rw [Bool.eq_false_iff]
          intro c
          obtain ⟨pq, hp, hpk⟩ := (HFM.out.2.key k).1 c
          exact hno pq hp hpk
        have HHAS : Hid (Maps.has Df (.int .i64 (k : Int)) = false) := hhas
        have HVAL : Hid (Df.atKey (.int .i64 (k : Int)) (.lit (.int .i64 0)) = .lit (.int .i64 0)) := atKey_of_not_has hhas _
        have HNX : Hid (Bs R x ((plc R x).take (t + 1)) Lt ∧ Gth R x K ((plc R x).take (t + 1)) (ks ++ [(k, i)]) ∧ Fm (Df.put (.int .i64 (k : Int)) (.lit (.int .i64 x0))) R (ks ++ [(k, i)])) := by
          rw [HTK.out]
          refine ⟨bs_new HBS.out.1 (fun j hj hr => ?_), ?_, ?_⟩
          · obtain ⟨f, hf, htf⟩ := mem_plc.1 (List.mem_of_mem_take hj)
            obtain ⟨pq, hp, hpk⟩ := HBS.out.2.all j hj
            refine hno pq hp ?_
            rw [hpk, (Rx_lb HS2.out.2.2 HE.out.inn hf HIE.out.1 htf HIE.out.2).1 hr, HLB.out]
          · have := gth_new (i := i) HBS.out.2 (fun pq hp => by rw [HLB.out]; exact hno pq hp)
            rw [HLB.out] at this; exact this
          · have := HFM.out.2.put k i hno
            rw [idAt_of HIE.out.1, ← HXE.out] at this; exact this
        have hNm : N1 < maxLen := by unfold maxLen; omega
        clear hc hno hhas
        go_wp2_with (first
          | (at_lookup; refine wpList_lookup_own_ok_int _ rfl _ _ 83 rfl 3 3 .i64 law3 Tryz.underlying83 Tryz.underlying3 (zero3 _) w2.heap.size N1 Df rfl hown _ _ rfl hkey ?_; intro c hat hwc; rw [HVAL.out] at hat; obtain rfl := lit_inj hat; rw [HHAS.out]; clear hat hwc)
          | (at_mapUpdate; refine wpList_mapUpdate_own _ rfl _ _ _ 83 rfl 3 3 law3 Tryz.underlying83 (plainElem Tryz.prog 3) w2.heap.size N1 Df rfl hown hNm _ _ _ rfl rfl hkey _ [] (plainElem_int Tryz.underlying3 hwid) ?_; intro w6 hown6 hgrow6)
          | fail)
        go_roundw
        case rel => exact ⟨t + 1, N1 + 1, Dt, _, Lt, ks ++ [(k, i)], by omega, by go_num, ⟨by rw [hgrow6.block p HBL5.out.plt (by simp; omega)]; exact HBL5.out.hp, HBL5.out.hm.kept hgrow6 (by simp; omega)⟩, HBL.out.2, HNX.out.1, HNX.out.2.1, hown6, by omega, HNX.out.2.2, HBK5.out.trans (Bk.of_m hgrow6)⟩
        case measure => simp [intOf]; omega
    · have hte : t = len := by omega
      subst hte
      have htk : (plc R x).take t = plc R x := by rw [← HLEN.out]; exact List.take_length
      have hbs9 := HBS.out
      rw [htk] at hbs9
      have HBS9 : Hid (Bs R (x + 1) [] Lt) := bs_next hbs9.1 (fun i e he ht => mem_plc.2 ⟨e, he, ht⟩)
      have HCUT : Hid (1 < ks.length ↔ cutP R x) := gth_cut hbs9.2 HS2.out.2.2 HE.out.inn (fun i => mem_plc)
      have HBT : Hid (But m w wr) := ⟨HBK.out.os.trans HB3.out.1.os, HBK.out.tape.trans HB3.out.1.tape, HBK.out.output.trans HB3.out.1.output, Nat.le_trans HB3.out.1.size HBK.out.size, fun k hk hn => (HBK.out.block k (by have := HB3.out.1.size; omega) hn (by omega) (by omega)).trans (HB3.out.1.block k hk)⟩
      have hown := HFM.out.1
      have hsz := HFM.out.2.size
      have HSZ : Hid (Maps.size Df = ks.length) := hsz
      clear htk hbs9 hsz
      go_wp2_with (first
        | (at_len; refine wpList_len_own _ rfl _ 83 rfl 3 3 Tryz.underlying83 (plainElem Tryz.prog 3) w2.heap.size N1 Df rfl hown ?_)
        | fail)
      go_ret
      exact ⟨ks.length, Dt, Lt, by rw [HSZ.out]; rfl, HBL.out.1, HBL.out.2, HBS9.out, HBT.out, HCUT.out⟩

end Go.Proofs.YtigodbamphejmaaGreatDoor.S
namespace Go.Proofs.YtigodbamphejmaaGreatDoor.S
open Go.RowKit Go.WideMaps Go.Maps

theorem Lm.start : Lm (.map []) [] [] := ⟨fun x => by simp [Maps.has], fun i e h => by simp at h⟩

theorem Lm.snoc {D : DataW Unit} {R : List (Int × Int × Int)} {k : Nat} {e : Int × Int × Int} (hu : G.Up R) (hD : IsMap D) (h : Lm D (R.take k) (List.range k)) (he : R[k]? = some e) :
    Lm (D.put (.int .i64 e.1) (.lit (.int .i64 e.1))) (R.take (k + 1)) (List.range (k + 1)) := by
  have hk : k < R.length := (List.getElem?_eq_some_iff.1 he).1
  have ht : R.take (k + 1) = R.take k ++ [e] := by rw [List.take_add_one, he]; rfl
  have hne : ∀ i f, i < k → R[i]? = some f → f.1 ≠ e.1 := fun i f hi hf c => by
    have := (up_one hu hf he c).1; omega
  refine ⟨fun x => ?_, fun i f hf zd => ?_⟩
  · by_cases c : x = e.1
    · subst c
      rw [has_put_same hD (isKeyLit _)]
      exact ⟨fun _ => ⟨e, by rw [ht]; simp, rfl⟩, fun _ => rfl⟩
    · rw [has_put_other (by simpa using c), h.key]
      constructor
      · rintro ⟨f, hf, hx⟩; exact ⟨f, by rw [ht]; exact List.mem_append_left _ hf, hx⟩
      · rintro ⟨f, hf, hx⟩
        rw [ht] at hf
        rcases List.mem_append.1 hf with hf | hf
        · exact ⟨f, hf, hx⟩
        · rw [List.mem_singleton.1 hf] at hx; exact absurd hx.symm c
  · have hi : i < k + 1 := by have := (List.getElem?_eq_some_iff.1 hf).1; simp at this; omega
    rw [List.getElem?_take, if_pos hi] at hf
    have hid : idAt (R.take (k + 1)) ((List.range (k + 1)).getD i 0) = f.1 := by
      have e1 : (List.range (k + 1)).getD i 0 = i := by simp [hi]
      rw [e1]
      apply idAt_of
      rw [List.getElem?_take, if_pos hi]; exact hf
    rw [hid]
    by_cases c : i = k
    · subst c
      rw [he] at hf; cases hf
      rw [atKey_put_same hD (isKeyLit _)]
    · have hik : i < k := by omega
      rw [atKey_put_other (by simpa using hne i f hik hf)]
      have hf' : (R.take k)[i]? = some f := by rw [List.getElem?_take, if_pos hik]; exact hf
      rw [h.val i f hf' zd]
      have e2 : (List.range k).getD i 0 = i := by simp [hik]
      rw [e2, idAt_of hf']

/-- The nodes below x that part, rising. -/
structure CutsB (R : List (Int × Int × Int)) (x : Nat) (cs : List Nat) : Prop where
  up : cs.Pairwise (· < ·)
  mem : ∀ y, y ∈ cs ↔ y < x ∧ cutP R y

theorem CutsB.start (R : List (Int × Int × Int)) : CutsB R 0 [] := ⟨.nil, fun y => by simp⟩
theorem CutsB.yes {R : List (Int × Int × Int)} {x : Nat} {cs : List Nat} (h : CutsB R x cs) (hc : cutP R x) : CutsB R (x + 1) (cs ++ [x]) := by
  refine ⟨?_, fun y => ?_⟩
  · rw [List.pairwise_append]
    exact ⟨h.up, List.pairwise_singleton _ _, fun a ha b hb => by rw [List.mem_singleton.1 hb]; exact ((h.mem a).1 ha).1⟩
  · rw [List.mem_append, h.mem, List.mem_singleton]
    constructor
    · rintro (⟨h1, h2⟩ | rfl)
      · exact ⟨by omega, h2⟩
      · exact ⟨by omega, hc⟩
    · rintro ⟨h1, h2⟩
      by_cases c : y = x
      · exact .inr c
      · exact .inl ⟨by omega, h2⟩
theorem CutsB.no {R : List (Int × Int × Int)} {x : Nat} {cs : List Nat} (h : CutsB R x cs) (hc : ¬ cutP R x) : CutsB R (x + 1) cs := by
  refine ⟨h.up, fun y => ?_⟩
  rw [h.mem]
  constructor
  · rintro ⟨h1, h2⟩; exact ⟨by omega, h2⟩
  · rintro ⟨h1, h2⟩
    by_cases c : y = x
    · subst c; exact absurd h2 hc
    · exact ⟨by omega, h2⟩
theorem rise_len : ∀ (cs : List Nat) (lo x : Nat), cs.Pairwise (· < ·) → (∀ y ∈ cs, lo ≤ y ∧ y < x) → cs.length ≤ x - lo
  | [], _, _, _, _ => by simp
  | a :: cs, lo, x, hp, hm => by
    have h1 := List.pairwise_cons.1 hp
    have ha := hm a (by simp)
    have := rise_len cs (a + 1) x h1.2 (fun y hy => ⟨h1.1 y hy, (hm y (List.mem_cons_of_mem _ hy)).2⟩)
    simp; omega
theorem CutsB.len {R : List (Int × Int × Int)} {x : Nat} {cs : List Nat} (h : CutsB R x cs) : cs.length ≤ x := by
  have := rise_len cs 0 x h.up (fun y hy => ⟨Nat.zero_le _, ((h.mem y).1 hy).1⟩)
  omega

/-- A row of numbers as values. -/
def natsV (l : List Nat) : List Value := l.map fun x : Nat => .int .i64 (x : Int)

theorem gat_but {w w' : World} {B0 gT eT q m : Nat} {n : Int} {u : Value} {L : List (Int × Int × Int)} (h : G.GAt w B0 gT eT q n u L) (k : But m w w') (hm : ∃ es c, w.heap[m]? = some (.map es c)) : G.GAt w' B0 gT eT q n u L := by
  obtain ⟨es, c, hm⟩ := hm
  refine ⟨?_, ⟨h.row.1, ?_⟩, h.ne⟩
  · rw [k.block q h.plt (by rintro rfl; have := h.hp.symm.trans hm; simp at this)]; exact h.hp
  · rcases h.row.2 with hn | ⟨g, cap, cur, rfl, hB, hg, rest⟩
    · exact .inl hn
    · refine .inr ⟨g, cap, cur, rfl, hB, ?_, rest⟩
      rw [k.block g (lt_of_some hg) (by rintro rfl; have := hg.symm.trans hm; simp at this)]
      exact hg

theorem row_slice {w : World} {base e s : Nat} {v : Value} {n : Nat} {xs : List Value} (h : w.ownsRow base e s v n xs) : ∃ a c, v = .slice a n c := by
  rcases h.2 with ⟨rfl, rfl⟩ | ⟨g, cap, cur, rfl, _⟩
  · exact ⟨none, 0, rfl⟩
  · exact ⟨_, cap, rfl⟩

theorem BlAt.store {w : World} {p m N : Nat} {D : DataW Unit} {v : Value} (h : BlAt w p m N D v) (v' : Value) : BlAt (w.setCell ⟨p, 1, none⟩ v') p m N D v' := by
  refine ⟨?_, h.hm.setCell (Ne.symm h.ne) _⟩
  simp only [World.setCell, Array.getElem?_modify, h.hp]
  simp

/-- A graph is kept while a row of numbers grows. -/
theorem gat_row {w w' : World} {B0 gT q base k : Nat} {n : Int} {u v : Value} {L : List (Int × Int × Int)} {xs : List Value} (h : G.GAt w B0 gT 55 q n u L) (hg : w.grownBy w' v.ownBlock) (hr : w.ownsRow base 3 1 v k xs) (hgT : gT ≠ 3 := by decide) : G.GAt w' B0 gT 55 q n u L := by
  have hne : ∀ g cur t, w.heap[g]? = some (.cells cur t) → t ≠ 3 → some g ≠ v.ownBlock := by
    intro g cur t hc ht he
    rcases hr.2 with ⟨rfl, _⟩ | ⟨g', cap, cur', rfl, _, hg', _⟩
    · simp [Value.ownBlock] at he
    · simp only [Value.ownBlock, Option.some.injEq] at he
      subst he
      rw [hc] at hg'
      injection hg' with hg'
      injection hg' with _ hg' _
      exact ht hg'
  refine ⟨?_, ⟨h.row.1, ?_⟩, h.ne⟩
  · rw [hg.block q h.plt (hne q _ gT h.hp hgT)]; exact h.hp
  · rcases h.row.2 with hn | ⟨g, cap, cur, rfl, hB, hg', rest⟩
    · exact .inl hn
    · refine .inr ⟨g, cap, cur, rfl, hB, ?_, rest⟩
      rw [hg.block g (lt_of_some hg') (hne g _ 55 hg' (by decide))]
      exact hg'

theorem gat_but' {w w' : World} {B0 q p : Nat} {n : Int} {u : Value} {L : List (Int × Int × Int)} {cs : Array Value} (h : G.GAt w B0 124 55 q n u L) (k : But p w w') (hp : w.heap[p]? = some (.cells cs 85)) : G.GAt w' B0 124 55 q n u L := by
  refine ⟨?_, ⟨h.row.1, ?_⟩, h.ne⟩
  · rw [k.block q h.plt (by rintro rfl; have := h.hp.symm.trans hp; simp at this)]; exact h.hp
  · rcases h.row.2 with hn | ⟨g, cap, cur, rfl, hB, hg, rest⟩
    · exact .inl hn
    · refine .inr ⟨g, cap, cur, rfl, hB, ?_, rest⟩
      rw [k.block g (lt_of_some hg) (by rintro rfl; have := hg.symm.trans hp; simp at this)]
      exact hg

/-- What Of hands back. -/
def OfPost (R : List (Int × Int × Int)) (n : Nat) (w : World) (e : Ending) (w' : World) : Prop :=
  ∃ (p m N : Nat) (D : DataW Unit) (v : Value) (L cs : List Nat), e = .returned (.pointer (some ⟨p, 0, none⟩)) ∧ BlAt w' p m N D v ∧ N ≤ 100 ∧ Lm D R L ∧ Bs R n [] L ∧ CutsB R n cs ∧ w'.ownsRow w.heap.size 3 1 v cs.length (natsV cs) ∧ Below w.heap.size w w'

set_option maxHeartbeats 4000000 in
set_option maxRecDepth 100000 in
theorem bof_any (n B0 q M : Nat) (u : Value) (R : List (Int × Int × Int)) (w : World) (h : G.GAt w B0 124 55 q (n : Int) u R) (hn : n ≤ 40) (hed : Ed n M R) (hM : M ≤ 100) :
    Calls Tryz.prog 22 #[.pointer (some ⟨q, 0, none⟩)] w (OfPost R n w) := by
  have hlen := hed.len
  have HG : Hid (G.GAt w B0 124 55 q (n : Int) u R) := h
  have HE : Hid (Ed n M R) := hed
  have hmm := @run_makeMap Tryz.prog
  -- the value
  obtain ⟨w1, hw1⟩ : ∃ w1, w1 = (w.alloc (.map #[] 0)).alloc (.cells #[.map (some w.heap.size), .slice none 0 0] 85) := ⟨_, rfl⟩
  have hb1 : Below w.heap.size w w1 := by rw [hw1]; exact ((Below.refl _ _).alloc (Nat.le_refl _) _).alloc (by simp) _
  have hbl1 : BlAt w1 (w.heap.size + 1) w.heap.size 0 (.map []) (.slice none 0 0) := by
    rw [hw1]
    refine ⟨?_, (World.ownsMap_made w _ _ _).alloc _⟩
    have := heap_alloc_new (w.alloc (.map #[] 0)) (.cells #[.map (some w.heap.size), .slice none 0 0] 85)
    rw [World.size_alloc] at this; exact this
  have HW1 : Hid ((w.alloc (.map #[] 0)).alloc (.cells #[.map (some w.heap.size), .slice none 0 0] 85) = w1) := hw1.symm
  have HBL1 : Hid (BlAt w1 (w.heap.size + 1) w.heap.size 0 (.map []) (.slice none 0 0) ∧ Below w.heap.size w w1) := ⟨hbl1, hb1⟩
  have hw1s := hbl1.plt
  clear h hed hw1 hb1 hbl1
  go_enter Tryz.func22, Tryz.ntmps22
  go_wp2_with fail
  rw [HW1.out]
  refine (G.edges_any (n : Int) B0 q u R w1 (HG.out.below HBL1.out.2) (by omega)).mono ?_
  rintro e w2 ⟨vr, rfl, ho, hb2⟩
  obtain ⟨len, hm⟩ : ∃ len, R.length = len := ⟨_, rfl⟩
  have HLEN : Hid (R.length = len) := hm
  obtain ⟨va, vc, hv⟩ := ho.slice_len
  rw [hm] at hv hlen
  subst hv
  have HO : Hid (G.Owns w2 w1.heap.size 55 (.slice va len vc) R) := ho
  have HBL2 : Hid (BlAt w2 (w.heap.size + 1) w.heap.size 0 (.map []) (.slice none 0 0) ∧ Below w.heap.size w w2) := ⟨HBL1.out.1.below hb2, HBL1.out.2.trans (hb2.mono HBL1.out.2.size)⟩
  have hw2s := hb2.size
  clear ho hb2 hm hmm
  go_wp2_with fail
  go_loopw [13] (fun s13 wq => ∃ (j : Nat) (Dj : DataW Unit), j ≤ len ∧ s13 = .int .i64 j ∧ BlAt wq (w.heap.size + 1) w.heap.size j Dj (.slice none 0 0) ∧ Lm Dj (R.take j) (List.range j) ∧ But w.heap.size w2 wq) (fun s13 _ => len - (intOf s13).toNat)
  case atStart => exact ⟨0, _, Nat.zero_le _, rfl, HBL2.out.1, Lm.start, But.refl _ _⟩
  case round =>
    obtain ⟨j, Dj, hj, rfl, hbl, hlm, hbt⟩ := hrel
    have HBL : Hid (BlAt wr (w.heap.size + 1) w.heap.size j Dj (.slice none 0 0) ∧ Lm Dj (R.take j) (List.range j) ∧ But w.heap.size w2 wr) := ⟨hbl, hlm, hbt⟩
    clear hbl hlm hbt
    by_cases hlt : j < len
    · obtain ⟨e, hx⟩ : ∃ e, R[j]? = some e := ⟨_, List.getElem?_eq_getElem (by rw [HLEN.out]; exact hlt)⟩
      have hnat := HE.out.nat (List.mem_of_getElem? hx)
      have hids := HE.out.ids e (List.mem_of_getElem? hx)
      obtain ⟨g, hva⟩ : ∃ g, va = some ⟨g, 0, none⟩ := by
        rcases HO.out.shape with ⟨_, k⟩ | ⟨g, cap, k, _⟩
        · rw [k] at hx; simp at hx
        · injection k with e1 _ _
          exact ⟨g, e1⟩
      subst hva
      obtain ⟨r0, r1, r2⟩ := HO.out.at (g := g) rfl hx
      have hgb := World.ownsRow.lt HO.out g rfl
      have q0 := HBL.out.2.2.cell r0 (by omega)
      have q1 := HBL.out.2.2.cell r1 (by omega)
      have q2 := HBL.out.2.2.cell r2 (by omega)
      have HLM : Hid (Lm (Dj.put (.int .i64 e.1) (.lit (.int .i64 e.1))) (R.take (j + 1)) (List.range (j + 1))) := Lm.snoc HE.out.up HBL.out.1.hm.isMap HBL.out.2.1 hx
      have hwid : (Lit.int .i64 e.1).wf = true := wf_small hids.1 (by omega)
      generalize e.1 = x0 at *
      generalize e.2.1 = x1 at *
      generalize e.2.2 = x2 at *
      -- the edge's box
      obtain ⟨W1, hW1⟩ : ∃ W1, W1 = wr.alloc (.cells #[.int .i64 x0, .int .i64 x1, .int .i64 x2] 55) := ⟨_, rfl⟩
      have hh : W1.heap[wr.heap.size]? = some (.cells #[.int .i64 x0, .int .i64 x1, .int .i64 x2] 55) := by rw [hW1]; exact heap_alloc_new wr _
      have hbW : Below wr.heap.size wr W1 := by rw [hW1]; exact (Below.refl _ _).alloc (Nat.le_refl _) _
      have p0 : W1.drew.cell? ⟨wr.heap.size, 0, none⟩ = some (.int .i64 x0) := by
        show W1.cell? ⟨wr.heap.size, 0, none⟩ = _
        simp [World.cell?, hh]
      have hblW := HBL.out.1.below hbW
      have c0 : W1.drew.cell? ⟨w.heap.size + 1, 0, none⟩ = some (.map (some w.heap.size)) := hblW.c0
      obtain ⟨W2, hup, hown2, hgr2⟩ := World.ownsMap.update (w := W1.drew) (hblW.hm) law3 Tryz.underlying83 (by unfold maxLen; omega) (key3 x0 hwid) (plainElem_int Tryz.underlying3 hwid)
      have HR2 : Hid (BlAt W2 (w.heap.size + 1) w.heap.size (j + 1) (Dj.put (.int .i64 x0) (.lit (.int .i64 x0))) (.slice none 0 0) ∧ But w.heap.size w2 W2) :=
        ⟨⟨(hgr2.block _ hblW.plt (by simp)).trans hblW.hp, hown2⟩, (HBL.out.2.2.trans (But.of_below hbW)).trans ⟨hgr2.os, hgr2.tape, hgr2.output, hgr2.size, fun k hk hn => hgr2.block k hk (fun c => hn (by injection c))⟩⟩
      have HW1 : Hid (wr.alloc (.cells #[.int .i64 x0, .int .i64 x1, .int .i64 x2] 55) = W1) := hW1.symm
      clear hx hnat hids r0 r1 r2 hW1 hh hbW hblW hown2 hgr2 hwid HBL
      go_upto_region 5 with fail
      rw [HW1.out]
      go_region
      all_goals
        go_wp2_with fail
        go_roundw
        case rel => exact ⟨j + 1, _, by omega, by go_num, HR2.out.1, HLM.out, HR2.out.2⟩
        case measure => simp [intOf]; omega
    · have hje : j = len := by omega
      subst hje
      have htk : R.take j = R := List.take_of_length_le (by rw [HLEN.out]; exact Nat.le_refl _)
      have hbl9 := HBL.out
      rw [htk] at hbl9
      have hBt : Below w.heap.size w wr := HBL2.out.2.trans (hbl9.2.2.below (Nat.le_refl _) HBL2.out.2.size)
      have HF : Hid (BlAt wr (w.heap.size + 1) w.heap.size j Dj (.slice none 0 0) ∧ Lm Dj R (List.range R.length) ∧ Below w.heap.size w wr ∧ G.GAt wr B0 124 55 q (n : Int) u R) := ⟨hbl9.1, by rw [HLEN.out]; exact hbl9.2.1, hBt, HG.out.below hBt⟩
      obtain ⟨i0, hi0, hz0, hz1, hz2⟩ := info_parts Tryz.info3
      clear htk hbl9 hBt HBL HBL2 HO HBL1 HW1
      generalize wr = W0 at *
      go_wp2_with fail
      refine (G.nodes_any (n : Int) B0 q u R W0 HF.out.2.2.2).mono ?_
      rintro e w3 ⟨rfl, hw3⟩
      subst hw3
      go_wp2_with fail
      go_loopw [28] (fun s28 wq => ∃ (x : Nat) (Dx : DataW Unit) (Lx cs : List Nat) (v : Value), x ≤ n ∧ CutsB R x cs ∧ s28 = .int .i64 x ∧ G.GAt wq B0 124 55 q (n : Int) u R ∧ BlAt wq (w.heap.size + 1) w.heap.size j Dx v ∧ Lm Dx R Lx ∧ Bs R x [] Lx ∧ wq.ownsRow w.heap.size 3 1 v cs.length (natsV cs) ∧ v.ownBlock ≠ some (w.heap.size + 1) ∧ v.ownBlock ≠ some w.heap.size ∧ Below w.heap.size w wq) (fun s28 _ => n - (intOf s28).toNat)
      case atStart => exact ⟨0, Dj, _, [], _, Nat.zero_le _, CutsB.start R, rfl, HF.out.2.2.2, HF.out.1, HF.out.2.1, bs_start R, World.ownsRow_nil _ _ _ _, by simp [Value.ownBlock], by simp [Value.ownBlock], HF.out.2.2.1⟩
      case round =>
        clear HF
        obtain ⟨x, Dx, Lx, cs, v, hx, hcs, rfl, hgx, hbx, hlx, hsx, hox, hv1, hv2, hBx⟩ := hrel
        have HX : Hid (G.GAt wr B0 124 55 q (n : Int) u R ∧ BlAt wr (w.heap.size + 1) w.heap.size j Dx v ∧ Lm Dx R Lx ∧ Bs R x [] Lx) := ⟨hgx, hbx, hlx, hsx⟩
        have HOX : Hid (wr.ownsRow w.heap.size 3 1 v cs.length (natsV cs) ∧ v.ownBlock ≠ some (w.heap.size + 1) ∧ v.ownBlock ≠ some w.heap.size ∧ Below w.heap.size w wr) := ⟨hox, hv1, hv2, hBx⟩
        have HCS : Hid (CutsB R x cs) := hcs
        clear hgx hbx hlx hsx hox hv1 hv2 hBx hcs
        by_cases hlt2 : x < n
        · go_wp2_with fail
          refine (gather_any x n B0 q M _ _ j u v R Lx Dx wr HX.out.1 hn hlt2 HE.out hM HX.out.2.1 HX.out.2.2.1 HX.out.2.2.2).mono ?_
          rintro e w4 ⟨k, D4, L4, rfl, hb4, hl4, hs4, hk4, hcut4⟩
          have hg4 := gat_but HX.out.1 hk4 (by obtain ⟨es, c, hb, _⟩ := HX.out.2.1.hm; exact ⟨es, c, hb⟩)
          have hgr4 : wr.grownBy w4 (some w.heap.size) := ⟨hk4.os, hk4.tape, hk4.output, hk4.size, fun i hi hne => hk4.block i hi (fun c => hne (by rw [c]))⟩
          have ho4 := HOX.out.1.kept hgr4 (.inr HOX.out.2.2.1)
          have hB4 : Below w.heap.size w w4 := HOX.out.2.2.2.trans (hk4.below (Nat.le_refl _) HOX.out.2.2.2.size)
          have H4 : Hid (G.GAt w4 B0 124 55 q (n : Int) u R ∧ BlAt w4 (w.heap.size + 1) w.heap.size j D4 v ∧ Lm D4 R L4 ∧ Bs R (x + 1) [] L4 ∧ Below w.heap.size w w4) := ⟨hg4, hb4, hl4, hs4, hB4⟩
          have HOV : Hid (v.ownBlock ≠ some (w.heap.size + 1) ∧ v.ownBlock ≠ some w.heap.size) := ⟨HOX.out.2.1, HOX.out.2.2.1⟩
          have HCUT : Hid (1 < k ↔ cutP R x) := hcut4
          clear hk4 hcut4 hg4 hgr4 hl4 hs4 HX HOX
          by_cases hk1 : 1 < k
          · as_aux_lemma =>
            have HC : Hid (CutsB R (x + 1) (cs ++ [x])) := HCS.out.yes (HCUT.out.1 hk1)
            have hcl := HCS.out.len
            have hc1 := hb4.c1
            have hpl := hb4.plt
            have hsz := hB4.size
            have HFZ : Hid (∀ w', (w4.alloc (.cells #[.int .i64 (x : Int)] 3)).grownBy w' v.ownBlock → w'.heap[w.heap.size + 1]? = some (.cells #[.map (some w.heap.size), v] 85)) := fun w' hg => by
              rw [hg.block _ (by simp; omega) (fun c => HOV.out.1 c.symm), Below.heap_alloc _ _ _ hpl]; exact hb4.hp
            have HO4 : Hid (w4.ownsRow w.heap.size 3 1 v cs.length (natsV cs)) := ho4
            clear hb4 hB4 HCUT
            go_wp2_with (first
              | (at_builtin; refine wpList_append_own_at _ rfl _ _ 39 rfl w.heap.size 3 i0 (.int .i64 0) 1 8 Tryz.underlying39 hi0 hz0 hz1 hz2 rfl (by decide) v _ _ rfl (ho4.alloc _) ⟨w4.heap.size, 0, none⟩ 1 1 [.int .i64 (x : Int)] rfl rfl (cell_one_new _ _ _) (ints_oneCell .i64 [(x : Int)]) (by unfold maxLen; omega) (by omega) (by simp; omega) ?_; intro v5 w5 hown5 hgrow5 hnil5 hloc5; obtain ⟨a5, c5, rfl⟩ := row_slice hown5; have hp5 := HFZ.out w5 hgrow5; have hf5 : w5.frozen? ⟨w.heap.size + 1, 1, none⟩ = false := (by simp [World.frozen?, hp5]); have hc5 : w5.cell? ⟨w.heap.size + 1, 1, none⟩ = some v := (by simp [World.cell?, hp5]))
              | fail)
            have hbl5 : BlAt w5 (w.heap.size + 1) w.heap.size j D4 v := ⟨hp5, (H4.out.2.1.hm.alloc _).kept hgrow5 (fun c => HOV.out.2 c.symm)⟩
            have hg5 : G.GAt w5 B0 124 55 q (n : Int) u R := gat_row (H4.out.1.below ((Below.refl _ _).alloc (Nat.le_refl _) _)) hgrow5 (HO4.out.alloc _)
            have hB5 : Below w.heap.size w w5 := (H4.out.2.2.2.2.trans (((Below.refl _ _).alloc (Nat.le_refl _) _).mono H4.out.2.2.2.2.size)).grown hgrow5 (by simp; omega) (fun i hi => (World.ownsRow.lt HO4.out i hi).1)
            have hne5 : (Value.slice a5 (cs.length + 1) c5).ownBlock ≠ some (w.heap.size + 1) ∧ (Value.slice a5 (cs.length + 1) c5).ownBlock ≠ some w.heap.size := by
              rcases hloc5 with c | c
              · rw [c]; exact HOV.out
              · rw [c]; refine ⟨?_, ?_⟩ <;> simp <;> omega
            have hbt : But (w.heap.size + 1) w5 (w5.setCell ⟨w.heap.size + 1, 1, none⟩ (.slice a5 (cs.length + 1) c5)) := (But.refl _ _).setCell _ _
            have HR6 : Hid (G.GAt (w5.setCell ⟨w.heap.size + 1, 1, none⟩ (.slice a5 (cs.length + 1) c5)) B0 124 55 q (n : Int) u R ∧ BlAt (w5.setCell ⟨w.heap.size + 1, 1, none⟩ (.slice a5 (cs.length + 1) c5)) (w.heap.size + 1) w.heap.size j D4 (.slice a5 (cs.length + 1) c5) ∧ (w5.setCell ⟨w.heap.size + 1, 1, none⟩ (.slice a5 (cs.length + 1) c5)).ownsRow w.heap.size 3 1 (.slice a5 (cs.length + 1) c5) (cs ++ [x]).length (natsV (cs ++ [x])) ∧ Below w.heap.size w (w5.setCell ⟨w.heap.size + 1, 1, none⟩ (.slice a5 (cs.length + 1) c5))) := by
              refine ⟨gat_but' hg5 hbt hp5, hbl5.store _, ?_, hB5.trans (hbt.below (by omega) hB5.size)⟩
              have := hown5.kept (w' := w5.setCell ⟨w.heap.size + 1, 1, none⟩ (.slice a5 (cs.length + 1) c5)) (row := some (w.heap.size + 1)) ⟨hbt.os, hbt.tape, hbt.output, hbt.size, fun i hi hne => hbt.block i hi (fun c => hne (by rw [c]))⟩ (.inr hne5.1)
              simpa [natsV] using this
            have HNE : Hid ((Value.slice a5 (cs.length + 1) c5).ownBlock ≠ some (w.heap.size + 1) ∧ (Value.slice a5 (cs.length + 1) c5).ownBlock ≠ some w.heap.size) := hne5
            clear hbl5 hg5 hB5 hne5 hbt hown5 hgrow5 hnil5 hloc5 hp5 hf5 hc5
            generalize w5.setCell ⟨w.heap.size + 1, 1, none⟩ (.slice a5 (cs.length + 1) c5) = w6 at *
            go_wp2_with fail
            go_roundw
            case rel => exact ⟨x + 1, D4, L4, cs ++ [x], _, by omega, HC.out, by go_num, HR6.out.1, HR6.out.2.1, H4.out.2.2.1, H4.out.2.2.2.1, HR6.out.2.2.1, HNE.out.1, HNE.out.2, HR6.out.2.2.2⟩
            case measure => simp [intOf]; omega
          · as_aux_lemma =>
            have HC : Hid (CutsB R (x + 1) cs) := HCS.out.no (fun c => hk1 (HCUT.out.2 c))
            have HO4 : Hid (w4.ownsRow w.heap.size 3 1 v cs.length (natsV cs)) := ho4
            clear hb4 hB4 HCUT ho4
            go_wp2_with fail
            go_roundw
            case rel => exact ⟨x + 1, D4, L4, cs, v, by omega, HC.out, by go_num, H4.out.1, H4.out.2.1, H4.out.2.2.1, H4.out.2.2.2.1, HO4.out, HOV.out.1, HOV.out.2, H4.out.2.2.2.2⟩
            case measure => simp [intOf]; omega
        · have hxe : x = n := by omega
          subst hxe
          go_wp2_with fail
          go_ret
          exact ⟨_, _, j, Dx, v, Lx, cs, rfl, HX.out.2.1, by omega, HX.out.2.2.1, HX.out.2.2.2, HCS.out, HOX.out.1, HOX.out.2.2.2⟩

end Go.Proofs.YtigodbamphejmaaGreatDoor.S
namespace Go.Proofs
open Go.Shelf
def Tryz.keysL_ren : Go.Shelf.Ren := ⟨fun | 7 => 61 | 10 => 96 | n => n, fun | 23 => 83 | 26 => 3 | 3 => 3 | 28 => 77 | 0 => 0 | 27 => 76 | 33 => 106 | 4 => 4 | n => n, fun | n => n⟩
theorem Tryz.keysL : Go.Proofs.SlLaysZI.n7 Tryz.prog Tryz.keysL_ren := {
  mixed := by kernel_rfl
  f7 := ⟨Tryz.f61.name, by decide, Tryz.func61.trans (congrArg some (by kernel_rfl))⟩
  f10 := ⟨Tryz.f96.name, by decide, Tryz.func96.trans (congrArg some (by kernel_rfl))⟩
  t0 := Tryz.underlying0
  a0 := Tryz.isAgg0
  z0 := Tryz.sizeOf0
  v0 := Tryz.zeroValue0
  t4 := Tryz.underlying4
  a4 := Tryz.isAgg4
  z4 := Tryz.sizeOf4
  v4 := Tryz.zeroValue4
  t23 := Tryz.underlying83
  a23 := Tryz.isAgg83
  z23 := Tryz.sizeOf83
  v23 := Tryz.zeroValue83
  t26 := Tryz.underlying3
  a26 := Tryz.isAgg3
  z26 := Tryz.sizeOf3
  v26 := Tryz.zeroValue3
  t27 := Tryz.underlying76
  a27 := Tryz.isAgg76
  z27 := Tryz.sizeOf76
  v27 := Tryz.zeroValue76
  t28 := Tryz.underlying77
  a28 := Tryz.isAgg77
  z28 := Tryz.sizeOf77
  v28 := Tryz.zeroValue77
  t33 := Tryz.underlying106
  a33 := Tryz.isAgg106
  z33 := Tryz.sizeOf106
  v33 := Tryz.zeroValue106 }
def Tryz.keysG_ren : Go.Shelf.Ren := ⟨fun | 7 => 62 | 10 => 97 | n => n, fun | 23 => 89 | 26 => 3 | 3 => 39 | 28 => 77 | 0 => 0 | 27 => 76 | 33 => 106 | 4 => 4 | n => n, fun | n => n⟩
theorem Tryz.keysG : Go.Proofs.SlLaysZI.n7 Tryz.prog Tryz.keysG_ren := {
  mixed := by kernel_rfl
  f7 := ⟨Tryz.f62.name, by decide, Tryz.func62.trans (congrArg some (by kernel_rfl))⟩
  f10 := ⟨Tryz.f97.name, by decide, Tryz.func97.trans (congrArg some (by kernel_rfl))⟩
  t0 := Tryz.underlying0
  a0 := Tryz.isAgg0
  z0 := Tryz.sizeOf0
  v0 := Tryz.zeroValue0
  t4 := Tryz.underlying4
  a4 := Tryz.isAgg4
  z4 := Tryz.sizeOf4
  v4 := Tryz.zeroValue4
  t23 := Tryz.underlying89
  a23 := Tryz.isAgg89
  z23 := Tryz.sizeOf89
  v23 := Tryz.zeroValue89
  t26 := Tryz.underlying3
  a26 := Tryz.isAgg3
  z26 := Tryz.sizeOf3
  v26 := Tryz.zeroValue3
  t27 := Tryz.underlying76
  a27 := Tryz.isAgg76
  z27 := Tryz.sizeOf76
  v27 := Tryz.zeroValue76
  t28 := Tryz.underlying77
  a28 := Tryz.isAgg77
  z28 := Tryz.sizeOf77
  v28 := Tryz.zeroValue77
  t33 := Tryz.underlying106
  a33 := Tryz.isAgg106
  z33 := Tryz.sizeOf106
  v33 := Tryz.zeroValue106 }
end Go.Proofs

namespace Go.Proofs.YtigodbamphejmaaGreatDoor.S
open Go.RowKit Go.WideMaps Go.Maps Go.Shelf

theorem keysL_any (mb : Option Nat) (W : World) : Calls Tryz.prog 61 #[.map mb] W fun e w' => e = .returned (.func (.func 96) #[] #[.pointer (some ⟨W.heap.size, 0, none⟩)]) ∧ w' = W.alloc (.cells #[.map mb] 83) :=
  (callsIn_wide (n := 5)).1 (AnyZI.keys_in Tryz.keysL Fence.wide 5 trivial rfl mb W)

set_option maxHeartbeats 1000000 in
theorem keysL_sorted (R : Value → Option (DataW Unit × List MemPlace)) (m N : Nat) (D : DataW Unit) (w : World) (hown : w.ownsMap Tryz.prog 3 R m N D) (hN : N ≤ 1000) :
    Calls Tryz.prog 48 #[.func (.func 96) #[] #[.pointer (some ⟨w.heap.size, 0, none⟩)]] (w.alloc (.cells #[.map (some m)] 83)) fun e w' => ∃ (v : Value) (ss : List Int), e = .returned v ∧ ss.Perm (intKeys D) ∧
      w'.ownsRow w.heap.size 3 1 v ss.length ((ss.mergeSort (fun x y => decide (x ≤ y))).map encZ) ∧ Below w.heap.size w w' := by
  have hmax : Maps.size D ≤ maxLen := Nat.le_trans hown.size_le (by unfold maxLen; omega)
  have hbytes : Maps.size D * 8 ≤ 140737488355328 := by have := hown.size_le; omega
  have hbl := hown.lt
  have hseq : SeqGives Fence.wide 2 Tryz.prog 96 #[.pointer (some ⟨w.heap.size, 0, none⟩)] encZ (fun ss => ss.Perm (intKeys D)) (Maps.size D) (w.alloc (.cells #[.map (some m)] 83)) :=
    AnyZI.keys_gives (ρ := Tryz.keysL_ren) { Tryz.keysL with } Fence.wide _ trivial rfl (by omega) w.heap.size m N D _ (by simp) (by simp) (by
      obtain ⟨es, clock, hb, Ft, hs, hD⟩ := hown
      exact ⟨es, clock, (Below.heap_alloc _ _ m hbl).trans hb, Ft, hs, hD⟩)
  have cS := AnyZI.sorted_in Tryz.sortedA Fence.wide 5 trivial trivial trivial trivial rfl (by omega) (sortsA _) (enters_of Tryz.func84 (by kernel_rfl) rfl) 96 #[.pointer (some ⟨w.heap.size, 0, none⟩)] trivial (enters_of Tryz.func96 (by kernel_rfl) rfl) _ _ hmax hbytes _ hseq
  change CallsIn _ _ Tryz.prog 48 _ _ _ at cS
  refine (callsIn_wide.1 cS).mono ?_
  rintro e w' ⟨v, ss, rfl, hS, hrow, hnil, hb⟩
  exact ⟨v, ss, rfl, hS, ownsRow_base_a hrow (by simp), ((Below.refl _ w).alloc (Nat.le_refl _) _).trans (hb.mono (by simp))⟩

theorem keysG_any (mb : Option Nat) (W : World) : Calls Tryz.prog 62 #[.map mb] W fun e w' => e = .returned (.func (.func 97) #[] #[.pointer (some ⟨W.heap.size, 0, none⟩)]) ∧ w' = W.alloc (.cells #[.map mb] 89) :=
  (callsIn_wide (n := 5)).1 (AnyZI.keys_in Tryz.keysG Fence.wide 5 trivial rfl mb W)

set_option maxHeartbeats 1000000 in
theorem keysG_sorted (R : Value → Option (DataW Unit × List MemPlace)) (m N : Nat) (D : DataW Unit) (w : World) (hown : w.ownsMap Tryz.prog 3 R m N D) (hN : N ≤ 1000) :
    Calls Tryz.prog 48 #[.func (.func 97) #[] #[.pointer (some ⟨w.heap.size, 0, none⟩)]] (w.alloc (.cells #[.map (some m)] 89)) fun e w' => ∃ (v : Value) (ss : List Int), e = .returned v ∧ ss.Perm (intKeys D) ∧
      w'.ownsRow w.heap.size 3 1 v ss.length ((ss.mergeSort (fun x y => decide (x ≤ y))).map encZ) ∧ Below w.heap.size w w' := by
  have hmax : Maps.size D ≤ maxLen := Nat.le_trans hown.size_le (by unfold maxLen; omega)
  have hbytes : Maps.size D * 8 ≤ 140737488355328 := by have := hown.size_le; omega
  have hbl := hown.lt
  have hseq : SeqGives Fence.wide 2 Tryz.prog 97 #[.pointer (some ⟨w.heap.size, 0, none⟩)] encZ (fun ss => ss.Perm (intKeys D)) (Maps.size D) (w.alloc (.cells #[.map (some m)] 89)) :=
    AnyZI.keys_gives (ρ := Tryz.keysG_ren) { Tryz.keysG with } Fence.wide _ trivial rfl (by omega) w.heap.size m N D _ (by simp) (by simp) (by
      obtain ⟨es, clock, hb, Ft, hs, hD⟩ := hown
      exact ⟨es, clock, (Below.heap_alloc _ _ m hbl).trans hb, Ft, hs, hD⟩)
  have cS := AnyZI.sorted_in Tryz.sortedA Fence.wide 5 trivial trivial trivial trivial rfl (by omega) (sortsA _) (enters_of Tryz.func84 (by kernel_rfl) rfl) 97 #[.pointer (some ⟨w.heap.size, 0, none⟩)] trivial (enters_of Tryz.func97 (by kernel_rfl) rfl) _ _ hmax hbytes _ hseq
  change CallsIn _ _ Tryz.prog 48 _ _ _ at cS
  refine (callsIn_wide.1 cS).mono ?_
  rintro e w' ⟨v, ss, rfl, hS, hrow, hnil, hb⟩
  exact ⟨v, ss, rfl, hS, ownsRow_base_a hrow (by simp), ((Below.refl _ w).alloc (Nat.le_refl _) _).trans (hb.mono (by simp))⟩

/-- The keys, rising. -/
theorem keys_up {w : World} {m N : Nat} {R : Value → Option (DataW Unit × List MemPlace)} {D : DataW Unit} (hm : w.ownsMap Tryz.prog 3 R m N D) {K ss : List Int} (hK : K.Pairwise (· < ·)) (hk : ∀ x : Int, Maps.has D (.int .i64 x) = true ↔ x ∈ K) (hp : ss.Perm (intKeys D)) :
    (ss.mergeSort fun x y => decide (x ≤ y)) = K ∧ ss.length = K.length := by
  have hc : CollectedI D (fun _ => false) K := ⟨hK.imp (fun h => by omega), fun x => by rw [hk x]; simp⟩
  have hp' : ss.Perm K := hp.trans (hc.perm hm law3 Tryz.underlying3 (fun _ => rfl)).symm
  refine ⟨?_, hp'.length_eq⟩
  rw [mergeSort_of_perm_i hp']
  exact List.mergeSort_of_pairwise (hK.imp (fun h => by simp; omega))

end Go.Proofs.YtigodbamphejmaaGreatDoor.S
