/- The contracts of graph's Other and of package block's gather. -/
import Derived.Test.YtigodbamphejmaaKb
namespace Go.Proofs.Ytigodbamphejmaa.S
open Go.RowKit Go.WideMaps Go.Maps

/-- The places of a node's edges. -/
def plc (R : List (Int × Int × Int)) (x : Nat) : List Nat := (List.range R.length).filter fun i => decide (tch (R.getD i (0, 0, 0)) x)

theorem list_places (R : List (Int × Int × Int)) : (List.range R.length).map (fun i => R.getD i (0, 0, 0)) = R := by
  apply List.ext_getElem
  · simp
  · intro i h1 h2
    simp [h2]

theorem at_places {n M : Nat} {R : List (Int × Int × Int)} (h : Ed n M R) (x : Nat) : R.filter (G.ofNode (x : Int)) = (plc R x).map fun i => R.getD i (0, 0, 0) := by
  have h1 : R.filter (G.ofNode (x : Int)) = R.filter fun e => decide (tch e x) := by
    apply List.filter_congr
    intro e he
    have hn := h.nat he
    unfold G.ofNode
    rw [hn.1, hn.2.1, Bool.eq_iff_iff]
    simp only [Bool.or_eq_true, beq_iff_eq, decide_eq_true_eq]
    unfold tch
    omega
  rw [h1]
  unfold plc
  conv => lhs; rw [← list_places R]
  rw [List.filter_map]
  rfl

theorem mem_plc {R : List (Int × Int × Int)} {x i : Nat} : i ∈ plc R x ↔ ∃ e, R[i]? = some e ∧ tch e x := by
  unfold plc
  rw [List.mem_filter, List.mem_range, decide_eq_true_eq]
  constructor
  · rintro ⟨h1, h2⟩
    refine ⟨R[i], List.getElem?_eq_getElem h1, ?_⟩
    simpa [h1] using h2
  · rintro ⟨e, he, ht⟩
    refine ⟨(List.getElem?_eq_some_iff.1 he).1, ?_⟩
    rw [getD_of he]; exact ht

theorem plc_len (R : List (Int × Int × Int)) (x : Nat) : (plc R x).length ≤ R.length := by
  unfold plc
  exact Nat.le_trans (List.length_filter_le _ _) (by simp)

set_option maxHeartbeats 400000 in
theorem other_any (x0 : Int) (A E x z : Nat) (w : World) (hz : (if x = A then E else A) = z) :
    Calls Try.prog 81 #[.agg #[.int .i64 x0, .int .i64 (A : Int), .int .i64 (E : Int)], .int .i64 (x : Int)] w fun e w' => e = .returned (.int .i64 (z : Int)) ∧ Below w.heap.size w w' := by
  by_cases h : x = A
  · rw [if_pos h] at hz
    subst hz h
    go_enter Try.func81, Try.ntmps81
    go_wp2
    go_ret
    exact ⟨rfl, (Below.refl _ _).alloc (Nat.le_refl _) _⟩
  · rw [if_neg h] at hz
    subst hz
    have hne : ((x : Int) == (A : Int)) = false := beq_eq_false_iff_ne.2 (by omega)
    go_enter Try.func81, Try.ntmps81
    go_wp2
    go_ret
    exact ⟨rfl, (Below.refl _ _).alloc (Nat.le_refl _) _⟩

/-- The map of the first edges of the parts at a node. -/
structure Fm (D : DataW Unit) (R : List (Int × Int × Int)) (ks : List (Nat × Nat)) : Prop where
  key : ∀ z : Nat, Maps.has D (.int .i64 (z : Int)) = true ↔ ∃ p ∈ ks, p.1 = z
  val : ∀ p ∈ ks, ∀ zd, D.atKey (.int .i64 (p.1 : Int)) zd = .lit (.int .i64 (idAt R p.2))
  tidy : Tidy D
  size : Maps.size D = ks.length

theorem Fm.start (R : List (Int × Int × Int)) : Fm (.map []) R [] := ⟨fun z => by simp [Maps.has], by simp, tidy_empty, rfl⟩

theorem Fm.put {D : DataW Unit} {R : List (Int × Int × Int)} {ks : List (Nat × Nat)} (h : Fm D R ks) (z i : Nat) (hno : ∀ p ∈ ks, p.1 ≠ z) : Fm (D.put (.int .i64 (z : Int)) (.lit (.int .i64 (idAt R i)))) R (ks ++ [(z, i)]) := by
  have hnh : Maps.has D (.int .i64 (z : Int)) = false := by
    rw [Bool.eq_false_iff]
    intro c
    obtain ⟨p, hp, hpz⟩ := (h.key z).1 c
    exact hno p hp hpz
  refine ⟨fun y => ?_, fun p hp zd => ?_, h.tidy.put (isKeyLit _) _, ?_⟩
  · by_cases c : y = z
    · subst c
      rw [has_put_same h.tidy.isMap (isKeyLit _)]
      exact ⟨fun _ => ⟨(y, i), by simp, rfl⟩, fun _ => rfl⟩
    · rw [has_put_other (by simp; omega), h.key]
      constructor
      · rintro ⟨p, hp, hpy⟩; exact ⟨p, List.mem_append_left _ hp, hpy⟩
      · rintro ⟨p, hp, hpy⟩
        rcases List.mem_append.1 hp with hp | hp
        · exact ⟨p, hp, hpy⟩
        · rw [List.mem_singleton.1 hp] at hpy; exact absurd hpy.symm c
  · rcases List.mem_append.1 hp with hp | hp
    · have := hno p hp
      rw [atKey_put_other (by simp; omega)]; exact h.val p hp zd
    · rw [List.mem_singleton.1 hp, atKey_put_same h.tidy.isMap (isKeyLit _)]
  · rw [size_put h.tidy, hnh, h.size]; simp

/-- A node parts. -/
def cutP (R : List (Int × Int × Int)) (x : Nat) : Prop := ∃ e ∈ R, ∃ f ∈ R, tch e x ∧ tch f x ∧ ¬ cnR (wo R x) (ot e x) (ot f x)

theorem Bk.below_new {a b c : Nat} {w0 w w' : World} (h : Below w0.heap.size w0 w) (k : Bk a b c w w') (h1 : w0.heap.size ≤ a) (h2 : w0.heap.size ≤ b) (h3 : w0.heap.size ≤ c) : Below w0.heap.size w0 w' :=
  ⟨k.os.trans h.os, k.tape.trans h.tape, k.output.trans h.output, Nat.le_trans h.size k.size, fun j hj => (k.block j (Nat.lt_of_lt_of_le hj h.size) (by omega) (by omega) (by omega)).trans (h.block j hj)⟩

theorem SetsAt.bk {a b c p q : Nat} {L : List Nat} {w w' : World} (h : SetsAt w p q L) (k : Bk a b c w w') (h1 : p ≠ a ∧ p ≠ b ∧ p ≠ c) (h2 : q ≠ a ∧ q ≠ b ∧ q ≠ c) : SetsAt w' p q L :=
  ⟨by rw [k.block p h.plt h1.1 h1.2.1 h1.2.2]; exact h.hp, by rw [k.block q h.blt h2.1 h2.2.1 h2.2.2]; exact h.hb⟩

set_option maxHeartbeats 4000000 in
set_option maxRecDepth 100000 in
theorem gather_any (x n B0 q M p m N : Nat) (u v : Value) (R : List (Int × Int × Int)) (L : List Nat) (D : DataW Unit) (w : World) (h : G.GAt w B0 91 50 q (n : Int) u R) (hn : n ≤ 40) (hx : x < n) (hed : Ed n M R) (hM : M ≤ 100)
    (hb : BlAt w p m N D v) (hl : Lm D R L) (hs : Bs R x [] L) :
    Calls Try.prog 53 #[.pointer (some ⟨p, 0, none⟩), .pointer (some ⟨q, 0, none⟩), .int .i64 (x : Int)] w fun e w' => ∃ (k : Nat) (D' : DataW Unit) (L' : List Nat), e = .returned (.int .i64 (k : Int)) ∧ BlAt w' p m N D' v ∧ Lm D' R L' ∧ Bs R (x + 1) [] L' ∧ But m w w' ∧ (1 < k ↔ cutP R x) := by
  have hpm := hb.ne
  have hpw := hb.plt
  have hmw := hb.hm.lt
  have hlen := hed.len
  have hpl := plc_len R x
  have HG : Hid (G.GAt w B0 91 50 q (n : Int) u R) := h
  have HE : Hid (Ed n M R) := hed
  have HB : Hid (BlAt w p m N D v) := hb
  have HL : Hid (Lm D R L) := hl
  have HS : Hid (Bs R x [] L) := hs
  have HID : Hid (∀ e ∈ R, 0 ≤ e.1 ∧ e.1 ≤ 1000000) := fun e he => by have := hed.ids e he; omega
  clear h hed hb hl hs
  go_enter Try.func53, Try.ntmps53
  go_wp2_with fail
  refine (G.at_in (x : Int) (n : Int) B0 q u R w HG.out (by omega) (by omega)).mono ?_
  rintro e w1 ⟨v1, rfl, ho1, hb1⟩
  rw [at_places HE.out] at ho1
  obtain ⟨va, vc, hv⟩ := ho1.slice_len
  obtain ⟨len, hlenv⟩ : ∃ len, (plc R x).length = len := ⟨_, rfl⟩
  rw [List.length_map, hlenv] at hv
  rw [hlenv] at hpl
  subst hv
  have HLEN : Hid ((plc R x).length = len) := hlenv
  have HO1 : Hid (G.Owns w1 w.heap.size 50 (.slice va len vc) ((plc R x).map fun i => R.getD i (0, 0, 0)) ∧ Below w.heap.size w w1) := ⟨ho1, hb1⟩
  clear ho1 hb1 hlenv
  go_wp2_with fail
  refine (bwo_any x n B0 q M u R w1 (HG.out.below HO1.out.2) hn HE.out hM).mono ?_
  rintro e w2 ⟨ps, bs, K, rfl, hs2, hgK, hKx, hb2, hps, hbs⟩
  have hsz1 := HO1.out.2.size
  have HB2 : Hid (Below w.heap.size w w2) := HO1.out.2.trans (hb2.mono HO1.out.2.size)
  have HO2 : Hid (G.Owns w2 w.heap.size 50 (.slice va len vc) ((plc R x).map fun i => R.getD i (0, 0, 0))) := HO1.out.1.below hb2
  have HS2 : Hid (SetsAt w2 ps bs K ∧ Good n K ∧ Kx n R x K) := ⟨hs2, hgK, hKx⟩
  have hps2 := hs2.plt
  have hbs2 := hs2.blt
  -- the map
  obtain ⟨w3, hw3⟩ : ∃ w3, w3 = w2.alloc (.map #[] 0) := ⟨_, rfl⟩
  have hb3 : Below w2.heap.size w2 w3 := by rw [hw3]; exact (Below.refl _ _).alloc (Nat.le_refl _) _
  have hm3 : w3.ownsMap Try.prog 3 (plainElem (H := Unit) Try.prog 3) w2.heap.size 0 (.map []) := by rw [hw3]; exact World.ownsMap_made w2 _ _ _
  have HW3 : Hid (w2.alloc (.map #[] 0) = w3) := hw3.symm
  have HB3 : Hid (Below w.heap.size w w3 ∧ Below w2.heap.size w2 w3) := ⟨HB2.out.trans (hb3.mono HB2.out.size), hb3⟩
  have HM3 : Hid (w3.ownsMap Try.prog 3 (plainElem (H := Unit) Try.prog 3) w2.heap.size 0 (.map [])) := hm3
  have hsz2 := HB2.out.size
  have hmm := @run_makeMap Try.prog
  clear hs2 hgK hKx hb2 hw3 hb3 hm3 HO1
  go_wp2_with fail
  rw [HW3.out]
  clear hmm
  go_loopw [29] (fun s29 wq => ∃ (t N1 : Nat) (Dt Df : DataW Unit) (Lt : List Nat) (ks : List (Nat × Nat)), t ≤ len ∧ s29 = .int .i64 t ∧ BlAt wq p m N Dt v ∧ Lm Dt R Lt ∧ Bs R x ((plc R x).take t) Lt ∧ Gth R x K ((plc R x).take t) ks ∧ wq.ownsMap Try.prog 3 (plainElem Try.prog 3) w2.heap.size N1 Df ∧ N1 ≤ t ∧ Fm Df R ks ∧ Bk m w2.heap.size w2.heap.size w3 wq) (fun s29 _ => len - (intOf s29).toNat)
  case atStart => exact ⟨0, 0, D, .map [], L, [], Nat.zero_le _, rfl, HB.out.below HB3.out.1, HL.out, HS.out, gth_start R x K, HM3.out, Nat.le_refl _, Fm.start R, Bk.refl _⟩
  case round =>
    clear HB HL HS HM3
    obtain ⟨t, N1, Dt, Df, Lt, ks, ht, rfl, hbl, hlm, hbs', hgth, hmf, hN1, hfm, hbk⟩ := hrel
    have HBL : Hid (BlAt wr p m N Dt v ∧ Lm Dt R Lt) := ⟨hbl, hlm⟩
    have HBS : Hid (Bs R x ((plc R x).take t) Lt ∧ Gth R x K ((plc R x).take t) ks) := ⟨hbs', hgth⟩
    have HFM : Hid (wr.ownsMap Try.prog 3 (plainElem Try.prog 3) w2.heap.size N1 Df ∧ Fm Df R ks) := ⟨hmf, hfm⟩
    have HBK : Hid (Bk m w2.heap.size w2.heap.size w3 wr) := hbk
    clear hbl hlm hbs' hgth hmf hfm hbk
    by_cases hlt : t < len
    · obtain ⟨i, hi⟩ : ∃ i, (plc R x)[t]? = some i := ⟨_, List.getElem?_eq_getElem (by rw [HLEN.out]; exact hlt)⟩
      obtain ⟨e, he, hte⟩ := mem_plc.1 (List.mem_of_getElem? hi)
      have hnat := HE.out.nat (List.mem_of_getElem? he)
      have hxe : ((plc R x).map fun i => R.getD i (0, 0, 0))[t]? = some e := by rw [List.getElem?_map, hi]; simp [he]
      obtain ⟨g, hva⟩ : ∃ g, va = some ⟨g, 0, none⟩ := by
        rcases HO2.out.shape with ⟨_, k⟩ | ⟨g, cap, k, _⟩
        · rw [k] at hxe; simp at hxe
        · injection k with e1 _ _
          exact ⟨g, e1⟩
      subst hva
      have hO3 := HO2.out.below HB3.out.2
      obtain ⟨r0, r1, r2⟩ := hO3.at (g := g) rfl hxe
      have hgb := World.ownsRow.lt HO2.out g rfl
      have q0 := HBK.out.cell r0 (by omega) (by omega) (by omega)
      have q1 := HBK.out.cell r1 (by omega) (by omega) (by omega)
      have q2 := HBK.out.cell r2 (by omega) (by omega) (by omega)
      rw [hnat.1] at q1
      rw [hnat.2.1] at q2
      have HTK : Hid ((plc R x).take (t + 1) = (plc R x).take t ++ [i]) := by
        show (plc R x).take (t + 1) = _
        rw [List.take_add_one, hi]; rfl
      have HIE : Hid (R[i]? = some e ∧ tch e x) := ⟨he, hte⟩
      obtain ⟨z, hz⟩ : ∃ z, (if x = ea e then eb e else ea e) = z := ⟨_, rfl⟩
      have hzn : z < n := by rw [← hz]; have := hnat.2.2; split <;> omega
      obtain ⟨k, hk⟩ : ∃ k, K.getD z 0 = k := ⟨_, rfl⟩
      have HLB : Hid (lb R x K i = k) := by
        show lb R x K i = k
        unfold lb ot
        rw [getD_of he, hz, hk]
      have hkn : k < n := by rw [← hk]; exact Nat.lt_of_le_of_lt (HS2.out.2.1.le z hzn) hzn
      have hidw := HE.out.ids e (List.mem_of_getElem? he)
      have hwid0 : (Lit.int .i64 e.1).wf = true := wf_small hidw.1 (by omega)
      have hkey := key3 (k : Int) (wf_small (by omega) (by omega))
      obtain ⟨x0, hx0⟩ : ∃ x0, e.1 = x0 := ⟨_, rfl⟩
      obtain ⟨A, hA⟩ : ∃ A, ea e = A := ⟨_, rfl⟩
      obtain ⟨E, hE⟩ : ∃ E, eb e = E := ⟨_, rfl⟩
      have HXE : Hid (x0 = e.1) := hx0.symm
      rw [hA, hE] at hz
      have HZ : Hid ((if x = A then E else A) = z ∧ K.getD z 0 = k) := ⟨hz, hk⟩
      have hwid : (Lit.int .i64 x0).wf = true := by rw [← hx0]; exact hwid0
      rw [hx0] at q0
      rw [hA] at q1
      rw [hE] at q2
      -- the edge's box
      obtain ⟨W1, hW1⟩ : ∃ W1, W1 = wr.alloc (.cells #[.int .i64 x0, .int .i64 (A : Int), .int .i64 (E : Int)] 50) := ⟨_, rfl⟩
      have hh : W1.heap[wr.heap.size]? = some (.cells #[.int .i64 x0, .int .i64 (A : Int), .int .i64 (E : Int)] 50) := by rw [hW1]; exact heap_alloc_new wr _
      have hbW : Below wr.heap.size wr W1 := by rw [hW1]; exact (Below.refl _ _).alloc (Nat.le_refl _) _
      have HBX : Hid (W1.heap[wr.heap.size]? = some (.cells #[.int .i64 x0, .int .i64 (A : Int), .int .i64 (E : Int)] 50) ∧ Below wr.heap.size wr W1) := ⟨hh, hbW⟩
      have p0 : W1.cell? ⟨wr.heap.size, 0, none⟩ = some (.int .i64 x0) := by simp [World.cell?, hh]
      have p1 : W1.cell? ⟨wr.heap.size, 1, none⟩ = some (.int .i64 (A : Int)) := by simp [World.cell?, hh]
      have p2 : W1.cell? ⟨wr.heap.size, 2, none⟩ = some (.int .i64 (E : Int)) := by simp [World.cell?, hh]
      have HW1 : Hid (wr.alloc (.cells #[.int .i64 x0, .int .i64 (A : Int), .int .i64 (E : Int)] 50) = W1) := hW1.symm
      have hwr1 : wr.heap.size < W1.heap.size := lt_of_some hh
      have hwrs := HBK.out.size
      have hw3s := HB3.out.2.size
      clear hi he hte hnat hxe hO3 r0 r1 r2 hz hk hh hW1 hbW hidw hx0 hA hE hwid0
      go_wp2_with fail
      rw [HW1.out]
      refine (other_any x0 A E x z W1 HZ.out.1).mono ?_
      rintro e' w4 ⟨rfl, hb4⟩
      have HB4 : Hid (Below W1.heap.size W1 w4 ∧ Below wr.heap.size wr w4) := ⟨hb4, HBX.out.2.trans (hb4.mono HBX.out.2.size)⟩
      clear hb4 p0 p1 p2
      go_wp2_with fail
      refine (least_n z ps bs K w4 ((HS2.out.1.below HB3.out.2 hps2 hbs2 |>.bk HBK.out (by omega) (by omega)).below HB4.out.2 (by omega) (by omega)) HS2.out.2.1 hzn HZ.out.2).mono ?_
      rintro e' w5 ⟨rfl, hb5⟩
      have HB5 : Hid (Below wr.heap.size wr w5) := HB4.out.2.trans (hb5.mono HB4.out.2.size)
      have hh5 : w5.heap[wr.heap.size]? = some (.cells #[.int .i64 x0, .int .i64 (A : Int), .int .i64 (E : Int)] 50) := by
        rw [hb5.block _ (Nat.lt_of_lt_of_le hwr1 HB4.out.1.size), HB4.out.1.block _ hwr1]; exact HBX.out.1
      have p0 : w5.cell? ⟨wr.heap.size, 0, none⟩ = some (.int .i64 x0) := by simp [World.cell?, hh5]
      have hown : w5.ownsMap Try.prog 3 (plainElem Try.prog 3) w2.heap.size N1 Df := HFM.out.1.kept (row := none) ⟨HB5.out.os, HB5.out.tape, HB5.out.output, HB5.out.size, fun k hk _ => HB5.out.block k hk⟩ (by simp)
      have HBL5 : Hid (BlAt w5 p m N Dt v) := HBL.out.1.below HB5.out
      have HBK5 : Hid (Bk m w2.heap.size w2.heap.size w3 w5) := HBK.out.trans (Bk.of_below HB5.out)
      clear hb5 hh5 HB4 HBX HW1 hwr1
      by_cases hc : ∃ pq ∈ ks, pq.1 = k
      · as_aux_lemma =>
        obtain ⟨⟨k', j⟩, hpq, hk'⟩ := hc
        simp only at hk'
        subst hk'
        have hj := HBS.out.2.at_ _ hpq
        simp only at hj
        obtain ⟨f, hf, htf⟩ := mem_plc.1 (List.mem_of_mem_take hj.1)
        have hhas : Maps.has Df (.int .i64 (k' : Int)) = true := (HFM.out.2.key k').2 ⟨_, hpq, rfl⟩
        have hval := HFM.out.2.val _ hpq (.lit (.int .i64 0))
        simp only at hval
        rw [idAt_of hf] at hval
        have HVAL : Hid (Df.atKey (.int .i64 (k' : Int)) (.lit (.int .i64 0)) = .lit (.int .i64 f.1)) := hval
        have hrx : Rx R x j i := (Rx_lb HS2.out.2.2 HE.out.inn hf HIE.out.1 htf HIE.out.2).2 (by rw [hj.2, HLB.out])
        have HNX : Hid (Bs R x ((plc R x).take (t + 1)) (joinL Lt j i) ∧ Gth R x K ((plc R x).take (t + 1)) ks) := by
          rw [HTK.out]
          exact ⟨bs_join HBS.out.1 hj.1 hrx, gth_old HBS.out.2 hpq HLB.out.symm⟩
        have HF : Hid (R[j]? = some f) := hf
        have HHAS : Hid (Maps.has Df (.int .i64 (k' : Int)) = true) := hhas
        clear hj hf htf hhas hval hrx hpq
        go_wp2_with (first
          | (at_lookup; refine wpList_lookup_own_ok_int _ rfl _ _ 100 rfl 3 3 .i64 law3 Try.underlying100 Try.underlying3 (zero3 _) w2.heap.size N1 Df rfl hown _ _ rfl hkey ?_; intro c hat hwc; rw [HVAL.out] at hat; obtain rfl := lit_inj hat; rw [HHAS.out]; clear hat hwc)
          | fail)
        rw [HXE.out]
        refine (bjoin_any j i p m N Dt v w5 HBL5.out HBL.out.2 HBS.out.1.good HE.out.up HF.out HIE.out.1 HID.out).mono ?_
        rintro e' w6 ⟨rfl, D6, hb6, hl6, hk6⟩
        have hm6 : w6.ownsMap Try.prog 3 (plainElem Try.prog 3) w2.heap.size N1 Df := hown.kept (row := some m) ⟨hk6.os, hk6.tape, hk6.output, hk6.size, fun k hk hn => hk6.block k hk (fun c => hn (by rw [c]))⟩ (by simp; omega)
        have HR6 : Hid (BlAt w6 p m N D6 v ∧ Lm D6 R (joinL Lt j i) ∧ w6.ownsMap Try.prog 3 (plainElem Try.prog 3) w2.heap.size N1 Df ∧ Bk m w2.heap.size w2.heap.size w3 w6) := ⟨hb6, hl6, hm6, HBK5.out.trans (Bk.of_w hk6)⟩
        clear hb6 hl6 hk6 hm6 hown p0
        go_wp2_with fail
        go_roundw
        case rel => exact ⟨t + 1, N1, D6, Df, joinL Lt j i, ks, by omega, by go_num, HR6.out.1, HR6.out.2.1, HNX.out.1, HNX.out.2, HR6.out.2.2.1, by omega, HFM.out.2, HR6.out.2.2.2⟩
        case measure => simp [intOf]; omega
      · as_aux_lemma =>
        have hno : ∀ pq ∈ ks, pq.1 ≠ k := fun pq hp c => hc ⟨pq, hp, c⟩
        have hhas : Maps.has Df (.int .i64 (k : Int)) = false := by
          rw [Bool.eq_false_iff]
          intro c
          obtain ⟨pq, hp, hpk⟩ := (HFM.out.2.key k).1 c
          exact hno pq hp hpk
        have HHAS : Hid (Maps.has Df (.int .i64 (k : Int)) = false) := hhas
        have HVAL : Hid (Df.atKey (.int .i64 (k : Int)) (.lit (.int .i64 0)) = .lit (.int .i64 0)) := atKey_of_not_has hhas _
        have HNX : Hid (Bs R x ((plc R x).take (t + 1)) Lt ∧ Gth R x K ((plc R x).take (t + 1)) (ks ++ [(k, i)]) ∧ Fm (Df.put (.int .i64 (k : Int)) (.lit (.int .i64 x0))) R (ks ++ [(k, i)])) := by
          rw [HTK.out]
          refine ⟨bs_new HBS.out.1 (fun j hj hr => ?_), ?_, ?_⟩
          · obtain ⟨f, hf, htf⟩ := mem_plc.1 (List.mem_of_mem_take hj)
            obtain ⟨pq, hp, hpk⟩ := HBS.out.2.all j hj
            refine hno pq hp ?_
            rw [hpk, (Rx_lb HS2.out.2.2 HE.out.inn hf HIE.out.1 htf HIE.out.2).1 hr, HLB.out]
          · have := gth_new (i := i) HBS.out.2 (fun pq hp => by rw [HLB.out]; exact hno pq hp)
            rw [HLB.out] at this; exact this
          · have := HFM.out.2.put k i hno
            rw [idAt_of HIE.out.1, ← HXE.out] at this; exact this
        have hNm : N1 < maxLen := by unfold maxLen; omega
        clear hc hno hhas
        go_wp2_with (first
          | (at_lookup; refine wpList_lookup_own_ok_int _ rfl _ _ 100 rfl 3 3 .i64 law3 Try.underlying100 Try.underlying3 (zero3 _) w2.heap.size N1 Df rfl hown _ _ rfl hkey ?_; intro c hat hwc; rw [HVAL.out] at hat; obtain rfl := lit_inj hat; rw [HHAS.out]; clear hat hwc)
          | (at_mapUpdate; refine wpList_mapUpdate_own _ rfl _ _ _ 100 rfl 3 3 law3 Try.underlying100 (plainElem Try.prog 3) w2.heap.size N1 Df rfl hown hNm _ _ _ rfl rfl hkey _ [] (plainElem_int Try.underlying3 hwid) ?_; intro w6 hown6 hgrow6)
          | fail)
        go_roundw
        case rel => exact ⟨t + 1, N1 + 1, Dt, _, Lt, ks ++ [(k, i)], by omega, by go_num, ⟨by rw [hgrow6.block p HBL5.out.plt (by simp; omega)]; exact HBL5.out.hp, HBL5.out.hm.kept hgrow6 (by simp; omega)⟩, HBL.out.2, HNX.out.1, HNX.out.2.1, hown6, by omega, HNX.out.2.2, HBK5.out.trans (Bk.of_m hgrow6)⟩
        case measure => simp [intOf]; omega
    · have hte : t = len := by omega
      subst hte
      have htk : (plc R x).take t = plc R x := by rw [← HLEN.out]; exact List.take_length
      have hbs9 := HBS.out
      rw [htk] at hbs9
      have HBS9 : Hid (Bs R (x + 1) [] Lt) := bs_next hbs9.1 (fun i e he ht => mem_plc.2 ⟨e, he, ht⟩)
      have HCUT : Hid (1 < ks.length ↔ cutP R x) := gth_cut hbs9.2 HS2.out.2.2 HE.out.inn (fun i => mem_plc)
      have HBT : Hid (But m w wr) := ⟨HBK.out.os.trans HB3.out.1.os, HBK.out.tape.trans HB3.out.1.tape, HBK.out.output.trans HB3.out.1.output, Nat.le_trans HB3.out.1.size HBK.out.size, fun k hk hn => (HBK.out.block k (by have := HB3.out.1.size; omega) hn (by omega) (by omega)).trans (HB3.out.1.block k hk)⟩
      have hown := HFM.out.1
      have hsz := HFM.out.2.size
      have HSZ : Hid (Maps.size Df = ks.length) := hsz
      clear htk hbs9 hsz
      go_wp2_with (first
        | (at_len; refine wpList_len_own _ rfl _ 100 rfl 3 3 Try.underlying100 (plainElem Try.prog 3) w2.heap.size N1 Df rfl hown ?_)
        | fail)
      go_ret
      exact ⟨ks.length, Dt, Lt, by rw [HSZ.out]; rfl, HBL.out.1, HBL.out.2, HBS9.out, HBT.out, HCUT.out⟩

end Go.Proofs.Ytigodbamphejmaa.S
