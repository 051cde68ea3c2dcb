/- Package cycle: through. -/
import Derived.Test.YtigodbamphejmaaGreatVi
namespace Go.Proofs.YtigodbamphejmaaGreat.S
open Go.RowKit

theorem results_cell {fn : Func} {p : Tmp} {ty : TypeId} (h : fn.results = #[.cell p ty]) (tmps : Array Value) (P : Program) (w : World) :
    (results fn tmps).run P w = ((asAddr (tmps.getD p undef)).run P w).andThen fun a w₁ => (loadVar ty a).run P w₁ := by
  simp only [results, h]
  simp [Sem.run_bind, Result.andThen]

/-- The tree without one edge. -/
def tbut (t : List Edg) (d : Edg) : List Edg := t.filter fun x => !decide (x = d)

/-- Which rings go round an edge of the tree. -/
def tcov (n : Nat) (t o : List Edg) (d : Edg) (i : Nat) : Bool := decide ((lbl n (tbut t d)).getD (ea (o.getD i (0, 0, 0))) 0 ≠ (lbl n (tbut t d)).getD (eb (o.getD i (0, 0, 0))) 0)

/-- Rings in a block. -/
def RingAt (w : World) (b x : Nat) : Prop := w.heap[b]? = some (.cells #[.int .u64 (x : Int), .int .u64 0] 66)
theorem RingAt.below {w w' : World} {b x : Nat} (h : RingAt w b x) (hb : Below w.heap.size w w') : RingAt w' b x := (hb.block b (lt_of_some h)).trans h
theorem RingAt.but {w w' : World} {b r x : Nat} (h : RingAt w b x) (hb : But r w w') (hne : b ≠ r) : RingAt w' b x := (hb.block b (lt_of_some h) hne).trans h

/-- What through holds on to. -/
structure Th (w0 w : World) (p b r8 r : Nat) (l : List Nat) (x : Nat) : Prop where
  sets : SetsAt w p b l
  res : RingAt w r8 0
  ring : RingAt w r x
  lp : p < r
  lbr : b < r
  l8 : r8 < r
  lo : w0.heap.size ≤ r8
  lr : w0.heap.size ≤ r
  below : Below w0.heap.size w0 w

section
variable {w0 w w' : World} {p b r8 r : Nat} {l : List Nat} {x x' : Nat}
theorem Th.below' (h : Th w0 w p b r8 r l x) (hb : Below w.heap.size w w') : Th w0 w' p b r8 r l x :=
  { h with sets := h.sets.below hb h.sets.plt h.sets.blt, res := h.res.below hb, ring := h.ring.below hb, below := h.below.trans (hb.mono h.below.size) }
theorem Th.put (h : Th w0 w p b r8 r l x) (hr : RingAt w' r x') (hb : But r w w') : Th w0 w' p b r8 r l x' := by
  have h1 := h.lp
  have h2 := h.lbr
  have h3 := h.l8
  exact { h with sets := ⟨(hb.block p h.sets.plt (by omega)).trans h.sets.hp, (hb.block b h.sets.blt (by omega)).trans h.sets.hb⟩, res := h.res.but hb (by omega), ring := hr, below := h.below.trans (hb.below h.lr h.below.size) }
end

theorem tbut_in {n : Nat} {t : List Edg} (h : InE n t) (d : Edg) : InE n (tbut t d) := h.sub (fun _ he => (List.mem_filter.1 he).1)

set_option maxHeartbeats 4000000 in
set_option maxRecDepth 100000 in
theorem through_any (n B1 B2 : Nat) (vt vo : Value) (t o : List Edg) (d : Edg) (w : World) (ht : G.Owns w B1 49 vt t) (ho : G.Owns w B2 49 vo o) (hit : InE n t) (hio : InE n o) (hd : d ∈ t) (hn : n ≤ 40) (hlt : t.length ≤ 120) (hlo : o.length ≤ 63) :
    Calls Tryz.prog 27 #[.int .i64 (n : Int), vt, .agg #[.int .i64 d.1, .int .i64 d.2.1, .int .i64 d.2.2], vo] w fun e w' => e = .returned (.agg #[.int .u64 ((bitsN (tcov n t o d) o.length : Nat) : Int), .int .u64 0]) ∧ Below w.heap.size w w' := by
  have HT : Hid (G.Owns w B1 49 vt t ∧ InE n t ∧ d ∈ t) := ⟨ht, hit, hd⟩
  have HO : Hid (G.Owns w B2 49 vo o ∧ InE n o) := ⟨ho, hio⟩
  obtain ⟨m, hm⟩ : ∃ m, o.length = m := ⟨_, rfl⟩
  have HM : Hid (o.length = m) := hm
  obtain ⟨va, vc, hv⟩ := ho.slice_len
  rw [hm] at hv hlo ⊢
  subst hv
  obtain ⟨W1, hW1⟩ : ∃ W1, (w.alloc (.cells #[.int .i64 d.1, .int .i64 d.2.1, .int .i64 d.2.2] 49)).alloc (.cells #[.int .u64 0, .int .u64 0] 66) = W1 := ⟨_, rfl⟩
  have hb1 : Below w.heap.size w W1 := by
    rw [← hW1]
    exact ((Below.refl _ _).alloc (Nat.le_refl _) _).alloc (by simp) _
  have hsz1 : W1.heap.size = w.heap.size + 2 := by rw [← hW1]; simp
  have hbx : Box W1 w.heap.size d := by
    rw [← hW1]
    show ((w.alloc (.cells #[.int .i64 d.1, .int .i64 d.2.1, .int .i64 d.2.2] 49)).alloc _).heap[w.heap.size]? = _
    rw [Below.heap_alloc _ _ _ (by simp)]
    exact heap_alloc_new w _
  have hr8 : RingAt W1 (w.heap.size + 1) 0 := by
    rw [← hW1]
    have := heap_alloc_new (w.alloc (.cells #[.int .i64 d.1, .int .i64 d.2.1, .int .i64 d.2.2] 49)) (.cells #[.int .u64 0, .int .u64 0] 66)
    rw [World.size_alloc] at this
    exact this
  have H1 : Hid (Below w.heap.size w W1 ∧ Box W1 w.heap.size d ∧ RingAt W1 (w.heap.size + 1) 0) := ⟨hb1, hbx, hr8⟩
  clear ht ho hit hio hd hm hb1 hbx hr8
  have hmf' := hmf
  go_enter Tryz.func27, Tryz.ntmps27
  go_wp2_with fail
  refine (clone_edges vt B1 t W1 (HT.out.1.below H1.out.1) (by omega)).mono ?_
  rintro e w2 ⟨u2, rfl, ho2, hb2⟩
  obtain ⟨g, cap, hu2, hBg, _, _⟩ : ∃ g cap, u2 = .slice (some ⟨g, 0, none⟩) t.length cap ∧ W1.heap.size ≤ g ∧ True ∧ True := by
    rcases ho2.shape with ⟨_, e⟩ | ⟨g, cap, e, h1, _⟩
    · rw [e] at HT; have := HT.out.2.2; simp at this
    · exact ⟨g, cap, e, h1, trivial, trivial⟩
  subst hu2
  have HO2 : Hid (G.Owns w2 W1.heap.size 49 (.slice (some ⟨g, 0, none⟩) t.length cap) t ∧ Below W1.heap.size W1 w2) := ⟨ho2, hb2⟩
  clear ho2 hb2
  go_wp2_with fail
  refine (delete_edges w.heap.size g t.length cap W1.heap.size d t w2 HO2.out.1 (H1.out.2.1.below HO2.out.2) (by omega) hBg (by omega) rfl).mono ?_
  rintro e w3 ⟨v3, rfl, ho3, hg3⟩
  have HW3 : Hid (G.Owns w3 W1.heap.size 49 v3 (tbut t d) ∧ Below w.heap.size w w3 ∧ RingAt w3 (w.heap.size + 1) 0 ∧ W1.heap.size ≤ w3.heap.size) := by
    have hk : Below W1.heap.size W1 w3 := HO2.out.2.trans ⟨hg3.os, hg3.tape, hg3.output, hg3.size, fun k hk => hg3.block k (Nat.lt_of_lt_of_le hk HO2.out.2.size) (by simp; omega)⟩
    exact ⟨ho3, H1.out.1.trans (hk.mono H1.out.1.size), H1.out.2.2.below hk, hk.size⟩
  clear ho3 hg3 HO2 hBg
  go_wp2_with fail
  refine (ctogether_any n W1.heap.size v3 (tbut t d) w3 HW3.out.1 hn (tbut_in HT.out.2.1 d) (Nat.le_trans (List.length_filter_le _ _) hlt)).mono ?_
  rintro e w4 ⟨p, b, rfl, hs4, hp4, hb4, hbel4⟩
  have HW4 : Hid (SetsAt w4 p b (lbl n (tbut t d)) ∧ Below w.heap.size w w4 ∧ RingAt w4 (w.heap.size + 1) 0) := ⟨hs4, HW3.out.2.1.trans (hbel4.mono HW3.out.2.1.size), HW3.out.2.2.1.below hbel4⟩
  have hsz4 : w.heap.size + 2 ≤ w4.heap.size := by have h1 := HW3.out.2.2.2; have h2 := hbel4.size; omega
  clear hs4 hp4 hb4 hbel4 HW3
  have HT0 : Hid (Th w (w4.alloc (.cells #[.int .u64 0, .int .u64 0] 66)) p b (w.heap.size + 1) w4.heap.size (lbl n (tbut t d)) (bitsN (tcov n t o d) 0)) := by
    have hb : Below w4.heap.size w4 (w4.alloc (.cells #[.int .u64 0, .int .u64 0] 66)) := (Below.refl _ _).alloc (Nat.le_refl _) _
    exact ⟨HW4.out.1.below hb HW4.out.1.plt HW4.out.1.blt, HW4.out.2.2.below hb, heap_alloc_new w4 _, HW4.out.1.plt, HW4.out.1.blt, by omega, by omega, by omega, HW4.out.2.1.trans (hb.mono HW4.out.2.1.size)⟩
  obtain ⟨r, hr⟩ : ∃ r, w4.heap.size = r := ⟨_, rfl⟩
  go_wp2_with fail
  rw [hr] at HT0
  clear hr
  go_loopw [23] (fun s23 wq => ∃ k : Nat, k ≤ m ∧ s23 = .int .i64 k ∧ Th w wq p b (w.heap.size + 1) r (lbl n (tbut t d)) (bitsN (tcov n t o d) k)) (fun s23 _ => m - (intOf s23).toNat)
  case atStart => exact ⟨0, Nat.zero_le _, rfl, HT0.out⟩
  case round =>
    clear HT0
    obtain ⟨k, hk, rfl, hth⟩ := hrel
    have HTh : Hid (Th w wr p b (w.heap.size + 1) r (lbl n (tbut t d)) (bitsN (tcov n t o d) k)) := hth
    clear hth
    by_cases hltk : k < m
    · obtain ⟨x0, xa, xb, hx, han, hbn, hxa, hxb⟩ := row_edge HO.out.2 (by rw [HM.out]; exact hltk)
      have HX : Hid (o.getD k (0, 0, 0) = (x0, (xa : Int), (xb : Int)) ∧ ea (x0, (xa : Int), (xb : Int)) = xa ∧ eb (x0, (xa : Int), (xb : Int)) = xb) := ⟨by rw [List.getD_eq_getElem?_getD, hx]; rfl, hxa, hxb⟩
      obtain ⟨g', rfl⟩ := owns_block HO.out.1 (by rw [HM.out]; exact hltk)
      obtain ⟨r0, r1, r2⟩ := (HO.out.1.below HTh.out.below).at (g := g') rfl hx
      have r0' : wr.cell? ⟨g', k * 3, none⟩ = some (.int .i64 x0) := r0
      have r1' : wr.cell? ⟨g', k * 3 + 1, none⟩ = some (.int .i64 (xa : Int)) := r1
      have r2' : wr.cell? ⟨g', k * 3 + 2, none⟩ = some (.int .i64 (xb : Int)) := r2
      clear r0 r1 r2 hx hxa hxb
      have hb1 : Below wr.heap.size wr (wr.alloc (.cells #[.int .i64 x0, .int .i64 (xa : Int), .int .i64 (xb : Int)] 49)) := (Below.refl _ _).alloc (Nat.le_refl _) _
      have HT1 : Hid (Th w (wr.alloc (.cells #[.int .i64 x0, .int .i64 (xa : Int), .int .i64 (xb : Int)] 49)) p b (w.heap.size + 1) r (lbl n (tbut t d)) (bitsN (tcov n t o d) k)) := HTh.out.below' hb1
      have hgl : (lbl n (tbut t d)).length = n := (lb_good (tbut_in HT.out.2.1 d).nodes).len
      have HCV : Hid (tcov n t o d k = true ↔ (lbl n (tbut t d)).getD xa 0 ≠ (lbl n (tbut t d)).getD xb 0) := by
        show tcov n t o d k = true ↔ _
        unfold tcov
        rw [HX.out.1, HX.out.2.1, HX.out.2.2, decide_eq_true_iff]
      have HC : Hid _ := capart_any xa xb p b (lbl n (tbut t d)) (tcov n t o d k) _ HT1.out.sets (by omega) (by omega) HCV.out
      clear hb1 HTh
      cases hcv : tcov n t o d k with
      | true =>
        as_aux_lemma =>
        rw [hcv] at HC
        go_wp2_with fail
        refine Calls.mono HC.out ?_
        rintro e w6 ⟨rfl, hb6⟩
        have HT6 : Hid (Th w w6 p b (w.heap.size + 1) r (lbl n (tbut t d)) (bitsN (tcov n t o d) k)) := HT1.out.below' hb6
        clear hb6 HT1 HC
        go_wp2_with fail
        refine (put_any r k (bitsN (tcov n t o d) k) w6 HT6.out.ring (by omega) (bitsN_lt _ _)).mono ?_
        rintro e w7 ⟨rfl, hr7, hb7⟩
        have HT7 : Hid (Th w w7 p b (w.heap.size + 1) r (lbl n (tbut t d)) (bitsN (tcov n t o d) (k + 1))) := by
          have e1 : bitsN (tcov n t o d) (k + 1) = bitsN (tcov n t o d) k + 2 ^ k := by simp only [bitsN, hcv, if_true]
          have := HT6.out.put hr7 hb7
          rw [← e1] at this; exact this
        clear hr7 hb7 HT6
        go_wp2_with fail
        go_roundw
        case rel => exact ⟨k + 1, by omega, by go_num, HT7.out⟩
        case measure => simp [intOf]; omega
      | false =>
        as_aux_lemma =>
        rw [hcv] at HC
        go_wp2_with fail
        refine Calls.mono HC.out ?_
        rintro e w6 ⟨rfl, hb6⟩
        have HT7 : Hid (Th w w6 p b (w.heap.size + 1) r (lbl n (tbut t d)) (bitsN (tcov n t o d) (k + 1))) := by
          have e1 : bitsN (tcov n t o d) (k + 1) = bitsN (tcov n t o d) k := by simp [bitsN, hcv]
          have := HT1.out.below' hb6
          rw [← e1] at this; exact this
        clear hb6 HT1 HC
        go_wp2_with fail
        go_roundw
        case rel => exact ⟨k + 1, by omega, by go_num, HT7.out⟩
        case measure => simp [intOf]; omega
    · as_aux_lemma =>
      have hke : k = m := by omega
      subst hke
      obtain ⟨X, hX⟩ : ∃ X, bitsN (tcov n t o d) k = X := ⟨_, rfl⟩
      have HXX : Hid (bitsN (tcov n t o d) k = X) := hX
      rw [hX] at HTh
      have q8 : wr.heap[w.heap.size + 1]? = some (.cells #[.int .u64 0, .int .u64 0] 66) := HTh.out.res
      have qr : wr.heap[r]? = some (.cells #[.int .u64 (X : Int), .int .u64 0] 66) := HTh.out.ring
      have c0 : wr.cell? ⟨r, 0, none⟩ = some (.int .u64 (X : Int)) := by simp [World.cell?, qr]
      have c1 : wr.cell? ⟨r, 1, none⟩ = some (.int .u64 0) := by simp [World.cell?, qr]
      have d0 : wr.cell? ⟨w.heap.size + 1, 0, none⟩ = some (.int .u64 0) := by simp [World.cell?, q8]
      have d1 : wr.cell? ⟨w.heap.size + 1, 1, none⟩ = some (.int .u64 0) := by simp [World.cell?, q8]
      have f0 : ∀ i, wr.frozen? ⟨w.heap.size + 1, i, none⟩ = false := fun i => by simp only [World.frozen?, q8]; simp
      have f00 := f0 0
      have f01 := f0 1
      have HB : Hid (Below w.heap.size w wr) := HTh.out.below
      clear hX f0 q8 qr HTh
      go_wp2_with fail
      (try simp only [Exit.inBlock, Exit.then])
      refine bodyPost_ret (v := .agg #[.int .u64 (X : Int), .int .u64 0]) ?_ rfl ⟨by rw [HXX.out], ?_⟩
      · rw [results_cell rfl]
        go_simp
      · exact (HB.out.setCell (show w.heap.size ≤ w.heap.size + 1 by omega) _).setCell (show w.heap.size ≤ w.heap.size + 1 by omega) _

end Go.Proofs.YtigodbamphejmaaGreat.S
