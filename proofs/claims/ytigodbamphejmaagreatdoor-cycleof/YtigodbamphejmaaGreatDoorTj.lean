/- The document's own Rings: trees of the least edges, and of each other edge all that it goes round. -/
import Derived.Test.YtigodbamphejmaaGreatDoorTh
import Derived.Test.YtigodbamphejmaaGreatDoorV6
namespace Go.Proofs.YtigodbamphejmaaGreatDoor.S
open Go.RowKit Go.WideMaps Go.Maps

/-- An edge of the tree is on the way of another one. -/
def tcv (n : Nat) (t : List Edg) (f e : Edg) : Bool := decide ((lbl n (tbut t f)).getD (ea e) 0 ≠ (lbl n (tbut t f)).getD (eb e) 0)

theorem tcov_tcv (n : Nat) (t o : List Edg) (d : Edg) (i : Nat) : tcov n t o d i = tcv n t d (o.getD i (0, 0, 0)) := rfl

def ringOf (n : Nat) (t : List Edg) (e : Edg) : List Int := e.1 :: ((t.filter fun f => tcv n t f e).map (·.1))

theorem rest_tbut {t : List Edg} (hone : ∀ d ∈ t, ∀ e ∈ t, d.1 = e.1 → d = e) {f : Edg} (hf : f ∈ t) : rest t f = tbut t f := by
  unfold rest tbut
  refine List.filter_congr (fun d hd => ?_)
  by_cases h : d = f
  · simp [h]
  · have : d.1 ≠ f.1 := fun k => h (hone d hd f hf k)
    simp [h, this]

theorem tcv_iff {n : Nat} {t : List Edg} (hin : InE n t) (hone : ∀ d ∈ t, ∀ e ∈ t, d.1 = e.1 → d = e) {f e : Edg} (hf : f ∈ t) (h1 : ea e < n) (h2 : eb e < n) : tcv n t f e = true ↔ ¬ cnR (rest t f) (ea e) (eb e) := by
  unfold tcv
  rw [rest_tbut hone hf, decide_eq_true_iff, Ne, lb_iff (tbut_in hin f).nodes h1 h2]

theorem own_block3 {w : World} {base : Nat} {v : Value} {k : Nat} {xs : List Value} (h : w.ownsRow base 3 1 v k xs) {g : Nat} (hg : v.ownBlock = some g) : ∃ cur, w.heap[g]? = some (.cells cur 3) := by
  rcases h.2 with ⟨rfl, _⟩ | ⟨g', cap, cur, rfl, _, hc, _⟩
  · simp [Value.ownBlock] at hg
  · simp [Value.ownBlock] at hg
    subst hg
    exact ⟨_, hc⟩

/-- The rows of rings. -/
structure Rw (w : World) (base : Nat) (v : Value) (P : List (Nat × Nat × List Int)) : Prop where
  own : w.ownsRow base 39 1 v P.length (P.map fun p => .slice (some ⟨p.1, 0, none⟩) p.2.2.length p.2.1)
  rows : ∀ p ∈ P, w.ownsRow 0 3 1 (.slice (some ⟨p.1, 0, none⟩) p.2.2.length p.2.1) p.2.2.length (rowZ p.2.2)

theorem Rw.below {w w' : World} {base : Nat} {v : Value} {P : List (Nat × Nat × List Int)} (h : Rw w base v P) (hb : Below w.heap.size w w') : Rw w' base v P :=
  ⟨h.own.kept (grown_below hb) (Classical.em _), fun p hp => (h.rows p hp).kept (grown_below hb) (Classical.em _)⟩

theorem Rw.push {w w4 : World} {base ρ κ : Nat} {v v' : Value} {P : List (Nat × Nat × List Int)} {K : List Int} {o : Obj} (h : Rw w base v P) (hr : w.ownsRow 0 3 1 (.slice (some ⟨ρ, 0, none⟩) K.length κ) K.length (rowZ K))
    (hown : w4.ownsRow base 39 1 v' (P.length + 1) ((P.map fun p => .slice (some ⟨p.1, 0, none⟩) p.2.2.length p.2.1) ++ [.slice (some ⟨ρ, 0, none⟩) K.length κ])) (hg : (w.alloc o).grownBy w4 v.ownBlock) : Rw w4 base v' (P ++ [(ρ, κ, K)]) := by
  have e1 : (P ++ [(ρ, κ, K)]).length = P.length + 1 := by simp
  have e2 : ((P ++ [(ρ, κ, K)]).map fun p => Value.slice (some ⟨p.1, 0, none⟩) p.2.2.length p.2.1) = (P.map fun p => .slice (some ⟨p.1, 0, none⟩) p.2.2.length p.2.1) ++ [.slice (some ⟨ρ, 0, none⟩) K.length κ] := by simp
  refine ⟨by rw [e1, e2]; exact hown, fun p hp => ?_⟩
  have h1 : w.ownsRow 0 3 1 (.slice (some ⟨p.1, 0, none⟩) p.2.2.length p.2.1) p.2.2.length (rowZ p.2.2) := by
    rcases List.mem_append.1 hp with hp | hp
    · exact h.rows p hp
    · rw [List.mem_singleton.1 hp]; exact hr
  refine (h1.alloc o).kept hg (.inr fun e => ?_)
  have hb : v.ownBlock = some p.1 := e.symm
  obtain ⟨c1, k1⟩ := own_block h.own hb
  obtain ⟨c2, k2⟩ := own_block3 h1 (g := p.1) rfl
  rw [k1] at k2; simp at k2

/-- What the first loop holds on to. -/
structure Rg (w0 W0 w : World) (qt n Bs : Nat) (L t o : List Edg) (vs ut vo : Value) : Prop where
  ga : G.GAt w W0.heap.size 33 55 qt (n : Int) ut t
  so : G.Owns w Bs 55 vs L
  oo : G.Owns w W0.heap.size 55 vo o
  ap : ∀ k, ut.ownBlock = some k → vo.ownBlock ≠ some k
  lq : qt < Bs
  lb : Bs ≤ W0.heap.size
  lo : w0.heap.size ≤ qt
  lu : ∀ k, vs.ownBlock = some k → k < W0.heap.size
  below : Below w0.heap.size w0 w
  sz : W0.heap.size ≤ w.heap.size

section
variable {w0 W0 w w' : World} {qt n Bs : Nat} {L t o : List Edg} {vs ut vo v' : Value}
theorem Rg.below' (h : Rg w0 W0 w qt n Bs L t o vs ut vo) (hb : Below w.heap.size w w') : Rg w0 W0 w' qt n Bs L t o vs ut vo :=
  { h with ga := h.ga.below hb, so := h.so.below hb, oo := h.oo.below hb, below := h.below.trans (hb.mono h.below.size), sz := Nat.le_trans h.sz hb.size }

theorem Rg.other (h : Rg w0 W0 w qt n Bs L t o vs ut vo) {x : Edg} (ho : G.Owns w' W0.heap.size 55 v' (o ++ [x])) (hg : w.grownBy w' vo.ownBlock) (hf : G.Fresh w vo v') : Rg w0 W0 w' qt n Bs L t (o ++ [x]) vs ut v' := by
  have hv : ∀ k, vo.ownBlock = some k → W0.heap.size ≤ k := fun k hk => (World.ownsRow.lt h.oo k hk).1
  have hlq := h.lq
  have hlb := h.lb
  have hlo := h.lo
  refine { h with ga := ⟨?_, World.ownsRow.kept h.ga.row hg ?_, h.ga.ne⟩, so := World.ownsRow.kept h.so hg ?_, oo := ho, ap := fun k hk e => ?_, below := h.below.grown hg h.below.size (fun j hj => by have := hv j hj; omega), sz := Nat.le_trans h.sz hg.size }
  · rw [hg.block qt h.ga.plt (fun e => by have := hv qt e.symm; omega)]; exact h.ga.hp
  · by_cases e : ut.ownBlock = none
    · exact .inl e
    · refine .inr (fun e2 => ?_)
      obtain ⟨k, hk⟩ := Option.ne_none_iff_exists'.1 e
      exact h.ap k hk (e2.symm.trans hk)
  · by_cases e : vs.ownBlock = none
    · exact .inl e
    · refine .inr (fun e2 => ?_)
      obtain ⟨k, hk⟩ := Option.ne_none_iff_exists'.1 e
      have h1 := h.lu k hk
      have h2 := hv k (e2.symm.trans hk)
      omega
  · rcases hf k e with h5 | h5
    · exact h.ap k hk h5
    · have := (h.ga.lt hk).2; omega

theorem Rg.tree (h : Rg w0 W0 w qt n Bs L t o vs ut vo) (x0 x1 x2 : Int) (hl : t.length ≤ 1000) :
    ∃ a m c w2, (Builtin.append_ #[31, 31] 31 #[ut, .slice (some ⟨w.heap.size, 0, none⟩) 1 1]).run Tryz.prog (w.alloc (.cells #[.int .i64 x0, .int .i64 x1, .int .i64 x2] 55)) = .ok (.slice a m c) w2 ∧ w2.cell? ⟨qt, 1, none⟩ = some ut ∧ w2.frozen? ⟨qt, 1, none⟩ = false ∧
      Rg w0 W0 (w2.setCell ⟨qt, 1, none⟩ (.slice a m c)) qt n Bs L (t ++ [(x0, x1, x2)]) o vs (.slice a m c) vo := by
  obtain ⟨v', w2, h1, h2, h3, h4, h5⟩ := G.app_one 31 w W0.heap.size ut t x0 x1 x2 h.ga.row h.sz hl
  obtain ⟨a, m, c, rfl⟩ := h2.slice
  have hlq := h.lq
  have hlb := h.lb
  have hlo := h.lo
  have hv : ∀ k, ut.ownBlock = some k → W0.heap.size ≤ k := fun k hk => (h.ga.lt hk).1
  have hu : (Value.slice a m c).ownBlock ≠ some qt := by
    intro e
    have := (World.ownsRow.lt h2 qt e).1
    omega
  have hgs : w2.grownBy (w2.setCell ⟨qt, 1, none⟩ (.slice a m c)) (some qt) := ⟨rfl, rfl, rfl, by simp, fun k _ hne => Below.heap_setCell _ _ _ _ (fun e => hne (by rw [e]))⟩
  have hd : Below w0.heap.size w0 w2 := h.below.grown h5 h.below.size (fun j hj => by have := hv j hj; omega)
  refine ⟨a, m, c, w2, h1, (G.cell_p h.ga h5).1, (G.cell_p h.ga h5).2, { h with ga := h.ga.store h5 h2 hu, so := World.ownsRow.kept (World.ownsRow.kept h.so h5 ?_) hgs (.inr fun e => ?_), oo := World.ownsRow.kept (World.ownsRow.kept h.oo h5 ?_) hgs (.inr fun e => ?_), ap := fun k hk e => ?_, below := hd.setCell hlo _, sz := Nat.le_trans h.sz (Nat.le_trans h5.size hgs.size) }⟩
  · by_cases e : vs.ownBlock = none
    · exact .inl e
    · refine .inr (fun e2 => ?_)
      obtain ⟨k, hk⟩ := Option.ne_none_iff_exists'.1 e
      have h1 := h.lu k hk
      have h2 := hv k (e2.symm.trans hk)
      omega
  · have := (World.ownsRow.lt h.so qt e).1
    omega
  · by_cases e : vo.ownBlock = none
    · exact .inl e
    · refine .inr (fun e2 => ?_)
      obtain ⟨k, hk⟩ := Option.ne_none_iff_exists'.1 e
      exact h.ap k (e2.symm.trans hk) hk
  · have := (World.ownsRow.lt h.oo qt e).1
    omega
  · rcases h4 k hk with h5 | h5
    · exact h.ap k h5 e
    · have := (World.ownsRow.lt h.oo k e).2; omega
end

theorem take_map {α β : Type} {l : List α} {i : Nat} {x : α} (f : α → β) (h : l[i]? = some x) : (l.take (i + 1)).map f = (l.take i).map f ++ [f x] := by
  obtain ⟨hlt, he⟩ := List.getElem?_eq_some_iff.1 h
  rw [List.take_succ_eq_append_getElem hlt, he, List.map_append]; rfl

theorem take_fil {l : List Edg} {i : Nat} {x : Edg} (p : Edg → Bool) (h : l[i]? = some x) : ((l.take (i + 1)).filter p).map (·.1) = ((l.take i).filter p).map (·.1) ++ if p x then [x.1] else [] := by
  obtain ⟨hlt, he⟩ := List.getElem?_eq_some_iff.1 h
  rw [List.take_succ_eq_append_getElem hlt, he, List.filter_append, List.map_append]
  cases hp : p x <;> simp [hp]

theorem rowZ_snoc (K : List Int) (x : Int) : rowZ (K ++ [x]) = rowZ K ++ [.int .i64 x] := by simp [rowZ]

/-- What Rings hands back. -/
def RingsPost (w : World) (n : Nat) (t o : List Edg) (e : Ending) (w' : World) : Prop :=
  ∃ v base P, e = .returned v ∧ Rw w' base v P ∧ P.map (·.2.2) = o.map (ringOf n t) ∧ Below w.heap.size w w'

set_option maxHeartbeats 8000000 in
set_option maxRecDepth 100000 in
theorem rings_doc (n B q : Nat) (u : Value) (R L : List Edg) (w : World) (h : G.GAt w B 33 55 q (n : Int) u R) (hi : G.Inv R L) (hl : L.length ≤ 60) (hn : n ≤ 40) (hin : InE n L) (hnd : L.Nodup) (hone : ∀ d ∈ L, ∀ e ∈ L, d.1 = e.1 → d = e) :
    Calls Tryz.prog 30 #[.pointer (some ⟨q, 0, none⟩)] w (RingsPost w n (grw n L).1 (grw n L).2) := by
  have hb0 : Below w.heap.size w (w.alloc (.cells #[.int .i64 (n : Int), .slice none 0 0] 33)) := (Below.refl _ _).alloc (Nat.le_refl _) _
  have hc0 := h.c0
  have HG : Hid (G.GAt (w.alloc (.cells #[.int .i64 (n : Int), .slice none 0 0] 33)) B 33 55 q (n : Int) u R ∧ G.Inv R L ∧ Below w.heap.size w (w.alloc (.cells #[.int .i64 (n : Int), .slice none 0 0] 33)) ∧ G.GAt (w.alloc (.cells #[.int .i64 (n : Int), .slice none 0 0] 33)) (w.heap.size + 1) 33 55 w.heap.size (n : Int) (.slice none 0 0) []) := ⟨h.below hb0, hi, hb0, heap_alloc_new w _, World.ownsRow_nil _ _ _ _, fun e => by cases e⟩
  have HIN : Hid (InE n L ∧ L.Nodup ∧ ∀ d ∈ L, ∀ e ∈ L, d.1 = e.1 → d = e) := ⟨hin, hnd, hone⟩
  obtain ⟨i0, hi0, hz0, hz1, hz2⟩ := info_parts Tryz.info3
  obtain ⟨j0, hj0, hy0, hy1, hy2⟩ := info_parts Tryz.info39
  clear h hi hin hnd hone hb0
  go_enter Tryz.func30, Tryz.ntmps30
  go_wp2_with fail
  refine (G.sorted_any B q (n : Int) u R L _ HG.out.1 HG.out.2.1).mono ?_
  rintro e w1 ⟨vs, rfl, ho, hb1⟩
  obtain ⟨va, vc, hv⟩ := ho.slice_len
  obtain ⟨m, hm⟩ : ∃ m, L.length = m := ⟨_, rfl⟩
  have HM : Hid (L.length = m) := hm
  rw [hm] at hv hl
  subst hv
  have ho' : G.Owns w1 (w.heap.size + 1) 55 (.slice va m vc) L := by simpa using ho
  have HR0 : Hid (Rg w w1 w1 w.heap.size n (w.heap.size + 1) L (grw n (L.take 0)).1 (grw n (L.take 0)).2 (.slice va m vc) (.slice none 0 0) (.slice none 0 0)) :=
    ⟨⟨(HG.out.2.2.2.below hb1).hp, World.ownsRow_nil _ _ _ _, fun e => by cases e⟩, ho', World.ownsRow_nil _ _ _ _, fun k hk => by simp [Value.ownBlock] at hk, by omega, by have := hb1.size; simpa using this, Nat.le_refl _, fun k hk => (World.ownsRow.lt ho k hk).2, HG.out.2.2.1.trans (hb1.mono HG.out.2.2.1.size), Nat.le_refl _⟩
  clear ho ho' hb1 hm HG hc0
  go_wp2_with fail
  go_loopw [5, 24] (fun s5 s24 wq => ∃ (k : Nat) (ut : Value), k ≤ m ∧ s24 = .int .i64 k ∧ Rg w w1 wq w.heap.size n (w.heap.size + 1) L (grw n (L.take k)).1 (grw n (L.take k)).2 (.slice va m vc) ut s5) (fun _ s24 _ => m - (intOf s24).toNat)
  case atStart => exact ⟨0, _, Nat.zero_le _, rfl, HR0.out⟩
  case round =>
    clear HR0
    obtain ⟨k, ut, hk, rfl, hrg⟩ := hrel
    have HR : Hid (Rg w w1 wr w.heap.size n (w.heap.size + 1) L (grw n (L.take k)).1 (grw n (L.take k)).2 (.slice va m vc) ut u5) := hrg
    clear hrg
    by_cases hlt : k < m
    · obtain ⟨x0, xa, xb, hx, han, hbn, hxa, hxb⟩ := row_edge HIN.out.1 (by rw [HM.out]; exact hlt)
      obtain ⟨g, rfl⟩ := owns_block HR.out.so (by rw [HM.out]; exact hlt)
      obtain ⟨r0, r1, r2⟩ := HR.out.so.at (g := g) rfl hx
      have r0' : wr.cell? ⟨g, k * 3, none⟩ = some (.int .i64 x0) := r0
      have r1' : wr.cell? ⟨g, k * 3 + 1, none⟩ = some (.int .i64 (xa : Int)) := r1
      have r2' : wr.cell? ⟨g, k * 3 + 2, none⟩ = some (.int .i64 (xb : Int)) := r2
      have hGR := grw_sub HIN.out.2.1 HIN.out.1.nodes k
      have HNX : Hid (grw n (L.take (k + 1)) = gstep n (grw n (L.take k)) (x0, (xa : Int), (xb : Int))) := grw_take n hx
      have htl : (grw n (L.take k)).1.length + (grw n (L.take k)).2.length ≤ 100 := by
        have := hGR.len
        rw [this, List.length_take]; omega
      obtain ⟨t, ht⟩ : ∃ t, (grw n (L.take k)).1 = t := ⟨_, rfl⟩
      obtain ⟨o, ho⟩ : ∃ o, (grw n (L.take k)).2 = o := ⟨_, rfl⟩
      have hpair : grw n (L.take k) = (t, o) := Prod.ext ht ho
      rw [ht, ho] at HR hGR htl
      rw [hpair] at HNX
      have HIT : Hid (InE n t) := HIN.out.1.sub (fun d hd => List.mem_of_mem_take ((hGR.mem d).2 (.inl hd)))
      have HGS : Hid (gstep n (t, o) (x0, (xa : Int), (xb : Int)) = if (lbl n t).getD xa 0 = (lbl n t).getD xb 0 then (t, o ++ [(x0, (xa : Int), (xb : Int))]) else (t ++ [(x0, (xa : Int), (xb : Int))], o)) := by
        show gstep n (t, o) _ = _
        unfold gstep
        rw [hxa, hxb]
      clear r0 r1 r2 hx hxa hxb ht ho hpair hGR
      have hb1 : Below wr.heap.size wr (wr.alloc (.cells #[.int .i64 x0, .int .i64 (xa : Int), .int .i64 (xb : Int)] 55)) := (Below.refl _ _).alloc (Nat.le_refl _) _
      have HR1 : Hid (Rg w w1 (wr.alloc (.cells #[.int .i64 x0, .int .i64 (xa : Int), .int .i64 (xb : Int)] 55)) w.heap.size n (w.heap.size + 1) L t o (.slice (some ⟨g, 0, none⟩) m vc) ut u5 ∧ Box (wr.alloc (.cells #[.int .i64 x0, .int .i64 (xa : Int), .int .i64 (xb : Int)] 55)) wr.heap.size (x0, (xa : Int), (xb : Int))) := ⟨HR.out.below' hb1, heap_alloc_new wr _⟩
      clear hb1 HR
      go_wp2_with fail
      refine (labels_good n w1.heap.size w.heap.size ut t _ HR1.out.1.ga (by omega) hn HIT.out).mono ?_
      rintro e w3 ⟨b, l, rfl, hr, hbb, hgd, hlab, hb3⟩
      have HR3 : Hid (Rg w w1 w3 w.heap.size n (w.heap.size + 1) L t o (.slice (some ⟨g, 0, none⟩) m vc) ut u5) := HR1.out.1.below' hb3
      obtain ⟨q0, q1, q2⟩ := (HR1.out.2.below hb3).cells
      simp only at q0 q1 q2
      have HBX : Hid (Box w3 wr.heap.size (x0, (xa : Int), (xb : Int))) := HR1.out.2.below hb3
      have cA := hr.cell xa (by rw [hgd.len]; omega)
      have cE := hr.cell xb (by rw [hgd.len]; omega)
      have HXY : Hid ((lbl n t).getD xa 0 = (lbl n t).getD xb 0 ↔ l.getD xa 0 = l.getD xb 0) := by
        show _ ↔ _
        rw [hlab xa xb han hbn, lb_iff HIT.out.nodes han hbn]
      obtain ⟨X, hX⟩ : ∃ X, l.getD xa 0 = X := ⟨_, rfl⟩
      obtain ⟨Y, hY⟩ : ∃ Y, l.getD xb 0 = Y := ⟨_, rfl⟩
      rw [hX] at cA HXY
      rw [hY] at cE HXY
      clear hr hbb hgd hlab hb3 HR1 hX hY r0' r1' r2'
      by_cases hxy : X = Y
      · as_aux_lemma =>
        subst hxy
        have hst : gstep n (t, o) (x0, (xa : Int), (xb : Int)) = (t, o ++ [(x0, (xa : Int), (xb : Int))]) := by rw [HGS.out, if_pos (HXY.out.2 rfl)]
        have HST : Hid (grw n (L.take (k + 1)) = (t, o ++ [(x0, (xa : Int), (xb : Int))])) := HNX.out.trans hst
        clear hst HGS HNX
        go_upto_region 8 with fail
        go_quiet (fail)
        have hbq : Below w3.heap.size w3 (w3.drewN nq) := below_drewN (Below.refl _ _) nq
        have HR4 := HR3.out.below' hbq
        obtain ⟨p0, p1, p2⟩ := (HBX.out.below hbq).cells
        simp only at p0 p1 p2
        obtain ⟨v', w4, hrn, ho4, _, hf4, hg4⟩ := G.app_one 31 (w3.drewN nq) w1.heap.size u5 o x0 (xa : Int) (xb : Int) HR4.oo HR4.sz (by omega)
        have HRN : Hid (_ = _) := hrn
        have HF : Hid (Rg w w1 w4 w.heap.size n (w.heap.size + 1) L (grw n (L.take (k + 1))).1 (grw n (L.take (k + 1))).2 (.slice (some ⟨g, 0, none⟩) m vc) ut v') := by
          show Rg _ _ _ _ _ _ _ _ _ _ _ _
          rw [HST.out]
          exact HR4.other ho4 hg4 hf4
        clear hrn ho4 hf4 hg4 HR4 hbq q0 q1 q2 cA cE
        go_wp2_with (at_builtin; refine Lib.wpList_append_run _ rfl _ _ _ _ rfl _ _ rfl rfl _ _ HRN.out ?_)
        go_roundw
        case rel => exact ⟨k + 1, ut, by omega, by go_num, HF.out⟩
        case measure => simp [intOf]; omega
      · as_aux_lemma =>
        have hst : gstep n (t, o) (x0, (xa : Int), (xb : Int)) = (t ++ [(x0, (xa : Int), (xb : Int))], o) := by rw [HGS.out, if_neg (fun k => hxy (HXY.out.1 k))]
        have HST : Hid (grw n (L.take (k + 1)) = (t ++ [(x0, (xa : Int), (xb : Int))], o)) := HNX.out.trans hst
        have hqq : ((X : Int) == (Y : Int)) = false := beq_eq_false_iff_ne.2 (by omega)
        clear hst HGS HNX
        go_upto_region 8 with fail
        go_quiet (fail)
        clear q0 q1 q2 cA cE hqq
        obtain ⟨V, hV⟩ : ∃ V, w3.drewN nq = V := ⟨_, rfl⟩
        rw [hV]
        have hbq : Below w3.heap.size w3 V := by rw [← hV]; exact below_drewN (Below.refl _ _) nq
        have HR4 : Hid (Rg w w1 V w.heap.size n (w.heap.size + 1) L t o (.slice (some ⟨g, 0, none⟩) m vc) ut u5) := HR3.out.below' hbq
        obtain ⟨p0, p1, p2⟩ := (HBX.out.below hbq).cells
        simp only at p0 p1 p2
        have plt : wr.heap.size < V.heap.size := lt_of_cell p0
        have oc := HR4.out.ga.c1
        have olt := HR4.out.ga.plt
        have hbd : Below V.heap.size V V.drew := ⟨rfl, rfl, rfl, Nat.le_refl _, fun _ _ => rfl⟩
        obtain ⟨a', m', c', rfl⟩ := HR4.out.ga.row.slice
        obtain ⟨a2, m2, c2, w5, e1, e2, e3, e4⟩ := (HR4.out.below' hbd).tree x0 (xa : Int) (xb : Int) (by omega)
        have HE : Hid ((Builtin.append_ #[31, 31] 31 #[.slice a' m' c', .slice (some ⟨V.heap.size, 0, none⟩) 1 1]).run Tryz.prog (V.alloc (.cells #[.int .i64 x0, .int .i64 (xa : Int), .int .i64 (xb : Int)] 55)).drew = .ok (.slice a2 m2 c2) w5) := e1
        have HF : Hid (Rg w w1 (w5.setCell ⟨w.heap.size, 1, none⟩ (.slice a2 m2 c2)) w.heap.size n (w.heap.size + 1) L (grw n (L.take (k + 1))).1 (grw n (L.take (k + 1))).2 (.slice (some ⟨g, 0, none⟩) m vc) (.slice a2 m2 c2) u5) := by
          show Rg _ _ _ _ _ _ _ _ _ _ _ _
          rw [HST.out]; exact e4
        clear e1 e4 hbd hbq hV
        go_wp2_with fail
        go_region_law (refine G.step_append_runK rfl (.tmp 45) (.tmp 47) 31 31 rfl (.slice a' m' c') (.slice (some ⟨V.heap.size, 0, none⟩) 1 1) (by first | rfl | (simp [Act.eval]; done) | (simp [Act.eval, Act.put]; done)) (by first | rfl | (simp [Act.eval]; done) | (simp [Act.eval, Act.put]; done)) HE.out ?_)
        all_goals
          go_wp2_with fail
          go_roundw
          case rel => exact ⟨k + 1, _, by omega, by go_num, HF.out⟩
          case measure => simp [intOf]; omega
    · have hkm : k = m := by omega
      obtain ⟨t, ht⟩ : ∃ t, (grw n L).1 = t := ⟨_, rfl⟩
      obtain ⟨o, ho⟩ : ∃ o, (grw n L).2 = o := ⟨_, rfl⟩
      have HTO : Hid ((grw n L).1 = t ∧ (grw n L).2 = o) := ⟨ht, ho⟩
      have hGR := gr_all L HIN.out.2.1 HIN.out.1.nodes
      have h2 := HR.out
      rw [hkm, ← HM.out, List.take_length, HM.out, ht, ho] at h2
      rw [ht, ho] at hGR
      have HT : Hid (InE n t ∧ InE n o ∧ ∀ d ∈ t, ∀ e ∈ t, d.1 = e.1 → d = e) := ⟨HIN.out.1.sub (fun d hd => (hGR.mem d).2 (.inl hd)), HIN.out.1.sub (fun d hd => (hGR.mem d).2 (.inr hd)), fun d hd e he => HIN.out.2.2 d ((hGR.mem d).2 (.inl hd)) e ((hGR.mem e).2 (.inl he))⟩
      obtain ⟨mt, hmt⟩ : ∃ mt, t.length = mt := ⟨_, rfl⟩
      obtain ⟨mo, hmo⟩ : ∃ mo, o.length = mo := ⟨_, rfl⟩
      have hml : mt + mo ≤ 60 := by rw [← hmt, ← hmo, hGR.len, HM.out]; exact hl
      have HMT : Hid (t.length = mt ∧ o.length = mo) := ⟨hmt, hmo⟩
      obtain ⟨oa, oc, hv5⟩ := h2.oo.slice_len
      obtain ⟨ta, tc, hvt⟩ := h2.ga.row.slice_len
      rw [hmo] at hv5
      rw [hmt] at hvt
      subst hv5 hvt
      have HW2 : Hid (G.GAt wr w1.heap.size 33 55 w.heap.size (n : Int) (.slice ta mt tc) t ∧ G.Owns wr w1.heap.size 55 (.slice oa mo oc) o ∧ Below w.heap.size w wr) := ⟨h2.ga, h2.oo, h2.below⟩
      have HP0 : Hid (∃ P, Rw wr wr.heap.size (.slice none 0 0) P ∧ P.map (·.2.2) = (o.take 0).map (ringOf n t) ∧ Below wr.heap.size wr wr) := ⟨[], ⟨World.ownsRow_nil _ _ _ _, fun p hp => by simp at hp⟩, by simp, Below.refl _ _⟩
      clear hkm ht ho hGR h2 HR hmt hmo
      rename World => W2
      go_wp2_with fail
      clear hlt hk
      go_loopw [4, 58] (fun s4 s58 wq => ∃ i : Nat, i ≤ mo ∧ s58 = .int .i64 i ∧ ∃ P, Rw wq W2.heap.size s4 P ∧ P.map (·.2.2) = (o.take i).map (ringOf n t) ∧ Below W2.heap.size W2 wq) (fun _ s58 _ => mo - (intOf s58).toNat)
      case atStart => exact ⟨0, Nat.zero_le _, rfl, HP0.out⟩
      case round =>
        clear HP0
        obtain ⟨i, hi, rfl, P, hP, hPm, hPb⟩ := hrel
        have HP : Hid (Rw wr W2.heap.size u4 P ∧ P.map (·.2.2) = (o.take i).map (ringOf n t) ∧ Below W2.heap.size W2 wr) := ⟨hP, hPm, hPb⟩
        clear hP hPm hPb
        by_cases hlt : i < mo
        · rename World => wo
          obtain ⟨y0, ya, yb, hy, han, hbn, hya, hyb⟩ := row_edge HT.out.2.1 (by rw [HMT.out.2]; exact hlt)
          obtain ⟨go, rfl⟩ := owns_block HW2.out.2.1 (by rw [HMT.out.2]; exact hlt)
          obtain ⟨r0, r1, r2⟩ := (HW2.out.2.1.below HP.out.2.2).at (g := go) rfl hy
          have r0' : wo.cell? ⟨go, i * 3, none⟩ = some (.int .i64 y0) := r0
          have r1' : wo.cell? ⟨go, i * 3 + 1, none⟩ = some (.int .i64 (ya : Int)) := r1
          have r2' : wo.cell? ⟨go, i * 3 + 2, none⟩ = some (.int .i64 (yb : Int)) := r2
          have HY : Hid (o[i]? = some (y0, (ya : Int), (yb : Int)) ∧ ea (y0, (ya : Int), (yb : Int)) = ya ∧ eb (y0, (ya : Int), (yb : Int)) = yb) := ⟨hy, hya, hyb⟩
          obtain ⟨W1, hW1⟩ : ∃ W1, W1 = wo.alloc (.cells #[.int .i64 y0, .int .i64 (ya : Int), .int .i64 (yb : Int)] 55) := ⟨_, rfl⟩
          have hbW : Below wo.heap.size wo W1 := by rw [hW1]; exact (Below.refl _ _).alloc (Nat.le_refl _) _
          have hsz : W1.heap.size = wo.heap.size + 1 := by rw [hW1]; simp
          have HW1 : Hid (wo.alloc (.cells #[.int .i64 y0, .int .i64 (ya : Int), .int .i64 (yb : Int)] 55) = W1) := hW1.symm
          have HBX : Hid (Box W1 wo.heap.size (y0, (ya : Int), (yb : Int))) := by
            show Box W1 _ _
            rw [hW1]; exact heap_alloc_new wo _
          have HWP : Hid (Rw W1 W2.heap.size u4 P ∧ Below W2.heap.size W2 W1) := ⟨HP.out.1.below hbW, HP.out.2.2.trans (hbW.mono HP.out.2.2.size)⟩
          have HPM : Hid (P.map (·.2.2) = (o.take i).map (ringOf n t)) := HP.out.2.1
          obtain ⟨q0, q1, q2⟩ := HBX.out.cells
          simp only at q0 q1 q2
          have hb1 : Below W1.heap.size W1 (W1.alloc (.cells #[.int .i64 y0] 3)) := (Below.refl _ _).alloc (Nat.le_refl _) _
          have HK0 : Hid (∃ K, K = y0 :: ((t.take 0).filter fun f => tcv n t f (y0, (ya : Int), (yb : Int))).map (·.1) ∧ (W1.alloc (.cells #[.int .i64 y0] 3)).ownsRow W1.heap.size 3 1 (.slice (some ⟨wo.heap.size + 1, 0, none⟩) 1 1) K.length (rowZ K) ∧ Below W1.heap.size W1 (W1.alloc (.cells #[.int .i64 y0] 3))) := ⟨[y0], by simp, by
            have := World.ownsRow_lit W1 #[.int .i64 y0] (e := 3) (size := 1) (base := W1.heap.size) 1 (Nat.le_refl _) (by decide) rfl
            rw [hsz] at this ⊢
            exact this, hb1⟩
          have hct : wo.cell? ⟨w.heap.size, 1, none⟩ = some (.slice ta mt tc) := (HW2.out.1.below HP.out.2.2).c1
          have hwlt : w.heap.size < wo.heap.size := lt_of_cell hct
          clear r0 r1 r2 hy hya hyb hW1 hbW hb1 HP q0 q1 q2
          go_wp2_with fail
          rw [HW1.out]
          clear r0' r1' r2' hct hwlt
          go_loopw [11, 70] (fun s11 s70 wq => ∃ k : Nat, k ≤ mt ∧ s70 = .int .i64 k ∧ ∃ K, K = y0 :: ((t.take k).filter fun f => tcv n t f (y0, (ya : Int), (yb : Int))).map (·.1) ∧ wq.ownsRow W1.heap.size 3 1 s11 K.length (rowZ K) ∧ Below W1.heap.size W1 wq) (fun _ s70 _ => mt - (intOf s70).toNat)
          case atStart => exact ⟨0, Nat.zero_le _, rfl, HK0.out⟩
          case round =>
            clear HK0
            obtain ⟨k', hk', rfl, K, hK, hrow, hb⟩ := hrel
            have HK : Hid (K = y0 :: ((t.take k').filter fun f => tcv n t f (y0, (ya : Int), (yb : Int))).map (·.1)) := hK
            have HROW : Hid (wr.ownsRow W1.heap.size 3 1 u11 K.length (rowZ K) ∧ Below W1.heap.size W1 wr) := ⟨hrow, hb⟩
            have hKl : K.length ≤ 61 := by
              rw [hK, List.length_cons, List.length_map]
              have h1 := List.length_filter_le (fun f => tcv n t f (y0, (ya : Int), (yb : Int))) (t.take k')
              rw [List.length_take] at h1
              have := HMT.out.1
              omega
            clear hK hrow hb
            by_cases hltk : k' < mt
            · obtain ⟨z0, za, zb, hz, hzn, hzm, hza, hzb⟩ := row_edge HT.out.1 (by rw [HMT.out.1]; exact hltk)
              obtain ⟨gt, rfl⟩ := owns_block HW2.out.1.row (by rw [HMT.out.1]; exact hltk)
              have HGW : Hid (G.GAt wr w1.heap.size 33 55 w.heap.size (n : Int) (.slice (some ⟨gt, 0, none⟩) mt tc) t) := (HW2.out.1.below HWP.out.2).below HROW.out.2
              obtain ⟨r0, r1, r2⟩ := HGW.out.row.at (g := gt) rfl hz
              have r0' : wr.cell? ⟨gt, k' * 3, none⟩ = some (.int .i64 z0) := r0
              have r1' : wr.cell? ⟨gt, k' * 3 + 1, none⟩ = some (.int .i64 (za : Int)) := r1
              have r2' : wr.cell? ⟨gt, k' * 3 + 2, none⟩ = some (.int .i64 (zb : Int)) := r2
              obtain ⟨s, hs⟩ : ∃ s, tcv n t (z0, (za : Int), (zb : Int)) (y0, (ya : Int), (yb : Int)) = s := ⟨_, rfl⟩
              have HST : Hid (y0 :: ((t.take (k' + 1)).filter fun f => tcv n t f (y0, (ya : Int), (yb : Int))).map (·.1) = K ++ if s then [z0] else []) := by
                show _ = _
                rw [take_fil _ hz, hs, HK.out]
                rfl
              have HSS : Hid (s = true ↔ ¬ cnR (rest t (z0, (za : Int), (zb : Int))) ya yb) := by
                have h1 := tcv_iff HT.out.1 HT.out.2.2 (List.mem_of_getElem? hz) (e := (y0, (ya : Int), (yb : Int))) (by rw [HY.out.2.1]; exact han) (by rw [HY.out.2.2]; exact hbn)
                rw [hs, HY.out.2.1, HY.out.2.2] at h1
                exact h1
              obtain ⟨V1, hV1⟩ : ∃ V1, V1 = wr.alloc (.cells #[.int .i64 z0, .int .i64 (za : Int), .int .i64 (zb : Int)] 55) := ⟨_, rfl⟩
              have hbV : Below wr.heap.size wr V1 := by rw [hV1]; exact (Below.refl _ _).alloc (Nat.le_refl _) _
              have hszV : V1.heap.size = wr.heap.size + 1 := by rw [hV1]; simp
              have HV1 : Hid (wr.alloc (.cells #[.int .i64 z0, .int .i64 (za : Int), .int .i64 (zb : Int)] 55) = V1) := hV1.symm
              have HBV : Hid (Box V1 wr.heap.size (z0, (za : Int), (zb : Int))) := by
                show Box V1 _ _
                rw [hV1]; exact heap_alloc_new wr _
              have HRV : Hid (V1.ownsRow W1.heap.size 3 1 u11 K.length (rowZ K) ∧ Below W1.heap.size W1 V1) := ⟨HROW.out.1.kept (grown_below hbV) (Classical.em _), HROW.out.2.trans (hbV.mono HROW.out.2.size)⟩
              have HWO : Hid (Calls Tryz.prog 46 #[.pointer (some ⟨w.heap.size, 0, none⟩), .slice (some ⟨wr.heap.size + 1, 0, none⟩) 1 1, .slice none 0 0] (V1.alloc (.cells #[.int .i64 z0] 3)) fun e w' => ∃ q' v' B', e = .returned (.pointer (some ⟨q', 0, none⟩)) ∧ G.GAt w' B' 33 55 q' (n : Int) v' (rest t (z0, (za : Int), (zb : Int))) ∧ Below V1.heap.size V1 w') := by
                have hb2 : Below V1.heap.size V1 (V1.alloc (.cells #[.int .i64 z0] 3)) := (Below.refl _ _).alloc (Nat.le_refl _) _
                have h1i := one_id V1 z0
                rw [hszV] at h1i
                refine (G.rwithout_any (n : Int) w1.heap.size w.heap.size _ t _ none 1 0 1 0 (fun _ => z0) (fun _ => 0) _ ((HGW.out.below hbV).below hb2) (by rw [HMT.out.1]; omega) h1i (no_id _) (by omega) (by omega)).mono ?_
                rintro e w' ⟨q', v', rfl, hg', hb'⟩
                rw [rest_eq t (z0, (za : Int), (zb : Int))] at hg'
                exact ⟨q', v', _, rfl, hg', hb2.trans (hb'.mono hb2.size)⟩
              have hVlt : wr.heap.size < V1.heap.size := by omega
              clear r0 r1 r2 hz hza hzb hV1 hbV hszV HGW HROW hs
              go_wp2_with fail
              rw [HV1.out]
              refine Calls.mono HWO.out ?_
              rintro e w2 ⟨q', v', B', rfl, hg2, hb2⟩
              have HG2 : Hid (G.GAt w2 B' 33 55 q' (n : Int) v' (rest t (z0, (za : Int), (zb : Int))) ∧ Below V1.heap.size V1 w2) := ⟨hg2, hb2⟩
              clear hg2 hb2 HWO r0' r1' r2'
              go_wp2_with fail
              refine (labels_good n B' q' v' (rest t (z0, (za : Int), (zb : Int))) w2 HG2.out.1 (Nat.le_trans (rest_len _ _) (by rw [HMT.out.1]; omega)) hn (inn_rest HT.out.1 _)).mono ?_
              rintro e w3 ⟨b, l, rfl, hr, hbb, hgd, hlab, hb3⟩
              have hW3 : Below V1.heap.size V1 w3 := HG2.out.2.trans (hb3.mono HG2.out.2.size)
              have HR3 : Hid (w3.ownsRow W1.heap.size 3 1 u11 K.length (rowZ K) ∧ Below W1.heap.size W1 w3) := ⟨HRV.out.1.kept (grown_below hW3) (Classical.em _), HRV.out.2.trans (hW3.mono HRV.out.2.size)⟩
              have c0 := (HBV.out.below hW3).cells.1
              obtain ⟨_, p1, p2⟩ := (HBX.out.below HR3.out.2).cells
              simp only at c0 p1 p2
              have cA := hr.cell ya (by rw [hgd.len]; omega)
              have cE := hr.cell yb (by rw [hgd.len]; omega)
              have HXY : Hid (s = true ↔ l.getD ya 0 ≠ l.getD yb 0) := by
                show s = true ↔ _
                rw [HSS.out, Ne, hlab ya yb han hbn]
              obtain ⟨X, hX⟩ : ∃ X, l.getD ya 0 = X := ⟨_, rfl⟩
              obtain ⟨Y, hY⟩ : ∃ Y, l.getD yb 0 = Y := ⟨_, rfl⟩
              rw [hX] at cA HXY
              rw [hY] at cE HXY
              clear hr hbb hgd hlab hb3 hW3 HG2 HRV HSS hVlt hX hY
              by_cases hxy : X = Y
              · as_aux_lemma =>
                subst hxy
                have HF : Hid (K = y0 :: ((t.take (k' + 1)).filter fun f => tcv n t f (y0, (ya : Int), (yb : Int))).map (·.1)) := by
                  show K = _
                  rw [HST.out, if_neg (fun k => (HXY.out.1 k) rfl), List.append_nil]
                clear HST HXY
                go_wp2_with fail
                go_quiet (fail)
                clear c0 p1 p2 cA cE
                go_wp2_with fail
                go_roundw
                case rel => exact ⟨k' + 1, by omega, by go_num, K, HF.out, HR3.out.1, below_drewN HR3.out.2 nq⟩
                case measure => simp [intOf]; omega
              · as_aux_lemma =>
                have HST' : Hid (K ++ [z0] = y0 :: ((t.take (k' + 1)).filter fun f => tcv n t f (y0, (ya : Int), (yb : Int))).map (·.1)) := by
                  show K ++ [z0] = _
                  rw [HST.out, if_pos (HXY.out.2 hxy)]
                have hq : ((X : Int) == (Y : Int)) = false := beq_eq_false_iff_ne.2 (by omega)
                clear HST HXY
                go_wp2_with fail
                go_quiet (fail)
                have d0 : (w3.drewN nq).cell? ⟨wr.heap.size, 0, none⟩ = some (.int .i64 z0) := c0
                have HD : Hid ((w3.drewN nq).ownsRow W1.heap.size 3 1 u11 K.length (rowZ K) ∧ Below W1.heap.size W1 (w3.drewN nq)) := ⟨HR3.out.1, below_drewN HR3.out.2 nq⟩
                clear c0 p1 p2 cA cE HR3
                generalize w3.drewN nq = V at *
                have hrow := HD.out.1
                have hVs := HD.out.2.size
                have HLT := hrow.lt
                go_wp2_with (first
                  | (at_builtin; refine wpList_append_own_at _ rfl _ _ 39 rfl W1.heap.size 3 i0 (.int .i64 0) 1 8 Tryz.underlying39 hi0 hz0 hz1 hz2 rfl (by decide) u11 _ _ rfl (hrow.alloc _) ⟨V.heap.size, 0, none⟩ 1 1 [.int .i64 z0] rfl rfl (cell_one_new _ _ _) (ints_oneCell .i64 [z0]) (by unfold maxLen; omega) (by omega) (by simp; omega) ?_; intro v'' w4 hown' hgrow hnil hloc)
                  | fail)
                have HF : Hid (w4.ownsRow W1.heap.size 3 1 v'' (K ++ [z0]).length (rowZ (K ++ [z0])) ∧ Below W1.heap.size W1 w4) := by
                  refine ⟨?_, HD.out.2.grown ((World.grownBy_alloc V _ _).trans hgrow) hVs (fun j hj => (HLT j hj).1)⟩
                  rw [rowZ_snoc, List.length_append]
                  exact hown'
                clear hown' hgrow hnil hloc hrow HLT HD
                go_roundw
                case rel => exact ⟨k' + 1, by omega, by go_num, K ++ [z0], HST'.out, HF.out.1, HF.out.2⟩
                case measure => simp [intOf]; omega
            · as_aux_lemma =>
              have hke : k' = mt := by omega
              have HKK : Hid (K = ringOf n t (y0, (ya : Int), (yb : Int))) := by
                show K = _
                rw [HK.out, hke, ← HMT.out.1, List.take_length]; rfl
              obtain ⟨ρ, κ, rfl⟩ := own_slice HROW.out.1 (by rw [HK.out]; simp)
              have hRw := HWP.out.1.below HROW.out.2
              have hBw : Below W2.heap.size W2 wr := HWP.out.2.trans (HROW.out.2.mono HWP.out.2.size)
              have hBs := hBw.size
              have howt := hRw.own
              have hPl : P.length ≤ 61 := by
                have := congrArg List.length HPM.out
                rw [List.length_map, List.length_map, List.length_take] at this
                omega
              clear hke
              obtain ⟨kl, hkl⟩ : ∃ kl, K.length = kl := ⟨_, rfl⟩
              have HKL : Hid (K.length = kl) := hkl
              rw [hkl]
              clear hkl hKl
              go_wp2_with (first
                | (at_builtin; refine wpList_append_own_at _ rfl _ _ 42 rfl W2.heap.size 39 j0 (.slice none 0 0) 1 24 Tryz.underlying42 hj0 hy0 hy1 hy2 rfl (by decide) u4 _ _ rfl (howt.alloc _) ⟨wr.heap.size, 0, none⟩ 1 1 [.slice (some ⟨ρ, 0, none⟩) kl κ] rfl rfl (cell_one_new _ _ _) (one_slice _ _ _) (by unfold maxLen; omega) (by omega) (by simp; omega) ?_; intro v' w4 hown' hgrow hnil hloc)
                | fail)
              have HF : Hid (Rw w4 W2.heap.size v' (P ++ [(ρ, κ, K)]) ∧ Below W2.heap.size W2 w4) := by
                rw [← HKL.out] at hown'
                refine ⟨hRw.push (row_mono HROW.out.1 (Nat.zero_le _)) hown' hgrow, hBw.grown ((World.grownBy_alloc wr _ _).trans hgrow) hBs (fun j hj => (howt.lt j hj).1)⟩
              have HFM : Hid ((P ++ [(ρ, κ, K)]).map (·.2.2) = (o.take (i + 1)).map (ringOf n t)) := by
                show _ = _
                rw [take_map _ HY.out.1, List.map_append, HPM.out, HKK.out]; rfl
              clear hown' hgrow hnil hloc hRw hBw howt
              go_roundw
              case rel => exact ⟨i + 1, by omega, by go_num, _, HF.out.1, HFM.out, HF.out.2⟩
              case measure => simp [intOf]; omega
        · as_aux_lemma =>
          have HF : Hid (RingsPost w n t o (.returned u4) wr) := by
            have hie : i = mo := by omega
            have h1 := HP.out
            rw [hie, ← HMT.out.2, List.take_length] at h1
            exact ⟨_, _, P, rfl, h1.1, h1.2.1, HW2.out.2.2.trans (h1.2.2.mono HW2.out.2.2.size)⟩
          clear HP
          go_wp2_with fail
          go_ret
          rw [HTO.out.1, HTO.out.2]
          exact HF.out

end Go.Proofs.YtigodbamphejmaaGreatDoor.S
