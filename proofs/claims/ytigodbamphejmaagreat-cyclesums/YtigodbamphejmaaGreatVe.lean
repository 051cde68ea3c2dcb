/- Package cycle: grow. -/
import Derived.Test.YtigodbamphejmaaGreatVd
namespace Go.Proofs.YtigodbamphejmaaGreat.S
open Go.RowKit

/-- What grow holds on to. -/
structure Gw (w0 W0 w : World) (p b be : Nat) (l : List Nat) (R t o : List Edg) (ue v2 v3 : Value) : Prop where
  sets : SetsAt w p b l
  er : G.Owns w be 49 ue R
  o2 : G.Owns w W0.heap.size 49 v2 t
  o3 : G.Owns w W0.heap.size 49 v3 o
  ap : ∀ k, v2.ownBlock = some k → v3.ownBlock ≠ some k
  lp : p < be
  lbl : b < be
  lbe : be ≤ W0.heap.size
  lu : ∀ k, ue.ownBlock = some k → k < W0.heap.size
  low : w0.heap.size ≤ b
  below : Below w0.heap.size w0 w
  sz : W0.heap.size ≤ w.heap.size
  s0 : w0.heap.size ≤ W0.heap.size

section
variable {w0 W0 w w' : World} {p b be : Nat} {l l' : List Nat} {R t o : List Edg} {ue v2 v3 v' : Value}
theorem Gw.below' (h : Gw w0 W0 w p b be l R t o ue v2 v3) (hb : Below w.heap.size w w') : Gw w0 W0 w' p b be l R t o ue v2 v3 :=
  { h with sets := h.sets.below hb h.sets.plt h.sets.blt, er := h.er.below hb, o2 := h.o2.below hb, o3 := h.o3.below hb, below := h.below.trans (hb.mono h.below.size), sz := Nat.le_trans h.sz hb.size }

theorem Gw.join (h : Gw w0 W0 w p b be l R t o ue v2 v3) (hs : SetsAt w' p b l') (hb : But b w w') : Gw w0 W0 w' p b be l' R t o ue v2 v3 := by
  have hg : w.grownBy w' (some b) := ⟨hb.os, hb.tape, hb.output, hb.size, fun k hk hne => hb.block k hk (fun e => hne (by rw [e]))⟩
  have hlb := h.lbl
  have hbe := h.lbe
  refine { h with sets := hs, er := World.ownsRow.kept h.er hg (.inr (fun e => by have := (World.ownsRow.lt h.er b e).1; omega)), o2 := World.ownsRow.kept h.o2 hg (.inr (fun e => by have := (World.ownsRow.lt h.o2 b e).1; omega)), o3 := World.ownsRow.kept h.o3 hg (.inr (fun e => by have := (World.ownsRow.lt h.o3 b e).1; omega)), below := h.below.trans (hb.below h.low h.below.size), sz := Nat.le_trans h.sz hb.size }

theorem Gw.grown (h : Gw w0 W0 w p b be l R t o ue v2 v3) {v : Value} (hg : w.grownBy w' v.ownBlock) (hv : ∀ k, v.ownBlock = some k → W0.heap.size ≤ k) : SetsAt w' p b l ∧ G.Owns w' be 49 ue R ∧ Below w0.heap.size w0 w' ∧ W0.heap.size ≤ w'.heap.size := by
  have hlp := h.lp
  have hlb := h.lbl
  have hbe := h.lbe
  have hs0 := h.s0
  refine ⟨⟨(hg.block p h.sets.plt (fun e => by have := hv p e.symm; omega)).trans h.sets.hp, (hg.block b h.sets.blt (fun e => by have := hv b e.symm; omega)).trans h.sets.hb⟩, World.ownsRow.kept h.er hg ?_, h.below.grown hg h.below.size (fun j hj => by have := hv j hj; omega), Nat.le_trans h.sz hg.size⟩
  by_cases e : ue.ownBlock = none
  · exact .inl e
  · refine .inr (fun e2 => ?_)
    obtain ⟨k, hk⟩ := Option.ne_none_iff_exists'.1 e
    have h1 := h.lu k hk
    have h2 := hv k (e2.symm.trans hk)
    omega

theorem Gw.tree (h : Gw w0 W0 w p b be l R t o ue v2 v3) {x : Edg} (ho : G.Owns w' W0.heap.size 49 v' (t ++ [x])) (hg : w.grownBy w' v2.ownBlock) (hf : G.Fresh w v2 v') : Gw w0 W0 w' p b be l R (t ++ [x]) o ue v' v3 := by
  obtain ⟨h1, h2, h3, h4⟩ := h.grown hg (fun k hk => (World.ownsRow.lt h.o2 k hk).1)
  refine { h with sets := h1, er := h2, o2 := ho, o3 := World.ownsRow.kept h.o3 hg ?_, ap := fun k hk e => ?_, below := h3, sz := h4 }
  · by_cases e : v3.ownBlock = none
    · exact .inl e
    · refine .inr (fun e2 => ?_)
      obtain ⟨k, hk⟩ := Option.ne_none_iff_exists'.1 e
      exact h.ap k (e2.symm.trans hk) hk
  · rcases hf k hk with h5 | h5
    · exact h.ap k h5 e
    · have := (World.ownsRow.lt h.o3 k e).2; omega

theorem Gw.other (h : Gw w0 W0 w p b be l R t o ue v2 v3) {x : Edg} (ho : G.Owns w' W0.heap.size 49 v' (o ++ [x])) (hg : w.grownBy w' v3.ownBlock) (hf : G.Fresh w v3 v') : Gw w0 W0 w' p b be l R t (o ++ [x]) ue v2 v' := by
  obtain ⟨h1, h2, h3, h4⟩ := h.grown hg (fun k hk => (World.ownsRow.lt h.o3 k hk).1)
  refine { h with sets := h1, er := h2, o3 := ho, o2 := World.ownsRow.kept h.o2 hg ?_, ap := fun k hk e => ?_, below := h3, sz := h4 }
  · by_cases e : v2.ownBlock = none
    · exact .inl e
    · refine .inr (fun e2 => ?_)
      obtain ⟨k, hk⟩ := Option.ne_none_iff_exists'.1 e
      exact h.ap k hk (e2.symm.trans hk)
  · rcases hf k e with h5 | h5
    · exact h.ap k hk h5
    · have := (World.ownsRow.lt h.o2 k hk).2; omega
end

theorem joinL_eqv {L : List Nat} {x y : Nat} (h : L.getD x 0 = L.getD y 0) : joinL L x y = L := by
  apply List.ext_getElem
  · simp [joinL]
  · intro i h1 h2
    have := joinL_at L x y i h2
    rw [List.getD_eq_getElem?_getD, List.getElem?_eq_getElem h1, List.getD_eq_getElem?_getD (l := L) (i := i), List.getElem?_eq_getElem h2] at this
    simp only [Option.getD_some] at this
    rw [this, h]
    unfold named
    split <;> omega

theorem grw_take (n : Nat) {R : List Edg} {k : Nat} {x : Edg} (h : R[k]? = some x) : grw n (R.take (k + 1)) = gstep n (grw n (R.take k)) x := by
  obtain ⟨hlt, he⟩ := List.getElem?_eq_some_iff.1 h
  rw [List.take_succ_eq_append_getElem hlt, he, grw_snoc]

theorem grw_sub {n : Nat} {R : List Edg} (hnd : R.Nodup) (hin : Nodes n R) (k : Nat) : Gr n (R.take k) (grw n (R.take k)).1 (grw n (R.take k)).2 :=
  gr_all _ (hnd.sublist (List.take_sublist _ _)) (fun e he => hin e (List.mem_of_mem_take he))

/-- What grow gives. -/
def GrowPost (w : World) (n : Nat) (R : List Edg) (e : Ending) (w' : World) : Prop :=
  ∃ v2 v3 B, e = .returned (.tuple #[v2, v3]) ∧ G.Owns w' B 49 v2 (grw n R).1 ∧ G.Owns w' B 49 v3 (grw n R).2 ∧ w.heap.size ≤ B ∧ Below w.heap.size w w'

set_option maxHeartbeats 4000000 in
set_option maxRecDepth 100000 in
theorem grow_any (n B p : Nat) (v : Value) (R : List Edg) (w : World) (h : G.GAt w B 76 49 p (n : Int) v R) (hn : n ≤ 40) (hin : InE n R) (hnd : R.Nodup) (hl : R.length ≤ 120) :
    Calls Tryz.prog 25 #[.pointer (some ⟨p, 0, none⟩)] w (GrowPost w n R) := by
  have HG : Hid (G.GAt w B 76 49 p (n : Int) v R) := h
  have HIN : Hid (InE n R ∧ R.Nodup) := ⟨hin, hnd⟩
  clear h hin hnd
  go_enter Tryz.func25, Tryz.ntmps25
  go_wp2_with fail
  refine (G.nodes_any (n : Int) B p v R _ HG.out).mono ?_
  rintro e w0 ⟨rfl, hw0⟩
  subst hw0
  go_wp2_with fail
  refine (ctogether_any n 0 (.slice none 0 0) [] w0 (World.ownsRow_nil _ _ _ _) hn (fun e he => by simp at he) (by simp)).mono ?_
  rintro e w1 ⟨ps, bs, rfl, hs1, hps, hbs, hb1⟩
  have HS1 : Hid (SetsAt w1 ps bs (lbl n []) ∧ w0.heap.size ≤ bs ∧ Below w0.heap.size w0 w1) := ⟨hs1, hbs, hb1⟩
  clear hs1 hps hbs hb1
  go_wp2_with fail
  refine (G.edges_any (n : Int) B p v R _ (HG.out.below HS1.out.2.2) hl).mono ?_
  rintro e w2 ⟨ue, rfl, hoe, hb2⟩
  have HW0 : Hid (Gw w0 w2 w2 ps bs w1.heap.size (lbl n (grw n (R.take 0)).1) R (grw n (R.take 0)).1 (grw n (R.take 0)).2 ue (.slice none 0 0) (.slice none 0 0)) :=
    ⟨HS1.out.1.below hb2 HS1.out.1.plt HS1.out.1.blt, hoe, World.ownsRow_nil _ _ _ _, World.ownsRow_nil _ _ _ _, fun k hk => absurd hk (by simp [Value.ownBlock]), HS1.out.1.plt, HS1.out.1.blt, hb2.size, fun k hk => (World.ownsRow.lt hoe k hk).2, HS1.out.2.1, HS1.out.2.2.trans (hb2.mono HS1.out.2.2.size), Nat.le_refl _, Nat.le_trans HS1.out.2.2.size hb2.size⟩
  obtain ⟨m, hm⟩ : ∃ m, R.length = m := ⟨_, rfl⟩
  have HM : Hid (R.length = m) := hm
  obtain ⟨va, vc, hv⟩ := hoe.slice_len
  rw [hm] at hv hl
  subst hv
  clear hoe hb2 HS1 hm
  go_wp2_with fail
  go_loopw [2, 3, 15] (fun s2 s3 s15 wq => ∃ k : Nat, k ≤ m ∧ s15 = .int .i64 k ∧ Gw w0 w2 wq ps bs w1.heap.size (lbl n (grw n (R.take k)).1) R (grw n (R.take k)).1 (grw n (R.take k)).2 (.slice va m vc) s2 s3) (fun _ _ s15 _ => m - (intOf s15).toNat)
  case atStart => exact ⟨0, Nat.zero_le _, rfl, HW0.out⟩
  case round =>
    clear HW0
    obtain ⟨k, hk, rfl, hgw⟩ := hrel
    have HW : Hid (Gw w0 w2 wr ps bs w1.heap.size (lbl n (grw n (R.take k)).1) R (grw n (R.take k)).1 (grw n (R.take k)).2 (.slice va m vc) u2 u3) := hgw
    clear hgw
    by_cases hlt : k < m
    · obtain ⟨x0, xa, xb, hx, han, hbn, hxa, hxb⟩ := row_edge HIN.out.1 (by rw [HM.out]; exact hlt)
      have HX : Hid (R[k]? = some (x0, (xa : Int), (xb : Int)) ∧ ea (x0, (xa : Int), (xb : Int)) = xa ∧ eb (x0, (xa : Int), (xb : Int)) = xb) := ⟨hx, hxa, hxb⟩
      obtain ⟨g, rfl⟩ := owns_block HW.out.er (by rw [HM.out]; exact hlt)
      obtain ⟨r0, r1, r2⟩ := HW.out.er.at (g := g) rfl hx
      have r0' : wr.cell? ⟨g, k * 3, none⟩ = some (.int .i64 x0) := r0
      have r1' : wr.cell? ⟨g, k * 3 + 1, none⟩ = some (.int .i64 (xa : Int)) := r1
      have r2' : wr.cell? ⟨g, k * 3 + 2, none⟩ = some (.int .i64 (xb : Int)) := r2
      have HGR : Hid (Gr n (R.take k) (grw n (R.take k)).1 (grw n (R.take k)).2) := grw_sub HIN.out.2 HIN.out.1.nodes k
      have HNX : Hid (grw n (R.take (k + 1)) = gstep n (grw n (R.take k)) (x0, (xa : Int), (xb : Int))) := grw_take n hx
      have htl : (grw n (R.take k)).1.length + (grw n (R.take k)).2.length ≤ 1000 := by
        have := HGR.out.len
        rw [this, List.length_take]; omega
      obtain ⟨t, ht⟩ : ∃ t, (grw n (R.take k)).1 = t := ⟨_, rfl⟩
      obtain ⟨o, ho⟩ : ∃ o, (grw n (R.take k)).2 = o := ⟨_, rfl⟩
      have HTO : Hid ((grw n (R.take k)).1 = t ∧ (grw n (R.take k)).2 = o) := ⟨ht, ho⟩
      rw [ht, ho] at HW HGR htl
      have hgl : (lbl n t).length = n := (lb_good (fun d hd => HIN.out.1.nodes d (List.mem_of_mem_take ((HGR.out.mem d).2 (.inl hd))))).len
      clear r0 r1 r2 hx hxa hxb ht ho
      have hb1 : Below wr.heap.size wr (wr.alloc (.cells #[.int .i64 x0, .int .i64 (xa : Int), .int .i64 (xb : Int)] 49)) := (Below.refl _ _).alloc (Nat.le_refl _) _
      have HW1 : Hid (Gw w0 w2 (wr.alloc (.cells #[.int .i64 x0, .int .i64 (xa : Int), .int .i64 (xb : Int)] 49)) ps bs w1.heap.size (lbl n t) R t o (.slice (some ⟨g, 0, none⟩) m vc) u2 u3) := HW.out.below' hb1
      have hbs := HW.out.sets.blt
      clear hb1 HW
      go_wp2_with fail
      refine (join_in xa xb ps bs (lbl n t) _ HW1.out.sets (by omega) (by omega) (by omega)).mono ?_
      rintro e w3 ⟨rfl, hs3, hb3⟩
      have hbox : w3.heap[wr.heap.size]? = some (.cells #[.int .i64 x0, .int .i64 (xa : Int), .int .i64 (xb : Int)] 49) := (hb3.block wr.heap.size (by simp) (by omega)).trans (heap_alloc_new wr _)
      have q0 : w3.cell? ⟨wr.heap.size, 0, none⟩ = some (.int .i64 x0) := by simp [World.cell?, hbox]
      have q1 : w3.cell? ⟨wr.heap.size, 1, none⟩ = some (.int .i64 (xa : Int)) := by simp [World.cell?, hbox]
      have q2 : w3.cell? ⟨wr.heap.size, 2, none⟩ = some (.int .i64 (xb : Int)) := by simp [World.cell?, hbox]
      have HW2 : Hid (Gw w0 w2 w3 ps bs w1.heap.size (joinL (lbl n t) xa xb) R t o (.slice (some ⟨g, 0, none⟩) m vc) u2 u3) := HW1.out.join hs3 hb3
      have HGS : Hid (gstep n (t, o) (x0, (xa : Int), (xb : Int)) = if (lbl n t).getD xa 0 = (lbl n t).getD xb 0 then (t, o ++ [(x0, (xa : Int), (xb : Int))]) else (t ++ [(x0, (xa : Int), (xb : Int))], o)) := by
        show gstep n (t, o) _ = _
        unfold gstep
        rw [HX.out.2.1, HX.out.2.2]
      have hpair : grw n (R.take k) = (t, o) := Prod.ext HTO.out.1 HTO.out.2
      have HLB : Hid (lbl n (t ++ [(x0, (xa : Int), (xb : Int))]) = joinL (lbl n t) xa xb) := by
        show lbl n _ = _
        rw [lb_snoc, HX.out.2.1, HX.out.2.2]
      rw [hpair] at HNX
      clear hs3 hb3 hbox HW1 r0' r1' r2' hpair
      by_cases hc : (lbl n t).getD xa 0 = (lbl n t).getD xb 0
      · as_aux_lemma =>
        have hd : decide ((lbl n t).getD xa 0 ≠ (lbl n t).getD xb 0) = false := decide_eq_false (fun k => k hc)
        have hst : gstep n (t, o) (x0, (xa : Int), (xb : Int)) = (t, o ++ [(x0, (xa : Int), (xb : Int))]) := by rw [HGS.out, if_pos hc]
        have HW3 : Hid (Gw w0 w2 w3 ps bs w1.heap.size (lbl n t) R t o (.slice (some ⟨g, 0, none⟩) m vc) u2 u3) := by
          have := HW2.out
          rw [joinL_eqv hc] at this; exact this
        rw [hd]
        clear HW2 hc hd
        obtain ⟨v', w4, hr, ho4, _, hf4, hg4⟩ := G.app_one 31 w3 w2.heap.size u3 _ x0 (xa : Int) (xb : Int) HW3.out.o3 HW3.out.sz (by omega)
        have HR : Hid (_ = _) := hr
        have HW4 : Hid (Gw w0 w2 w4 ps bs w1.heap.size (lbl n (grw n (R.take (k + 1))).1) R (grw n (R.take (k + 1))).1 (grw n (R.take (k + 1))).2 (.slice (some ⟨g, 0, none⟩) m vc) u2 v') := by
          have h1 := HW3.out.other ho4 hg4 hf4
          show Gw _ _ _ _ _ _ _ _ _ _ _ _ _
          rw [HNX.out, hst]
          exact h1
        clear hr ho4 hf4 hg4 HW3
        go_wp2_with (at_builtin; refine Lib.wpList_append_run _ rfl _ _ _ _ rfl _ _ rfl rfl _ _ HR.out ?_)
        go_roundw
        case rel => exact ⟨k + 1, by omega, by go_num, HW4.out⟩
        case measure => simp [intOf]; omega
      · as_aux_lemma =>
        have hd : decide ((lbl n t).getD xa 0 ≠ (lbl n t).getD xb 0) = true := decide_eq_true hc
        have hst : gstep n (t, o) (x0, (xa : Int), (xb : Int)) = (t ++ [(x0, (xa : Int), (xb : Int))], o) := by rw [HGS.out, if_neg hc]
        have HW3 : Hid (Gw w0 w2 w3 ps bs w1.heap.size (lbl n (t ++ [(x0, (xa : Int), (xb : Int))])) R t o (.slice (some ⟨g, 0, none⟩) m vc) u2 u3) := by
          have := HW2.out
          rw [← HLB.out] at this; exact this
        rw [hd]
        clear HW2 hc hd
        obtain ⟨v', w4, hr, ho4, _, hf4, hg4⟩ := G.app_one 31 w3 w2.heap.size u2 _ x0 (xa : Int) (xb : Int) HW3.out.o2 HW3.out.sz (by omega)
        have HR : Hid (_ = _) := hr
        have HW4 : Hid (Gw w0 w2 w4 ps bs w1.heap.size (lbl n (grw n (R.take (k + 1))).1) R (grw n (R.take (k + 1))).1 (grw n (R.take (k + 1))).2 (.slice (some ⟨g, 0, none⟩) m vc) v' u3) := by
          have h1 := HW3.out.tree ho4 hg4 hf4
          show Gw _ _ _ _ _ _ _ _ _ _ _ _ _
          rw [HNX.out, hst]
          exact h1
        clear hr ho4 hf4 hg4 HW3
        go_wp2_with (at_builtin; refine Lib.wpList_append_run _ rfl _ _ _ _ rfl _ _ rfl rfl _ _ HR.out ?_)
        go_roundw
        case rel => exact ⟨k + 1, by omega, by go_num, HW4.out⟩
        case measure => simp [intOf]; omega
    · as_aux_lemma =>
      have hke : k = m := by omega
      have HF : Hid (Gw w0 w2 wr ps bs w1.heap.size (lbl n (grw n R).1) R (grw n R).1 (grw n R).2 (.slice va m vc) u2 u3) := by
        have h2 := HW.out
        rw [hke, ← HM.out, List.take_length, HM.out] at h2
        exact h2
      clear hke HW
      go_wp2_with fail
      go_ret2
      exact ⟨_, _, w2.heap.size, rfl, HF.out.o2, HF.out.o3, HF.out.s0, HF.out.below⟩

end Go.Proofs.YtigodbamphejmaaGreat.S
