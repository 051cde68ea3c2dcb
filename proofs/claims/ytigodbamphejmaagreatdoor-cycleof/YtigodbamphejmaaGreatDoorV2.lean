/- Package cycle: together, apart, grow. -/
import Derived.Test.YtigodbamphejmaaGreatDoorV1
import Derived.Test.YtigodbamphejmaaGreatDoorGX
import Derived.Test.YtigodbamphejmaaGreatDoorS1
import Derived.Laws.Bits64b
import Derived.Test.YtigodbamphejmaaGreatDoorGYa
namespace Go.Proofs.YtigodbamphejmaaGreatDoor.S
open Go.RowKit

/-- All ends are nodes, and numbers. -/
def InE (n : Nat) (R : List Edg) : Prop := ∀ e ∈ R, ea e < n ∧ eb e < n ∧ e.2.1 = (ea e : Int) ∧ e.2.2 = (eb e : Int)
theorem InE.nodes {n : Nat} {R : List Edg} (h : InE n R) : Nodes n R := fun e he => ⟨(h e he).1, (h e he).2.1⟩
theorem InE.sub {n : Nat} {R S : List Edg} (h : InE n R) (hs : ∀ e ∈ S, e ∈ R) : InE n S := fun e he => h e (hs e he)

/-- An edge of a row, read. -/
theorem row_edge {n : Nat} {R : List Edg} (hin : InE n R) {k : Nat} (hk : k < R.length) : ∃ (x0 : Int) (xa xb : Nat), R[k]? = some (x0, (xa : Int), (xb : Int)) ∧ xa < n ∧ xb < n ∧ ea (x0, (xa : Int), (xb : Int)) = xa ∧ eb (x0, (xa : Int), (xb : Int)) = xb := by
  obtain ⟨e, he⟩ : ∃ e, R[k]? = some e := ⟨_, List.getElem?_eq_getElem hk⟩
  obtain ⟨h1, h2, h3, h4⟩ := hin e (List.mem_of_getElem? he)
  obtain ⟨x0, x1, x2⟩ := e
  obtain ⟨xa, hxa⟩ : ∃ xa, ea (x0, x1, x2) = xa := ⟨_, rfl⟩
  obtain ⟨xb, hxb⟩ : ∃ xb, eb (x0, x1, x2) = xb := ⟨_, rfl⟩
  rw [hxa] at h1 h3
  rw [hxb] at h2 h4
  simp only at h3 h4
  subst h3
  subst h4
  exact ⟨x0, xa, xb, he, h1, h2, hxa, hxb⟩

theorem owns_block {w : World} {B : Nat} {va : Option Addr} {m vc : Nat} {R : List Edg} (h : G.Owns w B 55 (.slice va m vc) R) {k : Nat} (hk : k < R.length) : ∃ g, va = some ⟨g, 0, none⟩ := by
  rcases h.shape with ⟨_, e⟩ | ⟨g, cap, e, _⟩
  · rw [e] at hk; simp at hk
  · injection e with e1 _ _
    exact ⟨g, e1⟩

theorem lb_take (n : Nat) {R : List Edg} {k : Nat} {x : Edg} (h : R[k]? = some x) : lbl n (R.take (k + 1)) = joinL (lbl n (R.take k)) (ea x) (eb x) := by
  obtain ⟨hlt, he⟩ := List.getElem?_eq_some_iff.1 h
  rw [List.take_succ_eq_append_getElem hlt, he, lb_snoc]

theorem nodes_take {n : Nat} {R : List Edg} (h : InE n R) (k : Nat) : Nodes n (R.take k) := fun e he => h.nodes e (List.mem_of_mem_take he)

set_option maxHeartbeats 2000000 in
set_option maxRecDepth 100000 in
theorem ctogether_any (n B0 : Nat) (u : Value) (R : List Edg) (w : World) (hR : G.Owns w B0 55 u R) (hn : n ≤ 40) (hin : InE n R) (hl : R.length ≤ 120) :
    Calls Tryz.prog 103 #[.int .i64 (n : Int), u] w fun e w' => ∃ p b, e = .returned (.pointer (some ⟨p, 0, none⟩)) ∧ SetsAt w' p b (lbl n R) ∧ w.heap.size ≤ p ∧ w.heap.size ≤ b ∧ Below w.heap.size w w' := by
  have HR : Hid (G.Owns w B0 55 u R ∧ InE n R) := ⟨hR, hin⟩
  obtain ⟨m, hm⟩ : ∃ m, R.length = m := ⟨_, rfl⟩
  have HM : Hid (R.length = m) := hm
  obtain ⟨va, vc, hv⟩ := hR.slice_len
  rw [hm] at hv hl
  subst hv
  clear hR hm hin
  go_enter Tryz.func103, Tryz.ntmps103
  go_wp2_with fail
  refine (new_in n w hn).mono ?_
  rintro e w1 ⟨rfl, hs1, hb1⟩
  have HS1 : Hid (SetsAt w1 (w.heap.size + 1) w.heap.size (List.range n) ∧ Below w.heap.size w w1) := ⟨hs1, hb1⟩
  clear hs1 hb1
  go_wp2_with fail
  go_loopw [16] (fun s16 wq => ∃ k : Nat, k ≤ m ∧ s16 = .int .i64 k ∧ SetsAt wq (w.heap.size + 1) w.heap.size (lbl n (R.take k)) ∧ Below w.heap.size w wq) (fun s16 _ => m - (intOf s16).toNat)
  case atStart => exact ⟨0, Nat.zero_le _, rfl, HS1.out.1, HS1.out.2⟩
  case round =>
    clear HS1
    obtain ⟨k, hk, rfl, hs, hb⟩ := hrel
    have HS : Hid (SetsAt wr (w.heap.size + 1) w.heap.size (lbl n (R.take k))) := hs
    have HB : Hid (Below w.heap.size w wr) := hb
    clear hs hb
    by_cases hlt : k < m
    · as_aux_lemma =>
      obtain ⟨x0, xa, xb, hx, han, hbn, hxa, hxb⟩ := row_edge HR.out.2 (by rw [HM.out]; exact hlt)
      have HX : Hid (R[k]? = some (x0, (xa : Int), (xb : Int)) ∧ ea (x0, (xa : Int), (xb : Int)) = xa ∧ eb (x0, (xa : Int), (xb : Int)) = xb) := ⟨hx, hxa, hxb⟩
      obtain ⟨g, rfl⟩ := owns_block HR.out.1 (by rw [HM.out]; exact hlt)
      obtain ⟨r0, r1, r2⟩ := (HR.out.1.below HB.out).at (g := g) rfl hx
      have r0' : wr.cell? ⟨g, k * 3, none⟩ = some (.int .i64 x0) := r0
      have r1' : wr.cell? ⟨g, k * 3 + 1, none⟩ = some (.int .i64 (xa : Int)) := r1
      have r2' : wr.cell? ⟨g, k * 3 + 2, none⟩ = some (.int .i64 (xb : Int)) := r2
      clear r0 r1 r2 hx hxa hxb
      have hb1 : Below wr.heap.size wr (wr.alloc (.cells #[.int .i64 x0, .int .i64 (xa : Int), .int .i64 (xb : Int)] 55)) := (Below.refl _ _).alloc (Nat.le_refl _) _
      have HB1 : Hid (Below w.heap.size w (wr.alloc (.cells #[.int .i64 x0, .int .i64 (xa : Int), .int .i64 (xb : Int)] 55))) := HB.out.trans (hb1.mono HB.out.size)
      have HSW : Hid (SetsAt (wr.alloc (.cells #[.int .i64 x0, .int .i64 (xa : Int), .int .i64 (xb : Int)] 55)) (w.heap.size + 1) w.heap.size (lbl n (R.take k))) := HS.out.below hb1 HS.out.plt HS.out.blt
      clear hb1
      go_wp2_with fail
      have g := lb_good (nodes_take HR.out.2 k)
      refine (join_in xa xb (w.heap.size + 1) w.heap.size _ _ HSW.out (by rw [g.len]; exact han) (by rw [g.len]; exact hbn) (by rw [g.len]; exact hn)).mono ?_
      rintro e w3 ⟨rfl, hs3, hb3⟩
      have HF3 : Hid (SetsAt w3 (w.heap.size + 1) w.heap.size (lbl n (R.take (k + 1))) ∧ Below w.heap.size w w3) := by
        refine ⟨?_, HB1.out.trans (hb3.below (Nat.le_refl _) HB1.out.size)⟩
        rw [lb_take n HX.out.1, HX.out.2.1, HX.out.2.2]
        exact hs3
      clear hs3 hb3 g HSW HS HB HB1 r0' r1' r2'
      go_wp2_with fail
      go_roundw
      case rel => exact ⟨k + 1, by omega, by go_num, HF3.out.1, HF3.out.2⟩
      case measure => simp [intOf]; omega
    · as_aux_lemma =>
      have hke : k = m := by omega
      have HF3 : Hid (SetsAt wr (w.heap.size + 1) w.heap.size (lbl n R)) := by
        have h2 := HS.out
        rw [hke, ← HM.out, List.take_length] at h2
        exact h2
      clear hke HS
      go_wp2_with fail
      go_ret
      exact ⟨_, _, rfl, HF3.out, by omega, by omega, HB.out⟩

theorem capart_any (x y p b : Nat) (L : List Nat) (s : Bool) (w : World) (hs : SetsAt w p b L) (hx : x < L.length) (hy : y < L.length) (hv : (s = true ↔ L.getD x 0 ≠ L.getD y 0)) :
    Calls Tryz.prog 107 #[.pointer (some ⟨p, 0, none⟩), .int .i64 (x : Int), .int .i64 (y : Int)] w fun e w' => e = .returned (.bool s) ∧ Below w.heap.size w w' := by
  have HC : Hid _ := same_in x y p b L (!s) w hs hx hy (by
    by_cases h : L.getD x 0 = L.getD y 0
    · have : s = false := by
        rw [Bool.eq_false_iff]; intro k; exact hv.1 k h
      rw [this, h]; simp
    · have : s = true := hv.2 h
      rw [this]; exact beq_eq_false_iff_ne.2 (by omega))
  clear hs hx hy hv
  go_enter Tryz.func107, Tryz.ntmps107
  go_wp2_with fail
  refine Calls.mono HC.out ?_
  rintro e w1 ⟨rfl, hb⟩
  have HB : Hid (Below w.heap.size w w1) := hb
  clear hb HC
  go_wp2_with fail
  go_ret
  exact ⟨by simp, HB.out⟩

end Go.Proofs.YtigodbamphejmaaGreatDoor.S
namespace Go.Proofs.YtigodbamphejmaaGreatDoor.S
open Go.RowKit

/-- What grow holds on to. -/
structure Gw (w0 W0 w : World) (p b be : Nat) (l : List Nat) (R t o : List Edg) (ue v2 v3 : Value) : Prop where
  sets : SetsAt w p b l
  er : G.Owns w be 55 ue R
  o2 : G.Owns w W0.heap.size 55 v2 t
  o3 : G.Owns w W0.heap.size 55 v3 o
  ap : ∀ k, v2.ownBlock = some k → v3.ownBlock ≠ some k
  lp : p < be
  lbl : b < be
  lbe : be ≤ W0.heap.size
  lu : ∀ k, ue.ownBlock = some k → k < W0.heap.size
  low : w0.heap.size ≤ b
  below : Below w0.heap.size w0 w
  sz : W0.heap.size ≤ w.heap.size
  s0 : w0.heap.size ≤ W0.heap.size

section
variable {w0 W0 w w' : World} {p b be : Nat} {l l' : List Nat} {R t o : List Edg} {ue v2 v3 v' : Value}
theorem Gw.below' (h : Gw w0 W0 w p b be l R t o ue v2 v3) (hb : Below w.heap.size w w') : Gw w0 W0 w' p b be l R t o ue v2 v3 :=
  { h with sets := h.sets.below hb h.sets.plt h.sets.blt, er := h.er.below hb, o2 := h.o2.below hb, o3 := h.o3.below hb, below := h.below.trans (hb.mono h.below.size), sz := Nat.le_trans h.sz hb.size }

theorem Gw.join (h : Gw w0 W0 w p b be l R t o ue v2 v3) (hs : SetsAt w' p b l') (hb : But b w w') : Gw w0 W0 w' p b be l' R t o ue v2 v3 := by
  have hg : w.grownBy w' (some b) := ⟨hb.os, hb.tape, hb.output, hb.size, fun k hk hne => hb.block k hk (fun e => hne (by rw [e]))⟩
  have hlb := h.lbl
  have hbe := h.lbe
  refine { h with sets := hs, er := World.ownsRow.kept h.er hg (.inr (fun e => by have := (World.ownsRow.lt h.er b e).1; omega)), o2 := World.ownsRow.kept h.o2 hg (.inr (fun e => by have := (World.ownsRow.lt h.o2 b e).1; omega)), o3 := World.ownsRow.kept h.o3 hg (.inr (fun e => by have := (World.ownsRow.lt h.o3 b e).1; omega)), below := h.below.trans (hb.below h.low h.below.size), sz := Nat.le_trans h.sz hb.size }

theorem Gw.grown (h : Gw w0 W0 w p b be l R t o ue v2 v3) {v : Value} (hg : w.grownBy w' v.ownBlock) (hv : ∀ k, v.ownBlock = some k → W0.heap.size ≤ k) : SetsAt w' p b l ∧ G.Owns w' be 55 ue R ∧ Below w0.heap.size w0 w' ∧ W0.heap.size ≤ w'.heap.size := by
  have hlp := h.lp
  have hlb := h.lbl
  have hbe := h.lbe
  have hs0 := h.s0
  refine ⟨⟨(hg.block p h.sets.plt (fun e => by have := hv p e.symm; omega)).trans h.sets.hp, (hg.block b h.sets.blt (fun e => by have := hv b e.symm; omega)).trans h.sets.hb⟩, World.ownsRow.kept h.er hg ?_, h.below.grown hg h.below.size (fun j hj => by have := hv j hj; omega), Nat.le_trans h.sz hg.size⟩
  by_cases e : ue.ownBlock = none
  · exact .inl e
  · refine .inr (fun e2 => ?_)
    obtain ⟨k, hk⟩ := Option.ne_none_iff_exists'.1 e
    have h1 := h.lu k hk
    have h2 := hv k (e2.symm.trans hk)
    omega

theorem Gw.tree (h : Gw w0 W0 w p b be l R t o ue v2 v3) {x : Edg} (ho : G.Owns w' W0.heap.size 55 v' (t ++ [x])) (hg : w.grownBy w' v2.ownBlock) (hf : G.Fresh w v2 v') : Gw w0 W0 w' p b be l R (t ++ [x]) o ue v' v3 := by
  obtain ⟨h1, h2, h3, h4⟩ := h.grown hg (fun k hk => (World.ownsRow.lt h.o2 k hk).1)
  refine { h with sets := h1, er := h2, o2 := ho, o3 := World.ownsRow.kept h.o3 hg ?_, ap := fun k hk e => ?_, below := h3, sz := h4 }
  · by_cases e : v3.ownBlock = none
    · exact .inl e
    · refine .inr (fun e2 => ?_)
      obtain ⟨k, hk⟩ := Option.ne_none_iff_exists'.1 e
      exact h.ap k (e2.symm.trans hk) hk
  · rcases hf k hk with h5 | h5
    · exact h.ap k h5 e
    · have := (World.ownsRow.lt h.o3 k e).2; omega

theorem Gw.other (h : Gw w0 W0 w p b be l R t o ue v2 v3) {x : Edg} (ho : G.Owns w' W0.heap.size 55 v' (o ++ [x])) (hg : w.grownBy w' v3.ownBlock) (hf : G.Fresh w v3 v') : Gw w0 W0 w' p b be l R t (o ++ [x]) ue v2 v' := by
  obtain ⟨h1, h2, h3, h4⟩ := h.grown hg (fun k hk => (World.ownsRow.lt h.o3 k hk).1)
  refine { h with sets := h1, er := h2, o3 := ho, o2 := World.ownsRow.kept h.o2 hg ?_, ap := fun k hk e => ?_, below := h3, sz := h4 }
  · by_cases e : v2.ownBlock = none
    · exact .inl e
    · refine .inr (fun e2 => ?_)
      obtain ⟨k, hk⟩ := Option.ne_none_iff_exists'.1 e
      exact h.ap k hk (e2.symm.trans hk)
  · rcases hf k e with h5 | h5
    · exact h.ap k hk h5
    · have := (World.ownsRow.lt h.o2 k hk).2; omega
end

theorem joinL_eqv {L : List Nat} {x y : Nat} (h : L.getD x 0 = L.getD y 0) : joinL L x y = L := by
  apply List.ext_getElem
  · simp [joinL]
  · intro i h1 h2
    have := joinL_at L x y i h2
    rw [List.getD_eq_getElem?_getD, List.getElem?_eq_getElem h1, List.getD_eq_getElem?_getD (l := L) (i := i), List.getElem?_eq_getElem h2] at this
    simp only [Option.getD_some] at this
    rw [this, h]
    unfold named
    split <;> omega

theorem grw_take (n : Nat) {R : List Edg} {k : Nat} {x : Edg} (h : R[k]? = some x) : grw n (R.take (k + 1)) = gstep n (grw n (R.take k)) x := by
  obtain ⟨hlt, he⟩ := List.getElem?_eq_some_iff.1 h
  rw [List.take_succ_eq_append_getElem hlt, he, grw_snoc]

theorem grw_sub {n : Nat} {R : List Edg} (hnd : R.Nodup) (hin : Nodes n R) (k : Nat) : Gr n (R.take k) (grw n (R.take k)).1 (grw n (R.take k)).2 :=
  gr_all _ (hnd.sublist (List.take_sublist _ _)) (fun e he => hin e (List.mem_of_mem_take he))

/-- What grow gives. -/
def GrowPost (w : World) (n : Nat) (R : List Edg) (e : Ending) (w' : World) : Prop :=
  ∃ v2 v3 B, e = .returned (.tuple #[v2, v3]) ∧ G.Owns w' B 55 v2 (grw n R).1 ∧ G.Owns w' B 55 v3 (grw n R).2 ∧ w.heap.size ≤ B ∧ Below w.heap.size w w'

set_option maxHeartbeats 4000000 in
set_option maxRecDepth 100000 in
theorem grow_any (n B p : Nat) (v : Value) (R : List Edg) (w : World) (h : G.GAt w B 124 55 p (n : Int) v R) (hn : n ≤ 40) (hin : InE n R) (hnd : R.Nodup) (hl : R.length ≤ 120) :
    Calls Tryz.prog 66 #[.pointer (some ⟨p, 0, none⟩)] w (GrowPost w n R) := by
  have HG : Hid (G.GAt w B 124 55 p (n : Int) v R) := h
  have HIN : Hid (InE n R ∧ R.Nodup) := ⟨hin, hnd⟩
  clear h hin hnd
  go_enter Tryz.func66, Tryz.ntmps66
  go_wp2_with fail
  refine (G.nodes_any (n : Int) B p v R _ HG.out).mono ?_
  rintro e w0 ⟨rfl, hw0⟩
  subst hw0
  go_wp2_with fail
  refine (ctogether_any n 0 (.slice none 0 0) [] w0 (World.ownsRow_nil _ _ _ _) hn (fun e he => by simp at he) (by simp)).mono ?_
  rintro e w1 ⟨ps, bs, rfl, hs1, hps, hbs, hb1⟩
  have HS1 : Hid (SetsAt w1 ps bs (lbl n []) ∧ w0.heap.size ≤ bs ∧ Below w0.heap.size w0 w1) := ⟨hs1, hbs, hb1⟩
  clear hs1 hps hbs hb1
  go_wp2_with fail
  refine (G.edges_any (n : Int) B p v R _ (HG.out.below HS1.out.2.2) hl).mono ?_
  rintro e w2 ⟨ue, rfl, hoe, hb2⟩
  have HW0 : Hid (Gw w0 w2 w2 ps bs w1.heap.size (lbl n (grw n (R.take 0)).1) R (grw n (R.take 0)).1 (grw n (R.take 0)).2 ue (.slice none 0 0) (.slice none 0 0)) :=
    ⟨HS1.out.1.below hb2 HS1.out.1.plt HS1.out.1.blt, hoe, World.ownsRow_nil _ _ _ _, World.ownsRow_nil _ _ _ _, fun k hk => absurd hk (by simp [Value.ownBlock]), HS1.out.1.plt, HS1.out.1.blt, hb2.size, fun k hk => (World.ownsRow.lt hoe k hk).2, HS1.out.2.1, HS1.out.2.2.trans (hb2.mono HS1.out.2.2.size), Nat.le_refl _, Nat.le_trans HS1.out.2.2.size hb2.size⟩
  obtain ⟨m, hm⟩ : ∃ m, R.length = m := ⟨_, rfl⟩
  have HM : Hid (R.length = m) := hm
  obtain ⟨va, vc, hv⟩ := hoe.slice_len
  rw [hm] at hv hl
  subst hv
  clear hoe hb2 HS1 hm
  go_wp2_with fail
  go_loopw [2, 3, 15] (fun s2 s3 s15 wq => ∃ k : Nat, k ≤ m ∧ s15 = .int .i64 k ∧ Gw w0 w2 wq ps bs w1.heap.size (lbl n (grw n (R.take k)).1) R (grw n (R.take k)).1 (grw n (R.take k)).2 (.slice va m vc) s2 s3) (fun _ _ s15 _ => m - (intOf s15).toNat)
  case atStart => exact ⟨0, Nat.zero_le _, rfl, HW0.out⟩
  case round =>
    clear HW0
    obtain ⟨k, hk, rfl, hgw⟩ := hrel
    have HW : Hid (Gw w0 w2 wr ps bs w1.heap.size (lbl n (grw n (R.take k)).1) R (grw n (R.take k)).1 (grw n (R.take k)).2 (.slice va m vc) u2 u3) := hgw
    clear hgw
    by_cases hlt : k < m
    · obtain ⟨x0, xa, xb, hx, han, hbn, hxa, hxb⟩ := row_edge HIN.out.1 (by rw [HM.out]; exact hlt)
      have HX : Hid (R[k]? = some (x0, (xa : Int), (xb : Int)) ∧ ea (x0, (xa : Int), (xb : Int)) = xa ∧ eb (x0, (xa : Int), (xb : Int)) = xb) := ⟨hx, hxa, hxb⟩
      obtain ⟨g, rfl⟩ := owns_block HW.out.er (by rw [HM.out]; exact hlt)
      obtain ⟨r0, r1, r2⟩ := HW.out.er.at (g := g) rfl hx
      have r0' : wr.cell? ⟨g, k * 3, none⟩ = some (.int .i64 x0) := r0
      have r1' : wr.cell? ⟨g, k * 3 + 1, none⟩ = some (.int .i64 (xa : Int)) := r1
      have r2' : wr.cell? ⟨g, k * 3 + 2, none⟩ = some (.int .i64 (xb : Int)) := r2
      have HGR : Hid (Gr n (R.take k) (grw n (R.take k)).1 (grw n (R.take k)).2) := grw_sub HIN.out.2 HIN.out.1.nodes k
      have HNX : Hid (grw n (R.take (k + 1)) = gstep n (grw n (R.take k)) (x0, (xa : Int), (xb : Int))) := grw_take n hx
      have htl : (grw n (R.take k)).1.length + (grw n (R.take k)).2.length ≤ 1000 := by
        have := HGR.out.len
        rw [this, List.length_take]; omega
      obtain ⟨t, ht⟩ : ∃ t, (grw n (R.take k)).1 = t := ⟨_, rfl⟩
      obtain ⟨o, ho⟩ : ∃ o, (grw n (R.take k)).2 = o := ⟨_, rfl⟩
      have HTO : Hid ((grw n (R.take k)).1 = t ∧ (grw n (R.take k)).2 = o) := ⟨ht, ho⟩
      rw [ht, ho] at HW HGR htl
      have hgl : (lbl n t).length = n := (lb_good (fun d hd => HIN.out.1.nodes d (List.mem_of_mem_take ((HGR.out.mem d).2 (.inl hd))))).len
      clear r0 r1 r2 hx hxa hxb ht ho
      have hb1 : Below wr.heap.size wr (wr.alloc (.cells #[.int .i64 x0, .int .i64 (xa : Int), .int .i64 (xb : Int)] 55)) := (Below.refl _ _).alloc (Nat.le_refl _) _
      have HW1 : Hid (Gw w0 w2 (wr.alloc (.cells #[.int .i64 x0, .int .i64 (xa : Int), .int .i64 (xb : Int)] 55)) ps bs w1.heap.size (lbl n t) R t o (.slice (some ⟨g, 0, none⟩) m vc) u2 u3) := HW.out.below' hb1
      have hbs := HW.out.sets.blt
      clear hb1 HW
      go_wp2_with fail
      refine (join_in xa xb ps bs (lbl n t) _ HW1.out.sets (by omega) (by omega) (by omega)).mono ?_
      rintro e w3 ⟨rfl, hs3, hb3⟩
      have hbox : w3.heap[wr.heap.size]? = some (.cells #[.int .i64 x0, .int .i64 (xa : Int), .int .i64 (xb : Int)] 55) := (hb3.block wr.heap.size (by simp) (by omega)).trans (heap_alloc_new wr _)
      have q0 : w3.cell? ⟨wr.heap.size, 0, none⟩ = some (.int .i64 x0) := by simp [World.cell?, hbox]
      have q1 : w3.cell? ⟨wr.heap.size, 1, none⟩ = some (.int .i64 (xa : Int)) := by simp [World.cell?, hbox]
      have q2 : w3.cell? ⟨wr.heap.size, 2, none⟩ = some (.int .i64 (xb : Int)) := by simp [World.cell?, hbox]
      have HW2 : Hid (Gw w0 w2 w3 ps bs w1.heap.size (joinL (lbl n t) xa xb) R t o (.slice (some ⟨g, 0, none⟩) m vc) u2 u3) := HW1.out.join hs3 hb3
      have HGS : Hid (gstep n (t, o) (x0, (xa : Int), (xb : Int)) = if (lbl n t).getD xa 0 = (lbl n t).getD xb 0 then (t, o ++ [(x0, (xa : Int), (xb : Int))]) else (t ++ [(x0, (xa : Int), (xb : Int))], o)) := by
        show gstep n (t, o) _ = _
        unfold gstep
        rw [HX.out.2.1, HX.out.2.2]
      have hpair : grw n (R.take k) = (t, o) := Prod.ext HTO.out.1 HTO.out.2
      have HLB : Hid (lbl n (t ++ [(x0, (xa : Int), (xb : Int))]) = joinL (lbl n t) xa xb) := by
        show lbl n _ = _
        rw [lb_snoc, HX.out.2.1, HX.out.2.2]
      rw [hpair] at HNX
      clear hs3 hb3 hbox HW1 r0' r1' r2' hpair
      by_cases hc : (lbl n t).getD xa 0 = (lbl n t).getD xb 0
      · as_aux_lemma =>
        have hd : decide ((lbl n t).getD xa 0 ≠ (lbl n t).getD xb 0) = false := decide_eq_false (fun k => k hc)
        have hst : gstep n (t, o) (x0, (xa : Int), (xb : Int)) = (t, o ++ [(x0, (xa : Int), (xb : Int))]) := by rw [HGS.out, if_pos hc]
        have HW3 : Hid (Gw w0 w2 w3 ps bs w1.heap.size (lbl n t) R t o (.slice (some ⟨g, 0, none⟩) m vc) u2 u3) := by
          have := HW2.out
          rw [joinL_eqv hc] at this; exact this
        rw [hd]
        clear HW2 hc hd
        obtain ⟨v', w4, hr, ho4, _, hf4, hg4⟩ := G.app_one 31 w3 w2.heap.size u3 _ x0 (xa : Int) (xb : Int) HW3.out.o3 HW3.out.sz (by omega)
        have HR : Hid (_ = _) := hr
        have HW4 : Hid (Gw w0 w2 w4 ps bs w1.heap.size (lbl n (grw n (R.take (k + 1))).1) R (grw n (R.take (k + 1))).1 (grw n (R.take (k + 1))).2 (.slice (some ⟨g, 0, none⟩) m vc) u2 v') := by
          have h1 := HW3.out.other ho4 hg4 hf4
          show Gw _ _ _ _ _ _ _ _ _ _ _ _ _
          rw [HNX.out, hst]
          exact h1
        clear hr ho4 hf4 hg4 HW3
        go_wp2_with (at_builtin; refine Lib.wpList_append_run _ rfl _ _ _ _ rfl _ _ rfl rfl _ _ HR.out ?_)
        go_roundw
        case rel => exact ⟨k + 1, by omega, by go_num, HW4.out⟩
        case measure => simp [intOf]; omega
      · as_aux_lemma =>
        have hd : decide ((lbl n t).getD xa 0 ≠ (lbl n t).getD xb 0) = true := decide_eq_true hc
        have hst : gstep n (t, o) (x0, (xa : Int), (xb : Int)) = (t ++ [(x0, (xa : Int), (xb : Int))], o) := by rw [HGS.out, if_neg hc]
        have HW3 : Hid (Gw w0 w2 w3 ps bs w1.heap.size (lbl n (t ++ [(x0, (xa : Int), (xb : Int))])) R t o (.slice (some ⟨g, 0, none⟩) m vc) u2 u3) := by
          have := HW2.out
          rw [← HLB.out] at this; exact this
        rw [hd]
        clear HW2 hc hd
        obtain ⟨v', w4, hr, ho4, _, hf4, hg4⟩ := G.app_one 31 w3 w2.heap.size u2 _ x0 (xa : Int) (xb : Int) HW3.out.o2 HW3.out.sz (by omega)
        have HR : Hid (_ = _) := hr
        have HW4 : Hid (Gw w0 w2 w4 ps bs w1.heap.size (lbl n (grw n (R.take (k + 1))).1) R (grw n (R.take (k + 1))).1 (grw n (R.take (k + 1))).2 (.slice (some ⟨g, 0, none⟩) m vc) v' u3) := by
          have h1 := HW3.out.tree ho4 hg4 hf4
          show Gw _ _ _ _ _ _ _ _ _ _ _ _ _
          rw [HNX.out, hst]
          exact h1
        clear hr ho4 hf4 hg4 HW3
        go_wp2_with (at_builtin; refine Lib.wpList_append_run _ rfl _ _ _ _ rfl _ _ rfl rfl _ _ HR.out ?_)
        go_roundw
        case rel => exact ⟨k + 1, by omega, by go_num, HW4.out⟩
        case measure => simp [intOf]; omega
    · as_aux_lemma =>
      have hke : k = m := by omega
      have HF : Hid (Gw w0 w2 wr ps bs w1.heap.size (lbl n (grw n R).1) R (grw n R).1 (grw n R).2 (.slice va m vc) u2 u3) := by
        have h2 := HW.out
        rw [hke, ← HM.out, List.take_length, HM.out] at h2
        exact h2
      clear hke HW
      go_wp2_with fail
      go_ret2
      exact ⟨_, _, w2.heap.size, rfl, HF.out.o2, HF.out.o3, HF.out.s0, HF.out.below⟩

end Go.Proofs.YtigodbamphejmaaGreatDoor.S
namespace Go.Proofs.YtigodbamphejmaaGreatDoor.S
open Go.RowKit

theorem pow_lt64 {i : Nat} (h : i < 64) : 2 ^ i < 18446744073709551616 := Nat.pow_lt_pow_right (by omega) h

theorem wrap_pow {i : Nat} (h : i < 64) : IntKind.u64.wrap ((2 : Int) ^ i) = ((2 ^ i : Nat) : Int) := by
  have h1 := pow_lt64 h
  have h2 : ((2 : Int) ^ i) = ((2 ^ i : Nat) : Int) := by simp
  rw [h2, IntKind.wrap_u64]
  generalize 2 ^ i = K at h1 ⊢
  omega

theorem or_bit {x i : Nat} (hi : i < 64) (hx : x < 2 ^ i) : bits .or .u64 (x : Int) ((2 ^ i : Nat) : Int) = ((x + 2 ^ i : Nat) : Int) := by
  have h1 := pow_lt64 hi
  rw [bits_or_u64_nat x (2 ^ i) (by omega) h1, or_pow hx]

theorem set_word {w : World} {b t : Nat} {x y : Value} (h : w.heap[b]? = some (.cells #[x, y] t)) (v : Value) : (w.setCell ⟨b, 0, none⟩ v).heap[b]? = some (.cells #[v, y] t) := by
  simp only [World.setCell, Array.getElem?_modify, h]
  simp

set_option maxHeartbeats 2000000 in
set_option maxRecDepth 100000 in
theorem put_any (b i x : Nat) (w : World) (hb : w.heap[b]? = some (.cells #[.int .u64 (x : Int), .int .u64 0] 101)) (hi : i < 64) (hx : x < 2 ^ i) :
    Calls Tryz.prog 67 #[.pointer (some ⟨b, 0, none⟩), .int .i64 (i : Int)] w fun e w' => e = .returned (.tuple #[]) ∧ w'.heap[b]? = some (.cells #[.int .u64 ((x + 2 ^ i : Nat) : Int), .int .u64 0] 101) ∧ But b w w' := by
  have c0 : w.cell? ⟨b, 0, none⟩ = some (.int .u64 (x : Int)) := by simp [World.cell?, hb]
  have f0 : w.frozen? ⟨b, 0, none⟩ = false := by simp [World.frozen?, hb]
  have e1 : (i : Int).tdiv 64 = 0 := Int.tdiv_eq_zero_of_lt (by omega) (by omega)
  have e2 : (i : Int).tmod 64 = (i : Int) := Int.tmod_eq_of_lt (by omega) (by omega)
  have HO : Hid (bits .or .u64 (x : Int) (IntKind.u64.wrap ((2 : Int) ^ i)) = ((x + 2 ^ i : Nat) : Int)) := by
    show bits _ _ _ _ = _
    rw [wrap_pow hi]; exact or_bit hi hx
  have HB : Hid (w.heap[b]? = some (.cells #[.int .u64 (x : Int), .int .u64 0] 101)) := hb
  clear hb hx
  go_enter Tryz.func67, Tryz.ntmps67
  go_upto_region 0 with fail
  go_region
  all_goals
    go_wp2_with fail
    refine bodyPost_end (results_none rfl _ _ _) rfl ?_
    refine ⟨rfl, ?_, ?_⟩
    · rw [HO.out]
      exact set_word HB.out _
    · exact ((But.refl b w).setCell 0 _).trans (But.of_below (Below.refl _ _).drew)

end Go.Proofs.YtigodbamphejmaaGreatDoor.S
namespace Go.Proofs.YtigodbamphejmaaGreatDoor.S
open Go.RowKit

/-- The box of the edge that is held. -/
def Box (w : World) (c : Nat) (d : Edg) : Prop := w.heap[c]? = some (.cells #[.int .i64 d.1, .int .i64 d.2.1, .int .i64 d.2.2] 55)
theorem Box.below {w w' : World} {c : Nat} {d : Edg} (h : Box w c d) (hb : Below w.heap.size w w') : Box w' c d := (hb.block c (lt_of_some h)).trans h
theorem Box.cells {w : World} {c : Nat} {d : Edg} (h : Box w c d) : w.cell? ⟨c, 0, none⟩ = some (.int .i64 d.1) ∧ w.cell? ⟨c, 1, none⟩ = some (.int .i64 d.2.1) ∧ w.cell? ⟨c, 2, none⟩ = some (.int .i64 d.2.2) := by
  unfold Box at h
  refine ⟨?_, ?_, ?_⟩ <;> simp [World.cell?, h]

theorem held_any (x d : Edg) (c : Nat) (w : World) (h : Box w c d) :
    Calls Tryz.prog 106 #[.agg #[.int .i64 x.1, .int .i64 x.2.1, .int .i64 x.2.2], .pointer (some ⟨c, 0, none⟩)] w fun e w' => e = .returned (.bool (decide (x = d))) ∧ Below w.heap.size w w' := by
  obtain ⟨c0, c1, c2⟩ := h.cells
  have hl : c < w.heap.size := lt_of_some h
  clear h
  obtain ⟨x0, x1, x2⟩ := x
  obtain ⟨d0, d1, d2⟩ := d
  simp only at c0 c1 c2 ⊢
  have hb : Below w.heap.size w (w.alloc (.cells #[.int .i64 x0, .int .i64 x1, .int .i64 x2] 55)) := (Below.refl _ _).alloc (Nat.le_refl _) _
  have k0 := cell_below c0 hb
  have k1 := cell_below c1 hb
  have k2 := cell_below c2 hb
  clear hb c0 c1 c2
  go_enter Tryz.func106, Tryz.ntmps106
  go_wp2_with fail
  all_goals
    go_ret
    refine ⟨?_, (Below.refl _ _).alloc (Nat.le_refl _) _⟩
    simp_all

set_option maxRecDepth 100000 in
theorem clone_edges (u : Value) (B : Nat) (M : List Edg) (w : World) (h : G.Owns w B 55 u M) (hl : M.length ≤ 1000) :
    Calls Tryz.prog 105 #[u] w fun e w' => ∃ u', e = .returned u' ∧ G.Owns w' w.heap.size 55 u' M ∧ Below w.heap.size w w' := by
  have hq := fun (a : Option Addr) (n c : Nat) (W : World) => Lib.run_eql_slice_nil (P := Tryz.prog) W 31 55 a n c 0 0 Tryz.underlying31
  rcases h.shape with ⟨rfl, rfl⟩ | ⟨g, cap, rfl, _⟩
  · go_enter Tryz.func105, Tryz.ntmps105
    go_wp2_with fail
    go_ret
    exact ⟨_, rfl, World.ownsRow_nil _ _ _ _, Below.refl _ _⟩
  · obtain ⟨a', m', c', w', hr, ho, hb⟩ := G.copy_row 31 w B _ M h hl
    have HR : Hid (_ = _) := hr
    have HO : Hid (G.Owns w' w.heap.size 55 (.slice a' m' c') M ∧ Below w.heap.size w w') := ⟨ho, hb⟩
    clear hr ho hb h
    go_enter Tryz.func105, Tryz.ntmps105
    go_wp2_with (at_builtin; refine Lib.wpList_append_run _ rfl _ _ _ _ rfl _ _ rfl rfl _ _ HR.out ?_)
    go_ret
    exact ⟨_, rfl, HO.out.1, HO.out.2⟩

set_option maxHeartbeats 2000000 in
set_option maxRecDepth 100000 in
theorem index_edges (c g m cap B : Nat) (d : Edg) (M : List Edg) (w : World) (h : G.Owns w B 55 (.slice (some ⟨g, 0, none⟩) m cap) M) (hd : Box w c d) (hl : M.length ≤ 1000) (hm : M.length = m) :
    Calls Tryz.prog 145 #[.slice (some ⟨g, 0, none⟩) m cap, .func (.func 106) #[] #[.pointer (some ⟨c, 0, none⟩)]] w fun e w' => ((∃ i, i < m ∧ e = .returned (.int .i64 (i : Int)) ∧ M[i]? = some d ∧ ∀ j, j < i → M[j]? ≠ some d) ∨ (e = .returned (.int .i64 (-1)) ∧ ∀ j, j < m → M[j]? ≠ some d)) ∧ Below w.heap.size w w' := by
  have HO : Hid (G.Owns w B 55 (.slice (some ⟨g, 0, none⟩) m cap) M ∧ Box w c d ∧ M.length = m) := ⟨h, hd, hm⟩
  rw [hm] at hl
  clear h hd hm
  go_enter Tryz.func145, Tryz.ntmps145
  go_wp2_with fail
  go_loopw [8] (fun s8 wq => ∃ k : Nat, k ≤ m ∧ s8 = .int .i64 k ∧ (∀ j, j < k → M[j]? ≠ some d) ∧ Below w.heap.size w wq) (fun s8 _ => m - (intOf s8).toNat)
  case atStart => exact ⟨0, Nat.zero_le _, rfl, fun j hj => by omega, Below.refl _ _⟩
  case round =>
    obtain ⟨k, hk, rfl, hno, hb⟩ := hrel
    have HB : Hid ((∀ j, j < k → M[j]? ≠ some d) ∧ Below w.heap.size w wr) := ⟨hno, hb⟩
    clear hno hb
    by_cases hlt : k < m
    · obtain ⟨x, hx⟩ : ∃ x, M[k]? = some x := ⟨_, List.getElem?_eq_getElem (by rw [HO.out.2.2]; exact hlt)⟩
      obtain ⟨r0, r1, r2⟩ := (HO.out.1.below HB.out.2).at (g := g) rfl hx
      have r0' : wr.cell? ⟨g, k * 3, none⟩ = some (.int .i64 x.1) := r0
      have r1' : wr.cell? ⟨g, k * 3 + 1, none⟩ = some (.int .i64 x.2.1) := r1
      have r2' : wr.cell? ⟨g, k * 3 + 2, none⟩ = some (.int .i64 x.2.2) := r2
      have HX : Hid (M[k]? = some x) := hx
      have HC : Hid _ := held_any x d c wr (HO.out.2.1.below HB.out.2)
      clear r0 r1 r2 hx
      by_cases hxd : x = d
      · as_aux_lemma =>
        subst hxd
        go_wp2_with fail
        refine Calls.mono HC.out ?_
        rintro e w2 ⟨rfl, hb2⟩
        have HB2 : Hid (Below w.heap.size w w2) := HB.out.2.trans (hb2.mono HB.out.2.size)
        first | rw [decide_eq_true rfl] | simp only [decide_true]
        clear hb2 HC
        go_wp2_with fail
        go_ret
        exact ⟨.inl ⟨k, hlt, rfl, HX.out, HB.out.1⟩, HB2.out⟩
      · as_aux_lemma =>
        go_wp2_with fail
        refine Calls.mono HC.out ?_
        rintro e w2 ⟨rfl, hb2⟩
        have HB2 : Hid (Below w.heap.size w w2 ∧ ∀ j, j < k + 1 → M[j]? ≠ some d) := ⟨HB.out.2.trans (hb2.mono HB.out.2.size), fun j hj => by
          by_cases e : j = k
          · rw [e, HX.out]; exact fun e2 => hxd (Option.some.inj e2)
          · exact HB.out.1 j (by omega)⟩
        rw [decide_eq_false hxd]
        clear hb2 HC
        go_wp2_with fail
        go_roundw
        case rel => exact ⟨k + 1, by omega, by go_num, HB2.out.2, HB2.out.1⟩
        case measure => simp [intOf]; omega
    · as_aux_lemma =>
      have hke : k = m := by omega
      go_wp2_with fail
      go_ret
      exact ⟨.inr ⟨rfl, fun j hj => HB.out.1 j (by omega)⟩, HB.out.2⟩

end Go.Proofs.YtigodbamphejmaaGreatDoor.S
