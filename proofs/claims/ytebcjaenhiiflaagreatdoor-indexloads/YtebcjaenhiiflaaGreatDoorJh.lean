/- Reading an index's text: what a round leaves. -/
import Derived.Test.YtebcjaenhiiflaaGreatDoorJf
namespace Go.Proofs.YtebcjaenhiiflaaGreatDoor.I
open Go.RowKit Go.Shelf Go.WideMaps Go.Maps

theorem boxed_below {w w' : World} {b t : Nat} {v : Value} (h : Boxed w b t v) (hb : Below w.heap.size w w') : Boxed w' b t v := (hb.block b h.lt).trans h

/-- The words as they are handed over. -/
abbrev short (pre : List (List UInt8)) : List (List UInt8) := pre.map (·.take 100000)

/-- What is fixed while the rounds go on. -/
structure Fix (w w4 w5 w6 : World) (n x p q pw bw pt bt mp : Nat) : Prop where
  b4 : Below w.heap.size w w4
  s4 : w.heap.size + 2 ≤ w4.heap.size
  s5 : w4.heap.size ≤ w5.heap.size
  s6 : w5.heap.size + 3 = w6.heap.size
  hbw : bw < w5.heap.size
  hbt : bt < w5.heap.size
  hmp : mp < w5.heap.size
  hn : n ≤ 40

/-- Between two rounds. -/
structure RI1 (w w4 w5 w6 W : World) (n x p q pw bw pt bt mp : Nat) (acc : List Int) (L : List G.E) (v : Value) (R B : List G.E) (Wl T : List Nat) (D : DataW Unit) (N : Nat) (u : Value) : Prop where
  at_ : IAt w4 W x p q n v L R B Wl T D pw bw pt bt mp N
  x2 : Boxed W w.heap.size 26 (.pointer none)
  x3 : Boxed W (w.heap.size + 1) 28 .nilIface
  x9 : Boxed W w5.heap.size 26 (.pointer (some ⟨x, 0, none⟩))
  x10 : Boxed W (w5.heap.size + 1) 48 u
  xb : ∃ s, Boxed W (w5.heap.size + 2) 9 s
  row : W.ownsRow w5.heap.size 3 1 u acc.length (acc.map (Value.int .i64))
  size : w6.heap.size ≤ W.heap.size
  al : acc.length ≤ 2

def RI (w w4 w5 w6 : World) (n x p q pw bw pt bt mp : Nat) (pre : List (List UInt8)) (W : World) : Prop :=
  ∃ acc L v R B Wl T D N u, rdP n (short pre) = some (acc, L) ∧ RI1 w w4 w5 w6 W n x p q pw bw pt bt mp acc L v R B Wl T D N u

/-- A round has left. -/
def RX (w : World) (n : Nat) (c : Code) (pre : List (List UInt8)) (W : World) : Prop :=
  c = .ret ∧ rdP n (short pre) = none ∧ Boxed W w.heap.size 26 (.pointer none) ∧ (∃ t p, Boxed W (w.heap.size + 1) 28 (.iface t p)) ∧ Below w.heap.size w W

variable {w w4 w5 w6 W W' : World} {n x p q pw bw pt bt mp : Nat} {acc : List Int} {L R B : List G.E} {v u : Value} {Wl T : List Nat} {D : DataW Unit} {N : Nat} {pre : List (List UInt8)}

theorem RI1.kc (f : Fix w w4 w5 w6 n x p q pw bw pt bt mp) (h : RI1 w w4 w5 w6 W n x p q pw bw pt bt mp acc L v R B Wl T D N u) (k : Kc w6.heap.size mp W W') : RI1 w w4 w5 w6 W' n x p q pw bw pt bt mp acc L v R B Wl T D N u :=
  ⟨h.at_.kc k (by have := f.s5; have := f.s6; omega), k.boxed h.x2, k.boxed h.x3, k.boxed h.x9, k.boxed h.x10, (let ⟨s, hs⟩ := h.xb; ⟨s, k.boxed hs⟩), k.row h.row, Nat.le_trans h.size k.size, h.al⟩

theorem RI1.below' (h : RI1 w w4 w5 w6 W n x p q pw bw pt bt mp acc L v R B Wl T D N u) (hb : Below W.heap.size W W') : RI1 w w4 w5 w6 W' n x p q pw bw pt bt mp acc L v R B Wl T D N u :=
  ⟨h.at_.below' hb, boxed_below h.x2 hb, boxed_below h.x3 hb, boxed_below h.x9 hb, boxed_below h.x10 hb, (let ⟨s, hs⟩ := h.xb; ⟨s, boxed_below hs hb⟩), row_keep h.row hb, Nat.le_trans h.size hb.size, h.al⟩

theorem RI1.low (f : Fix w w4 w5 w6 n x p q pw bw pt bt mp) (h : RI1 w w4 w5 w6 W n x p q pw bw pt bt mp acc L v R B Wl T D N u) : Below w.heap.size w W :=
  f.b4.trans (h.at_.rn.below.mono f.b4.size)

theorem ri_own (f : Fix w w4 w5 w6 n x p q pw bw pt bt mp) : OwnFrom w6.heap.size (RI w w4 w5 w6 n x p q pw bw pt bt mp) := by
  rintro pre X Y row ⟨acc, L, v, R, B, Wl, T, D, N, u, h1, h2⟩ hg hr
  exact ⟨acc, L, v, R, B, Wl, T, D, N, u, h1, h2.kc f (Kc.of hg hr (by have := f.hmp; have := f.s6; omega))⟩

theorem rx_own (f : Fix w w4 w5 w6 n x p q pw bw pt bt mp) (c : Code) : OwnFrom w6.heap.size (RX w n c) := by
  rintro pre X Y row ⟨h1, h2, h3, ⟨t, pp, h4⟩, h5⟩ hg hr
  have k : Kc w6.heap.size 0 X Y := Kc.of hg hr (by have := f.s6; omega)
  have h6 := f.s4
  have h7 := f.s5
  have h8 := f.s6
  exact ⟨h1, h2, k.boxed h3, ⟨t, pp, k.boxed h4⟩, ⟨k.os.trans h5.os, k.tape.trans h5.tape, k.output.trans h5.output, Nat.le_trans h5.size k.size, fun j hj => (k.low j (by omega) (Nat.lt_of_lt_of_le hj h5.size)).trans (h5.block j hj)⟩⟩

theorem keeps_below (hb : Below W.heap.size W W') : KeepsOthers W W' := ⟨hb.size, fun k _ hk _ => (hb.block k (G.lt_of_some hk)).trans hk⟩

theorem short_snoc (pre : List (List UInt8)) (y : List UInt8) : short (pre ++ [y]) = short pre ++ [y.take 100000] := by simp [short]

/-- Both results' boxes, behind the stores. -/
theorem two_set {w1 : World} {b : Nat} {v1 v2 : Value} (u1 u2 : Value) (h1 : Boxed w1 b 26 v1) (h2 : Boxed w1 (b + 1) 28 v2) : Boxed ((w1.setCell ⟨b, 0, none⟩ u1).setCell ⟨b + 1, 0, none⟩ u2) b 26 u1 ∧ Boxed ((w1.setCell ⟨b, 0, none⟩ u1).setCell ⟨b + 1, 0, none⟩ u2) (b + 1) 28 u2 :=
  ⟨(h1.set u1).other (by omega) u2, (h2.other (by omega) u1).set u2⟩

theorem below_two {w w1 : World} (h : Below w.heap.size w w1) (u1 u2 : Value) : Below w.heap.size w ((w1.setCell ⟨w.heap.size, 0, none⟩ u1).setCell ⟨w.heap.size + 1, 0, none⟩ u2) :=
  (h.setCell (p := ⟨w.heap.size, 0, none⟩) (Nat.le_refl _) u1).setCell (p := ⟨w.heap.size + 1, 0, none⟩) (Nat.le_succ _) u2

theorem stepP_bad {s : Option (List Int × List G.E)} {y : List UInt8} (h : ∀ m, Lib.atoiAll y ≠ .ok m) : stepP n s y = none := by
  unfold stepP
  split
  · next he => exact absurd he (h _)
  · next he => exact absurd he (h _)
  · next he => exact absurd he (h _)
  · rfl

/-- A word that is no number. -/
theorem ri_bad (f : Fix w w4 w5 w6 n x p q pw bw pt bt mp) (h : RI1 w w4 w5 w6 W n x p q pw bw pt bt mp acc L v R B Wl T D N u) {y : List UInt8} (hb : Below W.heap.size W W') (hno : ∀ m, Lib.atoiAll (y.take 100000) ≠ .ok m) (t : TypeId) (pp : Value) :
    KeepsFrom w6.heap.size W ((W'.setCell ⟨w.heap.size, 0, none⟩ (.pointer none)).setCell ⟨w.heap.size + 1, 0, none⟩ (.iface t pp)) ∧ RX w n .ret (pre ++ [y]) ((W'.setCell ⟨w.heap.size, 0, none⟩ (.pointer none)).setCell ⟨w.heap.size + 1, 0, none⟩ (.iface t pp)) := by
  have h' := h.below' hb
  have htw := two_set (.pointer none) (.iface t pp) h'.x2 h'.x3
  refine ⟨(((keeps_below hb).trans (KeepsOthers.setCell _ _ _)).trans (KeepsOthers.setCell _ _ _)).from _, rfl, ?_, htw.1, ⟨_, _, htw.2⟩, below_two (h'.low f) _ _⟩
  rw [short_snoc, rdP_snoc]
  exact stepP_bad hno

/-- An edge that can't be put in. -/
theorem ri_no {i a m : Int} (hr : rdP n (short pre) = some ([i, a], L)) (h2 : Boxed W w.heap.size 26 (.pointer none)) (h3 : Boxed W (w.heap.size + 1) 28 .nilIface) (hl : Below w.heap.size w W) {y : List UInt8} (hy : Lib.atoiAll (y.take 100000) = .ok m) (hno : ¬ Fits n L i a m) (t : TypeId) (pp : Value) :
    RX w n .ret (pre ++ [y]) ((W.setCell ⟨w.heap.size, 0, none⟩ (.pointer none)).setCell ⟨w.heap.size + 1, 0, none⟩ (.iface t pp)) := by
  have htw := two_set (.pointer none) (.iface t pp) h2 h3
  refine ⟨rfl, ?_, htw.1, ⟨_, _, htw.2⟩, below_two hl _ _⟩
  rw [short_snoc, rdP_snoc, hr]
  unfold stepP
  rw [hy]
  dsimp only
  rw [if_neg hno]

/-- An index is as it was where its blocks are. -/
theorem IAt.same {w0 X Y : World} (h : IAt w0 X x p q n v L R B Wl T D pw bw pt bt mp N) (hb : Below w0.heap.size w0 Y) (hk : ∀ k, k = x ∨ k = p ∨ v.ownBlock = some k ∨ k = q ∨ k = pw ∨ k = bw ∨ k = pt ∨ k = bt ∨ k = mp → Y.heap[k]? = X.heap[k]?) : IAt w0 Y x p q n v L R B Wl T D pw bw pt bt mp N := by
  obtain ⟨es, c, hm, F, hs, hD⟩ := h.rn.now.at_.hm
  have a := h.rn.now.at_
  refine { h with ix := (hk x (by simp)).trans h.ix, gra := ⟨(hk p (by simp)).trans h.gra.hp, ⟨h.gra.row.1, ?_⟩, h.gra.ne⟩, rn := { h.rn with now := ⟨⟨(hk q (by simp)).trans a.hp, ⟨(hk pw (by simp)).trans a.sw.hp, (hk bw (by simp)).trans a.sw.hb⟩, ⟨(hk pt (by simp)).trans a.st.hp, (hk bt (by simp)).trans a.st.hb⟩, ⟨es, c, (hk mp (by simp)).trans hm, F, hs, hD⟩, a.pp, a.bb⟩, h.rn.now.st, h.rn.now.dis⟩, below := hb } }
  rcases h.gra.row.2 with h2 | ⟨g, cap, cur, e, b, c2, d⟩
  · exact .inl h2
  · refine .inr ⟨g, cap, cur, e, b, (hk g ?_).trans c2, d⟩
    rw [e]; simp [Value.ownBlock]

/-- A number more of the edge. -/
theorem ri_more (f : Fix w w4 w5 w6 n x p q pw bw pt bt mp) (h : RI1 w w4 w5 w6 W n x p q pw bw pt bt mp acc L v R B Wl T D N u) {W1 : World} {o : Obj} {m : Int} {u' : Value} (hown : W1.ownsRow w5.heap.size 3 1 u' (acc.length + 1) (acc.map (Value.int .i64) ++ [.int .i64 m])) (hg : (W.alloc o).grownBy W1 u.ownBlock) :
    Boxed W1 (w5.heap.size + 1) 48 u ∧ KeepsFrom w6.heap.size W (W1.setCell ⟨w5.heap.size + 1, 0, none⟩ u') ∧ KpB (w5.heap.size + 2) W (W1.setCell ⟨w5.heap.size + 1, 0, none⟩ u') ∧
    IAt w4 (W1.setCell ⟨w5.heap.size + 1, 0, none⟩ u') x p q n v L R B Wl T D pw bw pt bt mp N ∧ Boxed (W1.setCell ⟨w5.heap.size + 1, 0, none⟩ u') w.heap.size 26 (.pointer none) ∧ Boxed (W1.setCell ⟨w5.heap.size + 1, 0, none⟩ u') (w.heap.size + 1) 28 .nilIface ∧ Boxed (W1.setCell ⟨w5.heap.size + 1, 0, none⟩ u') w5.heap.size 26 (.pointer (some ⟨x, 0, none⟩)) ∧
    Boxed (W1.setCell ⟨w5.heap.size + 1, 0, none⟩ u') (w5.heap.size + 1) 48 u' ∧ (W1.setCell ⟨w5.heap.size + 1, 0, none⟩ u').ownsRow w5.heap.size 3 1 u' (acc ++ [m]).length ((acc ++ [m]).map (Value.int .i64)) ∧ w6.heap.size ≤ (W1.setCell ⟨w5.heap.size + 1, 0, none⟩ u').heap.size ∧ Below w5.heap.size W (W1.setCell ⟨w5.heap.size + 1, 0, none⟩ u') := by
  have f4 := f.s4; have f5 := f.s5; have f6 := f.s6
  obtain ⟨h1, h2, h3, h4, h5⟩ := h.x10.appended (by decide) h.row (by have := h.size; omega) (by omega) hown hg
  have hkeep : ∀ k, k < W.heap.size → k ≠ w5.heap.size + 1 → (∀ cur, W.heap[k]? ≠ some (.cells cur 3)) ∨ k < w5.heap.size → (W1.setCell ⟨w5.heap.size + 1, 0, none⟩ u').heap[k]? = W.heap[k]? := by
    intro k hk hne hc
    rcases hc with hc | hc
    · rw [Below.heap_setCell _ _ _ k (fun e => hne e), hg.block k (by simp; omega) ?_, Below.heap_alloc _ _ _ hk]
      intro e
      rcases h.row.2 with ⟨rfl, _⟩ | ⟨g, cap, cur, rfl, _, hgb, _⟩
      · simp [Value.ownBlock] at e
      · simp [Value.ownBlock] at e
        subst e
        exact hc _ hgb
    · exact h5.block k hc
  have hbx : ∀ {b t : Nat} {vv : Value}, Boxed W b t vv → b ≠ w5.heap.size + 1 → t ≠ 3 → Boxed (W1.setCell ⟨w5.heap.size + 1, 0, none⟩ u') b t vv := by
    intro b t vv hb hne ht
    refine (hkeep b hb.lt hne (.inl fun cur e => ?_)).trans hb
    have := (show W.heap[b]? = _ from hb).symm.trans e
    simp at this
    exact ht this.2
  obtain ⟨s9, hs9⟩ := h.xb
  have ha := h.at_.rn.now.at_
  obtain ⟨es, mc, hm⟩ := ha.mobj
  have hcell : ∀ {k t : Nat} {c : Array Value}, W.heap[k]? = some (.cells c t) → t ≠ 3 → ∀ cur, W.heap[k]? ≠ some (.cells cur 3) := by
    intro k t c hk ht cur e
    have := hk.symm.trans e
    simp at this
    exact ht this.2
  have h48 : ∀ {k t : Nat} {c : Array Value}, W.heap[k]? = some (.cells c t) → t ≠ 48 → k ≠ w5.heap.size + 1 := by
    rintro k t c hk ht rfl
    have := hk.symm.trans h.x10
    simp at this
    exact ht this.2
  have hc1 : ∀ {k t : Nat} {c : Array Value}, W.heap[k]? = some (.cells c t) → t ≠ 3 → t ≠ 48 → (W1.setCell ⟨w5.heap.size + 1, 0, none⟩ u').heap[k]? = W.heap[k]? := fun hk h3 h4 => hkeep _ (G.lt_of_some hk) (h48 hk h4) (.inl (hcell hk h3))
  refine ⟨h1, h4.from _, hkeep _ hs9.lt (by omega) (.inl (hcell hs9 (by decide))), h.at_.same ?_ ?_, hbx h.x2 (by omega) (by decide), hbx h.x3 (by omega) (by decide), hbx h.x9 (by omega) (by decide), h2, by simpa using h3, ?_, h5⟩
  · exact h.at_.rn.below.trans (h5.mono f5)
  · rintro k (rfl | rfl | hk | rfl | rfl | rfl | rfl | rfl | rfl)
    · exact hc1 h.at_.ix (by decide) (by decide)
    · exact hc1 h.at_.gra.hp (by decide) (by decide)
    · obtain ⟨cur, hcur⟩ := own61 h.at_.gra.row hk
      exact hc1 hcur (by decide) (by decide)
    · exact hc1 ha.hp (by decide) (by decide)
    · exact hc1 ha.sw.hp (by decide) (by decide)
    · have := f.hbw
      exact hkeep _ ha.sw.blt (by omega) (.inr f.hbw)
    · exact hc1 ha.st.hp (by decide) (by decide)
    · have := f.hbt
      exact hkeep _ ha.st.blt (by omega) (.inr f.hbt)
    · have := f.hmp
      exact hkeep _ (G.lt_of_some hm) (by omega) (.inr f.hmp)
  · exact Nat.le_trans h.size h5.size

/-- .. it is not the last one. -/
theorem ri_on (f : Fix w w4 w5 w6 n x p q pw bw pt bt mp) (hr : rdP n (short pre) = some (acc, L)) (h : RI1 w w4 w5 w6 W n x p q pw bw pt bt mp acc L v R B Wl T D N u) {W1 : World} {o : Obj} {m : Int} {u' : Value} {y : List UInt8} (hy : Lib.atoiAll (y.take 100000) = .ok m) (hacc : acc.length < 2)
    (hown : W1.ownsRow w5.heap.size 3 1 u' (acc.length + 1) (acc.map (Value.int .i64) ++ [.int .i64 m])) (hg : (W.alloc o).grownBy W1 u.ownBlock) :
    RI w w4 w5 w6 n x p q pw bw pt bt mp (pre ++ [y]) (W1.setCell ⟨w5.heap.size + 1, 0, none⟩ u') := by
  obtain ⟨_, _, hk, h1, h2, h3, h4, h5, h6, h7, _⟩ := ri_more f h hown hg
  refine ⟨acc ++ [m], L, v, R, B, Wl, T, D, N, u', ?_, ⟨h1, h2, h3, h4, h5, ?_, h6, h7, by simp; omega⟩⟩
  · rw [short_snoc, rdP_snoc, hr]
    unfold stepP
    rw [hy]
    match acc, hacc with
    | [], _ => rfl
    | [i], _ => rfl
  · obtain ⟨s9, hs9⟩ := h.xb
    exact ⟨s9, hk.trans hs9⟩

/-- What Add keeps of cells of another kind. -/
theorem ik_cells {w0 : World} (h : IAt w0 W x p q n v L R B Wl T D pw bw pt bt mp N) (k : Ikp p v.ownBlock bw bt mp W W') {b t : Nat} {c : Array Value} (hb : W.heap[b]? = some (.cells c t)) (h1 : t ≠ 168) (h2 : t ≠ 61) (h3 : t ≠ 3) : W'.heap[b]? = some (.cells c t) := by
  have a := h.rn.now.at_
  obtain ⟨es, mc, hm⟩ := a.mobj
  rw [k.block b (G.lt_of_some hb) ?_ ?_ ?_ ?_ ?_]
  · exact hb
  · rintro rfl
    have := hb.symm.trans h.gra.hp; simp at this; exact h1 this.2
  · intro e
    obtain ⟨cur, hc⟩ := own61 h.gra.row e.symm
    have := hb.symm.trans hc; simp at this; exact h2 this.2
  · rintro rfl
    have := hb.symm.trans a.sw.hb; simp at this; exact h3 this.2
  · rintro rfl
    have := hb.symm.trans a.st.hb; simp at this; exact h3 this.2
  · rintro rfl
    have := hb.symm.trans hm; simp at this

theorem ik_keeps (f : Fix w w4 w5 w6 n x p q pw bw pt bt mp) {w0 : World} (h : IAt w0 W x p q n v L R B Wl T D pw bw pt bt mp N) (k : Ikp p v.ownBlock bw bt mp W W') : KeepsFrom w6.heap.size W W' := by
  have a := h.rn.now.at_
  have f6 := f.s6
  refine ⟨k.size, fun b o hB hb ho => ?_⟩
  rw [k.block b (G.lt_of_some hb) ?_ ?_ ?_ ?_ ?_]
  · exact hb
  · rintro rfl
    have := hb.symm.trans h.gra.hp
    injection this with this; subst this; cases ho
  · intro e
    obtain ⟨cur, hc⟩ := own61 h.gra.row e.symm
    have := hb.symm.trans hc
    injection this with this; subst this; cases ho
  · have := f.hbw; omega
  · have := f.hbt; omega
  · have := f.hmp; omega

/-- The edge is put in. -/
theorem ri_put (f : Fix w w4 w5 w6 n x p q pw bw pt bt mp) {i a m : Int} (hr : rdP n (short pre) = some ([i, a], L)) {y : List UInt8} (hy : Lib.atoiAll (y.take 100000) = .ok m) (hf : Fits n L i a m) {V : World} {L' R' B' : List G.E} {W2 T2 : List Nat} {D2 : DataW Unit} {N2 : Nat} {v2 u' s9 : Value}
    (h : IAt w4 W x p q n v L R B Wl T D pw bw pt bt mp N) (hL : L' = G.putE L (edg i a m)) (h2 : IAt w4 V x p q n v2 L' R' B' W2 T2 D2 pw bw pt bt mp N2) (k : Ikp p v.ownBlock bw bt mp W V)
    (x2 : Boxed W w.heap.size 26 (.pointer none)) (x3 : Boxed W (w.heap.size + 1) 28 .nilIface) (x9 : Boxed W w5.heap.size 26 (.pointer (some ⟨x, 0, none⟩))) (x10 : Boxed W (w5.heap.size + 1) 48 u') (xb : Boxed W (w5.heap.size + 2) 9 s9) (hs : w6.heap.size ≤ W.heap.size) :
    RI w w4 w5 w6 n x p q pw bw pt bt mp (pre ++ [y]) (V.setCell ⟨w5.heap.size + 1, 0, none⟩ (.slice none 0 0)) ∧ KeepsFrom w6.heap.size W (V.setCell ⟨w5.heap.size + 1, 0, none⟩ (.slice none 0 0)) ∧ KpB (w5.heap.size + 2) W (V.setCell ⟨w5.heap.size + 1, 0, none⟩ (.slice none 0 0)) := by
  have f4 := f.s4; have f5 := f.s5; have f6 := f.s6
  have y2 : Boxed V w.heap.size 26 (.pointer none) := ik_cells h k x2 (by decide) (by decide) (by decide)
  have y3 : Boxed V (w.heap.size + 1) 28 .nilIface := ik_cells h k x3 (by decide) (by decide) (by decide)
  have y9 : Boxed V w5.heap.size 26 (.pointer (some ⟨x, 0, none⟩)) := ik_cells h k x9 (by decide) (by decide) (by decide)
  have y10 : Boxed V (w5.heap.size + 1) 48 u' := ik_cells h k x10 (by decide) (by decide) (by decide)
  have yb : Boxed V (w5.heap.size + 2) 9 s9 := ik_cells h k xb (by decide) (by decide) (by decide)
  have hset : ∀ b, b ≠ w5.heap.size + 1 → (V.setCell ⟨w5.heap.size + 1, 0, none⟩ (.slice none 0 0)).heap[b]? = V.heap[b]? := fun b hb => Below.heap_setCell _ _ _ b (fun e => hb e)
  have ha := h2.rn.now.at_
  obtain ⟨es, mc, hm⟩ := ha.mobj
  have h48 : ∀ {b t : Nat} {c : Array Value}, V.heap[b]? = some (.cells c t) → t ≠ 48 → b ≠ w5.heap.size + 1 := by
    rintro b t c hb ht rfl
    have := hb.symm.trans y10
    simp at this
    exact ht this.2
  refine ⟨⟨[], L', v2, R', B', W2, T2, D2, N2, .slice none 0 0, ?_, ⟨h2.same ?_ ?_, ?_, ?_, ?_, y10.set _, ⟨s9, ?_⟩, World.ownsRow_nil _ _ _ _, ?_, by simp⟩⟩, (ik_keeps f h k).trans ((KeepsOthers.setCell _ _ _).from _), ?_⟩
  · rw [short_snoc, rdP_snoc, hr]
    unfold stepP
    rw [hy]
    dsimp only
    rw [if_pos hf, hL]
  · exact h2.rn.below.setCell (p := ⟨w5.heap.size + 1, 0, none⟩) (by show w4.heap.size ≤ w5.heap.size + 1; omega) _
  · rintro b (rfl | rfl | hk | rfl | rfl | rfl | rfl | rfl | rfl)
    · exact hset _ (h48 h2.ix (by decide))
    · exact hset _ (h48 h2.gra.hp (by decide))
    · obtain ⟨cur, hcur⟩ := own61 h2.gra.row hk
      exact hset _ (h48 hcur (by decide))
    · exact hset _ (h48 ha.hp (by decide))
    · exact hset _ (h48 ha.sw.hp (by decide))
    · exact hset _ (h48 ha.sw.hb (by decide))
    · exact hset _ (h48 ha.st.hp (by decide))
    · exact hset _ (h48 ha.st.hb (by decide))
    · have := f.hmp
      exact hset _ (by omega)
  · exact y2.other (by omega) _
  · exact y3.other (by omega) _
  · exact y9.other (by omega) _
  · exact yb.other (by omega) _
  · exact Nat.le_trans hs (Nat.le_trans k.size (KeepsOthers.setCell V ⟨w5.heap.size + 1, 0, none⟩ (.slice none 0 0)).size)
  · exact (hset _ (by omega)).trans (yb.trans xb.symm)

end Go.Proofs.YtebcjaenhiiflaaGreatDoor.I
