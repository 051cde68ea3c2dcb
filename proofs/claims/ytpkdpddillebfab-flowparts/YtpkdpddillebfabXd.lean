/- Package split: Pairs. -/
import Derived.Test.YtpkdpddillebfabXc
import Derived.Deep.DeepFit
namespace Go.Proofs.Ytpkdpddillebfab.S
open Go.RowKit Go.WideMaps Go.Maps

theorem OwnsP.mono {w : World} {B B' : Nat} {v : Value} {L : List (Nat × Nat)} (h : OwnsP w B v L) (hB : B' ≤ B) : OwnsP w B' v L := by
  refine ⟨h.1, ?_⟩
  rcases h.2 with hh | ⟨g, cap, cur, h1, h2, h3, h4⟩
  · exact Or.inl hh
  · exact Or.inr ⟨g, cap, cur, h1, by omega, h3, h4⟩

theorem append_P (ty : TypeId) (w : World) (B : Nat) (v : Value) (L M : List (Nat × Nat)) (h : OwnsP w B v L) (hB : B ≤ w.heap.size) (a : Addr) (m c : Nat) (hm : m = M.length) (hM : ∀ j u, (rowP M)[j]? = some u → w.cell? (a.add j) = some u) (hl : L.length + M.length ≤ 100000) :
    ∃ v' w', (Builtin.append_ #[22, 22] ty #[v, .slice (some a) m c]).run Try.prog w = .ok v' w' ∧ OwnsP w' B v' (L ++ M) ∧ w.grownBy w' v.ownBlock ∧ G.Fresh w v v' := by
  subst hm
  obtain ⟨i, hi, hs, hb, hz⟩ := info48
  have own : ∀ B', OwnsP w B' v L → B' ≤ w.heap.size → ∃ v' w', (Builtin.append_ #[22, 22] ty #[v, .slice (some a) M.length c]).run Try.prog w = .ok v' w' ∧ OwnsP w' B' v' (L ++ M) ∧ w.grownBy w' v.ownBlock := by
    intro B' h' hB'
    obtain ⟨v', w', h1, h2, h3, _⟩ := run_append_own (P := Try.prog) w B' 22 ty 48 i zP 2 16 Try.underlying22 hi hz hs hb (by rw [zP_cells]; rfl) (by omega) v L.length (rowP L) h' a M.length c (rowP M) (rowP_length M) hM (rowP_one M) (by simp only [maxLen]; omega) (by omega) hB'
    refine ⟨v', w', h1, ?_, h3⟩
    show w'.ownsRow B' 48 2 v' (L ++ M).length (rowP (L ++ M))
    rw [List.length_append, rowP_append]
    exact h2
  rcases h.2 with ⟨rfl, h0⟩ | ⟨g, cap, cur, rfl, h1, h2, h3, h4, h5, h6⟩
  · have hL : L = [] := List.eq_nil_of_length_eq_zero h0
    subst hL
    obtain ⟨v', w', e1, e2, e3⟩ := own w.heap.size (World.ownsRow_nil w _ 48 2) (Nat.le_refl _)
    exact ⟨v', w', e1, e2.mono hB, e3, fun k hk => Or.inr (World.ownsRow.lt e2 k hk).1⟩
  · obtain ⟨v', w', e1, e2, e3⟩ := own B h hB
    refine ⟨v', w', e1, e2, e3, ?_⟩
    by_cases hroom : L.length + M.length ≤ cap
    · have hr := run_append_room (P := Try.prog) w 22 ty 48 i Try.underlying22 hi g L.length cap cur h2 a M.length c (rowP M) (by rw [hs]; exact rowP_length M) hM (rowP_one M) hroom (by rw [hs, h5, rowP_length]; omega)
      rw [hr] at e1
      injection e1 with e1 _
      subst e1
      intro k hk
      exact Or.inl hk
    · have hr := run_append_grow (P := Try.prog) w 22 ty 48 i zP Try.underlying22 hi hz ⟨g, 0, none⟩ L.length cap (rowP L) (by rw [hs]; exact rowP_length L) (World.ownsRow.cells h rfl) a M.length c (rowP M) (by rw [hs]; exact rowP_length M) hM (by omega) (by omega) (growslice_fits (by omega) (by rw [hb]; omega))
      rw [hr] at e1
      injection e1 with e1 _
      subst e1
      intro k hk
      have hk' : w.heap.size = k := by simpa [Value.ownBlock] using hk
      exact Or.inr (by omega)

/-- One pair more, and where its row lies. -/
theorem more_pair (ty : TypeId) (W : World) (B : Nat) (u : Value) (M : List (Nat × Nat)) (x y : Nat) (h : OwnsP W B u M) (hB : B ≤ W.heap.size) (hl : M.length ≤ 1000) :
    ∃ v' w', (Builtin.append_ #[22, 22] ty #[u, .slice (some ⟨W.heap.size, 0, none⟩) 1 1]).run Try.prog (W.alloc (.cells #[.int .i64 (x : Int), .int .i64 (y : Int)] 48)) = .ok v' w' ∧ OwnsP w' B v' (M ++ [(x, y)]) ∧ W.grownBy w' u.ownBlock ∧ G.Fresh W u v' := by
  have hbx : Below W.heap.size W (W.alloc (.cells #[.int .i64 (x : Int), .int .i64 (y : Int)] 48)) := (Below.refl _ _).alloc (Nat.le_refl _) _
  obtain ⟨v', w', h1, h2, h3, h4⟩ := append_P ty _ B u M [(x, y)] (h.below hbx) (Nat.le_trans hB (by simp)) ⟨W.heap.size, 0, none⟩ 1 1 rfl (pair_cells W x y) (by simp; omega)
  refine ⟨v', w', h1, h2, ⟨h3.os.trans hbx.os, h3.tape.trans hbx.tape, h3.output.trans hbx.output, Nat.le_trans hbx.size h3.size, fun k hk hn => (h3.block k (Nat.lt_of_lt_of_le hk hbx.size) hn).trans (hbx.block k hk)⟩, fun k hk => ?_⟩
  rcases h4 k hk with h5 | h5
  · exact Or.inl h5
  · exact Or.inr (Nat.le_trans (by simp) h5)

/-- The labels without one node's edges, and without two. -/
def lab1 (n : Nat) (R : List (Int × Int × Int)) (i : Nat) : List Nat := joins (List.range n) (R.filter (kp fun x => decide (x ≠ i)))
def lab2 (n : Nat) (R : List (Int × Int × Int)) (i j : Nat) : List Nat := joins (List.range n) (R.filter (kp fun x => decide (x ≠ i ∧ x ≠ j)))

section
variable {n : Nat} {R : List (Int × Int × Int)}
theorem lw1 (hin : Inn n R) (i : Nat) : Lw n R [i] (lab1 n R i) := lw_joins hin _ (fun z => by simp)
theorem lw2 (hin : Inn n R) (i j : Nat) : Lw n R [i, j] (lab2 n R i j) := lw_joins hin _ (fun z => by simp)

theorem part_labels (hin : Inn n R) (a b : Nat) : PartP R n a b ↔ ∃ x y, x < n ∧ y < n ∧ (lab1 n R a).getD x 0 = (lab1 n R a).getD y 0 ∧ (lab1 n R b).getD x 0 = (lab1 n R b).getD y 0 ∧ (lab2 n R a b).getD x 0 ≠ (lab2 n R a b).getD y 0 := by
  constructor
  · rintro ⟨x, y, hx, hy, h1, h2, h3⟩
    exact ⟨x, y, hx, hy, ((lw1 hin a).iff x y hx hy).2 h1, ((lw1 hin b).iff x y hx hy).2 h2, fun k => h3 (((lw2 hin a b).iff x y hx hy).1 k)⟩
  · rintro ⟨x, y, hx, hy, h1, h2, h3⟩
    exact ⟨x, y, hx, hy, ((lw1 hin a).iff x y hx hy).1 h1, ((lw1 hin b).iff x y hx hy).1 h2, fun k => h3 (((lw2 hin a b).iff x y hx hy).2 k)⟩
end

/-- The row 'alone' behind k nodes. -/
structure Al (w0 w : World) (A n k : Nat) (R : List (Int × Int × Int)) : Prop where
  cell : ∀ i, i < k → ∃ p b, w.cell? ⟨A, i, none⟩ = some (.pointer (some ⟨p, 0, none⟩)) ∧ SetsAt w p b (lab1 n R i) ∧ p ≠ A ∧ b ≠ A
  rest : ∀ i, k ≤ i → i < n → w.cell? ⟨A, i, none⟩ = some (.pointer none)
  fz : ∀ i, w.frozen? ⟨A, i, none⟩ = false
  lt : A < w.heap.size
  ge : w0.heap.size ≤ A
  below : Below w0.heap.size w0 w

section
variable {w0 w w' : World} {A n k : Nat} {R : List (Int × Int × Int)}
theorem Al.below' (h : Al w0 w A n k R) (hb : Below w.heap.size w w') : Al w0 w' A n k R := by
  refine ⟨fun i hi => ?_, fun i h1 h2 => cell_below (h.rest i h1 h2) hb, fun i => ?_, Nat.lt_of_lt_of_le h.lt hb.size, h.ge, h.below.trans (hb.mono h.below.size)⟩
  · obtain ⟨p, b, h1, h2, h3, h4⟩ := h.cell i hi
    exact ⟨p, b, cell_below h1 hb, h2.below hb h2.plt h2.blt, h3, h4⟩
  · have := h.fz i
    simp only [World.frozen?] at this ⊢
    rw [hb.block _ h.lt]; exact this

theorem Al.step (h : Al w0 w A n k R) (hk : k < n) {p b : Nat} (hs : SetsAt w p b (lab1 n R k)) (hp : p ≠ A) (hb : b ≠ A) : Al w0 (w.setCell ⟨A, k, none⟩ (.pointer (some ⟨p, 0, none⟩))) A n (k + 1) R := by
  have hold := h.rest k (Nat.le_refl _) hk
  have keep' : ∀ {v p b l}, SetsAt w p b l → p ≠ A → b ≠ A → SetsAt (w.setCell ⟨A, k, none⟩ v) p b l := fun {v p b l} h h1 h2 => ⟨by rw [Below.heap_setCell _ _ _ _ h1]; exact h.hp, by rw [Below.heap_setCell _ _ _ _ h2]; exact h.hb⟩
  refine ⟨fun i hi => ?_, fun i h1 h2 => ?_, fun i => ?_, by simpa using h.lt, h.ge, h.below.trans ⟨rfl, rfl, rfl, by simp, fun j hj => Below.heap_setCell _ _ _ _ (show j ≠ A by have := h.ge; omega)⟩⟩
  · by_cases e : i = k
    · subst e
      exact ⟨p, b, World.cell?_setCell_same _ _ _ hold, keep' hs hp hb, hp, hb⟩
    · obtain ⟨p', b', h1, h2, h3, h4⟩ := h.cell i (by omega)
      exact ⟨p', b', (World.cell?_setCell_other _ _ _ _ (fun c => e (by injection c with _ c _; omega))).trans h1, keep' h2 h3 h4, h3, h4⟩
  · exact (World.cell?_setCell_other _ _ _ _ (fun c => by injection c with _ c _; omega)).trans (h.rest i (by omega) h2)
  · rw [World.frozen?_setCell]; exact h.fz i
end

theorem info73 : (Try.prog.info? 73).map (fun i => (i.zero, i.size, i.bytes)) = some (some (.pointer none), 1, 8) := by kernel_rfl

theorem al_start (w0 W : World) (n : Nat) (R : List (Int × Int × Int)) (hb : Below w0.heap.size w0 W) : Al w0 (W.alloc (.cells (madeCells #[.pointer none] n) 73)) W.heap.size n 0 R := by
  have hh := heap_alloc_new W (.cells (madeCells #[.pointer none] n) 73)
  refine ⟨fun i hi => by omega, fun i _ hi => ?_, fun i => ?_, by simp, hb.size, hb.alloc hb.size _⟩
  · simp only [World.cell?, hh]
    simp [madeCells, hi, Nat.mod_one]
  · simp only [World.frozen?, hh]; rfl

/-- What Pairs holds on to in its two loops: the row of pairs, the memory below. -/
structure Pr (W1 w : World) (u : Value) (M : List (Nat × Nat)) : Prop where
  own : OwnsP w W1.heap.size u M
  below : Below W1.heap.size W1 w

theorem Pr.below' {W1 w w' : World} {u : Value} {M : List (Nat × Nat)} (h : Pr W1 w u M) (hb : Below w.heap.size w w') : Pr W1 w' u M := ⟨h.own.below hb, h.below.trans (hb.mono h.below.size)⟩

/-- .. with the boxes of the two nodes. -/
structure B3 (W1 w : World) (ba bb a b : Nat) (u : Value) (M : List (Nat × Nat)) : Prop where
  pr : Pr W1 w u M
  ca : w.heap[ba]? = some (.cells #[.int .i64 (a : Int)] 3)
  cb : w.heap[bb]? = some (.cells #[.int .i64 (b : Int)] 3)
  na : u.ownBlock ≠ some ba
  nb : u.ownBlock ≠ some bb
  ne : ba ≠ bb
  ga : W1.heap.size ≤ ba
  gb : W1.heap.size ≤ bb

section
variable {W1 w w' : World} {ba bb a b : Nat} {u u' : Value} {M : List (Nat × Nat)}
theorem B3.cella (h : B3 W1 w ba bb a b u M) : w.cell? ⟨ba, 0, none⟩ = some (.int .i64 (a : Int)) := by simp [World.cell?, h.ca]
theorem B3.cellb (h : B3 W1 w ba bb a b u M) : w.cell? ⟨bb, 0, none⟩ = some (.int .i64 (b : Int)) := by simp [World.cell?, h.cb]
theorem B3.below' (h : B3 W1 w ba bb a b u M) (hb : Below w.heap.size w w') : B3 W1 w' ba bb a b u M :=
  { h with pr := h.pr.below' hb, ca := (hb.block _ (lt_of_some h.ca)).trans h.ca, cb := (hb.block _ (lt_of_some h.cb)).trans h.cb }

theorem B3.start {M : List (Nat × Nat)} (h : Pr W1 w u M) (a : Nat) : B3 W1 ((w.alloc (.cells #[.int .i64 (a : Int)] 3)).alloc (.cells #[.int .i64 ((a + 1 : Nat) : Int)] 3)) w.heap.size (w.heap.size + 1) a (a + 1) u M := by
  have h1 : Below w.heap.size w (w.alloc (.cells #[.int .i64 (a : Int)] 3)) := (Below.refl _ _).alloc (Nat.le_refl _) _
  have h2 : Below (w.alloc (.cells #[.int .i64 (a : Int)] 3)).heap.size (w.alloc (.cells #[.int .i64 (a : Int)] 3)) ((w.alloc (.cells #[.int .i64 (a : Int)] 3)).alloc (.cells #[.int .i64 ((a + 1 : Nat) : Int)] 3)) := (Below.refl _ _).alloc (Nat.le_refl _) _
  have hc := heap_alloc_new w (.cells #[.int .i64 (a : Int)] 3)
  have hd := heap_alloc_new (w.alloc (.cells #[.int .i64 (a : Int)] 3)) (.cells #[.int .i64 ((a + 1 : Nat) : Int)] 3)
  rw [World.size_alloc] at hd
  have hsz := h.below.size
  have hlt : ∀ j, u.ownBlock = some j → j < w.heap.size := fun j hj => (World.ownsRow.lt h.own j hj).2
  exact ⟨(h.below' h1).below' h2, (h2.block _ (lt_of_some hc)).trans hc, hd, fun e => by have := hlt _ e; omega, fun e => by have := hlt _ e; omega, by omega, by omega, by omega⟩

/-- The next second node, in a box of its own. -/
theorem B3.next (h : B3 W1 w ba bb a b u M) : B3 W1 (w.alloc (.cells #[.int .i64 ((b + 1 : Nat) : Int)] 3)) ba w.heap.size a (b + 1) u M := by
  have h1 : Below w.heap.size w (w.alloc (.cells #[.int .i64 ((b + 1 : Nat) : Int)] 3)) := (Below.refl _ _).alloc (Nat.le_refl _) _
  have hl := lt_of_some h.ca
  exact ⟨h.pr.below' h1, (h1.block _ hl).trans h.ca, heap_alloc_new w _, h.na, fun e => by have := (World.ownsRow.lt h.pr.own _ e).2; omega, by omega, h.ga, h.pr.below.size⟩

theorem B3.more (h : B3 W1 w ba bb a b u M) (ho : OwnsP w' W1.heap.size u' (M ++ [(a, b)])) (hg : w.grownBy w' u.ownBlock) (hf : G.Fresh w u u') : B3 W1 w' ba bb a b u' (M ++ [(a, b)]) := by
  have hla := lt_of_some h.ca
  have hlb := lt_of_some h.cb
  refine ⟨⟨ho, h.pr.below.grown hg h.pr.below.size (fun j hj => (World.ownsRow.lt h.pr.own j hj).1)⟩, (hg.block _ hla (fun e => h.na e.symm)).trans h.ca, (hg.block _ hlb (fun e => h.nb e.symm)).trans h.cb, fun e => ?_, fun e => ?_, h.ne, h.ga, h.gb⟩
  · rcases hf _ e with h1 | h1
    · exact h.na h1
    · omega
  · rcases hf _ e with h1 | h1
    · exact h.nb h1
    · omega
end

end Go.Proofs.Ytpkdpddillebfab.S
