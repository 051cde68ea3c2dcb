/- Groups in a map; rows of rows. -/
import Derived.Test.YtedcncpkikdldaaSW5
namespace Go.Proofs.Ytedcncpkikdldaa.S
open Go.RowKit Go.WideMaps Go.Maps
open Go.ChangeShapes (lits)


/-- Numbers as Go has them. -/
def ints (l : List Nat) : List Int := l.map fun i : Nat => (i : Int)

theorem ints_append (a b : List Nat) : ints (a ++ b) = ints a ++ ints b := by simp [ints]

theorem ints_length (a : List Nat) : (ints a).length = a.length := by simp [ints]

/-- Of the first k numbers those whose least is y. -/
def grp (L : List Nat) (k y : Nat) : List Nat := (List.range k).filter fun i => L.getD i 0 == y

theorem grp_succ_same (L : List Nat) (k : Nat) : grp L (k + 1) (L.getD k 0) = grp L k (L.getD k 0) ++ [k] := by
  simp [grp, List.range_succ]

theorem grp_succ_other (L : List Nat) (k y : Nat) (h : L.getD k 0 ≠ y) : grp L (k + 1) y = grp L k y := by
  have hb : (L.getD k 0 == y) = false := beq_eq_false_iff_ne.2 h
  unfold grp
  rw [List.range_succ, List.filter_append, List.filter_cons, hb]
  simp

/-- A map that reads as the rows gathered of the first k numbers. -/
def gInv (L : List Nat) (k : Nat) (D : DataW Unit) : Prop :=
  IsMap D ∧ ∀ (y : Nat) (zd : DataW Unit), D.atKey (.int .i64 (y : Int)) zd = if grp L k y = [] then zd else .slice (lits .i64 (ints (grp L k y))) []

theorem lits_inj {a b : List Int} (h : (lits .i64 a : List (DataW Unit)) = lits .i64 b) : a = b := by
  unfold lits at h
  exact (List.map_inj_right (fun x y hxy => by cases hxy; rfl)).1 h

theorem gInv_start (L : List Nat) : gInv L 0 (.map []) := ⟨isMap_empty, fun y zd => by simp [grp]; rfl⟩

/-- What is found is what was gathered. -/
theorem gInv_found {L : List Nat} {k y : Nat} {D : DataW Unit} (h : gInv L k D) {w : World} {base : Nat} {e : TypeId} {v : Value} {zs : List Int} (ho : w.ownsInts base e .i64 v zs)
    (hat : D.atKey (.int .i64 (y : Int)) .nil = rowDatum .i64 v zs) : zs = ints (grp L k y) := by
  rw [h.2] at hat
  split at hat
  · next hg =>
    rw [hg]
    rcases ho.datum (H := Unit) with ⟨_, h2⟩ | h2
    · exact h2
    · rw [h2] at hat; cases hat
  · next hg =>
    rcases ho.datum (H := Unit) with ⟨h1, _⟩ | h2
    · rw [h1] at hat; cases hat
    · rw [h2] at hat
      injection hat with h3 _
      exact (lits_inj h3).symm

theorem gInv_step {L : List Nat} {k : Nat} {D : DataW Unit} (h : gInv L k D) {w w1 : World} {base : Nat} {e : TypeId} {v v' : Value} {zs : List Int} (ho : w.ownsInts base e .i64 v zs)
    (hat : D.atKey (.int .i64 ((L.getD k 0 : Nat) : Int)) .nil = rowDatum .i64 v zs) (ho' : w1.ownsInts base e .i64 v' (zs ++ [(k : Int)])) :
    gInv L (k + 1) (D.put (.int .i64 ((L.getD k 0 : Nat) : Int)) (rowDatum .i64 v' (zs ++ [(k : Int)]))) := by
  have hz := gInv_found h ho hat
  refine ⟨h.1.put _ _, fun y zd => ?_⟩
  by_cases e : L.getD k 0 = y
  · subst e
    rw [atKey_put_same h.1 (by trivial), grp_succ_same, if_neg (by simp), ho'.datum_pos (by simp), hz, ints_append]
    rfl
  · have hne : Lit.int .i64 (y : Int) ≠ Lit.int .i64 ((L.getD k 0 : Nat) : Int) := fun h => e (by injection h with _ h2; omega)
    rw [atKey_put_other hne, h.2, grp_succ_other L k y e]

/-- The look-up, in a later world, of a map of rows: the key is not there, or its row. -/
theorem look_later {P : Program} {wl wr : World} {t k E base e b n : Nat} {D : DataW Unit} {key : Value} {kl : Lit} (hg : wl.ownsGroups P k base e .i64 b n D) (hb : Below wl.heap.size wl wr)
    (K : Keyed P k) (ht : P.underlying t = some (.map k E)) (hz : (zeroValue E).run P wr = .ok (.slice none 0 0) wr) (hkey : keyOf P k key = some kl) :
    ((Instr.lookup t (.map (some b)) key true).run P wr = .ok (.tuple #[.slice none 0 0, .bool false]) wr ∧ ∀ zd, D.atKey kl zd = zd) ∨
    ∃ v zs, (Instr.lookup t (.map (some b)) key true).run P wr = .ok (.tuple #[v, .bool true]) wr ∧ wl.ownsInts base e .i64 v zs ∧ ∀ zd, D.atKey kl zd = rowDatum .i64 v zs := by
  obtain ⟨es, clock, hh, F, hs, rfl, hbb, hlen, hap⟩ := hg
  have hh' : wr.heap[b]? = some (.map es clock) := (hb.block b (lt_of_some hh)).trans hh
  rcases Maps.fit_look true K ht hz hh' F hkey with ⟨hrun, _, hat⟩ | ⟨e0, y, hm0, h3, hrun, hR, hat, _⟩
  · exact Or.inl ⟨by simpa using hrun, hat⟩
  · obtain ⟨zs, ho, rfl⟩ := rowElem_inv hR
    exact Or.inr ⟨e0.val, zs, by simpa using hrun, ho, hat⟩

theorem look_none {P : Program} {wl wr : World} {t k E base e b n m y : Nat} {L : List Nat} {D : DataW Unit} (hg : wl.ownsGroups P k base e .i64 b n D) (hD : gInv L m D) (hb : Below wl.heap.size wl wr)
    (K : Keyed P k) (ht : P.underlying t = some (.map k E)) (hz : (zeroValue E).run P wr = .ok (.slice none 0 0) wr) (hkey : keyOf P k (.int .i64 (y : Int)) = some (.int .i64 (y : Int))) (hy : grp L m y = []) :
    (Instr.lookup t (.map (some b)) (.int .i64 (y : Int)) true).run P wr = .ok (.tuple #[.slice none 0 0, .bool false]) wr := by
  rcases look_later hg hb K ht hz hkey with ⟨hrun, _⟩ | ⟨v, zs, _, _, hat⟩
  · exact hrun
  · have h1 := hat .nil
    have h2 := hat (.map [])
    rw [hD.2, if_pos hy] at h1 h2
    rw [← h1] at h2
    cases h2

theorem look_some {P : Program} {wl wr : World} {t k E base e b n m y : Nat} {L : List Nat} {D : DataW Unit} (hg : wl.ownsGroups P k base e .i64 b n D) (hD : gInv L m D) (hb : Below wl.heap.size wl wr)
    (K : Keyed P k) (ht : P.underlying t = some (.map k E)) (hz : (zeroValue E).run P wr = .ok (.slice none 0 0) wr) (hkey : keyOf P k (.int .i64 (y : Int)) = some (.int .i64 (y : Int))) (hy : grp L m y ≠ []) :
    ∃ r c, (Instr.lookup t (.map (some b)) (.int .i64 (y : Int)) true).run P wr = .ok (.tuple #[.slice (some ⟨r, 0, none⟩) (grp L m y).length c, .bool true]) wr ∧ wl.ownsInts base e .i64 (.slice (some ⟨r, 0, none⟩) (grp L m y).length c) (ints (grp L m y)) := by
  rcases look_later hg hb K ht hz hkey with ⟨_, hat⟩ | ⟨v, zs, hrun, ho, hat⟩
  · have h1 := hat .nil
    rw [hD.2, if_neg hy] at h1
    cases h1
  · have hzs := gInv_found hD ho (hat .nil)
    subst hzs
    rcases ho.1.2 with ⟨_, h0⟩ | ⟨g, cap, cur, rfl, _⟩
    · rw [ints_length] at h0
      exact absurd (List.length_eq_zero_iff.1 h0) hy
    · rw [ints_length] at hrun ho
      exact ⟨g, cap, hrun, ho⟩

/-- The rows of the first k numbers that are the least of theirs. -/
def grps (L : List Nat) (k : Nat) : List (List Nat) := ((List.range k).map (grp L L.length)).filter fun l => !l.isEmpty

theorem grps_succ_none (L : List Nat) (k : Nat) (h : grp L L.length k = []) : grps L (k + 1) = grps L k := by
  simp [grps, List.range_succ, h]

theorem grps_succ_some (L : List Nat) (k : Nat) (h : grp L L.length k ≠ []) : grps L (k + 1) = grps L k ++ [grp L L.length k] := by
  simp [grps, List.range_succ, h]

theorem grps_le (L : List Nat) (k : Nat) : (grps L k).length ≤ k := by
  unfold grps
  refine Nat.le_trans (List.length_filter_le _ _) ?_
  simp

/-- Rows that lie in memory as values. -/
def rowsAre (wl : World) (base : Nat) (vs : List Value) (Gs : List (List Nat)) : Prop :=
  vs.length = Gs.length ∧ ∀ i, i < Gs.length → ∃ r c, vs[i]? = some (.slice (some ⟨r, 0, none⟩) (Gs.getD i []).length c) ∧ wl.ownsInts base 3 .i64 (.slice (some ⟨r, 0, none⟩) (Gs.getD i []).length c) (ints (Gs.getD i []))

theorem rowsAre_snoc {wl : World} {base : Nat} {vs : List Value} {Gs : List (List Nat)} (h : rowsAre wl base vs Gs) {r c : Nat} {G : List Nat} (ho : wl.ownsInts base 3 .i64 (.slice (some ⟨r, 0, none⟩) G.length c) (ints G)) :
    rowsAre wl base (vs ++ [.slice (some ⟨r, 0, none⟩) G.length c]) (Gs ++ [G]) := by
  have hl := h.1
  refine ⟨by simp [hl], fun i hi => ?_⟩
  by_cases e : i < Gs.length
  · obtain ⟨r', c', h1, h2⟩ := h.2 i e
    have e1 : (Gs ++ [G]).getD i [] = Gs.getD i [] := by simp [List.getElem?_append_left e]
    rw [e1]
    exact ⟨r', c', by rw [List.getElem?_append_left (by omega)]; exact h1, h2⟩
  · have e2 : i = Gs.length := by simp at hi; omega
    subst e2
    have e1 : (Gs ++ [G]).getD Gs.length [] = G := by simp
    rw [e1]
    exact ⟨r, c, by rw [List.getElem?_append_right (by omega), h.1]; simp, ho⟩

/-- What All hands back. -/
def AllAt (w : World) (v : Value) (Gs : List (List Nat)) : Prop :=
  ∃ g cap, v = .slice (some ⟨g, 0, none⟩) Gs.length cap ∧ ∀ i, i < Gs.length → ∃ r c, w.cell? ⟨g, i, none⟩ = some (.slice (some ⟨r, 0, none⟩) (Gs.getD i []).length c) ∧ ∀ j, j < (Gs.getD i []).length → w.cell? ⟨r, j, none⟩ = some (.int .i64 (((Gs.getD i []).getD j 0 : Nat) : Int))

theorem lt_of_cell {w : World} {k i : Nat} {v : Value} (h : w.cell? ⟨k, i, none⟩ = some v) : k < w.heap.size := by
  rcases Nat.lt_or_ge k w.heap.size with h' | h'
  · exact h'
  · simp [World.cell?, Array.getElem?_eq_none h'] at h

theorem AllAt.below {w w' : World} {v : Value} {Gs : List (List Nat)} (h : AllAt w v Gs) (hb : Below w.heap.size w w') : AllAt w' v Gs := by
  obtain ⟨g, cap, hv, h⟩ := h
  refine ⟨g, cap, hv, fun i hi => ?_⟩
  obtain ⟨r, c, h1, h2⟩ := h i hi
  refine ⟨r, c, (hb.cell (p := ⟨g, i, none⟩) (lt_of_cell h1)).trans h1, fun j hj => (hb.cell (p := ⟨r, j, none⟩) (lt_of_cell (h2 j hj))).trans (h2 j hj)⟩

theorem allAt_of {wl wr : World} {base M : Nat} {v : Value} {vs : List Value} {Gs : List (List Nat)} (hr : rowsAre wl base vs Gs) (ho : wr.ownsRow M 37 1 v vs.length vs) (hv : v ≠ .slice none 0 0) (hb : Below wl.heap.size wl wr) : AllAt wr v Gs := by
  rcases ho.2 with ⟨h0, _⟩ | ⟨g, cap, cur, rfl, _⟩
  · exact absurd h0 hv
  · refine ⟨g, cap, by rw [hr.1], fun i hi => ?_⟩
    obtain ⟨r, c, h1, h2⟩ := hr.2 i hi
    refine ⟨r, c, ?_, fun j hj => ?_⟩
    · rw [ho.cellAt i (by rw [hr.1]; omega)]; exact h1
    · have hlt := (h2.1.lt r rfl).2
      have h3 := h2.1
      rw [ints_length] at h3
      rw [hb.cell (p := ⟨r, j, none⟩) hlt, h3.cellAt j (by omega)]
      clear h1 h2 h3
      generalize Gs.getD i [] = G at *
      simp [ints, hj]

end Go.Proofs.Ytedcncpkikdldaa.S
