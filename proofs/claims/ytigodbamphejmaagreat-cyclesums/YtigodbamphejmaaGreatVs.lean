/- Rows of pairs of numbers; package cycle: Pairs. -/
import Derived.Test.YtigodbamphejmaaGreatV5
namespace Go.Proofs.YtigodbamphejmaaGreat.S
open Go.RowKit Go.WideMaps Go.Maps

/-- A row of pairs. -/
def encP (x : Int × Int) : List Value := [.int .i64 (x.1), .int .i64 (x.2)]
def rowP (L : List (Int × Int)) : List Value := L.flatMap encP
theorem rowP_cons (x : Int × Int) (L : List (Int × Int)) : rowP (x :: L) = encP x ++ rowP L := rfl
theorem rowP_append (L M : List (Int × Int)) : rowP (L ++ M) = rowP L ++ rowP M := by simp [rowP]
theorem rowP_length : ∀ L : List (Int × Int), (rowP L).length = L.length * 2
  | [] => rfl
  | x :: L => by rw [rowP_cons, List.length_append, rowP_length L]; simp [encP]; omega
theorem rowP_one : ∀ (L : List (Int × Int)), ∀ u ∈ rowP L, u.oneCell' = true
  | [], u, h => by simp [rowP] at h
  | x :: L, u, h => by
    rw [rowP_cons, List.mem_append] at h
    rcases h with h | h
    · simp [encP] at h
      rcases h with rfl | rfl <;> rfl
    · exact rowP_one L u h
theorem rowP_at : ∀ (L : List (Int × Int)) (i : Nat) (x : Int × Int), L[i]? = some x → (rowP L)[i * 2]? = some (.int .i64 (x.1)) ∧ (rowP L)[i * 2 + 1]? = some (.int .i64 (x.2))
  | [], i, x, h => by simp at h
  | y :: L, 0, x, h => by
    simp at h; subst h
    simp [rowP_cons, encP]
  | y :: L, i + 1, x, h => by
    simp at h
    have := rowP_at L i x h
    rw [rowP_cons]
    have e1 : (i + 1) * 2 = (i * 2) + 2 := by omega
    rw [e1]
    simpa [encP] using this

def OwnsP (w : World) (B : Nat) (v : Value) (L : List (Int × Int)) : Prop := w.ownsRow B 41 2 v L.length (rowP L)

theorem OwnsP.below {w w' : World} {B : Nat} {v : Value} {L : List (Int × Int)} (h : OwnsP w B v L) (hb : Below w.heap.size w w') : OwnsP w' B v L := World.ownsRow.kept h (grown_below hb) (Classical.em _)

theorem OwnsP.shape {w : World} {B : Nat} {v : Value} {L : List (Int × Int)} (h : OwnsP w B v L) : ∃ a cap, v = .slice a L.length cap ∧ (0 < L.length → ∃ g, a = some ⟨g, 0, none⟩ ∧ ∀ j x, L[j]? = some x → w.cell? ⟨g, j * 2, none⟩ = some (.int .i64 (x.1)) ∧ w.cell? ⟨g, j * 2 + 1, none⟩ = some (.int .i64 (x.2))) := by
  have h0 := h
  unfold OwnsP at h0
  rcases h.2 with ⟨rfl, hz⟩ | ⟨g, cap, cur, rfl, hb, hg, _⟩
  · exact ⟨none, 0, by rw [hz], fun k => by omega⟩
  · refine ⟨_, cap, rfl, fun _ => ⟨g, rfl, fun j x hx => ?_⟩⟩
    obtain ⟨r0, r1⟩ := rowP_at L j x hx
    have hj := (List.getElem?_eq_some_iff.1 hx).1
    have hl := rowP_length L
    refine ⟨?_, ?_⟩
    · rw [h0.cellAt (j * 2) (by omega)]
      exact r0
    · rw [h0.cellAt (j * 2 + 1) (by omega)]
      exact r1

def zP : Value := .agg #[.int .i64 0, .int .i64 0]
theorem info35q : ∃ i, Tryz.prog.info? 41 = some i ∧ i.size = 2 ∧ i.bytes = 16 ∧ i.zero = some zP :=
  ⟨(Tryz.prog.info? 41).get (by kernel_rfl), by kernel_rfl, by kernel_rfl, by kernel_rfl, by kernel_rfl⟩
theorem zP_cells : zP.cells = #[.int .i64 0, .int .i64 0] := by kernel_rfl

theorem pair_cells (W : World) (x y : Int) (j : Nat) (u : Value) (h : (rowP [(x, y)])[j]? = some u) : (W.alloc (.cells #[.int .i64 x, .int .i64 y] 41)).cell? ((⟨W.heap.size, 0, none⟩ : Addr).add j) = some u := by
  rw [G.addr0_add]
  have hh := heap_alloc_new W (.cells #[.int .i64 x, .int .i64 y] 41)
  simp only [World.cell?, hh]
  simpa [rowP, encP] using h

theorem OwnsP.mono {w : World} {B B' : Nat} {v : Value} {L : List (Int × Int)} (h : OwnsP w B v L) (hB : B' ≤ B) : OwnsP w B' v L := by
  refine ⟨h.1, ?_⟩
  rcases h.2 with hh | ⟨g, cap, cur, h1, h2, h3, h4⟩
  · exact Or.inl hh
  · exact Or.inr ⟨g, cap, cur, h1, by omega, h3, h4⟩

theorem append_P (ty : TypeId) (w : World) (B : Nat) (v : Value) (L M : List (Int × Int)) (h : OwnsP w B v L) (hB : B ≤ w.heap.size) (a : Addr) (m c : Nat) (hm : m = M.length) (hM : ∀ j u, (rowP M)[j]? = some u → w.cell? (a.add j) = some u) (hl : L.length + M.length ≤ 1000000) :
    ∃ v' w', (Builtin.append_ #[22, 22] ty #[v, .slice (some a) m c]).run Tryz.prog w = .ok v' w' ∧ OwnsP w' B v' (L ++ M) ∧ w.grownBy w' v.ownBlock ∧ G.Fresh w v v' := by
  subst hm
  obtain ⟨i, hi, hs, hb, hz⟩ := info35q
  have own : ∀ B', OwnsP w B' v L → B' ≤ w.heap.size → ∃ v' w', (Builtin.append_ #[22, 22] ty #[v, .slice (some a) M.length c]).run Tryz.prog w = .ok v' w' ∧ OwnsP w' B' v' (L ++ M) ∧ w.grownBy w' v.ownBlock := by
    intro B' h' hB'
    obtain ⟨v', w', h1, h2, h3, _⟩ := run_append_own (P := Tryz.prog) w B' 22 ty 41 i zP 2 16 Tryz.underlying22 hi hz hs hb (by rw [zP_cells]; rfl) (by omega) v L.length (rowP L) h' a M.length c (rowP M) (rowP_length M) hM (rowP_one M) (by simp only [maxLen]; omega) (by omega) hB'
    refine ⟨v', w', h1, ?_, h3⟩
    show w'.ownsRow B' 41 2 v' (L ++ M).length (rowP (L ++ M))
    rw [List.length_append, rowP_append]
    exact h2
  rcases h.2 with ⟨rfl, h0⟩ | ⟨g, cap, cur, rfl, h1, h2, h3, h4, h5, h6⟩
  · have hL : L = [] := List.eq_nil_of_length_eq_zero h0
    subst hL
    obtain ⟨v', w', e1, e2, e3⟩ := own w.heap.size (World.ownsRow_nil w _ 41 2) (Nat.le_refl _)
    exact ⟨v', w', e1, e2.mono hB, e3, fun k hk => Or.inr (World.ownsRow.lt e2 k hk).1⟩
  · obtain ⟨v', w', e1, e2, e3⟩ := own B h hB
    refine ⟨v', w', e1, e2, e3, ?_⟩
    by_cases hroom : L.length + M.length ≤ cap
    · have hr := run_append_room (P := Tryz.prog) w 22 ty 41 i Tryz.underlying22 hi g L.length cap cur h2 a M.length c (rowP M) (by rw [hs]; exact rowP_length M) hM (rowP_one M) hroom (by rw [hs, h5, rowP_length]; omega)
      rw [hr] at e1
      injection e1 with e1 _
      subst e1
      intro k hk
      exact Or.inl hk
    · have hr := run_append_grow (P := Tryz.prog) w 22 ty 41 i zP Tryz.underlying22 hi hz ⟨g, 0, none⟩ L.length cap (rowP L) (by rw [hs]; exact rowP_length L) (World.ownsRow.cells h rfl) a M.length c (rowP M) (by rw [hs]; exact rowP_length M) hM (by omega) (by omega) (growslice_fits (by omega) (by rw [hb]; omega))
      rw [hr] at e1
      injection e1 with e1 _
      subst e1
      intro k hk
      have hk' : w.heap.size = k := by simpa [Value.ownBlock] using hk
      exact Or.inr (by omega)

/-- One pair more, and where its row lies. -/
theorem more_pair (ty : TypeId) (W : World) (B : Nat) (u : Value) (M : List (Int × Int)) (x y : Int) (h : OwnsP W B u M) (hB : B ≤ W.heap.size) (hl : M.length ≤ 10000) :
    ∃ v' w', (Builtin.append_ #[22, 22] ty #[u, .slice (some ⟨W.heap.size, 0, none⟩) 1 1]).run Tryz.prog (W.alloc (.cells #[.int .i64 x, .int .i64 y] 41)) = .ok v' w' ∧ OwnsP w' B v' (M ++ [(x, y)]) ∧ W.grownBy w' u.ownBlock ∧ G.Fresh W u v' := by
  have hbx : Below W.heap.size W (W.alloc (.cells #[.int .i64 x, .int .i64 y] 41)) := (Below.refl _ _).alloc (Nat.le_refl _) _
  obtain ⟨v', w', h1, h2, h3, h4⟩ := append_P ty _ B u M [(x, y)] (h.below hbx) (Nat.le_trans hB (by simp)) ⟨W.heap.size, 0, none⟩ 1 1 rfl (pair_cells W x y) (by simp; omega)
  refine ⟨v', w', h1, h2, ⟨h3.os.trans hbx.os, h3.tape.trans hbx.tape, h3.output.trans hbx.output, Nat.le_trans hbx.size h3.size, fun k hk hn => (h3.block k (Nat.lt_of_lt_of_le hk hbx.size) hn).trans (hbx.block k hk)⟩, fun k hk => ?_⟩
  rcases h4 k hk with h5 | h5
  · exact Or.inl h5
  · exact Or.inr (Nat.le_trans (by simp) h5)


/-- Two each of a list, the first one ahead, of which something is so. -/
def pairsOf : List Edg → (Edg → Edg → Bool) → List (Int × Int)
  | [], _ => []
  | e :: R, q => ((R.filter (q e)).map fun d => (e.1, d.1)) ++ pairsOf R q

theorem pairsOf_filter (p : Edg → Bool) (q : Edg → Edg → Bool) : ∀ R, pairsOf (R.filter p) q = pairsOf R fun e d => p e && p d && q e d
  | [] => rfl
  | e :: R => by
    have ih := pairsOf_filter p q R
    rw [List.filter_cons]
    cases hp : p e with
    | true =>
      simp only [if_true, pairsOf, ih, hp, List.filter_filter, Bool.true_and]
      congr 2
      apply List.filter_congr
      intro d _
      cases p d <;> simp
    | false =>
      simp only [Bool.false_eq_true, if_false, pairsOf, ih, hp, Bool.false_and]
      simp

theorem pairsOf_congr {q q' : Edg → Edg → Bool} : ∀ {R : List Edg}, (∀ e ∈ R, ∀ d ∈ R, q e d = q' e d) → pairsOf R q = pairsOf R q'
  | [], _ => rfl
  | e :: R, h => by
    simp only [pairsOf]
    rw [pairsOf_congr (fun a ha b hb => h a (by simp [ha]) b (by simp [hb]))]
    congr 2
    apply List.filter_congr
    intro d hd
    exact h e (by simp) d (by simp [hd])

theorem pairsOf_len (q : Edg → Edg → Bool) : ∀ R : List Edg, (pairsOf R q).length ≤ R.length * R.length
  | [] => by simp [pairsOf]
  | e :: R => by
    have ih := pairsOf_len q R
    have h1 := List.length_filter_le (q e) R
    have h3 : (R.length + 1) * (R.length + 1) = R.length * R.length + 2 * R.length + 1 := by
      rw [Nat.add_mul, Nat.mul_add]; omega
    simp only [pairsOf, List.length_append, List.length_map, List.length_cons]
    omega

end Go.Proofs.YtigodbamphejmaaGreat.S
