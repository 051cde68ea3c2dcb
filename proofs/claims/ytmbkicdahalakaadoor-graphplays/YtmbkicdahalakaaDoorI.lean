/- append over rows of edges: which row comes out. -/
import Derived.Test.YtmbkicdahalakaaDoorH
namespace Go.Proofs.YtmbkicdahalakaaDoor
open Go.RowKit

/-- The zero edge's value. -/
def zE : Value := .agg #[.int .i64 0, .int .i64 0, .int .i64 0]

theorem info59 : ∃ i, Tryd.prog.info? 59 = some i ∧ i.size = 3 ∧ i.bytes = 24 ∧ i.zero = some zE :=
  ⟨(Tryd.prog.info? 59).get (by kernel_rfl), by kernel_rfl, by kernel_rfl, by kernel_rfl, by kernel_rfl⟩

theorem zE_cells : zE.cells = #[.int .i64 0, .int .i64 0, .int .i64 0] := by kernel_rfl

theorem append_E (ty : TypeId) (w : World) (B : Nat) (v : Value) (L M : List E) (h : Owns w B 59 v L) (hB : B ≤ w.heap.size) (a : Addr) (m c : Nat) (hm : m = M.length) (hM : ∀ j u, (rowV M)[j]? = some u → w.cell? (a.add j) = some u) (hl : L.length + M.length ≤ 100000) :
    ∃ v' w', (Builtin.append_ #[49, 49] ty #[v, .slice (some a) m c]).run Tryd.prog w = .ok v' w' ∧ Owns w' B 59 v' (L ++ M) ∧ w.grownBy w' v.ownBlock ∧ Fresh w v v' := by
  subst hm
  obtain ⟨i, hi, hs, hb, hz⟩ := info59
  have own : ∀ B', Owns w B' 59 v L → B' ≤ w.heap.size → ∃ v' w', (Builtin.append_ #[49, 49] ty #[v, .slice (some a) M.length c]).run Tryd.prog w = .ok v' w' ∧ Owns w' B' 59 v' (L ++ M) ∧ w.grownBy w' v.ownBlock := by
    intro B' h' hB'
    obtain ⟨v', w', h1, h2, h3, _⟩ := run_append_own (P := Tryd.prog) w B' 49 ty 59 i zE 3 24 Tryd.underlying49 hi hz hs hb (by rw [zE_cells]; rfl) (by omega) v L.length (rowV L) h' a M.length c (rowV M) (rowV_length M) hM (rowV_one M) (by simp only [maxLen]; omega) (by omega) hB'
    refine ⟨v', w', h1, ?_, h3⟩
    show w'.ownsRow B' 59 3 v' (L ++ M).length (rowV (L ++ M))
    rw [List.length_append, rowV_append]
    exact h2
  rcases h.2 with ⟨rfl, h0⟩ | ⟨g, cap, cur, rfl, h1, h2, h3, h4, h5, h6⟩
  · have hL : L = [] := List.eq_nil_of_length_eq_zero h0
    subst hL
    obtain ⟨v', w', e1, e2, e3⟩ := own w.heap.size (World.ownsRow_nil w _ 59 3) (Nat.le_refl _)
    exact ⟨v', w', e1, e2.mono hB, e3, fun k hk => Or.inr (World.ownsRow.lt e2 k hk).1⟩
  · obtain ⟨v', w', e1, e2, e3⟩ := own B h hB
    refine ⟨v', w', e1, e2, e3, ?_⟩
    by_cases hroom : L.length + M.length ≤ cap
    · have hr := run_append_room (P := Tryd.prog) w 49 ty 59 i Tryd.underlying49 hi g L.length cap cur h2 a M.length c (rowV M) (by rw [hs]; exact rowV_length M) hM (rowV_one M) hroom (by rw [hs, h5, rowV_length]; omega)
      rw [hr] at e1
      injection e1 with e1 _
      subst e1
      intro k hk
      exact Or.inl hk
    · have hr := run_append_grow (P := Tryd.prog) w 49 ty 59 i zE Tryd.underlying49 hi hz ⟨g, 0, none⟩ L.length cap (rowV L) (by rw [hs]; exact rowV_length L) (World.ownsRow.cells h rfl) a M.length c (rowV M) (by rw [hs]; exact rowV_length M) hM (by omega) (by omega) (growslice_fits (by omega) (by rw [hb]; omega))
      rw [hr] at e1
      injection e1 with e1 _
      subst e1
      intro k hk
      have hk' : w.heap.size = k := by simpa [Value.ownBlock] using hk
      exact Or.inr (by omega)

/-- The operation append for the walk, where its run is known by an equation. -/
theorem step_append_runK {P : Program} {ops : Array Oper} {o : Oper} {a : Act} {w : World} {K : Act → World → Prop} {Q : Exit → Act → World → Prop} {E : Prop}
    (hg : o.guard = none) (d x : Operand) (dT sT : TypeId) (hop : o.op = Op.call { callee := Callee.builtin Builtin.append, args := #[d, x], argTypes := #[dT, sT] })
    (v u : Value) (hd : a.eval d = v) (hx : a.eval x = u) {v' : Value} {w' : World} (hr : (Builtin.append_ #[dT, sT] o.type #[v, u]).run P w = .ok v' w') (hK : K (a.put o.dst v') w') :
    if Region.wanted o (yielded ops a.tmps) = true then Oper.wp P o a w K Q else E := by
  have hw : Region.wanted o (yielded ops a.tmps) = true := by simp [Region.wanted, hg]
  rw [if_pos hw]
  unfold Oper.wp
  simp [execOp, hop, resolve, invoke, builtin, hd, hx, hr, Result.andThen]
  exact hK

end Go.Proofs.YtmbkicdahalakaaDoor
