/- A map whose keys are pairs. -/
import Derived.Test.YtigodbamphejmaaGreatOa
import Derived.DeepKeys4
namespace Go.Proofs.YtigodbamphejmaaGreat.S
open Go.RowKit Go.WideMaps Go.Maps

theorem laid31 : laidOutB Tryz.prog = true := by kernel_rfl
theorem row31 : 41 < Tryz.prog.types.size := of_decide_eq_true (by kernel_rfl)
theorem wide31 : (match Tryz.prog.underlying 41 with | some (.array _ _) | some (.struct _) => true | _ => false) = true := by kernel_rfl
set_option maxRecDepth 100000 in
theorem law31 : Keyed Tryz.prog 41 := Keyed.of_law (deep_law_laid laid31 (m := 2) (by omega) row31 (by kernel_rfl) wide31)

theorem kt31 : Tryz.prog.keyType 41 = true := by kernel_rfl
theorem fm31 (p q : Int) : (Value.agg #[.int .i64 p, .int .i64 q]).formed Tryz.prog 41 = true := by kernel_rfl
theorem co31 : Tryz.prog.cellsOf 41 = 2 := by kernel_rfl
theorem co3 : Tryz.prog.cellsOf 3 = 1 := by kernel_rfl
theorem ts : ∃ m, Tryz.prog.types.size = m + 1 := ⟨Tryz.prog.types.size - 1, by have := row31; omega⟩

theorem pair_key_of {P : Program} {k t m : Nat} {f1 f2 : Field} (hu : P.underlying k = some (.struct #[f1, f2])) (h1 : f1.type = t) (h2 : f2.type = t) (o1 : f1.offset = 0) (o2 : f2.offset = 1) (n1 : (f1.name != "_") = true) (n2 : (f2.name != "_") = true) (ht : P.underlying t = some (.int .i64)) (ck : P.cellsOf k = 2) (ct : P.cellsOf t = 1) (hs : P.types.size = m + 1) (hkt : P.keyType k = true)
    {p q : Int} (hf : (Value.agg #[.int .i64 p, .int .i64 q]).formed P k = true) (hp : (Lit.int .i64 p).wf = true) (hq : (Lit.int .i64 q).wf = true) : keyOf P k (.agg #[.int .i64 p, .int .i64 q]) = some (.string (keyBytes [.int .i64 p, .int .i64 q])) := by
  unfold keyOf
  rw [hu]
  simp only [hkt, hf, Bool.and_self, if_true, hs]
  have e1 : ∀ x : Int, (Lit.int .i64 x).wf = true → P.keyLits (m + 1) t [.int .i64 x] = some [.int .i64 x] := fun x hx => by simp [Program.keyLits, ht, hx]
  have : P.keyLits (m + 1 + 1) k (Value.agg #[.int .i64 p, .int .i64 q]).cells.toList = some [.int .i64 p, .int .i64 q] := by
    unfold Program.keyLits
    rw [hu]
    simp [Value.cells, ck, n1, n2, h1, h2, o1, o2, ct, e1 p hp, e1 q hq]
  rw [this]; rfl

theorem pair_key (p q : Int) (hp : (Lit.int .i64 p).wf = true) (hq : (Lit.int .i64 q).wf = true) : keyOf Tryz.prog 41 (.agg #[.int .i64 p, .int .i64 q]) = some (.string (keyBytes [.int .i64 p, .int .i64 q])) := by
  obtain ⟨m, hm⟩ := ts
  exact pair_key_of Tryz.underlying41 rfl rfl rfl rfl rfl rfl Tryz.underlying3 co31 co3 hm kt31 (fm31 p q) hp hq

/-- The key of two blocks. -/
def pk2 (p q : Nat) : Lit := .string (keyBytes [.int .i64 (p : Int), .int .i64 (q : Int)])

theorem pair_key_n (p q : Nat) (hp : p ≤ 1000) (hq : q ≤ 1000) : keyOf Tryz.prog 41 (.agg #[.int .i64 (p : Int), .int .i64 (q : Int)]) = some (pk2 p q) := pair_key p q (wf_small (by omega) (by omega)) (wf_small (by omega) (by omega))

theorem pk2_inj {p q p' q' : Nat} (hp : p ≤ 1000) (hq : q ≤ 1000) (hp' : p' ≤ 1000) (hq' : q' ≤ 1000) (h : pk2 p q = pk2 p' q') : p = p' ∧ q = q' := by
  have := law31.inj (pair_key_n p q hp hq) (h ▸ pair_key_n p' q' hp' hq')
  simp at this
  omega

end Go.Proofs.YtigodbamphejmaaGreat.S
