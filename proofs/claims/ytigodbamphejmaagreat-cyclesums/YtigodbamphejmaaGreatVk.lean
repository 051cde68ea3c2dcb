/- Package cycle: the map from edges' numbers to rings; Of, the first loop. -/
import Derived.Test.YtigodbamphejmaaGreatVj
import Derived.Test.YtigodbamphejmaaGreatBb
import Derived.Test.YtigodbamphejmaaGreatB1
namespace Go.Proofs.YtigodbamphejmaaGreat.S
open Go.RowKit Go.WideMaps Go.Maps

/-- How rings read. -/
def ringL : List Value → Option (DataW Unit × List MemPlace)
  | [.int .u64 a, .int .u64 b] => some (.agg [.lit (.int .u64 a), .lit (.int .u64 b)], [])
  | _ => none
def ringR : Value → Option (DataW Unit × List MemPlace)
  | .agg cs => ringL cs.toList
  | _ => none
def ringV (x : Nat) : Value := .agg #[.int .u64 (x : Int), .int .u64 0]
def ringD (x : Nat) : DataW Unit := .agg [.lit (.int .u64 (x : Int)), .lit (.int .u64 0)]
theorem ringR_mk (x : Nat) : ringR (ringV x) = some (ringD x, []) := rfl
theorem ringD_inj {x y : Nat} (h : ringD x = ringD y) : x = y := by
  simp [ringD] at h
  omega
theorem ringL_inv {l : List Value} {y : DataW Unit × List MemPlace} (h : ringL l = some y) : ∃ a b : Int, l = [.int .u64 a, .int .u64 b] ∧ y = (.agg [.lit (.int .u64 a), .lit (.int .u64 b)], []) := by
  unfold ringL at h
  split at h
  · next a b => cases h; exact ⟨a, b, rfl, rfl⟩
  · cases h
theorem ringR_inv {v : Value} {y : DataW Unit × List MemPlace} (h : ringR v = some y) : ∃ c : Int × Int, v = .agg #[.int .u64 c.1, .int .u64 c.2] ∧ y = (.agg [.lit (.int .u64 c.1), .lit (.int .u64 c.2)], []) := by
  unfold ringR at h
  split at h
  · next cs =>
    obtain ⟨a, b, h1, h2⟩ := ringL_inv h
    exact ⟨(a, b), by rw [← Array.toArray_toList (xs := cs), h1], h2⟩
  · cases h

/-- The map has of these edges, by their numbers, these rings. -/
structure Rm (D : DataW Unit) (S : List Edg) (f : Edg → Nat) : Prop where
  key : ∀ kl, Maps.has D kl = true ↔ ∃ e ∈ S, kl = .int .i64 e.1
  val : ∀ e ∈ S, ∀ zd, D.atKey (.int .i64 e.1) zd = ringD (f e)
  tidy : Tidy D

theorem Rm.start (f : Edg → Nat) : Rm (.map []) [] f := ⟨fun kl => by simp [Maps.has], fun e he => by simp at he, tidy_empty⟩

theorem Rm.put {D : DataW Unit} {S : List Edg} {f : Edg → Nat} (h : Rm D S f) (e : Edg) (hn : ∀ d ∈ S, d.1 ≠ e.1) : Rm (D.put (.int .i64 e.1) (ringD (f e))) (S ++ [e]) f := by
  refine ⟨fun kl => ?_, fun d hd zd => ?_, h.tidy.put (isKeyLit _) _⟩
  · by_cases hx : kl = .int .i64 e.1
    · rw [hx, has_put_same h.tidy.isMap (isKeyLit _)]
      exact ⟨fun _ => ⟨e, by simp, rfl⟩, fun _ => rfl⟩
    · rw [has_put_other hx, h.key]
      constructor
      · rintro ⟨d, hd, k⟩; exact ⟨d, by simp [hd], k⟩
      · rintro ⟨d, hd, k⟩
        rcases List.mem_append.1 hd with hd | hd
        · exact ⟨d, hd, k⟩
        · rw [List.mem_singleton.1 hd] at k; exact absurd k hx
  · rcases List.mem_append.1 hd with hd | hd
    · rw [atKey_put_other (by have := hn d hd; simpa using this)]
      exact h.val d hd zd
    · rw [List.mem_singleton.1 hd, atKey_put_same h.tidy.isMap (isKeyLit _)]

/-- The Cover value while it is made: its struct at block c, its map at block mb. -/
structure Cv (w0 w : World) (c mb rest : Nat) (S : List Edg) (f : Edg → Nat) : Prop where
  st : ∃ v, w.heap[c]? = some (.cells #[.int .i64 (rest : Int), .map (some mb), v] 63)
  mp : ∃ D N, w.ownsMap Tryz.prog 3 ringR mb N D ∧ Rm D S f ∧ N = S.length
  ne : c ≠ mb
  lc : w0.heap.size ≤ c
  lm : w0.heap.size ≤ mb
  below : Below w0.heap.size w0 w

section
variable {w0 w w' : World} {c mb rest : Nat} {S : List Edg} {f : Edg → Nat}
theorem Cv.below' (h : Cv w0 w c mb rest S f) (hb : Below w.heap.size w w') : Cv w0 w' c mb rest S f := by
  obtain ⟨v, hv⟩ := h.st
  obtain ⟨D, N, h1, h2, h3⟩ := h.mp
  exact { h with st := ⟨v, (hb.block c (lt_of_some hv)).trans hv⟩, mp := ⟨D, N, h1.kept (grown_below hb) (by simp), h2, h3⟩, below := h.below.trans (hb.mono h.below.size) }

theorem Cv.cell1 (h : Cv w0 w c mb rest S f) : w.cell? ⟨c, 1, none⟩ = some (.map (some mb)) := by
  obtain ⟨v, hv⟩ := h.st
  simp [World.cell?, hv]

/-- One edge more: the map's update. -/
theorem Cv.more (h : Cv w0 w c mb rest S f) (e : Edg) (hn : ∀ d ∈ S, d.1 ≠ e.1) (hw : (Lit.int .i64 e.1).wf = true) (hl : S.length ≤ 1000) :
    ∃ w2, (Instr.mapUpdate 60 (.map (some mb)) (.int .i64 e.1) (ringV (f e))).run Tryz.prog w = .ok () w2 ∧ Cv w0 w2 c mb rest (S ++ [e]) f ∧ w.grownBy w2 (some mb) := by
  obtain ⟨v, hv⟩ := h.st
  obtain ⟨D, N, h1, h2, h3⟩ := h.mp
  obtain ⟨w2, r, ho, hg⟩ := h1.update law3 Tryz.underlying60 (by unfold maxLen; omega) (key3 e.1 hw) (ringR_mk (f e))
  refine ⟨w2, r, { h with st := ⟨v, (hg.block c (lt_of_some hv) (by simp; exact h.ne)).trans hv⟩, mp := ⟨_, _, ho, h2.put e hn, by simp [h3]⟩, below := h.below.grown hg h.below.size (fun j hj => by injection hj with hj; have := h.lm; omega) }, hg⟩
end

end Go.Proofs.YtigodbamphejmaaGreat.S
