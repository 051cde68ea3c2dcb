/- Words on memory: the Bridges value: its struct, its two Sets, its map of bridges. -/
import Derived.Test.YtebcjaenhiiflaaGreatDoorBM
import Derived.Test.YtebcjaenhiiflaaGreatDoorSST
import Derived.Test.YtebcjaenhiiflaaGreatDoorBIt
import Derived.Maps.RangeWalk
import Derived.Maps.OwnSet
import Derived.Maps.OwnOps
namespace Go.Proofs.YtebcjaenhiiflaaGreatDoor.S
open Go.RowKit Go.WideMaps Go.Maps

/-- How a pair's cells read. -/
def pairL : List Value → Option (DataW Unit × List MemPlace)
  | [.int .i64 a, .int .i64 b] => some (.agg [.lit (.int .i64 a), .lit (.int .i64 b)], [])
  | _ => none
/-- How a pair's value reads. -/
def pairR : Value → Option (DataW Unit × List MemPlace)
  | .agg cs => pairL cs.toList
  | _ => none

def pairV (a b : Int) : Value := .agg #[.int .i64 a, .int .i64 b]
def pairD (a b : Int) : DataW Unit := .agg [.lit (.int .i64 a), .lit (.int .i64 b)]

theorem pairR_mk (a b : Int) : pairR (pairV a b) = some (pairD a b, []) := rfl
theorem pairL_inv {l : List Value} {y : DataW Unit × List MemPlace} (h : pairL l = some y) : ∃ a b : Int, l = [.int .i64 a, .int .i64 b] ∧ y = (pairD a b, []) := by
  unfold pairL at h
  split at h
  · next a b => cases h; exact ⟨a, b, rfl, rfl⟩
  · cases h
theorem pairR_inv {v : Value} {y : DataW Unit × List MemPlace} (h : pairR v = some y) : ∃ c : Int × Int, v = pairV c.1 c.2 ∧ y = (pairD c.1 c.2, []) := by
  unfold pairR at h
  split at h
  · next cs =>
    obtain ⟨a, b, h1, h2⟩ := pairL_inv h
    exact ⟨(a, b), by rw [pairV, ← Array.toArray_toList (xs := cs), h1], h2⟩
  · cases h
theorem pairD_inj {a b c d : Int} (h : pairD a b = pairD c d) : a = c ∧ b = d := by
  simpa [pairD] using h

/-- The map holds these edges, by their numbers. -/
structure Dis (D : DataW Unit) (B : List (Int × Int × Int)) : Prop where
  key : ∀ x : Int, Maps.has D (.int .i64 x) = true ↔ ∃ e ∈ B, e.1 = x
  val : ∀ e ∈ B, ∀ zd, D.atKey (.int .i64 e.1) zd = pairD e.2.1 e.2.2

theorem key3 (x : Int) (h : (Lit.int .i64 x).wf = true) : keyOf Tryz.prog 3 (.int .i64 x) = some (.int .i64 x) := keyOf_int_mk Tryz.underlying3 h

theorem isKeyLit (x : Int) : WideAt.IsKeyLit (.int .i64 x) := trivial

theorem Dis.put {D : DataW Unit} {B : List (Int × Int × Int)} (h : Dis D B) (hD : IsMap D) (f : Int × Int × Int) (hn : ∀ e ∈ B, e.1 ≠ f.1) : Dis (D.put (.int .i64 f.1) (pairD f.2.1 f.2.2)) (B ++ [f]) := by
  refine ⟨fun x => ?_, fun e he zd => ?_⟩
  · by_cases hx : x = f.1
    · subst hx
      rw [has_put_same hD (isKeyLit _)]
      exact ⟨fun _ => ⟨f, by simp, rfl⟩, fun _ => rfl⟩
    · rw [has_put_other (by simpa using hx), h.key]
      constructor
      · rintro ⟨e, he, k⟩; exact ⟨e, by simp [he], k⟩
      · rintro ⟨e, he, k⟩
        rcases List.mem_append.1 he with he | he
        · exact ⟨e, he, k⟩
        · rw [List.mem_singleton.1 he] at k; exact absurd k.symm hx
  · rcases List.mem_append.1 he with he | he
    · rw [atKey_put_other (by simpa using hn e he)]; exact h.val e he zd
    · rw [List.mem_singleton.1 he, atKey_put_same hD (isKeyLit _)]

theorem Dis.del {D : DataW Unit} {B B' : List (Int × Int × Int)} (h : Dis D B) (f : Int × Int × Int) (hone : ∀ e ∈ B, e.1 = f.1 → e = f) (hB : ∀ e, e ∈ B' ↔ e ∈ B ∧ e ≠ f) : Dis (D.del (.int .i64 f.1)) B' := by
  refine ⟨fun x => ?_, fun e he zd => ?_⟩
  · by_cases hx : x = f.1
    · subst hx
      rw [has_del_same]
      refine ⟨fun k => by simp at k, ?_⟩
      rintro ⟨e, he, k⟩
      exact absurd (hone e ((hB e).1 he).1 k) ((hB e).1 he).2
    · rw [has_del_other (by simpa using hx), h.key]
      constructor
      · rintro ⟨e, he, k⟩; exact ⟨e, (hB e).2 ⟨he, fun c => hx (by rw [← k, c])⟩, k⟩
      · rintro ⟨e, he, k⟩; exact ⟨e, ((hB e).1 he).1, k⟩
  · have h1 := (hB e).1 he
    rw [atKey_del_other (by
      intro c
      have : e.1 = f.1 := by simpa using c
      exact h1.2 (hone e h1.1 this))]
    exact h.val e h1.1 zd

theorem Dis.empty : Dis (.map []) [] := ⟨fun x => by simp [Maps.has], fun e he => by simp at he⟩

/-- The Bridges value. -/
structure BAt (w : World) (p pw bw pt bt m N : Nat) (W T : List Nat) (D : DataW Unit) : Prop where
  hp : w.heap[p]? = some (.cells #[.pointer (some ⟨pw, 0, none⟩), .pointer (some ⟨pt, 0, none⟩), .map (some m)] 178)
  sw : SetsAt w pw bw W
  st : SetsAt w pt bt T
  hm : w.ownsMap Tryz.prog 3 pairR m N D
  pp : pw ≠ pt
  bb : bw ≠ bt

namespace BAt
variable {w w' : World} {p pw bw pt bt m N : Nat} {W T : List Nat} {D : DataW Unit}

theorem c0 (h : BAt w p pw bw pt bt m N W T D) : w.cell? ⟨p, 0, none⟩ = some (.pointer (some ⟨pw, 0, none⟩)) := by simp [World.cell?, h.hp]
theorem c1 (h : BAt w p pw bw pt bt m N W T D) : w.cell? ⟨p, 1, none⟩ = some (.pointer (some ⟨pt, 0, none⟩)) := by simp [World.cell?, h.hp]
theorem c2 (h : BAt w p pw bw pt bt m N W T D) : w.cell? ⟨p, 2, none⟩ = some (.map (some m)) := by simp [World.cell?, h.hp]
theorem plt (h : BAt w p pw bw pt bt m N W T D) : p < w.heap.size := lt_of_some h.hp

theorem below (h : BAt w p pw bw pt bt m N W T D) (hb : Below w.heap.size w w') : BAt w' p pw bw pt bt m N W T D :=
  ⟨by rw [hb.block p h.plt]; exact h.hp, h.sw.below hb h.sw.plt h.sw.blt, h.st.below hb h.st.plt h.st.blt, h.hm.kept (row := none) ⟨hb.os, hb.tape, hb.output, hb.size, fun k hk _ => hb.block k hk⟩ (by simp), h.pp, h.bb⟩
theorem drewN (h : BAt w p pw bw pt bt m N W T D) (n : Nat) : BAt (w.drewN n) p pw bw pt bt m N W T D := ⟨h.hp, sets_drewN h.sw n, sets_drewN h.st n, h.hm, h.pp, h.bb⟩
theorem drew (h : BAt w p pw bw pt bt m N W T D) : BAt w.drew p pw bw pt bt m N W T D := ⟨h.hp, sets_drew h.sw, sets_drew h.st, h.hm, h.pp, h.bb⟩

theorem mobj (h : BAt w p pw bw pt bt m N W T D) : ∃ es c, w.heap[m]? = some (.map es c) := by
  obtain ⟨es, c, hb, _⟩ := h.hm; exact ⟨es, c, hb⟩
theorem m_ne (h : BAt w p pw bw pt bt m N W T D) : m ≠ p ∧ m ≠ pw ∧ m ≠ bw ∧ m ≠ pt ∧ m ≠ bt := by
  obtain ⟨es, c, hb⟩ := h.mobj
  refine ⟨?_, ?_, ?_, ?_, ?_⟩ <;> rintro rfl
  · rw [h.hp] at hb; simp at hb
  · rw [h.sw.hp] at hb; simp at hb
  · rw [h.sw.hb] at hb; simp at hb
  · rw [h.st.hp] at hb; simp at hb
  · rw [h.st.hb] at hb; simp at hb
theorem p_ne (h : BAt w p pw bw pt bt m N W T D) : p ≠ pw ∧ p ≠ bw ∧ p ≠ pt ∧ p ≠ bt := by
  refine ⟨?_, ?_, ?_, ?_⟩ <;> rintro rfl
  · have := h.hp.symm.trans h.sw.hp; simp at this
  · have := h.hp.symm.trans h.sw.hb; simp at this
  · have := h.hp.symm.trans h.st.hp; simp at this
  · have := h.hp.symm.trans h.st.hb; simp at this
theorem s_ne (h : BAt w p pw bw pt bt m N W T D) : pw ≠ bt ∧ pt ≠ bw := by
  refine ⟨?_, ?_⟩ <;> rintro rfl
  · have := h.sw.hp.symm.trans h.st.hb; simp at this
  · have := h.st.hp.symm.trans h.sw.hb; simp at this

/-- A join of the parts that are held together. -/
theorem joinW {W' : List Nat} (h : BAt w p pw bw pt bt m N W T D) (hs : SetsAt w' pw bw W') (k : But bw w w') : BAt w' p pw bw pt bt m N W' T D := by
  refine ⟨by rw [k.block p h.plt h.p_ne.2.1]; exact h.hp, hs, ⟨?_, ?_⟩, h.hm.kept (row := some bw) ⟨k.os, k.tape, k.output, k.size, fun i hi hn => k.block i hi (fun e => hn (by rw [e]))⟩ (by simpa using h.m_ne.2.2.1), h.pp, h.bb⟩
  · rw [k.block pt h.st.plt h.s_ne.2]; exact h.st.hp
  · rw [k.block bt h.st.blt (Ne.symm h.bb)]; exact h.st.hb

/-- A join of the parts that no one edge parts. -/
theorem joinT {T' : List Nat} (h : BAt w p pw bw pt bt m N W T D) (hs : SetsAt w' pt bt T') (k : But bt w w') : BAt w' p pw bw pt bt m N W T' D := by
  refine ⟨by rw [k.block p h.plt h.p_ne.2.2.2]; exact h.hp, ⟨?_, ?_⟩, hs, h.hm.kept (row := some bt) ⟨k.os, k.tape, k.output, k.size, fun i hi hn => k.block i hi (fun e => hn (by rw [e]))⟩ (by simpa using h.m_ne.2.2.2.2), h.pp, h.bb⟩
  · rw [k.block pw h.sw.plt h.s_ne.1]; exact h.sw.hp
  · rw [k.block bw h.sw.blt h.bb]; exact h.sw.hb

/-- The map is written. -/
theorem mapped {D' : DataW Unit} {N' : Nat} (h : BAt w p pw bw pt bt m N W T D) (hm : w'.ownsMap Tryz.prog 3 pairR m N' D') (k : w.grownBy w' (some m)) : BAt w' p pw bw pt bt m N' W T D' := by
  obtain ⟨n1, n2, n3, n4, n5⟩ := h.m_ne
  have hk : ∀ i, i < w.heap.size → m ≠ i → w'.heap[i]? = w.heap[i]? := fun i hi hn => k.block i hi (fun e => hn (by injection e with e; exact e.symm))
  exact ⟨by rw [hk p h.plt n1]; exact h.hp, ⟨by rw [hk pw h.sw.plt n2]; exact h.sw.hp, by rw [hk bw h.sw.blt n3]; exact h.sw.hb⟩, ⟨by rw [hk pt h.st.plt n4]; exact h.st.hp, by rw [hk bt h.st.blt n5]; exact h.st.hb⟩, hm, h.pp, h.bb⟩

end BAt

end Go.Proofs.YtebcjaenhiiflaaGreatDoor.S
