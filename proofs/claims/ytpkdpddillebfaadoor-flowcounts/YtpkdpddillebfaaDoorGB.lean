/- Words on memory: rows of edges. -/
import Derived.WalkKit
import Derived.WalkSpells
import Derived.WalkLawsBesides
import Derived.Laws.AppendOwn
import Derived.Laws.IdiomCopy
import Derived.Deep.DeepAppendWide
import Derived.Laws.CopyOwn
import Derived.Laws.CopyRow
import Derived.Lib.AppendZerosOnto
import Derived.BigQuiet
import Derived.Sort.AtCall
import Derived.Deep.LoopGhost
import Derived.Laws.Shifts
import Derived.Lib.Overlaps
import Derived.Lib.AppendZeros
import Derived.Deep.RegionLaw
import Derived.Laws.ResultCell
import Derived.Deep.RegionHeld
import Derived.Deep.RegionHeldLaw
import Derived.Test.YtpkdpddillebfaaDoorRows
import Derived.Test.YtpkdpddillebfaaDoorGM
namespace Go.Proofs.YtpkdpddillebfaaDoor.G
open Go.RowKit

/-- An edge's cells. -/
def encE (x : E) : List Value := [.int .i64 x.1, .int .i64 x.2.1, .int .i64 x.2.2]

/-- A row's cells. -/
def rowV (L : List E) : List Value := L.flatMap encE

theorem rowV_cons (x : E) (L : List E) : rowV (x :: L) = encE x ++ rowV L := rfl

theorem rowV_append (L M : List E) : rowV (L ++ M) = rowV L ++ rowV M := by simp [rowV]

theorem rowV_length : ∀ L : List E, (rowV L).length = L.length * 3
  | [] => rfl
  | x :: L => by rw [rowV_cons, List.length_append, rowV_length L]; simp [encE]; omega

theorem rowV_one : ∀ (L : List E), ∀ u ∈ rowV L, u.oneCell' = true
  | [], u, h => by simp [rowV] at h
  | x :: L, u, h => by
    rw [rowV_cons] at h
    rcases List.mem_append.1 h with h | h
    · simp [encE] at h
      rcases h with rfl | rfl | rfl <;> rfl
    · exact rowV_one L u h

theorem rowV_take (L : List E) (k : Nat) : (rowV L).take (k * 3) = rowV (L.take k) := by
  induction L generalizing k with
  | nil => simp [rowV]
  | cons x L ih =>
    rcases k with _ | k
    · simp [rowV]
    · rw [rowV_cons, List.take_succ_cons, rowV_cons, ← ih]
      show (encE x ++ rowV L).take ((k + 1) * 3) = _
      rw [show (k + 1) * 3 = (encE x).length + k * 3 by simp [encE]; omega, List.take_length_add_append]

theorem rowV_drop (L : List E) (k : Nat) : (rowV L).drop (k * 3) = rowV (L.drop k) := by
  induction L generalizing k with
  | nil => simp [rowV]
  | cons x L ih =>
    rcases k with _ | k
    · simp
    · rw [rowV_cons, List.drop_succ_cons, ← ih]
      rw [show (k + 1) * 3 = (encE x).length + k * 3 by simp [encE]; omega, List.drop_length_add_append]

theorem rowV_at (L : List E) (i : Nat) (x : E) (h : L[i]? = some x) : (rowV L)[i * 3]? = some (.int .i64 x.1) ∧ (rowV L)[i * 3 + 1]? = some (.int .i64 x.2.1) ∧ (rowV L)[i * 3 + 2]? = some (.int .i64 x.2.2) := by
  have hd := rowV_drop L i
  obtain ⟨hlt, he⟩ := List.getElem?_eq_some_iff.1 h
  rw [List.drop_eq_getElem_cons hlt, rowV_cons, he] at hd
  have h0 : ∀ j, (rowV L)[i * 3 + j]? = (encE x ++ rowV (L.drop (i + 1)))[j]? := by
    intro j; rw [← hd, List.getElem?_drop]
  exact ⟨by have := h0 0; simpa [encE] using this, by have := h0 1; simpa [encE] using this, by have := h0 2; simpa [encE] using this⟩

theorem lt_of_some {w : World} {k : Nat} {o : Obj} (h : w.heap[k]? = some o) : k < w.heap.size := by
  rcases Nat.lt_or_ge k w.heap.size with h' | h'
  · exact h'
  · simp [Array.getElem?_eq_none h'] at h

theorem lt_of_cell {w : World} {b o : Nat} {v : Value} (h : w.cell? ⟨b, o, none⟩ = some v) : b < w.heap.size := by
  rcases Nat.lt_or_ge b w.heap.size with h' | h'
  · exact h'
  · simp [World.cell?, Array.getElem?_eq_none h'] at h

/-- The row at a block of its own, behind B. -/
abbrev Owns (w : World) (B eT : Nat) (v : Value) (L : List E) : Prop := w.ownsRow B eT 3 v L.length (rowV L)

/-- What a row is: none, or a block. -/
theorem Owns.shape {w : World} {B eT : Nat} {v : Value} {L : List E} (h : Owns w B eT v L) : (v = .slice none 0 0 ∧ L = []) ∨ ∃ g cap, v = .slice (some ⟨g, 0, none⟩) L.length cap ∧ B ≤ g ∧ g < w.heap.size ∧ L.length ≤ cap ∧ cap ≤ maxLen := by
  rcases h.2 with ⟨h1, h2⟩ | ⟨g, cap, cur, h1, h2, h3, h4, h5, _, _⟩
  · exact Or.inl ⟨h1, List.eq_nil_of_length_eq_zero h2⟩
  · exact Or.inr ⟨g, cap, h1, h2, lt_of_some h3, h4, h5⟩

theorem Owns.at {w : World} {B eT g : Nat} {v : Value} {L : List E} (h : Owns w B eT v L) (hg : v.ownBlock = some g) {i : Nat} {x : E} (hx : L[i]? = some x) :
    w.cell? ⟨g, i * 3, none⟩ = some (.int .i64 x.1) ∧ w.cell? ⟨g, i * 3 + 1, none⟩ = some (.int .i64 x.2.1) ∧ w.cell? ⟨g, i * 3 + 2, none⟩ = some (.int .i64 x.2.2) := by
  have hc := World.ownsRow.cells h hg
  obtain ⟨a, b, c⟩ := rowV_at L i x hx
  have hadd : ∀ j, (⟨g, 0, none⟩ : Addr).add j = ⟨g, j, none⟩ := fun j => by unfold Addr.add; split <;> simp_all
  exact ⟨by rw [← hadd]; exact hc _ _ a, by rw [← hadd]; exact hc _ _ b, by rw [← hadd]; exact hc _ _ c⟩

theorem grownBy_of_below {w w' : World} {B : Nat} (h : Below B w w') (hB : w.heap.size ≤ B) (o : Option Nat) : w.grownBy w' o := ⟨h.os, h.tape, h.output, h.size, fun k hk _ => h.block k (by omega)⟩

theorem Owns.below {w w' : World} {B eT : Nat} {v : Value} {L : List E} (h : Owns w B eT v L) (hb : Below w.heap.size w w') : Owns w' B eT v L :=
  World.ownsRow.kept h (grownBy_of_below hb (Nat.le_refl _) none) (by cases hv : v.ownBlock <;> simp)

theorem Owns.mono {w : World} {B B' eT : Nat} {v : Value} {L : List E} (h : Owns w B eT v L) (hB : B' ≤ B) : Owns w B' eT v L := by
  refine ⟨h.1, ?_⟩
  rcases h.2 with h' | ⟨g, cap, cur, h1, h2, h3⟩
  · exact Or.inl h'
  · exact Or.inr ⟨g, cap, cur, h1, Nat.le_trans hB h2, h3⟩

/-- The world is kept, but for block p and the block o. -/
structure Kept (p : Nat) (o : Option Nat) (w w' : World) : Prop where
  os : w'.os = w.os
  tape : w'.tape = w.tape
  output : w'.output = w.output
  size : w.heap.size ≤ w'.heap.size
  block : ∀ k, k < w.heap.size → k ≠ p → some k ≠ o → w'.heap[k]? = w.heap[k]?

theorem Kept.of_below {p : Nat} {o : Option Nat} {w w' : World} (h : Below w.heap.size w w') : Kept p o w w' := ⟨h.os, h.tape, h.output, h.size, fun k hk _ _ => h.block k hk⟩

theorem Kept.of_grown {p : Nat} {o : Option Nat} {w w' : World} (h : w.grownBy w' o) : Kept p o w w' := ⟨h.os, h.tape, h.output, h.size, fun k hk _ hn => h.block k hk hn⟩

theorem Kept.trans {p : Nat} {o : Option Nat} {x y z : World} (h : Kept p o x y) (k : Kept p o y z) : Kept p o x z :=
  ⟨k.os.trans h.os, k.tape.trans h.tape, k.output.trans h.output, Nat.le_trans h.size k.size, fun i hi h1 h2 => (k.block i (Nat.lt_of_lt_of_le hi h.size) h1 h2).trans (h.block i hi h1 h2)⟩

theorem Kept.setCell {p : Nat} {o : Option Nat} {w w' : World} (h : Kept p o w w') (k : Nat) (v : Value) : Kept p o w (w'.setCell ⟨p, k, none⟩ v) :=
  h.trans ⟨rfl, rfl, rfl, by simp, fun i _ hn _ => Below.heap_setCell _ _ _ _ hn⟩

/-- A graph: the struct at block p, its row of its own. -/
structure GAt (w : World) (B gT eT p : Nat) (n : Int) (v : Value) (L : List E) : Prop where
  hp : w.heap[p]? = some (.cells #[.int .i64 n, v] gT)
  row : Owns w B eT v L
  ne : v.ownBlock ≠ some p

theorem GAt.plt {w : World} {B gT eT p : Nat} {n : Int} {v : Value} {L : List E} (h : GAt w B gT eT p n v L) : p < w.heap.size := lt_of_some h.hp

theorem GAt.c0 {w : World} {B gT eT p : Nat} {n : Int} {v : Value} {L : List E} (h : GAt w B gT eT p n v L) : w.cell? ⟨p, 0, none⟩ = some (.int .i64 n) := by simp [World.cell?, h.hp]

theorem GAt.c1 {w : World} {B gT eT p : Nat} {n : Int} {v : Value} {L : List E} (h : GAt w B gT eT p n v L) : w.cell? ⟨p, 1, none⟩ = some v := by simp [World.cell?, h.hp]

theorem GAt.below {w w' : World} {B gT eT p : Nat} {n : Int} {v : Value} {L : List E} (h : GAt w B gT eT p n v L) (hb : Below w.heap.size w w') : GAt w' B gT eT p n v L :=
  ⟨by rw [hb.block p h.plt]; exact h.hp, h.row.below hb, h.ne⟩

theorem GAt.lt {w : World} {B gT eT p k : Nat} {n : Int} {v : Value} {L : List E} (h : GAt w B gT eT p n v L) (hk : v.ownBlock = some k) : B ≤ k ∧ k < w.heap.size := World.ownsRow.lt h.row k hk

/-- Another graph's step leaves this one. -/
theorem GAt.kept {w w' : World} {B gT eT p p' : Nat} {n : Int} {v : Value} {L : List E} {o : Option Nat} (h : GAt w B gT eT p n v L) (k : Kept p' o w w') (hp : p ≠ p') (hpo : some p ≠ o) (hv1 : v.ownBlock ≠ some p') (hv2 : v.ownBlock = none ∨ v.ownBlock ≠ o) : GAt w' B gT eT p n v L := by
  refine ⟨by rw [k.block p h.plt hp hpo]; exact h.hp, ⟨h.row.1, ?_⟩, h.ne⟩
  rcases h.row.2 with hn | ⟨g, cap, cur, rfl, hb, hgg, rest⟩
  · exact .inl hn
  · refine .inr ⟨g, cap, cur, rfl, hb, ?_, rest⟩
    rw [k.block g (lt_of_some hgg) (fun e => hv1 (by simp [Value.ownBlock, e])) (by simpa [Value.ownBlock] using hv2)]
    exact hgg

/-- A new row is laid in. -/
theorem GAt.store {w w' : World} {B gT eT p : Nat} {n : Int} {v u : Value} {L M : List E} (h : GAt w B gT eT p n v L) (hg : w.grownBy w' v.ownBlock) (hr : Owns w' B eT u M) (hu : u.ownBlock ≠ some p) : GAt (w'.setCell ⟨p, 1, none⟩ u) B gT eT p n u M := by
  have hp : w'.heap[p]? = some (.cells #[.int .i64 n, v] gT) := by rw [hg.block p h.plt (fun e => h.ne e.symm)]; exact h.hp
  refine ⟨?_, ⟨hr.1, ?_⟩, hu⟩
  · simp only [World.setCell, Array.getElem?_modify, hp]
    simp
  · rcases hr.2 with hn | ⟨g, cap, cur, rfl, hb, hgg, rest⟩
    · exact .inl hn
    · refine .inr ⟨g, cap, cur, rfl, hb, ?_, rest⟩
      rw [Below.heap_setCell _ _ _ _ (fun e => hu (by simp [Value.ownBlock, e]))]
      exact hgg

/-- A row that was kept, or is new. -/
def Fresh (w : World) (v v' : Value) : Prop := ∀ k, v'.ownBlock = some k → v.ownBlock = some k ∨ w.heap.size ≤ k

end Go.Proofs.YtpkdpddillebfaaDoor.G
