/- Words on memory: a Sets value. -/
import Derived.Test.YtebcjaenhiiflaaGreatDoorProg
import Derived.RowKit
import Derived.KernelRfl
import Derived.WalkKit
import Derived.WalkSpells
import Derived.WalkLawsBesides
import Derived.Recover
import Derived.Deep.QuietTactic
import Derived.BigQuiet
import Derived.Deep.OwnRows
import Derived.Maps.OwnRows
import Derived.Maps.Views
namespace Go.Proofs.YtebcjaenhiiflaaGreatDoor.S
open Go.RowKit

/-- A row of numbers as cells. -/
def vals (L : List Nat) : Array Value := (L.map fun x : Nat => Value.int .i64 (x : Int)).toArray

/-- A Sets value: the struct at block p, its row at block b. -/
structure SetsAt (w : World) (p b : Nat) (L : List Nat) : Prop where
  hp : w.heap[p]? = some (.cells #[.slice (some ⟨b, 0, none⟩) L.length L.length] 268)
  hb : w.heap[b]? = some (.cells (vals L) 3)

theorem SetsAt.pcell {w : World} {p b : Nat} {L : List Nat} (h : SetsAt w p b L) : w.cell? ⟨p, 0, none⟩ = some (.slice (some ⟨b, 0, none⟩) L.length L.length) := by
  simp [World.cell?, h.hp]

theorem SetsAt.bcell {w : World} {p b : Nat} {L : List Nat} (h : SetsAt w p b L) (i : Nat) (hi : i < L.length) : w.cell? ⟨b, i, none⟩ = some (.int .i64 ((L.getD i 0 : Nat) : Int)) := by
  simp [World.cell?, h.hb, vals, hi]

theorem SetsAt.bfrozen {w : World} {p b : Nat} {L : List Nat} (h : SetsAt w p b L) (i : Nat) : w.frozen? ⟨b, i, none⟩ = false := by
  simp [World.frozen?, h.hb]

theorem lt_of_some {w : World} {k : Nat} {o : Obj} (h : w.heap[k]? = some o) : k < w.heap.size := by
  rcases Nat.lt_or_ge k w.heap.size with h' | h'
  · exact h'
  · simp [Array.getElem?_eq_none h'] at h

theorem SetsAt.plt {w : World} {p b : Nat} {L : List Nat} (h : SetsAt w p b L) : p < w.heap.size := lt_of_some h.hp

theorem SetsAt.blt {w : World} {p b : Nat} {L : List Nat} (h : SetsAt w p b L) : b < w.heap.size := lt_of_some h.hb

theorem SetsAt.ne {w : World} {p b : Nat} {L : List Nat} (h : SetsAt w p b L) : p ≠ b := by
  intro e
  have h1 := h.hp
  rw [e, h.hb] at h1
  injection h1 with h1
  injection h1 with _ h2
  exact absurd h2 (by decide)

theorem SetsAt.below {w w' : World} {p b B : Nat} {L : List Nat} (h : SetsAt w p b L) (k : Below B w w') (hp : p < B) (hb : b < B) : SetsAt w' p b L :=
  ⟨by rw [k.block p hp]; exact h.hp, by rw [k.block b hb]; exact h.hb⟩

/-- The world is kept, but for block b. -/
structure But (b : Nat) (w w' : World) : Prop where
  os : w'.os = w.os
  tape : w'.tape = w.tape
  output : w'.output = w.output
  size : w.heap.size ≤ w'.heap.size
  block : ∀ k, k < w.heap.size → k ≠ b → w'.heap[k]? = w.heap[k]?

theorem But.of_below {b : Nat} {w w' : World} (h : Below w.heap.size w w') : But b w w' := ⟨h.os, h.tape, h.output, h.size, fun k hk _ => h.block k hk⟩

theorem But.refl (b : Nat) (w : World) : But b w w := ⟨rfl, rfl, rfl, Nat.le_refl _, fun _ _ _ => rfl⟩

theorem But.trans {b : Nat} {x y z : World} (h : But b x y) (k : But b y z) : But b x z :=
  ⟨k.os.trans h.os, k.tape.trans h.tape, k.output.trans h.output, Nat.le_trans h.size k.size, fun i hi hn => (k.block i (Nat.lt_of_lt_of_le hi h.size) hn).trans (h.block i hi hn)⟩

theorem But.below {b B : Nat} {w w' : World} (h : But b w w') (hB : B ≤ b) (hb : B ≤ w.heap.size) : Below B w w' :=
  ⟨h.os, h.tape, h.output, h.size, fun k hk => h.block k (by omega) (by omega)⟩

theorem vals_set (L : List Nat) (k v : Nat) : (vals L).setIfInBounds k (.int .i64 (v : Int)) = vals (L.set k v) := by
  apply Array.ext'
  simp [vals, List.map_set]

theorem SetsAt.set {w : World} {p b : Nat} {L : List Nat} (h : SetsAt w p b L) (k v : Nat) : SetsAt (w.setCell ⟨b, k, none⟩ (.int .i64 (v : Int))) p b (L.set k v) := by
  refine ⟨?_, ?_⟩
  · rw [Below.heap_setCell _ _ _ _ h.ne, h.hp]; simp
  · simp only [World.setCell, Array.getElem?_modify, h.hb]
    simp [vals_set]

theorem But.setCell {b : Nat} {w w' : World} (h : But b w w') (k : Nat) (v : Value) : But b w (w'.setCell ⟨b, k, none⟩ v) :=
  h.trans ⟨rfl, rfl, rfl, by simp, fun i _ hn => Below.heap_setCell _ _ _ _ hn⟩

theorem But.alloc {b : Nat} {w w' : World} (h : But b w w') (o : Obj) : But b w (w'.alloc o) :=
  h.trans (But.of_below ((Below.refl _ _).alloc (Nat.le_refl _) o))

/-- The first k numbers are laid, the others are nought yet. -/
def fill (n k : Nat) : List Nat := (List.range n).map fun i => if i < k then i else 0

theorem fill_length (n k : Nat) : (fill n k).length = n := by simp [fill]

theorem fill_succ (n k : Nat) : (fill n k).set k k = fill n (k + 1) := by
  apply List.ext_getElem
  · simp [fill]
  · intro i h1 h2
    simp only [fill, List.getElem_set, List.getElem_map, List.getElem_range]
    by_cases e : k = i
    · subst e; simp
    · have : (i < k) = (i < k + 1) := by apply propext; omega
      simp [e, this]

theorem fill_zero (n : Nat) : fill n 0 = List.replicate n 0 := by
  apply List.ext_getElem
  · simp [fill]
  · intro i h1 h2
    simp [fill]

theorem fill_all (n : Nat) : fill n n = List.range n := by
  apply List.ext_getElem
  · simp [fill]
  · intro i h1 h2
    simp [fill] at h1 ⊢
    intro h; omega

theorem made_vals (n : Nat) : madeCells #[Value.int .i64 0] n = vals (fill n 0) := by
  rw [fill_zero]
  apply Array.ext
  · simp [madeCells, vals]
  · intro i h1 h2
    simp [madeCells, vals, Nat.mod_one]

end Go.Proofs.YtebcjaenhiiflaaGreatDoor.S
