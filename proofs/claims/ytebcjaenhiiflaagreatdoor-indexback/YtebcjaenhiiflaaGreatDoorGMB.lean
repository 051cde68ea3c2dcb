/- Lists of edges, rising by their numbers; a list in another order, sorted, is the rising one. -/
import Derived.WalkKit
import Derived.WalkSpells
import Derived.WalkLawsBesides
import Derived.Laws.AppendOwn
import Derived.Laws.IdiomCopy
import Derived.Deep.DeepAppendWide
import Derived.Laws.CopyOwn
import Derived.Laws.CopyRow
import Derived.Lib.AppendZerosOnto
import Derived.BigQuiet
import Derived.Sort.AtCall
import Derived.Deep.LoopGhost
import Derived.Laws.Shifts
import Derived.Lib.Overlaps
import Derived.Lib.AppendZeros
import Derived.Deep.RegionLaw
import Derived.Laws.ResultCell
import Derived.Deep.RegionHeld
import Derived.Deep.RegionHeldLaw
import Derived.Test.YtebcjaenhiiflaaGreatDoorProg
import Derived.RowKit
import Derived.KernelRfl
namespace Go.Proofs.YtebcjaenhiiflaaGreatDoor.G

/-- An edge: its number and its ends. -/
abbrev E := Int × Int × Int

/-- The numbers rise. -/
def Up (L : List E) : Prop := L.Pairwise fun x y => x.1 < y.1

/-- How many edges lie ahead of a number. -/
def place : List E → Int → Nat
  | [], _ => 0
  | x :: L, id => if x.1 < id then place L id + 1 else 0

/-- One is put in. -/
def putE (L : List E) (e : E) : List E := L.take (place L e.1) ++ e :: L.drop (place L e.1)

theorem putE_perm (L : List E) (e : E) : (putE L e).Perm (e :: L) := by
  unfold putE
  refine List.perm_middle.trans ?_
  rw [List.take_append_drop]

theorem putE_cons_lt (x : E) (L : List E) (e : E) (h : x.1 < e.1) : putE (x :: L) e = x :: putE L e := by
  simp [putE, place, h]

theorem putE_cons_ge (x : E) (L : List E) (e : E) (h : ¬ x.1 < e.1) : putE (x :: L) e = e :: x :: L := by
  simp [putE, place, h]

theorem putE_length (L : List E) (e : E) : (putE L e).length = L.length + 1 := by
  rw [(putE_perm L e).length_eq]; rfl

theorem putE_up : ∀ (L : List E) (e : E), Up L → (∀ x ∈ L, x.1 ≠ e.1) → Up (putE L e)
  | [], e, _, _ => by simp [putE, place, Up]
  | x :: L, e, hu, hn => by
    by_cases h : x.1 < e.1
    · rw [putE_cons_lt x L e h]
      have ih := putE_up L e (List.Pairwise.of_cons hu) (fun y hy => hn y (List.mem_cons_of_mem _ hy))
      refine List.pairwise_cons.2 ⟨fun y hy => ?_, ih⟩
      rcases List.mem_cons.1 ((putE_perm L e).mem_iff.1 hy) with rfl | hy
      · exact h
      · exact List.rel_of_pairwise_cons hu hy
    · rw [putE_cons_ge x L e h]
      have hxe := hn x List.mem_cons_self
      refine List.pairwise_cons.2 ⟨fun y hy => ?_, hu⟩
      rcases List.mem_cons.1 hy with rfl | hy
      · show e.1 < y.1; omega
      · have := List.rel_of_pairwise_cons hu hy
        have h' : x.1 < y.1 := this
        show e.1 < y.1
        omega

theorem up_eq {L : List E} (hu : Up L) : ∀ {x y : E}, x ∈ L → y ∈ L → x.1 = y.1 → x = y := by
  induction L with
  | nil => intro x y hx; simp at hx
  | cons z L ih =>
    intro x y hx hy h
    rcases List.mem_cons.1 hx with rfl | hx'
    · rcases List.mem_cons.1 hy with rfl | hy'
      · rfl
      · have h1 : x.1 < y.1 := List.rel_of_pairwise_cons hu hy'
        omega
    · rcases List.mem_cons.1 hy with rfl | hy'
      · have h1 : y.1 < x.1 := List.rel_of_pairwise_cons hu hx'
        omega
      · exact ih (List.Pairwise.of_cons hu) hx' hy' h

/-- A list that is another's, in whichever order, and does not fall, is the rising one. -/
theorem sorted_eq : ∀ {L D : List E}, Up L → D.Perm L → D.Pairwise (fun x y => ¬ y.1 < x.1) → D = L
  | [], D, _, hp, _ => hp.eq_nil
  | x :: L, [], _, hp, _ => by simpa using hp.length_eq
  | x :: L, y :: D, hu, hp, hs => by
    have hy : y ∈ x :: L := hp.mem_iff.1 List.mem_cons_self
    have hx : x ∈ y :: D := hp.mem_iff.2 List.mem_cons_self
    have hxy : x = y := by
      refine up_eq hu List.mem_cons_self hy ?_
      rcases List.mem_cons.1 hy with h | hy'
      · rw [h]
      · have h1 : x.1 < y.1 := List.rel_of_pairwise_cons hu hy'
        rcases List.mem_cons.1 hx with h | hx'
        · rw [h]
        · have h2 := List.rel_of_pairwise_cons hs hx'
          omega
    subst hxy
    rw [sorted_eq (List.Pairwise.of_cons hu) (List.Perm.cons_inv hp) (List.Pairwise.of_cons hs)]

/-- One is taken out. -/
theorem out_perm {R L : List E} (hu : Up L) (hp : R.Perm L) {i k : Nat} {x y : E} (hi : R[i]? = some x) (hk : L[k]? = some y) (h : x.1 = y.1) : (R.take i ++ R.drop (i + 1)).Perm (L.take k ++ L.drop (k + 1)) := by
  have hx : x ∈ L := hp.mem_iff.1 (List.mem_of_getElem? hi)
  have hxy : x = y := up_eq hu hx (List.mem_of_getElem? hk) h
  subst hxy
  have cut : ∀ (M : List E) (j : Nat), M[j]? = some x → M.Perm (x :: (M.take j ++ M.drop (j + 1))) := by
    intro M j hj
    obtain ⟨hlt, he⟩ := List.getElem?_eq_some_iff.1 hj
    have e : M = M.take j ++ x :: M.drop (j + 1) := by
      rw [← he, ← List.drop_eq_getElem_cons hlt, List.take_append_drop]
    exact (List.Perm.of_eq e).trans List.perm_middle
  exact List.Perm.cons_inv (((cut R i hi).symm.trans hp).trans (cut L k hk))

theorem out_up {L : List E} (hu : Up L) (k : Nat) : Up (L.take k ++ L.drop (k + 1)) := by
  rw [← List.eraseIdx_eq_take_drop_succ]
  exact List.Pairwise.sublist (List.eraseIdx_sublist L k) hu

theorem out_length {L : List E} {k : Nat} (h : k < L.length) : (L.take k ++ L.drop (k + 1)).length = L.length - 1 := by
  simp; omega

theorem filter_up {L : List E} (hu : Up L) (p : E → Bool) : Up (L.filter p) := List.Pairwise.sublist List.filter_sublist hu

/-- What the program and the document's answer have of one graph. -/
structure Inv (R L : List E) : Prop where
  up : Up L
  perm : R.Perm L
  len : L.length ≤ 120

theorem Inv.rlen {R L : List E} (h : Inv R L) : R.length = L.length := h.perm.length_eq

theorem Inv.put {R L : List E} (h : Inv R L) (e : E) (hn : ∀ x ∈ L, x.1 ≠ e.1) (hl : L.length < 120) : Inv (R ++ [e]) (putE L e) :=
  ⟨putE_up L e h.up hn, (List.perm_append_comm.trans ((List.Perm.cons e h.perm))).trans (putE_perm L e).symm, by rw [putE_length]; omega⟩

theorem Inv.out {R L : List E} (h : Inv R L) {i k : Nat} {x y : E} (hi : R[i]? = some x) (hk : L[k]? = some y) (e : x.1 = y.1) : Inv (R.take i ++ R.drop (i + 1)) (L.take k ++ L.drop (k + 1)) :=
  ⟨out_up h.up k, out_perm h.up h.perm hi hk e, by
    have hlt : k < L.length := (List.getElem?_eq_some_iff.1 hk).1
    rw [out_length hlt]
    have := h.len
    omega⟩

theorem Inv.filter {R L : List E} (h : Inv R L) (p : E → Bool) : Inv (R.filter p) (L.filter p) :=
  ⟨filter_up h.up p, h.perm.filter p, Nat.le_trans (List.length_filter_le p L) h.len⟩

end Go.Proofs.YtebcjaenhiiflaaGreatDoor.G
namespace Go.Proofs.YtebcjaenhiiflaaGreatDoor.G
open Go.RowKit

/-- An edge's cells. -/
def encE (x : E) : List Value := [.int .i64 x.1, .int .i64 x.2.1, .int .i64 x.2.2]

/-- A row's cells. -/
def rowV (L : List E) : List Value := L.flatMap encE

theorem rowV_cons (x : E) (L : List E) : rowV (x :: L) = encE x ++ rowV L := rfl

theorem rowV_append (L M : List E) : rowV (L ++ M) = rowV L ++ rowV M := by simp [rowV]

theorem rowV_length : ∀ L : List E, (rowV L).length = L.length * 3
  | [] => rfl
  | x :: L => by rw [rowV_cons, List.length_append, rowV_length L]; simp [encE]; omega

theorem rowV_one : ∀ (L : List E), ∀ u ∈ rowV L, u.oneCell' = true
  | [], u, h => by simp [rowV] at h
  | x :: L, u, h => by
    rw [rowV_cons] at h
    rcases List.mem_append.1 h with h | h
    · simp [encE] at h
      rcases h with rfl | rfl | rfl <;> rfl
    · exact rowV_one L u h

theorem rowV_drop (L : List E) (k : Nat) : (rowV L).drop (k * 3) = rowV (L.drop k) := by
  induction L generalizing k with
  | nil => simp [rowV]
  | cons x L ih =>
    rcases k with _ | k
    · simp
    · rw [rowV_cons, List.drop_succ_cons, ← ih]
      rw [show (k + 1) * 3 = (encE x).length + k * 3 by simp [encE]; omega, List.drop_length_add_append]

theorem rowV_at (L : List E) (i : Nat) (x : E) (h : L[i]? = some x) : (rowV L)[i * 3]? = some (.int .i64 x.1) ∧ (rowV L)[i * 3 + 1]? = some (.int .i64 x.2.1) ∧ (rowV L)[i * 3 + 2]? = some (.int .i64 x.2.2) := by
  have hd := rowV_drop L i
  obtain ⟨hlt, he⟩ := List.getElem?_eq_some_iff.1 h
  rw [List.drop_eq_getElem_cons hlt, rowV_cons, he] at hd
  have h0 : ∀ j, (rowV L)[i * 3 + j]? = (encE x ++ rowV (L.drop (i + 1)))[j]? := by
    intro j; rw [← hd, List.getElem?_drop]
  exact ⟨by have := h0 0; simpa [encE] using this, by have := h0 1; simpa [encE] using this, by have := h0 2; simpa [encE] using this⟩

theorem lt_of_some {w : World} {k : Nat} {o : Obj} (h : w.heap[k]? = some o) : k < w.heap.size := by
  rcases Nat.lt_or_ge k w.heap.size with h' | h'
  · exact h'
  · simp [Array.getElem?_eq_none h'] at h

theorem lt_of_cell {w : World} {b o : Nat} {v : Value} (h : w.cell? ⟨b, o, none⟩ = some v) : b < w.heap.size := by
  rcases Nat.lt_or_ge b w.heap.size with h' | h'
  · exact h'
  · simp [World.cell?, Array.getElem?_eq_none h'] at h

/-- The row at a block of its own, behind B. -/
abbrev Owns (w : World) (B eT : Nat) (v : Value) (L : List E) : Prop := w.ownsRow B eT 3 v L.length (rowV L)

/-- What a row is: none, or a block. -/
theorem Owns.shape {w : World} {B eT : Nat} {v : Value} {L : List E} (h : Owns w B eT v L) : (v = .slice none 0 0 ∧ L = []) ∨ ∃ g cap, v = .slice (some ⟨g, 0, none⟩) L.length cap ∧ B ≤ g ∧ g < w.heap.size ∧ L.length ≤ cap ∧ cap ≤ maxLen := by
  rcases h.2 with ⟨h1, h2⟩ | ⟨g, cap, cur, h1, h2, h3, h4, h5, _, _⟩
  · exact Or.inl ⟨h1, List.eq_nil_of_length_eq_zero h2⟩
  · exact Or.inr ⟨g, cap, h1, h2, lt_of_some h3, h4, h5⟩

theorem Owns.at {w : World} {B eT g : Nat} {v : Value} {L : List E} (h : Owns w B eT v L) (hg : v.ownBlock = some g) {i : Nat} {x : E} (hx : L[i]? = some x) :
    w.cell? ⟨g, i * 3, none⟩ = some (.int .i64 x.1) ∧ w.cell? ⟨g, i * 3 + 1, none⟩ = some (.int .i64 x.2.1) ∧ w.cell? ⟨g, i * 3 + 2, none⟩ = some (.int .i64 x.2.2) := by
  have hc := World.ownsRow.cells h hg
  obtain ⟨a, b, c⟩ := rowV_at L i x hx
  have hadd : ∀ j, (⟨g, 0, none⟩ : Addr).add j = ⟨g, j, none⟩ := fun j => by unfold Addr.add; split <;> simp_all
  exact ⟨by rw [← hadd]; exact hc _ _ a, by rw [← hadd]; exact hc _ _ b, by rw [← hadd]; exact hc _ _ c⟩

theorem grownBy_of_below {w w' : World} {B : Nat} (h : Below B w w') (hB : w.heap.size ≤ B) (o : Option Nat) : w.grownBy w' o := ⟨h.os, h.tape, h.output, h.size, fun k hk _ => h.block k (by omega)⟩

theorem Owns.below {w w' : World} {B eT : Nat} {v : Value} {L : List E} (h : Owns w B eT v L) (hb : Below w.heap.size w w') : Owns w' B eT v L :=
  World.ownsRow.kept h (grownBy_of_below hb (Nat.le_refl _) none) (by cases hv : v.ownBlock <;> simp)

theorem Owns.mono {w : World} {B B' eT : Nat} {v : Value} {L : List E} (h : Owns w B eT v L) (hB : B' ≤ B) : Owns w B' eT v L := by
  refine ⟨h.1, ?_⟩
  rcases h.2 with h' | ⟨g, cap, cur, h1, h2, h3⟩
  · exact Or.inl h'
  · exact Or.inr ⟨g, cap, cur, h1, Nat.le_trans hB h2, h3⟩

/-- The world is kept, but for block p and the block o. -/
structure Kept (p : Nat) (o : Option Nat) (w w' : World) : Prop where
  os : w'.os = w.os
  tape : w'.tape = w.tape
  output : w'.output = w.output
  size : w.heap.size ≤ w'.heap.size
  block : ∀ k, k < w.heap.size → k ≠ p → some k ≠ o → w'.heap[k]? = w.heap[k]?

theorem Kept.of_below {p : Nat} {o : Option Nat} {w w' : World} (h : Below w.heap.size w w') : Kept p o w w' := ⟨h.os, h.tape, h.output, h.size, fun k hk _ _ => h.block k hk⟩

theorem Kept.trans {p : Nat} {o : Option Nat} {x y z : World} (h : Kept p o x y) (k : Kept p o y z) : Kept p o x z :=
  ⟨k.os.trans h.os, k.tape.trans h.tape, k.output.trans h.output, Nat.le_trans h.size k.size, fun i hi h1 h2 => (k.block i (Nat.lt_of_lt_of_le hi h.size) h1 h2).trans (h.block i hi h1 h2)⟩

theorem Kept.setCell {p : Nat} {o : Option Nat} {w w' : World} (h : Kept p o w w') (k : Nat) (v : Value) : Kept p o w (w'.setCell ⟨p, k, none⟩ v) :=
  h.trans ⟨rfl, rfl, rfl, by simp, fun i _ hn _ => Below.heap_setCell _ _ _ _ hn⟩

/-- A graph: the struct at block p, its row of its own. -/
structure GAt (w : World) (B gT eT p : Nat) (n : Int) (v : Value) (L : List E) : Prop where
  hp : w.heap[p]? = some (.cells #[.int .i64 n, v] gT)
  row : Owns w B eT v L
  ne : v.ownBlock ≠ some p

theorem GAt.plt {w : World} {B gT eT p : Nat} {n : Int} {v : Value} {L : List E} (h : GAt w B gT eT p n v L) : p < w.heap.size := lt_of_some h.hp

theorem GAt.c0 {w : World} {B gT eT p : Nat} {n : Int} {v : Value} {L : List E} (h : GAt w B gT eT p n v L) : w.cell? ⟨p, 0, none⟩ = some (.int .i64 n) := by simp [World.cell?, h.hp]

theorem GAt.c1 {w : World} {B gT eT p : Nat} {n : Int} {v : Value} {L : List E} (h : GAt w B gT eT p n v L) : w.cell? ⟨p, 1, none⟩ = some v := by simp [World.cell?, h.hp]

theorem GAt.f1 {w : World} {B gT eT p : Nat} {n : Int} {v : Value} {L : List E} (h : GAt w B gT eT p n v L) (i : Nat) : w.frozen? ⟨p, i, none⟩ = false := by simp [World.frozen?, h.hp]

theorem GAt.below {w w' : World} {B gT eT p : Nat} {n : Int} {v : Value} {L : List E} (h : GAt w B gT eT p n v L) (hb : Below w.heap.size w w') : GAt w' B gT eT p n v L :=
  ⟨by rw [hb.block p h.plt]; exact h.hp, h.row.below hb, h.ne⟩

theorem GAt.lt {w : World} {B gT eT p k : Nat} {n : Int} {v : Value} {L : List E} (h : GAt w B gT eT p n v L) (hk : v.ownBlock = some k) : B ≤ k ∧ k < w.heap.size := World.ownsRow.lt h.row k hk

/-- Another graph's step leaves this one. -/
theorem GAt.kept {w w' : World} {B gT eT p p' : Nat} {n : Int} {v : Value} {L : List E} {o : Option Nat} (h : GAt w B gT eT p n v L) (k : Kept p' o w w') (hp : p ≠ p') (hpo : some p ≠ o) (hv1 : v.ownBlock ≠ some p') (hv2 : v.ownBlock = none ∨ v.ownBlock ≠ o) : GAt w' B gT eT p n v L := by
  refine ⟨by rw [k.block p h.plt hp hpo]; exact h.hp, ⟨h.row.1, ?_⟩, h.ne⟩
  rcases h.row.2 with hn | ⟨g, cap, cur, rfl, hb, hgg, rest⟩
  · exact .inl hn
  · refine .inr ⟨g, cap, cur, rfl, hb, ?_, rest⟩
    rw [k.block g (lt_of_some hgg) (fun e => hv1 (by simp [Value.ownBlock, e])) (by simpa [Value.ownBlock] using hv2)]
    exact hgg

/-- A new row is laid in. -/
theorem GAt.store {w w' : World} {B gT eT p : Nat} {n : Int} {v u : Value} {L M : List E} (h : GAt w B gT eT p n v L) (hg : w.grownBy w' v.ownBlock) (hr : Owns w' B eT u M) (hu : u.ownBlock ≠ some p) : GAt (w'.setCell ⟨p, 1, none⟩ u) B gT eT p n u M := by
  have hp : w'.heap[p]? = some (.cells #[.int .i64 n, v] gT) := by rw [hg.block p h.plt (fun e => h.ne e.symm)]; exact h.hp
  refine ⟨?_, ⟨hr.1, ?_⟩, hu⟩
  · simp only [World.setCell, Array.getElem?_modify, hp]
    simp
  · rcases hr.2 with hn | ⟨g, cap, cur, rfl, hb, hgg, rest⟩
    · exact .inl hn
    · refine .inr ⟨g, cap, cur, rfl, hb, ?_, rest⟩
      rw [Below.heap_setCell _ _ _ _ (fun e => hu (by simp [Value.ownBlock, e]))]
      exact hgg

/-- A row that was kept, or is new. -/
def Fresh (w : World) (v v' : Value) : Prop := ∀ k, v'.ownBlock = some k → v.ownBlock = some k ∨ w.heap.size ≤ k

/-- The zero edge's value. -/
def zE : Value := .agg #[.int .i64 0, .int .i64 0, .int .i64 0]

theorem info61 : ∃ i, Tryz.prog.info? 61 = some i ∧ i.size = 3 ∧ i.bytes = 24 ∧ i.zero = some zE :=
  ⟨(Tryz.prog.info? 61).get (by kernel_rfl), by kernel_rfl, by kernel_rfl, by kernel_rfl, by kernel_rfl⟩

theorem zE_cells : zE.cells = #[.int .i64 0, .int .i64 0, .int .i64 0] := by kernel_rfl

theorem append_E (ty : TypeId) (w : World) (B : Nat) (v : Value) (L M : List E) (h : Owns w B 61 v L) (hB : B ≤ w.heap.size) (a : Addr) (m c : Nat) (hm : m = M.length) (hM : ∀ j u, (rowV M)[j]? = some u → w.cell? (a.add j) = some u) (hl : L.length + M.length ≤ 100000) :
    ∃ v' w', (Builtin.append_ #[33, 33] ty #[v, .slice (some a) m c]).run Tryz.prog w = .ok v' w' ∧ Owns w' B 61 v' (L ++ M) ∧ w.grownBy w' v.ownBlock ∧ Fresh w v v' := by
  subst hm
  obtain ⟨i, hi, hs, hb, hz⟩ := info61
  have own : ∀ B', Owns w B' 61 v L → B' ≤ w.heap.size → ∃ v' w', (Builtin.append_ #[33, 33] ty #[v, .slice (some a) M.length c]).run Tryz.prog w = .ok v' w' ∧ Owns w' B' 61 v' (L ++ M) ∧ w.grownBy w' v.ownBlock := by
    intro B' h' hB'
    obtain ⟨v', w', h1, h2, h3, _⟩ := run_append_own (P := Tryz.prog) w B' 33 ty 61 i zE 3 24 Tryz.underlying33 hi hz hs hb (by rw [zE_cells]; rfl) (by omega) v L.length (rowV L) h' a M.length c (rowV M) (rowV_length M) hM (rowV_one M) (by simp only [maxLen]; omega) (by omega) hB'
    refine ⟨v', w', h1, ?_, h3⟩
    show w'.ownsRow B' 61 3 v' (L ++ M).length (rowV (L ++ M))
    rw [List.length_append, rowV_append]
    exact h2
  rcases h.2 with ⟨rfl, h0⟩ | ⟨g, cap, cur, rfl, h1, h2, h3, h4, h5, h6⟩
  · have hL : L = [] := List.eq_nil_of_length_eq_zero h0
    subst hL
    obtain ⟨v', w', e1, e2, e3⟩ := own w.heap.size (World.ownsRow_nil w _ 61 3) (Nat.le_refl _)
    exact ⟨v', w', e1, e2.mono hB, e3, fun k hk => Or.inr (World.ownsRow.lt e2 k hk).1⟩
  · obtain ⟨v', w', e1, e2, e3⟩ := own B h hB
    refine ⟨v', w', e1, e2, e3, ?_⟩
    by_cases hroom : L.length + M.length ≤ cap
    · have hr := run_append_room (P := Tryz.prog) w 33 ty 61 i Tryz.underlying33 hi g L.length cap cur h2 a M.length c (rowV M) (by rw [hs]; exact rowV_length M) hM (rowV_one M) hroom (by rw [hs, h5, rowV_length]; omega)
      rw [hr] at e1
      injection e1 with e1 _
      subst e1
      intro k hk
      exact Or.inl hk
    · have hr := run_append_grow (P := Tryz.prog) w 33 ty 61 i zE Tryz.underlying33 hi hz ⟨g, 0, none⟩ L.length cap (rowV L) (by rw [hs]; exact rowV_length L) (World.ownsRow.cells h rfl) a M.length c (rowV M) (by rw [hs]; exact rowV_length M) hM (by omega) (by omega) (growslice_fits (by omega) (by rw [hb]; omega))
      rw [hr] at e1
      injection e1 with e1 _
      subst e1
      intro k hk
      have hk' : w.heap.size = k := by simpa [Value.ownBlock] using hk
      exact Or.inr (by omega)

/-- The operation append for the walk, where its run is known by an equation. -/
theorem step_append_runK {P : Program} {ops : Array Oper} {o : Oper} {a : Act} {w : World} {K : Act → World → Prop} {Q : Exit → Act → World → Prop} {E : Prop}
    (hg : o.guard = none) (d x : Operand) (dT sT : TypeId) (hop : o.op = Op.call { callee := Callee.builtin Builtin.append, args := #[d, x], argTypes := #[dT, sT] })
    (v u : Value) (hd : a.eval d = v) (hx : a.eval x = u) {v' : Value} {w' : World} (hr : (Builtin.append_ #[dT, sT] o.type #[v, u]).run P w = .ok v' w') (hK : K (a.put o.dst v') w') :
    if Region.wanted o (yielded ops a.tmps) = true then Oper.wp P o a w K Q else E := by
  have hw : Region.wanted o (yielded ops a.tmps) = true := by simp [Region.wanted, hg]
  rw [if_pos hw]
  unfold Oper.wp
  simp [execOp, hop, resolve, invoke, builtin, hd, hx, hr, Result.andThen]
  exact hK

theorem addr0_add (b n : Nat) : (⟨b, 0, none⟩ : Addr).add n = ⟨b, n, none⟩ := by
  unfold Addr.add
  split <;> simp_all

/-- A block of edges as cells. -/
theorem cells_of_block {w : World} {b : Nat} {x : E} (h : w.heap[b]? = some (.cells (encE x).toArray 61)) : ∀ j u, (rowV [x])[j]? = some u → w.cell? ((⟨b, 0, none⟩ : Addr).add j) = some u := by
  intro j u hu
  rw [addr0_add]
  have e : rowV [x] = encE x := by simp [rowV]
  rw [e] at hu
  simp [World.cell?, h, hu]

theorem cell_p {w w' : World} {B gT p : Nat} {n : Int} {v : Value} {L : List E} (h : GAt w B gT 61 p n v L) (hg : w.grownBy w' v.ownBlock) : w'.cell? ⟨p, 1, none⟩ = some v ∧ w'.frozen? ⟨p, 1, none⟩ = false := by
  have hp : w'.heap[p]? = some (.cells #[.int .i64 n, v] gT) := by rw [hg.block p h.plt (fun e => h.ne e.symm)]; exact h.hp
  exact ⟨by simp [World.cell?, hp], by simp [World.frozen?, hp]⟩

theorem Owns.slice {w : World} {B eT : Nat} {v : Value} {L : List E} (h : Owns w B eT v L) : ∃ a m c, v = .slice a m c := by
  rcases h.shape with ⟨e, _⟩ | ⟨_, _, e, _⟩
  · exact ⟨_, _, _, e⟩
  · exact ⟨_, _, _, e⟩

theorem Owns.slice_len {w : World} {B eT : Nat} {v : Value} {L : List E} (h : Owns w B eT v L) : ∃ a c, v = .slice a L.length c := by
  rcases h.shape with ⟨e, e2⟩ | ⟨_, _, e, _⟩
  · exact ⟨none, 0, by rw [e, e2]; rfl⟩
  · exact ⟨_, _, e⟩

/-- What a step on a graph leaves. -/
def Step1 (w w' : World) (B gT p : Nat) (n : Int) (v : Value) (L : List E) : Prop := ∃ v', GAt w' B gT 61 p n v' L ∧ Kept p v.ownBlock w w' ∧ Fresh w v v'

/-- What an edge that is put in must be. -/
def InRange (id a b n : Int) : Prop := (0 ≤ id ∧ id ≤ 1099511627776) ∧ (0 ≤ a ∧ a < n) ∧ (0 ≤ b ∧ b < n)

/-- A list of numbers that came in. -/
structure Ints (w : World) (a : Option Addr) (m : Nat) (F : Nat → Int) : Prop where
  some_ : 0 < m → ∃ bl off, a = some ⟨bl, off, none⟩ ∧ (∀ t, t < m → w.cell? ⟨bl, off + t, none⟩ = some (.int .i64 (F t)))

theorem Ints.below {w w' : World} {a : Option Addr} {m : Nat} {F : Nat → Int} (h : Ints w a m F) (hb : Below w.heap.size w w') : Ints w' a m F := by
  refine ⟨fun h0 => ?_⟩
  obtain ⟨bl, off, e, hc⟩ := h.some_ h0
  exact ⟨bl, off, e, fun t ht => (hb.cell (p := ⟨bl, off + t, none⟩) (lt_of_cell (hc t ht))).trans (hc t ht)⟩

/-- Is one among them? -/
def among (F : Nat → Int) (m : Nat) (x : Int) : Bool := (List.range m).any fun t => F t == x

theorem among_hit {F : Nat → Int} {m t : Nat} {x : Int} (ht : t < m) (h : F t = x) : among F m x = true := by
  simp only [among, List.any_eq_true, List.mem_range]
  exact ⟨t, ht, by simp [h]⟩

theorem among_miss {F : Nat → Int} {m : Nat} {x : Int} (h : ∀ t, t < m → F t ≠ x) : among F m x = false := by
  simp only [among, List.any_eq_false, List.mem_range]
  intro t ht
  simpa using h t ht

set_option maxHeartbeats 1000000 in
set_option maxRecDepth 100000 in
theorem rhas_any (a : Option Addr) (m cap : Nat) (F : Nat → Int) (x : Int) (ok : Bool) (w : World) (h : Ints w a m F) (hm : m ≤ 1000) (hok : among F m x = ok) :
    Calls Tryz.prog 120 #[.slice a m cap, .int .i64 x] w fun e w' => e = .returned (.bool ok) ∧ w' = w := by
  have HI : Hid (Ints w a m F) := h
  have HO : Hid (among F m x = ok) := hok
  clear h hok
  go_enter Tryz.func120, Tryz.ntmps120
  go_wp2_with fail
  go_loopg [6, 9] m (fun r _ s9 wq => ∃ k : Nat, s9 = .int .i64 k ∧ k + r = m ∧ (∀ t, t < k → F t ≠ x) ∧ wq = w)
  case atStart => exact ⟨0, rfl, by omega, fun t ht => by omega, rfl⟩
  case round =>
    obtain ⟨k, rfl, hk, hno, rfl⟩ := hrel
    by_cases hlt : k < m
    · obtain ⟨bl, off, ha, hc⟩ := HI.out.some_ (by omega)
      have c := hc k hlt
      subst ha
      clear hc
      by_cases hy : x = F k
      · as_aux_lemma =>
        have HA : Hid (ok = true) := by
          show ok = true
          rw [← HO.out, among_hit hlt hy.symm]
        clear hno
        generalize F k = y at *
        subst hy
        go_wp2_with fail
        go_ret
        exact ⟨by rw [HA.out]; rfl, rfl⟩
      · as_aux_lemma =>
        have HN : Hid (∀ t, t < k + 1 → F t ≠ x) := by
          intro t ht
          rcases Nat.lt_succ_iff_lt_or_eq.1 ht with h | h
          · exact hno t h
          · subst h; exact fun e => hy e.symm
        clear hno
        generalize F k = y at *
        have hyb : (x == y) = false := beq_eq_false_iff_ne.2 hy
        clear hy
        go_wp2_with fail
        go_roundg (gk - 1)
        case measure => omega
        case rel => exact ⟨k + 1, by go_num, by omega, HN.out, rfl⟩
    · have HA : Hid (ok = false) := by
        show ok = false
        rw [← HO.out, among_miss (fun t ht => hno t (by omega))]
      clear hno
      go_wp2_with fail
      go_ret
      exact ⟨by rw [HA.out]; rfl, rfl⟩

theorem below_box (w : World) (o : Obj) : Below w.heap.size w (w.alloc o) := (Below.refl _ _).alloc (Nat.le_refl _) _

/-- One edge is appended to a row. -/
theorem app_one (ty : TypeId) (W : World) (B : Nat) (u : Value) (M : List E) (x0 x1 x2 : Int) (h : Owns W B 61 u M) (hB : B ≤ W.heap.size) (hl : M.length ≤ 1000) :
    ∃ v' w', (Builtin.append_ #[33, 33] ty #[u, .slice (some ⟨W.heap.size, 0, none⟩) 1 1]).run Tryz.prog (W.alloc (.cells #[.int .i64 x0, .int .i64 x1, .int .i64 x2] 61)) = .ok v' w' ∧ Owns w' B 61 v' (M ++ [(x0, x1, x2)]) ∧ Below B W w' ∧ Fresh W u v' ∧ W.grownBy w' u.ownBlock := by
  have h' : Owns (W.alloc (.cells #[.int .i64 x0, .int .i64 x1, .int .i64 x2] 61)) B 61 u M := h.below (below_box W _)
  obtain ⟨v', w', h1, h2, h3, h4⟩ := append_E ty _ B u M [(x0, x1, x2)] h' (Nat.le_trans hB (by simp)) ⟨W.heap.size, 0, none⟩ 1 1 rfl (cells_of_block (heap_alloc_new W _)) (by simp; omega)
  have hg : W.grownBy w' u.ownBlock := by
    have hb := below_box W (.cells #[.int .i64 x0, .int .i64 x1, .int .i64 x2] 61)
    exact ⟨h3.os.trans hb.os, h3.tape.trans hb.tape, h3.output.trans hb.output, Nat.le_trans hb.size h3.size, fun k hk hn => (h3.block k (Nat.lt_of_lt_of_le hk hb.size) hn).trans (hb.block k hk)⟩
  refine ⟨v', w', h1, h2, ⟨hg.os, hg.tape, hg.output, hg.size, fun k hk => hg.block k (by omega) (fun e => ?_)⟩, fun k hk => ?_, hg⟩
  · have := (World.ownsRow.lt h k e.symm).1
    omega
  · rcases h4 k hk with h5 | h5
    · exact Or.inl h5
    · exact Or.inr (Nat.le_trans (by simp) h5)

theorem take_filter {L : List E} {k : Nat} {x : E} (pf : E → Bool) (h : L[k]? = some x) : (L.take (k + 1)).filter pf = (L.take k).filter pf ++ (if pf x then [x] else []) := by
  obtain ⟨hlt, he⟩ := List.getElem?_eq_some_iff.1 h
  rw [List.take_succ_eq_append_getElem hlt, List.filter_append, he]
  simp [List.filter_cons]

theorem filter_len (L : List E) (k : Nat) (pf : E → Bool) : ((L.take k).filter pf).length ≤ L.length := Nat.le_trans (List.length_filter_le _ _) (by simp; omega)

/-- The edges that stay. -/
def stays (Fe Fn : Nat → Int) (me mn : Nat) : E → Bool := fun e => !among Fe me e.1 && !among Fn mn e.2.1 && !among Fn mn e.2.2

end Go.Proofs.YtebcjaenhiiflaaGreatDoor.G
