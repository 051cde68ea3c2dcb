/- Graphs: the program's own. -/
import Derived.Test.YtebcjaenhiiflaaGreatDoorGYf
import Derived.Laws.CopyOwn
import Derived.Laws.CopyRow
import Derived.Lib.AppendZerosOnto
import Derived.Sort.AtCall
import Derived.Laws.Shifts
import Derived.Lib.Overlaps
import Derived.Lib.AppendZeros
import Derived.Laws.ResultCell
import Derived.Deep.LoopGhost
import Derived.BigQuiet
import Derived.Deep.RegionLaw
import Derived.Deep.RegionHeld
import Derived.Deep.RegionHeldLaw
import Derived.Laws.IdiomCopy
import Derived.Deep.DeepAppendWide
namespace Go.Proofs.YtebcjaenhiiflaaGreatDoor.G
open Go.RowKit
variable {P : Program}

theorem place_le : ∀ (L : List E) (id : Int), place L id ≤ L.length
  | [], _ => Nat.le_refl _
  | x :: L, id => by
    have := place_le L id
    unfold place
    split
    · simp; omega
    · simp

theorem place_lt : ∀ (L : List E) (id : Int) (t : Nat), t < place L id → ∀ x, L[t]? = some x → x.1 < id
  | [], _, t, h => by simp [place] at h
  | y :: L, id, t, h => by
    intro x hx
    unfold place at h
    split at h
    · next hy =>
      rcases t with _ | t
      · simp at hx; subst hx; exact hy
      · exact place_lt L id t (by omega) x (by simpa using hx)
    · omega

theorem place_ge : ∀ (L : List E) (id : Int), Up L → ∀ t, place L id ≤ t → ∀ x, L[t]? = some x → id ≤ x.1
  | [], _, _, t, _ => by simp
  | y :: L, id, hu, t, h => by
    intro x hx
    unfold place at h
    rcases t with _ | t
    · simp at hx; subst hx
      split at h
      · omega
      · omega
    · have hx' : L[t]? = some x := by simpa using hx
      split at h
      · exact place_ge L id (List.Pairwise.of_cons hu) t (by omega) x hx'
      · have h1 := List.rel_of_pairwise_cons hu (List.mem_of_getElem? hx')
        have h1' : y.1 < x.1 := h1
        omega

/-- The edge of that number. -/
def seen : List E → Int → Option E
  | [], _ => none
  | x :: L, id => if (seen L id).isSome then seen L id else if x.1 = id then some x else none

theorem seen_none {L : List E} {id : Int} (h : ∀ x ∈ L, x.1 ≠ id) : seen L id = none := by
  induction L with
  | nil => rfl
  | cons y L ih =>
    have h1 := ih (fun x hx => h x (List.mem_cons_of_mem _ hx))
    simp [seen, h1, h y List.mem_cons_self]

theorem seen_some {L : List E} {id : Int} {x : E} (hu : Up L) (hx : x ∈ L) (h : x.1 = id) : seen L id = some x := by
  induction L with
  | nil => simp at hx
  | cons y L ih =>
    rcases List.mem_cons.1 hx with rfl | hx'
    · have : seen L id = none := seen_none (fun z hz => by
        have h1 : x.1 < z.1 := List.rel_of_pairwise_cons hu hz
        omega)
      simp [seen, this, h]
    · simp [seen, ih (List.Pairwise.of_cons hu) hx']

/-- The edge at the place of a number is there, or no edge has the number. -/
theorem place_hit {L : List E} (hu : Up L) (id : Int) : (∃ x, L[place L id]? = some x ∧ x.1 = id ∧ seen L id = some x) ∨ ((∀ x ∈ L, x.1 ≠ id) ∧ (∀ x, L[place L id]? = some x → x.1 ≠ id) ∧ seen L id = none) := by
  by_cases h : ∃ x, L[place L id]? = some x ∧ x.1 = id
  · obtain ⟨x, h1, h2⟩ := h
    exact Or.inl ⟨x, h1, h2, seen_some hu (List.mem_of_getElem? h1) h2⟩
  · have hall : ∀ x ∈ L, x.1 ≠ id := by
      intro x hx e
      obtain ⟨t, ht, hxt⟩ := List.mem_iff_getElem.1 hx
      have hxt' : L[t]? = some x := by rw [List.getElem?_eq_getElem ht, hxt]
      rcases Nat.lt_trichotomy t (place L id) with h1 | h1 | h1
      · have := place_lt L id t h1 x hxt'
        omega
      · rw [h1] at hxt'
        exact h ⟨x, hxt', e⟩
      · have hlt : place L id < L.length := by omega
        have hy : L[place L id]? = some L[place L id] := List.getElem?_eq_getElem hlt
        have h2 := place_ge L id hu (place L id) (Nat.le_refl _) _ hy
        have h3 : L[place L id].1 < L[t].1 := List.pairwise_iff_getElem.1 hu _ _ hlt ht h1
        rw [hxt] at h3
        omega
    exact Or.inr ⟨hall, fun x hx e => h ⟨x, hx, e⟩, seen_none hall⟩

theorem rowV_take (L : List E) (k : Nat) : (rowV L).take (k * 3) = rowV (L.take k) := by
  induction L generalizing k with
  | nil => simp [rowV]
  | cons x L ih =>
    rcases k with _ | k
    · simp [rowV]
    · rw [rowV_cons, List.take_succ_cons, rowV_cons, ← ih]
      show (encE x ++ rowV L).take ((k + 1) * 3) = _
      rw [show (k + 1) * 3 = (encE x).length + k * 3 by simp [encE]; omega, List.take_length_add_append]

theorem Kept.of_grown {p : Nat} {o : Option Nat} {w w' : World} (h : w.grownBy w' o) : Kept p o w w' := ⟨h.os, h.tape, h.output, h.size, fun k hk _ hn => h.block k hk hn⟩

theorem run_copy_rowK (w : World) (dT sT ty elem : TypeId) (size g off dLen dCap : Nat) (ad : Addr) (sLen sCap : Nat) (cur : List Value) (t : TypeId) (cs : List Value)
    (hu : P.underlying dT = some (.slice elem)) (hsz : (P.info? elem).map (·.size) = some size) (hg : w.heap[g]? = some (.cells cur.toArray t (0, 0))) (hn : cs.length = Nat.min sLen dLen * size)
    (hsrc : ∀ j v, cs[j]? = some v → w.cell? (ad.add j) = some v) (hfit : off + cs.length ≤ cur.length) (h1 : ∀ v ∈ cs, v.oneCell' = true) :
    (Builtin.copy_ #[dT, sT] ty #[.slice (some ⟨g, off, none⟩) dLen dCap, .slice (some ad) sLen sCap]).run P w = .ok (goInt (Nat.min sLen dLen)) (w.setRow g (splice cur off cs).toArray) := by
  have hl := run_loadCells_list (P := P) w ad cs hsrc
  have hst := run_storeCells_at P g off t cs 0 cur.toArray w hg (by simpa using hfit) h1
  simp only [Nat.add_zero] at hst
  cases hq : P.info? elem with
  | none => simp [hq] at hsz
  | some i =>
    have hi : i.size = size := by simpa [hq] using hsz
    subst hi
    simp [Builtin.copy_, run_underlying hu, Builtin.lenOf, Builtin.firstCells, sizeOf, typeInfo, hq, ← hn, hl, hst, splice]

theorem splice_mid {α : Type} (A B C D : List α) (k : Nat) (hk : k = A.length) (h : D.length = B.length) : splice (A ++ (B ++ C)) k D = A ++ (D ++ C) := by
  subst hk
  unfold splice
  rw [List.take_left, h, List.drop_append, ← List.append_assoc]
  simp

theorem encE_length (x : E) : (encE x).length = 3 := rfl

/-- The row behind the shift. -/
def shifted (cur : List Value) (L : List E) (i : Nat) : List Value := splice cur ((i + 1) * 3) (rowV (L.drop i))

theorem shifted_eq {cur : List Value} {L : List E} {i : Nat} (x : E) (hi : i ≤ L.length) (h : cur.take (L.length * 3) = rowV L) (hroom : (L.length + 1) * 3 ≤ cur.length) :
    splice (shifted cur L i) (i * 3) (encE x) = rowV (L.take i ++ x :: L.drop i) ++ cur.drop ((L.length + 1) * 3) := by
  have hlt : (rowV (L.take i)).length = i * 3 := by rw [rowV_length]; simp; omega
  have hld : (rowV (L.drop i)).length = (L.length - i) * 3 := by rw [rowV_length]; simp
  have h1 : shifted cur L i = rowV (L.take i) ++ ((cur.drop (i * 3)).take 3 ++ (rowV (L.drop i) ++ cur.drop ((L.length + 1) * 3))) := by
    unfold shifted splice
    have e1 : cur.take ((i + 1) * 3) = rowV (L.take i) ++ (cur.drop (i * 3)).take 3 := by
      rw [show (i + 1) * 3 = i * 3 + 3 by omega, List.take_add, ← rowV_take, ← h, List.take_take]
      congr 2
      omega
    rw [e1, hld, show (i + 1) * 3 + (L.length - i) * 3 = (L.length + 1) * 3 by omega, List.append_assoc]
  rw [h1, splice_mid _ _ _ _ _ hlt.symm (by rw [encE_length]; simp; omega)]
  rw [rowV_append, rowV_cons]
  simp

theorem shifted_length {cur : List Value} {L : List E} {i : Nat} (hi : i ≤ L.length) (hroom : (L.length + 1) * 3 ≤ cur.length) : (shifted cur L i).length = cur.length := by
  unfold shifted
  refine length_splice _ _ _ ?_
  rw [rowV_length]
  simp
  omega

/-- The row that has grown. -/
theorem grown_eq {L : List E} {i : Nat} (x : E) (Z Y : List Value) (hi : i ≤ L.length) (hZ : Z.length = (L.length + 1 - i) * 3) :
    splice (splice (rowV (L.take i) ++ (Z ++ Y)) (i * 3) (encE x)) ((i + 1) * 3) (rowV (L.drop i)) = rowV (L.take i ++ x :: L.drop i) ++ Y := by
  have hlt : (rowV (L.take i)).length = i * 3 := by rw [rowV_length]; simp; omega
  have hld : (rowV (L.drop i)).length = (L.length - i) * 3 := by rw [rowV_length]; simp
  have e1 : rowV (L.take i) ++ (Z ++ Y) = rowV (L.take i) ++ (Z.take 3 ++ (Z.drop 3 ++ Y)) := by rw [← List.append_assoc (Z.take 3), List.take_append_drop]
  rw [e1, splice_mid _ _ _ _ _ hlt.symm (by rw [encE_length]; simp; omega), ← List.append_assoc, splice_mid _ _ _ _ _ (by simp [hlt, encE_length]; omega) (by rw [hld]; simp; omega)]
  rw [rowV_append, rowV_cons]
  simp

end Go.Proofs.YtebcjaenhiiflaaGreatDoor.G
