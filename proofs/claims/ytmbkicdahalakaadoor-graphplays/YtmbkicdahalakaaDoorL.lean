/- Rows of edges into which one is put, and from which one is taken: as lists of cells. -/
import Derived.Test.YtmbkicdahalakaaDoorK
namespace Go.Proofs.YtmbkicdahalakaaDoor
open Go.RowKit

theorem splice_mid {α : Type} (A B C D : List α) (k : Nat) (hk : k = A.length) (h : D.length = B.length) : splice (A ++ (B ++ C)) k D = A ++ (D ++ C) := by
  subst hk
  unfold splice
  rw [List.take_left, h, List.drop_append, ← List.append_assoc]
  simp

theorem rowV_cut (L : List E) (i : Nat) : rowV L = rowV (L.take i) ++ rowV (L.drop i) := by rw [← rowV_append, List.take_append_drop]
theorem encE_length (x : E) : (encE x).length = 3 := rfl

/-- What lies in a row of which the head is known. -/
theorem cur_cut {cur : List Value} {L : List E} (i : Nat) (h : cur.take (L.length * 3) = rowV L) : cur = rowV (L.take i) ++ (rowV (L.drop i) ++ cur.drop (L.length * 3)) := by
  have h2 := rowV_cut L i
  rw [← List.append_assoc, ← h2, ← h, List.take_append_drop]

/-- The row behind the shift. -/
def shifted (cur : List Value) (L : List E) (i : Nat) : List Value := splice cur ((i + 1) * 3) (rowV (L.drop i))

theorem shifted_eq {cur : List Value} {L : List E} {i : Nat} (x : E) (hi : i ≤ L.length) (h : cur.take (L.length * 3) = rowV L) (hroom : (L.length + 1) * 3 ≤ cur.length) :
    splice (shifted cur L i) (i * 3) (encE x) = rowV (L.take i ++ x :: L.drop i) ++ cur.drop ((L.length + 1) * 3) := by
  have hlt : (rowV (L.take i)).length = i * 3 := by rw [rowV_length]; simp; omega
  have hld : (rowV (L.drop i)).length = (L.length - i) * 3 := by rw [rowV_length]; simp
  have h1 : shifted cur L i = rowV (L.take i) ++ ((cur.drop (i * 3)).take 3 ++ (rowV (L.drop i) ++ cur.drop ((L.length + 1) * 3))) := by
    unfold shifted splice
    have e1 : cur.take ((i + 1) * 3) = rowV (L.take i) ++ (cur.drop (i * 3)).take 3 := by
      rw [show (i + 1) * 3 = i * 3 + 3 by omega, List.take_add, ← rowV_take, ← h, List.take_take]
      congr 2
      omega
    rw [e1, hld, show (i + 1) * 3 + (L.length - i) * 3 = (L.length + 1) * 3 by omega, List.append_assoc]
  rw [h1, splice_mid _ _ _ _ _ hlt.symm (by rw [encE_length]; simp; omega)]
  rw [rowV_append, rowV_cons]
  simp

theorem shifted_length {cur : List Value} {L : List E} {i : Nat} (hi : i ≤ L.length) (hroom : (L.length + 1) * 3 ≤ cur.length) : (shifted cur L i).length = cur.length := by
  unfold shifted
  refine length_splice _ _ _ ?_
  rw [rowV_length]
  simp
  omega

/-- The row that has grown. -/
theorem grown_eq {L : List E} {i : Nat} (x : E) (Z Y : List Value) (hi : i ≤ L.length) (hZ : Z.length = (L.length + 1 - i) * 3) :
    splice (splice (rowV (L.take i) ++ (Z ++ Y)) (i * 3) (encE x)) ((i + 1) * 3) (rowV (L.drop i)) = rowV (L.take i ++ x :: L.drop i) ++ Y := by
  have hlt : (rowV (L.take i)).length = i * 3 := by rw [rowV_length]; simp; omega
  have hld : (rowV (L.drop i)).length = (L.length - i) * 3 := by rw [rowV_length]; simp
  have e1 : rowV (L.take i) ++ (Z ++ Y) = rowV (L.take i) ++ (Z.take 3 ++ (Z.drop 3 ++ Y)) := by rw [← List.append_assoc (Z.take 3), List.take_append_drop]
  rw [e1, splice_mid _ _ _ _ _ hlt.symm (by rw [encE_length]; simp; omega), ← List.append_assoc, splice_mid _ _ _ _ _ (by simp [hlt, encE_length]; omega) (by rw [hld]; simp; omega)]
  rw [rowV_append, rowV_cons]
  simp

/-- The row behind what is taken out. -/
def closed (cur : List Value) (L : List E) (i : Nat) : List Value := cur.take (i * 3) ++ rowV (L.drop (i + 1)) ++ cur.drop (i * 3 + (rowV (L.drop (i + 1))).length)

theorem closed_length {cur : List Value} {L : List E} {i : Nat} (hi : i < L.length) (hroom : L.length * 3 ≤ cur.length) : (closed cur L i).length = cur.length := by
  unfold closed
  simp [rowV_length]
  omega

theorem closed_take {cur : List Value} {L : List E} {i : Nat} (hi : i < L.length) (h : cur.take (L.length * 3) = rowV L) (hroom : L.length * 3 ≤ cur.length) (cs : List Value) : (splice (closed cur L i) ((L.length - 1) * 3) cs).take ((L.length - 1) * 3) = rowV (L.take i ++ L.drop (i + 1)) := by
  have hl := closed_length hi hroom
  unfold splice
  rw [List.take_append_of_le_length (by simp; omega), List.take_of_length_le (by simp; omega)]
  unfold closed
  have e1 : cur.take (i * 3) = rowV (L.take i) := by
    rw [← rowV_take, ← h, List.take_take]
    congr 1
    omega
  have hlt : (rowV (L.take i)).length = i * 3 := by rw [rowV_length]; simp; omega
  have hld : (rowV (L.drop (i + 1))).length = (L.length - (i + 1)) * 3 := by rw [rowV_length]; simp
  rw [e1, ← rowV_append, List.take_append_of_le_length (by rw [rowV_length, out_length hi]; omega), List.take_of_length_le (by rw [rowV_length, out_length hi]; omega)]

end Go.Proofs.YtmbkicdahalakaaDoor
