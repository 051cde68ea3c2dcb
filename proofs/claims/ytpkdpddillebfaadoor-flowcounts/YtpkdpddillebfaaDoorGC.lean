/- Rows of edges into which one is put, as lists of cells. -/
import Derived.Test.YtpkdpddillebfaaDoorGB
namespace Go.Proofs.YtpkdpddillebfaaDoor.G
open Go.RowKit
variable {P : Program}

theorem run_copy_rowK (w : World) (dT sT ty elem : TypeId) (size g off dLen dCap : Nat) (ad : Addr) (sLen sCap : Nat) (cur : List Value) (t : TypeId) (cs : List Value)
    (hu : P.underlying dT = some (.slice elem)) (hsz : (P.info? elem).map (·.size) = some size) (hg : w.heap[g]? = some (.cells cur.toArray t (0, 0))) (hn : cs.length = Nat.min sLen dLen * size)
    (hsrc : ∀ j v, cs[j]? = some v → w.cell? (ad.add j) = some v) (hfit : off + cs.length ≤ cur.length) (h1 : ∀ v ∈ cs, v.oneCell' = true) :
    (Builtin.copy_ #[dT, sT] ty #[.slice (some ⟨g, off, none⟩) dLen dCap, .slice (some ad) sLen sCap]).run P w = .ok (goInt (Nat.min sLen dLen)) (w.setRow g (splice cur off cs).toArray) := by
  have hl := run_loadCells_list (P := P) w ad cs hsrc
  have hst := run_storeCells_at P g off t cs 0 cur.toArray w hg (by simpa using hfit) h1
  simp only [Nat.add_zero] at hst
  cases hq : P.info? elem with
  | none => simp [hq] at hsz
  | some i =>
    have hi : i.size = size := by simpa [hq] using hsz
    subst hi
    simp [Builtin.copy_, run_underlying hu, Builtin.lenOf, Builtin.firstCells, sizeOf, typeInfo, hq, ← hn, hl, hst, splice]

theorem splice_mid {α : Type} (A B C D : List α) (k : Nat) (hk : k = A.length) (h : D.length = B.length) : splice (A ++ (B ++ C)) k D = A ++ (D ++ C) := by
  subst hk
  unfold splice
  rw [List.take_left, h, List.drop_append, ← List.append_assoc]
  simp

theorem encE_length (x : E) : (encE x).length = 3 := rfl

/-- The row behind the shift. -/
def shifted (cur : List Value) (L : List E) (i : Nat) : List Value := splice cur ((i + 1) * 3) (rowV (L.drop i))

theorem shifted_eq {cur : List Value} {L : List E} {i : Nat} (x : E) (hi : i ≤ L.length) (h : cur.take (L.length * 3) = rowV L) (hroom : (L.length + 1) * 3 ≤ cur.length) :
    splice (shifted cur L i) (i * 3) (encE x) = rowV (L.take i ++ x :: L.drop i) ++ cur.drop ((L.length + 1) * 3) := by
  have hlt : (rowV (L.take i)).length = i * 3 := by rw [rowV_length]; simp; omega
  have hld : (rowV (L.drop i)).length = (L.length - i) * 3 := by rw [rowV_length]; simp
  have h1 : shifted cur L i = rowV (L.take i) ++ ((cur.drop (i * 3)).take 3 ++ (rowV (L.drop i) ++ cur.drop ((L.length + 1) * 3))) := by
    unfold shifted splice
    have e1 : cur.take ((i + 1) * 3) = rowV (L.take i) ++ (cur.drop (i * 3)).take 3 := by
      rw [show (i + 1) * 3 = i * 3 + 3 by omega, List.take_add, ← rowV_take, ← h, List.take_take]
      congr 2
      omega
    rw [e1, hld, show (i + 1) * 3 + (L.length - i) * 3 = (L.length + 1) * 3 by omega, List.append_assoc]
  rw [h1, splice_mid _ _ _ _ _ hlt.symm (by rw [encE_length]; simp; omega)]
  rw [rowV_append, rowV_cons]
  simp

theorem shifted_length {cur : List Value} {L : List E} {i : Nat} (hi : i ≤ L.length) (hroom : (L.length + 1) * 3 ≤ cur.length) : (shifted cur L i).length = cur.length := by
  unfold shifted
  refine length_splice _ _ _ ?_
  rw [rowV_length]
  simp
  omega

/-- The row that has grown. -/
theorem grown_eq {L : List E} {i : Nat} (x : E) (Z Y : List Value) (hi : i ≤ L.length) (hZ : Z.length = (L.length + 1 - i) * 3) :
    splice (splice (rowV (L.take i) ++ (Z ++ Y)) (i * 3) (encE x)) ((i + 1) * 3) (rowV (L.drop i)) = rowV (L.take i ++ x :: L.drop i) ++ Y := by
  have hlt : (rowV (L.take i)).length = i * 3 := by rw [rowV_length]; simp; omega
  have hld : (rowV (L.drop i)).length = (L.length - i) * 3 := by rw [rowV_length]; simp
  have e1 : rowV (L.take i) ++ (Z ++ Y) = rowV (L.take i) ++ (Z.take 3 ++ (Z.drop 3 ++ Y)) := by rw [← List.append_assoc (Z.take 3), List.take_append_drop]
  rw [e1, splice_mid _ _ _ _ _ hlt.symm (by rw [encE_length]; simp; omega), ← List.append_assoc, splice_mid _ _ _ _ _ (by simp [hlt, encE_length]; omega) (by rw [hld]; simp; omega)]
  rw [rowV_append, rowV_cons]
  simp

end Go.Proofs.YtpkdpddillebfaaDoor.G
