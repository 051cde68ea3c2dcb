/- Package flow: how much leads out of a set, of the edges and of the nodes. -/
import Derived.Test.YtpkdpddillebfabFq
namespace Go.Proofs.Ytpkdpddillebfab.S
open Go Go.ChangeMaps Go.MapKept Go.WideShapes
open Go.RowKit Go.WideMaps Go.Maps F

theorem cap_append (D D' : List Stp) (r : Stp → Int) (S : Int → Bool) : cap (D ++ D') r S = cap D r S + cap D' r S := by
  induction D with
  | nil => simp [cap]
  | cons s D ih => simp only [List.cons_append, cap, ih]; omega

theorem cap_congr {D : List Stp} {r r' : Stp → Int} {S : Int → Bool} (h : ∀ s ∈ D, r s = r' s) : cap D r S = cap D r' S := by
  induction D with
  | nil => rfl
  | cons s D ih => simp only [cap]; rw [ih (fun t ht => h t (by simp [ht])), h s (by simp)]

theorem cap_snoc {ss : List (Stp × Int)} {s : Stp} (c : Int) (h1 : s ∉ lD ss) (h2 : bk s ∉ lD ss) (hne : fr s ≠ tt s) (S : Int → Bool) : cap (lD (ss ++ [(s, c)])) (lr (ss ++ [(s, c)])) S = cap (lD ss) (lr ss) S + ((if out S s then 1 else 0) + (if out S (bk s) then c else 0)) := by
  have hb := bk_ne hne
  rw [lD_snoc, lr_snoc, cap_append]
  congr 1
  · refine cap_congr (fun t ht => ?_)
    have e1 : t ≠ s := fun e => h1 (e ▸ ht)
    have e2 : t ≠ bk s := fun e => h2 (e ▸ ht)
    show (if t = bk s then c else if t = s then 1 else lr ss t) = lr ss t
    rw [if_neg e2, if_neg e1]
  · have q1 : (if s = bk s then c else if s = s then 1 else lr ss s) = 1 := by rw [if_neg (fun e => hb e.symm), if_pos rfl]
    have q2 : (if bk s = bk s then c else if bk s = s then 1 else lr ss (bk s)) = c := if_pos rfl
    show (if out S s then (if s = bk s then c else if s = s then 1 else lr ss s) else 0) + ((if out S (bk s) then (if bk s = bk s then c else if bk s = s then 1 else lr ss (bk s)) else 0) + 0) = _
    rw [q1, q2]; omega

theorem cap_nil (S : Int → Bool) : cap (lD []) (lr []) S = 0 := rfl

/-- An edge with one end within. -/
def crs (S : Int → Bool) (e : Stp) : Bool := S e.2.1 != S e.2.2

theorem cap_edS {n : Nat} {L : List Stp} (h : Ed n 50 L) (S : Int → Bool) : cap (lD (edS L)) (lr (edS L)) S = ((L.filter (crs S)).length : Int) := by
  have : ∀ j, j ≤ L.length → cap (lD (edS (L.take j))) (lr (edS (L.take j))) S = (((L.take j).filter (crs S)).length : Int) := by
    intro j
    induction j with
    | zero => intro _; rfl
    | succ j ih =>
      intro hj
      have hx : L[j]? = some L[j] := List.getElem?_eq_getElem (by omega)
      obtain ⟨x, y, hxy, _, he⟩ := h.ends L[j] (List.getElem_mem _)
      rw [take_snoc hx]
      have e : edS (L.take j ++ [L[j]]) = edS (L.take j) ++ [(L[j], 1)] := by rw [edS, List.map_append]; rfl
      have hoff := edS_off (ed_one h hx)
      have hne : fr L[j] ≠ tt L[j] := by
        rw [he]
        show (x : Int) ≠ (y : Int)
        omega
      rw [e, cap_snoc 1 hoff.1 hoff.2 hne, ih (by omega), List.filter_append, List.length_append]
      unfold out
      rw [fr_bk, tt_bk]
      have hc : crs S L[j] = (S (fr L[j]) != S (tt L[j])) := rfl
      rw [List.filter_cons, hc]
      cases S (fr L[j]) <;> cases S (tt L[j]) <;> simp
  have h1 := this L.length (Nat.le_refl _)
  rwa [List.take_length] at h1

/-- A node that is gone through; an edge that is gone along, one way. -/
def nin (S : Int → Bool) (x : Nat) : Bool := S (2 * (x : Int)) && !S (2 * (x : Int) + 1)
def two (e : Stp) : List (Int × Int) := [(e.2.1, e.2.2), (e.2.2, e.2.1)]
def ein (S : Int → Bool) (d : Int × Int) : Bool := S (2 * d.1 + 1) && !S (2 * d.2)

theorem cap_ndS (S : Int → Bool) : ∀ j, cap (lD (ndS j)) (lr (ndS j)) S = (((List.range j).filter (nin S)).length : Int)
  | 0 => rfl
  | j + 1 => by
    have := nd_off j
    have hne : fr ((0, 2 * (j : Int), 2 * (j : Int) + 1) : Stp) ≠ tt ((0, 2 * (j : Int), 2 * (j : Int) + 1) : Stp) := by show 2 * (j : Int) ≠ 2 * (j : Int) + 1; omega
    rw [ndS_succ, cap_snoc 0 this.1 this.2 hne, cap_ndS S j, List.range_succ, List.filter_append, List.length_append]
    have hc : out S ((0, 2 * (j : Int), 2 * (j : Int) + 1) : Stp) = nin S j := rfl
    rw [hc, List.filter_cons]
    cases nin S j <;> simp

theorem cap_noS {n : Nat} {L : List Stp} (h : Ed n 50 L) (S : Int → Bool) : cap (lD (noS n L)) (lr (noS n L)) S = (((List.range n).filter (nin S)).length : Int) + (((L.flatMap two).filter (ein S)).length : Int) := by
  have : ∀ j, j ≤ L.length → cap (lD (noS n (L.take j))) (lr (noS n (L.take j))) S = (((List.range n).filter (nin S)).length : Int) + ((((L.take j).flatMap two).filter (ein S)).length : Int) := by
    intro j
    induction j with
    | zero =>
      intro _
      have := cap_ndS S n
      simpa [noS] using this
    | succ j ih =>
      intro hj
      have hx : L[j]? = some L[j] := List.getElem?_eq_getElem (by omega)
      obtain ⟨x, y, hxy, _, he⟩ := h.ends L[j] (List.getElem_mem _)
      have hone := ed_one h hx
      have e1 : (L[j]).2.1 = (x : Int) := by rw [he]
      have e2 : (L[j]).2.2 = (y : Int) := by rw [he]
      have hxy' : (x : Int) ≠ (y : Int) := by omega
      have ht : two L[j] = [((x : Int), (y : Int)), ((y : Int), (x : Int))] := by unfold two; rw [e1, e2]
      rw [take_snoc hx, noS_snoc, e1, e2, cap_snoc 0 (noS_off2 hone hxy' _ (.inl rfl)) (noS_off2 hone hxy' _ (.inr rfl)) (by show 2 * (y : Int) + 1 ≠ 2 * (x : Int); omega), cap_snoc 0 (noS_off hone hxy' _ (.inl rfl)) (noS_off hone hxy' _ (.inr rfl)) (by show 2 * (x : Int) + 1 ≠ 2 * (y : Int); omega), ih (by omega), List.flatMap_append, List.filter_append, List.length_append]
      have hs : [L[j]].flatMap two = [((x : Int), (y : Int)), ((y : Int), (x : Int))] := by rw [List.flatMap_cons, List.flatMap_nil, List.append_nil, ht]
      rw [hs]
      have c1 : out S ((L[j]).1, 2 * (x : Int) + 1, 2 * (y : Int)) = ein S ((x : Int), (y : Int)) := rfl
      have c2 : out S ((L[j]).1, 2 * (y : Int) + 1, 2 * (x : Int)) = ein S ((y : Int), (x : Int)) := rfl
      rw [c1, c2, List.filter_cons, List.filter_cons]
      cases ein S ((x : Int), (y : Int)) <;> cases ein S ((y : Int), (x : Int)) <;> simp <;> omega
  have h1 := this L.length (Nat.le_refl _)
  rwa [List.take_length] at h1

end Go.Proofs.Ytpkdpddillebfab.S
