/- Parts in plain words. -/
import Derived.Test.YtigodbamphejmaaKe
namespace Go.Proofs.Ytigodbamphejmaa.S

/-- The least ones below x. -/
def lst (L : List Nat) (x : Nat) : List Nat := (List.range x).filter fun y => L.getD y 0 == y

/-- The parts of the numbers below x. -/
def pgr (L : List Nat) (x : Nat) : List (List Nat) := (lst L x).map (grp L x)

theorem mem_lst {L : List Nat} {x y : Nat} : y ∈ lst L x ↔ y < x ∧ L.getD y 0 = y := by
  unfold lst
  rw [List.mem_filter, List.mem_range, beq_iff_eq]

theorem pgr_length (L : List Nat) (x : Nat) : (pgr L x).length = (lst L x).length := by simp [pgr]

theorem pgr_at (L : List Nat) (x i : Nat) (h : i < (lst L x).length) : (pgr L x).getD i [] = grp L x ((lst L x).getD i 0) := by
  simp [pgr, h]

theorem lst_at {L : List Nat} {x i : Nat} (h : i < (lst L x).length) : (lst L x).getD i 0 < x ∧ L.getD ((lst L x).getD i 0) 0 = (lst L x).getD i 0 := by
  have hm : (lst L x).getD i 0 ∈ lst L x := by
    have : (lst L x).getD i 0 = (lst L x)[i] := by simp [h]
    rw [this]; exact List.getElem_mem h
  exact mem_lst.1 hm

theorem grp_head' {n x : Nat} {L : List Nat} (g : Good n L) (hx : x ≤ n) {y : Nat} (hy : y < x) (h : L.getD y 0 = y) : (grp L x y).getD 0 0 = y := by
  have hxm : y ∈ grp L x y := mem_grp.2 ⟨hy, h⟩
  have hp : (grp L x y).Pairwise (· < ·) := by
    unfold grp
    exact List.Pairwise.filter _ List.pairwise_lt_range
  have hle : ∀ i ∈ grp L x y, y ≤ i := fun i hi => by
    obtain ⟨h1, h2⟩ := mem_grp.1 hi
    have := g.le i (by omega)
    omega
  cases hg : grp L x y with
  | nil => rw [hg] at hxm; cases hxm
  | cons a r =>
    rw [hg] at hxm hp hle
    show a = y
    have h1 := hle a (by simp)
    rcases List.mem_cons.1 hxm with h2 | h2
    · exact h2.symm
    · have := (List.pairwise_cons.1 hp).1 y h2
      omega

theorem grp_pos {x y : Nat} {L : List Nat} (hy : y < x) (h : L.getD y 0 = y) : 0 < (grp L x y).length :=
  List.length_pos_iff.2 (fun e => by
    have : y ∈ grp L x y := mem_grp.2 ⟨hy, h⟩
    rw [e] at this; cases this)

theorem lst_succ_least {L : List Nat} {x : Nat} (h : L.getD x 0 = x) : lst L (x + 1) = lst L x ++ [x] := by
  have hb : (L.getD x 0 == x) = true := beq_iff_eq.2 h
  unfold lst
  rw [List.range_succ, List.filter_append, List.filter_cons, hb]
  simp

theorem lst_succ_other {L : List Nat} {x : Nat} (h : L.getD x 0 ≠ x) : lst L (x + 1) = lst L x := by
  have hb : (L.getD x 0 == x) = false := beq_eq_false_iff_ne.2 h
  unfold lst
  rw [List.range_succ, List.filter_append, List.filter_cons, hb]
  simp

theorem lst_inj (L : List Nat) (x i j : Nat) (hi : i < (lst L x).length) (hj : j < (lst L x).length) (e : (lst L x)[i] = (lst L x)[j]) : i = j := by
  have hp : (lst L x).Pairwise (· < ·) := by
    unfold lst
    exact List.Pairwise.filter _ List.pairwise_lt_range
  rw [List.pairwise_iff_getElem] at hp
  rcases Nat.lt_trichotomy i j with h | h | h
  · have := hp i j hi hj h
    omega
  · exact h
  · have := hp j i hj hi h
    omega

/-- A number goes to the part of its least one. -/
theorem pgr_found {x i : Nat} {L : List Nat} (hi : i < (lst L x).length) (h : (lst L x).getD i 0 = L.getD x 0) : pgr L (x + 1) = (pgr L x).set i (grp L x ((lst L x).getD i 0) ++ [x]) := by
  have hl := lst_at hi
  have hne : L.getD x 0 ≠ x := by omega
  unfold pgr
  rw [lst_succ_other hne]
  apply List.ext_getElem
  · simp
  · intro j h1 h2
    rw [List.getElem_set]
    simp only [List.getElem_map]
    have hj : j < (lst L x).length := by simpa using h1
    by_cases e : i = j
    · subst e
      have e1 : (lst L x)[i] = (lst L x).getD i 0 := by simp [hi]
      rw [if_pos rfl, e1, h, grp_succ_same]
    · rw [if_neg e]
      have e1 : (lst L x)[i] = (lst L x).getD i 0 := by simp [hi]
      have hn : (lst L x)[j] ≠ L.getD x 0 := by
        rw [← h, ← e1]
        intro e2
        exact e (lst_inj L x i j hi hj e2.symm)
      rw [grp_succ_other L x _ (fun e3 => hn e3.symm)]

/-- A number that is the least one of its own begins a part. -/
theorem pgr_none {n x : Nat} {L : List Nat} (g : Good n L) (hx : x < n) (h : ∀ i, i < (lst L x).length → (lst L x).getD i 0 ≠ L.getD x 0) : pgr L (x + 1) = pgr L x ++ [[x]] := by
  have hLx : L.getD x 0 = x := by
    have h1 := g.le x hx
    have h2 := g.idem x hx
    rcases Nat.lt_or_ge (L.getD x 0) x with h3 | h3
    · have hm : L.getD x 0 ∈ lst L x := mem_lst.2 ⟨h3, h2⟩
      obtain ⟨i, hi, e⟩ := List.getElem_of_mem hm
      exact absurd (by rw [← e]; simp [hi]) (h i hi)
    · omega
  unfold pgr
  rw [lst_succ_least hLx, List.map_append]
  congr 1
  · apply List.map_congr_left
    intro y hy
    exact grp_succ_other L x y (by have := (mem_lst.1 hy).1; omega)
  · have e : grp L (x + 1) x = grp L x x ++ [x] := by
      have := grp_succ_same L x
      rw [hLx] at this; exact this
    have e2 : grp L x x = [] := by
      cases hg : grp L x x with
      | nil => rfl
      | cons a r =>
        have : a ∈ grp L x x := by rw [hg]; simp
        obtain ⟨h1, h2⟩ := mem_grp.1 this
        have := g.le a (by omega)
        omega
    simp [e, e2]

theorem pgr_all {n : Nat} {L : List Nat} (g : Good n L) : pgr L n = grps L n := by
  unfold pgr grps
  rw [g.len]
  rw [List.filter_map]
  congr 1
  unfold lst
  apply List.filter_congr
  intro y hy
  have hy' := List.mem_range.1 hy
  have hs := grp_some g hy'
  rw [Bool.eq_iff_iff, beq_iff_eq]
  simp only [Function.comp, Bool.not_eq_true', List.isEmpty_eq_false_iff]
  exact hs.symm

end Go.Proofs.Ytigodbamphejmaa.S
