/- Lists of edges, rising by their numbers; a list in another order, sorted, is the rising one. -/
namespace Go.Proofs.YtebcjaenhiiflaaGreatDoor.G

/-- An edge: its number and its ends. -/
abbrev E := Int × Int × Int

/-- The numbers rise. -/
def Up (L : List E) : Prop := L.Pairwise fun x y => x.1 < y.1

/-- How many edges lie ahead of a number. -/
def place : List E → Int → Nat
  | [], _ => 0
  | x :: L, id => if x.1 < id then place L id + 1 else 0

/-- One is put in. -/
def putE (L : List E) (e : E) : List E := L.take (place L e.1) ++ e :: L.drop (place L e.1)

theorem putE_perm (L : List E) (e : E) : (putE L e).Perm (e :: L) := by
  unfold putE
  refine List.perm_middle.trans ?_
  rw [List.take_append_drop]

theorem putE_cons_lt (x : E) (L : List E) (e : E) (h : x.1 < e.1) : putE (x :: L) e = x :: putE L e := by
  simp [putE, place, h]

theorem putE_cons_ge (x : E) (L : List E) (e : E) (h : ¬ x.1 < e.1) : putE (x :: L) e = e :: x :: L := by
  simp [putE, place, h]

theorem putE_length (L : List E) (e : E) : (putE L e).length = L.length + 1 := by
  rw [(putE_perm L e).length_eq]; rfl

theorem putE_up : ∀ (L : List E) (e : E), Up L → (∀ x ∈ L, x.1 ≠ e.1) → Up (putE L e)
  | [], e, _, _ => by simp [putE, place, Up]
  | x :: L, e, hu, hn => by
    by_cases h : x.1 < e.1
    · rw [putE_cons_lt x L e h]
      have ih := putE_up L e (List.Pairwise.of_cons hu) (fun y hy => hn y (List.mem_cons_of_mem _ hy))
      refine List.pairwise_cons.2 ⟨fun y hy => ?_, ih⟩
      rcases List.mem_cons.1 ((putE_perm L e).mem_iff.1 hy) with rfl | hy
      · exact h
      · exact List.rel_of_pairwise_cons hu hy
    · rw [putE_cons_ge x L e h]
      have hxe := hn x List.mem_cons_self
      refine List.pairwise_cons.2 ⟨fun y hy => ?_, hu⟩
      rcases List.mem_cons.1 hy with rfl | hy
      · show e.1 < y.1; omega
      · have := List.rel_of_pairwise_cons hu hy
        have h' : x.1 < y.1 := this
        show e.1 < y.1
        omega

theorem up_eq {L : List E} (hu : Up L) : ∀ {x y : E}, x ∈ L → y ∈ L → x.1 = y.1 → x = y := by
  induction L with
  | nil => intro x y hx; simp at hx
  | cons z L ih =>
    intro x y hx hy h
    rcases List.mem_cons.1 hx with rfl | hx'
    · rcases List.mem_cons.1 hy with rfl | hy'
      · rfl
      · have h1 : x.1 < y.1 := List.rel_of_pairwise_cons hu hy'
        omega
    · rcases List.mem_cons.1 hy with rfl | hy'
      · have h1 : y.1 < x.1 := List.rel_of_pairwise_cons hu hx'
        omega
      · exact ih (List.Pairwise.of_cons hu) hx' hy' h

/-- A list that is another's, in whichever order, and does not fall, is the rising one. -/
theorem sorted_eq : ∀ {L D : List E}, Up L → D.Perm L → D.Pairwise (fun x y => ¬ y.1 < x.1) → D = L
  | [], D, _, hp, _ => hp.eq_nil
  | x :: L, [], _, hp, _ => by simpa using hp.length_eq
  | x :: L, y :: D, hu, hp, hs => by
    have hy : y ∈ x :: L := hp.mem_iff.1 List.mem_cons_self
    have hx : x ∈ y :: D := hp.mem_iff.2 List.mem_cons_self
    have hxy : x = y := by
      refine up_eq hu List.mem_cons_self hy ?_
      rcases List.mem_cons.1 hy with h | hy'
      · rw [h]
      · have h1 : x.1 < y.1 := List.rel_of_pairwise_cons hu hy'
        rcases List.mem_cons.1 hx with h | hx'
        · rw [h]
        · have h2 := List.rel_of_pairwise_cons hs hx'
          omega
    subst hxy
    rw [sorted_eq (List.Pairwise.of_cons hu) (List.Perm.cons_inv hp) (List.Pairwise.of_cons hs)]

/-- One is taken out. -/
theorem out_perm {R L : List E} (hu : Up L) (hp : R.Perm L) {i k : Nat} {x y : E} (hi : R[i]? = some x) (hk : L[k]? = some y) (h : x.1 = y.1) : (R.take i ++ R.drop (i + 1)).Perm (L.take k ++ L.drop (k + 1)) := by
  have hx : x ∈ L := hp.mem_iff.1 (List.mem_of_getElem? hi)
  have hxy : x = y := up_eq hu hx (List.mem_of_getElem? hk) h
  subst hxy
  have cut : ∀ (M : List E) (j : Nat), M[j]? = some x → M.Perm (x :: (M.take j ++ M.drop (j + 1))) := by
    intro M j hj
    obtain ⟨hlt, he⟩ := List.getElem?_eq_some_iff.1 hj
    have e : M = M.take j ++ x :: M.drop (j + 1) := by
      rw [← he, ← List.drop_eq_getElem_cons hlt, List.take_append_drop]
    exact (List.Perm.of_eq e).trans List.perm_middle
  exact List.Perm.cons_inv (((cut R i hi).symm.trans hp).trans (cut L k hk))

theorem out_up {L : List E} (hu : Up L) (k : Nat) : Up (L.take k ++ L.drop (k + 1)) := by
  rw [← List.eraseIdx_eq_take_drop_succ]
  exact List.Pairwise.sublist (List.eraseIdx_sublist L k) hu

theorem out_length {L : List E} {k : Nat} (h : k < L.length) : (L.take k ++ L.drop (k + 1)).length = L.length - 1 := by
  simp; omega

theorem filter_up {L : List E} (hu : Up L) (p : E → Bool) : Up (L.filter p) := List.Pairwise.sublist List.filter_sublist hu

/-- What the program and the document's answer have of one graph. -/
structure Inv (R L : List E) : Prop where
  up : Up L
  perm : R.Perm L
  len : L.length ≤ 120

theorem Inv.rlen {R L : List E} (h : Inv R L) : R.length = L.length := h.perm.length_eq

theorem Inv.put {R L : List E} (h : Inv R L) (e : E) (hn : ∀ x ∈ L, x.1 ≠ e.1) (hl : L.length < 120) : Inv (R ++ [e]) (putE L e) :=
  ⟨putE_up L e h.up hn, (List.perm_append_comm.trans ((List.Perm.cons e h.perm))).trans (putE_perm L e).symm, by rw [putE_length]; omega⟩

theorem Inv.out {R L : List E} (h : Inv R L) {i k : Nat} {x y : E} (hi : R[i]? = some x) (hk : L[k]? = some y) (e : x.1 = y.1) : Inv (R.take i ++ R.drop (i + 1)) (L.take k ++ L.drop (k + 1)) :=
  ⟨out_up h.up k, out_perm h.up h.perm hi hk e, by
    have hlt : k < L.length := (List.getElem?_eq_some_iff.1 hk).1
    rw [out_length hlt]
    have := h.len
    omega⟩

theorem Inv.filter {R L : List E} (h : Inv R L) (p : E → Bool) : Inv (R.filter p) (L.filter p) :=
  ⟨filter_up h.up p, h.perm.filter p, Nat.le_trans (List.length_filter_le p L) h.len⟩

end Go.Proofs.YtebcjaenhiiflaaGreatDoor.G
