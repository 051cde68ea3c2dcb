/- Blocks by their places: which edge stands where, and which nodes a block has. -/
import Derived.Test.YtigodbamphejmaaKfh
import Derived.Test.YtigodbamphejmaaKl
namespace Go.Proofs.Ytigodbamphejmaa.S
open Go.RowKit Go.WideMaps Go.Maps

/-- The least edge of the k-th block. -/
def rp (l : List Nat) (nb k : Nat) : Nat := (lst l nb).getD k 0
/-- How many blocks there are. -/
def nk (l : List Nat) (nb : Nat) : Nat := (lst l nb).length
/-- How many edges the k-th block has. -/
def nj (l : List Nat) (nb k : Nat) : Nat := (grp l nb (rp l nb k)).length
/-- The j-th edge of the k-th block, by its place. -/
def pos (l : List Nat) (nb k j : Nat) : Nat := (grp l nb (rp l nb k)).getD j 0

section
variable {l : List Nat} {nb k k' j j' : Nat}

theorem rp_inj (hk : k < nk l nb) (hk' : k' < nk l nb) (h : rp l nb k = rp l nb k') : k = k' := by
  unfold nk at hk hk'
  unfold rp at h
  refine lst_inj l nb k k' hk hk' ?_
  rw [List.getD_eq_getElem?_getD, List.getD_eq_getElem?_getD, List.getElem?_eq_getElem hk, List.getElem?_eq_getElem hk'] at h
  exact h

theorem pos_mem (hj : j < nj l nb k) : pos l nb k j < nb ∧ l.getD (pos l nb k j) 0 = rp l nb k := by
  unfold nj at hj
  have : pos l nb k j ∈ grp l nb (rp l nb k) := by
    unfold pos
    rw [List.getD_eq_getElem?_getD, List.getElem?_eq_getElem hj]
    exact List.getElem_mem hj
  exact mem_grp.1 this

theorem grp_up (l : List Nat) (n x : Nat) : (grp l n x).Pairwise (· < ·) := by
  unfold grp
  exact List.Pairwise.filter _ List.pairwise_lt_range

theorem up_inj {A : List Nat} (h : A.Pairwise (· < ·)) {i j : Nat} (hi : i < A.length) (hj : j < A.length) (e : A[i] = A[j]) : i = j := by
  rcases Nat.lt_trichotomy i j with c | c | c
  · have := List.pairwise_iff_getElem.1 h i j hi hj c
    omega
  · exact c
  · have := List.pairwise_iff_getElem.1 h j i hj hi c
    omega

theorem pos_inj (hk : k < nk l nb) (hk' : k' < nk l nb) (hj : j < nj l nb k) (hj' : j' < nj l nb k') (h : pos l nb k j = pos l nb k' j') : k = k' ∧ j = j' := by
  have e1 := (pos_mem hj).2
  have e2 := (pos_mem hj').2
  rw [h, e2] at e1
  have hkk := rp_inj hk hk' e1.symm
  subst hkk
  refine ⟨rfl, ?_⟩
  unfold nj at hj hj'
  unfold pos at h
  rw [List.getD_eq_getElem?_getD, List.getD_eq_getElem?_getD, List.getElem?_eq_getElem hj, List.getElem?_eq_getElem hj'] at h
  exact up_inj (grp_up _ _ _) hj hj' h

theorem pos_all (g : Good nb l) {i : Nat} (hi : i < nb) : ∃ k j, k < nk l nb ∧ j < nj l nb k ∧ pos l nb k j = i := by
  have hr : l.getD i 0 ∈ lst l nb := mem_lst.2 ⟨Nat.lt_of_le_of_lt (g.le i hi) hi, g.idem i hi⟩
  obtain ⟨k, hk, he⟩ := List.mem_iff_getElem.1 hr
  have hrp : rp l nb k = l.getD i 0 := by
    unfold rp
    rw [List.getD_eq_getElem?_getD, List.getElem?_eq_getElem hk]
    exact he
  have hm : i ∈ grp l nb (rp l nb k) := mem_grp.2 ⟨hi, hrp.symm⟩
  obtain ⟨j, hj, he'⟩ := List.mem_iff_getElem.1 hm
  refine ⟨k, j, hk, hj, ?_⟩
  unfold pos
  rw [List.getD_eq_getElem?_getD, List.getElem?_eq_getElem hj]
  exact he'

theorem nj_pos (hk : k < nk l nb) : 0 < nj l nb k := by
  have h := lst_at (L := l) (x := nb) (i := k) hk
  have : rp l nb k ∈ grp l nb (rp l nb k) := mem_grp.2 h
  exact List.length_pos_of_mem this
end

section
variable {R : List (Int × Int × Int)} {l : List Nat} {k k' j j' : Nat}

theorem blks_nk (R : List (Int × Int × Int)) (l : List Nat) : (blks R l).length = nk l R.length := by simp [blks, nk]

theorem blks_row' (hk : k < nk l R.length) : (blks R l).getD k [] = (grp l R.length (rp l R.length k)).map (idN R) := by
  have h : (lst l R.length)[k]? = some (rp l R.length k) := by
    unfold nk at hk
    unfold rp
    rw [List.getD_eq_getElem?_getD, List.getElem?_eq_getElem hk]; rfl
  rw [List.getD_eq_getElem?_getD, blks_at h]; rfl

theorem blks_nj (hk : k < nk l R.length) : ((blks R l).getD k []).length = nj l R.length k := by
  rw [blks_row' hk, List.length_map]; rfl

theorem blks_id (hk : k < nk l R.length) (hj : j < nj l R.length k) : ((blks R l).getD k []).getD j 0 = idN R (pos l R.length k j) := by
  rw [blks_row' hk]
  unfold nj at hj
  unfold pos
  rw [List.getD_eq_getElem?_getD, List.getD_eq_getElem?_getD, List.getElem?_map, List.getElem?_eq_getElem hj]; rfl

/-- The k-th block has the node x. -/
def Tk (R : List (Int × Int × Int)) (l : List Nat) (k x : Nat) : Prop := ∃ j, j < nj l R.length k ∧ tch (R.getD (pos l R.length k j) (0, 0, 0)) x

/-- What is known of the labels. -/
structure Lab4 (R : List (Int × Int × Int)) (l : List Nat) : Prop where
  good : Good R.length l
  blk : ∀ u v, Lk R.length l u v ↔ Blk R u v
  proper : ∀ e ∈ R, ea e ≠ eb e
  up : G.Up R

theorem Lab4.same (h : Lab4 R l) (hk : k < nk l R.length) (hk' : k' < nk l R.length) (hj : j < nj l R.length k) (hj' : j' < nj l R.length k') : Blk R (pos l R.length k j) (pos l R.length k' j') ↔ k = k' := by
  rw [← h.blk, Lk.iff (pos_mem hj).1 (pos_mem hj').1, (pos_mem hj).2, (pos_mem hj').2]
  exact ⟨rp_inj hk hk', fun e => by rw [e]⟩

theorem at_pos {i : Nat} (hi : i < R.length) : R[i]? = some (R.getD i (0, 0, 0)) := by
  rw [List.getD_eq_getElem?_getD, List.getElem?_eq_getElem hi]; rfl

/-- Two blocks that have two nodes in common are one. -/
theorem Lab4.two (h : Lab4 R l) {x y : Nat} (hk : k < nk l R.length) (hk' : k' < nk l R.length) (hx : Tk R l k x) (hx' : Tk R l k' x) (hy : Tk R l k y) (hy' : Tk R l k' y) (hxy : x ≠ y) : k = k' := by
  obtain ⟨a, ha, ta⟩ := hx
  obtain ⟨b, hb, tb⟩ := hx'
  obtain ⟨c, hc, tc⟩ := hy
  obtain ⟨d, hd, td⟩ := hy'
  exact (h.same hk hk' ha hb).1 (block_two h.proper (at_pos (pos_mem ha).1) (at_pos (pos_mem hb).1) (at_pos (pos_mem hc).1) (at_pos (pos_mem hd).1) ta tb tc td hxy ((h.same hk hk ha hc).2 rfl) ((h.same hk' hk' hb hd).2 rfl))

/-- A node parts just if several blocks meet there. -/
theorem Lab4.cut (h : Lab4 R l) (x : Nat) : cutP R x ↔ ∃ k k', k < nk l R.length ∧ k' < nk l R.length ∧ k ≠ k' ∧ Tk R l k x ∧ Tk R l k' x := by
  constructor
  · rintro ⟨e, he, f, hf, te, tf, hn⟩
    obtain ⟨i, hi⟩ := List.getElem?_of_mem he
    obtain ⟨i', hi'⟩ := List.getElem?_of_mem hf
    obtain ⟨k, j, hk, hj, rfl⟩ := pos_all h.good (List.getElem?_eq_some_iff.1 hi).1
    obtain ⟨k', j', hk', hj', rfl⟩ := pos_all h.good (List.getElem?_eq_some_iff.1 hi').1
    refine ⟨k, k', hk, hk', fun c => hn ((block_at h.proper hi hi' te tf).1 ((h.same hk hk' hj hj').2 c)), ⟨j, hj, by rw [getD_of hi]; exact te⟩, ⟨j', hj', by rw [getD_of hi']; exact tf⟩⟩
  · rintro ⟨k, k', hk, hk', hne, ⟨j, hj, tj⟩, ⟨j', hj', tj'⟩⟩
    have p1 := at_pos (pos_mem hj).1
    have p2 := at_pos (pos_mem hj').1
    exact ⟨_, List.mem_of_getElem? p1, _, List.mem_of_getElem? p2, tj, tj', fun c => hne ((h.same hk hk' hj hj').1 ((block_at h.proper p1 p2 tj tj').2 c))⟩

/-- A block of one edge is a bridge, and a bridge a block. -/
theorem Lab4.lone (h : Lab4 R l) (hk : k < nk l R.length) (hj : j < nj l R.length k) : nj l R.length k = 1 ↔ brR R (R.getD (pos l R.length k j) (0, 0, 0)) := by
  have p1 := at_pos (pos_mem hj).1
  rw [block_bridge h.proper h.up p1]
  constructor
  · intro h1 i hb
    have hi : i < R.length := by
      have := (h.blk _ _).2 hb
      rcases this with e | ⟨_, h2, _⟩
      · rw [← e]; exact (pos_mem hj).1
      · exact h2
    obtain ⟨k', j', hk', hj', rfl⟩ := pos_all h.good hi
    obtain rfl := (h.same hk hk' hj hj').1 hb
    have e : j = j' := by omega
    rw [e]
  · intro hall
    have h0 := nj_pos hk
    rcases Nat.lt_or_ge 1 (nj l R.length k) with c | c
    · exfalso
      have e0 := hall _ ((h.same hk hk hj h0).2 rfl)
      have e1 := hall _ ((h.same hk hk hj c).2 rfl)
      have := (pos_inj hk hk h0 c (e0.trans e1.symm)).2
      omega
    · omega

/-- What has been gone through, behind k blocks and j edges of the next. -/
def Bef (l : List Nat) (nb k j k' j' : Nat) : Prop := k' < nk l nb ∧ j' < nj l nb k' ∧ (k' < k ∨ (k' = k ∧ j' < j))

theorem Bef.next {nb : Nat} (hk : k < nk l nb) (hj : j < nj l nb k) (a b : Nat) : Bef l nb k (j + 1) a b ↔ Bef l nb k j a b ∨ (a = k ∧ b = j) := by
  unfold Bef
  constructor
  · rintro ⟨h1, h2, h3 | ⟨rfl, h3⟩⟩
    · exact .inl ⟨h1, h2, .inl h3⟩
    · rcases Nat.lt_or_ge b j with c | c
      · exact .inl ⟨h1, h2, .inr ⟨rfl, c⟩⟩
      · exact .inr ⟨rfl, by omega⟩
  · rintro (⟨h1, h2, h3 | ⟨rfl, h3⟩⟩ | ⟨rfl, rfl⟩)
    · exact ⟨h1, h2, .inl h3⟩
    · exact ⟨h1, h2, .inr ⟨rfl, by omega⟩⟩
    · exact ⟨hk, hj, .inr ⟨rfl, by omega⟩⟩

theorem Bef.turn {nb : Nat} (a b : Nat) : Bef l nb k (nj l nb k) a b ↔ Bef l nb (k + 1) 0 a b := by
  unfold Bef
  constructor
  · rintro ⟨h1, h2, h3 | ⟨rfl, h3⟩⟩
    · exact ⟨h1, h2, .inl (by omega)⟩
    · exact ⟨h1, h2, .inl (by omega)⟩
  · rintro ⟨h1, h2, h3 | ⟨_, h3⟩⟩
    · rcases Nat.lt_or_ge a k with c | c
      · exact ⟨h1, h2, .inl c⟩
      · obtain rfl : a = k := by omega
        exact ⟨h1, h2, .inr ⟨rfl, h2⟩⟩
    · omega

end

end Go.Proofs.Ytigodbamphejmaa.S
