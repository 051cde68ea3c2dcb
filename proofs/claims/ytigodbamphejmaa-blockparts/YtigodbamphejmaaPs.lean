/- All edges are seen; the blocks of one edge are the bridges. -/
import Derived.Test.YtigodbamphejmaaPo
import Derived.Test.YtigodbamphejmaaBh
namespace Go.Proofs.Ytigodbamphejmaa.S
open Go.RowKit Go.WideMaps Go.Maps

section
variable {R : List (Int × Int × Int)} {l : List Nat} {n : Nat} {Ds : DataW Unit} {Dx : Nat → DataW Unit}

theorem seen_all (h : InvS R l n (nk l R.length) 0 Ds Dx) (g : Good R.length l) (hu : G.Up R) (hid : ∀ e ∈ R, 0 ≤ e.1 ∧ e.1 ≤ 1000000) : Maps.size Ds = R.length := by
  obtain ⟨ks, k1, k2⟩ := h.sn
  rw [k1.size]
  have hn : ((List.range R.length).map (idN R)).Nodup := by
    rw [List.nodup_iff_pairwise_ne, List.pairwise_map]
    refine (List.Pairwise.and_mem.1 List.pairwise_lt_range).imp ?_
    rintro a b ⟨ha, hb, hlt⟩ e
    have := idN_inj hu hid (List.mem_range.1 ha) (List.mem_range.1 hb) e
    omega
  have hp : ks.Perm ((List.range R.length).map (idN R)) := (List.perm_ext_iff_of_nodup k1.nd hn).2 (fun c => by
    rw [k2, List.mem_map]
    constructor
    · rintro ⟨a, b, hb, he⟩
      exact ⟨_, List.mem_range.2 (pos_mem hb.2.1).1, he⟩
    · rintro ⟨i, hi, he⟩
      obtain ⟨a, b, ha, hb, rfl⟩ := pos_all g (List.mem_range.1 hi)
      exact ⟨a, b, ⟨ha, hb, .inl ha⟩, he⟩)
  rw [hp.length_eq]; simp

theorem one_pos {k : Nat} (hk : k < nk l R.length) (h1 : nj l R.length k = 1) : pos l R.length k 0 = rp l R.length k := by
  have h := lst_at (L := l) (x := R.length) (i := k) hk
  have hm : rp l R.length k ∈ grp l R.length (rp l R.length k) := mem_grp.2 h
  unfold nj at h1
  unfold pos
  obtain ⟨a, ha⟩ := List.length_eq_one_iff.1 h1
  rw [ha] at hm ⊢
  exact (List.mem_singleton.1 hm).symm

theorem lones_up (hu : G.Up R) (hid : ∀ e ∈ R, 0 ≤ e.1 ∧ e.1 ≤ 1000000) : ((lones R l (nk l R.length)).map fun x : Nat => (x : Int)).Pairwise (· < ·) := by
  unfold lones
  rw [List.pairwise_map, List.pairwise_map]
  refine (List.Pairwise.and_mem.1 (List.Pairwise.filter _ List.pairwise_lt_range)).imp ?_
  rintro a b ⟨ha, hb, hlt⟩
  obtain ⟨ha1, ha2⟩ := List.mem_filter.1 ha
  obtain ⟨hb1, hb2⟩ := List.mem_filter.1 hb
  have ha1 := List.mem_range.1 ha1
  have hb1 := List.mem_range.1 hb1
  rw [one_pos ha1 (by simpa using ha2), one_pos hb1 (by simpa using hb2)]
  have hra : rp l R.length a < R.length := (lst_at (L := l) (x := R.length) (i := a) ha1).1
  have hrb : rp l R.length b < R.length := (lst_at (L := l) (x := R.length) (i := b) hb1).1
  have hab : rp l R.length a < rp l R.length b := by
    unfold nk at ha1 hb1
    unfold rp
    rw [List.getD_eq_getElem?_getD, List.getD_eq_getElem?_getD, List.getElem?_eq_getElem ha1, List.getElem?_eq_getElem hb1]
    exact List.pairwise_iff_getElem.1 (lst_up l R.length) a b ha1 hb1 hlt
  rw [(idN_cast hid hra).1, (idN_cast hid hrb).1]
  exact idAt_lt hu hab hrb

theorem lones_mem (h : Lab4 R l) (hid : ∀ e ∈ R, 0 ≤ e.1 ∧ e.1 ≤ 1000000) (c : Int) : c ∈ ((lones R l (nk l R.length)).map fun x : Nat => (x : Int)) ↔ ∃ e, brR R e ∧ e.1 = c := by
  rw [List.mem_map]
  constructor
  · rintro ⟨x, hx, rfl⟩
    obtain ⟨a, ha, rfl⟩ := List.mem_map.1 hx
    obtain ⟨ha1, ha2⟩ := List.mem_filter.1 ha
    have ha1 := List.mem_range.1 ha1
    have hj := nj_pos ha1
    have hp := (pos_mem hj).1
    refine ⟨_, (h.lone ha1 hj).1 (by simpa using ha2), ?_⟩
    rw [(idN_cast hid hp).1, idAt_of (at_pos hp)]
  · rintro ⟨e, he, rfl⟩
    have heR : e ∈ R := he.1
    obtain ⟨i, hi⟩ := List.getElem?_of_mem heR
    have hil := (List.getElem?_eq_some_iff.1 hi).1
    obtain ⟨k, j, hk, hj, rfl⟩ := pos_all h.good hil
    have h1 : nj l R.length k = 1 := (h.lone hk hj).2 (by rw [getD_of hi]; exact he)
    have hj0 : j = 0 := by omega
    subst hj0
    refine ⟨idN R (pos l R.length k 0), List.mem_map.2 ⟨k, List.mem_filter.2 ⟨List.mem_range.2 hk, by simpa using h1⟩, rfl⟩, ?_⟩
    rw [(idN_cast hid hil).1, idAt_of hi]

theorem ups_rise (B : List (Int × Int × Int)) (hu : G.Up R) : (ups R B).Pairwise (· < ·) := by
  have hnd : (idsOf R B).Pairwise (· < ·) := by
    unfold idsOf
    rw [List.pairwise_map]
    exact List.Pairwise.filter _ hu
  have tr : ∀ a b c : Int, decide (a ≤ b) = true → decide (b ≤ c) = true → decide (a ≤ c) = true := fun a b c h1 h2 => by simp only [decide_eq_true_eq] at *; omega
  have tot : ∀ a b : Int, (decide (a ≤ b) || decide (b ≤ a)) = true := fun a b => by simp only [Bool.or_eq_true, decide_eq_true_eq]; omega
  have e : ups R B = idsOf R B := by
    unfold ups
    exact List.Perm.eq_of_pairwise (le := fun a b => decide (a ≤ b) = true) (fun a b _ _ h1 h2 => by simp only [decide_eq_true_eq] at h1 h2; omega) (List.pairwise_mergeSort tr tot _) (hnd.imp fun {a b} h => by simp only [decide_eq_true_eq]; omega) (List.mergeSort_perm _ _)
  rw [e]; exact hnd

theorem lones_ups {W T : List Nat} {B : List (Int × Int × Int)} (s : St n R W T B) (h : Lab4 R l) (hid : ∀ e ∈ R, 0 ≤ e.1 ∧ e.1 ≤ 1000000) : ((lones R l (nk l R.length)).map fun x : Nat => (x : Int)) = ups R B :=
  rising_eq (lones_up h.up hid) (ups_rise B h.up) (fun c => by
    rw [lones_mem h hid]
    unfold ups
    rw [(List.mergeSort_perm _ _).mem_iff, mem_idsOf s])

end

end Go.Proofs.Ytigodbamphejmaa.S
