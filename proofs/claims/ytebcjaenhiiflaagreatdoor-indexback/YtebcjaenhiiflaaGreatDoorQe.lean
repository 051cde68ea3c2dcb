/- IndexBack: one step, one edge that comes again, and what is asked of two indexes. -/
import Derived.Test.YtebcjaenhiiflaaGreatDoorQb
import Derived.Test.YtebcjaenhiiflaaGreatDoorQc
import Derived.Test.YtebcjaenhiiflaaGreatDoorQd
namespace Go.Proofs.YtebcjaenhiiflaaGreatDoor.I
open Go.RowKit Go.WideMaps Go.Maps Go.Lib

variable {w0 w w' : World} {a b x p q n : Nat} {v : Value} {L R B : List G.E} {W T : List Nat} {D : DataW Unit} {pw bw pt bt mp N : Nat}

/-- A block of another kind is as it was. -/
theorem Ikp.kind (k : Ikp p v.ownBlock bw bt mp w w') (hy : IAt w0 w x p q n v L R B W T D pw bw pt bt mp N) {j t : Nat} {cur : Array Value} (hj : w.heap[j]? = some (.cells cur t)) (h1 : t ≠ 168) (h2 : t ≠ 61) (h3 : t ≠ 3) : w'.heap[j]? = some (.cells cur t) := by
  obtain ⟨es, c, hm⟩ := hy.rn.now.at_.mobj
  rw [k.block j (G.lt_of_some hj) ?_ ?_ ?_ ?_ ?_]
  · exact hj
  · rintro rfl
    have := hj.symm.trans hy.gra.hp
    simp at this
    exact h1 this.2
  · intro e
    obtain ⟨cur', hc⟩ := own61 hy.gra.row e.symm
    have := hj.symm.trans hc
    simp at this
    exact h2 this.2
  · rintro rfl
    have := hj.symm.trans hy.rn.now.at_.sw.hb
    simp at this
    exact h3 this.2
  · rintro rfl
    have := hj.symm.trans hy.rn.now.at_.st.hb
    simp at this
    exact h3 this.2
  · rintro rfl
    have := hj.symm.trans hm
    simp at this

/-- The index behind some steps. -/
def Rel1 (w1 : World) (x n : Nat) (wq : World) : Prop :=
  ∃ p q v L R B W T D pw bw pt bt mp N, IAt w1 wq x p q n v L R B W T D pw bw pt bt mp N ∧ ∀ e ∈ L, e.1 < 30

theorem Rel1.below' {w1 : World} (h : Rel1 w1 x n w) (hb : Below w.heap.size w w') : Rel1 w1 x n w' := by
  obtain ⟨p, q, v, L, R, B, W, T, D, pw, bw, pt, bt, mp, N, h, hl⟩ := h
  exact ⟨p, q, v, L, R, B, W, T, D, pw, bw, pt, bt, mp, N, h.below' hb, hl⟩

theorem Rel1.base {w1 : World} (h : Rel1 w1 x n w) : Below w1.heap.size w1 w := by
  obtain ⟨p, q, v, L, R, B, W, T, D, pw, bw, pt, bt, mp, N, h, hl⟩ := h
  exact h.rn.below

theorem rel_drop {w1 : World} (h : Rel1 w1 x n w) (id : Nat) :
    Calls Tryz.prog 18 #[.pointer (some ⟨x, 0, none⟩), .int .i64 (id : Int)] w fun e w' => (∃ u, e = .returned u) ∧ Rel1 w1 x n w' := by
  obtain ⟨p, q, v, L, R, B, W, T, D, pw, bw, pt, bt, mp, N, h, hl⟩ := h
  rcases G.place_hit h.ok.up (id : Int) with ⟨y, k1, k2, k3⟩ | ⟨k1, k2, k3⟩
  · refine (idrop_ok (id : Int) _ y w h rfl k1 k3).mono ?_
    rintro e w' ⟨rfl, q', v', R', B', W', T', D', pw', bw', pt', bt', mp', N', h'⟩
    exact ⟨⟨_, rfl⟩, p, q', v', _, R', B', W', T', D', pw', bw', pt', bt', mp', N', h', fun e he => hl e ((out_sub _ _).subset he)⟩
  · refine (idrop_no (id : Int) w h (G.seen_none k1)).mono ?_
    rintro e w' ⟨rfl, hb⟩
    exact ⟨⟨_, rfl⟩, p, q, v, L, R, B, W, T, D, pw, bw, pt, bt, mp, N, h.below' hb, hl⟩

theorem rel_add {w1 : World} (h : Rel1 w1 x n w) (id a b : Nat) (hid : id < 30) :
    Calls Tryz.prog 21 #[.pointer (some ⟨x, 0, none⟩), .int .i64 (id : Int), .int .i64 (a : Int), .int .i64 (b : Int)] w fun e w' => (∃ u, e = .returned u) ∧ Rel1 w1 x n w' ∧ ∀ (j : Nat) (cs : Array Value), w.heap[j]? = some (Obj.cells cs 59) → w'.heap[j]? = some (Obj.cells cs 59) := by
  obtain ⟨p, q, v, L, R, B, W, T, D, pw, bw, pt, bt, mp, N, h, hl⟩ := h
  by_cases hc : addC n L (id : Int) (a : Int) (b : Int) = 0
  · refine (iadd_ok (id : Int) a b w h ((addC_zero h.ok _ _ _).1 hc)).mono ?_
    rintro e w' ⟨ok, v', B', W', T', D', N', rfl, h', _, hk, _⟩
    refine ⟨⟨_, rfl⟩, ⟨p, q, v', _, _, B', W', T', D', pw, bw, pt, bt, mp, N', h', fun e he => ?_⟩, fun j cs hj => hk.kind h hj (by decide) (by decide) (by decide)⟩
    rcases List.mem_cons.1 ((G.putE_perm L _).mem_iff.1 he) with rfl | he
    · show (id : Int) < 30
      omega
    · exact hl e he
  · refine (iadd_no (id : Int) (a : Int) (b : Int) w h hc).mono ?_
    rintro e w' ⟨rfl, hb⟩
    exact ⟨⟨_, rfl⟩, ⟨p, q, v, L, R, B, W, T, D, pw, bw, pt, bt, mp, N, h.below' hb, hl⟩, fun j cs hj => (hb.block j (G.lt_of_some hj)).trans hj⟩

theorem few {n : Nat} {L : List G.E} (h : Ok n L) (hl : ∀ e ∈ L, e.1 < 30) : L.length ≤ 30 := by
  have h1 : (L.map fun e => e.1.toNat).Pairwise (· < ·) := by
    rw [List.pairwise_map]
    have hu : L.Pairwise (fun x y => x.1 < y.1) := h.up
    refine List.Pairwise.imp_of_mem (fun {x y} hx hy k => ?_) hu
    have := h.ed x hx
    have := h.ed y hy
    omega
  have := S.rise_len _ 0 30 h1 (fun y hy => by
    obtain ⟨e, he, rfl⟩ := List.mem_map.1 hy
    have := hl e he
    have := h.ed e he
    omega)
  simpa using this

/-- An index from which all are told. -/
theorem iedges (h : IV w a b x n L) :
    Calls Tryz.prog 14 #[.pointer (some ⟨x, 0, none⟩)] w fun e w' => ∃ u, e = .returned u ∧ G.Owns w' w.heap.size 61 u L ∧ Below w.heap.size w w' := by
  obtain ⟨p, q, v, R, B, W, T, D, pw, bw, pt, bt, mp, N, g, h⟩ := h
  have HE : Hid _ := G.edges_any (n : Int) g p v L w h.gra h.ok.len
  have hc := h.ix.c0
  clear h
  go_enter Tryz.func14, Tryz.ntmps14
  go_wp2_with (go_at_call 48; refine Calls.mono HE.out ?_; rintro e w1 ⟨u, rfl, ho, hb⟩)
  go_ret
  exact ⟨u, rfl, ho, hb⟩

/-- An edge ahead of all others. -/
theorem put_head {e : G.E} {M : List G.E} (h : G.Up (e :: M)) : G.putE M e = e :: M := by
  have hu : (e :: M).Pairwise (fun x y => x.1 < y.1) := h
  have hn : ∀ x ∈ M, x.1 ≠ e.1 := fun x hx => by have := List.rel_of_pairwise_cons hu hx; omega
  have h2 : G.Up M := (List.pairwise_cons.1 hu).2
  exact List.Perm.eq_of_pairwise (le := fun x y : G.E => x.1 < y.1) (fun a b _ _ h1 h2 => by omega) (G.putE_up M e h2 hn) hu (G.putE_perm M e)

/-- Two indexes of which all is asked. -/
structure Ask (wG w : World) (x o n : Nat) (L : List G.E) : Prop where
  ix : ∃ a b, IV w a b x n L
  io : ∃ a b, IV w a b o n L
  vars : Vars w
  below : Below wG.heap.size wG w

theorem Ask.next {wG : World} {o : Nat} (h : Ask wG w x o n L) (hb : Below w.heap.size w w') : Ask wG w' x o n L := by
  obtain ⟨⟨a, b, h1⟩, ⟨c, d, h2⟩, h3, h4⟩ := h
  exact ⟨⟨a, b, h1.below hb⟩, ⟨c, d, h2.below hb⟩, h3.below hb, h4.trans (hb.mono h4.size)⟩

theorem brz_len (h : IV w a b x n L) : (brz n L).length ≤ 120 := by
  obtain ⟨p, q, v, R, B, W, T, D, pw, bw, pt, bt, mp, N, g, h⟩ := h
  rw [← brz_eq h.now.st h.perm h.ok.unl, S.ups_length]
  unfold S.idsOf
  rw [List.length_map]
  have h2 := h.perm.length_eq
  have h3 := h.ok.len
  exact Nat.le_trans (List.length_filter_le _ _) (by omega)

theorem cutz_len (n : Nat) (L : List G.E) : (cutz n L).length ≤ n := by
  unfold cutz
  rw [List.length_map]
  exact Nat.le_trans (List.length_filter_le _ _) (by simp)

theorem grp_le (M : List Nat) (k y : Nat) : (S.grp M k y).length ≤ k := by
  unfold S.grp
  exact Nat.le_trans (List.length_filter_le _ _) (by simp)

theorem getD_len {Gs : List (List Nat)} {c : Nat} (h : ∀ l ∈ Gs, l.length ≤ c) (i : Nat) : (Gs.getD i []).length ≤ c := by
  rw [List.getD_eq_getElem?_getD]
  cases hi : Gs[i]? with
  | none => simp
  | some l => exact h l (List.mem_of_getElem? hi)

theorem blz_len (n : Nat) (L : List G.E) : (blz n L).length ≤ L.length ∧ ∀ i, ((blz n L).getD i []).length ≤ L.length := by
  have key : ∀ M, (S.blks L M).length ≤ L.length ∧ ∀ l ∈ S.blks L M, l.length ≤ L.length := by
    intro M
    unfold S.blks S.lst
    refine ⟨by rw [List.length_map]; exact Nat.le_trans (List.length_filter_le _ _) (by simp), fun l hl => ?_⟩
    obtain ⟨r, _, rfl⟩ := List.mem_map.1 hl
    rw [List.length_map]
    exact grp_le _ _ _
  unfold blz
  split
  · exact ⟨(key _).1, fun i => getD_len (key _).2 i⟩
  · exact ⟨by simp, fun i => by simp⟩

theorem thz_len (n : Nat) (L : List G.E) : (thz n L).length ≤ n ∧ ∀ i, ((thz n L).getD i []).length ≤ n := by
  unfold thz
  have hg := S.lab3_good n L ((S.grw n L).2 ++ (S.grw n L).1) (S.covN n (S.grw n L).1 (S.grw n L).2)
  generalize S.lab3 n L ((S.grw n L).2 ++ (S.grw n L).1) (S.covN n (S.grw n L).1 (S.grw n L).2) = M at *
  unfold S.grps
  refine ⟨Nat.le_trans (List.length_filter_le _ _) (by simp), fun i => getD_len (fun l hl => ?_) i⟩
  obtain ⟨y, _, rfl⟩ := List.mem_map.1 (List.mem_filter.1 hl).1
  have := grp_le M M.length y
  rw [hg.len] at this ⊢
  exact this

theorem AllAt_below {u : Value} {Gs : List (List Nat)} (h : S.AllAt w u Gs) (hb : Below w.heap.size w w') : S.AllAt w' u Gs := by
  obtain ⟨g, cap, rfl, hr⟩ := h
  refine ⟨g, cap, rfl, fun i hi => ?_⟩
  obtain ⟨r, c, h1, h2⟩ := hr i hi
  exact ⟨r, c, S.cell_below h1 hb, fun j hj => S.cell_below (h2 j hj) hb⟩

theorem sames_all {u1 u2 : Value} {Gs : List (List Nat)} (h1 : S.AllAt w u1 Gs) (h2 : S.AllAt w u2 Gs) (hl : Gs.length ≤ 1000) (hg : ∀ i, (Gs.getD i []).length ≤ 1000) :
    Calls Tryz.prog 35 #[u1, u2] w fun e w' => e = .returned (.bool true) ∧ ∃ n, w' = w.drewN n := by
  obtain ⟨g1, c1, rfl, r1⟩ := h1
  obtain ⟨g2, c2, rfl, r2⟩ := h2
  exact S.K.sames_rows _ _ Gs.length c1 c2 Gs w (fun _ => ⟨g1, g2, rfl, rfl, r1, r2⟩) (by omega) (fun i => by have := hg i; omega)

theorem ipairs_len (h : IV w a b x n L) (hn : n ≤ 16) (hl : L.length ≤ 60) :
    Calls Tryz.prog 38 #[.pointer (some ⟨x, 0, none⟩)] w fun e w' => ∃ a c, e = .returned (.slice a (prz n L).length c) ∧ Below w.heap.size w w' := by
  refine (ipairs h hn hl).mono ?_
  rintro e w' ⟨u, rfl, ho, hb⟩
  obtain ⟨a', c, rfl, _⟩ := ho.shape
  exact ⟨a', c, rfl, hb⟩

theorem isplits_len (h : IV w a b x n L) (hn : n ≤ 16) :
    Calls Tryz.prog 39 #[.pointer (some ⟨x, 0, none⟩)] w fun e w' => ∃ a c, e = .returned (.slice a (spz n L).length c) ∧ Below w.heap.size w w' := by
  refine (isplits h hn).mono ?_
  rintro e w' ⟨u, rfl, ho, hb⟩
  obtain ⟨a', c, rfl, _⟩ := ho.shape
  exact ⟨a', c, rfl, hb⟩

end Go.Proofs.YtebcjaenhiiflaaGreatDoor.I
