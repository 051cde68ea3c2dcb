/- An index as it is read: what is asked of it. -/
import Derived.Test.YtebcjaenhiiflaaGreatDoorJei
import Derived.Test.YtebcjaenhiiflaaGreatDoorJcd
import Derived.Test.YtebcjaenhiiflaaGreatDoorBi
import Derived.Test.YtebcjaenhiiflaaGreatDoorBBh
namespace Go.Proofs.YtebcjaenhiiflaaGreatDoor.I
open Go.RowKit Go.WideMaps Go.Maps Go.Lib

/-- An index that can be read; what of it may be written lies from a on, below b. -/
structure IVx (w : World) (a b x n : Nat) (L : List G.E) (p q : Nat) (v : Value) (R B : List G.E) (W T : List Nat) (D : DataW Unit) (pw bw pt bt mp N g : Nat) : Prop where
  ix : Ix w x p q
  gra : G.GAt w g 168 61 p (n : Int) v L
  now : S.Now w q pw bw pt bt mp N n R B W T D
  ok : Ok n L
  perm : R.Perm L
  nl : N ≤ 120
  ip : a ≤ p ∧ p < b
  iw : a ≤ bw ∧ bw < b
  it : a ≤ bt ∧ bt < b
  im : a ≤ mp ∧ mp < b
  iv : ∀ k, v.ownBlock = some k → a ≤ k ∧ k < b

/-- .. whatever its parts are. -/
def IV (w : World) (a b x n : Nat) (L : List G.E) : Prop :=
  ∃ p q v R B W T D pw bw pt bt mp N g, IVx w a b x n L p q v R B W T D pw bw pt bt mp N g

variable {w0 w w' : World} {a b x p q n : Nat} {v : Value} {L R B : List G.E} {W T : List Nat} {D : DataW Unit} {pw bw pt bt mp N g : Nat}

theorem Ok.unl (h : Ok n L) : S.Unl L := by
  unfold S.Unl
  have hu : L.Pairwise (fun x y => x.1 < y.1) := h.up
  exact hu.imp (fun {x y} (k : x.1 < y.1) => by omega)

theorem IVx.unl (h : IVx w a b x n L p q v R B W T D pw bw pt bt mp N g) : S.Unl R :=
  h.perm.symm.pairwise h.ok.unl (fun {_ _} k => k.symm)

theorem IV.ok (h : IV w a b x n L) : Ok n L := by
  obtain ⟨p, q, v, R, B, W, T, D, pw, bw, pt, bt, mp, N, g, h⟩ := h
  exact h.ok

theorem IVx.below (h : IVx w a b x n L p q v R B W T D pw bw pt bt mp N g) (hb : Below w.heap.size w w') : IVx w' a b x n L p q v R B W T D pw bw pt bt mp N g :=
  { h with ix := h.ix.below hb h.ix.lt, gra := h.gra.below hb, now := h.now.below hb }

theorem IV.below (h : IV w a b x n L) (hb : Below w.heap.size w w') : IV w' a b x n L := by
  obtain ⟨p, q, v, R, B, W, T, D, pw, bw, pt, bt, mp, N, g, h⟩ := h
  exact ⟨p, q, v, R, B, W, T, D, pw, bw, pt, bt, mp, N, g, h.below hb⟩

theorem map_lt {w : World} {p pw bw pt bt m N : Nat} {W T : List Nat} {D : DataW Unit} (h : S.BAt w p pw bw pt bt m N W T D) : m < w.heap.size := by
  obtain ⟨es, c, hm⟩ := h.mobj
  exact G.lt_of_some hm

/-- What was made or read is one. -/
theorem IAt.iv (h : IAt w0 w x p q n v L R B W T D pw bw pt bt mp N) (hb : w.heap.size ≤ b) (ha : a ≤ w0.heap.size) : IV w a b x n L := by
  have h1 := h.rn.now.at_.sw.blt
  have h2 := h.rn.now.at_.st.blt
  have h3 := map_lt h.rn.now.at_
  have h4 := h.gra.plt
  have h5 := h.rn.hb
  have h6 := h.hp
  refine ⟨p, q, v, R, B, W, T, D, pw, bw, pt, bt, mp, N, w0.heap.size, h.ix, h.gra, h.rn.now, h.ok, h.perm, by have := h.rn.nl; have := h.rn.rl; omega, ⟨by omega, by omega⟩, ⟨by omega, by omega⟩, ⟨by omega, by omega⟩, ⟨by omega, by omega⟩, fun k hk => ?_⟩
  have := h.gra.lt hk
  omega

/-- Another index may be written: this one is as it was. -/
theorem IV.other {y p' q' n' : Nat} {v' : Value} {L' R' B' : List G.E} {W' T' : List Nat} {D' : DataW Unit} {pw' bw' pt' bt' mp' N' : Nat} (h : IV w a b x n L)
    (hy : IAt w0 w y p' q' n' v' L' R' B' W' T' D' pw' bw' pt' bt' mp' N') (k : Ikp p' v'.ownBlock bw' bt' mp' w w')
    (op : p' < a ∨ b ≤ p') (ow : bw' < a ∨ b ≤ bw') (ot : bt' < a ∨ b ≤ bt') (om : mp' < a ∨ b ≤ mp') (ov : ∀ j, v'.ownBlock = some j → j < a ∨ b ≤ j) : IV w' a b x n L := by
  obtain ⟨p, q, v, R, B, W, T, D, pw, bw, pt, bt, mp, N, g, h⟩ := h
  -- blocks of other kinds
  have kind : ∀ (j t : Nat) (cur : Array Value), w.heap[j]? = some (.cells cur t) → t ≠ 168 → t ≠ 61 → t ≠ 3 → w'.heap[j]? = some (.cells cur t) := by
    intro j t cur hj h1 h2 h3
    obtain ⟨es, c, hm⟩ := hy.rn.now.at_.mobj
    rw [k.block j (G.lt_of_some hj) ?_ ?_ ?_ ?_ ?_]
    · exact hj
    · rintro rfl
      have := hj.symm.trans hy.gra.hp
      simp at this
      exact h1 this.2
    · intro e
      obtain ⟨cur', hc⟩ := own61 hy.gra.row e.symm
      have := hj.symm.trans hc
      simp at this
      exact h2 this.2
    · rintro rfl
      have := hj.symm.trans hy.rn.now.at_.sw.hb
      simp at this
      exact h3 this.2
    · rintro rfl
      have := hj.symm.trans hy.rn.now.at_.st.hb
      simp at this
      exact h3 this.2
    · rintro rfl
      have := hj.symm.trans hm
      simp at this
  -- blocks from a to b
  have mid : ∀ j, j < w.heap.size → a ≤ j → j < b → w'.heap[j]? = w.heap[j]? := fun j hj h1 h2 =>
    k.block j hj (by omega) (fun e => by have := ov j e.symm; omega) (by omega) (by omega) (by omega)
  have hbat := h.now.at_
  refine ⟨p, q, v, R, B, W, T, D, pw, bw, pt, bt, mp, N, g, kind _ _ _ h.ix (by decide) (by decide) (by decide), ⟨?_, ⟨h.gra.row.1, ?_⟩, h.gra.ne⟩, ⟨?_, h.now.st, h.now.dis⟩, h.ok, h.perm, h.nl, h.ip, h.iw, h.it, h.im, h.iv⟩
  · rw [mid p h.gra.plt h.ip.1 h.ip.2]; exact h.gra.hp
  · rcases h.gra.row.2 with hn | ⟨j, cap, cur, rfl, hB, hg, rest⟩
    · exact .inl hn
    · refine .inr ⟨j, cap, cur, rfl, hB, ?_, rest⟩
      have := h.iv j rfl
      rw [mid j (G.lt_of_some hg) this.1 this.2]; exact hg
  · obtain ⟨es, c, hm, F, hs, hD⟩ := hbat.hm
    refine ⟨kind _ _ _ hbat.hp (by decide) (by decide) (by decide), ⟨kind _ _ _ hbat.sw.hp (by decide) (by decide) (by decide), ?_⟩, ⟨kind _ _ _ hbat.st.hp (by decide) (by decide) (by decide), ?_⟩, ⟨es, c, ?_, F, hs, hD⟩, hbat.pp, hbat.bb⟩
    · rw [mid bw hbat.sw.blt h.iw.1 h.iw.2]; exact hbat.sw.hb
    · rw [mid bt hbat.st.blt h.it.1 h.it.2]; exact hbat.st.hb
    · rw [mid mp (G.lt_of_some hm) h.im.1 h.im.2]; exact hm

/-- The bridges of a graph, rising. -/
noncomputable def brz (n : Nat) (L : List G.E) : List Int :=
  open Classical in if h : ∃ RB : List G.E × List G.E, (∃ W T, S.St n RB.1 W T RB.2) ∧ RB.1.Perm L then S.ups h.choose.1 h.choose.2 else []

/-- Which nodes no one edge parts. -/
noncomputable def twz (n : Nat) (L : List G.E) : List Nat :=
  open Classical in if h : ∃ T : List Nat, ∃ R B W, S.St n R W T B ∧ R.Perm L then h.choose else []

theorem brz_eq {R B : List G.E} (s : S.St n R W T B) (hp : R.Perm L) (hL : S.Unl L) : S.ups R B = brz n L := by
  have hu : S.Unl R := hp.symm.pairwise hL (fun {_ _} k => k.symm)
  have h : ∃ RB : List G.E × List G.E, (∃ W T, S.St n RB.1 W T RB.2) ∧ RB.1.Perm L := ⟨(R, B), ⟨W, T, s⟩, hp⟩
  unfold brz
  rw [dif_pos h]
  obtain ⟨⟨W', T', s'⟩, hp'⟩ := h.choose_spec
  exact (S.same_all s s' (hp.trans hp'.symm) hu).2.2

theorem twz_eq {R B : List G.E} (s : S.St n R W T B) (hp : R.Perm L) (hL : S.Unl L) : T = twz n L := by
  have hu : S.Unl R := hp.symm.pairwise hL (fun {_ _} k => k.symm)
  have h : ∃ T : List Nat, ∃ R B W, S.St n R W T B ∧ R.Perm L := ⟨T, R, B, W, s, hp⟩
  unfold twz
  rw [dif_pos h]
  obtain ⟨R', B', W', s', hp'⟩ := h.choose_spec
  exact (S.same_all s s' (hp.trans hp'.symm) hu).2.1

/-- A row of numbers. -/
theorem ints_shape {base : Nat} {v : Value} {K : List Int} (h : w.ownsRow base 3 1 v K.length (K.map (Value.int .i64))) : ∃ a cap, v = .slice a K.length cap ∧ (0 < K.length → ∃ g, a = some ⟨g, 0, none⟩ ∧ ∀ j, j < K.length → w.cell? ⟨g, j, none⟩ = some (.int .i64 (K.getD j 0))) := by
  have h0 := h
  rcases h.2 with ⟨rfl, hz⟩ | ⟨g, cap, cur, rfl, hb, hg, _⟩
  · exact ⟨none, 0, by rw [hz], fun k => by omega⟩
  · refine ⟨_, cap, rfl, fun _ => ⟨g, rfl, fun j hj => ?_⟩⟩
    rw [h0.cellAt j (by omega)]
    simp [hj]

/-- Numbers that can be read. -/
def Zs (w : World) (a : Option Addr) (K : List Int) : Prop := 0 < K.length → ∃ g, a = some ⟨g, 0, none⟩ ∧ ∀ j, j < K.length → w.cell? ⟨g, j, none⟩ = some (.int .i64 (K.getD j 0))

theorem Zs.below {a : Option Addr} {K : List Int} (h : Zs w a K) (hb : Below w.heap.size w w') : Zs w' a K := by
  intro hk
  obtain ⟨g, e, hc⟩ := h hk
  exact ⟨g, e, fun j hj => S.cell_below (hc j hj) hb⟩

set_option maxHeartbeats 400000 in
theorem isaved (h : IV w a b x n L) (hv : Vars w) :
    Calls Tryz.prog 16 #[.pointer (some ⟨x, 0, none⟩)] w fun e w' => e = .returned (.string ⟨(svI n L).toArray⟩) ∧ Below w.heap.size w w' := by
  obtain ⟨p, q, v, R, B, W, T, D, pw, bw, pt, bt, mp, N, g, h⟩ := h
  exact saved_any x p q n g v L w h.ix h.gra h.ok hv

set_option maxHeartbeats 400000 in
theorem bids_any (h : IVx w a b x n L p q v R B W T D pw bw pt bt mp N g) :
    Calls Tryz.prog 78 #[.pointer (some ⟨q, 0, none⟩)] w fun e w' => ∃ a c, e = .returned (.slice a (brz n L).length c) ∧ Zs w' a (brz n L) ∧ Below w.heap.size w w' := by
  refine (S.ids_row w h.now.at_ (by have := h.nl; omega)).mono ?_
  rintro e w' ⟨v', ss, rfl, hp, hrow, _, hb⟩
  have hunl := h.unl
  have hc : CollectedI D (fun _ => false) (S.idsOf R B) := by
    refine ⟨S.idsOf_nodup hunl, fun x => ?_⟩
    rw [h.now.dis.key x, S.mem_idsOf h.now.st]
    constructor
    · rintro ⟨e, he, k⟩; exact ⟨⟨e, (h.now.st.hB e).2 he, k⟩, rfl⟩
    · rintro ⟨⟨e, he, k⟩, _⟩; exact ⟨e, (h.now.st.hB e).1 he, k⟩
  have hp' : ss.Perm (S.idsOf R B) := hp.trans (hc.perm h.now.at_.hm S.law3 Tryz.underlying3 (fun _ => rfl)).symm
  have e1 : (ss.mergeSort fun x y => decide (x ≤ y)) = S.ups R B := mergeSort_of_perm_i hp'
  rw [e1, hp'.length_eq, ← S.ups_length R B, brz_eq h.now.st h.perm h.ok.unl] at hrow
  obtain ⟨a', c, rfl, hs⟩ := ints_shape (K := brz n L) hrow
  exact ⟨a', c, rfl, hs, hb⟩

set_option maxHeartbeats 400000 in
theorem ibridges (h : IV w a b x n L) :
    Calls Tryz.prog 33 #[.pointer (some ⟨x, 0, none⟩)] w fun e w' => ∃ a c, e = .returned (.slice a (brz n L).length c) ∧ Zs w' a (brz n L) ∧ Below w.heap.size w w' := by
  obtain ⟨p, q, v, R, B, W, T, D, pw, bw, pt, bt, mp, N, g, h⟩ := h
  have HI : Hid _ := bids_any h
  have hc := h.ix.c1
  clear h
  go_enter Tryz.func33, Tryz.ntmps33
  go_wp2_with (go_at_call 78; refine Calls.mono HI.out ?_; rintro e w1 ⟨a', c, rfl, hz, hb⟩)
  go_ret
  exact ⟨a', c, rfl, hz, hb⟩

set_option maxHeartbeats 400000 in
theorem itwice (h : IV w a b x n L) (i j : Nat) (hi : i < n) (hj : j < n) :
    Calls Tryz.prog 27 #[.pointer (some ⟨x, 0, none⟩), .int .i64 (i : Int), .int .i64 (j : Int)] w fun e w' => e = .returned (.tuple #[.bool ((((twz n L).getD i 0 : Nat) : Int) == (((twz n L).getD j 0 : Nat) : Int)), .nilIface]) ∧ Below w.heap.size w w' := by
  obtain ⟨p, q, v, R, B, W, T, D, pw, bw, pt, bt, mp, N, g, h⟩ := h
  have hT := twz_eq h.now.st h.perm h.ok.unl
  have hl := h.now.st.gt.len
  have HI : Hid _ := S.twice_in i j _ w h.now.at_ (by rw [hl]; exact hi) (by rw [hl]; exact hj) rfl
  have hc := h.ix.c1
  rw [← hT]
  clear h hT hl
  go_enter Tryz.func27, Tryz.ntmps27
  go_wp2_with (go_at_call 76; refine Calls.mono HI.out ?_; rintro e w1 ⟨rfl, hb⟩)
  go_ret2
  exact ⟨rfl, hb⟩

end Go.Proofs.YtebcjaenhiiflaaGreatDoor.I
