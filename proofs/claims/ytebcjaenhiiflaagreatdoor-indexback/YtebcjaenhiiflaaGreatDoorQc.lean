/- An edge is taken out of an index. -/
import Derived.Test.YtebcjaenhiiflaaGreatDoorQa
import Derived.Test.YtebcjaenhiiflaaGreatDoorGD
namespace Go.Proofs.YtebcjaenhiiflaaGreatDoor.I
open Go.RowKit Go.WideMaps Go.Maps Go.Lib

variable {w0 w w' : World} {x p q n : Nat} {v : Value} {L R B : List G.E} {W T : List Nat} {D : DataW Unit} {pw bw pt bt mp N : Nat}

theorem Ok.sub {M : List G.E} (h : Ok n L) (hs : M.Sublist L) : Ok n M :=
  ⟨h.n40, List.Pairwise.sublist hs h.up, Nat.le_trans hs.length_le h.len, fun e he => h.ed e (hs.subset he)⟩

theorem out_sub (L : List G.E) (k : Nat) : (L.take k ++ L.drop (k + 1)).Sublist L := by
  rw [← List.eraseIdx_eq_take_drop_succ]
  exact List.eraseIdx_sublist L k

/-- A cell of an index's own struct is set: all else is as it was. -/
theorem set_other {y i g : Nat} {u : Value} {o : Obj} {cs : Array Value} (hy : w.heap[y]? = some (.cells cs 85)) (hg : w.heap[g]? = some o) (ho : ∀ cur, o ≠ .cells cur 85) : (w.setCell ⟨y, i, none⟩ u).heap[g]? = some o := by
  rw [Below.heap_setCell _ _ _ _ (show g ≠ y from fun e => by subst e; exact ho cs (Option.some.inj (hg.symm.trans hy)))]
  exact hg

theorem bat_set {y i : Nat} {u : Value} {cs : Array Value} (hy : w.heap[y]? = some (.cells cs 85)) (hb : S.BAt w q pw bw pt bt mp N W T D) : S.BAt (w.setCell ⟨y, i, none⟩ u) q pw bw pt bt mp N W T D := by
  obtain ⟨es, c, hm, F, hs, hD⟩ := hb.hm
  exact ⟨set_other hy hb.hp (by simp), ⟨set_other hy hb.sw.hp (by simp), set_other hy hb.sw.hb (by simp)⟩, ⟨set_other hy hb.st.hp (by simp), set_other hy hb.st.hb (by simp)⟩, ⟨es, c, set_other hy hm (by simp), F, hs, hD⟩, hb.pp, hb.bb⟩

theorem gat_set {y i B' p' : Nat} {m : Int} {u : Value} {cs : Array Value} (hy : w.heap[y]? = some (.cells cs 85)) (h : G.GAt w B' 168 61 p' m v L) : G.GAt (w.setCell ⟨y, i, none⟩ u) B' 168 61 p' m v L := by
  refine ⟨set_other hy h.hp (by simp), ⟨h.row.1, ?_⟩, h.ne⟩
  rcases h.row.2 with hn | ⟨g, cap, cur, rfl, hB, hg, rest⟩
  · exact .inl hn
  · exact .inr ⟨g, cap, cur, rfl, hB, set_other hy hg (by simp), rest⟩

theorem Rn_base {w1 : World} (h : S.Rn w1 w q pw bw pt bt mp n R B W T D N) (hb : Below w0.heap.size w0 w1) : S.Rn w0 w q pw bw pt bt mp n R B W T D N :=
  { h with below := hb.trans (h.below.mono hb.size), hb := ⟨Nat.le_trans hb.size h.hb.1, Nat.le_trans hb.size h.hb.2.1, Nat.le_trans hb.size h.hb.2.2⟩ }

set_option maxHeartbeats 1000000 in
set_option maxRecDepth 100000 in
theorem idrop_no (id : Int) (w : World) (h : IAt w0 w x p q n v L R B W T D pw bw pt bt mp N) (hs : G.seen L id = none) :
    Calls Tryz.prog 18 #[.pointer (some ⟨x, 0, none⟩), .int .i64 id] w fun e w' => e = .returned (.iface 23 (.int .i64 7)) ∧ Below w.heap.size w w' := by
  have HA : Hid _ := G.drop_miss id (n : Int) w0.heap.size p v L w h.gra h.ok.up h.ok.len hs
  have c0 := h.ix.c0
  clear h
  go_enter Tryz.func18, Tryz.ntmps18
  go_wp2_with (go_at_call 55; refine Calls.mono HA.out ?_; rintro e w1 ⟨rfl, hb⟩)
  go_ret
  exact ⟨rfl, hb⟩

/-- What Drop leaves. -/
def IdropPost (w0 : World) (x p n : Nat) (L : List G.E) (e : Ending) (w' : World) : Prop :=
  e = .returned .nilIface ∧ ∃ q v R B W T D pw bw pt bt mp N, IAt w0 w' x p q n v L R B W T D pw bw pt bt mp N

set_option maxHeartbeats 1000000 in
set_option maxRecDepth 100000 in
theorem idrop_ok (id : Int) (k : Nat) (y : G.E) (w : World) (h : IAt w0 w x p q n v L R B W T D pw bw pt bt mp N) (hk : k = G.place L id) (hy : L[k]? = some y) (hs : G.seen L id = some y) :
    Calls Tryz.prog 18 #[.pointer (some ⟨x, 0, none⟩), .int .i64 id] w (IdropPost w0 x p n (L.take k ++ L.drop (k + 1))) := by
  have HH : Hid (IAt w0 w x p q n v L R B W T D pw bw pt bt mp N) := h
  have HA : Hid _ := G.drop_hit id (n : Int) w0.heap.size p k v L y w h.gra h.ok.up h.ok.len hk hy hs
  have HO : Hid (Ok n (L.take k ++ L.drop (k + 1))) := h.ok.sub (out_sub L k)
  have c0 := h.ix.c0
  clear h hk hy hs
  go_enter Tryz.func18, Tryz.ntmps18
  go_wp2_with fail
  refine Calls.mono HA.out ?_
  rintro e w1 ⟨rfl, v1, hg1, hk1, hf1⟩
  obtain ⟨hx1, hr1⟩ := HH.out.graph hk1
  have HF : Hid _ := S.of_gen n w0.heap.size p v1 _ w1 hg1 HO.out
  have HG1 : Hid (G.GAt w1 w0.heap.size 168 61 p (n : Int) v1 (L.take k ++ L.drop (k + 1))) := hg1
  have HB1 : Hid (Below w0.heap.size w0 w1) := hr1.below
  have HX1 : Hid (Ix w1 x p q) := hx1
  have d0 := hx1.c0
  clear hg1 hk1 hf1 hx1 hr1 HA c0
  go_wp2_with fail
  refine Calls.mono HF.out ?_
  rintro e w2 ⟨q', pw', bw', pt', bt', mp', B', W', T', D', N', rfl, hrn⟩
  have hX2 : Ix w2 x p q := HX1.out.below hrn.below HX1.out.lt
  have HX2 : Hid (Ix w2 x p q) := hX2
  have HR : Hid (S.Rn w1 w2 q' pw' bw' pt' bt' mp' n (L.take k ++ L.drop (k + 1)) B' W' T' D' N') := hrn
  have e0 := hX2.c1
  have e1 : w2.frozen? ⟨x, 1, none⟩ = false := by simp [World.frozen?, show w2.heap[x]? = _ from hX2]
  clear hrn hX2 d0 HF
  go_wp2_with fail
  go_ret
  have hxx : x < w2.heap.size := HX2.out.lt
  have hrn := Rn_base HR.out HB1.out
  refine ⟨rfl, q', v1, _, B', W', T', D', pw', bw', pt', bt', mp', N', ?_, gat_set HX2.out (HG1.out.below HR.out.below), { hrn with now := ⟨bat_set HX2.out hrn.now.at_, hrn.now.st, hrn.now.dis⟩, below := ?_ }, HO.out, List.Perm.refl _, HH.out.hx, HH.out.hp⟩
  · unfold Ix
    simp only [World.setCell, Array.getElem?_modify, show w2.heap[x]? = _ from HX2.out]
    simp
  · have hb := hrn.below
    exact ⟨hb.os, hb.tape, hb.output, by simp; exact hb.size, fun j hj => (Below.heap_setCell _ _ _ _ (show j ≠ x by have := HH.out.hx; omega)).trans (hb.block j hj)⟩

end Go.Proofs.YtebcjaenhiiflaaGreatDoor.I
