/- The way between two parts: what one call of it is asked, and what comes of each bridge. -/
import Derived.Test.YtedcncpkikdldaaBn
namespace Go.Proofs.Ytedcncpkikdldaa.S

/-- An edge, named from either end. -/
def Ends (e : Int × Int × Int) (u v : Nat) : Prop := (ea e = u ∧ eb e = v) ∨ (eb e = u ∧ ea e = v)

/-- The edges by which the way may go on: all, or all but the one that was come over. -/
def Hop (R : List (Int × Int × Int)) (T : List Nat) (fr : Nat) (back : Int) (Z : Int × Int × Int → Prop) : Prop :=
  (back = -1 ∧ Z = (· ∈ R)) ∨ ∃ e0 p q, brR R e0 ∧ Ends e0 p q ∧ back = (T.getD p 0 : Nat) ∧ T.getD q 0 = fr ∧ Z = but (· ∈ R) e0

/-- Bridges that may be met yet. -/
def Met (R : List (Int × Int × Int)) (fr : Nat) (Z : Int × Int × Int → Prop) (D : List (Int × Int × Int)) : Prop :=
  ∀ d, brR R d → Z d → cn ea eb Z (ea d) fr → d ∈ D

variable {n : Nat} {R : List (Int × Int × Int)} {W T : List Nat} {B : List (Int × Int × Int)}

theorem Ends.lt (s : St n R W T B) {e : Int × Int × Int} (he : e ∈ R) {u v : Nat} (h : Ends e u v) : u < n ∧ v < n := by
  have := s.inn e he
  rcases h with ⟨rfl, rfl⟩ | ⟨rfl, rfl⟩
  · exact this
  · exact ⟨this.2, this.1⟩

theorem St.rep (s : St n R W T B) {u : Nat} (hu : u < n) : twR R u (T.getD u 0) :=
  (s.hT _ _).1 ((Lk.iff hu (Nat.lt_of_le_of_lt (s.gt.le u hu) hu)).2 (s.gt.idem u hu).symm)
theorem St.tw (s : St n R W T B) {u v : Nat} (hu : u < n) (hv : v < n) : twR R u v ↔ T.getD u 0 = T.getD v 0 := by
  rw [← s.hT, Lk.iff hu hv]
theorem St.lab (s : St n R W T B) {u : Nat} (hu : u < n) : T.getD u 0 < n := Nat.lt_of_le_of_lt (s.gt.le u hu) hu

/-- A bridge at which the way may go on: it is one of those, and so are those behind it. -/
theorem hop_next (s : St n R W T B) {fr tg u v : Nat} {back : Int} {Z : Int × Int × Int → Prop} {D : List (Int × Int × Int)} (h : Hop R T fr back Z) (hD : Met R fr Z D) (hfr : fr < n) (hrep : T.getD fr 0 = fr)
    {e : Int × Int × Int} (he : brR R e) (huv : Ends e u v) (hu : T.getD u 0 = fr) (hv : ((T.getD v 0 : Nat) : Int) ≠ back) :
    Hop R T (T.getD v 0) fr (but (· ∈ R) e) ∧ e ∈ D ∧ Met R (T.getD v 0) (but (· ∈ R) e) (D.filter fun d => decide (d ≠ e)) ∧ (cn ea eb (but (· ∈ R) e) (T.getD v 0) tg → cn ea eb Z fr tg) := by
  have hlt := huv.lt s he.1
  have hfu : twR R fr u := (s.tw hfr hlt.1).2 (by rw [hrep, hu])
  have hvr := s.rep hlt.2
  have hEdge : ∀ d, d ≠ e → cn ea eb (but (· ∈ R) d) u v := by
    intro d hd
    rcases huv with ⟨rfl, rfl⟩ | ⟨rfl, rfl⟩
    · exact cn_edge ⟨he.1, fun k => hd k.symm⟩
    · exact cn_symm (cn_edge ⟨he.1, fun k => hd k.symm⟩)
  have hEdgeR : cnR R u v := by
    rcases huv with ⟨rfl, rfl⟩ | ⟨rfl, rfl⟩
    · exact cn_edge he.1
    · exact cn_symm (cn_edge he.1)
  refine ⟨.inr ⟨e, u, v, he, huv, by rw [hu], rfl, rfl⟩, ?_⟩
  rcases h with ⟨_, rfl⟩ | ⟨e0, p, q, h0, hpq, hbk, hq, rfl⟩
  · refine ⟨?_, ?_, ?_⟩
    · refine hD e he he.1 ?_
      rcases huv with ⟨rfl, rfl⟩ | ⟨rfl, rfl⟩
      · exact cn_symm hfu.1
      · exact cn_trans (cn_symm hEdgeR) (cn_symm hfu.1)
    · intro d hd hz hc
      refine List.mem_filter.2 ⟨hD d hd hd.1 ?_, by simpa using hz.2⟩
      exact cn_trans (cn_but hc) (cn_trans (cn_symm hvr.1) (cn_trans (cn_symm hEdgeR) (cn_symm hfu.1)))
    · intro hc
      exact cn_trans hfu.1 (cn_trans hEdgeR (cn_trans hvr.1 (cn_but hc)))
  · have hlt0 := hpq.lt s h0.1
    have hqf : twR R q fr := (s.tw hlt0.2 hfr).2 (by rw [hrep, hq])
    have hne : e0 ≠ e := by
      rintro rfl
      have hnt : T.getD u 0 ≠ T.getD v 0 := by
        intro k
        have := (s.tw hlt.1 hlt.2).2 k
        rcases huv with ⟨rfl, rfl⟩ | ⟨rfl, rfl⟩
        · exact br_not_tw he this
        · exact br_not_tw he (tw_symm this)
      rcases huv with ⟨rfl, rfl⟩ | ⟨rfl, rfl⟩ <;> rcases hpq with ⟨rfl, rfl⟩ | ⟨rfl, rfl⟩
      · exact hnt (by rw [hu, hq])
      · exact hv hbk.symm
      · exact hv hbk.symm
      · exact hnt (by rw [hu, hq])
    have hqu : twR R q u := tw_trans hqf hfu
    refine ⟨?_, ?_, ?_⟩
    · refine hD e he ⟨he.1, fun k => hne k.symm⟩ ?_
      have hfu0 := hfu.2 e0 h0.1
      have hed := hEdge e0 hne
      rcases huv with ⟨rfl, rfl⟩ | ⟨rfl, rfl⟩
      · exact cn_symm hfu0
      · exact cn_trans (cn_symm hed) (cn_symm hfu0)
    · intro d hd hz hc
      have hc' : cn ea eb (but (· ∈ R) e) (ea d) v := cn_trans hc (cn_symm (hvr.2 e he.1))
      have hnar := narrower h0 he hne hpq huv hqu hc'
      refine List.mem_filter.2 ⟨hD d hd ⟨hd.1, fun k => hnar.1 (by rw [k])⟩ ?_, by simpa using hz.2⟩
      exact cn_trans hnar.2 (cn_symm (hfu.2 e0 h0.1))
    · intro hc
      have hc' : cn ea eb (but (· ∈ R) e) tg v := cn_trans (cn_symm hc) (cn_symm (hvr.2 e he.1))
      have hnar := narrower h0 he hne hpq huv hqu hc'
      exact cn_trans (hfu.2 e0 h0.1) (cn_symm hnar.2)

/-- If none leads on to it, there is no way. -/
theorem hop_none (s : St n R W T B) {fr tg : Nat} {back : Int} {Z : Int × Int × Int → Prop} (h : Hop R T fr back Z) (hfr : fr < n) (hrep : T.getD fr 0 = fr) (hto : tg < n) (hrept : T.getD tg 0 = tg) (hne : fr ≠ tg)
    (hno : ∀ e ∈ B, ∀ u v, Ends e u v → T.getD u 0 = fr → ((T.getD v 0 : Nat) : Int) ≠ back → ¬ cn ea eb (but (· ∈ R) e) (T.getD v 0) tg) : ¬ cn ea eb Z fr tg := by
  intro hc
  have hZ : ∀ e, Z e → e ∈ R := by
    rcases h with ⟨_, rfl⟩ | ⟨e0, p, q, h0, hpq, hbk, hq, rfl⟩
    · exact fun _ h => h
    · exact fun _ h => h.1
  rcases first_step (T := (· ∈ R)) Z hZ hc with h1 | ⟨e, u, v, he, hz, huv, hfu, hvt⟩
  · exact hne (by rw [← hrep, ← hrept]; exact (s.tw hfr hto).1 h1)
  · have hlt := Ends.lt s he.1 huv
    have hu : T.getD u 0 = fr := by rw [← (s.tw hfr hlt.1).1 hfu, hrep]
    have hvr := s.rep hlt.2
    refine hno e ((s.hB e).2 he) u v huv hu ?_ (cn_trans (cn_symm (hvr.2 e he.1)) hvt)
    rcases h with ⟨hbk, rfl⟩ | ⟨e0, p, q, h0, hpq, hbk, hq, rfl⟩
    · rw [hbk]; omega
    · intro k
      have hlt0 := Ends.lt s h0.1 hpq
      have hpv : twR R p v := (s.tw hlt0.1 hlt.2).2 (by rw [hbk] at k; omega)
      have hqu : twR R q u := (s.tw hlt0.2 hlt.1).2 (by rw [hq, hu])
      have huv' : cn ea eb (but (· ∈ R) e0) u v := by
        rcases huv with ⟨rfl, rfl⟩ | ⟨rfl, rfl⟩
        · exact cn_edge hz
        · exact cn_symm (cn_edge hz)
      have hpq' : cn ea eb (but (· ∈ R) e0) p q := cn_trans (hpv.2 e0 h0.1) (cn_trans (cn_symm huv') (cn_symm (hqu.2 e0 h0.1)))
      rcases hpq with ⟨rfl, rfl⟩ | ⟨rfl, rfl⟩
      · exact h0.2 hpq'
      · exact h0.2 (cn_symm hpq')

/-- The bridges of the way. -/
def Way (R : List (Int × Int × Int)) (x y : Nat) (ds : List (Int × Int × Int)) : Prop := ds.Nodup ∧ ∀ e, e ∈ ds ↔ sepR R x y e

theorem way_nil (x : Nat) : Way R x x [] := ⟨List.nodup_nil, fun e => by simp [sep, cn_refl]⟩

theorem way_snoc (s : St n R W T B) {fr tg u v : Nat} (hfr : fr < n) (hrep : T.getD fr 0 = fr) {e : Int × Int × Int} (he : brR R e) (huv : Ends e u v) (hu : T.getD u 0 = fr)
    (hc : cn ea eb (but (· ∈ R) e) (T.getD v 0) tg) {ds : List (Int × Int × Int)} (hw : Way R (T.getD v 0) tg ds) : Way R fr tg (ds ++ [e]) := by
  have hlt := huv.lt s he.1
  have hfu : twR R fr u := (s.tw hfr hlt.1).2 (by rw [hrep, hu])
  have hvr := s.rep hlt.2
  refine ⟨?_, fun d => ?_⟩
  · rw [List.nodup_append]
    refine ⟨hw.1, by simp, ?_⟩
    intro x hx y hy
    rw [List.mem_singleton.1 hy]
    rintro rfl
    exact ((hw.2 x).1 hx).2 hc
  · have := sep_step (T := (· ∈ R)) he huv hfu hvr (cn_trans (hvr.2 e he.1) hc) d
    rw [List.mem_append, List.mem_singleton, hw.2]
    simp only [sepR]
    rw [this]
    exact or_comm

theorem Way.mem_B (s : St n R W T B) {x y : Nat} (h : cnR R x y) {ds : List (Int × Int × Int)} (hw : Way R x y ds) : ∀ e ∈ ds, e ∈ B := fun e he => (s.hB e).2 (sep_br h ((hw.2 e).1 he))

theorem Way.ends (s : St n R W T B) {x y : Nat} (hx : x < n) (hy : y < n) {ds : List (Int × Int × Int)} (hw : Way R (T.getD x 0) (T.getD y 0) ds) : ∀ e, e ∈ ds ↔ sepR R x y e := fun e => by
  rw [hw.2]
  exact (sep_congr (s.rep hx) (s.rep hy) e).symm

end Go.Proofs.Ytedcncpkikdldaa.S
