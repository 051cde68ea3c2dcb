/- Rows of least members against what is together: a join, many joins; the state behind each edge. -/
import Derived.Test.YtedcncpkikdldaaST
import Derived.Test.YtedcncpkikdldaaBm
namespace Go.Proofs.Ytedcncpkikdldaa.S



/-- Alike in a row of n labels. -/
def Lk (n : Nat) (L : List Nat) (u v : Nat) : Prop := u = v ∨ (u < n ∧ v < n ∧ L.getD u 0 = L.getD v 0)

theorem Lk.refl {n : Nat} {L : List Nat} (u : Nat) : Lk n L u u := .inl rfl

theorem Lk.symm {n : Nat} {L : List Nat} {u v : Nat} (h : Lk n L u v) : Lk n L v u := by
  rcases h with h | ⟨h1, h2, h3⟩
  · exact .inl h.symm
  · exact .inr ⟨h2, h1, h3.symm⟩

theorem Lk.trans {n : Nat} {L : List Nat} {u v z : Nat} (h : Lk n L u v) (k : Lk n L v z) : Lk n L u z := by
  rcases h with rfl | ⟨h1, h2, h3⟩
  · exact k
  · rcases k with rfl | ⟨k1, k2, k3⟩
    · exact .inr ⟨h1, h2, h3⟩
    · exact .inr ⟨h1, k2, h3.trans k3⟩

theorem Lk.lt {n : Nat} {L : List Nat} {u v : Nat} (h : Lk n L u v) (hu : u < n) : v < n := by
  rcases h with rfl | h
  · exact hu
  · exact h.2.1

theorem Lk.iff {n : Nat} {L : List Nat} {u v : Nat} (hu : u < n) (hv : v < n) : Lk n L u v ↔ L.getD u 0 = L.getD v 0 := by
  constructor
  · rintro (rfl | h)
    · rfl
    · exact h.2.2
  · exact fun h => .inr ⟨hu, hv, h⟩

theorem named_eq_iff {lo hi p q : Nat} : named lo hi p = named lo hi q ↔ p = q ∨ (p = lo ∧ q = hi) ∨ (p = hi ∧ q = lo) := by
  unfold named
  split <;> split <;> omega

theorem joinL_iff {n : Nat} {L : List Nat} (hl : L.length = n) {x y u v : Nat} (hu : u < n) (hv : v < n) :
    (joinL L x y).getD u 0 = (joinL L x y).getD v 0 ↔ L.getD u 0 = L.getD v 0 ∨ (L.getD u 0 = L.getD x 0 ∧ L.getD y 0 = L.getD v 0) ∨ (L.getD u 0 = L.getD y 0 ∧ L.getD x 0 = L.getD v 0) := by
  rw [joinL_at _ _ _ _ (by omega), joinL_at _ _ _ _ (by omega), named_eq_iff]
  omega

theorem Lk_join {n : Nat} {L : List Nat} (hl : L.length = n) {x y u v : Nat} (hx : x < n) (hy : y < n) :
    Lk n (joinL L x y) u v ↔ Lk n L u v ∨ (Lk n L u x ∧ Lk n L y v) ∨ (Lk n L u y ∧ Lk n L x v) := by
  constructor
  · rintro (rfl | ⟨hu, hv, h⟩)
    · exact .inl (Lk.refl _)
    · rw [joinL_iff hl hu hv] at h
      rw [Lk.iff hu hv, Lk.iff hu hx, Lk.iff hy hv, Lk.iff hu hy, Lk.iff hx hv]
      exact h
  · rintro (h | ⟨h, k⟩ | ⟨h, k⟩)
    · rcases h with rfl | ⟨hu, hv, h⟩
      · exact Lk.refl _
      · rw [Lk.iff hu hv, joinL_iff hl hu hv]; exact .inl h
    · have hu := h.symm.lt hx
      have hv := k.lt hy
      rw [Lk.iff hu hx] at h; rw [Lk.iff hy hv] at k
      rw [Lk.iff hu hv, joinL_iff hl hu hv]; exact .inr (.inl ⟨h, k⟩)
    · have hu := h.symm.lt hy
      have hv := k.lt hx
      rw [Lk.iff hu hy] at h; rw [Lk.iff hx hv] at k
      rw [Lk.iff hu hv, joinL_iff hl hu hv]; exact .inr (.inr ⟨h, k⟩)

/-- The ends of an edge. -/
def ea (e : Int × Int × Int) : Nat := e.2.1.toNat

def eb (e : Int × Int × Int) : Nat := e.2.2.toNat

/-- Many joins. -/
def joins (L : List Nat) : List (Int × Int × Int) → List Nat
  | [] => L
  | d :: ds => joins (joinL L (ea d) (eb d)) ds

theorem good_joins {n : Nat} : ∀ (ds : List (Int × Int × Int)) (L : List Nat), Good n L → (∀ d ∈ ds, ea d < n ∧ eb d < n) → Good n (joins L ds)
  | [], _, g, _ => g
  | d :: ds, _, g, h => good_joins ds _ (good_join g (h d List.mem_cons_self).1 (h d List.mem_cons_self).2) (fun e he => h e (List.mem_cons_of_mem _ he))

theorem Lk_joins {n : Nat} : ∀ (ds : List (Int × Int × Int)) (L : List Nat) {u v : Nat}, Good n L → (∀ d ∈ ds, ea d < n ∧ eb d < n) →
    (Lk n (joins L ds) u v ↔ Conn (fun x y => Lk n L x y ∨ ∃ e, e ∈ ds ∧ ea e = x ∧ eb e = y) u v)
  | [], L, u, v, _, _ => by
    constructor
    · exact fun h => Conn.base (.inl h)
    · exact fun h => Conn.least (P := Lk n L) h (fun _ => Lk.refl _) (fun _ _ h => h.symm) (fun _ _ _ h k => h.trans k) (by
        rintro x y (h | ⟨e, he, _⟩)
        · exact h
        · simp at he)
  | d :: ds, L, u, v, g, hds => by
    have hd := hds d List.mem_cons_self
    have hds' : ∀ e ∈ ds, ea e < n ∧ eb e < n := fun e he => hds e (List.mem_cons_of_mem _ he)
    show Lk n (joins (joinL L (ea d) (eb d)) ds) u v ↔ _
    rw [Lk_joins ds _ (good_join g hd.1 hd.2) hds']
    have bd : Conn (fun x y => Lk n L x y ∨ ∃ e, e ∈ d :: ds ∧ ea e = x ∧ eb e = y) (ea d) (eb d) := Conn.base (.inr ⟨d, List.mem_cons_self, rfl, rfl⟩)
    constructor
    · intro h
      refine Conn.lift h ?_
      rintro x y (h | ⟨e, he, h1, h2⟩)
      · rw [Lk_join g.len hd.1 hd.2] at h
        rcases h with h | ⟨h, k⟩ | ⟨h, k⟩
        · exact Conn.base (.inl h)
        · exact (Conn.base (.inl h)).trans (bd.trans (Conn.base (.inl k)))
        · exact (Conn.base (.inl h)).trans (bd.symm.trans (Conn.base (.inl k)))
      · exact Conn.base (.inr ⟨e, List.mem_cons_of_mem _ he, h1, h2⟩)
    · intro h
      refine Conn.lift h ?_
      rintro x y (h | ⟨e, he, h1, h2⟩)
      · exact Conn.base (.inl ((Lk_join g.len hd.1 hd.2).2 (.inl h)))
      · rcases List.mem_cons.1 he with rfl | he
        · subst h1 h2
          exact Conn.base (.inl ((Lk_join g.len hd.1 hd.2).2 (.inr (.inl ⟨Lk.refl _, Lk.refl _⟩))))
        · exact Conn.base (.inr ⟨e, he, h1, h2⟩)

/-- Together, by the edges of a list. -/
abbrev cnR (R : List (Int × Int × Int)) : Nat → Nat → Prop := cn ea eb (· ∈ R)

abbrev twR (R : List (Int × Int × Int)) : Nat → Nat → Prop := tw ea eb (· ∈ R)

abbrev brR (R : List (Int × Int × Int)) : Int × Int × Int → Prop := br ea eb (· ∈ R)

abbrev sepR (R : List (Int × Int × Int)) (x y : Nat) : Int × Int × Int → Prop := sep (· ∈ R) ea eb x y

/-- The state behind the edges R: W, T: rows of least members; B: the bridges. -/
structure St (n : Nat) (R : List (Int × Int × Int)) (W T : List Nat) (B : List (Int × Int × Int)) : Prop where
  gw : Good n W
  gt : Good n T
  inn : ∀ e ∈ R, ea e < n ∧ eb e < n
  nat : ∀ e ∈ R, e.2.1 = (ea e : Int) ∧ e.2.2 = (eb e : Int)
  one : ∀ e ∈ R, ∀ d ∈ R, e.1 = d.1 → e = d
  hW : ∀ u v, Lk n W u v ↔ cnR R u v
  hT : ∀ u v, Lk n T u v ↔ twR R u v
  hB : ∀ e, e ∈ B ↔ brR R e

theorem more_snoc (R : List (Int × Int × Int)) (f : Int × Int × Int) : (· ∈ R ++ [f]) = more (· ∈ R) f := by
  funext e; apply propext; simp [more]

theorem St.start (n : Nat) : St n [] (List.range n) (List.range n) [] := by
  have h : ∀ u v, Lk n (List.range n) u v ↔ u = v := by
    intro u v
    constructor
    · rintro (h | ⟨h1, h2, h3⟩)
      · exact h
      · simpa [h1, h2] using h3
    · exact fun h => .inl h
  have hc : ∀ u v, cnR [] u v ↔ u = v := by
    intro u v
    constructor
    · exact fun h => Conn.least (P := fun u v => u = v) h (fun _ => rfl) (fun _ _ h => h.symm) (fun _ _ _ h k => h.trans k) (by rintro x y ⟨e, he, _⟩; simp at he)
    · rintro rfl; exact cn_refl _
  refine ⟨good_range n, good_range n, by simp, by simp, by simp, fun u v => by rw [h, hc], fun u v => ?_, fun e => ?_⟩
  · rw [h]
    constructor
    · rintro rfl; exact tw_refl _
    · exact fun k => (hc u v).1 k.1
  · simp [brR, br]

/-- An edge between two parts. -/
theorem St.apart {n : Nat} {R : List (Int × Int × Int)} {W T : List Nat} {B : List (Int × Int × Int)} (s : St n R W T B) (f : Int × Int × Int) (ha : ea f < n) (hb : eb f < n) (hn : f.2.1 = (ea f : Int) ∧ f.2.2 = (eb f : Int)) (hone : ∀ e ∈ R, e.1 ≠ f.1)
    (h : W.getD (ea f) 0 ≠ W.getD (eb f) 0) : St n (R ++ [f]) (joinL W (ea f) (eb f)) T (B ++ [f]) := by
  have hf : ¬ (fun x => x ∈ R) f := fun k => hone f k rfl
  have hc : ¬ cn ea eb (· ∈ R) (ea f) (eb f) := fun k => h ((Lk.iff ha hb).1 ((s.hW _ _).2 k))
  refine ⟨good_join s.gw ha hb, s.gt, ?_, ?_, ?_, fun u v => ?_, fun u v => ?_, fun e => ?_⟩
  · intro e he
    rcases List.mem_append.1 he with he | he
    · exact s.inn e he
    · rw [List.mem_singleton.1 he]; exact ⟨ha, hb⟩
  · intro e he
    rcases List.mem_append.1 he with he | he
    · exact s.nat e he
    · rw [List.mem_singleton.1 he]; exact hn
  · intro e he d hd hed
    rcases List.mem_append.1 he with he | he <;> rcases List.mem_append.1 hd with hd | hd
    · exact s.one e he d hd hed
    · rw [List.mem_singleton.1 hd] at hed; exact absurd hed (hone e he)
    · rw [List.mem_singleton.1 he] at hed; exact absurd hed.symm (hone d hd)
    · rw [List.mem_singleton.1 hd, List.mem_singleton.1 he]
  · rw [Lk_join s.gw.len ha hb]
    simp only [s.hW, cnR]
    rw [more_snoc, cn_more_iff hf]
  · simp only [twR]
    rw [more_snoc, tw_apart hf hc]
    exact s.hT u v
  · simp only [brR]
    rw [more_snoc, br_apart hf hc, List.mem_append, List.mem_singleton, s.hB]

/-- An edge within a part: ds is what stood between. -/
theorem St.within {n : Nat} {R : List (Int × Int × Int)} {W T : List Nat} {B B' ds : List (Int × Int × Int)} (s : St n R W T B) (f : Int × Int × Int) (ha : ea f < n) (hb : eb f < n) (hn : f.2.1 = (ea f : Int) ∧ f.2.2 = (eb f : Int)) (hone : ∀ e ∈ R, e.1 ≠ f.1)
    (h : W.getD (ea f) 0 = W.getD (eb f) 0) (hds : ∀ e, e ∈ ds ↔ sepR R (ea f) (eb f) e) (hB' : ∀ e, e ∈ B' ↔ e ∈ B ∧ e ∉ ds) : St n (R ++ [f]) W (joins T ds) B' := by
  have hf : ¬ (fun x => x ∈ R) f := fun k => hone f k rfl
  have hc : cn ea eb (· ∈ R) (ea f) (eb f) := (s.hW _ _).1 ((Lk.iff ha hb).2 h)
  have hin : ∀ d ∈ ds, ea d < n ∧ eb d < n := fun d hd => s.inn d ((hds d).1 hd).1
  refine ⟨s.gw, good_joins ds T s.gt hin, ?_, ?_, ?_, fun u v => ?_, fun u v => ?_, fun e => ?_⟩
  · intro e he
    rcases List.mem_append.1 he with he | he
    · exact s.inn e he
    · rw [List.mem_singleton.1 he]; exact ⟨ha, hb⟩
  · intro e he
    rcases List.mem_append.1 he with he | he
    · exact s.nat e he
    · rw [List.mem_singleton.1 he]; exact hn
  · intro e he d hd hed
    rcases List.mem_append.1 he with he | he <;> rcases List.mem_append.1 hd with hd | hd
    · exact s.one e he d hd hed
    · rw [List.mem_singleton.1 hd] at hed; exact absurd hed (hone e he)
    · rw [List.mem_singleton.1 he] at hed; exact absurd hed.symm (hone d hd)
    · rw [List.mem_singleton.1 hd, List.mem_singleton.1 he]
  · simp only [cnR]
    rw [more_snoc, cn_more_same hc]
    exact s.hW u v
  · rw [Lk_joins ds T s.gt hin]
    simp only [twR]
    rw [more_snoc, tw_closed B s.hB hf hc]
    have : (fun x y => Lk n T x y ∨ ∃ e, e ∈ ds ∧ ea e = x ∧ eb e = y) = (fun x y => tw ea eb (· ∈ R) x y ∨ ∃ e, sep (· ∈ R) ea eb (ea f) (eb f) e ∧ ea e = x ∧ eb e = y) := by
      funext x y; apply propext
      rw [s.hT]
      simp only [hds]
    rw [this]
  · simp only [brR]
    rw [more_snoc, br_within hf hc, hB', s.hB, hds]

end Go.Proofs.Ytedcncpkikdldaa.S
