/- Blocks, plainly: two edges at a node lie on one ring, if their other ends are together without that node; and so on. Blocks meet at nodes that part. -/
import Derived.Test.YtigodbamphejmaaGreatDoorBM
namespace Go.Proofs.YtigodbamphejmaaGreatDoor.S

theorem list_eq_of_getD {n : Nat} {A B : List Nat} (ha : A.length = n) (hb : B.length = n) (h : ∀ i, i < n → A.getD i 0 = B.getD i 0) : A = B := by
  apply List.ext_getElem
  · omega
  · intro i h1 h2
    have := h i (by omega)
    simpa [h1, h2] using this

/-- A row of least members hangs on what is alike alone. -/
theorem good_eq {n : Nat} {L M : List Nat} (g : Good n L) (h : Good n M) (e : ∀ u v, Lk n L u v ↔ Lk n M u v) : L = M := by
  have key : ∀ {L M : List Nat}, Good n L → Good n M → (∀ u v, Lk n L u v ↔ Lk n M u v) → ∀ i, i < n → M.getD i 0 ≤ L.getD i 0 := by
    intro L M g h e i hi
    have hl : L.getD i 0 < n := Nat.lt_of_le_of_lt (g.le i hi) hi
    have h1 : Lk n L (L.getD i 0) i := (Lk.iff hl hi).2 (g.idem i hi)
    have h2 := (Lk.iff hl hi).1 ((e _ _).1 h1)
    rw [← h2]
    exact h.le _ hl
  refine list_eq_of_getD g.len h.len (fun i hi => ?_)
  have h1 := key g h e i hi
  have h2 := key h g (fun u v => (e u v).symm) i hi
  omega

/-- An edge at a node; its other end; all edges but a node's. -/
def tch (e : Int × Int × Int) (x : Nat) : Prop := ea e = x ∨ eb e = x
instance (e : Int × Int × Int) (x : Nat) : Decidable (tch e x) := inferInstanceAs (Decidable (_ ∨ _))
def ot (e : Int × Int × Int) (x : Nat) : Nat := if x = ea e then eb e else ea e
def wo (R : List (Int × Int × Int)) (x : Nat) : List (Int × Int × Int) := R.filter fun d => decide (ea d ≠ x ∧ eb d ≠ x)
/-- Two edges at a node lie on one ring through it. -/
def Rx (R : List (Int × Int × Int)) (x i j : Nat) : Prop := ∃ e f, R[i]? = some e ∧ R[j]? = some f ∧ tch e x ∧ tch f x ∧ cnR (wo R x) (ot e x) (ot f x)
/-- Two edges of one block, by their places. -/
def Blk (R : List (Int × Int × Int)) : Nat → Nat → Prop := Conn fun i j => ∃ x, Rx R x i j

section
variable {R : List (Int × Int × Int)} {x y z i j k u v : Nat} {e f : Int × Int × Int}

theorem mem_wo : e ∈ wo R x ↔ e ∈ R ∧ ea e ≠ x ∧ eb e ≠ x := by simp [wo]

theorem ot_end (_ : tch e x) (hp : ea e ≠ eb e) : tch e (ot e x) ∧ ot e x ≠ x := by
  unfold tch ot at *
  split
  · next k => exact ⟨.inr rfl, fun c => hp (by omega)⟩
  · next k => exact ⟨.inl rfl, fun c => k c.symm⟩

theorem ot_of (h : tch e x) (hy : tch e y) (hne : y ≠ x) : ot e x = y := by
  unfold tch ot at *
  split <;> omega

/-- An edge's ends but one node are together without it. -/
theorem ends_wo (he : e ∈ R) (hy : tch e y) (hz : tch e z) (hyx : y ≠ x) (hzx : z ≠ x) : cnR (wo R x) y z := by
  by_cases hyz : y = z
  · subst hyz; exact cn_refl _
  · unfold tch at hy hz
    rcases hy with hy | hy <;> rcases hz with hz | hz
    · omega
    · have := cn_edge (a := ea) (b := eb) (T := (· ∈ wo R x)) (mem_wo.2 ⟨he, by omega, by omega⟩)
      rw [hy, hz] at this; exact this
    · have := cn_edge (a := ea) (b := eb) (T := (· ∈ wo R x)) (mem_wo.2 ⟨he, by omega, by omega⟩)
      rw [hy, hz] at this; exact cn_symm this
    · omega

/-- A node is alone without its edges. -/
theorem alone (h : cnR (wo R x) x y) : y = x := by
  have : (x = x ↔ y = x) := Conn.least (P := fun u v => (u = x ↔ v = x)) h (fun _ => Iff.rfl) (fun _ _ h => h.symm) (fun _ _ _ h k => h.trans k) (by
    rintro _ _ ⟨e, he, rfl, rfl⟩
    have := mem_wo.1 he
    constructor <;> intro c <;> omega)
  exact this.1 rfl

theorem Rx.symm (h : Rx R x i j) : Rx R x j i := by
  obtain ⟨e, f, h1, h2, h3, h4, h5⟩ := h
  exact ⟨f, e, h2, h1, h4, h3, cn_symm h5⟩
theorem Rx.trans (h : Rx R x i j) (k' : Rx R x j k) : Rx R x i k := by
  obtain ⟨e, f, h1, h2, h3, h4, h5⟩ := h
  obtain ⟨f', g, k1, k2, k3, k4, k5⟩ := k'
  rw [h2] at k1; cases k1
  exact ⟨e, g, h1, k2, h3, k4, cn_trans h5 k5⟩
theorem Rx.refl (h : R[i]? = some e) (ht : tch e x) : Rx R x i i := ⟨e, e, h, h, ht, ht, cn_refl _⟩

/-- All of a block but one node is together without it. -/
theorem block_side (hp : ∀ e ∈ R, ea e ≠ eb e) (h : Blk R i j) (hi : R[i]? = some e) (hj : R[j]? = some f) (hy : tch e y) (hz : tch f z) (hyx : y ≠ x) (hzx : z ≠ x) : cnR (wo R x) y z := by
  have key : i = j ∨ ∃ e f, R[i]? = some e ∧ R[j]? = some f ∧ ∀ y z, tch e y → tch f z → y ≠ x → z ≠ x → cnR (wo R x) y z := by
    refine Conn.least (P := fun i j => i = j ∨ ∃ e f, R[i]? = some e ∧ R[j]? = some f ∧ ∀ y z, tch e y → tch f z → y ≠ x → z ≠ x → cnR (wo R x) y z) h (fun _ => .inl rfl) ?_ ?_ ?_
    · rintro i j (h | ⟨e, f, h1, h2, h3⟩)
      · exact .inl h.symm
      · exact .inr ⟨f, e, h2, h1, fun y z hy hz hyx hzx => cn_symm (h3 z y hz hy hzx hyx)⟩
    · rintro i j k (rfl | ⟨e, f, h1, h2, h3⟩) (rfl | ⟨f', g, k1, k2, k3⟩)
      · exact .inl rfl
      · exact .inr ⟨f', g, k1, k2, k3⟩
      · exact .inr ⟨e, f, h1, h2, h3⟩
      · rw [h2] at k1; cases k1
        refine .inr ⟨e, g, h1, k2, fun y z hy hz hyx hzx => ?_⟩
        have hpf := hp f (List.mem_of_getElem? h2)
        by_cases hc : ea f = x
        · exact cn_trans (h3 y (eb f) hy (.inr rfl) hyx (by omega)) (k3 (eb f) z (.inr rfl) hz (by omega) hzx)
        · exact cn_trans (h3 y (ea f) hy (.inl rfl) hyx hc) (k3 (ea f) z (.inl rfl) hz hc hzx)
    · rintro i j ⟨w, e, f, h1, h2, h3, h4, h5⟩
      refine .inr ⟨e, f, h1, h2, fun y z hy hz hyx hzx => ?_⟩
      by_cases hw : w = x
      · subst hw
        rw [ot_of h3 hy hyx, ot_of h4 hz hzx] at h5; exact h5
      · exact cn_trans (ends_wo (List.mem_of_getElem? h1) hy h3 hyx hw) (ends_wo (List.mem_of_getElem? h2) h4 hz hw hzx)
  rcases key with rfl | ⟨e', f', h1, h2, h3⟩
  · rw [hi] at hj; cases hj
    exact ends_wo (List.mem_of_getElem? hi) hy hz hyx hzx
  · rw [hi] at h1; rw [hj] at h2; cases h1; cases h2
    exact h3 y z hy hz hyx hzx

/-- Two edges at a node are of one block just if they lie on one ring through it. -/
theorem block_at (hp : ∀ e ∈ R, ea e ≠ eb e) (hi : R[i]? = some e) (hj : R[j]? = some f) (he : tch e x) (hf : tch f x) : Blk R i j ↔ cnR (wo R x) (ot e x) (ot f x) := by
  constructor
  · intro h
    have h1 := ot_end he (hp e (List.mem_of_getElem? hi))
    have h2 := ot_end hf (hp f (List.mem_of_getElem? hj))
    exact block_side hp h hi hj h1.1 h2.1 h1.2 h2.2
  · intro h
    exact Conn.base ⟨x, e, f, hi, hj, he, hf, h⟩

/-- Two blocks that have two nodes in common are one. -/
theorem block_two (hp : ∀ e ∈ R, ea e ≠ eb e) {i' j' : Nat} {e' f' : Int × Int × Int} (hi : R[i]? = some e) (hj : R[j]? = some f) (hi' : R[i']? = some e') (hj' : R[j']? = some f')
    (he : tch e x) (hf : tch f x) (he' : tch e' y) (hf' : tch f' y) (hxy : x ≠ y) (h : Blk R i i') (k : Blk R j j') : Blk R i j := by
  rw [block_at hp hi hj he hf]
  have h1 := ot_end he (hp e (List.mem_of_getElem? hi))
  have h2 := ot_end hf (hp f (List.mem_of_getElem? hj))
  have a1 := block_side (x := x) hp h hi hi' h1.1 he' h1.2 hxy.symm
  have a2 := block_side (x := x) hp k hj hj' h2.1 hf' h2.2 hxy.symm
  exact cn_trans a1 (cn_symm a2)

theorem getElem?_inj_of {i j : Nat} (hn : R.Pairwise fun a b => a.1 < b.1) (h : R[i]? = some e) (k : R[j]? = some e) : i = j := by
  obtain ⟨hi, h⟩ := List.getElem?_eq_some_iff.1 h
  obtain ⟨hj, k⟩ := List.getElem?_eq_some_iff.1 k
  rw [List.pairwise_iff_getElem] at hn
  rcases Nat.lt_trichotomy i j with c | c | c
  · have := hn i j hi hj c; rw [h, k] at this; omega
  · exact c
  · have := hn j i hj hi c; rw [h, k] at this; omega

/-- A block of one edge is a bridge, and a bridge a block. -/
theorem block_bridge (hp : ∀ e ∈ R, ea e ≠ eb e) (hn : R.Pairwise fun a b => a.1 < b.1) (hi : R[i]? = some e) : brR R e ↔ ∀ j, Blk R i j → j = i := by
  have heR := List.mem_of_getElem? hi
  have hpe := hp e heR
  constructor
  · rintro ⟨_, hb⟩ j h
    have : (i = i ↔ j = i) := Conn.least (P := fun u v => (u = i ↔ v = i)) h (fun _ => Iff.rfl) (fun _ _ h => h.symm) (fun _ _ _ h k => h.trans k) (by
      have key : ∀ {x v}, Rx R x i v → v = i := by
        rintro x v ⟨e', f, h1, h2, h3, h4, h5⟩
        rw [hi] at h1; cases h1
        refine Classical.byContradiction fun hv => hb ?_
        have hef : f ≠ e := fun c => hv (getElem?_inj_of hn h2 (c ▸ hi))
        have a1 : cn ea eb (but (· ∈ R) e) (ot e x) (ot f x) := cn_mono h5 (fun d hd => ⟨(mem_wo.1 hd).1, fun c => by
          subst c
          have := (mem_wo.1 hd).2
          unfold tch at h3
          omega⟩)
        have a2 : cn ea eb (but (· ∈ R) e) (ea f) (eb f) := cn_edge ⟨List.mem_of_getElem? h2, hef⟩
        have hpf := hp f (List.mem_of_getElem? h2)
        have a3 : cn ea eb (but (· ∈ R) e) (ot f x) x := by
          rcases h4 with h4 | h4
          · rw [ot_of (y := eb f) (.inl h4) (.inr rfl) (by omega)]
            rw [h4] at a2; exact cn_symm a2
          · rw [ot_of (y := ea f) (.inr h4) (.inl rfl) (by omega)]
            rw [h4] at a2; exact a2
        have a4 := cn_trans a1 a3
        rcases h3 with h3 | h3
        · rw [ot_of (y := eb e) (.inl h3) (.inr rfl) (by omega)] at a4
          rw [h3]; exact cn_symm a4
        · rw [ot_of (y := ea e) (.inr h3) (.inl rfl) (by omega)] at a4
          rw [h3]; exact a4
      rintro u v ⟨x, hr⟩
      constructor
      · intro c; rw [c] at hr; exact key hr
      · intro c; rw [c] at hr; exact key hr.symm)
    exact this.1 rfl
  · intro h
    refine ⟨heR, fun hc => ?_⟩
    -- some other edge at the first end leads to what the second one is together with
    have hno : ∀ f ∈ R, f ≠ e → tch f (ea e) → ¬ cnR (wo R (ea e)) (eb e) (ot f (ea e)) := by
      intro f hf hfe ht hcn
      obtain ⟨j, hj⟩ := List.getElem?_of_mem hf
      have : j = i := h j (Conn.base ⟨ea e, e, f, hi, hj, .inl rfl, ht, by rw [ot_of (y := eb e) (.inl rfl) (.inr rfl) hpe.symm]; exact hcn⟩)
      subst this
      rw [hi] at hj; cases hj
      exact hfe rfl
    have hx : ¬ cnR (wo R (ea e)) (eb e) (ea e) := fun c => hpe (alone (cn_symm c)).symm
    have : (cnR (wo R (ea e)) (eb e) (ea e) ↔ cnR (wo R (ea e)) (eb e) (eb e)) := Conn.least (P := fun u v => (cnR (wo R (ea e)) (eb e) u ↔ cnR (wo R (ea e)) (eb e) v)) hc (fun _ => Iff.rfl) (fun _ _ h => h.symm) (fun _ _ _ h k => h.trans k) (by
      rintro _ _ ⟨d, ⟨hd, hde⟩, rfl, rfl⟩
      have hpd := hp d hd
      by_cases ht : tch d (ea e)
      · have h1 := hno d hd hde ht
        rcases ht with ht | ht
        · rw [ot_of (y := eb d) (.inl ht) (.inr rfl) (by omega)] at h1
          rw [ht]; exact ⟨fun c => absurd c hx, fun c => absurd c h1⟩
        · rw [ot_of (y := ea d) (.inr ht) (.inl rfl) (by omega)] at h1
          rw [ht]; exact ⟨fun c => absurd c h1, fun c => absurd c hx⟩
      · have hd' : cnR (wo R (ea e)) (ea d) (eb d) := cn_edge (mem_wo.2 ⟨hd, fun c => ht (.inl c), fun c => ht (.inr c)⟩)
        exact ⟨fun c => cn_trans c hd', fun c => cn_trans c (cn_symm hd')⟩)
    exact hx (this.2 (cn_refl _))

/-- A node parts just if two of its edges lie on no ring through it. -/
theorem cut_iff (hp : ∀ e ∈ R, ea e ≠ eb e) : (∃ u v, u ≠ x ∧ v ≠ x ∧ cnR R u v ∧ ¬ cnR (wo R x) u v) ↔ ∃ e ∈ R, ∃ f ∈ R, tch e x ∧ tch f x ∧ ¬ cnR (wo R x) (ot e x) (ot f x) := by
  have edge : ∀ {e}, e ∈ R → tch e x → cnR R (ot e x) x := by
    intro e he ht
    have hpe := hp e he
    have := cn_edge (a := ea) (b := eb) (T := (· ∈ R)) he
    rcases ht with h | h
    · rw [ot_of (y := eb e) (.inl h) (.inr rfl) (by omega)]; rw [h] at this; exact cn_symm this
    · rw [ot_of (y := ea e) (.inr h) (.inl rfl) (by omega)]; rw [h] at this; exact this
  constructor
  · rintro ⟨u, v, hu, hv, h, hn⟩
    refine Classical.byContradiction fun hno => ?_
    have hall : ∀ e ∈ R, ∀ f ∈ R, tch e x → tch f x → cnR (wo R x) (ot e x) (ot f x) := fun e he f hf h1 h2 => Classical.byContradiction fun c => hno ⟨e, he, f, hf, h1, h2, c⟩
    have key := Conn.least (P := fun u v => ((u = x ∨ ∃ e ∈ R, tch e x ∧ cnR (wo R x) u (ot e x)) ∧ (v = x ∨ ∃ e ∈ R, tch e x ∧ cnR (wo R x) v (ot e x))) ∨ cnR (wo R x) u v) h (fun _ => .inr (cn_refl _)) ?_ ?_ ?_
    · rcases key with ⟨h1, h2⟩ | h1
      · rcases h1 with h1 | ⟨e, he, ht, h1⟩
        · exact hu h1
        · rcases h2 with h2 | ⟨f, hf, ht', h2⟩
          · exact hv h2
          · exact hn (cn_trans h1 (cn_trans (hall e he f hf ht ht') (cn_symm h2)))
      · exact hn h1
    · rintro u v (⟨h1, h2⟩ | h)
      · exact .inl ⟨h2, h1⟩
      · exact .inr (cn_symm h)
    · have go : ∀ {v w}, (v = x ∨ ∃ e ∈ R, tch e x ∧ cnR (wo R x) v (ot e x)) → cnR (wo R x) v w → (w = x ∨ ∃ e ∈ R, tch e x ∧ cnR (wo R x) w (ot e x)) := by
        rintro v w (rfl | ⟨e, he, ht, h⟩) hc
        · exact .inl (alone hc)
        · exact .inr ⟨e, he, ht, cn_trans (cn_symm hc) h⟩
      rintro u v w (⟨h1, h2⟩ | h) (⟨k1, k2⟩ | k)
      · exact .inl ⟨h1, k2⟩
      · exact .inl ⟨h1, go h2 k⟩
      · exact .inl ⟨go k1 (cn_symm h), k2⟩
      · exact .inr (cn_trans h k)
    · rintro _ _ ⟨d, hd, rfl, rfl⟩
      have hpd := hp d hd
      by_cases ht : tch d x
      · refine .inl ?_
        rcases ht with h | h
        · exact ⟨.inl h, .inr ⟨d, hd, .inl h, by rw [ot_of (y := eb d) (.inl h) (.inr rfl) (by omega)]; exact cn_refl _⟩⟩
        · exact ⟨.inr ⟨d, hd, .inr h, by rw [ot_of (y := ea d) (.inr h) (.inl rfl) (by omega)]; exact cn_refl _⟩, .inl h⟩
      · exact .inr (cn_edge (mem_wo.2 ⟨hd, fun c => ht (.inl c), fun c => ht (.inr c)⟩))
  · rintro ⟨e, he, f, hf, h1, h2, h3⟩
    exact ⟨ot e x, ot f x, (ot_end h1 (hp e he)).2, (ot_end h2 (hp f hf)).2, cn_trans (edge he h1) (cn_symm (edge hf h2)), h3⟩

/-- The state of the program: labels of edges by their places; behind the nodes below x, and the edges at x that are in D. -/
structure Bs (R : List (Int × Int × Int)) (x : Nat) (D L : List Nat) : Prop where
  good : Good R.length L
  alike : ∀ u v, Lk R.length L u v ↔ Conn (fun i j => (∃ y, y < x ∧ Rx R y i j) ∨ (i ∈ D ∧ j ∈ D ∧ Rx R x i j)) u v

variable {D L : List Nat}

theorem bs_start (R : List (Int × Int × Int)) : Bs R 0 [] (List.range R.length) := by
  refine ⟨good_range _, fun u v => ⟨?_, fun h => ?_⟩⟩
  · rintro (rfl | ⟨h1, h2, h3⟩)
    · exact Conn.refl _
    · have e1 : (List.range R.length).getD u 0 = u := by simp [h1]
      have e2 : (List.range R.length).getD v 0 = v := by simp [h2]
      rw [e1, e2] at h3; subst h3; exact Conn.refl _
  · exact Conn.least (P := Lk R.length (List.range R.length)) h (fun _ => Lk.refl _) (fun _ _ h => h.symm) (fun _ _ _ h k => h.trans k) (by
      rintro i j (⟨y, hy, _⟩ | ⟨h, _⟩)
      · omega
      · simp at h)

theorem Rx.lt (h : Rx R x i j) : i < R.length ∧ j < R.length := by
  obtain ⟨e, f, h1, h2, _⟩ := h
  exact ⟨(List.getElem?_eq_some_iff.1 h1).1, (List.getElem?_eq_some_iff.1 h2).1⟩

theorem bs_new (s : Bs R x D L) (hno : ∀ j ∈ D, ¬ Rx R x j i) : Bs R x (D ++ [i]) L := by
  refine ⟨s.good, fun u v => ?_⟩
  rw [s.alike]
  constructor
  · intro h
    refine Conn.lift h ?_
    rintro p q (h | ⟨h1, h2, h3⟩)
    · exact Conn.base (.inl h)
    · exact Conn.base (.inr ⟨List.mem_append_left _ h1, List.mem_append_left _ h2, h3⟩)
  · intro h
    refine Conn.lift h ?_
    rintro p q (h | ⟨h1, h2, h3⟩)
    · exact Conn.base (.inl h)
    · rcases List.mem_append.1 h1 with h1 | h1
      · rcases List.mem_append.1 h2 with h2 | h2
        · exact Conn.base (.inr ⟨h1, h2, h3⟩)
        · rw [List.mem_singleton.1 h2] at h3
          exact absurd h3 (hno p h1)
      · rcases List.mem_append.1 h2 with h2 | h2
        · rw [List.mem_singleton.1 h1] at h3
          exact absurd h3.symm (hno q h2)
        · rw [List.mem_singleton.1 h1, List.mem_singleton.1 h2]; exact Conn.refl _

theorem bs_join (s : Bs R x D L) (hj : j ∈ D) (h : Rx R x j i) : Bs R x (D ++ [i]) (joinL L j i) := by
  have hl := h.lt
  refine ⟨good_join s.good hl.1 hl.2, fun u v => ?_⟩
  rw [Lk_join s.good.len hl.1 hl.2]
  have up : ∀ {u v}, Lk R.length L u v → Conn (fun p q => (∃ y, y < x ∧ Rx R y p q) ∨ (p ∈ D ++ [i] ∧ q ∈ D ++ [i] ∧ Rx R x p q)) u v := by
    intro u v h
    refine Conn.lift ((s.alike u v).1 h) ?_
    rintro p q (h | ⟨h1, h2, h3⟩)
    · exact Conn.base (.inl h)
    · exact Conn.base (.inr ⟨List.mem_append_left _ h1, List.mem_append_left _ h2, h3⟩)
  have b : Conn (fun p q => (∃ y, y < x ∧ Rx R y p q) ∨ (p ∈ D ++ [i] ∧ q ∈ D ++ [i] ∧ Rx R x p q)) j i := Conn.base (.inr ⟨List.mem_append_left _ hj, by simp, h⟩)
  constructor
  · rintro (h | ⟨h, k⟩ | ⟨h, k⟩)
    · exact up h
    · exact (up h).trans (b.trans (up k))
    · exact (up h).trans (b.symm.trans (up k))
  · intro h'
    have key : Lk R.length (joinL L j i) u v := Conn.least (P := Lk R.length (joinL L j i)) h' (fun _ => Lk.refl _) (fun _ _ h => h.symm) (fun _ _ _ h k => h.trans k) (by
      have old : ∀ {p q}, Lk R.length L p q → Lk R.length (joinL L j i) p q := fun h => (Lk_join s.good.len hl.1 hl.2).2 (.inl h)
      have ji : Lk R.length (joinL L j i) j i := (Lk_join s.good.len hl.1 hl.2).2 (.inr (.inl ⟨Lk.refl _, Lk.refl _⟩))
      rintro p q (h1 | ⟨h1, h2, h3⟩)
      · exact old ((s.alike p q).2 (Conn.base (.inl h1)))
      · rcases List.mem_append.1 h1 with h1 | h1
        · rcases List.mem_append.1 h2 with h2 | h2
          · exact old ((s.alike p q).2 (Conn.base (.inr ⟨h1, h2, h3⟩)))
          · rw [List.mem_singleton.1 h2] at h3 ⊢
            exact (old ((s.alike p j).2 (Conn.base (.inr ⟨h1, hj, h3.trans h.symm⟩)))).trans ji
        · rw [List.mem_singleton.1 h1] at h3 ⊢
          rcases List.mem_append.1 h2 with h2 | h2
          · exact (ji.symm).trans (old ((s.alike j q).2 (Conn.base (.inr ⟨hj, h2, h.trans h3⟩))))
          · rw [List.mem_singleton.1 h2]; exact Lk.refl _)
    exact (Lk_join s.good.len hl.1 hl.2).1 key

theorem bs_next (s : Bs R x D L) (hD : ∀ i e, R[i]? = some e → tch e x → i ∈ D) : Bs R (x + 1) [] L := by
  refine ⟨s.good, fun u v => ?_⟩
  rw [s.alike]
  constructor
  · intro h
    refine Conn.lift h ?_
    rintro p q (⟨y, hy, h⟩ | ⟨_, _, h3⟩)
    · exact Conn.base (.inl ⟨y, by omega, h⟩)
    · exact Conn.base (.inl ⟨x, by omega, h3⟩)
  · intro h
    refine Conn.lift h ?_
    rintro p q (⟨y, hy, h⟩ | ⟨h, _⟩)
    · by_cases c : y = x
      · rw [c] at h
        obtain ⟨e, f, h1, h2, h3, h4, _⟩ := id h
        exact Conn.base (.inr ⟨hD p e h1 h3, hD q f h2 h4, h⟩)
      · exact Conn.base (.inl ⟨y, by omega, h⟩)
    · simp at h

theorem bs_end {n : Nat} (s : Bs R n [] L) (hin : ∀ e ∈ R, ea e < n ∧ eb e < n) (u v : Nat) : Lk R.length L u v ↔ Blk R u v := by
  rw [s.alike]
  constructor
  · intro h
    refine Conn.lift h ?_
    rintro p q (⟨y, _, h⟩ | ⟨h, _⟩)
    · exact Conn.base ⟨y, h⟩
    · simp at h
  · intro h
    refine Conn.lift h ?_
    rintro p q ⟨y, h⟩
    obtain ⟨e, f, h1, h2, h3, h4, _⟩ := id h
    have := hin e (List.mem_of_getElem? h1)
    refine Conn.base (.inl ⟨y, ?_, h⟩)
    unfold tch at h3
    omega

/-- The first edges of the parts at a node: a part, and the place of the edge that came first. -/
def lb (R : List (Int × Int × Int)) (x : Nat) (K : List Nat) (j : Nat) : Nat := K.getD (ot (R.getD j (0, 0, 0)) x) 0

structure Gth (R : List (Int × Int × Int)) (x : Nat) (K D : List Nat) (ks : List (Nat × Nat)) : Prop where
  nd : ks.Pairwise fun p q => p.1 ≠ q.1
  at_ : ∀ p ∈ ks, p.2 ∈ D ∧ lb R x K p.2 = p.1
  all : ∀ j ∈ D, ∃ p ∈ ks, p.1 = lb R x K j

theorem gth_start (R : List (Int × Int × Int)) (x : Nat) (K : List Nat) : Gth R x K [] [] := ⟨.nil, by simp, by simp⟩

theorem gth_new {K : List Nat} {ks : List (Nat × Nat)} (g : Gth R x K D ks) (hno : ∀ p ∈ ks, p.1 ≠ lb R x K i) : Gth R x K (D ++ [i]) (ks ++ [(lb R x K i, i)]) := by
  refine ⟨?_, ?_, ?_⟩
  · rw [List.pairwise_append]
    exact ⟨g.nd, List.pairwise_singleton _ _, fun p hp q hq => by rw [List.mem_singleton.1 hq]; exact hno p hp⟩
  · intro p hp
    rcases List.mem_append.1 hp with h | h
    · exact ⟨List.mem_append_left _ (g.at_ p h).1, (g.at_ p h).2⟩
    · rw [List.mem_singleton.1 h]; exact ⟨by simp, rfl⟩
  · intro j hj
    rcases List.mem_append.1 hj with h | h
    · obtain ⟨p, h1, h2⟩ := g.all j h
      exact ⟨p, List.mem_append_left _ h1, h2⟩
    · rw [List.mem_singleton.1 h]; exact ⟨(lb R x K i, i), by simp, rfl⟩

theorem gth_old {K : List Nat} {ks : List (Nat × Nat)} (g : Gth R x K D ks) {p : Nat × Nat} (hp : p ∈ ks) (h : p.1 = lb R x K i) : Gth R x K (D ++ [i]) ks := by
  refine ⟨g.nd, fun p hp => ⟨List.mem_append_left _ (g.at_ p hp).1, (g.at_ p hp).2⟩, ?_⟩
  intro j hj
  rcases List.mem_append.1 hj with h' | h'
  · exact g.all j h'
  · rw [List.mem_singleton.1 h']; exact ⟨p, hp, h⟩

theorem getD_of {i : Nat} (h : R[i]? = some e) : R.getD i (0, 0, 0) = e := by simp [h]

/-- Labels of the nodes without one: alike just if together. -/
def Kx (n : Nat) (R : List (Int × Int × Int)) (x : Nat) (K : List Nat) : Prop := ∀ u v, u < n → v < n → (K.getD u 0 = K.getD v 0 ↔ cnR (wo R x) u v)

theorem ot_lt {n : Nat} (hin : ∀ e ∈ R, ea e < n ∧ eb e < n) (he : e ∈ R) : ot e x < n := by
  have := hin e he
  unfold ot; split <;> omega

theorem Rx_lb {n : Nat} {K : List Nat} (hK : Kx n R x K) (hin : ∀ e ∈ R, ea e < n ∧ eb e < n) (hi : R[i]? = some e) (hj : R[j]? = some f) (he : tch e x) (hf : tch f x) : Rx R x i j ↔ lb R x K i = lb R x K j := by
  unfold lb
  rw [getD_of hi, getD_of hj, hK _ _ (ot_lt hin (List.mem_of_getElem? hi)) (ot_lt hin (List.mem_of_getElem? hj))]
  constructor
  · rintro ⟨e', f', h1, h2, _, _, h5⟩
    rw [hi] at h1; rw [hj] at h2; cases h1; cases h2; exact h5
  · exact fun h => ⟨e, f, hi, hj, he, hf, h⟩

/-- A node with edges into several parts is one that parts. -/
theorem gth_cut {n : Nat} {K : List Nat} {ks : List (Nat × Nat)} (g : Gth R x K D ks) (hK : Kx n R x K) (hin : ∀ e ∈ R, ea e < n ∧ eb e < n) (hD : ∀ i, i ∈ D ↔ ∃ e, R[i]? = some e ∧ tch e x) :
    1 < ks.length ↔ ∃ e ∈ R, ∃ f ∈ R, tch e x ∧ tch f x ∧ ¬ cnR (wo R x) (ot e x) (ot f x) := by
  have key : ∀ {i j e f}, R[i]? = some e → R[j]? = some f → (lb R x K i = lb R x K j ↔ cnR (wo R x) (ot e x) (ot f x)) := by
    intro i j e f hi hj
    unfold lb
    rw [getD_of hi, getD_of hj, hK _ _ (ot_lt hin (List.mem_of_getElem? hi)) (ot_lt hin (List.mem_of_getElem? hj))]
  constructor
  · intro h
    match ks, g, h with
    | p :: q :: r, g, _ =>
      have h1 := g.at_ p (by simp)
      have h2 := g.at_ q (by simp)
      obtain ⟨e, he, ht⟩ := (hD _).1 h1.1
      obtain ⟨f, hf, ht'⟩ := (hD _).1 h2.1
      refine ⟨e, List.mem_of_getElem? he, f, List.mem_of_getElem? hf, ht, ht', fun c => ?_⟩
      rw [← key he hf, h1.2, h2.2] at c
      exact (List.pairwise_cons.1 g.nd).1 q (by simp) c
  · rintro ⟨e, he, f, hf, ht, ht', h⟩
    obtain ⟨i, hi⟩ := List.getElem?_of_mem he
    obtain ⟨j, hj⟩ := List.getElem?_of_mem hf
    obtain ⟨p, hp, hp'⟩ := g.all i ((hD i).2 ⟨e, hi, ht⟩)
    obtain ⟨q, hq, hq'⟩ := g.all j ((hD j).2 ⟨f, hj, ht'⟩)
    rw [← key hi hj, ← hp', ← hq'] at h
    match ks, hp, hq with
    | [], hp, _ => simp at hp
    | [r], hp, hq =>
      rw [List.mem_singleton.1 hp, List.mem_singleton.1 hq] at h
      exact absurd rfl h
    | _ :: _ :: _, _, _ => simp

/-- The document's labels of edges: each is one of its block. -/
def Lbs (R : List (Int × Int × Int)) (l : List Nat) : Prop := l.length = R.length ∧ ∀ i, i < R.length → l.getD i 0 ≤ i ∧ Blk R i (l.getD i 0)

theorem lbs_start (R : List (Int × Int × Int)) : Lbs R (List.range R.length) := ⟨by simp, fun i hi => by
  have e : (List.range R.length).getD i 0 = i := by simp [hi]
  rw [e]; exact ⟨Nat.le_refl _, Conn.refl _⟩⟩

theorem lbs_step {l : List Nat} (h : Lbs R l) (hr : Rx R x i k) (hlt : l.getD i 0 < l.getD k 0) : Lbs R (l.set k (l.getD i 0)) ∧ (l.set k (l.getD i 0)).sum < l.sum := by
  have hl := hr.lt
  refine ⟨⟨by simp [h.1], fun j hj => ?_⟩, ?_⟩
  · by_cases c : k = j
    · subst c
      have e : (l.set k (l.getD i 0)).getD k 0 = l.getD i 0 := by simp [h.1, hl.2]
      rw [e]
      have h1 := h.2 k hl.2
      exact ⟨by omega, (Conn.base ⟨x, hr.symm⟩ : Blk R k i).trans (h.2 i hl.1).2⟩
    · have e : (l.set k (l.getD i 0)).getD j 0 = l.getD j 0 := by simp [c]
      rw [e]; exact h.2 j hj
  · have := sum_set l k (l.getD i 0) (by rw [h.1]; exact hl.2)
    omega

theorem lbs_done {l : List Nat} (h : Lbs R l) (hd : ∀ x i k, Rx R x i k → ¬ l.getD i 0 < l.getD k 0) : Good R.length l ∧ ∀ u v, Lk R.length l u v ↔ Blk R u v := by
  have hiff : ∀ u v, Lk R.length l u v ↔ Blk R u v := by
    intro u v
    constructor
    · rintro (rfl | ⟨h1, h2, h3⟩)
      · exact Conn.refl _
      · have a := (h.2 u h1).2
        have b := (h.2 v h2).2
        rw [h3] at a
        exact Conn.trans a (Conn.symm b)
    · intro k
      exact Conn.least (P := Lk R.length l) k (fun _ => Lk.refl _) (fun _ _ h => h.symm) (fun _ _ _ h k => h.trans k) (by
        rintro p q ⟨x, hr⟩
        have h1 := hd x p q hr
        have h2 := hd x q p hr.symm
        exact .inr ⟨hr.lt.1, hr.lt.2, by omega⟩)
  refine ⟨⟨h.1, fun i hi => (h.2 i hi).1, fun i hi => ?_⟩, hiff⟩
  have h1 := (hiff i (l.getD i 0)).2 (h.2 i hi).2
  rcases h1 with h1 | ⟨_, _, h3⟩
  · rw [← h1, ← h1]
  · exact h3.symm

/-- The program's labels and the document's are one. -/
theorem bs_lbs {n : Nat} {l : List Nat} (s : Bs R n [] L) (hin : ∀ e ∈ R, ea e < n ∧ eb e < n) (g : Good R.length l) (h : ∀ u v, Lk R.length l u v ↔ Blk R u v) : L = l :=
  good_eq s.good g (fun u v => (bs_end s hin u v).trans (h u v).symm)

end

end Go.Proofs.YtigodbamphejmaaGreatDoor.S
