/- Nodes that edges hold together, plainly: what one edge more does to what is together, to the bridges, and to what stays together without any one edge. -/
import Derived.Test.YtebcjaenhiiflaaGreatDoorSM
namespace Go.Proofs.YtebcjaenhiiflaaGreatDoor.S

/-- The least likeness that holds these together. -/
def Conn {α : Type} (S : α → α → Prop) (x y : α) : Prop :=
  ∀ P : α → α → Prop, (∀ x, P x x) → (∀ x y, P x y → P y x) → (∀ x y z, P x y → P y z → P x z) → (∀ x y, S x y → P x y) → P x y

namespace Conn
variable {α : Type} {S S' : α → α → Prop} {x y z : α}
theorem refl (x : α) : Conn S x x := fun _ h _ _ _ => h x
theorem symm (h : Conn S x y) : Conn S y x := fun P a b c d => b _ _ (h P a b c d)
theorem trans (h : Conn S x y) (k : Conn S y z) : Conn S x z := fun P a b c d => c _ _ _ (h P a b c d) (k P a b c d)
theorem base (h : S x y) : Conn S x y := fun _ _ _ _ d => d _ _ h
theorem least {P : α → α → Prop} (h : Conn S x y) (a : ∀ x, P x x) (b : ∀ x y, P x y → P y x) (c : ∀ x y z, P x y → P y z → P x z) (d : ∀ x y, S x y → P x y) : P x y := h P a b c d
theorem lift (h : Conn S x y) (d : ∀ x y, S x y → Conn S' x y) : Conn S' x y := h.least refl (fun _ _ => symm) (fun _ _ _ => trans) d
end Conn

section
variable {α ι : Type} (a b : ι → α)

/-- Together, by these edges. -/
def cn (T : ι → Prop) : α → α → Prop := Conn fun x y => ∃ e, T e ∧ a e = x ∧ b e = y
/-- All but one. -/
def but (T : ι → Prop) (f : ι) : ι → Prop := fun e => T e ∧ e ≠ f
/-- One more. -/
def more (T : ι → Prop) (f : ι) : ι → Prop := fun e => T e ∨ e = f
/-- A bridge. -/
def br (T : ι → Prop) (e : ι) : Prop := T e ∧ ¬ cn a b (but T e) (a e) (b e)
/-- Together without any one edge. -/
def tw (T : ι → Prop) (x y : α) : Prop := cn a b T x y ∧ ∀ e, T e → cn a b (but T e) x y

variable {a b} {T T' : ι → Prop} {x y z u v : α} {e f : ι}

theorem cn_edge (h : T e) : cn a b T (a e) (b e) := Conn.base ⟨e, h, rfl, rfl⟩
theorem cn_lift (h : cn a b T x y) (d : ∀ e, T e → cn a b T' (a e) (b e)) : cn a b T' x y :=
  Conn.lift h (by rintro _ _ ⟨e, he, rfl, rfl⟩; exact d e he)
theorem cn_mono (h : cn a b T x y) (d : ∀ e, T e → T' e) : cn a b T' x y := cn_lift h fun e he => cn_edge (d e he)
theorem cn_but (h : cn a b (but T f) x y) : cn a b T x y := cn_mono h fun _ he => he.1
theorem cn_refl (x : α) : cn a b T x x := Conn.refl x
theorem cn_symm (h : cn a b T x y) : cn a b T y x := Conn.symm h
theorem cn_trans (h : cn a b T x y) (k : cn a b T y z) : cn a b T x z := Conn.trans h k

/-- What an edge may have done. -/
theorem cn_parts (f : ι) (h : cn a b T u v) : cn a b (but T f) u v ∨ (cn a b (but T f) u (a f) ∧ cn a b (but T f) (b f) v) ∨ (cn a b (but T f) u (b f) ∧ cn a b (but T f) (a f) v) := by
  refine Conn.least (P := fun u v => cn a b (but T f) u v ∨ (cn a b (but T f) u (a f) ∧ cn a b (but T f) (b f) v) ∨ (cn a b (but T f) u (b f) ∧ cn a b (but T f) (a f) v)) h (fun x => .inl (cn_refl x)) ?_ ?_ ?_
  · rintro x y (h | ⟨h, k⟩ | ⟨h, k⟩)
    · exact .inl (cn_symm h)
    · exact .inr (.inr ⟨cn_symm k, cn_symm h⟩)
    · exact .inr (.inl ⟨cn_symm k, cn_symm h⟩)
  · rintro x y z (h | ⟨h, k⟩ | ⟨h, k⟩) (h' | ⟨h', k'⟩ | ⟨h', k'⟩)
    · exact .inl (cn_trans h h')
    · exact .inr (.inl ⟨cn_trans h h', k'⟩)
    · exact .inr (.inr ⟨cn_trans h h', k'⟩)
    · exact .inr (.inl ⟨h, cn_trans k h'⟩)
    · exact .inr (.inl ⟨h, k'⟩)
    · exact .inl (cn_trans h k')
    · exact .inr (.inr ⟨h, cn_trans k h'⟩)
    · exact .inl (cn_trans h k')
    · exact .inr (.inr ⟨h, k'⟩)
  · rintro _ _ ⟨e, he, rfl, rfl⟩
    by_cases hf : e = f
    · subst hf; exact .inr (.inl ⟨cn_refl _, cn_refl _⟩)
    · exact .inl (cn_edge ⟨he, hf⟩)

theorem but_more (hf : ¬ T f) : but (more T f) f = T := by
  funext e; apply propext
  exact ⟨fun h => h.1.elim id (fun k => absurd k h.2), fun h => ⟨.inl h, fun k => hf (k ▸ h)⟩⟩
theorem but_more_ne (hne : e ≠ f) : but (more T f) e = more (but T e) f := by
  funext d; apply propext
  constructor
  · rintro ⟨h | h, k⟩
    · exact .inl ⟨h, k⟩
    · exact .inr h
  · rintro (h | h)
    · exact ⟨.inl h.1, h.2⟩
    · subst h; exact ⟨.inr rfl, hne.symm⟩
theorem cn_more_of (h : cn a b T x y) : cn a b (more T f) x y := cn_mono h fun _ => .inl
theorem cn_more_parts (hf : ¬ T f) (h : cn a b (more T f) u v) : cn a b T u v ∨ (cn a b T u (a f) ∧ cn a b T (b f) v) ∨ (cn a b T u (b f) ∧ cn a b T (a f) v) := by
  have := cn_parts f h; rwa [but_more hf] at this
theorem cn_more_edge : cn a b (more T f) (a f) (b f) := cn_edge (.inr rfl)
theorem cn_more_iff (hf : ¬ T f) : cn a b (more T f) u v ↔ cn a b T u v ∨ (cn a b T u (a f) ∧ cn a b T (b f) v) ∨ (cn a b T u (b f) ∧ cn a b T (a f) v) := by
  refine ⟨cn_more_parts hf, ?_⟩
  rintro (h | ⟨h, k⟩ | ⟨h, k⟩)
  · exact cn_more_of h
  · exact cn_trans (cn_more_of h) (cn_trans cn_more_edge (cn_more_of k))
  · exact cn_trans (cn_more_of h) (cn_trans (cn_symm cn_more_edge) (cn_more_of k))

/-- An edge between what was together adds nothing. -/
theorem cn_more_same (h : cn a b T (a f) (b f)) : cn a b (more T f) u v ↔ cn a b T u v :=
  ⟨fun k => cn_lift k (by rintro e (he | rfl); exact cn_edge he; exact h), cn_more_of⟩

-- an edge between two parts
theorem br_apart (hf : ¬ T f) (h : ¬ cn a b T (a f) (b f)) : br a b (more T f) e ↔ br a b T e ∨ e = f := by
  by_cases hne : e = f
  · subst hne
    refine ⟨fun _ => .inr rfl, fun _ => ⟨.inr rfl, ?_⟩⟩
    rw [but_more hf]; exact h
  · have hf' : ¬ but T e f := fun k => hf k.1
    unfold br
    rw [but_more_ne hne]
    constructor
    · rintro ⟨h1 | h1, h2⟩
      · exact .inl ⟨h1, fun k => h2 (cn_more_of k)⟩
      · exact absurd h1 hne
    · rintro (⟨h1, h2⟩ | h1)
      · refine ⟨.inl h1, fun k => ?_⟩
        rcases cn_more_parts hf' k with k | ⟨k1, k2⟩ | ⟨k1, k2⟩
        · exact h2 k
        · exact h (cn_trans (cn_symm (cn_but k1)) (cn_trans (cn_edge h1) (cn_symm (cn_but k2))))
        · exact h (cn_trans (cn_but k2) (cn_trans (cn_symm (cn_edge h1)) (cn_but k1)))
      · exact absurd h1 hne

theorem tw_apart (hf : ¬ T f) (h : ¬ cn a b T (a f) (b f)) : tw a b (more T f) u v ↔ tw a b T u v := by
  constructor
  · rintro ⟨h1, h2⟩
    have h3 : cn a b T u v := by have := h2 f (.inr rfl); rwa [but_more hf] at this
    refine ⟨h3, fun e he => ?_⟩
    have hne : e ≠ f := fun k => hf (k ▸ he)
    have h4 := h2 e (.inl he)
    rw [but_more_ne hne] at h4
    rcases cn_more_parts (fun k => hf k.1) h4 with k | ⟨k1, k2⟩ | ⟨k1, k2⟩
    · exact k
    · exact absurd (cn_trans (cn_symm (cn_but k1)) (cn_trans h3 (cn_symm (cn_but k2)))) h
    · exact absurd (cn_trans (cn_but k2) (cn_trans (cn_symm h3) (cn_but k1))) h
  · rintro ⟨h1, h2⟩
    refine ⟨cn_more_of h1, ?_⟩
    rintro e (he | rfl)
    · have hne : e ≠ f := fun k => hf (k ▸ he)
      rw [but_more_ne hne]; exact cn_more_of (h2 e he)
    · rw [but_more hf]; exact h1

-- an edge within a part
/-- It is between the two. -/
def sep (T : ι → Prop) (a b : ι → α) (x y : α) (e : ι) : Prop := T e ∧ ¬ cn a b (but T e) x y

theorem sep_br (h : cn a b T x y) (s : sep T a b x y e) : br a b T e :=
  ⟨s.1, fun k => s.2 (cn_lift h fun d hd => by
    by_cases hde : d = e
    · subst hde; exact k
    · exact cn_edge ⟨hd, hde⟩)⟩

/-- With the new edge, what stood between is healed. -/
theorem heal (h : cn a b T (a f) (b f)) (s : ¬ cn a b (but T e) (a f) (b f)) : cn a b (more (but T e) f) (a e) (b e) := by
  rcases cn_parts e h with k | ⟨k1, k2⟩ | ⟨k1, k2⟩
  · exact absurd k s
  · exact cn_trans (cn_symm (cn_more_of k1)) (cn_trans cn_more_edge (cn_symm (cn_more_of k2)))
  · exact cn_trans (cn_more_of k2) (cn_trans (cn_symm cn_more_edge) (cn_more_of k1))

theorem br_within (hf : ¬ T f) (h : cn a b T (a f) (b f)) : br a b (more T f) e ↔ br a b T e ∧ ¬ sep T a b (a f) (b f) e := by
  by_cases hne : e = f
  · subst hne
    constructor
    · rintro ⟨_, k⟩; rw [but_more hf] at k; exact absurd h k
    · rintro ⟨k, _⟩; exact absurd k.1 hf
  · unfold br sep
    rw [but_more_ne hne]
    constructor
    · rintro ⟨h1 | h1, h2⟩
      · exact ⟨⟨h1, fun k => h2 (cn_more_of k)⟩, fun s => h2 (heal h s.2)⟩
      · exact absurd h1 hne
    · rintro ⟨⟨h1, h2⟩, h3⟩
      refine ⟨.inl h1, fun k => ?_⟩
      have h4 : cn a b (but T e) (a f) (b f) := Classical.byContradiction fun k' => h3 ⟨h1, k'⟩
      exact h2 ((cn_more_same h4).1 k)

theorem tw_within (hf : ¬ T f) (h : cn a b T (a f) (b f)) : tw a b (more T f) u v ↔ cn a b T u v ∧ ∀ e, T e → cn a b (but T e) (a f) (b f) → cn a b (but T e) u v := by
  constructor
  · rintro ⟨h1, h2⟩
    refine ⟨(cn_more_same h).1 h1, fun e he k => ?_⟩
    have hne : e ≠ f := fun k => hf (k ▸ he)
    have h4 := h2 e (.inl he)
    rw [but_more_ne hne] at h4
    exact (cn_more_same k).1 h4
  · rintro ⟨h1, h2⟩
    refine ⟨cn_more_of h1, ?_⟩
    rintro e (he | rfl)
    · have hne : e ≠ f := fun k => hf (k ▸ he)
      rw [but_more_ne hne]
      by_cases k : cn a b (but T e) (a f) (b f)
      · exact cn_more_of (h2 e he k)
      · refine cn_lift h1 fun d hd => ?_
        by_cases hde : d = e
        · subst hde; exact heal h k
        · exact cn_edge (.inl ⟨hd, hde⟩)
    · rw [but_more hf]; exact h1

-- what bridges and twos are to each other
theorem tw_refl (x : α) : tw a b T x x := ⟨cn_refl x, fun _ _ => cn_refl x⟩
theorem tw_symm (h : tw a b T x y) : tw a b T y x := ⟨cn_symm h.1, fun e he => cn_symm (h.2 e he)⟩
theorem tw_trans (h : tw a b T x y) (k : tw a b T y z) : tw a b T x z := ⟨cn_trans h.1 k.1, fun e he => cn_trans (h.2 e he) (k.2 e he)⟩

/-- An edge is a bridge, or its ends are two ways together. -/
theorem br_or (he : T e) : br a b T e ∨ tw a b T (a e) (b e) := by
  by_cases h : cn a b (but T e) (a e) (b e)
  · refine .inr ⟨cn_edge he, fun d hd => ?_⟩
    by_cases hde : e = d
    · subst hde; exact h
    · exact cn_edge ⟨he, hde⟩
  · exact .inl ⟨he, h⟩

theorem br_not_tw (h : br a b T e) : ¬ tw a b T (a e) (b e) := fun k => h.2 (k.2 e h.1)

/-- Bridges do for the way between two only where they stand between them. -/
theorem cn_seps (N : List ι) : (∀ e ∈ N, br a b T e ∧ cn a b (but T e) x y) → cn a b T x y → cn a b (fun e => T e ∧ e ∉ N) x y := by
  induction N with
  | nil => intro _ h; exact cn_mono h fun e he => ⟨he, by simp⟩
  | cons d N ih =>
    intro hN h
    have h1 := ih (fun e he => hN e (List.mem_cons_of_mem _ he)) h
    have hd := hN d List.mem_cons_self
    have e1 : but (fun e => T e ∧ e ∉ N) d = fun e => T e ∧ e ∉ d :: N := by
      funext e; apply propext; simp only [but, List.mem_cons, not_or]; exact ⟨fun h => ⟨h.1.1, h.2, h.1.2⟩, fun h => ⟨⟨h.1, h.2.2⟩, h.2.1⟩⟩
    have up : ∀ {p q : α}, cn a b (fun e => T e ∧ e ∉ d :: N) p q → cn a b (but T d) p q := fun k => cn_mono k fun e he => ⟨he.1, fun k => he.2 (k ▸ List.mem_cons_self)⟩
    rcases cn_parts d h1 with k | ⟨k1, k2⟩ | ⟨k1, k2⟩
    · rwa [e1] at k
    · rw [e1] at k1 k2
      exact absurd (cn_trans (cn_symm (up k1)) (cn_trans hd.2 (cn_symm (up k2)))) hd.1.2
    · rw [e1] at k1 k2
      exact absurd (cn_trans (up k2) (cn_trans (cn_symm hd.2) (up k1))) hd.1.2

/-- What is two ways together behind a ring's closing: what was, and the ends of what stood between. -/
theorem tw_closed (B : List ι) (hB : ∀ e, e ∈ B ↔ br a b T e) (hf : ¬ T f) (h : cn a b T (a f) (b f)) :
    tw a b (more T f) u v ↔ Conn (fun x y => tw a b T x y ∨ ∃ e, sep T a b (a f) (b f) e ∧ a e = x ∧ b e = y) u v := by
  rw [tw_within hf h]
  constructor
  · rintro ⟨h1, h2⟩
    have hdec : ∃ N : List ι, ∀ e, e ∈ N ↔ e ∈ B ∧ cn a b (but T e) u v := by
      clear h2 h1 hf h hB
      induction B with
      | nil => exact ⟨[], by simp⟩
      | cons d B ih =>
        obtain ⟨N, hN⟩ := ih
        by_cases hd : cn a b (but T d) u v
        · exact ⟨d :: N, fun e => by
            simp only [List.mem_cons, hN]
            constructor
            · rintro (rfl | h)
              · exact ⟨.inl rfl, hd⟩
              · exact ⟨.inr h.1, h.2⟩
            · rintro ⟨rfl | h, k⟩
              · exact .inl rfl
              · exact .inr ⟨h, k⟩⟩
        · exact ⟨N, fun e => by
            simp only [List.mem_cons, hN]
            constructor
            · rintro h; exact ⟨.inr h.1, h.2⟩
            · rintro ⟨rfl | h, k⟩
              · exact absurd k hd
              · exact ⟨h, k⟩⟩
    obtain ⟨N, hN⟩ := hdec
    have h3 := cn_seps N (fun e he => ⟨(hB e).1 ((hN e).1 he).1, ((hN e).1 he).2⟩) h1
    refine Conn.lift h3 ?_
    rintro _ _ ⟨e, ⟨he, hn⟩, rfl, rfl⟩
    rcases br_or he with k | k
    · have hns : ¬ cn a b (but T e) u v := fun c => hn ((hN e).2 ⟨(hB e).2 k, c⟩)
      exact Conn.base (.inr ⟨e, ⟨he, fun c => hns (h2 e he c)⟩, rfl, rfl⟩)
    · exact Conn.base (.inl k)
  · intro k
    refine Conn.least (P := fun u v => cn a b T u v ∧ ∀ e, T e → cn a b (but T e) (a f) (b f) → cn a b (but T e) u v) k (fun x => ⟨cn_refl x, fun _ _ _ => cn_refl x⟩) (fun x y h => ⟨cn_symm h.1, fun e he k => cn_symm (h.2 e he k)⟩) (fun x y z h h' => ⟨cn_trans h.1 h'.1, fun e he k => cn_trans (h.2 e he k) (h'.2 e he k)⟩) ?_
    rintro _ _ (h1 | ⟨e, he, rfl, rfl⟩)
    · exact ⟨h1.1, fun e he _ => h1.2 e he⟩
    · refine ⟨cn_edge he.1, fun d hd k => ?_⟩
      exact cn_edge ⟨he.1, fun c => he.2 (c ▸ k)⟩

-- the way from one part to another
/-- From x some bridge leads on to a part from which y is come to without it. -/
theorem first_step (f0 : ι → Prop) (hf0 : ∀ e, f0 e → T e) (h : cn a b f0 x y) :
    tw a b T x y ∨ ∃ e u v, br a b T e ∧ f0 e ∧ ((a e = u ∧ b e = v) ∨ (b e = u ∧ a e = v)) ∧ tw a b T x u ∧ cn a b (but T e) v y := by
  refine (Conn.least (P := fun p q => (tw a b T x p ∨ ∃ e u v, br a b T e ∧ f0 e ∧ ((a e = u ∧ b e = v) ∨ (b e = u ∧ a e = v)) ∧ tw a b T x u ∧ cn a b (but T e) v p) ↔ (tw a b T x q ∨ ∃ e u v, br a b T e ∧ f0 e ∧ ((a e = u ∧ b e = v) ∨ (b e = u ∧ a e = v)) ∧ tw a b T x u ∧ cn a b (but T e) v q)) h (fun _ => Iff.rfl) (fun _ _ h => h.symm) (fun _ _ _ h k => h.trans k) ?_).1 (.inl (tw_refl x))
  have step : ∀ (d : ι) (p q : α), f0 d → ((a d = p ∧ b d = q) ∨ (b d = p ∧ a d = q)) →
      (tw a b T x p ∨ ∃ e u v, br a b T e ∧ f0 e ∧ ((a e = u ∧ b e = v) ∨ (b e = u ∧ a e = v)) ∧ tw a b T x u ∧ cn a b (but T e) v p) →
      (tw a b T x q ∨ ∃ e u v, br a b T e ∧ f0 e ∧ ((a e = u ∧ b e = v) ∨ (b e = u ∧ a e = v)) ∧ tw a b T x u ∧ cn a b (but T e) v q) := by
    intro d p q hd hpq hp
    have hT := hf0 d hd
    have hcn : ∀ e, e ≠ d → cn a b (but T e) p q := by
      intro e hne
      rcases hpq with ⟨rfl, rfl⟩ | ⟨rfl, rfl⟩
      · exact cn_edge ⟨hT, fun k => hne k.symm⟩
      · exact cn_symm (cn_edge ⟨hT, fun k => hne k.symm⟩)
    rcases hp with hp | ⟨e, u, v, hbr, hfe, huv, hxu, hvp⟩
    · rcases br_or (a := a) (b := b) hT with k | k
      · exact .inr ⟨d, p, q, k, hd, hpq, hp, cn_refl q⟩
      · refine .inl (tw_trans hp ?_)
        rcases hpq with ⟨rfl, rfl⟩ | ⟨rfl, rfl⟩
        · exact k
        · exact tw_symm k
    · by_cases hed : e = d
      · subst hed
        have huv' : ¬ cn a b (but T e) u v := by
          rcases huv with ⟨rfl, rfl⟩ | ⟨rfl, rfl⟩
          · exact hbr.2
          · exact fun k => hbr.2 (cn_symm k)
        have hqu : q = u := by
          rcases huv with ⟨rfl, rfl⟩ | ⟨rfl, rfl⟩ <;> rcases hpq with ⟨rfl, rfl⟩ | ⟨rfl, rfl⟩
          · exact absurd (cn_symm hvp) huv'
          · rfl
          · rfl
          · exact absurd (cn_symm hvp) huv'
        subst hqu
        exact .inl hxu
      · exact .inr ⟨e, u, v, hbr, hfe, huv, hxu, cn_trans hvp (hcn e hed)⟩
  rintro _ _ ⟨d, hd, rfl, rfl⟩
  exact ⟨step d _ _ hd (.inl ⟨rfl, rfl⟩), step d _ _ hd (.inr ⟨rfl, rfl⟩)⟩

/-- Behind a bridge that was gone over, what is come to without it lies within what was left. -/
theorem narrower {e0 e1 : ι} {p q r s t : α} (h0 : br a b T e0) (h1 : br a b T e1) (hne : e0 ≠ e1)
    (h0e : (a e0 = p ∧ b e0 = q) ∨ (b e0 = p ∧ a e0 = q)) (h1e : (a e1 = r ∧ b e1 = s) ∨ (b e1 = r ∧ a e1 = s)) (hqr : tw a b T q r)
    (hc : cn a b (but T e1) t s) : t ≠ a e0 ∧ cn a b (but T e0) t r := by
  have k0 : cn a b (but T e1) p q := by
    rcases h0e with ⟨rfl, rfl⟩ | ⟨rfl, rfl⟩
    · exact cn_edge ⟨h0.1, hne⟩
    · exact cn_symm (cn_edge ⟨h0.1, hne⟩)
  have k1 : ¬ cn a b (but T e1) r s := by
    rcases h1e with ⟨rfl, rfl⟩ | ⟨rfl, rfl⟩
    · exact h1.2
    · exact fun k => h1.2 (cn_symm k)
  have kq : cn a b (but T e1) q r := hqr.2 e1 h1.1
  have nq : ∀ t, cn a b (but T e1) t s → (t = p ∨ t = q) → False := by
    rintro t ht (rfl | rfl)
    · exact k1 (cn_trans (cn_symm kq) (cn_trans (cn_symm k0) ht))
    · exact k1 (cn_trans (cn_symm kq) ht)
  have hends : (a e0 = p ∨ a e0 = q) ∧ (b e0 = p ∨ b e0 = q) := by
    rcases h0e with ⟨h, k⟩ | ⟨h, k⟩
    · exact ⟨.inl h, .inr k⟩
    · exact ⟨.inr k, .inl h⟩
  refine ⟨?_, ?_⟩
  · rintro rfl
    exact nq _ hc hends.1
  · have k2 : cn a b (but T e0) s r := by
      rcases h1e with ⟨rfl, rfl⟩ | ⟨rfl, rfl⟩
      · exact cn_symm (cn_edge ⟨h1.1, fun k => hne k.symm⟩)
      · exact cn_edge ⟨h1.1, fun k => hne k.symm⟩
    have sub : ∀ {p q : α}, cn a b (but (but T e1) e0) p q → cn a b (but T e0) p q := fun k => cn_mono k fun e he => ⟨he.1.1, he.2⟩
    rcases cn_parts e0 hc with k | ⟨_, k⟩ | ⟨_, k⟩
    · exact cn_trans (sub k) k2
    · exact absurd (cn_but k) (fun k => nq _ k hends.2)
    · exact absurd (cn_but k) (fun k => nq _ k hends.1)

theorem sep_congr {x' y' : α} (hx : tw a b T x x') (hy : tw a b T y y') (e : ι) : sep T a b x y e ↔ sep T a b x' y' e :=
  ⟨fun h => ⟨h.1, fun k => h.2 (cn_trans (hx.2 e h.1) (cn_trans k (cn_symm (hy.2 e h.1))))⟩, fun h => ⟨h.1, fun k => h.2 (cn_trans (cn_symm (hx.2 e h.1)) (cn_trans k (hy.2 e h.1)))⟩⟩

/-- What stands between x and y: the bridge at x, and what stands between the next part and y. -/
theorem sep_step {r s : α} (h1 : br a b T e) (he : (a e = r ∧ b e = s) ∨ (b e = r ∧ a e = s)) (hxr : tw a b T x r) (hs : tw a b T s z) (hy : cn a b (but T e) s y) (d : ι) :
    sep T a b x y d ↔ d = e ∨ sep T a b z y d := by
  have k1 : ¬ cn a b (but T e) r s := by
    rcases he with ⟨rfl, rfl⟩ | ⟨rfl, rfl⟩
    · exact h1.2
    · exact fun k => h1.2 (cn_symm k)
  by_cases hde : d = e
  · subst hde
    refine ⟨fun _ => .inl rfl, fun _ => ⟨h1.1, fun k => k1 ?_⟩⟩
    exact cn_trans (cn_symm (hxr.2 d h1.1)) (cn_trans k (cn_symm hy))
  · have k2 : cn a b (but T d) r s := by
      rcases he with ⟨rfl, rfl⟩ | ⟨rfl, rfl⟩
      · exact cn_edge ⟨h1.1, fun k => hde k.symm⟩
      · exact cn_symm (cn_edge ⟨h1.1, fun k => hde k.symm⟩)
    constructor
    · rintro ⟨h2, h3⟩
      exact .inr ⟨h2, fun k => h3 (cn_trans (cn_trans (hxr.2 d h2) k2) (cn_trans (hs.2 d h2) k))⟩
    · rintro (h2 | ⟨h2, h3⟩)
      · exact absurd h2 hde
      · exact ⟨h2, fun k => h3 (cn_trans (cn_symm (hs.2 d h2)) (cn_trans (cn_symm k2) (cn_trans (cn_symm (hxr.2 d h2)) k)))⟩

end
end Go.Proofs.YtebcjaenhiiflaaGreatDoor.S
namespace Go.Proofs.YtebcjaenhiiflaaGreatDoor.S

/-- Alike in a row of n labels. -/
def Lk (n : Nat) (L : List Nat) (u v : Nat) : Prop := u = v ∨ (u < n ∧ v < n ∧ L.getD u 0 = L.getD v 0)

theorem Lk.refl {n : Nat} {L : List Nat} (u : Nat) : Lk n L u u := .inl rfl
theorem Lk.symm {n : Nat} {L : List Nat} {u v : Nat} (h : Lk n L u v) : Lk n L v u := by
  rcases h with h | ⟨h1, h2, h3⟩
  · exact .inl h.symm
  · exact .inr ⟨h2, h1, h3.symm⟩
theorem Lk.trans {n : Nat} {L : List Nat} {u v z : Nat} (h : Lk n L u v) (k : Lk n L v z) : Lk n L u z := by
  rcases h with rfl | ⟨h1, h2, h3⟩
  · exact k
  · rcases k with rfl | ⟨k1, k2, k3⟩
    · exact .inr ⟨h1, h2, h3⟩
    · exact .inr ⟨h1, k2, h3.trans k3⟩
theorem Lk.lt {n : Nat} {L : List Nat} {u v : Nat} (h : Lk n L u v) (hu : u < n) : v < n := by
  rcases h with rfl | h
  · exact hu
  · exact h.2.1
theorem Lk.iff {n : Nat} {L : List Nat} {u v : Nat} (hu : u < n) (hv : v < n) : Lk n L u v ↔ L.getD u 0 = L.getD v 0 := by
  constructor
  · rintro (rfl | h)
    · rfl
    · exact h.2.2
  · exact fun h => .inr ⟨hu, hv, h⟩

theorem named_eq_iff {lo hi p q : Nat} : named lo hi p = named lo hi q ↔ p = q ∨ (p = lo ∧ q = hi) ∨ (p = hi ∧ q = lo) := by
  unfold named
  split <;> split <;> omega

theorem joinL_iff {n : Nat} {L : List Nat} (hl : L.length = n) {x y u v : Nat} (hu : u < n) (hv : v < n) :
    (joinL L x y).getD u 0 = (joinL L x y).getD v 0 ↔ L.getD u 0 = L.getD v 0 ∨ (L.getD u 0 = L.getD x 0 ∧ L.getD y 0 = L.getD v 0) ∨ (L.getD u 0 = L.getD y 0 ∧ L.getD x 0 = L.getD v 0) := by
  rw [joinL_at _ _ _ _ (by omega), joinL_at _ _ _ _ (by omega), named_eq_iff]
  omega

theorem Lk_join {n : Nat} {L : List Nat} (hl : L.length = n) {x y u v : Nat} (hx : x < n) (hy : y < n) :
    Lk n (joinL L x y) u v ↔ Lk n L u v ∨ (Lk n L u x ∧ Lk n L y v) ∨ (Lk n L u y ∧ Lk n L x v) := by
  constructor
  · rintro (rfl | ⟨hu, hv, h⟩)
    · exact .inl (Lk.refl _)
    · rw [joinL_iff hl hu hv] at h
      rw [Lk.iff hu hv, Lk.iff hu hx, Lk.iff hy hv, Lk.iff hu hy, Lk.iff hx hv]
      exact h
  · rintro (h | ⟨h, k⟩ | ⟨h, k⟩)
    · rcases h with rfl | ⟨hu, hv, h⟩
      · exact Lk.refl _
      · rw [Lk.iff hu hv, joinL_iff hl hu hv]; exact .inl h
    · have hu := h.symm.lt hx
      have hv := k.lt hy
      rw [Lk.iff hu hx] at h; rw [Lk.iff hy hv] at k
      rw [Lk.iff hu hv, joinL_iff hl hu hv]; exact .inr (.inl ⟨h, k⟩)
    · have hu := h.symm.lt hy
      have hv := k.lt hx
      rw [Lk.iff hu hy] at h; rw [Lk.iff hx hv] at k
      rw [Lk.iff hu hv, joinL_iff hl hu hv]; exact .inr (.inr ⟨h, k⟩)

/-- The ends of an edge. -/
def ea (e : Int × Int × Int) : Nat := e.2.1.toNat
def eb (e : Int × Int × Int) : Nat := e.2.2.toNat

/-- Many joins. -/
def joins (L : List Nat) : List (Int × Int × Int) → List Nat
  | [] => L
  | d :: ds => joins (joinL L (ea d) (eb d)) ds

theorem good_joins {n : Nat} : ∀ (ds : List (Int × Int × Int)) (L : List Nat), Good n L → (∀ d ∈ ds, ea d < n ∧ eb d < n) → Good n (joins L ds)
  | [], _, g, _ => g
  | d :: ds, _, g, h => good_joins ds _ (good_join g (h d List.mem_cons_self).1 (h d List.mem_cons_self).2) (fun e he => h e (List.mem_cons_of_mem _ he))

theorem Lk_joins {n : Nat} : ∀ (ds : List (Int × Int × Int)) (L : List Nat) {u v : Nat}, Good n L → (∀ d ∈ ds, ea d < n ∧ eb d < n) →
    (Lk n (joins L ds) u v ↔ Conn (fun x y => Lk n L x y ∨ ∃ e, e ∈ ds ∧ ea e = x ∧ eb e = y) u v)
  | [], L, u, v, _, _ => by
    constructor
    · exact fun h => Conn.base (.inl h)
    · exact fun h => Conn.least (P := Lk n L) h (fun _ => Lk.refl _) (fun _ _ h => h.symm) (fun _ _ _ h k => h.trans k) (by
        rintro x y (h | ⟨e, he, _⟩)
        · exact h
        · simp at he)
  | d :: ds, L, u, v, g, hds => by
    have hd := hds d List.mem_cons_self
    have hds' : ∀ e ∈ ds, ea e < n ∧ eb e < n := fun e he => hds e (List.mem_cons_of_mem _ he)
    show Lk n (joins (joinL L (ea d) (eb d)) ds) u v ↔ _
    rw [Lk_joins ds _ (good_join g hd.1 hd.2) hds']
    have bd : Conn (fun x y => Lk n L x y ∨ ∃ e, e ∈ d :: ds ∧ ea e = x ∧ eb e = y) (ea d) (eb d) := Conn.base (.inr ⟨d, List.mem_cons_self, rfl, rfl⟩)
    constructor
    · intro h
      refine Conn.lift h ?_
      rintro x y (h | ⟨e, he, h1, h2⟩)
      · rw [Lk_join g.len hd.1 hd.2] at h
        rcases h with h | ⟨h, k⟩ | ⟨h, k⟩
        · exact Conn.base (.inl h)
        · exact (Conn.base (.inl h)).trans (bd.trans (Conn.base (.inl k)))
        · exact (Conn.base (.inl h)).trans (bd.symm.trans (Conn.base (.inl k)))
      · exact Conn.base (.inr ⟨e, List.mem_cons_of_mem _ he, h1, h2⟩)
    · intro h
      refine Conn.lift h ?_
      rintro x y (h | ⟨e, he, h1, h2⟩)
      · exact Conn.base (.inl ((Lk_join g.len hd.1 hd.2).2 (.inl h)))
      · rcases List.mem_cons.1 he with rfl | he
        · subst h1 h2
          exact Conn.base (.inl ((Lk_join g.len hd.1 hd.2).2 (.inr (.inl ⟨Lk.refl _, Lk.refl _⟩))))
        · exact Conn.base (.inr ⟨e, he, h1, h2⟩)

/-- Together, by the edges of a list. -/
abbrev cnR (R : List (Int × Int × Int)) : Nat → Nat → Prop := cn ea eb (· ∈ R)
abbrev twR (R : List (Int × Int × Int)) : Nat → Nat → Prop := tw ea eb (· ∈ R)
abbrev brR (R : List (Int × Int × Int)) : Int × Int × Int → Prop := br ea eb (· ∈ R)
abbrev sepR (R : List (Int × Int × Int)) (x y : Nat) : Int × Int × Int → Prop := sep (· ∈ R) ea eb x y

/-- The state behind the edges R: W, T: rows of least members; B: the bridges. -/
structure St (n : Nat) (R : List (Int × Int × Int)) (W T : List Nat) (B : List (Int × Int × Int)) : Prop where
  gw : Good n W
  gt : Good n T
  inn : ∀ e ∈ R, ea e < n ∧ eb e < n
  nat : ∀ e ∈ R, e.2.1 = (ea e : Int) ∧ e.2.2 = (eb e : Int)
  one : ∀ e ∈ R, ∀ d ∈ R, e.1 = d.1 → e = d
  hW : ∀ u v, Lk n W u v ↔ cnR R u v
  hT : ∀ u v, Lk n T u v ↔ twR R u v
  hB : ∀ e, e ∈ B ↔ brR R e

theorem more_snoc (R : List (Int × Int × Int)) (f : Int × Int × Int) : (· ∈ R ++ [f]) = more (· ∈ R) f := by
  funext e; apply propext; simp [more]

theorem St.start (n : Nat) : St n [] (List.range n) (List.range n) [] := by
  have h : ∀ u v, Lk n (List.range n) u v ↔ u = v := by
    intro u v
    constructor
    · rintro (h | ⟨h1, h2, h3⟩)
      · exact h
      · simpa [h1, h2] using h3
    · exact fun h => .inl h
  have hc : ∀ u v, cnR [] u v ↔ u = v := by
    intro u v
    constructor
    · exact fun h => Conn.least (P := fun u v => u = v) h (fun _ => rfl) (fun _ _ h => h.symm) (fun _ _ _ h k => h.trans k) (by rintro x y ⟨e, he, _⟩; simp at he)
    · rintro rfl; exact cn_refl _
  refine ⟨good_range n, good_range n, by simp, by simp, by simp, fun u v => by rw [h, hc], fun u v => ?_, fun e => ?_⟩
  · rw [h]
    constructor
    · rintro rfl; exact tw_refl _
    · exact fun k => (hc u v).1 k.1
  · simp [brR, br]

/-- An edge between two parts. -/
theorem St.apart {n : Nat} {R : List (Int × Int × Int)} {W T : List Nat} {B : List (Int × Int × Int)} (s : St n R W T B) (f : Int × Int × Int) (ha : ea f < n) (hb : eb f < n) (hn : f.2.1 = (ea f : Int) ∧ f.2.2 = (eb f : Int)) (hone : ∀ e ∈ R, e.1 ≠ f.1)
    (h : W.getD (ea f) 0 ≠ W.getD (eb f) 0) : St n (R ++ [f]) (joinL W (ea f) (eb f)) T (B ++ [f]) := by
  have hf : ¬ (fun x => x ∈ R) f := fun k => hone f k rfl
  have hc : ¬ cn ea eb (· ∈ R) (ea f) (eb f) := fun k => h ((Lk.iff ha hb).1 ((s.hW _ _).2 k))
  refine ⟨good_join s.gw ha hb, s.gt, ?_, ?_, ?_, fun u v => ?_, fun u v => ?_, fun e => ?_⟩
  · intro e he
    rcases List.mem_append.1 he with he | he
    · exact s.inn e he
    · rw [List.mem_singleton.1 he]; exact ⟨ha, hb⟩
  · intro e he
    rcases List.mem_append.1 he with he | he
    · exact s.nat e he
    · rw [List.mem_singleton.1 he]; exact hn
  · intro e he d hd hed
    rcases List.mem_append.1 he with he | he <;> rcases List.mem_append.1 hd with hd | hd
    · exact s.one e he d hd hed
    · rw [List.mem_singleton.1 hd] at hed; exact absurd hed (hone e he)
    · rw [List.mem_singleton.1 he] at hed; exact absurd hed.symm (hone d hd)
    · rw [List.mem_singleton.1 hd, List.mem_singleton.1 he]
  · rw [Lk_join s.gw.len ha hb]
    simp only [s.hW, cnR]
    rw [more_snoc, cn_more_iff hf]
  · simp only [twR]
    rw [more_snoc, tw_apart hf hc]
    exact s.hT u v
  · simp only [brR]
    rw [more_snoc, br_apart hf hc, List.mem_append, List.mem_singleton, s.hB]

/-- An edge within a part: ds is what stood between. -/
theorem St.within {n : Nat} {R : List (Int × Int × Int)} {W T : List Nat} {B B' ds : List (Int × Int × Int)} (s : St n R W T B) (f : Int × Int × Int) (ha : ea f < n) (hb : eb f < n) (hn : f.2.1 = (ea f : Int) ∧ f.2.2 = (eb f : Int)) (hone : ∀ e ∈ R, e.1 ≠ f.1)
    (h : W.getD (ea f) 0 = W.getD (eb f) 0) (hds : ∀ e, e ∈ ds ↔ sepR R (ea f) (eb f) e) (hB' : ∀ e, e ∈ B' ↔ e ∈ B ∧ e ∉ ds) : St n (R ++ [f]) W (joins T ds) B' := by
  have hf : ¬ (fun x => x ∈ R) f := fun k => hone f k rfl
  have hc : cn ea eb (· ∈ R) (ea f) (eb f) := (s.hW _ _).1 ((Lk.iff ha hb).2 h)
  have hin : ∀ d ∈ ds, ea d < n ∧ eb d < n := fun d hd => s.inn d ((hds d).1 hd).1
  refine ⟨s.gw, good_joins ds T s.gt hin, ?_, ?_, ?_, fun u v => ?_, fun u v => ?_, fun e => ?_⟩
  · intro e he
    rcases List.mem_append.1 he with he | he
    · exact s.inn e he
    · rw [List.mem_singleton.1 he]; exact ⟨ha, hb⟩
  · intro e he
    rcases List.mem_append.1 he with he | he
    · exact s.nat e he
    · rw [List.mem_singleton.1 he]; exact hn
  · intro e he d hd hed
    rcases List.mem_append.1 he with he | he <;> rcases List.mem_append.1 hd with hd | hd
    · exact s.one e he d hd hed
    · rw [List.mem_singleton.1 hd] at hed; exact absurd hed (hone e he)
    · rw [List.mem_singleton.1 he] at hed; exact absurd hed.symm (hone d hd)
    · rw [List.mem_singleton.1 hd, List.mem_singleton.1 he]
  · simp only [cnR]
    rw [more_snoc, cn_more_same hc]
    exact s.hW u v
  · rw [Lk_joins ds T s.gt hin]
    simp only [twR]
    rw [more_snoc, tw_closed B s.hB hf hc]
    have : (fun x y => Lk n T x y ∨ ∃ e, e ∈ ds ∧ ea e = x ∧ eb e = y) = (fun x y => tw ea eb (· ∈ R) x y ∨ ∃ e, sep (· ∈ R) ea eb (ea f) (eb f) e ∧ ea e = x ∧ eb e = y) := by
      funext x y; apply propext
      rw [s.hT]
      simp only [hds]
    rw [this]
  · simp only [brR]
    rw [more_snoc, br_within hf hc, hB', s.hB, hds]

end Go.Proofs.YtebcjaenhiiflaaGreatDoor.S
namespace Go.Proofs.YtebcjaenhiiflaaGreatDoor.S

/-- An edge, named from either end. -/
def Ends (e : Int × Int × Int) (u v : Nat) : Prop := (ea e = u ∧ eb e = v) ∨ (eb e = u ∧ ea e = v)

/-- The edges by which the way may go on: all, or all but the one that was come over. -/
def Hop (R : List (Int × Int × Int)) (T : List Nat) (fr : Nat) (back : Int) (Z : Int × Int × Int → Prop) : Prop :=
  (back = -1 ∧ Z = (· ∈ R)) ∨ ∃ e0 p q, brR R e0 ∧ Ends e0 p q ∧ back = (T.getD p 0 : Nat) ∧ T.getD q 0 = fr ∧ Z = but (· ∈ R) e0

/-- Bridges that may be met yet. -/
def Met (R : List (Int × Int × Int)) (fr : Nat) (Z : Int × Int × Int → Prop) (D : List (Int × Int × Int)) : Prop :=
  ∀ d, brR R d → Z d → cn ea eb Z (ea d) fr → d ∈ D

variable {n : Nat} {R : List (Int × Int × Int)} {W T : List Nat} {B : List (Int × Int × Int)}

theorem Ends.lt (s : St n R W T B) {e : Int × Int × Int} (he : e ∈ R) {u v : Nat} (h : Ends e u v) : u < n ∧ v < n := by
  have := s.inn e he
  rcases h with ⟨rfl, rfl⟩ | ⟨rfl, rfl⟩
  · exact this
  · exact ⟨this.2, this.1⟩

theorem St.rep (s : St n R W T B) {u : Nat} (hu : u < n) : twR R u (T.getD u 0) :=
  (s.hT _ _).1 ((Lk.iff hu (Nat.lt_of_le_of_lt (s.gt.le u hu) hu)).2 (s.gt.idem u hu).symm)
theorem St.tw (s : St n R W T B) {u v : Nat} (hu : u < n) (hv : v < n) : twR R u v ↔ T.getD u 0 = T.getD v 0 := by
  rw [← s.hT, Lk.iff hu hv]
theorem St.lab (s : St n R W T B) {u : Nat} (hu : u < n) : T.getD u 0 < n := Nat.lt_of_le_of_lt (s.gt.le u hu) hu

/-- A bridge at which the way may go on: it is one of those, and so are those behind it. -/
theorem hop_next (s : St n R W T B) {fr tg u v : Nat} {back : Int} {Z : Int × Int × Int → Prop} {D : List (Int × Int × Int)} (h : Hop R T fr back Z) (hD : Met R fr Z D) (hfr : fr < n) (hrep : T.getD fr 0 = fr)
    {e : Int × Int × Int} (he : brR R e) (huv : Ends e u v) (hu : T.getD u 0 = fr) (hv : ((T.getD v 0 : Nat) : Int) ≠ back) :
    Hop R T (T.getD v 0) fr (but (· ∈ R) e) ∧ e ∈ D ∧ Met R (T.getD v 0) (but (· ∈ R) e) (D.filter fun d => decide (d ≠ e)) ∧ (cn ea eb (but (· ∈ R) e) (T.getD v 0) tg → cn ea eb Z fr tg) := by
  have hlt := huv.lt s he.1
  have hfu : twR R fr u := (s.tw hfr hlt.1).2 (by rw [hrep, hu])
  have hvr := s.rep hlt.2
  have hEdge : ∀ d, d ≠ e → cn ea eb (but (· ∈ R) d) u v := by
    intro d hd
    rcases huv with ⟨rfl, rfl⟩ | ⟨rfl, rfl⟩
    · exact cn_edge ⟨he.1, fun k => hd k.symm⟩
    · exact cn_symm (cn_edge ⟨he.1, fun k => hd k.symm⟩)
  have hEdgeR : cnR R u v := by
    rcases huv with ⟨rfl, rfl⟩ | ⟨rfl, rfl⟩
    · exact cn_edge he.1
    · exact cn_symm (cn_edge he.1)
  refine ⟨.inr ⟨e, u, v, he, huv, by rw [hu], rfl, rfl⟩, ?_⟩
  rcases h with ⟨_, rfl⟩ | ⟨e0, p, q, h0, hpq, hbk, hq, rfl⟩
  · refine ⟨?_, ?_, ?_⟩
    · refine hD e he he.1 ?_
      rcases huv with ⟨rfl, rfl⟩ | ⟨rfl, rfl⟩
      · exact cn_symm hfu.1
      · exact cn_trans (cn_symm hEdgeR) (cn_symm hfu.1)
    · intro d hd hz hc
      refine List.mem_filter.2 ⟨hD d hd hd.1 ?_, by simpa using hz.2⟩
      exact cn_trans (cn_but hc) (cn_trans (cn_symm hvr.1) (cn_trans (cn_symm hEdgeR) (cn_symm hfu.1)))
    · intro hc
      exact cn_trans hfu.1 (cn_trans hEdgeR (cn_trans hvr.1 (cn_but hc)))
  · have hlt0 := hpq.lt s h0.1
    have hqf : twR R q fr := (s.tw hlt0.2 hfr).2 (by rw [hrep, hq])
    have hne : e0 ≠ e := by
      rintro rfl
      have hnt : T.getD u 0 ≠ T.getD v 0 := by
        intro k
        have := (s.tw hlt.1 hlt.2).2 k
        rcases huv with ⟨rfl, rfl⟩ | ⟨rfl, rfl⟩
        · exact br_not_tw he this
        · exact br_not_tw he (tw_symm this)
      rcases huv with ⟨rfl, rfl⟩ | ⟨rfl, rfl⟩ <;> rcases hpq with ⟨rfl, rfl⟩ | ⟨rfl, rfl⟩
      · exact hnt (by rw [hu, hq])
      · exact hv hbk.symm
      · exact hv hbk.symm
      · exact hnt (by rw [hu, hq])
    have hqu : twR R q u := tw_trans hqf hfu
    refine ⟨?_, ?_, ?_⟩
    · refine hD e he ⟨he.1, fun k => hne k.symm⟩ ?_
      have hfu0 := hfu.2 e0 h0.1
      have hed := hEdge e0 hne
      rcases huv with ⟨rfl, rfl⟩ | ⟨rfl, rfl⟩
      · exact cn_symm hfu0
      · exact cn_trans (cn_symm hed) (cn_symm hfu0)
    · intro d hd hz hc
      have hc' : cn ea eb (but (· ∈ R) e) (ea d) v := cn_trans hc (cn_symm (hvr.2 e he.1))
      have hnar := narrower h0 he hne hpq huv hqu hc'
      refine List.mem_filter.2 ⟨hD d hd ⟨hd.1, fun k => hnar.1 (by rw [k])⟩ ?_, by simpa using hz.2⟩
      exact cn_trans hnar.2 (cn_symm (hfu.2 e0 h0.1))
    · intro hc
      have hc' : cn ea eb (but (· ∈ R) e) tg v := cn_trans (cn_symm hc) (cn_symm (hvr.2 e he.1))
      have hnar := narrower h0 he hne hpq huv hqu hc'
      exact cn_trans (hfu.2 e0 h0.1) (cn_symm hnar.2)

/-- If none leads on to it, there is no way. -/
theorem hop_none (s : St n R W T B) {fr tg : Nat} {back : Int} {Z : Int × Int × Int → Prop} (h : Hop R T fr back Z) (hfr : fr < n) (hrep : T.getD fr 0 = fr) (hto : tg < n) (hrept : T.getD tg 0 = tg) (hne : fr ≠ tg)
    (hno : ∀ e ∈ B, ∀ u v, Ends e u v → T.getD u 0 = fr → ((T.getD v 0 : Nat) : Int) ≠ back → ¬ cn ea eb (but (· ∈ R) e) (T.getD v 0) tg) : ¬ cn ea eb Z fr tg := by
  intro hc
  have hZ : ∀ e, Z e → e ∈ R := by
    rcases h with ⟨_, rfl⟩ | ⟨e0, p, q, h0, hpq, hbk, hq, rfl⟩
    · exact fun _ h => h
    · exact fun _ h => h.1
  rcases first_step (T := (· ∈ R)) Z hZ hc with h1 | ⟨e, u, v, he, hz, huv, hfu, hvt⟩
  · exact hne (by rw [← hrep, ← hrept]; exact (s.tw hfr hto).1 h1)
  · have hlt := Ends.lt s he.1 huv
    have hu : T.getD u 0 = fr := by rw [← (s.tw hfr hlt.1).1 hfu, hrep]
    have hvr := s.rep hlt.2
    refine hno e ((s.hB e).2 he) u v huv hu ?_ (cn_trans (cn_symm (hvr.2 e he.1)) hvt)
    rcases h with ⟨hbk, rfl⟩ | ⟨e0, p, q, h0, hpq, hbk, hq, rfl⟩
    · rw [hbk]; omega
    · intro k
      have hlt0 := Ends.lt s h0.1 hpq
      have hpv : twR R p v := (s.tw hlt0.1 hlt.2).2 (by rw [hbk] at k; omega)
      have hqu : twR R q u := (s.tw hlt0.2 hlt.1).2 (by rw [hq, hu])
      have huv' : cn ea eb (but (· ∈ R) e0) u v := by
        rcases huv with ⟨rfl, rfl⟩ | ⟨rfl, rfl⟩
        · exact cn_edge hz
        · exact cn_symm (cn_edge hz)
      have hpq' : cn ea eb (but (· ∈ R) e0) p q := cn_trans (hpv.2 e0 h0.1) (cn_trans (cn_symm huv') (cn_symm (hqu.2 e0 h0.1)))
      rcases hpq with ⟨rfl, rfl⟩ | ⟨rfl, rfl⟩
      · exact h0.2 hpq'
      · exact h0.2 (cn_symm hpq')

/-- The bridges of the way. -/
def Way (R : List (Int × Int × Int)) (x y : Nat) (ds : List (Int × Int × Int)) : Prop := ds.Nodup ∧ ∀ e, e ∈ ds ↔ sepR R x y e

theorem way_nil (x : Nat) : Way R x x [] := ⟨List.nodup_nil, fun e => by simp [sep, cn_refl]⟩

theorem way_snoc (s : St n R W T B) {fr tg u v : Nat} (hfr : fr < n) (hrep : T.getD fr 0 = fr) {e : Int × Int × Int} (he : brR R e) (huv : Ends e u v) (hu : T.getD u 0 = fr)
    (hc : cn ea eb (but (· ∈ R) e) (T.getD v 0) tg) {ds : List (Int × Int × Int)} (hw : Way R (T.getD v 0) tg ds) : Way R fr tg (ds ++ [e]) := by
  have hlt := huv.lt s he.1
  have hfu : twR R fr u := (s.tw hfr hlt.1).2 (by rw [hrep, hu])
  have hvr := s.rep hlt.2
  refine ⟨?_, fun d => ?_⟩
  · rw [List.nodup_append]
    refine ⟨hw.1, by simp, ?_⟩
    intro x hx y hy
    rw [List.mem_singleton.1 hy]
    rintro rfl
    exact ((hw.2 x).1 hx).2 hc
  · have := sep_step (T := (· ∈ R)) he huv hfu hvr (cn_trans (hvr.2 e he.1) hc) d
    rw [List.mem_append, List.mem_singleton, hw.2]
    simp only [sepR]
    rw [this]
    exact or_comm

theorem Way.mem_B (s : St n R W T B) {x y : Nat} (h : cnR R x y) {ds : List (Int × Int × Int)} (hw : Way R x y ds) : ∀ e ∈ ds, e ∈ B := fun e he => (s.hB e).2 (sep_br h ((hw.2 e).1 he))

theorem Way.ends (s : St n R W T B) {x y : Nat} (hx : x < n) (hy : y < n) {ds : List (Int × Int × Int)} (hw : Way R (T.getD x 0) (T.getD y 0) ds) : ∀ e, e ∈ ds ↔ sepR R x y e := fun e => by
  rw [hw.2]
  exact (sep_congr (s.rep hx) (s.rep hy) e).symm

end Go.Proofs.YtebcjaenhiiflaaGreatDoor.S
namespace Go.Proofs.YtebcjaenhiiflaaGreatDoor.S

/-- Each label is one that its node is together with. -/
def Lab (n : Nat) (R : List (Int × Int × Int)) (l : List Nat) : Prop := l.length = n ∧ ∀ x, x < n → l.getD x 0 ≤ x ∧ cnR R x (l.getD x 0)

theorem lab_start (n : Nat) (R : List (Int × Int × Int)) : Lab n R (List.range n) := ⟨by simp, fun x hx => by simp [hx, cn_refl]⟩

/-- A label is told. -/
def told (l : List Nat) (u v : Nat) : List Nat := (l.set u (min (l.getD u 0) (l.getD v 0))).set v (min (l.getD u 0) (l.getD v 0))

theorem told_length (l : List Nat) (u v : Nat) : (told l u v).length = l.length := by simp [told]

theorem told_at {l : List Nat} {u v x : Nat} (hx : x < l.length) : (told l u v).getD x 0 = if x = u ∨ x = v then min (l.getD u 0) (l.getD v 0) else l.getD x 0 := by
  unfold told
  by_cases h1 : v = x
  · subst h1; simp [hx]
  · by_cases h2 : u = x
    · subst h2; simp [hx, h1]
    · have : ¬ (x = u ∨ x = v) := by omega
      simp [hx, h1, h2, this]

theorem lab_step {n : Nat} {R : List (Int × Int × Int)} {l : List Nat} (h : Lab n R l) {e : Int × Int × Int} (he : e ∈ R) (ha : ea e < n) (hb : eb e < n) : Lab n R (told l (ea e) (eb e)) := by
  refine ⟨by rw [told_length]; exact h.1, fun x hx => ?_⟩
  rw [told_at (by rw [h.1]; exact hx)]
  have hA := h.2 _ ha
  have hB := h.2 _ hb
  have hc : cnR R (ea e) (eb e) := cn_edge he
  have key : ∀ {x}, x = ea e ∨ x = eb e → cnR R x (min (l.getD (ea e) 0) (l.getD (eb e) 0)) := by
    rintro x (rfl | rfl)
    · rcases Nat.le_total (l.getD (ea e) 0) (l.getD (eb e) 0) with k | k
      · rw [Nat.min_eq_left k]; exact hA.2
      · rw [Nat.min_eq_right k]; exact cn_trans hc hB.2
    · rcases Nat.le_total (l.getD (ea e) 0) (l.getD (eb e) 0) with k | k
      · rw [Nat.min_eq_left k]; exact cn_trans (cn_symm hc) hA.2
      · rw [Nat.min_eq_right k]; exact hB.2
  split
  · next hk =>
    refine ⟨?_, key hk⟩
    rcases hk with rfl | rfl
    · have := hA.1; omega
    · have := hB.1; omega
  · exact h.2 x hx

theorem sum_set : ∀ (l : List Nat) (u k : Nat), u < l.length → (l.set u k).sum + l.getD u 0 = l.sum + k
  | [], u, k, h => by simp at h
  | x :: l, 0, k, _ => by simp; omega
  | x :: l, u + 1, k, h => by
    have := sum_set l u k (by simpa using h)
    simp at this ⊢
    omega

theorem told_sum {l : List Nat} {u v : Nat} (hu : u < l.length) (hv : v < l.length) (hne : l.getD u 0 ≠ l.getD v 0) : (told l u v).sum < l.sum := by
  unfold told
  have huv : u ≠ v := fun k => hne (by rw [k])
  have h1 := sum_set l u (min (l.getD u 0) (l.getD v 0)) hu
  have h2 := sum_set (l.set u (min (l.getD u 0) (l.getD v 0))) v (min (l.getD u 0) (l.getD v 0)) (by simpa using hv)
  have h3 : (l.set u (min (l.getD u 0) (l.getD v 0))).getD v 0 = l.getD v 0 := by simp [huv]
  rw [h3] at h2
  omega

theorem lab_done {n : Nat} {R : List (Int × Int × Int)} {l : List Nat} (h : Lab n R l) (hin : ∀ e ∈ R, ea e < n ∧ eb e < n) (hd : ∀ e ∈ R, l.getD (ea e) 0 = l.getD (eb e) 0) {u v : Nat} (hu : u < n) (hv : v < n) : l.getD u 0 = l.getD v 0 ↔ cnR R u v := by
  constructor
  · intro k
    have h1 := (h.2 u hu).2
    have h2 := (h.2 v hv).2
    rw [k] at h1
    exact cn_trans h1 (cn_symm h2)
  · intro k
    have : Lk n l u v := Conn.least (P := Lk n l) k (fun _ => Lk.refl _) (fun _ _ h => h.symm) (fun _ _ _ h k => h.trans k) (by
      rintro _ _ ⟨e, he, rfl, rfl⟩
      exact .inr ⟨(hin e he).1, (hin e he).2, hd e he⟩)
    exact (Lk.iff hu hv).1 this

/-- All edges but one, by its number. -/
def rest (R : List (Int × Int × Int)) (e : Int × Int × Int) : List (Int × Int × Int) := R.filter fun d => decide (d.1 ≠ e.1)

theorem mem_rest {R : List (Int × Int × Int)} (h1 : ∀ e ∈ R, ∀ d ∈ R, e.1 = d.1 → e = d) {e : Int × Int × Int} (he : e ∈ R) : (· ∈ rest R e) = but (· ∈ R) e := by
  funext d; apply propext
  simp only [rest, List.mem_filter, decide_eq_true_eq, but]
  constructor
  · rintro ⟨h, k⟩; exact ⟨h, fun c => k (by rw [c])⟩
  · rintro ⟨h, k⟩; exact ⟨h, fun c => k (h1 d h e he c)⟩

theorem St.bridge {n : Nat} {R : List (Int × Int × Int)} {W T : List Nat} {B : List (Int × Int × Int)} (s : St n R W T B) {e : Int × Int × Int} (he : e ∈ R) : e ∈ B ↔ ¬ cnR (rest R e) (ea e) (eb e) := by
  rw [s.hB]
  simp only [cnR]
  rw [mem_rest s.one he]
  exact ⟨fun h => h.2, fun h => ⟨he, h⟩⟩

theorem St.twos {n : Nat} {R : List (Int × Int × Int)} {W T : List Nat} {B : List (Int × Int × Int)} (s : St n R W T B) {u v : Nat} (hu : u < n) (hv : v < n) : T.getD u 0 = T.getD v 0 ↔ cnR R u v ∧ ∀ e ∈ R, cnR (rest R e) u v := by
  rw [← s.tw hu hv]
  constructor
  · rintro ⟨h, k⟩
    refine ⟨h, fun e he => ?_⟩
    simp only [cnR]; rw [mem_rest s.one he]; exact k e he
  · rintro ⟨h, k⟩
    refine ⟨h, fun e he => ?_⟩
    have := k e he
    simp only [cnR] at this; rwa [mem_rest s.one he] at this

/-- The bridges' numbers as the document has them. -/
def idsOf (R B : List (Int × Int × Int)) : List Int := (R.filter fun e => decide (e ∈ B)).map (·.1)

theorem rising_eq : ∀ {A B : List Int}, A.Pairwise (· < ·) → B.Pairwise (· < ·) → (∀ x, x ∈ A ↔ x ∈ B) → A = B
  | [], [], _, _, _ => rfl
  | [], b :: B, _, _, h => by have := (h b).2 List.mem_cons_self; simp at this
  | a :: A, [], _, _, h => by have := (h a).1 List.mem_cons_self; simp at this
  | a :: A, b :: B, ha, hb, h => by
    rw [List.pairwise_cons] at ha hb
    have hab : a = b := by
      have h1 := (h a).1 List.mem_cons_self
      have h2 := (h b).2 List.mem_cons_self
      rcases List.mem_cons.1 h1 with h1 | h1
      · exact h1
      · rcases List.mem_cons.1 h2 with h2 | h2
        · exact h2.symm
        · have := hb.1 a h1; have := ha.1 b h2; omega
    subst hab
    refine congrArg _ (rising_eq ha.2 hb.2 fun x => ?_)
    constructor
    · intro hx
      rcases List.mem_cons.1 ((h x).1 (List.mem_cons_of_mem _ hx)) with k | k
      · have := ha.1 x hx; omega
      · exact k
    · intro hx
      rcases List.mem_cons.1 ((h x).2 (List.mem_cons_of_mem _ hx)) with k | k
      · have := hb.1 x hx; omega
      · exact k

theorem ids_rise {R B : List (Int × Int × Int)} (h : R.Pairwise fun x y => x.1 < y.1) : (idsOf R B).Pairwise (· < ·) := by
  unfold idsOf
  rw [List.pairwise_map]
  exact List.Pairwise.filter _ h

theorem mem_ids {R B : List (Int × Int × Int)} (hBR : ∀ e ∈ B, e ∈ R) (x : Int) : x ∈ idsOf R B ↔ ∃ e ∈ B, e.1 = x := by
  simp only [idsOf, List.mem_map, List.mem_filter, decide_eq_true_eq]
  exact ⟨fun ⟨e, h, k⟩ => ⟨e, h.2, k⟩, fun ⟨e, h, k⟩ => ⟨e, ⟨hBR e h, h⟩, k⟩⟩

end Go.Proofs.YtebcjaenhiiflaaGreatDoor.S
