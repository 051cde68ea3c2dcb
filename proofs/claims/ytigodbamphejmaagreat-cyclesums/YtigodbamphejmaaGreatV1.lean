/- Rings: what goes round an edge, which edges part together, what no two edges part. -/
import Derived.Test.YtigodbamphejmaaGreatBM
namespace Go.Proofs.YtigodbamphejmaaGreat.S

section
variable {ι α : Type} {a b : ι → α} {T O : ι → Prop} {x y z e f o : ι} {u v w : α}

/-- A forest and other edges within its parts. -/
structure Forest (a b : ι → α) (T O : ι → Prop) : Prop where
  tree : ∀ f, T f → ¬ cn a b (but T f) (a f) (b f)
  rest : ∀ o, O o → cn a b T (a o) (b o)
  apart : ∀ f, T f → ¬ O f

/-- All edges. -/
def un (T O : ι → Prop) : ι → Prop := fun e => T e ∨ O e

/-- The ring of o goes round f. -/
def cov (a b : ι → α) (T : ι → Prop) (f o : ι) : Prop := (T f ∧ ¬ cn a b (but T f) (a o) (b o)) ∨ (¬ T f ∧ f = o)

theorem Forest.all (h : Forest a b T O) (k : cn a b (un T O) u v) : cn a b T u v :=
  cn_lift k fun e he => he.elim cn_edge (h.rest e)

theorem Forest.own (h : Forest a b T O) (ho : O o) : cov a b T o o := .inr ⟨fun ht => h.apart o ht ho, rfl⟩

/-- Two sides of a tree's edge. -/
theorem Forest.side (h : Forest a b T O) (hx : T x) (k1 : cn a b T u v) (k2 : cn a b T v w) (n1 : ¬ cn a b (but T x) u v) (n2 : ¬ cn a b (but T x) v w) : cn a b (but T x) u w := by
  have hb := h.tree x hx
  rcases cn_parts x k1 with h1 | ⟨h1, h2⟩ | ⟨h1, h2⟩
  · exact absurd h1 n1
  · rcases cn_parts x k2 with g1 | ⟨g1, g2⟩ | ⟨g1, g2⟩
    · exact absurd g1 n2
    · exact absurd (cn_symm (cn_trans h2 g1)) hb
    · exact cn_trans h1 g2
  · rcases cn_parts x k2 with g1 | ⟨g1, g2⟩ | ⟨g1, g2⟩
    · exact absurd g1 n2
    · exact cn_trans h1 g2
    · exact absurd (cn_trans h2 g1) hb

/-- A bridge is an edge round which nothing goes. -/
theorem Forest.bridge (h : Forest a b T O) (hf : un T O f) : br a b (un T O) f ↔ ∀ o, O o → ¬ cov a b T f o := by
  by_cases ht : T f
  · constructor
    · rintro hb o ho (⟨_, hc⟩ | ⟨hn, _⟩)
      · refine hb.2 ?_
        have hne : o ≠ f := fun e => h.apart f ht (e ▸ ho)
        have sub : ∀ {p q}, cn a b (but T f) p q → cn a b (but (un T O) f) p q := fun k => cn_mono k fun e he => ⟨.inl he.1, he.2⟩
        have hoe : cn a b (but (un T O) f) (a o) (b o) := cn_edge ⟨.inr ho, hne⟩
        rcases cn_parts f (h.rest o ho) with k | ⟨k1, k2⟩ | ⟨k1, k2⟩
        · exact absurd k hc
        · exact cn_trans (cn_symm (sub k1)) (cn_trans hoe (cn_symm (sub k2)))
        · exact cn_trans (sub k2) (cn_trans (cn_symm hoe) (sub k1))
      · exact hn ht
    · intro hall
      refine ⟨hf, fun k => h.tree f ht (cn_lift k ?_)⟩
      rintro e ⟨he | he, hne⟩
      · exact cn_edge ⟨he, hne⟩
      · exact Classical.byContradiction fun hc => hall e he (.inl ⟨ht, hc⟩)
  · have ho : O f := hf.resolve_left ht
    constructor
    · intro hb
      refine absurd (cn_mono (h.rest f ho) fun e he => ?_) hb.2
      exact ⟨.inl he, fun e' => ht (e' ▸ he)⟩
    · intro hall
      exact absurd (h.own ho) (hall f ho)

theorem but_comm (T : ι → Prop) (x y : ι) : but (but T x) y = but (but T y) x := by
  funext e; apply propext
  exact ⟨fun ⟨⟨h1, h2⟩, h3⟩ => ⟨⟨h1, h3⟩, h2⟩, fun ⟨⟨h1, h2⟩, h3⟩ => ⟨⟨h1, h3⟩, h2⟩⟩

/-- Without an edge that is no bridge all is together as it was. -/
theorem keep_one {G : ι → Prop} (hx : G x → cn a b (but G x) (a x) (b x)) (k : cn a b G u v) : cn a b (but G x) u v := by
  refine cn_lift k fun e he => ?_
  by_cases hex : e = x
  · subst hex; exact hx he
  · exact cn_edge ⟨he, hex⟩

theorem not_br {G : ι → Prop} (h : ¬ br a b G x) (hx : G x) : cn a b (but G x) (a x) (b x) := Classical.byContradiction fun k => h ⟨hx, k⟩

/-- Which of two is taken away first does not matter. -/
theorem pair_symm {G : ι → Prop} (hx : G x) (hy : G y) (hne : x ≠ y) (ny : ¬ br a b G y) (h : br a b (but G x) y) : br a b (but G y) x := by
  refine ⟨⟨hx, hne⟩, fun k => h.2 ?_⟩
  rw [but_comm]
  exact keep_one (fun _ => k) (not_br ny hy)

/-- Two that are no bridges part together just if the same rings go round both. -/
theorem Forest.pair (h : Forest a b T O) (hx : un T O x) (hy : un T O y) (hne : x ≠ y) (nx : ¬ br a b (un T O) x) (ny : ¬ br a b (un T O) y) :
    br a b (but (un T O) x) y ↔ ∀ o, O o → (cov a b T x o ↔ cov a b T y o) := by
  -- one that is in no tree, and one of the tree
  have mixed : ∀ {x y : ι}, O x → T y → x ≠ y → ¬ br a b (un T O) y → (br a b (but (un T O) x) y ↔ ∀ o, O o → (cov a b T x o ↔ cov a b T y o)) := by
    intro x y ox ty hne ny
    have hb : br a b (but (un T O) x) y ↔ ∀ o, O o → o ≠ x → ¬ cov a b T y o := by
      have hF : Forest a b T (but O x) := ⟨h.tree, fun o ho => h.rest o ho.1, fun f hf ho => h.apart f hf ho.1⟩
      have e : but (un T O) x = un T (but O x) := by
        funext e; apply propext
        constructor
        · rintro ⟨h1 | h1, h2⟩
          · exact .inl h1
          · exact .inr ⟨h1, h2⟩
        · rintro (h1 | ⟨h1, h2⟩)
          · exact ⟨.inl h1, fun k => h.apart e h1 (k ▸ ox)⟩
          · exact ⟨.inr h1, h2⟩
      rw [e, hF.bridge (.inl ty)]
      exact ⟨fun k o ho hn => k o ⟨ho, hn⟩, fun k o ho => k o ho.1 ho.2⟩
    have hxo : ∀ o, cov a b T x o ↔ x = o := fun o => by
      have : ¬ T x := fun k => h.apart x k ox
      simp [cov, this]
    rw [hb]
    constructor
    · intro k o ho
      rw [hxo]
      have only : ∀ o', O o' → cov a b T y o' → o' = x := fun o' ho' hc => Classical.byContradiction fun hn => k o' ho' hn hc
      constructor
      · rintro rfl
        obtain ⟨o', ho', hc⟩ : ∃ o', O o' ∧ cov a b T y o' := Classical.byContradiction fun hn => ny ((h.bridge (.inl ty)).2 fun o' ho' hc => hn ⟨o', ho', hc⟩)
        rw [only o' ho' hc] at hc; exact hc
      · intro hc; exact (only o ho hc).symm
    · intro k o ho hn hc
      exact hn ((hxo o).1 ((k o ho).2 hc)).symm
  by_cases tx : T x
  · by_cases ty : T y
    · have K1 : ∀ {p q}, cn a b (but (but T x) y) p q → cn a b (but (but (un T O) x) y) p q := fun k => cn_mono k fun e he => ⟨⟨.inl he.1.1, he.1.2⟩, he.2⟩
      have hoin : ∀ o, O o → cn a b (but (but (un T O) x) y) (a o) (b o) := fun o ho => cn_edge ⟨⟨.inr ho, fun e => h.apart x tx (e ▸ ho)⟩, fun e => h.apart y ty (e ▸ ho)⟩
      -- an edge that goes round one of two alone ties that one's ends
      have tie : ∀ {x y : ι}, T x → T y → (∀ {p q}, cn a b (but (but T x) y) p q → cn a b (but (but (un T O) x) y) p q) → (∀ o, O o → cn a b (but (but (un T O) x) y) (a o) (b o)) → ∀ o, O o → cov a b T x o → ¬ cov a b T y o → x ≠ y → cn a b (but (but (un T O) x) y) (a x) (b x) := by
        intro x y tx ty K1 hoin o ho hc hn hne
        have k1 : ¬ cn a b (but T x) (a o) (b o) := by
          rcases hc with ⟨_, k⟩ | ⟨k, _⟩
          · exact k
          · exact absurd tx k
        have k2 : cn a b (but T y) (a o) (b o) := Classical.byContradiction fun k => hn (.inl ⟨ty, k⟩)
        rcases cn_parts x k2 with k | ⟨p1, p2⟩ | ⟨p1, p2⟩
        · rw [but_comm] at k
          exact absurd (cn_but k) k1
        · rw [but_comm] at p1 p2
          exact cn_trans (cn_symm (K1 p1)) (cn_trans (hoin o ho) (cn_symm (K1 p2)))
        · rw [but_comm] at p1 p2
          exact cn_trans (K1 p2) (cn_trans (cn_symm (hoin o ho)) (K1 p1))
      constructor
      · intro hb o ho
        constructor
        · intro hc
          refine Classical.byContradiction fun hn => hb.2 ?_
          have hxx := tie tx ty K1 hoin o ho hc hn hne
          rw [but_comm] at hxx ⊢
          exact keep_one (fun _ => hxx) (not_br ny hy)
        · intro hc
          refine Classical.byContradiction fun hn => hb.2 ?_
          have := tie (x := y) (y := x) ty tx (fun k => by rw [but_comm] at k ⊢; exact K1 k) (fun o ho => by rw [but_comm]; exact hoin o ho) o ho hc hn (fun e => hne e.symm)
          rw [but_comm] at this; exact this
      · intro hall
        refine ⟨⟨hy, fun e => hne e.symm⟩, fun k => ?_⟩
        -- alike from both sides
        have Q := Conn.least (P := fun p q => cn a b T p q ∧ (cn a b (but T x) p q ↔ cn a b (but T y) p q)) k (fun p => ⟨cn_refl p, ⟨fun _ => cn_refl p, fun _ => cn_refl p⟩⟩) ?_ ?_ ?_
        · have e1 : cn a b (but T x) (a y) (b y) := cn_edge ⟨ty, fun e => hne e.symm⟩
          exact h.tree y ty (Q.2.1 e1)
        · rintro p q ⟨h1, h2⟩
          exact ⟨cn_symm h1, ⟨fun k => cn_symm (h2.1 (cn_symm k)), fun k => cn_symm (h2.2 (cn_symm k))⟩⟩
        · rintro p q r ⟨h1, h2⟩ ⟨g1, g2⟩
          refine ⟨cn_trans h1 g1, ?_⟩
          by_cases c1 : cn a b (but T x) p q
          · have c1' := h2.1 c1
            by_cases c2 : cn a b (but T x) q r
            · have c2' := g2.1 c2
              exact ⟨fun _ => cn_trans c1' c2', fun _ => cn_trans c1 c2⟩
            · have c2' : ¬ cn a b (but T y) q r := fun k => c2 (g2.2 k)
              exact ⟨fun k => absurd (cn_trans (cn_symm c1) k) c2, fun k => absurd (cn_trans (cn_symm c1') k) c2'⟩
          · have c1' : ¬ cn a b (but T y) p q := fun k => c1 (h2.2 k)
            by_cases c2 : cn a b (but T x) q r
            · have c2' := g2.1 c2
              exact ⟨fun k => absurd (cn_trans k (cn_symm c2)) c1, fun k => absurd (cn_trans k (cn_symm c2')) c1'⟩
            · have c2' : ¬ cn a b (but T y) q r := fun k => c2 (g2.2 k)
              exact ⟨fun _ => h.side ty h1 g1 c1' c2', fun _ => h.side tx h1 g1 c1 c2⟩
        · rintro p q ⟨e, ⟨⟨he | he, h1⟩, h2⟩, rfl, rfl⟩
          · exact ⟨cn_edge he, ⟨fun _ => cn_edge ⟨he, h2⟩, fun _ => cn_edge ⟨he, h1⟩⟩⟩
          · refine ⟨h.rest e he, ?_⟩
            have := hall e he
            have ex : cov a b T x e ↔ ¬ cn a b (but T x) (a e) (b e) := by simp [cov, tx]
            have ey : cov a b T y e ↔ ¬ cn a b (but T y) (a e) (b e) := by simp [cov, ty]
            rw [ex, ey] at this
            exact ⟨fun ha => Classical.byContradiction fun nb => this.2 nb ha, fun hb => Classical.byContradiction fun na => this.1 na hb⟩
    · have oy : O y := hy.resolve_left ty
      have := mixed (x := y) (y := x) oy tx (fun e => hne e.symm) nx
      constructor
      · intro hb o ho
        exact (this.1 (pair_symm hx hy hne ny hb) o ho).symm
      · intro hall
        exact pair_symm hy hx (fun e => hne e.symm) nx (this.2 fun o ho => (hall o ho).symm)
  · have ox : O x := hx.resolve_left tx
    by_cases ty : T y
    · exact mixed ox ty hne ny
    · have oy : O y := hy.resolve_left ty
      constructor
      · intro hb
        refine absurd (cn_mono (h.rest y oy) fun e he => ?_) hb.2
        exact ⟨⟨.inl he, fun k => tx (k ▸ he)⟩, fun k => ty (k ▸ he)⟩
      · intro hall
        have := (hall x ox).1 (h.own ox)
        rcases this with ⟨k, _⟩ | ⟨_, k⟩
        · exact absurd k ty
        · exact absurd k.symm hne

/-- Two edges are covered alike. -/
def alikeE (a b : ι → α) (T O : ι → Prop) (x y : ι) : Prop := ∀ o, O o → (cov a b T x o ↔ cov a b T y o)

/-- What no two edges part: as the program asks (all that are covered alike are taken away at once), and as the document does. -/
theorem Forest.thrice (h : Forest a b T O) (N : List ι) (hN : ∀ e, e ∈ N ↔ un T O e) :
    (∀ e, un T O e → cn a b (fun d => un T O d ∧ ¬ alikeE a b T O e d) u v) ↔ ∀ e f, un T O e → un T O f → cn a b (but (but (un T O) e) f) u v := by
  have mono2 : ∀ {e f : ι}, cn a b (but (but (un T O) e) f) u v → cn a b (but (un T O) e) u v := fun k => cn_but k
  constructor
  · intro hall e f he hf
    have ce := hall e he
    by_cases hal : alikeE a b T O e f
    · refine cn_mono ce fun d hd => ⟨⟨hd.1, fun k => hd.2 ?_⟩, fun k => hd.2 ?_⟩
      · rw [k]; exact fun o _ => Iff.rfl
      · rw [k]; exact hal
    · have hef : e ≠ f := fun k => hal (k ▸ fun o _ => Iff.rfl)
      have c1 : cn a b (but (un T O) e) u v := cn_mono ce fun d hd => ⟨hd.1, fun k => hd.2 (k ▸ fun o _ => Iff.rfl)⟩
      have cf : cn a b (but (un T O) f) u v := cn_mono (hall f hf) fun d hd => ⟨hd.1, fun k => hd.2 (k ▸ fun o _ => Iff.rfl)⟩
      -- no bridge stays none when a bridge is gone
      have stays : ∀ {e f : ι}, un T O e → un T O f → e ≠ f → br a b (un T O) e → ¬ br a b (un T O) f → cn a b (but (un T O) e) u v → cn a b (but (but (un T O) e) f) u v := by
        intro e f he hf hef be nf ce
        refine keep_one (fun _ => Classical.byContradiction fun hn => be.2 ?_) ce
        rw [but_comm] at hn
        have := heal (not_br nf hf) hn
        refine cn_mono this ?_
        rintro d (⟨⟨h1, _⟩, h2⟩ | rfl)
        · exact ⟨h1, h2⟩
        · exact ⟨hf, fun k => hef k.symm⟩
      by_cases be : br a b (un T O) e
      · by_cases bf : br a b (un T O) f
        · refine absurd (fun o ho => ?_) hal
          exact ⟨fun k => absurd k ((h.bridge he).1 be o ho), fun k => absurd k ((h.bridge hf).1 bf o ho)⟩
        · exact stays he hf hef be bf c1
      · by_cases bf : br a b (un T O) f
        · rw [but_comm]
          exact stays hf he (fun k => hef k.symm) bf be cf
        · refine keep_one (fun hf' => Classical.byContradiction fun hn => hal ((h.pair he hf hef be bf).1 ⟨hf', hn⟩)) c1
  · intro hall e he
    by_cases be : br a b (un T O) e
    · have e1 : ∀ d, un T O d → (alikeE a b T O e d ↔ br a b (un T O) d) := fun d hd => by
        have hE := (h.bridge he).1 be
        rw [h.bridge hd]
        exact ⟨fun k o ho hc => hE o ho ((k o ho).2 hc), fun k o ho => ⟨fun hc => absurd hc (hE o ho), fun hc => absurd hc (k o ho)⟩⟩
      have hc : cn a b (un T O) u v := cn_but (mono2 (hall e e he he))
      have hcl := Classical.propDecidable
      have := cn_seps (a := a) (b := b) (T := un T O) (x := u) (y := v) (N.filter fun d => decide (br a b (un T O) d)) (fun d hd => by
        obtain ⟨h1, h2⟩ := List.mem_filter.1 hd
        have hd' := (hN d).1 h1
        exact ⟨of_decide_eq_true h2, mono2 (hall d d hd' hd')⟩) hc
      refine cn_mono this fun d hd => ⟨hd.1, fun k => hd.2 (List.mem_filter.2 ⟨(hN d).2 hd.1, decide_eq_true ((e1 d hd.1).1 k)⟩)⟩
    · have hc : cn a b (but (un T O) e) u v := mono2 (hall e e he he)
      have hcl := Classical.propDecidable
      have hal : ∀ d, un T O d → d ≠ e → alikeE a b T O e d → br a b (but (un T O) e) d := fun d hd hde k => by
        have bd : ¬ br a b (un T O) d := fun bd => be ((h.bridge he).2 fun o ho hc => (h.bridge hd).1 bd o ho ((k o ho).1 hc))
        exact (h.pair he hd (fun k => hde k.symm) be bd).2 k
      have := cn_seps (a := a) (b := b) (T := but (un T O) e) (x := u) (y := v) (N.filter fun d => decide (d ≠ e ∧ alikeE a b T O e d)) (fun d hd => by
        obtain ⟨h1, h2⟩ := List.mem_filter.1 hd
        have hd' := (hN d).1 h1
        obtain ⟨h3, h4⟩ := of_decide_eq_true h2
        exact ⟨hal d hd' h3 h4, hall e d he hd'⟩) hc
      refine cn_mono this fun d hd => ⟨hd.1.1, fun k => hd.2 (List.mem_filter.2 ⟨(hN d).2 hd.1.1, decide_eq_true ⟨hd.1.2, k⟩⟩)⟩

end

end Go.Proofs.YtigodbamphejmaaGreat.S
namespace Go.Proofs.YtigodbamphejmaaGreat.S

abbrev Edg := Int × Int × Int

/-- All ends are nodes. -/
def Nodes (n : Nat) (R : List Edg) : Prop := ∀ e ∈ R, ea e < n ∧ eb e < n

/-- The labels that edges give, one after the other. -/
def lbl (n : Nat) (t : List Edg) : List Nat := joins (List.range n) t

theorem Lk_ran (n u v : Nat) : Lk n (List.range n) u v ↔ u = v := by
  constructor
  · rintro (h | ⟨h1, h2, h3⟩)
    · exact h
    · simpa [h1, h2] using h3
  · exact .inl

theorem lb_good {n : Nat} {t : List Edg} (h : Nodes n t) : Good n (lbl n t) := good_joins _ _ (good_range n) h

theorem lb_iff {n : Nat} {t : List Edg} (h : Nodes n t) {u v : Nat} (hu : u < n) (hv : v < n) : (lbl n t).getD u 0 = (lbl n t).getD v 0 ↔ cnR t u v := by
  rw [← Lk.iff hu hv]
  unfold lbl
  rw [Lk_joins _ _ (good_range n) h]
  constructor
  · intro k
    refine Conn.lift k ?_
    rintro x y (h | ⟨e, he, rfl, rfl⟩)
    · rw [(Lk_ran n x y).1 h]; exact Conn.refl y
    · exact Conn.base ⟨e, he, rfl, rfl⟩
  · intro k
    refine Conn.lift k ?_
    rintro x y ⟨e, he, rfl, rfl⟩
    exact Conn.base (.inr ⟨e, he, rfl, rfl⟩)

theorem lb_snoc (n : Nat) (t : List Edg) (d : Edg) : lbl n (t ++ [d]) = joinL (lbl n t) (ea d) (eb d) := by
  unfold lbl
  generalize List.range n = L
  induction t generalizing L with
  | nil => rfl
  | cons c t ih => exact ih _

/-- One edge more: it is of the trees, or one of the others. -/
def gstep (n : Nat) (s : List Edg × List Edg) (e : Edg) : List Edg × List Edg :=
  if (lbl n s.1).getD (ea e) 0 = (lbl n s.1).getD (eb e) 0 then (s.1, s.2 ++ [e]) else (s.1 ++ [e], s.2)

def grw (n : Nat) (R : List Edg) : List Edg × List Edg := R.foldl (gstep n) ([], [])

theorem grw_snoc (n : Nat) (R : List Edg) (e : Edg) : grw n (R ++ [e]) = gstep n (grw n R) e := by simp [grw, List.foldl_append]

/-- What the two lists are. -/
structure Gr (n : Nat) (R t o : List Edg) : Prop where
  mem : ∀ e, e ∈ R ↔ e ∈ t ∨ e ∈ o
  forest : Forest ea eb (· ∈ t) (· ∈ o)
  tsub : t.Sublist R
  osub : o.Sublist R
  len : t.length + o.length = R.length

theorem more_snoc' (R : List Edg) (f : Edg) : (· ∈ R ++ [f]) = more (· ∈ R) f := by
  funext e; apply propext; simp [more]

theorem gr_start (n : Nat) : Gr n [] [] [] := ⟨fun e => by simp, ⟨fun f hf => by simp at hf, fun o ho => by simp at ho, fun f hf => by simp at hf⟩, List.Sublist.refl _, List.Sublist.refl _, rfl⟩

theorem gr_step {n : Nat} {R t o : List Edg} (h : Gr n R t o) {e : Edg} (he : e ∉ R) (hin : Nodes n R) (hen : ea e < n ∧ eb e < n) : Gr n (R ++ [e]) (gstep n (t, o) e).1 (gstep n (t, o) e).2 := by
  have het : e ∉ t := fun k => he ((h.mem e).2 (.inl k))
  have heo : e ∉ o := fun k => he ((h.mem e).2 (.inr k))
  have htn : Nodes n t := fun d hd => hin d ((h.mem d).2 (.inl hd))
  unfold gstep
  by_cases hc : (lbl n t).getD (ea e) 0 = (lbl n t).getD (eb e) 0
  · simp only [if_pos hc]
    have hcn := (lb_iff htn hen.1 hen.2).1 hc
    refine ⟨fun d => by simp [h.mem d, or_assoc], ⟨h.forest.tree, fun d hd => ?_, fun f hf ho => ?_⟩, h.tsub.trans (List.sublist_append_left _ _), h.osub.append (List.Sublist.refl _), by simp; have := h.len; omega⟩
    · rcases List.mem_append.1 hd with hd | hd
      · exact h.forest.rest d hd
      · rw [List.mem_singleton.1 hd]; exact hcn
    · rcases List.mem_append.1 ho with ho | ho
      · exact h.forest.apart f hf ho
      · rw [List.mem_singleton.1 ho] at hf; exact het hf
  · simp only [if_neg hc]
    have hcn : ¬ cnR t (ea e) (eb e) := fun k => hc ((lb_iff htn hen.1 hen.2).2 k)
    have hm := more_snoc' t e
    refine ⟨fun d => ?_, ⟨fun f hf => ?_, fun d hd => ?_, fun f hf ho => ?_⟩, h.tsub.append (List.Sublist.refl _), h.osub.trans (List.sublist_append_left _ _), by simp; have := h.len; omega⟩
    · rw [List.mem_append, h.mem d, List.mem_append]
      constructor
      · rintro ((k | k) | k)
        · exact .inl (.inl k)
        · exact .inr k
        · exact .inl (.inr k)
      · rintro ((k | k) | k)
        · exact .inl (.inl k)
        · exact .inr k
        · exact .inl (.inr k)
    · have hb : br ea eb (more (· ∈ t) e) f := by
        rw [br_apart het hcn]
        rcases List.mem_append.1 hf with hf | hf
        · exact .inl ⟨hf, h.forest.tree f hf⟩
        · exact .inr (List.mem_singleton.1 hf)
      show ¬ cn ea eb (but (· ∈ t ++ [e]) f) (ea f) (eb f)
      rw [hm]; exact hb.2
    · show cn ea eb (· ∈ t ++ [e]) (ea d) (eb d)
      rw [hm]; exact cn_more_of (h.forest.rest d hd)
    · rcases List.mem_append.1 hf with hf | hf
      · exact h.forest.apart f hf ho
      · rw [List.mem_singleton.1 hf] at ho; exact heo ho

theorem gr_fold {n : Nat} : ∀ (S Q : List Edg) (s : List Edg × List Edg), Gr n Q s.1 s.2 → (Q ++ S).Nodup → Nodes n (Q ++ S) → Gr n (Q ++ S) (S.foldl (gstep n) s).1 (S.foldl (gstep n) s).2
  | [], Q, s, h, _, _ => by rw [List.append_nil]; exact h
  | e :: S, Q, s, h, hnd, hin => by
    have hnd' := hnd
    rw [List.nodup_append] at hnd'
    have h1 := gr_step h (e := e) (fun k => hnd'.2.2 e k e (by simp) rfl) (fun d hd => hin d (List.mem_append_left _ hd)) (hin e (by simp))
    have e1 : Q ++ e :: S = (Q ++ [e]) ++ S := by simp
    rw [e1] at hnd hin ⊢
    exact gr_fold S (Q ++ [e]) (gstep n s e) h1 hnd hin

theorem gr_all {n : Nat} (R : List Edg) (hnd : R.Nodup) (hin : Nodes n R) : Gr n R (grw n R).1 (grw n R).2 := by
  have := gr_fold R [] ([], []) (gr_start n) (by simpa using hnd) (by simpa using hin)
  simpa [grw] using this

/-- Rings as numbers: a bit each. -/
def bitsN (c : Nat → Bool) : Nat → Nat
  | 0 => 0
  | m + 1 => bitsN c m + if c m then 2 ^ m else 0

theorem bitsN_lt (c : Nat → Bool) : ∀ m, bitsN c m < 2 ^ m
  | 0 => by simp [bitsN]
  | m + 1 => by
    have := bitsN_lt c m
    simp only [bitsN, Nat.pow_succ]
    split <;> omega

theorem bitsN_inj {c d : Nat → Bool} : ∀ {m}, bitsN c m = bitsN d m → ∀ i, i < m → c i = d i
  | 0, _, i, hi => by omega
  | m + 1, h, i, hi => by
    have h1 := bitsN_lt c m
    have h2 := bitsN_lt d m
    simp only [bitsN] at h
    have hp := Nat.two_pow_pos m
    have hcd : c m = d m := by
      cases hc : c m <;> cases hd : d m <;> simp [hc, hd] at h <;> first | rfl | omega
    by_cases e : i = m
    · rw [e]; exact hcd
    · refine bitsN_inj (m := m) ?_ i (by omega)
      rw [hcd] at h
      omega

theorem bitsN_congr {c d : Nat → Bool} {m : Nat} (h : ∀ i, i < m → c i = d i) : bitsN c m = bitsN d m := by
  induction m with
  | zero => rfl
  | succ m ih => simp only [bitsN]; rw [ih (fun i hi => h i (by omega)), h m (by omega)]

theorem or_pow {x i : Nat} (h : x < 2 ^ i) : x ||| 2 ^ i = x + 2 ^ i := by
  have := Nat.two_pow_add_eq_or_of_lt h 1
  simp at this
  rw [Nat.or_comm, ← this, Nat.add_comm]

/-- How many bits. -/
theorem cnt_bits (c : Nat → Bool) (m : Nat) : cnt c m = cnt (fun i => (bitsN c m).testBit i) m := by
  have key : ∀ k m, k < m → (bitsN c m).testBit k = c k := by
    intro k m
    induction m with
    | zero => intro h; omega
    | succ m ih =>
      intro h
      have h1 := bitsN_lt c m
      simp only [bitsN]
      by_cases e : k = m
      · subst e
        cases hc : c k
        · simp [Nat.testBit_lt_two_pow h1]
        · simp only [if_true]
          rw [← or_pow h1, Nat.testBit_or, Nat.testBit_lt_two_pow h1]
          simp
      · cases hc : c m
        · simp only [Bool.false_eq_true, if_false, Nat.add_zero]
          exact ih (by omega)
        · simp only [if_true]
          rw [← or_pow h1, Nat.testBit_or, Nat.testBit_two_pow, ih (by omega)]
          have : decide (m = k) = false := decide_eq_false (by omega)
          rw [this]; simp
  have : ∀ k, k ≤ m → cnt c k = cnt (fun i => (bitsN c m).testBit i) k := by
    intro k
    induction k with
    | zero => intro _; rfl
    | succ k ih =>
      intro hk
      have h2 := key k m (by omega)
      simp only [cnt, h2]
      rw [ih (by omega)]
  exact this m (Nat.le_refl _)

end Go.Proofs.YtigodbamphejmaaGreat.S
namespace Go.Proofs.YtigodbamphejmaaGreat.S

/-- A mask of k equal bytes. -/
def msk (c : Nat) : Nat → Nat
  | 0 => 0
  | k + 1 => c + 256 * msk c k

theorem tb (lo hi j : Nat) (h : lo < 256) : (lo + 256 * hi).testBit j = if j < 8 then lo.testBit j else hi.testBit (j - 8) := by
  have := Nat.testBit_two_pow_mul_add hi (show lo < 2 ^ 8 by omega) j
  rw [Nat.add_comm]; exact this

/-- A shift and a mask, byte by byte. -/
theorem shift_and (lo hi c d s : Nat) (hl : lo < 256) (hc : c < 256) (hs : ∀ j, j < 8 → 8 ≤ s + j → c.testBit j = false) :
    ((lo + 256 * hi) >>> s) &&& (c + 256 * d) = ((lo >>> s) &&& c) + 256 * ((hi >>> s) &&& d) := by
  have hx : (lo >>> s) &&& c < 256 := Nat.lt_of_le_of_lt Nat.and_le_right hc
  apply Nat.eq_of_testBit_eq
  intro j
  rw [Nat.testBit_and, Nat.testBit_shiftRight, tb lo hi _ hl, tb c d _ hc, tb _ _ _ hx]
  by_cases hj : j < 8
  · simp only [if_pos hj, Nat.testBit_and, Nat.testBit_shiftRight]
    by_cases hsj : s + j < 8
    · rw [if_pos hsj]
    · rw [if_neg hsj, hs j hj (by omega)]; simp
  · simp only [if_neg hj, Nat.testBit_and, Nat.testBit_shiftRight]
    rw [if_neg (by omega), show s + j - 8 = s + (j - 8) by omega]

def s1 (k x : Nat) : Nat := (x >>> 1 &&& msk 85 k) + (x &&& msk 85 k)
def s2 (k x : Nat) : Nat := (x >>> 2 &&& msk 51 k) + (x &&& msk 51 k)
def s3 (k x : Nat) : Nat := (x >>> 4 + x) &&& msk 15 k

theorem s1_step (k lo hi : Nat) (h : lo < 256) : s1 (k + 1) (lo + 256 * hi) = ((lo >>> 1 &&& 85) + (lo &&& 85)) + 256 * s1 k hi := by
  have e1 := shift_and lo hi 85 (msk 85 k) 1 h (by omega) (fun j h1 h2 => by
    have h3 : j = 7 := by omega
    rw [h3]; decide)
  have e2 := shift_and lo hi 85 (msk 85 k) 0 h (by omega) (fun j h1 h2 => by omega)
  simp only [Nat.shiftRight_zero] at e2
  simp only [s1, msk, e1, e2]
  omega

theorem s2_step (k lo hi : Nat) (h : lo < 256) : s2 (k + 1) (lo + 256 * hi) = ((lo >>> 2 &&& 51) + (lo &&& 51)) + 256 * s2 k hi := by
  have e1 := shift_and lo hi 51 (msk 51 k) 2 h (by omega) (fun j h1 h2 => by
    have : j = 6 ∨ j = 7 := by omega
    rcases this with rfl | rfl <;> decide)
  have e2 := shift_and lo hi 51 (msk 51 k) 0 h (by omega) (fun j h1 h2 => by omega)
  simp only [Nat.shiftRight_zero] at e2
  simp only [s2, msk, e1, e2]
  omega

theorem s3_step (k lo hi : Nat) (h : lo ≤ 68) (hh : hi % 16 ≤ 4) : s3 (k + 1) (lo + 256 * hi) = (lo / 16 + lo) % 16 + 256 * s3 k hi := by
  have e0 : (lo + 256 * hi) >>> 4 + (lo + 256 * hi) = (lo / 16 + lo + 16 * (hi % 16)) + 256 * (hi >>> 4 + hi) := by
    rw [Nat.shiftRight_eq_div_pow, Nat.shiftRight_eq_div_pow]
    omega
  have e2 := shift_and (lo / 16 + lo + 16 * (hi % 16)) (hi >>> 4 + hi) 15 (msk 15 k) 0 (by omega) (by omega) (fun j h1 h2 => by omega)
  simp only [Nat.shiftRight_zero] at e2
  simp only [s3, msk, e0, e2]
  have e3 : (lo / 16 + lo + 16 * (hi % 16)) &&& 15 = (lo / 16 + lo + 16 * (hi % 16)) % 16 := Nat.and_two_pow_sub_one_eq_mod _ 4
  rw [e3]
  omega

/-- How many bits, from below. -/
def pc : Nat → Nat → Nat
  | 0, _ => 0
  | f + 1, x => x % 2 + pc f (x / 2)

def gb (b : Nat) : Nat := (((b >>> 1 &&& 85) + (b &&& 85)) >>> 2 &&& 51) + (((b >>> 1 &&& 85) + (b &&& 85)) &&& 51)

theorem gb_all : ∀ b : Fin 256, gb b.val ≤ 68 ∧ gb b.val % 16 ≤ 4 ∧ (gb b.val / 16 + gb b.val) % 16 = pc 8 b.val ∧ (b.val >>> 1 &&& 85) + (b.val &&& 85) < 256 ∧ pc 8 b.val ≤ 8 := by decide +kernel

theorem gb_of {b : Nat} (h : b < 256) : gb b ≤ 68 ∧ gb b % 16 ≤ 4 ∧ (gb b / 16 + gb b) % 16 = pc 8 b ∧ (b >>> 1 &&& 85) + (b &&& 85) < 256 ∧ pc 8 b ≤ 8 := gb_all ⟨b, h⟩

theorem s21_step (k lo hi : Nat) (h : lo < 256) : s2 (k + 1) (s1 (k + 1) (lo + 256 * hi)) = gb lo + 256 * s2 k (s1 k hi) := by
  rw [s1_step k lo hi h, s2_step k _ _ (gb_of h).2.2.2.1]
  rfl

theorem s21_low (k x : Nat) : s2 k (s1 k x) % 16 ≤ 4 := by
  cases k with
  | zero => simp [s2, s1, msk]
  | succ k =>
    have hx : x = x % 256 + 256 * (x / 256) := by omega
    have hl : x % 256 < 256 := Nat.mod_lt _ (by omega)
    rw [hx, s21_step k _ _ hl]
    have := (gb_of hl).2.1
    omega

/-- The counts of the bytes, a byte each. -/
def cnts : Nat → Nat → Nat
  | 0, _ => 0
  | k + 1, x => pc 8 (x % 256) + 256 * cnts k (x / 256)

theorem s321 : ∀ (k x : Nat), s3 k (s2 k (s1 k x)) = cnts k x
  | 0, x => by simp [s3, s2, s1, msk, cnts]
  | k + 1, x => by
    have hx : x = x % 256 + 256 * (x / 256) := by omega
    have hl : x % 256 < 256 := Nat.mod_lt _ (by omega)
    have h1 : s2 (k + 1) (s1 (k + 1) x) = gb (x % 256) + 256 * s2 k (s1 k (x / 256)) := by
      have := s21_step k (x % 256) (x / 256) hl
      rw [← hx] at this; exact this
    rw [h1, s3_step k _ _ (gb_of hl).1 (s21_low k _), s321 k (x / 256), (gb_of hl).2.2.1]
    rfl

theorem pc_add : ∀ (a f x : Nat), pc (a + f) x = pc a (x % 2 ^ a) + pc f (x / 2 ^ a)
  | 0, f, x => by simp [pc]
  | a + 1, f, x => by
    have e1 : a + 1 + f = (a + f) + 1 := by omega
    rw [e1]
    simp only [pc]
    rw [pc_add a f (x / 2)]
    have h1 : x % 2 ^ (a + 1) % 2 = x % 2 := Nat.mod_mod_of_dvd _ ⟨2 ^ a, by rw [Nat.pow_succ, Nat.mul_comm]⟩
    have h2 : x % 2 ^ (a + 1) / 2 = x / 2 % 2 ^ a := by
      rw [Nat.pow_succ, Nat.mul_comm, Nat.mod_mul_right_div_self]
    have h3 : x / 2 / 2 ^ a = x / 2 ^ (a + 1) := by rw [Nat.div_div_eq_div_mul, Nat.pow_succ, Nat.mul_comm]
    rw [h1, h2, h3]
    omega

theorem cnt_low (g : Nat → Bool) : ∀ k, cnt g (k + 1) = (if g 0 then 1 else 0) + cnt (fun i => g (i + 1)) k
  | 0 => by simp [cnt]
  | k + 1 => by
    have := cnt_low g k
    simp only [cnt] at this ⊢
    omega

theorem pc_cnt : ∀ (f x : Nat), pc f x = cnt (fun i => x.testBit i) f
  | 0, x => rfl
  | f + 1, x => by
    rw [cnt_low]
    simp only [pc]
    have e1 : (fun i => x.testBit (i + 1)) = fun i => (x / 2).testBit i := by
      funext i
      rw [Nat.testBit_succ]
    rw [e1, ← pc_cnt f (x / 2), Nat.testBit_zero]
    rcases Nat.mod_two_eq_zero_or_one x with h | h <;> simp [h]

/-- The whole reckoning. -/
theorem ones64 (x : Nat) :
    let z := s3 8 (s2 8 (s1 8 x))
    let u := z + z / 256
    let v := u + u / 65536
    (v + v / 4294967296) % 128 = pc 64 x ∧ z < 18446744073709551616 / 2 ∧ u < 18446744073709551616 ∧ v < 18446744073709551616 ∧ v + v / 4294967296 < 4611686018427387904 := by
  intro z u v
  have hz : z = cnts 8 x := s321 8 x
  have hp : pc 64 x = pc 8 (x % 256) + pc 8 (x / 256 % 256) + pc 8 (x / 65536 % 256) + pc 8 (x / 16777216 % 256) + pc 8 (x / 4294967296 % 256) + pc 8 (x / 1099511627776 % 256) + pc 8 (x / 281474976710656 % 256) + pc 8 (x / 72057594037927936 % 256) := by
    have a0 : pc 64 (x) = pc 8 (x % 256) + pc 56 (x / 256) := by
      have h := pc_add 8 56 x
      simp only [Nat.reducePow, Nat.reduceAdd] at h
      exact h
    have a1 : pc 56 (x / 256) = pc 8 (x / 256 % 256) + pc 48 (x / 65536) := by
      have h := pc_add 8 48 (x / 256)
      rw [Nat.div_div_eq_div_mul] at h
      simp only [Nat.reducePow, Nat.reduceMul, Nat.reduceAdd] at h
      exact h
    have a2 : pc 48 (x / 65536) = pc 8 (x / 65536 % 256) + pc 40 (x / 16777216) := by
      have h := pc_add 8 40 (x / 65536)
      rw [Nat.div_div_eq_div_mul] at h
      simp only [Nat.reducePow, Nat.reduceMul, Nat.reduceAdd] at h
      exact h
    have a3 : pc 40 (x / 16777216) = pc 8 (x / 16777216 % 256) + pc 32 (x / 4294967296) := by
      have h := pc_add 8 32 (x / 16777216)
      rw [Nat.div_div_eq_div_mul] at h
      simp only [Nat.reducePow, Nat.reduceMul, Nat.reduceAdd] at h
      exact h
    have a4 : pc 32 (x / 4294967296) = pc 8 (x / 4294967296 % 256) + pc 24 (x / 1099511627776) := by
      have h := pc_add 8 24 (x / 4294967296)
      rw [Nat.div_div_eq_div_mul] at h
      simp only [Nat.reducePow, Nat.reduceMul, Nat.reduceAdd] at h
      exact h
    have a5 : pc 24 (x / 1099511627776) = pc 8 (x / 1099511627776 % 256) + pc 16 (x / 281474976710656) := by
      have h := pc_add 8 16 (x / 1099511627776)
      rw [Nat.div_div_eq_div_mul] at h
      simp only [Nat.reducePow, Nat.reduceMul, Nat.reduceAdd] at h
      exact h
    have a6 : pc 16 (x / 281474976710656) = pc 8 (x / 281474976710656 % 256) + pc 8 (x / 72057594037927936) := by
      have h := pc_add 8 8 (x / 281474976710656)
      rw [Nat.div_div_eq_div_mul] at h
      simp only [Nat.reducePow, Nat.reduceMul, Nat.reduceAdd] at h
      exact h
    have a7 : pc 8 (x / 72057594037927936) = pc 8 (x / 72057594037927936 % 256) + pc 0 (x / 18446744073709551616) := by
      have h := pc_add 8 0 (x / 72057594037927936)
      rw [Nat.div_div_eq_div_mul] at h
      simp only [Nat.reducePow, Nat.reduceMul, Nat.reduceAdd] at h
      exact h
    have a8 : pc 0 (x / 18446744073709551616) = 0 := rfl
    omega
  have hc : cnts 8 x = pc 8 (x % 256) + 256 * (pc 8 (x / 256 % 256) + 256 * (pc 8 (x / 65536 % 256) + 256 * (pc 8 (x / 16777216 % 256) + 256 * (pc 8 (x / 4294967296 % 256) + 256 * (pc 8 (x / 1099511627776 % 256) + 256 * (pc 8 (x / 281474976710656 % 256) + 256 * pc 8 (x / 72057594037927936 % 256))))))) := by
    simp only [cnts, Nat.div_div_eq_div_mul, Nat.reduceMul, Nat.mul_zero, Nat.add_zero]
  have b0 := (gb_of (show x % 256 < 256 from Nat.mod_lt _ (by omega))).2.2.2.2
  have b1 := (gb_of (show x / 256 % 256 < 256 from Nat.mod_lt _ (by omega))).2.2.2.2
  have b2 := (gb_of (show x / 65536 % 256 < 256 from Nat.mod_lt _ (by omega))).2.2.2.2
  have b3 := (gb_of (show x / 16777216 % 256 < 256 from Nat.mod_lt _ (by omega))).2.2.2.2
  have b4 := (gb_of (show x / 4294967296 % 256 < 256 from Nat.mod_lt _ (by omega))).2.2.2.2
  have b5 := (gb_of (show x / 1099511627776 % 256 < 256 from Nat.mod_lt _ (by omega))).2.2.2.2
  have b6 := (gb_of (show x / 281474976710656 % 256 < 256 from Nat.mod_lt _ (by omega))).2.2.2.2
  have b7 := (gb_of (show x / 72057594037927936 % 256 < 256 from Nat.mod_lt _ (by omega))).2.2.2.2
  rw [hp]
  rw [hc] at hz
  have hu : u = z + z / 256 := rfl
  have hv : v = u + u / 65536 := rfl
  clear_value z u v
  clear hp hc
  generalize pc 8 (x % 256) = c0 at *
  generalize pc 8 (x / 256 % 256) = c1 at *
  generalize pc 8 (x / 65536 % 256) = c2 at *
  generalize pc 8 (x / 16777216 % 256) = c3 at *
  generalize pc 8 (x / 4294967296 % 256) = c4 at *
  generalize pc 8 (x / 1099511627776 % 256) = c5 at *
  generalize pc 8 (x / 281474976710656 % 256) = c6 at *
  generalize pc 8 (x / 72057594037927936 % 256) = c7 at *
  have h1 : z / 256 = c1 + 256 * (c2 + 256 * (c3 + 256 * (c4 + 256 * (c5 + 256 * (c6 + 256 * c7))))) := by omega
  have h2 : u = (c0 + c1) + 256 * ((c1 + c2) + 256 * ((c2 + c3) + 256 * ((c3 + c4) + 256 * ((c4 + c5) + 256 * ((c5 + c6) + 256 * ((c6 + c7) + 256 * c7)))))) := by omega
  have h3 : u / 65536 = (c2 + c3) + 256 * ((c3 + c4) + 256 * ((c4 + c5) + 256 * ((c5 + c6) + 256 * ((c6 + c7) + 256 * c7)))) := by omega
  have h4 : v = (c0 + c1 + c2 + c3) + 256 * ((c1 + c2 + c3 + c4) + 256 * ((c2 + c3 + c4 + c5) + 256 * ((c3 + c4 + c5 + c6) + 256 * ((c4 + c5 + c6 + c7) + 256 * ((c5 + c6 + c7) + 256 * ((c6 + c7) + 256 * c7)))))) := by omega
  have h5 : v / 4294967296 = (c4 + c5 + c6 + c7) + 256 * ((c5 + c6 + c7) + 256 * ((c6 + c7) + 256 * c7)) := by omega
  refine ⟨?_, ?_, ?_, ?_, ?_⟩
  · rw [h5]; omega
  · omega
  · omega
  · omega
  · omega

end Go.Proofs.YtigodbamphejmaaGreat.S
