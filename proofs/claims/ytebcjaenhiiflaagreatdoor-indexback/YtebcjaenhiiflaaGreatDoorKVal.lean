/- Rings: what goes round an edge, which edges part together, what no two edges part. -/
import Derived.Test.YtebcjaenhiiflaaGreatDoorSBT
import Derived.Test.YtebcjaenhiiflaaGreatDoorG5
import Derived.Laws.Bits64b
import Derived.Test.YtebcjaenhiiflaaGreatDoorGAf
import Derived.Test.YtebcjaenhiiflaaGreatDoorBBh
namespace Go.Proofs.YtebcjaenhiiflaaGreatDoor.S

section
variable {ι α : Type} {a b : ι → α} {T O : ι → Prop} {x y z e f o : ι} {u v w : α}

/-- A forest and other edges within its parts. -/
structure Forest (a b : ι → α) (T O : ι → Prop) : Prop where
  tree : ∀ f, T f → ¬ cn a b (but T f) (a f) (b f)
  rest : ∀ o, O o → cn a b T (a o) (b o)
  apart : ∀ f, T f → ¬ O f

/-- All edges. -/
def un (T O : ι → Prop) : ι → Prop := fun e => T e ∨ O e

/-- The ring of o goes round f. -/
def cov (a b : ι → α) (T : ι → Prop) (f o : ι) : Prop := (T f ∧ ¬ cn a b (but T f) (a o) (b o)) ∨ (¬ T f ∧ f = o)

theorem Forest.all (h : Forest a b T O) (k : cn a b (un T O) u v) : cn a b T u v :=
  cn_lift k fun e he => he.elim cn_edge (h.rest e)

theorem Forest.own (h : Forest a b T O) (ho : O o) : cov a b T o o := .inr ⟨fun ht => h.apart o ht ho, rfl⟩

/-- Two sides of a tree's edge. -/
theorem Forest.side (h : Forest a b T O) (hx : T x) (k1 : cn a b T u v) (k2 : cn a b T v w) (n1 : ¬ cn a b (but T x) u v) (n2 : ¬ cn a b (but T x) v w) : cn a b (but T x) u w := by
  have hb := h.tree x hx
  rcases cn_parts x k1 with h1 | ⟨h1, h2⟩ | ⟨h1, h2⟩
  · exact absurd h1 n1
  · rcases cn_parts x k2 with g1 | ⟨g1, g2⟩ | ⟨g1, g2⟩
    · exact absurd g1 n2
    · exact absurd (cn_symm (cn_trans h2 g1)) hb
    · exact cn_trans h1 g2
  · rcases cn_parts x k2 with g1 | ⟨g1, g2⟩ | ⟨g1, g2⟩
    · exact absurd g1 n2
    · exact cn_trans h1 g2
    · exact absurd (cn_trans h2 g1) hb

/-- A bridge is an edge round which nothing goes. -/
theorem Forest.bridge (h : Forest a b T O) (hf : un T O f) : br a b (un T O) f ↔ ∀ o, O o → ¬ cov a b T f o := by
  by_cases ht : T f
  · constructor
    · rintro hb o ho (⟨_, hc⟩ | ⟨hn, _⟩)
      · refine hb.2 ?_
        have hne : o ≠ f := fun e => h.apart f ht (e ▸ ho)
        have sub : ∀ {p q}, cn a b (but T f) p q → cn a b (but (un T O) f) p q := fun k => cn_mono k fun e he => ⟨.inl he.1, he.2⟩
        have hoe : cn a b (but (un T O) f) (a o) (b o) := cn_edge ⟨.inr ho, hne⟩
        rcases cn_parts f (h.rest o ho) with k | ⟨k1, k2⟩ | ⟨k1, k2⟩
        · exact absurd k hc
        · exact cn_trans (cn_symm (sub k1)) (cn_trans hoe (cn_symm (sub k2)))
        · exact cn_trans (sub k2) (cn_trans (cn_symm hoe) (sub k1))
      · exact hn ht
    · intro hall
      refine ⟨hf, fun k => h.tree f ht (cn_lift k ?_)⟩
      rintro e ⟨he | he, hne⟩
      · exact cn_edge ⟨he, hne⟩
      · exact Classical.byContradiction fun hc => hall e he (.inl ⟨ht, hc⟩)
  · have ho : O f := hf.resolve_left ht
    constructor
    · intro hb
      refine absurd (cn_mono (h.rest f ho) fun e he => ?_) hb.2
      exact ⟨.inl he, fun e' => ht (e' ▸ he)⟩
    · intro hall
      exact absurd (h.own ho) (hall f ho)

theorem but_comm (T : ι → Prop) (x y : ι) : but (but T x) y = but (but T y) x := by
  funext e; apply propext
  exact ⟨fun ⟨⟨h1, h2⟩, h3⟩ => ⟨⟨h1, h3⟩, h2⟩, fun ⟨⟨h1, h2⟩, h3⟩ => ⟨⟨h1, h3⟩, h2⟩⟩

/-- Without an edge that is no bridge all is together as it was. -/
theorem keep_one {G : ι → Prop} (hx : G x → cn a b (but G x) (a x) (b x)) (k : cn a b G u v) : cn a b (but G x) u v := by
  refine cn_lift k fun e he => ?_
  by_cases hex : e = x
  · subst hex; exact hx he
  · exact cn_edge ⟨he, hex⟩

theorem not_br {G : ι → Prop} (h : ¬ br a b G x) (hx : G x) : cn a b (but G x) (a x) (b x) := Classical.byContradiction fun k => h ⟨hx, k⟩

/-- Which of two is taken away first does not matter. -/
theorem pair_symm {G : ι → Prop} (hx : G x) (hy : G y) (hne : x ≠ y) (ny : ¬ br a b G y) (h : br a b (but G x) y) : br a b (but G y) x := by
  refine ⟨⟨hx, hne⟩, fun k => h.2 ?_⟩
  rw [but_comm]
  exact keep_one (fun _ => k) (not_br ny hy)

/-- Two that are no bridges part together just if the same rings go round both. -/
theorem Forest.pair (h : Forest a b T O) (hx : un T O x) (hy : un T O y) (hne : x ≠ y) (nx : ¬ br a b (un T O) x) (ny : ¬ br a b (un T O) y) :
    br a b (but (un T O) x) y ↔ ∀ o, O o → (cov a b T x o ↔ cov a b T y o) := by
  -- one that is in no tree, and one of the tree
  have mixed : ∀ {x y : ι}, O x → T y → x ≠ y → ¬ br a b (un T O) y → (br a b (but (un T O) x) y ↔ ∀ o, O o → (cov a b T x o ↔ cov a b T y o)) := by
    intro x y ox ty hne ny
    have hb : br a b (but (un T O) x) y ↔ ∀ o, O o → o ≠ x → ¬ cov a b T y o := by
      have hF : Forest a b T (but O x) := ⟨h.tree, fun o ho => h.rest o ho.1, fun f hf ho => h.apart f hf ho.1⟩
      have e : but (un T O) x = un T (but O x) := by
        funext e; apply propext
        constructor
        · rintro ⟨h1 | h1, h2⟩
          · exact .inl h1
          · exact .inr ⟨h1, h2⟩
        · rintro (h1 | ⟨h1, h2⟩)
          · exact ⟨.inl h1, fun k => h.apart e h1 (k ▸ ox)⟩
          · exact ⟨.inr h1, h2⟩
      rw [e, hF.bridge (.inl ty)]
      exact ⟨fun k o ho hn => k o ⟨ho, hn⟩, fun k o ho => k o ho.1 ho.2⟩
    have hxo : ∀ o, cov a b T x o ↔ x = o := fun o => by
      have : ¬ T x := fun k => h.apart x k ox
      simp [cov, this]
    rw [hb]
    constructor
    · intro k o ho
      rw [hxo]
      have only : ∀ o', O o' → cov a b T y o' → o' = x := fun o' ho' hc => Classical.byContradiction fun hn => k o' ho' hn hc
      constructor
      · rintro rfl
        obtain ⟨o', ho', hc⟩ : ∃ o', O o' ∧ cov a b T y o' := Classical.byContradiction fun hn => ny ((h.bridge (.inl ty)).2 fun o' ho' hc => hn ⟨o', ho', hc⟩)
        rw [only o' ho' hc] at hc; exact hc
      · intro hc; exact (only o ho hc).symm
    · intro k o ho hn hc
      exact hn ((hxo o).1 ((k o ho).2 hc)).symm
  by_cases tx : T x
  · by_cases ty : T y
    · have K1 : ∀ {p q}, cn a b (but (but T x) y) p q → cn a b (but (but (un T O) x) y) p q := fun k => cn_mono k fun e he => ⟨⟨.inl he.1.1, he.1.2⟩, he.2⟩
      have hoin : ∀ o, O o → cn a b (but (but (un T O) x) y) (a o) (b o) := fun o ho => cn_edge ⟨⟨.inr ho, fun e => h.apart x tx (e ▸ ho)⟩, fun e => h.apart y ty (e ▸ ho)⟩
      -- an edge that goes round one of two alone ties that one's ends
      have tie : ∀ {x y : ι}, T x → T y → (∀ {p q}, cn a b (but (but T x) y) p q → cn a b (but (but (un T O) x) y) p q) → (∀ o, O o → cn a b (but (but (un T O) x) y) (a o) (b o)) → ∀ o, O o → cov a b T x o → ¬ cov a b T y o → x ≠ y → cn a b (but (but (un T O) x) y) (a x) (b x) := by
        intro x y tx ty K1 hoin o ho hc hn hne
        have k1 : ¬ cn a b (but T x) (a o) (b o) := by
          rcases hc with ⟨_, k⟩ | ⟨k, _⟩
          · exact k
          · exact absurd tx k
        have k2 : cn a b (but T y) (a o) (b o) := Classical.byContradiction fun k => hn (.inl ⟨ty, k⟩)
        rcases cn_parts x k2 with k | ⟨p1, p2⟩ | ⟨p1, p2⟩
        · rw [but_comm] at k
          exact absurd (cn_but k) k1
        · rw [but_comm] at p1 p2
          exact cn_trans (cn_symm (K1 p1)) (cn_trans (hoin o ho) (cn_symm (K1 p2)))
        · rw [but_comm] at p1 p2
          exact cn_trans (K1 p2) (cn_trans (cn_symm (hoin o ho)) (K1 p1))
      constructor
      · intro hb o ho
        constructor
        · intro hc
          refine Classical.byContradiction fun hn => hb.2 ?_
          have hxx := tie tx ty K1 hoin o ho hc hn hne
          rw [but_comm] at hxx ⊢
          exact keep_one (fun _ => hxx) (not_br ny hy)
        · intro hc
          refine Classical.byContradiction fun hn => hb.2 ?_
          have := tie (x := y) (y := x) ty tx (fun k => by rw [but_comm] at k ⊢; exact K1 k) (fun o ho => by rw [but_comm]; exact hoin o ho) o ho hc hn (fun e => hne e.symm)
          rw [but_comm] at this; exact this
      · intro hall
        refine ⟨⟨hy, fun e => hne e.symm⟩, fun k => ?_⟩
        -- alike from both sides
        have Q := Conn.least (P := fun p q => cn a b T p q ∧ (cn a b (but T x) p q ↔ cn a b (but T y) p q)) k (fun p => ⟨cn_refl p, ⟨fun _ => cn_refl p, fun _ => cn_refl p⟩⟩) ?_ ?_ ?_
        · have e1 : cn a b (but T x) (a y) (b y) := cn_edge ⟨ty, fun e => hne e.symm⟩
          exact h.tree y ty (Q.2.1 e1)
        · rintro p q ⟨h1, h2⟩
          exact ⟨cn_symm h1, ⟨fun k => cn_symm (h2.1 (cn_symm k)), fun k => cn_symm (h2.2 (cn_symm k))⟩⟩
        · rintro p q r ⟨h1, h2⟩ ⟨g1, g2⟩
          refine ⟨cn_trans h1 g1, ?_⟩
          by_cases c1 : cn a b (but T x) p q
          · have c1' := h2.1 c1
            by_cases c2 : cn a b (but T x) q r
            · have c2' := g2.1 c2
              exact ⟨fun _ => cn_trans c1' c2', fun _ => cn_trans c1 c2⟩
            · have c2' : ¬ cn a b (but T y) q r := fun k => c2 (g2.2 k)
              exact ⟨fun k => absurd (cn_trans (cn_symm c1) k) c2, fun k => absurd (cn_trans (cn_symm c1') k) c2'⟩
          · have c1' : ¬ cn a b (but T y) p q := fun k => c1 (h2.2 k)
            by_cases c2 : cn a b (but T x) q r
            · have c2' := g2.1 c2
              exact ⟨fun k => absurd (cn_trans k (cn_symm c2)) c1, fun k => absurd (cn_trans k (cn_symm c2')) c1'⟩
            · have c2' : ¬ cn a b (but T y) q r := fun k => c2 (g2.2 k)
              exact ⟨fun _ => h.side ty h1 g1 c1' c2', fun _ => h.side tx h1 g1 c1 c2⟩
        · rintro p q ⟨e, ⟨⟨he | he, h1⟩, h2⟩, rfl, rfl⟩
          · exact ⟨cn_edge he, ⟨fun _ => cn_edge ⟨he, h2⟩, fun _ => cn_edge ⟨he, h1⟩⟩⟩
          · refine ⟨h.rest e he, ?_⟩
            have := hall e he
            have ex : cov a b T x e ↔ ¬ cn a b (but T x) (a e) (b e) := by simp [cov, tx]
            have ey : cov a b T y e ↔ ¬ cn a b (but T y) (a e) (b e) := by simp [cov, ty]
            rw [ex, ey] at this
            exact ⟨fun ha => Classical.byContradiction fun nb => this.2 nb ha, fun hb => Classical.byContradiction fun na => this.1 na hb⟩
    · have oy : O y := hy.resolve_left ty
      have := mixed (x := y) (y := x) oy tx (fun e => hne e.symm) nx
      constructor
      · intro hb o ho
        exact (this.1 (pair_symm hx hy hne ny hb) o ho).symm
      · intro hall
        exact pair_symm hy hx (fun e => hne e.symm) nx (this.2 fun o ho => (hall o ho).symm)
  · have ox : O x := hx.resolve_left tx
    by_cases ty : T y
    · exact mixed ox ty hne ny
    · have oy : O y := hy.resolve_left ty
      constructor
      · intro hb
        refine absurd (cn_mono (h.rest y oy) fun e he => ?_) hb.2
        exact ⟨⟨.inl he, fun k => tx (k ▸ he)⟩, fun k => ty (k ▸ he)⟩
      · intro hall
        have := (hall x ox).1 (h.own ox)
        rcases this with ⟨k, _⟩ | ⟨_, k⟩
        · exact absurd k ty
        · exact absurd k.symm hne

/-- Two edges are covered alike. -/
def alikeE (a b : ι → α) (T O : ι → Prop) (x y : ι) : Prop := ∀ o, O o → (cov a b T x o ↔ cov a b T y o)

/-- What no two edges part: as the program asks (all that are covered alike are taken away at once), and as the document does. -/
theorem Forest.thrice (h : Forest a b T O) (N : List ι) (hN : ∀ e, e ∈ N ↔ un T O e) :
    (∀ e, un T O e → cn a b (fun d => un T O d ∧ ¬ alikeE a b T O e d) u v) ↔ ∀ e f, un T O e → un T O f → cn a b (but (but (un T O) e) f) u v := by
  have mono2 : ∀ {e f : ι}, cn a b (but (but (un T O) e) f) u v → cn a b (but (un T O) e) u v := fun k => cn_but k
  constructor
  · intro hall e f he hf
    have ce := hall e he
    by_cases hal : alikeE a b T O e f
    · refine cn_mono ce fun d hd => ⟨⟨hd.1, fun k => hd.2 ?_⟩, fun k => hd.2 ?_⟩
      · rw [k]; exact fun o _ => Iff.rfl
      · rw [k]; exact hal
    · have hef : e ≠ f := fun k => hal (k ▸ fun o _ => Iff.rfl)
      have c1 : cn a b (but (un T O) e) u v := cn_mono ce fun d hd => ⟨hd.1, fun k => hd.2 (k ▸ fun o _ => Iff.rfl)⟩
      have cf : cn a b (but (un T O) f) u v := cn_mono (hall f hf) fun d hd => ⟨hd.1, fun k => hd.2 (k ▸ fun o _ => Iff.rfl)⟩
      -- no bridge stays none when a bridge is gone
      have stays : ∀ {e f : ι}, un T O e → un T O f → e ≠ f → br a b (un T O) e → ¬ br a b (un T O) f → cn a b (but (un T O) e) u v → cn a b (but (but (un T O) e) f) u v := by
        intro e f he hf hef be nf ce
        refine keep_one (fun _ => Classical.byContradiction fun hn => be.2 ?_) ce
        rw [but_comm] at hn
        have := heal (not_br nf hf) hn
        refine cn_mono this ?_
        rintro d (⟨⟨h1, _⟩, h2⟩ | rfl)
        · exact ⟨h1, h2⟩
        · exact ⟨hf, fun k => hef k.symm⟩
      by_cases be : br a b (un T O) e
      · by_cases bf : br a b (un T O) f
        · refine absurd (fun o ho => ?_) hal
          exact ⟨fun k => absurd k ((h.bridge he).1 be o ho), fun k => absurd k ((h.bridge hf).1 bf o ho)⟩
        · exact stays he hf hef be bf c1
      · by_cases bf : br a b (un T O) f
        · rw [but_comm]
          exact stays hf he (fun k => hef k.symm) bf be cf
        · refine keep_one (fun hf' => Classical.byContradiction fun hn => hal ((h.pair he hf hef be bf).1 ⟨hf', hn⟩)) c1
  · intro hall e he
    by_cases be : br a b (un T O) e
    · have e1 : ∀ d, un T O d → (alikeE a b T O e d ↔ br a b (un T O) d) := fun d hd => by
        have hE := (h.bridge he).1 be
        rw [h.bridge hd]
        exact ⟨fun k o ho hc => hE o ho ((k o ho).2 hc), fun k o ho => ⟨fun hc => absurd hc (hE o ho), fun hc => absurd hc (k o ho)⟩⟩
      have hc : cn a b (un T O) u v := cn_but (mono2 (hall e e he he))
      have hcl := Classical.propDecidable
      have := cn_seps (a := a) (b := b) (T := un T O) (x := u) (y := v) (N.filter fun d => decide (br a b (un T O) d)) (fun d hd => by
        obtain ⟨h1, h2⟩ := List.mem_filter.1 hd
        have hd' := (hN d).1 h1
        exact ⟨of_decide_eq_true h2, mono2 (hall d d hd' hd')⟩) hc
      refine cn_mono this fun d hd => ⟨hd.1, fun k => hd.2 (List.mem_filter.2 ⟨(hN d).2 hd.1, decide_eq_true ((e1 d hd.1).1 k)⟩)⟩
    · have hc : cn a b (but (un T O) e) u v := mono2 (hall e e he he)
      have hcl := Classical.propDecidable
      have hal : ∀ d, un T O d → d ≠ e → alikeE a b T O e d → br a b (but (un T O) e) d := fun d hd hde k => by
        have bd : ¬ br a b (un T O) d := fun bd => be ((h.bridge he).2 fun o ho hc => (h.bridge hd).1 bd o ho ((k o ho).1 hc))
        exact (h.pair he hd (fun k => hde k.symm) be bd).2 k
      have := cn_seps (a := a) (b := b) (T := but (un T O) e) (x := u) (y := v) (N.filter fun d => decide (d ≠ e ∧ alikeE a b T O e d)) (fun d hd => by
        obtain ⟨h1, h2⟩ := List.mem_filter.1 hd
        have hd' := (hN d).1 h1
        obtain ⟨h3, h4⟩ := of_decide_eq_true h2
        exact ⟨hal d hd' h3 h4, hall e d he hd'⟩) hc
      refine cn_mono this fun d hd => ⟨hd.1.1, fun k => hd.2 (List.mem_filter.2 ⟨(hN d).2 hd.1.1, decide_eq_true ⟨hd.1.2, k⟩⟩)⟩

end

end Go.Proofs.YtebcjaenhiiflaaGreatDoor.S
namespace Go.Proofs.YtebcjaenhiiflaaGreatDoor.S

abbrev Edg := Int × Int × Int

/-- All ends are nodes. -/
def Nodes (n : Nat) (R : List Edg) : Prop := ∀ e ∈ R, ea e < n ∧ eb e < n

/-- The labels that edges give, one after the other. -/
def lbl (n : Nat) (t : List Edg) : List Nat := joins (List.range n) t

theorem Lk_ran (n u v : Nat) : Lk n (List.range n) u v ↔ u = v := by
  constructor
  · rintro (h | ⟨h1, h2, h3⟩)
    · exact h
    · simpa [h1, h2] using h3
  · exact .inl

theorem lb_good {n : Nat} {t : List Edg} (h : Nodes n t) : Good n (lbl n t) := good_joins _ _ (good_range n) h

theorem lb_iff {n : Nat} {t : List Edg} (h : Nodes n t) {u v : Nat} (hu : u < n) (hv : v < n) : (lbl n t).getD u 0 = (lbl n t).getD v 0 ↔ cnR t u v := by
  rw [← Lk.iff hu hv]
  unfold lbl
  rw [Lk_joins _ _ (good_range n) h]
  constructor
  · intro k
    refine Conn.lift k ?_
    rintro x y (h | ⟨e, he, rfl, rfl⟩)
    · rw [(Lk_ran n x y).1 h]; exact Conn.refl y
    · exact Conn.base ⟨e, he, rfl, rfl⟩
  · intro k
    refine Conn.lift k ?_
    rintro x y ⟨e, he, rfl, rfl⟩
    exact Conn.base (.inr ⟨e, he, rfl, rfl⟩)

theorem lb_snoc (n : Nat) (t : List Edg) (d : Edg) : lbl n (t ++ [d]) = joinL (lbl n t) (ea d) (eb d) := by
  unfold lbl
  generalize List.range n = L
  induction t generalizing L with
  | nil => rfl
  | cons c t ih => exact ih _

/-- One edge more: it is of the trees, or one of the others. -/
def gstep (n : Nat) (s : List Edg × List Edg) (e : Edg) : List Edg × List Edg :=
  if (lbl n s.1).getD (ea e) 0 = (lbl n s.1).getD (eb e) 0 then (s.1, s.2 ++ [e]) else (s.1 ++ [e], s.2)

def grw (n : Nat) (R : List Edg) : List Edg × List Edg := R.foldl (gstep n) ([], [])

theorem grw_snoc (n : Nat) (R : List Edg) (e : Edg) : grw n (R ++ [e]) = gstep n (grw n R) e := by simp [grw, List.foldl_append]

/-- What the two lists are. -/
structure Gr (n : Nat) (R t o : List Edg) : Prop where
  mem : ∀ e, e ∈ R ↔ e ∈ t ∨ e ∈ o
  forest : Forest ea eb (· ∈ t) (· ∈ o)
  tsub : t.Sublist R
  osub : o.Sublist R
  len : t.length + o.length = R.length

theorem more_snoc' (R : List Edg) (f : Edg) : (· ∈ R ++ [f]) = more (· ∈ R) f := by
  funext e; apply propext; simp [more]

theorem gr_start (n : Nat) : Gr n [] [] [] := ⟨fun e => by simp, ⟨fun f hf => by simp at hf, fun o ho => by simp at ho, fun f hf => by simp at hf⟩, List.Sublist.refl _, List.Sublist.refl _, rfl⟩

theorem gr_step {n : Nat} {R t o : List Edg} (h : Gr n R t o) {e : Edg} (he : e ∉ R) (hin : Nodes n R) (hen : ea e < n ∧ eb e < n) : Gr n (R ++ [e]) (gstep n (t, o) e).1 (gstep n (t, o) e).2 := by
  have het : e ∉ t := fun k => he ((h.mem e).2 (.inl k))
  have heo : e ∉ o := fun k => he ((h.mem e).2 (.inr k))
  have htn : Nodes n t := fun d hd => hin d ((h.mem d).2 (.inl hd))
  unfold gstep
  by_cases hc : (lbl n t).getD (ea e) 0 = (lbl n t).getD (eb e) 0
  · simp only [if_pos hc]
    have hcn := (lb_iff htn hen.1 hen.2).1 hc
    refine ⟨fun d => by simp [h.mem d, or_assoc], ⟨h.forest.tree, fun d hd => ?_, fun f hf ho => ?_⟩, h.tsub.trans (List.sublist_append_left _ _), h.osub.append (List.Sublist.refl _), by simp; have := h.len; omega⟩
    · rcases List.mem_append.1 hd with hd | hd
      · exact h.forest.rest d hd
      · rw [List.mem_singleton.1 hd]; exact hcn
    · rcases List.mem_append.1 ho with ho | ho
      · exact h.forest.apart f hf ho
      · rw [List.mem_singleton.1 ho] at hf; exact het hf
  · simp only [if_neg hc]
    have hcn : ¬ cnR t (ea e) (eb e) := fun k => hc ((lb_iff htn hen.1 hen.2).2 k)
    have hm := more_snoc' t e
    refine ⟨fun d => ?_, ⟨fun f hf => ?_, fun d hd => ?_, fun f hf ho => ?_⟩, h.tsub.append (List.Sublist.refl _), h.osub.trans (List.sublist_append_left _ _), by simp; have := h.len; omega⟩
    · rw [List.mem_append, h.mem d, List.mem_append]
      constructor
      · rintro ((k | k) | k)
        · exact .inl (.inl k)
        · exact .inr k
        · exact .inl (.inr k)
      · rintro ((k | k) | k)
        · exact .inl (.inl k)
        · exact .inr k
        · exact .inl (.inr k)
    · have hb : br ea eb (more (· ∈ t) e) f := by
        rw [br_apart het hcn]
        rcases List.mem_append.1 hf with hf | hf
        · exact .inl ⟨hf, h.forest.tree f hf⟩
        · exact .inr (List.mem_singleton.1 hf)
      show ¬ cn ea eb (but (· ∈ t ++ [e]) f) (ea f) (eb f)
      rw [hm]; exact hb.2
    · show cn ea eb (· ∈ t ++ [e]) (ea d) (eb d)
      rw [hm]; exact cn_more_of (h.forest.rest d hd)
    · rcases List.mem_append.1 hf with hf | hf
      · exact h.forest.apart f hf ho
      · rw [List.mem_singleton.1 hf] at ho; exact heo ho

theorem gr_fold {n : Nat} : ∀ (S Q : List Edg) (s : List Edg × List Edg), Gr n Q s.1 s.2 → (Q ++ S).Nodup → Nodes n (Q ++ S) → Gr n (Q ++ S) (S.foldl (gstep n) s).1 (S.foldl (gstep n) s).2
  | [], Q, s, h, _, _ => by rw [List.append_nil]; exact h
  | e :: S, Q, s, h, hnd, hin => by
    have hnd' := hnd
    rw [List.nodup_append] at hnd'
    have h1 := gr_step h (e := e) (fun k => hnd'.2.2 e k e (by simp) rfl) (fun d hd => hin d (List.mem_append_left _ hd)) (hin e (by simp))
    have e1 : Q ++ e :: S = (Q ++ [e]) ++ S := by simp
    rw [e1] at hnd hin ⊢
    exact gr_fold S (Q ++ [e]) (gstep n s e) h1 hnd hin

theorem gr_all {n : Nat} (R : List Edg) (hnd : R.Nodup) (hin : Nodes n R) : Gr n R (grw n R).1 (grw n R).2 := by
  have := gr_fold R [] ([], []) (gr_start n) (by simpa using hnd) (by simpa using hin)
  simpa [grw] using this

/-- Rings as numbers: a bit each. -/
def bitsN (c : Nat → Bool) : Nat → Nat
  | 0 => 0
  | m + 1 => bitsN c m + if c m then 2 ^ m else 0

theorem bitsN_lt (c : Nat → Bool) : ∀ m, bitsN c m < 2 ^ m
  | 0 => by simp [bitsN]
  | m + 1 => by
    have := bitsN_lt c m
    simp only [bitsN, Nat.pow_succ]
    split <;> omega

theorem bitsN_inj {c d : Nat → Bool} : ∀ {m}, bitsN c m = bitsN d m → ∀ i, i < m → c i = d i
  | 0, _, i, hi => by omega
  | m + 1, h, i, hi => by
    have h1 := bitsN_lt c m
    have h2 := bitsN_lt d m
    simp only [bitsN] at h
    have hp := Nat.two_pow_pos m
    have hcd : c m = d m := by
      cases hc : c m <;> cases hd : d m <;> simp [hc, hd] at h <;> first | rfl | omega
    by_cases e : i = m
    · rw [e]; exact hcd
    · refine bitsN_inj (m := m) ?_ i (by omega)
      rw [hcd] at h
      omega

theorem bitsN_congr {c d : Nat → Bool} {m : Nat} (h : ∀ i, i < m → c i = d i) : bitsN c m = bitsN d m := by
  induction m with
  | zero => rfl
  | succ m ih => simp only [bitsN]; rw [ih (fun i hi => h i (by omega)), h m (by omega)]

theorem or_pow {x i : Nat} (h : x < 2 ^ i) : x ||| 2 ^ i = x + 2 ^ i := by
  have := Nat.two_pow_add_eq_or_of_lt h 1
  simp at this
  rw [Nat.or_comm, ← this, Nat.add_comm]

/-- How many bits. -/
theorem cnt_bits (c : Nat → Bool) (m : Nat) : cnt c m = cnt (fun i => (bitsN c m).testBit i) m := by
  have key : ∀ k m, k < m → (bitsN c m).testBit k = c k := by
    intro k m
    induction m with
    | zero => intro h; omega
    | succ m ih =>
      intro h
      have h1 := bitsN_lt c m
      simp only [bitsN]
      by_cases e : k = m
      · subst e
        cases hc : c k
        · simp [Nat.testBit_lt_two_pow h1]
        · simp only [if_true]
          rw [← or_pow h1, Nat.testBit_or, Nat.testBit_lt_two_pow h1]
          simp
      · cases hc : c m
        · simp only [Bool.false_eq_true, if_false, Nat.add_zero]
          exact ih (by omega)
        · simp only [if_true]
          rw [← or_pow h1, Nat.testBit_or, Nat.testBit_two_pow, ih (by omega)]
          have : decide (m = k) = false := decide_eq_false (by omega)
          rw [this]; simp
  have : ∀ k, k ≤ m → cnt c k = cnt (fun i => (bitsN c m).testBit i) k := by
    intro k
    induction k with
    | zero => intro _; rfl
    | succ k ih =>
      intro hk
      have h2 := key k m (by omega)
      simp only [cnt, h2]
      rw [ih (by omega)]
  exact this m (Nat.le_refl _)

end Go.Proofs.YtebcjaenhiiflaaGreatDoor.S
namespace Go.Proofs.YtebcjaenhiiflaaGreatDoor.S
open Go.RowKit

/-- All ends are nodes, and numbers. -/
def InE (n : Nat) (R : List Edg) : Prop := ∀ e ∈ R, ea e < n ∧ eb e < n ∧ e.2.1 = (ea e : Int) ∧ e.2.2 = (eb e : Int)
theorem InE.nodes {n : Nat} {R : List Edg} (h : InE n R) : Nodes n R := fun e he => ⟨(h e he).1, (h e he).2.1⟩
theorem InE.sub {n : Nat} {R S : List Edg} (h : InE n R) (hs : ∀ e ∈ S, e ∈ R) : InE n S := fun e he => h e (hs e he)

/-- An edge of a row, read. -/
theorem row_edge {n : Nat} {R : List Edg} (hin : InE n R) {k : Nat} (hk : k < R.length) : ∃ (x0 : Int) (xa xb : Nat), R[k]? = some (x0, (xa : Int), (xb : Int)) ∧ xa < n ∧ xb < n ∧ ea (x0, (xa : Int), (xb : Int)) = xa ∧ eb (x0, (xa : Int), (xb : Int)) = xb := by
  obtain ⟨e, he⟩ : ∃ e, R[k]? = some e := ⟨_, List.getElem?_eq_getElem hk⟩
  obtain ⟨h1, h2, h3, h4⟩ := hin e (List.mem_of_getElem? he)
  obtain ⟨x0, x1, x2⟩ := e
  obtain ⟨xa, hxa⟩ : ∃ xa, ea (x0, x1, x2) = xa := ⟨_, rfl⟩
  obtain ⟨xb, hxb⟩ : ∃ xb, eb (x0, x1, x2) = xb := ⟨_, rfl⟩
  rw [hxa] at h1 h3
  rw [hxb] at h2 h4
  simp only at h3 h4
  subst h3
  subst h4
  exact ⟨x0, xa, xb, he, h1, h2, hxa, hxb⟩

theorem owns_block {w : World} {B : Nat} {va : Option Addr} {m vc : Nat} {R : List Edg} (h : G.Owns w B 61 (.slice va m vc) R) {k : Nat} (hk : k < R.length) : ∃ g, va = some ⟨g, 0, none⟩ := by
  rcases h.shape with ⟨_, e⟩ | ⟨g, cap, e, _⟩
  · rw [e] at hk; simp at hk
  · injection e with e1 _ _
    exact ⟨g, e1⟩

theorem lb_take (n : Nat) {R : List Edg} {k : Nat} {x : Edg} (h : R[k]? = some x) : lbl n (R.take (k + 1)) = joinL (lbl n (R.take k)) (ea x) (eb x) := by
  obtain ⟨hlt, he⟩ := List.getElem?_eq_some_iff.1 h
  rw [List.take_succ_eq_append_getElem hlt, he, lb_snoc]

theorem nodes_take {n : Nat} {R : List Edg} (h : InE n R) (k : Nat) : Nodes n (R.take k) := fun e he => h.nodes e (List.mem_of_mem_take he)

set_option maxHeartbeats 2000000 in
set_option maxRecDepth 100000 in
theorem ctogether_any (n B0 : Nat) (u : Value) (R : List Edg) (w : World) (hR : G.Owns w B0 61 u R) (hn : n ≤ 40) (hin : InE n R) (hl : R.length ≤ 120) :
    Calls Tryz.prog 252 #[.int .i64 (n : Int), u] w fun e w' => ∃ p b, e = .returned (.pointer (some ⟨p, 0, none⟩)) ∧ SetsAt w' p b (lbl n R) ∧ w.heap.size ≤ p ∧ w.heap.size ≤ b ∧ Below w.heap.size w w' := by
  have HR : Hid (G.Owns w B0 61 u R ∧ InE n R) := ⟨hR, hin⟩
  obtain ⟨m, hm⟩ : ∃ m, R.length = m := ⟨_, rfl⟩
  have HM : Hid (R.length = m) := hm
  obtain ⟨va, vc, hv⟩ := hR.slice_len
  rw [hm] at hv hl
  subst hv
  clear hR hm hin
  go_enter Tryz.func252, Tryz.ntmps252
  go_wp2_with fail
  refine (new_in n w hn).mono ?_
  rintro e w1 ⟨rfl, hs1, hb1⟩
  have HS1 : Hid (SetsAt w1 (w.heap.size + 1) w.heap.size (List.range n) ∧ Below w.heap.size w w1) := ⟨hs1, hb1⟩
  clear hs1 hb1
  go_wp2_with fail
  go_loopw [16] (fun s16 wq => ∃ k : Nat, k ≤ m ∧ s16 = .int .i64 k ∧ SetsAt wq (w.heap.size + 1) w.heap.size (lbl n (R.take k)) ∧ Below w.heap.size w wq) (fun s16 _ => m - (intOf s16).toNat)
  case atStart => exact ⟨0, Nat.zero_le _, rfl, HS1.out.1, HS1.out.2⟩
  case round =>
    clear HS1
    obtain ⟨k, hk, rfl, hs, hb⟩ := hrel
    have HS : Hid (SetsAt wr (w.heap.size + 1) w.heap.size (lbl n (R.take k))) := hs
    have HB : Hid (Below w.heap.size w wr) := hb
    clear hs hb
    by_cases hlt : k < m
    · as_aux_lemma =>
      obtain ⟨x0, xa, xb, hx, han, hbn, hxa, hxb⟩ := row_edge HR.out.2 (by rw [HM.out]; exact hlt)
      have HX : Hid (R[k]? = some (x0, (xa : Int), (xb : Int)) ∧ ea (x0, (xa : Int), (xb : Int)) = xa ∧ eb (x0, (xa : Int), (xb : Int)) = xb) := ⟨hx, hxa, hxb⟩
      obtain ⟨g, rfl⟩ := owns_block HR.out.1 (by rw [HM.out]; exact hlt)
      obtain ⟨r0, r1, r2⟩ := (HR.out.1.below HB.out).at (g := g) rfl hx
      have r0' : wr.cell? ⟨g, k * 3, none⟩ = some (.int .i64 x0) := r0
      have r1' : wr.cell? ⟨g, k * 3 + 1, none⟩ = some (.int .i64 (xa : Int)) := r1
      have r2' : wr.cell? ⟨g, k * 3 + 2, none⟩ = some (.int .i64 (xb : Int)) := r2
      clear r0 r1 r2 hx hxa hxb
      have hb1 : Below wr.heap.size wr (wr.alloc (.cells #[.int .i64 x0, .int .i64 (xa : Int), .int .i64 (xb : Int)] 61)) := (Below.refl _ _).alloc (Nat.le_refl _) _
      have HB1 : Hid (Below w.heap.size w (wr.alloc (.cells #[.int .i64 x0, .int .i64 (xa : Int), .int .i64 (xb : Int)] 61))) := HB.out.trans (hb1.mono HB.out.size)
      have HSW : Hid (SetsAt (wr.alloc (.cells #[.int .i64 x0, .int .i64 (xa : Int), .int .i64 (xb : Int)] 61)) (w.heap.size + 1) w.heap.size (lbl n (R.take k))) := HS.out.below hb1 HS.out.plt HS.out.blt
      clear hb1
      go_wp2_with fail
      have g := lb_good (nodes_take HR.out.2 k)
      refine (join_in xa xb (w.heap.size + 1) w.heap.size _ _ HSW.out (by rw [g.len]; exact han) (by rw [g.len]; exact hbn) (by rw [g.len]; exact hn)).mono ?_
      rintro e w3 ⟨rfl, hs3, hb3⟩
      have HF3 : Hid (SetsAt w3 (w.heap.size + 1) w.heap.size (lbl n (R.take (k + 1))) ∧ Below w.heap.size w w3) := by
        refine ⟨?_, HB1.out.trans (hb3.below (Nat.le_refl _) HB1.out.size)⟩
        rw [lb_take n HX.out.1, HX.out.2.1, HX.out.2.2]
        exact hs3
      clear hs3 hb3 g HSW HS HB HB1 r0' r1' r2'
      go_wp2_with fail
      go_roundw
      case rel => exact ⟨k + 1, by omega, by go_num, HF3.out.1, HF3.out.2⟩
      case measure => simp [intOf]; omega
    · as_aux_lemma =>
      have hke : k = m := by omega
      have HF3 : Hid (SetsAt wr (w.heap.size + 1) w.heap.size (lbl n R)) := by
        have h2 := HS.out
        rw [hke, ← HM.out, List.take_length] at h2
        exact h2
      clear hke HS
      go_wp2_with fail
      go_ret
      exact ⟨_, _, rfl, HF3.out, by omega, by omega, HB.out⟩

theorem capart_any (x y p b : Nat) (L : List Nat) (s : Bool) (w : World) (hs : SetsAt w p b L) (hx : x < L.length) (hy : y < L.length) (hv : (s = true ↔ L.getD x 0 ≠ L.getD y 0)) :
    Calls Tryz.prog 256 #[.pointer (some ⟨p, 0, none⟩), .int .i64 (x : Int), .int .i64 (y : Int)] w fun e w' => e = .returned (.bool s) ∧ Below w.heap.size w w' := by
  have HC : Hid _ := same_in x y p b L (!s) w hs hx hy (by
    by_cases h : L.getD x 0 = L.getD y 0
    · have : s = false := by
        rw [Bool.eq_false_iff]; intro k; exact hv.1 k h
      rw [this, h]; simp
    · have : s = true := hv.2 h
      rw [this]; exact beq_eq_false_iff_ne.2 (by omega))
  clear hs hx hy hv
  go_enter Tryz.func256, Tryz.ntmps256
  go_wp2_with fail
  refine Calls.mono HC.out ?_
  rintro e w1 ⟨rfl, hb⟩
  have HB : Hid (Below w.heap.size w w1) := hb
  clear hb HC
  go_wp2_with fail
  go_ret
  exact ⟨by simp, HB.out⟩

end Go.Proofs.YtebcjaenhiiflaaGreatDoor.S
namespace Go.Proofs.YtebcjaenhiiflaaGreatDoor.S
open Go.RowKit

/-- What grow holds on to. -/
structure Gw (w0 W0 w : World) (p b be : Nat) (l : List Nat) (R t o : List Edg) (ue v2 v3 : Value) : Prop where
  sets : SetsAt w p b l
  er : G.Owns w be 61 ue R
  o2 : G.Owns w W0.heap.size 61 v2 t
  o3 : G.Owns w W0.heap.size 61 v3 o
  ap : ∀ k, v2.ownBlock = some k → v3.ownBlock ≠ some k
  lp : p < be
  lbl : b < be
  lbe : be ≤ W0.heap.size
  lu : ∀ k, ue.ownBlock = some k → k < W0.heap.size
  low : w0.heap.size ≤ b
  below : Below w0.heap.size w0 w
  sz : W0.heap.size ≤ w.heap.size
  s0 : w0.heap.size ≤ W0.heap.size

section
variable {w0 W0 w w' : World} {p b be : Nat} {l l' : List Nat} {R t o : List Edg} {ue v2 v3 v' : Value}
theorem Gw.below' (h : Gw w0 W0 w p b be l R t o ue v2 v3) (hb : Below w.heap.size w w') : Gw w0 W0 w' p b be l R t o ue v2 v3 :=
  { h with sets := h.sets.below hb h.sets.plt h.sets.blt, er := h.er.below hb, o2 := h.o2.below hb, o3 := h.o3.below hb, below := h.below.trans (hb.mono h.below.size), sz := Nat.le_trans h.sz hb.size }

theorem Gw.join (h : Gw w0 W0 w p b be l R t o ue v2 v3) (hs : SetsAt w' p b l') (hb : But b w w') : Gw w0 W0 w' p b be l' R t o ue v2 v3 := by
  have hg : w.grownBy w' (some b) := ⟨hb.os, hb.tape, hb.output, hb.size, fun k hk hne => hb.block k hk (fun e => hne (by rw [e]))⟩
  have hlb := h.lbl
  have hbe := h.lbe
  refine { h with sets := hs, er := World.ownsRow.kept h.er hg (.inr (fun e => by have := (World.ownsRow.lt h.er b e).1; omega)), o2 := World.ownsRow.kept h.o2 hg (.inr (fun e => by have := (World.ownsRow.lt h.o2 b e).1; omega)), o3 := World.ownsRow.kept h.o3 hg (.inr (fun e => by have := (World.ownsRow.lt h.o3 b e).1; omega)), below := h.below.trans (hb.below h.low h.below.size), sz := Nat.le_trans h.sz hb.size }

theorem Gw.grown (h : Gw w0 W0 w p b be l R t o ue v2 v3) {v : Value} (hg : w.grownBy w' v.ownBlock) (hv : ∀ k, v.ownBlock = some k → W0.heap.size ≤ k) : SetsAt w' p b l ∧ G.Owns w' be 61 ue R ∧ Below w0.heap.size w0 w' ∧ W0.heap.size ≤ w'.heap.size := by
  have hlp := h.lp
  have hlb := h.lbl
  have hbe := h.lbe
  have hs0 := h.s0
  refine ⟨⟨(hg.block p h.sets.plt (fun e => by have := hv p e.symm; omega)).trans h.sets.hp, (hg.block b h.sets.blt (fun e => by have := hv b e.symm; omega)).trans h.sets.hb⟩, World.ownsRow.kept h.er hg ?_, h.below.grown hg h.below.size (fun j hj => by have := hv j hj; omega), Nat.le_trans h.sz hg.size⟩
  by_cases e : ue.ownBlock = none
  · exact .inl e
  · refine .inr (fun e2 => ?_)
    obtain ⟨k, hk⟩ := Option.ne_none_iff_exists'.1 e
    have h1 := h.lu k hk
    have h2 := hv k (e2.symm.trans hk)
    omega

theorem Gw.tree (h : Gw w0 W0 w p b be l R t o ue v2 v3) {x : Edg} (ho : G.Owns w' W0.heap.size 61 v' (t ++ [x])) (hg : w.grownBy w' v2.ownBlock) (hf : G.Fresh w v2 v') : Gw w0 W0 w' p b be l R (t ++ [x]) o ue v' v3 := by
  obtain ⟨h1, h2, h3, h4⟩ := h.grown hg (fun k hk => (World.ownsRow.lt h.o2 k hk).1)
  refine { h with sets := h1, er := h2, o2 := ho, o3 := World.ownsRow.kept h.o3 hg ?_, ap := fun k hk e => ?_, below := h3, sz := h4 }
  · by_cases e : v3.ownBlock = none
    · exact .inl e
    · refine .inr (fun e2 => ?_)
      obtain ⟨k, hk⟩ := Option.ne_none_iff_exists'.1 e
      exact h.ap k (e2.symm.trans hk) hk
  · rcases hf k hk with h5 | h5
    · exact h.ap k h5 e
    · have := (World.ownsRow.lt h.o3 k e).2; omega

theorem Gw.other (h : Gw w0 W0 w p b be l R t o ue v2 v3) {x : Edg} (ho : G.Owns w' W0.heap.size 61 v' (o ++ [x])) (hg : w.grownBy w' v3.ownBlock) (hf : G.Fresh w v3 v') : Gw w0 W0 w' p b be l R t (o ++ [x]) ue v2 v' := by
  obtain ⟨h1, h2, h3, h4⟩ := h.grown hg (fun k hk => (World.ownsRow.lt h.o3 k hk).1)
  refine { h with sets := h1, er := h2, o3 := ho, o2 := World.ownsRow.kept h.o2 hg ?_, ap := fun k hk e => ?_, below := h3, sz := h4 }
  · by_cases e : v2.ownBlock = none
    · exact .inl e
    · refine .inr (fun e2 => ?_)
      obtain ⟨k, hk⟩ := Option.ne_none_iff_exists'.1 e
      exact h.ap k hk (e2.symm.trans hk)
  · rcases hf k e with h5 | h5
    · exact h.ap k hk h5
    · have := (World.ownsRow.lt h.o2 k hk).2; omega
end

theorem joinL_eqv {L : List Nat} {x y : Nat} (h : L.getD x 0 = L.getD y 0) : joinL L x y = L := by
  apply List.ext_getElem
  · simp [joinL]
  · intro i h1 h2
    have := joinL_at L x y i h2
    rw [List.getD_eq_getElem?_getD, List.getElem?_eq_getElem h1, List.getD_eq_getElem?_getD (l := L) (i := i), List.getElem?_eq_getElem h2] at this
    simp only [Option.getD_some] at this
    rw [this, h]
    unfold named
    split <;> omega

theorem grw_take (n : Nat) {R : List Edg} {k : Nat} {x : Edg} (h : R[k]? = some x) : grw n (R.take (k + 1)) = gstep n (grw n (R.take k)) x := by
  obtain ⟨hlt, he⟩ := List.getElem?_eq_some_iff.1 h
  rw [List.take_succ_eq_append_getElem hlt, he, grw_snoc]

theorem grw_sub {n : Nat} {R : List Edg} (hnd : R.Nodup) (hin : Nodes n R) (k : Nat) : Gr n (R.take k) (grw n (R.take k)).1 (grw n (R.take k)).2 :=
  gr_all _ (hnd.sublist (List.take_sublist _ _)) (fun e he => hin e (List.mem_of_mem_take he))

/-- What grow gives. -/
def GrowPost (w : World) (n : Nat) (R : List Edg) (e : Ending) (w' : World) : Prop :=
  ∃ v2 v3 B, e = .returned (.tuple #[v2, v3]) ∧ G.Owns w' B 61 v2 (grw n R).1 ∧ G.Owns w' B 61 v3 (grw n R).2 ∧ w.heap.size ≤ B ∧ Below w.heap.size w w'

set_option maxHeartbeats 4000000 in
set_option maxRecDepth 100000 in
theorem grow_any (n B p : Nat) (v : Value) (R : List Edg) (w : World) (h : G.GAt w B 168 61 p (n : Int) v R) (hn : n ≤ 40) (hin : InE n R) (hnd : R.Nodup) (hl : R.length ≤ 120) :
    Calls Tryz.prog 139 #[.pointer (some ⟨p, 0, none⟩)] w (GrowPost w n R) := by
  have HG : Hid (G.GAt w B 168 61 p (n : Int) v R) := h
  have HIN : Hid (InE n R ∧ R.Nodup) := ⟨hin, hnd⟩
  clear h hin hnd
  go_enter Tryz.func139, Tryz.ntmps139
  go_wp2_with fail
  refine (G.nodes_any (n : Int) B p v R _ HG.out).mono ?_
  rintro e w0 ⟨rfl, hw0⟩
  subst hw0
  go_wp2_with fail
  refine (ctogether_any n 0 (.slice none 0 0) [] w0 (World.ownsRow_nil _ _ _ _) hn (fun e he => by simp at he) (by simp)).mono ?_
  rintro e w1 ⟨ps, bs, rfl, hs1, hps, hbs, hb1⟩
  have HS1 : Hid (SetsAt w1 ps bs (lbl n []) ∧ w0.heap.size ≤ bs ∧ Below w0.heap.size w0 w1) := ⟨hs1, hbs, hb1⟩
  clear hs1 hps hbs hb1
  go_wp2_with fail
  refine (G.edges_any (n : Int) B p v R _ (HG.out.below HS1.out.2.2) hl).mono ?_
  rintro e w2 ⟨ue, rfl, hoe, hb2⟩
  have HW0 : Hid (Gw w0 w2 w2 ps bs w1.heap.size (lbl n (grw n (R.take 0)).1) R (grw n (R.take 0)).1 (grw n (R.take 0)).2 ue (.slice none 0 0) (.slice none 0 0)) :=
    ⟨HS1.out.1.below hb2 HS1.out.1.plt HS1.out.1.blt, hoe, World.ownsRow_nil _ _ _ _, World.ownsRow_nil _ _ _ _, fun k hk => absurd hk (by simp [Value.ownBlock]), HS1.out.1.plt, HS1.out.1.blt, hb2.size, fun k hk => (World.ownsRow.lt hoe k hk).2, HS1.out.2.1, HS1.out.2.2.trans (hb2.mono HS1.out.2.2.size), Nat.le_refl _, Nat.le_trans HS1.out.2.2.size hb2.size⟩
  obtain ⟨m, hm⟩ : ∃ m, R.length = m := ⟨_, rfl⟩
  have HM : Hid (R.length = m) := hm
  obtain ⟨va, vc, hv⟩ := hoe.slice_len
  rw [hm] at hv hl
  subst hv
  clear hoe hb2 HS1 hm
  go_wp2_with fail
  go_loopw [2, 3, 15] (fun s2 s3 s15 wq => ∃ k : Nat, k ≤ m ∧ s15 = .int .i64 k ∧ Gw w0 w2 wq ps bs w1.heap.size (lbl n (grw n (R.take k)).1) R (grw n (R.take k)).1 (grw n (R.take k)).2 (.slice va m vc) s2 s3) (fun _ _ s15 _ => m - (intOf s15).toNat)
  case atStart => exact ⟨0, Nat.zero_le _, rfl, HW0.out⟩
  case round =>
    clear HW0
    obtain ⟨k, hk, rfl, hgw⟩ := hrel
    have HW : Hid (Gw w0 w2 wr ps bs w1.heap.size (lbl n (grw n (R.take k)).1) R (grw n (R.take k)).1 (grw n (R.take k)).2 (.slice va m vc) u2 u3) := hgw
    clear hgw
    by_cases hlt : k < m
    · obtain ⟨x0, xa, xb, hx, han, hbn, hxa, hxb⟩ := row_edge HIN.out.1 (by rw [HM.out]; exact hlt)
      have HX : Hid (R[k]? = some (x0, (xa : Int), (xb : Int)) ∧ ea (x0, (xa : Int), (xb : Int)) = xa ∧ eb (x0, (xa : Int), (xb : Int)) = xb) := ⟨hx, hxa, hxb⟩
      obtain ⟨g, rfl⟩ := owns_block HW.out.er (by rw [HM.out]; exact hlt)
      obtain ⟨r0, r1, r2⟩ := HW.out.er.at (g := g) rfl hx
      have r0' : wr.cell? ⟨g, k * 3, none⟩ = some (.int .i64 x0) := r0
      have r1' : wr.cell? ⟨g, k * 3 + 1, none⟩ = some (.int .i64 (xa : Int)) := r1
      have r2' : wr.cell? ⟨g, k * 3 + 2, none⟩ = some (.int .i64 (xb : Int)) := r2
      have HGR : Hid (Gr n (R.take k) (grw n (R.take k)).1 (grw n (R.take k)).2) := grw_sub HIN.out.2 HIN.out.1.nodes k
      have HNX : Hid (grw n (R.take (k + 1)) = gstep n (grw n (R.take k)) (x0, (xa : Int), (xb : Int))) := grw_take n hx
      have htl : (grw n (R.take k)).1.length + (grw n (R.take k)).2.length ≤ 1000 := by
        have := HGR.out.len
        rw [this, List.length_take]; omega
      obtain ⟨t, ht⟩ : ∃ t, (grw n (R.take k)).1 = t := ⟨_, rfl⟩
      obtain ⟨o, ho⟩ : ∃ o, (grw n (R.take k)).2 = o := ⟨_, rfl⟩
      have HTO : Hid ((grw n (R.take k)).1 = t ∧ (grw n (R.take k)).2 = o) := ⟨ht, ho⟩
      rw [ht, ho] at HW HGR htl
      have hgl : (lbl n t).length = n := (lb_good (fun d hd => HIN.out.1.nodes d (List.mem_of_mem_take ((HGR.out.mem d).2 (.inl hd))))).len
      clear r0 r1 r2 hx hxa hxb ht ho
      have hb1 : Below wr.heap.size wr (wr.alloc (.cells #[.int .i64 x0, .int .i64 (xa : Int), .int .i64 (xb : Int)] 61)) := (Below.refl _ _).alloc (Nat.le_refl _) _
      have HW1 : Hid (Gw w0 w2 (wr.alloc (.cells #[.int .i64 x0, .int .i64 (xa : Int), .int .i64 (xb : Int)] 61)) ps bs w1.heap.size (lbl n t) R t o (.slice (some ⟨g, 0, none⟩) m vc) u2 u3) := HW.out.below' hb1
      have hbs := HW.out.sets.blt
      clear hb1 HW
      go_wp2_with fail
      refine (join_in xa xb ps bs (lbl n t) _ HW1.out.sets (by omega) (by omega) (by omega)).mono ?_
      rintro e w3 ⟨rfl, hs3, hb3⟩
      have hbox : w3.heap[wr.heap.size]? = some (.cells #[.int .i64 x0, .int .i64 (xa : Int), .int .i64 (xb : Int)] 61) := (hb3.block wr.heap.size (by simp) (by omega)).trans (heap_alloc_new wr _)
      have q0 : w3.cell? ⟨wr.heap.size, 0, none⟩ = some (.int .i64 x0) := by simp [World.cell?, hbox]
      have q1 : w3.cell? ⟨wr.heap.size, 1, none⟩ = some (.int .i64 (xa : Int)) := by simp [World.cell?, hbox]
      have q2 : w3.cell? ⟨wr.heap.size, 2, none⟩ = some (.int .i64 (xb : Int)) := by simp [World.cell?, hbox]
      have HW2 : Hid (Gw w0 w2 w3 ps bs w1.heap.size (joinL (lbl n t) xa xb) R t o (.slice (some ⟨g, 0, none⟩) m vc) u2 u3) := HW1.out.join hs3 hb3
      have HGS : Hid (gstep n (t, o) (x0, (xa : Int), (xb : Int)) = if (lbl n t).getD xa 0 = (lbl n t).getD xb 0 then (t, o ++ [(x0, (xa : Int), (xb : Int))]) else (t ++ [(x0, (xa : Int), (xb : Int))], o)) := by
        show gstep n (t, o) _ = _
        unfold gstep
        rw [HX.out.2.1, HX.out.2.2]
      have hpair : grw n (R.take k) = (t, o) := Prod.ext HTO.out.1 HTO.out.2
      have HLB : Hid (lbl n (t ++ [(x0, (xa : Int), (xb : Int))]) = joinL (lbl n t) xa xb) := by
        show lbl n _ = _
        rw [lb_snoc, HX.out.2.1, HX.out.2.2]
      rw [hpair] at HNX
      clear hs3 hb3 hbox HW1 r0' r1' r2' hpair
      by_cases hc : (lbl n t).getD xa 0 = (lbl n t).getD xb 0
      · as_aux_lemma =>
        have hd : decide ((lbl n t).getD xa 0 ≠ (lbl n t).getD xb 0) = false := decide_eq_false (fun k => k hc)
        have hst : gstep n (t, o) (x0, (xa : Int), (xb : Int)) = (t, o ++ [(x0, (xa : Int), (xb : Int))]) := by rw [HGS.out, if_pos hc]
        have HW3 : Hid (Gw w0 w2 w3 ps bs w1.heap.size (lbl n t) R t o (.slice (some ⟨g, 0, none⟩) m vc) u2 u3) := by
          have := HW2.out
          rw [joinL_eqv hc] at this; exact this
        rw [hd]
        clear HW2 hc hd
        obtain ⟨v', w4, hr, ho4, _, hf4, hg4⟩ := G.app_one 33 w3 w2.heap.size u3 _ x0 (xa : Int) (xb : Int) HW3.out.o3 HW3.out.sz (by omega)
        have HR : Hid (_ = _) := hr
        have HW4 : Hid (Gw w0 w2 w4 ps bs w1.heap.size (lbl n (grw n (R.take (k + 1))).1) R (grw n (R.take (k + 1))).1 (grw n (R.take (k + 1))).2 (.slice (some ⟨g, 0, none⟩) m vc) u2 v') := by
          have h1 := HW3.out.other ho4 hg4 hf4
          show Gw _ _ _ _ _ _ _ _ _ _ _ _ _
          rw [HNX.out, hst]
          exact h1
        clear hr ho4 hf4 hg4 HW3
        go_wp2_with (at_builtin; refine Lib.wpList_append_run _ rfl _ _ _ _ rfl _ _ rfl rfl _ _ HR.out ?_)
        go_roundw
        case rel => exact ⟨k + 1, by omega, by go_num, HW4.out⟩
        case measure => simp [intOf]; omega
      · as_aux_lemma =>
        have hd : decide ((lbl n t).getD xa 0 ≠ (lbl n t).getD xb 0) = true := decide_eq_true hc
        have hst : gstep n (t, o) (x0, (xa : Int), (xb : Int)) = (t ++ [(x0, (xa : Int), (xb : Int))], o) := by rw [HGS.out, if_neg hc]
        have HW3 : Hid (Gw w0 w2 w3 ps bs w1.heap.size (lbl n (t ++ [(x0, (xa : Int), (xb : Int))])) R t o (.slice (some ⟨g, 0, none⟩) m vc) u2 u3) := by
          have := HW2.out
          rw [← HLB.out] at this; exact this
        rw [hd]
        clear HW2 hc hd
        obtain ⟨v', w4, hr, ho4, _, hf4, hg4⟩ := G.app_one 33 w3 w2.heap.size u2 _ x0 (xa : Int) (xb : Int) HW3.out.o2 HW3.out.sz (by omega)
        have HR : Hid (_ = _) := hr
        have HW4 : Hid (Gw w0 w2 w4 ps bs w1.heap.size (lbl n (grw n (R.take (k + 1))).1) R (grw n (R.take (k + 1))).1 (grw n (R.take (k + 1))).2 (.slice (some ⟨g, 0, none⟩) m vc) v' u3) := by
          have h1 := HW3.out.tree ho4 hg4 hf4
          show Gw _ _ _ _ _ _ _ _ _ _ _ _ _
          rw [HNX.out, hst]
          exact h1
        clear hr ho4 hf4 hg4 HW3
        go_wp2_with (at_builtin; refine Lib.wpList_append_run _ rfl _ _ _ _ rfl _ _ rfl rfl _ _ HR.out ?_)
        go_roundw
        case rel => exact ⟨k + 1, by omega, by go_num, HW4.out⟩
        case measure => simp [intOf]; omega
    · as_aux_lemma =>
      have hke : k = m := by omega
      have HF : Hid (Gw w0 w2 wr ps bs w1.heap.size (lbl n (grw n R).1) R (grw n R).1 (grw n R).2 (.slice va m vc) u2 u3) := by
        have h2 := HW.out
        rw [hke, ← HM.out, List.take_length, HM.out] at h2
        exact h2
      clear hke HW
      go_wp2_with fail
      go_ret2
      exact ⟨_, _, w2.heap.size, rfl, HF.out.o2, HF.out.o3, HF.out.s0, HF.out.below⟩

end Go.Proofs.YtebcjaenhiiflaaGreatDoor.S
namespace Go.Proofs.YtebcjaenhiiflaaGreatDoor.S
open Go.RowKit

theorem pow_lt64 {i : Nat} (h : i < 64) : 2 ^ i < 18446744073709551616 := Nat.pow_lt_pow_right (by omega) h

theorem wrap_pow {i : Nat} (h : i < 64) : IntKind.u64.wrap ((2 : Int) ^ i) = ((2 ^ i : Nat) : Int) := by
  have h1 := pow_lt64 h
  have h2 : ((2 : Int) ^ i) = ((2 ^ i : Nat) : Int) := by simp
  rw [h2, IntKind.wrap_u64]
  generalize 2 ^ i = K at h1 ⊢
  omega

theorem or_bit {x i : Nat} (hi : i < 64) (hx : x < 2 ^ i) : bits .or .u64 (x : Int) ((2 ^ i : Nat) : Int) = ((x + 2 ^ i : Nat) : Int) := by
  have h1 := pow_lt64 hi
  rw [bits_or_u64_nat x (2 ^ i) (by omega) h1, or_pow hx]

theorem set_word {w : World} {b t : Nat} {x y : Value} (h : w.heap[b]? = some (.cells #[x, y] t)) (v : Value) : (w.setCell ⟨b, 0, none⟩ v).heap[b]? = some (.cells #[v, y] t) := by
  simp only [World.setCell, Array.getElem?_modify, h]
  simp

set_option maxHeartbeats 2000000 in
set_option maxRecDepth 100000 in
theorem put_any (b i x : Nat) (w : World) (hb : w.heap[b]? = some (.cells #[.int .u64 (x : Int), .int .u64 0] 208)) (hi : i < 64) (hx : x < 2 ^ i) :
    Calls Tryz.prog 140 #[.pointer (some ⟨b, 0, none⟩), .int .i64 (i : Int)] w fun e w' => e = .returned (.tuple #[]) ∧ w'.heap[b]? = some (.cells #[.int .u64 ((x + 2 ^ i : Nat) : Int), .int .u64 0] 208) ∧ But b w w' := by
  have c0 : w.cell? ⟨b, 0, none⟩ = some (.int .u64 (x : Int)) := by simp [World.cell?, hb]
  have f0 : w.frozen? ⟨b, 0, none⟩ = false := by simp [World.frozen?, hb]
  have e1 : (i : Int).tdiv 64 = 0 := Int.tdiv_eq_zero_of_lt (by omega) (by omega)
  have e2 : (i : Int).tmod 64 = (i : Int) := Int.tmod_eq_of_lt (by omega) (by omega)
  have HO : Hid (bits .or .u64 (x : Int) (IntKind.u64.wrap ((2 : Int) ^ i)) = ((x + 2 ^ i : Nat) : Int)) := by
    show bits _ _ _ _ = _
    rw [wrap_pow hi]; exact or_bit hi hx
  have HB : Hid (w.heap[b]? = some (.cells #[.int .u64 (x : Int), .int .u64 0] 208)) := hb
  clear hb hx
  go_enter Tryz.func140, Tryz.ntmps140
  go_upto_region 0 with fail
  go_region
  all_goals
    go_wp2_with fail
    refine bodyPost_end (results_none rfl _ _ _) rfl ?_
    refine ⟨rfl, ?_, ?_⟩
    · rw [HO.out]
      exact set_word HB.out _
    · exact ((But.refl b w).setCell 0 _).trans (But.of_below (Below.refl _ _).drew)

end Go.Proofs.YtebcjaenhiiflaaGreatDoor.S
namespace Go.Proofs.YtebcjaenhiiflaaGreatDoor.S
open Go.RowKit

/-- The box of the edge that is held. -/
def Box (w : World) (c : Nat) (d : Edg) : Prop := w.heap[c]? = some (.cells #[.int .i64 d.1, .int .i64 d.2.1, .int .i64 d.2.2] 61)
theorem Box.below {w w' : World} {c : Nat} {d : Edg} (h : Box w c d) (hb : Below w.heap.size w w') : Box w' c d := (hb.block c (lt_of_some h)).trans h
theorem Box.cells {w : World} {c : Nat} {d : Edg} (h : Box w c d) : w.cell? ⟨c, 0, none⟩ = some (.int .i64 d.1) ∧ w.cell? ⟨c, 1, none⟩ = some (.int .i64 d.2.1) ∧ w.cell? ⟨c, 2, none⟩ = some (.int .i64 d.2.2) := by
  unfold Box at h
  refine ⟨?_, ?_, ?_⟩ <;> simp [World.cell?, h]

theorem held_any (x d : Edg) (c : Nat) (w : World) (h : Box w c d) :
    Calls Tryz.prog 255 #[.agg #[.int .i64 x.1, .int .i64 x.2.1, .int .i64 x.2.2], .pointer (some ⟨c, 0, none⟩)] w fun e w' => e = .returned (.bool (decide (x = d))) ∧ Below w.heap.size w w' := by
  obtain ⟨c0, c1, c2⟩ := h.cells
  have hl : c < w.heap.size := lt_of_some h
  clear h
  obtain ⟨x0, x1, x2⟩ := x
  obtain ⟨d0, d1, d2⟩ := d
  simp only at c0 c1 c2 ⊢
  have hb : Below w.heap.size w (w.alloc (.cells #[.int .i64 x0, .int .i64 x1, .int .i64 x2] 61)) := (Below.refl _ _).alloc (Nat.le_refl _) _
  have k0 := cell_below c0 hb
  have k1 := cell_below c1 hb
  have k2 := cell_below c2 hb
  clear hb c0 c1 c2
  go_enter Tryz.func255, Tryz.ntmps255
  go_wp2_with fail
  all_goals
    go_ret
    refine ⟨?_, (Below.refl _ _).alloc (Nat.le_refl _) _⟩
    simp_all

set_option maxRecDepth 100000 in
theorem clone_edges (u : Value) (B : Nat) (M : List Edg) (w : World) (h : G.Owns w B 61 u M) (hl : M.length ≤ 1000) :
    Calls Tryz.prog 254 #[u] w fun e w' => ∃ u', e = .returned u' ∧ G.Owns w' w.heap.size 61 u' M ∧ Below w.heap.size w w' := by
  have hq := fun (a : Option Addr) (n c : Nat) (W : World) => Lib.run_eql_slice_nil (P := Tryz.prog) W 33 61 a n c 0 0 Tryz.underlying33
  rcases h.shape with ⟨rfl, rfl⟩ | ⟨g, cap, rfl, _⟩
  · go_enter Tryz.func254, Tryz.ntmps254
    go_wp2_with fail
    go_ret
    exact ⟨_, rfl, World.ownsRow_nil _ _ _ _, Below.refl _ _⟩
  · obtain ⟨a', m', c', w', hr, ho, hb⟩ := G.copy_row 33 w B _ M h hl
    have HR : Hid (_ = _) := hr
    have HO : Hid (G.Owns w' w.heap.size 61 (.slice a' m' c') M ∧ Below w.heap.size w w') := ⟨ho, hb⟩
    clear hr ho hb h
    go_enter Tryz.func254, Tryz.ntmps254
    go_wp2_with (at_builtin; refine Lib.wpList_append_run _ rfl _ _ _ _ rfl _ _ rfl rfl _ _ HR.out ?_)
    go_ret
    exact ⟨_, rfl, HO.out.1, HO.out.2⟩

set_option maxHeartbeats 2000000 in
set_option maxRecDepth 100000 in
theorem index_edges (c g m cap B : Nat) (d : Edg) (M : List Edg) (w : World) (h : G.Owns w B 61 (.slice (some ⟨g, 0, none⟩) m cap) M) (hd : Box w c d) (hl : M.length ≤ 1000) (hm : M.length = m) :
    Calls Tryz.prog 322 #[.slice (some ⟨g, 0, none⟩) m cap, .func (.func 255) #[] #[.pointer (some ⟨c, 0, none⟩)]] w fun e w' => ((∃ i, i < m ∧ e = .returned (.int .i64 (i : Int)) ∧ M[i]? = some d ∧ ∀ j, j < i → M[j]? ≠ some d) ∨ (e = .returned (.int .i64 (-1)) ∧ ∀ j, j < m → M[j]? ≠ some d)) ∧ Below w.heap.size w w' := by
  have HO : Hid (G.Owns w B 61 (.slice (some ⟨g, 0, none⟩) m cap) M ∧ Box w c d ∧ M.length = m) := ⟨h, hd, hm⟩
  rw [hm] at hl
  clear h hd hm
  go_enter Tryz.func322, Tryz.ntmps322
  go_wp2_with fail
  go_loopw [8] (fun s8 wq => ∃ k : Nat, k ≤ m ∧ s8 = .int .i64 k ∧ (∀ j, j < k → M[j]? ≠ some d) ∧ Below w.heap.size w wq) (fun s8 _ => m - (intOf s8).toNat)
  case atStart => exact ⟨0, Nat.zero_le _, rfl, fun j hj => by omega, Below.refl _ _⟩
  case round =>
    obtain ⟨k, hk, rfl, hno, hb⟩ := hrel
    have HB : Hid ((∀ j, j < k → M[j]? ≠ some d) ∧ Below w.heap.size w wr) := ⟨hno, hb⟩
    clear hno hb
    by_cases hlt : k < m
    · obtain ⟨x, hx⟩ : ∃ x, M[k]? = some x := ⟨_, List.getElem?_eq_getElem (by rw [HO.out.2.2]; exact hlt)⟩
      obtain ⟨r0, r1, r2⟩ := (HO.out.1.below HB.out.2).at (g := g) rfl hx
      have r0' : wr.cell? ⟨g, k * 3, none⟩ = some (.int .i64 x.1) := r0
      have r1' : wr.cell? ⟨g, k * 3 + 1, none⟩ = some (.int .i64 x.2.1) := r1
      have r2' : wr.cell? ⟨g, k * 3 + 2, none⟩ = some (.int .i64 x.2.2) := r2
      have HX : Hid (M[k]? = some x) := hx
      have HC : Hid _ := held_any x d c wr (HO.out.2.1.below HB.out.2)
      clear r0 r1 r2 hx
      by_cases hxd : x = d
      · as_aux_lemma =>
        subst hxd
        go_wp2_with fail
        refine Calls.mono HC.out ?_
        rintro e w2 ⟨rfl, hb2⟩
        have HB2 : Hid (Below w.heap.size w w2) := HB.out.2.trans (hb2.mono HB.out.2.size)
        first | rw [decide_eq_true rfl] | simp only [decide_true]
        clear hb2 HC
        go_wp2_with fail
        go_ret
        exact ⟨.inl ⟨k, hlt, rfl, HX.out, HB.out.1⟩, HB2.out⟩
      · as_aux_lemma =>
        go_wp2_with fail
        refine Calls.mono HC.out ?_
        rintro e w2 ⟨rfl, hb2⟩
        have HB2 : Hid (Below w.heap.size w w2 ∧ ∀ j, j < k + 1 → M[j]? ≠ some d) := ⟨HB.out.2.trans (hb2.mono HB.out.2.size), fun j hj => by
          by_cases e : j = k
          · rw [e, HX.out]; exact fun e2 => hxd (Option.some.inj e2)
          · exact HB.out.1 j (by omega)⟩
        rw [decide_eq_false hxd]
        clear hb2 HC
        go_wp2_with fail
        go_roundw
        case rel => exact ⟨k + 1, by omega, by go_num, HB2.out.2, HB2.out.1⟩
        case measure => simp [intOf]; omega
    · as_aux_lemma =>
      have hke : k = m := by omega
      go_wp2_with fail
      go_ret
      exact ⟨.inr ⟨rfl, fun j hj => HB.out.1 j (by omega)⟩, HB.out.2⟩

end Go.Proofs.YtebcjaenhiiflaaGreatDoor.S
namespace Go.Proofs.YtebcjaenhiiflaaGreatDoor.S
open Go.RowKit

theorem run_clear_rows {P : Program} (w : World) (t e ty : TypeId) (z : Value) (ht : P.underlying t = some (.slice e)) (hv : ∀ w, (zeroValue e).run P w = .ok z w) (g o n c : Nat) (hn : 0 < n) (cur : List Value) (te : TypeId)
    (hg : w.heap[g]? = some (.cells cur.toArray te (0, 0))) (hfit : o + (Builtin.zeroCells z.cells n).toList.length ≤ cur.length) (h1 : ∀ v ∈ (Builtin.zeroCells z.cells n).toList, v.oneCell' = true) :
    (Builtin.clear_ #[t] ty #[.slice (some ⟨g, o, none⟩) n c]).run P w = .ok (.tuple #[]) (w.setRow g (splice cur o (Builtin.zeroCells z.cells n).toList).toArray) := by
  have hst := run_storeCells_at P g o te _ 0 cur.toArray w hg (by simpa using hfit) h1
  simp only [Nat.add_zero] at hst
  obtain ⟨m, rfl⟩ : ∃ m, n = m + 1 := ⟨n - 1, by omega⟩
  simp [Builtin.clear_, run_underlying ht, hv, hst, splice]

theorem zeroes_one (n : Nat) : ∀ u ∈ (Builtin.zeroCells G.zE.cells n).toList, u.oneCell' = true := by
  intro u hu
  rw [G.zE_cells] at hu
  simp only [Builtin.zeroCells, Array.toList_map, List.mem_map] at hu
  obtain ⟨a, _, rfl⟩ := hu
  have : a % 3 < 3 := Nat.mod_lt _ (by omega)
  show (#[Value.int .i64 0, Value.int .i64 0, Value.int .i64 0][a % 3]!).oneCell' = true
  generalize a % 3 = r at this
  match r, this with
  | 0, _ => rfl
  | 1, _ => rfl
  | 2, _ => rfl

theorem zeroV55 (w : World) : (zeroValue 61).run Tryz.prog w = .ok G.zE w := by kernel_rfl

theorem rowV_set : ∀ (X : List Edg) (i : Nat) (x : Edg), i < X.length → G.rowV (X.set i x) = (((G.rowV X).set (i * 3) (.int .i64 x.1)).set (i * 3 + 1) (.int .i64 x.2.1)).set (i * 3 + 2) (.int .i64 x.2.2)
  | [], i, x, h => by simp at h
  | y :: X, 0, x, _ => by simp [G.rowV_cons, G.encE]
  | y :: X, i + 1, x, h => by
    have ih := rowV_set X i x (by simpa using h)
    have e1 : (i + 1) * 3 = (i * 3) + 3 := by omega
    have e2 : (i + 1) * 3 + 1 = (i * 3 + 1) + 3 := by omega
    have e3 : (i + 1) * 3 + 2 = (i * 3 + 2) + 3 := by omega
    rw [List.set_cons_succ, G.rowV_cons, G.rowV_cons, ih, e3, e2, e1]
    simp [G.encE]

/-- A row with one edge put in. -/
theorem owns_set {w : World} {B g m cap i : Nat} {X : List Edg} (h : G.Owns w B 61 (.slice (some ⟨g, 0, none⟩) m cap) X) (hi : i < X.length) (x : Edg) :
    G.Owns (((w.setCell ⟨g, i * 3, none⟩ (.int .i64 x.1)).setCell ⟨g, i * 3 + 1, none⟩ (.int .i64 x.2.1)).setCell ⟨g, i * 3 + 2, none⟩ (.int .i64 x.2.2)) B 61 (.slice (some ⟨g, 0, none⟩) m cap) (X.set i x) := by
  have hl := h.1
  rcases h.2 with ⟨h1, _⟩ | ⟨g', cap', cur, h1, h2, h3, h4, h5, h6, h7⟩
  · cases h1
  · injection h1 with h1a h1b h1c
    injection h1a with h1a
    injection h1a with h1a _ _
    subst h1a
    subst h1c
    refine ⟨G.rowV_length _, Or.inr ⟨g, cap, ((cur.setIfInBounds (i * 3) (.int .i64 x.1)).setIfInBounds (i * 3 + 1) (.int .i64 x.2.1)).setIfInBounds (i * 3 + 2) (.int .i64 x.2.2), by rw [List.length_set, h1b], h2, ?_, by rw [List.length_set]; exact h4, h5, by simpa using h6, ?_⟩⟩
    · simp only [World.setCell, Array.getElem?_modify, h3]
      simp
    · rw [rowV_set X i x hi, ← h7, List.length_set]
      simp [List.take_set]

/-- What DeleteFunc has in its row: i are kept of the first j. -/
structure Df (w0 w : World) (B g m cap c i j : Nat) (d : Edg) (M X : List Edg) : Prop where
  own : G.Owns w B 61 (.slice (some ⟨g, 0, none⟩) m cap) X
  len : X.length = m
  fst : X.take i = (M.take j).filter fun x => !decide (x = d)
  snd : X.drop j = M.drop j
  hij : i < j
  hjm : j ≤ m
  box : Box w c d
  ne : c ≠ g
  low : B ≤ g
  kept : w0.grownBy w (some g)

section
variable {w0 w w' : World} {B g m cap c i j : Nat} {d x : Edg} {M X : List Edg}
theorem Df.below' (h : Df w0 w B g m cap c i j d M X) (hb : Below w.heap.size w w') : Df w0 w' B g m cap c i j d M X :=
  { h with own := h.own.below hb, box := h.box.below hb, kept := ⟨hb.os.trans h.kept.os, hb.tape.trans h.kept.tape, hb.output.trans h.kept.output, Nat.le_trans h.kept.size hb.size, fun k hk hn => (hb.block k (Nat.lt_of_lt_of_le hk h.kept.size)).trans (h.kept.block k hk hn)⟩ }

theorem Df.at_ (h : Df w0 w B g m cap c i j d M X) (hj : j < m) (hm : M.length = m) : X[j]? = M[j]? ∧ ∃ x, M[j]? = some x := by
  refine ⟨?_, _, List.getElem?_eq_getElem (by omega)⟩
  have := congrArg (fun l => l[0]?) h.snd
  simpa using this

theorem Df.skip (h : Df w0 w B g m cap c i j d M X) (hj : j < m) (hx : M[j]? = some d) : Df w0 w B g m cap c i (j + 1) d M X := by
  refine { h with fst := ?_, snd := ?_, hij := by have := h.hij; omega, hjm := by omega }
  · rw [h.fst, G.take_filter _ hx]; simp
  · have := congrArg (List.drop 1) h.snd
    simpa [List.drop_drop, Nat.add_comm] using this

theorem Df.store (h : Df w0 w B g m cap c i j d M X) (hj : j < m) (hx : M[j]? = some x) (hxd : x ≠ d) : Df w0 (((w.setCell ⟨g, i * 3, none⟩ (.int .i64 x.1)).setCell ⟨g, i * 3 + 1, none⟩ (.int .i64 x.2.1)).setCell ⟨g, i * 3 + 2, none⟩ (.int .i64 x.2.2)) B g m cap c (i + 1) (j + 1) d M (X.set i x) := by
  have hij := h.hij
  have hlen := h.len
  have hne := h.ne
  have hset : ∀ (w : World) (o : Nat) (v : Value), w.grownBy (w.setCell ⟨g, o, none⟩ v) (some g) := fun w o v => ⟨rfl, rfl, rfl, by simp, fun k _ hn => Below.heap_setCell _ _ _ _ (fun e => hn (by rw [e]))⟩
  have gtr : ∀ {a b c : World}, a.grownBy b (some g) → b.grownBy c (some g) → a.grownBy c (some g) := fun h1 h2 => ⟨h2.os.trans h1.os, h2.tape.trans h1.tape, h2.output.trans h1.output, Nat.le_trans h1.size h2.size, fun k hk hn => (h2.block k (Nat.lt_of_lt_of_le hk h1.size) hn).trans (h1.block k hk hn)⟩
  have hk := gtr (hset w (i * 3) (.int .i64 x.1)) (gtr (hset _ (i * 3 + 1) (.int .i64 x.2.1)) (hset _ (i * 3 + 2) (.int .i64 x.2.2)))
  refine ⟨owns_set h.own (by omega) x, by simpa using hlen, ?_, ?_, by omega, by omega, ?_, hne, h.low, gtr h.kept hk⟩
  · rw [G.take_filter _ hx, ← h.fst]
    have hi : i < X.length := by omega
    have hd : (!decide (x = d)) = true := by simp [hxd]
    rw [if_pos hd, List.take_succ_eq_append_getElem (by simpa using hi)]
    congr 1
    · rw [List.take_set_of_le (Nat.le_refl _)]
    · simp
  · have := congrArg (List.drop 1) h.snd
    rw [List.drop_set_of_lt (by omega)]
    simpa [List.drop_drop, Nat.add_comm] using this
  · exact (hk.block c (lt_of_some h.box) (by simp; exact hne)).trans h.box

theorem Df.done (h : Df w0 w B g m cap c i m d M X) (hm : M.length = m) : ∃ W2, (∀ ty sc, (Builtin.clear_ #[33] ty #[.slice (some ⟨g, i * 3, none⟩) (m - i) sc]).run Tryz.prog w = .ok (.tuple #[]) W2) ∧ m ≤ cap ∧ cap ≤ maxLen ∧ G.Owns W2 B 61 (.slice (some ⟨g, 0, none⟩) i cap) (M.filter fun x => !decide (x = d)) ∧ w0.grownBy W2 (some g) := by
  have hij := h.hij
  have hlen := h.len
  rcases h.own.2 with ⟨h1, _⟩ | ⟨g', cap', cur, h1, h2, h3, h4, h5, h6, h7⟩
  · cases h1
  · injection h1 with h1a h1b h1c
    injection h1a with h1a
    injection h1a with h1a _ _
    subst h1a
    subst h1c
    have hfst := h.fst
    rw [← hm, List.take_length] at hfst
    have hcl : cur.toList.length = cap * 3 := by simpa using h6
    have hzl := G.zeroE_length (m - i)
    refine ⟨w.setRow g (splice cur.toList (i * 3) (Builtin.zeroCells G.zE.cells (m - i)).toList).toArray, fun ty sc => run_clear_rows w 33 61 ty G.zE Tryz.underlying33 zeroV55 g (i * 3) (m - i) sc (by omega) cur.toList 61 (by simpa using h3) (by rw [hzl, hcl]; omega) (zeroes_one _), by omega, h5, ?_, ?_⟩
    · rw [← hfst]
      have hl2 : (X.take i).length = i := by rw [List.length_take]; omega
      refine ⟨G.rowV_length _, Or.inr ⟨g, cap, _, by rw [hl2], h2, setRow_heap w g cur _ 61 (0, 0) h3, by rw [hl2]; omega, h5, ?_, ?_⟩⟩
      · rw [List.size_toArray, length_splice _ _ _ (by rw [hzl, hcl]; omega), hcl]
      · rw [hl2]
        show (splice _ _ _).take _ = _
        have h8 : (cur.toList.take (i * 3)).length = i * 3 := by rw [List.length_take, hcl]; omega
        unfold splice
        rw [List.take_append_of_le_length (by omega), List.take_of_length_le (by omega)]
        have h9 := congrArg (List.take (i * 3)) h7
        rw [List.take_take, hlen, show min (i * 3) (m * 3) = i * 3 by omega] at h9
        rw [h9]
        have e1 := G.rowV_append (X.take i) (X.drop i)
        rw [List.take_append_drop] at e1
        rw [e1, List.take_append_of_le_length (by rw [G.rowV_length, hl2]; exact Nat.le_refl _), List.take_of_length_le (by rw [G.rowV_length, hl2]; exact Nat.le_refl _)]
    · exact ⟨h.kept.os, h.kept.tape, h.kept.output, Nat.le_trans h.kept.size (by simp), fun k hk hn => (setRow_other w g k _ (fun e => hn (by rw [e]))).trans (h.kept.block k hk hn)⟩
end

set_option maxHeartbeats 4000000 in
set_option maxRecDepth 100000 in
theorem delete_edges (c g m cap B : Nat) (d : Edg) (M : List Edg) (w : World) (h : G.Owns w B 61 (.slice (some ⟨g, 0, none⟩) m cap) M) (hd : Box w c d) (hc : c ≠ g) (hB : B ≤ g) (hl : M.length ≤ 1000) (hm : M.length = m) :
    Calls Tryz.prog 253 #[.slice (some ⟨g, 0, none⟩) m cap, .func (.func 255) #[] #[.pointer (some ⟨c, 0, none⟩)]] w fun e w' => ∃ v', e = .returned v' ∧ G.Owns w' B 61 v' (M.filter fun x => !decide (x = d)) ∧ w.grownBy w' (some g) := by
  have HO : Hid (G.Owns w B 61 (.slice (some ⟨g, 0, none⟩) m cap) M ∧ Box w c d ∧ M.length = m) := ⟨h, hd, hm⟩
  have HI : Hid _ := index_edges c g m cap B d M w h hd hl hm
  rw [hm] at hl
  clear h hd hm
  go_enter Tryz.func253, Tryz.ntmps253
  go_wp2_with fail
  refine Calls.mono HI.out ?_
  rintro e w1 ⟨⟨i, hi, rfl, hid, hno⟩ | ⟨rfl, hno⟩, hb1⟩
  · have HD0 : Hid (Df w w1 B g m cap c i (i + 1) d M M) := by
      refine ⟨HO.out.1.below hb1, HO.out.2.2, ?_, rfl, by omega, by omega, HO.out.2.1.below hb1, hc, hB, ⟨hb1.os, hb1.tape, hb1.output, hb1.size, fun k hk _ => hb1.block k hk⟩⟩
      rw [G.take_filter _ hid]
      have : ((M.take i).filter fun x => !decide (x = d)) = M.take i := by
        rw [List.filter_eq_self]
        intro x hx
        obtain ⟨k, hk⟩ := List.getElem?_of_mem hx
        have hki := (List.getElem?_eq_some_iff.1 hk).1
        rw [List.length_take] at hki
        rw [List.getElem?_take] at hk
        split at hk
        · have := hno k (by omega)
          rw [hk] at this
          simp
          exact fun e => this (by rw [e])
        · cases hk
      rw [this]; simp
    have hne : ((i : Int) == -1) = false := beq_eq_false_iff_ne.2 (by omega)
    clear hid hno hb1 HI
    go_wp2_with fail
    go_loopw [5, 6] (fun s5 s6 wq => ∃ (i j : Nat) (X : List Edg), s5 = .int .i64 i ∧ s6 = .int .i64 j ∧ Df w wq B g m cap c i j d M X) (fun _ s6 _ => m - (intOf s6).toNat)
    case atStart => exact ⟨i, i + 1, M, rfl, by go_num, HD0.out⟩
    case round =>
      clear HD0 hi hne
      obtain ⟨i, j, X, rfl, rfl, hdf⟩ := hrel
      have HD : Hid (Df w wr B g m cap c i j d M X) := hdf
      have hij := hdf.hij
      have hjm := hdf.hjm
      clear hdf
      by_cases hlt : j < m
      · obtain ⟨hxj, x, hx⟩ := HD.out.at_ hlt HO.out.2.2
        rw [hx] at hxj
        obtain ⟨r0, r1, r2⟩ := HD.out.own.at (g := g) rfl hxj
        have r0' : wr.cell? ⟨g, j * 3, none⟩ = some (.int .i64 x.1) := r0
        have r1' : wr.cell? ⟨g, j * 3 + 1, none⟩ = some (.int .i64 x.2.1) := r1
        have r2' : wr.cell? ⟨g, j * 3 + 2, none⟩ = some (.int .i64 x.2.2) := r2
        have HX : Hid (M[j]? = some x) := hx
        have hb1 : Below wr.heap.size wr (wr.alloc (.cells #[.int .i64 x.1, .int .i64 x.2.1, .int .i64 x.2.2] 61)) := (Below.refl _ _).alloc (Nat.le_refl _) _
        have HD1 : Hid (Df w (wr.alloc (.cells #[.int .i64 x.1, .int .i64 x.2.1, .int .i64 x.2.2] 61)) B g m cap c i j d M X) := HD.out.below' hb1
        have HC : Hid _ := held_any x d c _ HD1.out.box
        clear r0 r1 r2 hx hxj hb1
        by_cases hxd : x = d
        · as_aux_lemma =>
          subst hxd
          go_wp2_with fail
          refine Calls.mono HC.out ?_
          rintro e w2 ⟨rfl, hb2⟩
          have HD2 : Hid (Df w w2 B g m cap c i (j + 1) x M X) := (HD1.out.below' hb2).skip hlt HX.out
          first | rw [decide_eq_true rfl] | simp only [decide_true]
          clear hb2 HC
          go_wp2_with fail
          go_roundw
          case rel => exact ⟨i, j + 1, X, rfl, by go_num, HD2.out⟩
          case measure => simp [intOf]; omega
        · go_wp2_with fail
          refine Calls.mono HC.out ?_
          rintro e w2 ⟨rfl, hb2⟩
          have HD2 : Hid (Df w w2 B g m cap c i j d M X) := HD1.out.below' hb2
          rw [decide_eq_false hxd]
          have hbox : w2.heap[wr.heap.size]? = some (.cells #[.int .i64 x.1, .int .i64 x.2.1, .int .i64 x.2.2] 61) := (hb2.block wr.heap.size (by simp)).trans (heap_alloc_new wr _)
          have q0 : w2.cell? ⟨wr.heap.size, 0, none⟩ = some (.int .i64 x.1) := by simp [World.cell?, hbox]
          have q1 : w2.cell? ⟨wr.heap.size, 1, none⟩ = some (.int .i64 x.2.1) := by simp [World.cell?, hbox]
          have q2 : w2.cell? ⟨wr.heap.size, 2, none⟩ = some (.int .i64 x.2.2) := by simp [World.cell?, hbox]
          obtain ⟨y, hy⟩ : ∃ y, X[i]? = some y := ⟨_, List.getElem?_eq_getElem (by rw [HD2.out.len]; omega)⟩
          obtain ⟨s0, s1, s2⟩ := HD2.out.own.at (g := g) rfl hy
          have s0' : w2.cell? ⟨g, i * 3, none⟩ = some (.int .i64 y.1) := s0
          have s1' : w2.cell? ⟨g, i * 3 + 1, none⟩ = some (.int .i64 y.2.1) := s1
          have s2' : w2.cell? ⟨g, i * 3 + 2, none⟩ = some (.int .i64 y.2.2) := s2
          have fz : ∀ k, w2.frozen? ⟨g, k, none⟩ = false := by
            intro k
            rcases HD2.out.own.2 with ⟨h1, _⟩ | ⟨g', cap', cur, h1, _, h3, _⟩
            · cases h1
            · injection h1 with h1 _ _
              injection h1 with h1
              injection h1 with h1 _ _
              subst h1
              simp [World.frozen?, h3]
          have fz0 := fz (i * 3)
          have fz1 := fz (i * 3 + 1)
          have fz2 := fz (i * 3 + 2)
          clear hb2 HC s0 s1 s2 fz r0' r1' r2'
          have HD3 : Hid (Df w (((w2.setCell ⟨g, i * 3, none⟩ (.int .i64 x.1)).setCell ⟨g, i * 3 + 1, none⟩ (.int .i64 x.2.1)).setCell ⟨g, i * 3 + 2, none⟩ (.int .i64 x.2.2)) B g m cap c (i + 1) (j + 1) d M (X.set i x)) := HD2.out.store hlt HX.out hxd
          go_wp2_with fail
          go_roundw
          case rel => exact ⟨i + 1, j + 1, _, by go_num, by go_num, HD3.out⟩
          case measure => simp [intOf]; omega
      · as_aux_lemma =>
        have hje : j = m := by omega
        subst hje
        obtain ⟨W2, hcl, hcap, hcm, ho2, hg2⟩ := HD.out.done HO.out.2.2
        have HF : Hid (G.Owns W2 B 61 (.slice (some ⟨g, 0, none⟩) i cap) (M.filter fun x => !decide (x = d)) ∧ w.grownBy W2 (some g)) := ⟨ho2, hg2⟩
        simp only [maxLen] at hcm
        have hic : ¬ (cap = i) := by omega
        have hi1 : (i : Int) ≤ (j : Int) := by omega
        have hi2 : (i : Int) ≤ (cap : Int) := by omega
        have hi3 : (j : Int) ≤ (cap : Int) := by omega
        clear ho2 hg2 HD
        go_wp2_with fail
        go_ret
        exact ⟨_, rfl, HF.out.1, HF.out.2⟩
  · as_aux_lemma =>
    have HF : Hid (G.Owns w1 B 61 (.slice (some ⟨g, 0, none⟩) m cap) (M.filter fun x => !decide (x = d)) ∧ w.grownBy w1 (some g)) := by
      refine ⟨?_, ⟨hb1.os, hb1.tape, hb1.output, hb1.size, fun k hk _ => hb1.block k hk⟩⟩
      have : (M.filter fun x => !decide (x = d)) = M := by
        rw [List.filter_eq_self]
        intro x hx
        obtain ⟨k, hk⟩ := List.getElem?_of_mem hx
        have hki := (List.getElem?_eq_some_iff.1 hk).1
        have h3 := hno k (by rw [← HO.out.2.2]; exact hki)
        rw [hk] at h3
        simp
        exact fun e => h3 (by rw [e])
      rw [this]
      exact HO.out.1.below hb1
    clear hno hb1 HI
    go_wp2_with fail
    go_ret
    exact ⟨_, rfl, HF.out.1, HF.out.2⟩

end Go.Proofs.YtebcjaenhiiflaaGreatDoor.S
namespace Go.Proofs.YtebcjaenhiiflaaGreatDoor.S
open Go.RowKit

theorem results_cell {fn : Func} {p : Tmp} {ty : TypeId} (h : fn.results = #[.cell p ty]) (tmps : Array Value) (P : Program) (w : World) :
    (results fn tmps).run P w = ((asAddr (tmps.getD p undef)).run P w).andThen fun a w₁ => (loadVar ty a).run P w₁ := by
  simp only [results, h]
  simp [Sem.run_bind, Result.andThen]

/-- The tree without one edge. -/
def tbut (t : List Edg) (d : Edg) : List Edg := t.filter fun x => !decide (x = d)

/-- Which rings go round an edge of the tree. -/
def tcov (n : Nat) (t o : List Edg) (d : Edg) (i : Nat) : Bool := decide ((lbl n (tbut t d)).getD (ea (o.getD i (0, 0, 0))) 0 ≠ (lbl n (tbut t d)).getD (eb (o.getD i (0, 0, 0))) 0)

/-- Rings in a block. -/
def RingAt (w : World) (b x : Nat) : Prop := w.heap[b]? = some (.cells #[.int .u64 (x : Int), .int .u64 0] 208)
theorem RingAt.below {w w' : World} {b x : Nat} (h : RingAt w b x) (hb : Below w.heap.size w w') : RingAt w' b x := (hb.block b (lt_of_some h)).trans h
theorem RingAt.but {w w' : World} {b r x : Nat} (h : RingAt w b x) (hb : But r w w') (hne : b ≠ r) : RingAt w' b x := (hb.block b (lt_of_some h) hne).trans h

/-- What through holds on to. -/
structure Th (w0 w : World) (p b r8 r : Nat) (l : List Nat) (x : Nat) : Prop where
  sets : SetsAt w p b l
  res : RingAt w r8 0
  ring : RingAt w r x
  lp : p < r
  lbr : b < r
  l8 : r8 < r
  lo : w0.heap.size ≤ r8
  lr : w0.heap.size ≤ r
  below : Below w0.heap.size w0 w

section
variable {w0 w w' : World} {p b r8 r : Nat} {l : List Nat} {x x' : Nat}
theorem Th.below' (h : Th w0 w p b r8 r l x) (hb : Below w.heap.size w w') : Th w0 w' p b r8 r l x :=
  { h with sets := h.sets.below hb h.sets.plt h.sets.blt, res := h.res.below hb, ring := h.ring.below hb, below := h.below.trans (hb.mono h.below.size) }
theorem Th.put (h : Th w0 w p b r8 r l x) (hr : RingAt w' r x') (hb : But r w w') : Th w0 w' p b r8 r l x' := by
  have h1 := h.lp
  have h2 := h.lbr
  have h3 := h.l8
  exact { h with sets := ⟨(hb.block p h.sets.plt (by omega)).trans h.sets.hp, (hb.block b h.sets.blt (by omega)).trans h.sets.hb⟩, res := h.res.but hb (by omega), ring := hr, below := h.below.trans (hb.below h.lr h.below.size) }
end

theorem tbut_in {n : Nat} {t : List Edg} (h : InE n t) (d : Edg) : InE n (tbut t d) := h.sub (fun _ he => (List.mem_filter.1 he).1)

set_option maxHeartbeats 4000000 in
set_option maxRecDepth 100000 in
theorem through_any (n B1 B2 : Nat) (vt vo : Value) (t o : List Edg) (d : Edg) (w : World) (ht : G.Owns w B1 61 vt t) (ho : G.Owns w B2 61 vo o) (hit : InE n t) (hio : InE n o) (hd : d ∈ t) (hn : n ≤ 40) (hlt : t.length ≤ 120) (hlo : o.length ≤ 63) :
    Calls Tryz.prog 141 #[.int .i64 (n : Int), vt, .agg #[.int .i64 d.1, .int .i64 d.2.1, .int .i64 d.2.2], vo] w fun e w' => e = .returned (.agg #[.int .u64 ((bitsN (tcov n t o d) o.length : Nat) : Int), .int .u64 0]) ∧ Below w.heap.size w w' := by
  have HT : Hid (G.Owns w B1 61 vt t ∧ InE n t ∧ d ∈ t) := ⟨ht, hit, hd⟩
  have HO : Hid (G.Owns w B2 61 vo o ∧ InE n o) := ⟨ho, hio⟩
  obtain ⟨m, hm⟩ : ∃ m, o.length = m := ⟨_, rfl⟩
  have HM : Hid (o.length = m) := hm
  obtain ⟨va, vc, hv⟩ := ho.slice_len
  rw [hm] at hv hlo ⊢
  subst hv
  obtain ⟨W1, hW1⟩ : ∃ W1, (w.alloc (.cells #[.int .i64 d.1, .int .i64 d.2.1, .int .i64 d.2.2] 61)).alloc (.cells #[.int .u64 0, .int .u64 0] 208) = W1 := ⟨_, rfl⟩
  have hb1 : Below w.heap.size w W1 := by
    rw [← hW1]
    exact ((Below.refl _ _).alloc (Nat.le_refl _) _).alloc (by simp) _
  have hsz1 : W1.heap.size = w.heap.size + 2 := by rw [← hW1]; simp
  have hbx : Box W1 w.heap.size d := by
    rw [← hW1]
    show ((w.alloc (.cells #[.int .i64 d.1, .int .i64 d.2.1, .int .i64 d.2.2] 61)).alloc _).heap[w.heap.size]? = _
    rw [Below.heap_alloc _ _ _ (by simp)]
    exact heap_alloc_new w _
  have hr8 : RingAt W1 (w.heap.size + 1) 0 := by
    rw [← hW1]
    have := heap_alloc_new (w.alloc (.cells #[.int .i64 d.1, .int .i64 d.2.1, .int .i64 d.2.2] 61)) (.cells #[.int .u64 0, .int .u64 0] 208)
    rw [World.size_alloc] at this
    exact this
  have H1 : Hid (Below w.heap.size w W1 ∧ Box W1 w.heap.size d ∧ RingAt W1 (w.heap.size + 1) 0) := ⟨hb1, hbx, hr8⟩
  clear ht ho hit hio hd hm hb1 hbx hr8
  have hmf' := hmf
  go_enter Tryz.func141, Tryz.ntmps141
  go_wp2_with fail
  refine (clone_edges vt B1 t W1 (HT.out.1.below H1.out.1) (by omega)).mono ?_
  rintro e w2 ⟨u2, rfl, ho2, hb2⟩
  obtain ⟨g, cap, hu2, hBg, _, _⟩ : ∃ g cap, u2 = .slice (some ⟨g, 0, none⟩) t.length cap ∧ W1.heap.size ≤ g ∧ True ∧ True := by
    rcases ho2.shape with ⟨_, e⟩ | ⟨g, cap, e, h1, _⟩
    · rw [e] at HT; have := HT.out.2.2; simp at this
    · exact ⟨g, cap, e, h1, trivial, trivial⟩
  subst hu2
  have HO2 : Hid (G.Owns w2 W1.heap.size 61 (.slice (some ⟨g, 0, none⟩) t.length cap) t ∧ Below W1.heap.size W1 w2) := ⟨ho2, hb2⟩
  clear ho2 hb2
  go_wp2_with fail
  refine (delete_edges w.heap.size g t.length cap W1.heap.size d t w2 HO2.out.1 (H1.out.2.1.below HO2.out.2) (by omega) hBg (by omega) rfl).mono ?_
  rintro e w3 ⟨v3, rfl, ho3, hg3⟩
  have HW3 : Hid (G.Owns w3 W1.heap.size 61 v3 (tbut t d) ∧ Below w.heap.size w w3 ∧ RingAt w3 (w.heap.size + 1) 0 ∧ W1.heap.size ≤ w3.heap.size) := by
    have hk : Below W1.heap.size W1 w3 := HO2.out.2.trans ⟨hg3.os, hg3.tape, hg3.output, hg3.size, fun k hk => hg3.block k (Nat.lt_of_lt_of_le hk HO2.out.2.size) (by simp; omega)⟩
    exact ⟨ho3, H1.out.1.trans (hk.mono H1.out.1.size), H1.out.2.2.below hk, hk.size⟩
  clear ho3 hg3 HO2 hBg
  go_wp2_with fail
  refine (ctogether_any n W1.heap.size v3 (tbut t d) w3 HW3.out.1 hn (tbut_in HT.out.2.1 d) (Nat.le_trans (List.length_filter_le _ _) hlt)).mono ?_
  rintro e w4 ⟨p, b, rfl, hs4, hp4, hb4, hbel4⟩
  have HW4 : Hid (SetsAt w4 p b (lbl n (tbut t d)) ∧ Below w.heap.size w w4 ∧ RingAt w4 (w.heap.size + 1) 0) := ⟨hs4, HW3.out.2.1.trans (hbel4.mono HW3.out.2.1.size), HW3.out.2.2.1.below hbel4⟩
  have hsz4 : w.heap.size + 2 ≤ w4.heap.size := by have h1 := HW3.out.2.2.2; have h2 := hbel4.size; omega
  clear hs4 hp4 hb4 hbel4 HW3
  have HT0 : Hid (Th w (w4.alloc (.cells #[.int .u64 0, .int .u64 0] 208)) p b (w.heap.size + 1) w4.heap.size (lbl n (tbut t d)) (bitsN (tcov n t o d) 0)) := by
    have hb : Below w4.heap.size w4 (w4.alloc (.cells #[.int .u64 0, .int .u64 0] 208)) := (Below.refl _ _).alloc (Nat.le_refl _) _
    exact ⟨HW4.out.1.below hb HW4.out.1.plt HW4.out.1.blt, HW4.out.2.2.below hb, heap_alloc_new w4 _, HW4.out.1.plt, HW4.out.1.blt, by omega, by omega, by omega, HW4.out.2.1.trans (hb.mono HW4.out.2.1.size)⟩
  obtain ⟨r, hr⟩ : ∃ r, w4.heap.size = r := ⟨_, rfl⟩
  go_wp2_with fail
  rw [hr] at HT0
  clear hr
  go_loopw [23] (fun s23 wq => ∃ k : Nat, k ≤ m ∧ s23 = .int .i64 k ∧ Th w wq p b (w.heap.size + 1) r (lbl n (tbut t d)) (bitsN (tcov n t o d) k)) (fun s23 _ => m - (intOf s23).toNat)
  case atStart => exact ⟨0, Nat.zero_le _, rfl, HT0.out⟩
  case round =>
    clear HT0
    obtain ⟨k, hk, rfl, hth⟩ := hrel
    have HTh : Hid (Th w wr p b (w.heap.size + 1) r (lbl n (tbut t d)) (bitsN (tcov n t o d) k)) := hth
    clear hth
    by_cases hltk : k < m
    · obtain ⟨x0, xa, xb, hx, han, hbn, hxa, hxb⟩ := row_edge HO.out.2 (by rw [HM.out]; exact hltk)
      have HX : Hid (o.getD k (0, 0, 0) = (x0, (xa : Int), (xb : Int)) ∧ ea (x0, (xa : Int), (xb : Int)) = xa ∧ eb (x0, (xa : Int), (xb : Int)) = xb) := ⟨by rw [List.getD_eq_getElem?_getD, hx]; rfl, hxa, hxb⟩
      obtain ⟨g', rfl⟩ := owns_block HO.out.1 (by rw [HM.out]; exact hltk)
      obtain ⟨r0, r1, r2⟩ := (HO.out.1.below HTh.out.below).at (g := g') rfl hx
      have r0' : wr.cell? ⟨g', k * 3, none⟩ = some (.int .i64 x0) := r0
      have r1' : wr.cell? ⟨g', k * 3 + 1, none⟩ = some (.int .i64 (xa : Int)) := r1
      have r2' : wr.cell? ⟨g', k * 3 + 2, none⟩ = some (.int .i64 (xb : Int)) := r2
      clear r0 r1 r2 hx hxa hxb
      have hb1 : Below wr.heap.size wr (wr.alloc (.cells #[.int .i64 x0, .int .i64 (xa : Int), .int .i64 (xb : Int)] 61)) := (Below.refl _ _).alloc (Nat.le_refl _) _
      have HT1 : Hid (Th w (wr.alloc (.cells #[.int .i64 x0, .int .i64 (xa : Int), .int .i64 (xb : Int)] 61)) p b (w.heap.size + 1) r (lbl n (tbut t d)) (bitsN (tcov n t o d) k)) := HTh.out.below' hb1
      have hgl : (lbl n (tbut t d)).length = n := (lb_good (tbut_in HT.out.2.1 d).nodes).len
      have HCV : Hid (tcov n t o d k = true ↔ (lbl n (tbut t d)).getD xa 0 ≠ (lbl n (tbut t d)).getD xb 0) := by
        show tcov n t o d k = true ↔ _
        unfold tcov
        rw [HX.out.1, HX.out.2.1, HX.out.2.2, decide_eq_true_iff]
      have HC : Hid _ := capart_any xa xb p b (lbl n (tbut t d)) (tcov n t o d k) _ HT1.out.sets (by omega) (by omega) HCV.out
      clear hb1 HTh
      cases hcv : tcov n t o d k with
      | true =>
        as_aux_lemma =>
        rw [hcv] at HC
        go_wp2_with fail
        refine Calls.mono HC.out ?_
        rintro e w6 ⟨rfl, hb6⟩
        have HT6 : Hid (Th w w6 p b (w.heap.size + 1) r (lbl n (tbut t d)) (bitsN (tcov n t o d) k)) := HT1.out.below' hb6
        clear hb6 HT1 HC
        go_wp2_with fail
        refine (put_any r k (bitsN (tcov n t o d) k) w6 HT6.out.ring (by omega) (bitsN_lt _ _)).mono ?_
        rintro e w7 ⟨rfl, hr7, hb7⟩
        have HT7 : Hid (Th w w7 p b (w.heap.size + 1) r (lbl n (tbut t d)) (bitsN (tcov n t o d) (k + 1))) := by
          have e1 : bitsN (tcov n t o d) (k + 1) = bitsN (tcov n t o d) k + 2 ^ k := by simp only [bitsN, hcv, if_true]
          have := HT6.out.put hr7 hb7
          rw [← e1] at this; exact this
        clear hr7 hb7 HT6
        go_wp2_with fail
        go_roundw
        case rel => exact ⟨k + 1, by omega, by go_num, HT7.out⟩
        case measure => simp [intOf]; omega
      | false =>
        as_aux_lemma =>
        rw [hcv] at HC
        go_wp2_with fail
        refine Calls.mono HC.out ?_
        rintro e w6 ⟨rfl, hb6⟩
        have HT7 : Hid (Th w w6 p b (w.heap.size + 1) r (lbl n (tbut t d)) (bitsN (tcov n t o d) (k + 1))) := by
          have e1 : bitsN (tcov n t o d) (k + 1) = bitsN (tcov n t o d) k := by simp [bitsN, hcv]
          have := HT1.out.below' hb6
          rw [← e1] at this; exact this
        clear hb6 HT1 HC
        go_wp2_with fail
        go_roundw
        case rel => exact ⟨k + 1, by omega, by go_num, HT7.out⟩
        case measure => simp [intOf]; omega
    · as_aux_lemma =>
      have hke : k = m := by omega
      subst hke
      obtain ⟨X, hX⟩ : ∃ X, bitsN (tcov n t o d) k = X := ⟨_, rfl⟩
      have HXX : Hid (bitsN (tcov n t o d) k = X) := hX
      rw [hX] at HTh
      have q8 : wr.heap[w.heap.size + 1]? = some (.cells #[.int .u64 0, .int .u64 0] 208) := HTh.out.res
      have qr : wr.heap[r]? = some (.cells #[.int .u64 (X : Int), .int .u64 0] 208) := HTh.out.ring
      have c0 : wr.cell? ⟨r, 0, none⟩ = some (.int .u64 (X : Int)) := by simp [World.cell?, qr]
      have c1 : wr.cell? ⟨r, 1, none⟩ = some (.int .u64 0) := by simp [World.cell?, qr]
      have d0 : wr.cell? ⟨w.heap.size + 1, 0, none⟩ = some (.int .u64 0) := by simp [World.cell?, q8]
      have d1 : wr.cell? ⟨w.heap.size + 1, 1, none⟩ = some (.int .u64 0) := by simp [World.cell?, q8]
      have f0 : ∀ i, wr.frozen? ⟨w.heap.size + 1, i, none⟩ = false := fun i => by simp only [World.frozen?, q8]; simp
      have f00 := f0 0
      have f01 := f0 1
      have HB : Hid (Below w.heap.size w wr) := HTh.out.below
      clear hX f0 q8 qr HTh
      go_wp2_with fail
      (try simp only [Exit.inBlock, Exit.then])
      refine bodyPost_ret (v := .agg #[.int .u64 (X : Int), .int .u64 0]) ?_ rfl ⟨by rw [HXX.out], ?_⟩
      · rw [results_cell rfl]
        go_simp
      · exact (HB.out.setCell (show w.heap.size ≤ w.heap.size + 1 by omega) _).setCell (show w.heap.size ≤ w.heap.size + 1 by omega) _

end Go.Proofs.YtebcjaenhiiflaaGreatDoor.S
namespace Go.Proofs.YtebcjaenhiiflaaGreatDoor.S
open Go.RowKit Go.WideMaps Go.Maps

/-- How rings read. -/
def ringL : List Value → Option (DataW Unit × List MemPlace)
  | [.int .u64 a, .int .u64 b] => some (.agg [.lit (.int .u64 a), .lit (.int .u64 b)], [])
  | _ => none
def ringR : Value → Option (DataW Unit × List MemPlace)
  | .agg cs => ringL cs.toList
  | _ => none
def ringV (x : Nat) : Value := .agg #[.int .u64 (x : Int), .int .u64 0]
def ringD (x : Nat) : DataW Unit := .agg [.lit (.int .u64 (x : Int)), .lit (.int .u64 0)]
theorem ringR_mk (x : Nat) : ringR (ringV x) = some (ringD x, []) := rfl
theorem ringD_inj {x y : Nat} (h : ringD x = ringD y) : x = y := by
  simp [ringD] at h
  omega
theorem ringL_inv {l : List Value} {y : DataW Unit × List MemPlace} (h : ringL l = some y) : ∃ a b : Int, l = [.int .u64 a, .int .u64 b] ∧ y = (.agg [.lit (.int .u64 a), .lit (.int .u64 b)], []) := by
  unfold ringL at h
  split at h
  · next a b => cases h; exact ⟨a, b, rfl, rfl⟩
  · cases h
theorem ringR_inv {v : Value} {y : DataW Unit × List MemPlace} (h : ringR v = some y) : ∃ c : Int × Int, v = .agg #[.int .u64 c.1, .int .u64 c.2] ∧ y = (.agg [.lit (.int .u64 c.1), .lit (.int .u64 c.2)], []) := by
  unfold ringR at h
  split at h
  · next cs =>
    obtain ⟨a, b, h1, h2⟩ := ringL_inv h
    exact ⟨(a, b), by rw [← Array.toArray_toList (xs := cs), h1], h2⟩
  · cases h

/-- The map has of these edges, by their numbers, these rings. -/
structure Rm (D : DataW Unit) (S : List Edg) (f : Edg → Nat) : Prop where
  key : ∀ kl, Maps.has D kl = true ↔ ∃ e ∈ S, kl = .int .i64 e.1
  val : ∀ e ∈ S, ∀ zd, D.atKey (.int .i64 e.1) zd = ringD (f e)
  tidy : Tidy D

theorem Rm.start (f : Edg → Nat) : Rm (.map []) [] f := ⟨fun kl => by simp [Maps.has], fun e he => by simp at he, tidy_empty⟩

theorem Rm.put {D : DataW Unit} {S : List Edg} {f : Edg → Nat} (h : Rm D S f) (e : Edg) (hn : ∀ d ∈ S, d.1 ≠ e.1) : Rm (D.put (.int .i64 e.1) (ringD (f e))) (S ++ [e]) f := by
  refine ⟨fun kl => ?_, fun d hd zd => ?_, h.tidy.put (isKeyLit _) _⟩
  · by_cases hx : kl = .int .i64 e.1
    · rw [hx, has_put_same h.tidy.isMap (isKeyLit _)]
      exact ⟨fun _ => ⟨e, by simp, rfl⟩, fun _ => rfl⟩
    · rw [has_put_other hx, h.key]
      constructor
      · rintro ⟨d, hd, k⟩; exact ⟨d, by simp [hd], k⟩
      · rintro ⟨d, hd, k⟩
        rcases List.mem_append.1 hd with hd | hd
        · exact ⟨d, hd, k⟩
        · rw [List.mem_singleton.1 hd] at k; exact absurd k hx
  · rcases List.mem_append.1 hd with hd | hd
    · rw [atKey_put_other (by have := hn d hd; simpa using this)]
      exact h.val d hd zd
    · rw [List.mem_singleton.1 hd, atKey_put_same h.tidy.isMap (isKeyLit _)]

/-- The Cover value while it is made: its struct at block c, its map at block mb. -/
structure Cv (w0 w : World) (c mb rest : Nat) (S : List Edg) (f : Edg → Nat) : Prop where
  st : ∃ v, w.heap[c]? = some (.cells #[.int .i64 (rest : Int), .map (some mb), v] 206)
  mp : ∃ D N, w.ownsMap Tryz.prog 3 ringR mb N D ∧ Rm D S f ∧ N = S.length
  ne : c ≠ mb
  lc : w0.heap.size ≤ c
  lm : w0.heap.size ≤ mb
  below : Below w0.heap.size w0 w

section
variable {w0 w w' : World} {c mb rest : Nat} {S : List Edg} {f : Edg → Nat}
theorem Cv.below' (h : Cv w0 w c mb rest S f) (hb : Below w.heap.size w w') : Cv w0 w' c mb rest S f := by
  obtain ⟨v, hv⟩ := h.st
  obtain ⟨D, N, h1, h2, h3⟩ := h.mp
  exact { h with st := ⟨v, (hb.block c (lt_of_some hv)).trans hv⟩, mp := ⟨D, N, h1.kept (grown_below hb) (by simp), h2, h3⟩, below := h.below.trans (hb.mono h.below.size) }

theorem Cv.cell1 (h : Cv w0 w c mb rest S f) : w.cell? ⟨c, 1, none⟩ = some (.map (some mb)) := by
  obtain ⟨v, hv⟩ := h.st
  simp [World.cell?, hv]

/-- One edge more: the map's update. -/
theorem Cv.more (h : Cv w0 w c mb rest S f) (e : Edg) (hn : ∀ d ∈ S, d.1 ≠ e.1) (hw : (Lit.int .i64 e.1).wf = true) (hl : S.length ≤ 1000) :
    ∃ w2, (Instr.mapUpdate 204 (.map (some mb)) (.int .i64 e.1) (ringV (f e))).run Tryz.prog w = .ok () w2 ∧ Cv w0 w2 c mb rest (S ++ [e]) f ∧ w.grownBy w2 (some mb) := by
  obtain ⟨v, hv⟩ := h.st
  obtain ⟨D, N, h1, h2, h3⟩ := h.mp
  obtain ⟨w2, r, ho, hg⟩ := h1.update law3 Tryz.underlying204 (by unfold maxLen; omega) (key3 e.1 hw) (ringR_mk (f e))
  refine ⟨w2, r, { h with st := ⟨v, (hg.block c (lt_of_some hv) (by simp; exact h.ne)).trans hv⟩, mp := ⟨_, _, ho, h2.put e hn, by simp [h3]⟩, below := h.below.grown hg h.below.size (fun j hj => by injection hj with hj; have := h.lm; omega) }, hg⟩
end

end Go.Proofs.YtebcjaenhiiflaaGreatDoor.S
namespace Go.Proofs.YtebcjaenhiiflaaGreatDoor.S
open Go.RowKit Go.WideMaps Go.Maps

/-- Which rings go round an edge. -/
def covB (n : Nat) (t o : List Edg) (e : Edg) (i : Nat) : Bool := if e ∈ t then tcov n t o e i else decide (o.getD i (0, 0, 0) = e)
def covN (n : Nat) (t o : List Edg) (e : Edg) : Nat := bitsN (covB n t o e) o.length

theorem bitsN_one {c : Nat → Bool} {k : Nat} : ∀ {m}, k < m → (∀ i, i < m → c i = decide (i = k)) → bitsN c m = 2 ^ k
  | 0, h, _ => by omega
  | m + 1, h, hc => by
    simp only [bitsN, hc m (by omega)]
    by_cases e : m = k
    · subst e
      have : bitsN c m = 0 := by
        have h2 : bitsN c m = bitsN (fun _ => false) m := bitsN_congr (fun i hi => by rw [hc i (by omega)]; exact decide_eq_false (by omega))
        rw [h2]
        clear h2 hc h
        induction m with
        | zero => rfl
        | succ m ih => simp [bitsN, ih]
      rw [this]; simp
    · rw [decide_eq_false e, bitsN_one (m := m) (by omega) (fun i hi => hc i (by omega))]; simp

theorem covN_other {n : Nat} {t o : List Edg} {k : Nat} {e : Edg} (hnd : o.Nodup) (hk : o[k]? = some e) (hne : e ∉ t) : covN n t o e = 2 ^ k := by
  obtain ⟨hlt, he⟩ := List.getElem?_eq_some_iff.1 hk
  refine bitsN_one hlt (fun i hi => ?_)
  unfold covB
  rw [if_neg hne]
  have h1 : o.getD i (0, 0, 0) = o[i] := by simp [hi]
  rw [h1, ← he]
  by_cases e2 : i = k
  · subst e2; simp
  · rw [decide_eq_false e2, decide_eq_false]
    intro c
    exact e2 ((List.getElem_inj hnd).1 c)

theorem covN_tree {n : Nat} {t o : List Edg} {e : Edg} (he : e ∈ t) : covN n t o e = bitsN (tcov n t o e) o.length :=
  bitsN_congr (fun i _ => by unfold covB; rw [if_pos he])

theorem take_one {L : List Edg} {k : Nat} {x : Edg} (h : L[k]? = some x) : L.take (k + 1) = L.take k ++ [x] := by
  obtain ⟨hlt, he⟩ := List.getElem?_eq_some_iff.1 h
  rw [List.take_succ_eq_append_getElem hlt, he]

theorem not_before {L : List Edg} {k : Nat} {x : Edg} (hnd : L.Nodup) (h : L[k]? = some x) : x ∉ L.take k := by
  intro hx
  obtain ⟨i, hi⟩ := List.getElem?_of_mem hx
  obtain ⟨hil, hie⟩ := List.getElem?_eq_some_iff.1 hi
  rw [List.length_take] at hil
  rw [List.getElem?_take_of_lt (by omega)] at hi
  obtain ⟨h1, h2⟩ := List.getElem?_eq_some_iff.1 hi
  obtain ⟨h3, h4⟩ := List.getElem?_eq_some_iff.1 h
  have := (List.getElem_inj hnd).1 (h2.trans h4.symm)
  omega

/-- What Of needs to know of its graph's edges. -/
structure Ok (n : Nat) (R : List Edg) : Prop where
  inn : InE n R
  nd : R.Nodup
  one : ∀ d ∈ R, ∀ e ∈ R, d.1 = e.1 → d = e
  wf : ∀ e ∈ R, (Lit.int .i64 e.1).wf = true
  len : R.length ≤ 60
  n16 : n ≤ 16

theorem Cv.base {w w1 W : World} {c mb rest : Nat} {S : List Edg} {f : Edg → Nat} (h : Cv w1 W c mb rest S f) (hb : Below w.heap.size w w1) : Cv w W c mb rest S f :=
  { h with lc := Nat.le_trans hb.size h.lc, lm := Nat.le_trans hb.size h.lm, below := hb.trans (h.below.mono hb.size) }

set_option maxHeartbeats 4000000 in
set_option maxRecDepth 100000 in
theorem cof_any (n B p : Nat) (v : Value) (R : List Edg) (L3 : List Nat) (w : World) (h : G.GAt w B 168 61 p (n : Int) v R) (hok : Ok n R)
    (hun : ∀ W c mb, Cv w W c mb (grw n R).2.length ((grw n R).2 ++ (grw n R).1) (covN n (grw n R).1 (grw n R).2) → Calls Tryz.prog 142 #[.pointer (some ⟨c, 0, none⟩), .pointer (some ⟨p, 0, none⟩)] W fun e w' => ∃ q bq, e = .returned (.pointer (some ⟨q, 0, none⟩)) ∧ SetsAt w' q bq L3 ∧ W.heap.size ≤ q ∧ W.heap.size ≤ bq ∧ Below W.heap.size W w') :
    Calls Tryz.prog 82 #[.pointer (some ⟨p, 0, none⟩)] w fun e w' => ∃ c mb q bq, e = .returned (.pointer (some ⟨c, 0, none⟩)) ∧ Cv w w' c mb (grw n R).2.length ((grw n R).2 ++ (grw n R).1) (covN n (grw n R).1 (grw n R).2) ∧ w'.heap[c]? = some (.cells #[.int .i64 ((grw n R).2.length : Int), .map (some mb), .pointer (some ⟨q, 0, none⟩)] 206) ∧ SetsAt w' q bq L3 := by
  have HG : Hid (G.GAt w B 168 61 p (n : Int) v R ∧ Ok n R) := ⟨h, hok⟩
  have HU : Hid (∀ W c mb, Cv w W c mb (grw n R).2.length ((grw n R).2 ++ (grw n R).1) (covN n (grw n R).1 (grw n R).2) → Calls Tryz.prog 142 #[.pointer (some ⟨c, 0, none⟩), .pointer (some ⟨p, 0, none⟩)] W fun e w' => ∃ q bq, e = .returned (.pointer (some ⟨q, 0, none⟩)) ∧ SetsAt w' q bq L3 ∧ W.heap.size ≤ q ∧ W.heap.size ≤ bq ∧ Below W.heap.size W w') := hun
  have HGR : Hid (Gr n R (grw n R).1 (grw n R).2) := gr_all R hok.nd hok.inn.nodes
  have hn16 := hok.n16
  have hlen := hok.len
  clear h hok hun
  go_enter Tryz.func82, Tryz.ntmps82
  go_wp2_with fail
  refine (grow_any n B p v R w HG.out.1 (by omega) HG.out.2.inn HG.out.2.nd (by omega)).mono ?_
  rintro e w1 ⟨vt, vo, B1, rfl, hot, hoo, hB1, hb1⟩
  obtain ⟨t, ht⟩ : ∃ t, (grw n R).1 = t := ⟨_, rfl⟩
  obtain ⟨o, ho⟩ : ∃ o, (grw n R).2 = o := ⟨_, rfl⟩
  rw [ht, ho] at HU HGR
  rw [ht] at hot
  rw [ho] at hoo
  have HTO : Hid ((grw n R).1 = t ∧ (grw n R).2 = o) := ⟨ht, ho⟩
  have HO : Hid (G.Owns w1 B1 61 vt t ∧ G.Owns w1 B1 61 vo o ∧ Below w.heap.size w w1) := ⟨hot, hoo, hb1⟩
  obtain ⟨mt, hmt⟩ : ∃ mt, t.length = mt := ⟨_, rfl⟩
  obtain ⟨mo, hmo⟩ : ∃ mo, o.length = mo := ⟨_, rfl⟩
  have HM : Hid (t.length = mt ∧ o.length = mo) := ⟨hmt, hmo⟩
  have hsum : mt + mo ≤ 60 := by have := HGR.out.len; omega
  obtain ⟨ta, tc, hvt⟩ := hot.slice_len
  obtain ⟨oa, oc, hvo⟩ := hoo.slice_len
  rw [hmt] at hvt
  rw [hmo] at hvo
  subst hvt
  subst hvo
  have hmm := @run_makeMap Tryz.prog
  have HIO : Hid (InE n o ∧ InE n t ∧ o.Nodup ∧ t.Nodup ∧ (∀ e ∈ o, e ∉ t) ∧ (∀ e ∈ o ++ t, e ∈ R)) := ⟨HG.out.2.inn.sub (fun e he => (HGR.out.mem e).2 (.inr he)), HG.out.2.inn.sub (fun e he => (HGR.out.mem e).2 (.inl he)), HG.out.2.nd.sublist HGR.out.osub, HG.out.2.nd.sublist HGR.out.tsub, fun e he k => HGR.out.forest.apart e k he, fun e he => (HGR.out.mem e).2 ((List.mem_append.1 he).symm)⟩
  clear ht ho hot hoo hb1 hmt hmo
  have HC0 : Hid (Cv w1 ((w1.alloc (.map #[] 0)).alloc (.cells #[.int .i64 (mo : Int), .map (some w1.heap.size), .pointer none] 206)) (w1.heap.size + 1) w1.heap.size mo (o.take 0) (covN n t o)) := by
    have h1 : Below w1.heap.size w1 (w1.alloc (.map #[] 0)) := (Below.refl _ _).alloc (Nat.le_refl _) _
    have h2 : Below (w1.alloc (.map #[] 0)).heap.size (w1.alloc (.map #[] 0)) ((w1.alloc (.map #[] 0)).alloc (.cells #[.int .i64 (mo : Int), .map (some w1.heap.size), .pointer none] 206)) := (Below.refl _ _).alloc (Nat.le_refl _) _
    have h3 := heap_alloc_new (w1.alloc (.map #[] 0)) (.cells #[.int .i64 (mo : Int), .map (some w1.heap.size), .pointer none] 206)
    rw [World.size_alloc] at h3
    exact ⟨⟨_, h3⟩, ⟨_, 0, (World.ownsMap_made w1 Tryz.prog 3 ringR).alloc _, Rm.start _, rfl⟩, by omega, by omega, Nat.le_refl _, h1.trans (h2.mono h1.size)⟩
  obtain ⟨mb, hmb⟩ : ∃ mb, w1.heap.size = mb := ⟨_, rfl⟩
  go_wp2_with fail
  rw [hmb] at HC0
  have HMB : Hid (w1.heap.size = mb) := hmb
  clear hmm hmb
  go_loopw [23] (fun s23 wq => ∃ k : Nat, k ≤ mo ∧ s23 = .int .i64 k ∧ Cv w1 wq (mb + 1) mb mo (o.take k) (covN n t o)) (fun s23 _ => mo - (intOf s23).toNat)
  case atStart => exact ⟨0, Nat.zero_le _, rfl, HC0.out⟩
  case round =>
    clear HC0
    obtain ⟨k, hk, rfl, hcv⟩ := hrel
    have HC : Hid (Cv w1 wr (mb + 1) mb mo (o.take k) (covN n t o)) := hcv
    clear hcv
    by_cases hlt : k < mo
    · as_aux_lemma =>
      obtain ⟨x0, xa, xb, hx, han, hbn, hxa, hxb⟩ := row_edge HIO.out.1 (by rw [HM.out.2]; exact hlt)
      obtain ⟨g', rfl⟩ := owns_block HO.out.2.1 (by rw [HM.out.2]; exact hlt)
      obtain ⟨r0, r1, r2⟩ := (HO.out.2.1.below HC.out.below).at (g := g') rfl hx
      have r0' : wr.cell? ⟨g', k * 3, none⟩ = some (.int .i64 x0) := r0
      have r1' : wr.cell? ⟨g', k * 3 + 1, none⟩ = some (.int .i64 (xa : Int)) := r1
      have r2' : wr.cell? ⟨g', k * 3 + 2, none⟩ = some (.int .i64 (xb : Int)) := r2
      have hxm : (x0, (xa : Int), (xb : Int)) ∈ o := List.mem_of_getElem? hx
      have HX : Hid (o[k]? = some (x0, (xa : Int), (xb : Int)) ∧ covN n t o (x0, (xa : Int), (xb : Int)) = 2 ^ k) := ⟨hx, covN_other HIO.out.2.2.1 hx (HIO.out.2.2.2.2.1 _ hxm)⟩
      have HN : Hid (∀ d ∈ o.take k, d.1 ≠ x0) := fun d hd e => by
        have := HG.out.2.one d (HIO.out.2.2.2.2.2 d (List.mem_append_left _ (List.mem_of_mem_take hd))) _ (HIO.out.2.2.2.2.2 _ (List.mem_append_left _ hxm)) e
        rw [this] at hd
        exact not_before HIO.out.2.2.1 hx hd
      have hwf : (Lit.int .i64 x0).wf = true := HG.out.2.wf _ (HIO.out.2.2.2.2.2 _ (List.mem_append_left _ hxm))
      clear r0 r1 r2 hx hxa hxb hxm
      have hring : RingAt ((wr.alloc (.cells #[.int .i64 x0, .int .i64 (xa : Int), .int .i64 (xb : Int)] 61)).alloc (.cells #[.int .u64 0, .int .u64 0] 208)) (wr.heap.size + 1) 0 := by
        have := heap_alloc_new (wr.alloc (.cells #[.int .i64 x0, .int .i64 (xa : Int), .int .i64 (xb : Int)] 61)) (.cells #[.int .u64 0, .int .u64 0] 208)
        rw [World.size_alloc] at this
        exact this
      have HR : Hid (RingAt ((wr.alloc (.cells #[.int .i64 x0, .int .i64 (xa : Int), .int .i64 (xb : Int)] 61)).alloc (.cells #[.int .u64 0, .int .u64 0] 208)) (wr.heap.size + 1) 0) := hring
      clear hring
      go_wp2_with fail
      refine (put_any (wr.heap.size + 1) k 0 _ HR.out (by omega) (Nat.two_pow_pos k)).mono ?_
      rintro e w3 ⟨rfl, hr3, hb3⟩
      rw [Nat.zero_add] at hr3
      have hbel : Below wr.heap.size wr w3 := (((Below.refl _ _).alloc (Nat.le_refl _) _).alloc (by simp) _).trans (hb3.below (by omega) (by simp; omega))
      have hbx : w3.heap[wr.heap.size]? = some (.cells #[.int .i64 x0, .int .i64 (xa : Int), .int .i64 (xb : Int)] 61) := by
        rw [hb3.block wr.heap.size (by simp; omega) (by omega), Below.heap_alloc _ _ _ (by simp)]
        exact heap_alloc_new wr _
      have HC3 : Hid (Cv w1 w3.drew (mb + 1) mb mo (o.take k) (covN n t o)) := HC.out.below' (hbel.trans ((Below.refl _ _).drew.mono hbel.size))
      obtain ⟨w4, hup, hcv4, _⟩ := HC3.out.more (x0, (xa : Int), (xb : Int)) HN.out hwf (by rw [List.length_take]; omega)
      rw [HX.out.2] at hup
      rw [← take_one HX.out.1] at hcv4
      have HC4 : Hid (Cv w1 w4 (mb + 1) mb mo (o.take (k + 1)) (covN n t o)) := hcv4
      have d1 := (HC.out.below' hbel).cell1
      have q0 : w3.cell? ⟨wr.heap.size, 0, none⟩ = some (.int .i64 x0) := by simp [World.cell?, hbx]
      have s0 : w3.cell? ⟨wr.heap.size + 1, 0, none⟩ = some (.int .u64 ((2 ^ k : Nat) : Int)) := by simp [World.cell?, hr3]
      have s1 : w3.cell? ⟨wr.heap.size + 1, 1, none⟩ = some (.int .u64 0) := by simp [World.cell?, hr3]
      unfold ringV at hup
      obtain ⟨Y, hY⟩ : ∃ Y : Nat, 2 ^ k = Y := ⟨_, rfl⟩
      rw [hY] at hup s0
      simp only at hup
      clear hr3 hb3 hbel hbx HC3 hcv4 HR HC r0' r1' r2' hY
      go_upto_region 8 with fail
      go_region
      all_goals
        go_wp2_with fail
        go_roundw
        case rel => exact ⟨k + 1, by omega, by go_num, HC4.out⟩
        case measure => simp [intOf]; omega
    · have hke : k = mo := by omega
      have HC1 : Hid (Cv w1 wr (mb + 1) mb mo (o ++ t.take 0) (covN n t o)) := by
        have h2 := HC.out
        rw [hke, ← HM.out.2, List.take_length, HM.out.2] at h2
        rw [List.take_zero, List.append_nil]
        exact h2
      clear HC hke
      go_wp2_with fail
      go_loopw [40] (fun s40 wq => ∃ j : Nat, j ≤ mt ∧ s40 = .int .i64 j ∧ Cv w1 wq (mb + 1) mb mo (o ++ t.take j) (covN n t o)) (fun s40 _ => mt - (intOf s40).toNat)
      case atStart => exact ⟨0, Nat.zero_le _, rfl, HC1.out⟩
      case round =>
        clear HC1
        obtain ⟨j, hj, rfl, hcv⟩ := hrel
        have HC : Hid (Cv w1 wr (mb + 1) mb mo (o ++ t.take j) (covN n t o)) := hcv
        clear hcv
        by_cases hltj : j < mt
        · as_aux_lemma =>
          obtain ⟨x0, xa, xb, hx, han, hbn, hxa, hxb⟩ := row_edge HIO.out.2.1 (by rw [HM.out.1]; exact hltj)
          obtain ⟨g', rfl⟩ := owns_block HO.out.1 (by rw [HM.out.1]; exact hltj)
          obtain ⟨r0, r1, r2⟩ := (HO.out.1.below HC.out.below).at (g := g') rfl hx
          have r0' : wr.cell? ⟨g', j * 3, none⟩ = some (.int .i64 x0) := r0
          have r1' : wr.cell? ⟨g', j * 3 + 1, none⟩ = some (.int .i64 (xa : Int)) := r1
          have r2' : wr.cell? ⟨g', j * 3 + 2, none⟩ = some (.int .i64 (xb : Int)) := r2
          have hxm : (x0, (xa : Int), (xb : Int)) ∈ t := List.mem_of_getElem? hx
          have hwf : (Lit.int .i64 x0).wf = true := HG.out.2.wf _ (HIO.out.2.2.2.2.2 _ (List.mem_append_right _ hxm))
          have HN : Hid (∀ d ∈ o ++ t.take j, d.1 ≠ x0) := fun d hd e => by
            have hdR : d ∈ R := HIO.out.2.2.2.2.2 d (by
              rcases List.mem_append.1 hd with h1 | h1
              · exact List.mem_append_left _ h1
              · exact List.mem_append_right _ (List.mem_of_mem_take h1))
            have := HG.out.2.one d hdR _ (HIO.out.2.2.2.2.2 _ (List.mem_append_right _ hxm)) e
            rw [this] at hd
            rcases List.mem_append.1 hd with h1 | h1
            · exact HIO.out.2.2.2.2.1 _ h1 hxm
            · exact not_before HIO.out.2.2.2.1 hx h1
          have hbel : Below wr.heap.size wr ((wr.alloc (.cells #[.int .i64 x0, .int .i64 (xa : Int), .int .i64 (xb : Int)] 61)).drew) := ((Below.refl _ _).alloc (Nat.le_refl _) _).drew
          have HC2 : Hid (Cv w1 ((wr.alloc (.cells #[.int .i64 x0, .int .i64 (xa : Int), .int .i64 (xb : Int)] 61)).drew) (mb + 1) mb mo (o ++ t.take j) (covN n t o)) := HC.out.below' hbel
          have HT : Hid (Calls Tryz.prog 141 #[.int .i64 (n : Int), .slice (some ⟨g', 0, none⟩) mt tc, .agg #[.int .i64 x0, .int .i64 (xa : Int), .int .i64 (xb : Int)], .slice oa mo oc] ((wr.alloc (.cells #[.int .i64 x0, .int .i64 (xa : Int), .int .i64 (xb : Int)] 61)).drew) fun e w' => ∃ X W2, e = .returned (.agg #[.int .u64 (X : Int), .int .u64 0]) ∧ (w'.cell? ⟨mb + 1, 1, none⟩ = some (.map (some mb)) ∧ w'.cell? ⟨wr.heap.size, 0, none⟩ = some (.int .i64 x0) ∧ w'.cell? ⟨wr.heap.size, 1, none⟩ = some (.int .i64 (xa : Int)) ∧ w'.cell? ⟨wr.heap.size, 2, none⟩ = some (.int .i64 (xb : Int))) ∧ (Instr.mapUpdate 204 (.map (some mb)) (.int .i64 x0) (.agg #[.int .u64 (X : Int), .int .u64 0])).run Tryz.prog w' = .ok () W2 ∧ (W2.cell? ⟨mb + 1, 1, none⟩ = some (.map (some mb)) ∧ W2.cell? ⟨wr.heap.size, 0, none⟩ = some (.int .i64 x0) ∧ W2.cell? ⟨wr.heap.size, 1, none⟩ = some (.int .i64 (xa : Int)) ∧ W2.cell? ⟨wr.heap.size, 2, none⟩ = some (.int .i64 (xb : Int))) ∧ Hid (Cv w1 W2 (mb + 1) mb mo (o ++ t.take (j + 1)) (covN n t o))) := by
            have hq0 : ((wr.alloc (.cells #[.int .i64 x0, .int .i64 (xa : Int), .int .i64 (xb : Int)] 61)).drew).cell? ⟨wr.heap.size, 0, none⟩ = some (.int .i64 x0) := by simp
            have hq1 : ((wr.alloc (.cells #[.int .i64 x0, .int .i64 (xa : Int), .int .i64 (xb : Int)] 61)).drew).cell? ⟨wr.heap.size, 1, none⟩ = some (.int .i64 (xa : Int)) := by simp
            have hq2 : ((wr.alloc (.cells #[.int .i64 x0, .int .i64 (xa : Int), .int .i64 (xb : Int)] 61)).drew).cell? ⟨wr.heap.size, 2, none⟩ = some (.int .i64 (xb : Int)) := by simp
            have hmbl : mb < wr.heap.size := by
              obtain ⟨D, N, h1, _, _⟩ := HC.out.mp
              obtain ⟨es, clock, h1, _⟩ := h1
              exact lt_of_some h1
            refine (through_any n B1 B1 _ _ t o (x0, (xa : Int), (xb : Int)) _ (HO.out.1.below HC2.out.below) (HO.out.2.1.below HC2.out.below) HIO.out.2.1 HIO.out.1 hxm (by omega) (by rw [HM.out.1]; omega) (by rw [HM.out.2]; omega)).mono ?_
            rintro e w' ⟨rfl, hb'⟩
            have HC3 := HC2.out.below' hb'
            obtain ⟨W2, hup, hcv2, hgr⟩ := HC3.more (x0, (xa : Int), (xb : Int)) HN.out hwf (by rw [List.length_append, List.length_take, HM.out.2]; omega)
            rw [covN_tree hxm] at hup
            rw [List.append_assoc, ← take_one hx] at hcv2
            have k0 := cell_below hq0 hb'
            have k1 := cell_below hq1 hb'
            have k2 := cell_below hq2 hb'
            have kg : ∀ {i : Nat} {u : Value}, w'.cell? ⟨wr.heap.size, i, none⟩ = some u → W2.cell? ⟨wr.heap.size, i, none⟩ = some u := fun {i u} hk => by
              have hl := lt_of_cell hk
              simp only [World.cell?] at hk ⊢
              rw [hgr.block wr.heap.size hl (by simp; omega)]; exact hk
            exact ⟨_, W2, rfl, ⟨HC3.cell1, k0, k1, k2⟩, hup, ⟨hcv2.cell1, kg k0, kg k1, kg k2⟩, hcv2⟩
          have HG2 : Hid (G.GAt ((wr.alloc (.cells #[.int .i64 x0, .int .i64 (xa : Int), .int .i64 (xb : Int)] 61)).drew) B 168 61 p (n : Int) v R) := (HG.out.1.below HO.out.2.2).below HC2.out.below
          have hS0 : (((wr.alloc (.cells #[.int .i64 x0, .int .i64 (xa : Int), .int .i64 (xb : Int)] 61)).drew).cell? ⟨mb + 1, 1, none⟩ = some (.map (some mb)) ∧ ((wr.alloc (.cells #[.int .i64 x0, .int .i64 (xa : Int), .int .i64 (xb : Int)] 61)).drew).cell? ⟨wr.heap.size, 0, none⟩ = some (.int .i64 x0) ∧ ((wr.alloc (.cells #[.int .i64 x0, .int .i64 (xa : Int), .int .i64 (xb : Int)] 61)).drew).cell? ⟨wr.heap.size, 1, none⟩ = some (.int .i64 (xa : Int)) ∧ ((wr.alloc (.cells #[.int .i64 x0, .int .i64 (xa : Int), .int .i64 (xb : Int)] 61)).drew).cell? ⟨wr.heap.size, 2, none⟩ = some (.int .i64 (xb : Int))) := ⟨HC2.out.cell1, by simp, by simp, by simp⟩
          clear r0 r1 r2 hx hxa hxb hxm hbel HC2 HC HN
          go_upto_region 13 with fail
          clear r0' r1' r2'
          go_region_held (fun w' => (w'.cell? ⟨mb + 1, 1, none⟩ = some (.map (some mb)) ∧ w'.cell? ⟨wr.heap.size, 0, none⟩ = some (.int .i64 x0) ∧ w'.cell? ⟨wr.heap.size, 1, none⟩ = some (.int .i64 (xa : Int)) ∧ w'.cell? ⟨wr.heap.size, 2, none⟩ = some (.int .i64 (xb : Int)))) (with_reducible assumption)
            (first
            | (go_at_call 52; refine (G.nodes_any (n : Int) B p v R _ HG2.out).mono ?_; rintro e w' ⟨rfl, rfl⟩)
            | (go_at_call 141; refine HT.out.mono ?_; rintro e w' ⟨X, W2, rfl, hS1, hup, hS2, hcv2⟩))
          all_goals
            go_wp2_with fail
            go_roundw
            case rel => exact ⟨j + 1, by omega, by go_num, hcv2.out⟩
            case measure => simp [intOf]; omega
        · as_aux_lemma =>
          have HC1 : Hid (Cv w wr (mb + 1) mb mo (o ++ t) (covN n t o)) := by
            have hje : j = mt := by omega
            have h2 := HC.out
            rw [hje, ← HM.out.1, List.take_length] at h2
            exact h2.base HO.out.2.2
          have HUN : Hid _ := HU.out wr (mb + 1) mb (by rw [HM.out.2]; exact HC1.out)
          clear HC
          go_wp2_with fail
          refine Calls.mono HUN.out ?_
          rintro e w5 ⟨q, bq, rfl, hs5, hq5, hbq5, hb5⟩
          have HC5 : Hid (Cv w w5 (mb + 1) mb mo (o ++ t) (covN n t o)) := HC1.out.below' hb5
          obtain ⟨u2, hst⟩ := HC5.out.st
          have k2 : w5.cell? ⟨mb + 1, 2, none⟩ = some u2 := by simp [World.cell?, hst]
          have f2 : w5.frozen? ⟨mb + 1, 2, none⟩ = false := by simp [World.frozen?, hst]
          have hcl : mb + 1 < wr.heap.size := by obtain ⟨u, hu⟩ := HC1.out.st; exact lt_of_some hu
          have HF : Hid (Cv w (w5.setCell ⟨mb + 1, 2, none⟩ (.pointer (some ⟨q, 0, none⟩))) (mb + 1) mb mo (o ++ t) (covN n t o) ∧ (w5.setCell ⟨mb + 1, 2, none⟩ (.pointer (some ⟨q, 0, none⟩))).heap[mb + 1]? = some (.cells #[.int .i64 (mo : Int), .map (some mb), .pointer (some ⟨q, 0, none⟩)] 206) ∧ SetsAt (w5.setCell ⟨mb + 1, 2, none⟩ (.pointer (some ⟨q, 0, none⟩))) q bq L3) := by
            have hnew : (w5.setCell ⟨mb + 1, 2, none⟩ (.pointer (some ⟨q, 0, none⟩))).heap[mb + 1]? = some (.cells #[.int .i64 (mo : Int), .map (some mb), .pointer (some ⟨q, 0, none⟩)] 206) := by
              simp only [World.setCell, Array.getElem?_modify, hst]
              simp
            have hg : w5.grownBy (w5.setCell ⟨mb + 1, 2, none⟩ (.pointer (some ⟨q, 0, none⟩))) (some (mb + 1)) := ⟨rfl, rfl, rfl, by simp, fun k _ hne => Below.heap_setCell _ _ _ _ (fun e => hne (by rw [e]))⟩
            obtain ⟨D, N, h1, h2, h3⟩ := HC5.out.mp
            refine ⟨{ HC5.out with st := ⟨_, hnew⟩, mp := ⟨D, N, h1.kept hg (by simp), h2, h3⟩, below := HC5.out.below.grown hg HC5.out.below.size (fun j hj => by injection hj with hj; have := HC5.out.lc; omega) }, hnew, ?_⟩
            exact ⟨(Below.heap_setCell _ _ _ _ (show q ≠ mb + 1 by omega)).trans hs5.hp, (Below.heap_setCell _ _ _ _ (show bq ≠ mb + 1 by omega)).trans hs5.hb⟩
          clear hst hs5 hb5 HC5 HUN
          go_wp2_with fail
          go_ret
          refine ⟨mb + 1, mb, q, bq, rfl, ?_, ?_, HF.out.2.2⟩
          · rw [HTO.out.1, HTO.out.2, HM.out.2]; exact HF.out.1
          · rw [HTO.out.2, HM.out.2]; exact HF.out.2.1

end Go.Proofs.YtebcjaenhiiflaaGreatDoor.S
