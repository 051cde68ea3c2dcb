/- What the sums of rings are: how many there are, which part together, what no two part. -/
import Derived.Test.YtigodbamphejmaaGreatVz
import Derived.Test.YtigodbamphejmaaGreatOb
namespace Go.Proofs.YtigodbamphejmaaGreat.S
open Go.RowKit Go.WideMaps Go.Maps

section
variable {n : Nat} {L R t o : List Edg}

theorem mem_tbut (t : List Edg) (d : Edg) : (· ∈ tbut t d) = but (· ∈ t) d := by
  funext e; apply propext; simp [tbut, but]

theorem cn_same {A B : Edg → Prop} (h : A = B) (u v : Nat) : cn ea eb A u v ↔ cn ea eb B u v := by rw [h]

theorem cnR_same {A : List Edg} {B : Edg → Prop} (h : (· ∈ A) = B) (u v : Nat) : cnR A u v ↔ cn ea eb B u v := cn_same h u v

theorem covB_iff (hg : Gr n L t o) (hin : InE n L) {e d : Edg} {k : Nat} (hk : o[k]? = some d) : covB n t o e k = true ↔ cov ea eb (· ∈ t) e d := by
  have hd : d ∈ L := (hg.mem d).2 (.inr (List.mem_of_getElem? hk))
  have hgd : o.getD k (0, 0, 0) = d := by rw [List.getD_eq_getElem?_getD, hk]; rfl
  have hit : InE n t := hin.sub (fun x hx => (hg.mem x).2 (.inl hx))
  unfold covB cov
  by_cases he : e ∈ t
  · rw [if_pos he]
    unfold tcov
    rw [hgd, decide_eq_true_iff, Ne, lb_iff (tbut_in hit e).nodes (hin d hd).1 (hin d hd).2.1, cnR_same (mem_tbut t e)]
    simp [he]
  · rw [if_neg he, decide_eq_true_iff, hgd]
    simp [he, eq_comm]

theorem covN_eq (hg : Gr n L t o) (hin : InE n L) (e d : Edg) : covN n t o e = covN n t o d ↔ alikeE ea eb (· ∈ t) (· ∈ o) e d := by
  unfold covN
  constructor
  · intro h x hx
    obtain ⟨k, hk⟩ := List.getElem?_of_mem hx
    have hl := (List.getElem?_eq_some_iff.1 hk).1
    have := bitsN_inj h k hl
    rw [← covB_iff hg hin hk, ← covB_iff hg hin hk, this]
  · intro h
    refine bitsN_congr (fun i hi => ?_)
    have hk : o[i]? = some o[i] := List.getElem?_eq_getElem hi
    rw [Bool.eq_iff_iff, covB_iff hg hin hk, covB_iff hg hin hk]
    exact h _ (List.mem_of_getElem? hk)

theorem bitsN_none : ∀ m, bitsN (fun _ => false) m = 0
  | 0 => rfl
  | m + 1 => by simp [bitsN, bitsN_none m]

theorem covN_zero (hg : Gr n L t o) (hin : InE n L) (e : Edg) : covN n t o e = 0 ↔ ∀ x, x ∈ o → ¬ cov ea eb (· ∈ t) e x := by
  unfold covN
  constructor
  · intro h x hx
    obtain ⟨k, hk⟩ := List.getElem?_of_mem hx
    have hl := (List.getElem?_eq_some_iff.1 hk).1
    have := bitsN_inj (d := fun _ => false) (h.trans (bitsN_none _).symm) k hl
    rw [← covB_iff hg hin hk, this]
    simp
  · intro h
    rw [← bitsN_none o.length]
    refine bitsN_congr (fun i hi => ?_)
    have hk : o[i]? = some o[i] := List.getElem?_eq_getElem hi
    have := h _ (List.mem_of_getElem? hk)
    rw [← covB_iff hg hin hk] at this
    simpa using this

theorem un_mem (hg : Gr n L t o) : un (· ∈ t) (· ∈ o) = (· ∈ L) := by
  funext e; apply propext; exact (hg.mem e).symm

theorem covN_br (hg : Gr n L t o) (hin : InE n L) {e : Edg} (he : e ∈ L) : covN n t o e = 0 ↔ br ea eb (· ∈ L) e := by
  rw [covN_zero hg hin, ← un_mem hg, hg.forest.bridge ((hg.mem e).1 he)]

theorem tri_mem (q : Nat → Nat → Bool) : ∀ {m x y : Nat}, x < m → y < x → q x y = true → ((0 : Int), (x : Int), (y : Int)) ∈ tri q m
  | 0, x, y, h, _, _ => by omega
  | m + 1, x, y, h, hy, hq => by
    rw [tri, List.mem_append]
    by_cases e : x = m
    · right
      rw [← e]
      exact List.mem_map.2 ⟨y, List.mem_filter.2 ⟨List.mem_range.2 hy, hq⟩, rfl⟩
    · exact .inl (tri_mem q (by omega) hy hq)

theorem tri_all (q : Nat → Nat → Bool) : ∀ {m : Nat} {e : Edg}, e ∈ tri q m → q (ea e) (eb e) = true
  | 0, e, h => by simp [tri] at h
  | m + 1, e, h => by
    rw [tri, List.mem_append] at h
    rcases h with h | h
    · exact tri_all q h
    · obtain ⟨z, hz, rfl⟩ := List.mem_map.1 h
      have := (List.mem_filter.1 hz).2
      simpa [ea, eb] using this

theorem alB_iff (Ls : List (List Nat)) (x y : Nat) : alB Ls x y = true ↔ ∀ l ∈ Ls, l.getD x 0 = l.getD y 0 := by simp [alB]

theorem lab3_good (L S : List Edg) (f : Edg → Nat) : Good n (lab3 n L S f) := lb_good (tri_in _ n n (Nat.le_refl _))

theorem lab3_al (S : List Edg) (f : Edg → Nat) {x y : Nat} (hx : x < n) (hy : y < n) : (lab3 n L S f).getD x 0 = (lab3 n L S f).getD y 0 ↔ ∀ l ∈ rests n L S f, l.getD x 0 = l.getD y 0 := by
  unfold lab3
  rw [lb_iff (tri_in _ n n (Nat.le_refl _)) hx hy]
  constructor
  · intro h
    refine Conn.least (P := fun x y => ∀ l ∈ rests n L S f, l.getD x 0 = l.getD y 0) h (fun x l _ => rfl) (fun x y k l hl => (k l hl).symm) (fun x y z k1 k2 l hl => (k1 l hl).trans (k2 l hl)) ?_
    rintro x y ⟨e, he, rfl, rfl⟩
    exact (alB_iff _ _ _).1 (tri_all _ he)
  · intro h
    rcases Nat.lt_trichotomy x y with hlt | rfl | hlt
    · have := cn_edge (a := ea) (b := eb) (T := (· ∈ tri (alB (rests n L S f)) n)) (tri_mem (alB (rests n L S f)) hy hlt ((alB_iff _ _ _).2 fun l hl => (h l hl).symm))
      exact cn_symm (by simpa [ea, eb] using this)
    · exact cn_refl _
    · have := cn_edge (a := ea) (b := eb) (T := (· ∈ tri (alB (rests n L S f)) n)) (tri_mem (alB (rests n L S f)) hx hlt ((alB_iff _ _ _).2 h))
      simpa [ea, eb] using this


/-- Two that part together are of one part that no one edge parts. -/
theorem twin_tw {U : Edg → Prop} {e d : Edg} (he : U e) (hd : U d) (hne : e ≠ d) (nd : ¬ br ea eb U d) (hb : br ea eb (but U e) d) : tw ea eb U (ea e) (ea d) := by
  have hH : ∀ {x y : Nat}, cn ea eb (but (but U e) d) x y → cn ea eb U x y := fun k => cn_mono k fun _ h => h.1.1
  have hsep : ¬ cn ea eb (but (but U e) d) (ea d) (eb d) := hb.2
  -- without d its ends are together, through e
  have k1 : cn ea eb (but U d) (ea d) (eb d) := not_br nd hd
  have k2 := cn_parts e k1
  rw [but_comm] at k2
  -- an edge that is neither of the two
  have lift : ∀ {f : Edg} {x y : Nat}, cn ea eb (but (but (but U e) d) f) x y → cn ea eb (but U f) x y := fun k => cn_mono k fun _ h => ⟨h.1.1.1, h.2⟩
  have liftE : ∀ {x y : Nat}, cn ea eb (but (but U e) d) x y → cn ea eb (but U e) x y := fun k => cn_mono k fun _ h => h.1
  have liftD : ∀ {x y : Nat}, cn ea eb (but (but U e) d) x y → cn ea eb (but U d) x y := fun k => cn_mono k fun _ h => ⟨h.1.1, h.2⟩
  have down : ∀ {f : Edg} {x y : Nat}, cn ea eb (but (but (but U e) d) f) x y → cn ea eb (but (but U e) d) x y := fun k => cn_but k
  rcases k2 with k | ⟨p1, p2⟩ | ⟨p1, p2⟩
  · exact absurd k hsep
  · -- ea d with ea e, eb e with eb d
    refine ⟨cn_symm (hH p1), fun f hf => ?_⟩
    by_cases fe : f = e
    · rw [fe]; exact cn_symm (liftE p1)
    by_cases fd : f = d
    · rw [fd]; exact cn_symm (liftD p1)
    have eE : cn ea eb (but U f) (ea e) (eb e) := cn_edge ⟨he, fun k => fe k.symm⟩
    have eD : cn ea eb (but U f) (ea d) (eb d) := cn_edge ⟨hd, fun k => fd k.symm⟩
    rcases cn_parts f p1 with q | ⟨q1, q2⟩ | ⟨q1, q2⟩
    · exact cn_symm (lift q)
    · rcases cn_parts f p2 with r | ⟨r1, r2⟩ | ⟨r1, r2⟩
      · exact cn_trans eE (cn_trans (lift r) (cn_symm eD))
      · -- ea d ~ a, b ~ ea e; eb e ~ a, b ~ eb d
        exact absurd (cn_trans p1 (cn_trans (cn_symm (down q2)) (down r2))) hsep
      · -- ea d ~ a, b ~ ea e; eb e ~ b, a ~ eb d
        exact absurd (cn_trans (down q1) (down r2)) hsep
    · rcases cn_parts f p2 with r | ⟨r1, r2⟩ | ⟨r1, r2⟩
      · exact cn_trans eE (cn_trans (lift r) (cn_symm eD))
      · -- ea d ~ b, a ~ ea e; eb e ~ a, b ~ eb d
        exact absurd (cn_trans (down q1) (down r2)) hsep
      · -- ea d ~ b, a ~ ea e; eb e ~ b, a ~ eb d
        exact absurd (cn_trans p1 (cn_trans (cn_symm (down q2)) (down r2))) hsep
  · -- ea d with eb e, ea e with eb d
    have eE' : cn ea eb U (ea e) (eb e) := cn_edge he
    refine ⟨cn_trans eE' (cn_symm (hH p1)), fun f hf => ?_⟩
    by_cases fe : f = e
    · rw [fe]
      exact cn_trans (liftE p2) (cn_symm (cn_edge ⟨hd, fun k => hne k.symm⟩))
    by_cases fd : f = d
    · rw [fd]
      exact cn_trans (cn_edge ⟨he, hne⟩) (cn_symm (liftD p1))
    have eE : cn ea eb (but U f) (ea e) (eb e) := cn_edge ⟨he, fun k => fe k.symm⟩
    have eD : cn ea eb (but U f) (ea d) (eb d) := cn_edge ⟨hd, fun k => fd k.symm⟩
    rcases cn_parts f p2 with q | ⟨q1, q2⟩ | ⟨q1, q2⟩
    · exact cn_trans (lift q) (cn_symm eD)
    · rcases cn_parts f p1 with r | ⟨r1, r2⟩ | ⟨r1, r2⟩
      · exact cn_trans eE (cn_symm (lift r))
      · -- ea e ~ a, b ~ eb d; ea d ~ a, b ~ eb e
        exact cn_trans (lift q1) (cn_symm (lift r1))
      · -- ea e ~ a, b ~ eb d; ea d ~ b, a ~ eb e
        exact absurd (cn_trans (down r1) (down q2)) hsep
    · rcases cn_parts f p1 with r | ⟨r1, r2⟩ | ⟨r1, r2⟩
      · exact cn_trans eE (cn_symm (lift r))
      · -- ea e ~ b, a ~ eb d; ea d ~ a, b ~ eb e
        exact absurd (cn_trans (down r1) (down q2)) hsep
      · -- ea e ~ b, a ~ eb d; ea d ~ b, a ~ eb e
        exact cn_trans (lift q1) (cn_symm (lift r1))

/-- Two of Pairs: of one part that no one edge parts. -/
theorem pair_tw (hg : Gr n L t o) (hin : InE n L) {e d : Edg} (he : e ∈ L) (hd : d ∈ L) (hne : e ≠ d) (h0 : covN n t o e ≠ 0) (h1 : covN n t o e = covN n t o d) : twR L (ea e) (ea d) := by
  have ne : ¬ br ea eb (· ∈ L) e := fun k => h0 ((covN_br hg hin he).2 k)
  have nd : ¬ br ea eb (· ∈ L) d := fun k => h0 (h1.trans ((covN_br hg hin hd).2 k))
  have := hg.forest.pair ((hg.mem e).1 he) ((hg.mem d).1 hd) hne (by rw [un_mem hg]; exact ne) (by rw [un_mem hg]; exact nd)
  rw [un_mem hg] at this
  exact twin_tw he hd hne nd (this.2 ((covN_eq hg hin e d).1 h1))

/-- What no two edges part is within what no one edge parts. -/
theorem thrice_tw (hg : Gr n L t o) (hin : InE n L) {x y : Nat} (hx : x < n) (hy : y < n) (h : (lab3 n L (o ++ t) (covN n t o)).getD x 0 = (lab3 n L (o ++ t) (covN n t o)).getD y 0) : twR L x y := by
  have hfil : ∀ d, Nodes n (L.filter fun e => decide (covN n t o e ≠ covN n t o d)) := fun d e he => hin.nodes e (List.mem_filter.1 he).1
  have h1 := (lab3_al _ _ hx hy).1 h
  unfold rests at h1
  refine ⟨(lb_iff hin.nodes hx hy).1 (h1 _ (by simp)), fun e he => ?_⟩
  have he' : e ∈ o ++ t := List.mem_append.2 ((hg.mem e).1 he).symm
  have h2 := (lb_iff (hfil e) hx hy).1 (h1 _ (List.mem_cons_of_mem _ (List.mem_map.2 ⟨e, he', rfl⟩)))
  refine cn_mono h2 fun d hd => ?_
  obtain ⟨h3, h4⟩ := List.mem_filter.1 hd
  refine ⟨h3, fun k => ?_⟩
  rw [k] at h4
  simp at h4

/-- Edges that join, one after the other. -/
theorem eff_snoc : ∀ (ds : List Edg) (L : List Nat) (d : Edg), Eff L ds → (joins L ds).getD (ea d) 0 ≠ (joins L ds).getD (eb d) 0 → Eff L (ds ++ [d])
  | [], _, _, _, h => ⟨h, trivial⟩
  | _ :: ds, _, d, he, h => ⟨he.1, eff_snoc ds _ d he.2 h⟩

theorem eff_grw (n : Nat) : ∀ (S : List Edg) (s : List Edg × List Edg), Eff (List.range n) s.1 → Eff (List.range n) (S.foldl (gstep n) s).1
  | [], s, h => h
  | e :: S, s, h => by
    refine eff_grw n S (gstep n s e) ?_
    unfold gstep
    by_cases hc : (lbl n s.1).getD (ea e) 0 = (lbl n s.1).getD (eb e) 0
    · rw [if_pos hc]; exact h
    · rw [if_neg hc]; exact eff_snoc s.1 _ e h hc

theorem least_range (n : Nat) : cnt (isLeast (List.range n)) n = n := by
  have : ∀ k, k ≤ n → cnt (isLeast (List.range n)) k = k := by
    intro k
    induction k with
    | zero => intro _; rfl
    | succ k ih =>
      intro hk
      have h1 : isLeast (List.range n) k = true := by
        rw [isLeast_iff]
        simp [List.getD_eq_getElem?_getD, List.getElem?_range (show k < n by omega)]
      simp only [cnt, ih (by omega), h1]
      rfl
  exact this n (Nat.le_refl _)

/-- Rings are counted. -/
theorem rest_count {W T : List Nat} {B : List Edg} (s : St n L W T B) (hnd : L.Nodup) : (grw n L).2.length + n = L.length + (grps W n).length := by
  have hin : Nodes n L := s.inn
  have hg := gr_all L hnd hin
  have htn : Nodes n (grw n L).1 := fun d hd => hin d ((hg.mem d).2 (.inl hd))
  have he : Eff (List.range n) (grw n L).1 := eff_grw n L ([], []) trivial
  have h1 := eff_count (grw n L).1 (List.range n) (good_range n) htn he
  rw [least_range] at h1
  have h2 : joins (List.range n) (grw n L).1 = W := by
    refine good_eq (lb_good htn) s.gw (fun u v => ?_)
    show Lk n (lbl n (grw n L).1) u v ↔ _
    rw [s.hW]
    constructor
    · rintro (h | ⟨hu, hv, h⟩)
      · rw [h]; exact cn_refl _
      · exact cn_mono ((lb_iff htn hu hv).1 h) (fun d hd => (hg.mem d).2 (.inl hd))
    · intro h
      by_cases huv : u = v
      · exact .inl huv
      · have h3 : cn ea eb (un (· ∈ (grw n L).1) (· ∈ (grw n L).2)) u v := by rw [un_mem hg]; exact h
        have h4 := hg.forest.all h3
        have hW := (s.hW u v).2 h
        rcases hW with hW | ⟨hu, hv, _⟩
        · exact .inl hW
        · exact .inr ⟨hu, hv, (lb_iff htn hu hv).2 h4⟩
  rw [h2] at h1
  have h5 := grps_length s.gw n (Nat.le_refl _)
  have h6 := hg.len
  omega

/-- The bridges' numbers. -/
theorem ups_ids {W T : List Nat} {B : List Edg} (s : St n L W T B) (hg : Gr n L t o) (hin : InE n L) (hup : (L.map (·.1)).Pairwise (· < ·)) : ups L B = (L.filter fun e => decide (covN n t o e = 0)).map (·.1) := by
  have e1 : idsOf L B = (L.filter fun e => decide (covN n t o e = 0)).map (·.1) := by
    unfold idsOf
    congr 1
    apply List.filter_congr
    intro e he
    rw [Bool.eq_iff_iff, decide_eq_true_iff, decide_eq_true_iff, s.hB, covN_br hg hin he]
  unfold ups
  rw [e1]
  refine List.mergeSort_of_pairwise ?_
  have h1 : ((L.filter fun e => decide (covN n t o e = 0)).map (·.1)).Pairwise (· < ·) := hup.sublist (List.Sublist.map _ List.filter_sublist)
  exact h1.imp (fun h => by simp; omega)

/-- What Pairs lists. -/
theorem mem_pairsOf {q : Edg → Edg → Bool} : ∀ {R : List Edg}, (R.map (·.1)).Pairwise (· < ·) → ∀ {x : Int × Int}, x ∈ pairsOf R q ↔ ∃ e ∈ R, ∃ d ∈ R, e.1 < d.1 ∧ q e d = true ∧ x = (e.1, d.1)
  | [], _, x => by simp [pairsOf]
  | c :: R, h, x => by
    rw [List.map_cons, List.pairwise_cons] at h
    have ih := mem_pairsOf (q := q) (R := R) h.2 (x := x)
    have hc : ∀ d ∈ R, c.1 < d.1 := fun d hd => h.1 d.1 (List.mem_map.2 ⟨d, hd, rfl⟩)
    simp only [pairsOf, List.mem_append, List.mem_map, List.mem_filter, ih]
    constructor
    · rintro (⟨d, ⟨hd, hq⟩, rfl⟩ | ⟨e, he, d, hd, h1, h2, h3⟩)
      · exact ⟨c, by simp, d, by simp [hd], hc d hd, hq, rfl⟩
      · exact ⟨e, by simp [he], d, by simp [hd], h1, h2, h3⟩
    · rintro ⟨e, he, d, hd, h1, h2, rfl⟩
      rcases List.mem_cons.1 he with he1 | he1
      · rcases List.mem_cons.1 hd with hd1 | hd1
        · rw [he1, hd1] at h1; omega
        · rw [he1] at h2 ⊢; exact .inl ⟨d, ⟨hd1, h2⟩, rfl⟩
      · rcases List.mem_cons.1 hd with hd1 | hd1
        · have := hc e he1; rw [hd1] at h1; omega
        · exact .inr ⟨e, he1, d, hd1, h1, h2, rfl⟩

theorem cnt_more {g : Nat → Bool} {m : Nat} : ∀ k, (∀ i, m ≤ i → g i = false) → cnt g (m + k) = cnt g m
  | 0, _ => rfl
  | k + 1, h => by
    rw [← Nat.add_assoc]
    simp only [cnt]
    rw [cnt_more k h, h (m + k) (by omega)]
    rfl

theorem cnt_cong {f g : Nat → Bool} : ∀ {m}, (∀ i, i < m → f i = g i) → cnt f m = cnt g m
  | 0, _ => rfl
  | m + 1, h => by
    simp only [cnt]
    rw [cnt_cong (fun i hi => h i (by omega)), h m (by omega)]

theorem covN_lt (n : Nat) (t o : List Edg) (e : Edg) (h : o.length ≤ 63) : covN n t o e < 18446744073709551616 := by
  have h1 := bitsN_lt (covB n t o e) o.length
  have h2 : 2 ^ o.length ≤ 2 ^ 64 := Nat.pow_le_pow_right (by omega) (by omega)
  unfold covN
  have h3 : (2 : Nat) ^ 64 = 18446744073709551616 := by decide
  omega

theorem pc_covN (n : Nat) (t o : List Edg) (e : Edg) (h : o.length ≤ 63) : pc 64 (covN n t o e) = cnt (covB n t o e) o.length := by
  rw [pc_cnt, cnt_bits (covB n t o e)]
  have e1 : 64 = o.length + (64 - o.length) := by omega
  rw [e1]
  show cnt (fun i => (bitsN (covB n t o e) o.length).testBit i) _ = _
  refine cnt_more _ (fun i hi => ?_)
  refine Nat.testBit_lt_two_pow ?_
  exact Nat.lt_of_lt_of_le (bitsN_lt _ _) (Nat.pow_le_pow_right (by omega) hi)

end

end Go.Proofs.YtigodbamphejmaaGreat.S
