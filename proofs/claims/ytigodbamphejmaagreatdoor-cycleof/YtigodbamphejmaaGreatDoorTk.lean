/- Rings: what the program tells is what the document tells; the law's own closure. -/
import Derived.Test.YtigodbamphejmaaGreatDoorTi
import Derived.Test.YtigodbamphejmaaGreatDoorTj
import Derived.Test.YtigodbamphejmaaGreatDoorVz
namespace Go.Proofs.YtigodbamphejmaaGreatDoor.S
open Go.RowKit Go.WideMaps Go.Maps

section
variable {n : Nat} {L R t o : List Edg}

theorem mem_tbut (t : List Edg) (d : Edg) : (· ∈ tbut t d) = but (· ∈ t) d := by
  funext e; apply propext; simp [tbut, but]

theorem cn_same {A B : Edg → Prop} (h : A = B) (u v : Nat) : cn ea eb A u v ↔ cn ea eb B u v := by rw [h]

theorem cnR_same {A : List Edg} {B : Edg → Prop} (h : (· ∈ A) = B) (u v : Nat) : cnR A u v ↔ cn ea eb B u v := cn_same h u v

theorem covB_iff (hg : Gr n L t o) (hin : InE n L) {e d : Edg} {k : Nat} (hk : o[k]? = some d) : covB n t o e k = true ↔ cov ea eb (· ∈ t) e d := by
  have hd : d ∈ L := (hg.mem d).2 (.inr (List.mem_of_getElem? hk))
  have hgd : o.getD k (0, 0, 0) = d := by rw [List.getD_eq_getElem?_getD, hk]; rfl
  have hit : InE n t := hin.sub (fun x hx => (hg.mem x).2 (.inl hx))
  unfold covB cov
  by_cases he : e ∈ t
  · rw [if_pos he]
    unfold tcov
    rw [hgd, decide_eq_true_iff, Ne, lb_iff (tbut_in hit e).nodes (hin d hd).1 (hin d hd).2.1, cnR_same (mem_tbut t e)]
    simp [he]
  · rw [if_neg he, decide_eq_true_iff, hgd]
    simp [he, eq_comm]

theorem covN_eq (hg : Gr n L t o) (hin : InE n L) (e d : Edg) : covN n t o e = covN n t o d ↔ alikeE ea eb (· ∈ t) (· ∈ o) e d := by
  unfold covN
  constructor
  · intro h x hx
    obtain ⟨k, hk⟩ := List.getElem?_of_mem hx
    have hl := (List.getElem?_eq_some_iff.1 hk).1
    have := bitsN_inj h k hl
    rw [← covB_iff hg hin hk, ← covB_iff hg hin hk, this]
  · intro h
    refine bitsN_congr (fun i hi => ?_)
    have hk : o[i]? = some o[i] := List.getElem?_eq_getElem hi
    rw [Bool.eq_iff_iff, covB_iff hg hin hk, covB_iff hg hin hk]
    exact h _ (List.mem_of_getElem? hk)

theorem bitsN_none : ∀ m, bitsN (fun _ => false) m = 0
  | 0 => rfl
  | m + 1 => by simp [bitsN, bitsN_none m]

theorem covN_zero (hg : Gr n L t o) (hin : InE n L) (e : Edg) : covN n t o e = 0 ↔ ∀ x, x ∈ o → ¬ cov ea eb (· ∈ t) e x := by
  unfold covN
  constructor
  · intro h x hx
    obtain ⟨k, hk⟩ := List.getElem?_of_mem hx
    have hl := (List.getElem?_eq_some_iff.1 hk).1
    have := bitsN_inj (d := fun _ => false) (h.trans (bitsN_none _).symm) k hl
    rw [← covB_iff hg hin hk, this]
    simp
  · intro h
    rw [← bitsN_none o.length]
    refine bitsN_congr (fun i hi => ?_)
    have hk : o[i]? = some o[i] := List.getElem?_eq_getElem hi
    have := h _ (List.mem_of_getElem? hk)
    rw [← covB_iff hg hin hk] at this
    simpa using this

theorem un_mem (hg : Gr n L t o) : un (· ∈ t) (· ∈ o) = (· ∈ L) := by
  funext e; apply propext; exact (hg.mem e).symm

theorem covN_br (hg : Gr n L t o) (hin : InE n L) {e : Edg} (he : e ∈ L) : covN n t o e = 0 ↔ br ea eb (· ∈ L) e := by
  rw [covN_zero hg hin, ← un_mem hg, hg.forest.bridge ((hg.mem e).1 he)]

theorem rest_br (hone : ∀ d ∈ L, ∀ e ∈ L, d.1 = e.1 → d = e) (hp : ∀ e, e ∈ R ↔ e ∈ L) {e : Edg} (he : e ∈ L) : br ea eb (· ∈ L) e ↔ ¬ cnR (rest R e) (ea e) (eb e) := by
  have hRL : (· ∈ R) = (· ∈ L) := by funext x; exact propext (hp x)
  rw [cnR_same (mem_rest (fun a ha b hb => hone a ((hp a).1 ha) b ((hp b).1 hb)) ((hp e).2 he)), hRL]
  exact ⟨fun h => h.2, fun h => ⟨he, h⟩⟩

/-- The finer parts are more, or the same. -/
theorem parts_same {A B : List Edg} (hA : Nodes n A) (hB : Nodes n B) (hsub : ∀ x ∈ B, x ∈ A) : nP n A ≤ nP n B ∧ (nP n A = nP n B ↔ ∀ u v, u < n → v < n → cnR A u v → cnR B u v) := by
  have h := parts_finer (lb_good hA) (lb_good hB) (fun u v hu hv k => (lb_iff hA hu hv).2 (cn_mono ((lb_iff hB hu hv).1 k) hsub))
  refine ⟨h.1, ?_⟩
  unfold nP
  rw [h.2]
  constructor
  · intro k u v hu hv hc
    rw [← lb_iff hB hu hv, k, lb_iff hA hu hv]; exact hc
  · intro k
    exact good_uniq (lb_good hB) (lb_good hA) (fun u v hu hv => by
      rw [lb_iff hB hu hv, lb_iff hA hu hv]
      exact ⟨fun c => cn_mono c hsub, k u v hu hv⟩)

theorem nodes_rest {n : Nat} (h : Nodes n R) (e : Edg) : Nodes n (rest R e) := fun d hd => h d (List.mem_filter.1 hd).1
theorem nodes_rest2 {n : Nat} (h : Nodes n R) (e f : Edg) : Nodes n (rest2 R e f) := fun d hd => h d (List.mem_filter.1 hd).1

theorem mem_rest2 (hone : ∀ d ∈ R, ∀ e ∈ R, d.1 = e.1 → d = e) {e f : Edg} (he : e ∈ R) (hf : f ∈ R) : (· ∈ rest2 R e f) = but (but (· ∈ R) e) f := by
  funext d; apply propext
  simp only [rest2, List.mem_filter, Bool.and_eq_true, decide_eq_true_eq, but]
  constructor
  · rintro ⟨h, k1, k2⟩; exact ⟨⟨h, fun c => k1 (by rw [c])⟩, fun c => k2 (by rw [c])⟩
  · rintro ⟨⟨h, k1⟩, k2⟩; exact ⟨h, fun c => k1 (hone d h e he c), fun c => k2 (hone d h f hf c)⟩

theorem fine_iff (hin : Nodes n R) (hone : ∀ d ∈ R, ∀ e ∈ R, d.1 = e.1 → d = e) {e : Edg} (he : e ∈ R) : nP n (rest R e) = nP n R ↔ ¬ br ea eb (· ∈ R) e := by
  rw [eq_comm, (parts_same hin (nodes_rest hin e) (fun x hx => (List.mem_filter.1 hx).1)).2]
  have hm := mem_rest hone he
  constructor
  · intro k hb
    have := k _ _ (hin e he).1 (hin e he).2 (cn_edge he)
    rw [cnR_same hm] at this
    exact hb.2 this
  · intro hb u v _ _ hc
    rw [cnR_same hm]
    exact keep_one (not_br hb) hc

theorem dq_iff (hin : Nodes n R) (hone : ∀ d ∈ R, ∀ e ∈ R, d.1 = e.1 → d = e) {e d : Edg} (he : e ∈ R) (hd : d ∈ R) (hne : e ≠ d) : dq n R e d = true ↔ ¬ br ea eb (· ∈ R) e ∧ ¬ br ea eb (· ∈ R) d ∧ br ea eb (but (· ∈ R) e) d := by
  unfold dq
  rw [Bool.and_eq_true, Bool.and_eq_true, decide_eq_true_iff, decide_eq_true_iff, decide_eq_true_iff, fine_iff hin hone he, fine_iff hin hone hd, and_assoc]
  refine and_congr_right (fun he' => and_congr_right (fun hd' => ?_))
  have h1 : nP n (rest R e) = nP n R := (fine_iff hin hone he).2 he'
  have hsub : ∀ x ∈ rest2 R e d, x ∈ rest R e := fun x hx => by
    have hx' : but (but (· ∈ R) e) d x := by
      have := mem_rest2 hone he hd
      exact (congrFun this x) ▸ hx
    have h2 := mem_rest hone he
    exact (congrFun h2 x) ▸ hx'.1
  have h2 := parts_same (nodes_rest hin e) (nodes_rest2 hin e d) hsub
  rw [← h1]
  have h3 : nP n (rest R e) < nP n (rest2 R e d) ↔ ¬ (nP n (rest R e) = nP n (rest2 R e d)) := by have := h2.1; omega
  rw [h3, h2.2]
  have m1 := mem_rest hone he
  have m2 := mem_rest2 hone he hd
  constructor
  · intro k
    refine ⟨⟨hd, fun c => hne c.symm⟩, fun hc => k (fun u v _ _ h4 => ?_)⟩
    rw [cnR_same m1] at h4
    rw [cnR_same m2]
    exact keep_one (fun _ => hc) h4
  · intro hb k
    have := k _ _ (hin d hd).1 (hin d hd).2 ((cnR_same m1 _ _).2 (cn_edge ⟨hd, fun c => hne c.symm⟩))
    rw [cnR_same m2] at this
    exact hb.2 this

theorem pairsOf_apart {q q' : Edg → Edg → Bool} : ∀ {R : List Edg}, R.Nodup → (∀ e ∈ R, ∀ d ∈ R, e ≠ d → q e d = q' e d) → pairsOf R q = pairsOf R q'
  | [], _, _ => rfl
  | e :: R, hnd, h => by
    rw [List.nodup_cons] at hnd
    simp only [pairsOf]
    rw [pairsOf_apart hnd.2 (fun a ha b hb => h a (by simp [ha]) b (by simp [hb]))]
    congr 2
    apply List.filter_congr
    intro d hd
    exact h e (by simp) d (by simp [hd]) (fun c => hnd.1 (c ▸ hd))

/-- The two that part together. -/
theorem pairs_eq (hg : Gr n L t o) (hok : Ok n L) (hp : ∀ e, e ∈ R ↔ e ∈ L) : pairsOf (L.filter fun e => decide (covN n t o e ≠ 0)) (fun e d => decide (covN n t o e = covN n t o d)) = pairsOf L (dq n R) := by
  rw [pairsOf_filter]
  refine pairsOf_apart hok.nd (fun e he d hd hne => ?_)
  have hRL : (· ∈ R) = (· ∈ L) := by funext x; exact propext (hp x)
  have hinR : Nodes n R := fun e he => hok.inn.nodes e ((hp e).1 he)
  rw [Bool.eq_iff_iff, dq_iff hinR (fun a ha b hb => hok.one a ((hp a).1 ha) b ((hp b).1 hb)) ((hp e).2 he) ((hp d).2 hd) hne, hRL]
  rw [Bool.and_eq_true, Bool.and_eq_true, decide_eq_true_iff, decide_eq_true_iff, decide_eq_true_iff, Ne, Ne, covN_br hg hok.inn he, covN_br hg hok.inn hd, covN_eq hg hok.inn, and_assoc]
  refine and_congr_right (fun he' => and_congr_right (fun hd' => ?_))
  have := hg.forest.pair ((hg.mem e).1 he) ((hg.mem d).1 hd) hne (by rw [un_mem hg]; exact he') (by rw [un_mem hg]; exact hd')
  rw [un_mem hg] at this
  exact this.symm

theorem tri_mem (q : Nat → Nat → Bool) : ∀ {m x y : Nat}, x < m → y < x → q x y = true → ((0 : Int), (x : Int), (y : Int)) ∈ tri q m
  | 0, x, y, h, _, _ => by omega
  | m + 1, x, y, h, hy, hq => by
    rw [tri, List.mem_append]
    by_cases e : x = m
    · right
      rw [← e]
      exact List.mem_map.2 ⟨y, List.mem_filter.2 ⟨List.mem_range.2 hy, hq⟩, rfl⟩
    · exact .inl (tri_mem q (by omega) hy hq)

theorem tri_all (q : Nat → Nat → Bool) : ∀ {m : Nat} {e : Edg}, e ∈ tri q m → q (ea e) (eb e) = true
  | 0, e, h => by simp [tri] at h
  | m + 1, e, h => by
    rw [tri, List.mem_append] at h
    rcases h with h | h
    · exact tri_all q h
    · obtain ⟨z, hz, rfl⟩ := List.mem_map.1 h
      have := (List.mem_filter.1 hz).2
      simpa [ea, eb] using this

theorem alB_iff (Ls : List (List Nat)) (x y : Nat) : alB Ls x y = true ↔ ∀ l ∈ Ls, l.getD x 0 = l.getD y 0 := by simp [alB]

theorem lab3_good (L S : List Edg) (f : Edg → Nat) : Good n (lab3 n L S f) := lb_good (tri_in _ n n (Nat.le_refl _))

theorem lab3_al (S : List Edg) (f : Edg → Nat) {x y : Nat} (hx : x < n) (hy : y < n) : (lab3 n L S f).getD x 0 = (lab3 n L S f).getD y 0 ↔ ∀ l ∈ rests n L S f, l.getD x 0 = l.getD y 0 := by
  unfold lab3
  rw [lb_iff (tri_in _ n n (Nat.le_refl _)) hx hy]
  constructor
  · intro h
    refine Conn.least (P := fun x y => ∀ l ∈ rests n L S f, l.getD x 0 = l.getD y 0) h (fun x l _ => rfl) (fun x y k l hl => (k l hl).symm) (fun x y z k1 k2 l hl => (k1 l hl).trans (k2 l hl)) ?_
    rintro x y ⟨e, he, rfl, rfl⟩
    exact (alB_iff _ _ _).1 (tri_all _ he)
  · intro h
    rcases Nat.lt_trichotomy x y with hlt | rfl | hlt
    · have := cn_edge (a := ea) (b := eb) (T := (· ∈ tri (alB (rests n L S f)) n)) (tri_mem (alB (rests n L S f)) hy hlt ((alB_iff _ _ _).2 fun l hl => (h l hl).symm))
      exact cn_symm (by simpa [ea, eb] using this)
    · exact cn_refl _
    · have := cn_edge (a := ea) (b := eb) (T := (· ∈ tri (alB (rests n L S f)) n)) (tri_mem (alB (rests n L S f)) hx hlt ((alB_iff _ _ _).2 h))
      simpa [ea, eb] using this

theorem thrice_eq (hg : Gr n L t o) (hok : Ok n L) (hp : ∀ e, e ∈ R ↔ e ∈ L) {x y : Nat} (hx : x < n) (hy : y < n) :
    (lab3 n L (o ++ t) (covN n t o)).getD x 0 = (lab3 n L (o ++ t) (covN n t o)).getD y 0 ↔ (cnR R x y ∧ ∀ e ∈ R, ∀ f ∈ R, cnR (rest2 R e f) x y) := by
  have hRL : (· ∈ R) = (· ∈ L) := by funext x; exact propext (hp x)
  have hone : ∀ d ∈ R, ∀ e ∈ R, d.1 = e.1 → d = e := fun a ha b hb => hok.one a ((hp a).1 ha) b ((hp b).1 hb)
  have hfil : ∀ d, Nodes n (L.filter fun e => decide (covN n t o e ≠ covN n t o d)) := fun d e he => hok.inn.nodes e (List.mem_filter.1 he).1
  have hmf : ∀ d, (· ∈ L.filter fun e => decide (covN n t o e ≠ covN n t o d)) = fun e => un (· ∈ t) (· ∈ o) e ∧ ¬ alikeE ea eb (· ∈ t) (· ∈ o) d e := fun d => by
    funext e; apply propext
    rw [un_mem hg, List.mem_filter, decide_eq_true_iff, Ne, ← covN_eq hg hok.inn, eq_comm]
  rw [lab3_al _ _ hx hy, cnR_same hRL]
  have h1 : (∀ l ∈ rests n L (o ++ t) (covN n t o), l.getD x 0 = l.getD y 0) ↔ (cnR L x y ∧ ∀ e, un (· ∈ t) (· ∈ o) e → cn ea eb (fun d => un (· ∈ t) (· ∈ o) d ∧ ¬ alikeE ea eb (· ∈ t) (· ∈ o) e d) x y) := by
    unfold rests
    constructor
    · intro h
      refine ⟨(lb_iff hok.inn.nodes hx hy).1 (h _ (by simp)), fun e he => ?_⟩
      have he' : e ∈ o ++ t := List.mem_append.2 he.symm
      have := (lb_iff (hfil e) hx hy).1 (h _ (List.mem_cons_of_mem _ (List.mem_map.2 ⟨e, he', rfl⟩)))
      rw [cnR_same (hmf e)] at this
      exact this
    · rintro ⟨h2, h3⟩ l hl
      rcases List.mem_cons.1 hl with rfl | hl
      · exact (lb_iff hok.inn.nodes hx hy).2 h2
      · obtain ⟨e, he, rfl⟩ := List.mem_map.1 hl
        rw [lb_iff (hfil e) hx hy, cnR_same (hmf e)]
        exact h3 e (List.mem_append.1 he).symm
  rw [h1, hg.forest.thrice L hg.mem, un_mem hg]
  refine and_congr_right (fun _ => ?_)
  constructor
  · intro h e he f hf
    rw [cnR_same (mem_rest2 hone he hf), hRL]
    exact h e f ((hp e).1 he) ((hp f).1 hf)
  · intro h e f he hf
    have := h e ((hp e).2 he) f ((hp f).2 hf)
    rw [cnR_same (mem_rest2 hone ((hp e).2 he) ((hp f).2 hf)), hRL] at this
    exact this

/-- The edges of a ring. -/
theorem ring_mem (hg : Gr n L t o) (hok : Ok n L) {e d : Edg} {k : Nat} (he : e ∈ L) (hk : o[k]? = some d) : e.1 ∈ ringOf n t d ↔ covB n t o e k = true := by
  have hd : d ∈ L := (hg.mem d).2 (.inr (List.mem_of_getElem? hk))
  have hgd : o.getD k (0, 0, 0) = d := by rw [List.getD_eq_getElem?_getD, hk]; rfl
  unfold ringOf covB
  rw [List.mem_cons, List.mem_map]
  by_cases ht : e ∈ t
  · rw [if_pos ht, tcov_tcv, hgd]
    constructor
    · rintro (h | ⟨f, hf, hfe⟩)
      · have := hok.one e he d hd h
        exact absurd (List.mem_of_getElem? hk) (this ▸ hg.forest.apart e ht)
      · obtain ⟨h1, h2⟩ := List.mem_filter.1 hf
        have := hok.one f ((hg.mem f).2 (.inl h1)) e he hfe
        rw [← this]; exact h2
    · intro h
      exact .inr ⟨e, List.mem_filter.2 ⟨ht, h⟩, rfl⟩
  · rw [if_neg ht, decide_eq_true_iff, hgd]
    constructor
    · rintro (h | ⟨f, hf, hfe⟩)
      · exact (hok.one e he d hd h).symm
      · obtain ⟨h1, h2⟩ := List.mem_filter.1 hf
        have := hok.one f ((hg.mem f).2 (.inl h1)) e he hfe
        exact absurd (this ▸ h1) ht
    · intro h
      exact .inl (by rw [h])

theorem cnt_more {g : Nat → Bool} {m : Nat} : ∀ k, (∀ i, m ≤ i → g i = false) → cnt g (m + k) = cnt g m
  | 0, _ => rfl
  | k + 1, h => by
    rw [← Nat.add_assoc]
    simp only [cnt]
    rw [cnt_more k h, h (m + k) (by omega)]
    rfl

theorem cnt_cong {f g : Nat → Bool} : ∀ {m}, (∀ i, i < m → f i = g i) → cnt f m = cnt g m
  | 0, _ => rfl
  | m + 1, h => by
    simp only [cnt]
    rw [cnt_cong (fun i hi => h i (by omega)), h m (by omega)]

theorem covN_lt (n : Nat) (t o : List Edg) (e : Edg) (h : o.length ≤ 63) : covN n t o e < 18446744073709551616 := by
  have h1 := bitsN_lt (covB n t o e) o.length
  have h2 : 2 ^ o.length ≤ 2 ^ 64 := Nat.pow_le_pow_right (by omega) (by omega)
  unfold covN
  have h3 : (2 : Nat) ^ 64 = 18446744073709551616 := by decide
  omega

theorem pc_covN (n : Nat) (t o : List Edg) (e : Edg) (h : o.length ≤ 63) : pc 64 (covN n t o e) = cnt (covB n t o e) o.length := by
  rw [pc_cnt, cnt_bits (covB n t o e)]
  have e1 : 64 = o.length + (64 - o.length) := by omega
  rw [e1]
  show cnt (fun i => (bitsN (covB n t o e) o.length).testBit i) _ = _
  refine cnt_more _ (fun i hi => ?_)
  refine Nat.testBit_lt_two_pow ?_
  exact Nat.lt_of_lt_of_le (bitsN_lt _ _) (Nat.pow_le_pow_right (by omega) hi)

end

set_option maxHeartbeats 1000000 in
set_option maxRecDepth 100000 in
theorem round_any (x : Int) (k cw base ρ κ : Nat) (v : Value) (P : List (Nat × Nat × List Int)) (K : List Int) (s : Bool) (w : World) (h : Rw w base v P) (hbox : w.cell? ⟨cw, 0, none⟩ = some v) (hk : P[k]? = some (ρ, κ, K)) (hKl : K.length ≤ 1000) (hPl : P.length ≤ 1000) (hs : s = true ↔ x ∈ K) :
    Calls Tryz.prog 38 #[.int .i64 x, .int .i64 (k : Int), .pointer (some ⟨cw, 0, none⟩)] w fun e w' => e = .returned (.bool s) ∧ w' = w := by
  have hkl : k < P.length := (List.getElem?_eq_some_iff.1 hk).1
  have hrow := h.rows _ (List.mem_of_getElem? hk)
  obtain ⟨g, cap, rfl⟩ := own_slice h.own (by omega)
  have c0 : w.cell? ⟨g, k, none⟩ = some (.slice (some ⟨ρ, 0, none⟩) K.length κ) := by
    rw [h.own.cellAt k (by omega)]; simp [hk]
  have HC : Hid (∀ j y, K[j]? = some y → w.cell? ⟨ρ, j, none⟩ = some (.int .i64 y)) := fun j y hj => by
    have hlt := (List.getElem?_eq_some_iff.1 hj).1
    rw [hrow.cellAt j (by simpa using hlt)]; simp [rowZ, hj]
  have HS : Hid (s = true ↔ x ∈ K) := hs
  obtain ⟨m, hm⟩ : ∃ m, P.length = m := ⟨_, rfl⟩
  obtain ⟨kl, hl⟩ : ∃ kl, K.length = kl := ⟨_, rfl⟩
  have HL : Hid (K.length = kl) := hl
  rw [hm] at hbox hkl hPl
  rw [hl] at c0 hKl
  clear h hk hrow hs hm hl
  go_enter Tryz.func38, Tryz.ntmps38
  go_wp2_with fail
  go_loopw [6] (fun s6 wq => ∃ j : Nat, j ≤ kl ∧ s6 = .int .i64 j ∧ (∀ i y, i < j → K[i]? = some y → y ≠ x) ∧ wq = w) (fun s6 _ => kl - (intOf s6).toNat)
  case atStart => exact ⟨0, Nat.zero_le _, rfl, fun i y hi => by omega, rfl⟩
  case round =>
    obtain ⟨j, hj, rfl, hall, rfl⟩ := hrel
    have HA : Hid (∀ i y, i < j → K[i]? = some y → y ≠ x) := hall
    clear hall
    by_cases hlt : j < kl
    · obtain ⟨y, hy⟩ : ∃ y, K[j]? = some y := ⟨_, List.getElem?_eq_getElem (by rw [HL.out]; exact hlt)⟩
      have HY : Hid (K[j]? = some y) := hy
      have cy := HC.out j y hy
      clear hy
      by_cases hxy : y = x
      · as_aux_lemma =>
        subst hxy
        have HF : Hid (s = true) := HS.out.2 (List.mem_of_getElem? HY.out)
        go_wp2_with fail
        go_ret
        exact ⟨by rw [HF.out]; rfl, rfl⟩
      · as_aux_lemma =>
        have hq : (y == x) = false := beq_eq_false_iff_ne.2 hxy
        have HN : Hid (y ≠ x) := hxy
        clear hxy
        go_wp2_with fail
        go_roundw
        case rel =>
          refine ⟨j + 1, by omega, by go_num, fun i z hi hz => ?_, trivial⟩
          by_cases e : i = j
          · rw [e, HY.out] at hz
            injection hz with hz
            rw [← hz]; exact HN.out
          · exact HA.out i z (by omega) hz
        case measure => simp [intOf]; omega
    · as_aux_lemma =>
      have HF : Hid (s = false) := by
        show s = false
        cases s with
        | false => rfl
        | true =>
          obtain ⟨i, hi⟩ := List.getElem?_of_mem (HS.out.1 rfl)
          have := (List.getElem?_eq_some_iff.1 hi).1
          exact absurd rfl (HA.out i x (by have := HL.out; omega) hi)
      go_wp2_with fail
      go_ret
      exact ⟨by rw [HF.out]; rfl, rfl⟩

end Go.Proofs.YtigodbamphejmaaGreatDoor.S
