/- As many ways as hold: the plain mathematics. -/
import Derived.Test.YtpkdpddillebfabFr
import Derived.Test.YtpkdpddillebfabXa
namespace Go.Proofs.Ytpkdpddillebfab.S
open Go Go.ChangeMaps Go.MapKept Go.WideShapes
open Go.RowKit Go.WideMaps Go.Maps F

/-- Together, without some edges. -/
abbrev cnE (L : List Stp) (T : Stp → Bool) : Nat → Nat → Prop := cn ea eb (fun e => e ∈ L ∧ T e = false)

theorem filter_mono {α : Type} {l : List α} {p q : α → Bool} (h : ∀ x ∈ l, p x = true → q x = true) : (l.filter p).length ≤ (l.filter q).length := by
  induction l with
  | nil => simp
  | cons x l ih =>
    have h1 := ih (fun y hy => h y (by simp [hy]))
    have h2 := h x (by simp)
    rw [List.filter_cons, List.filter_cons]
    cases hp : p x with
    | false => cases hq : q x <;> simp <;> omega
    | true => rw [h2 hp]; simp; omega

theorem ed_ends {n i : Nat} {L : List Stp} (h : Ed n i L) {e : Stp} (he : e ∈ L) : e.2.1 = (ea e : Int) ∧ e.2.2 = (eb e : Int) ∧ ea e < n ∧ eb e < n ∧ ea e < eb e := by
  obtain ⟨x, y, hxy, hy, hq⟩ := h.ends e he
  have h1 : e.2.1 = (x : Int) := by rw [hq]
  have h2 : e.2.2 = (y : Int) := by rw [hq]
  have h3 : ea e = x := by unfold ea; rw [h1]; simp
  have h4 : eb e = y := by unfold eb; rw [h2]; simp
  rw [h3, h4]
  exact ⟨h1, h2, by omega, by omega, hxy⟩

section
variable {n i : Nat} {L : List Stp} {a b : Nat}

/-- A set of places, out of nodes. -/
theorem setOf (p : Nat → Prop) : ∃ S : Int → Bool, ∀ z : Nat, S (z : Int) = true ↔ p z := by
  refine ⟨fun x => @decide (∃ z : Nat, x = (z : Int) ∧ p z) (Classical.propDecidable _), fun z => ?_⟩
  have := @decide_eq_true_iff (∃ y : Nat, (z : Int) = (y : Int) ∧ p y) (Classical.propDecidable _)
  refine this.trans ⟨fun ⟨y, h1, h2⟩ => by rw [show z = y by omega]; exact h2, fun h => ⟨z, rfl, h⟩⟩

theorem crs_at (hed : Ed n i L) (S : Int → Bool) {e : Stp} (he : e ∈ L) : crs S e = (S (ea e : Int) != S (eb e : Int)) := by
  unfold crs
  rw [(ed_ends hed he).1, (ed_ends hed he).2.1]

/-- Edges that part: a set with no more that lead out. -/
theorem cut_edges (hed : Ed n i L) (T : Stp → Bool) (h : ¬ cnE L T a b) : ∃ S : Int → Bool, S (a : Int) = true ∧ S (b : Int) = false ∧ (L.filter (crs S)).length ≤ (L.filter T).length := by
  obtain ⟨S, hS⟩ := setOf (fun z => cnE L T a z)
  refine ⟨S, (hS a).2 (cn_refl a), ?_, filter_mono (fun e he hc => ?_)⟩
  · cases hb : S (b : Int) with
    | false => rfl
    | true => exact absurd ((hS b).1 hb) h
  · cases hT : T e with
    | true => rfl
    | false =>
      exfalso
      have hedge : cnE L T (ea e) (eb e) := cn_edge ⟨he, hT⟩
      rw [crs_at hed _ he] at hc
      have : S (ea e : Int) = S (eb e : Int) := by
        rw [Bool.eq_iff_iff, hS, hS]
        exact ⟨fun k => cn_trans k hedge, fun k => cn_trans k (cn_symm hedge)⟩
      rw [this] at hc
      simp at hc

/-- What leads out of a set parts. -/
theorem edges_cut (hed : Ed n i L) (S : Int → Bool) (h1 : S (a : Int) = true) (h2 : S (b : Int) = false) : ¬ cnE L (crs S) a b := by
  intro h
  have := Conn.least (P := fun (u v : Nat) => S (u : Int) = S (v : Int)) h (fun _ => rfl) (fun _ _ k => k.symm) (fun _ _ _ k1 k2 => k1.trans k2) (by
    rintro u v ⟨e, ⟨he, hc⟩, rfl, rfl⟩
    rw [crs_at hed S he] at hc
    simpa using hc)
  rw [h1, h2] at this
  cases this

theorem val_le_edges {most k : Int} (hed : Ed n 50 L) (hv : Val (cap (lD (edS L)) (lr (edS L))) a b most k) (T : Stp → Bool) (h : ¬ cnE L T a b) : k ≤ ((L.filter T).length : Int) := by
  obtain ⟨S, h1, h2, h3⟩ := cut_edges hed T h
  have := hv.all S h1 h2
  rw [cap_edS hed] at this
  omega

theorem val_eq_edges {most k : Int} (hed : Ed n 50 L) (hv : Val (cap (lD (edS L)) (lr (edS L))) a b most k) (hk : k ≠ most) : ∃ T : Stp → Bool, ¬ cnE L T a b ∧ ((L.filter T).length : Int) = k := by
  rcases hv.one with h | ⟨S, h1, h2, h3⟩
  · exact absurd h hk
  · rw [cap_edS hed] at h3
    exact ⟨crs S, edges_cut hed S h1 h2, h3⟩

theorem val_symm {most k : Int} (hed : Ed n 50 L) {x y : Int} (hv : Val (cap (lD (edS L)) (lr (edS L))) x y most k) : Val (cap (lD (edS L)) (lr (edS L))) y x most k := by
  have hc : ∀ S : Int → Bool, cap (lD (edS L)) (lr (edS L)) (fun z => !S z) = cap (lD (edS L)) (lr (edS L)) S := fun S => by
    rw [cap_edS hed, cap_edS hed]
    have : crs (fun z => !S z) = crs S := by
      funext e
      show ((!S e.2.1) != (!S e.2.2)) = (S e.2.1 != S e.2.2)
      cases S e.2.1 <;> cases S e.2.2 <;> rfl
    rw [this]
  refine ⟨hv.pos, hv.le, fun S h1 h2 => ?_, ?_⟩
  · rw [← hc S]
    exact hv.all _ (by rw [h2]; rfl) (by rw [h1]; rfl)
  · rcases hv.one with h | ⟨S, h1, h2, h3⟩
    · exact .inl h
    · exact .inr ⟨fun z => !S z, by show (!S y) = true; rw [h2]; rfl, by show (!S x) = false; rw [h1]; rfl, by rw [hc S]; exact h3⟩

/-- Nodes that part: a set of places with no more that lead out. -/
theorem val_le_nodes {most k : Int} (hed : Ed n 50 L) (hv : Val (cap (lD (noS n L)) (lr (noS n L))) (2 * (a : Int) + 1) (2 * (b : Int)) most k) (T : List Nat) (ha : a ∉ T) (hb : b ∉ T) (h : ¬ cnw L T a b) : k ≤ (T.length : Int) := by
  obtain ⟨S, hS0, hS1⟩ : ∃ S : Int → Bool, (∀ z : Nat, S (2 * (z : Int)) = true ↔ (cnw L T a z ∨ z ∈ T)) ∧ ∀ z : Nat, S (2 * (z : Int) + 1) = true ↔ cnw L T a z := by
    obtain ⟨S1, h1⟩ := setOf (fun z => cnw L T a z ∨ z ∈ T)
    obtain ⟨S2, h2⟩ := setOf (fun z => cnw L T a z)
    refine ⟨fun x => if x % 2 = 0 then S1 (x / 2) else S2 (x / 2), fun z => ?_, fun z => ?_⟩
    · show (if (2 * (z : Int)) % 2 = 0 then _ else _) = true ↔ _
      rw [if_pos (by omega), show 2 * (z : Int) / 2 = (z : Int) by omega, h1]
    · show (if (2 * (z : Int) + 1) % 2 = 0 then _ else _) = true ↔ _
      rw [if_neg (by omega), show (2 * (z : Int) + 1) / 2 = (z : Int) by omega, h2]
  have hSb : S (2 * (b : Int)) = false := by
    cases hq : S (2 * (b : Int)) with
    | false => rfl
    | true =>
      rcases (hS0 b).1 hq with k | k
      · exact absurd k h
      · exact absurd k hb
  have hle := hv.all S ((hS1 a).2 (cn_refl a)) hSb
  rw [cap_noS hed] at hle
  have h1 : ((List.range n).filter (nin S)).length ≤ T.length := by
    refine nodup_sub _ _ (List.nodup_range.filter _) (fun z hz => ?_)
    have hz := (List.mem_filter.1 hz).2
    unfold nin at hz
    simp only [Bool.and_eq_true, Bool.not_eq_true'] at hz
    rcases (hS0 z).1 hz.1 with k | k
    · have := (hS1 z).2 k
      rw [hz.2] at this; cases this
    · exact k
  have h2 : ((L.flatMap two).filter (ein S)).length = 0 := by
    rw [List.length_eq_zero_iff, List.filter_eq_nil_iff]
    intro d hd hc
    obtain ⟨e, he, hd⟩ := List.mem_flatMap.1 hd
    obtain ⟨e1, e2, _, _, _⟩ := ed_ends hed he
    have key : ∀ u v : Nat, cnw L [] u v ∨ True → (∀ hu : u ∉ T, v ∉ T → cnw L T u v) → ein S ((u : Int), (v : Int)) = true → False := fun u v _ huv hc => by
      unfold ein at hc
      simp only [Bool.and_eq_true, Bool.not_eq_true'] at hc
      have hu := (hS1 u).1 hc.1
      have hnu : u ∉ T := fun k => by
        have := cnw_alone (cnw_symm hu) k
        exact ha (this ▸ k)
      have hv : ¬ (cnw L T a v ∨ v ∈ T) := fun k => by
        have := (hS0 v).2 k
        rw [hc.2] at this; cases this
      exact hv (.inl (cn_trans hu (huv hnu (fun k => hv (.inr k)))))
    unfold two at hd
    rw [e1, e2] at hd
    simp only [List.mem_cons, List.not_mem_nil, or_false] at hd
    rcases hd with rfl | rfl
    · exact key (ea e) (eb e) (.inr trivial) (fun h1 h2 => cn_edge ⟨he, h1, h2⟩) hc
    · exact key (eb e) (ea e) (.inr trivial) (fun h1 h2 => cn_symm (cn_edge ⟨he, h2, h1⟩)) hc
  omega

/-- Which node is taken away for an edge that leads out. -/
def pickN (a b : Nat) (d : Int × Int) : List Nat := if d.1 = (b : Int) then [] else if d.1 = (a : Int) then [d.2.toNat] else [d.1.toNat]

theorem pickN_len (a b : Nat) (l : List (Int × Int)) : (l.flatMap (pickN a b)).length ≤ l.length := by
  induction l with
  | nil => simp
  | cons d l ih =>
    rw [List.flatMap_cons, List.length_append]
    have : (pickN a b d).length ≤ 1 := by
      unfold pickN
      split
      · simp
      · split <;> simp
    rw [List.length_cons]
    omega

/-- What leads out of a set of places: so many nodes part, where no edge joins both. -/
theorem val_eq_nodes {most k : Int} (hed : Ed n 50 L) (hbn : b < n) (hab : a ≠ b) (hna : ∀ e ∈ L, ¬ (ea e = a ∧ eb e = b) ∧ ¬ (ea e = b ∧ eb e = a)) (hv : Val (cap (lD (noS n L)) (lr (noS n L))) (2 * (a : Int) + 1) (2 * (b : Int)) most k) (hk : k ≠ most) : ∃ T : List Nat, a ∉ T ∧ b ∉ T ∧ ¬ cnw L T a b ∧ (T.length : Int) ≤ k ∧ ∀ z ∈ T, z < n := by
  rcases hv.one with h | ⟨S, h1, h2, h3⟩
  · exact absurd h hk
  · rw [cap_noS hed] at h3
    obtain ⟨T, hT⟩ : ∃ T, (List.range n).filter (nin S) ++ ((L.flatMap two).filter (ein S)).flatMap (pickN a b) = T := ⟨_, rfl⟩
    -- the two ends of an edge, either way
    have ends : ∀ d ∈ L.flatMap two, ∃ u v : Nat, d = ((u : Int), (v : Int)) ∧ u < n ∧ v < n ∧ u ≠ v ∧ ¬ (u = a ∧ v = b) := fun d hd => by
      obtain ⟨e, he, hd⟩ := List.mem_flatMap.1 hd
      obtain ⟨e1, e2, e3, e4, e5⟩ := ed_ends hed he
      have := hna e he
      unfold two at hd
      rw [e1, e2] at hd
      simp only [List.mem_cons, List.not_mem_nil, or_false] at hd
      rcases hd with rfl | rfl
      · exact ⟨ea e, eb e, rfl, e3, e4, by omega, by omega⟩
      · exact ⟨eb e, ea e, rfl, e4, e3, by omega, by omega⟩
    have memT : ∀ z, z ∈ T → z < n ∧ z ≠ a ∧ z ≠ b := fun z hz => by
      rw [← hT] at hz
      rcases List.mem_append.1 hz with hz | hz
      · obtain ⟨q1, q2⟩ := List.mem_filter.1 hz
        unfold nin at q2
        simp only [Bool.and_eq_true, Bool.not_eq_true'] at q2
        refine ⟨List.mem_range.1 q1, fun e => ?_, fun e => ?_⟩
        · subst e; rw [h1] at q2; cases q2.2
        · subst e; rw [h2] at q2; cases q2.1
      · obtain ⟨d, hd, hz⟩ := List.mem_flatMap.1 hz
        obtain ⟨u, v, rfl, hu, hv', huv, hno⟩ := ends d (List.mem_filter.1 hd).1
        unfold pickN at hz
        simp only at hz
        by_cases c1 : u = b
        · rw [if_pos (by omega)] at hz; simp at hz
        · rw [if_neg (by omega)] at hz
          by_cases c2 : u = a
          · rw [if_pos (by omega)] at hz
            simp at hz
            omega
          · rw [if_neg (by omega)] at hz
            simp at hz
            omega
    have inT : ∀ u v : Nat, ((u : Int), (v : Int)) ∈ L.flatMap two → ein S ((u : Int), (v : Int)) = true → u ≠ b → u ∈ T ∨ (u = a ∧ v ∈ T) := fun u v hd hc hub => by
      by_cases c2 : u = a
      · right
        refine ⟨c2, ?_⟩
        rw [← hT]
        refine List.mem_append_right _ (List.mem_flatMap.2 ⟨_, List.mem_filter.2 ⟨hd, hc⟩, ?_⟩)
        unfold pickN
        simp only
        rw [if_neg (by omega), if_pos (by omega)]
        simp
      · left
        rw [← hT]
        refine List.mem_append_right _ (List.mem_flatMap.2 ⟨_, List.mem_filter.2 ⟨hd, hc⟩, ?_⟩)
        unfold pickN
        simp only
        rw [if_neg (by omega), if_neg (by omega)]
        simp
    have step : ∀ u v : Nat, ((u : Int), (v : Int)) ∈ L.flatMap two → v < n → u ∉ T → v ∉ T → (S (2 * (u : Int) + 1) = true ∧ u ≠ b) → (S (2 * (v : Int) + 1) = true ∧ v ≠ b) := fun u v hd hvn huT hvT ⟨hu, hub⟩ => by
      have hS2 : S (2 * (v : Int)) = true := by
        cases hq : S (2 * (v : Int)) with
        | true => rfl
        | false =>
          exfalso
          have hc : ein S ((u : Int), (v : Int)) = true := by
            unfold ein
            simp only [Bool.and_eq_true, Bool.not_eq_true']
            exact ⟨hu, hq⟩
          rcases inT u v hd hc hub with k | ⟨_, k⟩
          · exact huT k
          · exact hvT k
      refine ⟨?_, fun e => by subst e; rw [h2] at hS2; cases hS2⟩
      cases hq : S (2 * (v : Int) + 1) with
      | true => rfl
      | false =>
        exfalso
        apply hvT
        rw [← hT]
        refine List.mem_append_left _ (List.mem_filter.2 ⟨List.mem_range.2 hvn, ?_⟩)
        unfold nin
        simp only [Bool.and_eq_true, Bool.not_eq_true']
        exact ⟨hS2, hq⟩
    refine ⟨T, fun k => (memT a k).2.1 rfl, fun k => (memT b k).2.2 rfl, fun hc => ?_, ?_, fun z hz => (memT z hz).1⟩
    · have := Conn.least (P := fun (u v : Nat) => (S (2 * (u : Int) + 1) = true ∧ u ≠ b) ↔ (S (2 * (v : Int) + 1) = true ∧ v ≠ b)) hc (fun _ => Iff.rfl) (fun _ _ k => k.symm) (fun _ _ _ k1 k2 => k1.trans k2) (by
        rintro u v ⟨e, ⟨he, hu, hv'⟩, rfl, rfl⟩
        obtain ⟨e1, e2, e3, e4, e5⟩ := ed_ends hed he
        have m1 : ((ea e : Int), (eb e : Int)) ∈ L.flatMap two := List.mem_flatMap.2 ⟨e, he, by unfold two; rw [e1, e2]; simp⟩
        have m2 : ((eb e : Int), (ea e : Int)) ∈ L.flatMap two := List.mem_flatMap.2 ⟨e, he, by unfold two; rw [e1, e2]; simp⟩
        exact ⟨step _ _ m1 e4 hu hv', step _ _ m2 e3 hv' hu⟩)
      exact (this.1 ⟨h1, hab⟩).2 rfl
    · have q1 := pickN_len a b ((L.flatMap two).filter (ein S))
      rw [← hT, List.length_append]
      omega

/-- No more ways without a node in common than without an edge in common. -/
theorem val_nodes_edges {most k k' : Int} (hed : Ed n 50 L) (hv : Val (cap (lD (edS L)) (lr (edS L))) a b most k) (hv' : Val (cap (lD (noS n L)) (lr (noS n L))) (2 * (a : Int) + 1) (2 * (b : Int)) most k') : k' ≤ k := by
  rcases hv.one with h | ⟨S, h1, h2, h3⟩
  · rw [h]; exact hv'.le
  · have e0 : ∀ z : Int, (2 * z) / 2 = z := fun z => by omega
    have e1 : ∀ z : Int, (2 * z + 1) / 2 = z := fun z => by omega
    have hle := hv'.all (fun x => S (x / 2)) (by show S ((2 * (a : Int) + 1) / 2) = true; rw [e1]; exact h1) (by show S (2 * (b : Int) / 2) = false; rw [e0]; exact h2)
    rw [cap_noS hed] at hle
    rw [cap_edS hed] at h3
    have hn : ((List.range n).filter (nin fun x => S (x / 2))).length = 0 := by
      rw [List.length_eq_zero_iff, List.filter_eq_nil_iff]
      intro z _ hz
      have hz : (S (2 * (z : Int) / 2) && !S ((2 * (z : Int) + 1) / 2)) = true := hz
      rw [e0, e1] at hz
      cases hq : S (z : Int) <;> rw [hq] at hz <;> cases hz
    have he : ∀ M : List Stp, ((M.flatMap two).filter (ein fun x => S (x / 2))).length = (M.filter (crs S)).length := fun M => by
      induction M with
      | nil => rfl
      | cons e M ih =>
        rw [List.flatMap_cons, List.filter_append, List.length_append, ih, List.filter_cons]
        have q1 : ein (fun x => S (x / 2)) (e.2.1, e.2.2) = (S e.2.1 && !S e.2.2) := by
          show (S ((2 * e.2.1 + 1) / 2) && !S (2 * e.2.2 / 2)) = _
          rw [e0, e1]
        have q2 : ein (fun x => S (x / 2)) (e.2.2, e.2.1) = (S e.2.2 && !S e.2.1) := by
          show (S ((2 * e.2.2 + 1) / 2) && !S (2 * e.2.1 / 2)) = _
          rw [e0, e1]
        have q3 : crs S e = (S e.2.1 != S e.2.2) := rfl
        show (([(e.2.1, e.2.2), (e.2.2, e.2.1)] : List (Int × Int)).filter (ein fun x => S (x / 2))).length + _ = _
        rw [List.filter_cons, List.filter_cons, q1, q2, q3]
        cases S e.2.1 <;> cases S e.2.2 <;> simp <;> omega
    rw [hn, he L, h3] at hle
    omega

end

end Go.Proofs.Ytpkdpddillebfab.S
