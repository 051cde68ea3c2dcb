/- Nodes that part, and ways that have no node in common: the plain mathematics for the document's rooms and for the program's net. -/
import Derived.Test.YtpkdpddillebfaaDoorFpM
import Derived.Test.YtpkdpddillebfaaDoorBM
namespace Go.Proofs.YtpkdpddillebfaaDoor.S
open Go Go.ChangeMaps Go.MapKept Go.WideShapes
open Go.RowKit Go.WideMaps Go.Maps F

/-- Together, by the edges that have no end among T. -/
def cnv (L : List Stp) (T : List Nat) : Nat → Nat → Prop := cn ea eb (fun e => e ∈ L ∧ ea e ∉ T ∧ eb e ∉ T)

theorem cnv_alone {L : List Stp} {T : List Nat} {x y : Nat} (h : cnv L T x y) (hx : x ∈ T) : x = y := by
  have := Conn.least (P := fun (u v : Nat) => u = v ∨ (u ∉ T ∧ v ∉ T)) h (fun x => .inl rfl) ?_ ?_ ?_
  · rcases this with h | ⟨h, _⟩
    · exact h
    · exact absurd hx h
  · rintro x y (h | ⟨h, k⟩)
    · exact .inl h.symm
    · exact .inr ⟨k, h⟩
  · rintro x y z (rfl | ⟨h, k⟩) h2
    · exact h2
    · rcases h2 with rfl | ⟨h3, h4⟩
      · exact .inr ⟨h, k⟩
      · exact .inr ⟨h, h4⟩
  · rintro x y ⟨e, ⟨_, h1, h2⟩, rfl, rfl⟩
    exact .inr ⟨h1, h2⟩

theorem ed_ends {n i : Nat} {L : List Stp} (h : Ed n i L) {e : Stp} (he : e ∈ L) : e.2.1 = (ea e : Int) ∧ e.2.2 = (eb e : Int) ∧ ea e < n ∧ eb e < n ∧ ea e < eb e := by
  obtain ⟨x, y, hxy, hy, hq⟩ := h.ends e he
  have h1 : e.2.1 = (x : Int) := by rw [hq]
  have h2 : e.2.2 = (y : Int) := by rw [hq]
  have h3 : ea e = x := by unfold ea; rw [h1]; simp
  have h4 : eb e = y := by unfold eb; rw [h2]; simp
  rw [h3, h4]
  exact ⟨h1, h2, by omega, by omega, hxy⟩

theorem setOf (p : Nat → Prop) : ∃ S : Int → Bool, ∀ z : Nat, S (z : Int) = true ↔ p z := by
  refine ⟨fun x => @decide (∃ z : Nat, x = (z : Int) ∧ p z) (Classical.propDecidable _), fun z => ?_⟩
  have := @decide_eq_true_iff (∃ y : Nat, (z : Int) = (y : Int) ∧ p y) (Classical.propDecidable _)
  refine this.trans ⟨fun ⟨y, h1, h2⟩ => by rw [show z = y by omega]; exact h2, fun h => ⟨z, rfl, h⟩⟩

/-- Pairs of nodes that edges join, either way. -/
structure Joins (L : List Stp) (Q : List (Int × Int)) : Prop where
  out : ∀ d ∈ Q, ∃ e ∈ L, d = ((ea e : Int), (eb e : Int)) ∨ d = ((eb e : Int), (ea e : Int))
  inn : ∀ e ∈ L, ((ea e : Int), (eb e : Int)) ∈ Q ∧ ((eb e : Int), (ea e : Int)) ∈ Q

theorem joins_two {n i : Nat} {L : List Stp} (hed : Ed n i L) : Joins L (L.flatMap two) := by
  refine ⟨fun d hd => ?_, fun e he => ?_⟩
  · obtain ⟨e, he, hd⟩ := List.mem_flatMap.1 hd
    obtain ⟨e1, e2, _⟩ := ed_ends hed he
    unfold two at hd
    rw [e1, e2] at hd
    simp only [List.mem_cons, List.not_mem_nil, or_false] at hd
    exact ⟨e, he, hd⟩
  · obtain ⟨e1, e2, _⟩ := ed_ends hed he
    constructor <;> exact List.mem_flatMap.2 ⟨e, he, by unfold two; rw [e1, e2]; simp⟩

section
variable {n i : Nat} {L : List Stp} {a b : Nat} {Q : List (Int × Int)}

/-- Nodes that part: a set of places. -/
theorem pairs_cut (hQ : Joins L Q) (T : List Nat) (ha : a ∉ T) (hb : b ∉ T) (h : ¬ cnv L T a b) :
    ∃ S : Int → Bool, S (2 * (a : Int) + 1) = true ∧ S (2 * (a : Int)) = true ∧ S (2 * (b : Int)) = false ∧ S (2 * (b : Int) + 1) = false ∧ (∀ z : Nat, nin S z = true → z ∈ T) ∧ ∀ d ∈ Q, ein S d = false := by
  obtain ⟨S, hS0, hS1⟩ : ∃ S : Int → Bool, (∀ z : Nat, S (2 * (z : Int)) = true ↔ (cnv L T a z ∨ z ∈ T)) ∧ ∀ z : Nat, S (2 * (z : Int) + 1) = true ↔ cnv L T a z := by
    obtain ⟨S1, h1⟩ := setOf (fun z => cnv L T a z ∨ z ∈ T)
    obtain ⟨S2, h2⟩ := setOf (fun z => cnv L T a z)
    refine ⟨fun x => if x % 2 = 0 then S1 (x / 2) else S2 (x / 2), fun z => ?_, fun z => ?_⟩
    · show (if (2 * (z : Int)) % 2 = 0 then _ else _) = true ↔ _
      rw [if_pos (by omega), show 2 * (z : Int) / 2 = (z : Int) by omega, h1]
    · show (if (2 * (z : Int) + 1) % 2 = 0 then _ else _) = true ↔ _
      rw [if_neg (by omega), show (2 * (z : Int) + 1) / 2 = (z : Int) by omega, h2]
  refine ⟨S, (hS1 a).2 (cn_refl a), (hS0 a).2 (.inl (cn_refl a)), ?_, ?_, fun z hz => ?_, fun d hd => ?_⟩
  · cases hq : S (2 * (b : Int)) with
    | false => rfl
    | true =>
      rcases (hS0 b).1 hq with k | k
      · exact absurd k h
      · exact absurd k hb
  · cases hq : S (2 * (b : Int) + 1) with
    | false => rfl
    | true => exact absurd ((hS1 b).1 hq) h
  · unfold nin at hz
    simp only [Bool.and_eq_true, Bool.not_eq_true'] at hz
    rcases (hS0 z).1 hz.1 with k | k
    · have := (hS1 z).2 k
      rw [hz.2] at this; cases this
    · exact k
  · cases hc : ein S d with
    | false => rfl
    | true =>
      exfalso
      have key : ∀ u v : Nat, (u ∉ T → v ∉ T → cnv L T u v) → ein S ((u : Int), (v : Int)) = true → False := fun u v huv hc => by
        unfold ein at hc
        simp only [Bool.and_eq_true, Bool.not_eq_true'] at hc
        have hu := (hS1 u).1 hc.1
        have hnu : u ∉ T := fun k => by
          have := cnv_alone (cn_symm hu) k
          exact ha (this ▸ k)
        have hv : ¬ (cnv L T a v ∨ v ∈ T) := fun k => by
          have := (hS0 v).2 k
          rw [hc.2] at this; cases this
        exact hv (.inl (cn_trans hu (huv hnu (fun k => hv (.inr k)))))
      obtain ⟨e, he, rfl | rfl⟩ := hQ.out d hd
      · exact key (ea e) (eb e) (fun h1 h2 => cn_edge ⟨he, h1, h2⟩) hc
      · exact key (eb e) (ea e) (fun h1 h2 => cn_symm (cn_edge ⟨he, h2, h1⟩)) hc

def pickN (a b : Nat) (d : Int × Int) : List Nat := if d.1 = (b : Int) then [] else if d.1 = (a : Int) then [d.2.toNat] else [d.1.toNat]

theorem pickN_len (a b : Nat) (l : List (Int × Int)) : (l.flatMap (pickN a b)).length ≤ l.length := by
  induction l with
  | nil => simp
  | cons d l ih =>
    rw [List.flatMap_cons, List.length_append]
    have : (pickN a b d).length ≤ 1 := by
      unfold pickN
      split
      · simp
      · split <;> simp
    rw [List.length_cons]
    omega

/-- A set of places: nodes that part, no more than lead out. -/
theorem cut_pairs (hed : Ed n i L) (hQ : Joins L Q) (hab : a ≠ b) (hna : ∀ e ∈ L, ¬ (ea e = a ∧ eb e = b) ∧ ¬ (ea e = b ∧ eb e = a)) (S : Int → Bool) (h1 : S (2 * (a : Int) + 1) = true) (h2 : S (2 * (b : Int)) = false) :
    ∃ T : List Nat, a ∉ T ∧ b ∉ T ∧ ¬ cnv L T a b ∧ T.length ≤ ((List.range n).filter (nin S)).length + (Q.filter (ein S)).length ∧ ∀ z ∈ T, z < n := by
  obtain ⟨T, hT⟩ : ∃ T, (List.range n).filter (nin S) ++ (Q.filter (ein S)).flatMap (pickN a b) = T := ⟨_, rfl⟩
  have ends : ∀ d ∈ Q, ∃ u v : Nat, d = ((u : Int), (v : Int)) ∧ u < n ∧ v < n ∧ u ≠ v ∧ ¬ (u = a ∧ v = b) := fun d hd => by
    obtain ⟨e, he, hd⟩ := hQ.out d hd
    obtain ⟨e1, e2, e3, e4, e5⟩ := ed_ends hed he
    have := hna e he
    rcases hd with rfl | rfl
    · exact ⟨ea e, eb e, rfl, e3, e4, by omega, by omega⟩
    · exact ⟨eb e, ea e, rfl, e4, e3, by omega, by omega⟩
  have memT : ∀ z, z ∈ T → z < n ∧ z ≠ a ∧ z ≠ b := fun z hz => by
    rw [← hT] at hz
    rcases List.mem_append.1 hz with hz | hz
    · obtain ⟨q1, q2⟩ := List.mem_filter.1 hz
      unfold nin at q2
      simp only [Bool.and_eq_true, Bool.not_eq_true'] at q2
      refine ⟨List.mem_range.1 q1, fun e => ?_, fun e => ?_⟩
      · subst e; rw [h1] at q2; cases q2.2
      · subst e; rw [h2] at q2; cases q2.1
    · obtain ⟨d, hd, hz⟩ := List.mem_flatMap.1 hz
      obtain ⟨u, v, rfl, hu, hv', huv, hno⟩ := ends d (List.mem_filter.1 hd).1
      unfold pickN at hz
      simp only at hz
      by_cases c1 : u = b
      · rw [if_pos (by omega)] at hz; simp at hz
      · rw [if_neg (by omega)] at hz
        by_cases c2 : u = a
        · rw [if_pos (by omega)] at hz
          simp at hz
          omega
        · rw [if_neg (by omega)] at hz
          simp at hz
          omega
  have inT : ∀ u v : Nat, ((u : Int), (v : Int)) ∈ Q → ein S ((u : Int), (v : Int)) = true → u ≠ b → u ∈ T ∨ (u = a ∧ v ∈ T) := fun u v hd hc hub => by
    by_cases c2 : u = a
    · right
      refine ⟨c2, ?_⟩
      rw [← hT]
      refine List.mem_append_right _ (List.mem_flatMap.2 ⟨_, List.mem_filter.2 ⟨hd, hc⟩, ?_⟩)
      unfold pickN
      simp only
      rw [if_neg (by omega), if_pos (by omega)]
      simp
    · left
      rw [← hT]
      refine List.mem_append_right _ (List.mem_flatMap.2 ⟨_, List.mem_filter.2 ⟨hd, hc⟩, ?_⟩)
      unfold pickN
      simp only
      rw [if_neg (by omega), if_neg (by omega)]
      simp
  have step : ∀ u v : Nat, ((u : Int), (v : Int)) ∈ Q → v < n → u ∉ T → v ∉ T → (S (2 * (u : Int) + 1) = true ∧ u ≠ b) → (S (2 * (v : Int) + 1) = true ∧ v ≠ b) := fun u v hd hvn huT hvT ⟨hu, hub⟩ => by
    have hS2 : S (2 * (v : Int)) = true := by
      cases hq : S (2 * (v : Int)) with
      | true => rfl
      | false =>
        exfalso
        have hc : ein S ((u : Int), (v : Int)) = true := by
          unfold ein
          simp only [Bool.and_eq_true, Bool.not_eq_true']
          exact ⟨hu, hq⟩
        rcases inT u v hd hc hub with k | ⟨_, k⟩
        · exact huT k
        · exact hvT k
    refine ⟨?_, fun e => by subst e; rw [h2] at hS2; cases hS2⟩
    cases hq : S (2 * (v : Int) + 1) with
    | true => rfl
    | false =>
      exfalso
      apply hvT
      rw [← hT]
      refine List.mem_append_left _ (List.mem_filter.2 ⟨List.mem_range.2 hvn, ?_⟩)
      unfold nin
      simp only [Bool.and_eq_true, Bool.not_eq_true']
      exact ⟨hS2, hq⟩
  refine ⟨T, fun k => (memT a k).2.1 rfl, fun k => (memT b k).2.2 rfl, fun hc => ?_, ?_, fun z hz => (memT z hz).1⟩
  · have := Conn.least (P := fun (u v : Nat) => (S (2 * (u : Int) + 1) = true ∧ u ≠ b) ↔ (S (2 * (v : Int) + 1) = true ∧ v ≠ b)) hc (fun _ => Iff.rfl) (fun _ _ k => k.symm) (fun _ _ _ k1 k2 => k1.trans k2) (by
      rintro u v ⟨e, ⟨he, hu, hv'⟩, rfl, rfl⟩
      obtain ⟨e1, e2, e3, e4, e5⟩ := ed_ends hed he
      exact ⟨step _ _ (hQ.inn e he).1 e4 hu hv', step _ _ (hQ.inn e he).2 e3 hv' hu⟩)
    exact (this.1 ⟨h1, hab⟩).2 rfl
  · have q1 := pickN_len a b (Q.filter (ein S))
    rw [← hT, List.length_append]
    omega

end

/-- The edges that join both, and the others. -/
def dirB (a b : Nat) (e : Stp) : Bool := decide ((ea e = a ∧ eb e = b) ∨ (ea e = b ∧ eb e = a))

theorem len_split (p : Stp → Bool) (f : Stp → List (Int × Int)) (q : Int × Int → Bool) : ∀ L : List Stp, ((L.flatMap f).filter q).length = (((L.filter p).flatMap f).filter q).length + (((L.filter fun e => !p e).flatMap f).filter q).length
  | [] => rfl
  | e :: L => by
    have ih := len_split p f q L
    rw [List.flatMap_cons, List.filter_append, List.length_append, ih, List.filter_cons, List.filter_cons]
    cases p e <;> simp [List.flatMap_cons, List.filter_append] <;> omega

section
variable {n : Nat} {L : List Stp} {a b : Nat}

theorem Ed.filt {n i : Nat} {L : List Stp} (h : Ed n i L) (f : Stp → Bool) : Ed n i (L.filter f) :=
  ⟨List.Pairwise.filter _ h.up, fun e he => h.ids e (List.mem_filter.1 he).1, fun e he => h.ends e (List.mem_filter.1 he).1, Nat.le_trans (List.length_filter_le _ _) h.len⟩

theorem nin_le {S : Int → Bool} {T : List Nat} (h : ∀ z : Nat, nin S z = true → z ∈ T) (n : Nat) : ((List.range n).filter (nin S)).length ≤ T.length :=
  nodup_sub _ _ (List.nodup_range.filter _) (fun z hz => h z (List.mem_filter.1 hz).2)

/-- What the edges that join both add. -/
theorem dir_count (hed : Ed n 70 L) {S : Int → Bool} (h1 : S (2 * (a : Int) + 1) = true) (h2 : S (2 * (b : Int)) = false) : (L.filter (dirB a b)).length ≤ (((L.filter (dirB a b)).flatMap two).filter (ein S)).length ∧ (S (2 * (b : Int) + 1) = false → (((L.filter (dirB a b)).flatMap two).filter (ein S)).length = (L.filter (dirB a b)).length) := by
  have key : ∀ M : List Stp, (∀ e ∈ M, e ∈ L ∧ dirB a b e = true) → M.length ≤ ((M.flatMap two).filter (ein S)).length ∧ (S (2 * (b : Int) + 1) = false → ((M.flatMap two).filter (ein S)).length = M.length) := by
    intro M
    induction M with
    | nil => intro _; exact ⟨Nat.le_refl _, fun _ => rfl⟩
    | cons e M ih =>
      intro h
      obtain ⟨i1, i2⟩ := ih (fun d hd => h d (by simp [hd]))
      obtain ⟨heL, hd⟩ := h e (by simp)
      obtain ⟨e1, e2, _⟩ := ed_ends hed heL
      have hd := of_decide_eq_true hd
      have hab : ein S ((a : Int), (b : Int)) = true := by
        unfold ein
        simp only [Bool.and_eq_true, Bool.not_eq_true']
        exact ⟨h1, h2⟩
      have hba : S (2 * (b : Int) + 1) = false → ein S ((b : Int), (a : Int)) = false := fun k => by
        unfold ein
        simp only [k, Bool.false_and]
      rw [List.flatMap_cons, List.filter_append, List.length_append, List.length_cons]
      have ht : two e = [((ea e : Int), (eb e : Int)), ((eb e : Int), (ea e : Int))] := by unfold two; rw [e1, e2]
      rw [ht]
      rcases hd with ⟨k1, k2⟩ | ⟨k1, k2⟩
      · rw [k1, k2, List.filter_cons, hab, List.filter_cons]
        cases hq : ein S ((b : Int), (a : Int)) with
        | true => exact ⟨by simp; omega, fun k => by rw [hba k] at hq; cases hq⟩
        | false => exact ⟨by simp; omega, fun k => by have := i2 k; simp; omega⟩
      · rw [k1, k2, List.filter_cons, List.filter_cons, hab]
        cases hq : ein S ((b : Int), (a : Int)) with
        | true => exact ⟨by simp; omega, fun k => by rw [hba k] at hq; cases hq⟩
        | false => exact ⟨by simp; omega, fun k => by have := i2 k; simp; omega⟩
  exact key _ (fun e he => ⟨(List.mem_filter.1 he).1, (List.mem_filter.1 he).2⟩)

theorem off_dir (L : List Stp) (a b : Nat) : ∀ e ∈ L.filter (fun e => !dirB a b e), ¬ (ea e = a ∧ eb e = b) ∧ ¬ (ea e = b ∧ eb e = a) := fun e he => by
  have := (List.mem_filter.1 he).2
  simp only [Bool.not_eq_true'] at this
  have := of_decide_eq_false this
  exact ⟨fun k => this (.inl k), fun k => this (.inr k)⟩

/-- The program's number: no more than the nodes that part, and the edges that join both. -/
theorem prog_le {most k : Int} (hed : Ed n 70 L) (hv : Val (cap (lD (noS n L)) (lr (noS n L))) (2 * (a : Int) + 1) (2 * (b : Int)) most k) (T : List Nat) (ha : a ∉ T) (hb : b ∉ T) (h : ¬ cnv (L.filter fun e => !dirB a b e) T a b) : k ≤ ((L.filter (dirB a b)).length : Int) + (T.length : Int) := by
  obtain ⟨S, h1, _, h2, h3, h4, h5⟩ := pairs_cut (joins_two (hed.filt _)) T ha hb h
  have hle := hv.all S h1 h2
  rw [cap_noS hed, len_split (dirB a b)] at hle
  have q1 := nin_le h4 n
  have q2 := (dir_count hed h1 h2).2 h3
  have q3 : (((L.filter fun e => !dirB a b e).flatMap two).filter (ein S)).length = 0 := by
    rw [List.length_eq_zero_iff, List.filter_eq_nil_iff]
    intro d hd
    rw [h5 d hd]; simp
  omega

theorem prog_ge {most k : Int} (hed : Ed n 70 L) (hab : a ≠ b) (hv : Val (cap (lD (noS n L)) (lr (noS n L))) (2 * (a : Int) + 1) (2 * (b : Int)) most k) (hk : k ≠ most) : ∃ T : List Nat, a ∉ T ∧ b ∉ T ∧ ¬ cnv (L.filter fun e => !dirB a b e) T a b ∧ ((L.filter (dirB a b)).length : Int) + (T.length : Int) ≤ k := by
  rcases hv.one with h | ⟨S, h1, h2, h3⟩
  · exact absurd h hk
  · rw [cap_noS hed, len_split (dirB a b)] at h3
    obtain ⟨T, t1, t2, t3, t4, _⟩ := cut_pairs (hed.filt _) (joins_two (hed.filt _)) hab (off_dir L a b) S h1 h2
    have q2 := (dir_count hed h1 h2).1
    exact ⟨T, t1, t2, t3, by omega⟩

end

end Go.Proofs.YtpkdpddillebfaaDoor.S
