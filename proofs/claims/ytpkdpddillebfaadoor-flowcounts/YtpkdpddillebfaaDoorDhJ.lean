/- Nodes that part, and ways that have no node in common: the plain mathematics for the document's rooms and for the program's net. -/
import Derived.Test.YtpkdpddillebfaaDoorFpM
import Derived.Test.YtpkdpddillebfaaDoorBM
import Derived.Test.YtpkdpddillebfaaDoorDg
namespace Go.Proofs.YtpkdpddillebfaaDoor.S
open Go Go.ChangeMaps Go.MapKept Go.WideShapes
open Go.RowKit Go.WideMaps Go.Maps F

/-- Together, by the edges that have no end among T. -/
def cnv (L : List Stp) (T : List Nat) : Nat → Nat → Prop := cn ea eb (fun e => e ∈ L ∧ ea e ∉ T ∧ eb e ∉ T)

theorem cnv_alone {L : List Stp} {T : List Nat} {x y : Nat} (h : cnv L T x y) (hx : x ∈ T) : x = y := by
  have := Conn.least (P := fun (u v : Nat) => u = v ∨ (u ∉ T ∧ v ∉ T)) h (fun x => .inl rfl) ?_ ?_ ?_
  · rcases this with h | ⟨h, _⟩
    · exact h
    · exact absurd hx h
  · rintro x y (h | ⟨h, k⟩)
    · exact .inl h.symm
    · exact .inr ⟨k, h⟩
  · rintro x y z (rfl | ⟨h, k⟩) h2
    · exact h2
    · rcases h2 with rfl | ⟨h3, h4⟩
      · exact .inr ⟨h, k⟩
      · exact .inr ⟨h, h4⟩
  · rintro x y ⟨e, ⟨_, h1, h2⟩, rfl, rfl⟩
    exact .inr ⟨h1, h2⟩

theorem ed_ends {n i : Nat} {L : List Stp} (h : Ed n i L) {e : Stp} (he : e ∈ L) : e.2.1 = (ea e : Int) ∧ e.2.2 = (eb e : Int) ∧ ea e < n ∧ eb e < n ∧ ea e < eb e := by
  obtain ⟨x, y, hxy, hy, hq⟩ := h.ends e he
  have h1 : e.2.1 = (x : Int) := by rw [hq]
  have h2 : e.2.2 = (y : Int) := by rw [hq]
  have h3 : ea e = x := by unfold ea; rw [h1]; simp
  have h4 : eb e = y := by unfold eb; rw [h2]; simp
  rw [h3, h4]
  exact ⟨h1, h2, by omega, by omega, hxy⟩

theorem setOf (p : Nat → Prop) : ∃ S : Int → Bool, ∀ z : Nat, S (z : Int) = true ↔ p z := by
  refine ⟨fun x => @decide (∃ z : Nat, x = (z : Int) ∧ p z) (Classical.propDecidable _), fun z => ?_⟩
  have := @decide_eq_true_iff (∃ y : Nat, (z : Int) = (y : Int) ∧ p y) (Classical.propDecidable _)
  refine this.trans ⟨fun ⟨y, h1, h2⟩ => by rw [show z = y by omega]; exact h2, fun h => ⟨z, rfl, h⟩⟩

/-- Pairs of nodes that edges join, either way. -/
structure Joins (L : List Stp) (Q : List (Int × Int)) : Prop where
  out : ∀ d ∈ Q, ∃ e ∈ L, d = ((ea e : Int), (eb e : Int)) ∨ d = ((eb e : Int), (ea e : Int))
  inn : ∀ e ∈ L, ((ea e : Int), (eb e : Int)) ∈ Q ∧ ((eb e : Int), (ea e : Int)) ∈ Q

theorem joins_two {n i : Nat} {L : List Stp} (hed : Ed n i L) : Joins L (L.flatMap two) := by
  refine ⟨fun d hd => ?_, fun e he => ?_⟩
  · obtain ⟨e, he, hd⟩ := List.mem_flatMap.1 hd
    obtain ⟨e1, e2, _⟩ := ed_ends hed he
    unfold two at hd
    rw [e1, e2] at hd
    simp only [List.mem_cons, List.not_mem_nil, or_false] at hd
    exact ⟨e, he, hd⟩
  · obtain ⟨e1, e2, _⟩ := ed_ends hed he
    constructor <;> exact List.mem_flatMap.2 ⟨e, he, by unfold two; rw [e1, e2]; simp⟩

section
variable {n i : Nat} {L : List Stp} {a b : Nat} {Q : List (Int × Int)}

/-- Nodes that part: a set of places. -/
theorem pairs_cut (hQ : Joins L Q) (T : List Nat) (ha : a ∉ T) (hb : b ∉ T) (h : ¬ cnv L T a b) :
    ∃ S : Int → Bool, S (2 * (a : Int) + 1) = true ∧ S (2 * (a : Int)) = true ∧ S (2 * (b : Int)) = false ∧ S (2 * (b : Int) + 1) = false ∧ (∀ z : Nat, nin S z = true → z ∈ T) ∧ ∀ d ∈ Q, ein S d = false := by
  obtain ⟨S, hS0, hS1⟩ : ∃ S : Int → Bool, (∀ z : Nat, S (2 * (z : Int)) = true ↔ (cnv L T a z ∨ z ∈ T)) ∧ ∀ z : Nat, S (2 * (z : Int) + 1) = true ↔ cnv L T a z := by
    obtain ⟨S1, h1⟩ := setOf (fun z => cnv L T a z ∨ z ∈ T)
    obtain ⟨S2, h2⟩ := setOf (fun z => cnv L T a z)
    refine ⟨fun x => if x % 2 = 0 then S1 (x / 2) else S2 (x / 2), fun z => ?_, fun z => ?_⟩
    · show (if (2 * (z : Int)) % 2 = 0 then _ else _) = true ↔ _
      rw [if_pos (by omega), show 2 * (z : Int) / 2 = (z : Int) by omega, h1]
    · show (if (2 * (z : Int) + 1) % 2 = 0 then _ else _) = true ↔ _
      rw [if_neg (by omega), show (2 * (z : Int) + 1) / 2 = (z : Int) by omega, h2]
  refine ⟨S, (hS1 a).2 (cn_refl a), (hS0 a).2 (.inl (cn_refl a)), ?_, ?_, fun z hz => ?_, fun d hd => ?_⟩
  · cases hq : S (2 * (b : Int)) with
    | false => rfl
    | true =>
      rcases (hS0 b).1 hq with k | k
      · exact absurd k h
      · exact absurd k hb
  · cases hq : S (2 * (b : Int) + 1) with
    | false => rfl
    | true => exact absurd ((hS1 b).1 hq) h
  · unfold nin at hz
    simp only [Bool.and_eq_true, Bool.not_eq_true'] at hz
    rcases (hS0 z).1 hz.1 with k | k
    · have := (hS1 z).2 k
      rw [hz.2] at this; cases this
    · exact k
  · cases hc : ein S d with
    | false => rfl
    | true =>
      exfalso
      have key : ∀ u v : Nat, (u ∉ T → v ∉ T → cnv L T u v) → ein S ((u : Int), (v : Int)) = true → False := fun u v huv hc => by
        unfold ein at hc
        simp only [Bool.and_eq_true, Bool.not_eq_true'] at hc
        have hu := (hS1 u).1 hc.1
        have hnu : u ∉ T := fun k => by
          have := cnv_alone (cn_symm hu) k
          exact ha (this ▸ k)
        have hv : ¬ (cnv L T a v ∨ v ∈ T) := fun k => by
          have := (hS0 v).2 k
          rw [hc.2] at this; cases this
        exact hv (.inl (cn_trans hu (huv hnu (fun k => hv (.inr k)))))
      obtain ⟨e, he, rfl | rfl⟩ := hQ.out d hd
      · exact key (ea e) (eb e) (fun h1 h2 => cn_edge ⟨he, h1, h2⟩) hc
      · exact key (eb e) (ea e) (fun h1 h2 => cn_symm (cn_edge ⟨he, h2, h1⟩)) hc

def pickN (a b : Nat) (d : Int × Int) : List Nat := if d.1 = (b : Int) then [] else if d.1 = (a : Int) then [d.2.toNat] else [d.1.toNat]

theorem pickN_len (a b : Nat) (l : List (Int × Int)) : (l.flatMap (pickN a b)).length ≤ l.length := by
  induction l with
  | nil => simp
  | cons d l ih =>
    rw [List.flatMap_cons, List.length_append]
    have : (pickN a b d).length ≤ 1 := by
      unfold pickN
      split
      · simp
      · split <;> simp
    rw [List.length_cons]
    omega

/-- A set of places: nodes that part, no more than lead out. -/
theorem cut_pairs (hed : Ed n i L) (hQ : Joins L Q) (hab : a ≠ b) (hna : ∀ e ∈ L, ¬ (ea e = a ∧ eb e = b) ∧ ¬ (ea e = b ∧ eb e = a)) (S : Int → Bool) (h1 : S (2 * (a : Int) + 1) = true) (h2 : S (2 * (b : Int)) = false) :
    ∃ T : List Nat, a ∉ T ∧ b ∉ T ∧ ¬ cnv L T a b ∧ T.length ≤ ((List.range n).filter (nin S)).length + (Q.filter (ein S)).length ∧ ∀ z ∈ T, z < n := by
  obtain ⟨T, hT⟩ : ∃ T, (List.range n).filter (nin S) ++ (Q.filter (ein S)).flatMap (pickN a b) = T := ⟨_, rfl⟩
  have ends : ∀ d ∈ Q, ∃ u v : Nat, d = ((u : Int), (v : Int)) ∧ u < n ∧ v < n ∧ u ≠ v ∧ ¬ (u = a ∧ v = b) := fun d hd => by
    obtain ⟨e, he, hd⟩ := hQ.out d hd
    obtain ⟨e1, e2, e3, e4, e5⟩ := ed_ends hed he
    have := hna e he
    rcases hd with rfl | rfl
    · exact ⟨ea e, eb e, rfl, e3, e4, by omega, by omega⟩
    · exact ⟨eb e, ea e, rfl, e4, e3, by omega, by omega⟩
  have memT : ∀ z, z ∈ T → z < n ∧ z ≠ a ∧ z ≠ b := fun z hz => by
    rw [← hT] at hz
    rcases List.mem_append.1 hz with hz | hz
    · obtain ⟨q1, q2⟩ := List.mem_filter.1 hz
      unfold nin at q2
      simp only [Bool.and_eq_true, Bool.not_eq_true'] at q2
      refine ⟨List.mem_range.1 q1, fun e => ?_, fun e => ?_⟩
      · subst e; rw [h1] at q2; cases q2.2
      · subst e; rw [h2] at q2; cases q2.1
    · obtain ⟨d, hd, hz⟩ := List.mem_flatMap.1 hz
      obtain ⟨u, v, rfl, hu, hv', huv, hno⟩ := ends d (List.mem_filter.1 hd).1
      unfold pickN at hz
      simp only at hz
      by_cases c1 : u = b
      · rw [if_pos (by omega)] at hz; simp at hz
      · rw [if_neg (by omega)] at hz
        by_cases c2 : u = a
        · rw [if_pos (by omega)] at hz
          simp at hz
          omega
        · rw [if_neg (by omega)] at hz
          simp at hz
          omega
  have inT : ∀ u v : Nat, ((u : Int), (v : Int)) ∈ Q → ein S ((u : Int), (v : Int)) = true → u ≠ b → u ∈ T ∨ (u = a ∧ v ∈ T) := fun u v hd hc hub => by
    by_cases c2 : u = a
    · right
      refine ⟨c2, ?_⟩
      rw [← hT]
      refine List.mem_append_right _ (List.mem_flatMap.2 ⟨_, List.mem_filter.2 ⟨hd, hc⟩, ?_⟩)
      unfold pickN
      simp only
      rw [if_neg (by omega), if_pos (by omega)]
      simp
    · left
      rw [← hT]
      refine List.mem_append_right _ (List.mem_flatMap.2 ⟨_, List.mem_filter.2 ⟨hd, hc⟩, ?_⟩)
      unfold pickN
      simp only
      rw [if_neg (by omega), if_neg (by omega)]
      simp
  have step : ∀ u v : Nat, ((u : Int), (v : Int)) ∈ Q → v < n → u ∉ T → v ∉ T → (S (2 * (u : Int) + 1) = true ∧ u ≠ b) → (S (2 * (v : Int) + 1) = true ∧ v ≠ b) := fun u v hd hvn huT hvT ⟨hu, hub⟩ => by
    have hS2 : S (2 * (v : Int)) = true := by
      cases hq : S (2 * (v : Int)) with
      | true => rfl
      | false =>
        exfalso
        have hc : ein S ((u : Int), (v : Int)) = true := by
          unfold ein
          simp only [Bool.and_eq_true, Bool.not_eq_true']
          exact ⟨hu, hq⟩
        rcases inT u v hd hc hub with k | ⟨_, k⟩
        · exact huT k
        · exact hvT k
    refine ⟨?_, fun e => by subst e; rw [h2] at hS2; cases hS2⟩
    cases hq : S (2 * (v : Int) + 1) with
    | true => rfl
    | false =>
      exfalso
      apply hvT
      rw [← hT]
      refine List.mem_append_left _ (List.mem_filter.2 ⟨List.mem_range.2 hvn, ?_⟩)
      unfold nin
      simp only [Bool.and_eq_true, Bool.not_eq_true']
      exact ⟨hS2, hq⟩
  refine ⟨T, fun k => (memT a k).2.1 rfl, fun k => (memT b k).2.2 rfl, fun hc => ?_, ?_, fun z hz => (memT z hz).1⟩
  · have := Conn.least (P := fun (u v : Nat) => (S (2 * (u : Int) + 1) = true ∧ u ≠ b) ↔ (S (2 * (v : Int) + 1) = true ∧ v ≠ b)) hc (fun _ => Iff.rfl) (fun _ _ k => k.symm) (fun _ _ _ k1 k2 => k1.trans k2) (by
      rintro u v ⟨e, ⟨he, hu, hv'⟩, rfl, rfl⟩
      obtain ⟨e1, e2, e3, e4, e5⟩ := ed_ends hed he
      exact ⟨step _ _ (hQ.inn e he).1 e4 hu hv', step _ _ (hQ.inn e he).2 e3 hv' hu⟩)
    exact (this.1 ⟨h1, hab⟩).2 rfl
  · have q1 := pickN_len a b (Q.filter (ein S))
    rw [← hT, List.length_append]
    omega

end

/-- The edges that join both, and the others. -/
def dirB (a b : Nat) (e : Stp) : Bool := decide ((ea e = a ∧ eb e = b) ∨ (ea e = b ∧ eb e = a))

theorem len_split (p : Stp → Bool) (f : Stp → List (Int × Int)) (q : Int × Int → Bool) : ∀ L : List Stp, ((L.flatMap f).filter q).length = (((L.filter p).flatMap f).filter q).length + (((L.filter fun e => !p e).flatMap f).filter q).length
  | [] => rfl
  | e :: L => by
    have ih := len_split p f q L
    rw [List.flatMap_cons, List.filter_append, List.length_append, ih, List.filter_cons, List.filter_cons]
    cases p e <;> simp [List.flatMap_cons, List.filter_append] <;> omega

section
variable {n : Nat} {L : List Stp} {a b : Nat}

theorem Ed.filt {n i : Nat} {L : List Stp} (h : Ed n i L) (f : Stp → Bool) : Ed n i (L.filter f) :=
  ⟨List.Pairwise.filter _ h.up, fun e he => h.ids e (List.mem_filter.1 he).1, fun e he => h.ends e (List.mem_filter.1 he).1, Nat.le_trans (List.length_filter_le _ _) h.len⟩

theorem nin_le {S : Int → Bool} {T : List Nat} (h : ∀ z : Nat, nin S z = true → z ∈ T) (n : Nat) : ((List.range n).filter (nin S)).length ≤ T.length :=
  nodup_sub _ _ (List.nodup_range.filter _) (fun z hz => h z (List.mem_filter.1 hz).2)

/-- What the edges that join both add. -/
theorem dir_count (hed : Ed n 70 L) {S : Int → Bool} (h1 : S (2 * (a : Int) + 1) = true) (h2 : S (2 * (b : Int)) = false) : (L.filter (dirB a b)).length ≤ (((L.filter (dirB a b)).flatMap two).filter (ein S)).length ∧ (S (2 * (b : Int) + 1) = false → (((L.filter (dirB a b)).flatMap two).filter (ein S)).length = (L.filter (dirB a b)).length) := by
  have key : ∀ M : List Stp, (∀ e ∈ M, e ∈ L ∧ dirB a b e = true) → M.length ≤ ((M.flatMap two).filter (ein S)).length ∧ (S (2 * (b : Int) + 1) = false → ((M.flatMap two).filter (ein S)).length = M.length) := by
    intro M
    induction M with
    | nil => intro _; exact ⟨Nat.le_refl _, fun _ => rfl⟩
    | cons e M ih =>
      intro h
      obtain ⟨i1, i2⟩ := ih (fun d hd => h d (by simp [hd]))
      obtain ⟨heL, hd⟩ := h e (by simp)
      obtain ⟨e1, e2, _⟩ := ed_ends hed heL
      have hd := of_decide_eq_true hd
      have hab : ein S ((a : Int), (b : Int)) = true := by
        unfold ein
        simp only [Bool.and_eq_true, Bool.not_eq_true']
        exact ⟨h1, h2⟩
      have hba : S (2 * (b : Int) + 1) = false → ein S ((b : Int), (a : Int)) = false := fun k => by
        unfold ein
        simp only [k, Bool.false_and]
      rw [List.flatMap_cons, List.filter_append, List.length_append, List.length_cons]
      have ht : two e = [((ea e : Int), (eb e : Int)), ((eb e : Int), (ea e : Int))] := by unfold two; rw [e1, e2]
      rw [ht]
      rcases hd with ⟨k1, k2⟩ | ⟨k1, k2⟩
      · rw [k1, k2, List.filter_cons, hab, List.filter_cons]
        cases hq : ein S ((b : Int), (a : Int)) with
        | true => exact ⟨by simp; omega, fun k => by rw [hba k] at hq; cases hq⟩
        | false => exact ⟨by simp; omega, fun k => by have := i2 k; simp; omega⟩
      · rw [k1, k2, List.filter_cons, List.filter_cons, hab]
        cases hq : ein S ((b : Int), (a : Int)) with
        | true => exact ⟨by simp; omega, fun k => by rw [hba k] at hq; cases hq⟩
        | false => exact ⟨by simp; omega, fun k => by have := i2 k; simp; omega⟩
  exact key _ (fun e he => ⟨(List.mem_filter.1 he).1, (List.mem_filter.1 he).2⟩)

theorem off_dir (L : List Stp) (a b : Nat) : ∀ e ∈ L.filter (fun e => !dirB a b e), ¬ (ea e = a ∧ eb e = b) ∧ ¬ (ea e = b ∧ eb e = a) := fun e he => by
  have := (List.mem_filter.1 he).2
  simp only [Bool.not_eq_true'] at this
  have := of_decide_eq_false this
  exact ⟨fun k => this (.inl k), fun k => this (.inr k)⟩

/-- The program's number: no more than the nodes that part, and the edges that join both. -/
theorem prog_le {most k : Int} (hed : Ed n 70 L) (hv : Val (cap (lD (noS n L)) (lr (noS n L))) (2 * (a : Int) + 1) (2 * (b : Int)) most k) (T : List Nat) (ha : a ∉ T) (hb : b ∉ T) (h : ¬ cnv (L.filter fun e => !dirB a b e) T a b) : k ≤ ((L.filter (dirB a b)).length : Int) + (T.length : Int) := by
  obtain ⟨S, h1, _, h2, h3, h4, h5⟩ := pairs_cut (joins_two (hed.filt _)) T ha hb h
  have hle := hv.all S h1 h2
  rw [cap_noS hed, len_split (dirB a b)] at hle
  have q1 := nin_le h4 n
  have q2 := (dir_count hed h1 h2).2 h3
  have q3 : (((L.filter fun e => !dirB a b e).flatMap two).filter (ein S)).length = 0 := by
    rw [List.length_eq_zero_iff, List.filter_eq_nil_iff]
    intro d hd
    rw [h5 d hd]; simp
  omega

theorem prog_ge {most k : Int} (hed : Ed n 70 L) (hab : a ≠ b) (hv : Val (cap (lD (noS n L)) (lr (noS n L))) (2 * (a : Int) + 1) (2 * (b : Int)) most k) (hk : k ≠ most) : ∃ T : List Nat, a ∉ T ∧ b ∉ T ∧ ¬ cnv (L.filter fun e => !dirB a b e) T a b ∧ ((L.filter (dirB a b)).length : Int) + (T.length : Int) ≤ k := by
  rcases hv.one with h | ⟨S, h1, h2, h3⟩
  · exact absurd h hk
  · rw [cap_noS hed, len_split (dirB a b)] at h3
    obtain ⟨T, t1, t2, t3, t4, _⟩ := cut_pairs (hed.filt _) (joins_two (hed.filt _)) hab (off_dir L a b) S h1 h2
    have q2 := (dir_count hed h1 h2).1
    exact ⟨T, t1, t2, t3, by omega⟩

end

end Go.Proofs.YtpkdpddillebfaaDoor.S
namespace Go.Proofs.YtpkdpddillebfaaDoor.S
open Go Go.ChangeMaps Go.MapKept Go.WideShapes
open Go.RowKit Go.WideMaps Go.Maps F

def ndX (n : Nat) (S : Int → Bool) (i : Nat) : Bool := S (i : Int) && !S (((n + i : Nat) : Nat) : Int)
def prX (n : Nat) (S : Int → Bool) (d : Int × Int) : Bool := S ((n : Int) + d.1) && !S d.2

/-- What the rooms tell: nodes, both ends, edges. -/
def docC (n a b : Nat) (PR : List (Int × Int)) (S : Int → Bool) : Int := (((List.range n).filter (ndX n S)).length : Int) + ((if ndX n S a then 119 else 0) + (if ndX n S b then 119 else 0)) + ((PR.filter (prX n S)).length : Int)

section
variable {n : Nat} {L : List Stp} {a b : Nat} {PR : List (Int × Int)}

theorem filter_congr' {α : Type} {l : List α} {p q : α → Bool} (h : ∀ x ∈ l, p x = q x) : (l.filter p).length = (l.filter q).length := by rw [List.filter_congr h]

theorem doc_le {most k : Int} (hed : Ed n 70 L) (hQ : Joins L PR) (han : a < n) (hbn : b < n) (hv : Val (docC n a b PR) a ((n + b : Nat) : Int) most k) (T : List Nat) (ha : a ∉ T) (hb : b ∉ T) (h : ¬ cnv L T a b) : k ≤ (T.length : Int) := by
  obtain ⟨S', h1, h1', h2, h3, h4, h5⟩ := pairs_cut hQ T ha hb h
  have e1 : ∀ i : Nat, i < n → (fun x : Int => if x < n then S' (2 * x) else S' (2 * (x - n) + 1)) (i : Int) = S' (2 * (i : Int)) := fun i hi => by
    show (if (i : Int) < n then _ else _) = _
    rw [if_pos (by omega)]
  have e2 : ∀ i : Nat, (fun x : Int => if x < n then S' (2 * x) else S' (2 * (x - n) + 1)) (((n + i : Nat) : Nat) : Int) = S' (2 * (i : Int) + 1) := fun i => by
    show (if (((n + i : Nat) : Nat) : Int) < n then _ else _) = _
    rw [if_neg (by omega), show 2 * ((((n + i : Nat) : Nat) : Int) - n) + 1 = 2 * (i : Int) + 1 by omega]
  have hle := hv.all (fun x : Int => if x < n then S' (2 * x) else S' (2 * (x - n) + 1)) ((e1 a han).trans h1') ((e2 b).trans h3)
  obtain ⟨S, hS⟩ : ∃ S, (fun x : Int => if x < n then S' (2 * x) else S' (2 * (x - n) + 1)) = S := ⟨_, rfl⟩
  rw [hS] at hle e1 e2
  have hnd : ∀ i, i < n → ndX n S i = nin S' i := fun i hi => by
    unfold ndX nin
    rw [e1 i hi, e2 i]
  have q1 : ((List.range n).filter (ndX n S)).length ≤ T.length := by
    rw [filter_congr' (fun i hi => hnd i (List.mem_range.1 hi))]
    exact nin_le h4 n
  have qa : ndX n S a = false := by
    rw [hnd a han]
    cases hq : nin S' a with
    | false => rfl
    | true => exact absurd (h4 a hq) ha
  have qb : ndX n S b = false := by
    rw [hnd b hbn]
    cases hq : nin S' b with
    | false => rfl
    | true => exact absurd (h4 b hq) hb
  have q2 : (PR.filter (prX n S)).length = 0 := by
    rw [List.length_eq_zero_iff, List.filter_eq_nil_iff]
    intro d hd
    have : prX n S d = ein S' d := by
      obtain ⟨e, he, hd'⟩ := hQ.out d hd
      obtain ⟨_, _, l1, l2, _⟩ := ed_ends hed he
      have key : ∀ u v : Nat, v < n → prX n S ((u : Int), (v : Int)) = ein S' ((u : Int), (v : Int)) := fun u v hv' => by
        unfold prX ein
        have := e2 u
        rw [show (((n + u : Nat) : Nat) : Int) = (n : Int) + (u : Int) by omega] at this
        simp only [this, e1 v hv']
      rcases hd' with rfl | rfl
      · exact key _ _ l2
      · exact key _ _ l1
    rw [this, h5 d hd]; simp
  unfold docC at hle
  rw [qa, qb, q2] at hle
  simp at hle
  omega

/-- All other nodes. -/
theorem others_part (hna : ∀ e ∈ L, ¬ (ea e = a ∧ eb e = b) ∧ ¬ (ea e = b ∧ eb e = a)) (hed : Ed n 70 L) (hab : a ≠ b) : ¬ cnv L ((List.range n).filter fun z => decide (z ≠ a ∧ z ≠ b)) a b := fun hc => by
  have := Conn.least (P := fun (u v : Nat) => u = v) hc (fun _ => rfl) (fun _ _ k => k.symm) (fun _ _ _ k1 k2 => k1.trans k2) (by
    rintro u v ⟨e, ⟨he, h1, h2⟩, rfl, rfl⟩
    exfalso
    obtain ⟨_, _, e3, e4, e5⟩ := ed_ends hed he
    have := hna e he
    rw [List.mem_filter, List.mem_range] at h1 h2
    simp at h1 h2
    omega)
  exact hab this

theorem doc_ge {most k : Int} (hed : Ed n 70 L) (hn : n ≤ 40) (hQ : Joins L PR) (han : a < n) (hbn : b < n) (hab : a ≠ b) (hna : ∀ e ∈ L, ¬ (ea e = a ∧ eb e = b) ∧ ¬ (ea e = b ∧ eb e = a)) (hv : Val (docC n a b PR) a ((n + b : Nat) : Int) most k) (hk : k ≠ most) : ∃ T : List Nat, a ∉ T ∧ b ∉ T ∧ ¬ cnv L T a b ∧ (T.length : Int) ≤ k := by
  have hsm := doc_le hed hQ han hbn hv _ (by simp) (by simp) (others_part hna hed hab)
  have hlen : ((List.range n).filter fun z => decide (z ≠ a ∧ z ≠ b)).length ≤ n := by
    have := List.length_filter_le (fun z => decide (z ≠ a ∧ z ≠ b)) (List.range n)
    simpa using this
  rcases hv.one with h | ⟨S, h1, h2, h3⟩
  · exact absurd h hk
  · have p1 : (0 : Int) ≤ (((List.range n).filter (ndX n S)).length : Int) := by omega
    have p2 : (0 : Int) ≤ ((PR.filter (prX n S)).length : Int) := by omega
    have na : ndX n S a = false := by
      cases hq : ndX n S a with
      | false => rfl
      | true =>
        exfalso
        unfold docC at h3
        rw [hq] at h3
        simp at h3
        split at h3 <;> omega
    have nb : ndX n S b = false := by
      cases hq : ndX n S b with
      | false => rfl
      | true =>
        exfalso
        unfold docC at h3
        rw [hq] at h3
        simp at h3
        split at h3 <;> omega
    obtain ⟨S', hS'⟩ : ∃ S' : Int → Bool, (∀ i : Nat, S' (2 * (i : Int)) = S (i : Int)) ∧ ∀ i : Nat, S' (2 * (i : Int) + 1) = S (((n + i : Nat) : Nat) : Int) := by
      refine ⟨fun x => if x % 2 = 0 then S (x / 2) else S ((n : Int) + x / 2), fun i => ?_, fun i => ?_⟩
      · show (if (2 * (i : Int)) % 2 = 0 then _ else _) = _
        rw [if_pos (by omega), show 2 * (i : Int) / 2 = (i : Int) by omega]
      · show (if (2 * (i : Int) + 1) % 2 = 0 then _ else _) = _
        rw [if_neg (by omega), show (n : Int) + (2 * (i : Int) + 1) / 2 = (((n + i : Nat) : Nat) : Int) by omega]
    have sa : S' (2 * (a : Int) + 1) = true := by
      rw [hS'.2 a]
      unfold ndX at na
      rw [h1] at na
      simpa using na
    have sb : S' (2 * (b : Int)) = false := by
      rw [hS'.1 b]
      unfold ndX at nb
      rw [h2] at nb
      simpa using nb
    obtain ⟨T, t1, t2, t3, t4, _⟩ := cut_pairs hed hQ hab hna S' sa sb
    refine ⟨T, t1, t2, t3, ?_⟩
    have q1 : ((List.range n).filter (nin S')).length = ((List.range n).filter (ndX n S)).length := filter_congr' (fun i _ => by
      unfold nin ndX
      rw [hS'.1 i, hS'.2 i])
    have q2 : (PR.filter (ein S')).length = (PR.filter (prX n S)).length := filter_congr' (fun d hd => by
      obtain ⟨e, he, hd'⟩ := hQ.out d hd
      have key : ∀ u v : Nat, ein S' ((u : Int), (v : Int)) = prX n S ((u : Int), (v : Int)) := fun u v => by
        unfold prX ein
        have := hS'.2 u
        rw [show (((n + u : Nat) : Nat) : Int) = (n : Int) + (u : Int) by omega] at this
        simp only [this, hS'.1 v]
      rcases hd' with rfl | rfl <;> exact key _ _)
    unfold docC at h3
    rw [na, nb] at h3
    simp at h3
    omega

/-- The document's number is the program's. -/
theorem nodes_same {most k k' : Int} (hed : Ed n 70 L) (hn : n ≤ 40) (hQ : Joins (L.filter fun e => !dirB a b e) PR) (han : a < n) (hbn : b < n) (hab : a ≠ b) (hv : Val (cap (lD (noS n L)) (lr (noS n L))) (2 * (a : Int) + 1) (2 * (b : Int)) most k) (hv' : Val (docC n a b PR) a ((n + b : Nat) : Int) most k') : k = min most (((L.filter (dirB a b)).length : Int) + k') := by
  have h1 : k ≤ ((L.filter (dirB a b)).length : Int) + k' := by
    by_cases e : k' = most
    · have := hv.le
      omega
    · obtain ⟨T, t1, t2, t3, t4⟩ := doc_ge (hed.filt _) hn hQ han hbn hab (off_dir L a b) hv' e
      have := prog_le hed hv T t1 t2 t3
      omega
  have h2 := hv.le
  by_cases e : k = most
  · omega
  · obtain ⟨T, t1, t2, t3, t4⟩ := prog_ge hed hab hv e
    have := doc_le (hed.filt _) hQ han hbn hv' T t1 t2 t3
    omega

end

end Go.Proofs.YtpkdpddillebfaaDoor.S
namespace Go.Proofs.YtpkdpddillebfaaDoor.S
open Go Go.ChangeMaps Go.MapKept Go.WideShapes
open Go.RowKit Go.WideMaps Go.Maps F

def setM (M : Nat → Nat → Int) (x y : Nat) (v : Int) : Nat → Nat → Int := fun i k => if i = x ∧ k = y then v else M i k

theorem set_add {M : Nat → Nat → Int} {x y : Nat} {v v0 : Int} (h : M x y = v0) : setM M x y v = addM M x y (v - v0) := by
  funext i k
  unfold setM addM
  by_cases e : i = x ∧ k = y
  · rw [if_pos e, if_pos e, e.1, e.2, h]; omega
  · rw [if_neg e, if_neg e]

/-- The rooms as they are laid. -/
structure RN (M : Nat → Nat → Int) (n a b j : Nat) (tw : Bool) (PR : List (Int × Int)) : Prop where
  cap : ∀ S : Int → Bool, capM M (2 * n) S = (((List.range j).filter (ndX n S)).length : Int) + (if tw then ((if ndX n S a then 119 else 0) + (if ndX n S b then 119 else 0)) else 0) + ((PR.filter (prX n S)).length : Int)
  diag : tw = false → ∀ i, i < n → M i (n + i) = if i < j then 1 else 0
  ent : ∀ u v : Nat, u < n → v < n → M (n + u) v = if ((u : Int), (v : Int)) ∈ PR then 1 else 0
  bd : ∀ i k, 0 ≤ M i k ∧ M i k ≤ 1000

section
variable {M : Nat → Nat → Int} {n a b j : Nat} {tw : Bool} {PR : List (Int × Int)}

theorem RN.start (n a b : Nat) : RN (fun _ _ => 0) n a b 0 false [] :=
  ⟨fun S => by simp [capM, sum_none], fun _ i _ => by simp, fun u v _ _ => by simp, fun _ _ => ⟨by omega, by omega⟩⟩

theorem RN.node (h : RN M n a b j false PR) (hj : j < n) : RN (setM M j (n + j) 1) n a b (j + 1) false PR := by
  have h0 : M j (n + j) = 0 := by have := h.diag rfl j hj; rwa [if_neg (by omega)] at this
  refine ⟨fun S => ?_, fun _ i hi => ?_, fun u v hu hv => ?_, fun i k => ?_⟩
  · rw [set_add h0, cap_add (by omega) (by omega), h.cap S, List.range_succ, List.filter_append, List.length_append, List.filter_cons]
    have hx : ndX n S j = (S (j : Int) && !S (((n + j : Nat) : Nat) : Int)) := rfl
    rw [hx]
    cases (S (j : Int) && !S (((n + j : Nat) : Nat) : Int)) <;> simp <;> omega
  · unfold setM
    by_cases e : i = j
    · subst e; rw [if_pos ⟨rfl, rfl⟩, if_pos (by omega)]
    · rw [if_neg (fun k => e k.1), h.diag rfl i hi]
      by_cases c : i < j
      · rw [if_pos c, if_pos (by omega)]
      · rw [if_neg c, if_neg (by omega)]
  · unfold setM
    rw [if_neg (fun k => by omega)]
    exact h.ent u v hu hv
  · have := h.bd i k
    unfold setM
    split <;> omega

theorem RN.both (h : RN M n a b n false PR) (ha : a < n) (hb : b < n) (hab : a ≠ b) : RN (setM (setM M a (n + a) 120) b (n + b) 120) n a b n true PR := by
  have ha0 : M a (n + a) = 1 := by have := h.diag rfl a ha; rwa [if_pos ha] at this
  have hb0 : setM M a (n + a) 120 b (n + b) = 1 := by
    unfold setM
    rw [if_neg (fun k => hab k.1.symm)]
    have := h.diag rfl b hb; rwa [if_pos hb] at this
  refine ⟨fun S => ?_, fun k => (by cases k), fun u v hu hv => ?_, fun i k => ?_⟩
  · rw [set_add hb0, cap_add (by omega) (by omega), set_add ha0, cap_add (by omega) (by omega), h.cap S]
    have hx : ndX n S a = (S (a : Int) && !S (((n + a : Nat) : Nat) : Int)) := rfl
    have hy : ndX n S b = (S (b : Int) && !S (((n + b : Nat) : Nat) : Int)) := rfl
    rw [hx, hy]
    cases (S (a : Int) && !S (((n + a : Nat) : Nat) : Int)) <;> cases (S (b : Int) && !S (((n + b : Nat) : Nat) : Int)) <;> simp <;> omega
  · unfold setM
    rw [if_neg (fun k => by omega), if_neg (fun k => by omega)]
    exact h.ent u v hu hv
  · have := h.bd i k
    unfold setM
    split
    · omega
    · split <;> omega

theorem RN.pair (h : RN M n a b j true PR) {u v : Nat} (hu : u < n) (hv : v < n) : ∃ PR', RN (setM M (n + u) v 1) n a b j true PR' ∧ ∀ d, d ∈ PR' ↔ d ∈ PR ∨ d = ((u : Int), (v : Int)) := by
  by_cases c : ((u : Int), (v : Int)) ∈ PR
  · have h1 : M (n + u) v = 1 := by rw [h.ent u v hu hv, if_pos c]
    have hs : setM M (n + u) v 1 = M := by
      funext i k
      unfold setM
      by_cases e : i = n + u ∧ k = v
      · rw [if_pos e, e.1, e.2, h1]
      · rw [if_neg e]
    rw [hs]
    exact ⟨PR, h, fun d => ⟨.inl, fun k => k.elim id (fun k => k ▸ c)⟩⟩
  · have h0 : M (n + u) v = 0 := by rw [h.ent u v hu hv, if_neg c]
    refine ⟨PR ++ [((u : Int), (v : Int))], ⟨fun S => ?_, fun k => (by cases k), fun u' v' hu' hv' => ?_, fun i k => ?_⟩, fun d => by simp⟩
    · rw [set_add h0, cap_add (by omega) (by omega), h.cap S, List.filter_append, List.length_append, List.filter_cons]
      have hx : prX n S ((u : Int), (v : Int)) = (S (((n + u : Nat) : Nat) : Int) && !S (v : Int)) := by
        unfold prX
        rw [show (((n + u : Nat) : Nat) : Int) = (n : Int) + (u : Int) by omega]
      rw [hx]
      cases (S (((n + u : Nat) : Nat) : Int) && !S (v : Int)) <;> simp <;> omega
    · unfold setM
      by_cases e : u' = u ∧ v' = v
      · obtain ⟨rfl, rfl⟩ := e
        rw [if_pos ⟨rfl, rfl⟩, if_pos (by simp)]
      · rw [if_neg (fun k => e ⟨by omega, k.2⟩), h.ent u' v' hu' hv']
        have : ((u' : Int), (v' : Int)) ∈ PR ++ [((u : Int), (v : Int))] ↔ ((u' : Int), (v' : Int)) ∈ PR := by
          rw [List.mem_append, List.mem_singleton]
          refine ⟨fun k => k.elim id (fun k => ?_), .inl⟩
          injection k with k1 k2
          exact absurd ⟨by omega, by omega⟩ e
        by_cases q : ((u' : Int), (v' : Int)) ∈ PR
        · rw [if_pos q, if_pos (this.2 q)]
        · rw [if_neg q, if_neg (fun k => q (this.1 k))]
    · have := h.bd i k
      unfold setM
      split <;> omega

end

/-- The pairs that some edges join, those between both left out. -/
def PrOf (a b : Nat) (R : List Stp) (j : Nat) (PR : List (Int × Int)) : Prop := ∀ d, d ∈ PR ↔ ∃ e ∈ R.take j, dirB a b e = false ∧ (d = ((ea e : Int), (eb e : Int)) ∨ d = ((eb e : Int), (ea e : Int)))

theorem PrOf.skip {a b j : Nat} {R : List Stp} {PR : List (Int × Int)} (h : PrOf a b R j PR) {e : Stp} (he : R[j]? = some e) (hd : dirB a b e = true) : PrOf a b R (j + 1) PR := fun d => by
  rw [h d, take_snoc he]
  constructor
  · rintro ⟨f, hf, k⟩; exact ⟨f, List.mem_append_left _ hf, k⟩
  · rintro ⟨f, hf, k1, k2⟩
    rcases List.mem_append.1 hf with hf | hf
    · exact ⟨f, hf, k1, k2⟩
    · rw [List.mem_singleton.1 hf, hd] at k1; cases k1

theorem PrOf.more {a b j : Nat} {R : List Stp} {PR P1 P2 : List (Int × Int)} (h : PrOf a b R j PR) {e : Stp} (he : R[j]? = some e) (hd : dirB a b e = false) (h1 : ∀ d, d ∈ P1 ↔ d ∈ PR ∨ d = ((ea e : Int), (eb e : Int))) (h2 : ∀ d, d ∈ P2 ↔ d ∈ P1 ∨ d = ((eb e : Int), (ea e : Int))) : PrOf a b R (j + 1) P2 := fun d => by
  rw [h2 d, h1 d, h d, take_snoc he]
  constructor
  · rintro ((⟨f, hf, k⟩ | k) | k)
    · exact ⟨f, List.mem_append_left _ hf, k⟩
    · exact ⟨e, by simp, hd, .inl k⟩
    · exact ⟨e, by simp, hd, .inr k⟩
  · rintro ⟨f, hf, k1, k2⟩
    rcases List.mem_append.1 hf with hf | hf
    · exact .inl (.inl ⟨f, hf, k1, k2⟩)
    · rw [List.mem_singleton.1 hf] at k2
      rcases k2 with k2 | k2
      · exact .inl (.inr k2)
      · exact .inr k2

/-- What ByNodes hands back. -/
def ByNPost (w : World) (n a b most : Nat) (R : List Stp) (e : Ending) (w' : World) : Prop :=
  ∃ (k : Nat) (PR : List (Int × Int)), e = .returned (.tuple #[.int .i64 (min (most : Int) (((R.filter (dirB a b)).length : Int) + (k : Int))), .int .i64 0]) ∧ PrOf a b R R.length PR ∧ Val (docC n a b PR) a ((n + b : Nat) : Int) most k ∧ Below w.heap.size w w'

end Go.Proofs.YtpkdpddillebfaaDoor.S
