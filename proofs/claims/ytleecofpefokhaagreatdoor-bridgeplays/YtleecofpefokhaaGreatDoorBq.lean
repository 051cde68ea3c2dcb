/- Labels that are told along edges until nothing changes; the bridges' numbers, rising. -/
import Derived.Test.YtleecofpefokhaaGreatDoorBp
namespace Go.Proofs.YtleecofpefokhaaGreatDoor.S

/-- Each label is one that its node is together with. -/
def Lab (n : Nat) (R : List (Int × Int × Int)) (l : List Nat) : Prop := l.length = n ∧ ∀ x, x < n → l.getD x 0 ≤ x ∧ cnR R x (l.getD x 0)

theorem lab_start (n : Nat) (R : List (Int × Int × Int)) : Lab n R (List.range n) := ⟨by simp, fun x hx => by simp [hx, cn_refl]⟩

/-- A label is told. -/
def told (l : List Nat) (u v : Nat) : List Nat := (l.set u (min (l.getD u 0) (l.getD v 0))).set v (min (l.getD u 0) (l.getD v 0))

theorem told_length (l : List Nat) (u v : Nat) : (told l u v).length = l.length := by simp [told]

theorem told_at {l : List Nat} {u v x : Nat} (hx : x < l.length) : (told l u v).getD x 0 = if x = u ∨ x = v then min (l.getD u 0) (l.getD v 0) else l.getD x 0 := by
  unfold told
  by_cases h1 : v = x
  · subst h1; simp [hx]
  · by_cases h2 : u = x
    · subst h2; simp [hx, h1]
    · have : ¬ (x = u ∨ x = v) := by omega
      simp [hx, h1, h2, this]

theorem lab_step {n : Nat} {R : List (Int × Int × Int)} {l : List Nat} (h : Lab n R l) {e : Int × Int × Int} (he : e ∈ R) (ha : ea e < n) (hb : eb e < n) : Lab n R (told l (ea e) (eb e)) := by
  refine ⟨by rw [told_length]; exact h.1, fun x hx => ?_⟩
  rw [told_at (by rw [h.1]; exact hx)]
  have hA := h.2 _ ha
  have hB := h.2 _ hb
  have hc : cnR R (ea e) (eb e) := cn_edge he
  have key : ∀ {x}, x = ea e ∨ x = eb e → cnR R x (min (l.getD (ea e) 0) (l.getD (eb e) 0)) := by
    rintro x (rfl | rfl)
    · rcases Nat.le_total (l.getD (ea e) 0) (l.getD (eb e) 0) with k | k
      · rw [Nat.min_eq_left k]; exact hA.2
      · rw [Nat.min_eq_right k]; exact cn_trans hc hB.2
    · rcases Nat.le_total (l.getD (ea e) 0) (l.getD (eb e) 0) with k | k
      · rw [Nat.min_eq_left k]; exact cn_trans (cn_symm hc) hA.2
      · rw [Nat.min_eq_right k]; exact hB.2
  split
  · next hk =>
    refine ⟨?_, key hk⟩
    rcases hk with rfl | rfl
    · have := hA.1; omega
    · have := hB.1; omega
  · exact h.2 x hx

theorem sum_set : ∀ (l : List Nat) (u k : Nat), u < l.length → (l.set u k).sum + l.getD u 0 = l.sum + k
  | [], u, k, h => by simp at h
  | x :: l, 0, k, _ => by simp; omega
  | x :: l, u + 1, k, h => by
    have := sum_set l u k (by simpa using h)
    simp at this ⊢
    omega

theorem told_sum {l : List Nat} {u v : Nat} (hu : u < l.length) (hv : v < l.length) (hne : l.getD u 0 ≠ l.getD v 0) : (told l u v).sum < l.sum := by
  unfold told
  have huv : u ≠ v := fun k => hne (by rw [k])
  have h1 := sum_set l u (min (l.getD u 0) (l.getD v 0)) hu
  have h2 := sum_set (l.set u (min (l.getD u 0) (l.getD v 0))) v (min (l.getD u 0) (l.getD v 0)) (by simpa using hv)
  have h3 : (l.set u (min (l.getD u 0) (l.getD v 0))).getD v 0 = l.getD v 0 := by simp [huv]
  rw [h3] at h2
  omega

theorem lab_done {n : Nat} {R : List (Int × Int × Int)} {l : List Nat} (h : Lab n R l) (hin : ∀ e ∈ R, ea e < n ∧ eb e < n) (hd : ∀ e ∈ R, l.getD (ea e) 0 = l.getD (eb e) 0) {u v : Nat} (hu : u < n) (hv : v < n) : l.getD u 0 = l.getD v 0 ↔ cnR R u v := by
  constructor
  · intro k
    have h1 := (h.2 u hu).2
    have h2 := (h.2 v hv).2
    rw [k] at h1
    exact cn_trans h1 (cn_symm h2)
  · intro k
    have : Lk n l u v := Conn.least (P := Lk n l) k (fun _ => Lk.refl _) (fun _ _ h => h.symm) (fun _ _ _ h k => h.trans k) (by
      rintro _ _ ⟨e, he, rfl, rfl⟩
      exact .inr ⟨(hin e he).1, (hin e he).2, hd e he⟩)
    exact (Lk.iff hu hv).1 this

/-- All edges but one, by its number. -/
def rest (R : List (Int × Int × Int)) (e : Int × Int × Int) : List (Int × Int × Int) := R.filter fun d => decide (d.1 ≠ e.1)

theorem mem_rest {R : List (Int × Int × Int)} (h1 : ∀ e ∈ R, ∀ d ∈ R, e.1 = d.1 → e = d) {e : Int × Int × Int} (he : e ∈ R) : (· ∈ rest R e) = but (· ∈ R) e := by
  funext d; apply propext
  simp only [rest, List.mem_filter, decide_eq_true_eq, but]
  constructor
  · rintro ⟨h, k⟩; exact ⟨h, fun c => k (by rw [c])⟩
  · rintro ⟨h, k⟩; exact ⟨h, fun c => k (h1 d h e he c)⟩

theorem St.bridge {n : Nat} {R : List (Int × Int × Int)} {W T : List Nat} {B : List (Int × Int × Int)} (s : St n R W T B) {e : Int × Int × Int} (he : e ∈ R) : e ∈ B ↔ ¬ cnR (rest R e) (ea e) (eb e) := by
  rw [s.hB]
  simp only [cnR]
  rw [mem_rest s.one he]
  exact ⟨fun h => h.2, fun h => ⟨he, h⟩⟩

theorem St.twos {n : Nat} {R : List (Int × Int × Int)} {W T : List Nat} {B : List (Int × Int × Int)} (s : St n R W T B) {u v : Nat} (hu : u < n) (hv : v < n) : T.getD u 0 = T.getD v 0 ↔ cnR R u v ∧ ∀ e ∈ R, cnR (rest R e) u v := by
  rw [← s.tw hu hv]
  constructor
  · rintro ⟨h, k⟩
    refine ⟨h, fun e he => ?_⟩
    simp only [cnR]; rw [mem_rest s.one he]; exact k e he
  · rintro ⟨h, k⟩
    refine ⟨h, fun e he => ?_⟩
    have := k e he
    simp only [cnR] at this; rwa [mem_rest s.one he] at this

/-- The bridges' numbers as the document has them. -/
def idsOf (R B : List (Int × Int × Int)) : List Int := (R.filter fun e => decide (e ∈ B)).map (·.1)

theorem rising_eq : ∀ {A B : List Int}, A.Pairwise (· < ·) → B.Pairwise (· < ·) → (∀ x, x ∈ A ↔ x ∈ B) → A = B
  | [], [], _, _, _ => rfl
  | [], b :: B, _, _, h => by have := (h b).2 List.mem_cons_self; simp at this
  | a :: A, [], _, _, h => by have := (h a).1 List.mem_cons_self; simp at this
  | a :: A, b :: B, ha, hb, h => by
    rw [List.pairwise_cons] at ha hb
    have hab : a = b := by
      have h1 := (h a).1 List.mem_cons_self
      have h2 := (h b).2 List.mem_cons_self
      rcases List.mem_cons.1 h1 with h1 | h1
      · exact h1
      · rcases List.mem_cons.1 h2 with h2 | h2
        · exact h2.symm
        · have := hb.1 a h1; have := ha.1 b h2; omega
    subst hab
    refine congrArg _ (rising_eq ha.2 hb.2 fun x => ?_)
    constructor
    · intro hx
      rcases List.mem_cons.1 ((h x).1 (List.mem_cons_of_mem _ hx)) with k | k
      · have := ha.1 x hx; omega
      · exact k
    · intro hx
      rcases List.mem_cons.1 ((h x).2 (List.mem_cons_of_mem _ hx)) with k | k
      · have := hb.1 x hx; omega
      · exact k

theorem ids_rise {R B : List (Int × Int × Int)} (h : R.Pairwise fun x y => x.1 < y.1) : (idsOf R B).Pairwise (· < ·) := by
  unfold idsOf
  rw [List.pairwise_map]
  exact List.Pairwise.filter _ h

theorem mem_ids {R B : List (Int × Int × Int)} (hBR : ∀ e ∈ B, e ∈ R) (x : Int) : x ∈ idsOf R B ↔ ∃ e ∈ B, e.1 = x := by
  simp only [idsOf, List.mem_map, List.mem_filter, decide_eq_true_eq]
  exact ⟨fun ⟨e, h, k⟩ => ⟨e, h.2, k⟩, fun ⟨e, h, k⟩ => ⟨e, ⟨hBR e h, h⟩, k⟩⟩

end Go.Proofs.YtleecofpefokhaaGreatDoor.S
