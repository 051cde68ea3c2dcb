/- How often two blocks meet: the map of pairs. -/
import Derived.Test.YtigodbamphejmaaPk
namespace Go.Proofs.Ytigodbamphejmaa.S
open Go.RowKit Go.WideMaps Go.Maps

/-- The map has of each pair that was met the number one, and no other. -/
structure Bo (V : Nat → Nat → Prop) (D : DataW Unit) (ks : List Nat) : Prop where
  small : ∀ p q, V p q → p < 1000 ∧ q < 1000
  key : ∀ kl, Maps.has D kl = true ↔ ∃ p q, kl = pk2 p q ∧ V p q
  val : ∀ p q, V p q → ∀ zd, D.atKey (pk2 p q) zd = .lit (.int .i64 1)
  tidy : Tidy D
  size : Maps.size D = ks.length
  nd : ks.Nodup
  mem : ∀ c, c ∈ ks ↔ ∃ p q, c = p * 1000 + q ∧ V p q

section
variable {V V' : Nat → Nat → Prop} {D : DataW Unit} {ks : List Nat}

theorem Bo.start : Bo (fun _ _ => False) (.map []) [] := ⟨fun _ _ h => h.elim, fun kl => by simp [Maps.has], fun _ _ h => h.elim, tidy_empty, rfl, List.nodup_nil, fun c => by simp⟩

theorem Bo.congr (h : Bo V D ks) (e : ∀ p q, V p q ↔ V' p q) : Bo V' D ks :=
  ⟨fun p q k => h.small p q ((e p q).2 k), fun kl => by rw [h.key]; simp only [e], fun p q k => h.val p q ((e p q).2 k), h.tidy, h.size, h.nd, fun c => by rw [h.mem]; simp only [e]⟩

theorem Bo.len (h : Bo V D ks) : Maps.size D ≤ 1000000 := by
  rw [h.size]
  refine nodup_len 1000000 ks h.nd (fun c hc => ?_)
  obtain ⟨p, q, rfl, hv⟩ := (h.mem c).1 hc
  have := h.small p q hv
  omega

theorem Bo.not_has (h : Bo V D ks) {p q : Nat} (hp : p < 1000) (hq : q < 1000) (hn : ¬ V p q) : Maps.has D (pk2 p q) = false := by
  rw [Bool.eq_false_iff]
  intro c
  obtain ⟨p', q', e, hv⟩ := (h.key _).1 c
  have hs := h.small p' q' hv
  obtain ⟨rfl, rfl⟩ := pk2_inj (by omega) (by omega) (by omega) (by omega) e
  exact hn hv

theorem pk2_lit (p q : Nat) : WideAt.IsKeyLit (pk2 p q) := trivial

theorem Bo.put (h : Bo V D ks) {p q : Nat} (hp : p < 1000) (hq : q < 1000) (hn : ¬ V p q) : Bo (fun a b => V a b ∨ (a = p ∧ b = q)) (D.put (pk2 p q) (.lit (.int .i64 1))) (ks ++ [p * 1000 + q]) := by
  have hnh := h.not_has hp hq hn
  refine ⟨?_, fun kl => ?_, ?_, h.tidy.put (pk2_lit p q) _, ?_, ?_, fun c => ?_⟩
  · rintro a b (k | ⟨rfl, rfl⟩)
    · exact h.small a b k
    · exact ⟨hp, hq⟩
  · by_cases e : kl = pk2 p q
    · rw [e, has_put_same h.tidy.isMap (pk2_lit p q)]
      exact ⟨fun _ => ⟨p, q, rfl, .inr ⟨rfl, rfl⟩⟩, fun _ => rfl⟩
    · rw [has_put_other e, h.key]
      constructor
      · rintro ⟨a, b, k1, k2⟩; exact ⟨a, b, k1, .inl k2⟩
      · rintro ⟨a, b, k1, k2 | ⟨rfl, rfl⟩⟩
        · exact ⟨a, b, k1, k2⟩
        · exact absurd k1 e
  · rintro a b (k | ⟨rfl, rfl⟩) zd
    · have hs := h.small a b k
      have hne : pk2 a b ≠ pk2 p q := fun e => by
        obtain ⟨rfl, rfl⟩ := pk2_inj (by omega) (by omega) (by omega) (by omega) e
        exact hn k
      rw [atKey_put_other hne]; exact h.val a b k zd
    · rw [atKey_put_same h.tidy.isMap (pk2_lit a b)]
  · rw [size_put h.tidy, hnh, h.size]; simp
  · rw [List.nodup_append]
    refine ⟨h.nd, by simp, fun a ha b hb e => ?_⟩
    rw [List.mem_singleton.1 hb] at e
    subst e
    obtain ⟨a', b', e, hv⟩ := (h.mem _).1 ha
    have hs := h.small a' b' hv
    have h1 : p = a' := by omega
    have h2 : q = b' := by omega
    subst h1; subst h2
    exact hn hv
  · rw [List.mem_append, h.mem, List.mem_singleton]
    constructor
    · rintro (⟨a, b, k1, k2⟩ | rfl)
      · exact ⟨a, b, k1, .inl k2⟩
      · exact ⟨p, q, rfl, .inr ⟨rfl, rfl⟩⟩
    · rintro ⟨a, b, k1, k2 | ⟨rfl, rfl⟩⟩
      · exact .inl ⟨a, b, k1, k2⟩
      · exact .inr k1
end

/-- Two blocks meet at the node z. -/
def Mt (R : List (Int × Int × Int)) (l : List Nat) (p q z : Nat) : Prop := p < nk l R.length ∧ q < nk l R.length ∧ p < q ∧ Tk R l p z ∧ Tk R l q z

/-- The pairs that are met behind y nodes; those of the next whose first is gone through; and those of its next first whose second is. -/
def Vn (R : List (Int × Int × Int)) (l : List Nat) (y : Nat) (p q : Nat) : Prop := ∃ z, z < y ∧ Mt R l p q z
def Vo (R : List (Int × Int × Int)) (l : List Nat) (y : Nat) (left : Lit → Bool) (p q : Nat) : Prop := Vn R l y p q ∨ (Mt R l p q y ∧ left (.int .i64 (p : Int)) = false)
def Vi (R : List (Int × Int × Int)) (l : List Nat) (y : Nat) (left : Lit → Bool) (c : Nat) (left2 : Lit → Bool) (p q : Nat) : Prop := Vn R l y p q ∨ (Mt R l p q y ∧ ((left (.int .i64 (p : Int)) = false ∧ p ≠ c) ∨ (p = c ∧ left2 (.int .i64 (q : Int)) = false)))

section
variable {R : List (Int × Int × Int)} {l : List Nat} {y c q : Nat} {left left2 : Lit → Bool}

/-- Two blocks that meet at one node have not met before. -/
theorem fresh_pair (h : Lab4 R l) {p : Nat} (hm : Mt R l p q y) : ¬ Vn R l y p q := by
  rintro ⟨z, hz, k⟩
  have := h.two hm.1 hm.2.1 hm.2.2.2.1 hm.2.2.2.2 k.2.2.2.1 k.2.2.2.2 (by omega)
  have := hm.2.2.1
  omega

theorem Vi.fresh (h : Lab4 R l) (hm : Mt R l c q y) (hq : left2 (.int .i64 (q : Int)) = true) : ¬ Vi R l y left c left2 c q := by
  rintro (k | ⟨_, ⟨_, k⟩ | ⟨_, k⟩⟩)
  · exact fresh_pair h hm k
  · exact k rfl
  · rw [hq] at k; cases k

theorem Vn.small (hR : R.length ≤ 50) {p : Nat} (h : Mt R l p q y) : p < 1000 ∧ q < 1000 := by
  have := nk_le l R.length
  have := h.1
  have := h.2.1
  omega

theorem same_key (a b : Nat) : (Lit.int .i64 (a : Int)).sameKey (.int .i64 (b : Int)) = decide (a = b) := by
  rw [key_self]
  by_cases e : a = b
  · subst e; simp
  · rw [decide_eq_false e]; simp; omega

/-- The second is taken: a pair that is met. -/
theorem Vi.take (hm : Mt R l c q y) (a b : Nat) : Vi R l y left c (fun z => left2 z && !z.sameKey (.int .i64 (q : Int))) a b ↔ Vi R l y left c left2 a b ∨ (a = c ∧ b = q) := by
  unfold Vi
  simp only [same_key]
  constructor
  · rintro (k | ⟨k, k1 | ⟨rfl, k1⟩⟩)
    · exact .inl (.inl k)
    · exact .inl (.inr ⟨k, .inl k1⟩)
    · by_cases e : b = q
      · exact .inr ⟨rfl, e⟩
      · simp [e] at k1
        exact .inl (.inr ⟨k, .inr ⟨rfl, k1⟩⟩)
  · rintro ((k | ⟨k, k1 | ⟨rfl, k1⟩⟩) | ⟨rfl, rfl⟩)
    · exact .inl k
    · exact .inr ⟨k, .inl k1⟩
    · exact .inr ⟨k, .inr ⟨rfl, by simp [k1]⟩⟩
    · exact .inr ⟨hm, .inr ⟨rfl, by simp⟩⟩

/-- The second is taken: no pair. -/
theorem Vi.pass (hm : ¬ Mt R l c q y) (a b : Nat) : Vi R l y left c (fun z => left2 z && !z.sameKey (.int .i64 (q : Int))) a b ↔ Vi R l y left c left2 a b := by
  unfold Vi
  simp only [same_key]
  constructor
  · rintro (k | ⟨k, k1 | ⟨rfl, k1⟩⟩)
    · exact .inl k
    · exact .inr ⟨k, .inl k1⟩
    · by_cases e : b = q
      · subst e; exact absurd k hm
      · simp [e] at k1
        exact .inr ⟨k, .inr ⟨rfl, k1⟩⟩
  · rintro (k | ⟨k, k1 | ⟨rfl, k1⟩⟩)
    · exact .inl k
    · exact .inr ⟨k, .inl k1⟩
    · exact .inr ⟨k, .inr ⟨rfl, by simp [k1]⟩⟩

/-- The inner loop begins: nothing of it is gone through but what lies outside the node. -/
theorem Vi.start (hD : ∀ b, Tk R l b y → b < nk l R.length → left2 (.int .i64 (b : Int)) = true) (hc : left (.int .i64 (c : Int)) = true) (a b : Nat) : Vi R l y (fun z => left z && !z.sameKey (.int .i64 (c : Int))) c left2 a b ↔ Vo R l y left a b := by
  unfold Vi Vo
  simp only [same_key]
  constructor
  · rintro (k | ⟨k, ⟨k1, k2⟩ | ⟨rfl, k1⟩⟩)
    · exact .inl k
    · simp [k2] at k1
      exact .inr ⟨k, k1⟩
    · rw [hD b k.2.2.2.2 k.2.1] at k1; cases k1
  · rintro (k | ⟨k, k1⟩)
    · exact .inl k
    · refine .inr ⟨k, .inl ⟨by simp [k1], fun e => ?_⟩⟩
      subst e
      rw [hc] at k1; cases k1

/-- The inner loop ends. -/
theorem Vi.stop (h2 : ∀ kl, left2 kl = false) (hc : left (.int .i64 (c : Int)) = false) (a b : Nat) : Vi R l y left c left2 a b ↔ Vo R l y left a b := by
  unfold Vi Vo
  constructor
  · rintro (k | ⟨k, ⟨k1, _⟩ | ⟨rfl, _⟩⟩)
    · exact .inl k
    · exact .inr ⟨k, k1⟩
    · exact .inr ⟨k, hc⟩
  · rintro (k | ⟨k, k1⟩)
    · exact .inl k
    · by_cases e : a = c
      · exact .inr ⟨k, .inr ⟨e, h2 _⟩⟩
      · exact .inr ⟨k, .inl ⟨k1, e⟩⟩

theorem Vo.start (hD : ∀ b, Tk R l b y → b < nk l R.length → left (.int .i64 (b : Int)) = true) (a b : Nat) : Vo R l y left a b ↔ Vn R l y a b := by
  unfold Vo
  constructor
  · rintro (k | ⟨k, k1⟩)
    · exact k
    · rw [hD a k.2.2.2.1 k.1] at k1; cases k1
  · exact .inl

theorem Vo.stop (h1 : ∀ kl, left kl = false) (a b : Nat) : Vo R l y left a b ↔ Vn R l (y + 1) a b := by
  unfold Vo Vn
  constructor
  · rintro (⟨z, hz, k⟩ | ⟨k, _⟩)
    · exact ⟨z, by omega, k⟩
    · exact ⟨y, by omega, k⟩
  · rintro ⟨z, hz, k⟩
    by_cases e : z = y
    · subst e; exact .inr ⟨k, h1 _⟩
    · exact .inl ⟨z, by omega, k⟩
end

end Go.Proofs.Ytigodbamphejmaa.S
