/- The document's graph without one node; its Cuts, plainly. -/
import Derived.Test.YtdcdmmbchfhioaaGreatDoorKfh
import Derived.Test.YtdcdmmbchfhioaaGreatDoorDb
import Derived.Test.YtdcdmmbchfhioaaGreatDoorDf
import Derived.Test.YtdcdmmbchfhioaaGreatDoorGYf
namespace Go.Proofs.YtdcdmmbchfhioaaGreatDoor.S
open Go.RowKit Go.WideMaps Go.Maps

theorem inn_of {n M : Nat} {R L : List (Int × Int × Int)} (h : Ed n M L) (hi : G.Inv R L) : Inn n R := fun e he => by
  have hn := h.nat (hi.perm.subset he)
  exact ⟨hn.2.2.1, hn.2.2.2.1, hn.1, hn.2.1⟩

theorem wo_eq {n : Nat} {R : List (Int × Int × Int)} (h : Inn n R) (x : Nat) (Fe : Nat → Int) : R.filter (G.stays Fe (fun _ => (x : Int)) 0 1) = wo R x := by
  unfold wo
  apply List.filter_congr
  intro e he
  obtain ⟨_, _, h1, h2⟩ := h e he
  unfold G.stays G.among
  rw [h1, h2, Bool.eq_iff_iff]
  simp
  omega

theorem inn_wo {n : Nat} {R : List (Int × Int × Int)} (h : Inn n R) (x : Nat) : Inn n (wo R x) := fun e he => h e (mem_wo.1 he).1
theorem wo_len (R : List (Int × Int × Int)) (x : Nat) : (wo R x).length ≤ R.length := List.length_filter_le _ _

theorem cn_perm {R L : List (Int × Int × Int)} (h : R.Perm L) {u v : Nat} : cnR R u v ↔ cnR L u v :=
  ⟨fun k => cn_mono k fun _ he => h.subset he, fun k => cn_mono k fun _ he => h.symm.subset he⟩
theorem wo_perm {R L : List (Int × Int × Int)} (h : R.Perm L) (x : Nat) : (wo R x).Perm (wo L x) := h.filter _

theorem one_id' (w : World) (x : Int) : G.Ints (w.alloc (.cells #[.int .i64 x] 3)) (some ⟨w.heap.size, 0, none⟩) 1 (fun _ => x) :=
  ⟨fun _ => ⟨w.heap.size, 0, rfl, fun t ht => by
    have : t = 0 := by omega
    subst this; simp⟩⟩

theorem cn_lt {n : Nat} {L : List (Int × Int × Int)} (hin : ∀ e ∈ L, ea e < n ∧ eb e < n) {u v : Nat} (h : cnR L u v) : u = v ∨ (u < n ∧ v < n) :=
  Conn.least (P := fun u v => u = v ∨ (u < n ∧ v < n)) h (fun _ => .inl rfl) (by rintro x y (h | h); exact .inl h.symm; exact .inr ⟨h.2, h.1⟩) (by
    rintro x y z (rfl | h) (rfl | k)
    · exact .inl rfl
    · exact .inr k
    · exact .inr h
    · exact .inr ⟨h.1, k.2⟩) (by
    rintro _ _ ⟨e, he, rfl, rfl⟩
    exact .inr (hin e he))

/-- Two nodes that a node parts, by rows of labels. -/
def gd (was l : List Nat) (x a b : Nat) : Prop := a ≠ x ∧ b ≠ x ∧ was.getD a 0 = was.getD b 0 ∧ l.getD a 0 ≠ l.getD b 0

theorem gd_cut {n M x : Nat} {L : List (Int × Int × Int)} {was l : List Nat} (h : Ed n M L) (hw : ∀ u v, u < n → v < n → (was.getD u 0 = was.getD v 0 ↔ cnR L u v)) (hl : ∀ u v, u < n → v < n → (l.getD u 0 = l.getD v 0 ↔ cnR (wo L x) u v)) :
    (∃ a, a < n ∧ ∃ b, b < a ∧ gd was l x a b) ↔ cutP L x := by
  unfold cutP
  rw [← cut_iff h.proper]
  constructor
  · rintro ⟨a, ha, b, hb, h1, h2, h3, h4⟩
    exact ⟨a, b, h1, h2, (hw a b ha (by omega)).1 h3, fun c => h4 ((hl a b ha (by omega)).2 c)⟩
  · rintro ⟨u, v, h1, h2, h3, h4⟩
    have hlt : u < n ∧ v < n := by
      rcases cn_lt h.inn h3 with rfl | k
      · exact absurd (cn_refl _) h4
      · exact k
    have hg : gd was l x u v := ⟨h1, h2, (hw u v hlt.1 hlt.2).2 h3, fun c => h4 ((hl u v hlt.1 hlt.2).1 c)⟩
    rcases Nat.lt_trichotomy u v with c | c | c
    · exact ⟨v, hlt.2, u, c, h2, h1, hg.2.2.1.symm, fun k => hg.2.2.2 k.symm⟩
    · subst c; exact absurd (cn_refl _) h4
    · exact ⟨u, hlt.1, v, c, hg⟩

/-- What is known behind some twos. -/
def Pb (was l : List Nat) (x a b : Nat) (pb : Bool) : Prop := pb = true ↔ ((∃ a', a' < a ∧ ∃ b', b' < a' ∧ gd was l x a' b') ∨ ∃ b', b' < b ∧ gd was l x a b')

theorem pb_start (was l : List Nat) (x : Nat) : Pb was l x 0 0 false := by
  unfold Pb
  refine ⟨fun h => (by cases h), ?_⟩
  rintro (⟨a, h, _⟩ | ⟨b, h, _⟩) <;> omega
theorem pb_yes {was l : List Nat} {x a b : Nat} {pb : Bool} (h : Pb was l x a b pb) (hg : pb = true ∨ gd was l x a b) : Pb was l x a (b + 1) true := by
  unfold Pb at h ⊢
  refine ⟨fun _ => ?_, fun _ => rfl⟩
  rcases hg with hg | hg
  · rcases h.1 hg with k | ⟨b', hb, k⟩
    · exact .inl k
    · exact .inr ⟨b', by omega, k⟩
  · exact .inr ⟨b, by omega, hg⟩
theorem pb_no {was l : List Nat} {x a b : Nat} (h : Pb was l x a b false) (hg : ¬ gd was l x a b) : Pb was l x a (b + 1) false := by
  unfold Pb at h ⊢
  refine ⟨fun c => (by cases c), ?_⟩
  rintro (k | ⟨b', hb, k⟩)
  · exact h.2 (.inl k)
  · by_cases c : b' = b
    · subst c; exact absurd k hg
    · exact h.2 (.inr ⟨b', by omega, k⟩)
theorem pb_next {was l : List Nat} {x a : Nat} {pb : Bool} (h : Pb was l x a a pb) : Pb was l x (a + 1) 0 pb := by
  unfold Pb at h ⊢
  rw [h]
  constructor
  · rintro (⟨a', ha, k⟩ | k)
    · exact .inl ⟨a', by omega, k⟩
    · exact .inl ⟨a, by omega, k⟩
  · rintro (⟨a', ha, k⟩ | ⟨b', hb, _⟩)
    · by_cases c : a' = a
      · subst c; exact .inr k
      · exact .inl ⟨a', by omega, k⟩
    · omega
theorem pb_end {was l : List Nat} {x n : Nat} {pb : Bool} (h : Pb was l x n 0 pb) : pb = true ↔ ∃ a, a < n ∧ ∃ b, b < a ∧ gd was l x a b := by
  unfold Pb at h
  rw [h]
  constructor
  · rintro (k | ⟨b', hb, _⟩)
    · exact k
    · omega
  · exact fun k => .inl k

end Go.Proofs.YtdcdmmbchfhioaaGreatDoor.S
