/- Package flow: nets that are laid step by step; byEdges. -/
import Derived.Test.YtpkdpddillebfaaDoorFe
namespace Go.Proofs.YtpkdpddillebfaaDoor.S
open Go Go.ChangeMaps Go.MapKept Go.WideShapes
open Go.RowKit Go.WideMaps Go.Maps F

/-- Steps laid one behind the other, each with how often it may be gone back. -/
def lD (ss : List (Stp × Int)) : List Stp := ss.foldl (fun D t => D ++ [t.1, bk t.1]) []
def lr (ss : List (Stp × Int)) : Stp → Int := ss.foldl (fun r t => fun q => if q = bk t.1 then t.2 else if q = t.1 then 1 else r q) (fun _ => 0)
def lg (ss : List (Stp × Int)) : Int → List Stp := ss.foldl (fun g t => gput (gput g t.1) (bk t.1)) (fun _ => [])

theorem lD_snoc (ss : List (Stp × Int)) (t : Stp × Int) : lD (ss ++ [t]) = lD ss ++ [t.1, bk t.1] := by simp [lD]
theorem lr_snoc (ss : List (Stp × Int)) (t : Stp × Int) : lr (ss ++ [t]) = fun q => if q = bk t.1 then t.2 else if q = t.1 then 1 else lr ss q := by simp [lr]
theorem lg_snoc (ss : List (Stp × Int)) (t : Stp × Int) : lg (ss ++ [t]) = gput (gput (lg ss) t.1) (bk t.1) := by simp [lg]

theorem snoc_ind {α : Type} {P : List α → Prop} (h0 : P []) (h1 : ∀ l a, P l → P (l ++ [a])) (l : List α) : P l := by
  have : ∀ n (l : List α), l.length = n → P l := by
    intro n
    induction n with
    | zero => intro l hl; rw [List.eq_nil_of_length_eq_zero hl]; exact h0
    | succ n ih =>
      intro l hl
      have hne : l ≠ [] := fun e => by rw [e] at hl; simp at hl
      rw [← List.dropLast_concat_getLast hne]
      exact h1 _ _ (ih _ (by simp [hl]))
  exact this _ l rfl

theorem lD_mem (ss : List (Stp × Int)) (q : Stp) : q ∈ lD ss ↔ ∃ t ∈ ss, q = t.1 ∨ q = bk t.1 := by
  induction ss using snoc_ind with
  | h0 => simp [lD]
  | h1 l a ih =>
    rw [lD_snoc, List.mem_append, ih]
    constructor
    · rintro (⟨t, h1, h2⟩ | h)
      · exact ⟨t, by simp [h1], h2⟩
      · exact ⟨a, by simp, by simpa using h⟩
    · rintro ⟨t, h1, h2⟩
      rcases List.mem_append.1 h1 with h1 | h1
      · exact .inl ⟨t, h1, h2⟩
      · rw [List.mem_singleton.1 h1] at h2
        exact .inr (by simpa using h2)

theorem lr_off (ss : List (Stp × Int)) {q : Stp} (h : q ∉ lD ss) : lr ss q = 0 := by
  induction ss using snoc_ind with
  | h0 => rfl
  | h1 l a ih =>
    rw [lD_snoc, List.mem_append] at h
    have h1 : q ≠ a.1 := fun e => h (.inr (by simp [e]))
    have h2 : q ≠ bk a.1 := fun e => h (.inr (by simp [e]))
    rw [lr_snoc]
    simp only [if_neg h1, if_neg h2]
    exact ih (fun k => h (.inl k))

theorem gput_len (g : Int → List Stp) (s : Stp) (x : Int) : (gput g s x).length ≤ (g x).length + 1 := by
  unfold gput
  by_cases h : x = fr s
  · rw [if_pos h, h]; simp
  · rw [if_neg h]; omega

theorem lg_len (ss : List (Stp × Int)) (x : Int) : (lg ss x).length ≤ 2 * ss.length := by
  induction ss using snoc_ind with
  | h0 => simp [lg]
  | h1 l a ih =>
    rw [lg_snoc]
    have h1 := gput_len (gput (lg l) a.1) (bk a.1) x
    have h2 := gput_len (lg l) a.1 x
    simp
    omega

theorem gput_mem (g : Int → List Stp) (s q : Stp) (x : Int) : q ∈ gput g s x ↔ q ∈ g x ∨ (q = s ∧ x = fr s) := by
  unfold gput
  by_cases h : x = fr s
  · rw [if_pos h, List.mem_append, ← h]; simp [h]
  · rw [if_neg h]; simp [h]

/-- What leaves a place: the steps from there. -/
theorem lg_mem (ss : List (Stp × Int)) (q : Stp) (x : Int) : q ∈ lg ss x ↔ q ∈ lD ss ∧ fr q = x := by
  induction ss using snoc_ind with
  | h0 => simp [lg, lD]
  | h1 l a ih =>
    rw [lg_snoc, gput_mem, gput_mem, ih, lD_snoc, List.mem_append]
    simp only [List.mem_cons, List.not_mem_nil, or_false]
    constructor
    · rintro ((⟨h1, h2⟩ | ⟨h1, h2⟩) | ⟨h1, h2⟩)
      · exact ⟨.inl h1, h2⟩
      · exact ⟨.inr (.inl h1), by rw [h1, h2]⟩
      · exact ⟨.inr (.inr h1), by rw [h1, h2]⟩
    · rintro ⟨h1 | h1 | h1, h2⟩
      · exact .inl (.inl ⟨h1, h2⟩)
      · exact .inl (.inr ⟨h1, by rw [← h2, h1]⟩)
      · exact .inr ⟨h1, by rw [← h2, h1]⟩

end Go.Proofs.YtpkdpddillebfaaDoor.S
