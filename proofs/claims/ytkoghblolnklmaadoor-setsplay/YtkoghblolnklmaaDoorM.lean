/- Plain mathematics of sets that are put together: how they were joined is not seen; how many are left; the rows of All. -/
import Derived.Test.YtkoghblolnklmaaDoorW7
namespace Go.Proofs.YtkoghblolnklmaaDoor

/-- A row in which each number has the least of its set. -/
structure Good (n : Nat) (L : List Nat) : Prop where
  len : L.length = n
  le : ∀ i, i < n → L.getD i 0 ≤ i
  idem : ∀ i, i < n → L.getD (L.getD i 0) 0 = L.getD i 0

theorem good_range (n : Nat) : Good n (List.range n) :=
  ⟨by simp, fun i hi => by simp [hi], fun i hi => by simp [hi]⟩

theorem joinL_length (L : List Nat) (x y : Nat) : (joinL L x y).length = L.length := by simp [joinL]

theorem joinL_at (L : List Nat) (x y i : Nat) (h : i < L.length) : (joinL L x y).getD i 0 = named (min (L.getD x 0) (L.getD y 0)) (max (L.getD x 0) (L.getD y 0)) (L.getD i 0) := by
  simp [joinL, h]

theorem named_le {lo hi l : Nat} (h : lo ≤ hi) : named lo hi l ≤ l := by
  unfold named; split <;> omega

theorem good_join {n : Nat} {L : List Nat} (g : Good n L) {x y : Nat} (hx : x < n) (hy : y < n) : Good n (joinL L x y) := by
  have hlen := g.len
  have hmm : min (L.getD x 0) (L.getD y 0) ≤ max (L.getD x 0) (L.getD y 0) := by omega
  have hlo : L.getD (min (L.getD x 0) (L.getD y 0)) 0 = min (L.getD x 0) (L.getD y 0) := by
    rcases Nat.le_total (L.getD x 0) (L.getD y 0) with h | h
    · rw [Nat.min_eq_left h]; exact g.idem x hx
    · rw [Nat.min_eq_right h]; exact g.idem y hy
  refine ⟨by rw [joinL_length]; exact hlen, fun i hi => ?_, fun i hi => ?_⟩
  · rw [joinL_at _ _ _ _ (by omega)]
    exact Nat.le_trans (named_le hmm) (g.le i hi)
  · have h1 : (joinL L x y).getD i 0 < n := by
      rw [joinL_at _ _ _ _ (by omega)]
      have := named_le (l := L.getD i 0) hmm
      have := g.le i hi
      omega
    rw [joinL_at _ _ _ _ (by rw [hlen]; exact h1)]
    rw [joinL_at _ _ _ i (by omega)]
    generalize hlo' : min (L.getD x 0) (L.getD y 0) = lo at *
    generalize max (L.getD x 0) (L.getD y 0) = hi' at *
    by_cases e : L.getD i 0 = hi'
    · have : named lo hi' (L.getD i 0) = lo := by unfold named; rw [if_pos e]
      rw [this, hlo]
      unfold named; split <;> rfl
    · have : named lo hi' (L.getD i 0) = L.getD i 0 := by unfold named; rw [if_neg e]
      rw [this, g.idem i hi, this]

/-- Whatever is joined, by numbers. -/
def runJ (f : Nat → Nat × Nat) (n : Nat) : Nat → List Nat
  | 0 => List.range n
  | k + 1 => joinL (runJ f n k) (f k).1 (f k).2

/-- How often two were two. -/
def okJ (f : Nat → Nat × Nat) (n : Nat) : Nat → Nat
  | 0 => 0
  | k + 1 => okJ f n k + if (runJ f n k).getD (f k).1 0 ≠ (runJ f n k).getD (f k).2 0 then 1 else 0

theorem good_run {f : Nat → Nat × Nat} {n : Nat} : ∀ m, (∀ i, i < m → (f i).1 < n ∧ (f i).2 < n) → Good n (runJ f n m)
  | 0, _ => good_range n
  | k + 1, h => good_join (good_run k (fun i hi => h i (by omega))) (h k (by omega)).1 (h k (by omega)).2

/-- Whoever holds the pairs together holds each number and its least together. -/
theorem run_sound {f : Nat → Nat × Nat} {n : Nat} (E : Nat → Nat → Prop) (er : ∀ i, E i i) (es : ∀ i j, E i j → E j i) (et : ∀ i j k, E i j → E j k → E i k) :
    ∀ m, (∀ i, i < m → (f i).1 < n ∧ (f i).2 < n ∧ E (f i).1 (f i).2) → ∀ i, i < n → E i ((runJ f n m).getD i 0)
  | 0, _, i, hi => by
    have : (runJ f n 0).getD i 0 = i := by simp [runJ, hi]
    rw [this]; exact er i
  | k + 1, h, i, hi => by
    have ih := run_sound (f := f) (n := n) E er es et k (fun i hi => h i (by omega))
    have g : Good n (runJ f n k) := good_run k (fun i hi => ⟨(h i (by omega)).1, (h i (by omega)).2.1⟩)
    obtain ⟨hx, hy, hE⟩ := h k (by omega)
    show E i ((joinL (runJ f n k) (f k).1 (f k).2).getD i 0)
    rw [joinL_at _ _ _ _ (by rw [g.len]; exact hi)]
    have ex := ih _ hx
    have ey := ih _ hy
    have ei := ih i hi
    generalize (runJ f n k).getD (f k).1 0 = X at *
    generalize (runJ f n k).getD (f k).2 0 = Y at *
    generalize (runJ f n k).getD i 0 = Z at *
    have exy : E X Y := et _ _ _ (es _ _ ex) (et _ _ _ hE ey)
    unfold named
    split
    · next e =>
      rcases Nat.le_total X Y with h | h
      · rw [Nat.max_eq_right h] at e
        rw [Nat.min_eq_left h]
        exact et _ _ _ ei (by rw [e]; exact es _ _ exy)
      · rw [Nat.max_eq_left h] at e
        rw [Nat.min_eq_right h]
        exact et _ _ _ ei (by rw [e]; exact exy)
    · exact ei

/-- Two that were put together are of one set. -/
theorem run_joined {f : Nat → Nat × Nat} {n : Nat} : ∀ m, (∀ i, i < m → (f i).1 < n ∧ (f i).2 < n) → ∀ i, i < m → (runJ f n m).getD (f i).1 0 = (runJ f n m).getD (f i).2 0
  | 0, _, i, hi => by omega
  | k + 1, h, i, hi => by
    have g : Good n (runJ f n k) := good_run k (fun i hi => h i (by omega))
    have hi' := h i hi
    show (joinL (runJ f n k) (f k).1 (f k).2).getD (f i).1 0 = (joinL (runJ f n k) (f k).1 (f k).2).getD (f i).2 0
    rw [joinL_at _ _ _ _ (by rw [g.len]; exact hi'.1), joinL_at _ _ _ _ (by rw [g.len]; exact hi'.2)]
    by_cases e : i = k
    · subst e
      unfold named
      generalize (runJ f n i).getD (f i).1 0 = X
      generalize (runJ f n i).getD (f i).2 0 = Y
      split <;> split <;> omega
    · rw [run_joined k (fun i hi => h i (by omega)) i (by omega)]

theorem run_le {f g : Nat → Nat × Nat} {n m : Nat} (hf : ∀ i, i < m → (f i).1 < n ∧ (f i).2 < n) (hg : ∀ i, i < m → (g i).1 < n ∧ (g i).2 < n)
    (hfg : ∀ i, i < m → ∃ j, j < m ∧ f i = ((g j).2, (g j).1)) (i : Nat) (hi : i < n) : (runJ g n m).getD i 0 ≤ (runJ f n m).getD i 0 := by
  have gg := good_run m hg
  have gf := good_run m hf
  have h := run_sound (f := f) (n := n) (fun a b => (runJ g n m).getD a 0 = (runJ g n m).getD b 0) (fun _ => rfl) (fun _ _ h => h.symm) (fun _ _ _ h k => h.trans k) m
    (fun j hj => ⟨(hf j hj).1, (hf j hj).2, by
      obtain ⟨j', hj', e⟩ := hfg j hj
      rw [e]
      exact (run_joined m hg j' hj').symm⟩) i hi
  have hlt : (runJ f n m).getD i 0 < n := Nat.lt_of_le_of_lt (gf.le i hi) hi
  have := gg.le _ hlt
  omega

theorem list_eq_of_getD {n : Nat} {A B : List Nat} (ha : A.length = n) (hb : B.length = n) (h : ∀ i, i < n → A.getD i 0 = B.getD i 0) : A = B := by
  apply List.ext_getElem
  · omega
  · intro i h1 h2
    have := h i (by omega)
    simpa [h1, h2] using this

/-- HOW THEY WERE JOINED IS NOT SEEN. -/
theorem run_same {f g : Nat → Nat × Nat} {n m : Nat} (hf : ∀ i, i < m → (f i).1 < n ∧ (f i).2 < n) (hg : ∀ i, i < m → (g i).1 < n ∧ (g i).2 < n)
    (hfg : ∀ i, i < m → ∃ j, j < m ∧ f i = ((g j).2, (g j).1)) (hgf : ∀ i, i < m → ∃ j, j < m ∧ g i = ((f j).2, (f j).1)) : runJ f n m = runJ g n m := by
  refine list_eq_of_getD (good_run m hf).len (good_run m hg).len (fun i hi => ?_)
  have h1 := run_le hf hg hfg i hi
  have h2 := run_le hg hf hgf i hi
  omega

theorem cnt_congr {f g : Nat → Bool} : ∀ n, (∀ i, i < n → f i = g i) → cnt f n = cnt g n
  | 0, _ => rfl
  | k + 1, h => by simp only [cnt]; rw [cnt_congr k (fun i hi => h i (by omega)), h k (by omega)]

theorem cnt_less {f g : Nat → Bool} (t : Nat) (hf : f t = true) (hg : g t = false) : ∀ n, (∀ i, i < n → i ≠ t → f i = g i) → t < n → cnt f n = cnt g n + 1
  | 0, _, h => by omega
  | k + 1, h, ht => by
    simp only [cnt]
    by_cases e : t = k
    · subst e
      rw [cnt_congr t (fun i hi => h i (by omega) (by omega)), hf, hg]; simp
    · rw [cnt_less t hf hg k (fun i hi hn => h i (by omega) hn) (by omega), h k (by omega) (by omega)]
      omega

theorem isLeast_iff (L : List Nat) (x : Nat) : isLeast L x = true ↔ L.getD x 0 = x := by
  unfold isLeast
  rw [beq_iff_eq]; omega

theorem isLeast_join {n : Nat} {L : List Nat} (g : Good n L) {x y : Nat} (hx : x < n) (hy : y < n) (hne : L.getD x 0 ≠ L.getD y 0) : cnt (isLeast L) n = cnt (isLeast (joinL L x y)) n + 1 := by
  have hlen := g.len
  have hmx : max (L.getD x 0) (L.getD y 0) < n := by have := g.le x hx; have := g.le y hy; omega
  have hhi : L.getD (max (L.getD x 0) (L.getD y 0)) 0 = max (L.getD x 0) (L.getD y 0) := by
    rcases Nat.le_total (L.getD x 0) (L.getD y 0) with h | h
    · rw [Nat.max_eq_right h]; exact g.idem y hy
    · rw [Nat.max_eq_left h]; exact g.idem x hx
  refine cnt_less (max (L.getD x 0) (L.getD y 0)) ((isLeast_iff _ _).2 hhi) ?_ n (fun i hi hn => ?_) hmx
  · rw [Bool.eq_false_iff]
    intro h
    rw [isLeast_iff, joinL_at _ _ _ _ (by omega), hhi] at h
    unfold named at h
    rw [if_pos rfl] at h
    omega
  · rw [Bool.eq_iff_iff, isLeast_iff, isLeast_iff, joinL_at _ _ _ _ (by omega)]
    have := g.le i hi
    unfold named
    split
    · next e => constructor <;> intro h <;> omega
    · exact Iff.rfl

/-- Edges that put two together, and sets, are as many as the numbers. -/
theorem ok_many {f : Nat → Nat × Nat} {n : Nat} : ∀ m, (∀ i, i < m → (f i).1 < n ∧ (f i).2 < n) → okJ f n m + cnt (isLeast (runJ f n m)) n = n
  | 0, _ => by
    have : ∀ k, k ≤ n → cnt (isLeast (List.range n)) k = k := by
      intro k
      induction k with
      | zero => intro _; rfl
      | succ k ih =>
        intro hk
        have hl : isLeast (List.range n) k = true := (isLeast_iff _ _).2 (by simp [show k < n by omega])
        simp only [cnt]
        rw [ih (by omega), hl]; simp
    simp only [okJ, runJ]
    rw [this n (Nat.le_refl _)]; omega
  | k + 1, h => by
    have ih := ok_many (f := f) (n := n) k (fun i hi => h i (by omega))
    have g : Good n (runJ f n k) := good_run k (fun i hi => h i (by omega))
    have hk := h k (by omega)
    simp only [okJ]
    by_cases e : (runJ f n k).getD (f k).1 0 = (runJ f n k).getD (f k).2 0
    · have e2 : runJ f n (k + 1) = runJ f n k := joinL_same _ _ _ e
      rw [e2, if_neg (by simpa using e)]; omega
    · have e2 := isLeast_join g hk.1 hk.2 e
      have e3 : runJ f n (k + 1) = joinL (runJ f n k) (f k).1 (f k).2 := rfl
      rw [e3, if_pos e]; omega

theorem cnt_eq (f : Nat → Bool) : ∀ n, ((List.range n).filter f).length = cnt f n
  | 0 => rfl
  | k + 1 => by
    rw [List.range_succ, List.filter_append, List.length_append, cnt_eq f k, List.filter_cons]
    simp only [cnt]
    cases f k <;> simp

theorem cnt_all (f : Nat → Bool) : ∀ n, (∀ i, i < n → f i = true) → cnt f n = n
  | 0, _ => rfl
  | k + 1, h => by simp only [cnt]; rw [cnt_all f k (fun i hi => h i (by omega)), h k (by omega)]; simp

theorem cnt_none (f : Nat → Bool) : ∀ n, (∀ i, i < n → f i = false) → cnt f n = 0
  | 0, _ => rfl
  | k + 1, h => by simp only [cnt]; rw [cnt_none f k (fun i hi => h i (by omega)), h k (by omega)]; simp

theorem cnt_add (f g h : Nat → Bool) : ∀ n, (∀ i, i < n → (if f i then 1 else 0) = (if g i then 1 else 0) + (if h i then 1 else 0 : Nat)) → cnt f n = cnt g n + cnt h n
  | 0, _ => rfl
  | k + 1, hh => by
    simp only [cnt]
    rw [cnt_add f g h k (fun i hi => hh i (by omega)), hh k (by omega)]; omega

theorem mem_grp {L : List Nat} {n x i : Nat} : i ∈ grp L n x ↔ i < n ∧ L.getD i 0 = x := by
  unfold grp
  rw [List.mem_filter, List.mem_range, beq_iff_eq]

theorem grp_length (L : List Nat) (n x : Nat) : (grp L n x).length = cnt (fun i => L.getD i 0 == x) n := cnt_eq _ n

theorem grp_some {n : Nat} {L : List Nat} (g : Good n L) {x : Nat} (hx : x < n) : grp L n x ≠ [] ↔ L.getD x 0 = x := by
  constructor
  · intro h
    obtain ⟨i, hi⟩ := List.exists_mem_of_ne_nil _ h
    obtain ⟨h1, h2⟩ := mem_grp.1 hi
    have := g.idem i h1
    rw [h2] at this; exact this
  · intro h e
    have : x ∈ grp L n x := mem_grp.2 ⟨hx, h⟩
    rw [e] at this; cases this

theorem grps_length {n : Nat} {L : List Nat} (g : Good n L) : ∀ k, k ≤ n → (grps L k).length = cnt (isLeast L) k
  | 0, _ => rfl
  | k + 1, hk => by
    have ih := grps_length g k (by omega)
    have hs := grp_some g (x := k) (by omega)
    have hl := isLeast_iff L k
    have e := g.len
    simp only [cnt]
    by_cases h : grp L n k = []
    · have hn : isLeast L k = false := by
        rw [Bool.eq_false_iff]; intro h2; exact (hs.2 (hl.1 h2)) h
      rw [grps_succ_none L k (by rw [e]; exact h), ih, hn]; simp
    · rw [grps_succ_some L k (by rw [e]; exact h), List.length_append, ih, hl.2 (hs.1 h)]; simp

theorem grps_at {n : Nat} {L : List Nat} (g : Good n L) (i : Nat) (hi : i < (grps L n).length) : ∃ x, x < n ∧ L.getD x 0 = x ∧ (grps L n).getD i [] = grp L n x := by
  have hm : (grps L n).getD i [] ∈ grps L n := by
    have : (grps L n).getD i [] = (grps L n)[i] := by simp [hi]
    rw [this]; exact List.getElem_mem hi
  generalize (grps L n).getD i [] = G at hm
  unfold grps at hm
  rw [List.mem_filter, List.mem_map] at hm
  obtain ⟨⟨x, hx, e⟩, hne⟩ := hm
  rw [g.len] at e
  rw [List.mem_range] at hx
  refine ⟨x, hx, (grp_some g hx).1 (fun h => ?_), e.symm⟩
  rw [← e, h] at hne
  simp at hne

theorem grp_head {n : Nat} {L : List Nat} (g : Good n L) {x : Nat} (hx : x < n) (h : L.getD x 0 = x) : (grp L n x).getD 0 0 = x := by
  have hxm : x ∈ grp L n x := mem_grp.2 ⟨hx, h⟩
  have hp : (grp L n x).Pairwise (· < ·) := by
    unfold grp
    exact List.Pairwise.filter _ List.pairwise_lt_range
  have hle : ∀ i ∈ grp L n x, x ≤ i := fun i hi => by
    obtain ⟨h1, h2⟩ := mem_grp.1 hi
    have := g.le i h1
    omega
  cases hg : grp L n x with
  | nil => rw [hg] at hxm; cases hxm
  | cons a r =>
    rw [hg] at hxm hp hle
    show a = x
    have h1 := hle a (by simp)
    rcases List.mem_cons.1 hxm with h2 | h2
    · exact h2.symm
    · have := (List.pairwise_cons.1 hp).1 x h2
      omega

theorem grp_elem {n : Nat} {L : List Nat} {x : Nat} (j : Nat) (hj : j < (grp L n x).length) : (grp L n x).getD j 0 < n ∧ L.getD ((grp L n x).getD j 0) 0 = x := by
  have hm : (grp L n x).getD j 0 ∈ grp L n x := by
    have : (grp L n x).getD j 0 = (grp L n x)[j] := by simp [hj]
    rw [this]; exact List.getElem_mem hj
  exact mem_grp.1 hm

theorem same_size {n : Nat} {L : List Nat} {x e : Nat} (he : L.getD e 0 = x) : cnt (isSame L e) n = (grp L n x).length := by
  rw [grp_length]
  refine cnt_congr n (fun i _ => ?_)
  unfold isSame
  rw [he, Bool.eq_iff_iff, beq_iff_eq, beq_iff_eq]; omega

/-- How many members the first k rows have. -/
def tot (Gs : List (List Nat)) : Nat → Nat
  | 0 => 0
  | k + 1 => tot Gs k + (Gs.getD k []).length

theorem tot_snoc (Gs : List (List Nat)) (G : List Nat) : ∀ k, k ≤ Gs.length → tot (Gs ++ [G]) k = tot Gs k
  | 0, _ => rfl
  | k + 1, h => by
    simp only [tot]
    rw [tot_snoc Gs G k (by omega)]
    simp [List.getElem?_append_left (show k < Gs.length by omega)]

theorem tot_grps {n : Nat} {L : List Nat} (g : Good n L) : ∀ k, tot (grps L k) (grps L k).length = cnt (fun i => decide (L.getD i 0 < k)) n
  | 0 => by
    rw [cnt_none _ n (fun i _ => by simp)]; rfl
  | k + 1 => by
    have ih := tot_grps g k
    have e := g.len
    have hadd := cnt_add (fun i => decide (L.getD i 0 < k + 1)) (fun i => decide (L.getD i 0 < k)) (fun i => L.getD i 0 == k) n (fun i _ => by
      rcases Nat.lt_trichotomy (L.getD i 0) k with h | h | h
      · have h1 : L.getD i 0 < k + 1 := by omega
        have h2 : (L.getD i 0 == k) = false := beq_eq_false_iff_ne.2 (by omega)
        simp only [decide_eq_true h1, decide_eq_true h, h2]; rfl
      · have h1 : L.getD i 0 < k + 1 := by omega
        have h2 : (L.getD i 0 == k) = true := beq_iff_eq.2 h
        have h3 : ¬ L.getD i 0 < k := by omega
        simp only [decide_eq_true h1, decide_eq_false h3, h2]; rfl
      · have h1 : ¬ L.getD i 0 < k + 1 := by omega
        have h2 : (L.getD i 0 == k) = false := beq_eq_false_iff_ne.2 (by omega)
        have h3 : ¬ L.getD i 0 < k := by omega
        simp only [decide_eq_false h1, decide_eq_false h3, h2]; rfl)
    rw [hadd, ← grp_length, ← ih]
    by_cases h : grp L L.length k = []
    · rw [grps_succ_none L k h, ← e, h]; rfl
    · rw [grps_succ_some L k h, List.length_append, ← e]
      show tot _ ((grps L k).length + 1) = _
      simp only [tot]
      rw [tot_snoc _ _ _ (Nat.le_refl _)]
      simp

theorem tot_all {n : Nat} {L : List Nat} (g : Good n L) : tot (grps L n) (grps L n).length = n := by
  rw [tot_grps g, cnt_all]
  intro i hi
  have := g.le i hi
  exact decide_eq_true (by omega)

theorem tot_le {n : Nat} {L : List Nat} (g : Good n L) : ∀ d k, k + d = (grps L n).length → tot (grps L n) k ≤ n
  | 0, k, h => by
    have : k = (grps L n).length := by omega
    rw [this, tot_all g]; exact Nat.le_refl _
  | d + 1, k, h => by
    have := tot_le g d (k + 1) (by omega)
    simp only [tot] at this
    omega

end Go.Proofs.YtkoghblolnklmaaDoor
