/- Parts in plain words. -/
import Derived.Test.YtebcjaenhiiflaaGreatDoorSO
namespace Go.Proofs.YtebcjaenhiiflaaGreatDoor.S

/-- The least ones below x. -/
def lst (L : List Nat) (x : Nat) : List Nat := (List.range x).filter fun y => L.getD y 0 == y

/-- The parts of the numbers below x. -/
def pgr (L : List Nat) (x : Nat) : List (List Nat) := (lst L x).map (grp L x)

theorem mem_lst {L : List Nat} {x y : Nat} : y ∈ lst L x ↔ y < x ∧ L.getD y 0 = y := by
  unfold lst
  rw [List.mem_filter, List.mem_range, beq_iff_eq]

theorem pgr_length (L : List Nat) (x : Nat) : (pgr L x).length = (lst L x).length := by simp [pgr]

theorem pgr_at (L : List Nat) (x i : Nat) (h : i < (lst L x).length) : (pgr L x).getD i [] = grp L x ((lst L x).getD i 0) := by
  simp [pgr, h]

theorem lst_at {L : List Nat} {x i : Nat} (h : i < (lst L x).length) : (lst L x).getD i 0 < x ∧ L.getD ((lst L x).getD i 0) 0 = (lst L x).getD i 0 := by
  have hm : (lst L x).getD i 0 ∈ lst L x := by
    have : (lst L x).getD i 0 = (lst L x)[i] := by simp [h]
    rw [this]; exact List.getElem_mem h
  exact mem_lst.1 hm

theorem grp_head' {n x : Nat} {L : List Nat} (g : Good n L) (hx : x ≤ n) {y : Nat} (hy : y < x) (h : L.getD y 0 = y) : (grp L x y).getD 0 0 = y := by
  have hxm : y ∈ grp L x y := mem_grp.2 ⟨hy, h⟩
  have hp : (grp L x y).Pairwise (· < ·) := by
    unfold grp
    exact List.Pairwise.filter _ List.pairwise_lt_range
  have hle : ∀ i ∈ grp L x y, y ≤ i := fun i hi => by
    obtain ⟨h1, h2⟩ := mem_grp.1 hi
    have := g.le i (by omega)
    omega
  cases hg : grp L x y with
  | nil => rw [hg] at hxm; cases hxm
  | cons a r =>
    rw [hg] at hxm hp hle
    show a = y
    have h1 := hle a (by simp)
    rcases List.mem_cons.1 hxm with h2 | h2
    · exact h2.symm
    · have := (List.pairwise_cons.1 hp).1 y h2
      omega

theorem grp_pos {x y : Nat} {L : List Nat} (hy : y < x) (h : L.getD y 0 = y) : 0 < (grp L x y).length :=
  List.length_pos_iff.2 (fun e => by
    have : y ∈ grp L x y := mem_grp.2 ⟨hy, h⟩
    rw [e] at this; cases this)

theorem lst_succ_least {L : List Nat} {x : Nat} (h : L.getD x 0 = x) : lst L (x + 1) = lst L x ++ [x] := by
  have hb : (L.getD x 0 == x) = true := beq_iff_eq.2 h
  unfold lst
  rw [List.range_succ, List.filter_append, List.filter_cons, hb]
  simp

theorem lst_succ_other {L : List Nat} {x : Nat} (h : L.getD x 0 ≠ x) : lst L (x + 1) = lst L x := by
  have hb : (L.getD x 0 == x) = false := beq_eq_false_iff_ne.2 h
  unfold lst
  rw [List.range_succ, List.filter_append, List.filter_cons, hb]
  simp

theorem lst_inj (L : List Nat) (x i j : Nat) (hi : i < (lst L x).length) (hj : j < (lst L x).length) (e : (lst L x)[i] = (lst L x)[j]) : i = j := by
  have hp : (lst L x).Pairwise (· < ·) := by
    unfold lst
    exact List.Pairwise.filter _ List.pairwise_lt_range
  rw [List.pairwise_iff_getElem] at hp
  rcases Nat.lt_trichotomy i j with h | h | h
  · have := hp i j hi hj h
    omega
  · exact h
  · have := hp j i hj hi h
    omega

/-- A number goes to the part of its least one. -/
theorem pgr_found {x i : Nat} {L : List Nat} (hi : i < (lst L x).length) (h : (lst L x).getD i 0 = L.getD x 0) : pgr L (x + 1) = (pgr L x).set i (grp L x ((lst L x).getD i 0) ++ [x]) := by
  have hl := lst_at hi
  have hne : L.getD x 0 ≠ x := by omega
  unfold pgr
  rw [lst_succ_other hne]
  apply List.ext_getElem
  · simp
  · intro j h1 h2
    rw [List.getElem_set]
    simp only [List.getElem_map]
    have hj : j < (lst L x).length := by simpa using h1
    by_cases e : i = j
    · subst e
      have e1 : (lst L x)[i] = (lst L x).getD i 0 := by simp [hi]
      rw [if_pos rfl, e1, h, grp_succ_same]
    · rw [if_neg e]
      have e1 : (lst L x)[i] = (lst L x).getD i 0 := by simp [hi]
      have hn : (lst L x)[j] ≠ L.getD x 0 := by
        rw [← h, ← e1]
        intro e2
        exact e (lst_inj L x i j hi hj e2.symm)
      rw [grp_succ_other L x _ (fun e3 => hn e3.symm)]

/-- A number that is the least one of its own begins a part. -/
theorem pgr_none {n x : Nat} {L : List Nat} (g : Good n L) (hx : x < n) (h : ∀ i, i < (lst L x).length → (lst L x).getD i 0 ≠ L.getD x 0) : pgr L (x + 1) = pgr L x ++ [[x]] := by
  have hLx : L.getD x 0 = x := by
    have h1 := g.le x hx
    have h2 := g.idem x hx
    rcases Nat.lt_or_ge (L.getD x 0) x with h3 | h3
    · have hm : L.getD x 0 ∈ lst L x := mem_lst.2 ⟨h3, h2⟩
      obtain ⟨i, hi, e⟩ := List.getElem_of_mem hm
      exact absurd (by rw [← e]; simp [hi]) (h i hi)
    · omega
  unfold pgr
  rw [lst_succ_least hLx, List.map_append]
  congr 1
  · apply List.map_congr_left
    intro y hy
    exact grp_succ_other L x y (by have := (mem_lst.1 hy).1; omega)
  · have e : grp L (x + 1) x = grp L x x ++ [x] := by
      have := grp_succ_same L x
      rw [hLx] at this; exact this
    have e2 : grp L x x = [] := by
      cases hg : grp L x x with
      | nil => rfl
      | cons a r =>
        have : a ∈ grp L x x := by rw [hg]; simp
        obtain ⟨h1, h2⟩ := mem_grp.1 this
        have := g.le a (by omega)
        omega
    simp [e, e2]

theorem pgr_all {n : Nat} {L : List Nat} (g : Good n L) : pgr L n = grps L n := by
  unfold pgr grps
  rw [g.len]
  rw [List.filter_map]
  congr 1
  unfold lst
  apply List.filter_congr
  intro y hy
  have hy' := List.mem_range.1 hy
  have hs := grp_some g hy'
  rw [Bool.eq_iff_iff, beq_iff_eq]
  simp only [Function.comp, Bool.not_eq_true', List.isEmpty_eq_false_iff]
  exact hs.symm

end Go.Proofs.YtebcjaenhiiflaaGreatDoor.S
namespace Go.Proofs.YtebcjaenhiiflaaGreatDoor.S
open Go.RowKit

/-- The rows as values. -/
def rvals (Gs : List (List Nat)) (r c : Nat → Nat) : List Value := (List.range Gs.length).map fun i => .slice (some ⟨r i, 0, none⟩) (Gs.getD i []).length (c i)

theorem rvals_at (Gs : List (List Nat)) (r c : Nat → Nat) (i : Nat) (h : i < Gs.length) : (rvals Gs r c)[i]? = some (.slice (some ⟨r i, 0, none⟩) (Gs.getD i []).length (c i)) := by
  simp [rvals, h]

/-- What t is: a row of rows. -/
structure POut (w : World) (base : Nat) (t : Value) (Gs : List (List Nat)) (r c : Nat → Nat) : Prop where
  own : w.ownsRow base 48 1 t Gs.length (rvals Gs r c)
  each : ∀ i, i < Gs.length → w.ownsInts base 3 .i64 (.slice (some ⟨r i, 0, none⟩) (Gs.getD i []).length (c i)) (ints (Gs.getD i []))
  apart : ∀ i j, i < Gs.length → j < Gs.length → i ≠ j → r i ≠ r j

theorem pout_start (w : World) (base : Nat) (r c : Nat → Nat) : POut w base (.slice none 0 0) [] r c :=
  ⟨World.ownsRow_nil _ _ _ _, fun i hi => absurd hi (by simp), fun i j hi => absurd hi (by simp)⟩

theorem pout_drewN {w : World} {base : Nat} {t : Value} {Gs : List (List Nat)} {r c : Nat → Nat} (h : POut w base t Gs r c) (n : Nat) : POut (w.drewN n) base t Gs r c := ⟨h.own, h.each, h.apart⟩

/-- The row of rows lies in none of the rows. -/
theorem POut.ne {w : World} {base : Nat} {t : Value} {Gs : List (List Nat)} {r c : Nat → Nat} (h : POut w base t Gs r c) (i : Nat) (hi : i < Gs.length) : t.ownBlock ≠ some (r i) := by
  intro e
  have h2 := (h.each i hi).1.2
  rcases h.own.2 with ⟨rfl, _⟩ | ⟨g, cap, cur, rfl, _, hg, _⟩
  · simp [Value.ownBlock] at e
  · simp only [Value.ownBlock, Option.some.injEq] at e
    rcases h2 with ⟨h3, _⟩ | ⟨g', cap', cur', h3, _, hg', _⟩
    · cases h3
    · simp only [Value.slice.injEq, Option.some.injEq, Addr.mk.injEq] at h3
      rw [← h3.1.1, ← e, hg] at hg'
      injection hg' with h4
      injection h4 with _ h5
      exact absurd h5 (by decide)

/-- A row's first cell. -/
theorem POut.head {w : World} {base : Nat} {t : Value} {Gs : List (List Nat)} {r c : Nat → Nat} (h : POut w base t Gs r c) (i : Nat) (hi : i < Gs.length) (hp : 0 < (Gs.getD i []).length) : w.cell? ⟨r i, 0, none⟩ = some (.int .i64 (((Gs.getD i []).getD 0 0 : Nat) : Int)) := by
  have h1 := (h.each i hi).1
  rw [ints_length] at h1
  rw [h1.cellAt 0 (by omega)]
  generalize Gs.getD i [] = G at *
  simp [ints, hp]

theorem POut.outcell {w : World} {base g m cap : Nat} {Gs : List (List Nat)} {r c : Nat → Nat} (h : POut w base (.slice (some ⟨g, 0, none⟩) m cap) Gs r c) (hm : m = Gs.length) (i : Nat) (hi : i < Gs.length) : w.cell? ⟨g, i, none⟩ = some (.slice (some ⟨r i, 0, none⟩) (Gs.getD i []).length (c i)) := by
  subst hm
  rw [h.own.cellAt i (by omega), rvals_at _ _ _ _ hi]

/-- What t is where there is a row: a slice at the head of a block. -/
theorem POut.shape {w : World} {base : Nat} {t : Value} {Gs : List (List Nat)} {r c : Nat → Nat} (h : POut w base t Gs r c) : ∃ a cap, t = .slice a Gs.length cap ∧ (0 < Gs.length → ∃ g, a = some ⟨g, 0, none⟩) := by
  rcases h.own.2 with ⟨rfl, h0⟩ | ⟨g, cap, cur, rfl, _⟩
  · exact ⟨none, 0, by rw [h0], fun h => absurd h (by omega)⟩
  · exact ⟨_, cap, rfl, fun _ => ⟨g, rfl⟩⟩

theorem getD_snoc_lt {Gs : List (List Nat)} {G : List Nat} {i : Nat} (h : i < Gs.length) : (Gs ++ [G]).getD i [] = Gs.getD i [] := by simp [List.getElem?_append_left h]

theorem getD_snoc_eq {Gs : List (List Nat)} {G : List Nat} : (Gs ++ [G]).getD Gs.length [] = G := by simp

/-- A row of its own is begun. -/
theorem POut.snoc {w w1 : World} {base : Nat} {t v' : Value} {Gs : List (List Nat)} {r c : Nat → Nat} (h : POut w base t Gs r c) (hbase : base ≤ w.heap.size) (x : Nat) (o : Obj)
    (hown : w1.ownsRow base 48 1 v' (Gs.length + 1) (rvals Gs r c ++ [.slice (some ⟨w.heap.size, 0, none⟩) 1 1])) (hg : ((w.alloc (.cells #[.int .i64 (x : Int)] 3)).alloc o).grownBy w1 t.ownBlock) (hx : x ≤ 1000000) :
    ∃ r' c', POut w1 base v' (Gs ++ [[x]]) r' c' := by
  refine ⟨fun i => if i = Gs.length then w.heap.size else r i, fun i => if i = Gs.length then 1 else c i, ?_, ?_, ?_⟩
  · have e : rvals (Gs ++ [[x]]) (fun i => if i = Gs.length then w.heap.size else r i) (fun i => if i = Gs.length then 1 else c i) = rvals Gs r c ++ [.slice (some ⟨w.heap.size, 0, none⟩) 1 1] := by
      unfold rvals
      rw [List.length_append]
      show List.map _ (List.range (Gs.length + 1)) = _
      rw [List.range_succ, List.map_append]
      congr 1
      · apply List.map_congr_left
        intro i hi
        have hi' := List.mem_range.1 hi
        have hne : i ≠ Gs.length := by omega
        simp only [if_neg hne]
        rw [getD_snoc_lt hi']
      · simp
    rw [e, List.length_append]
    exact hown
  · intro i hi
    rw [List.length_append] at hi
    have hi : i < Gs.length + 1 := hi
    by_cases e : i = Gs.length
    · subst e
      simp only [if_pos]
      rw [getD_snoc_eq]
      have h1 : (w.alloc (.cells #[.int .i64 (x : Int)] 3)).ownsRow base 3 1 (.slice (some ⟨w.heap.size, 0, none⟩) 1 1) 1 [.int .i64 (x : Int)] := World.ownsRow_lit w #[.int .i64 (x : Int)] 1 hbase (by decide) rfl
      refine ⟨?_, fun z hz => ?_⟩
      · refine (h1.alloc o).kept hg (Or.inr ?_)
        intro e2
        have := (h.own.lt w.heap.size e2.symm).2
        omega
      · simp [ints] at hz
        subst hz
        exact WalkArith.wf_i64 (by omega)
    · simp only [if_neg e]
      have hi' : i < Gs.length := by omega
      rw [getD_snoc_lt hi']
      have h1 := h.each i hi'
      exact ((h1.alloc _).alloc o).kept hg (Or.inr (fun e2 => h.ne i hi' e2.symm))
  · intro i j hi hj hne
    rw [List.length_append] at hi hj
    have hi : i < Gs.length + 1 := hi
    have hj : j < Gs.length + 1 := hj
    by_cases e1 : i = Gs.length
    · by_cases e2 : j = Gs.length
      · omega
      · simp only [if_pos e1, if_neg e2]
        have := ((h.each j (by omega)).1.lt (r j) rfl).2
        omega
    · by_cases e2 : j = Gs.length
      · simp only [if_neg e1, if_pos e2]
        have := ((h.each i (by omega)).1.lt (r i) rfl).2
        omega
      · simp only [if_neg e1, if_neg e2]
        exact h.apart i j (by omega) (by omega) hne

/-- One goes to a row. -/
theorem POut.grow {w w1 : World} {base g m cap k ρ κ : Nat} {Gs : List (List Nat)} {r c : Nat → Nat} (h : POut w base (.slice (some ⟨g, 0, none⟩) m cap) Gs r c) (hm : m = Gs.length) (hk : k < Gs.length) (x : Nat) (o : Obj)
    (hown : w1.ownsInts base 3 .i64 (.slice (some ⟨ρ, 0, none⟩) ((Gs.getD k []).length + 1) κ) (ints (Gs.getD k [] ++ [x]))) (hg : (w.alloc o).grownBy w1 (some (r k)))
    (hloc : ρ = r k ∨ ρ = w.heap.size + 1) :
    POut (w1.setCell ⟨g, k, none⟩ (.slice (some ⟨ρ, 0, none⟩) ((Gs.getD k []).length + 1) κ)) base (.slice (some ⟨g, 0, none⟩) m cap) (Gs.set k (Gs.getD k [] ++ [x])) (fun i => if i = k then ρ else r i) (fun i => if i = k then κ else c i) := by
  subst hm
  have hgk : g ≠ r k := fun e => h.ne k hk (by rw [← e]; rfl)
  have ht1 : w1.ownsRow base 48 1 (.slice (some ⟨g, 0, none⟩) Gs.length cap) Gs.length (rvals Gs r c) := (h.own.alloc o).kept hg (Or.inr (fun e => h.ne k hk e))
  have ht2 := ht1.stored k (.slice (some ⟨ρ, 0, none⟩) ((Gs.getD k []).length + 1) κ)
  have hset : ∀ i, i < Gs.length → (Gs.set k (Gs.getD k [] ++ [x])).getD i [] = if i = k then Gs.getD k [] ++ [x] else Gs.getD i [] := by
    intro i hi
    by_cases e : i = k
    · subst e; simp [hi]
    · rw [if_neg e]
      have this : ∀ G : List Nat, (Gs.set k G).getD i [] = Gs.getD i [] := by
        intro G
        rw [List.getD_eq_getElem?_getD, List.getElem?_set, if_neg (fun e2 => e e2.symm), ← List.getD_eq_getElem?_getD]
      exact this _
  have hglt : g < w.heap.size := (h.own.lt g rfl).2
  have hρ : ∀ i, i < Gs.length → i ≠ k → r i ≠ ρ := by
    intro i hi hn e
    rcases hloc with e2 | e2
    · exact h.apart i k hi hk hn (e.trans e2)
    · have := ((h.each i hi).1.lt (r i) rfl).2
      omega
  have hgρ : ρ ≠ g := by
    rcases hloc with e | e
    · rw [e]; exact fun e2 => hgk e2.symm
    · omega
  refine ⟨?_, ?_, ?_⟩
  · have e : rvals (Gs.set k (Gs.getD k [] ++ [x])) (fun i => if i = k then ρ else r i) (fun i => if i = k then κ else c i) = (rvals Gs r c).set k (.slice (some ⟨ρ, 0, none⟩) ((Gs.getD k []).length + 1) κ) := by
      apply List.ext_getElem
      · simp [rvals]
      · intro i h1 h2
        have hi : i < Gs.length := by simpa [rvals] using h1
        rw [List.getElem_set]
        simp only [rvals, List.getElem_map, List.getElem_range]
        rw [hset i hi]
        by_cases e : i = k
        · rw [if_pos e, if_pos e, if_pos e, if_pos e.symm, List.length_append]; rfl
        · rw [if_neg e, if_neg e, if_neg e, if_neg (fun e2 => e e2.symm)]
    rw [e, List.length_set]
    exact ht2.1
  · intro i hi
    rw [List.length_set] at hi
    rw [hset i hi]
    by_cases e : i = k
    · simp only [if_pos e, List.length_append]
      exact hown.kept ht2.2 (Or.inr (fun e2 => hgρ (by simpa [Value.ownBlock] using e2)))
    · simp only [if_neg e]
      have h1 := (h.each i hi).alloc o
      refine (h1.kept hg (Or.inr (fun e2 => h.apart i k hi hk e (by simpa [Value.ownBlock] using e2)))).kept ht2.2 (Or.inr (fun e2 => h.ne i hi (by simpa [Value.ownBlock] using e2.symm)))
  · intro i j hi hj hne
    rw [List.length_set] at hi hj
    by_cases e1 : i = k
    · by_cases e2 : j = k
      · omega
      · simp only [if_pos e1, if_neg e2]
        exact fun e => hρ j hj e2 e.symm
    · by_cases e2 : j = k
      · simp only [if_neg e1, if_pos e2]
        exact hρ i hi e1
      · simp only [if_neg e1, if_neg e2]
        exact h.apart i j hi hj hne

end Go.Proofs.YtebcjaenhiiflaaGreatDoor.S
