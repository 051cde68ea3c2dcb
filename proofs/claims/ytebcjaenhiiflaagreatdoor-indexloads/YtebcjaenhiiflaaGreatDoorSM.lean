/- Plain mathematics of sets that are put together. -/
import Derived.Test.YtebcjaenhiiflaaGreatDoorSW
namespace Go.Proofs.YtebcjaenhiiflaaGreatDoor.S

/-- A row in which each number has the least of its set. -/
structure Good (n : Nat) (L : List Nat) : Prop where
  len : L.length = n
  le : ∀ i, i < n → L.getD i 0 ≤ i
  idem : ∀ i, i < n → L.getD (L.getD i 0) 0 = L.getD i 0

theorem good_range (n : Nat) : Good n (List.range n) :=
  ⟨by simp, fun i hi => by simp [hi], fun i hi => by simp [hi]⟩

theorem joinL_length (L : List Nat) (x y : Nat) : (joinL L x y).length = L.length := by simp [joinL]

theorem joinL_at (L : List Nat) (x y i : Nat) (h : i < L.length) : (joinL L x y).getD i 0 = named (min (L.getD x 0) (L.getD y 0)) (max (L.getD x 0) (L.getD y 0)) (L.getD i 0) := by
  simp [joinL, h]

theorem named_le {lo hi l : Nat} (h : lo ≤ hi) : named lo hi l ≤ l := by
  unfold named; split <;> omega

theorem good_join {n : Nat} {L : List Nat} (g : Good n L) {x y : Nat} (hx : x < n) (hy : y < n) : Good n (joinL L x y) := by
  have hlen := g.len
  have hmm : min (L.getD x 0) (L.getD y 0) ≤ max (L.getD x 0) (L.getD y 0) := by omega
  have hlo : L.getD (min (L.getD x 0) (L.getD y 0)) 0 = min (L.getD x 0) (L.getD y 0) := by
    rcases Nat.le_total (L.getD x 0) (L.getD y 0) with h | h
    · rw [Nat.min_eq_left h]; exact g.idem x hx
    · rw [Nat.min_eq_right h]; exact g.idem y hy
  refine ⟨by rw [joinL_length]; exact hlen, fun i hi => ?_, fun i hi => ?_⟩
  · rw [joinL_at _ _ _ _ (by omega)]
    exact Nat.le_trans (named_le hmm) (g.le i hi)
  · have h1 : (joinL L x y).getD i 0 < n := by
      rw [joinL_at _ _ _ _ (by omega)]
      have := named_le (l := L.getD i 0) hmm
      have := g.le i hi
      omega
    rw [joinL_at _ _ _ _ (by rw [hlen]; exact h1)]
    rw [joinL_at _ _ _ i (by omega)]
    generalize hlo' : min (L.getD x 0) (L.getD y 0) = lo at *
    generalize max (L.getD x 0) (L.getD y 0) = hi' at *
    by_cases e : L.getD i 0 = hi'
    · have : named lo hi' (L.getD i 0) = lo := by unfold named; rw [if_pos e]
      rw [this, hlo]
      unfold named; split <;> rfl
    · have : named lo hi' (L.getD i 0) = L.getD i 0 := by unfold named; rw [if_neg e]
      rw [this, g.idem i hi, this]

theorem cnt_eq (f : Nat → Bool) : ∀ n, ((List.range n).filter f).length = cnt f n
  | 0 => rfl
  | k + 1 => by
    rw [List.range_succ, List.filter_append, List.length_append, cnt_eq f k, List.filter_cons]
    simp only [cnt]
    cases f k <;> simp

theorem mem_grp {L : List Nat} {n x i : Nat} : i ∈ grp L n x ↔ i < n ∧ L.getD i 0 = x := by
  unfold grp
  rw [List.mem_filter, List.mem_range, beq_iff_eq]

theorem grp_length (L : List Nat) (n x : Nat) : (grp L n x).length = cnt (fun i => L.getD i 0 == x) n := cnt_eq _ n

theorem grp_some {n : Nat} {L : List Nat} (g : Good n L) {x : Nat} (hx : x < n) : grp L n x ≠ [] ↔ L.getD x 0 = x := by
  constructor
  · intro h
    obtain ⟨i, hi⟩ := List.exists_mem_of_ne_nil _ h
    obtain ⟨h1, h2⟩ := mem_grp.1 hi
    have := g.idem i h1
    rw [h2] at this; exact this
  · intro h e
    have : x ∈ grp L n x := mem_grp.2 ⟨hx, h⟩
    rw [e] at this; cases this

theorem grps_at {n : Nat} {L : List Nat} (g : Good n L) (i : Nat) (hi : i < (grps L n).length) : ∃ x, x < n ∧ L.getD x 0 = x ∧ (grps L n).getD i [] = grp L n x := by
  have hm : (grps L n).getD i [] ∈ grps L n := by
    have : (grps L n).getD i [] = (grps L n)[i] := by simp [hi]
    rw [this]; exact List.getElem_mem hi
  generalize (grps L n).getD i [] = G at hm
  unfold grps at hm
  rw [List.mem_filter, List.mem_map] at hm
  obtain ⟨⟨x, hx, e⟩, hne⟩ := hm
  rw [g.len] at e
  rw [List.mem_range] at hx
  refine ⟨x, hx, (grp_some g hx).1 (fun h => ?_), e.symm⟩
  rw [← e, h] at hne
  simp at hne

end Go.Proofs.YtebcjaenhiiflaaGreatDoor.S
