/- Plain mathematics of sets that are put together. -/
import Derived.Test.YtpkdpddillebfabSW
namespace Go.Proofs.Ytpkdpddillebfab.S



/-- A row in which each number has the least of its set. -/
structure Good (n : Nat) (L : List Nat) : Prop where
  len : L.length = n
  le : ∀ i, i < n → L.getD i 0 ≤ i
  idem : ∀ i, i < n → L.getD (L.getD i 0) 0 = L.getD i 0

theorem good_range (n : Nat) : Good n (List.range n) :=
  ⟨by simp, fun i hi => by simp [hi], fun i hi => by simp [hi]⟩

theorem joinL_length (L : List Nat) (x y : Nat) : (joinL L x y).length = L.length := by simp [joinL]

theorem joinL_at (L : List Nat) (x y i : Nat) (h : i < L.length) : (joinL L x y).getD i 0 = named (min (L.getD x 0) (L.getD y 0)) (max (L.getD x 0) (L.getD y 0)) (L.getD i 0) := by
  simp [joinL, h]

theorem named_le {lo hi l : Nat} (h : lo ≤ hi) : named lo hi l ≤ l := by
  unfold named; split <;> omega

theorem good_join {n : Nat} {L : List Nat} (g : Good n L) {x y : Nat} (hx : x < n) (hy : y < n) : Good n (joinL L x y) := by
  have hlen := g.len
  have hmm : min (L.getD x 0) (L.getD y 0) ≤ max (L.getD x 0) (L.getD y 0) := by omega
  have hlo : L.getD (min (L.getD x 0) (L.getD y 0)) 0 = min (L.getD x 0) (L.getD y 0) := by
    rcases Nat.le_total (L.getD x 0) (L.getD y 0) with h | h
    · rw [Nat.min_eq_left h]; exact g.idem x hx
    · rw [Nat.min_eq_right h]; exact g.idem y hy
  refine ⟨by rw [joinL_length]; exact hlen, fun i hi => ?_, fun i hi => ?_⟩
  · rw [joinL_at _ _ _ _ (by omega)]
    exact Nat.le_trans (named_le hmm) (g.le i hi)
  · have h1 : (joinL L x y).getD i 0 < n := by
      rw [joinL_at _ _ _ _ (by omega)]
      have := named_le (l := L.getD i 0) hmm
      have := g.le i hi
      omega
    rw [joinL_at _ _ _ _ (by rw [hlen]; exact h1)]
    rw [joinL_at _ _ _ i (by omega)]
    generalize hlo' : min (L.getD x 0) (L.getD y 0) = lo at *
    generalize max (L.getD x 0) (L.getD y 0) = hi' at *
    by_cases e : L.getD i 0 = hi'
    · have : named lo hi' (L.getD i 0) = lo := by unfold named; rw [if_pos e]
      rw [this, hlo]
      unfold named; split <;> rfl
    · have : named lo hi' (L.getD i 0) = L.getD i 0 := by unfold named; rw [if_neg e]
      rw [this, g.idem i hi, this]

theorem cnt_eq (f : Nat → Bool) : ∀ n, ((List.range n).filter f).length = cnt f n
  | 0 => rfl
  | k + 1 => by
    rw [List.range_succ, List.filter_append, List.length_append, cnt_eq f k, List.filter_cons]
    simp only [cnt]
    cases f k <;> simp

theorem mem_grp {L : List Nat} {n x i : Nat} : i ∈ grp L n x ↔ i < n ∧ L.getD i 0 = x := by
  unfold grp
  rw [List.mem_filter, List.mem_range, beq_iff_eq]

theorem grp_length (L : List Nat) (n x : Nat) : (grp L n x).length = cnt (fun i => L.getD i 0 == x) n := cnt_eq _ n

theorem grp_some {n : Nat} {L : List Nat} (g : Good n L) {x : Nat} (hx : x < n) : grp L n x ≠ [] ↔ L.getD x 0 = x := by
  constructor
  · intro h
    obtain ⟨i, hi⟩ := List.exists_mem_of_ne_nil _ h
    obtain ⟨h1, h2⟩ := mem_grp.1 hi
    have := g.idem i h1
    rw [h2] at this; exact this
  · intro h e
    have : x ∈ grp L n x := mem_grp.2 ⟨hx, h⟩
    rw [e] at this; cases this

theorem grps_at {n : Nat} {L : List Nat} (g : Good n L) (i : Nat) (hi : i < (grps L n).length) : ∃ x, x < n ∧ L.getD x 0 = x ∧ (grps L n).getD i [] = grp L n x := by
  have hm : (grps L n).getD i [] ∈ grps L n := by
    have : (grps L n).getD i [] = (grps L n)[i] := by simp [hi]
    rw [this]; exact List.getElem_mem hi
  generalize (grps L n).getD i [] = G at hm
  unfold grps at hm
  rw [List.mem_filter, List.mem_map] at hm
  obtain ⟨⟨x, hx, e⟩, hne⟩ := hm
  rw [g.len] at e
  rw [List.mem_range] at hx
  refine ⟨x, hx, (grp_some g hx).1 (fun h => ?_), e.symm⟩
  rw [← e, h] at hne
  simp at hne

end Go.Proofs.Ytpkdpddillebfab.S
namespace Go.Proofs.Ytpkdpddillebfab.S
open Go.RowKit


set_option maxHeartbeats 400000 in
theorem same_in (x y p b : Nat) (L : List Nat) (s : Bool) (w : World) (hs : SetsAt w p b L) (hx : x < L.length) (hy : y < L.length) (hv : (((L.getD x 0 : Nat) : Int) == ((L.getD y 0 : Nat) : Int)) = s) :
    Calls Try.prog 39 #[.pointer (some ⟨p, 0, none⟩), .int .i64 (x : Int), .int .i64 (y : Int)] w fun e w' => e = .returned (.tuple #[.bool s, .nilIface]) ∧ Below w.heap.size w w' := by
  go_enter Try.func39, Try.ntmps39
  go_wp2_with fail
  refine (check2_in (x : Int) (y : Int) w.heap.size p b 2 L _ (sets_alloc hs _) ?c1 ?c2 ?c3 (by omega) (by omega) (by omega) (by omega)).mono ?_
  case c1 => simp
  case c2 => simp
  case c3 => simp
  rintro e w' ⟨rfl, rfl⟩
  have hs2 := sets_alloc (sets_alloc hs (Obj.cells #[Value.int IntKind.i64 ↑x, Value.int IntKind.i64 ↑y] 3)) (Obj.cells #[Value.pointer (some { block := p, off := 0 })] 73)
  have hb := below_two w (Obj.cells #[Value.int IntKind.i64 ↑x, Value.int IntKind.i64 ↑y] 3) (Obj.cells #[Value.pointer (some { block := p, off := 0 })] 73)
  generalize (w.alloc (Obj.cells #[Value.int IntKind.i64 ↑x, Value.int IntKind.i64 ↑y] 3)).alloc (Obj.cells #[Value.pointer (some { block := p, off := 0 })] 73) = W at hs2 hb ⊢
  have HB : Hid (Below w.heap.size w W) := hb
  clear hb hs
  have hp := hs2.pcell
  have hcx := hs2.bcell x hx
  have hcy := hs2.bcell y hy
  clear hs2
  generalize L.getD x 0 = X at *
  generalize L.getD y 0 = Y at *
  go_wp2_with fail
  go_quiet (fail)
  clear hcx hcy hp
  go_wp2_with fail
  go_ret2
  exact ⟨by simp, below_drewN HB.out _⟩

end Go.Proofs.Ytpkdpddillebfab.S
namespace Go.Proofs.Ytpkdpddillebfab.S
open Go.RowKit


/-- The rows as values. -/
def rvals (Gs : List (List Nat)) (r c : Nat → Nat) : List Value := (List.range Gs.length).map fun i => .slice (some ⟨r i, 0, none⟩) (Gs.getD i []).length (c i)

/-- What t is: a row of rows. -/
structure POut (w : World) (base : Nat) (t : Value) (Gs : List (List Nat)) (r c : Nat → Nat) : Prop where
  own : w.ownsRow base 34 1 t Gs.length (rvals Gs r c)
  each : ∀ i, i < Gs.length → w.ownsInts base 3 .i64 (.slice (some ⟨r i, 0, none⟩) (Gs.getD i []).length (c i)) (ints (Gs.getD i []))
  apart : ∀ i j, i < Gs.length → j < Gs.length → i ≠ j → r i ≠ r j

/-- The row of rows lies in none of the rows. -/
theorem POut.ne {w : World} {base : Nat} {t : Value} {Gs : List (List Nat)} {r c : Nat → Nat} (h : POut w base t Gs r c) (i : Nat) (hi : i < Gs.length) : t.ownBlock ≠ some (r i) := by
  intro e
  have h2 := (h.each i hi).1.2
  rcases h.own.2 with ⟨rfl, _⟩ | ⟨g, cap, cur, rfl, _, hg, _⟩
  · simp [Value.ownBlock] at e
  · simp only [Value.ownBlock, Option.some.injEq] at e
    rcases h2 with ⟨h3, _⟩ | ⟨g', cap', cur', h3, _, hg', _⟩
    · cases h3
    · simp only [Value.slice.injEq, Option.some.injEq, Addr.mk.injEq] at h3
      rw [← h3.1.1, ← e, hg] at hg'
      injection hg' with h4
      injection h4 with _ h5
      exact absurd h5 (by decide)

end Go.Proofs.Ytpkdpddillebfab.S
