/- Plain mathematics of sets that are put together. -/
import Derived.Test.YtigodbamphejmaaGreatDoorSW
import Derived.Deep.RegionHeld
import Derived.Deep.DeepCutAuto
import Derived.Deep.LoopGhost
namespace Go.Proofs.YtigodbamphejmaaGreatDoor.S

/-- A row in which each number has the least of its set. -/
structure Good (n : Nat) (L : List Nat) : Prop where
  len : L.length = n
  le : ∀ i, i < n → L.getD i 0 ≤ i
  idem : ∀ i, i < n → L.getD (L.getD i 0) 0 = L.getD i 0

theorem good_range (n : Nat) : Good n (List.range n) :=
  ⟨by simp, fun i hi => by simp [hi], fun i hi => by simp [hi]⟩

theorem joinL_length (L : List Nat) (x y : Nat) : (joinL L x y).length = L.length := by simp [joinL]

theorem joinL_at (L : List Nat) (x y i : Nat) (h : i < L.length) : (joinL L x y).getD i 0 = named (min (L.getD x 0) (L.getD y 0)) (max (L.getD x 0) (L.getD y 0)) (L.getD i 0) := by
  simp [joinL, h]

theorem named_le {lo hi l : Nat} (h : lo ≤ hi) : named lo hi l ≤ l := by
  unfold named; split <;> omega

theorem good_join {n : Nat} {L : List Nat} (g : Good n L) {x y : Nat} (hx : x < n) (hy : y < n) : Good n (joinL L x y) := by
  have hlen := g.len
  have hmm : min (L.getD x 0) (L.getD y 0) ≤ max (L.getD x 0) (L.getD y 0) := by omega
  have hlo : L.getD (min (L.getD x 0) (L.getD y 0)) 0 = min (L.getD x 0) (L.getD y 0) := by
    rcases Nat.le_total (L.getD x 0) (L.getD y 0) with h | h
    · rw [Nat.min_eq_left h]; exact g.idem x hx
    · rw [Nat.min_eq_right h]; exact g.idem y hy
  refine ⟨by rw [joinL_length]; exact hlen, fun i hi => ?_, fun i hi => ?_⟩
  · rw [joinL_at _ _ _ _ (by omega)]
    exact Nat.le_trans (named_le hmm) (g.le i hi)
  · have h1 : (joinL L x y).getD i 0 < n := by
      rw [joinL_at _ _ _ _ (by omega)]
      have := named_le (l := L.getD i 0) hmm
      have := g.le i hi
      omega
    rw [joinL_at _ _ _ _ (by rw [hlen]; exact h1)]
    rw [joinL_at _ _ _ i (by omega)]
    generalize hlo' : min (L.getD x 0) (L.getD y 0) = lo at *
    generalize max (L.getD x 0) (L.getD y 0) = hi' at *
    by_cases e : L.getD i 0 = hi'
    · have : named lo hi' (L.getD i 0) = lo := by unfold named; rw [if_pos e]
      rw [this, hlo]
      unfold named; split <;> rfl
    · have : named lo hi' (L.getD i 0) = L.getD i 0 := by unfold named; rw [if_neg e]
      rw [this, g.idem i hi, this]

theorem cnt_eq (f : Nat → Bool) : ∀ n, ((List.range n).filter f).length = cnt f n
  | 0 => rfl
  | k + 1 => by
    rw [List.range_succ, List.filter_append, List.length_append, cnt_eq f k, List.filter_cons]
    simp only [cnt]
    cases f k <;> simp

theorem mem_grp {L : List Nat} {n x i : Nat} : i ∈ grp L n x ↔ i < n ∧ L.getD i 0 = x := by
  unfold grp
  rw [List.mem_filter, List.mem_range, beq_iff_eq]

theorem grp_length (L : List Nat) (n x : Nat) : (grp L n x).length = cnt (fun i => L.getD i 0 == x) n := cnt_eq _ n

theorem grp_some {n : Nat} {L : List Nat} (g : Good n L) {x : Nat} (hx : x < n) : grp L n x ≠ [] ↔ L.getD x 0 = x := by
  constructor
  · intro h
    obtain ⟨i, hi⟩ := List.exists_mem_of_ne_nil _ h
    obtain ⟨h1, h2⟩ := mem_grp.1 hi
    have := g.idem i h1
    rw [h2] at this; exact this
  · intro h e
    have : x ∈ grp L n x := mem_grp.2 ⟨hx, h⟩
    rw [e] at this; cases this

theorem grps_at {n : Nat} {L : List Nat} (g : Good n L) (i : Nat) (hi : i < (grps L n).length) : ∃ x, x < n ∧ L.getD x 0 = x ∧ (grps L n).getD i [] = grp L n x := by
  have hm : (grps L n).getD i [] ∈ grps L n := by
    have : (grps L n).getD i [] = (grps L n)[i] := by simp [hi]
    rw [this]; exact List.getElem_mem hi
  generalize (grps L n).getD i [] = G at hm
  unfold grps at hm
  rw [List.mem_filter, List.mem_map] at hm
  obtain ⟨⟨x, hx, e⟩, hne⟩ := hm
  rw [g.len] at e
  rw [List.mem_range] at hx
  refine ⟨x, hx, (grp_some g hx).1 (fun h => ?_), e.symm⟩
  rw [← e, h] at hne
  simp at hne

end Go.Proofs.YtigodbamphejmaaGreatDoor.S
namespace Go.Proofs.YtigodbamphejmaaGreatDoor.S
open Go.RowKit

/-- A number that is none of the members. -/
def Strange (n : Nat) (x : Int) : Prop := x < 0 ∨ (n : Int) ≤ x

set_option maxHeartbeats 400000 in
theorem new_out (n : Int) (w : World) (h : n < 0 ∨ 40 < n) :
    Calls Tryz.prog 41 #[.int .i64 n] w fun e w' => e = .returned (.tuple #[.pointer none, .iface 29 (.int .i64 2)]) ∧ Below w.heap.size w w' := by
  rcases h with h | h
  · go_enter Tryz.func41, Tryz.ntmps41
    go_wp2
    go_ret2
    exact ⟨rfl, Below.refl _ _⟩
  · have h0 : ¬ n < 0 := by omega
    go_enter Tryz.func41, Tryz.ntmps41
    go_wp2
    go_ret2
    exact ⟨rfl, Below.refl _ _⟩

set_option maxHeartbeats 400000 in
theorem join_out (x y : Int) (p b : Nat) (L : List Nat) (w : World) (hs : SetsAt w p b L) (hx : Strange L.length x ∨ Strange L.length y) :
    Calls Tryz.prog 45 #[.pointer (some ⟨p, 0, none⟩), .int .i64 x, .int .i64 y] w fun e w' => e = .returned (.tuple #[.bool false, .iface 29 (.int .i64 2)]) ∧ Below w.heap.size w w' := by
  have HX : Hid (Strange L.length x ∨ Strange L.length y) := hx
  clear hx
  go_enter Tryz.func45, Tryz.ntmps45
  go_wp2_with fail
  refine (check2_out x y w.heap.size p b 2 L _ (sets_alloc hs _) (by simp) (by simp) (by simp) HX.out).mono ?_
  rintro e w' ⟨rfl, rfl⟩
  clear hs
  go_wp2
  go_ret2
  exact ⟨rfl, below_two _ _ _⟩

set_option maxHeartbeats 400000 in
theorem same_out (x y : Int) (p b : Nat) (L : List Nat) (w : World) (hs : SetsAt w p b L) (hx : Strange L.length x ∨ Strange L.length y) :
    Calls Tryz.prog 54 #[.pointer (some ⟨p, 0, none⟩), .int .i64 x, .int .i64 y] w fun e w' => e = .returned (.tuple #[.bool false, .iface 29 (.int .i64 2)]) ∧ Below w.heap.size w w' := by
  have HX : Hid (Strange L.length x ∨ Strange L.length y) := hx
  clear hx
  go_enter Tryz.func54, Tryz.ntmps54
  go_wp2_with fail
  refine (check2_out x y w.heap.size p b 2 L _ (sets_alloc hs _) (by simp) (by simp) (by simp) HX.out).mono ?_
  rintro e w' ⟨rfl, rfl⟩
  clear hs
  go_wp2
  go_ret2
  exact ⟨rfl, below_two _ _ _⟩

set_option maxHeartbeats 400000 in
theorem same_in (x y p b : Nat) (L : List Nat) (s : Bool) (w : World) (hs : SetsAt w p b L) (hx : x < L.length) (hy : y < L.length) (hv : (((L.getD x 0 : Nat) : Int) == ((L.getD y 0 : Nat) : Int)) = s) :
    Calls Tryz.prog 54 #[.pointer (some ⟨p, 0, none⟩), .int .i64 (x : Int), .int .i64 (y : Int)] w fun e w' => e = .returned (.tuple #[.bool s, .nilIface]) ∧ Below w.heap.size w w' := by
  go_enter Tryz.func54, Tryz.ntmps54
  go_wp2_with fail
  refine (check2_in (x : Int) (y : Int) w.heap.size p b 2 L _ (sets_alloc hs _) ?c1 ?c2 ?c3 (by omega) (by omega) (by omega) (by omega)).mono ?_
  case c1 => simp
  case c2 => simp
  case c3 => simp
  rintro e w' ⟨rfl, rfl⟩
  have hs2 := sets_alloc (sets_alloc hs (Obj.cells #[Value.int IntKind.i64 ↑x, Value.int IntKind.i64 ↑y] 3)) (Obj.cells #[Value.pointer (some { block := p, off := 0 })] 64)
  have hb := below_two w (Obj.cells #[Value.int IntKind.i64 ↑x, Value.int IntKind.i64 ↑y] 3) (Obj.cells #[Value.pointer (some { block := p, off := 0 })] 64)
  generalize (w.alloc (Obj.cells #[Value.int IntKind.i64 ↑x, Value.int IntKind.i64 ↑y] 3)).alloc (Obj.cells #[Value.pointer (some { block := p, off := 0 })] 64) = W at hs2 hb ⊢
  have HB : Hid (Below w.heap.size w W) := hb
  clear hb hs
  have hp := hs2.pcell
  have hcx := hs2.bcell x hx
  have hcy := hs2.bcell y hy
  clear hs2
  generalize L.getD x 0 = X at *
  generalize L.getD y 0 = Y at *
  go_wp2_with fail
  go_quiet (fail)
  clear hcx hcy hp
  go_wp2_with fail
  go_ret2
  exact ⟨by simp, below_drewN HB.out _⟩

end Go.Proofs.YtigodbamphejmaaGreatDoor.S
namespace Go.Proofs.YtigodbamphejmaaGreatDoor.S

/-- The least ones below x. -/
def lst (L : List Nat) (x : Nat) : List Nat := (List.range x).filter fun y => L.getD y 0 == y

/-- The parts of the numbers below x. -/
def pgr (L : List Nat) (x : Nat) : List (List Nat) := (lst L x).map (grp L x)

theorem mem_lst {L : List Nat} {x y : Nat} : y ∈ lst L x ↔ y < x ∧ L.getD y 0 = y := by
  unfold lst
  rw [List.mem_filter, List.mem_range, beq_iff_eq]

theorem pgr_length (L : List Nat) (x : Nat) : (pgr L x).length = (lst L x).length := by simp [pgr]

theorem pgr_at (L : List Nat) (x i : Nat) (h : i < (lst L x).length) : (pgr L x).getD i [] = grp L x ((lst L x).getD i 0) := by
  simp [pgr, h]

theorem lst_at {L : List Nat} {x i : Nat} (h : i < (lst L x).length) : (lst L x).getD i 0 < x ∧ L.getD ((lst L x).getD i 0) 0 = (lst L x).getD i 0 := by
  have hm : (lst L x).getD i 0 ∈ lst L x := by
    have : (lst L x).getD i 0 = (lst L x)[i] := by simp [h]
    rw [this]; exact List.getElem_mem h
  exact mem_lst.1 hm

theorem grp_head' {n x : Nat} {L : List Nat} (g : Good n L) (hx : x ≤ n) {y : Nat} (hy : y < x) (h : L.getD y 0 = y) : (grp L x y).getD 0 0 = y := by
  have hxm : y ∈ grp L x y := mem_grp.2 ⟨hy, h⟩
  have hp : (grp L x y).Pairwise (· < ·) := by
    unfold grp
    exact List.Pairwise.filter _ List.pairwise_lt_range
  have hle : ∀ i ∈ grp L x y, y ≤ i := fun i hi => by
    obtain ⟨h1, h2⟩ := mem_grp.1 hi
    have := g.le i (by omega)
    omega
  cases hg : grp L x y with
  | nil => rw [hg] at hxm; cases hxm
  | cons a r =>
    rw [hg] at hxm hp hle
    show a = y
    have h1 := hle a (by simp)
    rcases List.mem_cons.1 hxm with h2 | h2
    · exact h2.symm
    · have := (List.pairwise_cons.1 hp).1 y h2
      omega

theorem grp_pos {x y : Nat} {L : List Nat} (hy : y < x) (h : L.getD y 0 = y) : 0 < (grp L x y).length :=
  List.length_pos_iff.2 (fun e => by
    have : y ∈ grp L x y := mem_grp.2 ⟨hy, h⟩
    rw [e] at this; cases this)

theorem lst_succ_least {L : List Nat} {x : Nat} (h : L.getD x 0 = x) : lst L (x + 1) = lst L x ++ [x] := by
  have hb : (L.getD x 0 == x) = true := beq_iff_eq.2 h
  unfold lst
  rw [List.range_succ, List.filter_append, List.filter_cons, hb]
  simp

theorem lst_succ_other {L : List Nat} {x : Nat} (h : L.getD x 0 ≠ x) : lst L (x + 1) = lst L x := by
  have hb : (L.getD x 0 == x) = false := beq_eq_false_iff_ne.2 h
  unfold lst
  rw [List.range_succ, List.filter_append, List.filter_cons, hb]
  simp

theorem lst_inj (L : List Nat) (x i j : Nat) (hi : i < (lst L x).length) (hj : j < (lst L x).length) (e : (lst L x)[i] = (lst L x)[j]) : i = j := by
  have hp : (lst L x).Pairwise (· < ·) := by
    unfold lst
    exact List.Pairwise.filter _ List.pairwise_lt_range
  rw [List.pairwise_iff_getElem] at hp
  rcases Nat.lt_trichotomy i j with h | h | h
  · have := hp i j hi hj h
    omega
  · exact h
  · have := hp j i hj hi h
    omega

/-- A number goes to the part of its least one. -/
theorem pgr_found {x i : Nat} {L : List Nat} (hi : i < (lst L x).length) (h : (lst L x).getD i 0 = L.getD x 0) : pgr L (x + 1) = (pgr L x).set i (grp L x ((lst L x).getD i 0) ++ [x]) := by
  have hl := lst_at hi
  have hne : L.getD x 0 ≠ x := by omega
  unfold pgr
  rw [lst_succ_other hne]
  apply List.ext_getElem
  · simp
  · intro j h1 h2
    rw [List.getElem_set]
    simp only [List.getElem_map]
    have hj : j < (lst L x).length := by simpa using h1
    by_cases e : i = j
    · subst e
      have e1 : (lst L x)[i] = (lst L x).getD i 0 := by simp [hi]
      rw [if_pos rfl, e1, h, grp_succ_same]
    · rw [if_neg e]
      have e1 : (lst L x)[i] = (lst L x).getD i 0 := by simp [hi]
      have hn : (lst L x)[j] ≠ L.getD x 0 := by
        rw [← h, ← e1]
        intro e2
        exact e (lst_inj L x i j hi hj e2.symm)
      rw [grp_succ_other L x _ (fun e3 => hn e3.symm)]

/-- A number that is the least one of its own begins a part. -/
theorem pgr_none {n x : Nat} {L : List Nat} (g : Good n L) (hx : x < n) (h : ∀ i, i < (lst L x).length → (lst L x).getD i 0 ≠ L.getD x 0) : pgr L (x + 1) = pgr L x ++ [[x]] := by
  have hLx : L.getD x 0 = x := by
    have h1 := g.le x hx
    have h2 := g.idem x hx
    rcases Nat.lt_or_ge (L.getD x 0) x with h3 | h3
    · have hm : L.getD x 0 ∈ lst L x := mem_lst.2 ⟨h3, h2⟩
      obtain ⟨i, hi, e⟩ := List.getElem_of_mem hm
      exact absurd (by rw [← e]; simp [hi]) (h i hi)
    · omega
  unfold pgr
  rw [lst_succ_least hLx, List.map_append]
  congr 1
  · apply List.map_congr_left
    intro y hy
    exact grp_succ_other L x y (by have := (mem_lst.1 hy).1; omega)
  · have e : grp L (x + 1) x = grp L x x ++ [x] := by
      have := grp_succ_same L x
      rw [hLx] at this; exact this
    have e2 : grp L x x = [] := by
      cases hg : grp L x x with
      | nil => rfl
      | cons a r =>
        have : a ∈ grp L x x := by rw [hg]; simp
        obtain ⟨h1, h2⟩ := mem_grp.1 this
        have := g.le a (by omega)
        omega
    simp [e, e2]

theorem pgr_all {n : Nat} {L : List Nat} (g : Good n L) : pgr L n = grps L n := by
  unfold pgr grps
  rw [g.len]
  rw [List.filter_map]
  congr 1
  unfold lst
  apply List.filter_congr
  intro y hy
  have hy' := List.mem_range.1 hy
  have hs := grp_some g hy'
  rw [Bool.eq_iff_iff, beq_iff_eq]
  simp only [Function.comp, Bool.not_eq_true', List.isEmpty_eq_false_iff]
  exact hs.symm

end Go.Proofs.YtigodbamphejmaaGreatDoor.S
namespace Go.Proofs.YtigodbamphejmaaGreatDoor.S
open Go.RowKit

/-- The rows as values. -/
def rvals (Gs : List (List Nat)) (r c : Nat → Nat) : List Value := (List.range Gs.length).map fun i => .slice (some ⟨r i, 0, none⟩) (Gs.getD i []).length (c i)

theorem rvals_at (Gs : List (List Nat)) (r c : Nat → Nat) (i : Nat) (h : i < Gs.length) : (rvals Gs r c)[i]? = some (.slice (some ⟨r i, 0, none⟩) (Gs.getD i []).length (c i)) := by
  simp [rvals, h]

/-- What t is: a row of rows. -/
structure POut (w : World) (base : Nat) (t : Value) (Gs : List (List Nat)) (r c : Nat → Nat) : Prop where
  own : w.ownsRow base 39 1 t Gs.length (rvals Gs r c)
  each : ∀ i, i < Gs.length → w.ownsInts base 3 .i64 (.slice (some ⟨r i, 0, none⟩) (Gs.getD i []).length (c i)) (ints (Gs.getD i []))
  apart : ∀ i j, i < Gs.length → j < Gs.length → i ≠ j → r i ≠ r j

theorem pout_start (w : World) (base : Nat) (r c : Nat → Nat) : POut w base (.slice none 0 0) [] r c :=
  ⟨World.ownsRow_nil _ _ _ _, fun i hi => absurd hi (by simp), fun i j hi => absurd hi (by simp)⟩

theorem pout_drewN {w : World} {base : Nat} {t : Value} {Gs : List (List Nat)} {r c : Nat → Nat} (h : POut w base t Gs r c) (n : Nat) : POut (w.drewN n) base t Gs r c := ⟨h.own, h.each, h.apart⟩

/-- The row of rows lies in none of the rows. -/
theorem POut.ne {w : World} {base : Nat} {t : Value} {Gs : List (List Nat)} {r c : Nat → Nat} (h : POut w base t Gs r c) (i : Nat) (hi : i < Gs.length) : t.ownBlock ≠ some (r i) := by
  intro e
  have h2 := (h.each i hi).1.2
  rcases h.own.2 with ⟨rfl, _⟩ | ⟨g, cap, cur, rfl, _, hg, _⟩
  · simp [Value.ownBlock] at e
  · simp only [Value.ownBlock, Option.some.injEq] at e
    rcases h2 with ⟨h3, _⟩ | ⟨g', cap', cur', h3, _, hg', _⟩
    · cases h3
    · simp only [Value.slice.injEq, Option.some.injEq, Addr.mk.injEq] at h3
      rw [← h3.1.1, ← e, hg] at hg'
      injection hg' with h4
      injection h4 with _ h5
      exact absurd h5 (by decide)

/-- A row's first cell. -/
theorem POut.head {w : World} {base : Nat} {t : Value} {Gs : List (List Nat)} {r c : Nat → Nat} (h : POut w base t Gs r c) (i : Nat) (hi : i < Gs.length) (hp : 0 < (Gs.getD i []).length) : w.cell? ⟨r i, 0, none⟩ = some (.int .i64 (((Gs.getD i []).getD 0 0 : Nat) : Int)) := by
  have h1 := (h.each i hi).1
  rw [ints_length] at h1
  rw [h1.cellAt 0 (by omega)]
  generalize Gs.getD i [] = G at *
  simp [ints, hp]

theorem POut.outcell {w : World} {base g m cap : Nat} {Gs : List (List Nat)} {r c : Nat → Nat} (h : POut w base (.slice (some ⟨g, 0, none⟩) m cap) Gs r c) (hm : m = Gs.length) (i : Nat) (hi : i < Gs.length) : w.cell? ⟨g, i, none⟩ = some (.slice (some ⟨r i, 0, none⟩) (Gs.getD i []).length (c i)) := by
  subst hm
  rw [h.own.cellAt i (by omega), rvals_at _ _ _ _ hi]

/-- What t is where there is a row: a slice at the head of a block. -/
theorem POut.shape {w : World} {base : Nat} {t : Value} {Gs : List (List Nat)} {r c : Nat → Nat} (h : POut w base t Gs r c) : ∃ a cap, t = .slice a Gs.length cap ∧ (0 < Gs.length → ∃ g, a = some ⟨g, 0, none⟩) := by
  rcases h.own.2 with ⟨rfl, h0⟩ | ⟨g, cap, cur, rfl, _⟩
  · exact ⟨none, 0, by rw [h0], fun h => absurd h (by omega)⟩
  · exact ⟨_, cap, rfl, fun _ => ⟨g, rfl⟩⟩

theorem getD_snoc_lt {Gs : List (List Nat)} {G : List Nat} {i : Nat} (h : i < Gs.length) : (Gs ++ [G]).getD i [] = Gs.getD i [] := by simp [List.getElem?_append_left h]

theorem getD_snoc_eq {Gs : List (List Nat)} {G : List Nat} : (Gs ++ [G]).getD Gs.length [] = G := by simp

/-- A row of its own is begun. -/
theorem POut.snoc {w w1 : World} {base : Nat} {t v' : Value} {Gs : List (List Nat)} {r c : Nat → Nat} (h : POut w base t Gs r c) (hbase : base ≤ w.heap.size) (x : Nat) (o : Obj)
    (hown : w1.ownsRow base 39 1 v' (Gs.length + 1) (rvals Gs r c ++ [.slice (some ⟨w.heap.size, 0, none⟩) 1 1])) (hg : ((w.alloc (.cells #[.int .i64 (x : Int)] 3)).alloc o).grownBy w1 t.ownBlock) (hx : x ≤ 1000000) :
    ∃ r' c', POut w1 base v' (Gs ++ [[x]]) r' c' := by
  refine ⟨fun i => if i = Gs.length then w.heap.size else r i, fun i => if i = Gs.length then 1 else c i, ?_, ?_, ?_⟩
  · have e : rvals (Gs ++ [[x]]) (fun i => if i = Gs.length then w.heap.size else r i) (fun i => if i = Gs.length then 1 else c i) = rvals Gs r c ++ [.slice (some ⟨w.heap.size, 0, none⟩) 1 1] := by
      unfold rvals
      rw [List.length_append]
      show List.map _ (List.range (Gs.length + 1)) = _
      rw [List.range_succ, List.map_append]
      congr 1
      · apply List.map_congr_left
        intro i hi
        have hi' := List.mem_range.1 hi
        have hne : i ≠ Gs.length := by omega
        simp only [if_neg hne]
        rw [getD_snoc_lt hi']
      · simp
    rw [e, List.length_append]
    exact hown
  · intro i hi
    rw [List.length_append] at hi
    have hi : i < Gs.length + 1 := hi
    by_cases e : i = Gs.length
    · subst e
      simp only [if_pos]
      rw [getD_snoc_eq]
      have h1 : (w.alloc (.cells #[.int .i64 (x : Int)] 3)).ownsRow base 3 1 (.slice (some ⟨w.heap.size, 0, none⟩) 1 1) 1 [.int .i64 (x : Int)] := World.ownsRow_lit w #[.int .i64 (x : Int)] 1 hbase (by decide) rfl
      refine ⟨?_, fun z hz => ?_⟩
      · refine (h1.alloc o).kept hg (Or.inr ?_)
        intro e2
        have := (h.own.lt w.heap.size e2.symm).2
        omega
      · simp [ints] at hz
        subst hz
        exact WalkArith.wf_i64 (by omega)
    · simp only [if_neg e]
      have hi' : i < Gs.length := by omega
      rw [getD_snoc_lt hi']
      have h1 := h.each i hi'
      exact ((h1.alloc _).alloc o).kept hg (Or.inr (fun e2 => h.ne i hi' e2.symm))
  · intro i j hi hj hne
    rw [List.length_append] at hi hj
    have hi : i < Gs.length + 1 := hi
    have hj : j < Gs.length + 1 := hj
    by_cases e1 : i = Gs.length
    · by_cases e2 : j = Gs.length
      · omega
      · simp only [if_pos e1, if_neg e2]
        have := ((h.each j (by omega)).1.lt (r j) rfl).2
        omega
    · by_cases e2 : j = Gs.length
      · simp only [if_neg e1, if_pos e2]
        have := ((h.each i (by omega)).1.lt (r i) rfl).2
        omega
      · simp only [if_neg e1, if_neg e2]
        exact h.apart i j (by omega) (by omega) hne

/-- One goes to a row. -/
theorem POut.grow {w w1 : World} {base g m cap k ρ κ : Nat} {Gs : List (List Nat)} {r c : Nat → Nat} (h : POut w base (.slice (some ⟨g, 0, none⟩) m cap) Gs r c) (hm : m = Gs.length) (hk : k < Gs.length) (x : Nat) (o : Obj)
    (hown : w1.ownsInts base 3 .i64 (.slice (some ⟨ρ, 0, none⟩) ((Gs.getD k []).length + 1) κ) (ints (Gs.getD k [] ++ [x]))) (hg : (w.alloc o).grownBy w1 (some (r k)))
    (hloc : ρ = r k ∨ ρ = w.heap.size + 1) :
    POut (w1.setCell ⟨g, k, none⟩ (.slice (some ⟨ρ, 0, none⟩) ((Gs.getD k []).length + 1) κ)) base (.slice (some ⟨g, 0, none⟩) m cap) (Gs.set k (Gs.getD k [] ++ [x])) (fun i => if i = k then ρ else r i) (fun i => if i = k then κ else c i) := by
  subst hm
  have hgk : g ≠ r k := fun e => h.ne k hk (by rw [← e]; rfl)
  have ht1 : w1.ownsRow base 39 1 (.slice (some ⟨g, 0, none⟩) Gs.length cap) Gs.length (rvals Gs r c) := (h.own.alloc o).kept hg (Or.inr (fun e => h.ne k hk e))
  have ht2 := ht1.stored k (.slice (some ⟨ρ, 0, none⟩) ((Gs.getD k []).length + 1) κ)
  have hset : ∀ i, i < Gs.length → (Gs.set k (Gs.getD k [] ++ [x])).getD i [] = if i = k then Gs.getD k [] ++ [x] else Gs.getD i [] := by
    intro i hi
    by_cases e : i = k
    · subst e; simp [hi]
    · rw [if_neg e]
      have this : ∀ G : List Nat, (Gs.set k G).getD i [] = Gs.getD i [] := by
        intro G
        rw [List.getD_eq_getElem?_getD, List.getElem?_set, if_neg (fun e2 => e e2.symm), ← List.getD_eq_getElem?_getD]
      exact this _
  have hglt : g < w.heap.size := (h.own.lt g rfl).2
  have hρ : ∀ i, i < Gs.length → i ≠ k → r i ≠ ρ := by
    intro i hi hn e
    rcases hloc with e2 | e2
    · exact h.apart i k hi hk hn (e.trans e2)
    · have := ((h.each i hi).1.lt (r i) rfl).2
      omega
  have hgρ : ρ ≠ g := by
    rcases hloc with e | e
    · rw [e]; exact fun e2 => hgk e2.symm
    · omega
  refine ⟨?_, ?_, ?_⟩
  · have e : rvals (Gs.set k (Gs.getD k [] ++ [x])) (fun i => if i = k then ρ else r i) (fun i => if i = k then κ else c i) = (rvals Gs r c).set k (.slice (some ⟨ρ, 0, none⟩) ((Gs.getD k []).length + 1) κ) := by
      apply List.ext_getElem
      · simp [rvals]
      · intro i h1 h2
        have hi : i < Gs.length := by simpa [rvals] using h1
        rw [List.getElem_set]
        simp only [rvals, List.getElem_map, List.getElem_range]
        rw [hset i hi]
        by_cases e : i = k
        · rw [if_pos e, if_pos e, if_pos e, if_pos e.symm, List.length_append]; rfl
        · rw [if_neg e, if_neg e, if_neg e, if_neg (fun e2 => e e2.symm)]
    rw [e, List.length_set]
    exact ht2.1
  · intro i hi
    rw [List.length_set] at hi
    rw [hset i hi]
    by_cases e : i = k
    · simp only [if_pos e, List.length_append]
      exact hown.kept ht2.2 (Or.inr (fun e2 => hgρ (by simpa [Value.ownBlock] using e2)))
    · simp only [if_neg e]
      have h1 := (h.each i hi).alloc o
      refine (h1.kept hg (Or.inr (fun e2 => h.apart i k hi hk e (by simpa [Value.ownBlock] using e2)))).kept ht2.2 (Or.inr (fun e2 => h.ne i hi (by simpa [Value.ownBlock] using e2.symm)))
  · intro i j hi hj hne
    rw [List.length_set] at hi hj
    by_cases e1 : i = k
    · by_cases e2 : j = k
      · omega
      · simp only [if_pos e1, if_neg e2]
        exact fun e => hρ j hj e2 e.symm
    · by_cases e2 : j = k
      · simp only [if_neg e1, if_pos e2]
        exact hρ i hi e1
      · simp only [if_neg e1, if_neg e2]
        exact h.apart i j hi hj hne

end Go.Proofs.YtigodbamphejmaaGreatDoor.S
namespace Go.Proofs.YtigodbamphejmaaGreatDoor.S
open Go.RowKit Go.WideMaps Go.Maps

/-- What a closure answers: whether two have one label. -/
def Alike (f : Nat) (w : World) (n cw : Nat) (L : List Nat) : Prop :=
  ∀ W', Below w.heap.size w W' → ∀ (x y : Nat) (s : Bool), x < n → y < n → (((L.getD x 0 : Nat) : Int) == ((L.getD y 0 : Nat) : Int)) = s → Calls Tryz.prog f #[.int .i64 (x : Int), .int .i64 (y : Int), .pointer (some ⟨cw, 0, none⟩)] W' fun e w' => e = .returned (.bool s) ∧ ∃ n, w' = W'.drewN n

theorem cell_second (w : World) (o : Obj) (v : Value) (t : TypeId) : ∀ j u, [v][j]? = some u → ((w.alloc o).alloc (.cells #[v] t)).cell? ((⟨w.heap.size + 1, 0, none⟩ : Addr).add j) = some u := by
  have := cell_one_new (w.alloc o) v t
  rw [World.size_alloc] at this
  exact this

/-- Behind the append: the new slice's shape, and the cell that it is stored into. -/
theorem grow_facts {w w1 : World} {base g m cap k : Nat} {v' : Value} {Gs : List (List Nat)} {r c : Nat → Nat} {o : Obj} {x : Nat} (h : POut w base (.slice (some ⟨g, 0, none⟩) m cap) Gs r c) (hm : m = Gs.length) (hk : k < Gs.length)
    (hown : w1.ownsRow base 3 1 v' ((ints (Gs.getD k [])).length + 1) ((ints (Gs.getD k [])).map (Value.int .i64) ++ [.int .i64 (x : Int)])) (hg : (w.alloc o).grownBy w1 (some (r k))) :
    (∃ ρ κ, v' = .slice (some ⟨ρ, 0, none⟩) ((Gs.getD k []).length + 1) κ) ∧ w1.cell? ⟨g, k, none⟩ = some (.slice (some ⟨r k, 0, none⟩) (Gs.getD k []).length (c k)) ∧ w1.frozen? ⟨g, k, none⟩ = false := by
  subst hm
  have ht1 : w1.ownsRow base 39 1 (.slice (some ⟨g, 0, none⟩) Gs.length cap) Gs.length (rvals Gs r c) := (h.own.alloc o).kept hg (Or.inr (fun e => h.ne k hk e))
  refine ⟨?_, ?_, ht1.frozenAt k⟩
  · rcases hown.2 with ⟨_, h0⟩ | ⟨ρ, κ, cur, hv, _⟩
    · omega
    · exact ⟨ρ, κ, by rw [hv, ints_length]⟩
  · rw [ht1.cellAt k (by omega), rvals_at _ _ _ _ hk]

set_option maxHeartbeats 1000000 in
set_option maxRecDepth 100000 in
theorem parts_any30 (n cw : Nat) (L : List Nat) (w : World) (hal : Alike 51 w n cw L) (hgd : Good n L) (hn : n ≤ 40) :
    Calls Tryz.prog 50 #[.int .i64 (n : Int), .func (.func 51) #[] #[.pointer (some ⟨cw, 0, none⟩)]] w fun e w' => ∃ t r c, e = .returned t ∧ POut w' w.heap.size t (grps L n) r c ∧ Below w.heap.size w w' := by
  obtain ⟨i0, hi0, hz0, hz1, hz2⟩ := info_parts Tryz.info3
  obtain ⟨j0, hj0, hy0, hy1, hy2⟩ := info_parts Tryz.info39
  have HAL : Hid (Alike 51 w n cw L) := hal
  have HG : Hid (Good n L) := hgd
  clear hal hgd
  go_enter Tryz.func50, Tryz.ntmps50
  go_wp2_with fail
  go_loopw [5, 6, 7, 8, 9, 11] (fun s5 _ _ _ _ s11 wq => ∃ x : Nat, x ≤ n ∧ s11 = .int .i64 x ∧ (∃ r c, POut wq w.heap.size s5 (pgr L x) r c) ∧ Below w.heap.size w wq) (fun _ _ _ _ _ s11 _ => n - (intOf s11).toNat)
  case atStart => exact ⟨0, Nat.zero_le _, rfl, ⟨fun _ => 0, fun _ => 0, pout_start _ _ _ _⟩, Below.refl _ _⟩
  case round =>
    obtain ⟨x, hx, rfl, ⟨r, c, hP⟩, hbx⟩ := hrel
    by_cases hlt : x < n
    · obtain ⟨a, cap, rfl, ha⟩ := hP.shape
      have hml : (pgr L x).length ≤ 40 := by
        have := List.length_filter_le (fun y => L.getD y 0 == y) (List.range x)
        rw [List.length_range] at this
        rw [pgr_length]; unfold lst; omega
      have HP : Hid (POut wr w.heap.size (.slice a (pgr L x).length cap) (pgr L x) r c) := hP
      have HA : Hid (0 < (pgr L x).length → ∃ g, a = some ⟨g, 0, none⟩) := ha
      have HM : Hid ((pgr L x).length = (lst L x).length) := pgr_length L x
      have HBX : Hid (Below w.heap.size w wr) := hbx
      generalize hm : (pgr L x).length = m at *
      have HML : Hid ((pgr L x).length = m) := hm
      clear hP ha hbx hm
      rename World => wo
      go_wp2_with fail
      go_loopw [7, 8, 9, 16] (fun s7 _ _ s16 wq => ∃ i : Nat, i ≤ m ∧ s16 = .int .i64 i ∧ s7 = .int .i64 (-1) ∧ (∀ j, j < i → (lst L x).getD j 0 ≠ L.getD x 0) ∧ ∃ q, wq = wo.drewN q) (fun _ _ _ s16 _ => m - (intOf s16).toNat)
      case atStart => exact ⟨0, Nat.zero_le _, rfl, rfl, fun j hj => absurd hj (by omega), 0, rfl⟩
      case round =>
        obtain ⟨i, him, rfl, rfl, hno, q, hq⟩ := hrel
        have hPq := pout_drewN HP.out q
        have hBq := below_drewN HBX.out q
        rw [← hq] at hPq hBq
        have HQ : Hid (wr = wo.drewN q) := hq
        clear hq
        have HPQ : Hid (POut wr w.heap.size (.slice a m cap) (pgr L x) r c) := hPq
        have HBQ : Hid (Below w.heap.size w wr) := hBq
        have HNO : Hid (∀ j, j < i → (lst L x).getD j 0 ≠ L.getD x 0) := hno
        clear hPq hBq hno
        by_cases hil : i < m
        · obtain ⟨g, hag⟩ := HA.out (by omega)
          subst hag
          have hil' : i < (pgr L x).length := by rw [HML.out]; exact hil
          have hil2 : i < (lst L x).length := by rw [← pgr_length]; exact hil'
          obtain ⟨hyx, hyy⟩ := lst_at hil2
          have hGi := pgr_at L x i hil2
          have hhd := grp_head' HG.out hx hyx hyy
          have hps := grp_pos hyx hyy
          rw [← hGi] at hhd hps
          have c1 := HPQ.out.outcell HML.out.symm i hil'
          have c2 := HPQ.out.head i hil' hps
          rw [hhd] at c2
          have HGi : Hid ((pgr L x).getD i [] = grp L x ((lst L x).getD i 0)) := hGi
          have hLl := HG.out.len
          have HYL : Hid (L.getD ((lst L x).getD i 0) 0 = (lst L x).getD i 0) := hyy
          generalize hyd : (lst L x).getD i 0 = y at *
          have HYD : Hid ((lst L x).getD i 0 = y) := hyd
          clear hGi hhd hyy hyd hLl
          generalize hgl : ((pgr L x).getD i []).length = gl at *
          have HGL : Hid (((pgr L x).getD i []).length = gl) := hgl
          have hgp : (0 : Int) < (gl : Int) := by omega
          clear hgl hps
          go_wp2_with fail
          by_cases he : y = L.getD x 0
          · have hv : (((L.getD y 0 : Nat) : Int) == ((L.getD x 0 : Nat) : Int)) = true := by rw [HYL.out, ← he]; simp
            refine (HAL.out _ HBQ.out y x true (by omega) hlt hv).mono ?_
            rintro e w' ⟨rfl, q', hq'⟩
            have HPV : Hid (POut w' w.heap.size (.slice (some ⟨g, 0, none⟩) m cap) (pgr L x) r c) := by rw [hq']; exact pout_drewN HPQ.out q'
            have HBV : Hid (Below w.heap.size w w') := by rw [hq']; exact below_drewN HBQ.out q'
            have c1' : w'.cell? ⟨g, i, none⟩ = some (.slice (some ⟨r i, 0, none⟩) gl (c i)) := by rw [hq']; exact c1
            have hoi := HPV.out.each i hil'
            rw [HGL.out] at hoi
            have hle : (ints ((pgr L x).getD i [])).length ≤ 40 := by
              rw [ints_length, HGi.out, grp_length]
              have := cnt_le (fun i => L.getD i 0 == y) x
              omega
            have hws := HBV.out.size
            have HE : Hid (y = L.getD x 0) := he
            clear hv hq' c1 c2 he
            go_wp2_with (first
              | (at_builtin; refine wpList_append_own_at _ rfl _ _ 39 rfl w.heap.size 3 i0 (.int .i64 0) 1 8 Tryz.underlying39 hi0 hz0 hz1 hz2 rfl (by decide) (.slice (some ⟨r i, 0, none⟩) gl (c i)) _ _ rfl (hoi.1.alloc _) ⟨w'.heap.size, 0, none⟩ 1 1 [.int .i64 x] rfl rfl (cell_one_new _ _ _) (ints_oneCell .i64 [(x : Int)]) (by unfold maxLen; omega) (by omega) (by simp; omega) ?_; intro v' w1 hown' hgrow hnil hloc; obtain ⟨⟨ρ, κ, hv'⟩, c3, f3⟩ := grow_facts HPV.out HML.out.symm hil' hown' hgrow; rw [HGL.out] at hv' c3; rw [hv'])
              | fail)
            have ho2 := hoi.appended hown' (WalkArith.wf_i64 (by omega))
            have hio : w.heap.size ≤ r i := (hoi.1.lt (r i) rfl).1
            have hgo : w.heap.size ≤ g := (HPV.out.own.lt g rfl).1
            rw [hv'] at ho2 hloc
            rw [← HGL.out] at ho2
            have hloc' : ρ = r i ∨ ρ = w'.heap.size + 1 := by simpa [Value.ownBlock] using hloc
            have ho3 : w1.ownsInts w.heap.size 3 .i64 (.slice (some ⟨ρ, 0, none⟩) (((pgr L x).getD i []).length + 1) κ) (ints ((pgr L x).getD i [] ++ [x])) := by
              rw [ints_append]; exact ho2
            have hgw := HPV.out.grow HML.out.symm hil' x _ ho3 hgrow hloc'
            rw [HGL.out] at hgw
            have hpf := pgr_found hil2 (HYD.out.trans HE.out)
            rw [HYD.out, ← HGi.out] at hpf
            rw [← hpf] at hgw
            have hbw : Below w.heap.size w (w1.setCell ⟨g, i, none⟩ (.slice (some ⟨ρ, 0, none⟩) (gl + 1) κ)) := (HBV.out.grown ((World.grownBy_alloc w' _ _).trans hgrow) hws (fun j hj => (hoi.1.lt j hj).1)).setCell hgo _
            go_roundw
            case rel => exact ⟨x + 1, by omega, by go_num, ⟨_, _, hgw⟩, hbw⟩
            case measure => simp [intOf]; omega
          · have hv : (((L.getD y 0 : Nat) : Int) == ((L.getD x 0 : Nat) : Int)) = false := by rw [HYL.out]; exact beq_eq_false_iff_ne.2 (by omega)
            refine (HAL.out _ HBQ.out y x false (by omega) hlt hv).mono ?_
            rintro e w' ⟨rfl, q', hq'⟩
            have HNE : Hid (y ≠ L.getD x 0) := he
            have HQ' : Hid (w' = wr.drewN q') := hq'
            clear hv hq' he
            go_wp2_with fail
            go_roundw
            case rel => exact ⟨i + 1, by omega, by go_num, rfl, fun j hj => if e : j = i then by rw [e, HYD.out]; exact HNE.out else HNO.out j (by omega), q + q', by rw [HQ'.out, HQ.out, drewN_drewN]⟩
            case measure => simp [intOf]; omega
        · have hie : i = m := by omega
          subst hie
          have howt := HPQ.out.own
          rw [HML.out] at howt
          have hws := HBQ.out.size
          go_wp2_with (first
            | (at_builtin; refine wpList_append_own_at _ rfl _ _ 42 rfl w.heap.size 39 j0 (.slice none 0 0) 1 24 Tryz.underlying42 hj0 hy0 hy1 hy2 rfl (by decide) (.slice a i cap) _ _ rfl ((howt.alloc _).alloc _) ⟨wr.heap.size + 1, 0, none⟩ 1 1 [.slice (some ⟨wr.heap.size, 0, none⟩) 1 1] rfl rfl (cell_second _ _ _ _) (one_slice _ _ _) (by unfold maxLen; omega) (by omega) (by simp; omega) ?_; intro v' w1 hown' hgrow hnil hloc)
            | fail)
          have hown2 : w1.ownsRow w.heap.size 39 1 v' ((pgr L x).length + 1) (rvals (pgr L x) r c ++ [.slice (some ⟨wr.heap.size, 0, none⟩) 1 1]) := by
            rw [HML.out]; exact hown'
          obtain ⟨r', c', hsn⟩ := HPQ.out.snoc hws x _ hown2 hgrow (by omega)
          rw [← pgr_none HG.out hlt (by rw [← HM.out]; exact HNO.out)] at hsn
          have hbw : Below w.heap.size w w1 := HBQ.out.grown (((World.grownBy_alloc wr _ _).trans (World.grownBy_alloc _ _ _)).trans hgrow) hws (fun j hj => (HPQ.out.own.lt j hj).1)
          go_roundw
          case rel => exact ⟨x + 1, by omega, by go_num, ⟨r', c', hsn⟩, hbw⟩
          case measure => simp [intOf]; omega
    · have hxe : x = n := by omega
      subst hxe
      have HP : Hid (∃ r c, POut wr w.heap.size u5 (grps L x) r c) := by
        rw [← pgr_all HG.out]; exact ⟨r, c, hP⟩
      have HBX : Hid (Below w.heap.size w wr) := hbx
      clear hP hbx
      go_wp2_with fail
      go_ret
      obtain ⟨r', c', hP'⟩ := HP.out
      exact ⟨_, r', c', rfl, hP', HBX.out⟩

set_option maxHeartbeats 1000000 in
set_option maxRecDepth 100000 in
theorem parts_any31 (n cw : Nat) (L : List Nat) (w : World) (hal : Alike 52 w n cw L) (hgd : Good n L) (hn : n ≤ 40) :
    Calls Tryz.prog 50 #[.int .i64 (n : Int), .func (.func 52) #[] #[.pointer (some ⟨cw, 0, none⟩)]] w fun e w' => ∃ t r c, e = .returned t ∧ POut w' w.heap.size t (grps L n) r c ∧ Below w.heap.size w w' := by
  obtain ⟨i0, hi0, hz0, hz1, hz2⟩ := info_parts Tryz.info3
  obtain ⟨j0, hj0, hy0, hy1, hy2⟩ := info_parts Tryz.info39
  have HAL : Hid (Alike 52 w n cw L) := hal
  have HG : Hid (Good n L) := hgd
  clear hal hgd
  go_enter Tryz.func50, Tryz.ntmps50
  go_wp2_with fail
  go_loopw [5, 6, 7, 8, 9, 11] (fun s5 _ _ _ _ s11 wq => ∃ x : Nat, x ≤ n ∧ s11 = .int .i64 x ∧ (∃ r c, POut wq w.heap.size s5 (pgr L x) r c) ∧ Below w.heap.size w wq) (fun _ _ _ _ _ s11 _ => n - (intOf s11).toNat)
  case atStart => exact ⟨0, Nat.zero_le _, rfl, ⟨fun _ => 0, fun _ => 0, pout_start _ _ _ _⟩, Below.refl _ _⟩
  case round =>
    obtain ⟨x, hx, rfl, ⟨r, c, hP⟩, hbx⟩ := hrel
    by_cases hlt : x < n
    · obtain ⟨a, cap, rfl, ha⟩ := hP.shape
      have hml : (pgr L x).length ≤ 40 := by
        have := List.length_filter_le (fun y => L.getD y 0 == y) (List.range x)
        rw [List.length_range] at this
        rw [pgr_length]; unfold lst; omega
      have HP : Hid (POut wr w.heap.size (.slice a (pgr L x).length cap) (pgr L x) r c) := hP
      have HA : Hid (0 < (pgr L x).length → ∃ g, a = some ⟨g, 0, none⟩) := ha
      have HM : Hid ((pgr L x).length = (lst L x).length) := pgr_length L x
      have HBX : Hid (Below w.heap.size w wr) := hbx
      generalize hm : (pgr L x).length = m at *
      have HML : Hid ((pgr L x).length = m) := hm
      clear hP ha hbx hm
      rename World => wo
      go_wp2_with fail
      go_loopw [7, 8, 9, 16] (fun s7 _ _ s16 wq => ∃ i : Nat, i ≤ m ∧ s16 = .int .i64 i ∧ s7 = .int .i64 (-1) ∧ (∀ j, j < i → (lst L x).getD j 0 ≠ L.getD x 0) ∧ ∃ q, wq = wo.drewN q) (fun _ _ _ s16 _ => m - (intOf s16).toNat)
      case atStart => exact ⟨0, Nat.zero_le _, rfl, rfl, fun j hj => absurd hj (by omega), 0, rfl⟩
      case round =>
        obtain ⟨i, him, rfl, rfl, hno, q, hq⟩ := hrel
        have hPq := pout_drewN HP.out q
        have hBq := below_drewN HBX.out q
        rw [← hq] at hPq hBq
        have HQ : Hid (wr = wo.drewN q) := hq
        clear hq
        have HPQ : Hid (POut wr w.heap.size (.slice a m cap) (pgr L x) r c) := hPq
        have HBQ : Hid (Below w.heap.size w wr) := hBq
        have HNO : Hid (∀ j, j < i → (lst L x).getD j 0 ≠ L.getD x 0) := hno
        clear hPq hBq hno
        by_cases hil : i < m
        · obtain ⟨g, hag⟩ := HA.out (by omega)
          subst hag
          have hil' : i < (pgr L x).length := by rw [HML.out]; exact hil
          have hil2 : i < (lst L x).length := by rw [← pgr_length]; exact hil'
          obtain ⟨hyx, hyy⟩ := lst_at hil2
          have hGi := pgr_at L x i hil2
          have hhd := grp_head' HG.out hx hyx hyy
          have hps := grp_pos hyx hyy
          rw [← hGi] at hhd hps
          have c1 := HPQ.out.outcell HML.out.symm i hil'
          have c2 := HPQ.out.head i hil' hps
          rw [hhd] at c2
          have HGi : Hid ((pgr L x).getD i [] = grp L x ((lst L x).getD i 0)) := hGi
          have hLl := HG.out.len
          have HYL : Hid (L.getD ((lst L x).getD i 0) 0 = (lst L x).getD i 0) := hyy
          generalize hyd : (lst L x).getD i 0 = y at *
          have HYD : Hid ((lst L x).getD i 0 = y) := hyd
          clear hGi hhd hyy hyd hLl
          generalize hgl : ((pgr L x).getD i []).length = gl at *
          have HGL : Hid (((pgr L x).getD i []).length = gl) := hgl
          have hgp : (0 : Int) < (gl : Int) := by omega
          clear hgl hps
          go_wp2_with fail
          by_cases he : y = L.getD x 0
          · have hv : (((L.getD y 0 : Nat) : Int) == ((L.getD x 0 : Nat) : Int)) = true := by rw [HYL.out, ← he]; simp
            refine (HAL.out _ HBQ.out y x true (by omega) hlt hv).mono ?_
            rintro e w' ⟨rfl, q', hq'⟩
            have HPV : Hid (POut w' w.heap.size (.slice (some ⟨g, 0, none⟩) m cap) (pgr L x) r c) := by rw [hq']; exact pout_drewN HPQ.out q'
            have HBV : Hid (Below w.heap.size w w') := by rw [hq']; exact below_drewN HBQ.out q'
            have c1' : w'.cell? ⟨g, i, none⟩ = some (.slice (some ⟨r i, 0, none⟩) gl (c i)) := by rw [hq']; exact c1
            have hoi := HPV.out.each i hil'
            rw [HGL.out] at hoi
            have hle : (ints ((pgr L x).getD i [])).length ≤ 40 := by
              rw [ints_length, HGi.out, grp_length]
              have := cnt_le (fun i => L.getD i 0 == y) x
              omega
            have hws := HBV.out.size
            have HE : Hid (y = L.getD x 0) := he
            clear hv hq' c1 c2 he
            go_wp2_with (first
              | (at_builtin; refine wpList_append_own_at _ rfl _ _ 39 rfl w.heap.size 3 i0 (.int .i64 0) 1 8 Tryz.underlying39 hi0 hz0 hz1 hz2 rfl (by decide) (.slice (some ⟨r i, 0, none⟩) gl (c i)) _ _ rfl (hoi.1.alloc _) ⟨w'.heap.size, 0, none⟩ 1 1 [.int .i64 x] rfl rfl (cell_one_new _ _ _) (ints_oneCell .i64 [(x : Int)]) (by unfold maxLen; omega) (by omega) (by simp; omega) ?_; intro v' w1 hown' hgrow hnil hloc; obtain ⟨⟨ρ, κ, hv'⟩, c3, f3⟩ := grow_facts HPV.out HML.out.symm hil' hown' hgrow; rw [HGL.out] at hv' c3; rw [hv'])
              | fail)
            have ho2 := hoi.appended hown' (WalkArith.wf_i64 (by omega))
            have hio : w.heap.size ≤ r i := (hoi.1.lt (r i) rfl).1
            have hgo : w.heap.size ≤ g := (HPV.out.own.lt g rfl).1
            rw [hv'] at ho2 hloc
            rw [← HGL.out] at ho2
            have hloc' : ρ = r i ∨ ρ = w'.heap.size + 1 := by simpa [Value.ownBlock] using hloc
            have ho3 : w1.ownsInts w.heap.size 3 .i64 (.slice (some ⟨ρ, 0, none⟩) (((pgr L x).getD i []).length + 1) κ) (ints ((pgr L x).getD i [] ++ [x])) := by
              rw [ints_append]; exact ho2
            have hgw := HPV.out.grow HML.out.symm hil' x _ ho3 hgrow hloc'
            rw [HGL.out] at hgw
            have hpf := pgr_found hil2 (HYD.out.trans HE.out)
            rw [HYD.out, ← HGi.out] at hpf
            rw [← hpf] at hgw
            have hbw : Below w.heap.size w (w1.setCell ⟨g, i, none⟩ (.slice (some ⟨ρ, 0, none⟩) (gl + 1) κ)) := (HBV.out.grown ((World.grownBy_alloc w' _ _).trans hgrow) hws (fun j hj => (hoi.1.lt j hj).1)).setCell hgo _
            go_roundw
            case rel => exact ⟨x + 1, by omega, by go_num, ⟨_, _, hgw⟩, hbw⟩
            case measure => simp [intOf]; omega
          · have hv : (((L.getD y 0 : Nat) : Int) == ((L.getD x 0 : Nat) : Int)) = false := by rw [HYL.out]; exact beq_eq_false_iff_ne.2 (by omega)
            refine (HAL.out _ HBQ.out y x false (by omega) hlt hv).mono ?_
            rintro e w' ⟨rfl, q', hq'⟩
            have HNE : Hid (y ≠ L.getD x 0) := he
            have HQ' : Hid (w' = wr.drewN q') := hq'
            clear hv hq' he
            go_wp2_with fail
            go_roundw
            case rel => exact ⟨i + 1, by omega, by go_num, rfl, fun j hj => if e : j = i then by rw [e, HYD.out]; exact HNE.out else HNO.out j (by omega), q + q', by rw [HQ'.out, HQ.out, drewN_drewN]⟩
            case measure => simp [intOf]; omega
        · have hie : i = m := by omega
          subst hie
          have howt := HPQ.out.own
          rw [HML.out] at howt
          have hws := HBQ.out.size
          go_wp2_with (first
            | (at_builtin; refine wpList_append_own_at _ rfl _ _ 42 rfl w.heap.size 39 j0 (.slice none 0 0) 1 24 Tryz.underlying42 hj0 hy0 hy1 hy2 rfl (by decide) (.slice a i cap) _ _ rfl ((howt.alloc _).alloc _) ⟨wr.heap.size + 1, 0, none⟩ 1 1 [.slice (some ⟨wr.heap.size, 0, none⟩) 1 1] rfl rfl (cell_second _ _ _ _) (one_slice _ _ _) (by unfold maxLen; omega) (by omega) (by simp; omega) ?_; intro v' w1 hown' hgrow hnil hloc)
            | fail)
          have hown2 : w1.ownsRow w.heap.size 39 1 v' ((pgr L x).length + 1) (rvals (pgr L x) r c ++ [.slice (some ⟨wr.heap.size, 0, none⟩) 1 1]) := by
            rw [HML.out]; exact hown'
          obtain ⟨r', c', hsn⟩ := HPQ.out.snoc hws x _ hown2 hgrow (by omega)
          rw [← pgr_none HG.out hlt (by rw [← HM.out]; exact HNO.out)] at hsn
          have hbw : Below w.heap.size w w1 := HBQ.out.grown (((World.grownBy_alloc wr _ _).trans (World.grownBy_alloc _ _ _)).trans hgrow) hws (fun j hj => (HPQ.out.own.lt j hj).1)
          go_roundw
          case rel => exact ⟨x + 1, by omega, by go_num, ⟨r', c', hsn⟩, hbw⟩
          case measure => simp [intOf]; omega
    · have hxe : x = n := by omega
      subst hxe
      have HP : Hid (∃ r c, POut wr w.heap.size u5 (grps L x) r c) := by
        rw [← pgr_all HG.out]; exact ⟨r, c, hP⟩
      have HBX : Hid (Below w.heap.size w wr) := hbx
      clear hP hbx
      go_wp2_with fail
      go_ret
      obtain ⟨r', c', hP'⟩ := HP.out
      exact ⟨_, r', c', rfl, hP', HBX.out⟩

end Go.Proofs.YtigodbamphejmaaGreatDoor.S
namespace Go.Proofs.YtigodbamphejmaaGreatDoor.S
open Go.RowKit

set_option maxHeartbeats 400000 in
theorem same_rows (r1 r2 gl c1 c2 : Nat) (G : Nat → Nat) (w : World) (h1 : ∀ j, j < gl → w.cell? ⟨r1, j, none⟩ = some (.int .i64 (G j : Int))) (h2 : ∀ j, j < gl → w.cell? ⟨r2, j, none⟩ = some (.int .i64 (G j : Int))) (hgl : gl ≤ 1000000) :
    Calls Tryz.prog 11 #[.slice (some ⟨r1, 0, none⟩) gl c1, .slice (some ⟨r2, 0, none⟩) gl c2] w fun e w' => e = .returned (.bool true) ∧ ∃ n, w' = w.drewN n := by
  have H1 := (show Hid _ from h1)
  have H2 := (show Hid _ from h2)
  clear h1 h2
  go_enter Tryz.func11, Tryz.ntmps11
  go_wp2_with fail
  go_loopw [5] (fun s5 wq => ∃ j : Nat, j ≤ gl ∧ s5 = .int .i64 j ∧ ∃ q, wq = w.drewN q) (fun s5 _ => gl - (intOf s5).toNat)
  case atStart => exact ⟨0, Nat.zero_le _, rfl, 0, rfl⟩
  case round =>
    obtain ⟨j, hj, rfl, q, hq⟩ := hrel
    have HQ : Hid (wr = w.drewN q) := hq
    clear hq
    by_cases hlt : j < gl
    · have c1' : wr.cell? ⟨r1, j, none⟩ = some (.int .i64 (G j : Int)) := by rw [HQ.out]; exact H1.out j hlt
      have c2' : wr.cell? ⟨r2, j, none⟩ = some (.int .i64 (G j : Int)) := by rw [HQ.out]; exact H2.out j hlt
      generalize G j = x at *
      go_wp2_with fail
      go_quiet (fail)
      go_wp2_with fail
      go_roundw
      case rel => exact ⟨j + 1, by omega, by go_num, _, by rw [HQ.out]; exact drewN_drewN _ _ _⟩
      case measure => simp [intOf]; omega
    · go_wp2_with fail
      go_ret
      exact ⟨rfl, q, HQ.out⟩

/-- Rows that can be read: the i-th at the i-th cell. -/
def RowsAt (w : World) (g : Nat) (Gs : List (List Nat)) (c : Nat) : Prop :=
  ∀ i, i < c → ∃ r cap, w.cell? ⟨g, i, none⟩ = some (.slice (some ⟨r, 0, none⟩) (Gs.getD i []).length cap) ∧ ∀ j, j < (Gs.getD i []).length → w.cell? ⟨r, j, none⟩ = some (.int .i64 (((Gs.getD i []).getD j 0 : Nat) : Int))

set_option maxHeartbeats 400000 in
theorem sames_rows (a1 a2 : Option Addr) (c cap1 cap2 : Nat) (Gs : List (List Nat)) (w : World) (h : 0 < c → ∃ g1 g2, a1 = some ⟨g1, 0, none⟩ ∧ a2 = some ⟨g2, 0, none⟩ ∧ RowsAt w g1 Gs c ∧ RowsAt w g2 Gs c) (hc : c ≤ 1000000) (hgl : ∀ i, (Gs.getD i []).length ≤ 1000000) :
    Calls Tryz.prog 15 #[.slice a1 c cap1, .slice a2 c cap2] w fun e w' => e = .returned (.bool true) ∧ ∃ n, w' = w.drewN n := by
  have HH := (show Hid _ from h)
  have HL := (show Hid _ from hgl)
  clear h hgl
  go_enter Tryz.func15, Tryz.ntmps15
  go_wp2_with fail
  go_loopw [5] (fun s5 wq => ∃ j : Nat, j ≤ c ∧ s5 = .int .i64 j ∧ ∃ q, wq = w.drewN q) (fun s5 _ => c - (intOf s5).toNat)
  case atStart => exact ⟨0, Nat.zero_le _, rfl, 0, rfl⟩
  case round =>
    obtain ⟨j, hj, rfl, q, hq⟩ := hrel
    have HQ : Hid (wr = w.drewN q) := hq
    clear hq
    by_cases hlt : j < c
    · obtain ⟨g1, g2, e1, e2, R1, R2⟩ := HH.out (by omega)
      subst e1 e2
      obtain ⟨r1, k1, a1', b1⟩ := R1 j hlt
      obtain ⟨r2, k2, a2', b2⟩ := R2 j hlt
      have hgl := HL.out j
      have HS : Hid (∀ Q, Calls Tryz.prog 11 #[.slice (some ⟨r1, 0, none⟩) (Gs.getD j []).length k1, .slice (some ⟨r2, 0, none⟩) (Gs.getD j []).length k2] (wr.drewN Q) fun e w' => e = .returned (.bool true) ∧ ∃ n, w' = (wr.drewN Q).drewN n) := fun Q =>
        same_rows r1 r2 (Gs.getD j []).length k1 k2 (fun i => (Gs.getD j []).getD i 0) (wr.drewN Q) (by rw [HQ.out]; exact b1) (by rw [HQ.out]; exact b2) hgl
      have d1 : wr.cell? ⟨g1, j, none⟩ = some (.slice (some ⟨r1, 0, none⟩) (Gs.getD j []).length k1) := by rw [HQ.out]; exact a1'
      have d2 : wr.cell? ⟨g2, j, none⟩ = some (.slice (some ⟨r2, 0, none⟩) (Gs.getD j []).length k2) := by rw [HQ.out]; exact a2'
      clear R1 R2 b1 b2 HH HL a1' a2'
      generalize (Gs.getD j []).length = gl at *
      go_wp2_with fail
      go_quiet ((go_at_call 11; go_must (exact Calls.quiet_of (HS.out _))))
      go_wp2_with fail
      go_roundw
      case rel => exact ⟨j + 1, by omega, by go_num, _, by rw [HQ.out]; exact drewN_drewN _ _ _⟩
      case measure => simp [intOf]; omega
    · go_wp2_with fail
      go_ret
      exact ⟨rfl, q, HQ.out⟩

end Go.Proofs.YtigodbamphejmaaGreatDoor.S
namespace Go.Proofs.YtigodbamphejmaaGreatDoor.S

open Go.RowKit

theorem sets_drew {w : World} {p b : Nat} {L : List Nat} (h : SetsAt w p b L) : SetsAt w.drew p b L := ⟨h.hp, h.hb⟩

theorem join_nm (x y p b : Nat) (L : List Nat) (ok : Bool) (w : World) (hs : SetsAt w p b L) (hx : x < L.length) (hy : y < L.length) (hlen : L.length ≤ 40) (hok : decide (L.getD x 0 ≠ L.getD y 0) = ok) :
    Calls Tryz.prog 45 #[.pointer (some ⟨p, 0, none⟩), .int .i64 (x : Int), .int .i64 (y : Int)] w fun e w' => e = .returned (.tuple #[.bool ok, .nilIface]) ∧ SetsAt w' p b (joinL L x y) ∧ But b w w' := by
  rw [← hok]
  exact join_in x y p b L w hs hx hy hlen

theorem least_n {n X : Nat} (x p b : Nat) (L : List Nat) (w : World) (hs : SetsAt w p b L) (hg : Good n L) (hx : x < n) (hX : L.getD x 0 = X) :
    Calls Tryz.prog 93 #[.pointer (some ⟨p, 0, none⟩), .int .i64 (x : Int)] w fun e w' => e = .returned (.tuple #[.int .i64 (X : Int), .nilIface]) ∧ Below w.heap.size w w' := by
  have := least_in (x : Int) p b L w hs (by omega) (by rw [hg.len]; omega)
  rw [Int.toNat_natCast, hX] at this
  exact this

theorem all_n {n : Nat} (p b : Nat) (L : List Nat) (w : World) (hs : SetsAt w p b L) (hg : Good n L) (hn : n ≤ 40) :
    Calls Tryz.prog 53 #[.pointer (some ⟨p, 0, none⟩)] w fun e w' => ∃ g cap, e = .returned (.slice (some ⟨g, 0, none⟩) (grps L n).length cap) ∧ RowsAt w' g (grps L n) (grps L n).length ∧ Below w.heap.size w w' := by
  have hl := hg.len
  refine (all_any p b L w hs (by omega) (fun i hi => by have := hg.le i (by omega); omega)).mono ?_
  rintro e w' ⟨v, rfl, ⟨g, cap, rfl, h⟩, hb⟩
  rw [hl] at h ⊢
  exact ⟨g, cap, rfl, h, hb⟩

theorem cell_below {w w' : World} {k i : Nat} {v : Value} (h : w.cell? ⟨k, i, none⟩ = some v) (hb : Below w.heap.size w w') : w'.cell? ⟨k, i, none⟩ = some v :=
  (hb.cell (p := ⟨k, i, none⟩) (lt_of_cell h)).trans h

theorem RowsAt.below {w w' : World} {g c : Nat} {Gs : List (List Nat)} (h : RowsAt w g Gs c) (hb : Below w.heap.size w w') : RowsAt w' g Gs c := by
  intro i hi
  obtain ⟨r, cap, h1, h2⟩ := h i hi
  exact ⟨r, cap, cell_below h1 hb, fun j hj => cell_below (h2 j hj) hb⟩

/-- Parts' rows can be read. -/
theorem POut.rows {w : World} {base g m cap : Nat} {Gs : List (List Nat)} {r c : Nat → Nat} (h : POut w base (.slice (some ⟨g, 0, none⟩) m cap) Gs r c) (hm : m = Gs.length) : RowsAt w g Gs m := by
  intro i hi
  refine ⟨r i, c i, h.outcell hm i (by omega), fun j hj => ?_⟩
  have h1 := (h.each i (by omega)).1
  rw [ints_length] at h1
  rw [h1.cellAt j (by omega)]
  generalize Gs.getD i [] = G at *
  simp [ints, hj]

theorem grps_small {n : Nat} {L : List Nat} (g : Good n L) (i : Nat) : ((grps L n).getD i []).length ≤ n := by
  rcases Nat.lt_or_ge i (grps L n).length with h | h
  · obtain ⟨x, _, _, e⟩ := grps_at g i h
    rw [e, grp_length]; exact cnt_le _ _
  · simp [List.getElem?_eq_none h]

end Go.Proofs.YtigodbamphejmaaGreatDoor.S
