/- Two rings at one node: which blocks and which cuts there are. -/
import Derived.Test.YtigodbamphejmaaRa
import Derived.Test.YtigodbamphejmaaKfh
namespace Go.Proofs.Ytigodbamphejmaa.S
open Go.RowKit Go.WideMaps Go.Maps

theorem ed_RL : Ed 5 6 RL := by
  refine ⟨by unfold G.Up; decide, by decide, fun e he => ?_, by decide⟩
  simp only [RL, List.mem_cons, List.not_mem_nil, or_false] at he
  rcases he with rfl | rfl | rfl | rfl | rfl | rfl
  · exact ⟨0, 1, by omega, by omega, rfl⟩
  · exact ⟨1, 2, by omega, by omega, rfl⟩
  · exact ⟨0, 2, by omega, by omega, rfl⟩
  · exact ⟨2, 3, by omega, by omega, rfl⟩
  · exact ⟨3, 4, by omega, by omega, rfl⟩
  · exact ⟨2, 4, by omega, by omega, rfl⟩

def KR (x : Nat) : List Nat := joins (List.range 5) (wo RL x)
def ll : List Nat := [0, 0, 0, 3, 3, 3]

theorem kr (x : Nat) : Kx 5 RL x (KR x) := (kx_joins ed_RL x).2

def chkL : Bool := (List.range 5).all fun x => (List.range 6).all fun i => (List.range 6).all fun k =>
  !(ea (RL.getD i (0, 0, 0)) == x || eb (RL.getD i (0, 0, 0)) == x) || !(ea (RL.getD k (0, 0, 0)) == x || eb (RL.getD k (0, 0, 0)) == x) || !(lb RL x (KR x) i == lb RL x (KR x) k) || !(decide (ll.getD i 0 < ll.getD k 0))

theorem chkL_true : chkL = true := by decide +kernel

theorem chk_labels (x : Nat) (hx : x < 5) (i : Nat) (hi : i < 6) (k : Nat) (hk : k < 6) (h1 : ea (RL.getD i (0, 0, 0)) = x ∨ eb (RL.getD i (0, 0, 0)) = x) (h2 : ea (RL.getD k (0, 0, 0)) = x ∨ eb (RL.getD k (0, 0, 0)) = x) (h3 : lb RL x (KR x) i = lb RL x (KR x) k) : ¬ ll.getD i 0 < ll.getD k 0 := by
  have h := chkL_true
  unfold chkL at h
  have a1 := List.all_eq_true.1 h x (List.mem_range.2 hx)
  have a2 := List.all_eq_true.1 a1 i (List.mem_range.2 hi)
  have a3 := List.all_eq_true.1 a2 k (List.mem_range.2 hk)
  have b1 : (ea (RL.getD i (0, 0, 0)) == x || eb (RL.getD i (0, 0, 0)) == x) = true := by rw [Bool.or_eq_true, beq_iff_eq, beq_iff_eq]; exact h1
  have b2 : (ea (RL.getD k (0, 0, 0)) == x || eb (RL.getD k (0, 0, 0)) == x) = true := by rw [Bool.or_eq_true, beq_iff_eq, beq_iff_eq]; exact h2
  have b3 : (lb RL x (KR x) i == lb RL x (KR x) k) = true := beq_iff_eq.2 h3
  rw [b1, b2, b3] at a3
  intro c
  have b4 : decide (ll.getD i 0 < ll.getD k 0) = true := decide_eq_true c
  rw [b4] at a3
  cases a3

def chkC : Bool := (List.range 5).all fun y => (y == 2) || RL.all fun e => RL.all fun f => !(ea e == y || eb e == y) || !(ea f == y || eb f == y) || ((KR y).getD (ot e y) 0 == (KR y).getD (ot f y) 0)

theorem chkC_true : chkC = true := by decide +kernel

theorem chk_cuts (y : Nat) (hy : y < 5) (hn : y ≠ 2) (e : Int × Int × Int) (he : e ∈ RL) (f : Int × Int × Int) (hf : f ∈ RL) (h1 : ea e = y ∨ eb e = y) (h2 : ea f = y ∨ eb f = y) : (KR y).getD (ot e y) 0 = (KR y).getD (ot f y) 0 := by
  have h := chkC_true
  unfold chkC at h
  have a1 := List.all_eq_true.1 h y (List.mem_range.2 hy)
  have b0 : (y == 2) = false := beq_eq_false_iff_ne.2 hn
  rw [b0, Bool.false_or] at a1
  have a2 := List.all_eq_true.1 a1 e he
  have a3 := List.all_eq_true.1 a2 f hf
  have b1 : (ea e == y || eb e == y) = true := by rw [Bool.or_eq_true, beq_iff_eq, beq_iff_eq]; exact h1
  have b2 : (ea f == y || eb f == y) = true := by rw [Bool.or_eq_true, beq_iff_eq, beq_iff_eq]; exact h2
  rw [b1, b2] at a3
  simpa using a3

theorem rx_RL {x i k : Nat} {e f : Int × Int × Int} (hi : RL[i]? = some e) (hk : RL[k]? = some f) (he : tch e x) (hf : tch f x) (h : lb RL x (KR x) i = lb RL x (KR x) k) : Rx RL x i k := (Rx_lb (kr x) ed_RL.inn hi hk he hf).2 h

theorem lbs_RL : Lbs RL ll := by
  refine ⟨rfl, fun i hi => ?_⟩
  have hi : i < 6 := hi
  rcases (show i = 0 ∨ i = 1 ∨ i = 2 ∨ i = 3 ∨ i = 4 ∨ i = 5 by omega) with rfl | rfl | rfl | rfl | rfl | rfl
  · exact ⟨by decide, Conn.refl _⟩
  · exact ⟨by decide, Conn.base ⟨1, rx_RL (e := (1, 1, 2)) (f := (0, 0, 1)) rfl rfl (.inl rfl) (.inr rfl) (by decide +kernel)⟩⟩
  · exact ⟨by decide, Conn.base ⟨0, rx_RL (e := (2, 0, 2)) (f := (0, 0, 1)) rfl rfl (.inl rfl) (.inl rfl) (by decide +kernel)⟩⟩
  · exact ⟨by decide, Conn.refl _⟩
  · exact ⟨by decide, Conn.base ⟨3, rx_RL (e := (4, 3, 4)) (f := (3, 2, 3)) rfl rfl (.inl rfl) (.inr rfl) (by decide +kernel)⟩⟩
  · exact ⟨by decide, Conn.base ⟨2, rx_RL (e := (5, 2, 4)) (f := (3, 2, 3)) rfl rfl (.inl rfl) (.inl rfl) (by decide +kernel)⟩⟩

theorem done_RL : ∀ x i k, Rx RL x i k → ¬ ll.getD i 0 < ll.getD k 0 := fun x i k h => by
  obtain ⟨hi, hk⟩ := h.lt
  have h0 := h
  obtain ⟨e, f, h1, h2, h3, h4, _⟩ := h0
  have hx : x < 5 := by
    have := ed_RL.inn e (List.mem_of_getElem? h1)
    unfold tch at h3
    omega
  have hl := (Rx_lb (kr x) ed_RL.inn h1 h2 h3 h4).1 h
  exact chk_labels x hx i hi k hk (by rw [getD_of h1]; exact h3) (by rw [getD_of h2]; exact h4) hl

theorem ring_labels {l : List Nat} (s : Bs RL 5 [] l) : l = ll := by
  obtain ⟨g, h⟩ := lbs_done lbs_RL done_RL
  exact bs_lbs s ed_RL.inn g h

theorem ring_good : Good RL.length ll := (lbs_done lbs_RL done_RL).1

theorem ring_blks : blks RL ll = [[0, 1, 2], [3, 4, 5]] := by decide +kernel

theorem ring_cuts {cs : List Nat} (h : CutsB RL 5 cs) : cs = [2] := by
  have h2 : cutP RL 2 := by
    refine ⟨(1, 1, 2), by decide, (3, 2, 3), by decide, .inr rfl, .inl rfl, fun c => ?_⟩
    have := (kr 2 1 3 (by omega) (by omega)).2 c
    exact absurd this (by decide +kernel)
  have hm : ∀ y, y ∈ cs ↔ y = 2 := fun y => by
    rw [h.mem]
    constructor
    · rintro ⟨hy, e, he, f, hf, t1, t2, hn⟩
      by_cases hy2 : y = 2
      · exact hy2
      · exact absurd ((kr y _ _ (ot_lt ed_RL.inn he) (ot_lt ed_RL.inn hf)).1 (chk_cuts y hy hy2 e he f hf t1 t2)) hn
    · rintro rfl
      exact ⟨by omega, h2⟩
  have hu := h.up
  match cs, hm, hu with
  | [], hm, _ => exact absurd ((hm 2).2 rfl) (by simp)
  | [a], hm, _ => rw [(hm a).1 (by simp)]
  | a :: b :: r, hm, hu =>
    have e1 := (hm a).1 (by simp)
    have e2 := (hm b).1 (by simp)
    have := (List.pairwise_cons.1 hu).1 b (by simp)
    omega

end Go.Proofs.Ytigodbamphejmaa.S
