/- The document's rooms: the plain mathematics. -/
import Derived.Test.YtpkdpddillebfaaDoorFm
namespace Go.Proofs.YtpkdpddillebfaaDoor.F

/-- How much leads out of a set, of what may go from each place to each other one. -/
def rowM (M : Nat → Nat → Int) (S : Int → Bool) (i : Nat) : Nat → Int
  | 0 => 0
  | j + 1 => rowM M S i j + (if S (i : Int) && !S (j : Int) then M i j else 0)

def sumM (M : Nat → Nat → Int) (N : Nat) (S : Int → Bool) : Nat → Int
  | 0 => 0
  | i + 1 => sumM M N S i + rowM M S i N

def capM (M : Nat → Nat → Int) (N : Nat) (S : Int → Bool) : Int := sumM M N S N

/-- One entry is changed. -/
def addM (M : Nat → Nat → Int) (x y : Nat) (d : Int) : Nat → Nat → Int := fun i j => if i = x ∧ j = y then M i j + d else M i j

theorem row_other {M : Nat → Nat → Int} {x y i : Nat} {d : Int} (S : Int → Bool) (h : i ≠ x) : ∀ n, rowM (addM M x y d) S i n = rowM M S i n
  | 0 => rfl
  | n + 1 => by
    have : addM M x y d i n = M i n := if_neg (fun k => h k.1)
    simp only [rowM, row_other S h n, this]

theorem row_add {M : Nat → Nat → Int} {x y : Nat} {d : Int} (S : Int → Bool) : ∀ n, rowM (addM M x y d) S x n = rowM M S x n + (if y < n then (if S (x : Int) && !S (y : Int) then d else 0) else 0)
  | 0 => by simp [rowM]
  | n + 1 => by
    simp only [rowM, row_add S n]
    by_cases e : n = y
    · subst e
      have : addM M x n d x n = M x n + d := if_pos ⟨rfl, rfl⟩
      rw [this, if_neg (Nat.lt_irrefl n), if_pos (Nat.lt_succ_self n)]
      split <;> omega
    · have : addM M x y d x n = M x n := if_neg (fun k => e k.2)
      rw [this]
      by_cases c : y < n
      · rw [if_pos c, if_pos (show y < n + 1 by omega)]; omega
      · rw [if_neg c, if_neg (show ¬ y < n + 1 by omega)]; omega

theorem sum_add {M : Nat → Nat → Int} {x y N : Nat} {d : Int} (hy : y < N) (S : Int → Bool) : ∀ n, sumM (addM M x y d) N S n = sumM M N S n + (if x < n then (if S (x : Int) && !S (y : Int) then d else 0) else 0)
  | 0 => by simp [sumM]
  | n + 1 => by
    simp only [sumM, sum_add hy S n]
    by_cases e : n = x
    · subst e
      rw [row_add S N, if_pos hy, if_neg (Nat.lt_irrefl n), if_pos (Nat.lt_succ_self n)]; omega
    · rw [row_other S e N]
      by_cases c : x < n
      · rw [if_pos c, if_pos (show x < n + 1 by omega)]; omega
      · rw [if_neg c, if_neg (show ¬ x < n + 1 by omega)]; omega

theorem cap_add {M : Nat → Nat → Int} {x y N : Nat} {d : Int} (hx : x < N) (hy : y < N) (S : Int → Bool) : capM (addM M x y d) N S = capM M N S + (if S (x : Int) && !S (y : Int) then d else 0) := by
  unfold capM
  rw [sum_add hy S N, if_pos hx]

/-- One goes from x to y. -/
def tkM (M : Nat → Nat → Int) (x y : Nat) : Nat → Nat → Int := addM (addM M x y (-1)) y x 1

theorem cap_tkM {M : Nat → Nat → Int} {x y N : Nat} (hx : x < N) (hy : y < N) (S : Int → Bool) : capM (tkM M x y) N S = capM M N S - (chi S x - chi S y) := by
  unfold tkM
  rw [cap_add hy hx, cap_add hx hy]
  unfold chi
  cases S (x : Int) <;> cases S (y : Int) <;> simp <;> omega

/-- A way, by its places: the last one goes first. -/
def tkP (M : Nat → Nat → Int) : List Nat → Nat → Nat → Int
  | x :: y :: r => tkM (tkP M (y :: r)) x y
  | _ => M

theorem cap_tkP {M : Nat → Nat → Int} {N : Nat} (S : Int → Bool) : ∀ (vs : List Nat) (x to : Nat), vs.head? = some x → vs.getLast? = some to → (∀ v ∈ vs, v < N) → capM (tkP M vs) N S = capM M N S - (chi S x - chi S to)
  | [], _, _, h, _, _ => by cases h
  | [v], x, to, h, h2, _ => by
    simp at h h2
    subst h
    subst h2
    show capM M N S = _
    omega
  | v :: y :: r, x, to, h, h2, h3 => by
    have hv : v = x := by simpa using h
    subst hv
    have ih := cap_tkP (M := M) S (y :: r) y to rfl (by rw [List.getLast?_cons_cons] at h2; exact h2) (fun u hu => h3 u (List.mem_cons_of_mem _ hu))
    show capM (tkM (tkP M (y :: r)) v y) N S = _
    rw [cap_tkM (h3 v (by simp)) (h3 y (by simp)), ih]
    omega

/-- Places that are not on the way. -/
theorem tkP_off {M : Nat → Nat → Int} : ∀ (vs : List Nat) (i j : Nat), i ∉ vs → tkP M vs i j = M i j ∧ tkP M vs j i = M j i
  | [], _, _, _ => ⟨rfl, rfl⟩
  | [_], _, _, _ => ⟨rfl, rfl⟩
  | x :: y :: r, i, j, h => by
    have hx : i ≠ x := fun e => h (by simp [e])
    have hy : i ≠ y := fun e => h (by simp [e])
    have ih := tkP_off (M := M) (y :: r) i j (fun k => h (List.mem_cons_of_mem _ k))
    show tkM (tkP M (y :: r)) x y i j = _ ∧ tkM (tkP M (y :: r)) x y j i = _
    unfold tkM addM
    rw [if_neg (fun k => hy k.1), if_neg (fun k => hx k.1), if_neg (fun k => hx k.2), if_neg (fun k => hy k.2)]
    exact ih

end Go.Proofs.YtpkdpddillebfaaDoor.F
