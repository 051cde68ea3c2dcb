/- The contracts of count, Many, Size, New and pick. -/
import Derived.Test.YtkoghblolnklmaaDoorW2
namespace Go.Proofs.YtkoghblolnklmaaDoor
open Go.RowKit

theorem sets_drewN {w : World} {p b : Nat} {L : List Nat} (h : SetsAt w p b L) (n : Nat) : SetsAt (w.drewN n) p b L := ⟨h.hp, h.hb⟩
theorem cell_drewN (w : World) (n : Nat) (a : Addr) : (w.drewN n).cell? a = w.cell? a := rfl
theorem drewN_drewN (w : World) (n m : Nat) : (w.drewN n).drewN m = w.drewN (n + m) := by simp [World.drewN, Nat.add_assoc]

/-- How many of the first k numbers fit. -/
def cnt (f : Nat → Bool) : Nat → Nat
  | 0 => 0
  | k + 1 => cnt f k + if f k then 1 else 0

theorem cnt_le (f : Nat → Bool) : ∀ k, cnt f k ≤ k
  | 0 => Nat.le_refl _
  | k + 1 => by have := cnt_le f k; simp only [cnt]; split <;> omega

theorem cnt_true (f : Nat → Bool) (k : Nat) (h : f k = true) : ((cnt f (k + 1) : Nat) : Int) = (cnt f k : Int) + 1 := by simp [cnt, h]
theorem cnt_false (f : Nat → Bool) (k : Nat) (h : f k = false) : ((cnt f (k + 1) : Nat) : Int) = (cnt f k : Int) := by simp [cnt, h]

/-- A number is the least of its set. -/
def isLeast (L : List Nat) (x : Nat) : Bool := ((L.getD x 0 : Nat) : Int) == (x : Int)
/-- Two are of one set. -/
def isSame (L : List Nat) (x y : Nat) : Bool := ((L.getD y 0 : Nat) : Int) == ((L.getD x 0 : Nat) : Int)

set_option maxHeartbeats 400000 in
theorem count_many (p b c : Nat) (L : List Nat) (w : World) (hs : SetsAt w p b L) (hc : w.cell? ⟨c, 0, none⟩ = some (.pointer (some ⟨p, 0, none⟩))) (hlen : L.length ≤ 40) :
    Calls Tryd.prog 17 #[.pointer (some ⟨p, 0, none⟩), .func (.func 19) #[] #[.pointer (some ⟨c, 0, none⟩)]] w fun e w' => e = .returned (.int .i64 (cnt (isLeast L) L.length : Int)) ∧ w' = w := by
  have hp := hs.pcell
  go_enter Tryd.func17, Tryd.ntmps17
  go_wp2_with fail
  go_loop [5, 6, 12] (fun t _ i => ∃ k : Nat, k ≤ L.length ∧ i = .int .i64 k ∧ t = .int .i64 (cnt (isLeast L) k : Int)) (fun _ _ i => L.length - (intOf i).toNat)
  case atStart => exact ⟨0, Nat.zero_le _, rfl, rfl⟩
  case round =>
    obtain ⟨k, hk, rfl, rfl⟩ := hrel
    have hcl := cnt_le (isLeast L) k
    by_cases hlt : k < L.length
    · go_wp2_with fail
      refine (many1 k p b c L _ hs hc hlt).mono ?_
      rintro e w' ⟨rfl, rfl⟩
      cases hf : isLeast L k with
      | true =>
        have hf' : (((L.getD k 0 : Nat) : Int) == (k : Int)) = true := hf
        have HC : Hid (((cnt (isLeast L) (k + 1) : Nat) : Int) = (cnt (isLeast L) k : Int) + 1) := cnt_true _ _ hf
        rw [hf']
        clear hf hf'
        generalize cnt (isLeast L) k = z at *
        go_wp2
        go_round
        case rel => exact ⟨k + 1, by omega, by go_num, by rw [HC.out]⟩
        case measure => simp [intOf]; omega
      | false =>
        have hf' : (((L.getD k 0 : Nat) : Int) == (k : Int)) = false := hf
        have HC : Hid (((cnt (isLeast L) (k + 1) : Nat) : Int) = (cnt (isLeast L) k : Int)) := cnt_false _ _ hf
        rw [hf']
        clear hf hf'
        generalize cnt (isLeast L) k = z at *
        go_wp2
        go_round
        case rel => exact ⟨k + 1, by omega, by go_num, by rw [HC.out]⟩
        case measure => simp [intOf]; omega
    · have hke : k = L.length := by omega
      subst hke
      go_wp2
      go_ret
      exact ⟨rfl, rfl⟩

set_option maxHeartbeats 400000 in
theorem many_any (p b : Nat) (L : List Nat) (w : World) (hs : SetsAt w p b L) (hlen : L.length ≤ 40) :
    Calls Tryd.prog 10 #[.pointer (some ⟨p, 0, none⟩)] w fun e w' => e = .returned (.int .i64 (cnt (isLeast L) L.length : Int)) ∧ Below w.heap.size w w' := by
  have hmf' := hmf
  go_enter Tryd.func10, Tryd.ntmps10
  go_wp2_with fail
  refine (count_many p b w.heap.size L _ (sets_alloc hs _) (by simp) hlen).mono ?_
  rintro e w' ⟨rfl, rfl⟩
  clear hs
  go_wp2
  go_ret
  exact ⟨rfl, (Below.refl _ _).alloc (Nat.le_refl _) _⟩

set_option maxHeartbeats 400000 in
theorem count_size (x p b c d : Nat) (L : List Nat) (w : World) (hs : SetsAt w p b L) (hc : w.cell? ⟨c, 0, none⟩ = some (.pointer (some ⟨p, 0, none⟩))) (hd : w.cell? ⟨d, 0, none⟩ = some (.int .i64 (x : Int))) (hx : x < L.length) (hlen : L.length ≤ 40) :
    Calls Tryd.prog 17 #[.pointer (some ⟨p, 0, none⟩), .func (.func 18) #[] #[.pointer (some ⟨c, 0, none⟩), .pointer (some ⟨d, 0, none⟩)]] w fun e w' => e = .returned (.int .i64 (cnt (isSame L x) L.length : Int)) ∧ ∃ n, w' = w.drewN n := by
  have hp := hs.pcell
  go_enter Tryd.func17, Tryd.ntmps17
  go_wp2_with fail
  go_loopw [5, 6, 12] (fun t _ i wr => ∃ k : Nat, k ≤ L.length ∧ i = .int .i64 k ∧ t = .int .i64 (cnt (isSame L x) k : Int) ∧ ∃ n, wr = w.drewN n) (fun _ _ i _ => L.length - (intOf i).toNat)
  case atStart => exact ⟨0, Nat.zero_le _, rfl, rfl, 0, rfl⟩
  case round =>
    obtain ⟨k, hk, rfl, rfl, m, rfl⟩ := hrel
    have hcl := cnt_le (isSame L x) k
    by_cases hlt : k < L.length
    · go_wp2_with fail
      refine (size1 x k p b c d L _ (sets_drewN hs m) hc hd hx hlt).mono ?_
      rintro e w' ⟨rfl, j, rfl⟩
      rw [drewN_drewN]
      cases hf : isSame L x k with
      | true =>
        have hf' : (((L.getD k 0 : Nat) : Int) == ((L.getD x 0 : Nat) : Int)) = true := hf
        have HC : Hid (((cnt (isSame L x) (k + 1) : Nat) : Int) = (cnt (isSame L x) k : Int) + 1) := cnt_true _ _ hf
        rw [hf']
        clear hf hf'
        generalize cnt (isSame L x) k = z at *
        go_wp2
        go_roundw
        case rel => exact ⟨k + 1, by omega, by go_num, by rw [HC.out], _, rfl⟩
        case measure => simp [intOf]; omega
      | false =>
        have hf' : (((L.getD k 0 : Nat) : Int) == ((L.getD x 0 : Nat) : Int)) = false := hf
        have HC : Hid (((cnt (isSame L x) (k + 1) : Nat) : Int) = (cnt (isSame L x) k : Int)) := cnt_false _ _ hf
        rw [hf']
        clear hf hf'
        generalize cnt (isSame L x) k = z at *
        go_wp2
        go_roundw
        case rel => exact ⟨k + 1, by omega, by go_num, by rw [HC.out], _, rfl⟩
        case measure => simp [intOf]; omega
    · have hke : k = L.length := by omega
      subst hke
      go_wp2
      go_ret
      exact ⟨rfl, m, rfl⟩

end Go.Proofs.YtkoghblolnklmaaDoor
