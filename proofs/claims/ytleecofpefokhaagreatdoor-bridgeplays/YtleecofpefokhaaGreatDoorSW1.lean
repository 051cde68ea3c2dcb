/- check, the closure and slices.ContainsFunc. -/
import Derived.Test.YtleecofpefokhaaGreatDoorSB
namespace Go.Proofs.YtleecofpefokhaaGreatDoor.S
open Go.RowKit

set_option maxHeartbeats 400000 in
theorem strange_in (x : Int) (p b c : Nat) (L : List Nat) (w : World) (hs : SetsAt w p b L) (hc : w.cell? ⟨c, 0, none⟩ = some (.pointer (some ⟨p, 0, none⟩))) (hx0 : 0 ≤ x) (hx : x < (L.length : Int)) :
    Calls Tryz.prog 47 #[.int .i64 x, .pointer (some ⟨c, 0, none⟩)] w fun e w' => e = .returned (.bool false) ∧ w' = w := by
  have hp := hs.pcell
  have h0 : ¬ (x < 0) := by omega
  have h1 : ¬ ((L.length : Int) ≤ x) := by omega
  clear hs
  go_enter Tryz.func47, Tryz.ntmps47
  go_wp2
  go_ret
  exact ⟨rfl, rfl⟩

set_option maxHeartbeats 400000 in
theorem strange_out (x : Int) (p b c : Nat) (L : List Nat) (w : World) (hs : SetsAt w p b L) (hc : w.cell? ⟨c, 0, none⟩ = some (.pointer (some ⟨p, 0, none⟩))) (hx : x < 0 ∨ (L.length : Int) ≤ x) :
    Calls Tryz.prog 47 #[.int .i64 x, .pointer (some ⟨c, 0, none⟩)] w fun e w' => e = .returned (.bool true) ∧ w' = w := by
  have hp := hs.pcell
  clear hs
  rcases hx with h | h
  · go_enter Tryz.func47, Tryz.ntmps47
    go_wp2
    go_ret
    exact ⟨rfl, rfl⟩
  · have h0 : ¬ (x < 0) := by omega
    go_enter Tryz.func47, Tryz.ntmps47
    go_wp2
    go_ret
    exact ⟨rfl, rfl⟩

set_option maxHeartbeats 400000 in
theorem index_in (N : List Int) (s p b c cap : Nat) (L : List Nat) (w : World) (hs : SetsAt w p b L) (hc : w.cell? ⟨c, 0, none⟩ = some (.pointer (some ⟨p, 0, none⟩)))
    (hrow : ∀ i, i < N.length → w.cell? ⟨s, i, none⟩ = some (.int .i64 (N.getD i 0))) (hl : N.length ≤ 2) (hall : ∀ i, i < N.length → 0 ≤ N.getD i 0 ∧ N.getD i 0 < (L.length : Int)) :
    Calls Tryz.prog 59 #[.slice (some ⟨s, 0, none⟩) N.length cap, .func (.func 47) #[] #[.pointer (some ⟨c, 0, none⟩)]] w fun e w' => e = .returned (.int .i64 (-1)) ∧ w' = w := by
  go_enter Tryz.func59, Tryz.ntmps59
  go_wp2_with fail
  go_loop [5, 8] (fun _ i => ∃ k : Nat, k ≤ N.length ∧ i = .int .i64 k) (fun _ i => N.length - (intOf i).toNat)
  case atStart => exact ⟨0, Nat.zero_le _, rfl⟩
  case round =>
    obtain ⟨k, hk, rfl⟩ := hrel
    by_cases hlt : k < N.length
    · have hcell := hrow k hlt
      have ha := hall k hlt
      generalize N.getD k 0 = x at hcell ha
      clear hrow hall
      go_wp2_with fail
      refine (strange_in x p b c L _ hs hc ha.1 ha.2).mono ?_
      rintro e w' ⟨rfl, rfl⟩
      go_wp2
      go_round
      case rel => exact ⟨k + 1, by omega, by go_num⟩
      case measure => simp [intOf]; omega
    · go_wp2
      go_ret
      exact ⟨rfl, rfl⟩

set_option maxHeartbeats 400000 in
theorem index_out (N : List Int) (s p b c cap : Nat) (L : List Nat) (w : World) (hs : SetsAt w p b L) (hc : w.cell? ⟨c, 0, none⟩ = some (.pointer (some ⟨p, 0, none⟩)))
    (hrow : ∀ i, i < N.length → w.cell? ⟨s, i, none⟩ = some (.int .i64 (N.getD i 0))) (hl : N.length ≤ 2) (j : Nat) (hj : j < N.length) (hstr : N.getD j 0 < 0 ∨ (L.length : Int) ≤ N.getD j 0) :
    Calls Tryz.prog 59 #[.slice (some ⟨s, 0, none⟩) N.length cap, .func (.func 47) #[] #[.pointer (some ⟨c, 0, none⟩)]] w fun e w' => (∃ k : Nat, e = .returned (.int .i64 (k : Int))) ∧ w' = w := by
  go_enter Tryz.func59, Tryz.ntmps59
  go_wp2_with fail
  go_loop [5, 8] (fun _ i => ∃ k : Nat, k ≤ j ∧ i = .int .i64 k) (fun _ i => N.length - (intOf i).toNat)
  case atStart => exact ⟨0, Nat.zero_le _, rfl⟩
  case round =>
    obtain ⟨k, hk, rfl⟩ := hrel
    have hlt : k < N.length := by omega
    have hcell := hrow k hlt
    by_cases ha : 0 ≤ N.getD k 0 ∧ N.getD k 0 < (L.length : Int)
    · have hkj : k ≠ j := by rintro rfl; omega
      have hkj' : k < j := by omega
      clear hstr hrow hkj
      generalize N.getD k 0 = x at hcell ha
      go_wp2_with fail
      refine (strange_in x p b c L _ hs hc ha.1 ha.2).mono ?_
      rintro e w' ⟨rfl, rfl⟩
      go_wp2
      go_round
      case rel => exact ⟨k + 1, by omega, by go_num⟩
      case measure => simp [intOf]; omega
    · clear hstr hrow
      generalize N.getD k 0 = x at hcell ha
      have hx : x < 0 ∨ (L.length : Int) ≤ x := by omega
      clear ha
      go_wp2_with fail
      refine (strange_out x p b c L _ hs hc hx).mono ?_
      rintro e w' ⟨rfl, rfl⟩
      go_wp2
      go_ret
      exact ⟨⟨k, rfl⟩, rfl⟩

set_option maxHeartbeats 400000 in
theorem contains_in (N : List Int) (s p b c cap : Nat) (L : List Nat) (w : World) (hs : SetsAt w p b L) (hc : w.cell? ⟨c, 0, none⟩ = some (.pointer (some ⟨p, 0, none⟩)))
    (hrow : ∀ i, i < N.length → w.cell? ⟨s, i, none⟩ = some (.int .i64 (N.getD i 0))) (hl : N.length ≤ 2) (hall : ∀ i, i < N.length → 0 ≤ N.getD i 0 ∧ N.getD i 0 < (L.length : Int)) :
    Calls Tryz.prog 48 #[.slice (some ⟨s, 0, none⟩) N.length cap, .func (.func 47) #[] #[.pointer (some ⟨c, 0, none⟩)]] w fun e w' => e = .returned (.bool false) ∧ w' = w := by
  go_enter Tryz.func48, Tryz.ntmps48
  go_wp2_with fail
  refine (index_in N s p b c cap L _ hs hc hrow hl hall).mono ?_
  rintro e w' ⟨rfl, rfl⟩
  clear hs hc hrow hall
  go_wp2
  go_ret
  exact ⟨rfl, rfl⟩

set_option maxHeartbeats 400000 in
theorem contains_out (N : List Int) (s p b c cap : Nat) (L : List Nat) (w : World) (hs : SetsAt w p b L) (hc : w.cell? ⟨c, 0, none⟩ = some (.pointer (some ⟨p, 0, none⟩)))
    (hrow : ∀ i, i < N.length → w.cell? ⟨s, i, none⟩ = some (.int .i64 (N.getD i 0))) (hl : N.length ≤ 2) (j : Nat) (hj : j < N.length) (hstr : N.getD j 0 < 0 ∨ (L.length : Int) ≤ N.getD j 0) :
    Calls Tryz.prog 48 #[.slice (some ⟨s, 0, none⟩) N.length cap, .func (.func 47) #[] #[.pointer (some ⟨c, 0, none⟩)]] w fun e w' => e = .returned (.bool true) ∧ w' = w := by
  go_enter Tryz.func48, Tryz.ntmps48
  go_wp2_with fail
  refine (index_out N s p b c cap L _ hs hc hrow hl j hj hstr).mono ?_
  rintro e w' ⟨⟨k, rfl⟩, rfl⟩
  clear hs hc hrow hstr
  have hk : (0 : Int) ≤ (k : Int) := by omega
  go_wp2
  go_ret
  exact ⟨rfl, rfl⟩

end Go.Proofs.YtleecofpefokhaaGreatDoor.S
