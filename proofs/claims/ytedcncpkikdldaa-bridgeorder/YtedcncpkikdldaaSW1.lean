/- check, the closure and slices.ContainsFunc. -/
import Derived.Test.YtedcncpkikdldaaSB
namespace Go.Proofs.Ytedcncpkikdldaa.S
open Go.RowKit


set_option maxHeartbeats 400000 in
theorem strange_in (x : Int) (p b c : Nat) (L : List Nat) (w : World) (hs : SetsAt w p b L) (hc : w.cell? ⟨c, 0, none⟩ = some (.pointer (some ⟨p, 0, none⟩))) (hx0 : 0 ≤ x) (hx : x < (L.length : Int)) :
    Calls Try.prog 57 #[.int .i64 x, .pointer (some ⟨c, 0, none⟩)] w fun e w' => e = .returned (.bool false) ∧ w' = w := by
  have hp := hs.pcell
  have h0 : ¬ (x < 0) := by omega
  have h1 : ¬ ((L.length : Int) ≤ x) := by omega
  clear hs
  go_enter Try.func57, Try.ntmps57
  go_wp2
  go_ret
  exact ⟨rfl, rfl⟩

set_option maxHeartbeats 400000 in
theorem index_in (N : List Int) (s p b c cap : Nat) (L : List Nat) (w : World) (hs : SetsAt w p b L) (hc : w.cell? ⟨c, 0, none⟩ = some (.pointer (some ⟨p, 0, none⟩)))
    (hrow : ∀ i, i < N.length → w.cell? ⟨s, i, none⟩ = some (.int .i64 (N.getD i 0))) (hl : N.length ≤ 2) (hall : ∀ i, i < N.length → 0 ≤ N.getD i 0 ∧ N.getD i 0 < (L.length : Int)) :
    Calls Try.prog 78 #[.slice (some ⟨s, 0, none⟩) N.length cap, .func (.func 57) #[] #[.pointer (some ⟨c, 0, none⟩)]] w fun e w' => e = .returned (.int .i64 (-1)) ∧ w' = w := by
  go_enter Try.func78, Try.ntmps78
  go_wp2_with fail
  go_loop [5, 8] (fun _ i => ∃ k : Nat, k ≤ N.length ∧ i = .int .i64 k) (fun _ i => N.length - (intOf i).toNat)
  case atStart => exact ⟨0, Nat.zero_le _, rfl⟩
  case round =>
    obtain ⟨k, hk, rfl⟩ := hrel
    by_cases hlt : k < N.length
    · have hcell := hrow k hlt
      have ha := hall k hlt
      generalize N.getD k 0 = x at hcell ha
      clear hrow hall
      go_wp2_with fail
      refine (strange_in x p b c L _ hs hc ha.1 ha.2).mono ?_
      rintro e w' ⟨rfl, rfl⟩
      go_wp2
      go_round
      case rel => exact ⟨k + 1, by omega, by go_num⟩
      case measure => simp [intOf]; omega
    · go_wp2
      go_ret
      exact ⟨rfl, rfl⟩

set_option maxHeartbeats 400000 in
theorem contains_in (N : List Int) (s p b c cap : Nat) (L : List Nat) (w : World) (hs : SetsAt w p b L) (hc : w.cell? ⟨c, 0, none⟩ = some (.pointer (some ⟨p, 0, none⟩)))
    (hrow : ∀ i, i < N.length → w.cell? ⟨s, i, none⟩ = some (.int .i64 (N.getD i 0))) (hl : N.length ≤ 2) (hall : ∀ i, i < N.length → 0 ≤ N.getD i 0 ∧ N.getD i 0 < (L.length : Int)) :
    Calls Try.prog 58 #[.slice (some ⟨s, 0, none⟩) N.length cap, .func (.func 57) #[] #[.pointer (some ⟨c, 0, none⟩)]] w fun e w' => e = .returned (.bool false) ∧ w' = w := by
  go_enter Try.func58, Try.ntmps58
  go_wp2_with fail
  refine (index_in N s p b c cap L _ hs hc hrow hl hall).mono ?_
  rintro e w' ⟨rfl, rfl⟩
  clear hs hc hrow hall
  go_wp2
  go_ret
  exact ⟨rfl, rfl⟩

end Go.Proofs.Ytedcncpkikdldaa.S
