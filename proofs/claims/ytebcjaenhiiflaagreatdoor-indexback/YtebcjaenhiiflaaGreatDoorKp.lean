/- Package isthmuskeep: pick; same at rows of numbers. -/
import Derived.Test.YtebcjaenhiiflaaGreatDoorBBh
namespace Go.Proofs.YtebcjaenhiiflaaGreatDoor.S
open Go.RowKit Go.WideMaps Go.Maps

/-- Which of n numbers one is picked as. -/
def pk (a : Int) (n : Nat) : Nat := ((IntKind.u64.wrap a).toNat) % n

theorem pk_lt (a : Int) (n : Nat) (h : 0 < n) : pk a n < n := Nat.mod_lt _ h

theorem pk_eq (a : Int) (n : Nat) (h : 0 < n) (h' : n ≤ 1000000) : wrap64 ((IntKind.u64.wrap a).tmod (n : Int)) = (pk a n : Int) := by
  have h0 := wrap_u64_nonneg a
  unfold pk
  generalize IntKind.u64.wrap a = u at *
  obtain ⟨u, rfl⟩ := Int.eq_ofNat_of_zero_le h0
  have e : (u : Int).tmod (n : Int) = ((u % n : Nat) : Int) := by
    rw [Int.tmod_eq_emod_of_nonneg (by omega)]; omega
  rw [e, Int.toNat_natCast]
  have := Nat.mod_lt u h
  exact IntWalk.wrap64_in _ (by omega)

set_option maxHeartbeats 400000 in
theorem pick_any (a : Int) (n : Nat) (w : World) (hn : 0 < n) (hn' : n ≤ 1000000) :
    Calls Tryz.prog 31 #[.int .i64 a, .int .i64 (n : Int)] w fun e w' => e = .returned (.int .i64 (pk a n : Int)) ∧ w' = w := by
  have HP : Hid (wrap64 ((IntKind.u64.wrap a).tmod (n : Int)) = (pk a n : Int)) := pk_eq a n hn hn'
  go_enter Tryz.func31, Tryz.ntmps31
  go_wp2
  go_ret
  exact ⟨by rw [← HP.out]; rfl, rfl⟩

set_option maxHeartbeats 1000000 in
/-- same at two rows of the same numbers. -/
theorem same_ints (a1 a2 : Option Addr) (gl c1 c2 : Nat) (F : Nat → Int) (w : World) (h : 0 < gl → ∃ r1 r2, a1 = some ⟨r1, 0, none⟩ ∧ a2 = some ⟨r2, 0, none⟩ ∧ (∀ j, j < gl → w.cell? ⟨r1, j, none⟩ = some (.int .i64 (F j))) ∧ ∀ j, j < gl → w.cell? ⟨r2, j, none⟩ = some (.int .i64 (F j))) (hgl : gl ≤ 1000000) :
    Calls Tryz.prog 32 #[.slice a1 gl c1, .slice a2 gl c2] w fun e w' => e = .returned (.bool true) ∧ ∃ n, w' = w.drewN n := by
  have HH := (show Hid _ from h)
  clear h
  go_enter Tryz.func32, Tryz.ntmps32
  go_wp2_with fail
  go_loopw [5] (fun s5 wq => ∃ j : Nat, j ≤ gl ∧ s5 = .int .i64 j ∧ ∃ q, wq = w.drewN q) (fun s5 _ => gl - (intOf s5).toNat)
  case atStart => exact ⟨0, Nat.zero_le _, rfl, 0, rfl⟩
  case round =>
    obtain ⟨j, hj, rfl, q, hq0⟩ := hrel
    have HQ : Hid (wr = w.drewN q) := hq0
    clear hq0
    by_cases hlt : j < gl
    · obtain ⟨r1, r2, rfl, rfl, h1, h2⟩ := HH.out (by omega)
      have c1' : wr.cell? ⟨r1, j, none⟩ = some (.int .i64 (F j)) := by rw [HQ.out]; exact h1 j hlt
      have c2' : wr.cell? ⟨r2, j, none⟩ = some (.int .i64 (F j)) := by rw [HQ.out]; exact h2 j hlt
      generalize F j = x at *
      clear h1 h2
      go_wp2_with fail
      go_quiet (fail)
      clear c1' c2'
      go_wp2_with fail
      go_roundw
      case rel => exact ⟨j + 1, by omega, by go_num, q + nq, by rw [HQ.out, drewN_drewN]⟩
      case measure => simp [intOf]; omega
    · go_wp2_with fail
      go_ret
      exact ⟨rfl, q, HQ.out⟩

end Go.Proofs.YtebcjaenhiiflaaGreatDoor.S
