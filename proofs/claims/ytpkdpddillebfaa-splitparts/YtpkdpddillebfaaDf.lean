/- The contracts of In, and of same at rows of numbers. -/
import Derived.Test.YtpkdpddillebfaaBg
namespace Go.Proofs.Ytpkdpddillebfaa.S
open Go.RowKit Go.WideMaps Go.Maps


set_option maxHeartbeats 1000000 in
/-- same at two rows of the same numbers. -/
theorem same_ints (a1 a2 : Option Addr) (gl c1 c2 : Nat) (F : Nat → Int) (w : World) (h : 0 < gl → ∃ r1 r2, a1 = some ⟨r1, 0, none⟩ ∧ a2 = some ⟨r2, 0, none⟩ ∧ (∀ j, j < gl → w.cell? ⟨r1, j, none⟩ = some (.int .i64 (F j))) ∧ ∀ j, j < gl → w.cell? ⟨r2, j, none⟩ = some (.int .i64 (F j))) (hgl : gl ≤ 1000000) :
    Calls Try.prog 25 #[.slice a1 gl c1, .slice a2 gl c2] w fun e w' => e = .returned (.bool true) ∧ ∃ n, w' = w.drewN n := by
  have HH := (show Hid _ from h)
  clear h
  go_enter Try.func25, Try.ntmps25
  go_wp2_with fail
  go_loopw [5] (fun s5 wq => ∃ j : Nat, j ≤ gl ∧ s5 = .int .i64 j ∧ ∃ q, wq = w.drewN q) (fun s5 _ => gl - (intOf s5).toNat)
  case atStart => exact ⟨0, Nat.zero_le _, rfl, 0, rfl⟩
  case round =>
    obtain ⟨j, hj, rfl, q, hq0⟩ := hrel
    have HQ : Hid (wr = w.drewN q) := hq0
    clear hq0
    by_cases hlt : j < gl
    · obtain ⟨r1, r2, rfl, rfl, h1, h2⟩ := HH.out (by omega)
      have c1' : wr.cell? ⟨r1, j, none⟩ = some (.int .i64 (F j)) := by rw [HQ.out]; exact h1 j hlt
      have c2' : wr.cell? ⟨r2, j, none⟩ = some (.int .i64 (F j)) := by rw [HQ.out]; exact h2 j hlt
      generalize F j = x at *
      clear h1 h2
      go_wp2_with fail
      go_quiet (fail)
      clear c1' c2'
      go_wp2_with fail
      go_roundw
      case rel => exact ⟨j + 1, by omega, by go_num, q + nq, by rw [HQ.out, drewN_drewN]⟩
      case measure => simp [intOf]; omega
    · go_wp2_with fail
      go_ret
      exact ⟨rfl, q, HQ.out⟩

end Go.Proofs.Ytpkdpddillebfaa.S
