/- Package isthmuskeep: same and sames. -/
import Derived.Test.YtebcjaenhiiflaaGreatDoorSBT
import Derived.Test.YtebcjaenhiiflaaGreatDoorKp
namespace Go.Proofs.YtebcjaenhiiflaaGreatDoor.S.K
open Go.RowKit


set_option maxHeartbeats 400000 in
theorem same_rows (r1 r2 gl c1 c2 : Nat) (G : Nat → Nat) (w : World) (h1 : ∀ j, j < gl → w.cell? ⟨r1, j, none⟩ = some (.int .i64 (G j : Int))) (h2 : ∀ j, j < gl → w.cell? ⟨r2, j, none⟩ = some (.int .i64 (G j : Int))) (hgl : gl ≤ 1000000) :
    Calls Tryz.prog 32 #[.slice (some ⟨r1, 0, none⟩) gl c1, .slice (some ⟨r2, 0, none⟩) gl c2] w fun e w' => e = .returned (.bool true) ∧ ∃ n, w' = w.drewN n := by
  have H1 := (show Hid _ from h1)
  have H2 := (show Hid _ from h2)
  clear h1 h2
  go_enter Tryz.func32, Tryz.ntmps32
  go_wp2_with fail
  go_loopw [5] (fun s5 wq => ∃ j : Nat, j ≤ gl ∧ s5 = .int .i64 j ∧ ∃ q, wq = w.drewN q) (fun s5 _ => gl - (intOf s5).toNat)
  case atStart => exact ⟨0, Nat.zero_le _, rfl, 0, rfl⟩
  case round =>
    obtain ⟨j, hj, rfl, q, hq⟩ := hrel
    have HQ : Hid (wr = w.drewN q) := hq
    clear hq
    by_cases hlt : j < gl
    · have c1' : wr.cell? ⟨r1, j, none⟩ = some (.int .i64 (G j : Int)) := by rw [HQ.out]; exact H1.out j hlt
      have c2' : wr.cell? ⟨r2, j, none⟩ = some (.int .i64 (G j : Int)) := by rw [HQ.out]; exact H2.out j hlt
      generalize G j = x at *
      go_wp2_with fail
      go_quiet (fail)
      go_wp2_with fail
      go_roundw
      case rel => exact ⟨j + 1, by omega, by go_num, _, by rw [HQ.out]; exact drewN_drewN _ _ _⟩
      case measure => simp [intOf]; omega
    · go_wp2_with fail
      go_ret
      exact ⟨rfl, q, HQ.out⟩

/-- Rows that can be read: the i-th at the i-th cell. -/
def RowsAt (w : World) (g : Nat) (Gs : List (List Nat)) (c : Nat) : Prop :=
  ∀ i, i < c → ∃ r cap, w.cell? ⟨g, i, none⟩ = some (.slice (some ⟨r, 0, none⟩) (Gs.getD i []).length cap) ∧ ∀ j, j < (Gs.getD i []).length → w.cell? ⟨r, j, none⟩ = some (.int .i64 (((Gs.getD i []).getD j 0 : Nat) : Int))

set_option maxHeartbeats 400000 in
theorem sames_rows (a1 a2 : Option Addr) (c cap1 cap2 : Nat) (Gs : List (List Nat)) (w : World) (h : 0 < c → ∃ g1 g2, a1 = some ⟨g1, 0, none⟩ ∧ a2 = some ⟨g2, 0, none⟩ ∧ RowsAt w g1 Gs c ∧ RowsAt w g2 Gs c) (hc : c ≤ 1000000) (hgl : ∀ i, (Gs.getD i []).length ≤ 1000000) :
    Calls Tryz.prog 35 #[.slice a1 c cap1, .slice a2 c cap2] w fun e w' => e = .returned (.bool true) ∧ ∃ n, w' = w.drewN n := by
  have HH := (show Hid _ from h)
  have HL := (show Hid _ from hgl)
  clear h hgl
  go_enter Tryz.func35, Tryz.ntmps35
  go_wp2_with fail
  go_loopw [5] (fun s5 wq => ∃ j : Nat, j ≤ c ∧ s5 = .int .i64 j ∧ ∃ q, wq = w.drewN q) (fun s5 _ => c - (intOf s5).toNat)
  case atStart => exact ⟨0, Nat.zero_le _, rfl, 0, rfl⟩
  case round =>
    obtain ⟨j, hj, rfl, q, hq⟩ := hrel
    have HQ : Hid (wr = w.drewN q) := hq
    clear hq
    by_cases hlt : j < c
    · obtain ⟨g1, g2, e1, e2, R1, R2⟩ := HH.out (by omega)
      subst e1 e2
      obtain ⟨r1, k1, a1', b1⟩ := R1 j hlt
      obtain ⟨r2, k2, a2', b2⟩ := R2 j hlt
      have hgl := HL.out j
      have HS : Hid (∀ Q, Calls Tryz.prog 32 #[.slice (some ⟨r1, 0, none⟩) (Gs.getD j []).length k1, .slice (some ⟨r2, 0, none⟩) (Gs.getD j []).length k2] (wr.drewN Q) fun e w' => e = .returned (.bool true) ∧ ∃ n, w' = (wr.drewN Q).drewN n) := fun Q =>
        same_rows r1 r2 (Gs.getD j []).length k1 k2 (fun i => (Gs.getD j []).getD i 0) (wr.drewN Q) (by rw [HQ.out]; exact b1) (by rw [HQ.out]; exact b2) hgl
      have d1 : wr.cell? ⟨g1, j, none⟩ = some (.slice (some ⟨r1, 0, none⟩) (Gs.getD j []).length k1) := by rw [HQ.out]; exact a1'
      have d2 : wr.cell? ⟨g2, j, none⟩ = some (.slice (some ⟨r2, 0, none⟩) (Gs.getD j []).length k2) := by rw [HQ.out]; exact a2'
      clear R1 R2 b1 b2 HH HL a1' a2'
      generalize (Gs.getD j []).length = gl at *
      go_wp2_with fail
      go_quiet ((go_at_call 32; go_must (exact Calls.quiet_of (HS.out _))))
      go_wp2_with fail
      go_roundw
      case rel => exact ⟨j + 1, by omega, by go_num, _, by rw [HQ.out]; exact drewN_drewN _ _ _⟩
      case measure => simp [intOf]; omega
    · go_wp2_with fail
      go_ret
      exact ⟨rfl, q, HQ.out⟩

end Go.Proofs.YtebcjaenhiiflaaGreatDoor.S.K
