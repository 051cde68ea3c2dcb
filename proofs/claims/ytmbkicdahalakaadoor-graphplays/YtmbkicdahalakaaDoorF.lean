/- The contracts of New, Nodes, has, find and what find calls. -/
import Derived.Test.YtmbkicdahalakaaDoorRows
import Derived.Test.YtmbkicdahalakaaDoorL
import Derived.BigQuiet
import Derived.Sort.AtCall
import Derived.Deep.LoopGhost
namespace Go.Proofs.YtmbkicdahalakaaDoor
open Go.RowKit

/-- What cmp.Compare tells. -/
def cmpI (x y : Int) : Int := if x < y then -1 else if y < x then 1 else 0

set_option maxHeartbeats 400000 in
theorem isNaN_any (x : Int) (w : World) : Calls Tryd.prog 65 #[.int .i64 x] w fun e w' => e = .returned (.bool false) ∧ w' = w := by
  go_enter Tryd.func65, Tryd.ntmps65
  go_wp2
  go_ret
  exact ⟨by simp, rfl⟩

set_option maxHeartbeats 400000 in
theorem compare_any (x y : Int) (w : World) : Calls Tryd.prog 54 #[.int .i64 x, .int .i64 y] w fun e w' => e = .returned (.int .i64 (cmpI x y)) ∧ w' = w := by
  have H : Hid (x < y ∨ ¬ x < y) := Classical.em _
  rcases Int.lt_trichotomy x y with h | h | h
  · have HC : Hid (cmpI x y = -1) := by show cmpI x y = -1; simp [cmpI, h]
    go_enter Tryd.func54, Tryd.ntmps54
    go_wp2
    go_ret
    exact ⟨by rw [HC.out]; rfl, rfl⟩
  · subst h
    have HC : Hid (cmpI x x = 0) := by show cmpI x x = 0; simp [cmpI]
    go_enter Tryd.func54, Tryd.ntmps54
    go_wp2
    go_ret
    exact ⟨by rw [HC.out]; rfl, rfl⟩
  · have h1 : ¬ x < y := by omega
    have HC : Hid (cmpI x y = 1) := by show cmpI x y = 1; simp [cmpI, h, h1]
    go_enter Tryd.func54, Tryd.ntmps54
    go_wp2
    go_ret
    exact ⟨by rw [HC.out]; rfl, rfl⟩

set_option maxHeartbeats 1000000 in
theorem find1_any (id y : Int) (t n cap g p gb ib : Nat) (w : World) (ht : t < n) (hib : w.cell? ⟨ib, 0, none⟩ = some (.int .i64 id)) (hgb : w.cell? ⟨gb, 0, none⟩ = some (.pointer (some ⟨p, 0, none⟩)))
    (hp : w.cell? ⟨p, 1, none⟩ = some (.slice (some ⟨g, 0, none⟩) n cap)) (hy : w.cell? ⟨g, t * 3, none⟩ = some (.int .i64 y)) :
    Calls Tryd.prog 53 #[.int .i64 (t : Int), .pointer (some ⟨ib, 0, none⟩), .pointer (some ⟨gb, 0, none⟩)] w fun e w' => e = .returned (.int .i64 (cmpI id y)) ∧ ∃ q, w' = w.drewN q := by
  go_enter Tryd.func53, Tryd.ntmps53
  go_wp2
  go_quiet ((go_at_call 54; exact Calls.quiet_of_same (compare_any id y _)))
  go_wp2
  go_ret
  exact ⟨rfl, nq, rfl⟩

end Go.Proofs.YtmbkicdahalakaaDoor
