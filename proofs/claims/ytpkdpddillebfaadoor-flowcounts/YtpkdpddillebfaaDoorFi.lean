/- Package flow: check, where all is well. -/
import Derived.Test.YtpkdpddillebfaaDoorFh
namespace Go.Proofs.YtpkdpddillebfaaDoor.S
open Go Go.ChangeMaps Go.MapKept Go.WideShapes
open Go.RowKit Go.WideMaps Go.Maps F

set_option maxHeartbeats 1000000 in
theorem strange_any (n B0 q b x : Nat) (u : Value) (L : List (Int × Int × Int)) (w : World) (h : G.GAt w B0 90 59 q (n : Int) u L) (hb : w.cell? ⟨b, 0, none⟩ = some (.pointer (some ⟨q, 0, none⟩))) (hx : x < n) :
    Calls Tryd.prog 81 #[.int .i64 (x : Int), .pointer (some ⟨b, 0, none⟩)] w fun e w' => e = .returned (.bool false) ∧ w' = w := by
  have HG : Hid (G.GAt w B0 90 59 q (n : Int) u L) := h
  have h1 : ¬ ((x : Int) < 0) := by omega
  have h2 : ¬ ((n : Int) ≤ (x : Int)) := by omega
  clear h
  go_enter Tryd.func81, Tryd.ntmps81
  go_wp2_with fail
  refine (G.nodes_any (n : Int) B0 q u L w HG.out).mono ?_
  rintro e w1 ⟨rfl, hw1⟩
  subst hw1
  go_wp2_with fail
  go_ret
  have h4 : decide (n ≤ x) = false := decide_eq_false (by omega)
  rw [h4]
  exact ⟨rfl, rfl⟩

set_option maxHeartbeats 1000000 in
theorem check_any (n B0 q a b m : Nat) (u : Value) (L : List (Int × Int × Int)) (w : World) (h : G.GAt w B0 90 59 q (n : Int) u L) (ha : a < n) (hb : b < n) (hab : a ≠ b) (hm : m ≤ 120) :
    Calls Tryd.prog 59 #[.pointer (some ⟨q, 0, none⟩), .int .i64 (a : Int), .int .i64 (b : Int), .int .i64 (m : Int)] w fun e w' => e = .returned .nilIface ∧ Below w.heap.size w w' := by
  have HG : Hid (G.GAt w B0 90 59 q (n : Int) u L) := h
  have h1 : ¬ ((m : Int) < 0) := by omega
  have h2 : ¬ ((m : Int) > 120) := by omega
  have h3 : ¬ ((a : Int) = (b : Int)) := by omega
  clear h
  go_enter Tryd.func59, Tryd.ntmps59
  go_wp2_with fail
  have HG1 : Hid (G.GAt (w.alloc (.cells #[.pointer (some ⟨q, 0, none⟩)] 45)) B0 90 59 q (n : Int) u L) := HG.out.below ((Below.refl _ _).alloc (Nat.le_refl _) _)
  have hc : (w.alloc (.cells #[.pointer (some ⟨q, 0, none⟩)] 45)).cell? ⟨w.heap.size, 0, none⟩ = some (.pointer (some ⟨q, 0, none⟩)) := by simp
  refine (strange_any n B0 q w.heap.size a u L _ HG1.out hc ha).mono ?_
  rintro e w1 ⟨rfl, hw1⟩
  rw [hw1]
  go_wp2_with fail
  refine (strange_any n B0 q w.heap.size b u L _ HG1.out hc hb).mono ?_
  rintro e w2 ⟨rfl, hw2⟩
  rw [hw2]
  go_wp2_with fail
  go_ret
  exact ⟨rfl, (Below.refl _ _).alloc (Nat.le_refl _) _⟩

end Go.Proofs.YtpkdpddillebfaaDoor.S
