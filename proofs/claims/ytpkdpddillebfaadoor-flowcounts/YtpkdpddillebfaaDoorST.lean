/- Rows that can be read. -/
import Derived.Test.YtpkdpddillebfaaDoorSS
import Derived.Deep.RegionHeld
import Derived.Deep.DeepCutAuto
import Derived.Deep.LoopGhost
namespace Go.Proofs.YtpkdpddillebfaaDoor.S
open Go.RowKit


theorem sets_drew {w : World} {p b : Nat} {L : List Nat} (h : SetsAt w p b L) : SetsAt w.drew p b L := ⟨h.hp, h.hb⟩

theorem join_nm (x y p b : Nat) (L : List Nat) (ok : Bool) (w : World) (hs : SetsAt w p b L) (hx : x < L.length) (hy : y < L.length) (hlen : L.length ≤ 40) (hok : decide (L.getD x 0 ≠ L.getD y 0) = ok) :
    Calls Tryd.prog 8 #[.pointer (some ⟨p, 0, none⟩), .int .i64 (x : Int), .int .i64 (y : Int)] w fun e w' => e = .returned (.tuple #[.bool ok, .nilIface]) ∧ SetsAt w' p b (joinL L x y) ∧ But b w w' := by
  rw [← hok]
  exact join_in x y p b L w hs hx hy hlen

theorem least_n {n X : Nat} (x p b : Nat) (L : List Nat) (w : World) (hs : SetsAt w p b L) (hg : Good n L) (hx : x < n) (hX : L.getD x 0 = X) :
    Calls Tryd.prog 10 #[.pointer (some ⟨p, 0, none⟩), .int .i64 (x : Int)] w fun e w' => e = .returned (.tuple #[.int .i64 (X : Int), .nilIface]) ∧ Below w.heap.size w w' := by
  have := least_in (x : Int) p b L w hs (by omega) (by rw [hg.len]; omega)
  rw [Int.toNat_natCast, hX] at this
  exact this

theorem all_n {n : Nat} (p b : Nat) (L : List Nat) (w : World) (hs : SetsAt w p b L) (hg : Good n L) (hn : n ≤ 40) :
    Calls Tryd.prog 14 #[.pointer (some ⟨p, 0, none⟩)] w fun e w' => ∃ g cap, e = .returned (.slice (some ⟨g, 0, none⟩) (grps L n).length cap) ∧ RowsAt w' g (grps L n) (grps L n).length ∧ Below w.heap.size w w' := by
  have hl := hg.len
  refine (all_any p b L w hs (by omega) (fun i hi => by have := hg.le i (by omega); omega)).mono ?_
  rintro e w' ⟨v, rfl, ⟨g, cap, rfl, h⟩, hb⟩
  rw [hl] at h ⊢
  exact ⟨g, cap, rfl, h, hb⟩

theorem cell_below {w w' : World} {k i : Nat} {v : Value} (h : w.cell? ⟨k, i, none⟩ = some v) (hb : Below w.heap.size w w') : w'.cell? ⟨k, i, none⟩ = some v :=
  (hb.cell (p := ⟨k, i, none⟩) (lt_of_cell h)).trans h

theorem RowsAt.below {w w' : World} {g c : Nat} {Gs : List (List Nat)} (h : RowsAt w g Gs c) (hb : Below w.heap.size w w') : RowsAt w' g Gs c := by
  intro i hi
  obtain ⟨r, cap, h1, h2⟩ := h i hi
  exact ⟨r, cap, cell_below h1 hb, fun j hj => cell_below (h2 j hj) hb⟩

theorem grps_small {n : Nat} {L : List Nat} (g : Good n L) (i : Nat) : ((grps L n).getD i []).length ≤ n := by
  rcases Nat.lt_or_ge i (grps L n).length with h | h
  · obtain ⟨x, _, _, e⟩ := grps_at g i h
    rw [e, grp_length]; exact cnt_le _ _
  · simp [List.getElem?_eq_none h]

end Go.Proofs.YtpkdpddillebfaaDoor.S
