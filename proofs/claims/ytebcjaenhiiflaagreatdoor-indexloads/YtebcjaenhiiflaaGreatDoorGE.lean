/- Two rows of edges that are the same. -/
import Derived.Test.YtebcjaenhiiflaaGreatDoorGC
import Derived.Test.YtebcjaenhiiflaaGreatDoorJb
namespace Go.Proofs.YtebcjaenhiiflaaGreatDoor.G
open Go.RowKit

set_option maxHeartbeats 2000000 in
set_option maxRecDepth 100000 in
theorem same_edges (B1 B2 : Nat) (a b : Value) (L : List E) (w : World) (ha : Owns w B1 61 a L) (hb : Owns w B2 61 b L) (hl : L.length ≤ 1000) :
    Calls Tryz.prog 13 #[a, b] w fun e w' => e = .returned (.bool true) ∧ Below w.heap.size w w' := by
  have HA : Hid (Owns w B1 61 a L) := ha
  have HB : Hid (Owns w B2 61 b L) := hb
  obtain ⟨m, hm⟩ : ∃ m, m = L.length := ⟨_, rfl⟩
  have HM : Hid (m = L.length) := hm
  obtain ⟨a1, c1, hva⟩ := ha.slice_len
  obtain ⟨a2, c2, hvb⟩ := hb.slice_len
  rw [← hm] at hva hvb hl
  subst hva hvb
  clear ha hb hm
  go_enter Tryz.func13, Tryz.ntmps13
  go_wp2_with fail
  go_loopg [5] m (fun r s5 wq => ∃ k : Nat, s5 = .int .i64 k ∧ k + r = m ∧ ∃ q, wq = w.drewN q)
  case atStart => exact ⟨0, rfl, by omega, 0, rfl⟩
  case round =>
    obtain ⟨k, rfl, hk, q, hq⟩ := hrel
    have HQ : Hid (wr = w.drewN q) := hq
    by_cases hlt : k < m
    · as_aux_lemma =>
      obtain ⟨x0, x1, x2, hx⟩ : ∃ x0 x1 x2, L[k]? = some (x0, x1, x2) := ⟨_, _, _, List.getElem?_eq_getElem (by rw [← HM.out]; exact hlt)⟩
      obtain ⟨g1, e1⟩ : ∃ g, a1 = some ⟨g, 0, none⟩ := by
        rcases HA.out.shape with ⟨_, e⟩ | ⟨g, cap, e, _⟩
        · rw [e] at hx; simp at hx
        · injection e with e1 _ _
          exact ⟨g, e1⟩
      obtain ⟨g2, e2⟩ : ∃ g, a2 = some ⟨g, 0, none⟩ := by
        rcases HB.out.shape with ⟨_, e⟩ | ⟨g, cap, e, _⟩
        · rw [e] at hx; simp at hx
        · injection e with e1 _ _
          exact ⟨g, e1⟩
      obtain ⟨r0, r1, r2⟩ := HA.out.at (g := g1) (by rw [e1]; rfl) hx
      obtain ⟨s0, s1, s2⟩ := HB.out.at (g := g2) (by rw [e2]; rfl) hx
      have hcell : ∀ p, wr.cell? p = w.cell? p := fun p => by rw [HQ.out]; rfl
      have r0' : wr.cell? ⟨g1, k * 3, none⟩ = some (.int .i64 x0) := (hcell _).trans r0
      have r1' : wr.cell? ⟨g1, k * 3 + 1, none⟩ = some (.int .i64 x1) := (hcell _).trans r1
      have r2' : wr.cell? ⟨g1, k * 3 + 2, none⟩ = some (.int .i64 x2) := (hcell _).trans r2
      have s0' : wr.cell? ⟨g2, k * 3, none⟩ = some (.int .i64 x0) := (hcell _).trans s0
      have s1' : wr.cell? ⟨g2, k * 3 + 1, none⟩ = some (.int .i64 x1) := (hcell _).trans s1
      have s2' : wr.cell? ⟨g2, k * 3 + 2, none⟩ = some (.int .i64 x2) := (hcell _).trans s2
      subst e1 e2
      clear hq r0 r1 r2 s0 s1 s2 hx hcell
      go_wp2_with fail
      go_quiet (fail)
      have HQ2 : Hid (wr.drewN nq = w.drewN (q + nq)) := by
        show wr.drewN nq = w.drewN (q + nq)
        rw [HQ.out]
        unfold World.drewN
        simp [Nat.add_assoc]
      clear r0' r1' r2' s0' s1' s2'
      generalize wr.drewN nq = wx at *
      go_wp2_with fail
      go_roundg (gk - 1)
      case measure => omega
      case rel => exact ⟨k + 1, by go_num, by omega, _, HQ2.out⟩
    · clear hq
      go_wp2_with fail
      go_ret
      refine ⟨rfl, ?_⟩
      rw [HQ.out]
      exact ⟨rfl, rfl, rfl, Nat.le_refl _, fun _ _ => rfl⟩

end Go.Proofs.YtebcjaenhiiflaaGreatDoor.G
