/- The contracts of a graph's Edge, and of sameEdges. -/
import Derived.Test.YtmbkicdahalakaaDoorR
import Derived.Laws.ResultCell
namespace Go.Proofs.YtmbkicdahalakaaDoor
open Go.RowKit

/-- An edge as a value. -/
def aggE (x : E) : Value := .agg #[.int .i64 x.1, .int .i64 x.2.1, .int .i64 x.2.2]

set_option maxHeartbeats 1000000 in
set_option maxRecDepth 100000 in
theorem edge_miss (id n : Int) (B p : Nat) (v : Value) (L : List E) (w : World) (h : GAt w B 81 59 p n v L) (hu : Up L) (hl : L.length ≤ 120) (hs : seen L id = none) :
    Calls Tryd.prog 21 #[.pointer (some ⟨p, 0, none⟩), .int .i64 id] w fun e w' => e = .returned (.tuple #[.agg #[.int .i64 0, .int .i64 0, .int .i64 0], .iface 29 (.int .i64 7)]) ∧ Below w.heap.size w w' := by
  have hb0 : Below w.heap.size w (w.alloc (.cells #[.int .i64 0, .int .i64 0, .int .i64 0] 59)) := (Below.refl _ _).alloc (Nat.le_refl _) _
  have HC : Hid (Calls Tryd.prog 36 #[.pointer (some ⟨p, 0, none⟩), .int .i64 id] (w.alloc (.cells #[.int .i64 0, .int .i64 0, .int .i64 0] 59)) fun e w' => e = .returned (.tuple #[.int .i64 (place L id : Nat), .bool false]) ∧ Below (w.heap.size + 1) (w.alloc (.cells #[.int .i64 0, .int .i64 0, .int .i64 0] 59)) w') := by
    have := find_any id B p (place L id) n v L false _ (h.below hb0) hu (by omega) rfl (by rw [hs]; rfl)
    refine this.mono ?_
    rintro e w' ⟨h1, h2⟩
    exact ⟨h1, by simpa using h2⟩
  clear h hu hs hb0
  go_enter Tryd.func21, Tryd.ntmps21
  go_wp2_with fail
  refine HC.out.mono ?_
  rintro e w1 ⟨rfl, hb⟩
  have hh : w1.heap[w.heap.size]? = some (.cells #[.int .i64 0, .int .i64 0, .int .i64 0] 59) := by rw [hb.block w.heap.size (by omega)]; exact heap_alloc_new w _
  have q0 : w1.cell? ⟨w.heap.size, 0, none⟩ = some (.int .i64 0) := by simp [World.cell?, hh]
  have q1 : w1.cell? ⟨w.heap.size, 1, none⟩ = some (.int .i64 0) := by simp [World.cell?, hh]
  have q2 : w1.cell? ⟨w.heap.size, 2, none⟩ = some (.int .i64 0) := by simp [World.cell?, hh]
  have q3 : ∀ i, w1.frozen? ⟨w.heap.size, i, none⟩ = false := fun i => by simp [World.frozen?, hh]
  have HB : Hid (Below w.heap.size w w1) := ((Below.refl _ _).alloc (Nat.le_refl _) _).trans (hb.mono (by omega))
  clear hb hh HC
  go_wp2
  (try simp only [Exit.inBlock, Exit.then])
  refine bodyPost_ret (v := .tuple #[.agg #[.int .i64 0, .int .i64 0, .int .i64 0], .iface 29 (.int .i64 7)]) ?_ rfl ⟨rfl, ?_⟩
  · rw [results_cell_tmp rfl]
    go_simp
  · exact ((HB.out.setCell (Nat.le_refl _) _).setCell (Nat.le_refl _) _).setCell (Nat.le_refl _) _

set_option maxHeartbeats 1000000 in
set_option maxRecDepth 100000 in
theorem edge_hit (id n x0 x1 x2 : Int) (B p k : Nat) (v : Value) (L : List E) (w : World) (h : GAt w B 81 59 p n v L) (hu : Up L) (hl : L.length ≤ 120) (hk : k = place L id) (hx : L[k]? = some (x0, x1, x2)) (hs : seen L id = some (x0, x1, x2)) :
    Calls Tryd.prog 21 #[.pointer (some ⟨p, 0, none⟩), .int .i64 id] w fun e w' => e = .returned (.tuple #[.agg #[.int .i64 x0, .int .i64 x1, .int .i64 x2], .nilIface]) ∧ Below w.heap.size w w' := by
  have hb0 : Below w.heap.size w (w.alloc (.cells #[.int .i64 0, .int .i64 0, .int .i64 0] 59)) := (Below.refl _ _).alloc (Nat.le_refl _) _
  have HC : Hid (Calls Tryd.prog 36 #[.pointer (some ⟨p, 0, none⟩), .int .i64 id] (w.alloc (.cells #[.int .i64 0, .int .i64 0, .int .i64 0] 59)) fun e w' => e = .returned (.tuple #[.int .i64 (k : Int), .bool true]) ∧ Below (w.heap.size + 1) (w.alloc (.cells #[.int .i64 0, .int .i64 0, .int .i64 0] 59)) w') := by
    have := find_any id B p k n v L true _ (h.below hb0) hu (by omega) hk (by rw [hs]; rfl)
    refine this.mono ?_
    rintro e w' ⟨h1, h2⟩
    exact ⟨h1, by simpa using h2⟩
  have hlt : k < L.length := (List.getElem?_eq_some_iff.1 hx).1
  have HG : Hid (GAt w B 81 59 p n v L) := h
  have HX : Hid (L[k]? = some (x0, x1, x2)) := hx
  obtain ⟨m, hm⟩ : ∃ m, m = L.length := ⟨_, rfl⟩
  obtain ⟨g, cap, hv⟩ : ∃ g cap, v = .slice (some ⟨g, 0, none⟩) m cap := by
    rcases h.row.shape with ⟨_, e⟩ | ⟨g, cap, e, _⟩
    · rw [e] at hlt; simp at hlt
    · exact ⟨g, cap, by rw [hm]; exact e⟩
  rw [← hm] at hlt hl
  clear h hu hs hb0 hx hk hm
  go_enter Tryd.func21, Tryd.ntmps21
  go_wp2_with fail
  refine HC.out.mono ?_
  rintro e w1 ⟨rfl, hb⟩
  have hh : w1.heap[w.heap.size]? = some (.cells #[.int .i64 0, .int .i64 0, .int .i64 0] 59) := by rw [hb.block w.heap.size (by omega)]; exact heap_alloc_new w _
  have q0 : w1.cell? ⟨w.heap.size, 0, none⟩ = some (.int .i64 0) := by simp [World.cell?, hh]
  have q1 : w1.cell? ⟨w.heap.size, 1, none⟩ = some (.int .i64 0) := by simp [World.cell?, hh]
  have q2 : w1.cell? ⟨w.heap.size, 2, none⟩ = some (.int .i64 0) := by simp [World.cell?, hh]
  have q3 : ∀ i, w1.frozen? ⟨w.heap.size, i, none⟩ = false := fun i => by simp [World.frozen?, hh]
  have hb1 : Below w.heap.size w w1 := ((Below.refl _ _).alloc (Nat.le_refl _) _).trans (hb.mono (by omega))
  have HB : Hid (Below w.heap.size w w1) := hb1
  have hg1 := HG.out.below hb1
  have hp := hg1.c1
  have hrow := hg1.row.at (g := g) (by rw [hv]; rfl) HX.out
  rw [hv] at hp
  obtain ⟨r0, r1, r2⟩ := hrow
  have r0' : w1.cell? ⟨g, k * 3, none⟩ = some (.int .i64 x0) := r0
  have r1' : w1.cell? ⟨g, k * 3 + 1, none⟩ = some (.int .i64 x1) := r1
  have r2' : w1.cell? ⟨g, k * 3 + 2, none⟩ = some (.int .i64 x2) := r2
  clear hb hh HC hb1 hg1 hv r0 r1 r2
  go_wp2
  (try simp only [Exit.inBlock, Exit.then])
  refine bodyPost_ret (v := .tuple #[.agg #[.int .i64 x0, .int .i64 x1, .int .i64 x2], .nilIface]) ?_ rfl ⟨rfl, ?_⟩
  · rw [results_cell_tmp rfl]
    go_simp
  · exact ((HB.out.setCell (Nat.le_refl _) _).setCell (Nat.le_refl _) _).setCell (Nat.le_refl _) _

end Go.Proofs.YtmbkicdahalakaaDoor
