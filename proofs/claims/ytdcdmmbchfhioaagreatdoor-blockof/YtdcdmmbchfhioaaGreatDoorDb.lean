/- The contracts of the document's own Whole and of In. -/
import Derived.Test.YtdcdmmbchfhioaaGreatDoorDa
namespace Go.Proofs.YtdcdmmbchfhioaaGreatDoor.S
open Go.RowKit Go.WideMaps Go.Maps

set_option maxHeartbeats 400000 in
theorem whole1 (x y cw bl n : Nat) (l : List Nat) (s : Bool) (w : World) (hc : w.cell? ⟨cw, 0, none⟩ = some (.slice (some ⟨bl, 0, none⟩) n n)) (hr : RowL w bl l) (hl : l.length = n) (hx : x < n) (hy : y < n) (hv : (((l.getD x 0 : Nat) : Int) == ((l.getD y 0 : Nat) : Int)) = s) :
    Calls Tryz.prog 51 #[.int .i64 (x : Int), .int .i64 (y : Int), .pointer (some ⟨cw, 0, none⟩)] w fun e w' => e = .returned (.bool s) ∧ ∃ n, w' = w.drewN n := by
  have hcx := hr.cell x (by omega)
  have hcy := hr.cell y (by omega)
  clear hr
  generalize l.getD x 0 = X at *
  generalize l.getD y 0 = Y at *
  go_enter Tryz.func51, Tryz.ntmps51
  go_wp2_with fail
  go_quiet (fail)
  clear hcx hcy hc
  go_wp2_with fail
  go_ret
  exact ⟨by simp, _, rfl⟩

/-- Rows, handed back. -/
def RowsPost (w : World) (Gs : List (List Nat)) (e : Ending) (w' : World) : Prop :=
  ∃ a cap, e = .returned (.slice a Gs.length cap) ∧ (0 < Gs.length → ∃ g, a = some ⟨g, 0, none⟩ ∧ RowsAt w' g Gs Gs.length) ∧ Below w.heap.size w w'

theorem rowsPost_of {w w1 w' : World} {t : Value} {Gs : List (List Nat)} {r c : Nat → Nat} (h : POut w' w1.heap.size t Gs r c) (hb : Below w1.heap.size w1 w') (h1 : Below w.heap.size w w1) : RowsPost w Gs (.returned t) w' := by
  obtain ⟨a, cap, rfl, ha⟩ := h.shape
  refine ⟨a, cap, rfl, fun hl => ?_, h1.trans (hb.mono h1.size)⟩
  obtain ⟨g, rfl⟩ := ha hl
  exact ⟨g, rfl, h.rows rfl⟩

theorem beq_same {a b c d : Nat} (h : a = b ↔ c = d) {s : Bool} (hs : ((c : Int) == (d : Int)) = s) : ((a : Int) == (b : Int)) = s := by
  rw [← hs]
  rw [Bool.eq_iff_iff, beq_iff_eq, beq_iff_eq]
  omega

set_option maxHeartbeats 1000000 in
theorem whole_doc (n B q : Nat) (u : Value) (R : List (Int × Int × Int)) (L : List Nat) (w : World) (h : G.GAt w B 33 55 q (n : Int) u R) (hl : R.length ≤ 120) (hn : n ≤ 40) (hin : Inn n R) (hg : Good n L) (hL : ∀ x y, x < n → y < n → (L.getD x 0 = L.getD y 0 ↔ cnR R x y)) :
    Calls Tryz.prog 13 #[.pointer (some ⟨q, 0, none⟩)] w (RowsPost w (grps L n)) := by
  have HG : Hid (G.GAt w B 33 55 q (n : Int) u R) := h
  have HLL : Hid (∀ x y, x < n → y < n → (L.getD x 0 = L.getD y 0 ↔ cnR R x y)) := hL
  have hmf' := hmf
  clear h hL
  go_enter Tryz.func13, Tryz.ntmps13
  go_wp2_with fail
  refine (labels_any n B q u R w HG.out hl hn hin).mono ?_
  rintro e w1 ⟨b, l, rfl, hr, hb, hll, hlab, hbl⟩
  have hc : (w1.alloc (.cells #[.slice (some ⟨b, 0, none⟩) n n] 39)).cell? ⟨q, 0, none⟩ = some (.int .i64 (n : Int)) := by
    rw [World.cell?_alloc_lt _ _ ⟨q, 0, none⟩ (HG.out.below hbl).plt]; exact (HG.out.below hbl).c0
  have hql : q < w1.heap.size := (HG.out.below hbl).plt
  have HX : Hid (RowL w1 b l ∧ Below w.heap.size w w1) := ⟨hr, hbl⟩
  have HAL : Hid (Alike 51 (w1.alloc (.cells #[.slice (some ⟨b, 0, none⟩) n n] 39)) n w1.heap.size L) := by
    intro W' hW' x y s hx hy hs
    have hrl := hr.lt
    refine whole1 x y w1.heap.size b n l s W' ?_ ((hr.alloc _).below hW' (by simp; omega)) hll hx hy (beq_same ?_ hs)
    · rw [hW'.cell (p := ⟨w1.heap.size, 0, none⟩) (by simp)]; simp
    · rw [hlab x y hx hy, HLL.out x y hx hy]
  clear hr hlab hbl
  go_wp2_with fail
  refine (parts_any30 n w1.heap.size L _ HAL.out hg hn).mono ?_
  rintro e w2 ⟨t, r, c, rfl, hP, hb2⟩
  have HF : Hid (RowsPost w (grps L n) (.returned t) w2) := rowsPost_of hP hb2 (HX.out.2.alloc HX.out.2.size _)
  clear hP hb2
  go_wp2
  go_ret
  exact HF.out

end Go.Proofs.YtdcdmmbchfhioaaGreatDoor.S
