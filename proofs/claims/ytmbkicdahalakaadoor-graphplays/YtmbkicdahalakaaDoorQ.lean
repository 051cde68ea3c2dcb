/- The contracts of a graph's Drop, Edge and Add. -/
import Derived.Test.YtmbkicdahalakaaDoorP
namespace Go.Proofs.YtmbkicdahalakaaDoor
open Go.RowKit

theorem has_t (x n : Int) (B p : Nat) (v : Value) (L : List E) (w : World) (h : GAt w B 81 59 p n v L) (hx : 0 ≤ x ∧ x < n) :
    Calls Tryd.prog 38 #[.pointer (some ⟨p, 0, none⟩), .int .i64 x] w fun e w' => e = .returned (.bool true) ∧ w' = w := has_any x n B p v L true w h (decide_eq_true hx).symm
theorem has_f (x n : Int) (B p : Nat) (v : Value) (L : List E) (w : World) (h : GAt w B 81 59 p n v L) (hx : ¬ (0 ≤ x ∧ x < n)) :
    Calls Tryd.prog 38 #[.pointer (some ⟨p, 0, none⟩), .int .i64 x] w fun e w' => e = .returned (.bool false) ∧ w' = w := has_any x n B p v L false w h (decide_eq_false hx).symm

theorem cell_p {w w' : World} {B gT p : Nat} {n : Int} {v : Value} {L : List E} (h : GAt w B gT 59 p n v L) (hg : w.grownBy w' v.ownBlock) : w'.cell? ⟨p, 1, none⟩ = some v ∧ w'.frozen? ⟨p, 1, none⟩ = false := by
  have hp : w'.heap[p]? = some (.cells #[.int .i64 n, v] gT) := by rw [hg.block p h.plt (fun e => h.ne e.symm)]; exact h.hp
  exact ⟨by simp [World.cell?, hp], by simp [World.frozen?, hp]⟩

theorem Owns.slice {w : World} {B eT : Nat} {v : Value} {L : List E} (h : Owns w B eT v L) : ∃ a m c, v = .slice a m c := by
  rcases h.shape with ⟨e, _⟩ | ⟨_, _, e, _⟩
  · exact ⟨_, _, _, e⟩
  · exact ⟨_, _, _, e⟩

theorem Owns.slice_len {w : World} {B eT : Nat} {v : Value} {L : List E} (h : Owns w B eT v L) : ∃ a c, v = .slice a L.length c := by
  rcases h.shape with ⟨e, e2⟩ | ⟨_, _, e, _⟩
  · exact ⟨none, 0, by rw [e, e2]; rfl⟩
  · exact ⟨_, _, e⟩

/-- What a step on a graph leaves. -/
def Step1 (w w' : World) (B gT p : Nat) (n : Int) (v : Value) (L : List E) : Prop := ∃ v', GAt w' B gT 59 p n v' L ∧ Kept p v.ownBlock w w' ∧ Fresh w v v'

theorem step1_of {w w1 w2 : World} {B gT p : Nat} {n : Int} {v u : Value} {L M : List E} (h : GAt w1 B gT 59 p n v L) (hb : Below w.heap.size w w1) (hg : w1.grownBy w2 v.ownBlock) (hr : Owns w2 B 59 u M) (hf : Fresh w1 v u) (hp : p < w.heap.size) : Step1 w (w2.setCell ⟨p, 1, none⟩ u) B gT p n v M := by
  have hu : u.ownBlock ≠ some p := by
    intro e
    rcases hf p e with h1 | h1
    · exact h.ne h1
    · have := hb.size; omega
  refine ⟨u, h.store hg hr hu, ((Kept.of_below hb).trans (Kept.of_grown hg)).setCell 1 u, fun k hk => ?_⟩
  rcases hf k hk with h1 | h1
  · exact Or.inl h1
  · exact Or.inr (Nat.le_trans hb.size h1)

set_option maxHeartbeats 1000000 in
set_option maxRecDepth 100000 in
theorem drop_miss (id n : Int) (B p : Nat) (v : Value) (L : List E) (w : World) (h : GAt w B 81 59 p n v L) (hu : Up L) (hl : L.length ≤ 120) (hs : seen L id = none) :
    Calls Tryd.prog 17 #[.pointer (some ⟨p, 0, none⟩), .int .i64 id] w fun e w' => e = .returned (.iface 29 (.int .i64 7)) ∧ Below w.heap.size w w' := by
  have HC : Hid (Calls Tryd.prog 36 #[.pointer (some ⟨p, 0, none⟩), .int .i64 id] w fun e w' => e = .returned (.tuple #[.int .i64 (place L id : Nat), .bool false]) ∧ Below w.heap.size w w') := find_any id B p (place L id) n v L false w h hu (by omega) rfl (by rw [hs]; rfl)
  clear h hu hs
  go_enter Tryd.func17, Tryd.ntmps17
  go_wp2_with fail
  refine HC.out.mono ?_
  rintro e w1 ⟨rfl, hb⟩
  have HB : Hid (Below w.heap.size w w1) := hb
  clear hb
  go_wp2
  go_ret
  exact ⟨rfl, HB.out⟩

set_option maxHeartbeats 2000000 in
set_option maxRecDepth 100000 in
theorem drop_hit (id n : Int) (B p k : Nat) (v : Value) (L : List E) (x : E) (w : World) (h : GAt w B 81 59 p n v L) (hu : Up L) (hl : L.length ≤ 120) (hk : k = place L id) (hx : L[k]? = some x) (hs : seen L id = some x) :
    Calls Tryd.prog 17 #[.pointer (some ⟨p, 0, none⟩), .int .i64 id] w fun e w' => e = .returned .nilIface ∧ Step1 w w' B 81 p n v (L.take k ++ L.drop (k + 1)) := by
  have HC : Hid (Calls Tryd.prog 36 #[.pointer (some ⟨p, 0, none⟩), .int .i64 id] w fun e w' => e = .returned (.tuple #[.int .i64 (k : Int), .bool true]) ∧ Below w.heap.size w w') := find_any id B p k n v L true w h hu (by omega) hk (by rw [hs]; rfl)
  have hlt : k < L.length := (List.getElem?_eq_some_iff.1 hx).1
  have hk9 : k ≤ 120 := by omega
  have HL : Hid (k < L.length ∧ L.length ≤ 1000) := ⟨hlt, by omega⟩
  have HG : Hid (GAt w B 81 59 p n v L) := h
  clear h hu hs hx hk hlt hl
  go_enter Tryd.func17, Tryd.ntmps17
  go_wp2_with fail
  refine HC.out.mono ?_
  rintro e w1 ⟨rfl, hb⟩
  have HB : Hid (Below w.heap.size w w1) := hb
  have HG1 : Hid (GAt w1 B 81 59 p n v L) := HG.out.below hb
  have hp := HG1.out.c1
  clear hb HC
  go_wp2_with fail
  refine (delete_any B k v L _ w1 HG1.out.row HL.out.1 HL.out.2 rfl).mono ?_
  rintro e w2 ⟨v', rfl, h1, h2, h3⟩
  have HS : Hid (Step1 w (w2.setCell ⟨p, 1, none⟩ v') B 81 p n v (L.take k ++ L.drop (k + 1))) := step1_of HG1.out HB.out h2 h1 h3 HG.out.plt
  have q1 := (cell_p HG1.out h2).1
  have q2 := (cell_p HG1.out h2).2
  obtain ⟨a', m', c', hv'⟩ := h1.slice
  subst hv'
  clear h1 h2 h3 hp
  go_wp2
  go_ret
  exact ⟨rfl, HS.out⟩

end Go.Proofs.YtmbkicdahalakaaDoor
