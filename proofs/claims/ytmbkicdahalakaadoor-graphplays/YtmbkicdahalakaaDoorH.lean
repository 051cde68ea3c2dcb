/- The contracts of find, has, New, Nodes and Other. -/
import Derived.Test.YtmbkicdahalakaaDoorG
namespace Go.Proofs.YtmbkicdahalakaaDoor
open Go.RowKit

/-- The number of the edge at a place. -/
def keyAt (L : List E) (t : Nat) : Int := (L.getD t (0, 0, 0)).1

theorem keyAt_some {L : List E} {t : Nat} (h : t < L.length) : ∃ x, L[t]? = some x ∧ keyAt L t = x.1 := by
  refine ⟨L[t], List.getElem?_eq_getElem h, ?_⟩
  simp [keyAt, h]

theorem seen_ok {L : List E} (hu : Up L) (id : Int) : (seen L id).isSome = decide (place L id < L.length ∧ keyAt L (place L id) = id) := by
  rcases place_hit hu id with ⟨x, h1, h2, h3⟩ | ⟨_, h2, h3⟩
  · have hlt := (List.getElem?_eq_some_iff.1 h1).1
    obtain ⟨y, hy1, hy2⟩ := keyAt_some hlt
    rw [h1] at hy1
    obtain rfl := Option.some.inj hy1
    rw [h3, decide_eq_true ⟨hlt, hy2.trans h2⟩]; rfl
  · rw [h3]
    symm
    refine decide_eq_false ?_
    rintro ⟨hlt, hk⟩
    obtain ⟨y, hy1, hy2⟩ := keyAt_some hlt
    exact h2 y hy1 (hy2.symm.trans hk)

theorem reads_of {w : World} {B gT p : Nat} {n : Int} {v : Value} {L : List E} (h : GAt w B gT 59 p n v L) (id : Int) (o1 o2 : Obj) (h1 : o1 = .cells #[.pointer (some ⟨p, 0, none⟩)] 45) (h2 : o2 = .cells #[.int .i64 id] 3) :
    Reads ((w.alloc o1).alloc o2) id L.length p w.heap.size (w.heap.size + 1) (keyAt L) := by
  subst h1 h2
  have hb : Below w.heap.size w ((w.alloc (.cells #[.pointer (some ⟨p, 0, none⟩)] 45)).alloc (.cells #[.int .i64 id] 3)) := ((Below.refl _ _).alloc (Nat.le_refl _) _).alloc (by simp) _
  have h' := h.below hb
  refine ⟨?_, ?_, fun h0 => ?_⟩
  · rw [World.cell?_alloc_at _ _ _ _ (by simp)]; rfl
  · rw [World.cell?_alloc_lt _ _ ⟨w.heap.size, 0, none⟩ (by simp), World.cell?_alloc_at _ _ _ _ rfl]; rfl
  · rcases h'.row.shape with ⟨_, e⟩ | ⟨g, cap, e, _⟩
    · rw [e] at h0; simp at h0
    · refine ⟨g, cap, h'.c1.trans (by rw [e]), fun t ht => ?_⟩
      obtain ⟨x, hx1, hx2⟩ := keyAt_some ht
      rw [hx2]
      exact (h'.row.at (by rw [e]; rfl) hx1).1

theorem below_two_drew (w : World) (o1 o2 : Obj) (q : Nat) : Below w.heap.size w (((w.alloc o1).alloc o2).drewN q) :=
  (((Below.refl _ _).alloc (Nat.le_refl _) _).alloc (by simp) _).trans ⟨rfl, rfl, rfl, Nat.le_refl _, fun _ _ => rfl⟩

set_option maxHeartbeats 1000000 in
set_option maxRecDepth 100000 in
theorem find_any (id : Int) (B p k : Nat) (n : Int) (v : Value) (L : List E) (ok : Bool) (w : World) (h : GAt w B 81 59 p n v L) (hu : Up L) (hl : L.length ≤ 1000) (hk : k = place L id) (hok : ok = (seen L id).isSome) :
    Calls Tryd.prog 36 #[.pointer (some ⟨p, 0, none⟩), .int .i64 id] w fun e w' => e = .returned (.tuple #[.int .i64 (k : Int), .bool ok]) ∧ Below w.heap.size w w' := by
  have HR : Hid (Reads ((w.alloc (.cells #[.pointer (some ⟨p, 0, none⟩)] 45)).alloc (.cells #[.int .i64 id] 3)) id L.length p w.heap.size (w.heap.size + 1) (keyAt L)) := reads_of h id _ _ rfl rfl
  have HU : Hid (Up L) := hu
  have HK : Hid (k = place L id ∧ ok = (seen L id).isSome) := ⟨hk, hok⟩
  obtain ⟨m, hm⟩ : ∃ m, m = L.length := ⟨_, rfl⟩
  have HM : Hid (m = L.length) := hm
  have hp := h.c1
  have hplt := h.plt
  obtain ⟨a, cap, hv⟩ : ∃ a cap, v = .slice a m cap := by
    rcases h.row.shape with ⟨e1, e2⟩ | ⟨g, cap, e, _⟩
    · exact ⟨none, 0, by rw [e1, hm, e2]; rfl⟩
    · exact ⟨_, cap, by rw [e, hm]⟩
  subst hv
  clear h hu hk hok hm
  go_enter Tryd.func36, Tryd.ntmps36
  go_wp2_with fail
  refine (find_sort id m k p w.heap.size (w.heap.size + 1) (keyAt L) ok _ (by rw [HM.out]; exact HR.out) (by rw [HM.out, HK.out.1]; exact place_le L id) (by rw [HM.out]; exact hl) (fun t ht => ?_) (fun t h1 h2 => ?_) (by rw [HM.out, HK.out.1, HK.out.2]; exact seen_ok HU.out id)).mono ?_
  · have hlt : t < L.length := by have := place_le L id; rw [← HK.out.1] at this; omega
    obtain ⟨x, hx1, hx2⟩ := keyAt_some hlt
    rw [hx2]
    exact place_lt L id t (by rw [← HK.out.1]; exact ht) x hx1
  · obtain ⟨x, hx1, hx2⟩ := keyAt_some (show t < L.length by rw [← HM.out]; exact h2)
    rw [hx2]
    exact place_ge L id HU.out t (by rw [← HK.out.1]; exact h1) x hx1
  · rintro e w' ⟨rfl, q, hw⟩
    have HB : Hid (Below w.heap.size w w') := by
      show Below w.heap.size w w'
      rw [hw]; exact below_two_drew w _ _ q
    clear hw HR
    go_wp2_with fail
    go_ret2
    exact ⟨rfl, HB.out⟩

set_option maxHeartbeats 400000 in
theorem has_any (x n : Int) (B p : Nat) (v : Value) (L : List E) (ok : Bool) (w : World) (h : GAt w B 81 59 p n v L) (hok : ok = decide (0 ≤ x ∧ x < n)) :
    Calls Tryd.prog 38 #[.pointer (some ⟨p, 0, none⟩), .int .i64 x] w fun e w' => e = .returned (.bool ok) ∧ w' = w := by
  have hp := h.c0
  clear h
  by_cases h0 : 0 ≤ x
  · by_cases h1 : x < n
    · have HO : Hid (ok = true) := by
        show ok = true
        rw [hok]; exact decide_eq_true ⟨h0, h1⟩
      clear hok
      go_enter Tryd.func38, Tryd.ntmps38
      go_wp2
      go_ret
      exact ⟨by rw [HO.out]; rfl, rfl⟩
    · have HO : Hid (ok = false) := by
        show ok = false
        rw [hok]; exact decide_eq_false (fun h => h1 h.2)
      clear hok
      go_enter Tryd.func38, Tryd.ntmps38
      go_wp2
      go_ret
      exact ⟨by rw [HO.out]; rfl, rfl⟩
  · have HO : Hid (ok = false) := by
      show ok = false
      rw [hok]; exact decide_eq_false (fun h => h0 h.1)
    clear hok
    go_enter Tryd.func38, Tryd.ntmps38
    go_wp2
    go_ret
    exact ⟨by rw [HO.out]; rfl, rfl⟩

set_option maxHeartbeats 400000 in
theorem nodes_any (n : Int) (B p : Nat) (v : Value) (L : List E) (w : World) (h : GAt w B 81 59 p n v L) :
    Calls Tryd.prog 26 #[.pointer (some ⟨p, 0, none⟩)] w fun e w' => e = .returned (.int .i64 n) ∧ w' = w := by
  have hp := h.c0
  clear h
  go_enter Tryd.func26, Tryd.ntmps26
  go_wp2
  go_ret
  exact ⟨rfl, rfl⟩

set_option maxHeartbeats 400000 in
theorem new_in (n : Int) (w : World) (h0 : 0 ≤ n) (h1 : n ≤ 40) :
    Calls Tryd.prog 16 #[.int .i64 n] w fun e w' => e = .returned (.tuple #[.pointer (some ⟨w.heap.size, 0, none⟩), .nilIface]) ∧ w' = w.alloc (.cells #[.int .i64 n, .slice none 0 0] 81) := by
  have g0 : ¬ n < 0 := by omega
  have g1 : ¬ 40 < n := by omega
  go_enter Tryd.func16, Tryd.ntmps16
  go_wp2
  go_ret2
  exact ⟨rfl, rfl⟩

set_option maxHeartbeats 400000 in
theorem new_out (n : Int) (w : World) (h : n < 0 ∨ 40 < n) :
    Calls Tryd.prog 16 #[.int .i64 n] w fun e w' => e = .returned (.tuple #[.pointer none, .iface 29 (.int .i64 2)]) ∧ w' = w := by
  rcases h with h | h
  · go_enter Tryd.func16, Tryd.ntmps16
    go_wp2
    go_ret2
    exact ⟨rfl, rfl⟩
  · have g0 : ¬ n < 0 := by omega
    go_enter Tryd.func16, Tryd.ntmps16
    go_wp2
    go_ret2
    exact ⟨rfl, rfl⟩

end Go.Proofs.YtmbkicdahalakaaDoor
