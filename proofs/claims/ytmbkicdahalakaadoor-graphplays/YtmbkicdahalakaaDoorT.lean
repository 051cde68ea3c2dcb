/- The closures that graph's those calls. -/
import Derived.Test.YtmbkicdahalakaaDoorS
namespace Go.Proofs.YtmbkicdahalakaaDoor
open Go.RowKit

/-- A list of numbers that came in. -/
structure Ints (w : World) (a : Option Addr) (m : Nat) (F : Nat → Int) : Prop where
  some_ : 0 < m → ∃ bl off, a = some ⟨bl, off, none⟩ ∧ (∀ t, t < m → w.cell? ⟨bl, off + t, none⟩ = some (.int .i64 (F t)))

theorem Ints.below {w w' : World} {a : Option Addr} {m : Nat} {F : Nat → Int} (h : Ints w a m F) (hb : Below w.heap.size w w') : Ints w' a m F := by
  refine ⟨fun h0 => ?_⟩
  obtain ⟨bl, off, e, hc⟩ := h.some_ h0
  exact ⟨bl, off, e, fun t ht => (hb.cell (p := ⟨bl, off + t, none⟩) (lt_of_cell (hc t ht))).trans (hc t ht)⟩

/-- Is one among them? -/
def among (F : Nat → Int) (m : Nat) (x : Int) : Bool := (List.range m).any fun t => F t == x

theorem among_hit {F : Nat → Int} {m t : Nat} {x : Int} (ht : t < m) (h : F t = x) : among F m x = true := by
  simp only [among, List.any_eq_true, List.mem_range]
  exact ⟨t, ht, by simp [h]⟩
theorem among_miss {F : Nat → Int} {m : Nat} {x : Int} (h : ∀ t, t < m → F t ≠ x) : among F m x = false := by
  simp only [among, List.any_eq_false, List.mem_range]
  intro t ht
  simpa using h t ht

set_option maxHeartbeats 1000000 in
set_option maxRecDepth 100000 in
theorem index_any (a : Option Addr) (m cap : Nat) (F : Nat → Int) (x : Int) (w : World) (h : Ints w a m F) (hm : m ≤ 1000) :
    Calls Tryd.prog 62 #[.slice a m cap, .int .i64 x] w fun e w' => ∃ r : Int, e = .returned (.int .i64 r) ∧ decide (0 ≤ r) = among F m x ∧ w' = w := by
  have HI : Hid (Ints w a m F) := h
  clear h
  go_enter Tryd.func62, Tryd.ntmps62
  go_wp2_with fail
  go_loopg [5, 8] m (fun r _ s8 wq => ∃ k : Nat, s8 = .int .i64 k ∧ k + r = m ∧ (∀ t, t < k → F t ≠ x) ∧ wq = w)
  case atStart => exact ⟨0, rfl, by omega, fun t ht => by omega, rfl⟩
  case round =>
    obtain ⟨k, rfl, hk, hno, rfl⟩ := hrel
    by_cases hlt : k < m
    · obtain ⟨bl, off, ha, hc⟩ := HI.out.some_ (by omega)
      have c := hc k hlt
      subst ha
      clear hc
      by_cases hy : x = F k
      · as_aux_lemma =>
        have HA : Hid (decide (0 ≤ (k : Int)) = among F m x) := by
          show decide (0 ≤ (k : Int)) = among F m x
          rw [among_hit hlt hy.symm]; simp
        clear hno
        generalize F k = y at *
        subst hy
        go_wp2_with fail
        go_ret
        exact ⟨k, rfl, HA.out, rfl⟩
      · as_aux_lemma =>
        have HN : Hid (∀ t, t < k + 1 → F t ≠ x) := by
          intro t ht
          rcases Nat.lt_succ_iff_lt_or_eq.1 ht with h | h
          · exact hno t h
          · subst h; exact fun e => hy e.symm
        clear hno
        generalize F k = y at *
        have hyb : (x == y) = false := beq_eq_false_iff_ne.2 hy
        clear hy
        go_wp2_with fail
        go_roundg (gk - 1)
        case measure => omega
        case rel => exact ⟨k + 1, by go_num, by omega, HN.out, rfl⟩
    · have hke : m = k := by omega
      have HA : Hid (decide (0 ≤ (-1 : Int)) = among F m x) := by
        show decide (0 ≤ (-1 : Int)) = among F m x
        rw [among_miss (fun t ht => hno t (by omega))]; rfl
      clear hno
      go_wp2_with fail
      go_ret
      exact ⟨-1, rfl, HA.out, rfl⟩

set_option maxHeartbeats 400000 in
theorem contains_any (a : Option Addr) (m cap : Nat) (F : Nat → Int) (x : Int) (ok : Bool) (w : World) (h : Ints w a m F) (hm : m ≤ 1000) (hok : among F m x = ok) :
    Calls Tryd.prog 46 #[.slice a m cap, .int .i64 x] w fun e w' => e = .returned (.bool ok) ∧ w' = w := by
  have HI : Hid (Ints w a m F) := h
  have HO : Hid (among F m x = ok) := hok
  clear h hok
  go_enter Tryd.func46, Tryd.ntmps46
  go_wp2_with fail
  refine (index_any a m cap F x w HI.out hm).mono ?_
  rintro e w' ⟨r, rfl, hr, rfl⟩
  have HR : Hid (decide (0 ≤ r) = ok) := hr.trans HO.out
  clear hr
  go_wp2_with fail
  go_ret
  exact ⟨by rw [← HR.out]; rfl, rfl⟩

set_option maxHeartbeats 1000000 in
set_option maxRecDepth 100000 in
theorem rhas_any (a : Option Addr) (m cap : Nat) (F : Nat → Int) (x : Int) (ok : Bool) (w : World) (h : Ints w a m F) (hm : m ≤ 1000) (hok : among F m x = ok) :
    Calls Tryd.prog 48 #[.slice a m cap, .int .i64 x] w fun e w' => e = .returned (.bool ok) ∧ w' = w := by
  have HI : Hid (Ints w a m F) := h
  have HO : Hid (among F m x = ok) := hok
  clear h hok
  go_enter Tryd.func48, Tryd.ntmps48
  go_wp2_with fail
  go_loopg [6, 9] m (fun r _ s9 wq => ∃ k : Nat, s9 = .int .i64 k ∧ k + r = m ∧ (∀ t, t < k → F t ≠ x) ∧ wq = w)
  case atStart => exact ⟨0, rfl, by omega, fun t ht => by omega, rfl⟩
  case round =>
    obtain ⟨k, rfl, hk, hno, rfl⟩ := hrel
    by_cases hlt : k < m
    · obtain ⟨bl, off, ha, hc⟩ := HI.out.some_ (by omega)
      have c := hc k hlt
      subst ha
      clear hc
      by_cases hy : x = F k
      · as_aux_lemma =>
        have HA : Hid (ok = true) := by
          show ok = true
          rw [← HO.out, among_hit hlt hy.symm]
        clear hno
        generalize F k = y at *
        subst hy
        go_wp2_with fail
        go_ret
        exact ⟨by rw [HA.out]; rfl, rfl⟩
      · as_aux_lemma =>
        have HN : Hid (∀ t, t < k + 1 → F t ≠ x) := by
          intro t ht
          rcases Nat.lt_succ_iff_lt_or_eq.1 ht with h | h
          · exact hno t h
          · subst h; exact fun e => hy e.symm
        clear hno
        generalize F k = y at *
        have hyb : (x == y) = false := beq_eq_false_iff_ne.2 hy
        clear hy
        go_wp2_with fail
        go_roundg (gk - 1)
        case measure => omega
        case rel => exact ⟨k + 1, by go_num, by omega, HN.out, rfl⟩
    · have HA : Hid (ok = false) := by
        show ok = false
        rw [← HO.out, among_miss (fun t ht => hno t (by omega))]
      clear hno
      go_wp2_with fail
      go_ret
      exact ⟨by rw [HA.out]; rfl, rfl⟩

end Go.Proofs.YtmbkicdahalakaaDoor
