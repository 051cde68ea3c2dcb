/- The graph's Add, where it is refused. -/
import Derived.Test.YtebcjaenhiiflaaGreatDoorGR
namespace Go.Proofs.YtebcjaenhiiflaaGreatDoor.G
open Go.RowKit

theorem has_f (x n : Int) (B p : Nat) (v : Value) (L : List E) (w : World) (h : GAt w B 168 61 p n v L) (hx : ¬ (0 ≤ x ∧ x < n)) :
    Calls Tryz.prog 116 #[.pointer (some ⟨p, 0, none⟩), .int .i64 x] w fun e w' => e = .returned (.bool false) ∧ w' = w := has_any x n B p v L false w h (decide_eq_false hx).symm

set_option maxHeartbeats 2000000 in
set_option maxRecDepth 100000 in
theorem add_range (id a b n : Int) (B p : Nat) (v : Value) (L : List E) (w : World) (h : GAt w B 168 61 p n v L) (hr : ¬ InRange id a b n) :
    Calls Tryz.prog 56 #[.pointer (some ⟨p, 0, none⟩), .int .i64 id, .int .i64 a, .int .i64 b] w fun e w' => e = .returned (.iface 23 (.int .i64 2)) ∧ Below w.heap.size w w' := by
  have HG : Hid (GAt w B 168 61 p n v L) := h
  clear h
  by_cases h1 : id < 0
  · clear hr
    go_enter Tryz.func56, Tryz.ntmps56
    go_wp2_with fail
    go_ret
    exact ⟨rfl, Below.refl _ _⟩
  by_cases h2 : 1099511627776 < id
  · clear hr
    go_enter Tryz.func56, Tryz.ntmps56
    go_wp2_with fail
    go_ret
    exact ⟨rfl, Below.refl _ _⟩
  by_cases h3 : 0 ≤ a ∧ a < n
  · have h4 : ¬ (0 ≤ b ∧ b < n) := fun hb => hr ⟨⟨by omega, by omega⟩, h3, hb⟩
    have H3 : Hid (0 ≤ a ∧ a < n) := h3
    have H4 : Hid (¬ (0 ≤ b ∧ b < n)) := h4
    clear hr h3 h4
    go_enter Tryz.func56, Tryz.ntmps56
    go_wp2_with fail
    refine (has_t a n B p v L w HG.out H3.out).mono ?_
    rintro e w1 ⟨rfl, rfl⟩
    go_wp2_with fail
    refine (has_f b n B p v L w1 HG.out H4.out).mono ?_
    rintro e w2 ⟨rfl, rfl⟩
    go_wp2_with fail
    go_ret
    exact ⟨rfl, Below.refl _ _⟩
  · have H3 : Hid (¬ (0 ≤ a ∧ a < n)) := h3
    clear hr h3
    go_enter Tryz.func56, Tryz.ntmps56
    go_wp2_with fail
    refine (has_f a n B p v L w HG.out H3.out).mono ?_
    rintro e w1 ⟨rfl, rfl⟩
    go_wp2_with fail
    go_ret
    exact ⟨rfl, Below.refl _ _⟩

set_option maxHeartbeats 2000000 in
set_option maxRecDepth 100000 in
theorem add_arg (id a n : Int) (B p : Nat) (v : Value) (L : List E) (w : World) (h : GAt w B 168 61 p n v L) (hr : InRange id a a n) :
    Calls Tryz.prog 56 #[.pointer (some ⟨p, 0, none⟩), .int .i64 id, .int .i64 a, .int .i64 a] w fun e w' => e = .returned (.iface 23 (.int .i64 1)) ∧ Below w.heap.size w w' := by
  have HG : Hid (GAt w B 168 61 p n v L) := h
  have h1 : ¬ id < 0 := by have := hr.1.1; omega
  have h2 : ¬ 1099511627776 < id := by have := hr.1.2; omega
  have H3 : Hid (0 ≤ a ∧ a < n) := hr.2.1
  clear hr h
  go_enter Tryz.func56, Tryz.ntmps56
  go_wp2_with fail
  refine (has_t a n B p v L w HG.out H3.out).mono ?_
  rintro e w1 ⟨rfl, rfl⟩
  go_wp2_with fail
  refine (has_t a n B p v L w1 HG.out H3.out).mono ?_
  rintro e w2 ⟨rfl, rfl⟩
  go_wp2_with fail
  go_ret
  exact ⟨rfl, Below.refl _ _⟩

set_option maxHeartbeats 2000000 in
set_option maxRecDepth 100000 in
theorem add_twice (id a b n : Int) (B p : Nat) (v : Value) (L : List E) (w : World) (h : GAt w B 168 61 p n v L) (hu : Up L) (hl : L.length ≤ 120) (hr : InRange id a b n) (hab : a ≠ b) (hs : (seen L id).isSome = true) :
    Calls Tryz.prog 56 #[.pointer (some ⟨p, 0, none⟩), .int .i64 id, .int .i64 a, .int .i64 b] w fun e w' => e = .returned (.iface 23 (.int .i64 9)) ∧ Below w.heap.size w w' := by
  have HC : Hid (Calls Tryz.prog 114 #[.pointer (some ⟨p, 0, none⟩), .int .i64 id] w fun e w' => e = .returned (.tuple #[.int .i64 (place L id : Nat), .bool true]) ∧ Below w.heap.size w w') := find_any id B p (place L id) n v L true w h hu (by omega) rfl hs.symm
  have HG : Hid (GAt w B 168 61 p n v L) := h
  have h1 : ¬ id < 0 := by have := hr.1.1; omega
  have h2 : ¬ 1099511627776 < id := by have := hr.1.2; omega
  have H3 : Hid (0 ≤ a ∧ a < n) := hr.2.1
  have H4 : Hid (0 ≤ b ∧ b < n) := hr.2.2
  have h5 : (a == b) = false := beq_eq_false_iff_ne.2 hab
  clear hr h hu hs hab
  go_enter Tryz.func56, Tryz.ntmps56
  go_wp2_with fail
  refine (has_t a n B p v L w HG.out H3.out).mono ?_
  rintro e w1 ⟨rfl, rfl⟩
  go_wp2_with fail
  refine (has_t b n B p v L w1 HG.out H4.out).mono ?_
  rintro e w2 ⟨rfl, rfl⟩
  go_wp2_with fail
  refine HC.out.mono ?_
  rintro e w3 ⟨rfl, hb⟩
  have HB : Hid (Below w2.heap.size w2 w3) := hb
  clear hb
  go_wp2_with fail
  go_ret
  exact ⟨rfl, HB.out⟩

set_option maxHeartbeats 2000000 in
set_option maxRecDepth 100000 in
theorem add_full (id a b n : Int) (B p : Nat) (v : Value) (L : List E) (w : World) (h : GAt w B 168 61 p n v L) (hu : Up L) (hl : L.length ≤ 120) (hr : InRange id a b n) (hab : a ≠ b) (hs : seen L id = none) (hf : 120 ≤ L.length) :
    Calls Tryz.prog 56 #[.pointer (some ⟨p, 0, none⟩), .int .i64 id, .int .i64 a, .int .i64 b] w fun e w' => e = .returned (.iface 23 (.int .i64 12)) ∧ Below w.heap.size w w' := by
  have HC : Hid (Calls Tryz.prog 114 #[.pointer (some ⟨p, 0, none⟩), .int .i64 id] w fun e w' => e = .returned (.tuple #[.int .i64 (place L id : Nat), .bool false]) ∧ Below w.heap.size w w') := find_any id B p (place L id) n v L false w h hu (by omega) rfl (by rw [hs]; rfl)
  have HG : Hid (GAt w B 168 61 p n v L) := h
  have h1 : ¬ id < 0 := by have := hr.1.1; omega
  have h2 : ¬ 1099511627776 < id := by have := hr.1.2; omega
  have H3 : Hid (0 ≤ a ∧ a < n) := hr.2.1
  have H4 : Hid (0 ≤ b ∧ b < n) := hr.2.2
  have h5 : (a == b) = false := beq_eq_false_iff_ne.2 hab
  obtain ⟨va, vc, hv⟩ := h.row.slice_len
  obtain ⟨m, hm⟩ : ∃ m, m = L.length := ⟨_, rfl⟩
  rw [← hm] at hf hv
  have hf' : (120 : Int) ≤ (m : Int) := by omega
  clear hr h hu hs hab hl hm
  go_enter Tryz.func56, Tryz.ntmps56
  go_wp2_with fail
  refine (has_t a n B p v L w HG.out H3.out).mono ?_
  rintro e w1 ⟨rfl, rfl⟩
  go_wp2_with fail
  refine (has_t b n B p v L w1 HG.out H4.out).mono ?_
  rintro e w2 ⟨rfl, rfl⟩
  go_wp2_with fail
  refine HC.out.mono ?_
  rintro e w3 ⟨rfl, hb⟩
  have HB : Hid (Below w2.heap.size w2 w3) := hb
  have hp := (HG.out.below hb).c1
  rw [hv] at hp
  clear hb hv HC
  go_wp2_with fail
  go_ret
  exact ⟨rfl, HB.out⟩

end Go.Proofs.YtebcjaenhiiflaaGreatDoor.G
