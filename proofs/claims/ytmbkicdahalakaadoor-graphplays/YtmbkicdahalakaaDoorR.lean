/- The contracts of a graph's Add and Edge. -/
import Derived.Test.YtmbkicdahalakaaDoorQ
namespace Go.Proofs.YtmbkicdahalakaaDoor
open Go.RowKit

/-- What an edge that is put in must be. -/
def InRange (id a b n : Int) : Prop := (0 ≤ id ∧ id ≤ 1099511627776) ∧ (0 ≤ a ∧ a < n) ∧ (0 ≤ b ∧ b < n)

set_option maxHeartbeats 2000000 in
set_option maxRecDepth 100000 in
theorem add_range (id a b n : Int) (B p : Nat) (v : Value) (L : List E) (w : World) (h : GAt w B 81 59 p n v L) (hr : ¬ InRange id a b n) :
    Calls Tryd.prog 19 #[.pointer (some ⟨p, 0, none⟩), .int .i64 id, .int .i64 a, .int .i64 b] w fun e w' => e = .returned (.iface 29 (.int .i64 2)) ∧ Below w.heap.size w w' := by
  have HG : Hid (GAt w B 81 59 p n v L) := h
  clear h
  by_cases h1 : id < 0
  · clear hr
    go_enter Tryd.func19, Tryd.ntmps19
    go_wp2_with fail
    go_ret
    exact ⟨rfl, Below.refl _ _⟩
  by_cases h2 : 1099511627776 < id
  · clear hr
    go_enter Tryd.func19, Tryd.ntmps19
    go_wp2_with fail
    go_ret
    exact ⟨rfl, Below.refl _ _⟩
  by_cases h3 : 0 ≤ a ∧ a < n
  · have h4 : ¬ (0 ≤ b ∧ b < n) := fun hb => hr ⟨⟨by omega, by omega⟩, h3, hb⟩
    have H3 : Hid (0 ≤ a ∧ a < n) := h3
    have H4 : Hid (¬ (0 ≤ b ∧ b < n)) := h4
    clear hr h3 h4
    go_enter Tryd.func19, Tryd.ntmps19
    go_wp2_with fail
    refine (has_t a n B p v L w HG.out H3.out).mono ?_
    rintro e w1 ⟨rfl, rfl⟩
    go_wp2_with fail
    refine (has_f b n B p v L w1 HG.out H4.out).mono ?_
    rintro e w2 ⟨rfl, rfl⟩
    go_wp2_with fail
    go_ret
    exact ⟨rfl, Below.refl _ _⟩
  · have H3 : Hid (¬ (0 ≤ a ∧ a < n)) := h3
    clear hr h3
    go_enter Tryd.func19, Tryd.ntmps19
    go_wp2_with fail
    refine (has_f a n B p v L w HG.out H3.out).mono ?_
    rintro e w1 ⟨rfl, rfl⟩
    go_wp2_with fail
    go_ret
    exact ⟨rfl, Below.refl _ _⟩

set_option maxHeartbeats 2000000 in
set_option maxRecDepth 100000 in
theorem add_arg (id a n : Int) (B p : Nat) (v : Value) (L : List E) (w : World) (h : GAt w B 81 59 p n v L) (hr : InRange id a a n) :
    Calls Tryd.prog 19 #[.pointer (some ⟨p, 0, none⟩), .int .i64 id, .int .i64 a, .int .i64 a] w fun e w' => e = .returned (.iface 29 (.int .i64 1)) ∧ Below w.heap.size w w' := by
  have HG : Hid (GAt w B 81 59 p n v L) := h
  have h1 : ¬ id < 0 := by have := hr.1.1; omega
  have h2 : ¬ 1099511627776 < id := by have := hr.1.2; omega
  have H3 : Hid (0 ≤ a ∧ a < n) := hr.2.1
  clear hr h
  go_enter Tryd.func19, Tryd.ntmps19
  go_wp2_with fail
  refine (has_t a n B p v L w HG.out H3.out).mono ?_
  rintro e w1 ⟨rfl, rfl⟩
  go_wp2_with fail
  refine (has_t a n B p v L w1 HG.out H3.out).mono ?_
  rintro e w2 ⟨rfl, rfl⟩
  go_wp2_with fail
  go_ret
  exact ⟨rfl, Below.refl _ _⟩

set_option maxHeartbeats 2000000 in
set_option maxRecDepth 100000 in
theorem add_twice (id a b n : Int) (B p : Nat) (v : Value) (L : List E) (w : World) (h : GAt w B 81 59 p n v L) (hu : Up L) (hl : L.length ≤ 120) (hr : InRange id a b n) (hab : a ≠ b) (hs : (seen L id).isSome = true) :
    Calls Tryd.prog 19 #[.pointer (some ⟨p, 0, none⟩), .int .i64 id, .int .i64 a, .int .i64 b] w fun e w' => e = .returned (.iface 29 (.int .i64 9)) ∧ Below w.heap.size w w' := by
  have HC : Hid (Calls Tryd.prog 36 #[.pointer (some ⟨p, 0, none⟩), .int .i64 id] w fun e w' => e = .returned (.tuple #[.int .i64 (place L id : Nat), .bool true]) ∧ Below w.heap.size w w') := find_any id B p (place L id) n v L true w h hu (by omega) rfl hs.symm
  have HG : Hid (GAt w B 81 59 p n v L) := h
  have h1 : ¬ id < 0 := by have := hr.1.1; omega
  have h2 : ¬ 1099511627776 < id := by have := hr.1.2; omega
  have H3 : Hid (0 ≤ a ∧ a < n) := hr.2.1
  have H4 : Hid (0 ≤ b ∧ b < n) := hr.2.2
  have h5 : (a == b) = false := beq_eq_false_iff_ne.2 hab
  clear hr h hu hs hab
  go_enter Tryd.func19, Tryd.ntmps19
  go_wp2_with fail
  refine (has_t a n B p v L w HG.out H3.out).mono ?_
  rintro e w1 ⟨rfl, rfl⟩
  go_wp2_with fail
  refine (has_t b n B p v L w1 HG.out H4.out).mono ?_
  rintro e w2 ⟨rfl, rfl⟩
  go_wp2_with fail
  refine HC.out.mono ?_
  rintro e w3 ⟨rfl, hb⟩
  have HB : Hid (Below w2.heap.size w2 w3) := hb
  clear hb
  go_wp2_with fail
  go_ret
  exact ⟨rfl, HB.out⟩

set_option maxHeartbeats 2000000 in
set_option maxRecDepth 100000 in
theorem add_full (id a b n : Int) (B p : Nat) (v : Value) (L : List E) (w : World) (h : GAt w B 81 59 p n v L) (hu : Up L) (hl : L.length ≤ 120) (hr : InRange id a b n) (hab : a ≠ b) (hs : seen L id = none) (hf : 120 ≤ L.length) :
    Calls Tryd.prog 19 #[.pointer (some ⟨p, 0, none⟩), .int .i64 id, .int .i64 a, .int .i64 b] w fun e w' => e = .returned (.iface 29 (.int .i64 12)) ∧ Below w.heap.size w w' := by
  have HC : Hid (Calls Tryd.prog 36 #[.pointer (some ⟨p, 0, none⟩), .int .i64 id] w fun e w' => e = .returned (.tuple #[.int .i64 (place L id : Nat), .bool false]) ∧ Below w.heap.size w w') := find_any id B p (place L id) n v L false w h hu (by omega) rfl (by rw [hs]; rfl)
  have HG : Hid (GAt w B 81 59 p n v L) := h
  have h1 : ¬ id < 0 := by have := hr.1.1; omega
  have h2 : ¬ 1099511627776 < id := by have := hr.1.2; omega
  have H3 : Hid (0 ≤ a ∧ a < n) := hr.2.1
  have H4 : Hid (0 ≤ b ∧ b < n) := hr.2.2
  have h5 : (a == b) = false := beq_eq_false_iff_ne.2 hab
  obtain ⟨va, vc, hv⟩ := h.row.slice_len
  obtain ⟨m, hm⟩ : ∃ m, m = L.length := ⟨_, rfl⟩
  rw [← hm] at hf hv
  have hf' : (120 : Int) ≤ (m : Int) := by omega
  clear hr h hu hs hab hl hm
  go_enter Tryd.func19, Tryd.ntmps19
  go_wp2_with fail
  refine (has_t a n B p v L w HG.out H3.out).mono ?_
  rintro e w1 ⟨rfl, rfl⟩
  go_wp2_with fail
  refine (has_t b n B p v L w1 HG.out H4.out).mono ?_
  rintro e w2 ⟨rfl, rfl⟩
  go_wp2_with fail
  refine HC.out.mono ?_
  rintro e w3 ⟨rfl, hb⟩
  have HB : Hid (Below w2.heap.size w2 w3) := hb
  have hp := (HG.out.below hb).c1
  rw [hv] at hp
  clear hb hv HC
  go_wp2_with fail
  go_ret
  exact ⟨rfl, HB.out⟩

set_option maxHeartbeats 4000000 in
set_option maxRecDepth 100000 in
theorem add_ok (id a b n lo hi : Int) (B p : Nat) (v : Value) (L M : List E) (w : World) (h : GAt w B 81 59 p n v L) (hB : B ≤ w.heap.size) (hu : Up L) (hl : L.length < 120) (hr : InRange id a b n) (hab : a ≠ b) (hs : seen L id = none) (hlo : lo = min a b) (hhi : hi = max a b) (hM : M = putE L (id, lo, hi)) :
    Calls Tryd.prog 19 #[.pointer (some ⟨p, 0, none⟩), .int .i64 id, .int .i64 a, .int .i64 b] w fun e w' => e = .returned .nilIface ∧ Step1 w w' B 81 p n v M := by
  obtain ⟨k, hk⟩ : ∃ k, k = place L id := ⟨_, rfl⟩
  have hkl : k ≤ L.length := by rw [hk]; exact place_le L id
  have HC : Hid (Calls Tryd.prog 36 #[.pointer (some ⟨p, 0, none⟩), .int .i64 id] w fun e w' => e = .returned (.tuple #[.int .i64 (k : Int), .bool false]) ∧ Below w.heap.size w w') := find_any id B p k n v L false w h hu (by omega) hk (by rw [hs]; rfl)
  have HG : Hid (GAt w B 81 59 p n v L) := h
  have h1 : ¬ id < 0 := by have := hr.1.1; omega
  have h2 : ¬ 1099511627776 < id := by have := hr.1.2; omega
  have H3 : Hid (0 ≤ a ∧ a < n) := hr.2.1
  have H4 : Hid (0 ≤ b ∧ b < n) := hr.2.2
  have h5 : (a == b) = false := beq_eq_false_iff_ne.2 hab
  have HM : Hid (M = L.take k ++ (id, lo, hi) :: L.drop k) := by
    show M = _
    rw [hM, hk]; rfl
  have HL : Hid (k ≤ L.length ∧ L.length ≤ 1000) := ⟨hkl, by omega⟩
  have HBB : Hid (B ≤ w.heap.size) := hB
  have hsl := h.row.slice_len
  obtain ⟨va, vc, hv⟩ := hsl
  obtain ⟨m, hm⟩ : ∃ m, m = L.length := ⟨_, rfl⟩
  rw [← hm] at hl hv hkl
  have hl' : ¬ ((120 : Int) ≤ (m : Int)) := by omega
  have HV : Hid (v = .slice va m vc) := hv
  clear hr h hu hs hM hm hB hv hk
  have fin : ∀ (w3 : World), Below w.heap.size w w3 → Calls Tryd.prog 39 #[.slice va m vc, .int .i64 (k : Int), .slice (some ⟨w3.heap.size, 0, none⟩) 1 1] (w3.alloc (.cells #[.int .i64 id, .int .i64 lo, .int .i64 hi] 59)) fun e w4 => ∃ a' m' c', e = .returned (.slice a' m' c') ∧ Step1 w (w4.setCell ⟨p, 1, none⟩ (.slice a' m' c')) B 81 p n v M ∧ w4.cell? ⟨p, 1, none⟩ = some v ∧ w4.frozen? ⟨p, 1, none⟩ = false := by
    intro w3 hb
    have hb2 : Below w.heap.size w (w3.alloc (.cells #[.int .i64 id, .int .i64 lo, .int .i64 hi] 59)) := hb.alloc hb.size _
    have hg := HG.out.below hb2
    rw [← HV.out]
    refine (insert_any B k w3.heap.size v L M (id, lo, hi) _ hg.row (Nat.le_trans HBB.out hb2.size) (heap_alloc_new w3 _) (fun e => ?_) HL.out.1 HL.out.2 HM.out).mono ?_
    · have := (HG.out.lt e).2
      have := hb.size
      omega
    · rintro e w4 ⟨v', rfl, i1, i2, i3⟩
      obtain ⟨a', m', c', rfl⟩ := i1.slice
      exact ⟨a', m', c', rfl, step1_of hg hb2 i2 i1 i3 HG.out.plt, (cell_p hg i2).1, (cell_p hg i2).2⟩
  have HFIN : Hid (∀ (w3 : World), Below w.heap.size w w3 → Calls Tryd.prog 39 #[.slice va m vc, .int .i64 (k : Int), .slice (some ⟨w3.heap.size, 0, none⟩) 1 1] (w3.alloc (.cells #[.int .i64 id, .int .i64 lo, .int .i64 hi] 59)) fun e w4 => ∃ a' m' c', e = .returned (.slice a' m' c') ∧ Step1 w (w4.setCell ⟨p, 1, none⟩ (.slice a' m' c')) B 81 p n v M ∧ w4.cell? ⟨p, 1, none⟩ = some v ∧ w4.frozen? ⟨p, 1, none⟩ = false) := fin
  clear fin
  rcases Int.lt_or_gt_of_ne hab with hlt | hgt
  · obtain rfl : lo = a := by rw [hlo]; omega
    obtain rfl : hi = b := by rw [hhi]; omega
    clear hlo hhi hab
    go_enter Tryd.func19, Tryd.ntmps19
    go_wp2_with fail
    refine (has_t lo n B p v L w HG.out H3.out).mono ?_
    rintro e w1 ⟨rfl, rfl⟩
    go_wp2_with fail
    refine (has_t hi n B p v L w1 HG.out H4.out).mono ?_
    rintro e w2 ⟨rfl, rfl⟩
    go_wp2_with fail
    refine HC.out.mono ?_
    rintro e w3 ⟨rfl, hb⟩
    have HB : Hid (Below w2.heap.size w2 w3) := hb
    have hp := (HG.out.below hb).c1
    rw [HV.out] at hp
    clear hb HC
    go_wp2_with fail
    refine (HFIN.out w3 HB.out).mono ?_
    rintro e w4 ⟨a', m', c', rfl, hst, q1, q2⟩
    have HST : Hid (Step1 w2 (w4.setCell ⟨p, 1, none⟩ (.slice a' m' c')) B 81 p n v M) := hst
    clear hst
    go_wp2_with fail
    go_ret
    exact ⟨rfl, HST.out⟩
  · obtain rfl : lo = b := by rw [hlo]; omega
    obtain rfl : hi = a := by rw [hhi]; omega
    clear hlo hhi hab
    go_enter Tryd.func19, Tryd.ntmps19
    go_wp2_with fail
    refine (has_t hi n B p v L w HG.out H3.out).mono ?_
    rintro e w1 ⟨rfl, rfl⟩
    go_wp2_with fail
    refine (has_t lo n B p v L w1 HG.out H4.out).mono ?_
    rintro e w2 ⟨rfl, rfl⟩
    go_wp2_with fail
    refine HC.out.mono ?_
    rintro e w3 ⟨rfl, hb⟩
    have HB : Hid (Below w2.heap.size w2 w3) := hb
    have hp := (HG.out.below hb).c1
    rw [HV.out] at hp
    clear hb HC
    go_wp2_with fail
    refine (HFIN.out w3 HB.out).mono ?_
    rintro e w4 ⟨a', m', c', rfl, hst, q1, q2⟩
    have HST : Hid (Step1 w2 (w4.setCell ⟨p, 1, none⟩ (.slice a' m' c')) B 81 p n v M) := hst
    clear hst
    go_wp2_with fail
    go_ret
    exact ⟨rfl, HST.out⟩

end Go.Proofs.YtmbkicdahalakaaDoor
