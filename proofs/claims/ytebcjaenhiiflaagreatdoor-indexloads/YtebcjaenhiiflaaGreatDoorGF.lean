/- Graphs: the program's own. -/
import Derived.Test.YtebcjaenhiiflaaGreatDoorGC
namespace Go.Proofs.YtebcjaenhiiflaaGreatDoor.G
open Go.RowKit

/-- What cmp.Compare tells. -/
def cmpI (x y : Int) : Int := if x < y then -1 else if y < x then 1 else 0

set_option maxHeartbeats 400000 in
theorem compare_any (x y : Int) (w : World) : Calls Tryz.prog 227 #[.int .i64 x, .int .i64 y] w fun e w' => e = .returned (.int .i64 (cmpI x y)) ∧ w' = w := by
  have H : Hid (x < y ∨ ¬ x < y) := Classical.em _
  rcases Int.lt_trichotomy x y with h | h | h
  · have HC : Hid (cmpI x y = -1) := by show cmpI x y = -1; simp [cmpI, h]
    go_enter Tryz.func227, Tryz.ntmps227
    go_wp2
    go_ret
    exact ⟨by rw [HC.out]; rfl, rfl⟩
  · subst h
    have HC : Hid (cmpI x x = 0) := by show cmpI x x = 0; simp [cmpI]
    go_enter Tryz.func227, Tryz.ntmps227
    go_wp2
    go_ret
    exact ⟨by rw [HC.out]; rfl, rfl⟩
  · have h1 : ¬ x < y := by omega
    have HC : Hid (cmpI x y = 1) := by show cmpI x y = 1; simp [cmpI, h, h1]
    go_enter Tryz.func227, Tryz.ntmps227
    go_wp2
    go_ret
    exact ⟨by rw [HC.out]; rfl, rfl⟩

set_option maxHeartbeats 1000000 in
theorem find1_any (id y : Int) (t n cap g p gb ib : Nat) (w : World) (ht : t < n) (hib : w.cell? ⟨ib, 0, none⟩ = some (.int .i64 id)) (hgb : w.cell? ⟨gb, 0, none⟩ = some (.pointer (some ⟨p, 0, none⟩)))
    (hp : w.cell? ⟨p, 1, none⟩ = some (.slice (some ⟨g, 0, none⟩) n cap)) (hy : w.cell? ⟨g, t * 3, none⟩ = some (.int .i64 y)) :
    Calls Tryz.prog 226 #[.int .i64 (t : Int), .pointer (some ⟨ib, 0, none⟩), .pointer (some ⟨gb, 0, none⟩)] w fun e w' => e = .returned (.int .i64 (cmpI id y)) ∧ ∃ q, w' = w.drewN q := by
  go_enter Tryz.func226, Tryz.ntmps226
  go_wp2
  go_quiet ((go_at_call 227; exact Calls.quiet_of_same (compare_any id y _)))
  go_wp2
  go_ret
  exact ⟨rfl, nq, rfl⟩

theorem cmpI_pos {x y : Int} (h : y < x) : cmpI x y = 1 := by
  have : ¬ x < y := by omega
  simp [cmpI, h, this]

theorem cmpI_neg {x y : Int} (h : x < y) : cmpI x y = -1 := by simp [cmpI, h]

theorem cmpI_eq (x : Int) : cmpI x x = 0 := by simp [cmpI]

/-- What the closure of find reads. -/
structure Reads (w : World) (id : Int) (n p gb ib : Nat) (Y : Nat → Int) : Prop where
  hib : w.cell? ⟨ib, 0, none⟩ = some (.int .i64 id)
  hgb : w.cell? ⟨gb, 0, none⟩ = some (.pointer (some ⟨p, 0, none⟩))
  hp : 0 < n → ∃ g cap, w.cell? ⟨p, 1, none⟩ = some (.slice (some ⟨g, 0, none⟩) n cap) ∧ ∀ t, t < n → w.cell? ⟨g, t * 3, none⟩ = some (.int .i64 (Y t))

theorem find1_at {w : World} {id : Int} {n p gb ib : Nat} {Y : Nat → Int} (h : Reads w id n p gb ib Y) (t : Nat) (ht : t < n) (c : Int) (hc : cmpI id (Y t) = c) (q : Nat) :
    Calls Tryz.prog 226 #[.int .i64 (t : Int), .pointer (some ⟨ib, 0, none⟩), .pointer (some ⟨gb, 0, none⟩)] (w.drewN q) fun e w' => e = .returned (.int .i64 c) ∧ ∃ q', w' = w.drewN q' := by
  obtain ⟨g, cap, h1, h2⟩ := h.hp (by omega)
  have hD : ∀ j, (w.drewN q).drewN j = w.drewN (q + j) := fun j => by
    unfold World.drewN
    simp [Nat.add_assoc]
  refine (find1_any id (Y t) t n cap g p gb ib (w.drewN q) ht h.hib h.hgb h1 (h2 t ht)).mono ?_
  rintro e w' ⟨rfl, j, rfl⟩
  exact ⟨by rw [hc], q + j, hD j⟩

set_option maxHeartbeats 2000000 in
set_option maxRecDepth 100000 in
theorem find_sort (id : Int) (n k p gb ib : Nat) (Y : Nat → Int) (ok : Bool) (w : World) (h : Reads w id n p gb ib Y) (hk : k ≤ n) (hn : n ≤ 1000) (h1 : ∀ t, t < k → Y t < id) (h2 : ∀ t, k ≤ t → t < n → id ≤ Y t) (hok : ok = decide (k < n ∧ Y k = id)) :
    Calls Tryz.prog 225 #[.int .i64 (n : Int), .func (.func 226) #[] #[.pointer (some ⟨ib, 0, none⟩), .pointer (some ⟨gb, 0, none⟩)]] w fun e w' => e = .returned (.tuple #[.int .i64 (k : Int), .bool ok]) ∧ ∃ q, w' = w.drewN q := by
  have HR : Hid (Reads w id n p gb ib Y) := h
  have H1 : Hid (∀ t, t < k → Y t < id) := h1
  have H2 : Hid (∀ t, k ≤ t → t < n → id ≤ Y t) := h2
  have HO : Hid (ok = decide (k < n ∧ Y k = id)) := hok
  clear h h1 h2 hok
  go_enter Tryz.func225, Tryz.ntmps225
  go_wp2_with fail
  go_loopg [4, 6, 7] n (fun r s4 s6 _ wr => ∃ lo hi : Nat, s4 = .int .i64 lo ∧ s6 = .int .i64 hi ∧ lo ≤ k ∧ k ≤ hi ∧ hi ≤ n ∧ hi - lo ≤ r ∧ ∃ q, wr = w.drewN q)
  case atStart => exact ⟨0, n, rfl, rfl, Nat.zero_le _, hk, Nat.le_refl _, by omega, 0, rfl⟩
  case round =>
    obtain ⟨lo, hi, rfl, rfl, hlk, hkh, hin, hg, q, hwr⟩ := hrel
    have HW : Hid (wr = w.drewN q) := hwr
    clear hwr
    by_cases hlt : lo < hi
    · have e1 : ((lo : Int) + (hi : Int)) / 2 = (((lo + hi) / 2 : Nat) : Int) := by omega
      obtain ⟨m, hm⟩ : ∃ m, m = (lo + hi) / 2 := ⟨_, rfl⟩
      rw [← hm] at e1
      have hm1 : m < n := by omega
      have hm2 : lo ≤ m := by omega
      have hm3 : m < hi := by omega
      have E1 : Hid (((lo : Int) + (hi : Int)) / 2 = (m : Int)) := e1
      clear e1 hm
      by_cases hmk : m < k
      · as_aux_lemma =>
        have hc : cmpI id (Y m) = 1 := cmpI_pos (H1.out m hmk)
        have HC : Hid (∀ q, Calls Tryz.prog 226 #[.int .i64 (m : Int), .pointer (some ⟨ib, 0, none⟩), .pointer (some ⟨gb, 0, none⟩)] (w.drewN q) fun e w' => e = .returned (.int .i64 1) ∧ ∃ q', w' = w.drewN q') := fun q => find1_at HR.out m hm1 1 hc q
        clear hc
        go_wp2_with fail
        rw [E1.out, HW.out]
        refine (HC.out q).mono ?_
        rintro e w' ⟨rfl, q', hw'⟩
        have HW' : Hid (w' = w.drewN q') := hw'
        clear hw'
        go_wp2_with fail
        go_roundg (hi - (m + 1))
        case measure => omega
        case rel => exact ⟨m + 1, hi, by go_num, rfl, by omega, hkh, hin, by omega, q', HW'.out⟩
      · as_aux_lemma =>
        have hle : id ≤ Y m := H2.out m (by omega) hm1
        obtain ⟨c, hc, hc0⟩ : ∃ c, cmpI id (Y m) = c ∧ ¬ (0 < c) := by
          refine ⟨_, rfl, ?_⟩
          rcases Int.lt_or_eq_of_le hle with h | h
          · rw [cmpI_neg h]; decide
          · rw [← h, cmpI_eq]; decide
        have HC : Hid (∀ q, Calls Tryz.prog 226 #[.int .i64 (m : Int), .pointer (some ⟨ib, 0, none⟩), .pointer (some ⟨gb, 0, none⟩)] (w.drewN q) fun e w' => e = .returned (.int .i64 c) ∧ ∃ q', w' = w.drewN q') := fun q => find1_at HR.out m hm1 c hc q
        clear hc hle
        go_wp2_with fail
        rw [E1.out, HW.out]
        refine (HC.out q).mono ?_
        rintro e w' ⟨rfl, q', hw'⟩
        have HW' : Hid (w' = w.drewN q') := hw'
        clear hw'
        go_wp2_with fail
        go_roundg (m - lo)
        case measure => omega
        case rel => exact ⟨lo, m, rfl, by go_num, hlk, by omega, by omega, Nat.le_refl _, q', HW'.out⟩
    · have hkl : lo = k := by omega
      subst hkl
      by_cases hkn : lo < n
      · by_cases hy : Y lo = id
        · as_aux_lemma =>
          have hc : cmpI id (Y lo) = 0 := by rw [hy, cmpI_eq]
          have HC : Hid (∀ q, Calls Tryz.prog 226 #[.int .i64 (lo : Int), .pointer (some ⟨ib, 0, none⟩), .pointer (some ⟨gb, 0, none⟩)] (w.drewN q) fun e w' => e = .returned (.int .i64 0) ∧ ∃ q', w' = w.drewN q') := fun q => find1_at HR.out lo hkn 0 hc q
          have HO' : Hid (ok = true) := by
            show ok = true
            rw [HO.out]; exact decide_eq_true ⟨hkn, hy⟩
          clear hc hy HO
          go_wp2_with fail
          rw [HW.out]
          refine (HC.out q).mono ?_
          rintro e w' ⟨rfl, q', hw'⟩
          have HW' : Hid (w' = w.drewN q') := hw'
          clear hw'
          go_wp2_with fail
          go_ret2
          exact ⟨by rw [HO'.out]; rfl, q', HW'.out⟩
        · as_aux_lemma =>
          have hle : id ≤ Y lo := H2.out lo (Nat.le_refl _) hkn
          have hc : cmpI id (Y lo) = -1 := cmpI_neg (by omega)
          have HC : Hid (∀ q, Calls Tryz.prog 226 #[.int .i64 (lo : Int), .pointer (some ⟨ib, 0, none⟩), .pointer (some ⟨gb, 0, none⟩)] (w.drewN q) fun e w' => e = .returned (.int .i64 (-1)) ∧ ∃ q', w' = w.drewN q') := fun q => find1_at HR.out lo hkn (-1) hc q
          have HO' : Hid (ok = false) := by
            show ok = false
            rw [HO.out]; exact decide_eq_false (fun h => hy h.2)
          clear hc hy HO hle
          go_wp2_with fail
          rw [HW.out]
          refine (HC.out q).mono ?_
          rintro e w' ⟨rfl, q', hw'⟩
          have HW' : Hid (w' = w.drewN q') := hw'
          clear hw'
          go_wp2_with fail
          go_ret2
          exact ⟨by rw [HO'.out]; rfl, q', HW'.out⟩
      · as_aux_lemma =>
        have HO' : Hid (ok = false) := by
          show ok = false
          rw [HO.out]; exact decide_eq_false (fun h => hkn h.1)
        clear HO
        go_wp2_with fail
        go_ret2
        exact ⟨by rw [HO'.out]; rfl, q, HW.out⟩

/-- The number of the edge at a place. -/
def keyAt (L : List E) (t : Nat) : Int := (L.getD t (0, 0, 0)).1

theorem keyAt_some {L : List E} {t : Nat} (h : t < L.length) : ∃ x, L[t]? = some x ∧ keyAt L t = x.1 := by
  refine ⟨L[t], List.getElem?_eq_getElem h, ?_⟩
  simp [keyAt, h]

theorem seen_ok {L : List E} (hu : Up L) (id : Int) : (seen L id).isSome = decide (place L id < L.length ∧ keyAt L (place L id) = id) := by
  rcases place_hit hu id with ⟨x, h1, h2, h3⟩ | ⟨_, h2, h3⟩
  · have hlt := (List.getElem?_eq_some_iff.1 h1).1
    obtain ⟨y, hy1, hy2⟩ := keyAt_some hlt
    rw [h1] at hy1
    obtain rfl := Option.some.inj hy1
    rw [h3, decide_eq_true ⟨hlt, hy2.trans h2⟩]; rfl
  · rw [h3]
    symm
    refine decide_eq_false ?_
    rintro ⟨hlt, hk⟩
    obtain ⟨y, hy1, hy2⟩ := keyAt_some hlt
    exact h2 y hy1 (hy2.symm.trans hk)

theorem reads_of {w : World} {B gT p : Nat} {n : Int} {v : Value} {L : List E} (h : GAt w B gT 61 p n v L) (id : Int) (o1 o2 : Obj) (h1 : o1 = .cells #[.pointer (some ⟨p, 0, none⟩)] 82) (h2 : o2 = .cells #[.int .i64 id] 3) :
    Reads ((w.alloc o1).alloc o2) id L.length p w.heap.size (w.heap.size + 1) (keyAt L) := by
  subst h1 h2
  have hb : Below w.heap.size w ((w.alloc (.cells #[.pointer (some ⟨p, 0, none⟩)] 82)).alloc (.cells #[.int .i64 id] 3)) := ((Below.refl _ _).alloc (Nat.le_refl _) _).alloc (by simp) _
  have h' := h.below hb
  refine ⟨?_, ?_, fun h0 => ?_⟩
  · rw [World.cell?_alloc_at _ _ _ _ (by simp)]; rfl
  · rw [World.cell?_alloc_lt _ _ ⟨w.heap.size, 0, none⟩ (by simp), World.cell?_alloc_at _ _ _ _ rfl]; rfl
  · rcases h'.row.shape with ⟨_, e⟩ | ⟨g, cap, e, _⟩
    · rw [e] at h0; simp at h0
    · refine ⟨g, cap, h'.c1.trans (by rw [e]), fun t ht => ?_⟩
      obtain ⟨x, hx1, hx2⟩ := keyAt_some ht
      rw [hx2]
      exact (h'.row.at (by rw [e]; rfl) hx1).1

theorem below_two_drew (w : World) (o1 o2 : Obj) (q : Nat) : Below w.heap.size w (((w.alloc o1).alloc o2).drewN q) :=
  (((Below.refl _ _).alloc (Nat.le_refl _) _).alloc (by simp) _).trans ⟨rfl, rfl, rfl, Nat.le_refl _, fun _ _ => rfl⟩

set_option maxHeartbeats 1000000 in
set_option maxRecDepth 100000 in
theorem find_any (id : Int) (B p k : Nat) (n : Int) (v : Value) (L : List E) (ok : Bool) (w : World) (h : GAt w B 168 61 p n v L) (hu : Up L) (hl : L.length ≤ 1000) (hk : k = place L id) (hok : ok = (seen L id).isSome) :
    Calls Tryz.prog 114 #[.pointer (some ⟨p, 0, none⟩), .int .i64 id] w fun e w' => e = .returned (.tuple #[.int .i64 (k : Int), .bool ok]) ∧ Below w.heap.size w w' := by
  have HR : Hid (Reads ((w.alloc (.cells #[.pointer (some ⟨p, 0, none⟩)] 82)).alloc (.cells #[.int .i64 id] 3)) id L.length p w.heap.size (w.heap.size + 1) (keyAt L)) := reads_of h id _ _ rfl rfl
  have HU : Hid (Up L) := hu
  have HK : Hid (k = place L id ∧ ok = (seen L id).isSome) := ⟨hk, hok⟩
  obtain ⟨m, hm⟩ : ∃ m, m = L.length := ⟨_, rfl⟩
  have HM : Hid (m = L.length) := hm
  have hp := h.c1
  have hplt := h.plt
  obtain ⟨a, cap, hv⟩ : ∃ a cap, v = .slice a m cap := by
    rcases h.row.shape with ⟨e1, e2⟩ | ⟨g, cap, e, _⟩
    · exact ⟨none, 0, by rw [e1, hm, e2]; rfl⟩
    · exact ⟨_, cap, by rw [e, hm]⟩
  subst hv
  clear h hu hk hok hm
  go_enter Tryz.func114, Tryz.ntmps114
  go_wp2_with fail
  refine (find_sort id m k p w.heap.size (w.heap.size + 1) (keyAt L) ok _ (by rw [HM.out]; exact HR.out) (by rw [HM.out, HK.out.1]; exact place_le L id) (by rw [HM.out]; exact hl) (fun t ht => ?_) (fun t h1 h2 => ?_) (by rw [HM.out, HK.out.1, HK.out.2]; exact seen_ok HU.out id)).mono ?_
  · have hlt : t < L.length := by have := place_le L id; rw [← HK.out.1] at this; omega
    obtain ⟨x, hx1, hx2⟩ := keyAt_some hlt
    rw [hx2]
    exact place_lt L id t (by rw [← HK.out.1]; exact ht) x hx1
  · obtain ⟨x, hx1, hx2⟩ := keyAt_some (show t < L.length by rw [← HM.out]; exact h2)
    rw [hx2]
    exact place_ge L id HU.out t (by rw [← HK.out.1]; exact h1) x hx1
  · rintro e w' ⟨rfl, q, hw⟩
    have HB : Hid (Below w.heap.size w w') := by
      show Below w.heap.size w w'
      rw [hw]; exact below_two_drew w _ _ q
    clear hw HR
    go_wp2_with fail
    go_ret2
    exact ⟨rfl, HB.out⟩

set_option maxHeartbeats 400000 in
theorem has_any (x n : Int) (B p : Nat) (v : Value) (L : List E) (ok : Bool) (w : World) (h : GAt w B 168 61 p n v L) (hok : ok = decide (0 ≤ x ∧ x < n)) :
    Calls Tryz.prog 116 #[.pointer (some ⟨p, 0, none⟩), .int .i64 x] w fun e w' => e = .returned (.bool ok) ∧ w' = w := by
  have hp := h.c0
  clear h
  by_cases h0 : 0 ≤ x
  · by_cases h1 : x < n
    · have HO : Hid (ok = true) := by
        show ok = true
        rw [hok]; exact decide_eq_true ⟨h0, h1⟩
      clear hok
      go_enter Tryz.func116, Tryz.ntmps116
      go_wp2
      go_ret
      exact ⟨by rw [HO.out]; rfl, rfl⟩
    · have HO : Hid (ok = false) := by
        show ok = false
        rw [hok]; exact decide_eq_false (fun h => h1 h.2)
      clear hok
      go_enter Tryz.func116, Tryz.ntmps116
      go_wp2
      go_ret
      exact ⟨by rw [HO.out]; rfl, rfl⟩
  · have HO : Hid (ok = false) := by
      show ok = false
      rw [hok]; exact decide_eq_false (fun h => h0 h.1)
    clear hok
    go_enter Tryz.func116, Tryz.ntmps116
    go_wp2
    go_ret
    exact ⟨by rw [HO.out]; rfl, rfl⟩

set_option maxHeartbeats 400000 in
theorem nodes_any (n : Int) (B p : Nat) (v : Value) (L : List E) (w : World) (h : GAt w B 168 61 p n v L) :
    Calls Tryz.prog 52 #[.pointer (some ⟨p, 0, none⟩)] w fun e w' => e = .returned (.int .i64 n) ∧ w' = w := by
  have hp := h.c0
  clear h
  go_enter Tryz.func52, Tryz.ntmps52
  go_wp2
  go_ret
  exact ⟨rfl, rfl⟩

set_option maxHeartbeats 400000 in
theorem new_in (n : Int) (w : World) (h0 : 0 ≤ n) (h1 : n ≤ 40) :
    Calls Tryz.prog 53 #[.int .i64 n] w fun e w' => e = .returned (.tuple #[.pointer (some ⟨w.heap.size, 0, none⟩), .nilIface]) ∧ w' = w.alloc (.cells #[.int .i64 n, .slice none 0 0] 168) := by
  have g0 : ¬ n < 0 := by omega
  have g1 : ¬ 40 < n := by omega
  go_enter Tryz.func53, Tryz.ntmps53
  go_wp2
  go_ret2
  exact ⟨rfl, rfl⟩

end Go.Proofs.YtebcjaenhiiflaaGreatDoor.G
