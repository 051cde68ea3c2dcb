/- The contracts of sort.Find at find's closure, of find, has, New, Nodes. -/
import Derived.Test.YtmbkicdahalakaaDoorF
import Derived.Laws.Shifts
namespace Go.Proofs.YtmbkicdahalakaaDoor
open Go.RowKit

theorem cmpI_pos {x y : Int} (h : y < x) : cmpI x y = 1 := by
  have : ¬ x < y := by omega
  simp [cmpI, h, this]
theorem cmpI_neg {x y : Int} (h : x < y) : cmpI x y = -1 := by simp [cmpI, h]
theorem cmpI_eq (x : Int) : cmpI x x = 0 := by simp [cmpI]

/-- What the closure of find reads. -/
structure Reads (w : World) (id : Int) (n p gb ib : Nat) (Y : Nat → Int) : Prop where
  hib : w.cell? ⟨ib, 0, none⟩ = some (.int .i64 id)
  hgb : w.cell? ⟨gb, 0, none⟩ = some (.pointer (some ⟨p, 0, none⟩))
  hp : 0 < n → ∃ g cap, w.cell? ⟨p, 1, none⟩ = some (.slice (some ⟨g, 0, none⟩) n cap) ∧ ∀ t, t < n → w.cell? ⟨g, t * 3, none⟩ = some (.int .i64 (Y t))

theorem find1_at {w : World} {id : Int} {n p gb ib : Nat} {Y : Nat → Int} (h : Reads w id n p gb ib Y) (t : Nat) (ht : t < n) (c : Int) (hc : cmpI id (Y t) = c) (q : Nat) :
    Calls Tryd.prog 53 #[.int .i64 (t : Int), .pointer (some ⟨ib, 0, none⟩), .pointer (some ⟨gb, 0, none⟩)] (w.drewN q) fun e w' => e = .returned (.int .i64 c) ∧ ∃ q', w' = w.drewN q' := by
  obtain ⟨g, cap, h1, h2⟩ := h.hp (by omega)
  have hD : ∀ j, (w.drewN q).drewN j = w.drewN (q + j) := fun j => by
    unfold World.drewN
    simp [Nat.add_assoc]
  refine (find1_any id (Y t) t n cap g p gb ib (w.drewN q) ht h.hib h.hgb h1 (h2 t ht)).mono ?_
  rintro e w' ⟨rfl, j, rfl⟩
  exact ⟨by rw [hc], q + j, hD j⟩

set_option maxHeartbeats 2000000 in
set_option maxRecDepth 100000 in
theorem find_sort (id : Int) (n k p gb ib : Nat) (Y : Nat → Int) (ok : Bool) (w : World) (h : Reads w id n p gb ib Y) (hk : k ≤ n) (hn : n ≤ 1000) (h1 : ∀ t, t < k → Y t < id) (h2 : ∀ t, k ≤ t → t < n → id ≤ Y t) (hok : ok = decide (k < n ∧ Y k = id)) :
    Calls Tryd.prog 52 #[.int .i64 (n : Int), .func (.func 53) #[] #[.pointer (some ⟨ib, 0, none⟩), .pointer (some ⟨gb, 0, none⟩)]] w fun e w' => e = .returned (.tuple #[.int .i64 (k : Int), .bool ok]) ∧ ∃ q, w' = w.drewN q := by
  have HR : Hid (Reads w id n p gb ib Y) := h
  have H1 : Hid (∀ t, t < k → Y t < id) := h1
  have H2 : Hid (∀ t, k ≤ t → t < n → id ≤ Y t) := h2
  have HO : Hid (ok = decide (k < n ∧ Y k = id)) := hok
  clear h h1 h2 hok
  go_enter Tryd.func52, Tryd.ntmps52
  go_wp2_with fail
  go_loopg [4, 6, 7] n (fun r s4 s6 _ wr => ∃ lo hi : Nat, s4 = .int .i64 lo ∧ s6 = .int .i64 hi ∧ lo ≤ k ∧ k ≤ hi ∧ hi ≤ n ∧ hi - lo ≤ r ∧ ∃ q, wr = w.drewN q)
  case atStart => exact ⟨0, n, rfl, rfl, Nat.zero_le _, hk, Nat.le_refl _, by omega, 0, rfl⟩
  case round =>
    obtain ⟨lo, hi, rfl, rfl, hlk, hkh, hin, hg, q, hwr⟩ := hrel
    have HW : Hid (wr = w.drewN q) := hwr
    clear hwr
    by_cases hlt : lo < hi
    · have e1 : ((lo : Int) + (hi : Int)) / 2 = (((lo + hi) / 2 : Nat) : Int) := by omega
      obtain ⟨m, hm⟩ : ∃ m, m = (lo + hi) / 2 := ⟨_, rfl⟩
      rw [← hm] at e1
      have hm1 : m < n := by omega
      have hm2 : lo ≤ m := by omega
      have hm3 : m < hi := by omega
      have E1 : Hid (((lo : Int) + (hi : Int)) / 2 = (m : Int)) := e1
      clear e1 hm
      by_cases hmk : m < k
      · as_aux_lemma =>
        have hc : cmpI id (Y m) = 1 := cmpI_pos (H1.out m hmk)
        have HC : Hid (∀ q, Calls Tryd.prog 53 #[.int .i64 (m : Int), .pointer (some ⟨ib, 0, none⟩), .pointer (some ⟨gb, 0, none⟩)] (w.drewN q) fun e w' => e = .returned (.int .i64 1) ∧ ∃ q', w' = w.drewN q') := fun q => find1_at HR.out m hm1 1 hc q
        clear hc
        go_wp2_with fail
        rw [E1.out, HW.out]
        refine (HC.out q).mono ?_
        rintro e w' ⟨rfl, q', hw'⟩
        have HW' : Hid (w' = w.drewN q') := hw'
        clear hw'
        go_wp2_with fail
        go_roundg (hi - (m + 1))
        case measure => omega
        case rel => exact ⟨m + 1, hi, by go_num, rfl, by omega, hkh, hin, by omega, q', HW'.out⟩
      · as_aux_lemma =>
        have hle : id ≤ Y m := H2.out m (by omega) hm1
        obtain ⟨c, hc, hc0⟩ : ∃ c, cmpI id (Y m) = c ∧ ¬ (0 < c) := by
          refine ⟨_, rfl, ?_⟩
          rcases Int.lt_or_eq_of_le hle with h | h
          · rw [cmpI_neg h]; decide
          · rw [← h, cmpI_eq]; decide
        have HC : Hid (∀ q, Calls Tryd.prog 53 #[.int .i64 (m : Int), .pointer (some ⟨ib, 0, none⟩), .pointer (some ⟨gb, 0, none⟩)] (w.drewN q) fun e w' => e = .returned (.int .i64 c) ∧ ∃ q', w' = w.drewN q') := fun q => find1_at HR.out m hm1 c hc q
        clear hc hle
        go_wp2_with fail
        rw [E1.out, HW.out]
        refine (HC.out q).mono ?_
        rintro e w' ⟨rfl, q', hw'⟩
        have HW' : Hid (w' = w.drewN q') := hw'
        clear hw'
        go_wp2_with fail
        go_roundg (m - lo)
        case measure => omega
        case rel => exact ⟨lo, m, rfl, by go_num, hlk, by omega, by omega, Nat.le_refl _, q', HW'.out⟩
    · have hkl : lo = k := by omega
      subst hkl
      by_cases hkn : lo < n
      · by_cases hy : Y lo = id
        · as_aux_lemma =>
          have hc : cmpI id (Y lo) = 0 := by rw [hy, cmpI_eq]
          have HC : Hid (∀ q, Calls Tryd.prog 53 #[.int .i64 (lo : Int), .pointer (some ⟨ib, 0, none⟩), .pointer (some ⟨gb, 0, none⟩)] (w.drewN q) fun e w' => e = .returned (.int .i64 0) ∧ ∃ q', w' = w.drewN q') := fun q => find1_at HR.out lo hkn 0 hc q
          have HO' : Hid (ok = true) := by
            show ok = true
            rw [HO.out]; exact decide_eq_true ⟨hkn, hy⟩
          clear hc hy HO
          go_wp2_with fail
          rw [HW.out]
          refine (HC.out q).mono ?_
          rintro e w' ⟨rfl, q', hw'⟩
          have HW' : Hid (w' = w.drewN q') := hw'
          clear hw'
          go_wp2_with fail
          go_ret2
          exact ⟨by rw [HO'.out]; rfl, q', HW'.out⟩
        · as_aux_lemma =>
          have hle : id ≤ Y lo := H2.out lo (Nat.le_refl _) hkn
          have hc : cmpI id (Y lo) = -1 := cmpI_neg (by omega)
          have HC : Hid (∀ q, Calls Tryd.prog 53 #[.int .i64 (lo : Int), .pointer (some ⟨ib, 0, none⟩), .pointer (some ⟨gb, 0, none⟩)] (w.drewN q) fun e w' => e = .returned (.int .i64 (-1)) ∧ ∃ q', w' = w.drewN q') := fun q => find1_at HR.out lo hkn (-1) hc q
          have HO' : Hid (ok = false) := by
            show ok = false
            rw [HO.out]; exact decide_eq_false (fun h => hy h.2)
          clear hc hy HO hle
          go_wp2_with fail
          rw [HW.out]
          refine (HC.out q).mono ?_
          rintro e w' ⟨rfl, q', hw'⟩
          have HW' : Hid (w' = w.drewN q') := hw'
          clear hw'
          go_wp2_with fail
          go_ret2
          exact ⟨by rw [HO'.out]; rfl, q', HW'.out⟩
      · as_aux_lemma =>
        have HO' : Hid (ok = false) := by
          show ok = false
          rw [HO.out]; exact decide_eq_false (fun h => hkn h.1)
        clear HO
        go_wp2_with fail
        go_ret2
        exact ⟨by rw [HO'.out]; rfl, q, HW.out⟩

end Go.Proofs.YtmbkicdahalakaaDoor
