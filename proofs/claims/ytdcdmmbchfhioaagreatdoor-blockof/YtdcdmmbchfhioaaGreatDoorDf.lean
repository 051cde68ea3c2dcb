/- The contracts of In, and of same at rows of numbers. -/
import Derived.Test.YtdcdmmbchfhioaaGreatDoorDb
namespace Go.Proofs.YtdcdmmbchfhioaaGreatDoor.S
open Go.RowKit Go.WideMaps Go.Maps

set_option maxHeartbeats 1000000 in
/-- same at two rows of the same numbers. -/
theorem same_ints (a1 a2 : Option Addr) (gl c1 c2 : Nat) (F : Nat → Int) (w : World) (h : 0 < gl → ∃ r1 r2, a1 = some ⟨r1, 0, none⟩ ∧ a2 = some ⟨r2, 0, none⟩ ∧ (∀ j, j < gl → w.cell? ⟨r1, j, none⟩ = some (.int .i64 (F j))) ∧ ∀ j, j < gl → w.cell? ⟨r2, j, none⟩ = some (.int .i64 (F j))) (hgl : gl ≤ 1000000) :
    Calls Tryz.prog 11 #[.slice a1 gl c1, .slice a2 gl c2] w fun e w' => e = .returned (.bool true) ∧ ∃ n, w' = w.drewN n := by
  have HH := (show Hid _ from h)
  clear h
  go_enter Tryz.func11, Tryz.ntmps11
  go_wp2_with fail
  go_loopw [5] (fun s5 wq => ∃ j : Nat, j ≤ gl ∧ s5 = .int .i64 j ∧ ∃ q, wq = w.drewN q) (fun s5 _ => gl - (intOf s5).toNat)
  case atStart => exact ⟨0, Nat.zero_le _, rfl, 0, rfl⟩
  case round =>
    obtain ⟨j, hj, rfl, q, hq0⟩ := hrel
    have HQ : Hid (wr = w.drewN q) := hq0
    clear hq0
    by_cases hlt : j < gl
    · obtain ⟨r1, r2, rfl, rfl, h1, h2⟩ := HH.out (by omega)
      have c1' : wr.cell? ⟨r1, j, none⟩ = some (.int .i64 (F j)) := by rw [HQ.out]; exact h1 j hlt
      have c2' : wr.cell? ⟨r2, j, none⟩ = some (.int .i64 (F j)) := by rw [HQ.out]; exact h2 j hlt
      generalize F j = x at *
      clear h1 h2
      go_wp2_with fail
      go_quiet (fail)
      clear c1' c2'
      go_wp2_with fail
      go_roundw
      case rel => exact ⟨j + 1, by omega, by go_num, q + nq, by rw [HQ.out, drewN_drewN]⟩
      case measure => simp [intOf]; omega
    · go_wp2_with fail
      go_ret
      exact ⟨rfl, q, HQ.out⟩

/-- One of the first k numbers is x. -/
def Has (F : Nat → Nat) (k x : Nat) : Prop := ∃ j, j < k ∧ F j = x

theorem has_zero (F : Nat → Nat) (x : Nat) : ¬ Has F 0 x := fun ⟨_, h, _⟩ => by omega
theorem has_hit {F : Nat → Nat} {k x : Nat} (h : F k = x) : Has F (k + 1) x := ⟨k, by omega, h⟩
theorem has_old {F : Nat → Nat} {k x : Nat} (h : Has F k x) : Has F (k + 1) x := by
  obtain ⟨j, h1, h2⟩ := h
  exact ⟨j, by omega, h2⟩
theorem has_miss {F : Nat → Nat} {k x : Nat} (h : ¬ Has F k x) (hk : F k ≠ x) : ¬ Has F (k + 1) x := by
  rintro ⟨j, h1, h2⟩
  by_cases hj : j = k
  · subst hj; exact hk h2
  · exact h ⟨j, by omega, h2⟩

/-- What In has reckoned of a row. -/
def InRel (F : Nat → Nat) (k a b : Nat) (s9 : Value) : Prop :=
  (s9 = .int .i64 0 ∧ ¬ Has F k a ∧ ¬ Has F k b) ∨ (s9 = .int .i64 1 ∧ Has F k a ∧ ¬ Has F k b) ∨ (s9 = .int .i64 2 ∧ ¬ Has F k a ∧ Has F k b) ∨ (s9 = .int .i64 3 ∧ Has F k a ∧ Has F k b)

set_option maxHeartbeats 4000000 in
set_option maxRecDepth 100000 in
theorem in_rows (ad : Option Addr) (c cap a b : Nat) (Gs : List (List Nat)) (s : Bool) (w : World) (h : 0 < c → ∃ g, ad = some ⟨g, 0, none⟩ ∧ RowsAt w g Gs c) (hc : c ≤ 1000) (hgl : ∀ i, (Gs.getD i []).length ≤ 1000) (hs : s = true ↔ ∃ i, i < c ∧ Has (fun j => (Gs.getD i []).getD j 0) (Gs.getD i []).length a ∧ Has (fun j => (Gs.getD i []).getD j 0) (Gs.getD i []).length b) :
    Calls Tryz.prog 20 #[.slice ad c cap, .int .i64 (a : Int), .int .i64 (b : Int)] w fun e w' => e = .returned (.bool s) ∧ w' = w := by
  have HH := (show Hid _ from h)
  have HS := (show Hid _ from hs)
  clear h hs
  go_enter Tryz.func20, Tryz.ntmps20
  go_wp2_with fail
  go_loopw [14] (fun s14 wq => ∃ i : Nat, i ≤ c ∧ s14 = .int .i64 i ∧ (∀ i', i' < i → ¬ (Has (fun j => (Gs.getD i' []).getD j 0) (Gs.getD i' []).length a ∧ Has (fun j => (Gs.getD i' []).getD j 0) (Gs.getD i' []).length b)) ∧ wq = w) (fun s14 _ => c - (intOf s14).toNat)
  case atStart => exact ⟨0, Nat.zero_le _, rfl, fun i' hi => by omega, rfl⟩
  case round =>
    obtain ⟨i, hi, rfl, hno, hw⟩ := hrel
    subst hw
    have HNO := (show Hid _ from hno)
    clear hno
    by_cases hlt : i < c
    · obtain ⟨g, rfl, hrows⟩ := HH.out (by omega)
      obtain ⟨r, cp, c0, cells⟩ := hrows i hlt
      have hgl' := hgl i
      obtain ⟨gl, hgle⟩ : ∃ gl, (Gs.getD i []).length = gl := ⟨_, rfl⟩
      obtain ⟨F, hF⟩ : ∃ F, F = fun j => (Gs.getD i []).getD j 0 := ⟨_, rfl⟩
      have HGL : Hid ((Gs.getD i []).length = gl ∧ F = fun j => (Gs.getD i []).getD j 0) := ⟨hgle, hF⟩
      have HC : Hid (∀ j, j < gl → wr.cell? ⟨r, j, none⟩ = some (.int .i64 ((F j : Nat) : Int))) := fun j hj => by
        rw [hF]; exact cells j (by rw [hgle]; exact hj)
      rw [hgle] at c0 hgl'
      clear cells hrows hgle hF
      go_wp2_with fail
      clear c0
      go_loopw [9, 20] (fun s9 s20 wq => ∃ k : Nat, k ≤ gl ∧ s20 = .int .i64 k ∧ InRel F k a b s9 ∧ wq = wr) (fun _ s20 _ => gl - (intOf s20).toNat)
      case atStart => exact ⟨0, Nat.zero_le _, rfl, .inl ⟨rfl, has_zero _ _, has_zero _ _⟩, rfl⟩
      case round =>
        obtain ⟨k, hk, rfl, hin, hw'⟩ := hrel
        subst hw'
        by_cases hlt' : k < gl
        · have ck := HC.out k hlt'
          obtain ⟨z, hz⟩ : ∃ z, F k = z := ⟨_, rfl⟩
          have HZ : Hid (F k = z) := hz
          rw [hz] at ck
          clear hz
          by_cases hza : z = a <;> by_cases hzb : z = b
          · subst hza
            subst hzb
            have HF : Hid (InRel F (k + 1) z z (.int .i64 3)) := .inr (.inr (.inr ⟨rfl, has_hit HZ.out, has_hit HZ.out⟩))
            rcases hin with ⟨rfl, h1, h2⟩ | ⟨rfl, h1, h2⟩ | ⟨rfl, h1, h2⟩ | ⟨rfl, h1, h2⟩
            all_goals
              clear h1 h2
              go_wp2_with fail
              go_roundw
              case rel => exact ⟨k + 1, by omega, by go_num, HF.out, by first | trivial | rfl⟩
              case measure => simp [intOf]; omega
          · subst hza
            have hq : ((z : Int) == (b : Int)) = false := beq_eq_false_iff_ne.2 (by omega)
            have hne : F k ≠ b := by rw [HZ.out]; exact hzb
            rcases hin with ⟨rfl, h1, h2⟩ | ⟨rfl, h1, h2⟩ | ⟨rfl, h1, h2⟩ | ⟨rfl, h1, h2⟩
            · have HF : Hid (InRel F (k + 1) z b (.int .i64 1)) := .inr (.inl ⟨rfl, has_hit HZ.out, has_miss h2 hne⟩)
              clear h1 h2 hne
              go_wp2_with fail
              go_roundw
              case rel => exact ⟨k + 1, by omega, by go_num, HF.out, by first | trivial | rfl⟩
              case measure => simp [intOf]; omega
            · have HF : Hid (InRel F (k + 1) z b (.int .i64 1)) := .inr (.inl ⟨rfl, has_hit HZ.out, has_miss h2 hne⟩)
              clear h1 h2 hne
              go_wp2_with fail
              go_roundw
              case rel => exact ⟨k + 1, by omega, by go_num, HF.out, by first | trivial | rfl⟩
              case measure => simp [intOf]; omega
            · have HF : Hid (InRel F (k + 1) z b (.int .i64 3)) := .inr (.inr (.inr ⟨rfl, has_hit HZ.out, has_old h2⟩))
              clear h1 h2 hne
              go_wp2_with fail
              go_roundw
              case rel => exact ⟨k + 1, by omega, by go_num, HF.out, by first | trivial | rfl⟩
              case measure => simp [intOf]; omega
            · have HF : Hid (InRel F (k + 1) z b (.int .i64 3)) := .inr (.inr (.inr ⟨rfl, has_hit HZ.out, has_old h2⟩))
              clear h1 h2 hne
              go_wp2_with fail
              go_roundw
              case rel => exact ⟨k + 1, by omega, by go_num, HF.out, by first | trivial | rfl⟩
              case measure => simp [intOf]; omega
          · subst hzb
            have hq : ((z : Int) == (a : Int)) = false := beq_eq_false_iff_ne.2 (by omega)
            have hne : F k ≠ a := by rw [HZ.out]; exact hza
            rcases hin with ⟨rfl, h1, h2⟩ | ⟨rfl, h1, h2⟩ | ⟨rfl, h1, h2⟩ | ⟨rfl, h1, h2⟩
            · have HF : Hid (InRel F (k + 1) a z (.int .i64 2)) := .inr (.inr (.inl ⟨rfl, has_miss h1 hne, has_hit HZ.out⟩))
              clear h1 h2 hne
              go_wp2_with fail
              go_roundw
              case rel => exact ⟨k + 1, by omega, by go_num, HF.out, by first | trivial | rfl⟩
              case measure => simp [intOf]; omega
            · have HF : Hid (InRel F (k + 1) a z (.int .i64 3)) := .inr (.inr (.inr ⟨rfl, has_old h1, has_hit HZ.out⟩))
              clear h1 h2 hne
              go_wp2_with fail
              go_roundw
              case rel => exact ⟨k + 1, by omega, by go_num, HF.out, by first | trivial | rfl⟩
              case measure => simp [intOf]; omega
            · have HF : Hid (InRel F (k + 1) a z (.int .i64 2)) := .inr (.inr (.inl ⟨rfl, has_miss h1 hne, has_hit HZ.out⟩))
              clear h1 h2 hne
              go_wp2_with fail
              go_roundw
              case rel => exact ⟨k + 1, by omega, by go_num, HF.out, by first | trivial | rfl⟩
              case measure => simp [intOf]; omega
            · have HF : Hid (InRel F (k + 1) a z (.int .i64 3)) := .inr (.inr (.inr ⟨rfl, has_old h1, has_hit HZ.out⟩))
              clear h1 h2 hne
              go_wp2_with fail
              go_roundw
              case rel => exact ⟨k + 1, by omega, by go_num, HF.out, by first | trivial | rfl⟩
              case measure => simp [intOf]; omega
          · have hq : ((z : Int) == (a : Int)) = false := beq_eq_false_iff_ne.2 (by omega)
            have hq2 : ((z : Int) == (b : Int)) = false := beq_eq_false_iff_ne.2 (by omega)
            have hne : F k ≠ a := by rw [HZ.out]; exact hza
            have hne2 : F k ≠ b := by rw [HZ.out]; exact hzb
            have HF : Hid (InRel F (k + 1) a b u9) := by
              rcases hin with ⟨h0, h1, h2⟩ | ⟨h0, h1, h2⟩ | ⟨h0, h1, h2⟩ | ⟨h0, h1, h2⟩
              · exact .inl ⟨h0, has_miss h1 hne, has_miss h2 hne2⟩
              · exact .inr (.inl ⟨h0, has_old h1, has_miss h2 hne2⟩)
              · exact .inr (.inr (.inl ⟨h0, has_miss h1 hne, has_old h2⟩))
              · exact .inr (.inr (.inr ⟨h0, has_old h1, has_old h2⟩))
            clear hin hne hne2
            go_wp2_with fail
            go_roundw
            case rel => exact ⟨k + 1, by omega, by go_num, HF.out, by first | trivial | rfl⟩
            case measure => simp [intOf]; omega
        · have hke : k = gl := by omega
          subst hke
          have HOUT : Hid (∀ {i' : Nat}, i' < i + 1 → ¬ (Has F k a ∧ Has F k b) → ¬ (Has (fun j => (Gs.getD i' []).getD j 0) (Gs.getD i' []).length a ∧ Has (fun j => (Gs.getD i' []).getD j 0) (Gs.getD i' []).length b)) := fun {i'} hi' hno => by
            by_cases he : i' = i
            · subst he
              rw [← HGL.out.2, HGL.out.1]; exact hno
            · exact HNO.out i' (by omega)
          rcases hin with ⟨rfl, h1, h2⟩ | ⟨rfl, h1, h2⟩ | ⟨rfl, h1, h2⟩ | ⟨rfl, h1, h2⟩
          · have HN : Hid (¬ (Has F k a ∧ Has F k b)) := fun k => h1 k.1
            clear h1 h2
            go_wp2_with fail
            go_roundw
            case rel => exact ⟨i + 1, by omega, by go_num, fun i' hi' => HOUT.out hi' HN.out, by first | trivial | rfl⟩
            case measure => simp [intOf]; omega
          · have HN : Hid (¬ (Has F k a ∧ Has F k b)) := fun k => h2 k.2
            clear h1 h2
            go_wp2_with fail
            go_roundw
            case rel => exact ⟨i + 1, by omega, by go_num, fun i' hi' => HOUT.out hi' HN.out, by first | trivial | rfl⟩
            case measure => simp [intOf]; omega
          · have HN : Hid (¬ (Has F k a ∧ Has F k b)) := fun k => h1 k.1
            clear h1 h2
            go_wp2_with fail
            go_roundw
            case rel => exact ⟨i + 1, by omega, by go_num, fun i' hi' => HOUT.out hi' HN.out, by first | trivial | rfl⟩
            case measure => simp [intOf]; omega
          · have HF : Hid (s = true) := HS.out.2 ⟨i, hlt, by rw [← HGL.out.2, HGL.out.1]; exact h1, by rw [← HGL.out.2, HGL.out.1]; exact h2⟩
            clear h1 h2
            go_wp2_with fail
            go_ret
            exact ⟨by rw [HF.out]; rfl, rfl⟩
    · have hie : i = c := by omega
      subst hie
      have HF : Hid (s = false) := by
        show s = false
        cases s with
        | false => rfl
        | true =>
          obtain ⟨i', hi', h1⟩ := HS.out.1 rfl
          exact absurd h1 (HNO.out i' hi')
      go_wp2_with fail
      go_ret
      exact ⟨by rw [HF.out]; rfl, rfl⟩

/-- In the rows of a row of least members two lie together just if they have one label. -/
theorem grps_in {n : Nat} {L : List Nat} (g : Good n L) {a b : Nat} (ha : a < n) (hb : b < n) :
    L.getD a 0 = L.getD b 0 ↔ ∃ i, i < (grps L n).length ∧ Has (fun j => ((grps L n).getD i []).getD j 0) ((grps L n).getD i []).length a ∧ Has (fun j => ((grps L n).getD i []).getD j 0) ((grps L n).getD i []).length b := by
  have key : ∀ (K : List Nat) (x : Nat), Has (fun j => K.getD j 0) K.length x ↔ x ∈ K := by
    intro K x
    constructor
    · rintro ⟨j, hj, rfl⟩
      simp [hj]
    · intro hx
      obtain ⟨j, hj, rfl⟩ := List.mem_iff_getElem.1 hx
      exact ⟨j, hj, by simp [hj]⟩
  simp only [key]
  constructor
  · intro e
    have hlt : L.getD a 0 < n := Nat.lt_of_le_of_lt (g.le a ha) ha
    have hm : ∀ x, x < n → L.getD x 0 = L.getD a 0 → x ∈ grp L n (L.getD a 0) := fun x hx hxe => by
      unfold grp
      rw [List.mem_filter]
      exact ⟨by simpa using hx, by simpa using hxe⟩
    have hG : grp L n (L.getD a 0) ∈ grps L n := by
      unfold grps
      rw [List.mem_filter]
      refine ⟨List.mem_map.2 ⟨L.getD a 0, by simpa using hlt, by rw [g.len]⟩, ?_⟩
      have := hm a ha rfl
      cases hh : grp L n (L.getD a 0) with
      | nil => rw [hh] at this; simp at this
      | cons x xs => rfl
    obtain ⟨i, hi, hie⟩ := List.mem_iff_getElem.1 hG
    refine ⟨i, hi, ?_, ?_⟩
    · have : (grps L n).getD i [] = grp L n (L.getD a 0) := by simp [hi, hie]
      rw [this]; exact hm a ha rfl
    · have : (grps L n).getD i [] = grp L n (L.getD a 0) := by simp [hi, hie]
      rw [this]; exact hm b hb e.symm
  · rintro ⟨i, hi, h1, h2⟩
    obtain ⟨x, _, _, hx⟩ := grps_at g i hi
    rw [hx] at h1 h2
    unfold grp at h1 h2
    rw [List.mem_filter] at h1 h2
    have e1 : L.getD a 0 = x := by simpa using h1.2
    have e2 : L.getD b 0 = x := by simpa using h2.2
    rw [e1, e2]

end Go.Proofs.YtdcdmmbchfhioaaGreatDoor.S
