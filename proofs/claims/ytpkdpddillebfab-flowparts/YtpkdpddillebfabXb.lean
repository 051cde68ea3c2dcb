/- Package split: together, at each of the two closures; part. -/
import Derived.Test.YtpkdpddillebfabXa
import Derived.DeepKeys4
namespace Go.Proofs.Ytpkdpddillebfab.S
open Go.RowKit Go.WideMaps Go.Maps

/-- What together gives. -/
def TogPost (w : World) (n : Nat) (R : List (Int × Int × Int)) (inn : Nat → Bool) (e : Ending) (w' : World) : Prop :=
  ∃ p b, e = .returned (.pointer (some ⟨p, 0, none⟩)) ∧ SetsAt w' p b (joins (List.range n) (R.filter (kp inn))) ∧ w.heap.size ≤ p ∧ w.heap.size ≤ b ∧ Below w.heap.size w w'

theorem take_kp {R : List (Int × Int × Int)} {k : Nat} {x : Int × Int × Int} (pf : Int × Int × Int → Bool) (h : R[k]? = some x) : (R.take (k + 1)).filter pf = (R.take k).filter pf ++ (if pf x then [x] else []) := G.take_filter pf h

theorem good_take {n : Nat} {R : List (Int × Int × Int)} (hin : Inn n R) (k : Nat) (inn : Nat → Bool) : Good n (joins (List.range n) ((R.take k).filter (kp inn))) :=
  good_joins _ _ (good_range n) (fun d hd => by
    have := hin d (List.mem_of_mem_take (List.mem_filter.1 hd).1)
    exact ⟨this.1, this.2.1⟩)

theorem in1_any (x : Nat) (c a : Nat) (w : World) (hc : w.cell? ⟨c, 0, none⟩ = some (.int .i64 (a : Int))) :
    Calls Try.prog 44 #[.int .i64 (x : Int), .pointer (some ⟨c, 0, none⟩)] w fun e w' => e = .returned (.bool (decide (x ≠ a))) ∧ w' = w := by
  by_cases hxa : x = a
  · subst hxa
    have hb : ((x : Int) != (x : Int)) = false := by simp
    go_enter Try.func44, Try.ntmps44
    go_wp2_with fail
    go_ret
    exact ⟨by simp, rfl⟩
  · have hb : ((x : Int) == (a : Int)) = false := beq_eq_false_iff_ne.2 (by omega)
    go_enter Try.func44, Try.ntmps44
    go_wp2_with fail
    go_ret
    exact ⟨by simp [hxa]; omega, rfl⟩

theorem in2_any (x : Nat) (c d a b : Nat) (w : World) (hc : w.cell? ⟨c, 0, none⟩ = some (.int .i64 (a : Int))) (hd : w.cell? ⟨d, 0, none⟩ = some (.int .i64 (b : Int))) :
    Calls Try.prog 45 #[.int .i64 (x : Int), .pointer (some ⟨c, 0, none⟩), .pointer (some ⟨d, 0, none⟩)] w fun e w' => e = .returned (.bool (decide (x ≠ a ∧ x ≠ b))) ∧ w' = w := by
  by_cases hxa : x = a
  · subst hxa
    have hb : ((x : Int) == (x : Int)) = true := by simp
    go_enter Try.func45, Try.ntmps45
    go_wp2_with fail
    go_ret
    exact ⟨by simp, rfl⟩
  · have hb : ((x : Int) == (a : Int)) = false := beq_eq_false_iff_ne.2 (by omega)
    by_cases hxb : x = b
    · subst hxb
      have hb2 : ((x : Int) == (x : Int)) = true := by simp
      go_enter Try.func45, Try.ntmps45
      go_wp2_with fail
      go_ret
      exact ⟨by simp, rfl⟩
    · have hb2 : ((x : Int) == (b : Int)) = false := beq_eq_false_iff_ne.2 (by omega)
      go_enter Try.func45, Try.ntmps45
      go_wp2_with fail
      go_ret
      exact ⟨by simp [hxa, hxb]; omega, rfl⟩

set_option maxHeartbeats 2000000 in
set_option maxRecDepth 100000 in
theorem together_one (n B0 c1 : Nat) (inn : Nat → Bool) (u : Value) (R : List (Int × Int × Int)) (w : World) (hR : G.Owns w B0 36 u R) (hn : n ≤ 40) (hin : Inn n R) (hl : R.length ≤ 120)
    (hf : ∀ W (x : Nat), Below w.heap.size w W → Calls Try.prog 44 #[.int .i64 (x : Int), .pointer (some ⟨c1, 0, none⟩)] W fun e w' => e = .returned (.bool (inn x)) ∧ w' = W) :
    Calls Try.prog 43 #[.int .i64 (n : Int), u, .func (.func 44) #[] #[.pointer (some ⟨c1, 0, none⟩)]] w (TogPost w n R inn) := by
  have HF : Hid (∀ W (x : Nat), Below w.heap.size w W → Calls Try.prog 44 #[.int .i64 (x : Int), .pointer (some ⟨c1, 0, none⟩)] W fun e w' => e = .returned (.bool (inn x)) ∧ w' = W) := hf
  have HR : Hid (G.Owns w B0 36 u R ∧ Inn n R) := ⟨hR, hin⟩
  obtain ⟨m, hm⟩ : ∃ m, R.length = m := ⟨_, rfl⟩
  have HM : Hid (R.length = m) := hm
  obtain ⟨va, vc, hv⟩ := hR.slice_len
  rw [hm] at hv hl
  subst hv
  clear hf hR hm hin
  go_enter Try.func43, Try.ntmps43
  go_wp2_with fail
  refine (new_in n w hn).mono ?_
  rintro e w1 ⟨rfl, hs1, hb1⟩
  have HS1 : Hid (SetsAt w1 (w.heap.size + 1) w.heap.size (List.range n) ∧ Below w.heap.size w w1) := ⟨hs1, hb1⟩
  clear hs1 hb1
  go_wp2_with fail
  go_loopw [18] (fun s18 wq => ∃ k : Nat, k ≤ m ∧ s18 = .int .i64 k ∧ SetsAt wq (w.heap.size + 1) w.heap.size (joins (List.range n) ((R.take k).filter (kp inn))) ∧ Below w.heap.size w wq) (fun s18 _ => m - (intOf s18).toNat)
  case atStart => exact ⟨0, Nat.zero_le _, rfl, HS1.out.1, HS1.out.2⟩
  case round =>
    clear HS1
    obtain ⟨k, hk, rfl, hs, hb⟩ := hrel
    have HS : Hid (SetsAt wr (w.heap.size + 1) w.heap.size (joins (List.range n) ((R.take k).filter (kp inn)))) := hs
    have HB : Hid (Below w.heap.size w wr) := hb
    clear hs hb
    by_cases hlt : k < m
    · obtain ⟨x0, x1, x2, hx⟩ : ∃ x0 x1 x2, R[k]? = some (x0, x1, x2) := ⟨_, _, _, List.getElem?_eq_getElem (by rw [HM.out]; exact hlt)⟩
      have HX : Hid (R[k]? = some (x0, x1, x2)) := hx
      obtain ⟨g, hva⟩ : ∃ g, va = some ⟨g, 0, none⟩ := by
        rcases HR.out.1.shape with ⟨_, e⟩ | ⟨g, cap, e, _⟩
        · rw [e] at hx; simp at hx
        · injection e with e1 _ _
          exact ⟨g, e1⟩
      obtain ⟨r0, r1, r2⟩ := (HR.out.1.below HB.out).at (g := g) (by rw [hva]; rfl) hx
      have hnat := HR.out.2 _ (List.mem_of_getElem? hx)
      obtain ⟨xa, hxa⟩ : ∃ xa, ea (x0, x1, x2) = xa := ⟨_, rfl⟩
      obtain ⟨xb, hxb⟩ : ∃ xb, eb (x0, x1, x2) = xb := ⟨_, rfl⟩
      rw [hxa, hxb] at hnat
      obtain ⟨han, hbn, h1, h2⟩ := hnat
      simp only at h1 h2
      subst h1
      subst h2
      have HE : Hid (ea (x0, (xa : Int), (xb : Int)) = xa ∧ eb (x0, (xa : Int), (xb : Int)) = xb) := ⟨hxa, hxb⟩
      have r0' : wr.cell? ⟨g, k * 3, none⟩ = some (.int .i64 x0) := r0
      have r1' : wr.cell? ⟨g, k * 3 + 1, none⟩ = some (.int .i64 (xa : Int)) := r1
      have r2' : wr.cell? ⟨g, k * 3 + 2, none⟩ = some (.int .i64 (xb : Int)) := r2
      clear r0 r1 r2 hx hxa hxb
      subst hva
      have hb1 : Below wr.heap.size wr (wr.alloc (.cells #[.int .i64 x0, .int .i64 (xa : Int), .int .i64 (xb : Int)] 36)) := (Below.refl _ _).alloc (Nat.le_refl _) _
      have HB1 : Hid (Below w.heap.size w (wr.alloc (.cells #[.int .i64 x0, .int .i64 (xa : Int), .int .i64 (xb : Int)] 36))) := HB.out.trans (hb1.mono HB.out.size)
      have HSW : Hid (SetsAt (wr.alloc (.cells #[.int .i64 x0, .int .i64 (xa : Int), .int .i64 (xb : Int)] 36)) (w.heap.size + 1) w.heap.size (joins (List.range n) ((R.take k).filter (kp inn)))) := HS.out.below hb1 HS.out.plt HS.out.blt
      have hc1 : (wr.alloc (.cells #[.int .i64 x0, .int .i64 (xa : Int), .int .i64 (xb : Int)] 36)).cell? ⟨wr.heap.size, 1, none⟩ = some (.int .i64 (xa : Int)) := by simp
      have hc2 : (wr.alloc (.cells #[.int .i64 x0, .int .i64 (xa : Int), .int .i64 (xb : Int)] 36)).cell? ⟨wr.heap.size, 2, none⟩ = some (.int .i64 (xb : Int)) := by simp
      clear hb1
      cases hia : inn xa with
      | true =>
        cases hib : inn xb with
        | true =>
          as_aux_lemma =>
          have HK : Hid (kp inn (x0, (xa : Int), (xb : Int)) = true) := by
            show kp inn (x0, (xa : Int), (xb : Int)) = true
            unfold kp; rw [HE.out.1, HE.out.2, hia, hib]; rfl
          go_wp2_with fail
          refine (HF.out _ xa HB1.out).mono ?_
          rintro e w2 ⟨rfl, rfl⟩
          rw [hia]
          go_wp2_with fail
          refine (HF.out _ xb HB1.out).mono ?_
          rintro e w2 ⟨rfl, rfl⟩
          rw [hib]
          go_wp2_with fail
          have g := good_take HR.out.2 k inn
          refine (join_in xa xb (w.heap.size + 1) w.heap.size _ _ HSW.out (by rw [g.len]; exact han) (by rw [g.len]; exact hbn) (by rw [g.len]; exact hn)).mono ?_
          rintro e w3 ⟨rfl, hs3, hb3⟩
          have HF3 : Hid (SetsAt w3 (w.heap.size + 1) w.heap.size (joins (List.range n) ((R.take (k + 1)).filter (kp inn))) ∧ Below w.heap.size w w3) := by
            refine ⟨?_, HB1.out.trans (hb3.below (Nat.le_refl _) HB1.out.size)⟩
            rw [take_kp (kp inn) HX.out, HK.out, if_pos rfl, joins_snoc, HE.out.1, HE.out.2]
            exact hs3
          clear hs3 hb3 g HSW HS HB HB1 hc1 hc2 hia hib r0' r1' r2'
          go_wp2_with fail
          go_roundw
          case rel => exact ⟨k + 1, by omega, by go_num, HF3.out.1, HF3.out.2⟩
          case measure => simp [intOf]; omega
        | false =>
          as_aux_lemma =>
          have HK : Hid (SetsAt (wr.alloc (.cells #[.int .i64 x0, .int .i64 (xa : Int), .int .i64 (xb : Int)] 36)) (w.heap.size + 1) w.heap.size (joins (List.range n) ((R.take (k + 1)).filter (kp inn)))) := by
            have : kp inn (x0, (xa : Int), (xb : Int)) = false := by unfold kp; rw [HE.out.1, HE.out.2, hia, hib]; rfl
            have h2 := HSW.out
            show SetsAt _ _ _ _
            rw [take_kp (kp inn) HX.out, this]
            simpa using h2
          go_wp2_with fail
          refine (HF.out _ xa HB1.out).mono ?_
          rintro e w2 ⟨rfl, rfl⟩
          rw [hia]
          go_wp2_with fail
          refine (HF.out _ xb HB1.out).mono ?_
          rintro e w2 ⟨rfl, rfl⟩
          rw [hib]
          clear hia hib
          go_wp2_with fail
          go_roundw
          case rel => exact ⟨k + 1, by omega, by go_num, HK.out, HB1.out⟩
          case measure => simp [intOf]; omega
      | false =>
        as_aux_lemma =>
        have HK : Hid (SetsAt (wr.alloc (.cells #[.int .i64 x0, .int .i64 (xa : Int), .int .i64 (xb : Int)] 36)) (w.heap.size + 1) w.heap.size (joins (List.range n) ((R.take (k + 1)).filter (kp inn)))) := by
          have : kp inn (x0, (xa : Int), (xb : Int)) = false := by unfold kp; rw [HE.out.1, HE.out.2, hia]; rfl
          have h2 := HSW.out
          show SetsAt _ _ _ _
          rw [take_kp (kp inn) HX.out, this]
          simpa using h2
        go_wp2_with fail
        refine (HF.out _ xa HB1.out).mono ?_
        rintro e w2 ⟨rfl, rfl⟩
        rw [hia]
        clear hia
        go_wp2_with fail
        go_roundw
        case rel => exact ⟨k + 1, by omega, by go_num, HK.out, HB1.out⟩
        case measure => simp [intOf]; omega
    · have hke : k = m := by omega
      have HF3 : Hid (SetsAt wr (w.heap.size + 1) w.heap.size (joins (List.range n) (R.filter (kp inn)))) := by
        have h2 := HS.out
        rw [hke, ← HM.out, List.take_length] at h2
        exact h2
      clear hke HS
      go_wp2_with fail
      go_ret
      exact ⟨_, _, rfl, HF3.out, by omega, by omega, HB.out⟩

set_option maxHeartbeats 2000000 in
set_option maxRecDepth 100000 in
theorem together_two (n B0 c1 c2 : Nat) (inn : Nat → Bool) (u : Value) (R : List (Int × Int × Int)) (w : World) (hR : G.Owns w B0 36 u R) (hn : n ≤ 40) (hin : Inn n R) (hl : R.length ≤ 120)
    (hf : ∀ W (x : Nat), Below w.heap.size w W → Calls Try.prog 45 #[.int .i64 (x : Int), .pointer (some ⟨c1, 0, none⟩), .pointer (some ⟨c2, 0, none⟩)] W fun e w' => e = .returned (.bool (inn x)) ∧ w' = W) :
    Calls Try.prog 43 #[.int .i64 (n : Int), u, .func (.func 45) #[] #[.pointer (some ⟨c1, 0, none⟩), .pointer (some ⟨c2, 0, none⟩)]] w (TogPost w n R inn) := by
  have HF : Hid (∀ W (x : Nat), Below w.heap.size w W → Calls Try.prog 45 #[.int .i64 (x : Int), .pointer (some ⟨c1, 0, none⟩), .pointer (some ⟨c2, 0, none⟩)] W fun e w' => e = .returned (.bool (inn x)) ∧ w' = W) := hf
  have HR : Hid (G.Owns w B0 36 u R ∧ Inn n R) := ⟨hR, hin⟩
  obtain ⟨m, hm⟩ : ∃ m, R.length = m := ⟨_, rfl⟩
  have HM : Hid (R.length = m) := hm
  obtain ⟨va, vc, hv⟩ := hR.slice_len
  rw [hm] at hv hl
  subst hv
  clear hf hR hm hin
  go_enter Try.func43, Try.ntmps43
  go_wp2_with fail
  refine (new_in n w hn).mono ?_
  rintro e w1 ⟨rfl, hs1, hb1⟩
  have HS1 : Hid (SetsAt w1 (w.heap.size + 1) w.heap.size (List.range n) ∧ Below w.heap.size w w1) := ⟨hs1, hb1⟩
  clear hs1 hb1
  go_wp2_with fail
  go_loopw [18] (fun s18 wq => ∃ k : Nat, k ≤ m ∧ s18 = .int .i64 k ∧ SetsAt wq (w.heap.size + 1) w.heap.size (joins (List.range n) ((R.take k).filter (kp inn))) ∧ Below w.heap.size w wq) (fun s18 _ => m - (intOf s18).toNat)
  case atStart => exact ⟨0, Nat.zero_le _, rfl, HS1.out.1, HS1.out.2⟩
  case round =>
    clear HS1
    obtain ⟨k, hk, rfl, hs, hb⟩ := hrel
    have HS : Hid (SetsAt wr (w.heap.size + 1) w.heap.size (joins (List.range n) ((R.take k).filter (kp inn)))) := hs
    have HB : Hid (Below w.heap.size w wr) := hb
    clear hs hb
    by_cases hlt : k < m
    · obtain ⟨x0, x1, x2, hx⟩ : ∃ x0 x1 x2, R[k]? = some (x0, x1, x2) := ⟨_, _, _, List.getElem?_eq_getElem (by rw [HM.out]; exact hlt)⟩
      have HX : Hid (R[k]? = some (x0, x1, x2)) := hx
      obtain ⟨g, hva⟩ : ∃ g, va = some ⟨g, 0, none⟩ := by
        rcases HR.out.1.shape with ⟨_, e⟩ | ⟨g, cap, e, _⟩
        · rw [e] at hx; simp at hx
        · injection e with e1 _ _
          exact ⟨g, e1⟩
      obtain ⟨r0, r1, r2⟩ := (HR.out.1.below HB.out).at (g := g) (by rw [hva]; rfl) hx
      have hnat := HR.out.2 _ (List.mem_of_getElem? hx)
      obtain ⟨xa, hxa⟩ : ∃ xa, ea (x0, x1, x2) = xa := ⟨_, rfl⟩
      obtain ⟨xb, hxb⟩ : ∃ xb, eb (x0, x1, x2) = xb := ⟨_, rfl⟩
      rw [hxa, hxb] at hnat
      obtain ⟨han, hbn, h1, h2⟩ := hnat
      simp only at h1 h2
      subst h1
      subst h2
      have HE : Hid (ea (x0, (xa : Int), (xb : Int)) = xa ∧ eb (x0, (xa : Int), (xb : Int)) = xb) := ⟨hxa, hxb⟩
      have r0' : wr.cell? ⟨g, k * 3, none⟩ = some (.int .i64 x0) := r0
      have r1' : wr.cell? ⟨g, k * 3 + 1, none⟩ = some (.int .i64 (xa : Int)) := r1
      have r2' : wr.cell? ⟨g, k * 3 + 2, none⟩ = some (.int .i64 (xb : Int)) := r2
      clear r0 r1 r2 hx hxa hxb
      subst hva
      have hb1 : Below wr.heap.size wr (wr.alloc (.cells #[.int .i64 x0, .int .i64 (xa : Int), .int .i64 (xb : Int)] 36)) := (Below.refl _ _).alloc (Nat.le_refl _) _
      have HB1 : Hid (Below w.heap.size w (wr.alloc (.cells #[.int .i64 x0, .int .i64 (xa : Int), .int .i64 (xb : Int)] 36))) := HB.out.trans (hb1.mono HB.out.size)
      have HSW : Hid (SetsAt (wr.alloc (.cells #[.int .i64 x0, .int .i64 (xa : Int), .int .i64 (xb : Int)] 36)) (w.heap.size + 1) w.heap.size (joins (List.range n) ((R.take k).filter (kp inn)))) := HS.out.below hb1 HS.out.plt HS.out.blt
      have hc1 : (wr.alloc (.cells #[.int .i64 x0, .int .i64 (xa : Int), .int .i64 (xb : Int)] 36)).cell? ⟨wr.heap.size, 1, none⟩ = some (.int .i64 (xa : Int)) := by simp
      have hc2 : (wr.alloc (.cells #[.int .i64 x0, .int .i64 (xa : Int), .int .i64 (xb : Int)] 36)).cell? ⟨wr.heap.size, 2, none⟩ = some (.int .i64 (xb : Int)) := by simp
      clear hb1
      cases hia : inn xa with
      | true =>
        cases hib : inn xb with
        | true =>
          as_aux_lemma =>
          have HK : Hid (kp inn (x0, (xa : Int), (xb : Int)) = true) := by
            show kp inn (x0, (xa : Int), (xb : Int)) = true
            unfold kp; rw [HE.out.1, HE.out.2, hia, hib]; rfl
          go_wp2_with fail
          refine (HF.out _ xa HB1.out).mono ?_
          rintro e w2 ⟨rfl, rfl⟩
          rw [hia]
          go_wp2_with fail
          refine (HF.out _ xb HB1.out).mono ?_
          rintro e w2 ⟨rfl, rfl⟩
          rw [hib]
          go_wp2_with fail
          have g := good_take HR.out.2 k inn
          refine (join_in xa xb (w.heap.size + 1) w.heap.size _ _ HSW.out (by rw [g.len]; exact han) (by rw [g.len]; exact hbn) (by rw [g.len]; exact hn)).mono ?_
          rintro e w3 ⟨rfl, hs3, hb3⟩
          have HF3 : Hid (SetsAt w3 (w.heap.size + 1) w.heap.size (joins (List.range n) ((R.take (k + 1)).filter (kp inn))) ∧ Below w.heap.size w w3) := by
            refine ⟨?_, HB1.out.trans (hb3.below (Nat.le_refl _) HB1.out.size)⟩
            rw [take_kp (kp inn) HX.out, HK.out, if_pos rfl, joins_snoc, HE.out.1, HE.out.2]
            exact hs3
          clear hs3 hb3 g HSW HS HB HB1 hc1 hc2 hia hib r0' r1' r2'
          go_wp2_with fail
          go_roundw
          case rel => exact ⟨k + 1, by omega, by go_num, HF3.out.1, HF3.out.2⟩
          case measure => simp [intOf]; omega
        | false =>
          as_aux_lemma =>
          have HK : Hid (SetsAt (wr.alloc (.cells #[.int .i64 x0, .int .i64 (xa : Int), .int .i64 (xb : Int)] 36)) (w.heap.size + 1) w.heap.size (joins (List.range n) ((R.take (k + 1)).filter (kp inn)))) := by
            have : kp inn (x0, (xa : Int), (xb : Int)) = false := by unfold kp; rw [HE.out.1, HE.out.2, hia, hib]; rfl
            have h2 := HSW.out
            show SetsAt _ _ _ _
            rw [take_kp (kp inn) HX.out, this]
            simpa using h2
          go_wp2_with fail
          refine (HF.out _ xa HB1.out).mono ?_
          rintro e w2 ⟨rfl, rfl⟩
          rw [hia]
          go_wp2_with fail
          refine (HF.out _ xb HB1.out).mono ?_
          rintro e w2 ⟨rfl, rfl⟩
          rw [hib]
          clear hia hib
          go_wp2_with fail
          go_roundw
          case rel => exact ⟨k + 1, by omega, by go_num, HK.out, HB1.out⟩
          case measure => simp [intOf]; omega
      | false =>
        as_aux_lemma =>
        have HK : Hid (SetsAt (wr.alloc (.cells #[.int .i64 x0, .int .i64 (xa : Int), .int .i64 (xb : Int)] 36)) (w.heap.size + 1) w.heap.size (joins (List.range n) ((R.take (k + 1)).filter (kp inn)))) := by
          have : kp inn (x0, (xa : Int), (xb : Int)) = false := by unfold kp; rw [HE.out.1, HE.out.2, hia]; rfl
          have h2 := HSW.out
          show SetsAt _ _ _ _
          rw [take_kp (kp inn) HX.out, this]
          simpa using h2
        go_wp2_with fail
        refine (HF.out _ xa HB1.out).mono ?_
        rintro e w2 ⟨rfl, rfl⟩
        rw [hia]
        clear hia
        go_wp2_with fail
        go_roundw
        case rel => exact ⟨k + 1, by omega, by go_num, HK.out, HB1.out⟩
        case measure => simp [intOf]; omega
    · have hke : k = m := by omega
      have HF3 : Hid (SetsAt wr (w.heap.size + 1) w.heap.size (joins (List.range n) (R.filter (kp inn)))) := by
        have h2 := HS.out
        rw [hke, ← HM.out, List.take_length] at h2
        exact h2
      clear hke HS
      go_wp2_with fail
      go_ret
      exact ⟨_, _, rfl, HF3.out, by omega, by omega, HB.out⟩

end Go.Proofs.Ytpkdpddillebfab.S
