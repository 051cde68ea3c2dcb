/- The document's Ask, ByEdges. -/
import Derived.Test.YtpkdpddillebfaaDoorDe
import Derived.Test.YtpkdpddillebfaaDoorFpM
namespace Go.Proofs.YtpkdpddillebfaaDoor.S
open Go Go.ChangeMaps Go.MapKept Go.WideShapes
open Go.RowKit Go.WideMaps Go.Maps F

/-- What Ask answers. -/
def AskOk (n : Nat) (a b most : Int) : Prop := (0 ≤ a ∧ a ≤ (n : Int) - 1) ∧ (0 ≤ b ∧ b ≤ (n : Int) - 1) ∧ 0 ≤ most ∧ most ≤ 120

set_option maxHeartbeats 2000000 in
theorem ask_ok (n B q : Nat) (u : Value) (R : List Stp) (a b most : Int) (w : World) (h : G.GAt w B 51 59 q (n : Int) u R) (hn : n ≤ 100) (hok : AskOk n a b most) (s : Int) (hs : (a = b ∧ s = 1) ∨ (a ≠ b ∧ s = 0)) :
    Calls Tryd.prog 56 #[.pointer (some ⟨q, 0, none⟩), .int .i64 a, .int .i64 b, .int .i64 most] w fun e w' => e = .returned (.int .i64 s) ∧ w' = w := by
  have c0 := h.c0
  have hw : IntKind.i64.wrap ((n : Int) - 1) = (n : Int) - 1 := by rw [IntKind.wrap_i64]; omega
  obtain ⟨h1, h2, h3⟩ := hok
  clear h
  go_enter Tryd.func56, Tryd.ntmps56
  go_wp2_with fail
  refine (G.in_t a 0 ((n : Int) - 1) w h1).mono ?_
  rintro e w1 ⟨rfl, hw1⟩
  subst hw1
  go_wp2_with fail
  refine (G.in_t b 0 ((n : Int) - 1) w1 h2).mono ?_
  rintro e w2 ⟨rfl, hw2⟩
  subst hw2
  go_wp2_with fail
  refine (G.in_t most 0 120 w2 h3).mono ?_
  rintro e w3 ⟨rfl, hw3⟩
  subst hw3
  rcases hs with ⟨rfl, rfl⟩ | ⟨hne, rfl⟩
  · go_wp2_with fail
    go_ret
    exact ⟨rfl, rfl⟩
  · have hne' : (a == b) = false := beq_eq_false_iff_ne.2 hne
    go_wp2_with fail
    go_ret
    exact ⟨rfl, rfl⟩

set_option maxHeartbeats 2000000 in
theorem ask_no (n B q : Nat) (u : Value) (R : List Stp) (a b most : Int) (w : World) (h : G.GAt w B 51 59 q (n : Int) u R) (hn : n ≤ 100) (hno : ¬ AskOk n a b most) :
    Calls Tryd.prog 56 #[.pointer (some ⟨q, 0, none⟩), .int .i64 a, .int .i64 b, .int .i64 most] w fun e w' => e = .returned (.int .i64 2) ∧ w' = w := by
  have c0 := h.c0
  have hw : IntKind.i64.wrap ((n : Int) - 1) = (n : Int) - 1 := by rw [IntKind.wrap_i64]; omega
  clear h
  go_enter Tryd.func56, Tryd.ntmps56
  go_wp2_with fail
  by_cases h1 : 0 ≤ a ∧ a ≤ (n : Int) - 1
  · refine (G.in_t a 0 ((n : Int) - 1) w h1).mono ?_
    rintro e w1 ⟨rfl, hw1⟩
    subst hw1
    go_wp2_with fail
    by_cases h2 : 0 ≤ b ∧ b ≤ (n : Int) - 1
    · refine (G.in_t b 0 ((n : Int) - 1) w1 h2).mono ?_
      rintro e w2 ⟨rfl, hw2⟩
      subst hw2
      go_wp2_with fail
      refine (G.in_f most 0 120 w2 (fun h3 => hno ⟨h1, h2, h3⟩)).mono ?_
      rintro e w3 ⟨rfl, hw3⟩
      subst hw3
      go_wp2_with fail
      go_ret
      exact ⟨rfl, rfl⟩
    · refine (G.in_f b 0 ((n : Int) - 1) w1 h2).mono ?_
      rintro e w2 ⟨rfl, hw2⟩
      subst hw2
      go_wp2_with fail
      go_ret
      exact ⟨rfl, rfl⟩
  · refine (G.in_f a 0 ((n : Int) - 1) w h1).mono ?_
    rintro e w1 ⟨rfl, hw1⟩
    subst hw1
    go_wp2_with fail
    go_ret
    exact ⟨rfl, rfl⟩

/-- Rooms that tell how many edges lead out. -/
structure Rm (M : Nat → Nat → Int) (n j : Nat) (R : List Stp) : Prop where
  cap : ∀ S : Int → Bool, capM M n S = (((R.take j).filter (crs S)).length : Int)
  bd : ∀ i k, 0 ≤ M i k ∧ M i k ≤ 2 * (j : Int)

theorem row_none (S : Int → Bool) (i : Nat) : ∀ n, rowM (fun _ _ => 0) S i n = 0
  | 0 => rfl
  | n + 1 => by simp [rowM, row_none S i n]
theorem sum_none (N : Nat) (S : Int → Bool) : ∀ n, sumM (fun _ _ => 0) N S n = 0
  | 0 => rfl
  | n + 1 => by simp [sumM, sum_none N S n, row_none]

theorem Rm.start (n : Nat) (R : List Stp) : Rm (fun _ _ => 0) n 0 R := ⟨fun S => by simp [capM, sum_none], fun _ _ => ⟨by omega, by omega⟩⟩

theorem Rm.next {M : Nat → Nat → Int} {n j : Nat} {R : List Stp} (h : Rm M n j R) {y0 : Int} {x y : Nat} (he : R[j]? = some (y0, (x : Int), (y : Int))) (hx : x < n) (hy : y < n) : Rm (addM (addM M x y 1) y x 1) n (j + 1) R := by
  refine ⟨fun S => ?_, fun i k => ?_⟩
  · rw [cap_add hy hx, cap_add hx hy, h.cap S, take_snoc he, List.filter_append, List.length_append, List.filter_cons]
    have hc : crs S (y0, (x : Int), (y : Int)) = (S (x : Int) != S (y : Int)) := rfl
    rw [hc]
    cases S (x : Int) <;> cases S (y : Int) <;> simp
  · have h1 := h.bd i k
    unfold addM
    split
    · split <;> omega
    · split <;> omega

/-- Ends that are nodes. -/
def InR2 (n : Nat) (R : List Stp) : Prop := ∀ e ∈ R, ∃ x y : Nat, x < n ∧ y < n ∧ x < y ∧ e.2.1 = (x : Int) ∧ e.2.2 = (y : Int)

set_option maxHeartbeats 4000000 in
set_option maxRecDepth 100000 in
theorem byE_any (n B q a b most : Nat) (u : Value) (R : List Stp) (w : World) (h : G.GAt w B 51 59 q (n : Int) u R) (hn : n ≤ 40) (hin : InR2 n R) (hl : R.length ≤ 60) (ha : a < n) (hb : b < n) (hab : a ≠ b) (hm : most ≤ 120) :
    Calls Tryd.prog 32 #[.pointer (some ⟨q, 0, none⟩), .int .i64 (a : Int), .int .i64 (b : Int), .int .i64 (most : Int)] w fun e w' => ∃ k : Nat, e = .returned (.tuple #[.int .i64 (k : Int), .int .i64 0]) ∧ Val (fun S => ((R.filter (crs S)).length : Int)) a b most k ∧ Below w.heap.size w w' := by
  have HG : Hid (G.GAt w B 51 59 q (n : Int) u R ∧ InR2 n R) := ⟨h, hin⟩
  have c0 := h.c0
  have c1 := h.c1
  have HA : Hid _ := ask_ok n B q u R (a : Int) (b : Int) (most : Int) w h (by omega) ⟨⟨by omega, by omega⟩, ⟨by omega, by omega⟩, by omega, by omega⟩ 0 (.inr ⟨by omega, rfl⟩)
  obtain ⟨m, hmm⟩ : ∃ m, R.length = m := ⟨_, rfl⟩
  have HMM : Hid (R.length = m) := hmm
  obtain ⟨va, vc, hv⟩ := h.row.slice_len
  rw [hmm] at hv hl
  have HV : Hid (u = .slice va m vc) := hv
  rw [hv] at c1
  clear h hin hmm hv
  go_enter Tryd.func32, Tryd.ntmps32
  go_wp2_with fail
  refine Calls.mono HA.out ?_
  rintro e w1 ⟨rfl, hw1⟩
  subst hw1
  clear HA
  go_wp2_with fail
  refine (rooms_any n w1 (by omega)).mono ?_
  rintro e w2 ⟨rfl, hmat, hb2⟩
  have HM2 : Hid (Mat w2 w1.heap.size (fun i => w1.heap.size + 1 + i) n (fun _ _ => 0) ∧ Below w1.heap.size w1 w2) := ⟨hmat, hb2⟩
  have d1 := cell_below c1 hb2
  clear hmat hb2 c0
  go_wp2_with fail
  go_loopw [32] (fun s32 wq => ∃ (j : Nat) (M : Nat → Nat → Int), j ≤ m ∧ s32 = .int .i64 j ∧ Mat wq w1.heap.size (fun i => w1.heap.size + 1 + i) n M ∧ Rm M n j R ∧ Below w1.heap.size w1 wq) (fun s32 _ => m - (intOf s32).toNat)
  case atStart => exact ⟨0, _, Nat.zero_le _, rfl, HM2.out.1, Rm.start n R, HM2.out.2⟩
  case round =>
    clear HM2
    obtain ⟨j, M, hj, rfl, hmat, hrm, hbl⟩ := hrel
    have HR : Hid (Mat wr w1.heap.size (fun i => w1.heap.size + 1 + i) n M ∧ Rm M n j R ∧ Below w1.heap.size w1 wr) := ⟨hmat, hrm, hbl⟩
    clear hmat hrm hbl
    by_cases hjm : j < m
    · obtain ⟨⟨y0, y1, y2⟩, hx⟩ : ∃ e : Stp, R[j]? = some e := ⟨_, List.getElem?_eq_getElem (by rw [HMM.out]; exact hjm)⟩
      obtain ⟨x, y, hxn, hyn, hxy, he1, he2⟩ := HG.out.2 _ (List.mem_of_getElem? hx)
      have he1 : y1 = (x : Int) := he1
      have he2 : y2 = (y : Int) := he2
      subst he1
      subst he2
      obtain ⟨g2, hva⟩ : ∃ g2, va = some ⟨g2, 0, none⟩ := by
        rcases HG.out.1.row.shape with ⟨_, k⟩ | ⟨g2, cap2, k, _⟩
        · rw [k] at hx; simp at hx
        · rw [HV.out] at k
          injection k with e1 _ _
          exact ⟨g2, e1⟩
      subst hva
      obtain ⟨r0, r1, r2⟩ := HG.out.1.row.at (g := g2) (by rw [HV.out]; rfl) hx
      simp only at r0 r1 r2
      have r0 := cell_below r0 HR.out.2.2
      have r1 := cell_below r1 HR.out.2.2
      have r2 := cell_below r2 HR.out.2.2
      obtain ⟨W1, hW1⟩ : ∃ W1, W1 = wr.alloc (.cells #[.int .i64 y0, .int .i64 (x : Int), .int .i64 (y : Int)] 59) := ⟨_, rfl⟩
      have hbW : Below wr.heap.size wr W1 := by rw [hW1]; exact (Below.refl _ _).alloc (Nat.le_refl _) _
      have hbx : W1.heap[wr.heap.size]? = some (.cells #[.int .i64 y0, .int .i64 (x : Int), .int .i64 (y : Int)] 59) := by rw [hW1]; exact heap_alloc_new wr _
      have p1 : W1.cell? ⟨wr.heap.size, 1, none⟩ = some (.int .i64 (x : Int)) := by simp [World.cell?, hbx]
      have p2 : W1.cell? ⟨wr.heap.size, 2, none⟩ = some (.int .i64 (y : Int)) := by simp [World.cell?, hbx]
      have hm1 := HR.out.1.below hbW
      have o1 := hm1.out x hxn
      have o2 := (hm1.row x y hxn hyn).1
      have o3 := (hm1.row x y hxn hyn).2
      obtain ⟨A, hA⟩ : ∃ A, M x y = A := ⟨_, rfl⟩
      rw [hA] at o2
      have hAb := HR.out.2.1.bd x y
      rw [hA] at hAb
      have hw1 : IntKind.i64.wrap (A + 1) = A + 1 := by rw [IntKind.wrap_i64]; omega
      have HW1 : Hid (wr.alloc (.cells #[.int .i64 y0, .int .i64 (x : Int), .int .i64 (y : Int)] 59) = W1) := hW1.symm
      have HEX : Hid (R[j]? = some (y0, (x : Int), (y : Int))) := hx
      have HMA : Hid (Mat W1 w1.heap.size (fun i => w1.heap.size + 1 + i) n M ∧ Below wr.heap.size wr W1 ∧ M x y = A) := ⟨hm1, hbW, hA⟩
      clear hx hW1 hbW hbx hm1 hA
      go_upto_region 8 with fail
      rw [HW1.out]
      clear r0 r1 r2
      obtain ⟨bx, hbx⟩ : ∃ bx, wr.heap.size = bx := ⟨_, rfl⟩
      rw [hbx] at p1 p2 ⊢
      have hbxm : bx ≠ w1.heap.size + 1 + x ∧ bx ≠ w1.heap.size + 1 + y := by
        have h1 := (HR.out.1.lt (by omega)).2
        have h2 : w1.heap.size + 1 + x < wr.heap.size := h1 x hxn
        have h3 : w1.heap.size + 1 + y < wr.heap.size := h1 y hyn
        omega
      have HBX : Hid (wr.heap.size = bx) := hbx
      clear hbx
      go_region
      obtain ⟨W2, hW2⟩ : ∃ W2, (W1.setCell ⟨w1.heap.size + 1 + x, y, none⟩ (.int .i64 (A + 1))).drew = W2 := ⟨_, rfl⟩
      have hm2 : Mat W2 w1.heap.size (fun i => w1.heap.size + 1 + i) n (fun i k => if i = x ∧ k = y then A + 1 else M i k) := by
        rw [← hW2]
        exact (HMA.out.1.set hxn hyn (A + 1)).below (Below.refl _ _).drew
      have p1 : W2.cell? ⟨bx, 1, none⟩ = some (.int .i64 (x : Int)) := by
        rw [← hW2]
        show (W1.setCell _ _).cell? _ = _
        rw [World.cell?_setCell_far _ _ _ _ (by show w1.heap.size + 1 + x ≠ bx; omega)]
        exact p1
      have p2 : W2.cell? ⟨bx, 2, none⟩ = some (.int .i64 (y : Int)) := by
        rw [← hW2]
        show (W1.setCell _ _).cell? _ = _
        rw [World.cell?_setCell_far _ _ _ _ (by show w1.heap.size + 1 + x ≠ bx; omega)]
        exact p2
      have o4 := hm2.out y hyn
      have o5 := (hm2.row y x hyn hxn).1
      have o6 := (hm2.row y x hyn hxn).2
      rw [if_neg (fun k => by omega)] at o5
      obtain ⟨A2, hA2⟩ : ∃ A2, M y x = A2 := ⟨_, rfl⟩
      rw [hA2] at o5
      have hAb2 := HR.out.2.1.bd y x
      rw [hA2] at hAb2
      have hw2 : IntKind.i64.wrap (A2 + 1) = A2 + 1 := by rw [IntKind.wrap_i64]; omega
      have HF : Hid (Mat ((W2.setCell ⟨w1.heap.size + 1 + y, x, none⟩ (.int .i64 (A2 + 1))).drew) w1.heap.size (fun i => w1.heap.size + 1 + i) n (addM (addM M x y 1) y x 1) ∧ Rm (addM (addM M x y 1) y x 1) n (j + 1) R ∧ Below w1.heap.size w1 ((W2.setCell ⟨w1.heap.size + 1 + y, x, none⟩ (.int .i64 (A2 + 1))).drew)) := by
        have h1 := HR.out.2.2.trans (HMA.out.2.1.mono HR.out.2.2.size)
        refine ⟨?_, HR.out.2.1.next HEX.out hxn hyn, ?_⟩
        · have h2 := (hm2.set hyn hxn (A2 + 1)).below (Below.refl _ _).drew
          have h3 : (fun i k => if i = y ∧ k = x then A2 + 1 else if i = x ∧ k = y then A + 1 else M i k) = addM (addM M x y 1) y x 1 := by
            funext i k
            unfold addM
            by_cases e1 : i = y ∧ k = x
            · rw [if_pos e1, if_pos e1, if_neg (fun e => by omega), e1.1, e1.2, hA2]
            · rw [if_neg e1, if_neg e1]
              by_cases e2 : i = x ∧ k = y
              · rw [if_pos e2, if_pos e2, e2.1, e2.2, HMA.out.2.2]
              · rw [if_neg e2, if_neg e2]
          rw [← h3]
          exact h2
        · have h4 : Below w1.heap.size w1 W2 := by rw [← hW2]; exact (h1.setCell (by show w1.heap.size ≤ w1.heap.size + 1 + x; omega) _).drew
          exact (h4.setCell (by show w1.heap.size ≤ w1.heap.size + 1 + y; omega) _).drew
      rw [hW2]
      have HW2 : Hid _ := hW2
      clear hm2 hA2 hW2 o1 o2 o3 HMA
      go_upto_region 9 with fail
      go_region
      have hbe := HBX.out
      subst hbe
      go_wp2_with fail
      go_roundw
      case rel => exact ⟨j + 1, _, by omega, by go_num, HF.out.1, HF.out.2.1, HF.out.2.2⟩
      case measure => simp [intOf]; omega
    · have hje : m = j := by omega
      subst hje
      have hbd : ∀ i k, 0 ≤ M i k ∧ M i k ≤ 1000 := fun i k => by have := HR.out.2.1.bd i k; omega
      have HC : Hid _ := allr_any w1.heap.size (fun i => w1.heap.size + 1 + i) n a b n most M wr HR.out.1 (by omega) ha hb (by omega) hbd
      have HCP : Hid (capM M n = fun S => ((R.filter (crs S)).length : Int)) := by
        funext S
        rw [HR.out.2.1.cap S, List.take_of_length_le (by rw [HMM.out]; exact Nat.le_refl _)]
      clear hbd
      go_wp2_with fail
      refine Calls.mono HC.out ?_
      rintro e w3 ⟨k, rfl, hvk, hka⟩
      rw [HCP.out] at hvk
      have HF : Hid (Val (fun S => ((R.filter (crs S)).length : Int)) a b most k ∧ Below w1.heap.size w1 w3) := ⟨hvk, HR.out.2.2.trans (hka.old HR.out.2.2.size (fun i _ => by omega))⟩
      clear hvk hka HC
      go_wp2_with fail
      go_ret2
      exact ⟨k, rfl, HF.out.1, HF.out.2⟩

end Go.Proofs.YtpkdpddillebfaaDoor.S
