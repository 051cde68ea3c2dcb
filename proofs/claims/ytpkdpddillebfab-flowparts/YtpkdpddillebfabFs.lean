/- A ring of four: the fact that three laws ask for first. -/
import Derived.Test.YtpkdpddillebfabFr
import Derived.Test.YtpkdpddillebfabXf
namespace Go.Proofs.Ytpkdpddillebfab.S
open Go Go.ChangeMaps Go.MapKept Go.WideShapes
open Go.RowKit Go.WideMaps Go.Maps F

def R4 : List (Int × Int × Int) := [(0, 0, 1), (1, 1, 2), (2, 2, 3), (3, 0, 3)]

theorem four_add (i : Nat) (hi : i < 4) (id a b lo hi' : Int) (he : R4[i]? = some (id, lo, hi')) (ha : lo = min a b) (hb : hi' = max a b) (hne : a ≠ b) (hr : G.InRange id a b 4) (B p : Nat) (v : Value) (W : World) (h : G.GAt W B 58 36 p 4 v (R4.take i)) (hB : B ≤ W.heap.size) :
    Calls Try.prog 20 #[.pointer (some ⟨p, 0, none⟩), .int .i64 id, .int .i64 a, .int .i64 b] W fun e w' => e = .returned .nilIface ∧ G.Step1 W w' B 58 p 4 v (R4.take (i + 1)) := by
  have key : G.Up (R4.take i) ∧ (R4.take i).length < 120 ∧ G.seen (R4.take i) id = none ∧ R4.take (i + 1) = G.putE (R4.take i) (id, lo, hi') := by
    rcases (show i = 0 ∨ i = 1 ∨ i = 2 ∨ i = 3 by omega) with rfl | rfl | rfl | rfl <;>
      (cases he; exact ⟨by unfold G.Up; decide, by decide, by rfl, by rfl⟩)
  obtain ⟨k1, k2, k3, k4⟩ := key
  exact G.add_ok id a b 4 lo hi' B p v (R4.take i) _ W h hB k1 k2 hr hne k3 ha hb k4

theorem four_step {w0 w w' : World} {i : Nat} {v : Value} (h : G.GAt w w0.heap.size 58 36 w0.heap.size 4 v (R4.take i)) (hb : Below w0.heap.size w0 w) (s : G.Step1 w w' w0.heap.size 58 w0.heap.size 4 v (R4.take (i + 1))) :
    ∃ v', G.GAt w' w0.heap.size 58 36 w0.heap.size 4 v' (R4.take (i + 1)) ∧ Below w0.heap.size w0 w' := by
  obtain ⟨v', g, k, f⟩ := s
  exact ⟨v', g, below_kept' hb k (Nat.le_refl _) (fun j hj => (h.lt hj).1)⟩

theorem ed_R4 : Ed 4 50 R4 := by
  refine ⟨by unfold G.Up; decide, by decide, fun e he => ?_, by decide⟩
  simp only [R4, List.mem_cons, List.not_mem_nil, or_false] at he
  rcases he with rfl | rfl | rfl | rfl
  · exact ⟨0, 1, by omega, by omega, rfl⟩
  · exact ⟨1, 2, by omega, by omega, rfl⟩
  · exact ⟨2, 3, by omega, by omega, rfl⟩
  · exact ⟨0, 3, by omega, by omega, rfl⟩

theorem inn_R4 : Inn 4 R4 := fun e he => by
  obtain ⟨x, y, hxy, hy, e1⟩ := ed_R4.ends e he
  have ha : ea e = x := by rw [e1]; simp [ea]
  have hb : eb e = y := by rw [e1]; simp [eb]
  rw [ha, hb]
  refine ⟨by omega, hy, ?_, ?_⟩ <;> rw [e1]

def P4 (a b : Nat) : Bool := (List.range 4).any fun x => (List.range 4).any fun y => ((lab1 4 R4 a).getD x 0 == (lab1 4 R4 a).getD y 0) && ((lab1 4 R4 b).getD x 0 == (lab1 4 R4 b).getD y 0) && !((lab2 4 R4 a b).getD x 0 == (lab2 4 R4 a b).getD y 0)

theorem P4_iff (a b : Nat) : P4 a b = true ↔ PartP R4 4 a b := by
  rw [part_labels inn_R4]
  unfold P4
  simp only [List.any_eq_true, List.mem_range, Bool.and_eq_true, beq_iff_eq, Bool.not_eq_true', beq_eq_false_iff_ne]
  constructor
  · rintro ⟨x, hx, y, hy, ⟨h1, h2⟩, h3⟩; exact ⟨x, y, hx, hy, h1, h2, h3⟩
  · rintro ⟨x, y, hx, hy, h1, h2, h3⟩; exact ⟨x, hx, y, hy, ⟨h1, h2⟩, h3⟩

theorem all_P4 : allK P4 4 4 = [(0, 2), (1, 3)] := by decide +kernel

theorem two_ways {k : Nat} (h : Val (cap (lD (edS R4)) (lr (edS R4))) ((0 : Nat) : Int) ((2 : Nat) : Int) ((9 : Nat) : Int) k) : k = 2 := by
  have hc : ∀ S : Int → Bool, S 0 = true → S 2 = false → cap (lD (edS R4)) (lr (edS R4)) S = 2 := fun S h0 h2 => by
    rw [cap_edS ed_R4]
    simp only [R4, List.filter, crs, h0, h2]
    cases S 1 <;> cases S 3 <;> rfl
  have h2 : Val (cap (lD (edS R4)) (lr (edS R4))) ((0 : Nat) : Int) ((2 : Nat) : Int) ((9 : Nat) : Int) 2 :=
    ⟨by omega, by omega, fun S h1 h2 => by rw [hc S h1 h2]; omega, .inr ⟨fun x => decide (x = 0), by simp, by simp, hc _ (by simp) (by simp)⟩⟩
  have := val_unique h h2
  omega

theorem one_way {k : Nat} (h : Val (cap (lD (noS 4 R4)) (lr (noS 4 R4))) (2 * ((0 : Nat) : Int) + 1) (2 * ((2 : Nat) : Int)) ((1 : Nat) : Int) k) : k = 1 := by
  have h2 : Val (cap (lD (noS 4 R4)) (lr (noS 4 R4))) (2 * ((0 : Nat) : Int) + 1) (2 * ((2 : Nat) : Int)) ((1 : Nat) : Int) 1 := by
    refine ⟨by omega, by omega, fun S h1 h2 => ?_, .inl rfl⟩
    have h1 : S 1 = true := h1
    have h2 : S 4 = false := h2
    rw [cap_noS ed_R4]
    have hN : ∀ x : Nat, x < 4 → nin S x = true → 0 < ((List.range 4).filter (nin S)).length := fun x hx hn => List.length_pos_of_mem (List.mem_filter.2 ⟨List.mem_range.2 hx, hn⟩)
    have hE : ∀ d, d ∈ R4.flatMap two → ein S d = true → 0 < ((R4.flatMap two).filter (ein S)).length := fun d hd he => List.length_pos_of_mem (List.mem_filter.2 ⟨hd, he⟩)
    cases q2 : S 2 with
    | false =>
      have := hE (0, 1) (by decide) (by show (S 1 && !S 2) = true; rw [h1, q2]; rfl)
      omega
    | true =>
      cases q3 : S 3 with
      | false =>
        have := hN 1 (by omega) (by show (S 2 && !S 3) = true; rw [q2, q3]; rfl)
        omega
      | true =>
        have := hE (1, 2) (by decide) (by show (S 3 && !S 4) = true; rw [q3, h2]; rfl)
        omega
  have := val_unique h h2
  omega

set_option maxHeartbeats 4000000 in
set_option maxRecDepth 100000 in
theorem parted_any (w : World) : Calls Try.prog 5 #[] w fun e w' => e = .returned (.bool true) ∧ Below w.heap.size w w' := by
  go_enter Try.func5, Try.ntmps5
  go_wp2_with fail
  refine (G.new_in 4 w (by omega) (by omega)).mono ?_
  rintro e w1 ⟨rfl, rfl⟩
  have HS : Hid (G.GAt (w.alloc (.cells #[.int .i64 4, .slice none 0 0] 58)) w.heap.size 58 36 w.heap.size 4 (.slice none 0 0) [] ∧ Below w.heap.size w (w.alloc (.cells #[.int .i64 4, .slice none 0 0] 58))) :=
    ⟨⟨heap_alloc_new w _, World.ownsRow_nil _ _ _ _, fun e => by cases e⟩, (Below.refl _ _).alloc (Nat.le_refl _) _⟩
  go_wp2_with fail
  go_loopw [3] (fun s3 wq => ∃ (i : Nat) (v : Value), i ≤ 4 ∧ s3 = .int .i64 i ∧ G.GAt wq w.heap.size 58 36 w.heap.size 4 v (R4.take i) ∧ Below w.heap.size w wq) (fun s3 _ => 4 - (intOf s3).toNat)
  case atStart => exact ⟨0, _, by omega, rfl, HS.out.1, HS.out.2⟩
  case round =>
    clear HS
    obtain ⟨i, v, hi, rfl, hg, hb⟩ := hrel
    by_cases hlt : i < 4
    · rcases (show i = 0 ∨ i = 1 ∨ i = 2 ∨ i = 3 by omega) with rfl | rfl | rfl | rfl
      · as_aux_lemma =>
        have HG : Hid (G.GAt wr w.heap.size 58 36 w.heap.size 4 v (R4.take 0) ∧ Below w.heap.size w wr) := ⟨hg, hb⟩
        clear hg hb
        go_wp2_with fail
        refine (four_add 0 (by omega) 0 0 1 0 1 rfl (by decide) (by decide) (by decide) ⟨⟨by decide, by decide⟩, ⟨by decide, by decide⟩, ⟨by decide, by decide⟩⟩ w.heap.size w.heap.size v _ HG.out.1 HG.out.2.size).mono ?_
        rintro e w2 ⟨rfl, hst⟩
        obtain ⟨v', hg', hb'⟩ := four_step HG.out.1 HG.out.2 hst
        have HF : Hid (G.GAt w2 w.heap.size 58 36 w.heap.size 4 v' (R4.take 1) ∧ Below w.heap.size w w2) := ⟨hg', hb'⟩
        clear hst hg' hb' HG
        go_wp2_with fail
        go_roundw
        case rel => exact ⟨1, v', by omega, by go_num, HF.out.1, HF.out.2⟩
        case measure => simp [intOf]; try omega
      · as_aux_lemma =>
        have HG : Hid (G.GAt wr w.heap.size 58 36 w.heap.size 4 v (R4.take 1) ∧ Below w.heap.size w wr) := ⟨hg, hb⟩
        clear hg hb
        go_wp2_with fail
        refine (four_add 1 (by omega) 1 1 2 1 2 rfl (by decide) (by decide) (by decide) ⟨⟨by decide, by decide⟩, ⟨by decide, by decide⟩, ⟨by decide, by decide⟩⟩ w.heap.size w.heap.size v _ HG.out.1 HG.out.2.size).mono ?_
        rintro e w2 ⟨rfl, hst⟩
        obtain ⟨v', hg', hb'⟩ := four_step HG.out.1 HG.out.2 hst
        have HF : Hid (G.GAt w2 w.heap.size 58 36 w.heap.size 4 v' (R4.take 2) ∧ Below w.heap.size w w2) := ⟨hg', hb'⟩
        clear hst hg' hb' HG
        go_wp2_with fail
        go_roundw
        case rel => exact ⟨2, v', by omega, by go_num, HF.out.1, HF.out.2⟩
        case measure => simp [intOf]; try omega
      · as_aux_lemma =>
        have HG : Hid (G.GAt wr w.heap.size 58 36 w.heap.size 4 v (R4.take 2) ∧ Below w.heap.size w wr) := ⟨hg, hb⟩
        clear hg hb
        go_wp2_with fail
        refine (four_add 2 (by omega) 2 2 3 2 3 rfl (by decide) (by decide) (by decide) ⟨⟨by decide, by decide⟩, ⟨by decide, by decide⟩, ⟨by decide, by decide⟩⟩ w.heap.size w.heap.size v _ HG.out.1 HG.out.2.size).mono ?_
        rintro e w2 ⟨rfl, hst⟩
        obtain ⟨v', hg', hb'⟩ := four_step HG.out.1 HG.out.2 hst
        have HF : Hid (G.GAt w2 w.heap.size 58 36 w.heap.size 4 v' (R4.take 3) ∧ Below w.heap.size w w2) := ⟨hg', hb'⟩
        clear hst hg' hb' HG
        go_wp2_with fail
        go_roundw
        case rel => exact ⟨3, v', by omega, by go_num, HF.out.1, HF.out.2⟩
        case measure => simp [intOf]; try omega
      · as_aux_lemma =>
        have HG : Hid (G.GAt wr w.heap.size 58 36 w.heap.size 4 v (R4.take 3) ∧ Below w.heap.size w wr) := ⟨hg, hb⟩
        clear hg hb
        go_wp2_with fail
        refine (four_add 3 (by omega) 3 3 0 0 3 rfl (by decide) (by decide) (by decide) ⟨⟨by decide, by decide⟩, ⟨by decide, by decide⟩, ⟨by decide, by decide⟩⟩ w.heap.size w.heap.size v _ HG.out.1 HG.out.2.size).mono ?_
        rintro e w2 ⟨rfl, hst⟩
        obtain ⟨v', hg', hb'⟩ := four_step HG.out.1 HG.out.2 hst
        have HF : Hid (G.GAt w2 w.heap.size 58 36 w.heap.size 4 v' (R4.take 4) ∧ Below w.heap.size w w2) := ⟨hg', hb'⟩
        clear hst hg' hb' HG
        go_wp2_with fail
        go_roundw
        case rel => exact ⟨4, v', by omega, by go_num, HF.out.1, HF.out.2⟩
        case measure => simp [intOf]; try omega
    · have hie : i = 4 := by omega
      subst hie
      have HG : Hid (G.GAt wr w.heap.size 58 36 w.heap.size 4 v R4 ∧ Below w.heap.size w wr) := ⟨hg, hb⟩
      clear hg hb hlt hi
      go_wp2_with fail
      refine (spairs_any 4 w.heap.size w.heap.size v R4 P4 wr HG.out.1 (by omega) inn_R4 (by decide) (fun a b _ _ => P4_iff a b)).mono ?_
      rintro e w2 ⟨u2, rfl, ho2, hb2⟩
      rw [all_P4] at ho2
      have HO2 : Hid (OwnsP w2 wr.heap.size u2 [(0, 2), (1, 3)]) := ho2
      have HG2 : Hid (G.GAt w2 w.heap.size 58 36 w.heap.size 4 v R4 ∧ Below w.heap.size w w2) := ⟨HG.out.1.below hb2, HG.out.2.trans (hb2.mono HG.out.2.size)⟩
      clear ho2 hb2 HG
      go_wp2_with fail
      refine (flowEdges_any 4 w.heap.size w.heap.size 0 2 9 v R4 w2 HG2.out.1 (by omega) ed_R4 (by omega) (by omega) (by omega) (by omega)).mono ?_
      rintro e w3 ⟨k, rfl, hk, hb3⟩
      have hk2 := two_ways hk
      subst hk2
      have HG3 : Hid (G.GAt w3 w.heap.size 58 36 w.heap.size 4 v R4 ∧ Below w.heap.size w w3 ∧ OwnsP w3 wr.heap.size u2 [(0, 2), (1, 3)]) := ⟨HG2.out.1.below hb3, HG2.out.2.trans (hb3.mono HG2.out.2.size), HO2.out.below hb3⟩
      clear hk hb3 HG2 HO2
      go_wp2_with fail
      refine (flowNodes_any 4 w.heap.size w.heap.size 0 2 1 v R4 w3 HG3.out.1 (by omega) ed_R4 (by omega) (by omega) (by omega) (by omega)).mono ?_
      rintro e w4 ⟨k, rfl, hk, hb4⟩
      have hk1 := one_way hk
      subst hk1
      obtain ⟨a5, c5, rfl, h5⟩ := (HG3.out.2.2.below hb4).shape
      obtain ⟨g5, rfl, h6⟩ := h5 (by simp)
      obtain ⟨q0, q1⟩ := h6 0 (0, 2) rfl
      obtain ⟨q2, q3⟩ := h6 1 (1, 3) rfl
      have HB : Hid (Below w.heap.size w w4) := HG3.out.2.1.trans (hb4.mono HG3.out.2.1.size)
      simp at q0 q1 q2 q3
      clear hk hb4 HG3 h5 h6
      go_wp2_with fail
      go_ret
      exact ⟨rfl, HB.out⟩

end Go.Proofs.Ytpkdpddillebfab.S
