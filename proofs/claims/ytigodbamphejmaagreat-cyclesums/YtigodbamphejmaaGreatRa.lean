/- Two rings at one node: the graph, its blocks and its cuts. -/
import Derived.Test.YtigodbamphejmaaGreatOa

namespace Go.Proofs.YtigodbamphejmaaGreat.S
open Go.RowKit Go.WideMaps Go.Maps

def RL : List (Int × Int × Int) := [(0, 0, 1), (1, 1, 2), (2, 0, 2), (3, 2, 3), (4, 3, 4), (5, 2, 4)]

theorem ring_add (i : Nat) (hi : i < 6) (id a b : Int) (he : RL[i]? = some (id, a, b)) (B p : Nat) (v : Value) (W : World) (h : G.GAt W B 76 49 p 5 v (RL.take i)) (hB : B ≤ W.heap.size) :
    Calls Tryz.prog 24 #[.pointer (some ⟨p, 0, none⟩), .int .i64 id, .int .i64 a, .int .i64 b] W fun e w' => e = .returned .nilIface ∧ G.Step1 W w' B 76 p 5 v (RL.take (i + 1)) := by
  have key : G.Up (RL.take i) ∧ (RL.take i).length < 120 ∧ G.InRange id a b 5 ∧ a ≠ b ∧ G.seen (RL.take i) id = none ∧ a = min a b ∧ b = max a b ∧ RL.take (i + 1) = G.putE (RL.take i) (id, a, b) := by
    rcases (show i = 0 ∨ i = 1 ∨ i = 2 ∨ i = 3 ∨ i = 4 ∨ i = 5 by omega) with rfl | rfl | rfl | rfl | rfl | rfl <;>
      (cases he; exact ⟨by unfold G.Up; decide, by decide, ⟨⟨by decide, by decide⟩, ⟨by decide, by decide⟩, ⟨by decide, by decide⟩⟩, by decide, by rfl, by decide, by decide, by rfl⟩)
  obtain ⟨k1, k2, k3, k4, k5, k6, k7, k8⟩ := key
  exact G.add_ok id a b 5 a b B p v (RL.take i) _ W h hB k1 k2 k3 k4 k5 k6 k7 k8

theorem ring_step {w0 w w' : World} {i : Nat} {v : Value} (h : G.GAt w w0.heap.size 76 49 w0.heap.size 5 v (RL.take i)) (hb : Below w0.heap.size w0 w) (s : G.Step1 w w' w0.heap.size 76 w0.heap.size 5 v (RL.take (i + 1))) :
    ∃ v', G.GAt w' w0.heap.size 76 49 w0.heap.size 5 v' (RL.take (i + 1)) ∧ Below w0.heap.size w0 w' := by
  obtain ⟨v', g, k, f⟩ := s
  exact ⟨v', g, below_kept' hb k (Nat.le_refl _) (fun j hj => (h.lt hj).1)⟩

theorem ring_ix0 (W : World) : (Instr.index 90 (.agg #[.int .i64 0, .int .i64 1, .int .i64 1, .int .i64 2, .int .i64 0, .int .i64 2, .int .i64 2, .int .i64 3, .int .i64 3, .int .i64 4, .int .i64 2, .int .i64 4]) (.int .i64 0)).run Tryz.prog W = .ok (.agg #[.int .i64 0, .int .i64 1]) W := by kernel_rfl
theorem ring_ix1 (W : World) : (Instr.index 90 (.agg #[.int .i64 0, .int .i64 1, .int .i64 1, .int .i64 2, .int .i64 0, .int .i64 2, .int .i64 2, .int .i64 3, .int .i64 3, .int .i64 4, .int .i64 2, .int .i64 4]) (.int .i64 1)).run Tryz.prog W = .ok (.agg #[.int .i64 1, .int .i64 2]) W := by kernel_rfl
theorem ring_ix2 (W : World) : (Instr.index 90 (.agg #[.int .i64 0, .int .i64 1, .int .i64 1, .int .i64 2, .int .i64 0, .int .i64 2, .int .i64 2, .int .i64 3, .int .i64 3, .int .i64 4, .int .i64 2, .int .i64 4]) (.int .i64 2)).run Tryz.prog W = .ok (.agg #[.int .i64 0, .int .i64 2]) W := by kernel_rfl
theorem ring_ix3 (W : World) : (Instr.index 90 (.agg #[.int .i64 0, .int .i64 1, .int .i64 1, .int .i64 2, .int .i64 0, .int .i64 2, .int .i64 2, .int .i64 3, .int .i64 3, .int .i64 4, .int .i64 2, .int .i64 4]) (.int .i64 3)).run Tryz.prog W = .ok (.agg #[.int .i64 2, .int .i64 3]) W := by kernel_rfl
theorem ring_ix4 (W : World) : (Instr.index 90 (.agg #[.int .i64 0, .int .i64 1, .int .i64 1, .int .i64 2, .int .i64 0, .int .i64 2, .int .i64 2, .int .i64 3, .int .i64 3, .int .i64 4, .int .i64 2, .int .i64 4]) (.int .i64 4)).run Tryz.prog W = .ok (.agg #[.int .i64 3, .int .i64 4]) W := by kernel_rfl
theorem ring_ix5 (W : World) : (Instr.index 90 (.agg #[.int .i64 0, .int .i64 1, .int .i64 1, .int .i64 2, .int .i64 0, .int .i64 2, .int .i64 2, .int .i64 3, .int .i64 3, .int .i64 4, .int .i64 2, .int .i64 4]) (.int .i64 5)).run Tryz.prog W = .ok (.agg #[.int .i64 2, .int .i64 4]) W := by kernel_rfl

set_option maxHeartbeats 2000000 in
set_option maxRecDepth 100000 in
theorem rings_any (w : World) : Calls Tryz.prog 21 #[] w fun e w' => ∃ v, e = .returned (.pointer (some ⟨w.heap.size, 0, none⟩)) ∧ G.GAt w' w.heap.size 76 49 w.heap.size 5 v RL ∧ Below w.heap.size w w' := by
  go_enter Tryz.func21, Tryz.ntmps21
  go_wp2_with fail
  refine (G.new_in 5 w (by omega) (by omega)).mono ?_
  rintro e w1 ⟨rfl, rfl⟩
  have HS : Hid (G.GAt (w.alloc (.cells #[.int .i64 5, .slice none 0 0] 76)) w.heap.size 76 49 w.heap.size 5 (.slice none 0 0) [] ∧ Below w.heap.size w (w.alloc (.cells #[.int .i64 5, .slice none 0 0] 76))) :=
    ⟨⟨heap_alloc_new w _, World.ownsRow_nil _ _ _ _, fun e => by cases e⟩, (Below.refl _ _).alloc (Nat.le_refl _) _⟩
  go_wp2_with fail
  go_loopw [22] (fun s22 wq => ∃ (i : Nat) (v : Value), i ≤ 6 ∧ s22 = .int .i64 i ∧ G.GAt wq w.heap.size 76 49 w.heap.size 5 v (RL.take i) ∧ Below w.heap.size w wq) (fun s22 _ => 6 - (intOf s22).toNat)
  case atStart => exact ⟨0, _, by omega, rfl, HS.out.1, HS.out.2⟩
  case round =>
    clear HS
    obtain ⟨i, v, hi, rfl, hg, hb⟩ := hrel
    by_cases hlt : i < 6
    · rcases (show i = 0 ∨ i = 1 ∨ i = 2 ∨ i = 3 ∨ i = 4 ∨ i = 5 by omega) with rfl | rfl | rfl | rfl | rfl | rfl
      · as_aux_lemma =>
        have ix := ring_ix0
        have HG : Hid (G.GAt wr w.heap.size 76 49 w.heap.size 5 v (RL.take 0) ∧ Below w.heap.size w wr) := ⟨hg, hb⟩
        clear hg hb
        go_wp2_with fail
        refine (ring_add 0 (by omega) 0 0 1 rfl w.heap.size w.heap.size v _ (HG.out.1.below ((Below.refl _ _).alloc (Nat.le_refl _) _)) (Nat.le_trans HG.out.2.size ((Below.refl _ _).alloc (Nat.le_refl _) _).size)).mono ?_
        rintro e w2 ⟨rfl, hst⟩
        obtain ⟨v', hg', hb'⟩ := ring_step (HG.out.1.below ((Below.refl _ _).alloc (Nat.le_refl _) _)) (HG.out.2.alloc HG.out.2.size _) hst
        have HF : Hid (G.GAt w2 w.heap.size 76 49 w.heap.size 5 v' (RL.take 1) ∧ Below w.heap.size w w2) := ⟨hg', hb'⟩
        clear hst hg' hb' HG ix
        go_wp2_with fail
        go_roundw
        case rel => exact ⟨1, v', by omega, by go_num, HF.out.1, HF.out.2⟩
        case measure => simp [intOf]; try omega
      · as_aux_lemma =>
        have ix := ring_ix1
        have HG : Hid (G.GAt wr w.heap.size 76 49 w.heap.size 5 v (RL.take 1) ∧ Below w.heap.size w wr) := ⟨hg, hb⟩
        clear hg hb
        go_wp2_with fail
        refine (ring_add 1 (by omega) 1 1 2 rfl w.heap.size w.heap.size v _ (HG.out.1.below ((Below.refl _ _).alloc (Nat.le_refl _) _)) (Nat.le_trans HG.out.2.size ((Below.refl _ _).alloc (Nat.le_refl _) _).size)).mono ?_
        rintro e w2 ⟨rfl, hst⟩
        obtain ⟨v', hg', hb'⟩ := ring_step (HG.out.1.below ((Below.refl _ _).alloc (Nat.le_refl _) _)) (HG.out.2.alloc HG.out.2.size _) hst
        have HF : Hid (G.GAt w2 w.heap.size 76 49 w.heap.size 5 v' (RL.take 2) ∧ Below w.heap.size w w2) := ⟨hg', hb'⟩
        clear hst hg' hb' HG ix
        go_wp2_with fail
        go_roundw
        case rel => exact ⟨2, v', by omega, by go_num, HF.out.1, HF.out.2⟩
        case measure => simp [intOf]; try omega
      · as_aux_lemma =>
        have ix := ring_ix2
        have HG : Hid (G.GAt wr w.heap.size 76 49 w.heap.size 5 v (RL.take 2) ∧ Below w.heap.size w wr) := ⟨hg, hb⟩
        clear hg hb
        go_wp2_with fail
        refine (ring_add 2 (by omega) 2 0 2 rfl w.heap.size w.heap.size v _ (HG.out.1.below ((Below.refl _ _).alloc (Nat.le_refl _) _)) (Nat.le_trans HG.out.2.size ((Below.refl _ _).alloc (Nat.le_refl _) _).size)).mono ?_
        rintro e w2 ⟨rfl, hst⟩
        obtain ⟨v', hg', hb'⟩ := ring_step (HG.out.1.below ((Below.refl _ _).alloc (Nat.le_refl _) _)) (HG.out.2.alloc HG.out.2.size _) hst
        have HF : Hid (G.GAt w2 w.heap.size 76 49 w.heap.size 5 v' (RL.take 3) ∧ Below w.heap.size w w2) := ⟨hg', hb'⟩
        clear hst hg' hb' HG ix
        go_wp2_with fail
        go_roundw
        case rel => exact ⟨3, v', by omega, by go_num, HF.out.1, HF.out.2⟩
        case measure => simp [intOf]; try omega
      · as_aux_lemma =>
        have ix := ring_ix3
        have HG : Hid (G.GAt wr w.heap.size 76 49 w.heap.size 5 v (RL.take 3) ∧ Below w.heap.size w wr) := ⟨hg, hb⟩
        clear hg hb
        go_wp2_with fail
        refine (ring_add 3 (by omega) 3 2 3 rfl w.heap.size w.heap.size v _ (HG.out.1.below ((Below.refl _ _).alloc (Nat.le_refl _) _)) (Nat.le_trans HG.out.2.size ((Below.refl _ _).alloc (Nat.le_refl _) _).size)).mono ?_
        rintro e w2 ⟨rfl, hst⟩
        obtain ⟨v', hg', hb'⟩ := ring_step (HG.out.1.below ((Below.refl _ _).alloc (Nat.le_refl _) _)) (HG.out.2.alloc HG.out.2.size _) hst
        have HF : Hid (G.GAt w2 w.heap.size 76 49 w.heap.size 5 v' (RL.take 4) ∧ Below w.heap.size w w2) := ⟨hg', hb'⟩
        clear hst hg' hb' HG ix
        go_wp2_with fail
        go_roundw
        case rel => exact ⟨4, v', by omega, by go_num, HF.out.1, HF.out.2⟩
        case measure => simp [intOf]; try omega
      · as_aux_lemma =>
        have ix := ring_ix4
        have HG : Hid (G.GAt wr w.heap.size 76 49 w.heap.size 5 v (RL.take 4) ∧ Below w.heap.size w wr) := ⟨hg, hb⟩
        clear hg hb
        go_wp2_with fail
        refine (ring_add 4 (by omega) 4 3 4 rfl w.heap.size w.heap.size v _ (HG.out.1.below ((Below.refl _ _).alloc (Nat.le_refl _) _)) (Nat.le_trans HG.out.2.size ((Below.refl _ _).alloc (Nat.le_refl _) _).size)).mono ?_
        rintro e w2 ⟨rfl, hst⟩
        obtain ⟨v', hg', hb'⟩ := ring_step (HG.out.1.below ((Below.refl _ _).alloc (Nat.le_refl _) _)) (HG.out.2.alloc HG.out.2.size _) hst
        have HF : Hid (G.GAt w2 w.heap.size 76 49 w.heap.size 5 v' (RL.take 5) ∧ Below w.heap.size w w2) := ⟨hg', hb'⟩
        clear hst hg' hb' HG ix
        go_wp2_with fail
        go_roundw
        case rel => exact ⟨5, v', by omega, by go_num, HF.out.1, HF.out.2⟩
        case measure => simp [intOf]; try omega
      · as_aux_lemma =>
        have ix := ring_ix5
        have HG : Hid (G.GAt wr w.heap.size 76 49 w.heap.size 5 v (RL.take 5) ∧ Below w.heap.size w wr) := ⟨hg, hb⟩
        clear hg hb
        go_wp2_with fail
        refine (ring_add 5 (by omega) 5 2 4 rfl w.heap.size w.heap.size v _ (HG.out.1.below ((Below.refl _ _).alloc (Nat.le_refl _) _)) (Nat.le_trans HG.out.2.size ((Below.refl _ _).alloc (Nat.le_refl _) _).size)).mono ?_
        rintro e w2 ⟨rfl, hst⟩
        obtain ⟨v', hg', hb'⟩ := ring_step (HG.out.1.below ((Below.refl _ _).alloc (Nat.le_refl _) _)) (HG.out.2.alloc HG.out.2.size _) hst
        have HF : Hid (G.GAt w2 w.heap.size 76 49 w.heap.size 5 v' (RL.take 6) ∧ Below w.heap.size w w2) := ⟨hg', hb'⟩
        clear hst hg' hb' HG ix
        go_wp2_with fail
        go_roundw
        case rel => exact ⟨6, v', by omega, by go_num, HF.out.1, HF.out.2⟩
        case measure => simp [intOf]; try omega
    · as_aux_lemma =>
      have hie : i = 6 := by omega
      subst hie
      have HG : Hid (G.GAt wr w.heap.size 76 49 w.heap.size 5 v RL ∧ Below w.heap.size w wr) := ⟨hg, hb⟩
      clear hg hb
      go_wp2_with fail
      go_ret
      exact ⟨v, rfl, HG.out⟩

end Go.Proofs.YtigodbamphejmaaGreat.S
