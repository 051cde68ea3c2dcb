/- SplitPairs: two rows of pairs are alike; the law's walk. -/
import Derived.Test.YtigodbamphejmaaXf
import Derived.Test.YtigodbamphejmaaXg
import Derived.Test.YtigodbamphejmaaLe
namespace Go.Proofs.Ytigodbamphejmaa.S
open Go.RowKit Go.WideMaps Go.Maps

set_option maxHeartbeats 2000000 in
set_option maxRecDepth 100000 in
theorem samePairs_any (a1 a2 : Option Addr) (c1 c2 : Nat) (M : List (Nat × Nat)) (w : World) (hM : M.length ≤ 1000)
    (h1 : 0 < M.length → ∃ g, a1 = some ⟨g, 0, none⟩ ∧ ∀ j x, M[j]? = some x → w.cell? ⟨g, j * 2, none⟩ = some (.int .i64 (x.1 : Int)) ∧ w.cell? ⟨g, j * 2 + 1, none⟩ = some (.int .i64 (x.2 : Int)))
    (h2 : 0 < M.length → ∃ g, a2 = some ⟨g, 0, none⟩ ∧ ∀ j x, M[j]? = some x → w.cell? ⟨g, j * 2, none⟩ = some (.int .i64 (x.1 : Int)) ∧ w.cell? ⟨g, j * 2 + 1, none⟩ = some (.int .i64 (x.2 : Int))) :
    Calls Try.prog 34 #[.slice a1 M.length c1, .slice a2 M.length c2] w fun e w' => e = .returned (.bool true) ∧ ∃ n, w' = w.drewN n := by
  have H1 : Hid (0 < M.length → ∃ g, a1 = some ⟨g, 0, none⟩ ∧ ∀ j x, M[j]? = some x → w.cell? ⟨g, j * 2, none⟩ = some (.int .i64 (x.1 : Int)) ∧ w.cell? ⟨g, j * 2 + 1, none⟩ = some (.int .i64 (x.2 : Int))) := h1
  have H2 : Hid (0 < M.length → ∃ g, a2 = some ⟨g, 0, none⟩ ∧ ∀ j x, M[j]? = some x → w.cell? ⟨g, j * 2, none⟩ = some (.int .i64 (x.1 : Int)) ∧ w.cell? ⟨g, j * 2 + 1, none⟩ = some (.int .i64 (x.2 : Int))) := h2
  obtain ⟨m, hm⟩ : ∃ m, M.length = m := ⟨_, rfl⟩
  have HM : Hid (M.length = m) := hm
  rw [hm] at H1 H2 hM ⊢
  clear h1 h2 hm
  go_enter Try.func34, Try.ntmps34
  go_wp2_with fail
  go_loopw [5] (fun s5 wq => ∃ k t : Nat, k ≤ m ∧ s5 = .int .i64 k ∧ wq = w.drewN t) (fun s5 _ => m - (intOf s5).toNat)
  case atStart => exact ⟨0, 0, Nat.zero_le _, rfl, rfl⟩
  case round =>
    obtain ⟨k, t, hk, rfl, rfl⟩ := hrel
    by_cases hlt : k < m
    · as_aux_lemma =>
      obtain ⟨x, hx⟩ : ∃ x, M[k]? = some x := ⟨_, List.getElem?_eq_getElem (by rw [HM.out]; exact hlt)⟩
      obtain ⟨g1, rfl, hc1⟩ := H1.out (by omega)
      obtain ⟨g2, rfl, hc2⟩ := H2.out (by omega)
      obtain ⟨p1, p2⟩ := hc1 k x hx
      obtain ⟨q1, q2⟩ := hc2 k x hx
      obtain ⟨xa, xb⟩ := x
      simp only at p1 p2 q1 q2
      clear hc1 hc2 hx
      go_upto_region 6 with fail
      go_quiet (fail)
      go_wp2_with fail
      go_roundw
      case rel => exact ⟨k + 1, t + nq, by omega, by go_num, rfl⟩
      case measure => simp [intOf]; omega
    · as_aux_lemma =>
      have hke : k = m := by omega
      go_wp2_with fail
      go_ret
      exact ⟨rfl, t, rfl⟩

theorem splits_out (n0 : Int) (a : Option Addr) (m cap : Nat) (w : World) (h : n0 < 0 ∨ 16 < n0 ∨ 60 < m) :
    Calls Try.prog 6 #[.int .i64 n0, .slice a m cap] w fun e w' => e = .returned (.bool true) ∧ Below w.heap.size w w' := by
  have H : Hid _ := lmade_out n0 a m cap w h
  clear h
  go_enter Try.func6, Try.ntmps6
  go_wp2_with fail
  refine Calls.mono H.out ?_
  rintro e w1 ⟨rfl, hb⟩
  have HB : Hid (Below w.heap.size w w1) := hb
  clear hb
  go_wp2_with fail
  go_ret
  exact ⟨rfl, HB.out⟩

theorem inn_ed {n M : Nat} {L : List (Int × Int × Int)} (h : Ed n M L) : Inn n L := fun e he => by
  obtain ⟨x, y, hxy, hy, e1⟩ := h.ends e he
  have ha : ea e = x := by rw [e1]; simp [ea]
  have hb : eb e = y := by rw [e1]; simp [eb]
  rw [ha, hb]
  refine ⟨by omega, hy, ?_, ?_⟩ <;> rw [e1]

theorem inn_perm {n : Nat} {R L : List (Int × Int × Int)} (hp : R.Perm L) (h : Inn n L) : Inn n R := fun e he => h e (hp.mem_iff.1 he)

theorem part_perm {n a b : Nat} {R L : List (Int × Int × Int)} (hp : R.Perm L) : PartP L n a b ↔ PartP R n a b := by
  have hm : ∀ e, e ∈ L ↔ e ∈ R := fun e => hp.mem_iff.symm
  unfold PartP
  simp only [cnw_congr (S := [a]) (S' := [a]) hm (fun _ => Iff.rfl), cnw_congr (S := [b]) (S' := [b]) hm (fun _ => Iff.rfl), cnw_congr (S := [a, b]) (S' := [a, b]) hm (fun _ => Iff.rfl)]

theorem splits_in (n : Nat) (a : Option Addr) (bl off m cap : Nat) (ps : Nat → Int × Int) (w : World) (hn : n ≤ 16) (hm : m ≤ 60) (ha : 0 < m → a = some ⟨bl, off, none⟩) (hp : PairsAt w bl off m ps) (hbl : 0 < m → bl < w.heap.size) :
    Calls Try.prog 6 #[.int .i64 (n : Int), .slice a m cap] w fun e w' => e = .returned (.bool true) ∧ Below w.heap.size w w' := by
  have H : Hid _ := lmade_in n a bl off m cap ps w hn hm ha hp hbl
  clear ha hp hbl
  go_enter Try.func6, Try.ntmps6
  go_wp2_with fail
  refine Calls.mono H.out ?_
  rintro e w1 ⟨p, q, v, u, R, L, rfl, hmk⟩
  have HM : Hid (Mk w w1 p q n m v u R L) := hmk
  obtain ⟨P, hP⟩ : ∃ P : Nat → Nat → Bool, ∀ a b, P a b = true ↔ PartP L n a b := ⟨fun a b => @decide _ (Classical.propDecidable (PartP L n a b)), fun a b => by simp⟩
  have HP : Hid (∀ a b, P a b = true ↔ PartP L n a b) := hP
  have HIN : Hid (Inn n L) := inn_ed (hmk.ed hm)
  have HLL : Hid (L.length ≤ 60) := Nat.le_trans hmk.len hm
  clear hmk hP H
  go_wp2_with fail
  refine (spairs_any n w.heap.size p v L P w1 HM.out.two.ga hn HIN.out (by have := HLL.out; omega) (fun a b _ _ => HP.out a b)).mono ?_
  rintro e w2 ⟨u2, rfl, ho2, hb2⟩
  have HO2 : Hid (OwnsP w2 w1.heap.size u2 (allK P n n) ∧ Below w1.heap.size w1 w2) := ⟨ho2, hb2⟩
  clear ho2 hb2
  go_wp2_with fail
  refine (splits_any n w.heap.size q u R P w2 (HM.out.two.ra.below HO2.out.2) hn (inn_perm HM.out.inv.perm HIN.out) (by have := HLL.out; rw [HM.out.inv.perm.length_eq]; omega) (fun a b _ _ => (HP.out a b).trans (part_perm HM.out.inv.perm))).mono ?_
  rintro e w3 ⟨u3, rfl, ho3, hb3⟩
  obtain ⟨a2, c2, rfl, hc2⟩ := (HO2.out.1.below hb3).shape
  obtain ⟨a3, c3, rfl, hc3⟩ := ho3.shape
  have HB3 : Hid (Below w.heap.size w w3) := by
    have h1 := HM.out.two.below
    have h2 := HO2.out.2
    exact (h1.trans (h2.mono h1.size)).trans (hb3.mono (Nat.le_trans h1.size h2.size))
  have HC : Hid (Calls Try.prog 34 #[.slice a2 (allK P n n).length c2, .slice a3 (allK P n n).length c3] w3 fun e w' => e = .returned (.bool true) ∧ ∃ n, w' = w3.drewN n) := by
    refine samePairs_any a2 a3 c2 c3 (allK P n n) w3 ?_ hc2 hc3
    have h1 := allK_len P (n := n) (a := n)
    have h3 : n * n ≤ 16 * 16 := Nat.mul_le_mul hn hn
    omega
  obtain ⟨ll, hll⟩ : ∃ ll, (allK P n n).length = ll := ⟨_, rfl⟩
  rw [hll] at HC ⊢
  clear ho3 hc2 hc3 hb3 HO2 hll
  go_wp2_with fail
  refine Calls.mono HC.out ?_
  rintro e w4 ⟨rfl, k4, hw4⟩
  have HB4 : Hid (Below w.heap.size w w4) := by rw [hw4]; exact below_drewN HB3.out k4
  clear hw4
  go_wp2_with fail
  go_ret
  exact ⟨rfl, HB4.out⟩

end Go.Proofs.Ytigodbamphejmaa.S
