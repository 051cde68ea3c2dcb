/- The contract of package block's without: which nodes are together without all edges of one. -/
import Derived.Test.YtigodbamphejmaaOa
import Derived.Test.YtigodbamphejmaaGW
import Derived.Test.YtigodbamphejmaaBl
namespace Go.Proofs.Ytigodbamphejmaa.S
open Go.RowKit Go.WideMaps Go.Maps

theorem Ed.nat {n i : Nat} {L : List (Int × Int × Int)} (h : Ed n i L) {e : Int × Int × Int} (he : e ∈ L) : e.2.1 = (ea e : Int) ∧ e.2.2 = (eb e : Int) ∧ ea e < n ∧ eb e < n ∧ ea e < eb e := by
  obtain ⟨x, y, hxy, hy, hq⟩ := h.ends e he
  have h1 : e.2.1 = (x : Int) := by rw [hq]
  have h2 : e.2.2 = (y : Int) := by rw [hq]
  have h3 : ea e = x := by unfold ea; rw [h1]; simp
  have h4 : eb e = y := by unfold eb; rw [h2]; simp
  rw [h3, h4]
  exact ⟨h1, h2, by omega, by omega, by omega⟩

theorem Ed.inn {n i : Nat} {L : List (Int × Int × Int)} (h : Ed n i L) : ∀ e ∈ L, ea e < n ∧ eb e < n := fun _ he => ⟨(h.nat he).2.2.1, (h.nat he).2.2.2.1⟩
theorem Ed.proper {n i : Nat} {L : List (Int × Int × Int)} (h : Ed n i L) : ∀ e ∈ L, ea e ≠ eb e := fun e he => by have := (h.nat he).2.2.2.2; omega

theorem wo_stays {n i : Nat} {L : List (Int × Int × Int)} (h : Ed n i L) (x : Nat) (Fe : Nat → Int) : L.filter (G.stays Fe (fun _ => (x : Int)) 0 1) = wo L x := by
  unfold wo
  apply List.filter_congr
  intro e he
  have hn := h.nat he
  unfold G.stays G.among
  rw [hn.1, hn.2.1, Bool.eq_iff_iff]
  simp
  omega

theorem kx_joins {n i : Nat} {L : List (Int × Int × Int)} (h : Ed n i L) (x : Nat) : Good n (joins (List.range n) (wo L x)) ∧ Kx n L x (joins (List.range n) (wo L x)) := by
  have hin : ∀ d ∈ wo L x, ea d < n ∧ eb d < n := fun d hd => h.inn d (mem_wo.1 hd).1
  have hg := good_joins (wo L x) _ (good_range n) hin
  refine ⟨hg, fun u v hu hv => ?_⟩
  rw [← Lk.iff hu hv, Lk_joins (wo L x) _ (good_range n) hin]
  constructor
  · intro c
    refine Conn.lift c ?_
    rintro p q (c | ⟨e, he, rfl, rfl⟩)
    · rcases c with rfl | ⟨h1, h2, h3⟩
      · exact Conn.refl _
      · have e1 : (List.range n).getD p 0 = p := by simp [h1]
        have e2 : (List.range n).getD q 0 = q := by simp [h2]
        rw [e1, e2] at h3; subst h3; exact Conn.refl _
    · exact cn_edge he
  · intro c
    refine Conn.lift c ?_
    rintro p q ⟨e, he, rfl, rfl⟩
    exact Conn.base (.inr ⟨e, he, rfl, rfl⟩)

theorem But.cell {b : Nat} {w w' : World} (h : But b w w') {g i : Nat} {v : Value} (hg : w.cell? ⟨g, i, none⟩ = some v) (h1 : g ≠ b) : w'.cell? ⟨g, i, none⟩ = some v := by
  have hl := lt_of_cell hg
  simp only [World.cell?] at hg ⊢
  rw [h.block g hl h1]; exact hg

theorem joins_snoc (L : List Nat) (ds : List (Int × Int × Int)) (d : Int × Int × Int) : joins L (ds ++ [d]) = joinL (joins L ds) (ea d) (eb d) := by
  rw [joins_append]; rfl

set_option maxHeartbeats 2000000 in
set_option maxRecDepth 100000 in
theorem bwo_any (x n B0 q M : Nat) (u : Value) (R : List (Int × Int × Int)) (w : World) (h : G.GAt w B0 91 50 q (n : Int) u R) (hn : n ≤ 40) (hed : Ed n M R) (hM : M ≤ 100) :
    Calls Try.prog 80 #[.pointer (some ⟨q, 0, none⟩), .int .i64 (x : Int)] w fun e w' => ∃ p b K, e = .returned (.pointer (some ⟨p, 0, none⟩)) ∧ SetsAt w' p b K ∧ Good n K ∧ Kx n R x K ∧ Below w.heap.size w w' ∧ w.heap.size ≤ p ∧ w.heap.size ≤ b := by
  have HG : Hid (G.GAt w B0 91 50 q (n : Int) u R) := h
  have HE : Hid (Ed n M R) := hed
  have HKX := (show Hid _ from kx_joins hed x)
  have hlen := hed.len
  clear h hed
  go_enter Try.func80, Try.ntmps80
  go_wp2_with fail
  refine (G.nodes_any (n : Int) B0 q u R w HG.out).mono ?_
  rintro e w1 ⟨rfl, hw1⟩
  subst hw1
  go_wp2_with fail
  refine (new_in n w1 hn).mono ?_
  rintro e w2 ⟨rfl, hs2, hb2⟩
  have HS2 : Hid (SetsAt w2 (w1.heap.size + 1) w1.heap.size (List.range n) ∧ Below w1.heap.size w1 w2) := ⟨hs2, hb2⟩
  have hsz : w1.heap.size + 1 < w2.heap.size := hs2.plt
  obtain ⟨W1, hW1⟩ : ∃ W1, W1 = w2.alloc (.cells #[.int .i64 (x : Int)] 3) := ⟨_, rfl⟩
  have hbW : Below w2.heap.size w2 W1 := by rw [hW1]; exact (Below.refl _ _).alloc (Nat.le_refl _) _
  have hcW : W1.cell? ⟨w2.heap.size, 0, none⟩ = some (.int .i64 (x : Int)) := by rw [hW1, World.cell?_alloc_at _ _ _ _ rfl]; rfl
  have HW1 : Hid (w2.alloc (.cells #[.int .i64 (x : Int)] 3) = W1) := hW1.symm
  have HBW : Hid (Below w2.heap.size w2 W1 ∧ W1.cell? ⟨w2.heap.size, 0, none⟩ = some (.int .i64 (x : Int))) := ⟨hbW, hcW⟩
  clear hs2 hb2 hW1 hbW hcW
  go_wp2_with fail
  rw [HW1.out]
  refine (G.without_any (n : Int) B0 q u R none (some ⟨w2.heap.size, 0, none⟩) 0 1 0 1 (fun _ => 0) (fun _ => (x : Int)) W1 ((HG.out.below HS2.out.2).below HBW.out.1) (by omega) ⟨fun h => by omega⟩ ⟨fun _ => ⟨w2.heap.size, 0, rfl, fun t ht => by
    obtain rfl : t = 0 := by omega
    exact HBW.out.2⟩⟩ (by omega) (by omega)).mono ?_
  rintro e w3 ⟨p', v', rfl, hg3, hb3⟩
  rw [wo_stays HE.out] at hg3
  have HG3 : Hid (G.GAt w3 W1.heap.size 91 50 p' (n : Int) v' (wo R x)) := hg3
  have HB3 : Hid (Below w2.heap.size w2 w3) := HBW.out.1.trans (hb3.mono HBW.out.1.size)
  have hwl : (wo R x).length ≤ R.length := List.length_filter_le _ _
  clear hg3 hb3 HBW HW1
  go_wp2_with fail
  refine (G.edges_any (n : Int) _ p' v' (wo R x) w3 HG3.out (by omega)).mono ?_
  rintro e w4 ⟨v, rfl, ho, hb4⟩
  obtain ⟨m, hm⟩ : ∃ m, m = (wo R x).length := ⟨_, rfl⟩
  have HM' : Hid (m = (wo R x).length) := hm
  obtain ⟨va, vc, hv⟩ := ho.slice_len
  rw [← hm] at hv hwl
  subst hv
  have HO : Hid (G.Owns w4 w3.heap.size 50 (.slice va m vc) (wo R x)) := ho
  have HB4 : Hid (Below w2.heap.size w2 w4) := HB3.out.trans (hb4.mono HB3.out.size)
  have HS4 : Hid (SetsAt w4 (w1.heap.size + 1) w1.heap.size (List.range n)) := HS2.out.1.below HB4.out hsz (by omega)
  have hs34 : w2.heap.size ≤ w3.heap.size := HB3.out.size
  clear ho hb4 hm
  go_wp2_with fail
  go_loopw [21] (fun s21 wq => ∃ j : Nat, j ≤ m ∧ s21 = .int .i64 j ∧ SetsAt wq (w1.heap.size + 1) w1.heap.size (joins (List.range n) ((wo R x).take j)) ∧ But w1.heap.size w4 wq) (fun s21 _ => m - (intOf s21).toNat)
  case atStart => exact ⟨0, Nat.zero_le _, rfl, by simpa [joins] using HS4.out, But.refl _ _⟩
  case round =>
    clear HS4
    obtain ⟨j, hj, rfl, hs, hk⟩ := hrel
    have HR : Hid (SetsAt wr (w1.heap.size + 1) w1.heap.size (joins (List.range n) ((wo R x).take j)) ∧ But w1.heap.size w4 wr) := ⟨hs, hk⟩
    clear hs hk
    by_cases hlt : j < m
    · obtain ⟨e, hxe⟩ : ∃ e, (wo R x)[j]? = some e := ⟨_, List.getElem?_eq_getElem (by rw [← HM'.out]; exact hlt)⟩
      have heL := (mem_wo.1 (List.mem_of_getElem? hxe)).1
      have hnat := HE.out.nat heL
      obtain ⟨g, hva⟩ : ∃ g, va = some ⟨g, 0, none⟩ := by
        rcases HO.out.shape with ⟨_, k⟩ | ⟨g, cap, k, _⟩
        · rw [k] at hxe; simp at hxe
        · injection k with e1 _ _
          exact ⟨g, e1⟩
      subst hva
      obtain ⟨r0, r1, r2⟩ := HO.out.at (g := g) rfl hxe
      have hgb := World.ownsRow.lt HO.out g rfl
      have q0 := (HR.out.2.cell (g := g) r0 (by omega))
      have q1 := (HR.out.2.cell (g := g) r1 (by omega))
      have q2 := (HR.out.2.cell (g := g) r2 (by omega))
      have HTK : Hid ((wo R x).take (j + 1) = (wo R x).take j ++ [e]) := by
        show (wo R x).take (j + 1) = _
        rw [List.take_add_one, hxe]; rfl
      rw [hnat.1] at q1
      rw [hnat.2.1] at q2
      obtain ⟨hA, hE, hAE⟩ := hnat.2.2
      have HAE : Hid (joins (List.range n) ((wo R x).take (j + 1)) = joinL (joins (List.range n) ((wo R x).take j)) (ea e) (eb e)) := by
        show joins _ _ = _
        rw [HTK.out, joins_snoc]
      have hgl : (joins (List.range n) ((wo R x).take j)).length = n := (good_joins ((wo R x).take j) _ (good_range n) (fun d hd => HE.out.inn d (mem_wo.1 (List.mem_of_mem_take hd)).1)).len
      generalize ea e = A at *
      generalize eb e = E at *
      generalize e.1 = x0 at *
      generalize joins (List.range n) ((wo R x).take j) = J at *
      clear hxe r0 r1 r2 heL hnat HTK
      -- the edge's box
      obtain ⟨W1, hW1⟩ : ∃ W1, W1 = wr.alloc (.cells #[.int .i64 x0, .int .i64 (A : Int), .int .i64 (E : Int)] 50) := ⟨_, rfl⟩
      have hh : W1.heap[wr.heap.size]? = some (.cells #[.int .i64 x0, .int .i64 (A : Int), .int .i64 (E : Int)] 50) := by rw [hW1]; exact heap_alloc_new wr _
      have p0 : W1.cell? ⟨wr.heap.size, 0, none⟩ = some (.int .i64 x0) := by simp [World.cell?, hh]
      have p1 : W1.cell? ⟨wr.heap.size, 1, none⟩ = some (.int .i64 (A : Int)) := by simp [World.cell?, hh]
      have p2 : W1.cell? ⟨wr.heap.size, 2, none⟩ = some (.int .i64 (E : Int)) := by simp [World.cell?, hh]
      have hbW : Below wr.heap.size wr W1 := by rw [hW1]; exact (Below.refl _ _).alloc (Nat.le_refl _) _
      have HR1 : Hid (SetsAt W1 (w1.heap.size + 1) w1.heap.size J ∧ But w1.heap.size w4 W1) := ⟨HR.out.1.below hbW HR.out.1.plt HR.out.1.blt, HR.out.2.trans (But.of_below hbW)⟩
      have HW1 : Hid (wr.alloc (.cells #[.int .i64 x0, .int .i64 (A : Int), .int .i64 (E : Int)] 50) = W1) := hW1.symm
      clear hh hW1 hbW HR
      go_wp2_with fail
      rw [HW1.out]
      refine (join_nm A E _ _ J _ W1 HR1.out.1 (by omega) (by omega) (by omega) rfl).mono ?_
      rintro e' w5 ⟨rfl, hs5, hk5⟩
      have HR5 : Hid (SetsAt w5 (w1.heap.size + 1) w1.heap.size (joins (List.range n) ((wo R x).take (j + 1))) ∧ But w1.heap.size w4 w5) := by
        rw [HAE.out]
        exact ⟨hs5, HR1.out.2.trans hk5⟩
      clear hs5 hk5 HR1 p0 p1 p2
      go_wp2_with fail
      go_roundw
      case rel => exact ⟨j + 1, by omega, by go_num, HR5.out.1, HR5.out.2⟩
      case measure => simp [intOf]; omega
    · have hje : j = m := by omega
      subst hje
      have HF : Hid (SetsAt wr (w1.heap.size + 1) w1.heap.size (joins (List.range n) (wo R x))) := by
        have := HR.out.1
        rw [List.take_of_length_le (by rw [← HM'.out]; omega)] at this
        exact this
      have HBF : Hid (Below w1.heap.size w1 wr) := (HS2.out.2.trans (HB4.out.mono HS2.out.2.size)).trans (HR.out.2.below (Nat.le_refl _) (by have := HB4.out.size; omega))
      clear HR
      go_wp2_with fail
      go_ret
      exact ⟨_, _, _, rfl, HF.out, HKX.out.1, HKX.out.2, HBF.out, Nat.le_succ _, Nat.le_refl _⟩

end Go.Proofs.Ytigodbamphejmaa.S
