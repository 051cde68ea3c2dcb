/- Package flow: byNodes. -/
import Derived.Test.YtpkdpddillebfaaDoorFg
namespace Go.Proofs.YtpkdpddillebfaaDoor.S
open Go Go.ChangeMaps Go.MapKept Go.WideShapes
open Go.RowKit Go.WideMaps Go.Maps F

theorem ahead_any (x : Int) (h0 : 0 ≤ x) (h1 : x ≤ 1000) (w : World) : Calls Tryd.prog 64 #[.int .i64 x] w fun e w' => e = .returned (.int .i64 (2 * x)) ∧ w' = w := by
  have hw : IntKind.i64.wrap (2 * x) = 2 * x := by rw [IntKind.wrap_i64]; omega
  go_enter Tryd.func64, Tryd.ntmps64
  go_wp2_with fail
  go_ret
  first | exact ⟨rfl, rfl⟩ | (rw [hw]; exact ⟨rfl, rfl⟩)

theorem behind_any (x : Int) (h0 : 0 ≤ x) (h1 : x ≤ 1000) (w : World) : Calls Tryd.prog 63 #[.int .i64 x] w fun e w' => e = .returned (.int .i64 (2 * x + 1)) ∧ w' = w := by
  have hw : IntKind.i64.wrap (2 * x) = 2 * x := by rw [IntKind.wrap_i64]; omega
  have hv : IntKind.i64.wrap (2 * x + 1) = 2 * x + 1 := by rw [IntKind.wrap_i64]; omega
  go_enter Tryd.func63, Tryd.ntmps63
  go_wp2_with fail
  go_ret
  first | exact ⟨rfl, rfl⟩ | (rw [hw, hv]; exact ⟨rfl, rfl⟩)

/-- One step from either place of a node to the other one, and those of the edges. -/
def ndS (n : Nat) : List (Stp × Int) := (List.range n).map fun (x : Nat) => ((0, 2 * (x : Int), 2 * (x : Int) + 1), 0)
def edN (e : Stp) : List (Stp × Int) := [((e.1, 2 * e.2.1 + 1, 2 * e.2.2), 0), ((e.1, 2 * e.2.2 + 1, 2 * e.2.1), 0)]
def noS (n : Nat) (L : List Stp) : List (Stp × Int) := ndS n ++ L.flatMap edN

theorem ndS_succ (j : Nat) : ndS (j + 1) = ndS j ++ [((0, 2 * (j : Int), 2 * (j : Int) + 1), 0)] := by simp [ndS, List.range_succ]
theorem noS_snoc (n : Nat) (L : List Stp) (e : Stp) : noS n (L ++ [e]) = (noS n L ++ [((e.1, 2 * e.2.1 + 1, 2 * e.2.2), 0)]) ++ [((e.1, 2 * e.2.2 + 1, 2 * e.2.1), 0)] := by simp [noS, edN]
theorem ndS_len (n : Nat) : (ndS n).length = n := by simp [ndS]
theorem edN_len : ∀ L : List Stp, (L.flatMap edN).length = 2 * L.length
  | [] => rfl
  | e :: L => by rw [List.flatMap_cons, List.length_append, edN_len L]; simp [edN]; omega
theorem noS_len (n : Nat) (L : List Stp) : (noS n L).length = n + 2 * L.length := by rw [noS, List.length_append, ndS_len, edN_len]

theorem nd_off (j : Nat) : ((0, 2 * (j : Int), 2 * (j : Int) + 1) : Stp) ∉ lD (ndS j) ∧ bk ((0, 2 * (j : Int), 2 * (j : Int) + 1) : Stp) ∉ lD (ndS j) := by
  constructor <;>
  · intro k
    obtain ⟨t, h1, h2⟩ := (lD_mem _ _).1 k
    obtain ⟨x, hx, rfl⟩ := List.mem_map.1 h1
    have := List.mem_range.1 hx
    rcases h2 with h2 | h2 <;> simp [bk] at h2 <;> omega

theorem noS_off {n : Nat} {L : List Stp} {i a b : Int} (h : ∀ d ∈ L, d.1 ≠ i) (hab : a ≠ b) (q : Stp) (hq : q = (i, 2 * a + 1, 2 * b) ∨ q = (i, 2 * b, 2 * a + 1)) : q ∉ lD (noS n L) := by
  intro k
  obtain ⟨t, h1, h2⟩ := (lD_mem _ _).1 k
  rcases List.mem_append.1 h1 with h1 | h1
  · obtain ⟨x, hx, rfl⟩ := List.mem_map.1 h1
    rcases hq with rfl | rfl <;> rcases h2 with h2 | h2 <;> simp [bk] at h2 <;> omega
  · obtain ⟨d, hd, h1⟩ := List.mem_flatMap.1 h1
    have hne := h d hd
    have hi : q.1 = i := by rcases hq with rfl | rfl <;> rfl
    simp [edN] at h1
    apply hne
    rw [← hi]
    rcases h1 with rfl | rfl <;> rcases h2 with h2 | h2 <;> rw [h2] <;> rfl

theorem noS_off2 {n : Nat} {L : List Stp} {i a b : Int} (h : ∀ d ∈ L, d.1 ≠ i) (hab : a ≠ b) (q : Stp) (hq : q = (i, 2 * b + 1, 2 * a) ∨ q = (i, 2 * a, 2 * b + 1)) : q ∉ lD (noS n L ++ [((i, 2 * a + 1, 2 * b), 0)]) := by
  rw [lD_snoc, List.mem_append]
  rintro (k | k)
  · exact noS_off h (fun e => hab e.symm) q hq k
  · simp [bk] at k
    rcases hq with rfl | rfl <;> simp at k <;> omega

/-- No row lies where nothing lay yet. -/
theorem Laid.fresh {w : World} {p lm rm N B : Nat} {ss : List (Stp × Int)} {f : Int → Value} (h : Laid w p lm rm N B ss f) {k : Nat} (hk : w.heap.size ≤ k) : NoRow f k := fun x e => by
  obtain ⟨M, L, h⟩ := h
  have := (h.lv.off e).2
  omega

theorem Laid.lt {w : World} {p lm rm N B : Nat} {ss : List (Stp × Int)} {f : Int → Value} (h : Laid w p lm rm N B ss f) : lm < w.heap.size ∧ rm < w.heap.size := by
  obtain ⟨M, L, h⟩ := h
  have := h.lv.le
  have := h.lv.lt
  have := h.rb
  constructor <;> omega

/-- The cells of an edge's box. -/
def C3 (w : World) (bx : Nat) (x y z : Int) : Prop := w.cell? ⟨bx, 0, none⟩ = some (.int .i64 x) ∧ w.cell? ⟨bx, 1, none⟩ = some (.int .i64 y) ∧ w.cell? ⟨bx, 2, none⟩ = some (.int .i64 z)

/-- One step more is laid, and the box is as it was. -/
theorem lay_keep {w : World} {p lm rm N B : Nat} {ss : List (Stp × Int)} {f : Int → Value} (h : Laid w p lm rm N B ss f) {s : Stp} (hs : wfS s) (hne : fr s ≠ tt s) (hN : N ≤ 4 * ss.length) (hl : ss.length ≤ 400) (h1 : s ∉ lD ss) (h2 : bk s ∉ lD ss) {bx : Nat} {x y z : Int} (hc : C3 w bx x y z) (hr : NoRow f bx) (hb1 : bx ≠ lm) (hb2 : bx ≠ rm) :
    Calls Tryd.prog 83 #[.pointer (some ⟨p, 0, none⟩), vS s, .int .i64 0] w.drew fun e w' => e = .returned (.tuple #[]) ∧ C3 w' bx x y z ∧ Hid (∃ f', Laid w' p lm rm (N + 4) B (ss ++ [(s, 0)]) f' ∧ Out lm rm f f' w w' ∧ NoRow f' bx) := by
  have hd : Below w.heap.size w w.drew := (Below.refl _ _).drew
  refine (lay_more (h.below hd) hs hne (by omega) (by omega) hN hl h1 h2).mono ?_
  rintro e w' ⟨rfl, f', k1, k2⟩
  have ho : Out lm rm f f' w w' := ((Out.refl lm rm f w).below hd).trans k2
  exact ⟨rfl, ⟨ho.cell hc.1 hb1 hb2 hr, ho.cell hc.2.1 hb1 hb2 hr, ho.cell hc.2.2 hb1 hb2 hr⟩, f', k1, ho, ho.norow bx (lt_of_cell hc.1) hr⟩

set_option maxHeartbeats 4000000 in
set_option maxRecDepth 100000 in
theorem byNodes_any (n B0 q : Nat) (u : Value) (L : List (Int × Int × Int)) (w : World) (h : G.GAt w B0 90 59 q (n : Int) u L) (hn : n ≤ 16) (hed : Ed n 70 L) :
    Calls Tryd.prog 62 #[.pointer (some ⟨q, 0, none⟩)] w fun e w' => ∃ p lm rm N B f, e = .returned (.pointer (some ⟨p, 0, none⟩)) ∧ Laid w' p lm rm N B (noS n L) f ∧ N ≤ 640 ∧ Below w.heap.size w w' ∧ w.heap.size ≤ p ∧ w.heap.size ≤ lm ∧ w.heap.size ≤ rm ∧ w.heap.size ≤ B := by
  have HG : Hid (G.GAt w B0 90 59 q (n : Int) u L) := h
  have HE : Hid (Ed n 70 L) := hed
  have hlen := hed.len
  clear h hed
  go_enter Tryd.func62, Tryd.ntmps62
  go_wp2_with fail
  refine (newNet_any w).mono ?_
  rintro e w2 ⟨p, lm, rm, rfl, hA2, h2, h3, h4, hb2⟩
  have HB2 : Hid (Below w.heap.size w w2 ∧ w.heap.size ≤ p ∧ w.heap.size ≤ lm ∧ w.heap.size ≤ rm) := ⟨hb2, h2, h3, h4⟩
  have HL2 : Hid (Laid w2 p lm rm 0 w2.heap.size [] (fun _ => .slice none 0 0)) := ⟨_, _, hA2⟩
  clear hA2 h2 h3 h4 hb2
  go_wp2_with fail
  refine (G.nodes_any (n : Int) B0 q u L w2 (HG.out.below HB2.out.1)).mono ?_
  rintro e w3 ⟨rfl, hw3⟩
  subst hw3
  go_wp2_with fail
  go_loopw [10] (fun s10 wq => ∃ (j : Nat) (f : Int → Value), j ≤ n ∧ s10 = .int .i64 j ∧ Laid wq p lm rm (4 * j) w3.heap.size (ndS j) f ∧ Out lm rm (fun _ => .slice none 0 0) f w3 wq) (fun s10 _ => n - (intOf s10).toNat)
  case atStart => exact ⟨0, _, Nat.zero_le _, rfl, by simpa [ndS] using HL2.out, Out.refl _ _ _ _⟩
  case round =>
    clear HL2
    obtain ⟨j, f, hj, rfl, hr, hk⟩ := hrel
    have HR : Hid (Laid wr p lm rm (4 * j) w3.heap.size (ndS j) f ∧ Out lm rm (fun _ => .slice none 0 0) f w3 wr) := ⟨hr, hk⟩
    clear hr hk
    by_cases hlt : j < n
    · have hoff := nd_off j
      have hws : wfS (0, 2 * (j : Int), 2 * (j : Int) + 1) := ⟨wf_small (x := 0) (by omega) (by omega), wf_small (x := 2 * (j : Int)) (by omega) (by omega), wf_small (x := 2 * (j : Int) + 1) (by omega) (by omega)⟩
      have HC : Hid _ := lay_more HR.out.1 (s := (0, 2 * (j : Int), 2 * (j : Int) + 1)) (c := 0) hws (by show 2 * (j : Int) ≠ 2 * (j : Int) + 1; omega) (by omega) (by omega) (by rw [ndS_len]; omega) (by rw [ndS_len]; omega) hoff.1 hoff.2
      unfold vS at HC
      simp only at HC
      clear hoff hws
      go_wp2_with fail
      refine (ahead_any (j : Int) (by omega) (by omega) wr).mono ?_
      rintro e w4 ⟨rfl, hw4⟩
      subst hw4
      go_wp2_with fail
      refine (behind_any (j : Int) (by omega) (by omega) w4).mono ?_
      rintro e w5 ⟨rfl, hw5⟩
      subst hw5
      go_wp2_with fail
      refine Calls.mono HC.out ?_
      rintro e' w6 ⟨rfl, f', hr4, hk4⟩
      have HR4 : Hid (Laid w6 p lm rm (4 * (j + 1)) w3.heap.size (ndS (j + 1)) f' ∧ Out lm rm (fun _ => .slice none 0 0) f' w3 w6) := by
        rw [ndS_succ]
        exact ⟨hr4, HR.out.2.trans hk4⟩
      clear hr4 hk4 HR HC
      go_wp2_with fail
      go_roundw
      case rel => exact ⟨j + 1, f', by omega, by go_num, HR4.out.1, HR4.out.2⟩
      case measure => simp [intOf]; omega
    · have hje : n = j := by omega
      subst hje
      have hbw : Below w.heap.size w wr := HB2.out.1.trans (HR.out.2.old (B := w.heap.size) HB2.out.1.size HB2.out.2.2.1 HB2.out.2.2.2 (fun k _ _ e => by simp [Value.ownBlock] at e))
      have HWR : Hid (Below w.heap.size w wr) := hbw
      have HN : Hid (Laid wr p lm rm (4 * n) w3.heap.size (noS n []) f) := by
        have e : noS n [] = ndS n := by simp [noS]
        show Laid wr p lm rm (4 * n) w3.heap.size (noS n []) f
        rw [e]; exact HR.out.1
      clear hbw HR hlt hj
      obtain ⟨wy, hwy⟩ : ∃ wy, wy = wr := ⟨_, rfl⟩
      subst hwy
      go_wp2_with fail
      refine (G.edges_any (n : Int) B0 q u L wy (HG.out.below HWR.out) (by omega)).mono ?_
      rintro e w7 ⟨v, rfl, ho, hb7⟩
      obtain ⟨m, hm⟩ : ∃ m, m = L.length := ⟨_, rfl⟩
      have HM : Hid (m = L.length) := hm
      obtain ⟨va, vc, hv⟩ := ho.slice_len
      rw [← hm] at hv hlen
      subst hv
      have HO : Hid (G.Owns w7 wy.heap.size 59 (.slice va m vc) L) := ho
      have HB7 : Hid (Below wy.heap.size wy w7) := hb7
      have hlr := HN.out.lt
      clear ho hb7 hm
      go_wp2_with fail
      go_loopw [24] (fun s24 wq => ∃ (i : Nat) (f' : Int → Value), i ≤ m ∧ s24 = .int .i64 i ∧ Laid wq p lm rm (4 * (n + 2 * i)) w3.heap.size (noS n (L.take i)) f' ∧ Out lm rm f f' w7 wq) (fun s24 _ => m - (intOf s24).toNat)
      case atStart => exact ⟨0, f, Nat.zero_le _, rfl, by simpa using HN.out.below HB7.out, Out.refl _ _ _ _⟩
      case round =>
        obtain ⟨i, f', hi, rfl, hr, hk⟩ := hrel
        have HR : Hid (Laid wr p lm rm (4 * (n + 2 * i)) w3.heap.size (noS n (L.take i)) f' ∧ Out lm rm f f' w7 wr) := ⟨hr, hk⟩
        clear hr hk
        by_cases hlt : i < m
        · obtain ⟨e, hx⟩ : ∃ e, L[i]? = some e := ⟨_, List.getElem?_eq_getElem (by rw [← HM.out]; exact hlt)⟩
          have heL := List.mem_of_getElem? hx
          obtain ⟨x, y, hxy, hyn, he⟩ := HE.out.ends e heL
          have hids := HE.out.ids e heL
          obtain ⟨g, hva⟩ : ∃ g, va = some ⟨g, 0, none⟩ := by
            rcases HO.out.shape with ⟨_, k⟩ | ⟨g, cap, k, _⟩
            · rw [k] at hx; simp at hx
            · injection k with e1 _ _
              exact ⟨g, e1⟩
          subst hva
          obtain ⟨r0, r1, r2⟩ := HO.out.at (g := g) rfl hx
          have hgb : wy.heap.size ≤ g := (World.ownsRow.lt HO.out g rfl).1
          have hnr : NoRow f g := HN.out.fresh hgb
          have q0 := HR.out.2.cell r0 (by omega) (by omega) hnr
          have q1 := HR.out.2.cell r1 (by omega) (by omega) hnr
          have q2 := HR.out.2.cell r2 (by omega) (by omega) hnr
          have HTK : Hid (L.take (i + 1) = L.take i ++ [e]) := by
            show L.take (i + 1) = _
            rw [List.take_add_one, hx]; rfl
          have hone : ∀ d ∈ L.take i, d.1 ≠ e.1 := by
            intro d hd k
            obtain ⟨l, hl, hle⟩ := List.mem_iff_getElem.1 hd
            obtain ⟨hjl, hje⟩ := List.getElem?_eq_some_iff.1 hx
            have hij : l < i := by simp at hl; omega
            rw [List.getElem_take] at hle
            have := List.pairwise_iff_getElem.1 HE.out.up l i (by omega) hjl hij
            rw [hle, hje] at this; omega
          obtain ⟨x0, hx0⟩ : ∃ x0, e.1 = x0 := ⟨_, rfl⟩
          rw [hx0] at he hids hone q0
          subst he
          simp only at q0 q1 q2
          obtain ⟨bx, hbx⟩ : ∃ bx, wr.heap.size = bx := ⟨_, rfl⟩
          obtain ⟨W1, hW1⟩ : ∃ W1, W1 = wr.alloc (.cells #[.int .i64 x0, .int .i64 (x : Int), .int .i64 (y : Int)] 59) := ⟨_, rfl⟩
          have hh : W1.heap[bx]? = some (.cells #[.int .i64 x0, .int .i64 (x : Int), .int .i64 (y : Int)] 59) := by rw [hW1, ← hbx]; exact heap_alloc_new wr _
          have hc1 : C3 W1 bx x0 x y := by refine ⟨?_, ?_, ?_⟩ <;> simp [World.cell?, hh]
          have hbW : Below wr.heap.size wr W1 := by rw [hW1]; exact (Below.refl _ _).alloc (Nat.le_refl _) _
          have hL1 := HR.out.1.below hbW
          have hlz := HR.out.1.lt
          have hbl : bx ≠ lm := by omega
          have hbr : bx ≠ rm := by omega
          have hln : (noS n (L.take i)).length = n + 2 * i := by
            have := HM.out
            rw [noS_len]; simp; omega
          have hxy' : (x : Int) ≠ (y : Int) := by omega
          have hw1 : wfS (x0, 2 * (x : Int) + 1, 2 * (y : Int)) := ⟨wf_small (x := x0) (by omega) (by omega), wf_small (x := 2 * (x : Int) + 1) (by omega) (by omega), wf_small (x := 2 * (y : Int)) (by omega) (by omega)⟩
          have hw2 : wfS (x0, 2 * (y : Int) + 1, 2 * (x : Int)) := ⟨wf_small (x := x0) (by omega) (by omega), wf_small (x := 2 * (y : Int) + 1) (by omega) (by omega), wf_small (x := 2 * (x : Int)) (by omega) (by omega)⟩
          have HC : Hid (Calls Tryd.prog 83 #[.pointer (some ⟨p, 0, none⟩), vS (x0, 2 * (x : Int) + 1, 2 * (y : Int)), .int .i64 0] W1.drew fun e w8 => e = .returned (.tuple #[]) ∧ C3 w8 bx x0 x y ∧ Hid (C3 w8.drew bx x0 x y ∧ Calls Tryd.prog 83 #[.pointer (some ⟨p, 0, none⟩), vS (x0, 2 * (y : Int) + 1, 2 * (x : Int)), .int .i64 0] w8.drew fun e w9 => e = .returned (.tuple #[]) ∧ C3 w9 bx x0 x y ∧ Hid (∃ f2, Laid w9 p lm rm (4 * (n + 2 * (i + 1))) w3.heap.size (noS n (L.take (i + 1))) f2 ∧ Out lm rm f f2 w7 w9))) := by
            refine (lay_keep hL1 (s := (x0, 2 * (x : Int) + 1, 2 * (y : Int))) hw1 (by show 2 * (x : Int) + 1 ≠ 2 * (y : Int); omega) (by omega) (by omega) (noS_off hone hxy' _ (.inl rfl)) (noS_off hone hxy' _ (.inr rfl)) hc1 (HR.out.1.fresh (by omega)) hbl hbr).mono ?_
            rintro e w8 ⟨rfl, hc8, f1, hL8, ho8, hr8⟩
            refine ⟨rfl, hc8, hc8, ?_⟩
            refine (lay_keep hL8 (s := (x0, 2 * (y : Int) + 1, 2 * (x : Int))) hw2 (by show 2 * (y : Int) + 1 ≠ 2 * (x : Int); omega) (by simp; omega) (by simp; omega) (noS_off2 hone hxy' _ (.inl rfl)) (noS_off2 hone hxy' _ (.inr rfl)) hc8 hr8 hbl hbr).mono ?_
            rintro e w9 ⟨rfl, hc9, f2, hL9, ho9, hr9⟩
            refine ⟨rfl, hc9, f2, ?_, ((HR.out.2.below hbW).trans ho8).trans ho9⟩
            rw [HTK.out, noS_snoc]
            exact hL9
          have hc1d : C3 W1.drew bx x0 x y := hc1
          have HW1 : Hid (wr.alloc (.cells #[.int .i64 x0, .int .i64 (x : Int), .int .i64 (y : Int)] 59) = W1) := hW1.symm
          have HBX : Hid (wr.heap.size = bx) := hbx
          unfold C3 vS at HC
          unfold C3 at hc1d
          simp only at HC
          clear hx r0 r1 r2 hone hx0 heL hh hW1 hbW HR hln hw1 hw2 hL1 hlz hc1 hbx hnr hgb hbl hbr hxy'
          go_upto_region 10 with fail
          rw [HW1.out, HBX.out]
          clear q0 q1 q2
          go_region_held (fun w' => (w'.cell? ⟨bx, 0, none⟩ = some (.int .i64 x0) ∧ w'.cell? ⟨bx, 1, none⟩ = some (.int .i64 (x : Int)) ∧ w'.cell? ⟨bx, 2, none⟩ = some (.int .i64 (y : Int)))) (with_reducible assumption)
            (first
            | (go_at_call 63; refine (behind_any (x : Int) (by omega) (by omega) _).mono ?_; rintro e w' ⟨rfl, rfl⟩)
            | (go_at_call 64; refine (ahead_any (y : Int) (by omega) (by omega) _).mono ?_; rintro e w' ⟨rfl, rfl⟩)
            | (go_at_call 83; refine Calls.mono HC.out ?_; rintro e w8 ⟨rfl, hc8, HC2⟩))
          all_goals
            obtain ⟨hc8d, hC2⟩ := HC2.out
            have HC3 : Hid _ := hC2
            clear hC2 HC2 HC hc1d
            go_upto_region 11 with fail
            go_region_held (fun w' => (w'.cell? ⟨bx, 0, none⟩ = some (.int .i64 x0) ∧ w'.cell? ⟨bx, 1, none⟩ = some (.int .i64 (x : Int)) ∧ w'.cell? ⟨bx, 2, none⟩ = some (.int .i64 (y : Int)))) (with_reducible assumption)
              (first
              | (go_at_call 63; refine (behind_any (y : Int) (by omega) (by omega) _).mono ?_; rintro e w' ⟨rfl, rfl⟩)
              | (go_at_call 64; refine (ahead_any (x : Int) (by omega) (by omega) _).mono ?_; rintro e w' ⟨rfl, rfl⟩)
              | (go_at_call 83; refine Calls.mono HC3.out ?_; rintro e w9 ⟨rfl, hc9, HF⟩))
            all_goals
              have hbxe := HBX.out
              subst hbxe
              go_wp2_with fail
              go_roundw
              case rel =>
                obtain ⟨f2, h1, h2⟩ := HF.out
                exact ⟨i + 1, f2, by omega, by go_num, h1, h2⟩
              case measure => simp [intOf]; omega
        · have hie : m = i := by omega
          subst hie
          have HF : Hid (Laid wr p lm rm (4 * (n + 2 * m)) w3.heap.size (noS n L) f' ∧ Below w.heap.size w wr) := by
            have h1 := HR.out.1
            rw [List.take_of_length_le (by rw [← HM.out]; omega)] at h1
            refine ⟨h1, ?_⟩
            have hs := HWR.out.size
            have h2 := HR.out.2.old (B := w.heap.size) (Nat.le_trans hs HB7.out.size) HB2.out.2.2.1 HB2.out.2.2.2 (fun k hk => ?_)
            · exact (HWR.out.trans (HB7.out.mono hs)).trans h2
            · obtain ⟨M, Lm, hA⟩ := HN.out
              intro z e
              have := (hA.lv.off e).1
              have := HB2.out.1.size
              omega
          clear HR
          go_wp2_with fail
          go_ret
          exact ⟨p, lm, rm, 4 * (n + 2 * m), w3.heap.size, f', rfl, HF.out.1, by omega, HF.out.2, HB2.out.2.1, HB2.out.2.2.1, HB2.out.2.2.2, HB2.out.1.size⟩

end Go.Proofs.YtpkdpddillebfaaDoor.S
