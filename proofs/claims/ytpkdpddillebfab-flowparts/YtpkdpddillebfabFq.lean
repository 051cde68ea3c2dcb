/- Package flow: Edges and Nodes. -/
import Derived.Test.YtpkdpddillebfabFp
namespace Go.Proofs.Ytpkdpddillebfab.S
open Go Go.ChangeMaps Go.MapKept Go.WideShapes
open Go.RowKit Go.WideMaps Go.Maps F

theorem net_snoc {ss : List (Stp × Int)} {s : Stp} (c : Int) (h : Net (lD ss)) (h1 : s ∉ lD ss) (h2 : bk s ∉ lD ss) (hne : fr s ≠ tt s) : Net (lD (ss ++ [(s, c)])) := by
  rw [lD_snoc]
  refine ⟨?_, fun t ht => ?_, fun t ht => ?_⟩
  · rw [List.nodup_append]
    refine ⟨h.nd, by simp; exact fun e => bk_ne hne e.symm, fun x hx y hy e => ?_⟩
    subst e
    simp at hy
    rcases hy with rfl | rfl
    · exact h1 hx
    · exact h2 hx
  · rcases List.mem_append.1 ht with ht | ht
    · exact List.mem_append_left _ (h.back t ht)
    · simp at ht
      rcases ht with rfl | rfl <;> simp [bk_bk]
  · rcases List.mem_append.1 ht with ht | ht
    · exact h.ne t ht
    · simp at ht
      rcases ht with rfl | rfl
      · exact hne
      · rw [fr_bk, tt_bk]; exact fun e => hne e.symm

theorem net_nil : Net (lD []) := ⟨by simp [lD], by simp [lD], by simp [lD]⟩

theorem ed_one {n : Nat} {L : List Stp} (h : Ed n 50 L) {j : Nat} {e : Stp} (hx : L[j]? = some e) : ∀ d ∈ L.take j, d.1 ≠ e.1 := by
  intro d hd k
  obtain ⟨i, hi, hie⟩ := List.mem_iff_getElem.1 hd
  obtain ⟨hjl, hje⟩ := List.getElem?_eq_some_iff.1 hx
  have hij : i < j := by simp at hi; omega
  rw [List.getElem_take] at hie
  have := List.pairwise_iff_getElem.1 h.up i j (by omega) hjl hij
  rw [hie, hje] at this; omega

theorem take_snoc {α : Type} {L : List α} {j : Nat} {e : α} (hx : L[j]? = some e) : L.take (j + 1) = L.take j ++ [e] := by rw [List.take_add_one, hx]; rfl

theorem net_edS {n : Nat} {L : List Stp} (h : Ed n 50 L) : Net (lD (edS L)) := by
  have : ∀ j, j ≤ L.length → Net (lD (edS (L.take j))) := by
    intro j
    induction j with
    | zero => intro _; simpa [edS] using net_nil
    | succ j ih =>
      intro hj
      have hx : L[j]? = some L[j] := List.getElem?_eq_getElem (by omega)
      obtain ⟨x, y, hxy, _, he⟩ := h.ends L[j] (List.getElem_mem _)
      rw [take_snoc hx]
      have e : edS (L.take j ++ [L[j]]) = edS (L.take j) ++ [(L[j], 1)] := by rw [edS, List.map_append]; rfl
      rw [e]
      have hoff := edS_off (ed_one h hx)
      refine net_snoc 1 (ih (by omega)) hoff.1 hoff.2 ?_
      rw [he]
      show (x : Int) ≠ (y : Int)
      omega
  have h1 := this L.length (Nat.le_refl _)
  rwa [List.take_length] at h1

theorem net_ndS : ∀ j, Net (lD (ndS j))
  | 0 => by simpa [ndS] using net_nil
  | j + 1 => by
    rw [ndS_succ]
    have := nd_off j
    exact net_snoc 0 (net_ndS j) this.1 this.2 (by show 2 * (j : Int) ≠ 2 * (j : Int) + 1; omega)

theorem net_noS {n : Nat} {L : List Stp} (h : Ed n 50 L) : Net (lD (noS n L)) := by
  have : ∀ j, j ≤ L.length → Net (lD (noS n (L.take j))) := by
    intro j
    induction j with
    | zero => intro _; simpa [noS] using net_ndS n
    | succ j ih =>
      intro hj
      have hx : L[j]? = some L[j] := List.getElem?_eq_getElem (by omega)
      obtain ⟨x, y, hxy, _, he⟩ := h.ends L[j] (List.getElem_mem _)
      have hone := ed_one h hx
      rw [take_snoc hx, noS_snoc]
      have e1 : (L[j]).2.1 = (x : Int) := by rw [he]
      have e2 : (L[j]).2.2 = (y : Int) := by rw [he]
      rw [e1, e2]
      have hxy' : (x : Int) ≠ (y : Int) := by omega
      refine net_snoc 0 (net_snoc 0 (ih (by omega)) (noS_off hone hxy' _ (.inl rfl)) (noS_off hone hxy' _ (.inr rfl)) ?_) (noS_off2 hone hxy' _ (.inl rfl)) (noS_off2 hone hxy' _ (.inr rfl)) ?_
      · show 2 * (x : Int) + 1 ≠ 2 * (y : Int); omega
      · show 2 * (y : Int) + 1 ≠ 2 * (x : Int); omega
  have h1 := this L.length (Nat.le_refl _)
  rwa [List.take_length] at h1

theorem lr_le (ss : List (Stp × Int)) (h : ∀ t ∈ ss, t.2 ≤ 1) (q : Stp) : lr ss q ≤ 1 := by
  induction ss using snoc_ind with
  | h0 => simp [lr]
  | h1 l a ih =>
    rw [lr_snoc]
    have h1 := ih (fun t ht => h t (by simp [ht]))
    have h2 := h a (by simp)
    show (if q = bk a.1 then a.2 else if q = a.1 then 1 else lr l q) ≤ 1
    split
    · exact h2
    · split
      · omega
      · exact h1

theorem lD_len (ss : List (Stp × Int)) : (lD ss).length = 2 * ss.length := by
  induction ss using snoc_ind with
  | h0 => simp [lD]
  | h1 l a ih => rw [lD_snoc, List.length_append, ih]; simp; omega

/-- A net that was laid, filled. -/
theorem fill_laid {w : World} {p lm rm N B : Nat} {ss : List (Stp × Int)} {f : Int → Value} (h : Laid w p lm rm N B ss f) (hD : Net (lD ss)) (hl : ss.length ≤ 240) (h1 : ∀ t ∈ ss, t.2 ≤ 1) (hr : ∀ s ∈ lD ss, 0 ≤ tt s ∧ tt s < 1000) (hN : N ≤ 1000) {a b : Int} {most : Nat} (hm : most ≤ 120) (ha0 : 0 ≤ a) (ha1 : a < 1000) (hb0 : 0 ≤ b) (hb1 : b < 1000) (hab : a ≠ b) :
    Calls Try.prog 24 #[.pointer (some ⟨p, 0, none⟩), .int .i64 a, .int .i64 b, .int .i64 (most : Int)] w (FillPost w p lm rm N B (lD ss) (lr ss) f (lg ss) a b most) := by
  obtain ⟨M, L, hA⟩ := h
  refine fill_any p lm rm N B most M L _ _ f _ a b w hA hD (fun x s => lg_mem ss s x) (fun x => ?_) hr ?_ (fun x => ?_) hN hm ha0 ha1 hb0 hb1 hab
  · have := lg_len ss x; omega
  · rw [lD_len]; omega
  · have := lr_le ss h1 x
    have := lr_le ss h1 (bk x)
    omega

theorem tt_edS {n : Nat} {L : List Stp} (h : Ed n 50 L) (hn : n ≤ 14) : ∀ s ∈ lD (edS L), 0 ≤ tt s ∧ tt s < 1000 := by
  intro s hs
  obtain ⟨t, h1, h2⟩ := (lD_mem _ _).1 hs
  obtain ⟨d, hd, rfl⟩ := List.mem_map.1 h1
  obtain ⟨x, y, hxy, hyn, he⟩ := h.ends d hd
  rw [he] at h2
  rcases h2 with rfl | rfl <;> (unfold tt; try unfold bk) <;> simp only <;> omega

theorem tt_noS {n : Nat} {L : List Stp} (h : Ed n 50 L) (hn : n ≤ 14) : ∀ s ∈ lD (noS n L), 0 ≤ tt s ∧ tt s < 1000 := by
  intro s hs
  obtain ⟨t, h1, h2⟩ := (lD_mem _ _).1 hs
  rcases List.mem_append.1 h1 with h1 | h1
  · obtain ⟨x, hx, rfl⟩ := List.mem_map.1 h1
    have := List.mem_range.1 hx
    rcases h2 with rfl | rfl <;> (unfold tt; try unfold bk) <;> simp only <;> omega
  · obtain ⟨d, hd, h1⟩ := List.mem_flatMap.1 h1
    obtain ⟨x, y, hxy, hyn, he⟩ := h.ends d hd
    rw [he] at h1
    simp [edN] at h1
    rcases h1 with rfl | rfl <;> rcases h2 with rfl | rfl <;> (unfold tt; try unfold bk) <;> simp only <;> omega

theorem one_edS (L : List Stp) : ∀ t ∈ edS L, t.2 ≤ 1 := fun t ht => by
  obtain ⟨d, hd, rfl⟩ := List.mem_map.1 ht
  simp

theorem one_noS (n : Nat) (L : List Stp) : ∀ t ∈ noS n L, t.2 ≤ 1 := fun t ht => by
  rcases List.mem_append.1 ht with h1 | h1
  · obtain ⟨x, hx, rfl⟩ := List.mem_map.1 h1
    simp
  · obtain ⟨d, hd, h1⟩ := List.mem_flatMap.1 h1
    simp [edN] at h1
    rcases h1 with rfl | rfl <;> simp

theorem FillPost.below {w0 w w' : World} {p lm rm N B : Nat} {D : List Stp} {r0 : Stp → Int} {f : Int → Value} {g : Int → List Stp} {a b : Int} {most : Nat} {e : Ending} (h : FillPost w p lm rm N B D r0 f g a b most e w') (hb : Below w0.heap.size w0 w) (hr : w0.heap.size ≤ rm) : ∃ k : Nat, e = .returned (.int .i64 (k : Int)) ∧ Val (cap D r0) a b most k ∧ Below w0.heap.size w0 w' := by
  obtain ⟨k, r, h1, h2, _, _, _, _, _, h3⟩ := h
  exact ⟨k, h1, h2, hb.trans ⟨h3.os, h3.tape, h3.output, h3.size, fun i hi => h3.block i (Nat.lt_of_lt_of_le hi hb.size) (by omega)⟩⟩

set_option maxHeartbeats 1000000 in
/-- How many ways have no edge in common. -/
theorem flowEdges_any (n B0 q a b m : Nat) (u : Value) (L : List (Int × Int × Int)) (w : World) (h : G.GAt w B0 58 36 q (n : Int) u L) (hn : n ≤ 14) (hed : Ed n 50 L) (ha : a < n) (hb : b < n) (hab : a ≠ b) (hm : m ≤ 120) :
    Calls Try.prog 9 #[.pointer (some ⟨q, 0, none⟩), .int .i64 (a : Int), .int .i64 (b : Int), .int .i64 (m : Int)] w fun e w' => ∃ k : Nat, e = .returned (.tuple #[.int .i64 (k : Int), .nilIface]) ∧ Val (cap (lD (edS L)) (lr (edS L))) a b m k ∧ Below w.heap.size w w' := by
  have HG : Hid (G.GAt w B0 58 36 q (n : Int) u L) := h
  have HE : Hid (Ed n 50 L) := hed
  have hlen := hed.len
  clear h hed
  go_enter Try.func9, Try.ntmps9
  go_wp2_with fail
  refine (check_any n B0 q a b m u L w HG.out ha hb hab hm).mono ?_
  rintro e w1 ⟨rfl, hb1⟩
  have HB1 : Hid (Below w.heap.size w w1) := hb1
  clear hb1
  go_wp2_with fail
  refine (byEdges_any n B0 q u L w1 (HG.out.below HB1.out) hn HE.out).mono ?_
  rintro e w2 ⟨p, lm, rm, N, B, f, rfl, hL, hN, hb2, _, _, hrm, _⟩
  have HB2 : Hid (Below w.heap.size w w2 ∧ w.heap.size ≤ rm) := ⟨HB1.out.trans (hb2.mono HB1.out.size), Nat.le_trans HB1.out.size hrm⟩
  have HC : Hid _ := fill_laid hL (net_edS HE.out) (by simp [edS]; omega) (one_edS L) (tt_edS HE.out hn) (by omega) (a := (a : Int)) (b := (b : Int)) (most := m) hm (by omega) (by omega) (by omega) (by omega) (by omega)
  clear hL hN hb2 hrm
  go_wp2_with fail
  refine Calls.mono HC.out ?_
  intro e w3 hp
  obtain ⟨k, rfl, hv, hb3⟩ := hp.below HB2.out.1 HB2.out.2
  have HV : Hid (Val (cap (lD (edS L)) (lr (edS L))) a b m k ∧ Below w.heap.size w w3) := ⟨hv, hb3⟩
  clear hv hb3 hp HC
  go_wp2_with fail
  go_ret2
  exact ⟨k, rfl, HV.out.1, HV.out.2⟩

set_option maxHeartbeats 1000000 in
/-- How many ways have no node in common. -/
theorem flowNodes_any (n B0 q a b m : Nat) (u : Value) (L : List (Int × Int × Int)) (w : World) (h : G.GAt w B0 58 36 q (n : Int) u L) (hn : n ≤ 14) (hed : Ed n 50 L) (ha : a < n) (hb : b < n) (hab : a ≠ b) (hm : m ≤ 120) :
    Calls Try.prog 10 #[.pointer (some ⟨q, 0, none⟩), .int .i64 (a : Int), .int .i64 (b : Int), .int .i64 (m : Int)] w fun e w' => ∃ k : Nat, e = .returned (.tuple #[.int .i64 (k : Int), .nilIface]) ∧ Val (cap (lD (noS n L)) (lr (noS n L))) (2 * a + 1) (2 * b) m k ∧ Below w.heap.size w w' := by
  have HG : Hid (G.GAt w B0 58 36 q (n : Int) u L) := h
  have HE : Hid (Ed n 50 L) := hed
  have hlen := hed.len
  clear h hed
  go_enter Try.func10, Try.ntmps10
  go_wp2_with fail
  refine (check_any n B0 q a b m u L w HG.out ha hb hab hm).mono ?_
  rintro e w1 ⟨rfl, hb1⟩
  have HB1 : Hid (Below w.heap.size w w1) := hb1
  clear hb1
  go_wp2_with fail
  refine (byNodes_any n B0 q u L w1 (HG.out.below HB1.out) hn HE.out).mono ?_
  rintro e w2 ⟨p, lm, rm, N, B, f, rfl, hL, hN, hb2, _, _, hrm, _⟩
  have HB2 : Hid (Below w.heap.size w w2 ∧ w.heap.size ≤ rm) := ⟨HB1.out.trans (hb2.mono HB1.out.size), Nat.le_trans HB1.out.size hrm⟩
  have HC : Hid _ := fill_laid hL (net_noS HE.out) (by rw [noS_len]; omega) (one_noS n L) (tt_noS HE.out hn) (by omega) (a := 2 * (a : Int) + 1) (b := 2 * (b : Int)) (most := m) hm (by omega) (by omega) (by omega) (by omega) (by omega)
  clear hL hN hb2 hrm
  go_wp2_with fail
  refine (behind_any (a : Int) (by omega) (by omega) w2).mono ?_
  rintro e w4 ⟨rfl, hw4⟩
  subst hw4
  go_wp2_with fail
  refine (ahead_any (b : Int) (by omega) (by omega) w4).mono ?_
  rintro e w5 ⟨rfl, hw5⟩
  subst hw5
  go_wp2_with fail
  refine Calls.mono HC.out ?_
  intro e w3 hp
  obtain ⟨k, rfl, hv, hb3⟩ := hp.below HB2.out.1 HB2.out.2
  have HV : Hid (Val (cap (lD (noS n L)) (lr (noS n L))) (2 * a + 1) (2 * b) m k ∧ Below w.heap.size w w3) := ⟨hv, hb3⟩
  clear hv hb3 hp HC
  go_wp2_with fail
  go_ret2
  exact ⟨k, rfl, HV.out.1, HV.out.2⟩

end Go.Proofs.Ytpkdpddillebfab.S
