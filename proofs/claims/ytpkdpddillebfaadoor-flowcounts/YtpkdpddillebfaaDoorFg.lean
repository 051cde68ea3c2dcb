/- Package flow: byEdges. -/
import Derived.Test.YtpkdpddillebfaaDoorFf
namespace Go.Proofs.YtpkdpddillebfaaDoor.S
open Go Go.ChangeMaps Go.MapKept Go.WideShapes
open Go.RowKit Go.WideMaps Go.Maps F

/-- A net that was laid. -/
def Laid (w : World) (p lm rm N B : Nat) (ss : List (Stp × Int)) (f : Int → Value) : Prop := ∃ M L, NetA w p lm rm N B M L (lD ss) (lr ss) f (lg ss)

theorem Laid.below {w w' : World} {p lm rm N B : Nat} {ss : List (Stp × Int)} {f : Int → Value} (h : Laid w p lm rm N B ss f) (hb : Below w.heap.size w w') : Laid w' p lm rm N B ss f := by
  obtain ⟨M, L, h⟩ := h
  exact ⟨M, L, h.below hb⟩

/-- One step more is laid. -/
theorem lay_more {w : World} {p lm rm N B : Nat} {ss : List (Stp × Int)} {f : Int → Value} (h : Laid w p lm rm N B ss f) {s : Stp} {c : Int} (hs : wfS s) (hne : fr s ≠ tt s) (hc0 : 0 ≤ c) (hc : c ≤ 1000) (hN : N ≤ 4 * ss.length) (hl : ss.length ≤ 400) (h1 : s ∉ lD ss) (h2 : bk s ∉ lD ss) :
    Calls Tryd.prog 83 #[.pointer (some ⟨p, 0, none⟩), vS s, .int .i64 c] w fun e w' => e = .returned (.tuple #[]) ∧ ∃ f', Laid w' p lm rm (N + 4) B (ss ++ [(s, c)]) f' ∧ Out lm rm f f' w w' := by
  obtain ⟨M, L, h⟩ := h
  refine (lay_any p lm rm N B M L _ _ f _ s c w h hs hne hc0 hc (by omega) (fun x => by have := lg_len ss x; omega) (lr_off ss h1) (lr_off ss h2)).mono ?_
  rintro e w' ⟨rfl, M', L', f', k1, k2⟩
  refine ⟨rfl, f', ⟨M', L', ?_⟩, k2⟩
  rw [lD_snoc, lr_snoc, lg_snoc]
  exact k1

theorem Out.refl (lm rm : Nat) (f : Int → Value) (w : World) : Out lm rm f f w w := ⟨rfl, rfl, rfl, Nat.le_refl _, fun _ _ _ _ _ => rfl, fun _ _ h => h⟩

theorem Out.trans {lm rm : Nat} {f0 f1 f2 : Int → Value} {a b c : World} (h : Out lm rm f0 f1 a b) (k : Out lm rm f1 f2 b c) : Out lm rm f0 f2 a c :=
  ⟨k.os.trans h.os, k.tape.trans h.tape, k.output.trans h.output, Nat.le_trans h.size k.size, fun i h1 h2 h3 h4 => (k.block i (Nat.lt_of_lt_of_le h1 h.size) h2 h3 (h.norow i h1 h4)).trans (h.block i h1 h2 h3 h4), fun i h1 h4 => k.norow i (Nat.lt_of_lt_of_le h1 h.size) (h.norow i h1 h4)⟩

theorem Out.below {lm rm : Nat} {f0 f1 : Int → Value} {a b c : World} (h : Out lm rm f0 f1 a b) (k : Below b.heap.size b c) : Out lm rm f0 f1 a c :=
  ⟨k.os.trans h.os, k.tape.trans h.tape, k.output.trans h.output, Nat.le_trans h.size k.size, fun i h1 h2 h3 h4 => (k.block i (Nat.lt_of_lt_of_le h1 h.size)).trans (h.block i h1 h2 h3 h4), h.norow⟩

/-- What was there ahead of the net is as it was. -/
theorem Out.old {lm rm B : Nat} {f0 f1 : Int → Value} {a b : World} (h : Out lm rm f0 f1 a b) (hB : B ≤ a.heap.size) (h1 : B ≤ lm) (h2 : B ≤ rm) (h3 : ∀ k, k < B → NoRow f0 k) : Below B a b :=
  ⟨h.os, h.tape, h.output, h.size, fun k hk => h.block k (by omega) (by omega) (by omega) (h3 k hk)⟩

theorem Out.cell {lm rm : Nat} {f0 f1 : Int → Value} {a b : World} (h : Out lm rm f0 f1 a b) {k o : Nat} {v : Value} (hc : a.cell? ⟨k, o, none⟩ = some v) (h1 : k ≠ lm) (h2 : k ≠ rm) (h3 : NoRow f0 k) : b.cell? ⟨k, o, none⟩ = some v := by
  have hl := lt_of_cell hc
  simp only [World.cell?] at hc ⊢
  rw [h.block k hl h1 h2 h3]
  exact hc

/-- Each edge is gone along once, either way. -/
def edS (L : List Stp) : List (Stp × Int) := L.map fun e => (e, 1)

theorem edS_off {L : List Stp} {e : Stp} (h : ∀ d ∈ L, d.1 ≠ e.1) : e ∉ lD (edS L) ∧ bk e ∉ lD (edS L) := by
  have key : ∀ q : Stp, q.1 = e.1 → q ∉ lD (edS L) := fun q hq k => by
    obtain ⟨t, h1, h2⟩ := (lD_mem _ _).1 k
    obtain ⟨d, hd, rfl⟩ := List.mem_map.1 h1
    rcases h2 with h2 | h2
    · exact h d hd (by rw [← hq, h2])
    · exact h d hd (by rw [← hq, h2]; rfl)
  exact ⟨key e rfl, key (bk e) rfl⟩

set_option maxHeartbeats 4000000 in
set_option maxRecDepth 100000 in
theorem byEdges_any (n B0 q : Nat) (u : Value) (L : List (Int × Int × Int)) (w : World) (h : G.GAt w B0 90 59 q (n : Int) u L) (hn : n ≤ 16) (hed : Ed n 70 L) :
    Calls Tryd.prog 60 #[.pointer (some ⟨q, 0, none⟩)] w fun e w' => ∃ p lm rm N B f, e = .returned (.pointer (some ⟨p, 0, none⟩)) ∧ Laid w' p lm rm N B (edS L) f ∧ N ≤ 280 ∧ Below w.heap.size w w' ∧ w.heap.size ≤ p ∧ w.heap.size ≤ lm ∧ w.heap.size ≤ rm ∧ w.heap.size ≤ B := by
  have HG : Hid (G.GAt w B0 90 59 q (n : Int) u L) := h
  have HE : Hid (Ed n 70 L) := hed
  have hlen := hed.len
  clear h hed
  go_enter Tryd.func60, Tryd.ntmps60
  go_wp2_with fail
  refine (newNet_any w).mono ?_
  rintro e w2 ⟨p, lm, rm, rfl, hA2, h2, h3, h4, hb2⟩
  have HB2 : Hid (Below w.heap.size w w2 ∧ w.heap.size ≤ p ∧ w.heap.size ≤ lm ∧ w.heap.size ≤ rm) := ⟨hb2, h2, h3, h4⟩
  have HL2 : Hid (Laid w2 p lm rm 0 w2.heap.size [] (fun _ => .slice none 0 0)) := ⟨_, _, hA2⟩
  have hlr : lm < w2.heap.size ∧ rm < w2.heap.size := ⟨hA2.lv.lt, hA2.rb⟩
  clear hA2 h2 h3 h4 hb2
  go_wp2_with fail
  refine (G.edges_any (n : Int) B0 q u L w2 (HG.out.below HB2.out.1) (by omega)).mono ?_
  rintro e w3 ⟨v, rfl, ho, hb3⟩
  obtain ⟨m, hm⟩ : ∃ m, m = L.length := ⟨_, rfl⟩
  have HM : Hid (m = L.length) := hm
  obtain ⟨va, vc, hv⟩ := ho.slice_len
  rw [← hm] at hv hlen
  subst hv
  have HO : Hid (G.Owns w3 w2.heap.size 59 (.slice va m vc) L) := ho
  have HS3 : Hid (Laid w3 p lm rm 0 w2.heap.size [] (fun _ => .slice none 0 0)) := HL2.out.below hb3
  have HB3 : Hid (Below w2.heap.size w2 w3) := hb3
  clear ho hb3 HL2 hm
  go_wp2_with fail
  go_loopw [10] (fun s10 wq => ∃ (j : Nat) (f : Int → Value), j ≤ m ∧ s10 = .int .i64 j ∧ Laid wq p lm rm (4 * j) w2.heap.size (edS (L.take j)) f ∧ Out lm rm (fun _ => .slice none 0 0) f w3 wq) (fun s10 _ => m - (intOf s10).toNat)
  case atStart => exact ⟨0, _, Nat.zero_le _, rfl, by simpa [edS] using HS3.out, Out.refl _ _ _ _⟩
  case round =>
    clear HS3
    obtain ⟨j, f, hj, rfl, hr, hk⟩ := hrel
    have HR : Hid (Laid wr p lm rm (4 * j) w2.heap.size (edS (L.take j)) f ∧ Out lm rm (fun _ => .slice none 0 0) f w3 wr) := ⟨hr, hk⟩
    clear hr hk
    by_cases hlt : j < m
    · obtain ⟨e, hx⟩ : ∃ e, L[j]? = some e := ⟨_, List.getElem?_eq_getElem (by rw [← HM.out]; exact hlt)⟩
      have heL := List.mem_of_getElem? hx
      obtain ⟨x, y, hxy, hyn, he⟩ := HE.out.ends e heL
      have hids := HE.out.ids e heL
      obtain ⟨g, hva⟩ : ∃ g, va = some ⟨g, 0, none⟩ := by
        rcases HO.out.shape with ⟨_, k⟩ | ⟨g, cap, k, _⟩
        · rw [k] at hx; simp at hx
        · injection k with e1 _ _
          exact ⟨g, e1⟩
      subst hva
      obtain ⟨r0, r1, r2⟩ := HO.out.at (g := g) rfl hx
      have hgb : w2.heap.size ≤ g := (World.ownsRow.lt HO.out g rfl).1
      have hnr : NoRow (fun _ => Value.slice none 0 0) g := fun _ k => by simp [Value.ownBlock] at k
      have q0 := HR.out.2.cell r0 (by omega) (by omega) hnr
      have q1 := HR.out.2.cell r1 (by omega) (by omega) hnr
      have q2 := HR.out.2.cell r2 (by omega) (by omega) hnr
      have HTK : Hid (L.take (j + 1) = L.take j ++ [e]) := by
        show L.take (j + 1) = _
        rw [List.take_add_one, hx]; rfl
      have hone : ∀ d ∈ L.take j, d.1 ≠ e.1 := by
        intro d hd k
        obtain ⟨i, hi, hie⟩ := List.mem_iff_getElem.1 hd
        obtain ⟨hjl, hje⟩ := List.getElem?_eq_some_iff.1 hx
        have hij : i < j := by simp at hi; omega
        rw [List.getElem_take] at hie
        have := List.pairwise_iff_getElem.1 HE.out.up i j (by omega) hjl hij
        rw [hie, hje] at this; omega
      obtain ⟨x0, hx0⟩ : ∃ x0, e.1 = x0 := ⟨_, rfl⟩
      rw [hx0] at he hids hone q0
      subst he
      simp only at q0 q1 q2
      obtain ⟨W1, hW1⟩ : ∃ W1, W1 = wr.alloc (.cells #[.int .i64 x0, .int .i64 (x : Int), .int .i64 (y : Int)] 59) := ⟨_, rfl⟩
      have hh : W1.heap[wr.heap.size]? = some (.cells #[.int .i64 x0, .int .i64 (x : Int), .int .i64 (y : Int)] 59) := by rw [hW1]; exact heap_alloc_new wr _
      have p0 : W1.cell? ⟨wr.heap.size, 0, none⟩ = some (.int .i64 x0) := by simp [World.cell?, hh]
      have p1 : W1.cell? ⟨wr.heap.size, 1, none⟩ = some (.int .i64 (x : Int)) := by simp [World.cell?, hh]
      have p2 : W1.cell? ⟨wr.heap.size, 2, none⟩ = some (.int .i64 (y : Int)) := by simp [World.cell?, hh]
      have hbW : Below wr.heap.size wr W1 := by rw [hW1]; exact (Below.refl _ _).alloc (Nat.le_refl _) _
      have HR1 : Hid (Laid W1 p lm rm (4 * j) w2.heap.size (edS (L.take j)) f ∧ Out lm rm (fun _ => .slice none 0 0) f w3 W1) := ⟨HR.out.1.below hbW, HR.out.2.below hbW⟩
      have HW1 : Hid (wr.alloc (.cells #[.int .i64 x0, .int .i64 (x : Int), .int .i64 (y : Int)] 59) = W1) := hW1.symm
      have hoff := edS_off (e := (x0, (x : Int), (y : Int))) hone
      have hln : (edS (L.take j)).length = j := by
        have := HM.out
        simp [edS]; omega
      have hw3 : wfS (x0, (x : Int), (y : Int)) := ⟨wf_small (x := x0) (by omega) (by omega), wf_small (x := (x : Int)) (by omega) (by omega), wf_small (x := (y : Int)) (by omega) (by omega)⟩
      have HC : Hid _ := lay_more HR1.out.1 (s := (x0, (x : Int), (y : Int))) (c := 1) hw3 (by show (x : Int) ≠ (y : Int); omega) (by omega) (by omega) (by omega) (by omega) hoff.1 hoff.2
      unfold vS at HC
      simp only at HC
      clear hx r0 r1 r2 hone hx0 heL hh hW1 hbW HR hoff hln hw3
      go_wp2_with fail
      rw [HW1.out]
      refine Calls.mono HC.out ?_
      rintro e' w4 ⟨rfl, f', hr4, hk4⟩
      have HR4 : Hid (Laid w4 p lm rm (4 * (j + 1)) w2.heap.size (edS (L.take (j + 1))) f' ∧ Out lm rm (fun _ => .slice none 0 0) f' w3 w4) := by
        rw [HTK.out]
        refine ⟨?_, HR1.out.2.trans hk4⟩
        have : edS (L.take j ++ [(x0, (x : Int), (y : Int))]) = edS (L.take j) ++ [((x0, (x : Int), (y : Int)), 1)] := by simp [edS]
        rw [this]
        exact hr4
      clear hr4 hk4 HR1 p0 p1 p2 HC
      go_wp2_with fail
      go_roundw
      case rel => exact ⟨j + 1, f', by omega, by go_num, HR4.out.1, HR4.out.2⟩
      case measure => simp [intOf]; omega
    · have hje : j = m := by omega
      subst hje
      have HF : Hid (Laid wr p lm rm (4 * j) w2.heap.size (edS L) f ∧ Below w.heap.size w wr) := by
        have h1 := HR.out.1
        rw [List.take_of_length_le (by rw [← HM.out]; omega)] at h1
        refine ⟨h1, ?_⟩
        have hs := HB2.out.1.size
        have h2 := HR.out.2.old (B := w.heap.size) (Nat.le_trans hs HB3.out.size) HB2.out.2.2.1 HB2.out.2.2.2 (fun k _ _ e => by simp [Value.ownBlock] at e)
        exact (HB2.out.1.trans (HB3.out.mono hs)).trans h2
      clear HR
      go_wp2_with fail
      go_ret
      exact ⟨p, lm, rm, 4 * j, w2.heap.size, f, rfl, HF.out.1, by omega, HF.out.2, HB2.out.2.1, HB2.out.2.2.1, HB2.out.2.2.2, HB2.out.1.size⟩

end Go.Proofs.YtpkdpddillebfaaDoor.S
