/- What is known of a graph (Of), whichever graph it is. -/
import Derived.Test.YtebcjaenhiiflaaGreatDoorBBh
import Derived.Test.YtebcjaenhiiflaaGreatDoorG5
import Derived.Test.YtebcjaenhiiflaaGreatDoorIm
import Derived.Test.YtebcjaenhiiflaaGreatDoorJb
namespace Go.Proofs.YtebcjaenhiiflaaGreatDoor.S
open Go.RowKit Go.WideMaps Go.Maps

variable {w0 w w' : World} {p pw bw pt bt mp n N : Nat} {R B : List (Int × Int × Int)} {W T : List Nat} {D : DataW Unit}

theorem below_bk (h : Below w0.heap.size w0 w) (k : Bk bw bt mp w w') (h1 : w0.heap.size ≤ bw) (h2 : w0.heap.size ≤ bt) (h3 : w0.heap.size ≤ mp) : Below w0.heap.size w0 w' :=
  ⟨k.os.trans h.os, k.tape.trans h.tape, k.output.trans h.output, Nat.le_trans h.size k.size, fun j hj => (k.block j (Nat.lt_of_lt_of_le hj h.size) (by omega) (by omega) (by omega)).trans (h.block j hj)⟩

/-- The value behind some of the edges, whichever their order. -/
structure Rn (w0 w : World) (p pw bw pt bt mp n : Nat) (R B : List (Int × Int × Int)) (W T : List Nat) (D : DataW Unit) (N : Nat) : Prop where
  now : Now w p pw bw pt bt mp N n R B W T D
  below : Below w0.heap.size w0 w
  unl : Unl R
  ids : ∀ e ∈ R, 0 ≤ e.1 ∧ e.1 ≤ 1099511627776
  bl : B.length ≤ R.length
  nl : N ≤ R.length
  rl : R.length ≤ 120
  hb : w0.heap.size ≤ bw ∧ w0.heap.size ≤ bt ∧ w0.heap.size ≤ mp

theorem Rn.below' (h : Rn w0 w p pw bw pt bt mp n R B W T D N) (hb : Below w.heap.size w w') : Rn w0 w' p pw bw pt bt mp n R B W T D N :=
  { h with now := h.now.below hb, below := h.below.trans (hb.mono h.below.size) }

/-- What one edge more leaves. -/
def RnPost (w0 : World) (p pw bw pt bt mp n : Nat) (R : List (Int × Int × Int)) (f : Int × Int × Int) (w : World) (e : Ending) (w' : World) : Prop :=
  ∃ ok B' W' T' D' N', e = .returned (.tuple #[.bool ok, .nilIface]) ∧ Rn w0 w' p pw bw pt bt mp n (R ++ [f]) B' W' T' D' N' ∧ Bk bw bt mp w w' ∧ (ok = true ↔ f ∈ B')

theorem wf_id {x : Int} (h : 0 ≤ x ∧ x ≤ 1099511627776) : (Lit.int .i64 x).wf = true := WalkArith.wf_i64 (by omega)

/-- One edge more. -/
theorem rn_add (h : Rn w0 w p pw bw pt bt mp n R B W T D N) (i : Int) (x y : Nat) (hx : x < n) (hy : y < n) (hxy : x ≠ y) (hn : n ≤ 40) (hi : 0 ≤ i ∧ i ≤ 1099511627776) (hone : ∀ e ∈ R, e.1 ≠ i) (hl : R.length < 120) :
    Calls Tryz.prog 57 #[.pointer (some ⟨p, 0, none⟩), .int .i64 i, .int .i64 (x : Int), .int .i64 (y : Int)] w (RnPost w0 p pw bw pt bt mp n R (edge i x y) w) := by
  refine (badd_in i x y w h.now hx hy hxy hn (by have := h.nl; omega) (by have := h.bl; omega) hone (wf_id hi) (fun e he => wf_id (h.ids e he))).mono ?_
  rintro e w' ⟨ok, W', T', D', B', N', rfl, hnow, hBl, hNl, hbk, hok⟩
  have hu : Unl (R ++ [edge i x y]) := by
    unfold Unl
    rw [List.pairwise_append]
    refine ⟨h.unl, List.pairwise_singleton _ _, fun a ha b hb => ?_⟩
    rw [List.mem_singleton.1 hb]; exact hone a ha
  refine ⟨ok, B', W', T', D', N', rfl, ⟨hnow, below_bk h.below hbk h.hb.1 h.hb.2.1 h.hb.2.2, hu, ?_, ?_, ?_, ?_, h.hb⟩, hbk, hok⟩
  · intro e he
    rcases List.mem_append.1 he with he | he
    · exact h.ids e he
    · rw [List.mem_singleton.1 he]; exact hi
  · have := h.bl; simp; omega
  · have := h.nl; simp; omega
  · simp; omega

theorem rn_start {w1 : World} (h : BAt w1 p pw bw pt bt mp 0 (List.range n) (List.range n) (.map [])) (hb : Below w.heap.size w w1) (h1 : w.heap.size ≤ bw) (h2 : w.heap.size ≤ bt) (h3 : w.heap.size ≤ mp) : Rn w w1 p pw bw pt bt mp n [] [] (List.range n) (List.range n) (.map []) 0 :=
  ⟨⟨h, St.start n, Dis.empty⟩, hb, List.Pairwise.nil, by simp, by simp, Nat.le_refl _, by simp, h1, h2, h3⟩

/-- An edge of the graph is kept as it is. -/
theorem edge_self {i : Int} {x y : Nat} (h : x < y) : edge i x y = (i, (x : Int), (y : Int)) ∧ edge i y x = (i, (x : Int), (y : Int)) := by
  unfold edge
  rw [show min x y = x by omega, show max x y = y by omega, show min y x = x by omega, show max y x = y by omega]
  exact ⟨rfl, rfl⟩

theorem ok_ends {L : List (Int × Int × Int)} (h : I.Ok n L) {e : Int × Int × Int} (he : e ∈ L) : ∃ x y : Nat, x < y ∧ y < n ∧ e = (e.1, (x : Int), (y : Int)) := by
  have h1 := h.ed e he
  obtain ⟨i, a, b⟩ := e
  dsimp only at h1 ⊢
  obtain ⟨x, rfl⟩ := Int.eq_ofNat_of_zero_le h1.2.1
  obtain ⟨y, rfl⟩ := Int.eq_ofNat_of_zero_le (show 0 ≤ b by omega)
  exact ⟨x, y, by omega, by omega, rfl⟩

set_option maxHeartbeats 4000000 in
set_option maxRecDepth 100000 in
theorem of_gen (n B0 q : Nat) (u : Value) (L : List (Int × Int × Int)) (w : World) (h : G.GAt w B0 168 61 q (n : Int) u L) (hed : I.Ok n L) :
    Calls Tryz.prog 54 #[.pointer (some ⟨q, 0, none⟩)] w fun e w' => ∃ p pw bw pt bt mp B W T D N, e = .returned (.pointer (some ⟨p, 0, none⟩)) ∧ Rn w w' p pw bw pt bt mp n L B W T D N := by
  have HG : Hid (G.GAt w B0 168 61 q (n : Int) u L) := h
  have HE : Hid (I.Ok n L) := hed
  have hlen := hed.len
  have hn14 := hed.n40
  clear h hed
  go_enter Tryz.func54, Tryz.ntmps54
  go_wp2_with fail
  refine (G.nodes_any (n : Int) B0 q u L w HG.out).mono ?_
  rintro e w1 ⟨rfl, hw1⟩
  subst hw1
  go_wp2_with fail
  refine (bnew_in n w1 HE.out.n40).mono ?_
  rintro e w2 ⟨p, pw, bw, pt, bt, mp, rfl, hb2, hbl2, _, h2, h3, h4⟩
  have HS : Hid (Rn w1 w2 p pw bw pt bt mp n [] [] (List.range n) (List.range n) (.map []) 0) := rn_start hb2 hbl2 h2 h3 h4
  clear hb2 hbl2 h2 h3 h4
  go_wp2_with fail
  refine (G.edges_any (n : Int) B0 q u L w2 (HG.out.below HS.out.below) (by omega)).mono ?_
  rintro e w3 ⟨v, rfl, ho, hb3⟩
  obtain ⟨m, hm⟩ : ∃ m, m = L.length := ⟨_, rfl⟩
  have HM : Hid (m = L.length) := hm
  obtain ⟨va, vc, hv⟩ := ho.slice_len
  rw [← hm] at hv hlen
  subst hv
  have HO : Hid (G.Owns w3 w2.heap.size 61 (.slice va m vc) L) := ho
  have HS3 : Hid (Rn w1 w3 p pw bw pt bt mp n [] [] (List.range n) (List.range n) (.map []) 0) := HS.out.below' hb3
  have hbw : bw < w3.heap.size ∧ bt < w3.heap.size ∧ mp < w3.heap.size := ⟨HS3.out.now.at_.sw.blt, HS3.out.now.at_.st.blt, HS3.out.now.at_.hm.lt⟩
  have hbw2 : bw < w2.heap.size ∧ bt < w2.heap.size ∧ mp < w2.heap.size := ⟨HS.out.now.at_.sw.blt, HS.out.now.at_.st.blt, HS.out.now.at_.hm.lt⟩
  clear ho hb3 HS hm
  go_wp2_with fail
  go_loopw [16] (fun s16 wq => ∃ (j : Nat) (B : List (Int × Int × Int)) (W T : List Nat) (D : DataW Unit) (N : Nat), j ≤ m ∧ s16 = .int .i64 j ∧ Rn w1 wq p pw bw pt bt mp n (L.take j) B W T D N ∧ Bk bw bt mp w3 wq) (fun s16 _ => m - (intOf s16).toNat)
  case atStart => exact ⟨0, _, _, _, _, _, Nat.zero_le _, rfl, by simpa using HS3.out, Bk.refl _⟩
  case round =>
    clear HS3
    obtain ⟨j, B, W, T, D, N, hj, rfl, hr, hk⟩ := hrel
    have HR : Hid (Rn w1 wr p pw bw pt bt mp n (L.take j) B W T D N ∧ Bk bw bt mp w3 wr) := ⟨hr, hk⟩
    clear hr hk
    by_cases hlt : j < m
    · obtain ⟨e, hx⟩ : ∃ e, L[j]? = some e := ⟨_, List.getElem?_eq_getElem (by rw [← HM.out]; exact hlt)⟩
      have heL := List.mem_of_getElem? hx
      obtain ⟨x, y, hxy, hyn, he⟩ := ok_ends HE.out heL
      have hids := (HE.out.ed e heL).1
      obtain ⟨g, hva⟩ : ∃ g, va = some ⟨g, 0, none⟩ := by
        rcases HO.out.shape with ⟨_, k⟩ | ⟨g, cap, k, _⟩
        · rw [k] at hx; simp at hx
        · injection k with e1 _ _
          exact ⟨g, e1⟩
      subst hva
      obtain ⟨r0, r1, r2⟩ := HO.out.at (g := g) rfl hx
      have hgb : w2.heap.size ≤ g := (World.ownsRow.lt HO.out g rfl).1
      have q0 := HR.out.2.cell r0 (by omega) (by omega) (by omega)
      have q1 := HR.out.2.cell r1 (by omega) (by omega) (by omega)
      have q2 := HR.out.2.cell r2 (by omega) (by omega) (by omega)
      have HTK : Hid (L.take (j + 1) = L.take j ++ [e]) := by
        show L.take (j + 1) = _
        rw [List.take_add_one, hx]; rfl
      have hone : ∀ d ∈ L.take j, d.1 ≠ e.1 := by
        intro d hd k
        obtain ⟨i, hi, hie⟩ := List.mem_iff_getElem.1 hd
        obtain ⟨hjl, hje⟩ := List.getElem?_eq_some_iff.1 hx
        have hij : i < j := by simp at hi; omega
        rw [List.getElem_take] at hie
        have := List.pairwise_iff_getElem.1 HE.out.up i j (by omega) hjl hij
        rw [hie, hje] at this; omega
      obtain ⟨x0, hx0⟩ : ∃ x0, e.1 = x0 := ⟨_, rfl⟩
      rw [hx0] at he hids hone q0
      subst he
      have HONE : Hid (∀ d ∈ L.take j, d.1 ≠ x0) := hone
      simp only at q0 q1 q2
      clear hx r0 r1 r2 hone hx0 heL
      -- the edge's box
      obtain ⟨W1, hW1⟩ : ∃ W1, W1 = wr.alloc (.cells #[.int .i64 x0, .int .i64 (x : Int), .int .i64 (y : Int)] 61) := ⟨_, rfl⟩
      have hh : W1.heap[wr.heap.size]? = some (.cells #[.int .i64 x0, .int .i64 (x : Int), .int .i64 (y : Int)] 61) := by rw [hW1]; exact heap_alloc_new wr _
      have p0 : W1.cell? ⟨wr.heap.size, 0, none⟩ = some (.int .i64 x0) := by simp [World.cell?, hh]
      have p1 : W1.cell? ⟨wr.heap.size, 1, none⟩ = some (.int .i64 (x : Int)) := by simp [World.cell?, hh]
      have p2 : W1.cell? ⟨wr.heap.size, 2, none⟩ = some (.int .i64 (y : Int)) := by simp [World.cell?, hh]
      have hbW : Below wr.heap.size wr W1 := by rw [hW1]; exact (Below.refl _ _).alloc (Nat.le_refl _) _
      have HR1 : Hid (Rn w1 W1 p pw bw pt bt mp n (L.take j) B W T D N ∧ Bk bw bt mp w3 W1) := ⟨HR.out.1.below' hbW, HR.out.2.trans (Bk.of_below hbW)⟩
      have HW1 : Hid (wr.alloc (.cells #[.int .i64 x0, .int .i64 (x : Int), .int .i64 (y : Int)] 61) = W1) := hW1.symm
      have hjl : (L.take j).length < 120 := by simp; omega
      clear hh hW1 hbW HR
      go_wp2_with fail
      rw [HW1.out]
      refine (rn_add HR1.out.1 x0 x y (by omega) (by omega) (by omega) HE.out.n40 hids HONE.out hjl).mono ?_
      rintro e' w4 ⟨ok, B', W', T', D', N', rfl, hr4, hk4, _⟩
      rw [(edge_self hxy).1] at hr4
      have HR4 : Hid (Rn w1 w4 p pw bw pt bt mp n (L.take (j + 1)) B' W' T' D' N' ∧ Bk bw bt mp w3 w4) := by
        rw [HTK.out]
        exact ⟨hr4, HR1.out.2.trans hk4⟩
      clear hr4 hk4 HR1 p0 p1 p2
      go_wp2_with fail
      go_roundw
      case rel => exact ⟨j + 1, B', W', T', D', N', by omega, by go_num, HR4.out.1, HR4.out.2⟩
      case measure => simp [intOf]; omega
    · have hje : j = m := by omega
      subst hje
      have HF : Hid (Rn w1 wr p pw bw pt bt mp n L B W T D N) := by
        have := HR.out.1
        rw [List.take_of_length_le (by rw [← HM.out]; omega)] at this
        exact this
      clear HR
      go_wp2_with fail
      go_ret
      exact ⟨p, pw, bw, pt, bt, mp, B, W, T, D, N, rfl, HF.out⟩

end Go.Proofs.YtebcjaenhiiflaaGreatDoor.S
namespace Go.Proofs.YtebcjaenhiiflaaGreatDoor.G
open Go.RowKit

theorem has_f (x n : Int) (B p : Nat) (v : Value) (L : List E) (w : World) (h : GAt w B 168 61 p n v L) (hx : ¬ (0 ≤ x ∧ x < n)) :
    Calls Tryz.prog 116 #[.pointer (some ⟨p, 0, none⟩), .int .i64 x] w fun e w' => e = .returned (.bool false) ∧ w' = w := has_any x n B p v L false w h (decide_eq_false hx).symm

set_option maxHeartbeats 2000000 in
set_option maxRecDepth 100000 in
theorem add_range (id a b n : Int) (B p : Nat) (v : Value) (L : List E) (w : World) (h : GAt w B 168 61 p n v L) (hr : ¬ InRange id a b n) :
    Calls Tryz.prog 56 #[.pointer (some ⟨p, 0, none⟩), .int .i64 id, .int .i64 a, .int .i64 b] w fun e w' => e = .returned (.iface 23 (.int .i64 2)) ∧ Below w.heap.size w w' := by
  have HG : Hid (GAt w B 168 61 p n v L) := h
  clear h
  by_cases h1 : id < 0
  · clear hr
    go_enter Tryz.func56, Tryz.ntmps56
    go_wp2_with fail
    go_ret
    exact ⟨rfl, Below.refl _ _⟩
  by_cases h2 : 1099511627776 < id
  · clear hr
    go_enter Tryz.func56, Tryz.ntmps56
    go_wp2_with fail
    go_ret
    exact ⟨rfl, Below.refl _ _⟩
  by_cases h3 : 0 ≤ a ∧ a < n
  · have h4 : ¬ (0 ≤ b ∧ b < n) := fun hb => hr ⟨⟨by omega, by omega⟩, h3, hb⟩
    have H3 : Hid (0 ≤ a ∧ a < n) := h3
    have H4 : Hid (¬ (0 ≤ b ∧ b < n)) := h4
    clear hr h3 h4
    go_enter Tryz.func56, Tryz.ntmps56
    go_wp2_with fail
    refine (has_t a n B p v L w HG.out H3.out).mono ?_
    rintro e w1 ⟨rfl, rfl⟩
    go_wp2_with fail
    refine (has_f b n B p v L w1 HG.out H4.out).mono ?_
    rintro e w2 ⟨rfl, rfl⟩
    go_wp2_with fail
    go_ret
    exact ⟨rfl, Below.refl _ _⟩
  · have H3 : Hid (¬ (0 ≤ a ∧ a < n)) := h3
    clear hr h3
    go_enter Tryz.func56, Tryz.ntmps56
    go_wp2_with fail
    refine (has_f a n B p v L w HG.out H3.out).mono ?_
    rintro e w1 ⟨rfl, rfl⟩
    go_wp2_with fail
    go_ret
    exact ⟨rfl, Below.refl _ _⟩

set_option maxHeartbeats 2000000 in
set_option maxRecDepth 100000 in
theorem add_arg (id a n : Int) (B p : Nat) (v : Value) (L : List E) (w : World) (h : GAt w B 168 61 p n v L) (hr : InRange id a a n) :
    Calls Tryz.prog 56 #[.pointer (some ⟨p, 0, none⟩), .int .i64 id, .int .i64 a, .int .i64 a] w fun e w' => e = .returned (.iface 23 (.int .i64 1)) ∧ Below w.heap.size w w' := by
  have HG : Hid (GAt w B 168 61 p n v L) := h
  have h1 : ¬ id < 0 := by have := hr.1.1; omega
  have h2 : ¬ 1099511627776 < id := by have := hr.1.2; omega
  have H3 : Hid (0 ≤ a ∧ a < n) := hr.2.1
  clear hr h
  go_enter Tryz.func56, Tryz.ntmps56
  go_wp2_with fail
  refine (has_t a n B p v L w HG.out H3.out).mono ?_
  rintro e w1 ⟨rfl, rfl⟩
  go_wp2_with fail
  refine (has_t a n B p v L w1 HG.out H3.out).mono ?_
  rintro e w2 ⟨rfl, rfl⟩
  go_wp2_with fail
  go_ret
  exact ⟨rfl, Below.refl _ _⟩

set_option maxHeartbeats 2000000 in
set_option maxRecDepth 100000 in
theorem add_twice (id a b n : Int) (B p : Nat) (v : Value) (L : List E) (w : World) (h : GAt w B 168 61 p n v L) (hu : Up L) (hl : L.length ≤ 120) (hr : InRange id a b n) (hab : a ≠ b) (hs : (seen L id).isSome = true) :
    Calls Tryz.prog 56 #[.pointer (some ⟨p, 0, none⟩), .int .i64 id, .int .i64 a, .int .i64 b] w fun e w' => e = .returned (.iface 23 (.int .i64 9)) ∧ Below w.heap.size w w' := by
  have HC : Hid (Calls Tryz.prog 114 #[.pointer (some ⟨p, 0, none⟩), .int .i64 id] w fun e w' => e = .returned (.tuple #[.int .i64 (place L id : Nat), .bool true]) ∧ Below w.heap.size w w') := find_any id B p (place L id) n v L true w h hu (by omega) rfl hs.symm
  have HG : Hid (GAt w B 168 61 p n v L) := h
  have h1 : ¬ id < 0 := by have := hr.1.1; omega
  have h2 : ¬ 1099511627776 < id := by have := hr.1.2; omega
  have H3 : Hid (0 ≤ a ∧ a < n) := hr.2.1
  have H4 : Hid (0 ≤ b ∧ b < n) := hr.2.2
  have h5 : (a == b) = false := beq_eq_false_iff_ne.2 hab
  clear hr h hu hs hab
  go_enter Tryz.func56, Tryz.ntmps56
  go_wp2_with fail
  refine (has_t a n B p v L w HG.out H3.out).mono ?_
  rintro e w1 ⟨rfl, rfl⟩
  go_wp2_with fail
  refine (has_t b n B p v L w1 HG.out H4.out).mono ?_
  rintro e w2 ⟨rfl, rfl⟩
  go_wp2_with fail
  refine HC.out.mono ?_
  rintro e w3 ⟨rfl, hb⟩
  have HB : Hid (Below w2.heap.size w2 w3) := hb
  clear hb
  go_wp2_with fail
  go_ret
  exact ⟨rfl, HB.out⟩

set_option maxHeartbeats 2000000 in
set_option maxRecDepth 100000 in
theorem add_full (id a b n : Int) (B p : Nat) (v : Value) (L : List E) (w : World) (h : GAt w B 168 61 p n v L) (hu : Up L) (hl : L.length ≤ 120) (hr : InRange id a b n) (hab : a ≠ b) (hs : seen L id = none) (hf : 120 ≤ L.length) :
    Calls Tryz.prog 56 #[.pointer (some ⟨p, 0, none⟩), .int .i64 id, .int .i64 a, .int .i64 b] w fun e w' => e = .returned (.iface 23 (.int .i64 12)) ∧ Below w.heap.size w w' := by
  have HC : Hid (Calls Tryz.prog 114 #[.pointer (some ⟨p, 0, none⟩), .int .i64 id] w fun e w' => e = .returned (.tuple #[.int .i64 (place L id : Nat), .bool false]) ∧ Below w.heap.size w w') := find_any id B p (place L id) n v L false w h hu (by omega) rfl (by rw [hs]; rfl)
  have HG : Hid (GAt w B 168 61 p n v L) := h
  have h1 : ¬ id < 0 := by have := hr.1.1; omega
  have h2 : ¬ 1099511627776 < id := by have := hr.1.2; omega
  have H3 : Hid (0 ≤ a ∧ a < n) := hr.2.1
  have H4 : Hid (0 ≤ b ∧ b < n) := hr.2.2
  have h5 : (a == b) = false := beq_eq_false_iff_ne.2 hab
  obtain ⟨va, vc, hv⟩ := h.row.slice_len
  obtain ⟨m, hm⟩ : ∃ m, m = L.length := ⟨_, rfl⟩
  rw [← hm] at hf hv
  have hf' : (120 : Int) ≤ (m : Int) := by omega
  clear hr h hu hs hab hl hm
  go_enter Tryz.func56, Tryz.ntmps56
  go_wp2_with fail
  refine (has_t a n B p v L w HG.out H3.out).mono ?_
  rintro e w1 ⟨rfl, rfl⟩
  go_wp2_with fail
  refine (has_t b n B p v L w1 HG.out H4.out).mono ?_
  rintro e w2 ⟨rfl, rfl⟩
  go_wp2_with fail
  refine HC.out.mono ?_
  rintro e w3 ⟨rfl, hb⟩
  have HB : Hid (Below w2.heap.size w2 w3) := hb
  have hp := (HG.out.below hb).c1
  rw [hv] at hp
  clear hb hv HC
  go_wp2_with fail
  go_ret
  exact ⟨rfl, HB.out⟩

end Go.Proofs.YtebcjaenhiiflaaGreatDoor.G
namespace Go.Proofs.YtebcjaenhiiflaaGreatDoor.I
open Go.RowKit Go.WideMaps Go.Maps Go.Lib

/-- An index: all of it lies at or beyond w0's end; what lay below is as it was. -/
structure IAt (w0 w : World) (x p q n : Nat) (v : Value) (L R B : List G.E) (W T : List Nat) (D : DataW Unit) (pw bw pt bt mp N : Nat) : Prop where
  ix : Ix w x p q
  gra : G.GAt w w0.heap.size 168 61 p (n : Int) v L
  rn : S.Rn w0 w q pw bw pt bt mp n R B W T D N
  ok : Ok n L
  perm : R.Perm L
  hx : w0.heap.size ≤ x
  hp : w0.heap.size ≤ p

variable {w0 w w' : World} {x p q n : Nat} {v : Value} {L R B : List G.E} {W T : List Nat} {D : DataW Unit} {pw bw pt bt mp N : Nat}

theorem IAt.below' (h : IAt w0 w x p q n v L R B W T D pw bw pt bt mp N) (hb : Below w.heap.size w w') : IAt w0 w' x p q n v L R B W T D pw bw pt bt mp N :=
  { h with ix := h.ix.below hb h.ix.lt, gra := h.gra.below hb, rn := h.rn.below' hb }

theorem own61 {B' : Nat} {L : List G.E} (h : G.Owns w B' 61 v L) {g : Nat} (hg : v.ownBlock = some g) : ∃ cur, w.heap[g]? = some (.cells cur 61) := by
  rcases h.2 with ⟨rfl, _⟩ | ⟨g', cap, cur, rfl, _, hc, _⟩
  · simp [Value.ownBlock] at hg
  · simp [Value.ownBlock] at hg
    subst hg
    exact ⟨_, hc⟩

/-- What the graph's step keeps. -/
theorem kept_other {B' p' : Nat} {m : Int} (h : G.GAt w B' 168 61 p' m v L) (k : G.Kept p' v.ownBlock w w') {g : Nat} {o : Obj} (hg : w.heap[g]? = some o) (h1 : ∀ cur, o ≠ .cells cur 168) (h2 : ∀ cur, o ≠ .cells cur 61) : w'.heap[g]? = some o := by
  rw [k.block g (G.lt_of_some hg) ?_ ?_]
  · exact hg
  · rintro rfl
    have := hg.symm.trans h.hp
    injection this with this
    exact h1 _ this
  · intro e
    obtain ⟨cur, hc⟩ := own61 h.row e.symm
    have := hg.symm.trans hc
    injection this with this
    exact h2 _ this

/-- What the bridges' step keeps. -/
theorem bk_other (hb : S.BAt w q pw bw pt bt mp N W T D) (k : S.Bk bw bt mp w w') {g t : Nat} {cur : Array Value} (hg : w.heap[g]? = some (.cells cur t)) (ht : t ≠ 3) : w'.heap[g]? = some (.cells cur t) := by
  obtain ⟨es, c, hm⟩ := hb.mobj
  rw [k.block g (G.lt_of_some hg) ?_ ?_ ?_]
  · exact hg
  · rintro rfl
    have := hg.symm.trans hb.sw.hb; simp at this; exact ht this.2
  · rintro rfl
    have := hg.symm.trans hb.st.hb; simp at this; exact ht this.2
  · rintro rfl
    have := hg.symm.trans hm; simp at this

theorem bat_kept {B' p' : Nat} {m : Int} (hb : S.BAt w q pw bw pt bt mp N W T D) (h : G.GAt w B' 168 61 p' m v L) (k : G.Kept p' v.ownBlock w w') : S.BAt w' q pw bw pt bt mp N W T D := by
  obtain ⟨es, c, hm, F, hs, hD⟩ := hb.hm
  exact ⟨kept_other h k hb.hp (by simp) (by simp), ⟨kept_other h k hb.sw.hp (by simp) (by simp), kept_other h k hb.sw.hb (by simp) (by simp)⟩, ⟨kept_other h k hb.st.hp (by simp) (by simp), kept_other h k hb.st.hb (by simp) (by simp)⟩, ⟨es, c, kept_other h k hm (by simp) (by simp), F, hs, hD⟩, hb.pp, hb.bb⟩

theorem gat_bk {B' p' : Nat} {m : Int} (hb : S.BAt w q pw bw pt bt mp N W T D) (h : G.GAt w B' 168 61 p' m v L) (k : S.Bk bw bt mp w w') : G.GAt w' B' 168 61 p' m v L := by
  refine ⟨bk_other hb k h.hp (by decide), ⟨h.row.1, ?_⟩, h.ne⟩
  rcases h.row.2 with hn | ⟨g, cap, cur, rfl, hB, hg, rest⟩
  · exact .inl hn
  · exact .inr ⟨g, cap, cur, rfl, hB, bk_other hb k hg (by decide), rest⟩

theorem below_kept' {o : Option Nat} {p' : Nat} (h : Below w0.heap.size w0 w) (k : G.Kept p' o w w') (h1 : w0.heap.size ≤ p') (h2 : ∀ j, o = some j → w0.heap.size ≤ j) : Below w0.heap.size w0 w' :=
  ⟨k.os.trans h.os, k.tape.trans h.tape, k.output.trans h.output, Nat.le_trans h.size k.size, fun j hj => (k.block j (Nat.lt_of_lt_of_le hj h.size) (by omega) (fun e => by have := h2 j e.symm; omega)).trans (h.block j hj)⟩

/-- The graph's step. -/
theorem IAt.graph (h : IAt w0 w x p q n v L R B W T D pw bw pt bt mp N) (k : G.Kept p v.ownBlock w w') : Ix w' x p q ∧ S.Rn w0 w' q pw bw pt bt mp n R B W T D N :=
  ⟨kept_other h.gra k h.ix (by simp) (by simp), { h.rn with now := ⟨bat_kept h.rn.now.at_ h.gra k, h.rn.now.st, h.rn.now.dis⟩, below := below_kept' h.rn.below k h.hp (fun j hj => (h.gra.lt hj).1) }⟩

theorem edg_edge (id : Int) (a b : Nat) : S.edge id a b = edg id (a : Int) (b : Int) := by
  unfold S.edge edg
  simp only [Prod.mk.injEq, true_and]
  omega

/-- What Add keeps: all but five blocks. -/
structure Ikp (p : Nat) (o : Option Nat) (bw bt mp : Nat) (w w' : World) : Prop where
  os : w'.os = w.os
  tape : w'.tape = w.tape
  output : w'.output = w.output
  size : w.heap.size ≤ w'.heap.size
  block : ∀ k, k < w.heap.size → k ≠ p → some k ≠ o → k ≠ bw → k ≠ bt → k ≠ mp → w'.heap[k]? = w.heap[k]?

instance (id a b n : Int) : Decidable (G.InRange id a b n) := by unfold G.InRange; infer_instance

/-- The error of an Add; 0: there is none. -/
def addC (n : Nat) (L : List G.E) (id a b : Int) : Int :=
  if ¬ G.InRange id a b (n : Int) then 2 else if a = b then 1 else if (G.seen L id).isSome then 9 else if 120 ≤ L.length then 12 else 0

theorem seen_iff {L : List G.E} (hu : G.Up L) (id : Int) : G.seen L id = none ↔ ∀ x ∈ L, x.1 ≠ id := by
  constructor
  · intro h x hx e
    rw [G.seen_some hu hx e] at h
    cases h
  · exact G.seen_none

theorem addC_zero {n : Nat} {L : List G.E} (h : Ok n L) (id a b : Int) : addC n L id a b = 0 ↔ Fits n L id a b := by
  unfold addC Fits G.InRange
  have hs := seen_iff h.up id
  split
  · next k => exact ⟨fun h => (by cases h), fun f => absurd ⟨f.1, f.2.1, f.2.2.1⟩ k⟩
  · next k =>
    have k := Classical.not_not.1 k
    split
    · next e => exact ⟨fun h => (by cases h), fun f => absurd e f.2.2.2.1⟩
    · next e =>
      cases hx : G.seen L id with
      | some y =>
        rw [if_pos (by simp)]
        refine ⟨fun h => (by cases h), fun f => ?_⟩
        have := hs.2 f.2.2.2.2.1
        rw [hx] at this; cases this
      | none =>
        rw [if_neg (by simp)]
        have h1 := hs.1 hx
        split
        · next l => exact ⟨fun h => (by cases h), fun f => by have := f.2.2.2.2.2; omega⟩
        · next l => exact ⟨fun _ => ⟨k.1, k.2.1, k.2.2, e, h1, by omega⟩, fun _ => rfl⟩

/-- The graph's Add, where it is refused. -/
theorem gadd_no {m : Nat} (h : G.GAt w m 168 61 p (n : Int) v L) (hok : Ok n L) (id a b : Int) (hc : addC n L id a b ≠ 0) :
    Calls Tryz.prog 56 #[.pointer (some ⟨p, 0, none⟩), .int .i64 id, .int .i64 a, .int .i64 b] w fun e w' => e = .returned (.iface 23 (.int .i64 (addC n L id a b))) ∧ Below w.heap.size w w' := by
  unfold addC at hc ⊢
  split
  · next k => exact G.add_range id a b (n : Int) m p v L w h k
  · next k =>
    rw [if_neg k] at hc
    have k := Classical.not_not.1 k
    split
    · next e => subst e; exact G.add_arg id a (n : Int) m p v L w h k
    · next e =>
      rw [if_neg e] at hc
      split
      · next hs => exact G.add_twice id a b (n : Int) m p v L w h hok.up hok.len k e hs
      · next hs =>
        rw [if_neg hs] at hc
        have hs' : G.seen L id = none := by cases hq : G.seen L id <;> simp_all
        split
        · next l => exact G.add_full id a b (n : Int) m p v L w h hok.up hok.len k e hs' l
        · next l => rw [if_neg l] at hc; exact absurd rfl hc

set_option maxHeartbeats 1000000 in
set_option maxRecDepth 100000 in
theorem iadd_no (id a b : Int) (w : World) (h : IAt w0 w x p q n v L R B W T D pw bw pt bt mp N) (hc : addC n L id a b ≠ 0) :
    Calls Tryz.prog 21 #[.pointer (some ⟨x, 0, none⟩), .int .i64 id, .int .i64 a, .int .i64 b] w fun e w' => e = .returned (.tuple #[.bool false, .iface 23 (.int .i64 (addC n L id a b))]) ∧ Below w.heap.size w w' := by
  have HA : Hid _ := gadd_no h.gra h.ok id a b hc
  have c0 := h.ix.c0
  generalize addC n L id a b = c at *
  clear h
  go_enter Tryz.func21, Tryz.ntmps21
  go_wp2_with (go_at_call 56; refine Calls.mono HA.out ?_; rintro e w1 ⟨rfl, hb⟩)
  go_ret2
  exact ⟨rfl, hb⟩

/-- What Add leaves. -/
def IaddPost (w0 w : World) (x p q n : Nat) (v : Value) (L R : List G.E) (pw bw pt bt mp : Nat) (id a b : Int) (e : Ending) (w' : World) : Prop :=
  ∃ ok v' B' W' T' D' N', e = .returned (.tuple #[.bool ok, .nilIface]) ∧ IAt w0 w' x p q n v' (G.putE L (edg id a b)) (R ++ [edg id a b]) B' W' T' D' pw bw pt bt mp N' ∧ (ok = true ↔ edg id a b ∈ B') ∧ Ikp p v.ownBlock bw bt mp w w' ∧ (∀ k, v'.ownBlock = some k → v.ownBlock = some k ∨ w.heap.size ≤ k)

set_option maxHeartbeats 1000000 in
set_option maxRecDepth 100000 in
theorem iadd_ok (id : Int) (a b : Nat) (w : World) (h : IAt w0 w x p q n v L R B W T D pw bw pt bt mp N) (hf : Fits n L id (a : Int) (b : Int)) :
    Calls Tryz.prog 21 #[.pointer (some ⟨x, 0, none⟩), .int .i64 id, .int .i64 (a : Int), .int .i64 (b : Int)] w (IaddPost w0 w x p q n v L R pw bw pt bt mp id (a : Int) (b : Int)) := by
  have HH : Hid (IAt w0 w x p q n v L R B W T D pw bw pt bt mp N) := h
  have HF : Hid (Fits n L id (a : Int) (b : Int)) := hf
  have hsn : G.seen L id = none := (seen_iff h.ok.up id).2 hf.2.2.2.2.1
  have HA : Hid _ := G.add_ok id (a : Int) (b : Int) (n : Int) (min (a : Int) (b : Int)) (max (a : Int) (b : Int)) w0.heap.size p v L (G.putE L (edg id (a : Int) (b : Int))) w h.gra h.rn.below.size h.ok.up hf.2.2.2.2.2 ⟨hf.1, hf.2.1, hf.2.2.1⟩ hf.2.2.2.1 hsn rfl rfl rfl
  have c0 := h.ix.c0
  clear h hf
  go_enter Tryz.func21, Tryz.ntmps21
  go_wp2_with (go_at_call 56; refine Calls.mono HA.out ?_; rintro e w1 ⟨rfl, v1, hg1, hk1, hf1⟩; have c1 := (HH.out.graph hk1).1.c1)
  obtain ⟨hx1, hr1⟩ := HH.out.graph hk1
  have HG1 : Hid (G.GAt w1 w0.heap.size 168 61 p (n : Int) v1 (G.putE L (edg id (a : Int) (b : Int)))) := hg1
  have HK1 : Hid (G.Kept p v.ownBlock w w1) := hk1
  have HF1 : Hid (G.Fresh w v v1) := hf1
  have HX1 : Hid (Ix w1 x p q) := hx1
  have HR1 : Hid (S.Rn w0 w1 q pw bw pt bt mp n R B W T D N) := hr1
  have HB : Hid _ := S.rn_add hr1 id a b (by have := HF.out; unfold Fits at this; omega) (by have := HF.out; unfold Fits at this; omega) (fun e => HF.out.2.2.2.1 (by rw [e])) HH.out.ok.n40 HF.out.1 (fun e he => HF.out.2.2.2.2.1 e (HH.out.perm.mem_iff.1 he)) (by rw [HH.out.perm.length_eq]; exact HF.out.2.2.2.2.2)
  clear hg1 hk1 hf1 hx1 hr1 HA c0 hsn
  refine Calls.mono HB.out ?_
  rintro e w2 ⟨ok, B', W', T', D', N', rfl, hr2, hk2, hok⟩
  go_wp2_with fail
  go_ret2
  rw [edg_edge] at hr2 hok
  refine ⟨ok, v1, B', W', T', D', N', rfl, ⟨bk_other HR1.out.now.at_ hk2 HX1.out (by decide), gat_bk HR1.out.now.at_ HG1.out hk2, hr2, HH.out.ok.put HF.out, ?_, HH.out.hx, HH.out.hp⟩, hok, ?_, HF1.out⟩
  · exact (List.perm_append_comm.trans (List.Perm.cons _ HH.out.perm)).trans (G.putE_perm L _).symm
  · exact ⟨hk2.os.trans HK1.out.os, hk2.tape.trans HK1.out.tape, hk2.output.trans HK1.out.output, Nat.le_trans HK1.out.size hk2.size, fun k hk h1 h2 h3 h4 h5 => (hk2.block k (Nat.lt_of_lt_of_le hk HK1.out.size) h3 h4 h5).trans (HK1.out.block k hk h1 h2)⟩

end Go.Proofs.YtebcjaenhiiflaaGreatDoor.I
namespace Go.Proofs.YtebcjaenhiiflaaGreatDoor.I
open Go.RowKit Go.WideMaps Go.Maps Go.Lib

theorem gnew_out (n : Int) (w : World) (h : n < 0 ∨ 40 < n) :
    Calls Tryz.prog 53 #[.int .i64 n] w fun e w' => e = .returned (.tuple #[.pointer none, .iface 23 (.int .i64 2)]) ∧ w' = w := by
  by_cases h0 : n < 0
  · have hd : decide (n < 0) = true := decide_eq_true h0
    go_enter Tryz.func53, Tryz.ntmps53
    go_wp2_with fail
    go_ret2
    exact ⟨rfl, rfl⟩
  · have h1 : 40 < n := by omega
    have hd : decide (n < 0) = false := decide_eq_false h0
    have hd1 : decide (40 < n) = true := decide_eq_true h1
    go_enter Tryz.func53, Tryz.ntmps53
    go_wp2_with fail
    go_ret2
    exact ⟨rfl, rfl⟩

theorem inew_out (n : Int) (w : World) (h : n < 0 ∨ 40 < n) :
    Calls Tryz.prog 17 #[.int .i64 n] w fun e w' => e = .returned (.tuple #[.pointer none, .iface 23 (.int .i64 2)]) ∧ w' = w := by
  have HN : Hid _ := gnew_out n w h
  clear h
  go_enter Tryz.func17, Tryz.ntmps17
  go_wp2_with (go_at_call 53; refine Calls.mono HN.out ?_; rintro e w1 ⟨rfl, hw1⟩; subst w1)
  go_ret2
  exact ⟨rfl, rfl⟩

/-- What New leaves. -/
def InewPost (w : World) (n : Nat) (e : Ending) (w' : World) : Prop :=
  ∃ x p q v B W T D pw bw pt bt mp N, e = .returned (.tuple #[.pointer (some ⟨x, 0, none⟩), .nilIface]) ∧ IAt w w' x p q n v [] [] B W T D pw bw pt bt mp N

set_option maxHeartbeats 1000000 in
set_option maxRecDepth 100000 in
theorem inew_in (n : Nat) (w : World) (h : n ≤ 40) : Calls Tryz.prog 17 #[.int .i64 (n : Int)] w (InewPost w n) := by
  have HN : Hid _ := G.new_in (n : Int) w (by omega) (by omega)
  have HL : Hid (n ≤ 40) := h
  clear h
  go_enter Tryz.func17, Tryz.ntmps17
  go_wp2_with (go_at_call 53; refine Calls.mono HN.out ?_; rintro e w1 ⟨rfl, hw1'⟩; have HW1 : Hid (w1 = w.alloc (.cells #[.int .i64 (n : Int), .slice none 0 0] 168)) := hw1'; clear hw1')
  have hw1 := HW1.out
  have hg : G.GAt w1 w.heap.size 168 61 w.heap.size (n : Int) (.slice none 0 0) [] := by
    rw [hw1]
    exact ⟨World.alloc_heap_new w _, World.ownsRow_nil _ _ _ _, by simp [Value.ownBlock]⟩
  have hb1 : Below w.heap.size w w1 := by rw [hw1]; exact (Below.refl _ _).alloc (Nat.le_refl _) _
  have HG : Hid (G.GAt w1 w.heap.size 168 61 w.heap.size (n : Int) (.slice none 0 0) []) := hg
  have HB1 : Hid (Below w.heap.size w w1) := hb1
  have HO : Hid _ := S.of_gen n w.heap.size w.heap.size (.slice none 0 0) [] w1 hg (Ok.nil HL.out)
  clear hg hb1 hw1 HN HW1
  refine Calls.mono HO.out ?_
  rintro e w2 ⟨q, pw, bw, pt, bt, mp, B, W, T, D, N, rfl, hr⟩
  have HR : Hid (S.Rn w1 w2 q pw bw pt bt mp n [] B W T D N) := hr
  clear hr HO
  go_wp2_with fail
  go_ret2
  have hb := HB1.out.size
  refine ⟨w2.heap.size, w.heap.size, q, .slice none 0 0, B, W, T, D, pw, bw, pt, bt, mp, N, rfl, ?_⟩
  have hb2 : Below w2.heap.size w2 (w2.alloc (.cells #[.pointer (some ⟨w.heap.size, 0, none⟩), .pointer (some ⟨q, 0, none⟩)] 85)) := (Below.refl _ _).alloc (Nat.le_refl _) _
  have hr2 := HR.out.below' hb2
  refine ⟨World.alloc_heap_new w2 _, (HG.out.below HR.out.below).below hb2, { hr2 with below := HB1.out.trans (hr2.below.mono hb), hb := ⟨by have := HR.out.hb; omega, by have := HR.out.hb; omega, by have := HR.out.hb; omega⟩ }, Ok.nil HL.out, List.Perm.refl _, Nat.le_trans hb HR.out.below.size, Nat.le_refl _⟩

end Go.Proofs.YtebcjaenhiiflaaGreatDoor.I
