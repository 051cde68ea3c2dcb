/- The contract of the document's own Twice, the whole of it. -/
import Derived.Test.YtleecofpefokhaaGreatDoorDd
namespace Go.Proofs.YtleecofpefokhaaGreatDoor.S
open Go.RowKit Go.WideMaps Go.Maps

theorem allL_start {w : World} {base n b : Nat} {l : List Nat} (hb : base ≤ w.heap.size) (hr : RowL w b l) (hl : l.length = n) :
    AllL ((w.alloc (.cells #[.slice (some ⟨b, 0, none⟩) n n] 39)).alloc (.cells #[.slice (some ⟨w.heap.size, 0, none⟩) 1 1] 42)) base (w.heap.size + 1) n (.slice (some ⟨w.heap.size, 0, none⟩) 1 1) [(b, l)] := by
  refine ⟨?_, ?_, heap_allocs _ _ _⟩
  · refine World.ownsRow.alloc ?_ _
    refine ⟨by simp, .inr ⟨w.heap.size, 1, _, rfl, hb, heap_alloc_new w _, Nat.le_refl _, by unfold maxLen; omega, by simp, ?_⟩⟩
    simp
  · intro p hp
    rw [List.mem_singleton.1 hp]
    exact ⟨(hr.alloc _).alloc _, hl⟩

/-- What the rows of labels say. -/
def Says (n : Nat) (R : List (Int × Int × Int)) (P : List (Nat × List Nat)) (j : Nat) : Prop :=
  ∀ x y, x < n → y < n → ((∀ p ∈ P, p.2.getD x 0 = p.2.getD y 0) ↔ (cnR R x y ∧ ∀ e ∈ R.take j, cnR (rest R e) x y))

theorem says_start {n b : Nat} {R : List (Int × Int × Int)} {l : List Nat} (h : ∀ u v, u < n → v < n → (l.getD u 0 = l.getD v 0 ↔ cnR R u v)) : Says n R [(b, l)] 0 := by
  intro x y hx hy
  simp only [List.mem_singleton, forall_eq, List.take_zero, List.not_mem_nil, false_implies, implies_true, and_true]
  exact h x y hx hy

theorem says_step {n b j : Nat} {R : List (Int × Int × Int)} {l : List Nat} {P : List (Nat × List Nat)} {e : Int × Int × Int} (h : Says n R P j) (hj : R[j]? = some e) (hl : ∀ u v, u < n → v < n → (l.getD u 0 = l.getD v 0 ↔ cnR (rest R e) u v)) : Says n R (P ++ [(b, l)]) (j + 1) := by
  intro x y hx hy
  have h1 := h x y hx hy
  have h2 := hl x y hx hy
  rw [List.take_add_one, hj]
  simp only [Option.toList_some, List.mem_append, List.mem_singleton]
  constructor
  · intro k
    have k1 := h1.1 (fun p hp => k p (.inl hp))
    refine ⟨k1.1, ?_⟩
    rintro d (hd | rfl)
    · exact k1.2 d hd
    · exact h2.1 (k (b, l) (.inr rfl))
  · rintro ⟨k1, k2⟩ p (hp | rfl)
    · exact h1.2 ⟨k1, fun d hd => k2 d (.inl hd)⟩ p hp
    · exact h2.2 (k2 e (.inr rfl))

theorem cell_of_box {w : World} {k t : Nat} {v : Value} (h : w.heap[k]? = some (.cells #[v] t)) : w.cell? ⟨k, 0, none⟩ = some v := by simp [World.cell?, h]

theorem own_slice {w : World} {base e k : Nat} {v : Value} {xs : List Value} (h : w.ownsRow base e 1 v k xs) (hk : 0 < k) : ∃ g cap, v = .slice (some ⟨g, 0, none⟩) k cap := by
  rcases h.2 with ⟨_, hz⟩ | ⟨g, cap, cur, rfl, _⟩
  · omega
  · exact ⟨g, cap, rfl⟩

set_option maxHeartbeats 4000000 in
set_option maxRecDepth 100000 in
theorem twice_doc (n B q : Nat) (u : Value) (R : List (Int × Int × Int)) (L : List Nat) (w : World) (h : G.GAt w B 33 58 q (n : Int) u R) (hl : R.length ≤ 120) (hn : n ≤ 40) (hin : Inn n R) (hg : Good n L) (hL : ∀ x y, x < n → y < n → (L.getD x 0 = L.getD y 0 ↔ (cnR R x y ∧ ∀ e ∈ R, cnR (rest R e) x y))) :
    Calls Tryz.prog 12 #[.pointer (some ⟨q, 0, none⟩)] w (RowsPost w (grps L n)) := by
  have HG : Hid (G.GAt w B 33 58 q (n : Int) u R) := h
  have HLL : Hid (∀ x y, x < n → y < n → (L.getD x 0 = L.getD y 0 ↔ (cnR R x y ∧ ∀ e ∈ R, cnR (rest R e) x y))) := hL
  have HIN : Hid (Inn n R) := hin
  have hmf' := hmf
  obtain ⟨i0, hi0, hz0, hz1, hz2⟩ := info_parts Tryz.info39
  obtain ⟨m, hm⟩ : ∃ m, m = R.length := ⟨_, rfl⟩
  have HM : Hid (m = R.length) := hm
  obtain ⟨ua, uc, hv⟩ := h.row.slice_len
  rw [← hm] at hv hl
  have HV : Hid (u = .slice ua m uc) := hv
  clear h hL hin hm hv
  go_enter Tryz.func12, Tryz.ntmps12
  go_wp2_with fail
  refine (labels_any n B q u R w HG.out (by rw [← HM.out]; exact hl) hn HIN.out).mono ?_
  rintro e w1 ⟨b0, l0, rfl, hr, hb, hll, hlab, hbl⟩
  have HA0 : Hid (AllL ((w1.alloc (.cells #[.slice (some ⟨b0, 0, none⟩) n n] 39)).alloc (.cells #[.slice (some ⟨w1.heap.size, 0, none⟩) 1 1] 42)) w1.heap.size (w1.heap.size + 1) n (.slice (some ⟨w1.heap.size, 0, none⟩) 1 1) [(b0, l0)]) := allL_start (Nat.le_refl _) hr hll
  have HS0 : Hid (Says n R [(b0, l0)] 0) := says_start hlab
  have HB0 : Hid (Below w.heap.size w ((w1.alloc (.cells #[.slice (some ⟨b0, 0, none⟩) n n] 39)).alloc (.cells #[.slice (some ⟨w1.heap.size, 0, none⟩) 1 1] 42))) := hbl.trans ((below_two _ _ _).mono hbl.size)
  have hws := hbl.size
  have hg0 := HG.out.below HB0.out
  have hu1 : ((w1.alloc (.cells #[.slice (some ⟨b0, 0, none⟩) n n] 39)).alloc (.cells #[.slice (some ⟨w1.heap.size, 0, none⟩) 1 1] 42)).cell? ⟨q, 1, none⟩ = some (.slice ua m uc) := by have := hg0.c1; rwa [HV.out] at this
  clear hr hb hlab hbl hg0
  go_wp2_with fail
  go_loopw [5, 14] (fun _ s14 wq => ∃ (j : Nat) (v : Value) (P : List (Nat × List Nat)), j ≤ m ∧ s14 = .int .i64 j ∧ P.length = j + 1 ∧ AllL wq w1.heap.size (w1.heap.size + 1) n v P ∧ Says n R P j ∧ Below w.heap.size w wq) (fun _ s14 _ => m - (intOf s14).toNat)
  case atStart => exact ⟨0, _, _, Nat.zero_le _, rfl, rfl, HA0.out, HS0.out, HB0.out⟩
  case round =>
    obtain ⟨j, v, P, hj, rfl, hPl, hA, hS, hb⟩ := hrel
    have HA : Hid (AllL wr w1.heap.size (w1.heap.size + 1) n v P) := hA
    have HS : Hid (Says n R P j) := hS
    have HB : Hid (Below w.heap.size w wr) := hb
    have hbs := hb.size
    clear hA hS hb HA0 HS0 HB0 hu1
    by_cases hlt : j < m
    · obtain ⟨⟨x0, x1, x2⟩, hx⟩ : ∃ e, R[j]? = some e := ⟨_, List.getElem?_eq_getElem (by rw [← HM.out]; exact hlt)⟩
      have HX : Hid (R[j]? = some (x0, x1, x2)) := hx
      obtain ⟨g, hua⟩ : ∃ g, ua = some ⟨g, 0, none⟩ := by
        rcases HG.out.row.shape with ⟨_, e⟩ | ⟨g, cap, e, _⟩
        · rw [e] at hx; simp at hx
        · rw [HV.out] at e
          injection e with e1 _ _
          exact ⟨g, e1⟩
      obtain ⟨r0, r1, r2⟩ := (HG.out.below HB.out).row.at (g := g) (by rw [HV.out, hua]; rfl) hx
      simp only at r0 r1 r2
      subst hua
      clear hx
      -- the edge's box
      obtain ⟨W1, hW1⟩ : ∃ W1, W1 = wr.alloc (.cells #[.int .i64 x0, .int .i64 x1, .int .i64 x2] 58) := ⟨_, rfl⟩
      have hh : W1.heap[wr.heap.size]? = some (.cells #[.int .i64 x0, .int .i64 x1, .int .i64 x2] 58) := by rw [hW1]; exact heap_alloc_new wr _
      have hbW : Below wr.heap.size wr W1 := by rw [hW1]; exact (Below.refl _ _).alloc (Nat.le_refl _) _
      have HBX : Hid (W1.heap[wr.heap.size]? = some (.cells #[.int .i64 x0, .int .i64 x1, .int .i64 x2] 58)) := hh
      have HBW : Hid (Below w.heap.size w W1) := HB.out.trans (hbW.mono hbs)
      have HAW : Hid (AllL W1 w1.heap.size (w1.heap.size + 1) n v P) := HA.out.below hbW
      have HW1 : Hid (wr.alloc (.cells #[.int .i64 x0, .int .i64 x1, .int .i64 x2] 58) = W1) := hW1.symm
      have hsz : W1.heap.size = wr.heap.size + 1 := by rw [hW1]; simp
      have HPK : Hid (∀ w', Below W1.heap.size W1 w' → w'.cell? ⟨wr.heap.size, 0, none⟩ = some (.int .i64 x0) ∧ w'.cell? ⟨w1.heap.size + 1, 0, none⟩ = some v ∧ AllL w' w1.heap.size (w1.heap.size + 1) n v P ∧ w'.heap[wr.heap.size]? = some (.cells #[.int .i64 x0, .int .i64 x1, .int .i64 x2] 58)) := fun w' hb => by
        have h1 : w'.heap[wr.heap.size]? = some (.cells #[.int .i64 x0, .int .i64 x1, .int .i64 x2] 58) := (hb.block _ (by omega)).trans HBX.out
        exact ⟨by simp [World.cell?, h1], cell_of_box (HAW.out.below hb).box, HAW.out.below hb, h1⟩
      have hlt1 : w1.heap.size + 1 < W1.heap.size := lt_of_some HAW.out.box
      have HWO : Hid (Calls Tryz.prog 25 #[.pointer (some ⟨q, 0, none⟩), .slice (some ⟨wr.heap.size + 1, 0, none⟩) 1 1, .slice none 0 0] (W1.alloc (.cells #[.int .i64 x0] 3)).drew fun e w' => ∃ q' v', e = .returned (.pointer (some ⟨q', 0, none⟩)) ∧ G.GAt w' W1.heap.size 33 58 q' (n : Int) v' (rest R (x0, x1, x2)) ∧ Below W1.heap.size W1 w') := by
        have hb2 : Below W1.heap.size W1 (W1.alloc (.cells #[.int .i64 x0] 3)).drew := ((Below.refl _ _).alloc (Nat.le_refl _) _).drew
        have hgW := (HG.out.below HBW.out).below hb2
        have h1i : G.Ints (W1.alloc (.cells #[.int .i64 x0] 3)).drew (some ⟨wr.heap.size + 1, 0, none⟩) 1 (fun _ => x0) := by
          have := one_id W1 x0
          rw [hsz] at this
          exact this.below ((Below.refl _ _).drew)
        refine (G.rwithout_any (n : Int) B q u R _ none 1 0 1 0 (fun _ => x0) (fun _ => 0) _ hgW (by rw [← HM.out]; omega) h1i (no_id _) (by omega) (by omega)).mono ?_
        rintro e w' ⟨q', v', rfl, hg', hb'⟩
        rw [rest_eq R (x0, x1, x2)] at hg'
        refine ⟨q', v', rfl, ⟨hg'.hp, hg'.row.mono ?_, hg'.ne⟩, hb2.trans (hb'.mono ?_)⟩
        · exact hb2.size
        · exact hb2.size
      have hk1 : W1.drew.cell? ⟨wr.heap.size, 0, none⟩ = some (.int .i64 x0) := (HPK.out W1 (Below.refl _ _)).1
      have hk2 : W1.drew.cell? ⟨w1.heap.size + 1, 0, none⟩ = some v := (HPK.out W1 (Below.refl _ _)).2.1
      have hk3 : (W1.alloc (.cells #[.int .i64 x0] 3)).drew.cell? ⟨w1.heap.size + 1, 0, none⟩ = some v := (HPK.out _ (((Below.refl _ _).alloc (Nat.le_refl _) _).drew)).2.1
      have hk4 : W1.cell? ⟨w1.heap.size + 1, 0, none⟩ = some v := hk2
      have hk5 : (W1.alloc (.cells #[.int .i64 x0] 3)).cell? ⟨w1.heap.size + 1, 0, none⟩ = some v := hk3
      clear hh hbW hW1
      go_upto_region 5 with fail
      rw [HW1.out]
      go_region_law
        (first
          | (obtain ⟨v5, w5, hrun, hown5, hgrow5, _, _⟩ := run_append_own_at (P := Tryz.prog) (w3.alloc (.cells #[.slice (some ⟨b, 0, none⟩) n n] 39)) w1.heap.size 42 42 39 i0 (.slice none 0 0) 1 24 Tryz.underlying42 hi0 hz0 hz1 hz2 rfl (by decide) v P.length _ (HA3.out.own.alloc _) ⟨w3.heap.size, 0, none⟩ 1 1 [.slice (some ⟨b, 0, none⟩) n n] rfl (cell_one_new _ _ _) (one_slice _ _ _) (by unfold maxLen; omega) (by omega) (by simp; omega)
             obtain ⟨g5, cap5, rfl⟩ := own_slice hown5 (by omega)
             refine G.step_append_runK rfl (.tmp 18) (.tmp 25) 42 42 rfl v (.slice (some ⟨w3.heap.size, 0, none⟩) 1 1) (by first | rfl | (simp [Act.eval]; done) | (simp [Act.eval, Act.put]; done)) (by first | rfl | (simp [Act.eval]; done) | (simp [Act.eval, Act.put]; done)) hrun ?_
             obtain ⟨hA5, c5, f5⟩ := HA3.out.push HR3.out.1 HR3.out.2.1 hown5 hgrow5)
          | (go_simp; go_at_call 25; refine Calls.mono HWO.out ?_; rintro e' w2 ⟨q', v', rfl, hg2, hb2⟩; obtain ⟨m1, m2, m3, m4⟩ := HPK.out w2 hb2; have HG2 : Hid (G.GAt w2 W1.heap.size 33 58 q' (n : Int) v' (rest R (x0, x1, x2)) ∧ Below W1.heap.size W1 w2) := ⟨hg2, hb2⟩; clear hg2 hb2 m3 m4)
          | (go_simp; go_at_call 26; refine (labels_any n W1.heap.size q' v' (rest R (x0, x1, x2)) w2 HG2.out.1 (Nat.le_trans (rest_len _ _) (by rw [← HM.out]; exact hl)) hn (inn_rest HIN.out _)).mono ?_; rintro e' w3 ⟨b, l, rfl, hr, hbb, hll', hlab, hb3⟩; have HW3 : Hid (Below W1.heap.size W1 w3) := HG2.out.2.trans (hb3.mono HG2.out.2.size); obtain ⟨m5, m6, m7, m8⟩ := HPK.out w3 HW3.out; have m9 : (w3.alloc (.cells #[.slice (some ⟨b, 0, none⟩) n n] 39)).cell? ⟨w1.heap.size + 1, 0, none⟩ = some v := (HPK.out _ (HW3.out.alloc HW3.out.size _)).2.1; have HA3 : Hid (AllL w3 w1.heap.size (w1.heap.size + 1) n v P) := m7; have HR3 : Hid (RowL w3 b l ∧ l.length = n ∧ (∀ u v, u < n → v < n → (l.getD u 0 = l.getD v 0 ↔ cnR (rest R (x0, x1, x2)) u v))) := ⟨hr, hll', hlab⟩; have hs3 := HW3.out.size; clear hr hbb hlab hb3 m7 m8 hll'))
      all_goals
        have hF0 : (AllL (w5.setCell ⟨w1.heap.size + 1, 0, none⟩ (.slice (some ⟨g5, 0, none⟩) (P.length + 1) cap5)) w1.heap.size (w1.heap.size + 1) n (.slice (some ⟨g5, 0, none⟩) (P.length + 1) cap5) (P ++ [(b, l)]) ∧ Below w.heap.size w (w5.setCell ⟨w1.heap.size + 1, 0, none⟩ (.slice (some ⟨g5, 0, none⟩) (P.length + 1) cap5))) := by
          refine ⟨hA5, ?_⟩
          have hb3 : Below w.heap.size w w3 := HBW.out.trans (HW3.out.mono HBW.out.size)
          exact (hb3.grown ((World.grownBy_alloc w3 _ _).trans hgrow5) hb3.size (fun j hj => Nat.le_trans hws (HA3.out.own.lt j hj).1)).setCell (show w.heap.size ≤ w1.heap.size + 1 by omega) _
        rw [hPl] at hF0
        have HF : Hid _ := hF0
        clear hA5 hgrow5 hown5 hrun c5 f5 hF0
        go_wp2_with fail
        go_roundw
        case rel => exact ⟨j + 1, _, P ++ [(b, l)], by omega, by go_num, by simp [hPl], HF.out.1, says_step HS.out HX.out HR3.out.2.2, HF.out.2⟩
        case measure => simp [intOf]; omega
    · have hje : j = m := by omega
      subst hje
      have hgr := HG.out.below HB.out
      have hc := hgr.c0
      have HAL : Hid (Alike 31 wr n (w1.heap.size + 1) L) := by
        intro W' hW' x y s hx hy hs
        refine twice1 x y (w1.heap.size + 1) n w1.heap.size v P s W' (HA.out.below hW') (by omega) (by omega) hx hy ?_
        have ht : R.take j = R := List.take_of_length_le (by rw [← HM.out]; omega)
        have h1 := HS.out x y hx hy
        rw [ht] at h1
        rw [h1, ← HLL.out x y hx hy, ← hs, beq_iff_eq]
        omega
      clear hgr
      go_wp2_with fail
      refine (parts_any31 n (w1.heap.size + 1) L wr HAL.out hg hn).mono ?_
      rintro e w2 ⟨t, r, c, rfl, hP, hb2⟩
      have HF : Hid (RowsPost w (grps L n) (.returned t) w2) := rowsPost_of hP hb2 HB.out
      clear hP hb2
      go_wp2
      go_ret
      exact HF.out

end Go.Proofs.YtleecofpefokhaaGreatDoor.S
