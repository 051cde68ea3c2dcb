/- Package flow: fill. -/
import Derived.Test.YtpkdpddillebfabFo
namespace Go.Proofs.Ytpkdpddillebfab.S
open Go Go.ChangeMaps Go.MapKept Go.WideShapes
open Go.RowKit Go.WideMaps Go.Maps F

theorem bk_inj {s t : Stp} (h : bk s = bk t) : s = t := by rw [← bk_bk s, h, bk_bk]

theorem tk_sum (r : Stp → Int) {s : Stp} (hs : fr s ≠ tt s) (x : Stp) : tk r s x + tk r s (bk x) = r x + r (bk x) := by
  have hb := bk_ne hs
  rw [tk_at r hs, tk_at r hs]
  by_cases h1 : x = s
  · subst h1
    rw [if_pos rfl, if_neg hb, if_pos rfl]; omega
  · by_cases h2 : x = bk s
    · subst h2
      rw [if_neg hb, if_pos rfl, bk_bk, if_pos rfl]; omega
    · have h3 : bk x ≠ s := fun e => h2 (by rw [← e, bk_bk])
      have h4 : bk x ≠ bk s := fun e => h1 (bk_inj e)
      rw [if_neg h1, if_neg h2, if_neg h3, if_neg h4]

theorem tks_sum : ∀ (p : List Stp) (r : Stp → Int), (∀ s ∈ p, fr s ≠ tt s) → ∀ x, tks r p x + tks r p (bk x) = r x + r (bk x)
  | [], _, _, _ => rfl
  | s :: p, r, h, x => by
    show tks (tk r s) p x + tks (tk r s) p (bk x) = _
    rw [tks_sum p (tk r s) (fun t ht => h t (by simp [ht])) x, tk_sum r (h s (by simp)) x]

theorem tks_other : ∀ (p : List Stp) (r : Stp → Int) (s : Stp), (∀ t ∈ p, fr t ≠ tt t) → s ∉ p → r s ≤ tks r p s
  | [], _, _, _, _ => Int.le_refl _
  | t :: p, r, s, h, hn => by
    have h1 := tks_other p (tk r t) s (fun x hx => h x (by simp [hx])) (fun k => hn (by simp [k]))
    have h2 : s ≠ t := fun e => hn (by simp [e])
    have h3 := tk_at r (h t (by simp)) (x := s)
    rw [if_neg h2] at h3
    have h4 : r s ≤ tk r t s := by rw [h3]; split <;> omega
    exact Int.le_trans h4 h1

theorem tks_step {p : List Stp} {j : Nat} {s : Stp} (h : p[j]? = some s) (r : Stp → Int) : tks r (p.take (j + 1)) = tk (tks r (p.take j)) s := by
  rw [List.take_add_one, h]
  exact tks_snoc r _ s

theorem not_mem_take {p : List Stp} {j : Nat} {s : Stp} (hn : p.Nodup) (h : p[j]? = some s) : s ∉ p.take j := by
  intro k
  obtain ⟨i, hi, he⟩ := List.mem_iff_getElem.1 k
  have hij : i < j ∧ i < p.length := by rw [List.length_take] at hi; omega
  rw [List.getElem_take] at he
  have := (List.getElem?_inj hij.2 hn).1 ((List.getElem?_eq_getElem hij.2).trans ((congrArg some he).trans h.symm))
  omega

section
variable {w w' : World} {p lm rm N N' B : Nat} {M M' : DataW Unit} {L : DataW Value} {D : List Stp} {r r' : Stp → Int} {f : Int → Value} {g : Int → List Stp}

theorem But.grown {b : Nat} (h : But b w w') : w.grownBy w' (some b) := ⟨h.os, h.tape, h.output, h.size, fun k hk hn => h.block k hk (fun e => hn (by rw [e]))⟩

/-- The net, behind a step that was taken. -/
theorem NetA.taken (h : NetA w p lm rm N B M L D r f g) (hb : But rm w w') (hn : NetR w' p lm rm N' M' D r') (hN : N ≤ N') : NetA w' p lm rm N' B M' L D r' f g :=
  { net := hn, lv := { h.lv.grown hb.grown h.ne.symm h.rb with mp := (h.lv.grown hb.grown h.ne.symm h.rb).mp.mono hN }, pb := h.pb, rb := h.rb, ne := h.ne }

theorem NetA.more (h : NetA w p lm rm N B M L D r f g) (hN : N ≤ N') : NetA w p lm rm N' B M L D r f g :=
  { h with net := ⟨h.net.hp, h.net.mp.mono hN, h.net.rom⟩, lv := { h.lv with mp := h.lv.mp.mono hN } }

end

/-- A net that is being filled. -/
def Fl (w0 wq : World) (p lm rm N B : Nat) (D : List Stp) (r0 : Stp → Int) (f : Int → Value) (g : Int → List Stp) (a b : Int) (k : Int) (r : Stp → Int) : Prop :=
  ∃ M L, NetA wq p lm rm N B M L D r f g ∧ Fill D (cap D r0) a b r k ∧ (∀ x, r x + r (bk x) = r0 x + r0 (bk x)) ∧ But rm w0 wq

/-- What fill leaves. -/
def FillPost (w : World) (p lm rm N B : Nat) (D : List Stp) (r0 : Stp → Int) (f : Int → Value) (g : Int → List Stp) (a b : Int) (most : Nat) (e : Ending) (w' : World) : Prop :=
  ∃ (k : Nat) (r : Stp → Int), e = .returned (.int .i64 (k : Int)) ∧ Val (cap D r0) a b most k ∧ Fl w w' p lm rm (N + 1000 * most) B D r0 f g a b k r

theorem But.refl' (b : Nat) (w : World) : But b w w := ⟨rfl, rfl, rfl, Nat.le_refl _, fun _ _ _ => rfl⟩

set_option maxHeartbeats 4000000 in
set_option maxRecDepth 100000 in
theorem fill_any (p lm rm N B most : Nat) (M : DataW Unit) (L : DataW Value) (D : List Stp) (r0 : Stp → Int) (f : Int → Value) (g : Int → List Stp) (a b : Int) (w : World) (h : NetA w p lm rm N B M L D r0 f g) (hD : Net D)
    (hg : ∀ x s, s ∈ g x ↔ s ∈ D ∧ fr s = x) (hgl : ∀ x, (g x).length ≤ 1000) (hr : ∀ s ∈ D, 0 ≤ tt s ∧ tt s < 1000) (hDl : D.length ≤ 500) (hsum : ∀ x, r0 x + r0 (bk x) ≤ 2) (hN : N ≤ 1000) (hm : most ≤ 120) (ha0 : 0 ≤ a) (ha1 : a < 1000) (hb0 : 0 ≤ b) (hb1 : b < 1000) (hab : a ≠ b) :
    Calls Try.prog 24 #[.pointer (some ⟨p, 0, none⟩), .int .i64 a, .int .i64 b, .int .i64 (most : Int)] w (FillPost w p lm rm N B D r0 f g a b most) := by
  have HX : Hid (Net D ∧ (∀ x s, s ∈ g x ↔ s ∈ D ∧ fr s = x) ∧ (∀ x, (g x).length ≤ 1000) ∧ (∀ s ∈ D, 0 ≤ tt s ∧ tt s < 1000) ∧ D.length ≤ 500 ∧ (∀ x, r0 x + r0 (bk x) ≤ 2) ∧ rm < B ∧ B ≤ w.heap.size) := ⟨hD, hg, hgl, hr, hDl, hsum, h.rb, h.lv.le⟩
  have HS : Hid (Fl w w p lm rm (N + 1000 * 0) B D r0 f g a b 0 r0) := ⟨M, L, h, ⟨h.net.rom.pos, fun S _ _ => by omega⟩, fun _ => rfl, But.refl' _ _⟩
  have HAB : Hid (a ≠ b) := hab
  have hmf' := hmf
  clear h hD hg hgl hr hDl hsum hab
  go_enter Try.func24, Try.ntmps24
  go_wp2_with fail
  go_loopw [14] (fun s14 wq => ∃ (k : Nat) (r : Stp → Int), k ≤ most ∧ s14 = .int .i64 k ∧ Fl w wq p lm rm (N + 1000 * k) B D r0 f g a b k r) (fun s14 _ => most - (intOf s14).toNat)
  case atStart => exact ⟨0, r0, Nat.zero_le _, rfl, HS.out⟩
  case round =>
    clear HS
    obtain ⟨k, r, hk, rfl, hfl⟩ := hrel
    have HR : Hid (Fl w wr p lm rm (N + 1000 * k) B D r0 f g a b k r) := hfl
    clear hfl
    obtain ⟨wy, hwy⟩ : ∃ wy, wy = wr := ⟨_, rfl⟩
    subst hwy
    by_cases hlt : k < most
    · have HC : Hid (Calls Try.prog 50 #[.pointer (some ⟨p, 0, none⟩), .int .i64 a, .int .i64 b, .func (.func 51) #[.pointer (some ⟨p, 0, none⟩)] #[]] wy (WayPost2 wy D (fun s => decide (0 < r s)) a b)) := by
        obtain ⟨M, L, hA, _, _, _⟩ := HR.out
        refine search_any p lm rm _ B M L D r f g _ a b wy hA HX.out.2.1 HX.out.2.2.1 HX.out.2.2.2.1 HX.out.2.2.2.2.1 ha0 ha1 hb0 hb1 (fun W s hs hW => free_any p lm rm _ M D r s W (hA.net.below hW) hs)
      go_wp2_with fail
      refine Calls.mono HC.out ?_
      rintro e w2 ⟨v, P, rfl, hb2, ho, hP⟩
      clear HC
      obtain ⟨m, hpm⟩ : ∃ m, m = P.length := ⟨_, rfl⟩
      obtain ⟨va, vc, hv⟩ := ho.slice_len
      rw [← hpm] at hv
      subst hv
      have HO : Hid (G.Owns w2 wy.heap.size 96 (.slice va m vc) P) := ho
      have HP : Hid ((Walk a P b ∧ P.Nodup ∧ ∀ s ∈ P, s ∈ D ∧ decide (0 < r s) = true) ∨ (P = [] ∧ ∃ S : Int → Bool, S a = true ∧ S b = false ∧ ∀ s ∈ D, out S s = true → decide (0 < r s) = false)) := hP
      have HM : Hid (m = P.length) := hpm
      have HR2 : Hid (Fl w w2 p lm rm (N + 1000 * k) B D r0 f g a b k r) := by
        obtain ⟨M, L, hA, h2, h3, h4⟩ := HR.out
        exact ⟨M, L, hA.below hb2, h2, h3, h4.trans (But.of_below hb2)⟩
      have HBW : Hid (Below wy.heap.size wy w2) := hb2
      clear ho hP hpm hb2
      by_cases hm0 : m = 0
      · have HV : Hid (Val (cap D r0) a b most k) := by
          have hPn : P = [] := List.eq_nil_of_length_eq_zero (by rw [← HM.out]; exact hm0)
          obtain ⟨M, L, hA, h2, _, _⟩ := HR2.out
          rcases HP.out with ⟨hw, _, _⟩ | ⟨_, S, h3, h4, h5⟩
          · rw [hPn] at hw
            exact absurd hw HAB.out
          · refine h2.done (by omega) (by omega) S h3 h4 (fun s hs ho => ?_)
            have := of_decide_eq_false (h5 s hs ho)
            have := hA.net.rom.pos s
            omega
        subst hm0
        go_wp2_with fail
        go_ret
        refine ⟨k, r, rfl, HV.out, ?_⟩
        obtain ⟨M, L, hA, h2, h3, h4⟩ := HR2.out
        exact ⟨M, L, hA.more (by omega), h2, h3, h4⟩
      · have HW : Hid (Walk a P b ∧ P.Nodup ∧ ∀ s ∈ P, s ∈ D ∧ 1 ≤ r s) := by
          rcases HP.out with ⟨h1, h2, h3⟩ | ⟨h1, _⟩
          · refine ⟨h1, h2, fun s hs => ⟨(h3 s hs).1, ?_⟩⟩
            have := of_decide_eq_true (h3 s hs).2
            omega
          · exact absurd (by rw [HM.out, h1]; rfl) hm0
        have hmD : m ≤ 500 := by
          have h1 := nodup_sub P D HW.out.2.1 (fun x hx => (HW.out.2.2 x hx).1)
          rw [HM.out]
          exact Nat.le_trans h1 HX.out.2.2.2.2.1
        clear HP
        have hmb : ((m : Int) == 0) = false := beq_eq_false_iff_ne.2 (by omega)
        go_wp2_with fail
        go_loopw [29] (fun s29 wq => ∃ (j : Nat) (M' : DataW Unit) (L' : DataW Value), j ≤ m ∧ s29 = .int .i64 j ∧ NetA wq p lm rm (N + 1000 * k + 2 * j) B M' L' D (tks r (P.take j)) f g ∧ But rm w2 wq) (fun s29 _ => m - (intOf s29).toNat)
        case atStart =>
          obtain ⟨M, L, hA, h2, h3, h4⟩ := HR2.out
          exact ⟨0, M, L, Nat.zero_le _, rfl, by simpa [tks] using hA, But.refl' _ _⟩
        case round =>
          obtain ⟨j, M', L', hj, rfl, hA, hbt⟩ := hrel
          have HA : Hid (NetA wr p lm rm (N + 1000 * k + 2 * j) B M' L' D (tks r (P.take j)) f g ∧ But rm w2 wr) := ⟨hA, hbt⟩
          clear hA hbt
          by_cases hjm : j < m
          · obtain ⟨s, hs⟩ : ∃ s, P[j]? = some s := ⟨_, List.getElem?_eq_getElem (by rw [← HM.out]; exact hjm)⟩
            have hsP := List.mem_of_getElem? hs
            obtain ⟨gw, hva⟩ : ∃ gw, va = some ⟨gw, 0, none⟩ := by
              rcases HO.out.shape with ⟨_, e⟩ | ⟨gw, cap, e, _⟩
              · rw [e] at hs; simp at hs
              · injection e with e1 _ _
                exact ⟨gw, e1⟩
            subst hva
            obtain ⟨c0, c1, c2⟩ := HO.out.at (g := gw) rfl hs
            have hgw : gw ≠ rm := by
              have h1 := (World.ownsRow.lt HO.out gw rfl).1
              have h2 := HX.out.2.2.2.2.2.2
              obtain ⟨_, _, _, _, _, h3⟩ := HR.out
              have := h3.size
              omega
            have q0 := keep_cell HA.out.2.grown hgw c0
            have q1 := keep_cell HA.out.2.grown hgw c1
            have q2 := keep_cell HA.out.2.grown hgw c2
            obtain ⟨W1, hW1⟩ : ∃ W1, W1 = wr.alloc (.cells #[.int .i64 s.1, .int .i64 s.2.1, .int .i64 s.2.2] 96) := ⟨_, rfl⟩
            have hbW : Below wr.heap.size wr W1 := by rw [hW1]; exact (Below.refl _ _).alloc (Nat.le_refl _) _
            have hne : ∀ t ∈ P, fr t ≠ tt t := fun t ht => HX.out.1.ne t (HW.out.2.2 t ht).1
            have hT : Calls Try.prog 52 #[.pointer (some ⟨p, 0, none⟩), vS s] W1 (TakePost W1 p lm rm (N + 1000 * k + 2 * j) D (tk (tks r (P.take j)) s)) := by
              obtain ⟨_, _, _, hF, hsm, _⟩ := HR2.out
              refine take_any p lm rm _ M' D _ s W1 (HA.out.1.net.below hbW) (HW.out.2.2 s hsP).1 HX.out.1 ?_ (by omega) (fun x => ?_)
              · exact Int.le_trans (HW.out.2.2 s hsP).2 (tks_other _ r s (fun t ht => hne t (List.mem_of_mem_take ht)) (not_mem_take HW.out.2.1 hs))
              · have h1 := tks_sum (P.take j) r (fun t ht => hne t (List.mem_of_mem_take ht)) x
                have h2 := HA.out.1.net.rom.pos (bk x)
                have h3 := hsm x
                have h4 := HX.out.2.2.2.2.2.1 x
                omega
            have HT : Hid _ := hT
            unfold vS at HT
            have HW1 : Hid (wr.alloc (.cells #[.int .i64 s.1, .int .i64 s.2.1, .int .i64 s.2.2] 96) = W1) := hW1.symm
            have HTS : Hid (tks r (P.take (j + 1)) = tk (tks r (P.take j)) s) := tks_step hs r
            have HBW1 : Hid (Below wr.heap.size wr W1) := hbW
            clear c0 c1 c2 hT hW1 hbW hne hsP hs hgw
            obtain ⟨x, y, z⟩ := s
            simp only at q0 q1 q2 HT HW1
            go_wp2_with fail
            rw [HW1.out]
            refine Calls.mono HT.out ?_
            rintro e w4 ⟨rfl, M4, N4, hn4, hN4, hb4⟩
            have HA4 : Hid (NetA w4 p lm rm (N + 1000 * k + 2 * (j + 1)) B M4 L' D (tks r (P.take (j + 1))) f g ∧ But rm w2 w4) := by
              rw [HTS.out]
              refine ⟨((HA.out.1.below HBW1.out).more (N' := N + 1000 * k + 2 * (j + 1)) (by omega)).taken hb4 ⟨hn4.hp, hn4.mp.mono (by omega), hn4.rom⟩ (Nat.le_refl _), ?_⟩
              exact (HA.out.2.trans (But.of_below HBW1.out)).trans hb4
            clear hn4 hN4 hb4 HA HT q0 q1 q2
            go_wp2_with fail
            go_roundw
            case rel => exact ⟨j + 1, M4, L', by omega, by go_num, HA4.out.1, HA4.out.2⟩
            case measure => simp [intOf]; omega
          · have hje : m = j := by omega
            subst hje
            have HF : Hid (Fl w wr p lm rm (N + 1000 * (k + 1)) B D r0 f g a b ((k + 1 : Nat) : Int) (tks r P)) := by
              have h1 := HA.out.1
              rw [List.take_of_length_le (by rw [← HM.out]; omega)] at h1
              obtain ⟨_, _, _, hF, hsm, hbt⟩ := HR2.out
              refine ⟨M', L', h1.more (by omega), ?_, fun x => ?_, hbt.trans HA.out.2⟩
              · have := hF.way HX.out.1 (fun s hs => (HW.out.2.2 s hs).1) HW.out.1 HW.out.2.1 (fun s hs => (HW.out.2.2 s hs).2)
                rw [show ((k + 1 : Nat) : Int) = (k : Int) + 1 by omega]
                exact this
              · rw [tks_sum P r (fun s hs => HX.out.1.ne s (HW.out.2.2 s hs).1) x]
                exact hsm x
            clear HA
            go_wp2_with fail
            go_roundw
            case rel => exact ⟨k + 1, _, by omega, by go_num, HF.out⟩
            case measure => simp [intOf]; omega
    · have hke : most = k := by omega
      subst hke
      go_wp2_with fail
      go_ret
      refine ⟨most, r, rfl, ?_, HR.out⟩
      obtain ⟨_, _, _, hF, _, _⟩ := HR.out
      exact hF.most (by omega)

end Go.Proofs.Ytpkdpddillebfab.S
