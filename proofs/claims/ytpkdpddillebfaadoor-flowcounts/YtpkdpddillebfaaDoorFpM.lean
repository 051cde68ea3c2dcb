/- Package flow: fill. -/
import Derived.Test.YtpkdpddillebfaaDoorFo
namespace Go.Proofs.YtpkdpddillebfaaDoor.S
open Go Go.ChangeMaps Go.MapKept Go.WideShapes
open Go.RowKit Go.WideMaps Go.Maps F

theorem bk_inj {s t : Stp} (h : bk s = bk t) : s = t := by rw [← bk_bk s, h, bk_bk]

theorem tk_sum (r : Stp → Int) {s : Stp} (hs : fr s ≠ tt s) (x : Stp) : tk r s x + tk r s (bk x) = r x + r (bk x) := by
  have hb := bk_ne hs
  rw [tk_at r hs, tk_at r hs]
  by_cases h1 : x = s
  · subst h1
    rw [if_pos rfl, if_neg hb, if_pos rfl]; omega
  · by_cases h2 : x = bk s
    · subst h2
      rw [if_neg hb, if_pos rfl, bk_bk, if_pos rfl]; omega
    · have h3 : bk x ≠ s := fun e => h2 (by rw [← e, bk_bk])
      have h4 : bk x ≠ bk s := fun e => h1 (bk_inj e)
      rw [if_neg h1, if_neg h2, if_neg h3, if_neg h4]

theorem tks_sum : ∀ (p : List Stp) (r : Stp → Int), (∀ s ∈ p, fr s ≠ tt s) → ∀ x, tks r p x + tks r p (bk x) = r x + r (bk x)
  | [], _, _, _ => rfl
  | s :: p, r, h, x => by
    show tks (tk r s) p x + tks (tk r s) p (bk x) = _
    rw [tks_sum p (tk r s) (fun t ht => h t (by simp [ht])) x, tk_sum r (h s (by simp)) x]

theorem tks_other : ∀ (p : List Stp) (r : Stp → Int) (s : Stp), (∀ t ∈ p, fr t ≠ tt t) → s ∉ p → r s ≤ tks r p s
  | [], _, _, _, _ => Int.le_refl _
  | t :: p, r, s, h, hn => by
    have h1 := tks_other p (tk r t) s (fun x hx => h x (by simp [hx])) (fun k => hn (by simp [k]))
    have h2 : s ≠ t := fun e => hn (by simp [e])
    have h3 := tk_at r (h t (by simp)) (x := s)
    rw [if_neg h2] at h3
    have h4 : r s ≤ tk r t s := by rw [h3]; split <;> omega
    exact Int.le_trans h4 h1

theorem tks_step {p : List Stp} {j : Nat} {s : Stp} (h : p[j]? = some s) (r : Stp → Int) : tks r (p.take (j + 1)) = tk (tks r (p.take j)) s := by
  rw [List.take_add_one, h]
  exact tks_snoc r _ s

theorem not_mem_take {p : List Stp} {j : Nat} {s : Stp} (hn : p.Nodup) (h : p[j]? = some s) : s ∉ p.take j := by
  intro k
  obtain ⟨i, hi, he⟩ := List.mem_iff_getElem.1 k
  have hij : i < j ∧ i < p.length := by rw [List.length_take] at hi; omega
  rw [List.getElem_take] at he
  have := (List.getElem?_inj hij.2 hn).1 ((List.getElem?_eq_getElem hij.2).trans ((congrArg some he).trans h.symm))
  omega

section
variable {w w' : World} {p lm rm N N' B : Nat} {M M' : DataW Unit} {L : DataW Value} {D : List Stp} {r r' : Stp → Int} {f : Int → Value} {g : Int → List Stp}

theorem But.grown {b : Nat} (h : But b w w') : w.grownBy w' (some b) := ⟨h.os, h.tape, h.output, h.size, fun k hk hn => h.block k hk (fun e => hn (by rw [e]))⟩

/-- The net, behind a step that was taken. -/
theorem NetA.taken (h : NetA w p lm rm N B M L D r f g) (hb : But rm w w') (hn : NetR w' p lm rm N' M' D r') (hN : N ≤ N') : NetA w' p lm rm N' B M' L D r' f g :=
  { net := hn, lv := { h.lv.grown hb.grown h.ne.symm h.rb with mp := (h.lv.grown hb.grown h.ne.symm h.rb).mp.mono hN }, pb := h.pb, rb := h.rb, ne := h.ne }

theorem NetA.more (h : NetA w p lm rm N B M L D r f g) (hN : N ≤ N') : NetA w p lm rm N' B M L D r f g :=
  { h with net := ⟨h.net.hp, h.net.mp.mono hN, h.net.rom⟩, lv := { h.lv with mp := h.lv.mp.mono hN } }

end

/-- A net that is being filled. -/
def Fl (w0 wq : World) (p lm rm N B : Nat) (D : List Stp) (r0 : Stp → Int) (f : Int → Value) (g : Int → List Stp) (a b : Int) (k : Int) (r : Stp → Int) : Prop :=
  ∃ M L, NetA wq p lm rm N B M L D r f g ∧ Fill D (cap D r0) a b r k ∧ (∀ x, r x + r (bk x) = r0 x + r0 (bk x)) ∧ But rm w0 wq

/-- What fill leaves. -/
def FillPost (w : World) (p lm rm N B : Nat) (D : List Stp) (r0 : Stp → Int) (f : Int → Value) (g : Int → List Stp) (a b : Int) (most : Nat) (e : Ending) (w' : World) : Prop :=
  ∃ (k : Nat) (r : Stp → Int), e = .returned (.int .i64 (k : Int)) ∧ Val (cap D r0) a b most k ∧ Fl w w' p lm rm (N + 1000 * most) B D r0 f g a b k r

theorem But.refl' (b : Nat) (w : World) : But b w w := ⟨rfl, rfl, rfl, Nat.le_refl _, fun _ _ _ => rfl⟩

set_option maxHeartbeats 4000000 in
set_option maxRecDepth 100000 in
theorem fill_any (p lm rm N B most : Nat) (M : DataW Unit) (L : DataW Value) (D : List Stp) (r0 : Stp → Int) (f : Int → Value) (g : Int → List Stp) (a b : Int) (w : World) (h : NetA w p lm rm N B M L D r0 f g) (hD : Net D)
    (hg : ∀ x s, s ∈ g x ↔ s ∈ D ∧ fr s = x) (hgl : ∀ x, (g x).length ≤ 1000) (hr : ∀ s ∈ D, 0 ≤ tt s ∧ tt s < 1000) (hDl : D.length ≤ 500) (hsum : ∀ x, r0 x + r0 (bk x) ≤ 2) (hN : N ≤ 1000) (hm : most ≤ 120) (ha0 : 0 ≤ a) (ha1 : a < 1000) (hb0 : 0 ≤ b) (hb1 : b < 1000) (hab : a ≠ b) :
    Calls Tryd.prog 61 #[.pointer (some ⟨p, 0, none⟩), .int .i64 a, .int .i64 b, .int .i64 (most : Int)] w (FillPost w p lm rm N B D r0 f g a b most) := by
  have HX : Hid (Net D ∧ (∀ x s, s ∈ g x ↔ s ∈ D ∧ fr s = x) ∧ (∀ x, (g x).length ≤ 1000) ∧ (∀ s ∈ D, 0 ≤ tt s ∧ tt s < 1000) ∧ D.length ≤ 500 ∧ (∀ x, r0 x + r0 (bk x) ≤ 2) ∧ rm < B ∧ B ≤ w.heap.size) := ⟨hD, hg, hgl, hr, hDl, hsum, h.rb, h.lv.le⟩
  have HS : Hid (Fl w w p lm rm (N + 1000 * 0) B D r0 f g a b 0 r0) := ⟨M, L, h, ⟨h.net.rom.pos, fun S _ _ => by omega⟩, fun _ => rfl, But.refl' _ _⟩
  have HAB : Hid (a ≠ b) := hab
  have hmf' := hmf
  clear h hD hg hgl hr hDl hsum hab
  go_enter Tryd.func61, Tryd.ntmps61
  go_wp2_with fail
  go_loopw [14] (fun s14 wq => ∃ (k : Nat) (r : Stp → Int), k ≤ most ∧ s14 = .int .i64 k ∧ Fl w wq p lm rm (N + 1000 * k) B D r0 f g a b k r) (fun s14 _ => most - (intOf s14).toNat)
  case atStart => exact ⟨0, r0, Nat.zero_le _, rfl, HS.out⟩
  case round =>
    clear HS
    obtain ⟨k, r, hk, rfl, hfl⟩ := hrel
    have HR : Hid (Fl w wr p lm rm (N + 1000 * k) B D r0 f g a b k r) := hfl
    clear hfl
    obtain ⟨wy, hwy⟩ : ∃ wy, wy = wr := ⟨_, rfl⟩
    subst hwy
    by_cases hlt : k < most
    · have HC : Hid (Calls Tryd.prog 84 #[.pointer (some ⟨p, 0, none⟩), .int .i64 a, .int .i64 b, .func (.func 85) #[.pointer (some ⟨p, 0, none⟩)] #[]] wy (WayPost2 wy D (fun s => decide (0 < r s)) a b)) := by
        obtain ⟨M, L, hA, _, _, _⟩ := HR.out
        refine search_any p lm rm _ B M L D r f g _ a b wy hA HX.out.2.1 HX.out.2.2.1 HX.out.2.2.2.1 HX.out.2.2.2.2.1 ha0 ha1 hb0 hb1 (fun W s hs hW => free_any p lm rm _ M D r s W (hA.net.below hW) hs)
      go_wp2_with fail
      refine Calls.mono HC.out ?_
      rintro e w2 ⟨v, P, rfl, hb2, ho, hP⟩
      clear HC
      obtain ⟨m, hpm⟩ : ∃ m, m = P.length := ⟨_, rfl⟩
      obtain ⟨va, vc, hv⟩ := ho.slice_len
      rw [← hpm] at hv
      subst hv
      have HO : Hid (G.Owns w2 wy.heap.size 136 (.slice va m vc) P) := ho
      have HP : Hid ((Walk a P b ∧ P.Nodup ∧ ∀ s ∈ P, s ∈ D ∧ decide (0 < r s) = true) ∨ (P = [] ∧ ∃ S : Int → Bool, S a = true ∧ S b = false ∧ ∀ s ∈ D, out S s = true → decide (0 < r s) = false)) := hP
      have HM : Hid (m = P.length) := hpm
      have HR2 : Hid (Fl w w2 p lm rm (N + 1000 * k) B D r0 f g a b k r) := by
        obtain ⟨M, L, hA, h2, h3, h4⟩ := HR.out
        exact ⟨M, L, hA.below hb2, h2, h3, h4.trans (But.of_below hb2)⟩
      have HBW : Hid (Below wy.heap.size wy w2) := hb2
      clear ho hP hpm hb2
      by_cases hm0 : m = 0
      · have HV : Hid (Val (cap D r0) a b most k) := by
          have hPn : P = [] := List.eq_nil_of_length_eq_zero (by rw [← HM.out]; exact hm0)
          obtain ⟨M, L, hA, h2, _, _⟩ := HR2.out
          rcases HP.out with ⟨hw, _, _⟩ | ⟨_, S, h3, h4, h5⟩
          · rw [hPn] at hw
            exact absurd hw HAB.out
          · refine h2.done (by omega) (by omega) S h3 h4 (fun s hs ho => ?_)
            have := of_decide_eq_false (h5 s hs ho)
            have := hA.net.rom.pos s
            omega
        subst hm0
        go_wp2_with fail
        go_ret
        refine ⟨k, r, rfl, HV.out, ?_⟩
        obtain ⟨M, L, hA, h2, h3, h4⟩ := HR2.out
        exact ⟨M, L, hA.more (by omega), h2, h3, h4⟩
      · have HW : Hid (Walk a P b ∧ P.Nodup ∧ ∀ s ∈ P, s ∈ D ∧ 1 ≤ r s) := by
          rcases HP.out with ⟨h1, h2, h3⟩ | ⟨h1, _⟩
          · refine ⟨h1, h2, fun s hs => ⟨(h3 s hs).1, ?_⟩⟩
            have := of_decide_eq_true (h3 s hs).2
            omega
          · exact absurd (by rw [HM.out, h1]; rfl) hm0
        have hmD : m ≤ 500 := by
          have h1 := nodup_sub P D HW.out.2.1 (fun x hx => (HW.out.2.2 x hx).1)
          rw [HM.out]
          exact Nat.le_trans h1 HX.out.2.2.2.2.1
        clear HP
        have hmb : ((m : Int) == 0) = false := beq_eq_false_iff_ne.2 (by omega)
        go_wp2_with fail
        go_loopw [29] (fun s29 wq => ∃ (j : Nat) (M' : DataW Unit) (L' : DataW Value), j ≤ m ∧ s29 = .int .i64 j ∧ NetA wq p lm rm (N + 1000 * k + 2 * j) B M' L' D (tks r (P.take j)) f g ∧ But rm w2 wq) (fun s29 _ => m - (intOf s29).toNat)
        case atStart =>
          obtain ⟨M, L, hA, h2, h3, h4⟩ := HR2.out
          exact ⟨0, M, L, Nat.zero_le _, rfl, by simpa [tks] using hA, But.refl' _ _⟩
        case round =>
          obtain ⟨j, M', L', hj, rfl, hA, hbt⟩ := hrel
          have HA : Hid (NetA wr p lm rm (N + 1000 * k + 2 * j) B M' L' D (tks r (P.take j)) f g ∧ But rm w2 wr) := ⟨hA, hbt⟩
          clear hA hbt
          by_cases hjm : j < m
          · obtain ⟨s, hs⟩ : ∃ s, P[j]? = some s := ⟨_, List.getElem?_eq_getElem (by rw [← HM.out]; exact hjm)⟩
            have hsP := List.mem_of_getElem? hs
            obtain ⟨gw, hva⟩ : ∃ gw, va = some ⟨gw, 0, none⟩ := by
              rcases HO.out.shape with ⟨_, e⟩ | ⟨gw, cap, e, _⟩
              · rw [e] at hs; simp at hs
              · injection e with e1 _ _
                exact ⟨gw, e1⟩
            subst hva
            obtain ⟨c0, c1, c2⟩ := HO.out.at (g := gw) rfl hs
            have hgw : gw ≠ rm := by
              have h1 := (World.ownsRow.lt HO.out gw rfl).1
              have h2 := HX.out.2.2.2.2.2.2
              obtain ⟨_, _, _, _, _, h3⟩ := HR.out
              have := h3.size
              omega
            have q0 := keep_cell HA.out.2.grown hgw c0
            have q1 := keep_cell HA.out.2.grown hgw c1
            have q2 := keep_cell HA.out.2.grown hgw c2
            obtain ⟨W1, hW1⟩ : ∃ W1, W1 = wr.alloc (.cells #[.int .i64 s.1, .int .i64 s.2.1, .int .i64 s.2.2] 136) := ⟨_, rfl⟩
            have hbW : Below wr.heap.size wr W1 := by rw [hW1]; exact (Below.refl _ _).alloc (Nat.le_refl _) _
            have hne : ∀ t ∈ P, fr t ≠ tt t := fun t ht => HX.out.1.ne t (HW.out.2.2 t ht).1
            have hT : Calls Tryd.prog 86 #[.pointer (some ⟨p, 0, none⟩), vS s] W1 (TakePost W1 p lm rm (N + 1000 * k + 2 * j) D (tk (tks r (P.take j)) s)) := by
              obtain ⟨_, _, _, hF, hsm, _⟩ := HR2.out
              refine take_any p lm rm _ M' D _ s W1 (HA.out.1.net.below hbW) (HW.out.2.2 s hsP).1 HX.out.1 ?_ (by omega) (fun x => ?_)
              · exact Int.le_trans (HW.out.2.2 s hsP).2 (tks_other _ r s (fun t ht => hne t (List.mem_of_mem_take ht)) (not_mem_take HW.out.2.1 hs))
              · have h1 := tks_sum (P.take j) r (fun t ht => hne t (List.mem_of_mem_take ht)) x
                have h2 := HA.out.1.net.rom.pos (bk x)
                have h3 := hsm x
                have h4 := HX.out.2.2.2.2.2.1 x
                omega
            have HT : Hid _ := hT
            unfold vS at HT
            have HW1 : Hid (wr.alloc (.cells #[.int .i64 s.1, .int .i64 s.2.1, .int .i64 s.2.2] 136) = W1) := hW1.symm
            have HTS : Hid (tks r (P.take (j + 1)) = tk (tks r (P.take j)) s) := tks_step hs r
            have HBW1 : Hid (Below wr.heap.size wr W1) := hbW
            clear c0 c1 c2 hT hW1 hbW hne hsP hs hgw
            obtain ⟨x, y, z⟩ := s
            simp only at q0 q1 q2 HT HW1
            go_wp2_with fail
            rw [HW1.out]
            refine Calls.mono HT.out ?_
            rintro e w4 ⟨rfl, M4, N4, hn4, hN4, hb4⟩
            have HA4 : Hid (NetA w4 p lm rm (N + 1000 * k + 2 * (j + 1)) B M4 L' D (tks r (P.take (j + 1))) f g ∧ But rm w2 w4) := by
              rw [HTS.out]
              refine ⟨((HA.out.1.below HBW1.out).more (N' := N + 1000 * k + 2 * (j + 1)) (by omega)).taken hb4 ⟨hn4.hp, hn4.mp.mono (by omega), hn4.rom⟩ (Nat.le_refl _), ?_⟩
              exact (HA.out.2.trans (But.of_below HBW1.out)).trans hb4
            clear hn4 hN4 hb4 HA HT q0 q1 q2
            go_wp2_with fail
            go_roundw
            case rel => exact ⟨j + 1, M4, L', by omega, by go_num, HA4.out.1, HA4.out.2⟩
            case measure => simp [intOf]; omega
          · have hje : m = j := by omega
            subst hje
            have HF : Hid (Fl w wr p lm rm (N + 1000 * (k + 1)) B D r0 f g a b ((k + 1 : Nat) : Int) (tks r P)) := by
              have h1 := HA.out.1
              rw [List.take_of_length_le (by rw [← HM.out]; omega)] at h1
              obtain ⟨_, _, _, hF, hsm, hbt⟩ := HR2.out
              refine ⟨M', L', h1.more (by omega), ?_, fun x => ?_, hbt.trans HA.out.2⟩
              · have := hF.way HX.out.1 (fun s hs => (HW.out.2.2 s hs).1) HW.out.1 HW.out.2.1 (fun s hs => (HW.out.2.2 s hs).2)
                rw [show ((k + 1 : Nat) : Int) = (k : Int) + 1 by omega]
                exact this
              · rw [tks_sum P r (fun s hs => HX.out.1.ne s (HW.out.2.2 s hs).1) x]
                exact hsm x
            clear HA
            go_wp2_with fail
            go_roundw
            case rel => exact ⟨k + 1, _, by omega, by go_num, HF.out⟩
            case measure => simp [intOf]; omega
    · have hke : most = k := by omega
      subst hke
      go_wp2_with fail
      go_ret
      refine ⟨most, r, rfl, ?_, HR.out⟩
      obtain ⟨_, _, _, hF, _, _⟩ := HR.out
      exact hF.most (by omega)

end Go.Proofs.YtpkdpddillebfaaDoor.S
namespace Go.Proofs.YtpkdpddillebfaaDoor.S
open Go Go.ChangeMaps Go.MapKept Go.WideShapes
open Go.RowKit Go.WideMaps Go.Maps F

theorem net_snoc {ss : List (Stp × Int)} {s : Stp} (c : Int) (h : Net (lD ss)) (h1 : s ∉ lD ss) (h2 : bk s ∉ lD ss) (hne : fr s ≠ tt s) : Net (lD (ss ++ [(s, c)])) := by
  rw [lD_snoc]
  refine ⟨?_, fun t ht => ?_, fun t ht => ?_⟩
  · rw [List.nodup_append]
    refine ⟨h.nd, by simp; exact fun e => bk_ne hne e.symm, fun x hx y hy e => ?_⟩
    subst e
    simp at hy
    rcases hy with rfl | rfl
    · exact h1 hx
    · exact h2 hx
  · rcases List.mem_append.1 ht with ht | ht
    · exact List.mem_append_left _ (h.back t ht)
    · simp at ht
      rcases ht with rfl | rfl <;> simp [bk_bk]
  · rcases List.mem_append.1 ht with ht | ht
    · exact h.ne t ht
    · simp at ht
      rcases ht with rfl | rfl
      · exact hne
      · rw [fr_bk, tt_bk]; exact fun e => hne e.symm

theorem net_nil : Net (lD []) := ⟨by simp [lD], by simp [lD], by simp [lD]⟩

theorem ed_one {n : Nat} {L : List Stp} (h : Ed n 70 L) {j : Nat} {e : Stp} (hx : L[j]? = some e) : ∀ d ∈ L.take j, d.1 ≠ e.1 := by
  intro d hd k
  obtain ⟨i, hi, hie⟩ := List.mem_iff_getElem.1 hd
  obtain ⟨hjl, hje⟩ := List.getElem?_eq_some_iff.1 hx
  have hij : i < j := by simp at hi; omega
  rw [List.getElem_take] at hie
  have := List.pairwise_iff_getElem.1 h.up i j (by omega) hjl hij
  rw [hie, hje] at this; omega

theorem take_snoc {α : Type} {L : List α} {j : Nat} {e : α} (hx : L[j]? = some e) : L.take (j + 1) = L.take j ++ [e] := by rw [List.take_add_one, hx]; rfl

theorem net_edS {n : Nat} {L : List Stp} (h : Ed n 70 L) : Net (lD (edS L)) := by
  have : ∀ j, j ≤ L.length → Net (lD (edS (L.take j))) := by
    intro j
    induction j with
    | zero => intro _; simpa [edS] using net_nil
    | succ j ih =>
      intro hj
      have hx : L[j]? = some L[j] := List.getElem?_eq_getElem (by omega)
      obtain ⟨x, y, hxy, _, he⟩ := h.ends L[j] (List.getElem_mem _)
      rw [take_snoc hx]
      have e : edS (L.take j ++ [L[j]]) = edS (L.take j) ++ [(L[j], 1)] := by rw [edS, List.map_append]; rfl
      rw [e]
      have hoff := edS_off (ed_one h hx)
      refine net_snoc 1 (ih (by omega)) hoff.1 hoff.2 ?_
      rw [he]
      show (x : Int) ≠ (y : Int)
      omega
  have h1 := this L.length (Nat.le_refl _)
  rwa [List.take_length] at h1

theorem net_ndS : ∀ j, Net (lD (ndS j))
  | 0 => by simpa [ndS] using net_nil
  | j + 1 => by
    rw [ndS_succ]
    have := nd_off j
    exact net_snoc 0 (net_ndS j) this.1 this.2 (by show 2 * (j : Int) ≠ 2 * (j : Int) + 1; omega)

theorem net_noS {n : Nat} {L : List Stp} (h : Ed n 70 L) : Net (lD (noS n L)) := by
  have : ∀ j, j ≤ L.length → Net (lD (noS n (L.take j))) := by
    intro j
    induction j with
    | zero => intro _; simpa [noS] using net_ndS n
    | succ j ih =>
      intro hj
      have hx : L[j]? = some L[j] := List.getElem?_eq_getElem (by omega)
      obtain ⟨x, y, hxy, _, he⟩ := h.ends L[j] (List.getElem_mem _)
      have hone := ed_one h hx
      rw [take_snoc hx, noS_snoc]
      have e1 : (L[j]).2.1 = (x : Int) := by rw [he]
      have e2 : (L[j]).2.2 = (y : Int) := by rw [he]
      rw [e1, e2]
      have hxy' : (x : Int) ≠ (y : Int) := by omega
      refine net_snoc 0 (net_snoc 0 (ih (by omega)) (noS_off hone hxy' _ (.inl rfl)) (noS_off hone hxy' _ (.inr rfl)) ?_) (noS_off2 hone hxy' _ (.inl rfl)) (noS_off2 hone hxy' _ (.inr rfl)) ?_
      · show 2 * (x : Int) + 1 ≠ 2 * (y : Int); omega
      · show 2 * (y : Int) + 1 ≠ 2 * (x : Int); omega
  have h1 := this L.length (Nat.le_refl _)
  rwa [List.take_length] at h1

theorem lr_le (ss : List (Stp × Int)) (h : ∀ t ∈ ss, t.2 ≤ 1) (q : Stp) : lr ss q ≤ 1 := by
  induction ss using snoc_ind with
  | h0 => simp [lr]
  | h1 l a ih =>
    rw [lr_snoc]
    have h1 := ih (fun t ht => h t (by simp [ht]))
    have h2 := h a (by simp)
    show (if q = bk a.1 then a.2 else if q = a.1 then 1 else lr l q) ≤ 1
    split
    · exact h2
    · split
      · omega
      · exact h1

theorem lD_len (ss : List (Stp × Int)) : (lD ss).length = 2 * ss.length := by
  induction ss using snoc_ind with
  | h0 => simp [lD]
  | h1 l a ih => rw [lD_snoc, List.length_append, ih]; simp; omega

/-- A net that was laid, filled. -/
theorem fill_laid {w : World} {p lm rm N B : Nat} {ss : List (Stp × Int)} {f : Int → Value} (h : Laid w p lm rm N B ss f) (hD : Net (lD ss)) (hl : ss.length ≤ 240) (h1 : ∀ t ∈ ss, t.2 ≤ 1) (hr : ∀ s ∈ lD ss, 0 ≤ tt s ∧ tt s < 1000) (hN : N ≤ 1000) {a b : Int} {most : Nat} (hm : most ≤ 120) (ha0 : 0 ≤ a) (ha1 : a < 1000) (hb0 : 0 ≤ b) (hb1 : b < 1000) (hab : a ≠ b) :
    Calls Tryd.prog 61 #[.pointer (some ⟨p, 0, none⟩), .int .i64 a, .int .i64 b, .int .i64 (most : Int)] w (FillPost w p lm rm N B (lD ss) (lr ss) f (lg ss) a b most) := by
  obtain ⟨M, L, hA⟩ := h
  refine fill_any p lm rm N B most M L _ _ f _ a b w hA hD (fun x s => lg_mem ss s x) (fun x => ?_) hr ?_ (fun x => ?_) hN hm ha0 ha1 hb0 hb1 hab
  · have := lg_len ss x; omega
  · rw [lD_len]; omega
  · have := lr_le ss h1 x
    have := lr_le ss h1 (bk x)
    omega

theorem tt_edS {n : Nat} {L : List Stp} (h : Ed n 70 L) (hn : n ≤ 16) : ∀ s ∈ lD (edS L), 0 ≤ tt s ∧ tt s < 1000 := by
  intro s hs
  obtain ⟨t, h1, h2⟩ := (lD_mem _ _).1 hs
  obtain ⟨d, hd, rfl⟩ := List.mem_map.1 h1
  obtain ⟨x, y, hxy, hyn, he⟩ := h.ends d hd
  rw [he] at h2
  rcases h2 with rfl | rfl <;> (unfold tt; try unfold bk) <;> simp only <;> omega

theorem tt_noS {n : Nat} {L : List Stp} (h : Ed n 70 L) (hn : n ≤ 16) : ∀ s ∈ lD (noS n L), 0 ≤ tt s ∧ tt s < 1000 := by
  intro s hs
  obtain ⟨t, h1, h2⟩ := (lD_mem _ _).1 hs
  rcases List.mem_append.1 h1 with h1 | h1
  · obtain ⟨x, hx, rfl⟩ := List.mem_map.1 h1
    have := List.mem_range.1 hx
    rcases h2 with rfl | rfl <;> (unfold tt; try unfold bk) <;> simp only <;> omega
  · obtain ⟨d, hd, h1⟩ := List.mem_flatMap.1 h1
    obtain ⟨x, y, hxy, hyn, he⟩ := h.ends d hd
    rw [he] at h1
    simp [edN] at h1
    rcases h1 with rfl | rfl <;> rcases h2 with rfl | rfl <;> (unfold tt; try unfold bk) <;> simp only <;> omega

theorem one_edS (L : List Stp) : ∀ t ∈ edS L, t.2 ≤ 1 := fun t ht => by
  obtain ⟨d, hd, rfl⟩ := List.mem_map.1 ht
  simp

theorem one_noS (n : Nat) (L : List Stp) : ∀ t ∈ noS n L, t.2 ≤ 1 := fun t ht => by
  rcases List.mem_append.1 ht with h1 | h1
  · obtain ⟨x, hx, rfl⟩ := List.mem_map.1 h1
    simp
  · obtain ⟨d, hd, h1⟩ := List.mem_flatMap.1 h1
    simp [edN] at h1
    rcases h1 with rfl | rfl <;> simp

theorem FillPost.below {w0 w w' : World} {p lm rm N B : Nat} {D : List Stp} {r0 : Stp → Int} {f : Int → Value} {g : Int → List Stp} {a b : Int} {most : Nat} {e : Ending} (h : FillPost w p lm rm N B D r0 f g a b most e w') (hb : Below w0.heap.size w0 w) (hr : w0.heap.size ≤ rm) : ∃ k : Nat, e = .returned (.int .i64 (k : Int)) ∧ Val (cap D r0) a b most k ∧ Below w0.heap.size w0 w' := by
  obtain ⟨k, r, h1, h2, _, _, _, _, _, h3⟩ := h
  exact ⟨k, h1, h2, hb.trans ⟨h3.os, h3.tape, h3.output, h3.size, fun i hi => h3.block i (Nat.lt_of_lt_of_le hi hb.size) (by omega)⟩⟩

set_option maxHeartbeats 1000000 in
/-- How many ways have no edge in common. -/
theorem flowEdges_any (n B0 q a b m : Nat) (u : Value) (L : List (Int × Int × Int)) (w : World) (h : G.GAt w B0 90 59 q (n : Int) u L) (hn : n ≤ 16) (hed : Ed n 70 L) (ha : a < n) (hb : b < n) (hab : a ≠ b) (hm : m ≤ 120) :
    Calls Tryd.prog 34 #[.pointer (some ⟨q, 0, none⟩), .int .i64 (a : Int), .int .i64 (b : Int), .int .i64 (m : Int)] w fun e w' => ∃ k : Nat, e = .returned (.tuple #[.int .i64 (k : Int), .nilIface]) ∧ Val (cap (lD (edS L)) (lr (edS L))) a b m k ∧ Below w.heap.size w w' := by
  have HG : Hid (G.GAt w B0 90 59 q (n : Int) u L) := h
  have HE : Hid (Ed n 70 L) := hed
  have hlen := hed.len
  clear h hed
  go_enter Tryd.func34, Tryd.ntmps34
  go_wp2_with fail
  refine (check_any n B0 q a b m u L w HG.out ha hb hab hm).mono ?_
  rintro e w1 ⟨rfl, hb1⟩
  have HB1 : Hid (Below w.heap.size w w1) := hb1
  clear hb1
  go_wp2_with fail
  refine (byEdges_any n B0 q u L w1 (HG.out.below HB1.out) hn HE.out).mono ?_
  rintro e w2 ⟨p, lm, rm, N, B, f, rfl, hL, hN, hb2, _, _, hrm, _⟩
  have HB2 : Hid (Below w.heap.size w w2 ∧ w.heap.size ≤ rm) := ⟨HB1.out.trans (hb2.mono HB1.out.size), Nat.le_trans HB1.out.size hrm⟩
  have HC : Hid _ := fill_laid hL (net_edS HE.out) (by simp [edS]; omega) (one_edS L) (tt_edS HE.out hn) (by omega) (a := (a : Int)) (b := (b : Int)) (most := m) hm (by omega) (by omega) (by omega) (by omega) (by omega)
  clear hL hN hb2 hrm
  go_wp2_with fail
  refine Calls.mono HC.out ?_
  intro e w3 hp
  obtain ⟨k, rfl, hv, hb3⟩ := hp.below HB2.out.1 HB2.out.2
  have HV : Hid (Val (cap (lD (edS L)) (lr (edS L))) a b m k ∧ Below w.heap.size w w3) := ⟨hv, hb3⟩
  clear hv hb3 hp HC
  go_wp2_with fail
  go_ret2
  exact ⟨k, rfl, HV.out.1, HV.out.2⟩

set_option maxHeartbeats 1000000 in
/-- How many ways have no node in common. -/
theorem flowNodes_any (n B0 q a b m : Nat) (u : Value) (L : List (Int × Int × Int)) (w : World) (h : G.GAt w B0 90 59 q (n : Int) u L) (hn : n ≤ 16) (hed : Ed n 70 L) (ha : a < n) (hb : b < n) (hab : a ≠ b) (hm : m ≤ 120) :
    Calls Tryd.prog 35 #[.pointer (some ⟨q, 0, none⟩), .int .i64 (a : Int), .int .i64 (b : Int), .int .i64 (m : Int)] w fun e w' => ∃ k : Nat, e = .returned (.tuple #[.int .i64 (k : Int), .nilIface]) ∧ Val (cap (lD (noS n L)) (lr (noS n L))) (2 * a + 1) (2 * b) m k ∧ Below w.heap.size w w' := by
  have HG : Hid (G.GAt w B0 90 59 q (n : Int) u L) := h
  have HE : Hid (Ed n 70 L) := hed
  have hlen := hed.len
  clear h hed
  go_enter Tryd.func35, Tryd.ntmps35
  go_wp2_with fail
  refine (check_any n B0 q a b m u L w HG.out ha hb hab hm).mono ?_
  rintro e w1 ⟨rfl, hb1⟩
  have HB1 : Hid (Below w.heap.size w w1) := hb1
  clear hb1
  go_wp2_with fail
  refine (byNodes_any n B0 q u L w1 (HG.out.below HB1.out) hn HE.out).mono ?_
  rintro e w2 ⟨p, lm, rm, N, B, f, rfl, hL, hN, hb2, _, _, hrm, _⟩
  have HB2 : Hid (Below w.heap.size w w2 ∧ w.heap.size ≤ rm) := ⟨HB1.out.trans (hb2.mono HB1.out.size), Nat.le_trans HB1.out.size hrm⟩
  have HC : Hid _ := fill_laid hL (net_noS HE.out) (by rw [noS_len]; omega) (one_noS n L) (tt_noS HE.out hn) (by omega) (a := 2 * (a : Int) + 1) (b := 2 * (b : Int)) (most := m) hm (by omega) (by omega) (by omega) (by omega) (by omega)
  clear hL hN hb2 hrm
  go_wp2_with fail
  refine (behind_any (a : Int) (by omega) (by omega) w2).mono ?_
  rintro e w4 ⟨rfl, hw4⟩
  subst hw4
  go_wp2_with fail
  refine (ahead_any (b : Int) (by omega) (by omega) w4).mono ?_
  rintro e w5 ⟨rfl, hw5⟩
  subst hw5
  go_wp2_with fail
  refine Calls.mono HC.out ?_
  intro e w3 hp
  obtain ⟨k, rfl, hv, hb3⟩ := hp.below HB2.out.1 HB2.out.2
  have HV : Hid (Val (cap (lD (noS n L)) (lr (noS n L))) (2 * a + 1) (2 * b) m k ∧ Below w.heap.size w w3) := ⟨hv, hb3⟩
  clear hv hb3 hp HC
  go_wp2_with fail
  go_ret2
  exact ⟨k, rfl, HV.out.1, HV.out.2⟩

end Go.Proofs.YtpkdpddillebfaaDoor.S
namespace Go.Proofs.YtpkdpddillebfaaDoor.S
open Go Go.ChangeMaps Go.MapKept Go.WideShapes
open Go.RowKit Go.WideMaps Go.Maps F

theorem cap_append (D D' : List Stp) (r : Stp → Int) (S : Int → Bool) : cap (D ++ D') r S = cap D r S + cap D' r S := by
  induction D with
  | nil => simp [cap]
  | cons s D ih => simp only [List.cons_append, cap, ih]; omega

theorem cap_congr {D : List Stp} {r r' : Stp → Int} {S : Int → Bool} (h : ∀ s ∈ D, r s = r' s) : cap D r S = cap D r' S := by
  induction D with
  | nil => rfl
  | cons s D ih => simp only [cap]; rw [ih (fun t ht => h t (by simp [ht])), h s (by simp)]

theorem cap_snoc {ss : List (Stp × Int)} {s : Stp} (c : Int) (h1 : s ∉ lD ss) (h2 : bk s ∉ lD ss) (hne : fr s ≠ tt s) (S : Int → Bool) : cap (lD (ss ++ [(s, c)])) (lr (ss ++ [(s, c)])) S = cap (lD ss) (lr ss) S + ((if out S s then 1 else 0) + (if out S (bk s) then c else 0)) := by
  have hb := bk_ne hne
  rw [lD_snoc, lr_snoc, cap_append]
  congr 1
  · refine cap_congr (fun t ht => ?_)
    have e1 : t ≠ s := fun e => h1 (e ▸ ht)
    have e2 : t ≠ bk s := fun e => h2 (e ▸ ht)
    show (if t = bk s then c else if t = s then 1 else lr ss t) = lr ss t
    rw [if_neg e2, if_neg e1]
  · have q1 : (if s = bk s then c else if s = s then 1 else lr ss s) = 1 := by rw [if_neg (fun e => hb e.symm), if_pos rfl]
    have q2 : (if bk s = bk s then c else if bk s = s then 1 else lr ss (bk s)) = c := if_pos rfl
    show (if out S s then (if s = bk s then c else if s = s then 1 else lr ss s) else 0) + ((if out S (bk s) then (if bk s = bk s then c else if bk s = s then 1 else lr ss (bk s)) else 0) + 0) = _
    rw [q1, q2]; omega

theorem cap_nil (S : Int → Bool) : cap (lD []) (lr []) S = 0 := rfl

/-- An edge with one end within. -/
def crs (S : Int → Bool) (e : Stp) : Bool := S e.2.1 != S e.2.2

theorem cap_edS {n : Nat} {L : List Stp} (h : Ed n 70 L) (S : Int → Bool) : cap (lD (edS L)) (lr (edS L)) S = ((L.filter (crs S)).length : Int) := by
  have : ∀ j, j ≤ L.length → cap (lD (edS (L.take j))) (lr (edS (L.take j))) S = (((L.take j).filter (crs S)).length : Int) := by
    intro j
    induction j with
    | zero => intro _; rfl
    | succ j ih =>
      intro hj
      have hx : L[j]? = some L[j] := List.getElem?_eq_getElem (by omega)
      obtain ⟨x, y, hxy, _, he⟩ := h.ends L[j] (List.getElem_mem _)
      rw [take_snoc hx]
      have e : edS (L.take j ++ [L[j]]) = edS (L.take j) ++ [(L[j], 1)] := by rw [edS, List.map_append]; rfl
      have hoff := edS_off (ed_one h hx)
      have hne : fr L[j] ≠ tt L[j] := by
        rw [he]
        show (x : Int) ≠ (y : Int)
        omega
      rw [e, cap_snoc 1 hoff.1 hoff.2 hne, ih (by omega), List.filter_append, List.length_append]
      unfold out
      rw [fr_bk, tt_bk]
      have hc : crs S L[j] = (S (fr L[j]) != S (tt L[j])) := rfl
      rw [List.filter_cons, hc]
      cases S (fr L[j]) <;> cases S (tt L[j]) <;> simp
  have h1 := this L.length (Nat.le_refl _)
  rwa [List.take_length] at h1

/-- A node that is gone through; an edge that is gone along, one way. -/
def nin (S : Int → Bool) (x : Nat) : Bool := S (2 * (x : Int)) && !S (2 * (x : Int) + 1)
def two (e : Stp) : List (Int × Int) := [(e.2.1, e.2.2), (e.2.2, e.2.1)]
def ein (S : Int → Bool) (d : Int × Int) : Bool := S (2 * d.1 + 1) && !S (2 * d.2)

theorem cap_ndS (S : Int → Bool) : ∀ j, cap (lD (ndS j)) (lr (ndS j)) S = (((List.range j).filter (nin S)).length : Int)
  | 0 => rfl
  | j + 1 => by
    have := nd_off j
    have hne : fr ((0, 2 * (j : Int), 2 * (j : Int) + 1) : Stp) ≠ tt ((0, 2 * (j : Int), 2 * (j : Int) + 1) : Stp) := by show 2 * (j : Int) ≠ 2 * (j : Int) + 1; omega
    rw [ndS_succ, cap_snoc 0 this.1 this.2 hne, cap_ndS S j, List.range_succ, List.filter_append, List.length_append]
    have hc : out S ((0, 2 * (j : Int), 2 * (j : Int) + 1) : Stp) = nin S j := rfl
    rw [hc, List.filter_cons]
    cases nin S j <;> simp

theorem cap_noS {n : Nat} {L : List Stp} (h : Ed n 70 L) (S : Int → Bool) : cap (lD (noS n L)) (lr (noS n L)) S = (((List.range n).filter (nin S)).length : Int) + (((L.flatMap two).filter (ein S)).length : Int) := by
  have : ∀ j, j ≤ L.length → cap (lD (noS n (L.take j))) (lr (noS n (L.take j))) S = (((List.range n).filter (nin S)).length : Int) + ((((L.take j).flatMap two).filter (ein S)).length : Int) := by
    intro j
    induction j with
    | zero =>
      intro _
      have := cap_ndS S n
      simpa [noS] using this
    | succ j ih =>
      intro hj
      have hx : L[j]? = some L[j] := List.getElem?_eq_getElem (by omega)
      obtain ⟨x, y, hxy, _, he⟩ := h.ends L[j] (List.getElem_mem _)
      have hone := ed_one h hx
      have e1 : (L[j]).2.1 = (x : Int) := by rw [he]
      have e2 : (L[j]).2.2 = (y : Int) := by rw [he]
      have hxy' : (x : Int) ≠ (y : Int) := by omega
      have ht : two L[j] = [((x : Int), (y : Int)), ((y : Int), (x : Int))] := by unfold two; rw [e1, e2]
      rw [take_snoc hx, noS_snoc, e1, e2, cap_snoc 0 (noS_off2 hone hxy' _ (.inl rfl)) (noS_off2 hone hxy' _ (.inr rfl)) (by show 2 * (y : Int) + 1 ≠ 2 * (x : Int); omega), cap_snoc 0 (noS_off hone hxy' _ (.inl rfl)) (noS_off hone hxy' _ (.inr rfl)) (by show 2 * (x : Int) + 1 ≠ 2 * (y : Int); omega), ih (by omega), List.flatMap_append, List.filter_append, List.length_append]
      have hs : [L[j]].flatMap two = [((x : Int), (y : Int)), ((y : Int), (x : Int))] := by rw [List.flatMap_cons, List.flatMap_nil, List.append_nil, ht]
      rw [hs]
      have c1 : out S ((L[j]).1, 2 * (x : Int) + 1, 2 * (y : Int)) = ein S ((x : Int), (y : Int)) := rfl
      have c2 : out S ((L[j]).1, 2 * (y : Int) + 1, 2 * (x : Int)) = ein S ((y : Int), (x : Int)) := rfl
      rw [c1, c2, List.filter_cons, List.filter_cons]
      cases ein S ((x : Int), (y : Int)) <;> cases ein S ((y : Int), (x : Int)) <;> simp <;> omega
  have h1 := this L.length (Nat.le_refl _)
  rwa [List.take_length] at h1

end Go.Proofs.YtpkdpddillebfaaDoor.S
namespace Go.Proofs.YtpkdpddillebfaaDoor.S
open Go Go.ChangeMaps Go.MapKept Go.WideShapes
open Go.RowKit Go.WideMaps Go.Maps F

theorem cap_mono {D : List Stp} {r r' : Stp → Int} {S : Int → Bool} (h : ∀ s ∈ D, out S s = true → r s ≤ r' s) : cap D r S ≤ cap D r' S := by
  induction D with
  | nil => exact Int.le_refl _
  | cons s D ih =>
    have h1 := h s (by simp)
    have h2 := ih (fun x hx => h x (by simp [hx]))
    simp only [cap]
    split
    · next k => have := h1 k; omega
    · omega

/-- Where a way still goes there is one of used steps. -/
theorem un_there {D : List Stp} {r r0 : Stp → Int} {a b k : Int} (h : Fill D (cap D r0) a b r k) (hk : 0 < k) (h0 : ∀ s ∈ D, r0 s ≤ 1) {S : Int → Bool} (ha : S a = true) (hb : S b = false) (hs : ∀ s ∈ D, out S s = true → 0 < r s) : False := by
  have h1 := h.cut S ha hb
  have h2 : cap D r0 S ≤ cap D r S := cap_mono (fun s hs1 hs2 => by have := hs s hs1 hs2; have := h0 s hs1; omega)
  omega

theorem cap_back {D : List Stp} (hD : Net D) (S : Int → Bool) : ∀ {P : List Stp} {r : Stp → Int} {a b : Int}, (∀ s ∈ P, s ∈ D) → Walk a P b → cap D (tks r (P.map bk)) S = cap D r S + (chi S a - chi S b)
  | [], r, a, b, _, hw => by
    have hw : a = b := hw
    subst hw
    simp [tks]
  | s :: P, r, a, b, hp, hw => by
    obtain ⟨h1, h2⟩ : fr s = a ∧ Walk (tt s) P b := hw
    have ih := cap_back hD S (P := P) (r := tk r (bk s)) (fun x hx => hp x (by simp [hx])) h2
    have h3 := cap_tk hD (r := r) (hD.back s (hp s (by simp))) S
    rw [fr_bk, tt_bk] at h3
    have h4 : tks r ((s :: P).map bk) = tks (tk r (bk s)) (P.map bk) := rfl
    rw [h4, ih, h3, h1]
    omega

theorem nodup_bk {P : List Stp} (h : P.Nodup) : (P.map bk).Nodup := by
  induction P with
  | nil => simp
  | cons s P ih =>
    rw [List.nodup_cons] at h
    rw [List.map_cons, List.nodup_cons]
    refine ⟨fun k => h.1 ?_, ih h.2⟩
    obtain ⟨t, ht, e⟩ := List.mem_map.1 k
    rw [← bk_inj e]; exact ht

theorem mem_bk {P : List Stp} {s : Stp} : s ∈ P.map bk ↔ bk s ∈ P := by
  rw [List.mem_map]
  exact ⟨fun ⟨t, ht, e⟩ => by rw [← e, bk_bk]; exact ht, fun h => ⟨bk s, h, bk_bk s⟩⟩

theorem tks_at : ∀ {p : List Stp} {r : Stp → Int}, p.Nodup → (∀ s ∈ p, fr s ≠ tt s) → (∀ s ∈ p, bk s ∉ p) → ∀ x, tks r p x = if x ∈ p then r x - 1 else if bk x ∈ p then r x + 1 else r x
  | [], r, _, _, _, x => by simp [tks]
  | s :: p, r, hn, hne, hb, x => by
    rw [List.nodup_cons] at hn
    have ih := tks_at (p := p) (r := tk r s) hn.2 (fun t ht => hne t (by simp [ht])) (fun t ht k => hb t (by simp [ht]) (by simp [k])) x
    have h4 : tks r (s :: p) = tks (tk r s) p := rfl
    have hs := hne s (by simp)
    have hbs : bk s ∉ p := fun k => hb s (by simp) (by simp [k])
    rw [h4, ih, tk_at r hs]
    by_cases e1 : x = s
    · subst e1
      rw [if_neg hn.1, if_neg hbs, if_pos rfl, if_pos (by simp)]
    · rw [if_neg e1]
      by_cases e2 : x = bk s
      · subst e2
        rw [if_neg hbs, bk_bk, if_neg hn.1, if_pos rfl, if_neg (by simp [e1, hbs]), if_pos (by simp)]
      · have e3 : bk x ≠ s := fun k => e2 (by rw [← k, bk_bk])
        rw [if_neg e2]
        simp [e1, e3]

/-- Ways that still go, and the numbers that are told. -/
structure Un (D : List Stp) (r0 : Stp → Int) (a b : Int) (r : Stp → Int) (k : Int) (U : List Int) : Prop where
  fill : Fill D (cap D r0) a b r k
  sum : ∀ s ∈ D, r s + r (bk s) = 2
  told : ∀ s ∈ D, s.1 ∈ U → r s = 1

theorem Un.next {D : List Stp} (hD : Net D) {r0 r : Stp → Int} {a b k : Int} {U : List Int} (h : Un D r0 a b r k U) (hid : ∀ s ∈ D, ∀ t ∈ D, s.1 = t.1 → s = t ∨ s = bk t) {P : List Stp} (hw : Walk a P b) (hn : P.Nodup) (hP : ∀ s ∈ P, s ∈ D ∧ r s = 0) :
    Un D r0 a b (tks r (P.map bk)) (k - 1) (U ++ P.map (·.1)) ∧ (∀ s ∈ P, s.1 ∉ U) ∧ (P.map (·.1)).Nodup := by
  have hb : ∀ s ∈ P, bk s ∉ P := fun s hs k => by
    have h1 := h.sum s (hP s hs).1
    have h2 := (hP s hs).2
    have h3 := (hP _ k).2
    omega
  have hne : ∀ s ∈ P.map bk, fr s ≠ tt s := fun s hs => by
    have := hD.ne (bk s) (hP _ (mem_bk.1 hs)).1
    rw [fr_bk, tt_bk] at this
    exact fun e => this e.symm
  have hbb : ∀ s ∈ P.map bk, bk s ∉ P.map bk := fun s hs k => by
    rw [mem_bk] at hs k
    exact hb _ hs k
  have hat := tks_at (r := r) (nodup_bk hn) hne hbb
  refine ⟨⟨⟨?_, ?_⟩, ?_, ?_⟩, ?_, ?_⟩
  · refine tks_pos (nodup_bk hn) hne (fun s hs => ?_) h.fill.pos
    have hs := mem_bk.1 hs
    have h1 := h.sum _ (hP _ hs).1
    have h2 := (hP _ hs).2
    rw [bk_bk] at h1
    omega
  · intro S ha hb'
    rw [cap_back hD S (fun s hs => (hP s hs).1) hw, h.fill.cut S ha hb']
    unfold chi
    rw [if_pos ha, if_neg (by rw [hb']; simp)]
    omega
  · intro s hs
    rw [tks_sum _ r hne]
    exact h.sum s hs
  · intro s hs hU
    rw [hat s]
    have key : ∀ t ∈ P, s = t ∨ s = bk t → (if s ∈ P.map bk then r s - 1 else if bk s ∈ P.map bk then r s + 1 else r s) = 1 := fun t ht e => by
      have h1 := h.sum t (hP t ht).1
      have h2 := (hP t ht).2
      rcases e with rfl | rfl
      · rw [if_neg (fun k => hb _ ht (mem_bk.1 k)), if_pos (mem_bk.2 (by rw [bk_bk]; exact ht))]
        omega
      · rw [if_pos (mem_bk.2 (by rw [bk_bk]; exact ht))]
        omega
    rcases List.mem_append.1 hU with hU | hU
    · have h1 := h.told s hs hU
      have h2 := h.sum s hs
      rw [if_neg (fun k => ?_), if_neg (fun k => ?_), h1]
      · have := (hP _ (mem_bk.1 k)).2
        rw [bk_bk] at this
        omega
      · have := (hP _ (mem_bk.1 k)).2
        omega
    · obtain ⟨t, ht, e⟩ := List.mem_map.1 hU
      exact key t ht (hid s hs t (hP t ht).1 e.symm)
  · intro s hs hU
    have h1 := h.told s (hP s hs).1 hU
    have h2 := (hP s hs).2
    omega
  · clear hat hbb hne
    induction P generalizing a with
    | nil => simp
    | cons s P ih =>
      obtain ⟨hw1, hw2⟩ : fr s = a ∧ Walk (tt s) P b := hw
      rw [List.nodup_cons] at hn
      rw [List.map_cons, List.nodup_cons]
      have hb' : ∀ t ∈ P, bk t ∉ P := fun t ht k => hb t (by simp [ht]) (by simp [k])
      have hP' : ∀ t ∈ P, t ∈ D ∧ r t = 0 := fun t ht => hP t (by simp [ht])
      refine ⟨fun k => ?_, ?_⟩
      · obtain ⟨t, ht, e⟩ := List.mem_map.1 k
        rcases hid s (hP s (by simp)).1 t (hP' t ht).1 e.symm with rfl | rfl
        · exact hn.1 ht
        · exact hb (bk t) (by simp) (by rw [bk_bk]; simp [ht])
      · exact nodup_ids hid hn.2 hb' hP'
 where
  nodup_ids {D : List Stp} {r : Stp → Int} (hid : ∀ s ∈ D, ∀ t ∈ D, s.1 = t.1 → s = t ∨ s = bk t) : ∀ {P : List Stp}, P.Nodup → (∀ t ∈ P, bk t ∉ P) → (∀ t ∈ P, t ∈ D ∧ r t = 0) → (P.map (·.1)).Nodup
  | [], _, _, _ => by simp
  | s :: P, hn, hb, hP => by
    rw [List.nodup_cons] at hn
    rw [List.map_cons, List.nodup_cons]
    refine ⟨fun k => ?_, nodup_ids hid hn.2 (fun t ht k => hb t (by simp [ht]) (by simp [k])) (fun t ht => hP t (by simp [ht]))⟩
    obtain ⟨t, ht, e⟩ := List.mem_map.1 k
    rcases hid s (hP s (by simp)).1 t (hP t (by simp [ht])).1 e.symm with rfl | rfl
    · exact hn.1 ht
    · exact hb (bk t) (by simp) (by rw [bk_bk]; simp [ht])

/-- An edge and its other way, of a net by edges. -/
theorem ed_same {n : Nat} {L : List Stp} (h : Ed n 70 L) : ∀ s ∈ lD (edS L), ∀ t ∈ lD (edS L), s.1 = t.1 → s = t ∨ s = bk t := by
  have one : ∀ d ∈ L, ∀ e ∈ L, d.1 = e.1 → d = e := fun d hd e he hde => by
    obtain ⟨i, hi⟩ := List.getElem?_of_mem hd
    obtain ⟨j, hj⟩ := List.getElem?_of_mem he
    rcases Nat.lt_trichotomy i j with c | c | c
    · refine absurd hde (ed_one h hj d ?_)
      exact List.mem_of_getElem? (i := i) (by rw [List.getElem?_take, if_pos c]; exact hi)
    · subst c; rw [hi] at hj; injection hj
    · refine absurd hde.symm (ed_one h hi e ?_)
      exact List.mem_of_getElem? (i := j) (by rw [List.getElem?_take, if_pos c]; exact hj)
  intro s hs t ht e
  obtain ⟨x, hx, hs⟩ := (lD_mem _ _).1 hs
  obtain ⟨y, hy, ht⟩ := (lD_mem _ _).1 ht
  obtain ⟨d, hd, rfl⟩ := List.mem_map.1 hx
  obtain ⟨f, hf, rfl⟩ := List.mem_map.1 hy
  have hid : ∀ q : Stp, (bk q).1 = q.1 := fun _ => rfl
  have hdf : d = f := one d hd f hf (by rcases hs with rfl | rfl <;> rcases ht with rfl | rfl <;> exact e)
  subst hdf
  rcases hs with rfl | rfl <;> rcases ht with rfl | rfl
  · exact .inl rfl
  · exact .inr rfl
  · exact .inr rfl
  · exact .inl rfl

end Go.Proofs.YtpkdpddillebfaaDoor.S
