/- Package flow: lay. -/
import Derived.Test.YtpkdpddillebfaaDoorFd
namespace Go.Proofs.YtpkdpddillebfaaDoor.S
open Go Go.ChangeMaps Go.MapKept Go.WideShapes
open Go.RowKit Go.WideMaps Go.Maps F

/-- One step more leaves its place. -/
def gput (g : Int → List Stp) (s : Stp) : Int → List Stp := fun y => if y = fr s then g (fr s) ++ [s] else g y

/-- What lay leaves. -/
def LayPost (w : World) (p lm rm N B : Nat) (D : List Stp) (r : Stp → Int) (f : Int → Value) (g : Int → List Stp) (s : Stp) (c : Int) (e : Ending) (w' : World) : Prop :=
  e = .returned (.tuple #[]) ∧ ∃ M' L' f', NetA w' p lm rm (N + 4) B M' L' (D ++ [s, bk s]) (fun q => if q = bk s then c else if q = s then 1 else r q) f' (gput (gput g s) (bk s)) ∧ Out lm rm f f' w w'

theorem Mid.post {w0 w : World} {p lm rm bx N N' B : Nat} {M : DataW Unit} {D D' : List Stp} {r r' : Stp → Int} {f0 f : Int → Value} {g g' : Int → List Stp} {s : Stp} {c : Int} (h : Mid w0 f0 w p lm rm bx N B M D' r' f g' s) (hN : N ≤ N' + 4) (hD : D' = D ++ [s, bk s]) (hr : ∀ q, r' q = if q = bk s then c else if q = s then 1 else r q) (hg : g' = gput (gput g s) (bk s)) : LayPost w0 p lm rm N' B D r f0 g s c (.returned (.tuple #[])) w := by
  obtain ⟨L, hl⟩ := h.lv
  have e : r' = fun q => if q = bk s then c else if q = s then 1 else r q := funext hr
  subst e
  subst hD
  subst hg
  exact ⟨rfl, M, L, f, ⟨⟨h.net.hp, h.net.mp.mono hN, h.net.rom⟩, { hl with mp := hl.mp.mono hN }, h.pb, h.rb, h.ne⟩, h.fr⟩

/-- From the way back's call on: the other row. -/
theorem lay_other {w0 w : World} {p lm rm bx N B : Nat} {M : DataW Unit} {D : List Stp} {r : Stp → Int} {f0 f : Int → Value} {g : Int → List Stp} {s : Stp} (h : Mid w0 f0 w p lm rm bx N B M D r f g s) (hs : wfS s) (hl : (g (tt s)).length ≤ 1000) (hN : N ≤ 900000) :
    (Instr.lookup 159 (.map (some lm)) (.int .i64 s.2.2) false).run Tryd.prog w = .ok (f s.2.2) w ∧
    Calls Tryd.prog 88 #[vS s] w fun e w' => e = .returned (vS (bk s)) ∧ C5 w' p lm rm bx s ∧ ∃ v' w1 w2,
      (Instr.lookup 159 (.map (some lm)) (.int .i64 s.2.2) false).run Tryd.prog w' = .ok (f s.2.2) w' ∧ (Instr.lookup 159 (.map (some lm)) (.int .i64 s.2.2) false).run Tryd.prog (w'.alloc (.cells #[.int .i64 s.1, .int .i64 s.2.2, .int .i64 s.2.1] 136)) = .ok (f s.2.2) (w'.alloc (.cells #[.int .i64 s.1, .int .i64 s.2.2, .int .i64 s.2.1] 136)) ∧
      Hid ((Builtin.append_ #[137, 137] 137 #[f s.2.2, .slice (some ⟨w'.heap.size, 0, none⟩) 1 1]).run Tryd.prog (w'.alloc (.cells #[.int .i64 s.1, .int .i64 s.2.2, .int .i64 s.2.1] 136)) = .ok v' w1) ∧ (Instr.mapUpdate 159 (.map (some lm)) (.int .i64 s.2.2) v').run Tryd.prog w1 = .ok () w2 ∧
      C5 (w'.alloc (.cells #[.int .i64 s.1, .int .i64 s.2.2, .int .i64 s.2.1] 136)) p lm rm bx s ∧ C5 w1 p lm rm bx s ∧ C5 w2 p lm rm bx s ∧ Hid (∃ f', Mid w0 f0 w2 p lm rm bx (N + 1) B M D r f' (gput g (bk s)) s) := by
  obtain ⟨L, hv⟩ := h.lv
  refine ⟨hv.look hs.2.2, (back_any s w).mono ?_⟩
  rintro e w' ⟨rfl, hb⟩
  have h' := h.below hb
  obtain ⟨v', w1, w2, e1, e2, e3, e4, c1, c2, c3, c4, hm⟩ := h'.lay 137 hs.2.2 (bk s) hl (by omega)
  exact ⟨rfl, c1, v', w1, w2, e1, e2, e3, e4, c2, c3, c4, _, hm⟩

/-- The two numbers. -/
theorem lay_room {w0 w : World} {p lm rm bx N B : Nat} {M : DataW Unit} {D : List Stp} {r : Stp → Int} {f0 f : Int → Value} {g : Int → List Stp} {s : Stp} {c : Int} (h : Mid w0 f0 w p lm rm bx N B M D r f g s) (hs : bk s ∈ D) (h0 : 0 < c) (hc : c ≤ 1000) (hN : N ≤ 900000) :
    Calls Tryd.prog 88 #[vS s] w fun e w' => e = .returned (vS (bk s)) ∧ C5 w' p lm rm bx s ∧ ∃ w2, (Instr.mapUpdate 160 (.map (some rm)) (vS (bk s)) (.int .i64 c)).run Tryd.prog w' = .ok () w2 ∧ C5 w2 p lm rm bx s ∧ Hid (∃ M', Mid w0 f0 w2 p lm rm bx (N + 1) B M' D (fun q => if q = bk s then c else r q) f g s) := by
  refine (back_any s w).mono ?_
  rintro e w' ⟨rfl, hb⟩
  have h' := h.below hb
  obtain ⟨w2, e1, c1, hm⟩ := h'.room hs h0 hc (by omega)
  exact ⟨rfl, h'.c5, w2, e1, c1, hm⟩

set_option maxHeartbeats 4000000 in
set_option maxRecDepth 100000 in
theorem lay_any (p lm rm N B : Nat) (M : DataW Unit) (L : DataW Value) (D : List Stp) (r : Stp → Int) (f : Int → Value) (g : Int → List Stp) (s : Stp) (c : Int) (w : World) (h : NetA w p lm rm N B M L D r f g) (hs : wfS s) (hne : fr s ≠ tt s) (hc0 : 0 ≤ c) (hc : c ≤ 1000) (hN : N ≤ 100000) (hl : ∀ x, (g x).length ≤ 900) (hr0 : r s = 0) (hr1 : r (bk s) = 0) :
    Calls Tryd.prog 83 #[.pointer (some ⟨p, 0, none⟩), vS s, .int .i64 c] w (LayPost w p lm rm N B D r f g s c) := by
  obtain ⟨W, hW⟩ : ∃ W, w.alloc (.cells #[.int .i64 s.1, .int .i64 s.2.1, .int .i64 s.2.2] 136) = W := ⟨_, rfl⟩
  obtain ⟨bx, hbxe⟩ : ∃ bx, w.heap.size = bx := ⟨_, rfl⟩
  have hbA : Below w.heap.size w W := by rw [← hW]; exact (Below.refl _ _).alloc (Nat.le_refl _) _
  have hA := h.below hbA
  obtain ⟨D', hD'⟩ : ∃ D', D ++ [s, bk s] = D' := ⟨_, rfl⟩
  have hsD : s ∈ D' := by rw [← hD']; simp
  have hbD : bk s ∈ D' := by rw [← hD']; simp
  have hM0 : Mid w f W.drew p lm rm bx N B M D' r f g s := by
    have : Mid w f W p lm rm bx N B M D r f g s := ⟨hA.net, ⟨L, hA.lv⟩, h.pb, h.rb, h.ne, by rw [← hbxe, ← hW]; exact heap_alloc_new w _, fun x e => by have := (h.lv.off e).2; omega, ⟨hbA.os, hbA.tape, hbA.output, hbA.size, fun k h1 _ _ _ => hbA.block k h1, fun k _ h => h⟩, by rw [← hbxe]; exact h.lv.le, h.lv.le⟩
    refine (this.wider (D' := D') (fun t ht => by rw [← hD']; simp [ht]) (fun t ht hn => ?_) (fun t ht => ?_)).below (Below.refl _ _).drew
    · rw [← hD'] at ht
      rcases List.mem_append.1 ht with ht | ht
      · exact absurd ht hn
      · simp at ht
        rcases ht with rfl | rfl
        · exact hr0
        · exact hr1
    · rw [← hD'] at ht
      rcases List.mem_append.1 ht with ht | ht
      · exact h.net.rom.wf t ht
      · simp at ht
        rcases ht with rfl | rfl
        · exact hs
        · exact hs.bk
  obtain ⟨v1, wa, wb, e1, e2, e3, e4, c1, c2, c3, c4, hM1⟩ := hM0.lay 137 hs.2.1 s (by have := hl s.2.1; omega) (by omega)
  have hg1 : ∀ x, (gput g s x).length ≤ 901 := fun x => by
    unfold gput
    split
    · have := hl (fr s); simp; omega
    · have := hl x; omega
  have hM1d := hM1.below (Below.refl _ _).drew
  obtain ⟨k1, k2⟩ := lay_other hM1d hs (by have := hg1 (tt s); exact Nat.le_trans this (by omega)) (by omega)
  have hC2 := hM1d.c5
  obtain ⟨v0, hv0⟩ : ∃ v0, f s.2.1 = v0 := ⟨_, rfl⟩
  obtain ⟨f2, hf2⟩ : ∃ f2, (if s.2.2 = s.2.1 then v1 else f s.2.2) = f2 := ⟨_, rfl⟩
  simp only [hf2] at k1 k2
  rw [hv0] at e1 e2 e3
  have HT : Hid _ := k2
  have HAP : Hid ((Builtin.append_ #[137, 137] 137 #[v0, .slice (some ⟨W.heap.size, 0, none⟩) 1 1]).run Tryd.prog _ = .ok v1 wa) := e3
  have HRest : Hid (∀ w2 f', Mid w f w2 p lm rm bx (N + 2) B M D' r f' (gput (gput g s) (bk s)) s → C5 w2.drew p lm rm bx s ∧ ∃ w3, (Instr.mapUpdate 160 (.map (some rm)) (vS s) (.int .i64 1)).run Tryd.prog w2.drew = .ok () w3 ∧ C5 w3 p lm rm bx s ∧ C5 w3.drew p lm rm bx s ∧ Hid ((c = 0 → ∀ n, LayPost w p lm rm N B D r f g s c (.returned (.tuple #[])) (w3.drewN n)) ∧
      (0 < c → Calls Tryd.prog 88 #[vS s] w3.drew fun e w' => e = .returned (vS (bk s)) ∧ C5 w' p lm rm bx s ∧ ∃ w4, (Instr.mapUpdate 160 (.map (some rm)) (vS (bk s)) (.int .i64 c)).run Tryd.prog w' = .ok () w4 ∧ C5 w4 p lm rm bx s ∧ Hid (∀ n, LayPost w p lm rm N B D r f g s c (.returned (.tuple #[])) (w4.drewN n))))) := by
    intro w2 f' hm
    have hmd := hm.below (Below.refl _ _).drew
    obtain ⟨w3, q1, q2, M3, hm3⟩ := hmd.room hsD (c := 1) (by omega) (by omega) (by omega)
    have hm3d := hm3.below (Below.refl _ _).drew
    refine ⟨hmd.c5, w3, q1, q2, hm3d.c5, fun h0 n => ?_, fun h0 => ?_⟩
    · refine (hm3.below (below_drewN (Below.refl _ _) n)).post (by omega) hD'.symm (fun q => ?_) rfl
      by_cases e : q = bk s
      · rw [if_pos e, if_neg (by rw [e]; exact bk_ne hne), e, hr1, h0]
      · rw [if_neg e]
    · refine (lay_room hm3d hbD h0 hc (by omega)).mono ?_
      rintro e w' ⟨rfl, u1, w4, u2, u3, M4, u4⟩
      refine ⟨rfl, u1, w4, u2, u3, fun n => ?_⟩
      exact (u4.below (below_drewN (Below.refl _ _) n)).post (by omega) hD'.symm (fun q => rfl) rfl
  have HW : Hid (w.alloc (.cells #[.int .i64 s.1, .int .i64 s.2.1, .int .i64 s.2.2] 136) = W) := hW
  have HBX : Hid (w.heap.size = bx) := hbxe
  obtain ⟨x, y, z⟩ := s
  unfold vS bk C5 at HT
  unfold vS bk C5 at HRest
  unfold C5 at c1 c2 c3 c4 hC2
  unfold vS
  simp only at HT HRest HW HAP e1 e2 e4 c1 c2 c3 c4 hC2 k1 ⊢
  clear h hs hne hN hl hr0 hr1 hW hbxe hbA hA hD' hsD hbD hM0 hM1 hM1d hg1 hf2 hv0 e3 k2
  rw [show W.drew.alloc (.cells #[.int .i64 x, .int .i64 y, .int .i64 z] 136) = (W.alloc (.cells #[.int .i64 x, .int .i64 y, .int .i64 z] 136)).drew from rfl] at c2 e2 HAP
  go_enter Tryd.func83, Tryd.ntmps83
  go_upto_region 1 with fail
  rw [HW.out, HBX.out]
  clear HW HBX
  go_region_held_law (fun w' => (w'.cell? ⟨p, 0, none⟩ = some (.map (some lm)) ∧ w'.cell? ⟨p, 1, none⟩ = some (.map (some rm)) ∧ w'.cell? ⟨bx, 0, none⟩ = some (.int .i64 x) ∧ w'.cell? ⟨bx, 1, none⟩ = some (.int .i64 y) ∧ w'.cell? ⟨bx, 2, none⟩ = some (.int .i64 z))) (with_reducible assumption)
    (refine G.step_append_runK rfl (.tmp 18) (.tmp 20) 137 137 rfl v0 (.slice (some ⟨W.heap.size, 0, none⟩) 1 1) (by first | rfl | (simp [Act.eval]; done) | (simp [Act.eval, Act.put]; done)) (by first | rfl | (simp [Act.eval]; done) | (simp [Act.eval, Act.put]; done)) HAP.out ?_)
  all_goals
    clear e1 e2 e4 c1 c2 c3 c4 HAP
    go_upto_region 2 with fail
    go_region_held_law (fun w' => (w'.cell? ⟨p, 0, none⟩ = some (.map (some lm)) ∧ w'.cell? ⟨p, 1, none⟩ = some (.map (some rm)) ∧ w'.cell? ⟨bx, 0, none⟩ = some (.int .i64 x) ∧ w'.cell? ⟨bx, 1, none⟩ = some (.int .i64 y) ∧ w'.cell? ⟨bx, 2, none⟩ = some (.int .i64 z))) (with_reducible assumption)
      (first
      | (go_at_call 88; refine Calls.mono HT.out ?_; rintro e w' ⟨rfl, d1, v2, w1, w2, l1, l2, HA2, u2, d2, d3, d4, HM2⟩)
      | (refine G.step_append_runK rfl (.tmp 34) (.tmp 37) 137 137 rfl f2 (.slice (some ⟨_, 0, none⟩) 1 1) (by first | rfl | (simp [Act.eval]; done)) (by first | rfl | (simp [Act.eval]; done)) HA2.out ?_))
    all_goals
      obtain ⟨f', hm2⟩ := HM2.out
      obtain ⟨i1, w3, i2, i3, i4, HR⟩ := HRest.out w2 f' hm2
      clear hm2 HM2 HRest HT l1 l2 u2 d1 d2 d3 d4 HA2 k1 hC2
      go_upto_region 3 with fail
      go_region_held (fun w' => (w'.cell? ⟨p, 0, none⟩ = some (.map (some lm)) ∧ w'.cell? ⟨p, 1, none⟩ = some (.map (some rm)) ∧ w'.cell? ⟨bx, 0, none⟩ = some (.int .i64 x) ∧ w'.cell? ⟨bx, 1, none⟩ = some (.int .i64 y) ∧ w'.cell? ⟨bx, 2, none⟩ = some (.int .i64 z))) (with_reducible assumption) (fail)
      all_goals
        clear i1 i2
        by_cases hc1 : c = 0
        · have HF := HR.out.1 hc1 0
          subst hc1
          go_wp2_with fail
          refine bodyPost_ret (v := .tuple #[]) (by simp [results, Tryd.results83, go_sem]) rfl ?_
          exact HF
        · have hc2 : 0 < c := by omega
          have HC : Hid _ := HR.out.2 hc2
          clear HR
          go_upto_region 5 with fail
          go_region_held (fun w' => (w'.cell? ⟨p, 0, none⟩ = some (.map (some lm)) ∧ w'.cell? ⟨p, 1, none⟩ = some (.map (some rm)) ∧ w'.cell? ⟨bx, 0, none⟩ = some (.int .i64 x) ∧ w'.cell? ⟨bx, 1, none⟩ = some (.int .i64 y) ∧ w'.cell? ⟨bx, 2, none⟩ = some (.int .i64 z))) (with_reducible assumption)
            (first | (go_at_call 88; refine Calls.mono HC.out ?_; rintro e w' ⟨rfl, j1, w4, j2, j3, HF⟩))
          all_goals
            go_wp2_with fail
            refine bodyPost_ret (v := .tuple #[]) (by simp [results, Tryd.results83, go_sem]) rfl ?_
            exact HF.out 0

end Go.Proofs.YtpkdpddillebfaaDoor.S
