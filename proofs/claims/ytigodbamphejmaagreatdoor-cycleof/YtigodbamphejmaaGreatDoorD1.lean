/- The contract of the document's own Labels. -/
import Derived.Test.YtigodbamphejmaaGreatDoorBg
import Derived.Test.YtigodbamphejmaaGreatDoorGYe
namespace Go.Proofs.YtigodbamphejmaaGreatDoor.S
open Go.RowKit Go.WideMaps Go.Maps

/-- A row of labels, a block of its own. -/
def RowL (w : World) (b : Nat) (l : List Nat) : Prop := w.heap[b]? = some (.cells (vals l) 3)

theorem RowL.cell {w : World} {b : Nat} {l : List Nat} (h : RowL w b l) (i : Nat) (hi : i < l.length) : w.cell? ⟨b, i, none⟩ = some (.int .i64 ((l.getD i 0 : Nat) : Int)) := by
  unfold RowL at h
  simp [World.cell?, h, vals, hi]
theorem RowL.frozen {w : World} {b : Nat} {l : List Nat} (h : RowL w b l) (i : Nat) : w.frozen? ⟨b, i, none⟩ = false := by
  unfold RowL at h
  simp [World.frozen?, h]
theorem RowL.lt {w : World} {b : Nat} {l : List Nat} (h : RowL w b l) : b < w.heap.size := lt_of_some h
theorem RowL.set {w : World} {b : Nat} {l : List Nat} (h : RowL w b l) (k v : Nat) : RowL (w.setCell ⟨b, k, none⟩ (.int .i64 (v : Int))) b (l.set k v) := by
  unfold RowL at h ⊢
  rw [← vals_set]
  simp [World.setCell, Array.getElem?_modify, h]
theorem RowL.below {w w' : World} {b B : Nat} {l : List Nat} (h : RowL w b l) (hb : Below B w w') (hl : b < B) : RowL w' b l := (hb.block b hl).trans h
theorem RowL.drewN {w : World} {b : Nat} {l : List Nat} (h : RowL w b l) (n : Nat) : RowL (w.drewN n) b l := h
theorem RowL.alloc {w : World} {b : Nat} {l : List Nat} (h : RowL w b l) (o : Obj) : RowL (w.alloc o) b l := (Below.heap_alloc w o b h.lt).trans h

theorem rowL_made (w : World) (n : Nat) : RowL (w.alloc (.cells (madeCells #[.int .i64 0] n) 3)) w.heap.size (fill n 0) := by
  rw [made_vals]; exact heap_alloc_new w _

theorem told_comm {l : List Nat} {u v : Nat} : (l.set v (min (l.getD u 0) (l.getD v 0))).set u (min (l.getD u 0) (l.getD v 0)) = told l u v := by
  unfold told
  by_cases h : u = v
  · subst h; rfl
  · rw [List.set_comm _ _ (Ne.symm h)]

theorem sum_range (k : Nat) : (List.range k).sum ≤ k * k := by
  induction k with
  | zero => simp
  | succ k ih =>
    rw [List.range_succ, List.sum_append]
    simp only [List.sum_cons, List.sum_nil]
    have : (k + 1) * (k + 1) = k * k + 2 * k + 1 := by rw [Nat.add_mul, Nat.mul_add]; omega
    omega

/-- What Labels hands back. -/
def LabPost (w : World) (n : Nat) (R : List (Int × Int × Int)) (e : Ending) (w' : World) : Prop :=
  ∃ b l, e = .returned (.slice (some ⟨b, 0, none⟩) n n) ∧ RowL w' b l ∧ w.heap.size ≤ b ∧ l.length = n ∧ (∀ u v, u < n → v < n → (l.getD u 0 = l.getD v 0 ↔ cnR R u v)) ∧ Below w.heap.size w w'

/-- The ends of the edges are nodes. -/
def Inn (n : Nat) (R : List (Int × Int × Int)) : Prop := ∀ e ∈ R, ea e < n ∧ eb e < n ∧ e.2.1 = (ea e : Int) ∧ e.2.2 = (eb e : Int)

set_option maxHeartbeats 4000000 in
set_option maxRecDepth 100000 in
theorem labels_any (n B q : Nat) (u : Value) (R : List (Int × Int × Int)) (w : World) (h : G.GAt w B 33 55 q (n : Int) u R) (hl : R.length ≤ 120) (hn : n ≤ 40) (hin : Inn n R) :
    Calls Tryz.prog 47 #[.pointer (some ⟨q, 0, none⟩)] w (LabPost w n R) := by
  have hc := h.c0
  have hu1 := h.c1
  have hqlt := h.plt
  have HG : Hid (G.GAt w B 33 55 q (n : Int) u R) := h
  have HIN : Hid (Inn n R) := hin
  obtain ⟨m, hm⟩ : ∃ m, m = R.length := ⟨_, rfl⟩
  have HM : Hid (m = R.length) := hm
  obtain ⟨ua, uc, hv⟩ := h.row.slice_len
  rw [← hm] at hv hl
  have HV : Hid (u = .slice ua m uc) := hv
  rw [hv] at hu1
  have hmk := fun W => run_make_row' (P := Tryz.prog) 39 3 (.int .i64 0) 8 Tryz.underlying39 Tryz.info3 rfl .i64 .i64 n (by omega) (by omega) W
  clear h hin hm hv
  go_enter Tryz.func47, Tryz.ntmps47
  go_wp2_with fail
  go_loopw [4, 16] (fun _ s16 wq => ∃ k : Nat, k ≤ n ∧ s16 = .int .i64 k ∧ RowL wq w.heap.size (fill n k) ∧ Below w.heap.size w wq) (fun _ s16 _ => n - (intOf s16).toNat)
  case atStart => exact ⟨0, Nat.zero_le _, rfl, rowL_made w n, (Below.refl _ _).alloc (Nat.le_refl _) _⟩
  case round =>
    obtain ⟨k, hk, rfl, hr, hb⟩ := hrel
    clear hmk
    by_cases hlt : k < n
    · as_aux_lemma =>
      have hc1 := hr.cell k (by rw [fill_length]; exact hlt)
      have hf := hr.frozen k
      have HR : Hid (RowL (wr.setCell ⟨w.heap.size, k, none⟩ (.int .i64 (k : Int))) w.heap.size (fill n (k + 1))) := by
        have := hr.set k k
        rw [fill_succ] at this; exact this
      have HB : Hid (Below w.heap.size w (wr.setCell ⟨w.heap.size, k, none⟩ (.int .i64 (k : Int)))) := hb.setCell (Nat.le_refl _) _
      clear hr hb
      generalize (fill n k).getD k 0 = z at hc1
      go_wp2
      go_roundw
      case rel => exact ⟨k + 1, by omega, by go_num, HR.out, HB.out⟩
      case measure => simp [intOf]; omega
    · have hke : k = n := by omega
      subst hke
      rw [fill_all] at hr
      have HR0 : Hid (RowL wr w.heap.size (List.range k)) := hr
      have HB0 : Hid (Below w.heap.size w wr) := hb
      clear hr hb
      go_wp2_with fail
      go_loopg [5] 10000 (fun r s5 wq => ∃ l, Lab k R l ∧ RowL wq w.heap.size l ∧ Below w.heap.size w wq ∧ ((s5 = .bool true ∧ l.sum < r) ∨ (s5 = .bool false ∧ ∀ e ∈ R, l.getD (ea e) 0 = l.getD (eb e) 0)))
      case atStart =>
        refine ⟨List.range k, lab_start k R, HR0.out, HB0.out, .inl ⟨rfl, ?_⟩⟩
        have h1 := sum_range k
        have h2 : k * k ≤ 40 * 40 := Nat.mul_le_mul hn hn
        omega
      case round =>
        obtain ⟨l, hlab, hr, hb, hs⟩ := hrel
        rcases hs with ⟨rfl, hsum⟩ | ⟨rfl, hall⟩
        · have hg := HG.out.below hb
          have HL : Hid (Lab k R l ∧ RowL wr w.heap.size l ∧ Below w.heap.size w wr) := ⟨hlab, hr, hb⟩
          have hu2 : wr.cell? ⟨q, 1, none⟩ = some (.slice ua m uc) := by have := hg.c1; rwa [HV.out] at this
          clear hlab hr hb hg hc hu1 HR0 HB0
          go_wp2_with fail
          go_loopw [5, 30] (fun s5 s30 wq => ∃ (j : Nat) (l' : List Nat), j ≤ m ∧ s30 = .int .i64 j ∧ Lab k R l' ∧ RowL wq w.heap.size l' ∧ Below w.heap.size w wq ∧ ((s5 = .bool false ∧ l' = l ∧ ∀ i e, i < j → R[i]? = some e → l.getD (ea e) 0 = l.getD (eb e) 0) ∨ (s5 = .bool true ∧ l'.sum < l.sum))) (fun _ s30 _ => m - (intOf s30).toNat)
          case atStart => exact ⟨0, l, Nat.zero_le _, rfl, HL.out.1, HL.out.2.1, HL.out.2.2, .inl ⟨rfl, rfl, fun i e hi => by omega⟩⟩
          case round =>
            obtain ⟨j, l', hj, rfl, hlab', hr', hb', hs'⟩ := hrel
            by_cases hlt : j < m
            · obtain ⟨⟨x0, x1, x2⟩, hx⟩ : ∃ e, R[j]? = some e := ⟨_, List.getElem?_eq_getElem (by rw [← HM.out]; exact hlt)⟩
              obtain ⟨hA, hE, h1, h2⟩ := HIN.out _ (List.mem_of_getElem? hx)
              obtain ⟨g, hua⟩ : ∃ g, ua = some ⟨g, 0, none⟩ := by
                rcases HG.out.row.shape with ⟨_, e⟩ | ⟨g, cap, e, _⟩
                · rw [e] at hx; simp at hx
                · rw [HV.out] at e
                  injection e with e1 _ _
                  exact ⟨g, e1⟩
              obtain ⟨r0, r1, r2⟩ := (HG.out.below hb').row.at (g := g) (by rw [HV.out, hua]; rfl) hx
              have HX : Hid (R[j]? = some (x0, x1, x2)) := hx
              have HT : Hid (Lab k R (told l' (ea (x0, x1, x2)) (eb (x0, x1, x2)))) := lab_step hlab' (List.mem_of_getElem? hx) hA hE
              have HS' : Hid (u5 = .bool false ∧ l' = l ∧ (∀ i e, i < j → R[i]? = some e → l.getD (ea e) 0 = l.getD (eb e) 0) ∨ u5 = .bool true ∧ l'.sum < l.sum) := hs'
              simp only at h1 h2 r0 r1 r2
              generalize hAe : ea (x0, x1, x2) = A at *
              generalize hEe : eb (x0, x1, x2) = E at *
              have HAE : Hid (ea (x0, x1, x2) = A ∧ eb (x0, x1, x2) = E) := ⟨hAe, hEe⟩
              clear hAe hEe hx hs'
              subst h1 h2
              have hll := hlab'.1
              have cA := hr'.cell A (by omega)
              have cE := hr'.cell E (by omega)
              have HR : Hid (Lab k R l' ∧ RowL wr w.heap.size l' ∧ Below w.heap.size w wr) := ⟨hlab', hr', hb'⟩
              have hbs := hb'.size
              clear hlab' hr' hb' HL
              obtain ⟨X, hX⟩ : ∃ X, l'.getD A 0 = X := ⟨_, rfl⟩
              obtain ⟨Y, hY⟩ : ∃ Y, l'.getD E 0 = Y := ⟨_, rfl⟩
              rw [hX] at cA
              rw [hY] at cE
              have HXY : Hid (l'.getD A 0 = X ∧ l'.getD E 0 = Y) := ⟨hX, hY⟩
              clear hX hY
              subst hua
              -- the edge's box
              obtain ⟨W1, hW1⟩ : ∃ W1, W1 = wr.alloc (.cells #[.int .i64 x0, .int .i64 (A : Int), .int .i64 (E : Int)] 55) := ⟨_, rfl⟩
              have hh : W1.heap[wr.heap.size]? = some (.cells #[.int .i64 x0, .int .i64 (A : Int), .int .i64 (E : Int)] 55) := by rw [hW1]; exact heap_alloc_new wr _
              have p1 : W1.cell? ⟨wr.heap.size, 1, none⟩ = some (.int .i64 (A : Int)) := by simp [World.cell?, hh]
              have p2 : W1.cell? ⟨wr.heap.size, 2, none⟩ = some (.int .i64 (E : Int)) := by simp [World.cell?, hh]
              have HR1 : Hid (RowL W1 w.heap.size l' ∧ Below w.heap.size w W1) := ⟨by rw [hW1]; exact HR.out.2.1.alloc _, by rw [hW1]; exact HR.out.2.2.alloc hbs _⟩
              have hne : w.heap.size ≠ wr.heap.size := Nat.ne_of_lt HR.out.2.1.lt
              have HW1 : Hid (wr.alloc (.cells #[.int .i64 x0, .int .i64 (A : Int), .int .i64 (E : Int)] 55) = W1) := hW1.symm
              have qA : W1.cell? ⟨w.heap.size, A, none⟩ = some (.int .i64 (X : Int)) := by
                have := HR1.out.1.cell A (by omega); rwa [HXY.out.1] at this
              have qE : W1.cell? ⟨w.heap.size, E, none⟩ = some (.int .i64 (Y : Int)) := by
                have := HR1.out.1.cell E (by omega); rwa [HXY.out.2] at this
              clear hh hW1 cA cE
              rcases Nat.lt_trichotomy X Y with hxy | hxy | hxy
              · as_aux_lemma =>
                have h1 : (X : Int) < (Y : Int) := by omega
                have hq : ((Y : Int) == (X : Int)) = false := beq_eq_false_iff_ne.2 (by omega)
                have HTD : Hid ((l'.set A X).set E X = told l' A E ∧ (told l' A E).sum < l'.sum) := by
                  refine ⟨?_, told_sum (by omega) (by omega) (by rw [HXY.out.1, HXY.out.2]; omega)⟩
                  unfold told
                  rw [HXY.out.1, HXY.out.2, show min X Y = X by omega]
                have HYE : Hid (l'.getD E 0 = Y) := HXY.out.2
                have HNE : Hid (A ≠ E) := fun e => by have h1 := HXY.out.1; have h2 := HXY.out.2; rw [e] at h1; omega
                have HSM : Hid (l'.sum ≤ l.sum) := by
                  rcases HS'.out with ⟨_, rfl, _⟩ | ⟨_, h⟩
                  · exact Nat.le_refl _
                  · exact Nat.le_of_lt h
                clear HS' HX HAE HXY
                go_wp2_with fail
                rw [HW1.out]
                go_quiet (fail)
                have HV : Hid (RowL (W1.drewN nq) w.heap.size l' ∧ Below w.heap.size w (W1.drewN nq)) := ⟨HR1.out.1.drewN nq, below_drewN HR1.out.2 nq⟩
                have s1 : (W1.drewN nq).cell? ⟨wr.heap.size, 1, none⟩ = some (.int .i64 (A : Int)) := p1
                have s2 : (W1.drewN nq).cell? ⟨wr.heap.size, 2, none⟩ = some (.int .i64 (E : Int)) := p2
                have s3 : (W1.drewN nq).cell? ⟨w.heap.size, A, none⟩ = some (.int .i64 (X : Int)) := qA
                have s4 : (W1.drewN nq).cell? ⟨w.heap.size, E, none⟩ = some (.int .i64 (Y : Int)) := qE
                clear p1 p2 qA qE
                generalize W1.drewN nq = V at *
                have hmin : min (X : Int) (Y : Int) = (X : Int) := by omega
                simp only [hmin]
                clear hmin
                go_upto_region 15 with fail
                have hrd : RowL V.drew w.heap.size l' := HV.out.1
                have t1 : V.drew.cell? ⟨wr.heap.size, 1, none⟩ = some (.int .i64 (A : Int)) := s1
                have t2 : V.drew.cell? ⟨wr.heap.size, 2, none⟩ = some (.int .i64 (E : Int)) := s2
                have t3 : V.drew.cell? ⟨w.heap.size, A, none⟩ = some (.int .i64 (X : Int)) := s3
                have f3 := hrd.frozen A
                have hrs := hrd.set A X
                have t4 : V.drew.cell? ⟨w.heap.size, E, none⟩ = some (.int .i64 (Y : Int)) := s4
                have f4 := hrd.frozen E
                have f5 := hrs.frozen E
                have t5 := hrs.cell E (by simp; omega)
                rw [show (l'.set A X).getD E 0 = Y by rw [← HYE.out]; simp [HNE.out]] at t5
                have t6 : (V.setCell ⟨w.heap.size, A, none⟩ (.int .i64 (X : Int))).cell? ⟨w.heap.size, E, none⟩ = some (.int .i64 (Y : Int)) := t5
                have f6 : (V.setCell ⟨w.heap.size, A, none⟩ (.int .i64 (X : Int))).frozen? ⟨w.heap.size, E, none⟩ = false := f5
                have t7 : (V.setCell ⟨w.heap.size, A, none⟩ (.int .i64 (X : Int))).drew.cell? ⟨w.heap.size, E, none⟩ = some (.int .i64 (Y : Int)) := t5
                have f7 : (V.setCell ⟨w.heap.size, A, none⟩ (.int .i64 (X : Int))).drew.frozen? ⟨w.heap.size, E, none⟩ = false := f5
                have hAE : ¬ A = E := HNE.out
                have hEA : ¬ E = A := fun e => HNE.out e.symm
                have HRT : Hid (RowL ((V.drew.setCell ⟨w.heap.size, A, none⟩ (.int .i64 (X : Int))).setCell ⟨w.heap.size, E, none⟩ (.int .i64 (X : Int))) w.heap.size (told l' A E) ∧ Below w.heap.size w ((V.drew.setCell ⟨w.heap.size, A, none⟩ (.int .i64 (X : Int))).setCell ⟨w.heap.size, E, none⟩ (.int .i64 (X : Int)))) := by
                  refine ⟨?_, (((HV.out.2.drew).setCell (Nat.le_refl _) _).setCell (Nat.le_refl _) _)⟩
                  rw [← HTD.out.1]; exact hrs.set E X
                clear hrd hrs hq h1
                go_region_held (fun w' => w'.cell? ⟨wr.heap.size, 1, none⟩ = some (.int .i64 (A : Int)) ∧ w'.cell? ⟨wr.heap.size, 2, none⟩ = some (.int .i64 (E : Int))) (go_keep) (fail)
                all_goals
                  go_wp2_with fail
                  go_roundw
                  case rel => exact ⟨j + 1, told l' A E, by omega, by go_num, HT.out, HRT.out.1, HRT.out.2, .inr ⟨rfl, by have := HTD.out.2; have := HSM.out; omega⟩⟩
                  case measure => simp [intOf]; omega
              · as_aux_lemma =>
                subst hxy
                have HF : Hid (u5 = .bool false ∧ l' = l ∧ (∀ i e, i < j + 1 → R[i]? = some e → l.getD (ea e) 0 = l.getD (eb e) 0) ∨ u5 = .bool true ∧ l'.sum < l.sum) := by
                  rcases HS'.out with ⟨h1, rfl, h3⟩ | h1
                  · refine .inl ⟨h1, rfl, fun i e hi he => ?_⟩
                    by_cases hij : i = j
                    · subst hij
                      have : e = (x0, (A : Int), (E : Int)) := by rw [HX.out] at he; injection he with he; exact he.symm
                      rw [this, HAE.out.1, HAE.out.2, HXY.out.1, HXY.out.2]
                    · exact h3 i e (by omega) he
                  · exact .inr h1
                clear HT HS' HX HAE HXY
                go_wp2_with fail
                rw [HW1.out]
                go_quiet (fail)
                have HV : Hid (RowL (W1.drewN nq) w.heap.size l' ∧ Below w.heap.size w (W1.drewN nq)) := ⟨HR1.out.1.drewN nq, below_drewN HR1.out.2 nq⟩
                have s1 : (W1.drewN nq).cell? ⟨wr.heap.size, 1, none⟩ = some (.int .i64 (A : Int)) := p1
                have s2 : (W1.drewN nq).cell? ⟨wr.heap.size, 2, none⟩ = some (.int .i64 (E : Int)) := p2
                have s3 : (W1.drewN nq).cell? ⟨w.heap.size, A, none⟩ = some (.int .i64 (X : Int)) := qA
                have s4 : (W1.drewN nq).cell? ⟨w.heap.size, E, none⟩ = some (.int .i64 (X : Int)) := qE
                clear p1 p2 qA qE
                generalize W1.drewN nq = V at *
                go_wp2_with fail
                go_roundw
                case rel => exact ⟨j + 1, l', by omega, by go_num, HR.out.1, HV.out.1, HV.out.2, HF.out⟩
                case measure => simp [intOf]; omega
              · as_aux_lemma =>
                have h1 : (Y : Int) < (X : Int) := by omega
                have hq : ((X : Int) == (Y : Int)) = false := beq_eq_false_iff_ne.2 (by omega)
                have HTD : Hid ((l'.set A Y).set E Y = told l' A E ∧ (told l' A E).sum < l'.sum) := by
                  refine ⟨?_, told_sum (by omega) (by omega) (by rw [HXY.out.1, HXY.out.2]; omega)⟩
                  unfold told
                  rw [HXY.out.1, HXY.out.2, show min X Y = Y by omega]
                have HYE : Hid (l'.getD E 0 = Y) := HXY.out.2
                have HNE : Hid (A ≠ E) := fun e => by have h1 := HXY.out.1; have h2 := HXY.out.2; rw [e] at h1; omega
                have HSM : Hid (l'.sum ≤ l.sum) := by
                  rcases HS'.out with ⟨_, rfl, _⟩ | ⟨_, h⟩
                  · exact Nat.le_refl _
                  · exact Nat.le_of_lt h
                clear HS' HX HAE HXY
                go_wp2_with fail
                rw [HW1.out]
                go_quiet (fail)
                have HV : Hid (RowL (W1.drewN nq) w.heap.size l' ∧ Below w.heap.size w (W1.drewN nq)) := ⟨HR1.out.1.drewN nq, below_drewN HR1.out.2 nq⟩
                have s1 : (W1.drewN nq).cell? ⟨wr.heap.size, 1, none⟩ = some (.int .i64 (A : Int)) := p1
                have s2 : (W1.drewN nq).cell? ⟨wr.heap.size, 2, none⟩ = some (.int .i64 (E : Int)) := p2
                have s3 : (W1.drewN nq).cell? ⟨w.heap.size, A, none⟩ = some (.int .i64 (X : Int)) := qA
                have s4 : (W1.drewN nq).cell? ⟨w.heap.size, E, none⟩ = some (.int .i64 (Y : Int)) := qE
                clear p1 p2 qA qE
                generalize W1.drewN nq = V at *
                have hmin : min (X : Int) (Y : Int) = (Y : Int) := by omega
                simp only [hmin]
                clear hmin
                go_upto_region 15 with fail
                have hrd : RowL V.drew w.heap.size l' := HV.out.1
                have t1 : V.drew.cell? ⟨wr.heap.size, 1, none⟩ = some (.int .i64 (A : Int)) := s1
                have t2 : V.drew.cell? ⟨wr.heap.size, 2, none⟩ = some (.int .i64 (E : Int)) := s2
                have t3 : V.drew.cell? ⟨w.heap.size, A, none⟩ = some (.int .i64 (X : Int)) := s3
                have f3 := hrd.frozen A
                have hrs := hrd.set A Y
                have t4 : V.drew.cell? ⟨w.heap.size, E, none⟩ = some (.int .i64 (Y : Int)) := s4
                have f4 := hrd.frozen E
                have f5 := hrs.frozen E
                have t5 := hrs.cell E (by simp; omega)
                rw [show (l'.set A Y).getD E 0 = Y by rw [← HYE.out]; simp [HNE.out]] at t5
                have t6 : (V.setCell ⟨w.heap.size, A, none⟩ (.int .i64 (Y : Int))).cell? ⟨w.heap.size, E, none⟩ = some (.int .i64 (Y : Int)) := t5
                have f6 : (V.setCell ⟨w.heap.size, A, none⟩ (.int .i64 (Y : Int))).frozen? ⟨w.heap.size, E, none⟩ = false := f5
                have t7 : (V.setCell ⟨w.heap.size, A, none⟩ (.int .i64 (Y : Int))).drew.cell? ⟨w.heap.size, E, none⟩ = some (.int .i64 (Y : Int)) := t5
                have f7 : (V.setCell ⟨w.heap.size, A, none⟩ (.int .i64 (Y : Int))).drew.frozen? ⟨w.heap.size, E, none⟩ = false := f5
                have hAE : ¬ A = E := HNE.out
                have hEA : ¬ E = A := fun e => HNE.out e.symm
                have HRT : Hid (RowL ((V.drew.setCell ⟨w.heap.size, A, none⟩ (.int .i64 (Y : Int))).setCell ⟨w.heap.size, E, none⟩ (.int .i64 (Y : Int))) w.heap.size (told l' A E) ∧ Below w.heap.size w ((V.drew.setCell ⟨w.heap.size, A, none⟩ (.int .i64 (Y : Int))).setCell ⟨w.heap.size, E, none⟩ (.int .i64 (Y : Int)))) := by
                  refine ⟨?_, (((HV.out.2.drew).setCell (Nat.le_refl _) _).setCell (Nat.le_refl _) _)⟩
                  rw [← HTD.out.1]; exact hrs.set E Y
                clear hrd hrs hq h1
                go_region_held (fun w' => w'.cell? ⟨wr.heap.size, 1, none⟩ = some (.int .i64 (A : Int)) ∧ w'.cell? ⟨wr.heap.size, 2, none⟩ = some (.int .i64 (E : Int))) (go_keep) (fail)
                all_goals
                  go_wp2_with fail
                  go_roundw
                  case rel => exact ⟨j + 1, told l' A E, by omega, by go_num, HT.out, HRT.out.1, HRT.out.2, .inr ⟨rfl, by have := HTD.out.2; have := HSM.out; omega⟩⟩
                  case measure => simp [intOf]; omega
            · have hje : j = m := by omega
              subst hje
              rcases hs' with ⟨rfl, rfl, hall⟩ | ⟨rfl, hsum'⟩
              · as_aux_lemma =>
                have HF : Hid (Lab k R l' ∧ RowL wr w.heap.size l' ∧ Below w.heap.size w wr ∧ ∀ e ∈ R, l'.getD (ea e) 0 = l'.getD (eb e) 0) := ⟨hlab', hr', hb', fun e he => by
                  obtain ⟨i, hi, hie⟩ := List.mem_iff_getElem.1 he
                  exact hall i e (by rw [HM.out]; exact hi) (by rw [List.getElem?_eq_getElem hi, hie])⟩
                clear hlab' hr' hb' hall HL
                go_wp2_with fail
                go_roundg (gk - 1)
                case measure => omega
                case rel => exact ⟨l', HF.out.1, HF.out.2.1, HF.out.2.2.1, .inr ⟨rfl, HF.out.2.2.2⟩⟩
              · as_aux_lemma =>
                have HF : Hid (Lab k R l' ∧ RowL wr w.heap.size l' ∧ Below w.heap.size w wr) := ⟨hlab', hr', hb'⟩
                clear hlab' hr' hb' HL
                go_wp2_with fail
                go_roundg (l'.sum + 1)
                case measure => omega
                case rel => exact ⟨l', HF.out.1, HF.out.2.1, HF.out.2.2, .inl ⟨rfl, by omega⟩⟩
        · as_aux_lemma =>
          have HF : Hid (LabPost w k R (.returned (.slice (some ⟨w.heap.size, 0, none⟩) k k)) wr) :=
            ⟨_, l, rfl, hr, Nat.le_refl _, hlab.1, fun u v hu hv => lab_done hlab (fun e he => ⟨(HIN.out e he).1, (HIN.out e he).2.1⟩) hall hu hv, hb⟩
          clear hr hb hlab hall
          go_wp2_with fail
          go_ret
          exact HF.out

end Go.Proofs.YtigodbamphejmaaGreatDoor.S
namespace Go.Proofs.YtigodbamphejmaaGreatDoor.S
open Go.RowKit Go.WideMaps Go.Maps

set_option maxHeartbeats 400000 in
theorem whole1 (x y cw bl n : Nat) (l : List Nat) (s : Bool) (w : World) (hc : w.cell? ⟨cw, 0, none⟩ = some (.slice (some ⟨bl, 0, none⟩) n n)) (hr : RowL w bl l) (hl : l.length = n) (hx : x < n) (hy : y < n) (hv : (((l.getD x 0 : Nat) : Int) == ((l.getD y 0 : Nat) : Int)) = s) :
    Calls Tryz.prog 51 #[.int .i64 (x : Int), .int .i64 (y : Int), .pointer (some ⟨cw, 0, none⟩)] w fun e w' => e = .returned (.bool s) ∧ ∃ n, w' = w.drewN n := by
  have hcx := hr.cell x (by omega)
  have hcy := hr.cell y (by omega)
  clear hr
  generalize l.getD x 0 = X at *
  generalize l.getD y 0 = Y at *
  go_enter Tryz.func51, Tryz.ntmps51
  go_wp2_with fail
  go_quiet (fail)
  clear hcx hcy hc
  go_wp2_with fail
  go_ret
  exact ⟨by simp, _, rfl⟩

/-- Rows, handed back. -/
def RowsPost (w : World) (Gs : List (List Nat)) (e : Ending) (w' : World) : Prop :=
  ∃ a cap, e = .returned (.slice a Gs.length cap) ∧ (0 < Gs.length → ∃ g, a = some ⟨g, 0, none⟩ ∧ RowsAt w' g Gs Gs.length) ∧ Below w.heap.size w w'

theorem rowsPost_of {w w1 w' : World} {t : Value} {Gs : List (List Nat)} {r c : Nat → Nat} (h : POut w' w1.heap.size t Gs r c) (hb : Below w1.heap.size w1 w') (h1 : Below w.heap.size w w1) : RowsPost w Gs (.returned t) w' := by
  obtain ⟨a, cap, rfl, ha⟩ := h.shape
  refine ⟨a, cap, rfl, fun hl => ?_, h1.trans (hb.mono h1.size)⟩
  obtain ⟨g, rfl⟩ := ha hl
  exact ⟨g, rfl, h.rows rfl⟩

theorem beq_same {a b c d : Nat} (h : a = b ↔ c = d) {s : Bool} (hs : ((c : Int) == (d : Int)) = s) : ((a : Int) == (b : Int)) = s := by
  rw [← hs]
  rw [Bool.eq_iff_iff, beq_iff_eq, beq_iff_eq]
  omega

set_option maxHeartbeats 1000000 in
theorem whole_doc (n B q : Nat) (u : Value) (R : List (Int × Int × Int)) (L : List Nat) (w : World) (h : G.GAt w B 33 55 q (n : Int) u R) (hl : R.length ≤ 120) (hn : n ≤ 40) (hin : Inn n R) (hg : Good n L) (hL : ∀ x y, x < n → y < n → (L.getD x 0 = L.getD y 0 ↔ cnR R x y)) :
    Calls Tryz.prog 13 #[.pointer (some ⟨q, 0, none⟩)] w (RowsPost w (grps L n)) := by
  have HG : Hid (G.GAt w B 33 55 q (n : Int) u R) := h
  have HLL : Hid (∀ x y, x < n → y < n → (L.getD x 0 = L.getD y 0 ↔ cnR R x y)) := hL
  have hmf' := hmf
  clear h hL
  go_enter Tryz.func13, Tryz.ntmps13
  go_wp2_with fail
  refine (labels_any n B q u R w HG.out hl hn hin).mono ?_
  rintro e w1 ⟨b, l, rfl, hr, hb, hll, hlab, hbl⟩
  have hc : (w1.alloc (.cells #[.slice (some ⟨b, 0, none⟩) n n] 39)).cell? ⟨q, 0, none⟩ = some (.int .i64 (n : Int)) := by
    rw [World.cell?_alloc_lt _ _ ⟨q, 0, none⟩ (HG.out.below hbl).plt]; exact (HG.out.below hbl).c0
  have hql : q < w1.heap.size := (HG.out.below hbl).plt
  have HX : Hid (RowL w1 b l ∧ Below w.heap.size w w1) := ⟨hr, hbl⟩
  have HAL : Hid (Alike 51 (w1.alloc (.cells #[.slice (some ⟨b, 0, none⟩) n n] 39)) n w1.heap.size L) := by
    intro W' hW' x y s hx hy hs
    have hrl := hr.lt
    refine whole1 x y w1.heap.size b n l s W' ?_ ((hr.alloc _).below hW' (by simp; omega)) hll hx hy (beq_same ?_ hs)
    · rw [hW'.cell (p := ⟨w1.heap.size, 0, none⟩) (by simp)]; simp
    · rw [hlab x y hx hy, HLL.out x y hx hy]
  clear hr hlab hbl
  go_wp2_with fail
  refine (parts_any30 n w1.heap.size L _ HAL.out hg hn).mono ?_
  rintro e w2 ⟨t, r, c, rfl, hP, hb2⟩
  have HF : Hid (RowsPost w (grps L n) (.returned t) w2) := rowsPost_of hP hb2 (HX.out.2.alloc HX.out.2.size _)
  clear hP hb2
  go_wp2
  go_ret
  exact HF.out

end Go.Proofs.YtigodbamphejmaaGreatDoor.S
namespace Go.Proofs.YtigodbamphejmaaGreatDoor.S
open Go.RowKit Go.WideMaps Go.Maps

set_option maxHeartbeats 1000000 in
/-- same at two rows of the same numbers. -/
theorem same_ints (a1 a2 : Option Addr) (gl c1 c2 : Nat) (F : Nat → Int) (w : World) (h : 0 < gl → ∃ r1 r2, a1 = some ⟨r1, 0, none⟩ ∧ a2 = some ⟨r2, 0, none⟩ ∧ (∀ j, j < gl → w.cell? ⟨r1, j, none⟩ = some (.int .i64 (F j))) ∧ ∀ j, j < gl → w.cell? ⟨r2, j, none⟩ = some (.int .i64 (F j))) (hgl : gl ≤ 1000000) :
    Calls Tryz.prog 11 #[.slice a1 gl c1, .slice a2 gl c2] w fun e w' => e = .returned (.bool true) ∧ ∃ n, w' = w.drewN n := by
  have HH := (show Hid _ from h)
  clear h
  go_enter Tryz.func11, Tryz.ntmps11
  go_wp2_with fail
  go_loopw [5] (fun s5 wq => ∃ j : Nat, j ≤ gl ∧ s5 = .int .i64 j ∧ ∃ q, wq = w.drewN q) (fun s5 _ => gl - (intOf s5).toNat)
  case atStart => exact ⟨0, Nat.zero_le _, rfl, 0, rfl⟩
  case round =>
    obtain ⟨j, hj, rfl, q, hq0⟩ := hrel
    have HQ : Hid (wr = w.drewN q) := hq0
    clear hq0
    by_cases hlt : j < gl
    · obtain ⟨r1, r2, rfl, rfl, h1, h2⟩ := HH.out (by omega)
      have c1' : wr.cell? ⟨r1, j, none⟩ = some (.int .i64 (F j)) := by rw [HQ.out]; exact h1 j hlt
      have c2' : wr.cell? ⟨r2, j, none⟩ = some (.int .i64 (F j)) := by rw [HQ.out]; exact h2 j hlt
      generalize F j = x at *
      clear h1 h2
      go_wp2_with fail
      go_quiet (fail)
      clear c1' c2'
      go_wp2_with fail
      go_roundw
      case rel => exact ⟨j + 1, by omega, by go_num, q + nq, by rw [HQ.out, drewN_drewN]⟩
      case measure => simp [intOf]; omega
    · go_wp2_with fail
      go_ret
      exact ⟨rfl, q, HQ.out⟩

/-- One of the first k numbers is x. -/
def Has (F : Nat → Nat) (k x : Nat) : Prop := ∃ j, j < k ∧ F j = x

theorem has_zero (F : Nat → Nat) (x : Nat) : ¬ Has F 0 x := fun ⟨_, h, _⟩ => by omega
theorem has_hit {F : Nat → Nat} {k x : Nat} (h : F k = x) : Has F (k + 1) x := ⟨k, by omega, h⟩
theorem has_old {F : Nat → Nat} {k x : Nat} (h : Has F k x) : Has F (k + 1) x := by
  obtain ⟨j, h1, h2⟩ := h
  exact ⟨j, by omega, h2⟩
theorem has_miss {F : Nat → Nat} {k x : Nat} (h : ¬ Has F k x) (hk : F k ≠ x) : ¬ Has F (k + 1) x := by
  rintro ⟨j, h1, h2⟩
  by_cases hj : j = k
  · subst hj; exact hk h2
  · exact h ⟨j, by omega, h2⟩

/-- What In has reckoned of a row. -/
def InRel (F : Nat → Nat) (k a b : Nat) (s9 : Value) : Prop :=
  (s9 = .int .i64 0 ∧ ¬ Has F k a ∧ ¬ Has F k b) ∨ (s9 = .int .i64 1 ∧ Has F k a ∧ ¬ Has F k b) ∨ (s9 = .int .i64 2 ∧ ¬ Has F k a ∧ Has F k b) ∨ (s9 = .int .i64 3 ∧ Has F k a ∧ Has F k b)

set_option maxHeartbeats 4000000 in
set_option maxRecDepth 100000 in
theorem in_rows (ad : Option Addr) (c cap a b : Nat) (Gs : List (List Nat)) (s : Bool) (w : World) (h : 0 < c → ∃ g, ad = some ⟨g, 0, none⟩ ∧ RowsAt w g Gs c) (hc : c ≤ 1000) (hgl : ∀ i, (Gs.getD i []).length ≤ 1000) (hs : s = true ↔ ∃ i, i < c ∧ Has (fun j => (Gs.getD i []).getD j 0) (Gs.getD i []).length a ∧ Has (fun j => (Gs.getD i []).getD j 0) (Gs.getD i []).length b) :
    Calls Tryz.prog 20 #[.slice ad c cap, .int .i64 (a : Int), .int .i64 (b : Int)] w fun e w' => e = .returned (.bool s) ∧ w' = w := by
  have HH := (show Hid _ from h)
  have HS := (show Hid _ from hs)
  clear h hs
  go_enter Tryz.func20, Tryz.ntmps20
  go_wp2_with fail
  go_loopw [14] (fun s14 wq => ∃ i : Nat, i ≤ c ∧ s14 = .int .i64 i ∧ (∀ i', i' < i → ¬ (Has (fun j => (Gs.getD i' []).getD j 0) (Gs.getD i' []).length a ∧ Has (fun j => (Gs.getD i' []).getD j 0) (Gs.getD i' []).length b)) ∧ wq = w) (fun s14 _ => c - (intOf s14).toNat)
  case atStart => exact ⟨0, Nat.zero_le _, rfl, fun i' hi => by omega, rfl⟩
  case round =>
    obtain ⟨i, hi, rfl, hno, hw⟩ := hrel
    subst hw
    have HNO := (show Hid _ from hno)
    clear hno
    by_cases hlt : i < c
    · obtain ⟨g, rfl, hrows⟩ := HH.out (by omega)
      obtain ⟨r, cp, c0, cells⟩ := hrows i hlt
      have hgl' := hgl i
      obtain ⟨gl, hgle⟩ : ∃ gl, (Gs.getD i []).length = gl := ⟨_, rfl⟩
      obtain ⟨F, hF⟩ : ∃ F, F = fun j => (Gs.getD i []).getD j 0 := ⟨_, rfl⟩
      have HGL : Hid ((Gs.getD i []).length = gl ∧ F = fun j => (Gs.getD i []).getD j 0) := ⟨hgle, hF⟩
      have HC : Hid (∀ j, j < gl → wr.cell? ⟨r, j, none⟩ = some (.int .i64 ((F j : Nat) : Int))) := fun j hj => by
        rw [hF]; exact cells j (by rw [hgle]; exact hj)
      rw [hgle] at c0 hgl'
      clear cells hrows hgle hF
      go_wp2_with fail
      clear c0
      go_loopw [9, 20] (fun s9 s20 wq => ∃ k : Nat, k ≤ gl ∧ s20 = .int .i64 k ∧ InRel F k a b s9 ∧ wq = wr) (fun _ s20 _ => gl - (intOf s20).toNat)
      case atStart => exact ⟨0, Nat.zero_le _, rfl, .inl ⟨rfl, has_zero _ _, has_zero _ _⟩, rfl⟩
      case round =>
        obtain ⟨k, hk, rfl, hin, hw'⟩ := hrel
        subst hw'
        by_cases hlt' : k < gl
        · have ck := HC.out k hlt'
          obtain ⟨z, hz⟩ : ∃ z, F k = z := ⟨_, rfl⟩
          have HZ : Hid (F k = z) := hz
          rw [hz] at ck
          clear hz
          by_cases hza : z = a <;> by_cases hzb : z = b
          · subst hza
            subst hzb
            have HF : Hid (InRel F (k + 1) z z (.int .i64 3)) := .inr (.inr (.inr ⟨rfl, has_hit HZ.out, has_hit HZ.out⟩))
            rcases hin with ⟨rfl, h1, h2⟩ | ⟨rfl, h1, h2⟩ | ⟨rfl, h1, h2⟩ | ⟨rfl, h1, h2⟩
            all_goals
              clear h1 h2
              go_wp2_with fail
              go_roundw
              case rel => exact ⟨k + 1, by omega, by go_num, HF.out, by first | trivial | rfl⟩
              case measure => simp [intOf]; omega
          · subst hza
            have hq : ((z : Int) == (b : Int)) = false := beq_eq_false_iff_ne.2 (by omega)
            have hne : F k ≠ b := by rw [HZ.out]; exact hzb
            rcases hin with ⟨rfl, h1, h2⟩ | ⟨rfl, h1, h2⟩ | ⟨rfl, h1, h2⟩ | ⟨rfl, h1, h2⟩
            · have HF : Hid (InRel F (k + 1) z b (.int .i64 1)) := .inr (.inl ⟨rfl, has_hit HZ.out, has_miss h2 hne⟩)
              clear h1 h2 hne
              go_wp2_with fail
              go_roundw
              case rel => exact ⟨k + 1, by omega, by go_num, HF.out, by first | trivial | rfl⟩
              case measure => simp [intOf]; omega
            · have HF : Hid (InRel F (k + 1) z b (.int .i64 1)) := .inr (.inl ⟨rfl, has_hit HZ.out, has_miss h2 hne⟩)
              clear h1 h2 hne
              go_wp2_with fail
              go_roundw
              case rel => exact ⟨k + 1, by omega, by go_num, HF.out, by first | trivial | rfl⟩
              case measure => simp [intOf]; omega
            · have HF : Hid (InRel F (k + 1) z b (.int .i64 3)) := .inr (.inr (.inr ⟨rfl, has_hit HZ.out, has_old h2⟩))
              clear h1 h2 hne
              go_wp2_with fail
              go_roundw
              case rel => exact ⟨k + 1, by omega, by go_num, HF.out, by first | trivial | rfl⟩
              case measure => simp [intOf]; omega
            · have HF : Hid (InRel F (k + 1) z b (.int .i64 3)) := .inr (.inr (.inr ⟨rfl, has_hit HZ.out, has_old h2⟩))
              clear h1 h2 hne
              go_wp2_with fail
              go_roundw
              case rel => exact ⟨k + 1, by omega, by go_num, HF.out, by first | trivial | rfl⟩
              case measure => simp [intOf]; omega
          · subst hzb
            have hq : ((z : Int) == (a : Int)) = false := beq_eq_false_iff_ne.2 (by omega)
            have hne : F k ≠ a := by rw [HZ.out]; exact hza
            rcases hin with ⟨rfl, h1, h2⟩ | ⟨rfl, h1, h2⟩ | ⟨rfl, h1, h2⟩ | ⟨rfl, h1, h2⟩
            · have HF : Hid (InRel F (k + 1) a z (.int .i64 2)) := .inr (.inr (.inl ⟨rfl, has_miss h1 hne, has_hit HZ.out⟩))
              clear h1 h2 hne
              go_wp2_with fail
              go_roundw
              case rel => exact ⟨k + 1, by omega, by go_num, HF.out, by first | trivial | rfl⟩
              case measure => simp [intOf]; omega
            · have HF : Hid (InRel F (k + 1) a z (.int .i64 3)) := .inr (.inr (.inr ⟨rfl, has_old h1, has_hit HZ.out⟩))
              clear h1 h2 hne
              go_wp2_with fail
              go_roundw
              case rel => exact ⟨k + 1, by omega, by go_num, HF.out, by first | trivial | rfl⟩
              case measure => simp [intOf]; omega
            · have HF : Hid (InRel F (k + 1) a z (.int .i64 2)) := .inr (.inr (.inl ⟨rfl, has_miss h1 hne, has_hit HZ.out⟩))
              clear h1 h2 hne
              go_wp2_with fail
              go_roundw
              case rel => exact ⟨k + 1, by omega, by go_num, HF.out, by first | trivial | rfl⟩
              case measure => simp [intOf]; omega
            · have HF : Hid (InRel F (k + 1) a z (.int .i64 3)) := .inr (.inr (.inr ⟨rfl, has_old h1, has_hit HZ.out⟩))
              clear h1 h2 hne
              go_wp2_with fail
              go_roundw
              case rel => exact ⟨k + 1, by omega, by go_num, HF.out, by first | trivial | rfl⟩
              case measure => simp [intOf]; omega
          · have hq : ((z : Int) == (a : Int)) = false := beq_eq_false_iff_ne.2 (by omega)
            have hq2 : ((z : Int) == (b : Int)) = false := beq_eq_false_iff_ne.2 (by omega)
            have hne : F k ≠ a := by rw [HZ.out]; exact hza
            have hne2 : F k ≠ b := by rw [HZ.out]; exact hzb
            have HF : Hid (InRel F (k + 1) a b u9) := by
              rcases hin with ⟨h0, h1, h2⟩ | ⟨h0, h1, h2⟩ | ⟨h0, h1, h2⟩ | ⟨h0, h1, h2⟩
              · exact .inl ⟨h0, has_miss h1 hne, has_miss h2 hne2⟩
              · exact .inr (.inl ⟨h0, has_old h1, has_miss h2 hne2⟩)
              · exact .inr (.inr (.inl ⟨h0, has_miss h1 hne, has_old h2⟩))
              · exact .inr (.inr (.inr ⟨h0, has_old h1, has_old h2⟩))
            clear hin hne hne2
            go_wp2_with fail
            go_roundw
            case rel => exact ⟨k + 1, by omega, by go_num, HF.out, by first | trivial | rfl⟩
            case measure => simp [intOf]; omega
        · have hke : k = gl := by omega
          subst hke
          have HOUT : Hid (∀ {i' : Nat}, i' < i + 1 → ¬ (Has F k a ∧ Has F k b) → ¬ (Has (fun j => (Gs.getD i' []).getD j 0) (Gs.getD i' []).length a ∧ Has (fun j => (Gs.getD i' []).getD j 0) (Gs.getD i' []).length b)) := fun {i'} hi' hno => by
            by_cases he : i' = i
            · subst he
              rw [← HGL.out.2, HGL.out.1]; exact hno
            · exact HNO.out i' (by omega)
          rcases hin with ⟨rfl, h1, h2⟩ | ⟨rfl, h1, h2⟩ | ⟨rfl, h1, h2⟩ | ⟨rfl, h1, h2⟩
          · have HN : Hid (¬ (Has F k a ∧ Has F k b)) := fun k => h1 k.1
            clear h1 h2
            go_wp2_with fail
            go_roundw
            case rel => exact ⟨i + 1, by omega, by go_num, fun i' hi' => HOUT.out hi' HN.out, by first | trivial | rfl⟩
            case measure => simp [intOf]; omega
          · have HN : Hid (¬ (Has F k a ∧ Has F k b)) := fun k => h2 k.2
            clear h1 h2
            go_wp2_with fail
            go_roundw
            case rel => exact ⟨i + 1, by omega, by go_num, fun i' hi' => HOUT.out hi' HN.out, by first | trivial | rfl⟩
            case measure => simp [intOf]; omega
          · have HN : Hid (¬ (Has F k a ∧ Has F k b)) := fun k => h1 k.1
            clear h1 h2
            go_wp2_with fail
            go_roundw
            case rel => exact ⟨i + 1, by omega, by go_num, fun i' hi' => HOUT.out hi' HN.out, by first | trivial | rfl⟩
            case measure => simp [intOf]; omega
          · have HF : Hid (s = true) := HS.out.2 ⟨i, hlt, by rw [← HGL.out.2, HGL.out.1]; exact h1, by rw [← HGL.out.2, HGL.out.1]; exact h2⟩
            clear h1 h2
            go_wp2_with fail
            go_ret
            exact ⟨by rw [HF.out]; rfl, rfl⟩
    · have hie : i = c := by omega
      subst hie
      have HF : Hid (s = false) := by
        show s = false
        cases s with
        | false => rfl
        | true =>
          obtain ⟨i', hi', h1⟩ := HS.out.1 rfl
          exact absurd h1 (HNO.out i' hi')
      go_wp2_with fail
      go_ret
      exact ⟨by rw [HF.out]; rfl, rfl⟩

/-- In the rows of a row of least members two lie together just if they have one label. -/
theorem grps_in {n : Nat} {L : List Nat} (g : Good n L) {a b : Nat} (ha : a < n) (hb : b < n) :
    L.getD a 0 = L.getD b 0 ↔ ∃ i, i < (grps L n).length ∧ Has (fun j => ((grps L n).getD i []).getD j 0) ((grps L n).getD i []).length a ∧ Has (fun j => ((grps L n).getD i []).getD j 0) ((grps L n).getD i []).length b := by
  have key : ∀ (K : List Nat) (x : Nat), Has (fun j => K.getD j 0) K.length x ↔ x ∈ K := by
    intro K x
    constructor
    · rintro ⟨j, hj, rfl⟩
      simp [hj]
    · intro hx
      obtain ⟨j, hj, rfl⟩ := List.mem_iff_getElem.1 hx
      exact ⟨j, hj, by simp [hj]⟩
  simp only [key]
  constructor
  · intro e
    have hlt : L.getD a 0 < n := Nat.lt_of_le_of_lt (g.le a ha) ha
    have hm : ∀ x, x < n → L.getD x 0 = L.getD a 0 → x ∈ grp L n (L.getD a 0) := fun x hx hxe => by
      unfold grp
      rw [List.mem_filter]
      exact ⟨by simpa using hx, by simpa using hxe⟩
    have hG : grp L n (L.getD a 0) ∈ grps L n := by
      unfold grps
      rw [List.mem_filter]
      refine ⟨List.mem_map.2 ⟨L.getD a 0, by simpa using hlt, by rw [g.len]⟩, ?_⟩
      have := hm a ha rfl
      cases hh : grp L n (L.getD a 0) with
      | nil => rw [hh] at this; simp at this
      | cons x xs => rfl
    obtain ⟨i, hi, hie⟩ := List.mem_iff_getElem.1 hG
    refine ⟨i, hi, ?_, ?_⟩
    · have : (grps L n).getD i [] = grp L n (L.getD a 0) := by simp [hi, hie]
      rw [this]; exact hm a ha rfl
    · have : (grps L n).getD i [] = grp L n (L.getD a 0) := by simp [hi, hie]
      rw [this]; exact hm b hb e.symm
  · rintro ⟨i, hi, h1, h2⟩
    obtain ⟨x, _, _, hx⟩ := grps_at g i hi
    rw [hx] at h1 h2
    unfold grp at h1 h2
    rw [List.mem_filter] at h1 h2
    have e1 : L.getD a 0 = x := by simpa using h1.2
    have e2 : L.getD b 0 = x := by simpa using h2.2
    rw [e1, e2]

end Go.Proofs.YtigodbamphejmaaGreatDoor.S
