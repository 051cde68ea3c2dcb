/- The contract of the document's own Drop. -/
import Derived.Test.YtmbkicdahalakaaDoorYb
namespace Go.Proofs.YtmbkicdahalakaaDoor
open Go.RowKit

theorem step_app {ops : Array Oper} {o : Oper} {a : Act} {w : World} {K : Act → World → Prop} {Q : Exit → Act → World → Prop} {F : Prop}
    (hg : o.guard = none) (d x : Operand) (hop : o.op = Op.call { callee := Callee.builtin Builtin.append, args := #[d, x], argTypes := #[49, 49] })
    (w0 : World) (B q : Nat) (n : Int) (uq : Value) (R : List E) (hG : GAt w0 B 51 59 q n uq R) (v : Value) (M : List E) (ho : Owns w w0.heap.size 59 v M) (hb : Below w0.heap.size w0 w)
    (A : Addr) (m c : Nat) (N : List E) (hm : m = N.length) (hN : ∀ j u, (rowV N)[j]? = some u → w0.cell? (A.add j) = some u) (hd : a.eval d = v) (hx : a.eval x = .slice (some A) m c) (hl : M.length + N.length ≤ 100000)
    (hK : ∀ a' m' c' w', Hid (Owns w' w0.heap.size 59 (.slice a' m' c') (M ++ N) ∧ Below w0.heap.size w0 w') → w'.cell? ⟨q, 1, none⟩ = some uq → w'.frozen? ⟨q, 1, none⟩ = false → K (a.put o.dst (.slice a' m' c')) w') :
    if Region.wanted o (yielded ops a.tmps) = true then Oper.wp Tryd.prog o a w K Q else F := by
  obtain ⟨v', w', h1, h2, h3, _⟩ := append_E o.type w w0.heap.size v M N ho hb.size A m c hm (fun j u hu => by
    have e := hN j u hu
    rw [← e]
    exact hb.cell (World.block_lt_of_cell? _ _ e)) hl
  obtain ⟨a', m', c', rfl⟩ := h2.slice
  have hb' : Below w0.heap.size w w' := ⟨h3.os, h3.tape, h3.output, h3.size, fun k hk => h3.block k (Nat.lt_of_lt_of_le hk hb.size) (fun e => by
    have := (World.ownsRow.lt ho k e.symm).1
    omega)⟩
  have hb2 := hb.trans hb'
  exact step_append_runK hg d x 49 49 hop _ _ hd hx h1 (hK _ _ _ _ ⟨h2, hb2⟩ (hG.below hb2).c1 ((hG.below hb2).f1 1))

theorem below_heap {W w : World} (o : Obj) (h : w.heap = (W.alloc o).heap) (h1 : w.os = W.os) (h2 : w.tape = W.tape) (h3 : w.output = W.output) : Below W.heap.size W w :=
  ⟨h1, h2, h3, by rw [h]; exact (below_box W o).size, fun k hk => by rw [h]; exact (below_box W o).block k hk⟩

/-- What Drop of the document's own graph tells, and leaves. -/
def RdropPost (w : World) (B q : Nat) (n : Int) (u : Value) (R : List E) (id : Int) (e : Ending) (w' : World) : Prop :=
  ((∀ x ∈ R, x.1 ≠ id) ∧ e = .returned (.int .i64 7) ∧ Below w.heap.size w w') ∨
  (∃ i x, R[i]? = some x ∧ x.1 = id ∧ e = .returned (.int .i64 0) ∧ Step1 w w' B 51 q n u (R.take i ++ R.drop (i + 1)))

set_option maxHeartbeats 4000000 in
set_option maxRecDepth 100000 in
theorem rdrop_any (id n : Int) (B q : Nat) (u : Value) (R : List E) (w : World) (h : GAt w B 51 59 q n u R) (hB : B ≤ w.heap.size) (hl : R.length ≤ 120) :
    Calls Tryd.prog 18 #[.pointer (some ⟨q, 0, none⟩), .int .i64 id] w fun e w' => RdropPost w B q n u R id e w' := by
  have hu1 := h.c1
  have HG : Hid (GAt w B 51 59 q n u R) := h
  have HB : Hid (B ≤ w.heap.size) := hB
  obtain ⟨m, hm⟩ : ∃ m, m = R.length := ⟨_, rfl⟩
  have HM : Hid (m = R.length) := hm
  obtain ⟨ua, uc, hv⟩ := h.row.slice_len
  rw [← hm] at hv hl
  have HV : Hid (u = .slice ua m uc) := hv
  rw [hv] at hu1
  clear h hB hv hm
  go_enter Tryd.func18, Tryd.ntmps18
  go_wp2_with fail
  go_loopg [5, 6, 12] m (fun r _ _ s12 wq => ∃ k : Nat, s12 = .int .i64 k ∧ k + r = m ∧ (∀ x ∈ R.take k, x.1 ≠ id) ∧ Below w.heap.size w wq)
  case atStart => exact ⟨0, rfl, by omega, fun x hx => by simp at hx, Below.refl _ _⟩
  case round =>
    obtain ⟨k, rfl, hk, hno, hb⟩ := hrel
    have HNO : Hid (∀ x ∈ R.take k, x.1 ≠ id) := hno
    have HBW : Hid (Below w.heap.size w wr) := hb
    clear hno hb
    by_cases hlt : k < m
    · obtain ⟨x0, x1, x2, hx⟩ : ∃ x0 x1 x2, R[k]? = some (x0, x1, x2) := ⟨_, _, _, List.getElem?_eq_getElem (by rw [← HM.out]; exact hlt)⟩
      have HX : Hid (R[k]? = some (x0, x1, x2)) := hx
      obtain ⟨g, hua, hcap, hcm⟩ : ∃ g, ua = some ⟨g, 0, none⟩ ∧ m ≤ uc ∧ uc ≤ 9223372036854775807 := by
        rcases HG.out.row.shape with ⟨_, e⟩ | ⟨g, cap, e, _, _, e3, e4⟩
        · rw [e] at hx; simp at hx
        · rw [HV.out] at e
          injection e with e1 _ e2
          refine ⟨g, e1, by rw [e2, HM.out]; exact e3, by rw [e2]; simp only [maxLen] at e4; omega⟩
      have hgr := HG.out.below HBW.out
      obtain ⟨r0, r1, r2⟩ := hgr.row.at (g := g) (by rw [HV.out, hua]; rfl) hx
      have r0' : wr.cell? ⟨g, k * 3, none⟩ = some (.int .i64 x0) := r0
      have r1' : wr.cell? ⟨g, k * 3 + 1, none⟩ = some (.int .i64 x1) := r1
      have r2' : wr.cell? ⟨g, k * 3 + 2, none⟩ = some (.int .i64 x2) := r2
      have HB1 : Hid (∀ o, Below w.heap.size w (wr.alloc o)) := fun o => HBW.out.alloc HBW.out.size _
      clear r0 r1 r2 hx hgr
      subst hua
      by_cases hid : x0 = id
      · obtain ⟨W0, hW0⟩ : ∃ W0, W0 = wr.alloc (.cells #[.int .i64 x0, .int .i64 x1, .int .i64 x2] 59) := ⟨_, rfl⟩
        have HB2 : Hid (Below w.heap.size w W0) := by
          show Below w.heap.size w W0
          rw [hW0]; exact HB1.out _
        have HG0 : Hid (GAt W0 B 51 59 q n (.slice (some ⟨g, 0, none⟩) m uc) R) := by
          have := HG.out.below HB2.out
          rw [HV.out] at this; exact this
        have s1 : W0.cell? ⟨q, 1, none⟩ = some (.slice (some ⟨g, 0, none⟩) m uc) := HG0.out.c1
        have s2 : W0.frozen? ⟨q, 1, none⟩ = false := HG0.out.f1 1
        have HT1 : Hid (∀ j u, (rowV (R.take k))[j]? = some u → W0.cell? ((⟨g, 0, none⟩ : Addr).add j) = some u) := by
          intro j u hu
          refine World.ownsRow.cells HG0.out.row rfl j u ?_
          rw [← rowV_take, List.getElem?_take] at hu
          split at hu
          · exact hu
          · cases hu
        have HT2 : Hid (∀ j u, (rowV (R.drop (k + 1)))[j]? = some u → W0.cell? ((⟨g, (k + 1) * 3, none⟩ : Addr).add j) = some u) := drop_cells HG0.out.row rfl (k + 1)
        have HL1 : Hid (k = (R.take k).length) := by
          show k = (R.take k).length
          rw [List.length_take, ← HM.out]; omega
        have HL2 : Hid (m - (k + 1) = (R.drop (k + 1)).length) := by
          show m - (k + 1) = (R.drop (k + 1)).length
          rw [List.length_drop, ← HM.out]
        have HL3 : Hid (([] : List E).length + (R.take k).length ≤ 100000 ∧ (R.take k).length + (R.drop (k + 1)).length ≤ 100000) := by
          have h1 := HL1.out
          have h2 := HL2.out
          exact ⟨by rw [← h1]; simp; omega, by rw [← h1, ← h2]; omega⟩
        have HW0 : Hid (W0 = wr.alloc (.cells #[.int .i64 x0, .int .i64 x1, .int .i64 x2] 59)) := hW0
        have hw1 : IntKind.i64.wrap ((k : Int) + 1) = (k : Int) + 1 := by rw [IntKind.wrap_i64]; omega
        have hb1 : (0 : Int) ≤ (k : Int) + 1 := by omega
        have hb3 : (k : Int) + 1 ≤ (m : Int) := by omega
        have hb4 : (k : Int) ≤ (uc : Int) := by omega
        have htn : ((k : Int) + 1).toNat = k + 1 := by omega
        have hq0 : q < W0.heap.size := HG0.out.plt
        subst hid
        clear hW0 HB1 HNO
        go_wp2_with fail
        rw [← HW0.out]
        clear HW0
        by_cases hcj : uc = k + 1
        · have HT3 : Hid (∀ j u, (rowV (R.drop (k + 1)))[j]? = some u → W0.cell? ((⟨g, 0, none⟩ : Addr).add j) = some u) := by
            intro j u hu
            have h0 : R.drop (k + 1) = [] := List.drop_eq_nil_of_le (by rw [← HM.out]; omega)
            rw [h0] at hu
            simp [rowV] at hu
          have hmk : m = k + 1 := by omega
          have HL4 : Hid (0 = (R.drop (k + 1)).length) := by
            show 0 = (R.drop (k + 1)).length
            rw [← HL2.out]; omega
          subst hmk
          subst hcj
          have hb7 : (k : Int) ≤ (k : Int) + 1 := by omega
          go_region_law (first
              | (refine step_app rfl (.tmp 22) (.tmp 28) rfl W0 B q n _ R HG0.out (.slice (some ⟨W0.heap.size, 0, none⟩) 0 0) [] (by exact owns_empty W0) (below_heap (.cells #[] 59) rfl rfl rfl rfl) ⟨g, 0, none⟩ k (k + 1) (R.take k) HL1.out HT1.out (by first | rfl | (simp [Act.eval]; done) | (simp [Act.eval, Act.put]; done)) (by first | rfl | (simp [Act.eval]; done) | (simp [Act.eval, Act.put]; done)) HL3.out.1 ?_; intro a1 m1 c1 w1 h1 q1 f1)
              | (refine step_app rfl (.tmp 29) (.tmp 36) rfl W0 B q n _ R HG0.out (.slice a1 m1 c1) (R.take k) h1.out.1 h1.out.2 ⟨g, 0, none⟩ 0 0 (R.drop (k + 1)) HL4.out HT3.out (by first | rfl | (simp [Act.eval]; done) | (simp [Act.eval, Act.put]; done)) (by first | rfl | (simp [Act.eval]; done) | (simp [Act.eval, Act.put]; done)) HL3.out.2 ?_; intro a2 m2 c2 w2 h2 q2 f2))
          all_goals
            go_wp2_with fail
            go_ret
            refine Or.inr ⟨k, _, HX.out, rfl, rfl, ?_⟩
            have hst := step1_new HG.out HB.out HB2.out h2.out.1 h2.out.2
            exact hst.1
        · go_region_law (first
              | (refine step_app rfl (.tmp 22) (.tmp 28) rfl W0 B q n _ R HG0.out (.slice (some ⟨W0.heap.size, 0, none⟩) 0 0) [] (by exact owns_empty W0) (below_heap (.cells #[] 59) rfl rfl rfl rfl) ⟨g, 0, none⟩ k uc (R.take k) HL1.out HT1.out (by first | rfl | (simp [Act.eval]; done) | (simp [Act.eval, Act.put]; done)) (by first | rfl | (simp [Act.eval]; done) | (simp [Act.eval, hcj]; done) | (simp [Act.eval, Act.put, hcj]; done)) HL3.out.1 ?_; intro a1 m1 c1 w1 h1 q1 f1)
              | (refine step_app rfl (.tmp 29) (.tmp 36) rfl W0 B q n _ R HG0.out (.slice a1 m1 c1) (R.take k) h1.out.1 h1.out.2 ⟨g, (k + 1) * 3, none⟩ (m - (k + 1)) (uc - (k + 1)) (R.drop (k + 1)) HL2.out HT2.out (by first | rfl | (simp [Act.eval]; done) | (simp [Act.eval, Act.put]; done)) (by first | rfl | (simp [Act.eval]; done) | (simp [Act.eval, hcj]; done) | (simp [Act.eval, Act.put, hcj]; done)) HL3.out.2 ?_; intro a2 m2 c2 w2 h2 q2 f2))
          all_goals
            go_wp2_with fail
            go_ret
            refine Or.inr ⟨k, _, HX.out, rfl, rfl, ?_⟩
            have hst := step1_new HG.out HB.out HB2.out h2.out.1 h2.out.2
            exact hst.1
      · as_aux_lemma =>
        have HN : Hid (∀ x ∈ R.take (k + 1), x.1 ≠ id) := by
          intro x hx
          obtain ⟨hlt', he⟩ := List.getElem?_eq_some_iff.1 HX.out
          rw [List.take_succ_eq_append_getElem hlt', he] at hx
          rcases List.mem_append.1 hx with h | h
          · exact HNO.out x h
          · rw [List.mem_singleton.1 h]; exact hid
        have hib : (x0 == id) = false := beq_eq_false_iff_ne.2 hid
        clear hid
        go_wp2_with fail
        go_roundg (gk - 1)
        case measure => omega
        case rel => exact ⟨k + 1, by go_num, by omega, HN.out, HB1.out _⟩
    · have HN : Hid (∀ x ∈ R, x.1 ≠ id) := by
        have e : R.take k = R := List.take_of_length_le (by rw [← HM.out]; omega)
        have := HNO.out
        rw [e] at this; exact this
      clear HNO
      go_wp2_with fail
      go_ret
      exact Or.inl ⟨HN.out, rfl, HBW.out⟩

end Go.Proofs.YtmbkicdahalakaaDoor
