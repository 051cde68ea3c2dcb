/- slices.DeleteFunc at edges. -/
import Derived.Test.YtigodbamphejmaaGreatVh
namespace Go.Proofs.YtigodbamphejmaaGreat.S
open Go.RowKit

theorem run_clear_rows {P : Program} (w : World) (t e ty : TypeId) (z : Value) (ht : P.underlying t = some (.slice e)) (hv : ∀ w, (zeroValue e).run P w = .ok z w) (g o n c : Nat) (hn : 0 < n) (cur : List Value) (te : TypeId)
    (hg : w.heap[g]? = some (.cells cur.toArray te (0, 0))) (hfit : o + (Builtin.zeroCells z.cells n).toList.length ≤ cur.length) (h1 : ∀ v ∈ (Builtin.zeroCells z.cells n).toList, v.oneCell' = true) :
    (Builtin.clear_ #[t] ty #[.slice (some ⟨g, o, none⟩) n c]).run P w = .ok (.tuple #[]) (w.setRow g (splice cur o (Builtin.zeroCells z.cells n).toList).toArray) := by
  have hst := run_storeCells_at P g o te _ 0 cur.toArray w hg (by simpa using hfit) h1
  simp only [Nat.add_zero] at hst
  obtain ⟨m, rfl⟩ : ∃ m, n = m + 1 := ⟨n - 1, by omega⟩
  simp [Builtin.clear_, run_underlying ht, hv, hst, splice]

theorem zeroes_one (n : Nat) : ∀ u ∈ (Builtin.zeroCells G.zE.cells n).toList, u.oneCell' = true := by
  intro u hu
  rw [G.zE_cells] at hu
  simp only [Builtin.zeroCells, Array.toList_map, List.mem_map] at hu
  obtain ⟨a, _, rfl⟩ := hu
  have : a % 3 < 3 := Nat.mod_lt _ (by omega)
  show (#[Value.int .i64 0, Value.int .i64 0, Value.int .i64 0][a % 3]!).oneCell' = true
  generalize a % 3 = r at this
  match r, this with
  | 0, _ => rfl
  | 1, _ => rfl
  | 2, _ => rfl

theorem zeroV55 (w : World) : (zeroValue 49).run Tryz.prog w = .ok G.zE w := by kernel_rfl

theorem rowV_set : ∀ (X : List Edg) (i : Nat) (x : Edg), i < X.length → G.rowV (X.set i x) = (((G.rowV X).set (i * 3) (.int .i64 x.1)).set (i * 3 + 1) (.int .i64 x.2.1)).set (i * 3 + 2) (.int .i64 x.2.2)
  | [], i, x, h => by simp at h
  | y :: X, 0, x, _ => by simp [G.rowV_cons, G.encE]
  | y :: X, i + 1, x, h => by
    have ih := rowV_set X i x (by simpa using h)
    have e1 : (i + 1) * 3 = (i * 3) + 3 := by omega
    have e2 : (i + 1) * 3 + 1 = (i * 3 + 1) + 3 := by omega
    have e3 : (i + 1) * 3 + 2 = (i * 3 + 2) + 3 := by omega
    rw [List.set_cons_succ, G.rowV_cons, G.rowV_cons, ih, e3, e2, e1]
    simp [G.encE]

/-- A row with one edge put in. -/
theorem owns_set {w : World} {B g m cap i : Nat} {X : List Edg} (h : G.Owns w B 49 (.slice (some ⟨g, 0, none⟩) m cap) X) (hi : i < X.length) (x : Edg) :
    G.Owns (((w.setCell ⟨g, i * 3, none⟩ (.int .i64 x.1)).setCell ⟨g, i * 3 + 1, none⟩ (.int .i64 x.2.1)).setCell ⟨g, i * 3 + 2, none⟩ (.int .i64 x.2.2)) B 49 (.slice (some ⟨g, 0, none⟩) m cap) (X.set i x) := by
  have hl := h.1
  rcases h.2 with ⟨h1, _⟩ | ⟨g', cap', cur, h1, h2, h3, h4, h5, h6, h7⟩
  · cases h1
  · injection h1 with h1a h1b h1c
    injection h1a with h1a
    injection h1a with h1a _ _
    subst h1a
    subst h1c
    refine ⟨G.rowV_length _, Or.inr ⟨g, cap, ((cur.setIfInBounds (i * 3) (.int .i64 x.1)).setIfInBounds (i * 3 + 1) (.int .i64 x.2.1)).setIfInBounds (i * 3 + 2) (.int .i64 x.2.2), by rw [List.length_set, h1b], h2, ?_, by rw [List.length_set]; exact h4, h5, by simpa using h6, ?_⟩⟩
    · simp only [World.setCell, Array.getElem?_modify, h3]
      simp
    · rw [rowV_set X i x hi, ← h7, List.length_set]
      simp [List.take_set]

/-- What DeleteFunc has in its row: i are kept of the first j. -/
structure Df (w0 w : World) (B g m cap c i j : Nat) (d : Edg) (M X : List Edg) : Prop where
  own : G.Owns w B 49 (.slice (some ⟨g, 0, none⟩) m cap) X
  len : X.length = m
  fst : X.take i = (M.take j).filter fun x => !decide (x = d)
  snd : X.drop j = M.drop j
  hij : i < j
  hjm : j ≤ m
  box : Box w c d
  ne : c ≠ g
  low : B ≤ g
  kept : w0.grownBy w (some g)

section
variable {w0 w w' : World} {B g m cap c i j : Nat} {d x : Edg} {M X : List Edg}
theorem Df.below' (h : Df w0 w B g m cap c i j d M X) (hb : Below w.heap.size w w') : Df w0 w' B g m cap c i j d M X :=
  { h with own := h.own.below hb, box := h.box.below hb, kept := ⟨hb.os.trans h.kept.os, hb.tape.trans h.kept.tape, hb.output.trans h.kept.output, Nat.le_trans h.kept.size hb.size, fun k hk hn => (hb.block k (Nat.lt_of_lt_of_le hk h.kept.size)).trans (h.kept.block k hk hn)⟩ }

theorem Df.at_ (h : Df w0 w B g m cap c i j d M X) (hj : j < m) (hm : M.length = m) : X[j]? = M[j]? ∧ ∃ x, M[j]? = some x := by
  refine ⟨?_, _, List.getElem?_eq_getElem (by omega)⟩
  have := congrArg (fun l => l[0]?) h.snd
  simpa using this

theorem Df.skip (h : Df w0 w B g m cap c i j d M X) (hj : j < m) (hx : M[j]? = some d) : Df w0 w B g m cap c i (j + 1) d M X := by
  refine { h with fst := ?_, snd := ?_, hij := by have := h.hij; omega, hjm := by omega }
  · rw [h.fst, G.take_filter _ hx]; simp
  · have := congrArg (List.drop 1) h.snd
    simpa [List.drop_drop, Nat.add_comm] using this

theorem Df.store (h : Df w0 w B g m cap c i j d M X) (hj : j < m) (hx : M[j]? = some x) (hxd : x ≠ d) : Df w0 (((w.setCell ⟨g, i * 3, none⟩ (.int .i64 x.1)).setCell ⟨g, i * 3 + 1, none⟩ (.int .i64 x.2.1)).setCell ⟨g, i * 3 + 2, none⟩ (.int .i64 x.2.2)) B g m cap c (i + 1) (j + 1) d M (X.set i x) := by
  have hij := h.hij
  have hlen := h.len
  have hne := h.ne
  have hset : ∀ (w : World) (o : Nat) (v : Value), w.grownBy (w.setCell ⟨g, o, none⟩ v) (some g) := fun w o v => ⟨rfl, rfl, rfl, by simp, fun k _ hn => Below.heap_setCell _ _ _ _ (fun e => hn (by rw [e]))⟩
  have gtr : ∀ {a b c : World}, a.grownBy b (some g) → b.grownBy c (some g) → a.grownBy c (some g) := fun h1 h2 => ⟨h2.os.trans h1.os, h2.tape.trans h1.tape, h2.output.trans h1.output, Nat.le_trans h1.size h2.size, fun k hk hn => (h2.block k (Nat.lt_of_lt_of_le hk h1.size) hn).trans (h1.block k hk hn)⟩
  have hk := gtr (hset w (i * 3) (.int .i64 x.1)) (gtr (hset _ (i * 3 + 1) (.int .i64 x.2.1)) (hset _ (i * 3 + 2) (.int .i64 x.2.2)))
  refine ⟨owns_set h.own (by omega) x, by simpa using hlen, ?_, ?_, by omega, by omega, ?_, hne, h.low, gtr h.kept hk⟩
  · rw [G.take_filter _ hx, ← h.fst]
    have hi : i < X.length := by omega
    have hd : (!decide (x = d)) = true := by simp [hxd]
    rw [if_pos hd, List.take_succ_eq_append_getElem (by simpa using hi)]
    congr 1
    · rw [List.take_set_of_le (Nat.le_refl _)]
    · simp
  · have := congrArg (List.drop 1) h.snd
    rw [List.drop_set_of_lt (by omega)]
    simpa [List.drop_drop, Nat.add_comm] using this
  · exact (hk.block c (lt_of_some h.box) (by simp; exact hne)).trans h.box

theorem Df.done (h : Df w0 w B g m cap c i m d M X) (hm : M.length = m) : ∃ W2, (∀ ty sc, (Builtin.clear_ #[31] ty #[.slice (some ⟨g, i * 3, none⟩) (m - i) sc]).run Tryz.prog w = .ok (.tuple #[]) W2) ∧ m ≤ cap ∧ cap ≤ maxLen ∧ G.Owns W2 B 49 (.slice (some ⟨g, 0, none⟩) i cap) (M.filter fun x => !decide (x = d)) ∧ w0.grownBy W2 (some g) := by
  have hij := h.hij
  have hlen := h.len
  rcases h.own.2 with ⟨h1, _⟩ | ⟨g', cap', cur, h1, h2, h3, h4, h5, h6, h7⟩
  · cases h1
  · injection h1 with h1a h1b h1c
    injection h1a with h1a
    injection h1a with h1a _ _
    subst h1a
    subst h1c
    have hfst := h.fst
    rw [← hm, List.take_length] at hfst
    have hcl : cur.toList.length = cap * 3 := by simpa using h6
    have hzl := G.zeroE_length (m - i)
    refine ⟨w.setRow g (splice cur.toList (i * 3) (Builtin.zeroCells G.zE.cells (m - i)).toList).toArray, fun ty sc => run_clear_rows w 31 49 ty G.zE Tryz.underlying31 zeroV55 g (i * 3) (m - i) sc (by omega) cur.toList 49 (by simpa using h3) (by rw [hzl, hcl]; omega) (zeroes_one _), by omega, h5, ?_, ?_⟩
    · rw [← hfst]
      have hl2 : (X.take i).length = i := by rw [List.length_take]; omega
      refine ⟨G.rowV_length _, Or.inr ⟨g, cap, _, by rw [hl2], h2, setRow_heap w g cur _ 49 (0, 0) h3, by rw [hl2]; omega, h5, ?_, ?_⟩⟩
      · rw [List.size_toArray, length_splice _ _ _ (by rw [hzl, hcl]; omega), hcl]
      · rw [hl2]
        show (splice _ _ _).take _ = _
        have h8 : (cur.toList.take (i * 3)).length = i * 3 := by rw [List.length_take, hcl]; omega
        unfold splice
        rw [List.take_append_of_le_length (by omega), List.take_of_length_le (by omega)]
        have h9 := congrArg (List.take (i * 3)) h7
        rw [List.take_take, hlen, show min (i * 3) (m * 3) = i * 3 by omega] at h9
        rw [h9]
        have e1 := G.rowV_append (X.take i) (X.drop i)
        rw [List.take_append_drop] at e1
        rw [e1, List.take_append_of_le_length (by rw [G.rowV_length, hl2]; exact Nat.le_refl _), List.take_of_length_le (by rw [G.rowV_length, hl2]; exact Nat.le_refl _)]
    · exact ⟨h.kept.os, h.kept.tape, h.kept.output, Nat.le_trans h.kept.size (by simp), fun k hk hn => (setRow_other w g k _ (fun e => hn (by rw [e]))).trans (h.kept.block k hk hn)⟩
end

set_option maxHeartbeats 4000000 in
set_option maxRecDepth 100000 in
theorem delete_edges (c g m cap B : Nat) (d : Edg) (M : List Edg) (w : World) (h : G.Owns w B 49 (.slice (some ⟨g, 0, none⟩) m cap) M) (hd : Box w c d) (hc : c ≠ g) (hB : B ≤ g) (hl : M.length ≤ 1000) (hm : M.length = m) :
    Calls Tryz.prog 47 #[.slice (some ⟨g, 0, none⟩) m cap, .func (.func 49) #[] #[.pointer (some ⟨c, 0, none⟩)]] w fun e w' => ∃ v', e = .returned v' ∧ G.Owns w' B 49 v' (M.filter fun x => !decide (x = d)) ∧ w.grownBy w' (some g) := by
  have HO : Hid (G.Owns w B 49 (.slice (some ⟨g, 0, none⟩) m cap) M ∧ Box w c d ∧ M.length = m) := ⟨h, hd, hm⟩
  have HI : Hid _ := index_edges c g m cap B d M w h hd hl hm
  rw [hm] at hl
  clear h hd hm
  go_enter Tryz.func47, Tryz.ntmps47
  go_wp2_with fail
  refine Calls.mono HI.out ?_
  rintro e w1 ⟨⟨i, hi, rfl, hid, hno⟩ | ⟨rfl, hno⟩, hb1⟩
  · have HD0 : Hid (Df w w1 B g m cap c i (i + 1) d M M) := by
      refine ⟨HO.out.1.below hb1, HO.out.2.2, ?_, rfl, by omega, by omega, HO.out.2.1.below hb1, hc, hB, ⟨hb1.os, hb1.tape, hb1.output, hb1.size, fun k hk _ => hb1.block k hk⟩⟩
      rw [G.take_filter _ hid]
      have : ((M.take i).filter fun x => !decide (x = d)) = M.take i := by
        rw [List.filter_eq_self]
        intro x hx
        obtain ⟨k, hk⟩ := List.getElem?_of_mem hx
        have hki := (List.getElem?_eq_some_iff.1 hk).1
        rw [List.length_take] at hki
        rw [List.getElem?_take] at hk
        split at hk
        · have := hno k (by omega)
          rw [hk] at this
          simp
          exact fun e => this (by rw [e])
        · cases hk
      rw [this]; simp
    have hne : ((i : Int) == -1) = false := beq_eq_false_iff_ne.2 (by omega)
    clear hid hno hb1 HI
    go_wp2_with fail
    go_loopw [5, 6] (fun s5 s6 wq => ∃ (i j : Nat) (X : List Edg), s5 = .int .i64 i ∧ s6 = .int .i64 j ∧ Df w wq B g m cap c i j d M X) (fun _ s6 _ => m - (intOf s6).toNat)
    case atStart => exact ⟨i, i + 1, M, rfl, by go_num, HD0.out⟩
    case round =>
      clear HD0 hi hne
      obtain ⟨i, j, X, rfl, rfl, hdf⟩ := hrel
      have HD : Hid (Df w wr B g m cap c i j d M X) := hdf
      have hij := hdf.hij
      have hjm := hdf.hjm
      clear hdf
      by_cases hlt : j < m
      · obtain ⟨hxj, x, hx⟩ := HD.out.at_ hlt HO.out.2.2
        rw [hx] at hxj
        obtain ⟨r0, r1, r2⟩ := HD.out.own.at (g := g) rfl hxj
        have r0' : wr.cell? ⟨g, j * 3, none⟩ = some (.int .i64 x.1) := r0
        have r1' : wr.cell? ⟨g, j * 3 + 1, none⟩ = some (.int .i64 x.2.1) := r1
        have r2' : wr.cell? ⟨g, j * 3 + 2, none⟩ = some (.int .i64 x.2.2) := r2
        have HX : Hid (M[j]? = some x) := hx
        have hb1 : Below wr.heap.size wr (wr.alloc (.cells #[.int .i64 x.1, .int .i64 x.2.1, .int .i64 x.2.2] 49)) := (Below.refl _ _).alloc (Nat.le_refl _) _
        have HD1 : Hid (Df w (wr.alloc (.cells #[.int .i64 x.1, .int .i64 x.2.1, .int .i64 x.2.2] 49)) B g m cap c i j d M X) := HD.out.below' hb1
        have HC : Hid _ := held_any x d c _ HD1.out.box
        clear r0 r1 r2 hx hxj hb1
        by_cases hxd : x = d
        · as_aux_lemma =>
          subst hxd
          go_wp2_with fail
          refine Calls.mono HC.out ?_
          rintro e w2 ⟨rfl, hb2⟩
          have HD2 : Hid (Df w w2 B g m cap c i (j + 1) x M X) := (HD1.out.below' hb2).skip hlt HX.out
          first | rw [decide_eq_true rfl] | simp only [decide_true]
          clear hb2 HC
          go_wp2_with fail
          go_roundw
          case rel => exact ⟨i, j + 1, X, rfl, by go_num, HD2.out⟩
          case measure => simp [intOf]; omega
        · go_wp2_with fail
          refine Calls.mono HC.out ?_
          rintro e w2 ⟨rfl, hb2⟩
          have HD2 : Hid (Df w w2 B g m cap c i j d M X) := HD1.out.below' hb2
          rw [decide_eq_false hxd]
          have hbox : w2.heap[wr.heap.size]? = some (.cells #[.int .i64 x.1, .int .i64 x.2.1, .int .i64 x.2.2] 49) := (hb2.block wr.heap.size (by simp)).trans (heap_alloc_new wr _)
          have q0 : w2.cell? ⟨wr.heap.size, 0, none⟩ = some (.int .i64 x.1) := by simp [World.cell?, hbox]
          have q1 : w2.cell? ⟨wr.heap.size, 1, none⟩ = some (.int .i64 x.2.1) := by simp [World.cell?, hbox]
          have q2 : w2.cell? ⟨wr.heap.size, 2, none⟩ = some (.int .i64 x.2.2) := by simp [World.cell?, hbox]
          obtain ⟨y, hy⟩ : ∃ y, X[i]? = some y := ⟨_, List.getElem?_eq_getElem (by rw [HD2.out.len]; omega)⟩
          obtain ⟨s0, s1, s2⟩ := HD2.out.own.at (g := g) rfl hy
          have s0' : w2.cell? ⟨g, i * 3, none⟩ = some (.int .i64 y.1) := s0
          have s1' : w2.cell? ⟨g, i * 3 + 1, none⟩ = some (.int .i64 y.2.1) := s1
          have s2' : w2.cell? ⟨g, i * 3 + 2, none⟩ = some (.int .i64 y.2.2) := s2
          have fz : ∀ k, w2.frozen? ⟨g, k, none⟩ = false := by
            intro k
            rcases HD2.out.own.2 with ⟨h1, _⟩ | ⟨g', cap', cur, h1, _, h3, _⟩
            · cases h1
            · injection h1 with h1 _ _
              injection h1 with h1
              injection h1 with h1 _ _
              subst h1
              simp [World.frozen?, h3]
          have fz0 := fz (i * 3)
          have fz1 := fz (i * 3 + 1)
          have fz2 := fz (i * 3 + 2)
          clear hb2 HC s0 s1 s2 fz r0' r1' r2'
          have HD3 : Hid (Df w (((w2.setCell ⟨g, i * 3, none⟩ (.int .i64 x.1)).setCell ⟨g, i * 3 + 1, none⟩ (.int .i64 x.2.1)).setCell ⟨g, i * 3 + 2, none⟩ (.int .i64 x.2.2)) B g m cap c (i + 1) (j + 1) d M (X.set i x)) := HD2.out.store hlt HX.out hxd
          go_wp2_with fail
          go_roundw
          case rel => exact ⟨i + 1, j + 1, _, by go_num, by go_num, HD3.out⟩
          case measure => simp [intOf]; omega
      · as_aux_lemma =>
        have hje : j = m := by omega
        subst hje
        obtain ⟨W2, hcl, hcap, hcm, ho2, hg2⟩ := HD.out.done HO.out.2.2
        have HF : Hid (G.Owns W2 B 49 (.slice (some ⟨g, 0, none⟩) i cap) (M.filter fun x => !decide (x = d)) ∧ w.grownBy W2 (some g)) := ⟨ho2, hg2⟩
        simp only [maxLen] at hcm
        have hic : ¬ (cap = i) := by omega
        have hi1 : (i : Int) ≤ (j : Int) := by omega
        have hi2 : (i : Int) ≤ (cap : Int) := by omega
        have hi3 : (j : Int) ≤ (cap : Int) := by omega
        clear ho2 hg2 HD
        go_wp2_with fail
        go_ret
        exact ⟨_, rfl, HF.out.1, HF.out.2⟩
  · as_aux_lemma =>
    have HF : Hid (G.Owns w1 B 49 (.slice (some ⟨g, 0, none⟩) m cap) (M.filter fun x => !decide (x = d)) ∧ w.grownBy w1 (some g)) := by
      refine ⟨?_, ⟨hb1.os, hb1.tape, hb1.output, hb1.size, fun k hk _ => hb1.block k hk⟩⟩
      have : (M.filter fun x => !decide (x = d)) = M := by
        rw [List.filter_eq_self]
        intro x hx
        obtain ⟨k, hk⟩ := List.getElem?_of_mem hx
        have hki := (List.getElem?_eq_some_iff.1 hk).1
        have h3 := hno k (by rw [← HO.out.2.2]; exact hki)
        rw [hk] at h3
        simp
        exact fun e => h3 (by rw [e])
      rw [this]
      exact HO.out.1.below hb1
    clear hno hb1 HI
    go_wp2_with fail
    go_ret
    exact ⟨_, rfl, HF.out.1, HF.out.2⟩

end Go.Proofs.YtigodbamphejmaaGreat.S
