/- slices.DeleteFunc at edges. -/
import Derived.Test.YtigodbamphejmaaGreatDoorV2
import Derived.Test.YtigodbamphejmaaGreatDoorBb
import Derived.Test.YtigodbamphejmaaGreatDoorBcd
namespace Go.Proofs.YtigodbamphejmaaGreatDoor.S
open Go.RowKit

theorem run_clear_rows {P : Program} (w : World) (t e ty : TypeId) (z : Value) (ht : P.underlying t = some (.slice e)) (hv : ∀ w, (zeroValue e).run P w = .ok z w) (g o n c : Nat) (hn : 0 < n) (cur : List Value) (te : TypeId)
    (hg : w.heap[g]? = some (.cells cur.toArray te (0, 0))) (hfit : o + (Builtin.zeroCells z.cells n).toList.length ≤ cur.length) (h1 : ∀ v ∈ (Builtin.zeroCells z.cells n).toList, v.oneCell' = true) :
    (Builtin.clear_ #[t] ty #[.slice (some ⟨g, o, none⟩) n c]).run P w = .ok (.tuple #[]) (w.setRow g (splice cur o (Builtin.zeroCells z.cells n).toList).toArray) := by
  have hst := run_storeCells_at P g o te _ 0 cur.toArray w hg (by simpa using hfit) h1
  simp only [Nat.add_zero] at hst
  obtain ⟨m, rfl⟩ : ∃ m, n = m + 1 := ⟨n - 1, by omega⟩
  simp [Builtin.clear_, run_underlying ht, hv, hst, splice]

theorem zeroes_one (n : Nat) : ∀ u ∈ (Builtin.zeroCells G.zE.cells n).toList, u.oneCell' = true := by
  intro u hu
  rw [G.zE_cells] at hu
  simp only [Builtin.zeroCells, Array.toList_map, List.mem_map] at hu
  obtain ⟨a, _, rfl⟩ := hu
  have : a % 3 < 3 := Nat.mod_lt _ (by omega)
  show (#[Value.int .i64 0, Value.int .i64 0, Value.int .i64 0][a % 3]!).oneCell' = true
  generalize a % 3 = r at this
  match r, this with
  | 0, _ => rfl
  | 1, _ => rfl
  | 2, _ => rfl

theorem zeroV55 (w : World) : (zeroValue 55).run Tryz.prog w = .ok G.zE w := by kernel_rfl

theorem rowV_set : ∀ (X : List Edg) (i : Nat) (x : Edg), i < X.length → G.rowV (X.set i x) = (((G.rowV X).set (i * 3) (.int .i64 x.1)).set (i * 3 + 1) (.int .i64 x.2.1)).set (i * 3 + 2) (.int .i64 x.2.2)
  | [], i, x, h => by simp at h
  | y :: X, 0, x, _ => by simp [G.rowV_cons, G.encE]
  | y :: X, i + 1, x, h => by
    have ih := rowV_set X i x (by simpa using h)
    have e1 : (i + 1) * 3 = (i * 3) + 3 := by omega
    have e2 : (i + 1) * 3 + 1 = (i * 3 + 1) + 3 := by omega
    have e3 : (i + 1) * 3 + 2 = (i * 3 + 2) + 3 := by omega
    rw [List.set_cons_succ, G.rowV_cons, G.rowV_cons, ih, e3, e2, e1]
    simp [G.encE]

/-- A row with one edge put in. -/
theorem owns_set {w : World} {B g m cap i : Nat} {X : List Edg} (h : G.Owns w B 55 (.slice (some ⟨g, 0, none⟩) m cap) X) (hi : i < X.length) (x : Edg) :
    G.Owns (((w.setCell ⟨g, i * 3, none⟩ (.int .i64 x.1)).setCell ⟨g, i * 3 + 1, none⟩ (.int .i64 x.2.1)).setCell ⟨g, i * 3 + 2, none⟩ (.int .i64 x.2.2)) B 55 (.slice (some ⟨g, 0, none⟩) m cap) (X.set i x) := by
  have hl := h.1
  rcases h.2 with ⟨h1, _⟩ | ⟨g', cap', cur, h1, h2, h3, h4, h5, h6, h7⟩
  · cases h1
  · injection h1 with h1a h1b h1c
    injection h1a with h1a
    injection h1a with h1a _ _
    subst h1a
    subst h1c
    refine ⟨G.rowV_length _, Or.inr ⟨g, cap, ((cur.setIfInBounds (i * 3) (.int .i64 x.1)).setIfInBounds (i * 3 + 1) (.int .i64 x.2.1)).setIfInBounds (i * 3 + 2) (.int .i64 x.2.2), by rw [List.length_set, h1b], h2, ?_, by rw [List.length_set]; exact h4, h5, by simpa using h6, ?_⟩⟩
    · simp only [World.setCell, Array.getElem?_modify, h3]
      simp
    · rw [rowV_set X i x hi, ← h7, List.length_set]
      simp [List.take_set]

/-- What DeleteFunc has in its row: i are kept of the first j. -/
structure Df (w0 w : World) (B g m cap c i j : Nat) (d : Edg) (M X : List Edg) : Prop where
  own : G.Owns w B 55 (.slice (some ⟨g, 0, none⟩) m cap) X
  len : X.length = m
  fst : X.take i = (M.take j).filter fun x => !decide (x = d)
  snd : X.drop j = M.drop j
  hij : i < j
  hjm : j ≤ m
  box : Box w c d
  ne : c ≠ g
  low : B ≤ g
  kept : w0.grownBy w (some g)

section
variable {w0 w w' : World} {B g m cap c i j : Nat} {d x : Edg} {M X : List Edg}
theorem Df.below' (h : Df w0 w B g m cap c i j d M X) (hb : Below w.heap.size w w') : Df w0 w' B g m cap c i j d M X :=
  { h with own := h.own.below hb, box := h.box.below hb, kept := ⟨hb.os.trans h.kept.os, hb.tape.trans h.kept.tape, hb.output.trans h.kept.output, Nat.le_trans h.kept.size hb.size, fun k hk hn => (hb.block k (Nat.lt_of_lt_of_le hk h.kept.size)).trans (h.kept.block k hk hn)⟩ }

theorem Df.at_ (h : Df w0 w B g m cap c i j d M X) (hj : j < m) (hm : M.length = m) : X[j]? = M[j]? ∧ ∃ x, M[j]? = some x := by
  refine ⟨?_, _, List.getElem?_eq_getElem (by omega)⟩
  have := congrArg (fun l => l[0]?) h.snd
  simpa using this

theorem Df.skip (h : Df w0 w B g m cap c i j d M X) (hj : j < m) (hx : M[j]? = some d) : Df w0 w B g m cap c i (j + 1) d M X := by
  refine { h with fst := ?_, snd := ?_, hij := by have := h.hij; omega, hjm := by omega }
  · rw [h.fst, G.take_filter _ hx]; simp
  · have := congrArg (List.drop 1) h.snd
    simpa [List.drop_drop, Nat.add_comm] using this

theorem Df.store (h : Df w0 w B g m cap c i j d M X) (hj : j < m) (hx : M[j]? = some x) (hxd : x ≠ d) : Df w0 (((w.setCell ⟨g, i * 3, none⟩ (.int .i64 x.1)).setCell ⟨g, i * 3 + 1, none⟩ (.int .i64 x.2.1)).setCell ⟨g, i * 3 + 2, none⟩ (.int .i64 x.2.2)) B g m cap c (i + 1) (j + 1) d M (X.set i x) := by
  have hij := h.hij
  have hlen := h.len
  have hne := h.ne
  have hset : ∀ (w : World) (o : Nat) (v : Value), w.grownBy (w.setCell ⟨g, o, none⟩ v) (some g) := fun w o v => ⟨rfl, rfl, rfl, by simp, fun k _ hn => Below.heap_setCell _ _ _ _ (fun e => hn (by rw [e]))⟩
  have gtr : ∀ {a b c : World}, a.grownBy b (some g) → b.grownBy c (some g) → a.grownBy c (some g) := fun h1 h2 => ⟨h2.os.trans h1.os, h2.tape.trans h1.tape, h2.output.trans h1.output, Nat.le_trans h1.size h2.size, fun k hk hn => (h2.block k (Nat.lt_of_lt_of_le hk h1.size) hn).trans (h1.block k hk hn)⟩
  have hk := gtr (hset w (i * 3) (.int .i64 x.1)) (gtr (hset _ (i * 3 + 1) (.int .i64 x.2.1)) (hset _ (i * 3 + 2) (.int .i64 x.2.2)))
  refine ⟨owns_set h.own (by omega) x, by simpa using hlen, ?_, ?_, by omega, by omega, ?_, hne, h.low, gtr h.kept hk⟩
  · rw [G.take_filter _ hx, ← h.fst]
    have hi : i < X.length := by omega
    have hd : (!decide (x = d)) = true := by simp [hxd]
    rw [if_pos hd, List.take_succ_eq_append_getElem (by simpa using hi)]
    congr 1
    · rw [List.take_set_of_le (Nat.le_refl _)]
    · simp
  · have := congrArg (List.drop 1) h.snd
    rw [List.drop_set_of_lt (by omega)]
    simpa [List.drop_drop, Nat.add_comm] using this
  · exact (hk.block c (lt_of_some h.box) (by simp; exact hne)).trans h.box

theorem Df.done (h : Df w0 w B g m cap c i m d M X) (hm : M.length = m) : ∃ W2, (∀ ty sc, (Builtin.clear_ #[31] ty #[.slice (some ⟨g, i * 3, none⟩) (m - i) sc]).run Tryz.prog w = .ok (.tuple #[]) W2) ∧ m ≤ cap ∧ cap ≤ maxLen ∧ G.Owns W2 B 55 (.slice (some ⟨g, 0, none⟩) i cap) (M.filter fun x => !decide (x = d)) ∧ w0.grownBy W2 (some g) := by
  have hij := h.hij
  have hlen := h.len
  rcases h.own.2 with ⟨h1, _⟩ | ⟨g', cap', cur, h1, h2, h3, h4, h5, h6, h7⟩
  · cases h1
  · injection h1 with h1a h1b h1c
    injection h1a with h1a
    injection h1a with h1a _ _
    subst h1a
    subst h1c
    have hfst := h.fst
    rw [← hm, List.take_length] at hfst
    have hcl : cur.toList.length = cap * 3 := by simpa using h6
    have hzl := G.zeroE_length (m - i)
    refine ⟨w.setRow g (splice cur.toList (i * 3) (Builtin.zeroCells G.zE.cells (m - i)).toList).toArray, fun ty sc => run_clear_rows w 31 55 ty G.zE Tryz.underlying31 zeroV55 g (i * 3) (m - i) sc (by omega) cur.toList 55 (by simpa using h3) (by rw [hzl, hcl]; omega) (zeroes_one _), by omega, h5, ?_, ?_⟩
    · rw [← hfst]
      have hl2 : (X.take i).length = i := by rw [List.length_take]; omega
      refine ⟨G.rowV_length _, Or.inr ⟨g, cap, _, by rw [hl2], h2, setRow_heap w g cur _ 55 (0, 0) h3, by rw [hl2]; omega, h5, ?_, ?_⟩⟩
      · rw [List.size_toArray, length_splice _ _ _ (by rw [hzl, hcl]; omega), hcl]
      · rw [hl2]
        show (splice _ _ _).take _ = _
        have h8 : (cur.toList.take (i * 3)).length = i * 3 := by rw [List.length_take, hcl]; omega
        unfold splice
        rw [List.take_append_of_le_length (by omega), List.take_of_length_le (by omega)]
        have h9 := congrArg (List.take (i * 3)) h7
        rw [List.take_take, hlen, show min (i * 3) (m * 3) = i * 3 by omega] at h9
        rw [h9]
        have e1 := G.rowV_append (X.take i) (X.drop i)
        rw [List.take_append_drop] at e1
        rw [e1, List.take_append_of_le_length (by rw [G.rowV_length, hl2]; exact Nat.le_refl _), List.take_of_length_le (by rw [G.rowV_length, hl2]; exact Nat.le_refl _)]
    · exact ⟨h.kept.os, h.kept.tape, h.kept.output, Nat.le_trans h.kept.size (by simp), fun k hk hn => (setRow_other w g k _ (fun e => hn (by rw [e]))).trans (h.kept.block k hk hn)⟩
end

set_option maxHeartbeats 4000000 in
set_option maxRecDepth 100000 in
theorem delete_edges (c g m cap B : Nat) (d : Edg) (M : List Edg) (w : World) (h : G.Owns w B 55 (.slice (some ⟨g, 0, none⟩) m cap) M) (hd : Box w c d) (hc : c ≠ g) (hB : B ≤ g) (hl : M.length ≤ 1000) (hm : M.length = m) :
    Calls Tryz.prog 104 #[.slice (some ⟨g, 0, none⟩) m cap, .func (.func 106) #[] #[.pointer (some ⟨c, 0, none⟩)]] w fun e w' => ∃ v', e = .returned v' ∧ G.Owns w' B 55 v' (M.filter fun x => !decide (x = d)) ∧ w.grownBy w' (some g) := by
  have HO : Hid (G.Owns w B 55 (.slice (some ⟨g, 0, none⟩) m cap) M ∧ Box w c d ∧ M.length = m) := ⟨h, hd, hm⟩
  have HI : Hid _ := index_edges c g m cap B d M w h hd hl hm
  rw [hm] at hl
  clear h hd hm
  go_enter Tryz.func104, Tryz.ntmps104
  go_wp2_with fail
  refine Calls.mono HI.out ?_
  rintro e w1 ⟨⟨i, hi, rfl, hid, hno⟩ | ⟨rfl, hno⟩, hb1⟩
  · have HD0 : Hid (Df w w1 B g m cap c i (i + 1) d M M) := by
      refine ⟨HO.out.1.below hb1, HO.out.2.2, ?_, rfl, by omega, by omega, HO.out.2.1.below hb1, hc, hB, ⟨hb1.os, hb1.tape, hb1.output, hb1.size, fun k hk _ => hb1.block k hk⟩⟩
      rw [G.take_filter _ hid]
      have : ((M.take i).filter fun x => !decide (x = d)) = M.take i := by
        rw [List.filter_eq_self]
        intro x hx
        obtain ⟨k, hk⟩ := List.getElem?_of_mem hx
        have hki := (List.getElem?_eq_some_iff.1 hk).1
        rw [List.length_take] at hki
        rw [List.getElem?_take] at hk
        split at hk
        · have := hno k (by omega)
          rw [hk] at this
          simp
          exact fun e => this (by rw [e])
        · cases hk
      rw [this]; simp
    have hne : ((i : Int) == -1) = false := beq_eq_false_iff_ne.2 (by omega)
    clear hid hno hb1 HI
    go_wp2_with fail
    go_loopw [5, 6] (fun s5 s6 wq => ∃ (i j : Nat) (X : List Edg), s5 = .int .i64 i ∧ s6 = .int .i64 j ∧ Df w wq B g m cap c i j d M X) (fun _ s6 _ => m - (intOf s6).toNat)
    case atStart => exact ⟨i, i + 1, M, rfl, by go_num, HD0.out⟩
    case round =>
      clear HD0 hi hne
      obtain ⟨i, j, X, rfl, rfl, hdf⟩ := hrel
      have HD : Hid (Df w wr B g m cap c i j d M X) := hdf
      have hij := hdf.hij
      have hjm := hdf.hjm
      clear hdf
      by_cases hlt : j < m
      · obtain ⟨hxj, x, hx⟩ := HD.out.at_ hlt HO.out.2.2
        rw [hx] at hxj
        obtain ⟨r0, r1, r2⟩ := HD.out.own.at (g := g) rfl hxj
        have r0' : wr.cell? ⟨g, j * 3, none⟩ = some (.int .i64 x.1) := r0
        have r1' : wr.cell? ⟨g, j * 3 + 1, none⟩ = some (.int .i64 x.2.1) := r1
        have r2' : wr.cell? ⟨g, j * 3 + 2, none⟩ = some (.int .i64 x.2.2) := r2
        have HX : Hid (M[j]? = some x) := hx
        have hb1 : Below wr.heap.size wr (wr.alloc (.cells #[.int .i64 x.1, .int .i64 x.2.1, .int .i64 x.2.2] 55)) := (Below.refl _ _).alloc (Nat.le_refl _) _
        have HD1 : Hid (Df w (wr.alloc (.cells #[.int .i64 x.1, .int .i64 x.2.1, .int .i64 x.2.2] 55)) B g m cap c i j d M X) := HD.out.below' hb1
        have HC : Hid _ := held_any x d c _ HD1.out.box
        clear r0 r1 r2 hx hxj hb1
        by_cases hxd : x = d
        · as_aux_lemma =>
          subst hxd
          go_wp2_with fail
          refine Calls.mono HC.out ?_
          rintro e w2 ⟨rfl, hb2⟩
          have HD2 : Hid (Df w w2 B g m cap c i (j + 1) x M X) := (HD1.out.below' hb2).skip hlt HX.out
          first | rw [decide_eq_true rfl] | simp only [decide_true]
          clear hb2 HC
          go_wp2_with fail
          go_roundw
          case rel => exact ⟨i, j + 1, X, rfl, by go_num, HD2.out⟩
          case measure => simp [intOf]; omega
        · go_wp2_with fail
          refine Calls.mono HC.out ?_
          rintro e w2 ⟨rfl, hb2⟩
          have HD2 : Hid (Df w w2 B g m cap c i j d M X) := HD1.out.below' hb2
          rw [decide_eq_false hxd]
          have hbox : w2.heap[wr.heap.size]? = some (.cells #[.int .i64 x.1, .int .i64 x.2.1, .int .i64 x.2.2] 55) := (hb2.block wr.heap.size (by simp)).trans (heap_alloc_new wr _)
          have q0 : w2.cell? ⟨wr.heap.size, 0, none⟩ = some (.int .i64 x.1) := by simp [World.cell?, hbox]
          have q1 : w2.cell? ⟨wr.heap.size, 1, none⟩ = some (.int .i64 x.2.1) := by simp [World.cell?, hbox]
          have q2 : w2.cell? ⟨wr.heap.size, 2, none⟩ = some (.int .i64 x.2.2) := by simp [World.cell?, hbox]
          obtain ⟨y, hy⟩ : ∃ y, X[i]? = some y := ⟨_, List.getElem?_eq_getElem (by rw [HD2.out.len]; omega)⟩
          obtain ⟨s0, s1, s2⟩ := HD2.out.own.at (g := g) rfl hy
          have s0' : w2.cell? ⟨g, i * 3, none⟩ = some (.int .i64 y.1) := s0
          have s1' : w2.cell? ⟨g, i * 3 + 1, none⟩ = some (.int .i64 y.2.1) := s1
          have s2' : w2.cell? ⟨g, i * 3 + 2, none⟩ = some (.int .i64 y.2.2) := s2
          have fz : ∀ k, w2.frozen? ⟨g, k, none⟩ = false := by
            intro k
            rcases HD2.out.own.2 with ⟨h1, _⟩ | ⟨g', cap', cur, h1, _, h3, _⟩
            · cases h1
            · injection h1 with h1 _ _
              injection h1 with h1
              injection h1 with h1 _ _
              subst h1
              simp [World.frozen?, h3]
          have fz0 := fz (i * 3)
          have fz1 := fz (i * 3 + 1)
          have fz2 := fz (i * 3 + 2)
          clear hb2 HC s0 s1 s2 fz r0' r1' r2'
          have HD3 : Hid (Df w (((w2.setCell ⟨g, i * 3, none⟩ (.int .i64 x.1)).setCell ⟨g, i * 3 + 1, none⟩ (.int .i64 x.2.1)).setCell ⟨g, i * 3 + 2, none⟩ (.int .i64 x.2.2)) B g m cap c (i + 1) (j + 1) d M (X.set i x)) := HD2.out.store hlt HX.out hxd
          go_wp2_with fail
          go_roundw
          case rel => exact ⟨i + 1, j + 1, _, by go_num, by go_num, HD3.out⟩
          case measure => simp [intOf]; omega
      · as_aux_lemma =>
        have hje : j = m := by omega
        subst hje
        obtain ⟨W2, hcl, hcap, hcm, ho2, hg2⟩ := HD.out.done HO.out.2.2
        have HF : Hid (G.Owns W2 B 55 (.slice (some ⟨g, 0, none⟩) i cap) (M.filter fun x => !decide (x = d)) ∧ w.grownBy W2 (some g)) := ⟨ho2, hg2⟩
        simp only [maxLen] at hcm
        have hic : ¬ (cap = i) := by omega
        have hi1 : (i : Int) ≤ (j : Int) := by omega
        have hi2 : (i : Int) ≤ (cap : Int) := by omega
        have hi3 : (j : Int) ≤ (cap : Int) := by omega
        clear ho2 hg2 HD
        go_wp2_with fail
        go_ret
        exact ⟨_, rfl, HF.out.1, HF.out.2⟩
  · as_aux_lemma =>
    have HF : Hid (G.Owns w1 B 55 (.slice (some ⟨g, 0, none⟩) m cap) (M.filter fun x => !decide (x = d)) ∧ w.grownBy w1 (some g)) := by
      refine ⟨?_, ⟨hb1.os, hb1.tape, hb1.output, hb1.size, fun k hk _ => hb1.block k hk⟩⟩
      have : (M.filter fun x => !decide (x = d)) = M := by
        rw [List.filter_eq_self]
        intro x hx
        obtain ⟨k, hk⟩ := List.getElem?_of_mem hx
        have hki := (List.getElem?_eq_some_iff.1 hk).1
        have h3 := hno k (by rw [← HO.out.2.2]; exact hki)
        rw [hk] at h3
        simp
        exact fun e => h3 (by rw [e])
      rw [this]
      exact HO.out.1.below hb1
    clear hno hb1 HI
    go_wp2_with fail
    go_ret
    exact ⟨_, rfl, HF.out.1, HF.out.2⟩

end Go.Proofs.YtigodbamphejmaaGreatDoor.S
namespace Go.Proofs.YtigodbamphejmaaGreatDoor.S
open Go.RowKit

theorem results_cell {fn : Func} {p : Tmp} {ty : TypeId} (h : fn.results = #[.cell p ty]) (tmps : Array Value) (P : Program) (w : World) :
    (results fn tmps).run P w = ((asAddr (tmps.getD p undef)).run P w).andThen fun a w₁ => (loadVar ty a).run P w₁ := by
  simp only [results, h]
  simp [Sem.run_bind, Result.andThen]

/-- The tree without one edge. -/
def tbut (t : List Edg) (d : Edg) : List Edg := t.filter fun x => !decide (x = d)

/-- Which rings go round an edge of the tree. -/
def tcov (n : Nat) (t o : List Edg) (d : Edg) (i : Nat) : Bool := decide ((lbl n (tbut t d)).getD (ea (o.getD i (0, 0, 0))) 0 ≠ (lbl n (tbut t d)).getD (eb (o.getD i (0, 0, 0))) 0)

/-- Rings in a block. -/
def RingAt (w : World) (b x : Nat) : Prop := w.heap[b]? = some (.cells #[.int .u64 (x : Int), .int .u64 0] 101)
theorem RingAt.below {w w' : World} {b x : Nat} (h : RingAt w b x) (hb : Below w.heap.size w w') : RingAt w' b x := (hb.block b (lt_of_some h)).trans h
theorem RingAt.but {w w' : World} {b r x : Nat} (h : RingAt w b x) (hb : But r w w') (hne : b ≠ r) : RingAt w' b x := (hb.block b (lt_of_some h) hne).trans h

/-- What through holds on to. -/
structure Th (w0 w : World) (p b r8 r : Nat) (l : List Nat) (x : Nat) : Prop where
  sets : SetsAt w p b l
  res : RingAt w r8 0
  ring : RingAt w r x
  lp : p < r
  lbr : b < r
  l8 : r8 < r
  lo : w0.heap.size ≤ r8
  lr : w0.heap.size ≤ r
  below : Below w0.heap.size w0 w

section
variable {w0 w w' : World} {p b r8 r : Nat} {l : List Nat} {x x' : Nat}
theorem Th.below' (h : Th w0 w p b r8 r l x) (hb : Below w.heap.size w w') : Th w0 w' p b r8 r l x :=
  { h with sets := h.sets.below hb h.sets.plt h.sets.blt, res := h.res.below hb, ring := h.ring.below hb, below := h.below.trans (hb.mono h.below.size) }
theorem Th.put (h : Th w0 w p b r8 r l x) (hr : RingAt w' r x') (hb : But r w w') : Th w0 w' p b r8 r l x' := by
  have h1 := h.lp
  have h2 := h.lbr
  have h3 := h.l8
  exact { h with sets := ⟨(hb.block p h.sets.plt (by omega)).trans h.sets.hp, (hb.block b h.sets.blt (by omega)).trans h.sets.hb⟩, res := h.res.but hb (by omega), ring := hr, below := h.below.trans (hb.below h.lr h.below.size) }
end

theorem tbut_in {n : Nat} {t : List Edg} (h : InE n t) (d : Edg) : InE n (tbut t d) := h.sub (fun _ he => (List.mem_filter.1 he).1)

set_option maxHeartbeats 4000000 in
set_option maxRecDepth 100000 in
theorem through_any (n B1 B2 : Nat) (vt vo : Value) (t o : List Edg) (d : Edg) (w : World) (ht : G.Owns w B1 55 vt t) (ho : G.Owns w B2 55 vo o) (hit : InE n t) (hio : InE n o) (hd : d ∈ t) (hn : n ≤ 40) (hlt : t.length ≤ 120) (hlo : o.length ≤ 63) :
    Calls Tryz.prog 68 #[.int .i64 (n : Int), vt, .agg #[.int .i64 d.1, .int .i64 d.2.1, .int .i64 d.2.2], vo] w fun e w' => e = .returned (.agg #[.int .u64 ((bitsN (tcov n t o d) o.length : Nat) : Int), .int .u64 0]) ∧ Below w.heap.size w w' := by
  have HT : Hid (G.Owns w B1 55 vt t ∧ InE n t ∧ d ∈ t) := ⟨ht, hit, hd⟩
  have HO : Hid (G.Owns w B2 55 vo o ∧ InE n o) := ⟨ho, hio⟩
  obtain ⟨m, hm⟩ : ∃ m, o.length = m := ⟨_, rfl⟩
  have HM : Hid (o.length = m) := hm
  obtain ⟨va, vc, hv⟩ := ho.slice_len
  rw [hm] at hv hlo ⊢
  subst hv
  obtain ⟨W1, hW1⟩ : ∃ W1, (w.alloc (.cells #[.int .i64 d.1, .int .i64 d.2.1, .int .i64 d.2.2] 55)).alloc (.cells #[.int .u64 0, .int .u64 0] 101) = W1 := ⟨_, rfl⟩
  have hb1 : Below w.heap.size w W1 := by
    rw [← hW1]
    exact ((Below.refl _ _).alloc (Nat.le_refl _) _).alloc (by simp) _
  have hsz1 : W1.heap.size = w.heap.size + 2 := by rw [← hW1]; simp
  have hbx : Box W1 w.heap.size d := by
    rw [← hW1]
    show ((w.alloc (.cells #[.int .i64 d.1, .int .i64 d.2.1, .int .i64 d.2.2] 55)).alloc _).heap[w.heap.size]? = _
    rw [Below.heap_alloc _ _ _ (by simp)]
    exact heap_alloc_new w _
  have hr8 : RingAt W1 (w.heap.size + 1) 0 := by
    rw [← hW1]
    have := heap_alloc_new (w.alloc (.cells #[.int .i64 d.1, .int .i64 d.2.1, .int .i64 d.2.2] 55)) (.cells #[.int .u64 0, .int .u64 0] 101)
    rw [World.size_alloc] at this
    exact this
  have H1 : Hid (Below w.heap.size w W1 ∧ Box W1 w.heap.size d ∧ RingAt W1 (w.heap.size + 1) 0) := ⟨hb1, hbx, hr8⟩
  clear ht ho hit hio hd hm hb1 hbx hr8
  have hmf' := hmf
  go_enter Tryz.func68, Tryz.ntmps68
  go_wp2_with fail
  refine (clone_edges vt B1 t W1 (HT.out.1.below H1.out.1) (by omega)).mono ?_
  rintro e w2 ⟨u2, rfl, ho2, hb2⟩
  obtain ⟨g, cap, hu2, hBg, _, _⟩ : ∃ g cap, u2 = .slice (some ⟨g, 0, none⟩) t.length cap ∧ W1.heap.size ≤ g ∧ True ∧ True := by
    rcases ho2.shape with ⟨_, e⟩ | ⟨g, cap, e, h1, _⟩
    · rw [e] at HT; have := HT.out.2.2; simp at this
    · exact ⟨g, cap, e, h1, trivial, trivial⟩
  subst hu2
  have HO2 : Hid (G.Owns w2 W1.heap.size 55 (.slice (some ⟨g, 0, none⟩) t.length cap) t ∧ Below W1.heap.size W1 w2) := ⟨ho2, hb2⟩
  clear ho2 hb2
  go_wp2_with fail
  refine (delete_edges w.heap.size g t.length cap W1.heap.size d t w2 HO2.out.1 (H1.out.2.1.below HO2.out.2) (by omega) hBg (by omega) rfl).mono ?_
  rintro e w3 ⟨v3, rfl, ho3, hg3⟩
  have HW3 : Hid (G.Owns w3 W1.heap.size 55 v3 (tbut t d) ∧ Below w.heap.size w w3 ∧ RingAt w3 (w.heap.size + 1) 0 ∧ W1.heap.size ≤ w3.heap.size) := by
    have hk : Below W1.heap.size W1 w3 := HO2.out.2.trans ⟨hg3.os, hg3.tape, hg3.output, hg3.size, fun k hk => hg3.block k (Nat.lt_of_lt_of_le hk HO2.out.2.size) (by simp; omega)⟩
    exact ⟨ho3, H1.out.1.trans (hk.mono H1.out.1.size), H1.out.2.2.below hk, hk.size⟩
  clear ho3 hg3 HO2 hBg
  go_wp2_with fail
  refine (ctogether_any n W1.heap.size v3 (tbut t d) w3 HW3.out.1 hn (tbut_in HT.out.2.1 d) (Nat.le_trans (List.length_filter_le _ _) hlt)).mono ?_
  rintro e w4 ⟨p, b, rfl, hs4, hp4, hb4, hbel4⟩
  have HW4 : Hid (SetsAt w4 p b (lbl n (tbut t d)) ∧ Below w.heap.size w w4 ∧ RingAt w4 (w.heap.size + 1) 0) := ⟨hs4, HW3.out.2.1.trans (hbel4.mono HW3.out.2.1.size), HW3.out.2.2.1.below hbel4⟩
  have hsz4 : w.heap.size + 2 ≤ w4.heap.size := by have h1 := HW3.out.2.2.2; have h2 := hbel4.size; omega
  clear hs4 hp4 hb4 hbel4 HW3
  have HT0 : Hid (Th w (w4.alloc (.cells #[.int .u64 0, .int .u64 0] 101)) p b (w.heap.size + 1) w4.heap.size (lbl n (tbut t d)) (bitsN (tcov n t o d) 0)) := by
    have hb : Below w4.heap.size w4 (w4.alloc (.cells #[.int .u64 0, .int .u64 0] 101)) := (Below.refl _ _).alloc (Nat.le_refl _) _
    exact ⟨HW4.out.1.below hb HW4.out.1.plt HW4.out.1.blt, HW4.out.2.2.below hb, heap_alloc_new w4 _, HW4.out.1.plt, HW4.out.1.blt, by omega, by omega, by omega, HW4.out.2.1.trans (hb.mono HW4.out.2.1.size)⟩
  obtain ⟨r, hr⟩ : ∃ r, w4.heap.size = r := ⟨_, rfl⟩
  go_wp2_with fail
  rw [hr] at HT0
  clear hr
  go_loopw [23] (fun s23 wq => ∃ k : Nat, k ≤ m ∧ s23 = .int .i64 k ∧ Th w wq p b (w.heap.size + 1) r (lbl n (tbut t d)) (bitsN (tcov n t o d) k)) (fun s23 _ => m - (intOf s23).toNat)
  case atStart => exact ⟨0, Nat.zero_le _, rfl, HT0.out⟩
  case round =>
    clear HT0
    obtain ⟨k, hk, rfl, hth⟩ := hrel
    have HTh : Hid (Th w wr p b (w.heap.size + 1) r (lbl n (tbut t d)) (bitsN (tcov n t o d) k)) := hth
    clear hth
    by_cases hltk : k < m
    · obtain ⟨x0, xa, xb, hx, han, hbn, hxa, hxb⟩ := row_edge HO.out.2 (by rw [HM.out]; exact hltk)
      have HX : Hid (o.getD k (0, 0, 0) = (x0, (xa : Int), (xb : Int)) ∧ ea (x0, (xa : Int), (xb : Int)) = xa ∧ eb (x0, (xa : Int), (xb : Int)) = xb) := ⟨by rw [List.getD_eq_getElem?_getD, hx]; rfl, hxa, hxb⟩
      obtain ⟨g', rfl⟩ := owns_block HO.out.1 (by rw [HM.out]; exact hltk)
      obtain ⟨r0, r1, r2⟩ := (HO.out.1.below HTh.out.below).at (g := g') rfl hx
      have r0' : wr.cell? ⟨g', k * 3, none⟩ = some (.int .i64 x0) := r0
      have r1' : wr.cell? ⟨g', k * 3 + 1, none⟩ = some (.int .i64 (xa : Int)) := r1
      have r2' : wr.cell? ⟨g', k * 3 + 2, none⟩ = some (.int .i64 (xb : Int)) := r2
      clear r0 r1 r2 hx hxa hxb
      have hb1 : Below wr.heap.size wr (wr.alloc (.cells #[.int .i64 x0, .int .i64 (xa : Int), .int .i64 (xb : Int)] 55)) := (Below.refl _ _).alloc (Nat.le_refl _) _
      have HT1 : Hid (Th w (wr.alloc (.cells #[.int .i64 x0, .int .i64 (xa : Int), .int .i64 (xb : Int)] 55)) p b (w.heap.size + 1) r (lbl n (tbut t d)) (bitsN (tcov n t o d) k)) := HTh.out.below' hb1
      have hgl : (lbl n (tbut t d)).length = n := (lb_good (tbut_in HT.out.2.1 d).nodes).len
      have HCV : Hid (tcov n t o d k = true ↔ (lbl n (tbut t d)).getD xa 0 ≠ (lbl n (tbut t d)).getD xb 0) := by
        show tcov n t o d k = true ↔ _
        unfold tcov
        rw [HX.out.1, HX.out.2.1, HX.out.2.2, decide_eq_true_iff]
      have HC : Hid _ := capart_any xa xb p b (lbl n (tbut t d)) (tcov n t o d k) _ HT1.out.sets (by omega) (by omega) HCV.out
      clear hb1 HTh
      cases hcv : tcov n t o d k with
      | true =>
        as_aux_lemma =>
        rw [hcv] at HC
        go_wp2_with fail
        refine Calls.mono HC.out ?_
        rintro e w6 ⟨rfl, hb6⟩
        have HT6 : Hid (Th w w6 p b (w.heap.size + 1) r (lbl n (tbut t d)) (bitsN (tcov n t o d) k)) := HT1.out.below' hb6
        clear hb6 HT1 HC
        go_wp2_with fail
        refine (put_any r k (bitsN (tcov n t o d) k) w6 HT6.out.ring (by omega) (bitsN_lt _ _)).mono ?_
        rintro e w7 ⟨rfl, hr7, hb7⟩
        have HT7 : Hid (Th w w7 p b (w.heap.size + 1) r (lbl n (tbut t d)) (bitsN (tcov n t o d) (k + 1))) := by
          have e1 : bitsN (tcov n t o d) (k + 1) = bitsN (tcov n t o d) k + 2 ^ k := by simp only [bitsN, hcv, if_true]
          have := HT6.out.put hr7 hb7
          rw [← e1] at this; exact this
        clear hr7 hb7 HT6
        go_wp2_with fail
        go_roundw
        case rel => exact ⟨k + 1, by omega, by go_num, HT7.out⟩
        case measure => simp [intOf]; omega
      | false =>
        as_aux_lemma =>
        rw [hcv] at HC
        go_wp2_with fail
        refine Calls.mono HC.out ?_
        rintro e w6 ⟨rfl, hb6⟩
        have HT7 : Hid (Th w w6 p b (w.heap.size + 1) r (lbl n (tbut t d)) (bitsN (tcov n t o d) (k + 1))) := by
          have e1 : bitsN (tcov n t o d) (k + 1) = bitsN (tcov n t o d) k := by simp [bitsN, hcv]
          have := HT1.out.below' hb6
          rw [← e1] at this; exact this
        clear hb6 HT1 HC
        go_wp2_with fail
        go_roundw
        case rel => exact ⟨k + 1, by omega, by go_num, HT7.out⟩
        case measure => simp [intOf]; omega
    · as_aux_lemma =>
      have hke : k = m := by omega
      subst hke
      obtain ⟨X, hX⟩ : ∃ X, bitsN (tcov n t o d) k = X := ⟨_, rfl⟩
      have HXX : Hid (bitsN (tcov n t o d) k = X) := hX
      rw [hX] at HTh
      have q8 : wr.heap[w.heap.size + 1]? = some (.cells #[.int .u64 0, .int .u64 0] 101) := HTh.out.res
      have qr : wr.heap[r]? = some (.cells #[.int .u64 (X : Int), .int .u64 0] 101) := HTh.out.ring
      have c0 : wr.cell? ⟨r, 0, none⟩ = some (.int .u64 (X : Int)) := by simp [World.cell?, qr]
      have c1 : wr.cell? ⟨r, 1, none⟩ = some (.int .u64 0) := by simp [World.cell?, qr]
      have d0 : wr.cell? ⟨w.heap.size + 1, 0, none⟩ = some (.int .u64 0) := by simp [World.cell?, q8]
      have d1 : wr.cell? ⟨w.heap.size + 1, 1, none⟩ = some (.int .u64 0) := by simp [World.cell?, q8]
      have f0 : ∀ i, wr.frozen? ⟨w.heap.size + 1, i, none⟩ = false := fun i => by simp only [World.frozen?, q8]; simp
      have f00 := f0 0
      have f01 := f0 1
      have HB : Hid (Below w.heap.size w wr) := HTh.out.below
      clear hX f0 q8 qr HTh
      go_wp2_with fail
      (try simp only [Exit.inBlock, Exit.then])
      refine bodyPost_ret (v := .agg #[.int .u64 (X : Int), .int .u64 0]) ?_ rfl ⟨by rw [HXX.out], ?_⟩
      · rw [results_cell rfl]
        go_simp
      · exact (HB.out.setCell (show w.heap.size ≤ w.heap.size + 1 by omega) _).setCell (show w.heap.size ≤ w.heap.size + 1 by omega) _

end Go.Proofs.YtigodbamphejmaaGreatDoor.S
namespace Go.Proofs.YtigodbamphejmaaGreatDoor.S
open Go.RowKit Go.WideMaps Go.Maps

/-- How rings read. -/
def ringL : List Value → Option (DataW Unit × List MemPlace)
  | [.int .u64 a, .int .u64 b] => some (.agg [.lit (.int .u64 a), .lit (.int .u64 b)], [])
  | _ => none
def ringR : Value → Option (DataW Unit × List MemPlace)
  | .agg cs => ringL cs.toList
  | _ => none
def ringV (x : Nat) : Value := .agg #[.int .u64 (x : Int), .int .u64 0]
def ringD (x : Nat) : DataW Unit := .agg [.lit (.int .u64 (x : Int)), .lit (.int .u64 0)]
theorem ringR_mk (x : Nat) : ringR (ringV x) = some (ringD x, []) := rfl
theorem ringD_inj {x y : Nat} (h : ringD x = ringD y) : x = y := by
  simp [ringD] at h
  omega
theorem ringL_inv {l : List Value} {y : DataW Unit × List MemPlace} (h : ringL l = some y) : ∃ a b : Int, l = [.int .u64 a, .int .u64 b] ∧ y = (.agg [.lit (.int .u64 a), .lit (.int .u64 b)], []) := by
  unfold ringL at h
  split at h
  · next a b => cases h; exact ⟨a, b, rfl, rfl⟩
  · cases h
theorem ringR_inv {v : Value} {y : DataW Unit × List MemPlace} (h : ringR v = some y) : ∃ c : Int × Int, v = .agg #[.int .u64 c.1, .int .u64 c.2] ∧ y = (.agg [.lit (.int .u64 c.1), .lit (.int .u64 c.2)], []) := by
  unfold ringR at h
  split at h
  · next cs =>
    obtain ⟨a, b, h1, h2⟩ := ringL_inv h
    exact ⟨(a, b), by rw [← Array.toArray_toList (xs := cs), h1], h2⟩
  · cases h

/-- The map has of these edges, by their numbers, these rings. -/
structure Rm (D : DataW Unit) (S : List Edg) (f : Edg → Nat) : Prop where
  key : ∀ kl, Maps.has D kl = true ↔ ∃ e ∈ S, kl = .int .i64 e.1
  val : ∀ e ∈ S, ∀ zd, D.atKey (.int .i64 e.1) zd = ringD (f e)
  tidy : Tidy D

theorem Rm.start (f : Edg → Nat) : Rm (.map []) [] f := ⟨fun kl => by simp [Maps.has], fun e he => by simp at he, tidy_empty⟩

theorem Rm.put {D : DataW Unit} {S : List Edg} {f : Edg → Nat} (h : Rm D S f) (e : Edg) (hn : ∀ d ∈ S, d.1 ≠ e.1) : Rm (D.put (.int .i64 e.1) (ringD (f e))) (S ++ [e]) f := by
  refine ⟨fun kl => ?_, fun d hd zd => ?_, h.tidy.put (isKeyLit _) _⟩
  · by_cases hx : kl = .int .i64 e.1
    · rw [hx, has_put_same h.tidy.isMap (isKeyLit _)]
      exact ⟨fun _ => ⟨e, by simp, rfl⟩, fun _ => rfl⟩
    · rw [has_put_other hx, h.key]
      constructor
      · rintro ⟨d, hd, k⟩; exact ⟨d, by simp [hd], k⟩
      · rintro ⟨d, hd, k⟩
        rcases List.mem_append.1 hd with hd | hd
        · exact ⟨d, hd, k⟩
        · rw [List.mem_singleton.1 hd] at k; exact absurd k hx
  · rcases List.mem_append.1 hd with hd | hd
    · rw [atKey_put_other (by have := hn d hd; simpa using this)]
      exact h.val d hd zd
    · rw [List.mem_singleton.1 hd, atKey_put_same h.tidy.isMap (isKeyLit _)]

/-- The Cover value while it is made: its struct at block c, its map at block mb. -/
structure Cv (w0 w : World) (c mb rest : Nat) (S : List Edg) (f : Edg → Nat) : Prop where
  st : ∃ v, w.heap[c]? = some (.cells #[.int .i64 (rest : Int), .map (some mb), v] 98)
  mp : ∃ D N, w.ownsMap Tryz.prog 3 ringR mb N D ∧ Rm D S f ∧ N = S.length
  ne : c ≠ mb
  lc : w0.heap.size ≤ c
  lm : w0.heap.size ≤ mb
  below : Below w0.heap.size w0 w

section
variable {w0 w w' : World} {c mb rest : Nat} {S : List Edg} {f : Edg → Nat}
theorem Cv.below' (h : Cv w0 w c mb rest S f) (hb : Below w.heap.size w w') : Cv w0 w' c mb rest S f := by
  obtain ⟨v, hv⟩ := h.st
  obtain ⟨D, N, h1, h2, h3⟩ := h.mp
  exact { h with st := ⟨v, (hb.block c (lt_of_some hv)).trans hv⟩, mp := ⟨D, N, h1.kept (grown_below hb) (by simp), h2, h3⟩, below := h.below.trans (hb.mono h.below.size) }

theorem Cv.cell1 (h : Cv w0 w c mb rest S f) : w.cell? ⟨c, 1, none⟩ = some (.map (some mb)) := by
  obtain ⟨v, hv⟩ := h.st
  simp [World.cell?, hv]

/-- One edge more: the map's update. -/
theorem Cv.more (h : Cv w0 w c mb rest S f) (e : Edg) (hn : ∀ d ∈ S, d.1 ≠ e.1) (hw : (Lit.int .i64 e.1).wf = true) (hl : S.length ≤ 1000) :
    ∃ w2, (Instr.mapUpdate 96 (.map (some mb)) (.int .i64 e.1) (ringV (f e))).run Tryz.prog w = .ok () w2 ∧ Cv w0 w2 c mb rest (S ++ [e]) f ∧ w.grownBy w2 (some mb) := by
  obtain ⟨v, hv⟩ := h.st
  obtain ⟨D, N, h1, h2, h3⟩ := h.mp
  obtain ⟨w2, r, ho, hg⟩ := h1.update law3 Tryz.underlying96 (by unfold maxLen; omega) (key3 e.1 hw) (ringR_mk (f e))
  refine ⟨w2, r, { h with st := ⟨v, (hg.block c (lt_of_some hv) (by simp; exact h.ne)).trans hv⟩, mp := ⟨_, _, ho, h2.put e hn, by simp [h3]⟩, below := h.below.grown hg h.below.size (fun j hj => by injection hj with hj; have := h.lm; omega) }, hg⟩
end

end Go.Proofs.YtigodbamphejmaaGreatDoor.S
