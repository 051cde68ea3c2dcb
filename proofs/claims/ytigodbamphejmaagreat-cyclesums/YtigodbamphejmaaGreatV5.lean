/- Package cycle: ids. -/
import Derived.Test.YtigodbamphejmaaGreatVo
import Derived.Test.YtigodbamphejmaaGreatKe
namespace Go.Proofs
open Go.Shelf
def Tryz.keysR_ren : Go.Shelf.Ren := ⟨fun | 7 => 58 | 10 => 75 | n => n, fun | 23 => 60 | 26 => 3 | 3 => 66 | 28 => 84 | 0 => 0 | 27 => 83 | 33 => 81 | 4 => 4 | n => n, fun | n => n⟩
theorem Tryz.keysR : Go.Proofs.SlLaysZI.n7 Tryz.prog Tryz.keysR_ren := {
  mixed := by kernel_rfl
  f7 := ⟨Tryz.f58.name, by decide, Tryz.func58.trans (congrArg some (by kernel_rfl))⟩
  f10 := ⟨Tryz.f75.name, by decide, Tryz.func75.trans (congrArg some (by kernel_rfl))⟩
  t0 := Tryz.underlying0
  a0 := Tryz.isAgg0
  z0 := Tryz.sizeOf0
  v0 := Tryz.zeroValue0
  t4 := Tryz.underlying4
  a4 := Tryz.isAgg4
  z4 := Tryz.sizeOf4
  v4 := Tryz.zeroValue4
  t23 := Tryz.underlying60
  a23 := Tryz.isAgg60
  z23 := Tryz.sizeOf60
  v23 := Tryz.zeroValue60
  t26 := Tryz.underlying3
  a26 := Tryz.isAgg3
  z26 := Tryz.sizeOf3
  v26 := Tryz.zeroValue3
  t27 := Tryz.underlying83
  a27 := Tryz.isAgg83
  z27 := Tryz.sizeOf83
  v27 := Tryz.zeroValue83
  t28 := Tryz.underlying84
  a28 := Tryz.isAgg84
  z28 := Tryz.sizeOf84
  v28 := Tryz.zeroValue84
  t33 := Tryz.underlying81
  a33 := Tryz.isAgg81
  z33 := Tryz.sizeOf81
  v33 := Tryz.zeroValue81 }
end Go.Proofs

namespace Go.Proofs.YtigodbamphejmaaGreat.S
open Go.RowKit Go.WideMaps Go.Maps Go.Shelf

theorem keysR_any (mb : Option Nat) (W : World) : Calls Tryz.prog 58 #[.map mb] W fun e w' => e = .returned (.func (.func 75) #[] #[.pointer (some ⟨W.heap.size, 0, none⟩)]) ∧ w' = W.alloc (.cells #[.map mb] 60) :=
  (callsIn_wide (n := 5)).1 (AnyZI.keys_in Tryz.keysR Fence.wide 5 trivial rfl mb W)

set_option maxHeartbeats 1000000 in
theorem keysR_sorted (R : Value → Option (DataW Unit × List MemPlace)) (m N : Nat) (D : DataW Unit) (w : World) (hown : w.ownsMap Tryz.prog 3 R m N D) (hN : N ≤ 1000) :
    Calls Tryz.prog 37 #[.func (.func 75) #[] #[.pointer (some ⟨w.heap.size, 0, none⟩)]] (w.alloc (.cells #[.map (some m)] 60)) fun e w' => ∃ (v : Value) (ss : List Int), e = .returned v ∧ ss.Perm (intKeys D) ∧
      w'.ownsRow w.heap.size 3 1 v ss.length ((ss.mergeSort (fun x y => decide (x ≤ y))).map encZ) ∧ Below w.heap.size w w' := by
  have hmax : Maps.size D ≤ maxLen := Nat.le_trans hown.size_le (by unfold maxLen; omega)
  have hbytes : Maps.size D * 8 ≤ 140737488355328 := by have := hown.size_le; omega
  have hbl := hown.lt
  have hseq : SeqGives Fence.wide 2 Tryz.prog 75 #[.pointer (some ⟨w.heap.size, 0, none⟩)] encZ (fun ss => ss.Perm (intKeys D)) (Maps.size D) (w.alloc (.cells #[.map (some m)] 60)) :=
    AnyZI.keys_gives (ρ := Tryz.keysR_ren) { Tryz.keysR with } Fence.wide _ trivial rfl (by omega) w.heap.size m N D _ (by simp) (by simp) (by
      obtain ⟨es, clock, hb, Ft, hs, hD⟩ := hown
      exact ⟨es, clock, (Below.heap_alloc _ _ m hbl).trans hb, Ft, hs, hD⟩)
  have cS := AnyZI.sorted_in Tryz.sortedA Fence.wide 5 trivial trivial trivial trivial rfl (by omega) (sortsA _) (enters_of Tryz.func60 (by kernel_rfl) rfl) 75 #[.pointer (some ⟨w.heap.size, 0, none⟩)] trivial (enters_of Tryz.func75 (by kernel_rfl) rfl) _ _ hmax hbytes _ hseq
  change CallsIn _ _ Tryz.prog 37 _ _ _ at cS
  refine (callsIn_wide.1 cS).mono ?_
  rintro e w' ⟨v, ss, rfl, hS, hrow, hnil, hb⟩
  exact ⟨v, ss, rfl, hS, ownsRow_base_a hrow (by simp), ((Below.refl _ w).alloc (Nat.le_refl _) _).trans (hb.mono (by simp))⟩


/-- The numbers of edges, as values. -/
def idV (R : List Edg) : List Value := R.map fun e => .int .i64 e.1

set_option maxHeartbeats 1000000 in
theorem cids_any (c mb rest : Nat) (S R : List Edg) (f : Edg → Nat) (w : World) (h : Co w c mb rest S f) (hS : ∀ e, e ∈ S ↔ e ∈ R) (hR : (R.map (·.1)).Pairwise (· < ·)) (hl : ∀ D N, w.ownsMap Tryz.prog 3 ringR mb N D → Rm D S f → w.ownsMap Tryz.prog 3 ringR mb 1000 D) :
    Calls Tryz.prog 35 #[.pointer (some ⟨c, 0, none⟩)] w fun e w' => ∃ v, e = .returned v ∧ w'.ownsRow w.heap.size 3 1 v R.length (idV R) ∧ Below w.heap.size w w' := by
  have h1 := h.cell1
  obtain ⟨D, N, ho, hm⟩ := h.mp
  have ho' := hl D N ho hm
  have hk : ∀ x : Int, Maps.has D (.int .i64 x) = true ↔ x ∈ R.map (·.1) := fun x => by
    rw [hm.key, List.mem_map]
    constructor
    · rintro ⟨e, he, h2⟩; injection h2 with _ h2; exact ⟨e, (hS e).1 he, h2.symm⟩
    · rintro ⟨e, he, rfl⟩; exact ⟨e, (hS e).2 he, rfl⟩
  have HS : Hid _ := keysR_sorted ringR mb 1000 D w ho' (Nat.le_refl _)
  have HK : Hid (∀ ss : List Int, ss.Perm (intKeys D) → (ss.mergeSort fun x y => decide (x ≤ y)) = R.map (·.1) ∧ ss.length = (R.map (·.1)).length) := fun ss hp => keys_up ho' hR hk hp
  clear h ho ho' hm hl hk hR hS
  go_enter Tryz.func35, Tryz.ntmps35
  go_wp2_with fail
  refine (keysR_any (some mb) w).mono ?_
  rintro e w1 ⟨rfl, hw1⟩
  subst hw1
  go_wp2_with fail
  refine Calls.mono HS.out ?_
  rintro e w2 ⟨v, ss, rfl, hp, hrow, hb⟩
  have HF : Hid (w2.ownsRow w.heap.size 3 1 v R.length (idV R) ∧ Below w.heap.size w w2) := by
    refine ⟨?_, hb⟩
    obtain ⟨h3, h4⟩ := HK.out ss hp
    rw [h3, h4, List.length_map, List.map_map] at hrow
    exact hrow
  clear hp hrow hb
  go_wp2_with fail
  go_ret
  exact ⟨_, rfl, HF.out.1, HF.out.2⟩

end Go.Proofs.YtigodbamphejmaaGreat.S
namespace Go.Proofs.YtigodbamphejmaaGreat.S
open Go.RowKit Go.WideMaps Go.Maps

/-- The box of the Cover. -/
structure Cb (w : World) (bx c mb rest : Nat) (S : List Edg) (f : Edg → Nat) : Prop where
  bx : w.heap[bx]? = some (.cells #[.pointer (some ⟨c, 0, none⟩)] 26)
  co : Co w c mb rest S f

def rowZ (K : List Int) : List Value := K.map fun x => .int .i64 x
theorem rowZ_length (K : List Int) : (rowZ K).length = K.length * 1 := by simp [rowZ]

section
variable {w w' : World} {bx c mb rest g : Nat} {S : List Edg} {f : Edg → Nat}
theorem Cb.below (h : Cb w bx c mb rest S f) (hb : Below w.heap.size w w') : Cb w' bx c mb rest S f := ⟨(hb.block bx (lt_of_some h.bx)).trans h.bx, h.co.below hb⟩
theorem Cb.grown (h : Cb w bx c mb rest S f) (hg : w.grownBy w' (some g)) (h1 : bx ≠ g) (h2 : c ≠ g) (h3 : mb ≠ g) : Cb w' bx c mb rest S f := by
  obtain ⟨v, hv⟩ := h.co.st
  obtain ⟨D, N, k1, k2⟩ := h.co.mp
  exact ⟨(hg.block bx (lt_of_some h.bx) (by simp; exact h1)).trans h.bx, ⟨v, (hg.block c (lt_of_some hv) (by simp; exact h2)).trans hv⟩, D, N, k1.kept hg (by simp; exact h3), k2⟩
end

theorem build101 (w : World) : (Instr.build 66 #[]).run Tryz.prog w = .ok (.agg #[.int .u64 0, .int .u64 0]) w := by kernel_rfl

set_option maxHeartbeats 1000000 in
set_option maxRecDepth 100000 in
theorem br1_any (bx c mb rest : Nat) (S : List Edg) (f : Edg → Nat) (e : Edg) (w : World) (h : Cb w bx c mb rest S f) (he : e ∈ S) (hw : (Lit.int .i64 e.1).wf = true) :
    Calls Tryz.prog 36 #[.int .i64 e.1, .pointer (some ⟨bx, 0, none⟩)] w fun en w' => en = .returned (.bool (decide (f e ≠ 0))) ∧ w' = w := by
  have h0 : w.cell? ⟨bx, 0, none⟩ = some (.pointer (some ⟨c, 0, none⟩)) := by simp [World.cell?, h.bx]
  have h1 := h.co.cell1
  have lk := (h.co.look_in he hw).2
  unfold ringV at lk
  have hbd := build101
  have heq := eq101
  obtain ⟨x, hx⟩ : ∃ x, f e = x := ⟨_, rfl⟩
  rw [hx] at lk ⊢
  obtain ⟨X, hX⟩ : ∃ X, e.1 = X := ⟨_, rfl⟩
  rw [hX] at lk ⊢
  clear h he hw hx hX
  by_cases hx0 : x = 0
  · subst hx0
    have hb : (((0 : Nat) : Int) == 0) = true := rfl
    go_enter Tryz.func36, Tryz.ntmps36
    go_wp2_with fail
    go_ret
    exact ⟨by simp, rfl⟩
  · have hb : ((x : Int) == 0) = false := beq_eq_false_iff_ne.2 (by omega)
    go_enter Tryz.func36, Tryz.ntmps36
    go_wp2_with fail
    go_ret
    exact ⟨by simp [hx0], rfl⟩

set_option maxHeartbeats 1000000 in
set_option maxRecDepth 100000 in
theorem pr1_any (bx c mb rest : Nat) (S : List Edg) (f : Edg → Nat) (e : Edg) (w : World) (h : Cb w bx c mb rest S f) (he : e ∈ S) (hw : (Lit.int .i64 e.1).wf = true) :
    Calls Tryz.prog 39 #[.int .i64 e.1, .pointer (some ⟨bx, 0, none⟩)] w fun en w' => en = .returned (.bool (decide (f e = 0))) ∧ w' = w := by
  have h0 : w.cell? ⟨bx, 0, none⟩ = some (.pointer (some ⟨c, 0, none⟩)) := by simp [World.cell?, h.bx]
  have h1 := h.co.cell1
  have lk := (h.co.look_in he hw).2
  unfold ringV at lk
  have hbd := build101
  have heq := eq101
  obtain ⟨x, hx⟩ : ∃ x, f e = x := ⟨_, rfl⟩
  rw [hx] at lk ⊢
  obtain ⟨X, hX⟩ : ∃ X, e.1 = X := ⟨_, rfl⟩
  rw [hX] at lk ⊢
  clear h he hw hx hX
  by_cases hx0 : x = 0
  · subst hx0
    have hb : (((0 : Nat) : Int) == 0) = true := rfl
    go_enter Tryz.func39, Tryz.ntmps39
    go_wp2_with fail
    go_ret
    exact ⟨by simp, rfl⟩
  · have hb : ((x : Int) == 0) = false := beq_eq_false_iff_ne.2 (by omega)
    go_enter Tryz.func39, Tryz.ntmps39
    go_wp2_with fail
    go_ret
    exact ⟨by simp [hx0], rfl⟩

/-- What DeleteFunc has in its row: i are kept of the first j. -/
structure Dz (w0 w : World) (B g m cap i j : Nat) (pf : Int → Bool) (M X : List Int) : Prop where
  own : w.ownsRow B 3 1 (.slice (some ⟨g, 0, none⟩) m cap) m (rowZ X)
  len : X.length = m
  fst : X.take i = (M.take j).filter fun x => !pf x
  snd : X.drop j = M.drop j
  hij : i < j
  hjm : j ≤ m
  kept : w0.grownBy w (some g)

theorem take_fz {L : List Int} {k : Nat} {x : Int} (pf : Int → Bool) (h : L[k]? = some x) : (L.take (k + 1)).filter pf = (L.take k).filter pf ++ (if pf x then [x] else []) := by
  obtain ⟨hlt, he⟩ := List.getElem?_eq_some_iff.1 h
  rw [List.take_succ_eq_append_getElem hlt, List.filter_append, he]
  congr 1
  cases hp : pf x <;> simp [hp]

section
variable {w0 w w' : World} {B g m cap i j : Nat} {x : Int} {pf : Int → Bool} {M X : List Int}
theorem Dz.at_ (h : Dz w0 w B g m cap i j pf M X) (hj : j < m) (hm : M.length = m) : X[j]? = M[j]? ∧ ∃ x, M[j]? = some x := by
  refine ⟨?_, _, List.getElem?_eq_getElem (by omega)⟩
  have := congrArg (fun l => l[0]?) h.snd
  simpa using this

theorem Dz.cell (h : Dz w0 w B g m cap i j pf M X) {k : Nat} (hk : X[k]? = some x) : w.cell? ⟨g, k, none⟩ = some (.int .i64 x) := by
  have hkl := (List.getElem?_eq_some_iff.1 hk).1
  have hlen := h.len
  rw [h.own.cellAt k (by omega)]
  simp [rowZ, hk]

theorem Dz.fz (h : Dz w0 w B g m cap i j pf M X) (k : Nat) : w.frozen? ⟨g, k, none⟩ = false := by
  rcases h.own.2 with ⟨h1, _⟩ | ⟨g', cap', cur, h1, _, h3, _⟩
  · cases h1
  · injection h1 with h1 _ _
    injection h1 with h1
    injection h1 with h1 _ _
    subst h1
    simp [World.frozen?, h3]

theorem Dz.skip (h : Dz w0 w B g m cap i j pf M X) (hj : j < m) (hx : M[j]? = some x) (hp : pf x = true) : Dz w0 w B g m cap i (j + 1) pf M X := by
  refine { h with fst := ?_, snd := ?_, hij := by have := h.hij; omega, hjm := by omega }
  · rw [h.fst, take_fz _ hx]; simp [hp]
  · have := congrArg (List.drop 1) h.snd
    simpa [List.drop_drop, Nat.add_comm] using this

theorem Dz.store (h : Dz w0 w B g m cap i j pf M X) (hj : j < m) (hx : M[j]? = some x) (hp : pf x = false) : Dz w0 (w.setCell ⟨g, i, none⟩ (.int .i64 x)) B g m cap (i + 1) (j + 1) pf M (X.set i x) := by
  have hij := h.hij
  have hlen := h.len
  have hset : w.grownBy (w.setCell ⟨g, i, none⟩ (.int .i64 x)) (some g) := ⟨rfl, rfl, rfl, by simp, fun k _ hn => Below.heap_setCell _ _ _ _ (fun e => hn (by rw [e]))⟩
  refine ⟨?_, by simpa using hlen, ?_, ?_, by omega, by omega, ⟨hset.os.trans h.kept.os, hset.tape.trans h.kept.tape, hset.output.trans h.kept.output, Nat.le_trans h.kept.size hset.size, fun k hk hn => (hset.block k (Nat.lt_of_lt_of_le hk h.kept.size) hn).trans (h.kept.block k hk hn)⟩⟩
  · rcases h.own.2 with ⟨h1, _⟩ | ⟨g', cap', cur, h1, h2, h3, h4, h5, h6, h7⟩
    · cases h1
    · injection h1 with h1a h1b h1c
      injection h1a with h1a
      injection h1a with h1a _ _
      subst h1a
      subst h1c
      refine ⟨by simp [rowZ, hlen], Or.inr ⟨g, cap, cur.setIfInBounds i (.int .i64 x), rfl, h2, ?_, h4, h5, by simpa using h6, ?_⟩⟩
      · simp only [World.setCell, Array.getElem?_modify, h3]
        simp
      · have e1 : rowZ (X.set i x) = (rowZ X).set i (.int .i64 x) := by simp [rowZ, List.map_set]
        rw [e1, ← h7]
        simp [List.take_set]
  · rw [take_fz _ hx, ← h.fst]
    have hi : i < X.length := by omega
    rw [if_pos (by simp [hp]), List.take_succ_eq_append_getElem (by simpa using hi)]
    congr 1
    · rw [List.take_set_of_le (Nat.le_refl _)]
    · simp
  · have := congrArg (List.drop 1) h.snd
    rw [List.drop_set_of_lt (by omega)]
    simpa [List.drop_drop, Nat.add_comm] using this

theorem zeroZ_one (n : Nat) : ∀ u ∈ (Builtin.zeroCells (Value.int .i64 0).cells n).toList, u.oneCell' = true := by
  intro u hu
  have hc : (Value.int .i64 0).cells = #[.int .i64 0] := rfl
  rw [hc] at hu
  simp only [Builtin.zeroCells, Array.toList_map, List.mem_map] at hu
  obtain ⟨a, _, rfl⟩ := hu
  have : a % 1 = 0 := Nat.mod_one a
  show (#[Value.int .i64 0][a % 1]!).oneCell' = true
  rw [this]; rfl
theorem zeroZ_length (n : Nat) : (Builtin.zeroCells (Value.int .i64 0).cells n).toList.length = n := by
  have hc : (Value.int .i64 0).cells = #[.int .i64 0] := rfl
  rw [hc]
  simp [Builtin.zeroCells]

theorem Dz.done (h : Dz w0 w B g m cap i m pf M X) (hm : M.length = m) : ∃ W2, (∀ ty sc, (Builtin.clear_ #[36] ty #[.slice (some ⟨g, i, none⟩) (m - i) sc]).run Tryz.prog w = .ok (.tuple #[]) W2) ∧ m ≤ cap ∧ cap ≤ maxLen ∧ W2.ownsRow B 3 1 (.slice (some ⟨g, 0, none⟩) i cap) (M.filter fun x => !pf x).length (rowZ (M.filter fun x => !pf x)) ∧ w0.grownBy W2 (some g) := by
  have hij := h.hij
  have hlen := h.len
  rcases h.own.2 with ⟨h1, _⟩ | ⟨g', cap', cur, h1, h2, h3, h4, h5, h6, h7⟩
  · cases h1
  · injection h1 with h1a h1b h1c
    injection h1a with h1a
    injection h1a with h1a _ _
    subst h1a
    subst h1c
    have hfst := h.fst
    rw [← hm, List.take_length] at hfst
    have hcl : cur.toList.length = cap := by simpa using h6
    have hzl := zeroZ_length (m - i)
    refine ⟨w.setRow g (splice cur.toList i (Builtin.zeroCells (Value.int .i64 0).cells (m - i)).toList).toArray, fun ty sc => run_clear_rows w 36 3 ty (.int .i64 0) Tryz.underlying36 zero3 g i (m - i) sc (by omega) cur.toList 3 (by simpa using h3) (by rw [hzl, hcl]; omega) (zeroZ_one _), by omega, h5, ?_, ?_⟩
    · rw [← hfst]
      have hl2 : (X.take i).length = i := by rw [List.length_take]; omega
      refine ⟨by simp [rowZ], Or.inr ⟨g, cap, _, by rw [hl2], h2, setRow_heap w g cur _ 3 (0, 0) h3, by rw [hl2]; omega, h5, ?_, ?_⟩⟩
      · rw [List.size_toArray, length_splice _ _ _ (by rw [hzl, hcl]; omega), hcl]; omega
      · rw [hl2]
        show (splice _ _ _).take _ = _
        have h8 : (cur.toList.take i).length = i := by rw [List.length_take, hcl]; omega
        unfold splice
        rw [Nat.mul_one, List.take_append_of_le_length (by omega), List.take_of_length_le (by omega)]
        have h9 := congrArg (List.take i) h7
        rw [List.take_take, show min i (m * 1) = i by omega] at h9
        rw [h9]
        simp [rowZ, List.map_take]
    · exact ⟨h.kept.os, h.kept.tape, h.kept.output, Nat.le_trans h.kept.size (by simp), fun k hk hn => (setRow_other w g k _ (fun e => hn (by rw [e]))).trans (h.kept.block k hk hn)⟩
end

set_option maxHeartbeats 2000000 in
set_option maxRecDepth 100000 in
theorem index_br (pf : Int → Bool) (bx g m cap B : Nat) (M : List Int) (w : World) (h : w.ownsRow B 3 1 (.slice (some ⟨g, 0, none⟩) m cap) m (rowZ M)) (hl : M.length ≤ 1000) (hm : M.length = m)
    (hf : ∀ x ∈ M, Calls Tryz.prog 36 #[.int .i64 x, .pointer (some ⟨bx, 0, none⟩)] w fun e w' => e = .returned (.bool (pf x)) ∧ w' = w) :
    Calls Tryz.prog 57 #[.slice (some ⟨g, 0, none⟩) m cap, .func (.func 36) #[] #[.pointer (some ⟨bx, 0, none⟩)]] w fun e w' => ((∃ i x, i < m ∧ e = .returned (.int .i64 (i : Int)) ∧ M[i]? = some x ∧ pf x = true ∧ ∀ j y, j < i → M[j]? = some y → pf y = false) ∨ (e = .returned (.int .i64 (-1)) ∧ ∀ j y, j < m → M[j]? = some y → pf y = false)) ∧ w' = w := by
  have HO : Hid (w.ownsRow B 3 1 (.slice (some ⟨g, 0, none⟩) m cap) m (rowZ M) ∧ M.length = m) := ⟨h, hm⟩
  have HF : Hid (∀ x ∈ M, Calls Tryz.prog 36 #[.int .i64 x, .pointer (some ⟨bx, 0, none⟩)] w fun e w' => e = .returned (.bool (pf x)) ∧ w' = w) := hf
  rw [hm] at hl
  clear h hm hf
  go_enter Tryz.func57, Tryz.ntmps57
  go_wp2_with fail
  go_loopw [8] (fun s8 wq => ∃ k : Nat, k ≤ m ∧ s8 = .int .i64 k ∧ (∀ j y, j < k → M[j]? = some y → pf y = false) ∧ wq = w) (fun s8 _ => m - (intOf s8).toNat)
  case atStart => exact ⟨0, Nat.zero_le _, rfl, fun j y hj => by omega, rfl⟩
  case round =>
    obtain ⟨k, hk, rfl, hno, rfl⟩ := hrel
    have HB : Hid (∀ j y, j < k → M[j]? = some y → pf y = false) := hno
    clear hno
    by_cases hlt : k < m
    · obtain ⟨x, hx⟩ : ∃ x, M[k]? = some x := ⟨_, List.getElem?_eq_getElem (by rw [HO.out.2]; exact hlt)⟩
      have r0 : wr.cell? ⟨g, k, none⟩ = some (.int .i64 x) := by
        rw [HO.out.1.cellAt k (by omega)]
        simp [rowZ, hx]
      have HX : Hid (M[k]? = some x) := hx
      have HC : Hid _ := HF.out x (List.mem_of_getElem? hx)
      clear hx
      cases hp : pf x with
      | true =>
        as_aux_lemma =>
        rw [hp] at HC
        go_wp2_with fail
        refine Calls.mono HC.out ?_
        rintro e w2 ⟨rfl, hw2⟩
        subst hw2
        go_wp2_with fail
        go_ret
        exact ⟨.inl ⟨k, x, hlt, rfl, HX.out, hp, HB.out⟩, rfl⟩
      | false =>
        as_aux_lemma =>
        rw [hp] at HC
        go_wp2_with fail
        refine Calls.mono HC.out ?_
        rintro e w2 ⟨rfl, hw2⟩
        subst hw2
        have HB2 : Hid (∀ j y, j < k + 1 → M[j]? = some y → pf y = false) := fun j y hj hy => by
          by_cases e : j = k
          · rw [e, HX.out] at hy; rw [← Option.some.inj hy]; exact hp
          · exact HB.out j y (by omega) hy
        go_wp2_with fail
        go_roundw
        case rel => exact ⟨k + 1, by omega, by go_num, HB2.out, by trivial⟩
        case measure => simp [intOf]; omega
    · as_aux_lemma =>
      have hke : k = m := by omega
      have HB2 : Hid (∀ j y, j < m → M[j]? = some y → pf y = false) := fun j y hj hy => HB.out j y (by omega) hy
      clear hke
      go_wp2_with fail
      go_ret
      exact ⟨.inr ⟨rfl, HB2.out⟩, rfl⟩

set_option maxHeartbeats 4000000 in
set_option maxRecDepth 100000 in
theorem delete_br (pf : Int → Bool) (bx g m cap B : Nat) (M : List Int) (w : World) (h : w.ownsRow B 3 1 (.slice (some ⟨g, 0, none⟩) m cap) m (rowZ M)) (hl : M.length ≤ 1000) (hm : M.length = m)
    (hf : ∀ W, w.grownBy W (some g) → ∀ x ∈ M, Calls Tryz.prog 36 #[.int .i64 x, .pointer (some ⟨bx, 0, none⟩)] W fun e w' => e = .returned (.bool (pf x)) ∧ w' = W) :
    Calls Tryz.prog 34 #[.slice (some ⟨g, 0, none⟩) m cap, .func (.func 36) #[] #[.pointer (some ⟨bx, 0, none⟩)]] w fun e w' => ∃ v', e = .returned v' ∧ w'.ownsRow B 3 1 v' (M.filter fun x => !pf x).length (rowZ (M.filter fun x => !pf x)) ∧ w.grownBy w' (some g) := by
  have hrefl : w.grownBy w (some g) := ⟨rfl, rfl, rfl, Nat.le_refl _, fun _ _ _ => rfl⟩
  have HO : Hid (w.ownsRow B 3 1 (.slice (some ⟨g, 0, none⟩) m cap) m (rowZ M) ∧ M.length = m) := ⟨h, hm⟩
  have HF : Hid (∀ W, w.grownBy W (some g) → ∀ x ∈ M, Calls Tryz.prog 36 #[.int .i64 x, .pointer (some ⟨bx, 0, none⟩)] W fun e w' => e = .returned (.bool (pf x)) ∧ w' = W) := hf
  have HI : Hid _ := index_br pf bx g m cap B M w h hl hm (hf w hrefl)
  rw [hm] at hl
  clear h hm hf
  go_enter Tryz.func34, Tryz.ntmps34
  go_wp2_with fail
  refine Calls.mono HI.out ?_
  rintro e w1 ⟨⟨i, x, hi, rfl, hix, hpx, hno⟩ | ⟨rfl, hno⟩, hw1⟩
  · subst hw1
    have HD0 : Hid (Dz w1 w1 B g m cap i (i + 1) pf M M) := by
      refine ⟨HO.out.1, HO.out.2, ?_, rfl, by omega, by omega, hrefl⟩
      rw [take_fz _ hix]
      have : ((M.take i).filter fun x => !pf x) = M.take i := by
        rw [List.filter_eq_self]
        intro y hy
        obtain ⟨k, hk⟩ := List.getElem?_of_mem hy
        have hki := (List.getElem?_eq_some_iff.1 hk).1
        rw [List.length_take] at hki
        rw [List.getElem?_take_of_lt (by omega)] at hk
        rw [hno k y (by omega) hk]; rfl
      rw [this]; simp [hpx]
    have hne : ((i : Int) == -1) = false := beq_eq_false_iff_ne.2 (by omega)
    clear hix hpx hno HI hrefl
    go_wp2_with fail
    go_loopw [5, 6] (fun s5 s6 wq => ∃ (i j : Nat) (X : List Int), s5 = .int .i64 i ∧ s6 = .int .i64 j ∧ Dz w1 wq B g m cap i j pf M X) (fun _ s6 _ => m - (intOf s6).toNat)
    case atStart => exact ⟨i, i + 1, M, rfl, by go_num, HD0.out⟩
    case round =>
      clear HD0 hi hne
      obtain ⟨i, j, X, rfl, rfl, hdf⟩ := hrel
      have HD : Hid (Dz w1 wr B g m cap i j pf M X) := hdf
      have hij := hdf.hij
      have hjm := hdf.hjm
      clear hdf
      by_cases hlt : j < m
      · obtain ⟨hxj, x, hx⟩ := HD.out.at_ hlt HO.out.2
        rw [hx] at hxj
        have r0 := HD.out.cell hxj
        have HX : Hid (M[j]? = some x) := hx
        have HC : Hid _ := HF.out wr HD.out.kept x (List.mem_of_getElem? hx)
        clear hx hxj
        cases hp : pf x with
        | true =>
          as_aux_lemma =>
          rw [hp] at HC
          go_wp2_with fail
          refine Calls.mono HC.out ?_
          rintro e w2 ⟨rfl, hw2⟩
          subst hw2
          have HD2 : Hid (Dz w1 w2 B g m cap i (j + 1) pf M X) := HD.out.skip hlt HX.out hp
          go_wp2_with fail
          go_roundw
          case rel => exact ⟨i, j + 1, X, rfl, by go_num, HD2.out⟩
          case measure => simp [intOf]; omega
        | false =>
          as_aux_lemma =>
          rw [hp] at HC
          go_wp2_with fail
          refine Calls.mono HC.out ?_
          rintro e w2 ⟨rfl, hw2⟩
          subst hw2
          obtain ⟨y, hy⟩ : ∃ y, X[i]? = some y := ⟨_, List.getElem?_eq_getElem (by rw [HD.out.len]; omega)⟩
          have s0 := HD.out.cell hy
          have fz0 := HD.out.fz i
          have HD3 : Hid (Dz w1 (w2.setCell ⟨g, i, none⟩ (.int .i64 x)) B g m cap (i + 1) (j + 1) pf M (X.set i x)) := HD.out.store hlt HX.out hp
          clear hy
          go_wp2_with fail
          go_roundw
          case rel => exact ⟨i + 1, j + 1, _, by go_num, by go_num, HD3.out⟩
          case measure => simp [intOf]; omega
      · as_aux_lemma =>
        have hje : j = m := by omega
        subst hje
        obtain ⟨W2, hcl, hcap, hcm, ho2, hg2⟩ := HD.out.done HO.out.2
        have HFi : Hid (W2.ownsRow B 3 1 (.slice (some ⟨g, 0, none⟩) i cap) (M.filter fun x => !pf x).length (rowZ (M.filter fun x => !pf x)) ∧ w1.grownBy W2 (some g)) := ⟨ho2, hg2⟩
        simp only [maxLen] at hcm
        have hic : ¬ (cap = i) := by omega
        have hi1 : (i : Int) ≤ (j : Int) := by omega
        have hi2 : (i : Int) ≤ (cap : Int) := by omega
        have hi3 : (j : Int) ≤ (cap : Int) := by omega
        clear ho2 hg2 HD
        go_wp2_with fail
        go_ret
        exact ⟨_, rfl, HFi.out.1, HFi.out.2⟩
  · subst hw1
    as_aux_lemma =>
    have HFi : Hid (w1.ownsRow B 3 1 (.slice (some ⟨g, 0, none⟩) m cap) (M.filter fun x => !pf x).length (rowZ (M.filter fun x => !pf x)) ∧ w1.grownBy w1 (some g)) := by
      refine ⟨?_, hrefl⟩
      have : (M.filter fun x => !pf x) = M := by
        rw [List.filter_eq_self]
        intro y hy
        obtain ⟨k, hk⟩ := List.getElem?_of_mem hy
        have hki := (List.getElem?_eq_some_iff.1 hk).1
        rw [hno k y (by rw [← HO.out.2]; exact hki) hk]; rfl
      rw [this, HO.out.2]
      exact HO.out.1
    clear hno HI hrefl
    go_wp2_with fail
    go_ret
    exact ⟨_, rfl, HFi.out.1, HFi.out.2⟩

set_option maxHeartbeats 2000000 in
set_option maxRecDepth 100000 in
theorem index_pr (pf : Int → Bool) (bx g m cap B : Nat) (M : List Int) (w : World) (h : w.ownsRow B 3 1 (.slice (some ⟨g, 0, none⟩) m cap) m (rowZ M)) (hl : M.length ≤ 1000) (hm : M.length = m)
    (hf : ∀ x ∈ M, Calls Tryz.prog 39 #[.int .i64 x, .pointer (some ⟨bx, 0, none⟩)] w fun e w' => e = .returned (.bool (pf x)) ∧ w' = w) :
    Calls Tryz.prog 57 #[.slice (some ⟨g, 0, none⟩) m cap, .func (.func 39) #[] #[.pointer (some ⟨bx, 0, none⟩)]] w fun e w' => ((∃ i x, i < m ∧ e = .returned (.int .i64 (i : Int)) ∧ M[i]? = some x ∧ pf x = true ∧ ∀ j y, j < i → M[j]? = some y → pf y = false) ∨ (e = .returned (.int .i64 (-1)) ∧ ∀ j y, j < m → M[j]? = some y → pf y = false)) ∧ w' = w := by
  have HO : Hid (w.ownsRow B 3 1 (.slice (some ⟨g, 0, none⟩) m cap) m (rowZ M) ∧ M.length = m) := ⟨h, hm⟩
  have HF : Hid (∀ x ∈ M, Calls Tryz.prog 39 #[.int .i64 x, .pointer (some ⟨bx, 0, none⟩)] w fun e w' => e = .returned (.bool (pf x)) ∧ w' = w) := hf
  rw [hm] at hl
  clear h hm hf
  go_enter Tryz.func57, Tryz.ntmps57
  go_wp2_with fail
  go_loopw [8] (fun s8 wq => ∃ k : Nat, k ≤ m ∧ s8 = .int .i64 k ∧ (∀ j y, j < k → M[j]? = some y → pf y = false) ∧ wq = w) (fun s8 _ => m - (intOf s8).toNat)
  case atStart => exact ⟨0, Nat.zero_le _, rfl, fun j y hj => by omega, rfl⟩
  case round =>
    obtain ⟨k, hk, rfl, hno, rfl⟩ := hrel
    have HB : Hid (∀ j y, j < k → M[j]? = some y → pf y = false) := hno
    clear hno
    by_cases hlt : k < m
    · obtain ⟨x, hx⟩ : ∃ x, M[k]? = some x := ⟨_, List.getElem?_eq_getElem (by rw [HO.out.2]; exact hlt)⟩
      have r0 : wr.cell? ⟨g, k, none⟩ = some (.int .i64 x) := by
        rw [HO.out.1.cellAt k (by omega)]
        simp [rowZ, hx]
      have HX : Hid (M[k]? = some x) := hx
      have HC : Hid _ := HF.out x (List.mem_of_getElem? hx)
      clear hx
      cases hp : pf x with
      | true =>
        as_aux_lemma =>
        rw [hp] at HC
        go_wp2_with fail
        refine Calls.mono HC.out ?_
        rintro e w2 ⟨rfl, hw2⟩
        subst hw2
        go_wp2_with fail
        go_ret
        exact ⟨.inl ⟨k, x, hlt, rfl, HX.out, hp, HB.out⟩, rfl⟩
      | false =>
        as_aux_lemma =>
        rw [hp] at HC
        go_wp2_with fail
        refine Calls.mono HC.out ?_
        rintro e w2 ⟨rfl, hw2⟩
        subst hw2
        have HB2 : Hid (∀ j y, j < k + 1 → M[j]? = some y → pf y = false) := fun j y hj hy => by
          by_cases e : j = k
          · rw [e, HX.out] at hy; rw [← Option.some.inj hy]; exact hp
          · exact HB.out j y (by omega) hy
        go_wp2_with fail
        go_roundw
        case rel => exact ⟨k + 1, by omega, by go_num, HB2.out, by trivial⟩
        case measure => simp [intOf]; omega
    · as_aux_lemma =>
      have hke : k = m := by omega
      have HB2 : Hid (∀ j y, j < m → M[j]? = some y → pf y = false) := fun j y hj hy => HB.out j y (by omega) hy
      clear hke
      go_wp2_with fail
      go_ret
      exact ⟨.inr ⟨rfl, HB2.out⟩, rfl⟩

set_option maxHeartbeats 4000000 in
set_option maxRecDepth 100000 in
theorem delete_pr (pf : Int → Bool) (bx g m cap B : Nat) (M : List Int) (w : World) (h : w.ownsRow B 3 1 (.slice (some ⟨g, 0, none⟩) m cap) m (rowZ M)) (hl : M.length ≤ 1000) (hm : M.length = m)
    (hf : ∀ W, w.grownBy W (some g) → ∀ x ∈ M, Calls Tryz.prog 39 #[.int .i64 x, .pointer (some ⟨bx, 0, none⟩)] W fun e w' => e = .returned (.bool (pf x)) ∧ w' = W) :
    Calls Tryz.prog 34 #[.slice (some ⟨g, 0, none⟩) m cap, .func (.func 39) #[] #[.pointer (some ⟨bx, 0, none⟩)]] w fun e w' => ∃ v', e = .returned v' ∧ w'.ownsRow B 3 1 v' (M.filter fun x => !pf x).length (rowZ (M.filter fun x => !pf x)) ∧ w.grownBy w' (some g) := by
  have hrefl : w.grownBy w (some g) := ⟨rfl, rfl, rfl, Nat.le_refl _, fun _ _ _ => rfl⟩
  have HO : Hid (w.ownsRow B 3 1 (.slice (some ⟨g, 0, none⟩) m cap) m (rowZ M) ∧ M.length = m) := ⟨h, hm⟩
  have HF : Hid (∀ W, w.grownBy W (some g) → ∀ x ∈ M, Calls Tryz.prog 39 #[.int .i64 x, .pointer (some ⟨bx, 0, none⟩)] W fun e w' => e = .returned (.bool (pf x)) ∧ w' = W) := hf
  have HI : Hid _ := index_pr pf bx g m cap B M w h hl hm (hf w hrefl)
  rw [hm] at hl
  clear h hm hf
  go_enter Tryz.func34, Tryz.ntmps34
  go_wp2_with fail
  refine Calls.mono HI.out ?_
  rintro e w1 ⟨⟨i, x, hi, rfl, hix, hpx, hno⟩ | ⟨rfl, hno⟩, hw1⟩
  · subst hw1
    have HD0 : Hid (Dz w1 w1 B g m cap i (i + 1) pf M M) := by
      refine ⟨HO.out.1, HO.out.2, ?_, rfl, by omega, by omega, hrefl⟩
      rw [take_fz _ hix]
      have : ((M.take i).filter fun x => !pf x) = M.take i := by
        rw [List.filter_eq_self]
        intro y hy
        obtain ⟨k, hk⟩ := List.getElem?_of_mem hy
        have hki := (List.getElem?_eq_some_iff.1 hk).1
        rw [List.length_take] at hki
        rw [List.getElem?_take_of_lt (by omega)] at hk
        rw [hno k y (by omega) hk]; rfl
      rw [this]; simp [hpx]
    have hne : ((i : Int) == -1) = false := beq_eq_false_iff_ne.2 (by omega)
    clear hix hpx hno HI hrefl
    go_wp2_with fail
    go_loopw [5, 6] (fun s5 s6 wq => ∃ (i j : Nat) (X : List Int), s5 = .int .i64 i ∧ s6 = .int .i64 j ∧ Dz w1 wq B g m cap i j pf M X) (fun _ s6 _ => m - (intOf s6).toNat)
    case atStart => exact ⟨i, i + 1, M, rfl, by go_num, HD0.out⟩
    case round =>
      clear HD0 hi hne
      obtain ⟨i, j, X, rfl, rfl, hdf⟩ := hrel
      have HD : Hid (Dz w1 wr B g m cap i j pf M X) := hdf
      have hij := hdf.hij
      have hjm := hdf.hjm
      clear hdf
      by_cases hlt : j < m
      · obtain ⟨hxj, x, hx⟩ := HD.out.at_ hlt HO.out.2
        rw [hx] at hxj
        have r0 := HD.out.cell hxj
        have HX : Hid (M[j]? = some x) := hx
        have HC : Hid _ := HF.out wr HD.out.kept x (List.mem_of_getElem? hx)
        clear hx hxj
        cases hp : pf x with
        | true =>
          as_aux_lemma =>
          rw [hp] at HC
          go_wp2_with fail
          refine Calls.mono HC.out ?_
          rintro e w2 ⟨rfl, hw2⟩
          subst hw2
          have HD2 : Hid (Dz w1 w2 B g m cap i (j + 1) pf M X) := HD.out.skip hlt HX.out hp
          go_wp2_with fail
          go_roundw
          case rel => exact ⟨i, j + 1, X, rfl, by go_num, HD2.out⟩
          case measure => simp [intOf]; omega
        | false =>
          as_aux_lemma =>
          rw [hp] at HC
          go_wp2_with fail
          refine Calls.mono HC.out ?_
          rintro e w2 ⟨rfl, hw2⟩
          subst hw2
          obtain ⟨y, hy⟩ : ∃ y, X[i]? = some y := ⟨_, List.getElem?_eq_getElem (by rw [HD.out.len]; omega)⟩
          have s0 := HD.out.cell hy
          have fz0 := HD.out.fz i
          have HD3 : Hid (Dz w1 (w2.setCell ⟨g, i, none⟩ (.int .i64 x)) B g m cap (i + 1) (j + 1) pf M (X.set i x)) := HD.out.store hlt HX.out hp
          clear hy
          go_wp2_with fail
          go_roundw
          case rel => exact ⟨i + 1, j + 1, _, by go_num, by go_num, HD3.out⟩
          case measure => simp [intOf]; omega
      · as_aux_lemma =>
        have hje : j = m := by omega
        subst hje
        obtain ⟨W2, hcl, hcap, hcm, ho2, hg2⟩ := HD.out.done HO.out.2
        have HFi : Hid (W2.ownsRow B 3 1 (.slice (some ⟨g, 0, none⟩) i cap) (M.filter fun x => !pf x).length (rowZ (M.filter fun x => !pf x)) ∧ w1.grownBy W2 (some g)) := ⟨ho2, hg2⟩
        simp only [maxLen] at hcm
        have hic : ¬ (cap = i) := by omega
        have hi1 : (i : Int) ≤ (j : Int) := by omega
        have hi2 : (i : Int) ≤ (cap : Int) := by omega
        have hi3 : (j : Int) ≤ (cap : Int) := by omega
        clear ho2 hg2 HD
        go_wp2_with fail
        go_ret
        exact ⟨_, rfl, HFi.out.1, HFi.out.2⟩
  · subst hw1
    as_aux_lemma =>
    have HFi : Hid (w1.ownsRow B 3 1 (.slice (some ⟨g, 0, none⟩) m cap) (M.filter fun x => !pf x).length (rowZ (M.filter fun x => !pf x)) ∧ w1.grownBy w1 (some g)) := by
      refine ⟨?_, hrefl⟩
      have : (M.filter fun x => !pf x) = M := by
        rw [List.filter_eq_self]
        intro y hy
        obtain ⟨k, hk⟩ := List.getElem?_of_mem hy
        have hki := (List.getElem?_eq_some_iff.1 hk).1
        rw [hno k y (by rw [← HO.out.2]; exact hki) hk]; rfl
      rw [this, HO.out.2]
      exact HO.out.1
    clear hno HI hrefl
    go_wp2_with fail
    go_ret
    exact ⟨_, rfl, HFi.out.1, HFi.out.2⟩

end Go.Proofs.YtigodbamphejmaaGreat.S
namespace Go.Proofs.YtigodbamphejmaaGreat.S
open Go.RowKit Go.WideMaps Go.Maps

/-- What all that asks a finished Cover needs. -/
structure Cx (w : World) (c mb rest : Nat) (S R : List Edg) (f : Edg → Nat) : Prop where
  co : Co w c mb rest S f
  mem : ∀ e, e ∈ S ↔ e ∈ R
  up : (R.map (·.1)).Pairwise (· < ·)
  wf : ∀ e ∈ R, (Lit.int .i64 e.1).wf = true
  len : R.length ≤ 60
  small : ∀ D N, w.ownsMap Tryz.prog 3 ringR mb N D → Rm D S f → w.ownsMap Tryz.prog 3 ringR mb 1000 D

theorem size_own {P : Program} {k : TypeId} {R : Value → Option (DataW Unit × List MemPlace)} {w : World} {b n N : Nat} {D : DataW Unit} (h : w.ownsMap P k R b n D) (hN : Maps.size D ≤ N) : w.ownsMap P k R b N D := by
  obtain ⟨es, clock, hb, F, hs, rfl⟩ := h
  refine ⟨es, clock, hb, F, ?_, rfl⟩
  simpa [Maps.size, length_sorted] using hN

theorem Cx.below {w w' : World} {c mb rest : Nat} {S R : List Edg} {f : Edg → Nat} (h : Cx w c mb rest S R f) (hb : Below w.heap.size w w') : Cx w' c mb rest S R f := by
  refine { h with co := h.co.below hb, small := fun D N ho hm => ?_ }
  obtain ⟨D0, N0, k1, k2⟩ := h.co.mp
  have k3 := h.small D0 N0 k1 k2
  have k4 := k3.kept (grown_below hb) (by simp : some mb ≠ none)
  obtain ⟨es, clock, hb1, F1, hs1, rfl⟩ := k4
  obtain ⟨es', clock', hb2, F2, hs2, rfl⟩ := ho
  rw [hb1] at hb2
  cases hb2
  exact ⟨es, clock, hb1, F2, hs1, rfl⟩

/-- The edges with these numbers, by their numbers. -/
theorem filter_ids (R : List Edg) (g : Edg → Bool) (pf : Int → Bool) (h : ∀ e ∈ R, pf e.1 = g e) : (R.map (·.1)).filter (fun x => !pf x) = (R.filter fun e => !g e).map (·.1) := by
  induction R with
  | nil => rfl
  | cons e R ih =>
    have h1 := h e (by simp)
    have h2 := ih (fun d hd => h d (by simp [hd]))
    simp only [List.map_cons, List.filter_cons, h1]
    cases hg : g e <;> simp [h2]

set_option maxHeartbeats 1000000 in
set_option maxRecDepth 100000 in
theorem delete_none_br (bx : Nat) (w : World) :
    Calls Tryz.prog 34 #[.slice none 0 0, .func (.func 36) #[] #[.pointer (some ⟨bx, 0, none⟩)]] w fun e w' => e = .returned (.slice none 0 0) ∧ w' = w := by
  have HI : Hid (Calls Tryz.prog 57 #[.slice none 0 0, .func (.func 36) #[] #[.pointer (some ⟨bx, 0, none⟩)]] w fun e w' => e = .returned (.int .i64 (-1)) ∧ w' = w) := by
    show Calls _ _ _ _ _
    go_enter Tryz.func57, Tryz.ntmps57
    go_wp2_with fail
    go_loopw [8] (fun s8 wq => s8 = .int .i64 0 ∧ wq = w) (fun _ _ => 0)
    case atStart => exact ⟨rfl, rfl⟩
    case round =>
      obtain ⟨rfl, rfl⟩ := hrel
      go_wp2_with fail
      go_ret
      exact ⟨rfl, rfl⟩
  go_enter Tryz.func34, Tryz.ntmps34
  go_wp2_with fail
  refine Calls.mono HI.out ?_
  rintro e w1 ⟨rfl, hw1⟩
  subst hw1
  go_wp2_with fail
  go_ret
  exact ⟨rfl, rfl⟩

set_option maxHeartbeats 1000000 in
set_option maxRecDepth 100000 in
theorem delete_none_pr (bx : Nat) (w : World) :
    Calls Tryz.prog 34 #[.slice none 0 0, .func (.func 39) #[] #[.pointer (some ⟨bx, 0, none⟩)]] w fun e w' => e = .returned (.slice none 0 0) ∧ w' = w := by
  have HI : Hid (Calls Tryz.prog 57 #[.slice none 0 0, .func (.func 39) #[] #[.pointer (some ⟨bx, 0, none⟩)]] w fun e w' => e = .returned (.int .i64 (-1)) ∧ w' = w) := by
    show Calls _ _ _ _ _
    go_enter Tryz.func57, Tryz.ntmps57
    go_wp2_with fail
    go_loopw [8] (fun s8 wq => s8 = .int .i64 0 ∧ wq = w) (fun _ _ => 0)
    case atStart => exact ⟨rfl, rfl⟩
    case round =>
      obtain ⟨rfl, rfl⟩ := hrel
      go_wp2_with fail
      go_ret
      exact ⟨rfl, rfl⟩
  go_enter Tryz.func34, Tryz.ntmps34
  go_wp2_with fail
  refine Calls.mono HI.out ?_
  rintro e w1 ⟨rfl, hw1⟩
  subst hw1
  go_wp2_with fail
  go_ret
  exact ⟨rfl, rfl⟩

/-- What is asked of a number, by its edge. -/
def pfOf (R : List Edg) (g : Edg → Bool) (x : Int) : Bool := R.any fun e => e.1 == x && g e

theorem ids_one {R : List Edg} (h : (R.map (·.1)).Pairwise (· < ·)) : ∀ d ∈ R, ∀ e ∈ R, d.1 = e.1 → d = e := by
  induction R with
  | nil => intro d hd; simp at hd
  | cons a R ih =>
    rw [List.map_cons, List.pairwise_cons] at h
    intro d hd e he hde
    rcases List.mem_cons.1 hd with rfl | hd'
    · rcases List.mem_cons.1 he with rfl | he'
      · rfl
      · have := h.1 e.1 (List.mem_map.2 ⟨e, he', rfl⟩); omega
    · rcases List.mem_cons.1 he with rfl | he'
      · have := h.1 d.1 (List.mem_map.2 ⟨d, hd', rfl⟩); omega
      · exact ih h.2 d hd' e he' hde

theorem pfOf_at {R : List Edg} (h : (R.map (·.1)).Pairwise (· < ·)) (g : Edg → Bool) {e : Edg} (he : e ∈ R) : pfOf R g e.1 = g e := by
  unfold pfOf
  cases hg : g e with
  | true =>
    rw [List.any_eq_true]
    exact ⟨e, he, by simp [hg]⟩
  | false =>
    rw [List.any_eq_false]
    intro d hd k
    simp only [Bool.and_eq_true, beq_iff_eq] at k
    rw [ids_one h d hd e he k.1, hg] at k
    cases k.2

theorem rowZ_ids (R : List Edg) : rowZ (R.map (·.1)) = idV R := by simp [rowZ, idV]

theorem row_mono {w : World} {B B' e s n : Nat} {v : Value} {xs : List Value} (h : w.ownsRow B e s v n xs) (hB : B' ≤ B) : w.ownsRow B' e s v n xs := by
  refine ⟨h.1, ?_⟩
  rcases h.2 with hh | ⟨g, cap, cur, h1, h2, h3, h4⟩
  · exact Or.inl hh
  · exact Or.inr ⟨g, cap, cur, h1, by omega, h3, h4⟩

set_option maxHeartbeats 1000000 in
set_option maxRecDepth 100000 in
theorem cbridges_any (c mb rest : Nat) (S R : List Edg) (f : Edg → Nat) (w : World) (h : Cx w c mb rest S R f) :
    Calls Tryz.prog 13 #[.pointer (some ⟨c, 0, none⟩)] w fun e w' => ∃ v, e = .returned v ∧ w'.ownsRow w.heap.size 3 1 v (R.filter fun e => decide (f e = 0)).length (idV (R.filter fun e => decide (f e = 0))) ∧ Below w.heap.size w w' := by
  have hb1 : Below w.heap.size w (w.alloc (.cells #[.pointer (some ⟨c, 0, none⟩)] 26)) := (Below.refl _ _).alloc (Nat.le_refl _) _
  have HX : Hid (Cx w c mb rest S R f ∧ Cb (w.alloc (.cells #[.pointer (some ⟨c, 0, none⟩)] 26)) w.heap.size c mb rest S f ∧ Cx (w.alloc (.cells #[.pointer (some ⟨c, 0, none⟩)] 26)) c mb rest S R f) := ⟨h, ⟨heap_alloc_new w _, h.co.below hb1⟩, h.below hb1⟩
  have HI : Hid _ := cids_any c mb rest S R f (w.alloc (.cells #[.pointer (some ⟨c, 0, none⟩)] 26)) HX.out.2.2.co h.mem h.up HX.out.2.2.small
  have hmf' := hmf
  clear h hb1
  go_enter Tryz.func13, Tryz.ntmps13
  go_wp2_with fail
  refine Calls.mono HI.out ?_
  rintro e w2 ⟨v2, rfl, hrow2, hb2⟩
  have HW : Hid (w2.ownsRow (w.heap.size + 1) 3 1 v2 R.length (idV R) ∧ Below (w.alloc (.cells #[.pointer (some ⟨c, 0, none⟩)] 26)).heap.size (w.alloc (.cells #[.pointer (some ⟨c, 0, none⟩)] 26)) w2) := ⟨by simpa using hrow2, hb2⟩
  have HD : Hid (Calls Tryz.prog 34 #[v2, .func (.func 36) #[] #[.pointer (some ⟨w.heap.size, 0, none⟩)]] w2 fun e w' => ∃ v, e = .returned v ∧ w'.ownsRow w.heap.size 3 1 v (R.filter fun e => decide (f e = 0)).length (idV (R.filter fun e => decide (f e = 0))) ∧ Below w.heap.size w w') := by
    have HB2 : Below w.heap.size w w2 := ((Below.refl _ _).alloc (Nat.le_refl _) _).trans (HW.out.2.mono (by simp))
    rcases HW.out.1.2 with ⟨hv, hz⟩ | ⟨g, cap, cur, hv, hbg, _⟩
    · subst hv
      have hR : R = [] := List.eq_nil_of_length_eq_zero hz
      refine (delete_none_br w.heap.size w2).mono ?_
      rintro e w' ⟨rfl, hw'⟩
      subst hw'
      refine ⟨_, rfl, ?_, HB2⟩
      rw [hR]
      exact World.ownsRow_nil _ _ _ _
    · subst hv
      have hbw := HX.out.2.1
      obtain ⟨u, hu⟩ := hbw.co.st
      obtain ⟨D0, N0, k1, k2⟩ := hbw.co.mp
      have hlb := lt_of_some hbw.bx
      have hlc := lt_of_some hu
      have hlm := k1.lt
      simp at hlb hlc hlm
      have hrw : w2.ownsRow (w.heap.size + 1) 3 1 (.slice (some ⟨g, 0, none⟩) R.length cap) R.length (rowZ (R.map (·.1))) := by rw [rowZ_ids]; exact HW.out.1
      refine (delete_br (pfOf R fun e => decide (f e ≠ 0)) w.heap.size g R.length cap (w.heap.size + 1) (R.map (·.1)) w2 hrw (by rw [List.length_map]; have := HX.out.1.len; omega) (by simp) (fun W hW x hx => ?_)).mono ?_
      · obtain ⟨e, he, rfl⟩ := List.mem_map.1 hx
        rw [pfOf_at HX.out.1.up _ he]
        have hcb : Cb W w.heap.size c mb rest S f := (HX.out.2.1.below HW.out.2).grown hW (by omega) (by omega) (by omega)
        exact br1_any w.heap.size c mb rest S f e W hcb ((HX.out.1.mem e).2 he) (HX.out.1.wf e he)
      · rintro e w' ⟨v', rfl, hrow', hg'⟩
        refine ⟨v', rfl, ?_, ?_⟩
        · rw [filter_ids R (fun e => decide (f e ≠ 0)) _ (fun e he => pfOf_at HX.out.1.up _ he), rowZ_ids, List.length_map] at hrow'
          have e1 : (R.filter fun e => !decide (f e ≠ 0)) = R.filter fun e => decide (f e = 0) := by
            apply List.filter_congr
            intro e _
            by_cases h0 : f e = 0 <;> simp [h0]
          rw [e1] at hrow'
          exact row_mono hrow' (by omega)
        · exact HB2.grown hg' HB2.size (fun j hj => by injection hj with hj; omega)
  clear hrow2 hb2
  go_wp2_with fail
  refine Calls.mono HD.out ?_
  rintro e w3 ⟨v3, rfl, hrow3, hb3⟩
  have HF : Hid (w3.ownsRow w.heap.size 3 1 v3 (R.filter fun e => decide (f e = 0)).length (idV (R.filter fun e => decide (f e = 0))) ∧ Below w.heap.size w w3) := ⟨hrow3, hb3⟩
  clear hrow3 hb3
  go_wp2_with fail
  go_ret
  exact ⟨_, rfl, HF.out.1, HF.out.2⟩

end Go.Proofs.YtigodbamphejmaaGreat.S
