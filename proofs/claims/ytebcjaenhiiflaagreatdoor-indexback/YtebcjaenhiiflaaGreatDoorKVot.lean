/- Package cycle: Rest, Covered, Alike. -/
import Derived.Test.YtebcjaenhiiflaaGreatDoorKVal
import Derived.Test.YtebcjaenhiiflaaGreatDoorKef
namespace Go.Proofs.YtebcjaenhiiflaaGreatDoor.S
open Go.RowKit Go.WideMaps Go.Maps

theorem zero208 (w : World) : (zeroValue 208).run Tryz.prog w = .ok (ringV 0) w := by kernel_rfl

theorem ring_back {v : Value} {x : Nat} {ps : List MemPlace} (h : ringR v = some (ringD x, ps)) : v = ringV x := by
  obtain ⟨c, rfl, hy⟩ := ringR_inv h
  have h1 := congrArg Prod.fst hy
  simp [ringD] at h1
  obtain ⟨h2, h3⟩ := h1
  rw [← h2, ← h3]
  rfl

/-- The Cover value, made: what is read of it. -/
structure Co (w : World) (c mb rest : Nat) (S : List Edg) (f : Edg → Nat) : Prop where
  st : ∃ v, w.heap[c]? = some (.cells #[.int .i64 (rest : Int), .map (some mb), v] 206)
  mp : ∃ D N, w.ownsMap Tryz.prog 3 ringR mb N D ∧ Rm D S f

theorem Cv.co {w0 w : World} {c mb rest : Nat} {S : List Edg} {f : Edg → Nat} (h : Cv w0 w c mb rest S f) : Co w c mb rest S f := by
  obtain ⟨D, N, h1, h2, _⟩ := h.mp
  exact ⟨h.st, D, N, h1, h2⟩

section
variable {w w' : World} {c mb rest : Nat} {S : List Edg} {f : Edg → Nat}
theorem Co.below (h : Co w c mb rest S f) (hb : Below w.heap.size w w') : Co w' c mb rest S f := by
  obtain ⟨v, hv⟩ := h.st
  obtain ⟨D, N, h1, h2⟩ := h.mp
  exact ⟨⟨v, (hb.block c (lt_of_some hv)).trans hv⟩, D, N, h1.kept (grown_below hb) (by simp), h2⟩

theorem Co.cell0 (h : Co w c mb rest S f) : w.cell? ⟨c, 0, none⟩ = some (.int .i64 (rest : Int)) := by
  obtain ⟨v, hv⟩ := h.st
  simp [World.cell?, hv]
theorem Co.cell1 (h : Co w c mb rest S f) : w.cell? ⟨c, 1, none⟩ = some (.map (some mb)) := by
  obtain ⟨v, hv⟩ := h.st
  simp [World.cell?, hv]

theorem Co.look_in (h : Co w c mb rest S f) {e : Edg} (he : e ∈ S) (hw : (Lit.int .i64 e.1).wf = true) :
    (Instr.lookup 204 (.map (some mb)) (.int .i64 e.1) true).run Tryz.prog w = .ok (.tuple #[ringV (f e), .bool true]) w ∧ (Instr.lookup 204 (.map (some mb)) (.int .i64 e.1) false).run Tryz.prog w = .ok (ringV (f e)) w := by
  obtain ⟨D, N, h1, h2⟩ := h.mp
  have hh : Maps.has D (.int .i64 e.1) = true := (h2.key _).2 ⟨e, he, rfl⟩
  obtain ⟨v, ps, r1, r2⟩ := h1.look_ok law3 Tryz.underlying204 (zero208 w) (ringR_mk 0) (key3 e.1 hw)
  obtain ⟨v', ps', q1, q2⟩ := h1.lookup law3 Tryz.underlying204 (zero208 w) (ringR_mk 0) (key3 e.1 hw)
  rw [h2.val e he] at r2 q2
  rw [r1, q1, hh, ring_back r2, ring_back q2]
  exact ⟨rfl, rfl⟩

theorem Co.look_out (h : Co w c mb rest S f) {x : Int} (hx : ∀ e ∈ S, e.1 ≠ x) (hw : (Lit.int .i64 x).wf = true) :
    (Instr.lookup 204 (.map (some mb)) (.int .i64 x) true).run Tryz.prog w = .ok (.tuple #[ringV 0, .bool false]) w := by
  obtain ⟨D, N, h1, h2⟩ := h.mp
  have hh : Maps.has D (.int .i64 x) = false := by
    rw [Bool.eq_false_iff]
    intro k
    obtain ⟨e, he, h3⟩ := (h2.key _).1 k
    injection h3 with _ h3
    exact hx e he h3.symm
  obtain ⟨v, ps, r1, r2⟩ := h1.look_ok law3 Tryz.underlying204 (zero208 w) (ringR_mk 0) (key3 x hw)
  rw [atKey_of_not_has hh] at r2
  rw [r1, hh, ring_back r2]
end

set_option maxRecDepth 100000 in
theorem eq101 (a b c d : Int) (w : World) : (Op.equalIn 10000 208 (.agg #[.int .u64 a, .int .u64 b]) (.agg #[.int .u64 c, .int .u64 d])).run Tryz.prog w = .ok (a == c && b == d) w := by
  have u3 := Tryz.underlying132
  have a3 := Tryz.isAgg132
  have z3 := Tryz.sizeOf132
  rw [show (10000 : Nat) = 9999 + 1 from rfl, Op.equalIn]
  simp only [Sem.run_bind, run_underlying Tryz.underlying208, Result.andThen_ok]
  simp only [Std.Legacy.Range.forIn_eq_forIn_range', Std.Legacy.Range.size, Nat.sub_zero, Nat.add_sub_cancel, Nat.div_one, List.range'_succ, List.range'_zero, List.forIn_cons, List.forIn_nil]
  go_simp
  by_cases h1 : a = c <;> by_cases h2 : b = d <;> simp [h1, h2]

end Go.Proofs.YtebcjaenhiiflaaGreatDoor.S
namespace Go.Proofs
open Go.Shelf
def Tryz.keysR_ren : Go.Shelf.Ren := ⟨fun | 7 => 261 | 10 => 326 | n => n, fun | 23 => 204 | 26 => 3 | 3 => 208 | 28 => 193 | 0 => 0 | 27 => 192 | 33 => 173 | 4 => 4 | n => n, fun | n => n⟩
theorem Tryz.keysR : Go.Proofs.SlLaysZI.n7 Tryz.prog Tryz.keysR_ren := {
  mixed := by kernel_rfl
  f7 := ⟨Tryz.f261.name, by decide, Tryz.func261.trans (congrArg some (by kernel_rfl))⟩
  f10 := ⟨Tryz.f326.name, by decide, Tryz.func326.trans (congrArg some (by kernel_rfl))⟩
  t0 := Tryz.underlying0
  a0 := Tryz.isAgg0
  z0 := Tryz.sizeOf0
  v0 := Tryz.zeroValue0
  t4 := Tryz.underlying4
  a4 := Tryz.isAgg4
  z4 := Tryz.sizeOf4
  v4 := Tryz.zeroValue4
  t23 := Tryz.underlying204
  a23 := Tryz.isAgg204
  z23 := Tryz.sizeOf204
  v23 := Tryz.zeroValue204
  t26 := Tryz.underlying3
  a26 := Tryz.isAgg3
  z26 := Tryz.sizeOf3
  v26 := Tryz.zeroValue3
  t27 := Tryz.underlying192
  a27 := Tryz.isAgg192
  z27 := Tryz.sizeOf192
  v27 := Tryz.zeroValue192
  t28 := Tryz.underlying193
  a28 := Tryz.isAgg193
  z28 := Tryz.sizeOf193
  v28 := Tryz.zeroValue193
  t33 := Tryz.underlying173
  a33 := Tryz.isAgg173
  z33 := Tryz.sizeOf173
  v33 := Tryz.zeroValue173 }
end Go.Proofs

namespace Go.Proofs.YtebcjaenhiiflaaGreatDoor.S
open Go.RowKit Go.WideMaps Go.Maps Go.Shelf

theorem keysR_any (mb : Option Nat) (W : World) : Calls Tryz.prog 261 #[.map mb] W fun e w' => e = .returned (.func (.func 326) #[] #[.pointer (some ⟨W.heap.size, 0, none⟩)]) ∧ w' = W.alloc (.cells #[.map mb] 204) :=
  (callsIn_wide (n := 5)).1 (AnyZI.keys_in Tryz.keysR Fence.wide 5 trivial rfl mb W)

set_option maxHeartbeats 1000000 in
theorem keysR_sorted (R : Value → Option (DataW Unit × List MemPlace)) (m N : Nat) (D : DataW Unit) (w : World) (hown : w.ownsMap Tryz.prog 3 R m N D) (hN : N ≤ 1000) :
    Calls Tryz.prog 133 #[.func (.func 326) #[] #[.pointer (some ⟨w.heap.size, 0, none⟩)]] (w.alloc (.cells #[.map (some m)] 204)) fun e w' => ∃ (v : Value) (ss : List Int), e = .returned v ∧ ss.Perm (intKeys D) ∧
      w'.ownsRow w.heap.size 3 1 v ss.length ((ss.mergeSort (fun x y => decide (x ≤ y))).map encZ) ∧ Below w.heap.size w w' := by
  have hmax : Maps.size D ≤ maxLen := Nat.le_trans hown.size_le (by unfold maxLen; omega)
  have hbytes : Maps.size D * 8 ≤ 140737488355328 := by have := hown.size_le; omega
  have hbl := hown.lt
  have hseq : SeqGives Fence.wide 2 Tryz.prog 326 #[.pointer (some ⟨w.heap.size, 0, none⟩)] encZ (fun ss => ss.Perm (intKeys D)) (Maps.size D) (w.alloc (.cells #[.map (some m)] 204)) :=
    AnyZI.keys_gives (ρ := Tryz.keysR_ren) { Tryz.keysR with } Fence.wide _ trivial rfl (by omega) w.heap.size m N D _ (by simp) (by simp) (by
      obtain ⟨es, clock, hb, Ft, hs, hD⟩ := hown
      exact ⟨es, clock, (Below.heap_alloc _ _ m hbl).trans hb, Ft, hs, hD⟩)
  have cS := AnyZI.sorted_in Tryz.sortedA Fence.wide 5 trivial trivial trivial trivial rfl (by omega) (sortsA _) (enters_of Tryz.func243 (by kernel_rfl) rfl) 326 #[.pointer (some ⟨w.heap.size, 0, none⟩)] trivial (enters_of Tryz.func326 (by kernel_rfl) rfl) _ _ hmax hbytes _ hseq
  change CallsIn _ _ Tryz.prog 133 _ _ _ at cS
  refine (callsIn_wide.1 cS).mono ?_
  rintro e w' ⟨v, ss, rfl, hS, hrow, hnil, hb⟩
  exact ⟨v, ss, rfl, hS, ownsRow_base_a hrow (by simp), ((Below.refl _ w).alloc (Nat.le_refl _) _).trans (hb.mono (by simp))⟩


/-- The numbers of edges, as values. -/
def idV (R : List Edg) : List Value := R.map fun e => .int .i64 e.1

set_option maxHeartbeats 1000000 in
theorem cids_any (c mb rest : Nat) (S R : List Edg) (f : Edg → Nat) (w : World) (h : Co w c mb rest S f) (hS : ∀ e, e ∈ S ↔ e ∈ R) (hR : (R.map (·.1)).Pairwise (· < ·)) (hl : ∀ D N, w.ownsMap Tryz.prog 3 ringR mb N D → Rm D S f → w.ownsMap Tryz.prog 3 ringR mb 1000 D) :
    Calls Tryz.prog 145 #[.pointer (some ⟨c, 0, none⟩)] w fun e w' => ∃ v, e = .returned v ∧ w'.ownsRow w.heap.size 3 1 v R.length (idV R) ∧ Below w.heap.size w w' := by
  have h1 := h.cell1
  obtain ⟨D, N, ho, hm⟩ := h.mp
  have ho' := hl D N ho hm
  have hk : ∀ x : Int, Maps.has D (.int .i64 x) = true ↔ x ∈ R.map (·.1) := fun x => by
    rw [hm.key, List.mem_map]
    constructor
    · rintro ⟨e, he, h2⟩; injection h2 with _ h2; exact ⟨e, (hS e).1 he, h2.symm⟩
    · rintro ⟨e, he, rfl⟩; exact ⟨e, (hS e).2 he, rfl⟩
  have HS : Hid _ := keysR_sorted ringR mb 1000 D w ho' (Nat.le_refl _)
  have HK : Hid (∀ ss : List Int, ss.Perm (intKeys D) → (ss.mergeSort fun x y => decide (x ≤ y)) = R.map (·.1) ∧ ss.length = (R.map (·.1)).length) := fun ss hp => keys_up ho' hR hk hp
  clear h ho ho' hm hl hk hR hS
  go_enter Tryz.func145, Tryz.ntmps145
  go_wp2_with fail
  refine (keysR_any (some mb) w).mono ?_
  rintro e w1 ⟨rfl, hw1⟩
  subst hw1
  go_wp2_with fail
  refine Calls.mono HS.out ?_
  rintro e w2 ⟨v, ss, rfl, hp, hrow, hb⟩
  have HF : Hid (w2.ownsRow w.heap.size 3 1 v R.length (idV R) ∧ Below w.heap.size w w2) := by
    refine ⟨?_, hb⟩
    obtain ⟨h3, h4⟩ := HK.out ss hp
    rw [h3, h4, List.length_map, List.map_map] at hrow
    exact hrow
  clear hp hrow hb
  go_wp2_with fail
  go_ret
  exact ⟨_, rfl, HF.out.1, HF.out.2⟩

end Go.Proofs.YtebcjaenhiiflaaGreatDoor.S
namespace Go.Proofs.YtebcjaenhiiflaaGreatDoor.S
open Go.RowKit Go.WideMaps Go.Maps

/-- The box of the Cover. -/
structure Cb (w : World) (bx c mb rest : Nat) (S : List Edg) (f : Edg → Nat) : Prop where
  bx : w.heap[bx]? = some (.cells #[.pointer (some ⟨c, 0, none⟩)] 106)
  co : Co w c mb rest S f

def rowZ (K : List Int) : List Value := K.map fun x => .int .i64 x
theorem rowZ_length (K : List Int) : (rowZ K).length = K.length * 1 := by simp [rowZ]

section
variable {w w' : World} {bx c mb rest g : Nat} {S : List Edg} {f : Edg → Nat}
theorem Cb.below (h : Cb w bx c mb rest S f) (hb : Below w.heap.size w w') : Cb w' bx c mb rest S f := ⟨(hb.block bx (lt_of_some h.bx)).trans h.bx, h.co.below hb⟩
theorem Cb.grown (h : Cb w bx c mb rest S f) (hg : w.grownBy w' (some g)) (h1 : bx ≠ g) (h2 : c ≠ g) (h3 : mb ≠ g) : Cb w' bx c mb rest S f := by
  obtain ⟨v, hv⟩ := h.co.st
  obtain ⟨D, N, k1, k2⟩ := h.co.mp
  exact ⟨(hg.block bx (lt_of_some h.bx) (by simp; exact h1)).trans h.bx, ⟨v, (hg.block c (lt_of_some hv) (by simp; exact h2)).trans hv⟩, D, N, k1.kept hg (by simp; exact h3), k2⟩
end

theorem build101 (w : World) : (Instr.build 208 #[]).run Tryz.prog w = .ok (.agg #[.int .u64 0, .int .u64 0]) w := by kernel_rfl

set_option maxHeartbeats 1000000 in
set_option maxRecDepth 100000 in
theorem pr1_any (bx c mb rest : Nat) (S : List Edg) (f : Edg → Nat) (e : Edg) (w : World) (h : Cb w bx c mb rest S f) (he : e ∈ S) (hw : (Lit.int .i64 e.1).wf = true) :
    Calls Tryz.prog 146 #[.int .i64 e.1, .pointer (some ⟨bx, 0, none⟩)] w fun en w' => en = .returned (.bool (decide (f e = 0))) ∧ w' = w := by
  have h0 : w.cell? ⟨bx, 0, none⟩ = some (.pointer (some ⟨c, 0, none⟩)) := by simp [World.cell?, h.bx]
  have h1 := h.co.cell1
  have lk := (h.co.look_in he hw).2
  unfold ringV at lk
  have hbd := build101
  have heq := eq101
  obtain ⟨x, hx⟩ : ∃ x, f e = x := ⟨_, rfl⟩
  rw [hx] at lk ⊢
  obtain ⟨X, hX⟩ : ∃ X, e.1 = X := ⟨_, rfl⟩
  rw [hX] at lk ⊢
  clear h he hw hx hX
  by_cases hx0 : x = 0
  · subst hx0
    have hb : (((0 : Nat) : Int) == 0) = true := rfl
    go_enter Tryz.func146, Tryz.ntmps146
    go_wp2_with fail
    go_ret
    exact ⟨by simp, rfl⟩
  · have hb : ((x : Int) == 0) = false := beq_eq_false_iff_ne.2 (by omega)
    go_enter Tryz.func146, Tryz.ntmps146
    go_wp2_with fail
    go_ret
    exact ⟨by simp [hx0], rfl⟩

/-- What DeleteFunc has in its row: i are kept of the first j. -/
structure Dz (w0 w : World) (B g m cap i j : Nat) (pf : Int → Bool) (M X : List Int) : Prop where
  own : w.ownsRow B 3 1 (.slice (some ⟨g, 0, none⟩) m cap) m (rowZ X)
  len : X.length = m
  fst : X.take i = (M.take j).filter fun x => !pf x
  snd : X.drop j = M.drop j
  hij : i < j
  hjm : j ≤ m
  kept : w0.grownBy w (some g)

theorem take_fz {L : List Int} {k : Nat} {x : Int} (pf : Int → Bool) (h : L[k]? = some x) : (L.take (k + 1)).filter pf = (L.take k).filter pf ++ (if pf x then [x] else []) := by
  obtain ⟨hlt, he⟩ := List.getElem?_eq_some_iff.1 h
  rw [List.take_succ_eq_append_getElem hlt, List.filter_append, he]
  congr 1
  cases hp : pf x <;> simp [hp]

section
variable {w0 w w' : World} {B g m cap i j : Nat} {x : Int} {pf : Int → Bool} {M X : List Int}
theorem Dz.at_ (h : Dz w0 w B g m cap i j pf M X) (hj : j < m) (hm : M.length = m) : X[j]? = M[j]? ∧ ∃ x, M[j]? = some x := by
  refine ⟨?_, _, List.getElem?_eq_getElem (by omega)⟩
  have := congrArg (fun l => l[0]?) h.snd
  simpa using this

theorem Dz.cell (h : Dz w0 w B g m cap i j pf M X) {k : Nat} (hk : X[k]? = some x) : w.cell? ⟨g, k, none⟩ = some (.int .i64 x) := by
  have hkl := (List.getElem?_eq_some_iff.1 hk).1
  have hlen := h.len
  rw [h.own.cellAt k (by omega)]
  simp [rowZ, hk]

theorem Dz.fz (h : Dz w0 w B g m cap i j pf M X) (k : Nat) : w.frozen? ⟨g, k, none⟩ = false := by
  rcases h.own.2 with ⟨h1, _⟩ | ⟨g', cap', cur, h1, _, h3, _⟩
  · cases h1
  · injection h1 with h1 _ _
    injection h1 with h1
    injection h1 with h1 _ _
    subst h1
    simp [World.frozen?, h3]

theorem Dz.skip (h : Dz w0 w B g m cap i j pf M X) (hj : j < m) (hx : M[j]? = some x) (hp : pf x = true) : Dz w0 w B g m cap i (j + 1) pf M X := by
  refine { h with fst := ?_, snd := ?_, hij := by have := h.hij; omega, hjm := by omega }
  · rw [h.fst, take_fz _ hx]; simp [hp]
  · have := congrArg (List.drop 1) h.snd
    simpa [List.drop_drop, Nat.add_comm] using this

theorem Dz.store (h : Dz w0 w B g m cap i j pf M X) (hj : j < m) (hx : M[j]? = some x) (hp : pf x = false) : Dz w0 (w.setCell ⟨g, i, none⟩ (.int .i64 x)) B g m cap (i + 1) (j + 1) pf M (X.set i x) := by
  have hij := h.hij
  have hlen := h.len
  have hset : w.grownBy (w.setCell ⟨g, i, none⟩ (.int .i64 x)) (some g) := ⟨rfl, rfl, rfl, by simp, fun k _ hn => Below.heap_setCell _ _ _ _ (fun e => hn (by rw [e]))⟩
  refine ⟨?_, by simpa using hlen, ?_, ?_, by omega, by omega, ⟨hset.os.trans h.kept.os, hset.tape.trans h.kept.tape, hset.output.trans h.kept.output, Nat.le_trans h.kept.size hset.size, fun k hk hn => (hset.block k (Nat.lt_of_lt_of_le hk h.kept.size) hn).trans (h.kept.block k hk hn)⟩⟩
  · rcases h.own.2 with ⟨h1, _⟩ | ⟨g', cap', cur, h1, h2, h3, h4, h5, h6, h7⟩
    · cases h1
    · injection h1 with h1a h1b h1c
      injection h1a with h1a
      injection h1a with h1a _ _
      subst h1a
      subst h1c
      refine ⟨by simp [rowZ, hlen], Or.inr ⟨g, cap, cur.setIfInBounds i (.int .i64 x), rfl, h2, ?_, h4, h5, by simpa using h6, ?_⟩⟩
      · simp only [World.setCell, Array.getElem?_modify, h3]
        simp
      · have e1 : rowZ (X.set i x) = (rowZ X).set i (.int .i64 x) := by simp [rowZ, List.map_set]
        rw [e1, ← h7]
        simp [List.take_set]
  · rw [take_fz _ hx, ← h.fst]
    have hi : i < X.length := by omega
    rw [if_pos (by simp [hp]), List.take_succ_eq_append_getElem (by simpa using hi)]
    congr 1
    · rw [List.take_set_of_le (Nat.le_refl _)]
    · simp
  · have := congrArg (List.drop 1) h.snd
    rw [List.drop_set_of_lt (by omega)]
    simpa [List.drop_drop, Nat.add_comm] using this

theorem zeroZ_one (n : Nat) : ∀ u ∈ (Builtin.zeroCells (Value.int .i64 0).cells n).toList, u.oneCell' = true := by
  intro u hu
  have hc : (Value.int .i64 0).cells = #[.int .i64 0] := rfl
  rw [hc] at hu
  simp only [Builtin.zeroCells, Array.toList_map, List.mem_map] at hu
  obtain ⟨a, _, rfl⟩ := hu
  have : a % 1 = 0 := Nat.mod_one a
  show (#[Value.int .i64 0][a % 1]!).oneCell' = true
  rw [this]; rfl
theorem zeroZ_length (n : Nat) : (Builtin.zeroCells (Value.int .i64 0).cells n).toList.length = n := by
  have hc : (Value.int .i64 0).cells = #[.int .i64 0] := rfl
  rw [hc]
  simp [Builtin.zeroCells]

theorem Dz.done (h : Dz w0 w B g m cap i m pf M X) (hm : M.length = m) : ∃ W2, (∀ ty sc, (Builtin.clear_ #[48] ty #[.slice (some ⟨g, i, none⟩) (m - i) sc]).run Tryz.prog w = .ok (.tuple #[]) W2) ∧ m ≤ cap ∧ cap ≤ maxLen ∧ W2.ownsRow B 3 1 (.slice (some ⟨g, 0, none⟩) i cap) (M.filter fun x => !pf x).length (rowZ (M.filter fun x => !pf x)) ∧ w0.grownBy W2 (some g) := by
  have hij := h.hij
  have hlen := h.len
  rcases h.own.2 with ⟨h1, _⟩ | ⟨g', cap', cur, h1, h2, h3, h4, h5, h6, h7⟩
  · cases h1
  · injection h1 with h1a h1b h1c
    injection h1a with h1a
    injection h1a with h1a _ _
    subst h1a
    subst h1c
    have hfst := h.fst
    rw [← hm, List.take_length] at hfst
    have hcl : cur.toList.length = cap := by simpa using h6
    have hzl := zeroZ_length (m - i)
    refine ⟨w.setRow g (splice cur.toList i (Builtin.zeroCells (Value.int .i64 0).cells (m - i)).toList).toArray, fun ty sc => run_clear_rows w 48 3 ty (.int .i64 0) Tryz.underlying48 zero3 g i (m - i) sc (by omega) cur.toList 3 (by simpa using h3) (by rw [hzl, hcl]; omega) (zeroZ_one _), by omega, h5, ?_, ?_⟩
    · rw [← hfst]
      have hl2 : (X.take i).length = i := by rw [List.length_take]; omega
      refine ⟨by simp [rowZ], Or.inr ⟨g, cap, _, by rw [hl2], h2, setRow_heap w g cur _ 3 (0, 0) h3, by rw [hl2]; omega, h5, ?_, ?_⟩⟩
      · rw [List.size_toArray, length_splice _ _ _ (by rw [hzl, hcl]; omega), hcl]; omega
      · rw [hl2]
        show (splice _ _ _).take _ = _
        have h8 : (cur.toList.take i).length = i := by rw [List.length_take, hcl]; omega
        unfold splice
        rw [Nat.mul_one, List.take_append_of_le_length (by omega), List.take_of_length_le (by omega)]
        have h9 := congrArg (List.take i) h7
        rw [List.take_take, show min i (m * 1) = i by omega] at h9
        rw [h9]
        simp [rowZ, List.map_take]
    · exact ⟨h.kept.os, h.kept.tape, h.kept.output, Nat.le_trans h.kept.size (by simp), fun k hk hn => (setRow_other w g k _ (fun e => hn (by rw [e]))).trans (h.kept.block k hk hn)⟩
end

set_option maxHeartbeats 2000000 in
set_option maxRecDepth 100000 in
theorem index_pr (pf : Int → Bool) (bx g m cap B : Nat) (M : List Int) (w : World) (h : w.ownsRow B 3 1 (.slice (some ⟨g, 0, none⟩) m cap) m (rowZ M)) (hl : M.length ≤ 1000) (hm : M.length = m)
    (hf : ∀ x ∈ M, Calls Tryz.prog 146 #[.int .i64 x, .pointer (some ⟨bx, 0, none⟩)] w fun e w' => e = .returned (.bool (pf x)) ∧ w' = w) :
    Calls Tryz.prog 260 #[.slice (some ⟨g, 0, none⟩) m cap, .func (.func 146) #[] #[.pointer (some ⟨bx, 0, none⟩)]] w fun e w' => ((∃ i x, i < m ∧ e = .returned (.int .i64 (i : Int)) ∧ M[i]? = some x ∧ pf x = true ∧ ∀ j y, j < i → M[j]? = some y → pf y = false) ∨ (e = .returned (.int .i64 (-1)) ∧ ∀ j y, j < m → M[j]? = some y → pf y = false)) ∧ w' = w := by
  have HO : Hid (w.ownsRow B 3 1 (.slice (some ⟨g, 0, none⟩) m cap) m (rowZ M) ∧ M.length = m) := ⟨h, hm⟩
  have HF : Hid (∀ x ∈ M, Calls Tryz.prog 146 #[.int .i64 x, .pointer (some ⟨bx, 0, none⟩)] w fun e w' => e = .returned (.bool (pf x)) ∧ w' = w) := hf
  rw [hm] at hl
  clear h hm hf
  go_enter Tryz.func260, Tryz.ntmps260
  go_wp2_with fail
  go_loopw [8] (fun s8 wq => ∃ k : Nat, k ≤ m ∧ s8 = .int .i64 k ∧ (∀ j y, j < k → M[j]? = some y → pf y = false) ∧ wq = w) (fun s8 _ => m - (intOf s8).toNat)
  case atStart => exact ⟨0, Nat.zero_le _, rfl, fun j y hj => by omega, rfl⟩
  case round =>
    obtain ⟨k, hk, rfl, hno, rfl⟩ := hrel
    have HB : Hid (∀ j y, j < k → M[j]? = some y → pf y = false) := hno
    clear hno
    by_cases hlt : k < m
    · obtain ⟨x, hx⟩ : ∃ x, M[k]? = some x := ⟨_, List.getElem?_eq_getElem (by rw [HO.out.2]; exact hlt)⟩
      have r0 : wr.cell? ⟨g, k, none⟩ = some (.int .i64 x) := by
        rw [HO.out.1.cellAt k (by omega)]
        simp [rowZ, hx]
      have HX : Hid (M[k]? = some x) := hx
      have HC : Hid _ := HF.out x (List.mem_of_getElem? hx)
      clear hx
      cases hp : pf x with
      | true =>
        as_aux_lemma =>
        rw [hp] at HC
        go_wp2_with fail
        refine Calls.mono HC.out ?_
        rintro e w2 ⟨rfl, hw2⟩
        subst hw2
        go_wp2_with fail
        go_ret
        exact ⟨.inl ⟨k, x, hlt, rfl, HX.out, hp, HB.out⟩, rfl⟩
      | false =>
        as_aux_lemma =>
        rw [hp] at HC
        go_wp2_with fail
        refine Calls.mono HC.out ?_
        rintro e w2 ⟨rfl, hw2⟩
        subst hw2
        have HB2 : Hid (∀ j y, j < k + 1 → M[j]? = some y → pf y = false) := fun j y hj hy => by
          by_cases e : j = k
          · rw [e, HX.out] at hy; rw [← Option.some.inj hy]; exact hp
          · exact HB.out j y (by omega) hy
        go_wp2_with fail
        go_roundw
        case rel => exact ⟨k + 1, by omega, by go_num, HB2.out, by trivial⟩
        case measure => simp [intOf]; omega
    · as_aux_lemma =>
      have hke : k = m := by omega
      have HB2 : Hid (∀ j y, j < m → M[j]? = some y → pf y = false) := fun j y hj hy => HB.out j y (by omega) hy
      clear hke
      go_wp2_with fail
      go_ret
      exact ⟨.inr ⟨rfl, HB2.out⟩, rfl⟩

set_option maxHeartbeats 4000000 in
set_option maxRecDepth 100000 in
theorem delete_pr (pf : Int → Bool) (bx g m cap B : Nat) (M : List Int) (w : World) (h : w.ownsRow B 3 1 (.slice (some ⟨g, 0, none⟩) m cap) m (rowZ M)) (hl : M.length ≤ 1000) (hm : M.length = m)
    (hf : ∀ W, w.grownBy W (some g) → ∀ x ∈ M, Calls Tryz.prog 146 #[.int .i64 x, .pointer (some ⟨bx, 0, none⟩)] W fun e w' => e = .returned (.bool (pf x)) ∧ w' = W) :
    Calls Tryz.prog 144 #[.slice (some ⟨g, 0, none⟩) m cap, .func (.func 146) #[] #[.pointer (some ⟨bx, 0, none⟩)]] w fun e w' => ∃ v', e = .returned v' ∧ w'.ownsRow B 3 1 v' (M.filter fun x => !pf x).length (rowZ (M.filter fun x => !pf x)) ∧ w.grownBy w' (some g) := by
  have hrefl : w.grownBy w (some g) := ⟨rfl, rfl, rfl, Nat.le_refl _, fun _ _ _ => rfl⟩
  have HO : Hid (w.ownsRow B 3 1 (.slice (some ⟨g, 0, none⟩) m cap) m (rowZ M) ∧ M.length = m) := ⟨h, hm⟩
  have HF : Hid (∀ W, w.grownBy W (some g) → ∀ x ∈ M, Calls Tryz.prog 146 #[.int .i64 x, .pointer (some ⟨bx, 0, none⟩)] W fun e w' => e = .returned (.bool (pf x)) ∧ w' = W) := hf
  have HI : Hid _ := index_pr pf bx g m cap B M w h hl hm (hf w hrefl)
  rw [hm] at hl
  clear h hm hf
  go_enter Tryz.func144, Tryz.ntmps144
  go_wp2_with fail
  refine Calls.mono HI.out ?_
  rintro e w1 ⟨⟨i, x, hi, rfl, hix, hpx, hno⟩ | ⟨rfl, hno⟩, hw1⟩
  · subst hw1
    have HD0 : Hid (Dz w1 w1 B g m cap i (i + 1) pf M M) := by
      refine ⟨HO.out.1, HO.out.2, ?_, rfl, by omega, by omega, hrefl⟩
      rw [take_fz _ hix]
      have : ((M.take i).filter fun x => !pf x) = M.take i := by
        rw [List.filter_eq_self]
        intro y hy
        obtain ⟨k, hk⟩ := List.getElem?_of_mem hy
        have hki := (List.getElem?_eq_some_iff.1 hk).1
        rw [List.length_take] at hki
        rw [List.getElem?_take_of_lt (by omega)] at hk
        rw [hno k y (by omega) hk]; rfl
      rw [this]; simp [hpx]
    have hne : ((i : Int) == -1) = false := beq_eq_false_iff_ne.2 (by omega)
    clear hix hpx hno HI hrefl
    go_wp2_with fail
    go_loopw [5, 6] (fun s5 s6 wq => ∃ (i j : Nat) (X : List Int), s5 = .int .i64 i ∧ s6 = .int .i64 j ∧ Dz w1 wq B g m cap i j pf M X) (fun _ s6 _ => m - (intOf s6).toNat)
    case atStart => exact ⟨i, i + 1, M, rfl, by go_num, HD0.out⟩
    case round =>
      clear HD0 hi hne
      obtain ⟨i, j, X, rfl, rfl, hdf⟩ := hrel
      have HD : Hid (Dz w1 wr B g m cap i j pf M X) := hdf
      have hij := hdf.hij
      have hjm := hdf.hjm
      clear hdf
      by_cases hlt : j < m
      · obtain ⟨hxj, x, hx⟩ := HD.out.at_ hlt HO.out.2
        rw [hx] at hxj
        have r0 := HD.out.cell hxj
        have HX : Hid (M[j]? = some x) := hx
        have HC : Hid _ := HF.out wr HD.out.kept x (List.mem_of_getElem? hx)
        clear hx hxj
        cases hp : pf x with
        | true =>
          as_aux_lemma =>
          rw [hp] at HC
          go_wp2_with fail
          refine Calls.mono HC.out ?_
          rintro e w2 ⟨rfl, hw2⟩
          subst hw2
          have HD2 : Hid (Dz w1 w2 B g m cap i (j + 1) pf M X) := HD.out.skip hlt HX.out hp
          go_wp2_with fail
          go_roundw
          case rel => exact ⟨i, j + 1, X, rfl, by go_num, HD2.out⟩
          case measure => simp [intOf]; omega
        | false =>
          as_aux_lemma =>
          rw [hp] at HC
          go_wp2_with fail
          refine Calls.mono HC.out ?_
          rintro e w2 ⟨rfl, hw2⟩
          subst hw2
          obtain ⟨y, hy⟩ : ∃ y, X[i]? = some y := ⟨_, List.getElem?_eq_getElem (by rw [HD.out.len]; omega)⟩
          have s0 := HD.out.cell hy
          have fz0 := HD.out.fz i
          have HD3 : Hid (Dz w1 (w2.setCell ⟨g, i, none⟩ (.int .i64 x)) B g m cap (i + 1) (j + 1) pf M (X.set i x)) := HD.out.store hlt HX.out hp
          clear hy
          go_wp2_with fail
          go_roundw
          case rel => exact ⟨i + 1, j + 1, _, by go_num, by go_num, HD3.out⟩
          case measure => simp [intOf]; omega
      · as_aux_lemma =>
        have hje : j = m := by omega
        subst hje
        obtain ⟨W2, hcl, hcap, hcm, ho2, hg2⟩ := HD.out.done HO.out.2
        have HFi : Hid (W2.ownsRow B 3 1 (.slice (some ⟨g, 0, none⟩) i cap) (M.filter fun x => !pf x).length (rowZ (M.filter fun x => !pf x)) ∧ w1.grownBy W2 (some g)) := ⟨ho2, hg2⟩
        simp only [maxLen] at hcm
        have hic : ¬ (cap = i) := by omega
        have hi1 : (i : Int) ≤ (j : Int) := by omega
        have hi2 : (i : Int) ≤ (cap : Int) := by omega
        have hi3 : (j : Int) ≤ (cap : Int) := by omega
        clear ho2 hg2 HD
        go_wp2_with fail
        go_ret
        exact ⟨_, rfl, HFi.out.1, HFi.out.2⟩
  · subst hw1
    as_aux_lemma =>
    have HFi : Hid (w1.ownsRow B 3 1 (.slice (some ⟨g, 0, none⟩) m cap) (M.filter fun x => !pf x).length (rowZ (M.filter fun x => !pf x)) ∧ w1.grownBy w1 (some g)) := by
      refine ⟨?_, hrefl⟩
      have : (M.filter fun x => !pf x) = M := by
        rw [List.filter_eq_self]
        intro y hy
        obtain ⟨k, hk⟩ := List.getElem?_of_mem hy
        have hki := (List.getElem?_eq_some_iff.1 hk).1
        rw [hno k y (by rw [← HO.out.2]; exact hki) hk]; rfl
      rw [this, HO.out.2]
      exact HO.out.1
    clear hno HI hrefl
    go_wp2_with fail
    go_ret
    exact ⟨_, rfl, HFi.out.1, HFi.out.2⟩

end Go.Proofs.YtebcjaenhiiflaaGreatDoor.S
namespace Go.Proofs.YtebcjaenhiiflaaGreatDoor.S
open Go.RowKit Go.WideMaps Go.Maps

/-- What all that asks a finished Cover needs. -/
structure Cx (w : World) (c mb rest : Nat) (S R : List Edg) (f : Edg → Nat) : Prop where
  co : Co w c mb rest S f
  mem : ∀ e, e ∈ S ↔ e ∈ R
  up : (R.map (·.1)).Pairwise (· < ·)
  wf : ∀ e ∈ R, (Lit.int .i64 e.1).wf = true
  len : R.length ≤ 60
  small : ∀ D N, w.ownsMap Tryz.prog 3 ringR mb N D → Rm D S f → w.ownsMap Tryz.prog 3 ringR mb 1000 D

theorem size_own {P : Program} {k : TypeId} {R : Value → Option (DataW Unit × List MemPlace)} {w : World} {b n N : Nat} {D : DataW Unit} (h : w.ownsMap P k R b n D) (hN : Maps.size D ≤ N) : w.ownsMap P k R b N D := by
  obtain ⟨es, clock, hb, F, hs, rfl⟩ := h
  refine ⟨es, clock, hb, F, ?_, rfl⟩
  simpa [Maps.size, length_sorted] using hN

theorem Cx.below {w w' : World} {c mb rest : Nat} {S R : List Edg} {f : Edg → Nat} (h : Cx w c mb rest S R f) (hb : Below w.heap.size w w') : Cx w' c mb rest S R f := by
  refine { h with co := h.co.below hb, small := fun D N ho hm => ?_ }
  obtain ⟨D0, N0, k1, k2⟩ := h.co.mp
  have k3 := h.small D0 N0 k1 k2
  have k4 := k3.kept (grown_below hb) (by simp : some mb ≠ none)
  obtain ⟨es, clock, hb1, F1, hs1, rfl⟩ := k4
  obtain ⟨es', clock', hb2, F2, hs2, rfl⟩ := ho
  rw [hb1] at hb2
  cases hb2
  exact ⟨es, clock, hb1, F2, hs1, rfl⟩

/-- The edges with these numbers, by their numbers. -/
theorem filter_ids (R : List Edg) (g : Edg → Bool) (pf : Int → Bool) (h : ∀ e ∈ R, pf e.1 = g e) : (R.map (·.1)).filter (fun x => !pf x) = (R.filter fun e => !g e).map (·.1) := by
  induction R with
  | nil => rfl
  | cons e R ih =>
    have h1 := h e (by simp)
    have h2 := ih (fun d hd => h d (by simp [hd]))
    simp only [List.map_cons, List.filter_cons, h1]
    cases hg : g e <;> simp [h2]

set_option maxHeartbeats 1000000 in
set_option maxRecDepth 100000 in
theorem delete_none_pr (bx : Nat) (w : World) :
    Calls Tryz.prog 144 #[.slice none 0 0, .func (.func 146) #[] #[.pointer (some ⟨bx, 0, none⟩)]] w fun e w' => e = .returned (.slice none 0 0) ∧ w' = w := by
  have HI : Hid (Calls Tryz.prog 260 #[.slice none 0 0, .func (.func 146) #[] #[.pointer (some ⟨bx, 0, none⟩)]] w fun e w' => e = .returned (.int .i64 (-1)) ∧ w' = w) := by
    show Calls _ _ _ _ _
    go_enter Tryz.func260, Tryz.ntmps260
    go_wp2_with fail
    go_loopw [8] (fun s8 wq => s8 = .int .i64 0 ∧ wq = w) (fun _ _ => 0)
    case atStart => exact ⟨rfl, rfl⟩
    case round =>
      obtain ⟨rfl, rfl⟩ := hrel
      go_wp2_with fail
      go_ret
      exact ⟨rfl, rfl⟩
  go_enter Tryz.func144, Tryz.ntmps144
  go_wp2_with fail
  refine Calls.mono HI.out ?_
  rintro e w1 ⟨rfl, hw1⟩
  subst hw1
  go_wp2_with fail
  go_ret
  exact ⟨rfl, rfl⟩

/-- What is asked of a number, by its edge. -/
def pfOf (R : List Edg) (g : Edg → Bool) (x : Int) : Bool := R.any fun e => e.1 == x && g e

theorem ids_one {R : List Edg} (h : (R.map (·.1)).Pairwise (· < ·)) : ∀ d ∈ R, ∀ e ∈ R, d.1 = e.1 → d = e := by
  induction R with
  | nil => intro d hd; simp at hd
  | cons a R ih =>
    rw [List.map_cons, List.pairwise_cons] at h
    intro d hd e he hde
    rcases List.mem_cons.1 hd with rfl | hd'
    · rcases List.mem_cons.1 he with rfl | he'
      · rfl
      · have := h.1 e.1 (List.mem_map.2 ⟨e, he', rfl⟩); omega
    · rcases List.mem_cons.1 he with rfl | he'
      · have := h.1 d.1 (List.mem_map.2 ⟨d, hd', rfl⟩); omega
      · exact ih h.2 d hd' e he' hde

theorem pfOf_at {R : List Edg} (h : (R.map (·.1)).Pairwise (· < ·)) (g : Edg → Bool) {e : Edg} (he : e ∈ R) : pfOf R g e.1 = g e := by
  unfold pfOf
  cases hg : g e with
  | true =>
    rw [List.any_eq_true]
    exact ⟨e, he, by simp [hg]⟩
  | false =>
    rw [List.any_eq_false]
    intro d hd k
    simp only [Bool.and_eq_true, beq_iff_eq] at k
    rw [ids_one h d hd e he k.1, hg] at k
    cases k.2

theorem rowZ_ids (R : List Edg) : rowZ (R.map (·.1)) = idV R := by simp [rowZ, idV]

theorem row_mono {w : World} {B B' e s n : Nat} {v : Value} {xs : List Value} (h : w.ownsRow B e s v n xs) (hB : B' ≤ B) : w.ownsRow B' e s v n xs := by
  refine ⟨h.1, ?_⟩
  rcases h.2 with hh | ⟨g, cap, cur, h1, h2, h3, h4⟩
  · exact Or.inl hh
  · exact Or.inr ⟨g, cap, cur, h1, by omega, h3, h4⟩

end Go.Proofs.YtebcjaenhiiflaaGreatDoor.S
namespace Go.Proofs.YtebcjaenhiiflaaGreatDoor.S
open Go.RowKit Go.WideMaps Go.Maps

/-- A row of pairs. -/
def encP (x : Int × Int) : List Value := [.int .i64 (x.1), .int .i64 (x.2)]
def rowP (L : List (Int × Int)) : List Value := L.flatMap encP
theorem rowP_cons (x : Int × Int) (L : List (Int × Int)) : rowP (x :: L) = encP x ++ rowP L := rfl
theorem rowP_append (L M : List (Int × Int)) : rowP (L ++ M) = rowP L ++ rowP M := by simp [rowP]
theorem rowP_length : ∀ L : List (Int × Int), (rowP L).length = L.length * 2
  | [] => rfl
  | x :: L => by rw [rowP_cons, List.length_append, rowP_length L]; simp [encP]; omega
theorem rowP_one : ∀ (L : List (Int × Int)), ∀ u ∈ rowP L, u.oneCell' = true
  | [], u, h => by simp [rowP] at h
  | x :: L, u, h => by
    rw [rowP_cons, List.mem_append] at h
    rcases h with h | h
    · simp [encP] at h
      rcases h with rfl | rfl <;> rfl
    · exact rowP_one L u h
theorem rowP_at : ∀ (L : List (Int × Int)) (i : Nat) (x : Int × Int), L[i]? = some x → (rowP L)[i * 2]? = some (.int .i64 (x.1)) ∧ (rowP L)[i * 2 + 1]? = some (.int .i64 (x.2))
  | [], i, x, h => by simp at h
  | y :: L, 0, x, h => by
    simp at h; subst h
    simp [rowP_cons, encP]
  | y :: L, i + 1, x, h => by
    simp at h
    have := rowP_at L i x h
    rw [rowP_cons]
    have e1 : (i + 1) * 2 = (i * 2) + 2 := by omega
    rw [e1]
    simpa [encP] using this

def OwnsP (w : World) (B : Nat) (v : Value) (L : List (Int × Int)) : Prop := w.ownsRow B 180 2 v L.length (rowP L)

theorem OwnsP.below {w w' : World} {B : Nat} {v : Value} {L : List (Int × Int)} (h : OwnsP w B v L) (hb : Below w.heap.size w w') : OwnsP w' B v L := World.ownsRow.kept h (grown_below hb) (Classical.em _)

theorem OwnsP.shape {w : World} {B : Nat} {v : Value} {L : List (Int × Int)} (h : OwnsP w B v L) : ∃ a cap, v = .slice a L.length cap ∧ (0 < L.length → ∃ g, a = some ⟨g, 0, none⟩ ∧ ∀ j x, L[j]? = some x → w.cell? ⟨g, j * 2, none⟩ = some (.int .i64 (x.1)) ∧ w.cell? ⟨g, j * 2 + 1, none⟩ = some (.int .i64 (x.2))) := by
  have h0 := h
  unfold OwnsP at h0
  rcases h.2 with ⟨rfl, hz⟩ | ⟨g, cap, cur, rfl, hb, hg, _⟩
  · exact ⟨none, 0, by rw [hz], fun k => by omega⟩
  · refine ⟨_, cap, rfl, fun _ => ⟨g, rfl, fun j x hx => ?_⟩⟩
    obtain ⟨r0, r1⟩ := rowP_at L j x hx
    have hj := (List.getElem?_eq_some_iff.1 hx).1
    have hl := rowP_length L
    refine ⟨?_, ?_⟩
    · rw [h0.cellAt (j * 2) (by omega)]
      exact r0
    · rw [h0.cellAt (j * 2 + 1) (by omega)]
      exact r1

def zP : Value := .agg #[.int .i64 0, .int .i64 0]
theorem info35q : ∃ i, Tryz.prog.info? 180 = some i ∧ i.size = 2 ∧ i.bytes = 16 ∧ i.zero = some zP :=
  ⟨(Tryz.prog.info? 180).get (by kernel_rfl), by kernel_rfl, by kernel_rfl, by kernel_rfl, by kernel_rfl⟩
theorem zP_cells : zP.cells = #[.int .i64 0, .int .i64 0] := by kernel_rfl

theorem pair_cells (W : World) (x y : Int) (j : Nat) (u : Value) (h : (rowP [(x, y)])[j]? = some u) : (W.alloc (.cells #[.int .i64 x, .int .i64 y] 180)).cell? ((⟨W.heap.size, 0, none⟩ : Addr).add j) = some u := by
  rw [G.addr0_add]
  have hh := heap_alloc_new W (.cells #[.int .i64 x, .int .i64 y] 180)
  simp only [World.cell?, hh]
  simpa [rowP, encP] using h

theorem OwnsP.mono {w : World} {B B' : Nat} {v : Value} {L : List (Int × Int)} (h : OwnsP w B v L) (hB : B' ≤ B) : OwnsP w B' v L := by
  refine ⟨h.1, ?_⟩
  rcases h.2 with hh | ⟨g, cap, cur, h1, h2, h3, h4⟩
  · exact Or.inl hh
  · exact Or.inr ⟨g, cap, cur, h1, by omega, h3, h4⟩

theorem append_P (ty : TypeId) (w : World) (B : Nat) (v : Value) (L M : List (Int × Int)) (h : OwnsP w B v L) (hB : B ≤ w.heap.size) (a : Addr) (m c : Nat) (hm : m = M.length) (hM : ∀ j u, (rowP M)[j]? = some u → w.cell? (a.add j) = some u) (hl : L.length + M.length ≤ 1000000) :
    ∃ v' w', (Builtin.append_ #[65, 65] ty #[v, .slice (some a) m c]).run Tryz.prog w = .ok v' w' ∧ OwnsP w' B v' (L ++ M) ∧ w.grownBy w' v.ownBlock ∧ G.Fresh w v v' := by
  subst hm
  obtain ⟨i, hi, hs, hb, hz⟩ := info35q
  have own : ∀ B', OwnsP w B' v L → B' ≤ w.heap.size → ∃ v' w', (Builtin.append_ #[65, 65] ty #[v, .slice (some a) M.length c]).run Tryz.prog w = .ok v' w' ∧ OwnsP w' B' v' (L ++ M) ∧ w.grownBy w' v.ownBlock := by
    intro B' h' hB'
    obtain ⟨v', w', h1, h2, h3, _⟩ := run_append_own (P := Tryz.prog) w B' 65 ty 180 i zP 2 16 Tryz.underlying65 hi hz hs hb (by rw [zP_cells]; rfl) (by omega) v L.length (rowP L) h' a M.length c (rowP M) (rowP_length M) hM (rowP_one M) (by simp only [maxLen]; omega) (by omega) hB'
    refine ⟨v', w', h1, ?_, h3⟩
    show w'.ownsRow B' 180 2 v' (L ++ M).length (rowP (L ++ M))
    rw [List.length_append, rowP_append]
    exact h2
  rcases h.2 with ⟨rfl, h0⟩ | ⟨g, cap, cur, rfl, h1, h2, h3, h4, h5, h6⟩
  · have hL : L = [] := List.eq_nil_of_length_eq_zero h0
    subst hL
    obtain ⟨v', w', e1, e2, e3⟩ := own w.heap.size (World.ownsRow_nil w _ 180 2) (Nat.le_refl _)
    exact ⟨v', w', e1, e2.mono hB, e3, fun k hk => Or.inr (World.ownsRow.lt e2 k hk).1⟩
  · obtain ⟨v', w', e1, e2, e3⟩ := own B h hB
    refine ⟨v', w', e1, e2, e3, ?_⟩
    by_cases hroom : L.length + M.length ≤ cap
    · have hr := run_append_room (P := Tryz.prog) w 65 ty 180 i Tryz.underlying65 hi g L.length cap cur h2 a M.length c (rowP M) (by rw [hs]; exact rowP_length M) hM (rowP_one M) hroom (by rw [hs, h5, rowP_length]; omega)
      rw [hr] at e1
      injection e1 with e1 _
      subst e1
      intro k hk
      exact Or.inl hk
    · have hr := run_append_grow (P := Tryz.prog) w 65 ty 180 i zP Tryz.underlying65 hi hz ⟨g, 0, none⟩ L.length cap (rowP L) (by rw [hs]; exact rowP_length L) (World.ownsRow.cells h rfl) a M.length c (rowP M) (by rw [hs]; exact rowP_length M) hM (by omega) (by omega) (growslice_fits (by omega) (by rw [hb]; omega))
      rw [hr] at e1
      injection e1 with e1 _
      subst e1
      intro k hk
      have hk' : w.heap.size = k := by simpa [Value.ownBlock] using hk
      exact Or.inr (by omega)

/-- One pair more, and where its row lies. -/
theorem more_pair (ty : TypeId) (W : World) (B : Nat) (u : Value) (M : List (Int × Int)) (x y : Int) (h : OwnsP W B u M) (hB : B ≤ W.heap.size) (hl : M.length ≤ 10000) :
    ∃ v' w', (Builtin.append_ #[65, 65] ty #[u, .slice (some ⟨W.heap.size, 0, none⟩) 1 1]).run Tryz.prog (W.alloc (.cells #[.int .i64 x, .int .i64 y] 180)) = .ok v' w' ∧ OwnsP w' B v' (M ++ [(x, y)]) ∧ W.grownBy w' u.ownBlock ∧ G.Fresh W u v' := by
  have hbx : Below W.heap.size W (W.alloc (.cells #[.int .i64 x, .int .i64 y] 180)) := (Below.refl _ _).alloc (Nat.le_refl _) _
  obtain ⟨v', w', h1, h2, h3, h4⟩ := append_P ty _ B u M [(x, y)] (h.below hbx) (Nat.le_trans hB (by simp)) ⟨W.heap.size, 0, none⟩ 1 1 rfl (pair_cells W x y) (by simp; omega)
  refine ⟨v', w', h1, h2, ⟨h3.os.trans hbx.os, h3.tape.trans hbx.tape, h3.output.trans hbx.output, Nat.le_trans hbx.size h3.size, fun k hk hn => (h3.block k (Nat.lt_of_lt_of_le hk hbx.size) hn).trans (hbx.block k hk)⟩, fun k hk => ?_⟩
  rcases h4 k hk with h5 | h5
  · exact Or.inl h5
  · exact Or.inr (Nat.le_trans (by simp) h5)


/-- Two each of a list, the first one ahead, of which something is so. -/
def pairsOf : List Edg → (Edg → Edg → Bool) → List (Int × Int)
  | [], _ => []
  | e :: R, q => ((R.filter (q e)).map fun d => (e.1, d.1)) ++ pairsOf R q

theorem pairsOf_filter (p : Edg → Bool) (q : Edg → Edg → Bool) : ∀ R, pairsOf (R.filter p) q = pairsOf R fun e d => p e && p d && q e d
  | [] => rfl
  | e :: R => by
    have ih := pairsOf_filter p q R
    rw [List.filter_cons]
    cases hp : p e with
    | true =>
      simp only [if_true, pairsOf, ih, hp, List.filter_filter, Bool.true_and]
      congr 2
      apply List.filter_congr
      intro d _
      cases p d <;> simp
    | false =>
      simp only [Bool.false_eq_true, if_false, pairsOf, ih, hp, Bool.false_and]
      simp

theorem pairsOf_congr {q q' : Edg → Edg → Bool} : ∀ {R : List Edg}, (∀ e ∈ R, ∀ d ∈ R, q e d = q' e d) → pairsOf R q = pairsOf R q'
  | [], _ => rfl
  | e :: R, h => by
    simp only [pairsOf]
    rw [pairsOf_congr (fun a ha b hb => h a (by simp [ha]) b (by simp [hb]))]
    congr 2
    apply List.filter_congr
    intro d hd
    exact h e (by simp) d (by simp [hd])

theorem pairsOf_len (q : Edg → Edg → Bool) : ∀ R : List Edg, (pairsOf R q).length ≤ R.length * R.length
  | [] => by simp [pairsOf]
  | e :: R => by
    have ih := pairsOf_len q R
    have h1 := List.length_filter_le (q e) R
    have h3 : (R.length + 1) * (R.length + 1) = R.length * R.length + 2 * R.length + 1 := by
      rw [Nat.add_mul, Nat.mul_add]; omega
    simp only [pairsOf, List.length_append, List.length_map, List.length_cons]
    omega

end Go.Proofs.YtebcjaenhiiflaaGreatDoor.S
namespace Go.Proofs.YtebcjaenhiiflaaGreatDoor.S
open Go.RowKit Go.WideMaps Go.Maps

/-- What a row of edges' numbers is. -/
theorem idv_shape {w : World} {B : Nat} {v : Value} {L : List Edg} (h : w.ownsRow B 3 1 v L.length (idV L)) : ∃ a cap, v = .slice a L.length cap ∧ L.length ≤ cap ∧ cap ≤ maxLen ∧ (0 < L.length → ∃ g, a = some ⟨g, 0, none⟩ ∧ g < w.heap.size ∧ ∀ j e, L[j]? = some e → w.cell? ⟨g, j, none⟩ = some (.int .i64 e.1)) := by
  have h0 := h
  rcases h.2 with ⟨rfl, hz⟩ | ⟨g, cap, cur, rfl, hb, hg, h4, h5, _⟩
  · exact ⟨none, 0, by rw [hz], by omega, by simp [maxLen], fun k => by omega⟩
  · refine ⟨_, cap, rfl, h4, h5, fun _ => ⟨g, rfl, lt_of_some hg, fun j e he => ?_⟩⟩
    have hj := (List.getElem?_eq_some_iff.1 he).1
    rw [h0.cellAt j (by omega)]
    simp [idV, he]

theorem drop_at {L : List Edg} {i : Nat} {e : Edg} (h : L[i]? = some e) : L.drop i = e :: L.drop (i + 1) := by
  obtain ⟨hlt, he⟩ := List.getElem?_eq_some_iff.1 h
  rw [List.drop_eq_getElem_cons hlt, he]

/-- What Pairs holds on to. -/
structure Pq (W3 w : World) (u : Value) (M : List (Int × Int)) : Prop where
  own : OwnsP w W3.heap.size u M
  below : Below W3.heap.size W3 w

theorem Pq.drewN {W3 w : World} {u : Value} {M : List (Int × Int)} (h : Pq W3 w u M) (k : Nat) : Pq W3 (w.drewN k) u M := ⟨h.own.below (below_drewN (Below.refl _ _) k), below_drewN h.below k⟩

set_option maxHeartbeats 4000000 in
set_option maxRecDepth 100000 in
theorem cpairs_any (c mb rest : Nat) (S R : List Edg) (f : Edg → Nat) (w : World) (h : Cx w c mb rest S R f) :
    Calls Tryz.prog 84 #[.pointer (some ⟨c, 0, none⟩)] w fun e w' => ∃ v, e = .returned v ∧ OwnsP w' w.heap.size v (pairsOf (R.filter fun e => decide (f e ≠ 0)) fun e d => decide (f e = f d)) ∧ Below w.heap.size w w' := by
  have hb1 : Below w.heap.size w (w.alloc (.cells #[.pointer (some ⟨c, 0, none⟩)] 106)) := (Below.refl _ _).alloc (Nat.le_refl _) _
  have HX : Hid (Cx w c mb rest S R f ∧ Cb (w.alloc (.cells #[.pointer (some ⟨c, 0, none⟩)] 106)) w.heap.size c mb rest S f ∧ Cx (w.alloc (.cells #[.pointer (some ⟨c, 0, none⟩)] 106)) c mb rest S R f) := ⟨h, ⟨heap_alloc_new w _, h.co.below hb1⟩, h.below hb1⟩
  have HI : Hid _ := cids_any c mb rest S R f (w.alloc (.cells #[.pointer (some ⟨c, 0, none⟩)] 106)) HX.out.2.2.co h.mem h.up HX.out.2.2.small
  have hmf' := hmf
  clear h hb1
  go_enter Tryz.func84, Tryz.ntmps84
  go_wp2_with fail
  refine Calls.mono HI.out ?_
  rintro e w2 ⟨v2, rfl, hrow2, hb2⟩
  have HW : Hid (w2.ownsRow (w.heap.size + 1) 3 1 v2 R.length (idV R) ∧ Below (w.alloc (.cells #[.pointer (some ⟨c, 0, none⟩)] 106)).heap.size (w.alloc (.cells #[.pointer (some ⟨c, 0, none⟩)] 106)) w2) := ⟨by simpa using hrow2, hb2⟩
  have HD : Hid (Calls Tryz.prog 144 #[v2, .func (.func 146) #[] #[.pointer (some ⟨w.heap.size, 0, none⟩)]] w2 fun e w' => ∃ v, e = .returned v ∧ w'.ownsRow w.heap.size 3 1 v (R.filter fun e => decide (f e ≠ 0)).length (idV (R.filter fun e => decide (f e ≠ 0))) ∧ Below w.heap.size w w' ∧ Cb w' w.heap.size c mb rest S f) := by
    have HB2 : Below w.heap.size w w2 := ((Below.refl _ _).alloc (Nat.le_refl _) _).trans (HW.out.2.mono (by simp))
    rcases HW.out.1.2 with ⟨hv, hz⟩ | ⟨g, cap, cur, hv, hbg, _⟩
    · subst hv
      have hR : R = [] := List.eq_nil_of_length_eq_zero hz
      refine (delete_none_pr w.heap.size w2).mono ?_
      rintro e w' ⟨rfl, hw'⟩
      subst hw'
      refine ⟨_, rfl, ?_, HB2, HX.out.2.1.below HW.out.2⟩
      rw [hR]
      exact World.ownsRow_nil _ _ _ _
    · subst hv
      have hbw := HX.out.2.1
      obtain ⟨u, hu⟩ := hbw.co.st
      obtain ⟨D0, N0, k1, k2⟩ := hbw.co.mp
      have hlb := lt_of_some hbw.bx
      have hlc := lt_of_some hu
      have hlm := k1.lt
      simp at hlb hlc hlm
      have hrw : w2.ownsRow (w.heap.size + 1) 3 1 (.slice (some ⟨g, 0, none⟩) R.length cap) R.length (rowZ (R.map (·.1))) := by rw [rowZ_ids]; exact HW.out.1
      refine (delete_pr (pfOf R fun e => decide (f e = 0)) w.heap.size g R.length cap (w.heap.size + 1) (R.map (·.1)) w2 hrw (by rw [List.length_map]; have := HX.out.1.len; omega) (by simp) (fun W hW x hx => ?_)).mono ?_
      · obtain ⟨e, he, rfl⟩ := List.mem_map.1 hx
        rw [pfOf_at HX.out.1.up _ he]
        have hcb : Cb W w.heap.size c mb rest S f := (HX.out.2.1.below HW.out.2).grown hW (by omega) (by omega) (by omega)
        exact pr1_any w.heap.size c mb rest S f e W hcb ((HX.out.1.mem e).2 he) (HX.out.1.wf e he)
      · rintro e w' ⟨v', rfl, hrow', hg'⟩
        refine ⟨v', rfl, ?_, ?_, (HX.out.2.1.below HW.out.2).grown hg' (by omega) (by omega) (by omega)⟩
        · rw [filter_ids R (fun e => decide (f e = 0)) _ (fun e he => pfOf_at HX.out.1.up _ he), rowZ_ids, List.length_map] at hrow'
          have e1 : (R.filter fun e => !decide (f e = 0)) = R.filter fun e => decide (f e ≠ 0) := by
            apply List.filter_congr
            intro e _
            by_cases h0 : f e = 0 <;> simp [h0]
          rw [e1] at hrow'
          exact row_mono hrow' (by omega)
        · exact HB2.grown hg' HB2.size (fun j hj => by injection hj with hj; omega)
  clear hrow2 hb2 HI
  go_wp2_with fail
  refine Calls.mono HD.out ?_
  rintro e w3 ⟨v3, rfl, hrow3, hb3, hcb3⟩
  obtain ⟨L, hL⟩ : ∃ L, (R.filter fun e => decide (f e ≠ 0)) = L := ⟨_, rfl⟩
  rw [hL] at hrow3
  have HL : Hid ((R.filter fun e => decide (f e ≠ 0)) = L) := hL
  obtain ⟨T, hT⟩ : ∃ T, (pairsOf L fun e d => decide (f e = f d)) = T := ⟨_, rfl⟩
  have HT : Hid ((pairsOf L fun e d => decide (f e = f d)) = T) := hT
  have hTl : T.length ≤ 3600 := by
    rw [← hT]
    have h1 := pairsOf_len (fun e d => decide (f e = f d)) L
    have h2 : L.length ≤ 60 := by rw [← hL]; exact Nat.le_trans (List.length_filter_le _ _) HX.out.1.len
    have h3 := Nat.mul_le_mul h2 h2
    omega
  obtain ⟨a3, cap, rfl, hcap, hcm, hc3⟩ := idv_shape hrow3
  obtain ⟨m, hm⟩ : ∃ m, L.length = m := ⟨_, rfl⟩
  have HM : Hid (L.length = m) := hm
  rw [hm] at hcap hc3 ⊢
  have hm60 : m ≤ 60 := by rw [← hm, ← hL]; exact Nat.le_trans (List.length_filter_le _ _) HX.out.1.len
  have HC : Hid ((0 < m → ∃ g, a3 = some ⟨g, 0, none⟩ ∧ g < w3.heap.size ∧ ∀ j e, L[j]? = some e → w3.cell? ⟨g, j, none⟩ = some (.int .i64 e.1)) ∧ Cb w3 w.heap.size c mb rest S f ∧ Below w.heap.size w w3) := ⟨hc3, hcb3, hb3⟩
  have HP0 : Hid (∃ M, Pq w3 w3 (.slice none 0 0) M ∧ M ++ (pairsOf (L.drop 0) fun e d => decide (f e = f d)) = T) := ⟨[], ⟨World.ownsRow_nil _ _ _ _, Below.refl _ _⟩, by simpa using hT⟩
  simp only [maxLen] at hcm
  clear hrow3 hb3 hcb3 hc3 hm hL hT HD HW
  go_wp2_with fail
  go_loopw [4, 15] (fun s4 s15 wq => ∃ i : Nat, i ≤ m ∧ s15 = .int .i64 i ∧ ∃ M, Pq w3 wq s4 M ∧ M ++ (pairsOf (L.drop i) fun e d => decide (f e = f d)) = T) (fun _ s15 _ => m - (intOf s15).toNat)
  case atStart => exact ⟨0, Nat.zero_le _, rfl, HP0.out⟩
  case round =>
    clear HP0
    obtain ⟨i, hi, rfl, M, hpq, hMT⟩ := hrel
    have HP : Hid (Pq w3 wr u4 M ∧ M ++ (pairsOf (L.drop i) fun e d => decide (f e = f d)) = T) := ⟨hpq, hMT⟩
    clear hpq hMT
    by_cases hlt : i < m
    · obtain ⟨e, he⟩ : ∃ e, L[i]? = some e := ⟨_, List.getElem?_eq_getElem (by rw [HM.out]; exact hlt)⟩
      obtain ⟨g, rfl, hgl, hcell⟩ := HC.out.1 (by omega)
      have hce : wr.cell? ⟨g, i, none⟩ = some (.int .i64 e.1) := (HP.out.1.below.cell (p := ⟨g, i, none⟩) hgl).trans (hcell i e he)
      have HE : Hid (L[i]? = some e ∧ ∀ j d, L[j]? = some d → w3.cell? ⟨g, j, none⟩ = some (.int .i64 d.1)) := ⟨he, hcell⟩
      have HI0 : Hid (∃ M, Pq w3 wr u4 M ∧ M ++ ((((L.drop (i + 1)).drop 0).filter fun d => decide (f e = f d)).map (fun d => (e.1, d.1)) ++ pairsOf (L.drop (i + 1)) fun e d => decide (f e = f d)) = T) := ⟨M, HP.out.1, by
        have := HP.out.2
        rw [drop_at he] at this
        exact this⟩
      obtain ⟨E, hE⟩ : ∃ E, e.1 = E := ⟨_, rfl⟩
      have HEE : Hid (e.1 = E) := hE
      rw [hE] at hce
      clear he hcell hE
      have hw1 : IntKind.i64.wrap ((i : Int) + 1) = (i : Int) + 1 := by rw [IntKind.wrap_i64]; omega
      have hb2 : (i : Int) + 1 ≤ (m : Int) := by omega
      have hb3 : (0 : Int) ≤ (i : Int) + 1 := by omega
      have hb4 : (i : Int) + 1 ≤ (cap : Int) := by omega
      have hb5 : (m : Int) ≤ (cap : Int) := by omega
      have htn : ((i : Int) + 1).toNat = i + 1 := by omega
      by_cases hcj : cap = i + 1
      · go_wp2_with fail
        clear hw1 hb2 hb3 hb4 hb5 htn hce
        obtain ⟨r, hr⟩ : ∃ r, m - (i + 1) = r := ⟨_, rfl⟩
        have HR : Hid (m - (i + 1) = r) := hr
        rw [hr]
        go_loopw [4, 25] (fun s4 s25 wq => ∃ j : Nat, j ≤ r ∧ s25 = .int .i64 j ∧ ∃ M, Pq w3 wq s4 M ∧ M ++ ((((L.drop (i + 1)).drop j).filter fun d => decide (f e = f d)).map (fun d => (e.1, d.1)) ++ pairsOf (L.drop (i + 1)) fun e d => decide (f e = f d)) = T) (fun _ s25 _ => r - (intOf s25).toNat)
        case atStart => exact ⟨0, Nat.zero_le _, rfl, HI0.out⟩
        case round =>
          clear HI0 HP
          obtain ⟨j, hj, rfl, M, hpq, hMT⟩ := hrel
          have HP : Hid (Pq w3 wr u4 M ∧ M ++ ((((L.drop (i + 1)).drop j).filter fun d => decide (f e = f d)).map (fun d => (e.1, d.1)) ++ pairsOf (L.drop (i + 1)) fun e d => decide (f e = f d)) = T) := ⟨hpq, hMT⟩
          clear hpq hMT
          by_cases hltj : j < r
          · exact absurd hltj (by omega)
          · as_aux_lemma =>
            have HF : Hid (M ++ (pairsOf (L.drop (i + 1)) fun e d => decide (f e = f d)) = T) := by
              have h1 := HP.out.2
              have h2 : (L.drop (i + 1)).drop j = [] := List.drop_eq_nil_of_le (by rw [List.length_drop, HM.out]; omega)
              rw [h2] at h1
              exact h1
            clear hr
            go_wp2_with fail
            go_roundw
            case rel => exact ⟨i + 1, by omega, by go_num, M, HP.out.1, HF.out⟩
            case measure => simp [intOf]; omega
      · go_wp2_with fail
        clear hw1 hb2 hb3 hb4 hb5 htn hce
        obtain ⟨r, hr⟩ : ∃ r, m - (i + 1) = r := ⟨_, rfl⟩
        have HR : Hid (m - (i + 1) = r) := hr
        rw [hr]
        go_loopw [4, 25] (fun s4 s25 wq => ∃ j : Nat, j ≤ r ∧ s25 = .int .i64 j ∧ ∃ M, Pq w3 wq s4 M ∧ M ++ ((((L.drop (i + 1)).drop j).filter fun d => decide (f e = f d)).map (fun d => (e.1, d.1)) ++ pairsOf (L.drop (i + 1)) fun e d => decide (f e = f d)) = T) (fun _ s25 _ => r - (intOf s25).toNat)
        case atStart => exact ⟨0, Nat.zero_le _, rfl, HI0.out⟩
        case round =>
          clear HI0 HP
          obtain ⟨j, hj, rfl, M, hpq, hMT⟩ := hrel
          have HP : Hid (Pq w3 wr u4 M ∧ M ++ ((((L.drop (i + 1)).drop j).filter fun d => decide (f e = f d)).map (fun d => (e.1, d.1)) ++ pairsOf (L.drop (i + 1)) fun e d => decide (f e = f d)) = T) := ⟨hpq, hMT⟩
          clear hpq hMT
          by_cases hltj : j < r
          · obtain ⟨d, hd⟩ : ∃ d, L[i + 1 + j]? = some d := ⟨_, List.getElem?_eq_getElem (by rw [HM.out]; omega)⟩
            have hcd : wr.cell? ⟨g, i + 1 + j, none⟩ = some (.int .i64 d.1) := (HP.out.1.below.cell (p := ⟨g, i + 1 + j, none⟩) hgl).trans (HE.out.2 _ d hd)
            have hdr : (L.drop (i + 1)).drop j = d :: (L.drop (i + 1)).drop (j + 1) := drop_at (by rw [List.getElem?_drop]; exact hd)
            have hcb := HC.out.2.1.below HP.out.1.below
            have hb0 : wr.cell? ⟨w.heap.size, 0, none⟩ = some (.pointer (some ⟨c, 0, none⟩)) := by simp [World.cell?, hcb.bx]
            have hb1 := hcb.co.cell1
            have inL : ∀ {k : Nat} {x : Edg}, L[k]? = some x → x ∈ R := fun {k x} hk => by
              have := List.mem_of_getElem? hk
              rw [← HL.out] at this
              exact (List.mem_filter.1 this).1
            have lk1 := fun n => ((hcb.below (below_drewN (Below.refl _ _) n)).co.look_in ((HX.out.1.mem e).2 (inL HE.out.1)) (HX.out.1.wf e (inL HE.out.1))).2
            have lk2 := fun n => ((hcb.below (below_drewN (Below.refl _ _) n)).co.look_in ((HX.out.1.mem d).2 (inL hd)) (HX.out.1.wf d (inL hd))).2
            unfold ringV at lk1 lk2
            have HMl : Hid (M.length ≤ 3600) := by
              have := congrArg List.length HP.out.2
              rw [List.length_append] at this
              show M.length ≤ 3600
              omega
            have HN : Hid (∀ M', (if f e = f d then M' = M ++ [(e.1, d.1)] else M' = M) → M' ++ ((((L.drop (i + 1)).drop (j + 1)).filter fun d => decide (f e = f d)).map (fun d => (e.1, d.1)) ++ pairsOf (L.drop (i + 1)) fun e d => decide (f e = f d)) = T) := fun M' hM' => by
              have h1 := HP.out.2
              rw [hdr, List.filter_cons] at h1
              by_cases hfe : f e = f d
              · rw [if_pos hfe] at hM'
                rw [if_pos (by simpa using hfe)] at h1
                rw [hM', ← h1]; simp
              · rw [if_neg hfe] at hM'
                rw [if_neg (by simpa using hfe)] at h1
                rw [hM', ← h1]
            obtain ⟨Y, hY⟩ : ∃ Y, d.1 = Y := ⟨_, rfl⟩
            obtain ⟨x, hx⟩ : ∃ x, f e = x := ⟨_, rfl⟩
            obtain ⟨y, hy⟩ : ∃ y, f d = y := ⟨_, rfl⟩
            rw [HEE.out, hx] at lk1
            rw [hY, hy] at lk2
            rw [hY] at hcd
            rw [hx, hy, HEE.out, hY] at HN
            have heq := eq101
            clear hcb hd hdr inL hY hy
            by_cases hxy : x = y
            · as_aux_lemma =>
              subst hxy
              have HNO : Hid _ := HN.out (M ++ [(E, Y)]) (by rw [if_pos rfl])
              go_upto_region 9 with fail
              go_quiet (fail)
              have HPQ := HP.out.1.drewN nq
              obtain ⟨v', w4, hrn, ho4, hg4, hf4⟩ := more_pair 65 (wr.drewN nq) w3.heap.size u4 M E Y HPQ.own HPQ.below.size (by have := HMl.out; omega)
              have HRN : Hid (_ = _) := hrn
              have HP4 : Hid (Pq w3 w4 v' (M ++ [(E, Y)])) := ⟨ho4, HPQ.below.grown hg4 HPQ.below.size (fun k hk => (World.ownsRow.lt HPQ.own k hk).1)⟩
              clear hrn ho4 hg4 hf4 HPQ
              go_wp2_with (at_builtin; refine Lib.wpList_append_run _ rfl _ _ _ _ rfl _ _ rfl rfl _ _ HRN.out ?_)
              go_roundw
              case rel =>
                refine ⟨j + 1, by omega, by go_num, M ++ [(E, Y)], HP4.out, ?_⟩
                have := HNO.out
                rw [hx, HEE.out]
                exact this
              case measure => simp [intOf]; omega
            · as_aux_lemma =>
              have hbe : ((x : Int) == (y : Int)) = false := beq_eq_false_iff_ne.2 (by omega)
              have HNO : Hid _ := HN.out M (by rw [if_neg hxy])
              go_upto_region 9 with fail
              go_quiet (fail)
              go_wp2_with fail
              go_roundw
              case rel =>
                refine ⟨j + 1, by omega, by go_num, M, HP.out.1.drewN _, ?_⟩
                have := HNO.out
                rw [hx, HEE.out]
                exact this
              case measure => simp [intOf]; omega
          · as_aux_lemma =>
            have HF : Hid (M ++ (pairsOf (L.drop (i + 1)) fun e d => decide (f e = f d)) = T) := by
              have h1 := HP.out.2
              have h2 : (L.drop (i + 1)).drop j = [] := List.drop_eq_nil_of_le (by rw [List.length_drop, HM.out]; omega)
              rw [h2] at h1
              exact h1
            clear hr
            go_wp2_with fail
            go_roundw
            case rel => exact ⟨i + 1, by omega, by go_num, M, HP.out.1, HF.out⟩
            case measure => simp [intOf]; omega
    · as_aux_lemma =>
      have HF : Hid (OwnsP wr w.heap.size u4 (pairsOf L fun e d => decide (f e = f d)) ∧ Below w.heap.size w wr) := by
        have hie : i = m := by omega
        have h1 := HP.out.2
        rw [hie, ← HM.out, List.drop_length] at h1
        simp only [pairsOf, List.append_nil] at h1
        have hb := HC.out.2.2
        have h2 := HP.out.1
        rw [h1, ← HT.out] at h2
        exact ⟨h2.own.mono hb.size, hb.trans (h2.below.mono hb.size)⟩
      go_wp2_with fail
      go_ret
      refine ⟨_, rfl, ?_, HF.out.2⟩
      rw [HL.out]
      exact HF.out.1

end Go.Proofs.YtebcjaenhiiflaaGreatDoor.S
namespace Go.Proofs.YtebcjaenhiiflaaGreatDoor.S
open Go Go.ChangeMaps Go.MapKept Go.WideShapes
open Go.WideElems (Fit rd rg pl rd_key rd_val rg_of rd_mk other_key)
open Go.Maps (Keyed)

theorem find_stamp {es : Array MapEntry} {j c : Nat} {e0 : MapEntry} (h : es.toList[j]? = some e0) (hc : e0.born = c) (hu : ∀ i x, es.toList[i]? = some x → x.born = c → i = j) : es.findIdx? (fun e => ((e.born : Int) == (c : Int))) = some j := by
  rw [Array.findIdx?_eq_some_iff_getElem]
  obtain ⟨hj, he⟩ := List.getElem?_eq_some_iff.1 h
  refine ⟨by simpa using hj, ?_, fun i hi => ?_⟩
  · have : es[j]'(by simpa using hj) = e0 := by simpa using he
    rw [this, hc]; simp
  · have hil : i < es.toList.length := Nat.lt_trans hi hj
    intro hp
    have := hu i es.toList[i] (List.getElem?_eq_getElem hil) (by have h5 := beq_iff_eq.1 hp; simp; omega)
    omega

theorem setBlock_two (w : World) (b : Nat) (o o' : Obj) : setBlock (setBlock w b o) b o' = setBlock w b o' := by
  simp [setBlock]

section
variable {H : Type} {P : Program} {k : TypeId} {w : World} {base b n : Nat} {D : DataW H}

theorem entry_groups {t E e : TypeId} {q : IntKind} (h : w.ownsGroups P k base e q b n D) (K : Keyed P k) (ht : P.underlying t = some (.map k E)) (hz : (zeroValue E).run P w = .ok (.slice none 0 0) w) (hn : n < maxLen) {key : Value} {kl : Lit} (hkey : keyOf P k key = some kl) :
    ∃ v zs st w1, (Instr.mapEntry t (.map (some b)) key).run P w = .ok (.tuple #[v, .int .i64 st]) w1 ∧ D.atKey kl .nil = rowDatum q v zs ∧ w1.ownsInts base e q v zs ∧ zs.length ≤ n ∧ w.grownBy w1 (some b) ∧ w1.heap.size = w.heap.size ∧
      ∀ (w2 : World) (v' : Value) (zs' : List Int), w1.grownBy w2 v.ownBlock → w2.ownsInts base e q v' zs' → zs'.length ≤ n + 1 → (v'.ownBlock = v.ownBlock ∨ ∃ g, v'.ownBlock = some g ∧ w1.heap.size ≤ g) →
        ∃ w3, (Instr.entryStore t (.map (some b)) (.int .i64 st) v').run P w2 = .ok () w3 ∧ w3.ownsGroups P k base e q b (n + 1) (D.put kl (rowDatum q v' zs')) ∧ w2.grownBy w3 (some b) := by
  obtain ⟨v, zs, hlk, hat, hoi, hzl, hback⟩ := h.at K ht hz hn hkey
  obtain ⟨es, clock, hb, F, hs, hD, hbb, _, _⟩ := h
  have hst := (stamped_iff es clock).1 F.stamped
  have notb : ∀ {W : World} {u : Value} {ys : List Int}, W.ownsInts base e q u ys → u.ownBlock ≠ some b := fun ho hu => by
    have := (World.ownsRow.lt ho.1 b hu).1; omega
  -- what is the same whatever the entry was
  have core : ∀ (es1 : Array MapEntry) (clock1 st : Nat) (w1 : World), w1 = setBlock w b (.map es1 clock1) →
      (∀ (w2 : World) (v' : Value), w2.heap[b]? = some (.map es1 clock1) → ∀ w3, (Instr.mapUpdate t (.map (some b)) key v').run P (setBlock w2 b (.map es clock)) = .ok () w3 → (Instr.entryStore t (.map (some b)) (.int .i64 st) v').run P w2 = .ok () w3) →
      (Instr.mapEntry t (.map (some b)) key).run P w = .ok (.tuple #[v, .int .i64 st]) w1 →
      ∃ v zs st w1, (Instr.mapEntry t (.map (some b)) key).run P w = .ok (.tuple #[v, .int .i64 st]) w1 ∧ D.atKey kl .nil = rowDatum q v zs ∧ w1.ownsInts base e q v zs ∧ zs.length ≤ n ∧ w.grownBy w1 (some b) ∧ w1.heap.size = w.heap.size ∧
      ∀ (w2 : World) (v' : Value) (zs' : List Int), w1.grownBy w2 v.ownBlock → w2.ownsInts base e q v' zs' → zs'.length ≤ n + 1 → (v'.ownBlock = v.ownBlock ∨ ∃ g, v'.ownBlock = some g ∧ w1.heap.size ≤ g) →
        ∃ w3, (Instr.entryStore t (.map (some b)) (.int .i64 st) v').run P w2 = .ok () w3 ∧ w3.ownsGroups P k base e q b (n + 1) (D.put kl (rowDatum q v' zs')) ∧ w2.grownBy w3 (some b) := by
    intro es1 clock1 st w1 hw1 hsame hrun
    have hg1 : w.grownBy w1 (some b) := by rw [hw1]; exact ⟨rfl, rfl, rfl, by simp [setBlock], fun i _ hi => heap_setBlock_other hb _ (fun e => hi (by rw [e]))⟩
    have hs1 : w1.heap.size = w.heap.size := by rw [hw1]; simp [setBlock]
    have hb1 : w1.heap[b]? = some (.map es1 clock1) := by rw [hw1]; exact heap_setBlock_same hb _
    refine ⟨v, zs, st, w1, hrun, hat, hoi.kept hg1 (.inr (notb hoi)), hzl, hg1, hs1, fun w2 v' zs' hg2 ho2 hl2 hloc => ?_⟩
    have hb2 : w2.heap[b]? = some (.map es1 clock1) := by
      rw [hg2.block b (lt_of_some hb1) (fun e => notb hoi e.symm)]; exact hb1
    have hg2' : w2.grownBy (setBlock w2 b (.map es clock)) (some b) := ⟨rfl, rfl, rfl, by simp [setBlock], fun i _ hi => heap_setBlock_other hb2 _ (fun e => hi (by rw [e]))⟩
    have hgw : w.grownBy (setBlock w2 b (.map es clock)) v.ownBlock := by
      refine ⟨hg2.os.trans hg1.os, hg2.tape.trans hg1.tape, hg2.output.trans hg1.output, ?_, fun i hi hne => ?_⟩
      · have := hg2.size
        simp [setBlock]; omega
      · by_cases e : i = b
        · rw [e, heap_setBlock_same hb2]; exact hb.symm
        · rw [heap_setBlock_other hb2 _ e, hg2.block i (by omega) hne, hg1.block i hi (by simpa using e)]
    obtain ⟨w3, r1, r2, r3⟩ := hback _ v' zs' hgw (ho2.kept hg2' (.inr (notb ho2))) hl2 (by rw [hs1] at hloc; exact hloc)
    refine ⟨w3, hsame w2 v' hb2 w3 r1, r2, ⟨r3.os, r3.tape, r3.output, ?_, fun i hi hne => ?_⟩⟩
    · have := r3.size
      simp [setBlock] at this; exact this
    · rw [r3.block i (by simp [setBlock]; exact hi) hne, hg2'.block i hi hne]
  rcases K.find w hkey es.toList F.keys with ⟨h1, h2⟩ | ⟨j, e0, h1, h2, h3⟩
  · have hvz : v = .slice none 0 0 := by
      rcases Maps.fit_look false K ht hz hb F hkey with ⟨hrun, _, _⟩ | ⟨e0, y, hm0, h3, _⟩
      · rw [hrun] at hlk; injection hlk with hlk; exact hlk.symm
      · exact absurd h3 (h2 e0 hm0)
    refine core (es.push ⟨key, .slice none 0 0, clock⟩) (clock + 1) clock _ rfl (fun w2 v' hb2 w3 hup => ?_) ?_
    · obtain ⟨W, hW⟩ : ∃ W, setBlock w2 b (.map es clock) = W := ⟨_, rfl⟩
      rw [hW] at hup
      have hbs : W.heap[b]? = some (.map es clock) := by rw [← hW]; exact heap_setBlock_same hb2 _
      rcases K.find W hkey es.toList F.keys with ⟨g1, g2⟩ | ⟨j, e0, g1, g2, g3⟩
      · have hup2 : (Instr.mapUpdate t (.map (some b)) key v').run P W = .ok () (setBlock W b (.map (es.push ⟨key, v', clock⟩) (clock + 1))) := by
          simp [Instr.mapUpdate, run_underlying ht, MapKept.run_getObj_map hbs, K.check W false hkey, g1, MapKept.run_setObj_map _ hbs, Result.andThen, setBlock]
        rw [hup] at hup2
        injection hup2 with _ hw
        rw [← hW, setBlock_two] at hw
        subst hw
        have hf : (es.push ⟨key, .slice none 0 0, clock⟩).findIdx? (fun e => ((e.born : Int) == (clock : Int))) = some es.size := by
          refine find_stamp (e0 := ⟨key, .slice none 0 0, clock⟩) (by simp) rfl (fun i x hx hxb => ?_)
          simp only [Array.toList_push] at hx
          rcases Nat.lt_or_ge i es.toList.length with hi | hi
          · rw [List.getElem?_append_left hi] at hx
            have := F.stamped.1 x (List.mem_of_getElem? hx)
            omega
          · have := (List.getElem?_eq_some_iff.1 hx).1
            simp at this hi
            omega
        have hmod : (es.push ⟨key, .slice none 0 0, clock⟩).modify es.size (fun e => { e with val := v' }) = es.push ⟨key, v', clock⟩ := by
          apply Array.ext
          · simp
          · intro i h1 h2
            simp only [Array.getElem_modify, Array.getElem_push]
            split <;> split <;> simp_all <;> omega
        simp [Instr.entryStore, MapKept.run_getObj_map hb2, asInt, asIntOf, hf, hmod, MapKept.run_setObj_map _ hb2, Result.andThen]
        simp [setBlock]
      · exact absurd g3 (h2 e0 (List.mem_of_getElem? g2))
    · rw [hvz]
      simp [Instr.mapEntry, run_underlying ht, MapKept.run_getObj_map hb, K.check w false hkey, h1, hz, MapKept.run_setObj_map _ hb, Result.andThen, setBlock, goInt]
  · have hj : es[j]? = some e0 := by simpa using h2
    have hjl : j < es.size := (Array.getElem?_eq_some_iff.1 hj).1
    have hje : es[j] = e0 := (Array.getElem?_eq_some_iff.1 hj).2
    have hvz : v = e0.val := by
      have : (Instr.lookup t (.map (some b)) key false).run P w = .ok e0.val w := by
        simp [Instr.lookup, run_underlying ht, MapKept.run_getObj_map hb, K.check w _ hkey, h1, Result.andThen]
      rw [this] at hlk; injection hlk with hlk; exact hlk.symm
    refine core (es.modify j fun e => { e with key := key }) clock e0.born _ rfl (fun w2 v' hb2 w3 hup => ?_) ?_
    · obtain ⟨W, hW⟩ : ∃ W, setBlock w2 b (.map es clock) = W := ⟨_, rfl⟩
      rw [hW] at hup
      have hbs : W.heap[b]? = some (.map es clock) := by rw [← hW]; exact heap_setBlock_same hb2 _
      rcases K.find W hkey es.toList F.keys with ⟨g1, g2⟩ | ⟨j', e0', g1, g2, g3⟩
      · exact absurd h3 (g2 e0 (List.mem_of_getElem? h2))
      · have hjj : j' = j := by
          by_cases hij : j' = j
          · exact hij
          · have h5 := other_key F h2 g2 hij
            rw [g3, h3] at h5
            exact absurd rfl h5
        subst hjj
        have hee : e0' = e0 := by rw [h2] at g2; exact (Option.some.inj g2).symm
        subst hee
        have hup2 : (Instr.mapUpdate t (.map (some b)) key v').run P W = .ok () (setBlock W b (.map (es.modify j' fun e => { e with key := key, val := v' }) clock)) := by
          simp [Instr.mapUpdate, run_underlying ht, MapKept.run_getObj_map hbs, K.check W false hkey, g1, hj, h3, K.stays W hkey, MapKept.run_setObj_map _ hbs, Result.andThen, setBlock]
        rw [hup] at hup2
        injection hup2 with _ hw
        rw [← hW, setBlock_two] at hw
        subst hw
        have hf : (es.modify j' fun e => { e with key := key }).findIdx? (fun e => ((e.born : Int) == (e0'.born : Int))) = some j' := by
          refine find_stamp (e0 := { e0' with key := key }) ?_ rfl (fun i x hx hxb => ?_)
          · rw [Array.toList_modify, modify_eq_set _ _ _ _ h2, List.getElem?_set]
            simp [hjl]
          · rw [Array.toList_modify, modify_eq_set _ _ _ _ h2, List.getElem?_set] at hx
            split at hx
            · next hij => exact hij.symm
            · have hxm := List.mem_of_getElem? hx
              have hem : e0' ∈ es.toList := List.mem_of_getElem? h2
              obtain rfl := born_inj hst.2.1 hxm hem hxb
              by_cases hij : i = j'
              · exact hij
              · exact absurd rfl (other_key F h2 hx hij)
        have hmod : (es.modify j' fun e => { e with key := key }).modify j' (fun e => { e with val := v' }) = es.modify j' fun e => { e with key := key, val := v' } := by
          apply Array.ext
          · simp
          · intro i h1 h2
            simp only [Array.getElem_modify]
            split <;> simp_all
        simp [Instr.entryStore, MapKept.run_getObj_map hb2, asInt, asIntOf, hf, hmod, MapKept.run_setObj_map _ hb2, Result.andThen]
        simp [setBlock]
    · rw [hvz]
      simp [Instr.mapEntry, run_underlying ht, MapKept.run_getObj_map hb, K.check w false hkey, h1, hj, h3, K.stays w hkey, MapKept.run_setObj_map _ hb, Result.andThen, setBlock, goInt]
end

end Go.Proofs.YtebcjaenhiiflaaGreatDoor.S
