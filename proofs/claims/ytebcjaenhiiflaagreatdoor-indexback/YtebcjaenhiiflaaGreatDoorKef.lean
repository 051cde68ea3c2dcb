/- The keys of a map, rising: maps.Keys and slices.Sorted at the maps of package block. -/
import Derived.Test.YtebcjaenhiiflaaGreatDoorKad
import Derived.Test.YtebcjaenhiiflaaGreatDoorBi
namespace Go.Proofs
open Go.Shelf
def Tryz.keysL_ren : Go.Shelf.Ren := ⟨fun | 7 => 137 | 10 => 250 | n => n, fun | 23 => 183 | 26 => 3 | 3 => 3 | 28 => 193 | 0 => 0 | 27 => 192 | 33 => 173 | 4 => 4 | n => n, fun | n => n⟩
theorem Tryz.keysL : Go.Proofs.SlLaysZI.n7 Tryz.prog Tryz.keysL_ren := {
  mixed := by kernel_rfl
  f7 := ⟨Tryz.f137.name, by decide, Tryz.func137.trans (congrArg some (by kernel_rfl))⟩
  f10 := ⟨Tryz.f250.name, by decide, Tryz.func250.trans (congrArg some (by kernel_rfl))⟩
  t0 := Tryz.underlying0
  a0 := Tryz.isAgg0
  z0 := Tryz.sizeOf0
  v0 := Tryz.zeroValue0
  t4 := Tryz.underlying4
  a4 := Tryz.isAgg4
  z4 := Tryz.sizeOf4
  v4 := Tryz.zeroValue4
  t23 := Tryz.underlying183
  a23 := Tryz.isAgg183
  z23 := Tryz.sizeOf183
  v23 := Tryz.zeroValue183
  t26 := Tryz.underlying3
  a26 := Tryz.isAgg3
  z26 := Tryz.sizeOf3
  v26 := Tryz.zeroValue3
  t27 := Tryz.underlying192
  a27 := Tryz.isAgg192
  z27 := Tryz.sizeOf192
  v27 := Tryz.zeroValue192
  t28 := Tryz.underlying193
  a28 := Tryz.isAgg193
  z28 := Tryz.sizeOf193
  v28 := Tryz.zeroValue193
  t33 := Tryz.underlying173
  a33 := Tryz.isAgg173
  z33 := Tryz.sizeOf173
  v33 := Tryz.zeroValue173 }
def Tryz.keysG_ren : Go.Shelf.Ren := ⟨fun | 7 => 138 | 10 => 251 | n => n, fun | 23 => 199 | 26 => 3 | 3 => 48 | 28 => 193 | 0 => 0 | 27 => 192 | 33 => 173 | 4 => 4 | n => n, fun | n => n⟩
theorem Tryz.keysG : Go.Proofs.SlLaysZI.n7 Tryz.prog Tryz.keysG_ren := {
  mixed := by kernel_rfl
  f7 := ⟨Tryz.f138.name, by decide, Tryz.func138.trans (congrArg some (by kernel_rfl))⟩
  f10 := ⟨Tryz.f251.name, by decide, Tryz.func251.trans (congrArg some (by kernel_rfl))⟩
  t0 := Tryz.underlying0
  a0 := Tryz.isAgg0
  z0 := Tryz.sizeOf0
  v0 := Tryz.zeroValue0
  t4 := Tryz.underlying4
  a4 := Tryz.isAgg4
  z4 := Tryz.sizeOf4
  v4 := Tryz.zeroValue4
  t23 := Tryz.underlying199
  a23 := Tryz.isAgg199
  z23 := Tryz.sizeOf199
  v23 := Tryz.zeroValue199
  t26 := Tryz.underlying3
  a26 := Tryz.isAgg3
  z26 := Tryz.sizeOf3
  v26 := Tryz.zeroValue3
  t27 := Tryz.underlying192
  a27 := Tryz.isAgg192
  z27 := Tryz.sizeOf192
  v27 := Tryz.zeroValue192
  t28 := Tryz.underlying193
  a28 := Tryz.isAgg193
  z28 := Tryz.sizeOf193
  v28 := Tryz.zeroValue193
  t33 := Tryz.underlying173
  a33 := Tryz.isAgg173
  z33 := Tryz.sizeOf173
  v33 := Tryz.zeroValue173 }
end Go.Proofs

namespace Go.Proofs.YtebcjaenhiiflaaGreatDoor.S
open Go.RowKit Go.WideMaps Go.Maps Go.Shelf

theorem keysL_any (mb : Option Nat) (W : World) : Calls Tryz.prog 137 #[.map mb] W fun e w' => e = .returned (.func (.func 250) #[] #[.pointer (some ⟨W.heap.size, 0, none⟩)]) ∧ w' = W.alloc (.cells #[.map mb] 183) :=
  (callsIn_wide (n := 5)).1 (AnyZI.keys_in Tryz.keysL Fence.wide 5 trivial rfl mb W)

set_option maxHeartbeats 1000000 in
theorem keysL_sorted (R : Value → Option (DataW Unit × List MemPlace)) (m N : Nat) (D : DataW Unit) (w : World) (hown : w.ownsMap Tryz.prog 3 R m N D) (hN : N ≤ 1000) :
    Calls Tryz.prog 133 #[.func (.func 250) #[] #[.pointer (some ⟨w.heap.size, 0, none⟩)]] (w.alloc (.cells #[.map (some m)] 183)) fun e w' => ∃ (v : Value) (ss : List Int), e = .returned v ∧ ss.Perm (intKeys D) ∧
      w'.ownsRow w.heap.size 3 1 v ss.length ((ss.mergeSort (fun x y => decide (x ≤ y))).map encZ) ∧ Below w.heap.size w w' := by
  have hmax : Maps.size D ≤ maxLen := Nat.le_trans hown.size_le (by unfold maxLen; omega)
  have hbytes : Maps.size D * 8 ≤ 140737488355328 := by have := hown.size_le; omega
  have hbl := hown.lt
  have hseq : SeqGives Fence.wide 2 Tryz.prog 250 #[.pointer (some ⟨w.heap.size, 0, none⟩)] encZ (fun ss => ss.Perm (intKeys D)) (Maps.size D) (w.alloc (.cells #[.map (some m)] 183)) :=
    AnyZI.keys_gives (ρ := Tryz.keysL_ren) { Tryz.keysL with } Fence.wide _ trivial rfl (by omega) w.heap.size m N D _ (by simp) (by simp) (by
      obtain ⟨es, clock, hb, Ft, hs, hD⟩ := hown
      exact ⟨es, clock, (Below.heap_alloc _ _ m hbl).trans hb, Ft, hs, hD⟩)
  have cS := AnyZI.sorted_in Tryz.sortedA Fence.wide 5 trivial trivial trivial trivial rfl (by omega) (sortsA _) (enters_of Tryz.func243 (by kernel_rfl) rfl) 250 #[.pointer (some ⟨w.heap.size, 0, none⟩)] trivial (enters_of Tryz.func250 (by kernel_rfl) rfl) _ _ hmax hbytes _ hseq
  change CallsIn _ _ Tryz.prog 133 _ _ _ at cS
  refine (callsIn_wide.1 cS).mono ?_
  rintro e w' ⟨v, ss, rfl, hS, hrow, hnil, hb⟩
  exact ⟨v, ss, rfl, hS, ownsRow_base_a hrow (by simp), ((Below.refl _ w).alloc (Nat.le_refl _) _).trans (hb.mono (by simp))⟩

theorem keysG_any (mb : Option Nat) (W : World) : Calls Tryz.prog 138 #[.map mb] W fun e w' => e = .returned (.func (.func 251) #[] #[.pointer (some ⟨W.heap.size, 0, none⟩)]) ∧ w' = W.alloc (.cells #[.map mb] 199) :=
  (callsIn_wide (n := 5)).1 (AnyZI.keys_in Tryz.keysG Fence.wide 5 trivial rfl mb W)

set_option maxHeartbeats 1000000 in
theorem keysG_sorted (R : Value → Option (DataW Unit × List MemPlace)) (m N : Nat) (D : DataW Unit) (w : World) (hown : w.ownsMap Tryz.prog 3 R m N D) (hN : N ≤ 1000) :
    Calls Tryz.prog 133 #[.func (.func 251) #[] #[.pointer (some ⟨w.heap.size, 0, none⟩)]] (w.alloc (.cells #[.map (some m)] 199)) fun e w' => ∃ (v : Value) (ss : List Int), e = .returned v ∧ ss.Perm (intKeys D) ∧
      w'.ownsRow w.heap.size 3 1 v ss.length ((ss.mergeSort (fun x y => decide (x ≤ y))).map encZ) ∧ Below w.heap.size w w' := by
  have hmax : Maps.size D ≤ maxLen := Nat.le_trans hown.size_le (by unfold maxLen; omega)
  have hbytes : Maps.size D * 8 ≤ 140737488355328 := by have := hown.size_le; omega
  have hbl := hown.lt
  have hseq : SeqGives Fence.wide 2 Tryz.prog 251 #[.pointer (some ⟨w.heap.size, 0, none⟩)] encZ (fun ss => ss.Perm (intKeys D)) (Maps.size D) (w.alloc (.cells #[.map (some m)] 199)) :=
    AnyZI.keys_gives (ρ := Tryz.keysG_ren) { Tryz.keysG with } Fence.wide _ trivial rfl (by omega) w.heap.size m N D _ (by simp) (by simp) (by
      obtain ⟨es, clock, hb, Ft, hs, hD⟩ := hown
      exact ⟨es, clock, (Below.heap_alloc _ _ m hbl).trans hb, Ft, hs, hD⟩)
  have cS := AnyZI.sorted_in Tryz.sortedA Fence.wide 5 trivial trivial trivial trivial rfl (by omega) (sortsA _) (enters_of Tryz.func243 (by kernel_rfl) rfl) 251 #[.pointer (some ⟨w.heap.size, 0, none⟩)] trivial (enters_of Tryz.func251 (by kernel_rfl) rfl) _ _ hmax hbytes _ hseq
  change CallsIn _ _ Tryz.prog 133 _ _ _ at cS
  refine (callsIn_wide.1 cS).mono ?_
  rintro e w' ⟨v, ss, rfl, hS, hrow, hnil, hb⟩
  exact ⟨v, ss, rfl, hS, ownsRow_base_a hrow (by simp), ((Below.refl _ w).alloc (Nat.le_refl _) _).trans (hb.mono (by simp))⟩

/-- The keys, rising. -/
theorem keys_up {w : World} {m N : Nat} {R : Value → Option (DataW Unit × List MemPlace)} {D : DataW Unit} (hm : w.ownsMap Tryz.prog 3 R m N D) {K ss : List Int} (hK : K.Pairwise (· < ·)) (hk : ∀ x : Int, Maps.has D (.int .i64 x) = true ↔ x ∈ K) (hp : ss.Perm (intKeys D)) :
    (ss.mergeSort fun x y => decide (x ≤ y)) = K ∧ ss.length = K.length := by
  have hc : CollectedI D (fun _ => false) K := ⟨hK.imp (fun h => by omega), fun x => by rw [hk x]; simp⟩
  have hp' : ss.Perm K := hp.trans (hc.perm hm law3 Tryz.underlying3 (fun _ => rfl)).symm
  refine ⟨?_, hp'.length_eq⟩
  rw [mergeSort_of_perm_i hp']
  exact List.mergeSort_of_pairwise (hK.imp (fun h => by simp; omega))

end Go.Proofs.YtebcjaenhiiflaaGreatDoor.S
namespace Go.Proofs.YtebcjaenhiiflaaGreatDoor.S
open Go.RowKit Go.WideMaps Go.Maps Go.Shelf
open Go.ChangeShapes (lits)

theorem key_big (y : Nat) (h : y ≤ 1099511627776) : keyOf Tryz.prog 3 (.int .i64 (y : Int)) = some (.int .i64 (y : Int)) := keyOf_int_mk Tryz.underlying3 (WalkArith.wf_i64 (by omega))

/-- The number of the edge at a place. -/
def idN (R : List (Int × Int × Int)) (j : Nat) : Nat := (idAt R j).toNat

theorem idN_cast {R : List (Int × Int × Int)} (h : ∀ e ∈ R, 0 ≤ e.1 ∧ e.1 ≤ 1099511627776) {j : Nat} (hj : j < R.length) : ((idN R j : Nat) : Int) = idAt R j ∧ idN R j ≤ 1099511627776 := by
  have h1 := idAt_of (List.getElem?_eq_getElem hj)
  have h2 := h _ (List.getElem_mem hj)
  unfold idN
  rw [h1]; omega

theorem idN_inj {R : List (Int × Int × Int)} (hu : G.Up R) (h : ∀ e ∈ R, 0 ≤ e.1 ∧ e.1 ≤ 1099511627776) {i j : Nat} (hi : i < R.length) (hj : j < R.length) (he : idN R i = idN R j) : i = j := by
  have h1 := idN_cast h hi
  have h2 := idN_cast h hj
  exact idAt_inj hu hi hj (by omega)

/-- Of the first k edges those whose least one has the number y. -/
def gN (R : List (Int × Int × Int)) (L : List Nat) (k y : Nat) : List Nat := ((List.range k).filter fun i => idN R (L.getD i 0) == y).map (idN R)

theorem gN_succ_same (R : List (Int × Int × Int)) (L : List Nat) (k : Nat) : gN R L (k + 1) (idN R (L.getD k 0)) = gN R L k (idN R (L.getD k 0)) ++ [idN R k] := by
  simp [gN, List.range_succ]

theorem gN_succ_other (R : List (Int × Int × Int)) (L : List Nat) (k y : Nat) (h : idN R (L.getD k 0) ≠ y) : gN R L (k + 1) y = gN R L k y := by
  have hb : (idN R (L.getD k 0) == y) = false := beq_eq_false_iff_ne.2 h
  unfold gN
  rw [List.range_succ, List.filter_append, List.filter_cons, hb]
  simp

theorem gN_len (R : List (Int × Int × Int)) (L : List Nat) (k y : Nat) : (gN R L k y).length ≤ k := by
  unfold gN
  rw [List.length_map]
  exact Nat.le_trans (List.length_filter_le _ _) (by simp)

/-- A map that reads as the rows gathered of the first k edges. -/
structure gI (R : List (Int × Int × Int)) (L : List Nat) (k : Nat) (D : DataW Unit) : Prop where
  map : IsMap D
  at_ : ∀ (y : Nat) (zd : DataW Unit), D.atKey (.int .i64 (y : Int)) zd = if gN R L k y = [] then zd else .slice (lits .i64 (ints (gN R L k y))) []
  neg : ∀ (x : Int), x < 0 → ∀ zd : DataW Unit, D.atKey (.int .i64 x) zd = zd

theorem gI_start (R : List (Int × Int × Int)) (L : List Nat) : gI R L 0 (.map []) := ⟨isMap_empty, fun y zd => by simp [gN]; rfl, fun x _ zd => rfl⟩

theorem gI_found {R : List (Int × Int × Int)} {L : List Nat} {k y : Nat} {D : DataW Unit} (h : gI R L k D) {w : World} {base : Nat} {e : TypeId} {v : Value} {zs : List Int} (ho : w.ownsInts base e .i64 v zs)
    (hat : D.atKey (.int .i64 (y : Int)) .nil = rowDatum .i64 v zs) : zs = ints (gN R L k y) := by
  rw [h.at_] at hat
  split at hat
  · next hg =>
    rw [hg]
    rcases ho.datum (H := Unit) with ⟨_, h2⟩ | h2
    · exact h2
    · rw [h2] at hat; cases hat
  · next hg =>
    rcases ho.datum (H := Unit) with ⟨h1, _⟩ | h2
    · rw [h1] at hat; cases hat
    · rw [h2] at hat
      injection hat with h3 _
      exact (lits_inj h3).symm

theorem gI_step {R : List (Int × Int × Int)} {L : List Nat} {k : Nat} {D : DataW Unit} (h : gI R L k D) {w w1 : World} {base : Nat} {e : TypeId} {v v' : Value} {zs : List Int} (ho : w.ownsInts base e .i64 v zs)
    (hat : D.atKey (.int .i64 ((idN R (L.getD k 0) : Nat) : Int)) .nil = rowDatum .i64 v zs) (ho' : w1.ownsInts base e .i64 v' (zs ++ [((idN R k : Nat) : Int)])) :
    gI R L (k + 1) (D.put (.int .i64 ((idN R (L.getD k 0) : Nat) : Int)) (rowDatum .i64 v' (zs ++ [((idN R k : Nat) : Int)]))) := by
  have hz := gI_found h ho hat
  refine ⟨h.map.put _ _, fun y zd => ?_, fun x hx zd => ?_⟩
  · by_cases e : idN R (L.getD k 0) = y
    · subst e
      rw [atKey_put_same h.map (by trivial), gN_succ_same, if_neg (by simp), ho'.datum_pos (by simp), hz, ints_append]
      rfl
    · have hne : Lit.int .i64 (y : Int) ≠ Lit.int .i64 ((idN R (L.getD k 0) : Nat) : Int) := fun h => e (by injection h with _ h2; omega)
      rw [atKey_put_other hne, h.at_, gN_succ_other R L k y e]
  · have hne : Lit.int .i64 x ≠ Lit.int .i64 ((idN R (L.getD k 0) : Nat) : Int) := fun h => by injection h with _ h2; omega
    rw [atKey_put_other hne]; exact h.neg x hx zd

/-- The rows of the blocks. -/
def blks (R : List (Int × Int × Int)) (L : List Nat) : List (List Nat) := (lst L R.length).map fun r => (grp L R.length r).map (idN R)

theorem gN_grp {R : List (Int × Int × Int)} {L : List Nat} (hu : G.Up R) (hid : ∀ e ∈ R, 0 ≤ e.1 ∧ e.1 ≤ 1099511627776) (g : Good R.length L) {r : Nat} (hr : r < R.length) : gN R L R.length (idN R r) = (grp L R.length r).map (idN R) := by
  unfold gN grp
  congr 1
  apply List.filter_congr
  intro i hi
  have hi' := List.mem_range.1 hi
  have := g.le i hi'
  rw [Bool.eq_iff_iff, beq_iff_eq, beq_iff_eq]
  exact ⟨fun h => idN_inj hu hid (by omega) hr h, fun h => by rw [h]⟩

theorem gI_keys {R : List (Int × Int × Int)} {L : List Nat} {D : DataW Unit} (hu : G.Up R) (hid : ∀ e ∈ R, 0 ≤ e.1 ∧ e.1 ≤ 1099511627776) (g : Good R.length L) (h : gI R L R.length D) (x : Int) : Maps.has D (.int .i64 x) = true ↔ x ∈ (lst L R.length).map (idAt R) := by
  by_cases hx : x < 0
  · rw [has_false_of_atKey (h.neg x hx)]
    simp only [Bool.false_eq_true, false_iff, List.mem_map, not_exists, not_and]
    intro r hr c
    have := idN_cast hid (mem_lst.1 hr).1
    omega
  · obtain ⟨y, rfl⟩ := Int.eq_ofNat_of_zero_le (show 0 ≤ x by omega)
    by_cases hg : gN R L R.length y = []
    · have hf : Maps.has D (.int .i64 (y : Int)) = false := has_false_of_atKey (fun z => by rw [h.at_, if_pos hg])
      rw [hf]
      simp only [Bool.false_eq_true, false_iff, List.mem_map, not_exists, not_and]
      intro r hr c
      obtain ⟨hrl, hrr⟩ := mem_lst.1 hr
      have h1 := idN_cast hid hrl
      obtain rfl : idN R r = y := by omega
      rw [gN_grp hu hid g hrl] at hg
      have : r ∈ grp L R.length r := mem_grp.2 ⟨hrl, hrr⟩
      rw [List.map_eq_nil_iff] at hg
      rw [hg] at this; cases this
    · have ht : Maps.has D (.int .i64 (y : Int)) = true := has_true_of_atKey (fun z => by rw [h.at_, if_neg hg])
      rw [ht]
      simp only [true_iff, List.mem_map]
      obtain ⟨z, hz⟩ := List.exists_mem_of_ne_nil _ hg
      unfold gN at hz
      obtain ⟨i, hi, rfl⟩ := List.mem_map.1 hz
      rw [List.mem_filter, List.mem_range, beq_iff_eq] at hi
      have hl := Nat.lt_of_le_of_lt (g.le i hi.1) hi.1
      refine ⟨L.getD i 0, mem_lst.2 ⟨hl, g.idem i hi.1⟩, ?_⟩
      have := idN_cast hid hl
      omega

theorem lst_up (L : List Nat) (n : Nat) : (lst L n).Pairwise (· < ·) := by
  unfold lst
  exact List.Pairwise.filter _ List.pairwise_lt_range

theorem ids_up {R : List (Int × Int × Int)} (hu : G.Up R) : (R.map (·.1)).Pairwise (· < ·) := by
  rw [List.pairwise_map]; exact hu

theorem lst_ids_up {R : List (Int × Int × Int)} (hu : G.Up R) (L : List Nat) : ((lst L R.length).map (idAt R)).Pairwise (· < ·) := by
  rw [List.pairwise_map]
  refine List.Pairwise.imp_of_mem ?_ (lst_up L R.length)
  intro a b _ hb hab
  exact idAt_lt hu hab (mem_lst.1 hb).1

theorem blks_at {R : List (Int × Int × Int)} {L : List Nat} {t r : Nat} (h : (lst L R.length)[t]? = some r) : (blks R L)[t]? = some ((grp L R.length r).map (idN R)) := by
  unfold blks
  rw [List.getElem?_map, h]; rfl

/-- The look-up, in a later world, of a row that is there. -/
theorem look_row {P : Program} {wl wr : World} {t k E base e b n y : Nat} {R : List (Int × Int × Int)} {L : List Nat} {m : Nat} {D : DataW Unit} (hg : wl.ownsGroups P k base e .i64 b n D) (hD : gI R L m D) (hb : Below wl.heap.size wl wr)
    (K : Keyed P k) (ht : P.underlying t = some (.map k E)) (hz : (zeroValue E).run P wr = .ok (.slice none 0 0) wr) (hkey : keyOf P k (.int .i64 (y : Int)) = some (.int .i64 (y : Int))) (hy : gN R L m y ≠ []) :
    ∃ r c, (Instr.lookup t (.map (some b)) (.int .i64 (y : Int)) false).run P wr = .ok (.slice (some ⟨r, 0, none⟩) (gN R L m y).length c) wr ∧ wl.ownsInts base e .i64 (.slice (some ⟨r, 0, none⟩) (gN R L m y).length c) (ints (gN R L m y)) := by
  obtain ⟨es, clock, hh, F, hs, rfl, hbb, hlen, hap⟩ := hg
  have hh' : wr.heap[b]? = some (.map es clock) := (hb.block b (lt_of_some hh)).trans hh
  rcases Maps.fit_look false K ht hz hh' F hkey with ⟨hrun, _, hat⟩ | ⟨e0, y0, hm0, h3, hrun, hR, hat, _⟩
  · have h1 := hat .nil
    rw [hD.at_, if_neg hy] at h1
    cases h1
  · obtain ⟨zs, ho, rfl⟩ := rowElem_inv hR
    have hzs := gI_found hD ho (hat .nil)
    subst hzs
    rcases ho.1.2 with ⟨_, h0⟩ | ⟨g, cap, cur, hv, _⟩
    · rw [ints_length] at h0
      exact absurd (List.length_eq_zero_iff.1 h0) hy
    · rw [ints_length] at hv
      simp only [Bool.false_eq_true, if_false] at hrun
      rw [hv] at hrun ho
      exact ⟨g, cap, hrun, ho⟩

end Go.Proofs.YtebcjaenhiiflaaGreatDoor.S
namespace Go.Proofs.YtebcjaenhiiflaaGreatDoor.S
open Go.RowKit Go.WideMaps Go.Maps Go.Shelf

theorem row_cellZ {w : World} {base : Nat} {v : Value} {K : List Int} (h : w.ownsRow base 3 1 v K.length (K.map encZ)) : ∃ a cap, v = .slice a K.length cap ∧ ∀ t x, K[t]? = some x → ∃ g, a = some ⟨g, 0, none⟩ ∧ base ≤ g ∧ g < w.heap.size ∧ w.cell? ⟨g, t, none⟩ = some (.int .i64 x) := by
  have h0 := h
  rcases h.2 with ⟨rfl, hz⟩ | ⟨g, cap, cur, rfl, hb, hg, _⟩
  · refine ⟨none, 0, by rw [hz], fun t x ht => ?_⟩
    have := (List.getElem?_eq_some_iff.1 ht).1; omega
  · refine ⟨_, cap, rfl, fun t x ht => ⟨g, rfl, hb, lt_of_some hg, ?_⟩⟩
    have hl := (List.getElem?_eq_some_iff.1 ht).1
    rw [h0.cellAt t (by omega), List.getElem?_map, ht]
    rfl

theorem rowsAre_take {wl : World} {base : Nat} {vs : List Value} {Gs : List (List Nat)} {t : Nat} {G : List Nat} {r c : Nat} (h : rowsAre wl base vs (Gs.take t)) (hG : Gs[t]? = some G) (ho : wl.ownsInts base 3 .i64 (.slice (some ⟨r, 0, none⟩) G.length c) (ints G)) :
    rowsAre wl base (vs ++ [.slice (some ⟨r, 0, none⟩) G.length c]) (Gs.take (t + 1)) := by
  have e : Gs.take (t + 1) = Gs.take t ++ [G] := by rw [List.take_add_one, hG]; rfl
  rw [e]
  exact rowsAre_snoc h ho

set_option maxHeartbeats 4000000 in
set_option maxRecDepth 100000 in
theorem bparts_any {R : List (Int × Int × Int)} {L : List Nat} (p m N : Nat) (D : DataW Unit) (v : Value) (w : World) (h : BlAt w p m N D v) (hl : Lm D R L) (g : Good R.length L) (hu : G.Up R) (hid : ∀ e ∈ R, 0 ≤ e.1 ∧ e.1 ≤ 1099511627776) (hR : R.length ≤ 120) (hN : N ≤ 1000) :
    Calls Tryz.prog 81 #[.pointer (some ⟨p, 0, none⟩)] w fun e w' => ∃ v', e = .returned v' ∧ AllAt w' v' (blks R L) ∧ Below w.heap.size w w' := by
  have HB : Hid (∀ w', Below w.heap.size w w' → BlAt w' p m N D v) := fun w' hb => h.below hb
  have HL : Hid (Lm D R L ∧ Good R.length L ∧ G.Up R ∧ ∀ e ∈ R, 0 ≤ e.1 ∧ e.1 ≤ 1099511627776) := ⟨hl, g, hu, hid⟩
  have hmm := @run_makeMap Tryz.prog
  have hp0 := h.plt
  -- the map of the rows
  obtain ⟨w1, hw1⟩ : ∃ w1, w1 = w.alloc (.map #[] 0) := ⟨_, rfl⟩
  have hb1 : Below w.heap.size w w1 := by rw [hw1]; exact (Below.refl _ _).alloc (Nat.le_refl _) _
  have hm1 : w1.heap[w.heap.size]? = some (.map #[] 0) := by rw [hw1]; exact heap_alloc_new w _
  have HW1 : Hid (w.alloc (.map #[] 0) = w1) := hw1.symm
  have HB1 : Hid (Below w.heap.size w w1 ∧ w1.heap[w.heap.size]? = some (.map #[] 0)) := ⟨hb1, hm1⟩
  have hc0 : (w.alloc (.map #[] 0)).cell? ⟨p, 0, none⟩ = some (.map (some m)) := by rw [World.cell?_alloc_lt _ _ _ hp0]; exact h.c0
  obtain ⟨i0, hi0, hz0, hz1, hz2⟩ := info_parts Tryz.info3
  clear h hl g hu hid hw1 hb1 hm1
  go_enter Tryz.func81, Tryz.ntmps81
  go_wp2_with fail
  rw [HW1.out]
  refine (keysL_any (some m) w1).mono ?_
  rintro e w2 ⟨rfl, rfl⟩
  clear hc0 hmm
  go_wp2_with fail
  refine (keysL_sorted (plainElem Tryz.prog 3) m N D w1 (HB.out w1 HB1.out.1).hm hN).mono ?_
  rintro e w3 ⟨v3, ss, rfl, hperm, hrow3, hb3⟩
  obtain ⟨e1, e2⟩ := keys_up (K := R.map (·.1)) (HB.out w1 HB1.out.1).hm (ids_up HL.out.2.2.1) (fun x => by rw [HL.out.1.key x]; simp) hperm
  rw [e1, e2] at hrow3
  obtain ⟨va, vc, rfl, hcell3⟩ := row_cellZ hrow3
  rw [List.length_map]
  obtain ⟨len, hlen⟩ : ∃ len, R.length = len := ⟨_, rfl⟩
  rw [hlen] at hR ⊢
  have HLEN : Hid (R.length = len) := hlen
  have HC3 : Hid (∀ t, t < len → ∃ g, va = some ⟨g, 0, none⟩ ∧ w1.heap.size ≤ g ∧ g < w3.heap.size ∧ w3.cell? ⟨g, t, none⟩ = some (.int .i64 ((idN R t : Nat) : Int))) := fun t ht => by
    have htl : t < R.length := by rw [hlen]; exact ht
    obtain ⟨g, h1, h2, h3, h4⟩ := hcell3 t (idAt R t) (by rw [List.getElem?_map, List.getElem?_eq_getElem htl]; simp [idAt, htl])
    exact ⟨g, h1, h2, h3, by rw [(idN_cast HL.out.2.2.2 htl).1]; exact h4⟩
  have hw1s : w.heap.size < w1.heap.size := lt_of_some HB1.out.2
  have hm3 : w3.heap[w.heap.size]? = some (.map #[] 0) := (hb3.block _ hw1s).trans HB1.out.2
  have HB3 : Hid (Below w.heap.size w w3 ∧ w3.ownsGroups (H := Unit) Tryz.prog 3 w3.heap.size 3 .i64 w.heap.size 0 (.map [])) :=
    ⟨HB1.out.1.trans (hb3.mono HB1.out.1.size), #[], 0, hm3, ⟨by simp, Go.MapKept.stamped_empty 0, by simp⟩, Nat.le_refl _, rfl, lt_of_some hm3, by simp, by simp⟩
  have hw3s := hb3.size
  clear hperm hrow3 hcell3 e1 e2 hb3 hm3 hlen HB1 HW1
  go_wp2_with fail
  go_loopw [18] (fun s18 wr => ∃ (t : Nat) (Dt : DataW Unit), t ≤ len ∧ s18 = .int .i64 t ∧ gI R L t Dt ∧ wr.ownsGroups Tryz.prog 3 w3.heap.size 3 .i64 w.heap.size t Dt ∧ But w.heap.size w3 wr) (fun s18 _ => len - (intOf s18).toNat)
  case atStart => exact ⟨0, .map [], Nat.zero_le _, rfl, gI_start R L, HB3.out.2, But.refl _ _⟩
  case round =>
    obtain ⟨t, Dt, ht, rfl, hgi, hown, hbt⟩ := hrel
    have HGI : Hid (gI R L t Dt) := hgi
    have HBT : Hid (But w.heap.size w3 wr) := hbt
    have hbw : Below w.heap.size w wr := HB3.out.1.trans (hbt.below (Nat.le_refl _) HB3.out.1.size)
    have HBW : Hid (Below w.heap.size w wr) := hbw
    have hwrs := hbt.size
    clear hgi hbt
    by_cases hlt : t < len
    · obtain ⟨g, rfl, hg1, hg2, hg3⟩ := HC3.out t hlt
      have htl : t < R.length := by rw [HLEN.out]; exact hlt
      have hc : wr.cell? ⟨g, t, none⟩ = some (.int .i64 ((idN R t : Nat) : Int)) := HBT.out.cell hg3 (by omega)
      have hLt := Nat.lt_of_le_of_lt (HL.out.2.1.le t htl) htl
      have i1 := idN_cast HL.out.2.2.2 htl
      have i2 := idN_cast HL.out.2.2.2 hLt
      have hbl := HB.out wr hbw
      have hc0 := hbl.c0
      have hlk := look_least hbl.hm HL.out.1 (List.getElem?_eq_getElem htl) (wf_small (HL.out.2.2.2 _ (List.getElem_mem htl)).1 (HL.out.2.2.2 _ (List.getElem_mem htl)).2)
      rw [← idAt_of (List.getElem?_eq_getElem htl), ← i1.1, ← i2.1] at hlk
      have hkey := key_big (idN R (L.getD t 0)) i2.2
      have hwk : (Lit.int .i64 ((idN R t : Nat) : Int)).wf = true := wf_small (by omega) (by omega)
      obtain ⟨X, hX⟩ : ∃ X, idN R t = X := ⟨_, rfl⟩
      obtain ⟨Y, hY⟩ : ∃ Y, idN R (L.getD t 0) = Y := ⟨_, rfl⟩
      rw [hX] at hc hlk hwk
      rw [hY] at hlk hkey
      have HXY : Hid (idN R t = X ∧ idN R (L.getD t 0) = Y) := ⟨hX, hY⟩
      clear hg3 hLt i1 i2 hbl hX hY htl hbw
      go_upto_region 6 with fail
      go_wp2_with (first
        | (at_lookup; refine wpList_lookup_groups _ rfl _ _ 199 rfl 3 48 3 .i64 law3 Tryz.underlying199 (zero48 _) w3.heap.size w.heap.size t _ rfl hown (by unfold maxLen; omega) _ _ rfl hkey ?_; intro v6 zs hat hoi hzl hback)
        | (at_builtin; refine wpList_append_own_at _ rfl _ _ 48 rfl w3.heap.size 3 i0 (.int .i64 0) 1 8 Tryz.underlying48 hi0 hz0 hz1 hz2 rfl (by decide) _ _ _ rfl (hoi.1.alloc _) ⟨wr.heap.size, 0, none⟩ 1 1 [.int .i64 (X : Int)] rfl rfl (cell_one_new _ _ _) (ints_oneCell .i64 [(X : Int)]) (by unfold maxLen; omega) (by omega) (by simp; omega) ?_; intro v' w5 hown' hgrow hnil hloc)
        | (at_mapUpdate; refine wpList_mapUpdate_back _ rfl _ _ _ 199 rfl hback rfl rfl rfl ((World.grownBy_alloc _ _ _).trans hgrow) (hoi.appended hown' hwk) (by simp; omega) (hloc.imp id (fun h => ⟨_, h, by simp⟩)) ?_; intro w6 hown6 hgrow6)
        | fail)
      have hall := (World.grownBy_alloc wr _ _).trans hgrow
      have ho' := hoi.appended hown' hwk
      rw [← HXY.out.2] at hat hown6
      rw [← HXY.out.1] at ho' hown6
      have hst := gI_step HGI.out hoi hat ho'
      have hbt6 : But w.heap.size w3 w6 := by
        refine ⟨hgrow6.os.trans (hall.os.trans HBT.out.os), hgrow6.tape.trans (hall.tape.trans HBT.out.tape), hgrow6.output.trans (hall.output.trans HBT.out.output), Nat.le_trans HBT.out.size (Nat.le_trans hall.size hgrow6.size), fun k hk hne => ?_⟩
        have hkr : k < wr.heap.size := Nat.lt_of_lt_of_le hk HBT.out.size
        rw [hgrow6.block k (Nat.lt_of_lt_of_le hkr hall.size) (by simpa using hne), hall.block k hkr (fun c => by have := (hoi.1.lt k c.symm).1; omega)]
        exact HBT.out.block k hk hne
      go_roundw
      case rel => exact ⟨t + 1, _, by omega, by go_num, hst, hown6, hbt6⟩
      case measure => simp [intOf]; omega
    · have hte : t = len := by omega
      subst hte
      obtain ⟨km, hkm, hlenm⟩ := len_groups hown Tryz.underlying199
      obtain ⟨j0, hj, hj0, hj1, hj2⟩ := info_parts Tryz.info48
      have HG : Hid (gI R L R.length Dt) := by
        show gI R L R.length Dt
        rw [HLEN.out]; exact HGI.out
      have HO : Hid (wr.ownsGroups Tryz.prog 3 w3.heap.size 3 .i64 w.heap.size t Dt) := hown
      have hmlt : w.heap.size < wr.heap.size := by omega
      rename World => wl
      clear HGI HC3 HB HBT hown hi0 hz0 hz1 hz2
      go_wp2_with (first
        | (at_make; refine wpList_make_own _ rfl _ _ 51 rfl wl.heap.size 48 j0 (.slice none 0 0) 1 Tryz.underlying51 hj hj0 hj1 .i64 .i64 _ km rfl rfl rfl (by rw [hj2]; omega) (by unfold maxLen; omega) (Nat.le_refl _) ?_; intro w5 hown5 hgrow5)
        | fail)
      have HB5 : Hid (Below wl.heap.size wl w5) := (Below.refl _ _).grown hgrow5 (Nat.le_refl _) (by simp)
      have HO5 : Hid (w5.ownsRow wl.heap.size 48 1 (.slice (some ⟨wl.heap.size, 0, none⟩) 0 km) 0 []) := hown5
      clear hgrow5 hlenm hown5
      have HM5 : Hid (w5.ownsMap Tryz.prog 3 (rowElem (H := Unit) wl w3.heap.size 3 .i64) w.heap.size t Dt) := by
        obtain ⟨es, clock, hb, F, hs, hD, _⟩ := HO.out
        exact ⟨es, clock, (HB5.out.block _ hmlt).trans hb, F, hs, hD⟩
      go_wp2_with fail
      refine (keysG_any (some w.heap.size) w5).mono ?_
      rintro e w6 ⟨rfl, rfl⟩
      go_wp2_with fail
      refine (keysG_sorted _ w.heap.size t Dt w5 HM5.out (by omega)).mono ?_
      rintro e w7 ⟨v7, ss7, rfl, hperm7, hrow7, hb7⟩
      obtain ⟨f1, f2⟩ := keys_up (K := (lst L R.length).map (idAt R)) HM5.out (lst_ids_up HL.out.2.2.1 L) (gI_keys HL.out.2.2.1 HL.out.2.2.2 HL.out.2.1 HG.out) hperm7
      rw [f1, f2] at hrow7
      obtain ⟨vb, vd, rfl, hcell7⟩ := row_cellZ hrow7
      rw [List.length_map]
      obtain ⟨k2, hk2⟩ : ∃ k2, (lst L R.length).length = k2 := ⟨_, rfl⟩
      rw [hk2]
      have HK2 : Hid ((lst L R.length).length = k2) := hk2
      have hk2l : k2 ≤ 120 := by
        rw [← hk2]
        have : (lst L R.length).length ≤ R.length := by unfold lst; exact Nat.le_trans (List.length_filter_le _ _) (by simp)
        have := HLEN.out; omega
      have HC7 : Hid (∀ t', t' < k2 → ∃ g r, vb = some ⟨g, 0, none⟩ ∧ (lst L R.length)[t']? = some r ∧ w5.heap.size ≤ g ∧ w7.cell? ⟨g, t', none⟩ = some (.int .i64 ((idN R r : Nat) : Int))) := fun t' ht' => by
        have htl : t' < (lst L R.length).length := by rw [hk2]; exact ht'
        have hr := List.getElem?_eq_getElem htl
        obtain ⟨g, h1, h2, _, h4⟩ := hcell7 t' (idAt R (lst L R.length)[t']) (by rw [List.getElem?_map, hr]; rfl)
        exact ⟨g, _, h1, hr, h2, by rw [(idN_cast HL.out.2.2.2 (mem_lst.1 (List.getElem_mem htl)).1).1]; exact h4⟩
      have HB7 : Hid (Below wl.heap.size wl w7 ∧ Below w5.heap.size w5 w7) := ⟨HB5.out.trans (hb7.mono HB5.out.size), hb7⟩
      have HO7 : Hid (w7.ownsRow wl.heap.size 48 1 (.slice (some ⟨wl.heap.size, 0, none⟩) 0 km) 0 []) := HO5.out.kept (row := none) ⟨hb7.os, hb7.tape, hb7.output, hb7.size, fun k hk _ => hb7.block k hk⟩ (.inr (by simp [Value.ownBlock]))
      have hw7s := HB7.out.1.size
      have hw5s : wl.heap.size < w5.heap.size := (World.ownsRow.lt HO5.out wl.heap.size rfl).2
      clear hperm7 hrow7 hcell7 hb7 f1 f2 hk2 HM5 HO5
      go_wp2_with fail
      go_loopw [7, 44] (fun s7 s44 wq => ∃ (t' : Nat) (vs : List Value), t' ≤ k2 ∧ s44 = .int .i64 t' ∧ rowsAre wl w3.heap.size vs ((blks R L).take t') ∧ wq.ownsRow wl.heap.size 48 1 s7 vs.length vs ∧ s7 ≠ .slice none 0 0 ∧ (s7.ownBlock = some wl.heap.size ∨ ∃ g, s7.ownBlock = some g ∧ w7.heap.size ≤ g) ∧ Below wl.heap.size wl wq ∧ But wl.heap.size w7 wq) (fun _ s44 _ => k2 - (intOf s44).toNat)
      case atStart => exact ⟨0, [], Nat.zero_le _, rfl, ⟨rfl, by simp⟩, HO7.out, by simp, .inl rfl, HB7.out.1, But.refl _ _⟩
      case round =>
        obtain ⟨t', vs, ht', rfl, hrows, howk, htn, hob, hbk, hbt'⟩ := hrel
        have hvl := hrows.1
        have hbl : (blks R L).length = k2 := by unfold blks; rw [List.length_map, HK2.out]
        have hvl2 : vs.length ≤ 120 := by rw [hvl]; simp; omega
        clear HO7
        by_cases hlt : t' < k2
        · obtain ⟨g, r, rfl, hr, hg1, hg2⟩ := HC7.out t' hlt
          obtain ⟨hrl, hrr⟩ := mem_lst.1 (List.mem_of_getElem? hr)
          have hc : wr.cell? ⟨g, t', none⟩ = some (.int .i64 ((idN R r : Nat) : Int)) := hbt'.cell hg2 (by omega)
          have hgn := gN_grp HL.out.2.2.1 HL.out.2.2.2 HL.out.2.1 hrl
          have hne : gN R L R.length (idN R r) ≠ [] := by
            rw [hgn]
            intro c
            rw [List.map_eq_nil_iff] at c
            have : r ∈ grp L R.length r := mem_grp.2 ⟨hrl, hrr⟩
            rw [c] at this; cases this
          obtain ⟨rr, cc, hrun, hoi⟩ := look_row HO.out HG.out hbk law3 Tryz.underlying199 (zero48 wr) (key_big (idN R r) (idN_cast HL.out.2.2.2 hrl).2) hne
          rw [hgn] at hrun hoi
          have HR : Hid (rowsAre wl w3.heap.size (vs ++ [.slice (some ⟨rr, 0, none⟩) ((grp L R.length r).map (idN R)).length cc]) ((blks R L).take (t' + 1))) := rowsAre_take hrows (blks_at hr) hoi
          have HBT : Hid (But wl.heap.size w7 wr ∧ Below wl.heap.size wl wr) := ⟨hbt', hbk⟩
          have HOB : Hid (u7.ownBlock = some wl.heap.size ∨ ∃ g, u7.ownBlock = some g ∧ w7.heap.size ≤ g) := hob
          have hbks := hbk.size
          have hbts := hbt'.size
          generalize idN R r = X at *
          generalize ((grp L R.length r).map (idN R)).length = gl at *
          clear hrows hoi hgn hne hr hrl hrr hg2 hob hbk hbt'
          go_wp2_with (first
            | (at_builtin; refine wpList_append_own_at _ rfl _ _ 51 rfl wl.heap.size 48 j0 (.slice none 0 0) 1 24 Tryz.underlying51 hj hj0 hj1 hj2 rfl (by decide) u7 vs.length vs rfl (howk.alloc _) ⟨wr.heap.size, 0, none⟩ 1 1 [.slice (some ⟨rr, 0, none⟩) gl cc] rfl rfl (cell_one_new _ _ _) (one_slice _ _ _) (by unfold maxLen; omega) (by omega) (by simp; omega) ?_; intro v9 w9 hown9 hgrow9 hnil9 hloc9)
            | fail)
          have hall := (World.grownBy_alloc wr _ _).trans hgrow9
          have hbt9 : But wl.heap.size w7 w9 := by
            refine ⟨hall.os.trans HBT.out.1.os, hall.tape.trans HBT.out.1.tape, hall.output.trans HBT.out.1.output, Nat.le_trans HBT.out.1.size hall.size, fun k hk hne => ?_⟩
            rw [hall.block k (by omega) (fun c => ?_)]
            · exact HBT.out.1.block k hk hne
            · rcases HOB.out with c1 | ⟨g', c1, c2⟩
              · rw [c1] at c; injection c with c; exact hne c
              · rw [c1] at c; injection c with c; omega
          have hob9 : v9.ownBlock = some wl.heap.size ∨ ∃ g, v9.ownBlock = some g ∧ w7.heap.size ≤ g := by
            rcases hloc9 with c | c
            · rw [c]; exact HOB.out
            · exact .inr ⟨_, c, by simp; omega⟩
          go_roundw
          case rel => exact ⟨t' + 1, _, by omega, by go_num, HR.out, by simpa using hown9, fun h => htn (hnil9.1 h).1, hob9, HBT.out.2.grown hall HBT.out.2.size (fun j hj => (howk.lt j hj).1), hbt9⟩
          case measure => simp [intOf]; omega
        · have hke : t' = k2 := by omega
          subst hke
          have HA : Hid (AllAt wr u7 (blks R L)) := by
            have htk : (blks R L).take t' = blks R L := List.take_of_length_le (by omega)
            rw [htk] at hrows
            exact allAt_of hrows howk htn hbk
          have HBF : Hid (Below w.heap.size w wr) := HBW.out.trans (hbk.mono HBW.out.size)
          clear hrows howk hbk hbt' hob
          go_wp2
          go_ret
          exact ⟨_, rfl, HA.out, HBF.out⟩

end Go.Proofs.YtebcjaenhiiflaaGreatDoor.S
namespace Go.Proofs.YtebcjaenhiiflaaGreatDoor.S
open Go.RowKit Go.WideMaps Go.Maps

theorem nats_one (cs : List Nat) : ∀ u ∈ natsV cs, u.oneCell' = true := by
  intro u hu
  unfold natsV at hu
  obtain ⟨x, _, rfl⟩ := List.mem_map.1 hu
  rfl

theorem empty_row (w : World) : (w.alloc (.cells #[] 3)).ownsRow w.heap.size 3 1 (.slice (some ⟨w.heap.size, 0, none⟩) 0 0) 0 [] :=
  ⟨rfl, .inr ⟨w.heap.size, 0, #[], rfl, Nat.le_refl _, heap_alloc_new w _, Nat.le_refl _, by unfold maxLen; omega, rfl, rfl⟩⟩

set_option maxHeartbeats 1000000 in
set_option maxRecDepth 100000 in
theorem clone_any (v : Value) (B0 : Nat) (cs : List Nat) (w : World) (h : w.ownsRow B0 3 1 v cs.length (natsV cs)) (hcs : cs.length ≤ 1000) :
    Calls Tryz.prog 136 #[v] w fun e w' => ∃ v', e = .returned v' ∧ w'.ownsRow w.heap.size 3 1 v' cs.length (natsV cs) ∧ Below w.heap.size w w' := by
  have h0 := h
  have hq := fun (a : Option Addr) (n c : Nat) (W : World) => Lib.run_eql_slice_nil (P := Tryz.prog) W 48 3 a n c 0 0 Tryz.underlying48
  rcases h.2 with ⟨rfl, hz⟩ | ⟨g, cap, cur, rfl, hB, hg, _⟩
  · have HN : Hid (cs = []) := List.eq_nil_of_length_eq_zero hz
    clear h h0 hz
    go_enter Tryz.func136, Tryz.ntmps136
    go_wp2
    go_ret
    exact ⟨_, rfl, by rw [HN.out]; exact World.ownsRow_nil _ _ _ _, Below.refl _ _⟩
  · obtain ⟨i0, hi0, hz0, hz1, hz2⟩ := info_parts Tryz.info3
    have hlt := lt_of_some hg
    have hcells : ∀ j u, (natsV cs)[j]? = some u → (w.alloc (.cells #[] 3)).cell? ((⟨g, 0, none⟩ : Addr).add j) = some u := fun j u hj => World.ownsRow.cells (h0.alloc _) rfl j u hj
    have hnl : (natsV cs).length = cs.length * 1 := by simp [natsV]
    clear h h0 hg hB
    go_enter Tryz.func136, Tryz.ntmps136
    go_wp2_with (first
      | (at_builtin; refine wpList_append_own_at _ rfl _ _ 48 rfl w.heap.size 3 i0 (.int .i64 0) 1 8 Tryz.underlying48 hi0 hz0 hz1 hz2 rfl (by decide) (.slice (some ⟨w.heap.size, 0, none⟩) 0 0) 0 [] rfl (empty_row w) ⟨g, 0, none⟩ cs.length cap (natsV cs) rfl hnl hcells (nats_one cs) (by unfold maxLen; omega) (by omega) (by simp) ?_; intro v5 w5 hown5 hgrow5 hnil5 hloc5)
      | fail)
    go_ret
    refine ⟨_, rfl, by simpa using hown5, ?_⟩
    exact ((Below.refl _ w).alloc (Nat.le_refl _) _).grown hgrow5 (by simp) (fun j hj => by simp [Value.ownBlock] at hj; omega)

set_option maxHeartbeats 400000 in
set_option maxRecDepth 100000 in
theorem bcuts_any (p m N B0 : Nat) (D : DataW Unit) (v : Value) (cs : List Nat) (w : World) (h : BlAt w p m N D v) (hr : w.ownsRow B0 3 1 v cs.length (natsV cs)) (hcs : cs.length ≤ 1000) :
    Calls Tryz.prog 80 #[.pointer (some ⟨p, 0, none⟩)] w fun e w' => ∃ v', e = .returned v' ∧ w'.ownsRow w.heap.size 3 1 v' cs.length (natsV cs) ∧ Below w.heap.size w w' := by
  have hc1 := h.c1
  have HC : Hid _ := clone_any v B0 cs w hr hcs
  clear h hr
  go_enter Tryz.func80, Tryz.ntmps80
  go_wp2_with fail
  refine Calls.mono HC.out ?_
  rintro e w1 ⟨v', rfl, ho, hb⟩
  have HR : Hid (w1.ownsRow w.heap.size 3 1 v' cs.length (natsV cs) ∧ Below w.heap.size w w1) := ⟨ho, hb⟩
  clear ho hb HC hc1
  go_wp2_with fail
  go_ret
  exact ⟨_, rfl, HR.out⟩

end Go.Proofs.YtebcjaenhiiflaaGreatDoor.S
