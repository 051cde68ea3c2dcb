/- Graphs: slices.Delete at edges, and Drop. -/
import Derived.Test.YtebcjaenhiiflaaGreatDoorG5
import Derived.Laws.CopyRow
namespace Go.Proofs.YtebcjaenhiiflaaGreatDoor.G
open Go.RowKit
variable {P : Program}

theorem run_clear_rowK (w : World) (t e ty : TypeId) (z : Value) (ht : P.underlying t = some (.slice e)) (hv : ∀ w, (zeroValue e).run P w = .ok z w) (g o n c : Nat) (hn : 0 < n) (cur : List Value) (te : TypeId)
    (hg : w.heap[g]? = some (.cells cur.toArray te (0, 0))) (hfit : o + (Builtin.zeroCells z.cells n).toList.length ≤ cur.length) (h1 : ∀ v ∈ (Builtin.zeroCells z.cells n).toList, v.oneCell' = true) :
    (Builtin.clear_ #[t] ty #[.slice (some ⟨g, o, none⟩) n c]).run P w = .ok (.tuple #[]) (w.setRow g (splice cur o (Builtin.zeroCells z.cells n).toList).toArray) := by
  have hst := run_storeCells_at P g o te _ 0 cur.toArray w hg (by simpa using hfit) h1
  simp only [Nat.add_zero] at hst
  obtain ⟨m, rfl⟩ : ∃ m, n = m + 1 := ⟨n - 1, by omega⟩
  simp [Builtin.clear_, run_underlying ht, hv, hst, splice]

/-- The row behind what is taken out. -/
def closed (cur : List Value) (L : List E) (i : Nat) : List Value := cur.take (i * 3) ++ rowV (L.drop (i + 1)) ++ cur.drop (i * 3 + (rowV (L.drop (i + 1))).length)

theorem closed_length {cur : List Value} {L : List E} {i : Nat} (hi : i < L.length) (hroom : L.length * 3 ≤ cur.length) : (closed cur L i).length = cur.length := by
  unfold closed
  simp [rowV_length]
  omega

theorem closed_take {cur : List Value} {L : List E} {i : Nat} (hi : i < L.length) (h : cur.take (L.length * 3) = rowV L) (hroom : L.length * 3 ≤ cur.length) (cs : List Value) : (splice (closed cur L i) ((L.length - 1) * 3) cs).take ((L.length - 1) * 3) = rowV (L.take i ++ L.drop (i + 1)) := by
  have hl := closed_length hi hroom
  unfold splice
  rw [List.take_append_of_le_length (by simp; omega), List.take_of_length_le (by simp; omega)]
  unfold closed
  have e1 : cur.take (i * 3) = rowV (L.take i) := by
    rw [← rowV_take, ← h, List.take_take]
    congr 1
    omega
  have hlt : (rowV (L.take i)).length = i * 3 := by rw [rowV_length]; simp; omega
  have hld : (rowV (L.drop (i + 1))).length = (L.length - (i + 1)) * 3 := by rw [rowV_length]; simp
  rw [e1, ← rowV_append, List.take_append_of_le_length (by rw [rowV_length, out_length hi]; omega), List.take_of_length_le (by rw [rowV_length, out_length hi]; omega)]

theorem zeroE_one (n : Nat) : ∀ u ∈ (Builtin.zeroCells zE.cells n).toList, u.oneCell' = true := by
  intro u hu
  rw [zE_cells] at hu
  simp only [Builtin.zeroCells, Array.toList_map, List.mem_map] at hu
  obtain ⟨a, _, rfl⟩ := hu
  have : a % 3 < 3 := Nat.mod_lt _ (by omega)
  show (#[Value.int .i64 0, Value.int .i64 0, Value.int .i64 0][a % 3]!).oneCell' = true
  generalize a % 3 = r at this
  match r, this with
  | 0, _ => rfl
  | 1, _ => rfl
  | 2, _ => rfl

set_option maxHeartbeats 4000000 in
set_option maxRecDepth 100000 in
theorem delete_walk (i k g cap : Nat) (w W1 W2 : World) (hi : i ≤ k) (hk : k + 1 ≤ cap) (hcap : cap ≤ 9223372036854775807) (hkl : k ≤ 1000)
    (hap : ∀ ty A sc, (i < k → A = ⟨g, (i + 1) * 3, none⟩) → (Builtin.append_ #[33, 33] ty #[.slice (some ⟨g, 0, none⟩) i cap, .slice (some A) (k - i) sc]).run Tryz.prog w.drew = .ok (.slice (some ⟨g, 0, none⟩) k cap) W1)
    (hcl : ∀ ty sc, (Builtin.clear_ #[33] ty #[.slice (some ⟨g, k * 3, none⟩) 1 sc]).run Tryz.prog W1 = .ok (.tuple #[]) W2) :
    Calls Tryz.prog 115 #[.slice (some ⟨g, 0, none⟩) (k + 1) cap, .int .i64 (i : Int), .int .i64 ((i : Int) + 1)] w fun e w' => e = .returned (.slice (some ⟨g, 0, none⟩) k cap) ∧ w' = W2 := by
  have hic : i ≤ cap := by omega
  have hki : k + 1 - (i + 1) = k - i := by omega
  have hz1 : ¬ ((i : Int) = (i : Int) + 1) := by omega
  have hb1 : (i : Int) + 1 ≤ (k : Int) + 1 := by omega
  have hb2 : (i : Int) ≤ (i : Int) + 1 := by omega
  have hb3 : (0 : Int) ≤ (i : Int) + 1 := by omega
  have hb4 : (i : Int) ≤ (cap : Int) := by omega
  have htn : ((i : Int) + 1).toNat = i + 1 := by omega
  have hw1 : IntKind.i64.wrap ((i : Int) + 1) = (i : Int) + 1 := by rw [IntKind.wrap_i64]; omega
  have hck : ¬ (cap = k) := by omega
  have hkk : k + 1 - k = 1 := by omega
  by_cases hcj : cap = i + 1
  · have hap1 : ∀ ty sc, (Builtin.append_ #[33, 33] ty #[.slice (some ⟨g, 0, none⟩) i cap, .slice (some ⟨g, 0, none⟩) (k - i) sc]).run Tryz.prog w.drew = .ok (.slice (some ⟨g, 0, none⟩) k cap) W1 := fun ty sc => hap ty _ sc (fun h => by omega)
    have HAP : Hid (∀ ty sc, (Builtin.append_ #[33, 33] ty #[.slice (some ⟨g, 0, none⟩) i cap, .slice (some ⟨g, 0, none⟩) (k - i) sc]).run Tryz.prog w.drew = .ok (.slice (some ⟨g, 0, none⟩) k cap) W1) := hap1
    clear hap hap1
    go_enter Tryz.func115, Tryz.ntmps115
    go_wp2
    go_region_law (refine step_append_runK rfl (.tmp 22) (.tmp 25) 33 33 rfl (.slice (some ⟨g, 0, none⟩) i cap) (.slice (some ⟨g, 0, none⟩) (k - i) (cap - (i + 1))) (by simp [Act.eval, Act.put, hcj]) (by simp [Act.eval, Act.put, hcj]) (HAP.out _ _) ?_)
    go_wp2
    go_ret
    exact ⟨by rw [hcj]; rfl, rfl⟩
  · have hap1 : ∀ ty sc, (Builtin.append_ #[33, 33] ty #[.slice (some ⟨g, 0, none⟩) i cap, .slice (some ⟨g, (i + 1) * 3, none⟩) (k - i) sc]).run Tryz.prog w.drew = .ok (.slice (some ⟨g, 0, none⟩) k cap) W1 := fun ty sc => hap ty _ sc (fun h => rfl)
    have HAP : Hid (∀ ty sc, (Builtin.append_ #[33, 33] ty #[.slice (some ⟨g, 0, none⟩) i cap, .slice (some ⟨g, (i + 1) * 3, none⟩) (k - i) sc]).run Tryz.prog w.drew = .ok (.slice (some ⟨g, 0, none⟩) k cap) W1) := hap1
    clear hap hap1
    go_enter Tryz.func115, Tryz.ntmps115
    go_wp2
    go_region_law (refine step_append_runK rfl (.tmp 22) (.tmp 25) 33 33 rfl (.slice (some ⟨g, 0, none⟩) i cap) (.slice (some ⟨g, (i + 1) * 3, none⟩) (k - i) (cap - (i + 1))) (by simp [Act.eval, Act.put]) (by simp [Act.eval, Act.put]) (HAP.out _ _) ?_)
    go_wp2
    go_ret
    exact ⟨rfl, rfl⟩

theorem delete_any (B i : Nat) (v : Value) (L M : List E) (w : World) (h : Owns w B 61 v L) (hi : i < L.length) (hl : L.length ≤ 1000) (hM : M = L.take i ++ L.drop (i + 1)) :
    Calls Tryz.prog 115 #[v, .int .i64 (i : Int), .int .i64 ((i : Int) + 1)] w fun e w' => ∃ v', e = .returned v' ∧ Owns w' B 61 v' M ∧ w.grownBy w' v.ownBlock ∧ Fresh w v v' := by
  subst hM
  rcases h.2 with ⟨_, h0⟩ | ⟨g, cap, cur, rfl, hBg, hg, hnc, hm, hsz, htk⟩
  · omega
  obtain ⟨k, hk⟩ : ∃ k, L.length = k + 1 := ⟨L.length - 1, by omega⟩
  obtain ⟨inf, hinf, hs, hb, hz⟩ := info61
  have hcl : (closed cur.toList L i).length = cur.size := by rw [closed_length hi (by simp; omega)]; simp
  have hld : (rowV (L.drop (i + 1))).length = (k - i) * 3 := by rw [rowV_length]; simp; omega
  have hap : ∀ ty A sc, (i < k → A = ⟨g, (i + 1) * 3, none⟩) → (Builtin.append_ #[33, 33] ty #[.slice (some ⟨g, 0, none⟩) i cap, .slice (some A) (k - i) sc]).run Tryz.prog w.drew = .ok (.slice (some ⟨g, 0, none⟩) k cap) (w.drew.setRow g (closed cur.toList L i).toArray) := by
    intro ty A sc hA
    have hr := run_append_room (P := Tryz.prog) w.drew 33 ty 61 inf Tryz.underlying33 hinf g i cap cur hg A (k - i) sc (rowV (L.drop (i + 1))) (by rw [hs]; exact hld) (fun j u hu => by
        rcases Nat.lt_or_ge i k with hlt | hge
        · rw [hA hlt]
          exact drop_cells h rfl (i + 1) j u hu
        · have h0 : (rowV (L.drop (i + 1))).length = 0 := by rw [hld]; omega
          rw [List.length_eq_zero_iff.1 h0] at hu
          simp at hu) (rowV_one _) (by omega) (by rw [hs, hld]; omega)
    rw [hr, hs, show i + (k - i) = k by omega]
    rfl
  have hg1 : (w.drew.setRow g (closed cur.toList L i).toArray).heap[g]? = some (.cells (closed cur.toList L i).toArray 61 (0, 0)) := setRow_heap w.drew g cur _ 61 (0, 0) hg
  have hcr : ∀ ty sc, (Builtin.clear_ #[33] ty #[.slice (some ⟨g, k * 3, none⟩) 1 sc]).run Tryz.prog (w.drew.setRow g (closed cur.toList L i).toArray) = .ok (.tuple #[]) ((w.drew.setRow g (closed cur.toList L i).toArray).setRow g (splice (closed cur.toList L i) (k * 3) (Builtin.zeroCells zE.cells 1).toList).toArray) := fun ty sc =>
    run_clear_rowK _ 33 61 ty zE Tryz.underlying33 Tryz.zeroValue61 g (k * 3) 1 sc (by omega) _ 61 hg1 (by rw [zeroE_length, hcl]; omega) (zeroE_one 1)
  have hwalk := delete_walk i k g cap w _ _ (by omega) (by omega) (by simp only [maxLen] at hm; omega) (by omega) hap hcr
  rw [hk]
  refine hwalk.mono ?_
  rintro e w' ⟨rfl, rfl⟩
  refine ⟨_, rfl, ?_, ?_, fun b hb => Or.inl hb⟩
  · have hlen : (L.take i ++ L.drop (i + 1)).length = k := by rw [out_length hi]; omega
    rw [setRow_setRow]
    refine ⟨rowV_length _, Or.inr ⟨g, cap, _, by rw [hlen], hBg, setRow_heap w.drew g cur _ 61 (0, 0) hg, by rw [hlen]; omega, hm, ?_, ?_⟩⟩
    · rw [List.size_toArray, length_splice _ _ _ (by rw [zeroE_length, hcl]; omega), hcl]; exact hsz
    · show (splice _ _ _).take _ = _
      have := closed_take hi htk (by simp; omega) (Builtin.zeroCells zE.cells 1).toList
      rw [hk, show k + 1 - 1 = k by omega] at this
      rw [hlen]; exact this
  · rw [setRow_setRow]
    exact ⟨rfl, rfl, rfl, by simp, fun j _ hn => setRow_other w.drew g j _ (fun e => hn (by simp [Value.ownBlock, e]))⟩

set_option maxHeartbeats 1000000 in
set_option maxRecDepth 100000 in
theorem drop_miss (id n : Int) (B p : Nat) (v : Value) (L : List E) (w : World) (h : GAt w B 168 61 p n v L) (hu : Up L) (hl : L.length ≤ 120) (hs : seen L id = none) :
    Calls Tryz.prog 55 #[.pointer (some ⟨p, 0, none⟩), .int .i64 id] w fun e w' => e = .returned (.iface 23 (.int .i64 7)) ∧ Below w.heap.size w w' := by
  have HC : Hid (Calls Tryz.prog 114 #[.pointer (some ⟨p, 0, none⟩), .int .i64 id] w fun e w' => e = .returned (.tuple #[.int .i64 (place L id : Nat), .bool false]) ∧ Below w.heap.size w w') := find_any id B p (place L id) n v L false w h hu (by omega) rfl (by rw [hs]; rfl)
  clear h hu hs
  go_enter Tryz.func55, Tryz.ntmps55
  go_wp2_with fail
  refine HC.out.mono ?_
  rintro e w1 ⟨rfl, hb⟩
  have HB : Hid (Below w.heap.size w w1) := hb
  clear hb
  go_wp2
  go_ret
  exact ⟨rfl, HB.out⟩

set_option maxHeartbeats 2000000 in
set_option maxRecDepth 100000 in
theorem drop_hit (id n : Int) (B p k : Nat) (v : Value) (L : List E) (x : E) (w : World) (h : GAt w B 168 61 p n v L) (hu : Up L) (hl : L.length ≤ 120) (hk : k = place L id) (hx : L[k]? = some x) (hs : seen L id = some x) :
    Calls Tryz.prog 55 #[.pointer (some ⟨p, 0, none⟩), .int .i64 id] w fun e w' => e = .returned .nilIface ∧ Step1 w w' B 168 p n v (L.take k ++ L.drop (k + 1)) := by
  have HC : Hid (Calls Tryz.prog 114 #[.pointer (some ⟨p, 0, none⟩), .int .i64 id] w fun e w' => e = .returned (.tuple #[.int .i64 (k : Int), .bool true]) ∧ Below w.heap.size w w') := find_any id B p k n v L true w h hu (by omega) hk (by rw [hs]; rfl)
  have hlt : k < L.length := (List.getElem?_eq_some_iff.1 hx).1
  have hk9 : k ≤ 120 := by omega
  have HL : Hid (k < L.length ∧ L.length ≤ 1000) := ⟨hlt, by omega⟩
  have HG : Hid (GAt w B 168 61 p n v L) := h
  clear h hu hs hx hk hlt hl
  go_enter Tryz.func55, Tryz.ntmps55
  go_wp2_with fail
  refine HC.out.mono ?_
  rintro e w1 ⟨rfl, hb⟩
  have HB : Hid (Below w.heap.size w w1) := hb
  have HG1 : Hid (GAt w1 B 168 61 p n v L) := HG.out.below hb
  have hp := HG1.out.c1
  clear hb HC
  go_wp2_with fail
  refine (delete_any B k v L _ w1 HG1.out.row HL.out.1 HL.out.2 rfl).mono ?_
  rintro e w2 ⟨v', rfl, h1, h2, h3⟩
  have HS : Hid (Step1 w (w2.setCell ⟨p, 1, none⟩ v') B 168 p n v (L.take k ++ L.drop (k + 1))) := step1_of HG1.out HB.out h2 h1 h3 HG.out.plt
  have q1 := (cell_p HG1.out h2).1
  have q2 := (cell_p HG1.out h2).2
  obtain ⟨a', m', c', hv'⟩ := h1.slice
  subst hv'
  clear h1 h2 h3 hp
  go_wp2
  go_ret
  exact ⟨rfl, HS.out⟩

end Go.Proofs.YtebcjaenhiiflaaGreatDoor.G
