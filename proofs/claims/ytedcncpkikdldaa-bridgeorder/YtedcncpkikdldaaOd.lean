/- The contract of the law's own fact: crossed answers true. -/
import Derived.Test.YtedcncpkikdldaaOc
namespace Go.Proofs.Ytedcncpkikdldaa.S
open Go.RowKit Go.WideMaps Go.Maps

variable {w0 w : World} {p pw bw pt bt mp n N : Nat} {R B : List (Int × Int × Int)} {W T : List Nat} {D : DataW Unit}

/-- A store into the array leaves the value. -/
theorem run_told (h : Run w0 w p pw bw pt bt mp n R B W T D N) {tb : Nat} {bs : Array Value} (ht : w.heap[tb]? = some (.cells bs 79)) (hl : w0.heap.size ≤ tb) (i : Nat) (v : Value) : Run w0 (w.setCell ⟨tb, i, none⟩ v) p pw bw pt bt mp n R B W T D N := by
  have hb := h.now.at_
  have hkeep : ∀ (g : Nat) (o : Obj), w.heap[g]? = some o → (∀ cur, o ≠ .cells cur 79) → (w.setCell ⟨tb, i, none⟩ v).heap[g]? = w.heap[g]? := by
    intro g o hg h1
    refine Below.heap_setCell _ _ _ _ (fun e => ?_)
    have e' : g = tb := e
    rw [e', ht] at hg
    injection hg with hg
    exact h1 _ hg.symm
  refine { h with now := ⟨⟨(hkeep p _ hb.hp (by simp)).trans hb.hp, ⟨(hkeep pw _ hb.sw.hp (by simp)).trans hb.sw.hp, (hkeep bw _ hb.sw.hb (by simp)).trans hb.sw.hb⟩, ⟨(hkeep pt _ hb.st.hp (by simp)).trans hb.st.hp, (hkeep bt _ hb.st.hb (by simp)).trans hb.st.hb⟩, ?_, hb.pp, hb.bb⟩, h.now.st, h.now.dis⟩, below := h.below.setCell hl _ }
  obtain ⟨es', c', hm', F, hs, hD⟩ := hb.hm
  exact ⟨es', c', (hkeep mp _ hm' (by simp)).trans hm', F, hs, hD⟩

theorem told_bk {w' : World} (h : Run w0 w p pw bw pt bt mp n R B W T D N) (k : Bk bw bt mp w w') {tb : Nat} {bs : Array Value} (ht : w.heap[tb]? = some (.cells bs 79)) : w'.heap[tb]? = some (.cells bs 79) := by
  have hb := h.now.at_
  obtain ⟨es, c, hm⟩ := hb.mobj
  rw [k.block tb (lt_of_some ht) ?_ ?_ ?_]
  · exact ht
  all_goals rintro rfl
  · have := ht.symm.trans hb.sw.hb; simp at this
  · have := ht.symm.trans hb.st.hb; simp at this
  · have := ht.symm.trans hm; simp at this

theorem told_cells {tb : Nat} {b0 b1 b2 b3 : Value} (h : w.heap[tb]? = some (.cells #[b0, b1, b2, b3] 79)) : (w.cell? ⟨tb, 0, none⟩ = some b0 ∧ w.cell? ⟨tb, 1, none⟩ = some b1 ∧ w.cell? ⟨tb, 2, none⟩ = some b2 ∧ w.cell? ⟨tb, 3, none⟩ = some b3) ∧ ∀ i, w.frozen? ⟨tb, i, none⟩ = false :=
  ⟨⟨by simp [World.cell?, h], by simp [World.cell?, h], by simp [World.cell?, h], by simp [World.cell?, h]⟩, fun i => by simp [World.frozen?, h]⟩

theorem told_set {tb i : Nat} {bs : Array Value} {v : Value} (h : w.heap[tb]? = some (.cells bs 79)) : (w.setCell ⟨tb, i, none⟩ v).heap[tb]? = some (.cells (bs.setIfInBounds i v) 79) := by
  simp [World.setCell, Array.getElem?_modify, h]

theorem told_alloc {tb : Nat} {bs : Array Value} {o : Obj} (h : w.heap[tb]? = some (.cells bs 79)) : (w.alloc o).heap[tb]? = some (.cells bs 79) := (Below.heap_alloc w o tb (lt_of_some h)).trans h

theorem idx0 (w : World) : (Instr.index 80 (.agg #[.int .i64 0, .int .i64 1, .int .i64 1, .int .i64 2, .int .i64 2, .int .i64 3, .int .i64 0, .int .i64 2]) (.int .i64 0)).run Try.prog w = .ok (.agg #[.int .i64 0, .int .i64 1]) w := by kernel_rfl
theorem idx1 (w : World) : (Instr.index 80 (.agg #[.int .i64 0, .int .i64 1, .int .i64 1, .int .i64 2, .int .i64 2, .int .i64 3, .int .i64 0, .int .i64 2]) (.int .i64 1)).run Try.prog w = .ok (.agg #[.int .i64 1, .int .i64 2]) w := by kernel_rfl
theorem idx2 (w : World) : (Instr.index 80 (.agg #[.int .i64 0, .int .i64 1, .int .i64 1, .int .i64 2, .int .i64 2, .int .i64 3, .int .i64 0, .int .i64 2]) (.int .i64 2)).run Try.prog w = .ok (.agg #[.int .i64 2, .int .i64 3]) w := by kernel_rfl
theorem idx3 (w : World) : (Instr.index 80 (.agg #[.int .i64 0, .int .i64 1, .int .i64 1, .int .i64 2, .int .i64 2, .int .i64 3, .int .i64 0, .int .i64 2]) (.int .i64 3)).run Try.prog w = .ok (.agg #[.int .i64 0, .int .i64 2]) w := by kernel_rfl

theorem eq72 (w : World) : (Op.equalIn 10000 79 (.agg #[.bool true, .bool true, .bool true, .bool false]) (.agg #[.bool true, .bool true, .bool true, .bool false])).run Try.prog w = .ok true w := by kernel_rfl

theorem unl_four : Unl [f0, f1, f2, f3] := by
  unfold Unl
  decide

set_option maxHeartbeats 4000000 in
set_option maxRecDepth 100000 in
theorem crossed_true (w : World) : Calls Try.prog 15 #[] w fun e w' => e = .returned (.bool true) ∧ Below w.heap.size w w' := by
  have i0 := idx0
  have i1 := idx1
  have i2 := idx2
  have i3 := idx3
  have e72 := eq72
  go_enter Try.func15, Try.ntmps15
  go_wp2_with fail
  refine (bnew_in 4 w (by omega)).mono ?_
  rintro e w1 ⟨p, pw, bw, pt, bt, mp, rfl, hb1, hbl1, _, h2, h3, h4⟩
  have HR1 : Hid (Run w w1 p pw bw pt bt mp 4 [] [] (List.range 4) (List.range 4) (.map []) 0) := run_start hb1 hbl1 h2 h3 h4
  have hws := hbl1.size
  clear hb1 hbl1 h2 h3 h4
  obtain ⟨V0, hV0⟩ : ∃ V0, V0 = w1.alloc (.cells #[.bool false, .bool false, .bool false, .bool false] 79) := ⟨_, rfl⟩
  have HV0 : Hid (w1.alloc (.cells #[.bool false, .bool false, .bool false, .bool false] 79) = V0) := hV0.symm
  have HT0 : Hid (V0.heap[w1.heap.size]? = some (.cells #[.bool false, .bool false, .bool false, .bool false] 79)) := by
    show V0.heap[w1.heap.size]? = _
    rw [hV0]; exact heap_alloc_new w1 _
  have HS0 : Hid (Run w V0 p pw bw pt bt mp 4 [] [] (List.range 4) (List.range 4) (.map []) 0) := by
    show Run w V0 p pw bw pt bt mp 4 [] [] (List.range 4) (List.range 4) (.map []) 0
    rw [hV0]; exact HR1.out.below' ((Below.refl _ _).alloc (Nat.le_refl _) _)
  clear hV0 HR1
  go_wp2_with fail
  rw [HV0.out]
  refine wp_loop_rounds 5 ?_
  rw [rounds_succ]
  have HC0 : Hid (Calls Try.prog 23 #[.pointer (some ⟨p, 0, none⟩), .int .i64 0, .int .i64 0, .int .i64 1] (V0.alloc (.cells #[.int .i64 0, .int .i64 1] 31)) fun e w' => e = .returned (.tuple #[.bool true, .nilIface]) ∧ Bk bw bt mp (V0.alloc (.cells #[.int .i64 0, .int .i64 1] 31)) w' ∧ ∃ B' W' T' D' N', Run w w' p pw bw pt bt mp 4 ([] ++ [edge 0 0 1]) B' W' T' D' N') :=
    cross_step (HS0.out.below' ((Below.refl _ _).alloc (Nat.le_refl _) _)) 0 0 1 true (by omega) (by omega) (by omega) (by omega) (by decide) (by decide) ⟨fun _ => k0, fun _ => rfl⟩
  go_wp2_with fail
  refine Calls.mono HC0.out ?_
  rintro e X0 ⟨rfl, hk0, B0, W0, T0, D0, N0, hr0⟩
  have ht0 : X0.heap[w1.heap.size]? = some (.cells #[.bool false, .bool false, .bool false, .bool false] 79) := told_bk (HS0.out.below' ((Below.refl _ _).alloc (Nat.le_refl _) _)) hk0 (told_alloc HT0.out)
  have c0 := (told_cells ht0).1
  have z0 := (told_cells ht0).2 0
  obtain ⟨V1, hV1⟩ : ∃ V1, V1 = X0.setCell ⟨w1.heap.size, 0, none⟩ (.bool true) := ⟨_, rfl⟩
  have HV1 : Hid (X0.setCell ⟨w1.heap.size, 0, none⟩ (.bool true) = V1) := hV1.symm
  have HT1 : Hid (V1.heap[w1.heap.size]? = some (.cells #[.bool true, .bool false, .bool false, .bool false] 79)) := by
    show V1.heap[w1.heap.size]? = _
    rw [hV1, told_set ht0]; rfl
  have HS1 : Hid (Run w V1 p pw bw pt bt mp 4 [f0] B0 W0 T0 D0 N0) := by
    show Run w V1 p pw bw pt bt mp 4 [f0] B0 W0 T0 D0 N0
    rw [hV1]; exact run_told hr0 ht0 hws 0 _
  obtain ⟨q0, q1, q2, q3⟩ := c0
  clear hk0 hr0 ht0 hV1 HC0 HS0 HT0
  go_wp2_with fail
  rw [HV1.out]
  clear q0 q1 q2 q3 z0
  rw [rounds_succ]
  have HC1 : Hid (Calls Try.prog 23 #[.pointer (some ⟨p, 0, none⟩), .int .i64 1, .int .i64 1, .int .i64 2] (V1.alloc (.cells #[.int .i64 1, .int .i64 2] 31)) fun e w' => e = .returned (.tuple #[.bool true, .nilIface]) ∧ Bk bw bt mp (V1.alloc (.cells #[.int .i64 1, .int .i64 2] 31)) w' ∧ ∃ B' W' T' D' N', Run w w' p pw bw pt bt mp 4 ([f0] ++ [edge 1 1 2]) B' W' T' D' N') :=
    cross_step (HS1.out.below' ((Below.refl _ _).alloc (Nat.le_refl _) _)) 1 1 2 true (by omega) (by omega) (by omega) (by omega) (by decide) (by decide) ⟨fun _ => k1, fun _ => rfl⟩
  go_wp2_with fail
  refine Calls.mono HC1.out ?_
  rintro e X1 ⟨rfl, hk1, B1, W1, T1, D1, N1, hr1⟩
  have ht1 : X1.heap[w1.heap.size]? = some (.cells #[.bool true, .bool false, .bool false, .bool false] 79) := told_bk (HS1.out.below' ((Below.refl _ _).alloc (Nat.le_refl _) _)) hk1 (told_alloc HT1.out)
  have c1 := (told_cells ht1).1
  have z1 := (told_cells ht1).2 1
  obtain ⟨V2, hV2⟩ : ∃ V2, V2 = X1.setCell ⟨w1.heap.size, 1, none⟩ (.bool true) := ⟨_, rfl⟩
  have HV2 : Hid (X1.setCell ⟨w1.heap.size, 1, none⟩ (.bool true) = V2) := hV2.symm
  have HT2 : Hid (V2.heap[w1.heap.size]? = some (.cells #[.bool true, .bool true, .bool false, .bool false] 79)) := by
    show V2.heap[w1.heap.size]? = _
    rw [hV2, told_set ht1]; rfl
  have HS2 : Hid (Run w V2 p pw bw pt bt mp 4 [f0, f1] B1 W1 T1 D1 N1) := by
    show Run w V2 p pw bw pt bt mp 4 [f0, f1] B1 W1 T1 D1 N1
    rw [hV2]; exact run_told hr1 ht1 hws 1 _
  obtain ⟨q0, q1, q2, q3⟩ := c1
  clear hk1 hr1 ht1 hV2 HC1 HS1 HT1
  go_wp2_with fail
  rw [HV2.out]
  clear q0 q1 q2 q3 z1
  rw [rounds_succ]
  have HC2 : Hid (Calls Try.prog 23 #[.pointer (some ⟨p, 0, none⟩), .int .i64 2, .int .i64 2, .int .i64 3] (V2.alloc (.cells #[.int .i64 2, .int .i64 3] 31)) fun e w' => e = .returned (.tuple #[.bool true, .nilIface]) ∧ Bk bw bt mp (V2.alloc (.cells #[.int .i64 2, .int .i64 3] 31)) w' ∧ ∃ B' W' T' D' N', Run w w' p pw bw pt bt mp 4 ([f0, f1] ++ [edge 2 2 3]) B' W' T' D' N') :=
    cross_step (HS2.out.below' ((Below.refl _ _).alloc (Nat.le_refl _) _)) 2 2 3 true (by omega) (by omega) (by omega) (by omega) (by decide) (by decide) ⟨fun _ => k2, fun _ => rfl⟩
  go_wp2_with fail
  refine Calls.mono HC2.out ?_
  rintro e X2 ⟨rfl, hk2, B2, W2, T2, D2, N2, hr2⟩
  have ht2 : X2.heap[w1.heap.size]? = some (.cells #[.bool true, .bool true, .bool false, .bool false] 79) := told_bk (HS2.out.below' ((Below.refl _ _).alloc (Nat.le_refl _) _)) hk2 (told_alloc HT2.out)
  have c2 := (told_cells ht2).1
  have z2 := (told_cells ht2).2 2
  obtain ⟨V3, hV3⟩ : ∃ V3, V3 = X2.setCell ⟨w1.heap.size, 2, none⟩ (.bool true) := ⟨_, rfl⟩
  have HV3 : Hid (X2.setCell ⟨w1.heap.size, 2, none⟩ (.bool true) = V3) := hV3.symm
  have HT3 : Hid (V3.heap[w1.heap.size]? = some (.cells #[.bool true, .bool true, .bool true, .bool false] 79)) := by
    show V3.heap[w1.heap.size]? = _
    rw [hV3, told_set ht2]; rfl
  have HS3 : Hid (Run w V3 p pw bw pt bt mp 4 [f0, f1, f2] B2 W2 T2 D2 N2) := by
    show Run w V3 p pw bw pt bt mp 4 [f0, f1, f2] B2 W2 T2 D2 N2
    rw [hV3]; exact run_told hr2 ht2 hws 2 _
  obtain ⟨q0, q1, q2, q3⟩ := c2
  clear hk2 hr2 ht2 hV3 HC2 HS2 HT2
  go_wp2_with fail
  rw [HV3.out]
  clear q0 q1 q2 q3 z2
  rw [rounds_succ]
  have HC3 : Hid (Calls Try.prog 23 #[.pointer (some ⟨p, 0, none⟩), .int .i64 3, .int .i64 0, .int .i64 2] (V3.alloc (.cells #[.int .i64 0, .int .i64 2] 31)) fun e w' => e = .returned (.tuple #[.bool false, .nilIface]) ∧ Bk bw bt mp (V3.alloc (.cells #[.int .i64 0, .int .i64 2] 31)) w' ∧ ∃ B' W' T' D' N', Run w w' p pw bw pt bt mp 4 ([f0, f1, f2] ++ [edge 3 0 2]) B' W' T' D' N') :=
    cross_step (HS3.out.below' ((Below.refl _ _).alloc (Nat.le_refl _) _)) 3 0 2 false (by omega) (by omega) (by omega) (by omega) (by decide) (by decide) ⟨fun h => absurd h (by simp), fun h => absurd k3 h⟩
  go_wp2_with fail
  refine Calls.mono HC3.out ?_
  rintro e X3 ⟨rfl, hk3, B3, W3, T3, D3, N3, hr3⟩
  have ht3 : X3.heap[w1.heap.size]? = some (.cells #[.bool true, .bool true, .bool true, .bool false] 79) := told_bk (HS3.out.below' ((Below.refl _ _).alloc (Nat.le_refl _) _)) hk3 (told_alloc HT3.out)
  have c3 := (told_cells ht3).1
  have z3 := (told_cells ht3).2 3
  obtain ⟨V4, hV4⟩ : ∃ V4, V4 = X3.setCell ⟨w1.heap.size, 3, none⟩ (.bool false) := ⟨_, rfl⟩
  have HV4 : Hid (X3.setCell ⟨w1.heap.size, 3, none⟩ (.bool false) = V4) := hV4.symm
  have HT4 : Hid (V4.heap[w1.heap.size]? = some (.cells #[.bool true, .bool true, .bool true, .bool false] 79)) := by
    show V4.heap[w1.heap.size]? = _
    rw [hV4, told_set ht3]; rfl
  have HS4 : Hid (Run w V4 p pw bw pt bt mp 4 [f0, f1, f2, f3] B3 W3 T3 D3 N3) := by
    show Run w V4 p pw bw pt bt mp 4 [f0, f1, f2, f3] B3 W3 T3 D3 N3
    rw [hV4]; exact run_told hr3 ht3 hws 3 _
  obtain ⟨q0, q1, q2, q3⟩ := c3
  clear hk3 hr3 ht3 hV4 HC3 HS3 HT3
  go_wp2_with fail
  rw [HV4.out]
  clear q0 q1 q2 q3 z3
  rw [rounds_succ]
  have hc := (told_cells HT4.out).1
  obtain ⟨q0, q1, q2, q3⟩ := hc
  go_wp2_with fail
  refine (ids_ups HS4.out).mono ?_
  rintro e w5 ⟨v5, rfl, hrow5, hb5⟩
  rw [four_ups HS4.out.now.st unl_four] at hrow5
  obtain ⟨a5, k5, hv5, hc5⟩ := ints_shape hrow5
  simp only [List.length_cons, List.length_nil, Nat.reduceAdd] at hv5
  subst hv5
  have HB5 : Hid (Below w.heap.size w w5) := (HS4.out.below' hb5).below
  have HSM : Hid (0 < 1 → ∃ r1 r2, a5 = some ⟨r1, 0, none⟩ ∧ some (⟨w5.heap.size, 0, none⟩ : Addr) = some ⟨r2, 0, none⟩ ∧ (∀ j, j < 1 → (w5.alloc (.cells #[.int .i64 2] 3)).cell? ⟨r1, j, none⟩ = some (.int .i64 ((fun _ => 2) j : Int))) ∧ ∀ j, j < 1 → (w5.alloc (.cells #[.int .i64 2] 3)).cell? ⟨r2, j, none⟩ = some (.int .i64 ((fun _ => 2) j : Int))) := fun _ => by
    obtain ⟨g, e1, f1'⟩ := hc5 (by simp)
    have hg := f1' 0 (by simp)
    refine ⟨g, w5.heap.size, e1, rfl, fun j hj => ?_, fun j hj => ?_⟩
    · obtain rfl : j = 0 := by omega
      rw [World.cell?_alloc_lt _ _ ⟨g, 0, none⟩ (lt_of_cell hg)]; exact hg
    · obtain rfl : j = 0 := by omega
      simp
  clear hrow5 hb5 hc5 HS4 HT4 q0 q1 q2 q3
  go_wp2_with fail
  refine (same_ints a5 (some ⟨w5.heap.size, 0, none⟩) 1 k5 1 (fun _ => 2) _ HSM.out (by omega)).mono ?_
  rintro e w6 ⟨rfl, nn, rfl⟩
  go_wp2_with fail
  go_ret
  exact ⟨rfl, below_drewN (HB5.out.alloc HB5.out.size _) nn⟩

end Go.Proofs.Ytedcncpkikdldaa.S
