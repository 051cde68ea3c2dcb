/- slices.Insert at edges, where there is no room: a new row; and all its ways together. -/
import Derived.Test.YtmbkicdahalakaaDoorN
namespace Go.Proofs.YtmbkicdahalakaaDoor
open Go.RowKit

theorem zeroE_one (n : Nat) : ∀ u ∈ (Builtin.zeroCells zE.cells n).toList, u.oneCell' = true := by
  intro u hu
  rw [zE_cells] at hu
  simp only [Builtin.zeroCells, Array.toList_map, List.mem_map] at hu
  obtain ⟨a, _, rfl⟩ := hu
  have : a % 3 < 3 := Nat.mod_lt _ (by omega)
  show (#[Value.int .i64 0, Value.int .i64 0, Value.int .i64 0][a % 3]!).oneCell' = true
  generalize a % 3 = r at this
  match r, this with
  | 0, _ => rfl
  | 1, _ => rfl
  | 2, _ => rfl

theorem zeroE_length (n : Nat) : (Builtin.zeroCells zE.cells n).toList.length = n * 3 := by
  rw [zE_cells]
  simp [Builtin.zeroCells]

set_option maxHeartbeats 4000000 in
set_option maxRecDepth 100000 in
theorem insert_grow (B i vb g cap : Nat) (L : List E) (x : E) (w : World) (h : Owns w B 59 (.slice (some ⟨g, 0, none⟩) L.length cap) L) (hB : B ≤ w.heap.size) (hx : w.heap[vb]? = some (.cells (encE x).toArray 59)) (hi : i < L.length) (hl : L.length ≤ 1000) (hnc : L.length ≤ cap) (hc : cap < L.length + 1) :
    Calls Tryd.prog 39 #[.slice (some ⟨g, 0, none⟩) L.length cap, .int .i64 (i : Int), .slice (some ⟨vb, 0, none⟩) 1 1] w fun e w' => ∃ v', e = .returned v' ∧ Owns w' B 59 v' (L.take i ++ x :: L.drop i) ∧ w.grownBy w' (some g) ∧ Fresh w (.slice (some ⟨g, 0, none⟩) L.length cap) v' := by
  obtain ⟨inf, hinf, hs, hb, hz⟩ := info59
  have hglt : g < w.heap.size := (World.ownsRow.lt h g rfl).2
  have hvlt : vb < w.heap.size := lt_of_some hx
  obtain ⟨N, hN⟩ : ∃ N, N = w.heap.size := ⟨_, rfl⟩
  obtain ⟨G, hG⟩ : ∃ G, G = grownCap w (L.length + 1) cap 59 := ⟨_, rfl⟩
  have hGn : L.length + 1 ≤ G := by rw [hG]; exact grownCap_ge w _ _ _
  have hGm : G ≤ maxLen := by rw [hG]; exact grownCap_le_maxLen w _ cap 59 (by simp only [maxLen]; omega)
  obtain ⟨Z, hZ⟩ : ∃ Z, Z = (Builtin.zeroCells zE.cells (L.length + 1 - i)).toList := ⟨_, rfl⟩
  obtain ⟨Y, hY⟩ : ∃ Y, Y = (Builtin.zeroCells zE.cells (G - (L.length + 1))).toList := ⟨_, rfl⟩
  have hZl : Z.length = (L.length + 1 - i) * 3 := by rw [hZ, zeroE_length]
  have hYl : Y.length = (G - (L.length + 1)) * 3 := by rw [hY, zeroE_length]
  have hti : (rowV (L.take i)).length = i * 3 := by rw [rowV_length]; simp; omega
  have hold : (Builtin.firstCells inf.size i (.slice (some ⟨g, 0, none⟩) i cap)).run Tryd.prog w.drew = .ok (rowV (L.take i)).toArray w.drew := by
    rw [hs]
    refine run_firstCells_some w.drew 3 i ⟨g, 0, none⟩ i cap (rowV (L.take i)) hti (fun j v hj => ?_)
    refine World.ownsRow.cells h rfl j v ?_
    rw [← rowV_take, List.getElem?_take] at hj
    split at hj
    · exact hj
    · cases hj
  have hrz : ∀ ty, (Builtin.append_ #[49, 3] ty #[.slice (some ⟨g, 0, none⟩) i cap, .int .i64 ((L.length : Int) + 1 - (i : Int))]).run Tryd.prog w =
      .ok (.slice (some ⟨N, 0, none⟩) (L.length + 1) G) (w.drew.alloc (.cells (rowV (L.take i) ++ (Z ++ Y)).toArray 59)) := fun ty => by
    have hik : i + (L.length + 1 - i) = L.length + 1 := by omega
    have e := Lib.run_append_grow_zeros w 49 3 ty 59 inf zE .i64 .i64 Tryd.underlying49 Tryd.underlying3 hinf hz (some ⟨g, 0, none⟩) i cap (rowV (L.take i)) hold (L.length + 1 - i) (by omega) (by rw [hs]; omega) (by omega) (by omega) (by rw [hb]; omega) (by rw [hb, hik]; exact growslice_fits (by omega) (by omega))
    rw [hik, ← hG] at e
    rw [show (L.length : Int) + 1 - (i : Int) = ((L.length + 1 - i : Nat) : Int) by omega, e, hN]
    congr 3
    apply Array.ext'
    rw [hZ, hY]
    simp
  obtain ⟨W1, hW1⟩ : ∃ W1, W1 = w.drew.alloc (.cells (rowV (L.take i) ++ (Z ++ Y)).toArray 59) := ⟨_, rfl⟩
  rw [← hW1] at hrz
  have g1 : W1.heap[N]? = some (.cells (rowV (L.take i) ++ (Z ++ Y)).toArray 59 (0, 0)) := by rw [hW1, hN]; exact heap_alloc_new w.drew _
  have o1 : ∀ k, k < N → W1.heap[k]? = w.heap[k]? := fun k hk => by rw [hW1]; exact heap_alloc_old w.drew _ (show k < w.drew.heap.size by rw [hN] at hk; exact hk)
  obtain ⟨S1, hS1⟩ : ∃ S1, S1 = splice (rowV (L.take i) ++ (Z ++ Y)) (i * 3) (encE x) := ⟨_, rfl⟩
  have l1 : S1.length = G * 3 := by rw [hS1, length_splice _ _ _ (by rw [encE_length]; simp [hti, hZl]; omega)]; simp [hti, hZl, hYl]; omega
  have hc1 : ∀ ty dc, (Builtin.copy_ #[49, 49] ty #[.slice (some ⟨N, i * 3, none⟩) (L.length + 1 - i) dc, .slice (some ⟨vb, 0, none⟩) 1 1]).run Tryd.prog W1 = .ok (goInt (Nat.min 1 (L.length + 1 - i))) (W1.setRow N S1.toArray) := fun ty dc => by
    rw [hS1]
    exact run_copy_rowK W1 49 49 ty 59 3 N (i * 3) (L.length + 1 - i) dc ⟨vb, 0, none⟩ 1 1 _ 59 (encE x) Tryd.underlying49 isize59 g1 (by rw [encE_length, Nat.min_eq_min, Nat.min_eq_left (by omega)]) (fun j u hu => cells_of_block (by rw [o1 vb (by omega)]; exact hx) j u (by simpa [rowV] using hu))
      (by rw [encE_length]; simp [hti, hZl]; omega) (fun u hu => rowV_one [x] u (by simpa [rowV] using hu))
  obtain ⟨W2, hW2⟩ : ∃ W2, W2 = W1.setRow N S1.toArray := ⟨_, rfl⟩
  rw [← hW2] at hc1
  have g2 : W2.heap[N]? = some (.cells S1.toArray 59 (0, 0)) := by rw [hW2]; exact setRow_heap W1 N _ _ 59 (0, 0) g1
  have o2 : ∀ k, k < N → W2.heap[k]? = w.heap[k]? := fun k hk => by rw [hW2, setRow_other W1 N k _ (by omega)]; exact o1 k hk
  have hc2 : ∀ ty dc sc, (Builtin.copy_ #[49, 49] ty #[.slice (some ⟨N, (i + 1) * 3, none⟩) (L.length - i) dc, .slice (some ⟨g, i * 3, none⟩) (L.length - i) sc]).run Tryd.prog W2.drew = .ok (goInt (Nat.min (L.length - i) (L.length - i))) (W2.drew.setRow N (splice S1 ((i + 1) * 3) (rowV (L.drop i))).toArray) := fun ty dc sc =>
    run_copy_rowK W2.drew 49 49 ty 59 3 N ((i + 1) * 3) (L.length - i) dc ⟨g, i * 3, none⟩ (L.length - i) sc S1 59 (rowV (L.drop i)) Tryd.underlying49 isize59 g2 (by rw [rowV_length, List.length_drop, Nat.min_eq_min, Nat.min_self]) (fun j u hu => by
        have := drop_cells h rfl i j u hu
        rw [addr_lit] at this ⊢
        rw [World.cell?_of_block (show W2.drew.heap[(⟨g, i * 3 + j, none⟩ : Addr).block]? = w.heap[(⟨g, i * 3 + j, none⟩ : Addr).block]? from o2 g (by omega))]
        exact this)
      (by rw [rowV_length, l1]; simp; omega) (rowV_one _)
  obtain ⟨W3, hW3⟩ : ∃ W3, W3 = W2.drew.setRow N (splice S1 ((i + 1) * 3) (rowV (L.drop i))).toArray := ⟨_, rfl⟩
  rw [← hW3] at hc2
  have HD : Hid (Owns W3 B 59 (.slice (some ⟨N, 0, none⟩) (L.length + 1) G) (L.take i ++ x :: L.drop i) ∧ w.grownBy W3 (some g) ∧ Fresh w (.slice (some ⟨g, 0, none⟩) L.length cap) (.slice (some ⟨N, 0, none⟩) (L.length + 1) G)) := by
    have hlen : (L.take i ++ x :: L.drop i).length = L.length + 1 := by simp; omega
    have g3 : W3.heap[N]? = some (.cells (splice S1 ((i + 1) * 3) (rowV (L.drop i))).toArray 59 (0, 0)) := by rw [hW3]; exact setRow_heap W2.drew N _ _ 59 (0, 0) g2
    refine ⟨⟨rowV_length _, Or.inr ⟨N, G, _, by rw [hlen], by omega, g3, by rw [hlen]; exact hGn, hGm, ?_, ?_⟩⟩, ⟨by rw [hW3, hW2, hW1]; rfl, by rw [hW3, hW2, hW1]; rfl, by rw [hW3, hW2, hW1]; rfl, by rw [hW3, hW2, hW1]; simp, fun k hk _ => ?_⟩, fun k hk => ?_⟩
    · rw [List.size_toArray, length_splice _ _ _ (by rw [rowV_length, l1]; simp; omega), l1]
    · show (splice _ _ _).take _ = _
      rw [hS1, grown_eq x Z Y (by omega) hZl, List.take_left' (rowV_length _)]
    · rw [hW3, setRow_other _ N k _ (by omega)]
      exact o2 k (by omega)
    · have hk' : N = k := by simpa [Value.ownBlock] using hk
      exact Or.inr (by omega)
  have hG63 : G ≤ 9223372036854775807 := by simp only [maxLen] at hGm; omega
  clear h hx hold hW1 hW2 hW3 hG hGm hZ hY hZl hYl hti g1 o1 g2 o2 hS1 l1 hinf hs hb hz hglt hvlt hN
  generalize hnn : L.length = n at *
  have hz2 : ¬ ((i : Int) = (n : Int)) := by omega
  have hin : i ≤ n := by omega
  have hGi : ¬ (G = i) := by omega
  have hGim : ¬ (G = i + 1) := by omega
  have hci : ¬ (cap = i) := by omega
  have hb3 : (i : Int) ≤ (n : Int) := by omega
  have hb6 : (i : Int) ≤ (n : Int) + 1 := by omega
  have hz3 : (cap : Int) < (n : Int) + 1 := by omega
  have hw1 : IntKind.i64.wrap ((i : Int) + 1) = (i : Int) + 1 := by rw [IntKind.wrap_i64]; omega
  have hb1 : (0 : Int) ≤ (i : Int) + 1 := by omega
  have htn : ((i : Int) + 1).toNat = i + 1 := by omega
  have hb5 : n + 1 - (i + 1) = n - i := by omega
  clear hnn hB
  go_enter Tryd.func39, Tryd.ntmps39
  go_wp2_with (at_builtin; refine Lib.wpList_append_run _ rfl _ _ _ _ rfl _ _ rfl rfl _ _ (hrz _) ?_)
  all_goals clear hrz
  go_region
  go_wp2
  go_ret
  exact ⟨_, rfl, HD.out⟩

/-- One is put in, wherever. -/
theorem insert_any (B i vb : Nat) (v : Value) (L M : List E) (x : E) (w : World) (h : Owns w B 59 v L) (hB : B ≤ w.heap.size) (hx : w.heap[vb]? = some (.cells (encE x).toArray 59)) (hne : v.ownBlock ≠ some vb) (hi : i ≤ L.length) (hl : L.length ≤ 1000) (hM : M = L.take i ++ x :: L.drop i) :
    Calls Tryd.prog 39 #[v, .int .i64 (i : Int), .slice (some ⟨vb, 0, none⟩) 1 1] w fun e w' => ∃ v', e = .returned v' ∧ Owns w' B 59 v' M ∧ w.grownBy w' v.ownBlock ∧ Fresh w v v' := by
  subst hM
  rcases Nat.lt_or_eq_of_le hi with hlt | he
  · rcases h.shape with ⟨_, hL⟩ | ⟨g, cap, rfl, h1, h2, h3, h4⟩
    · rw [hL] at hlt; simp at hlt
    · have hne' : vb ≠ g := fun e => hne (by simp [Value.ownBlock, e])
      by_cases hr : L.length + 1 ≤ cap
      · exact insert_shift B i vb g cap L x w h hx hne' hlt hl hr
      · exact insert_grow B i vb g cap L x w h hB hx hlt hl h3 (by omega)
  · have e : L.take i ++ x :: L.drop i = L ++ [x] := by rw [he]; simp
    rw [e]
    exact insert_end B i vb v L x w h hB hx he hl

end Go.Proofs.YtmbkicdahalakaaDoor
