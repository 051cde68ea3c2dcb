/- Graphs: the program's own. -/
import Derived.Test.YtebcjaenhiiflaaGreatDoorGF
namespace Go.Proofs.YtebcjaenhiiflaaGreatDoor.G
open Go.RowKit

theorem addr_lit (b o n : Nat) : (⟨b, o, none⟩ : Addr).add n = ⟨b, o + n, none⟩ := by
  unfold Addr.add
  split
  · next h => rw [h]; rfl
  · rfl

set_option maxHeartbeats 2000000 in
set_option maxRecDepth 100000 in
theorem insert_end (B i vb : Nat) (v : Value) (L : List E) (x : E) (w : World) (h : Owns w B 61 v L) (hB : B ≤ w.heap.size) (hx : w.heap[vb]? = some (.cells (encE x).toArray 61)) (hi : i = L.length) (hl : L.length ≤ 1000) :
    Calls Tryz.prog 117 #[v, .int .i64 (i : Int), .slice (some ⟨vb, 0, none⟩) 1 1] w fun e w' => ∃ v', e = .returned v' ∧ Owns w' B 61 v' (L ++ [x]) ∧ w.grownBy w' v.ownBlock ∧ Fresh w v v' := by
  obtain ⟨v', w', hr, h2, h3, h4⟩ := append_E 33 w B v L [x] h hB ⟨vb, 0, none⟩ 1 1 rfl (cells_of_block hx) (by simp; omega)
  have HF : Hid (Owns w' B 61 v' (L ++ [x]) ∧ w.grownBy w' v.ownBlock ∧ Fresh w v v') := ⟨h2, h3, h4⟩
  clear h2 h3 h4 hx
  rcases h.shape with ⟨rfl, hL⟩ | ⟨g, cap, rfl, h1, h2, h3, h4⟩
  · subst hL
    have hi0 : i = 0 := hi
    subst hi0
    have HR : Hid (_ = _) := hr
    clear h hr hi hl
    go_enter Tryz.func117, Tryz.ntmps117
    go_wp2_with (at_builtin; refine Lib.wpList_append_run _ rfl _ _ _ _ rfl _ _ rfl rfl _ _ HR.out ?_)
    go_ret
    exact ⟨v', rfl, HF.out⟩
  · rw [← hi] at hr h3 HF
    have h4' : cap ≤ 9223372036854775807 := by simp only [maxLen] at h4; omega
    have HF' : Hid (Owns w' B 61 v' (L ++ [x]) ∧ w.grownBy w' (some g) ∧ Fresh w (.slice (some ⟨g, 0, none⟩) i cap) v') := HF
    have HR : Hid (_ = _) := hr
    clear h h4 HF hr
    rw [← hi]
    clear hi
    go_enter Tryz.func117, Tryz.ntmps117
    go_wp2_with (at_builtin; refine Lib.wpList_append_run _ rfl _ _ _ _ rfl _ _ rfl rfl _ _ HR.out ?_)
    all_goals
      go_ret
      exact ⟨v', rfl, HF'.out⟩

theorem size61 (w : World) : (Go.sizeOf 61).run Tryz.prog w = .ok 3 w := by kernel_rfl

theorem isize61 : (Tryz.prog.info? 61).map (·.size) = some 3 := by kernel_rfl

theorem no_overlap (w : World) (vb g o lb cb : Nat) (x : E) (cur : Array Value) (hne : vb ≠ g) (hx : w.heap[vb]? = some (.cells (encE x).toArray 61)) (hg : w.heap[g]? = some (.cells cur 61 (0, 0))) (hc : cur.size ≠ 0) :
    (callFunc 228 #[.slice (some ⟨vb, 0, none⟩) 1 1, .slice (some ⟨g, o, none⟩) lb cb]).run Tryz.prog w = .ok (.value (.bool false)) w := by
  rw [run_callFunc_extern Tryz.func228 (by kernel_rfl) (by kernel_rfl) (by kernel_rfl) (e := Extern.SlicesOverlaps.overlaps #[33, 33] #[4]) (by kernel_rfl),
    Lib.run_overlaps_apart w 33 4 61 Tryz.underlying33 3 size61 ⟨vb, 0, none⟩ ⟨g, o, none⟩ 1 1 lb cb hne 61 61 3 cur.size (by simp [World.shape?, hx, encE]) (by simp [World.shape?, hg]) hc (by simp [World.frozen?, hx]) (by simp [World.frozen?, hx])]
  rfl

theorem drop_cells {w : World} {B g : Nat} {v : Value} {L : List E} (h : Owns w B 61 v L) (hv : v.ownBlock = some g) (i : Nat) : ∀ j u, (rowV (L.drop i))[j]? = some u → w.cell? ((⟨g, i * 3, none⟩ : Addr).add j) = some u := by
  intro j u hu
  rw [addr_lit]
  rw [← rowV_drop, List.getElem?_drop] at hu
  have := World.ownsRow.cells h hv (i * 3 + j) u hu
  rwa [addr0_add] at this

theorem cell_heap {w W : World} (h : W.heap = w.heap) (a : Addr) : W.cell? a = w.cell? a := by simp [World.cell?, h]

/-- The row's world behind the two moves. -/
theorem shift_done {w W : World} {B g cap i : Nat} {L : List E} {cur : Array Value} (x : E) (hs : W.heap = w.heap) (ho : W.os = w.os) (ht : W.tape = w.tape) (hp : W.output = w.output)
    (hg : w.heap[g]? = some (.cells cur 61 (0, 0))) (hB : B ≤ g) (hi : i ≤ L.length) (htk : cur.toList.take (L.length * 3) = rowV L) (hsz : cur.size = cap * 3) (hc : L.length + 1 ≤ cap) (hm : cap ≤ maxLen) (A : Array Value) (W' : World) (hW' : W' = (W.setRow g A).setRow g (splice (shifted cur.toList L i) (i * 3) (encE x)).toArray) :
    Owns W' B 61 (.slice (some ⟨g, 0, none⟩) (L.length + 1) cap) (L.take i ++ x :: L.drop i) ∧ w.grownBy W' (some g) ∧ Fresh w (.slice (some ⟨g, 0, none⟩) L.length cap) (.slice (some ⟨g, 0, none⟩) (L.length + 1) cap) := by
  subst hW'
  have hlen : (L.take i ++ x :: L.drop i).length = L.length + 1 := by simp; omega
  have hg' : W.heap[g]? = some (.cells cur 61 (0, 0)) := by rw [hs]; exact hg
  rw [setRow_setRow]
  refine ⟨⟨rowV_length _, Or.inr ⟨g, cap, _, by rw [hlen], hB, setRow_heap W g cur _ 61 (0, 0) hg', by rw [hlen]; exact hc, hm, ?_, ?_⟩⟩, ⟨ho, ht, hp, by simp [hs], fun k hk hn => ?_⟩, fun k hk => Or.inl hk⟩
  · rw [List.size_toArray, length_splice _ _ _ (by rw [shifted_length hi (by simp; omega), encE_length]; simp; omega), shifted_length hi (by simp; omega)]
    simpa using hsz
  · show (splice _ _ _).take _ = _
    rw [shifted_eq x hi htk (by simp; omega), List.take_left' (rowV_length _)]
  · rw [setRow_other W g k _ (fun e => hn (by rw [e])), hs]

set_option maxHeartbeats 4000000 in
set_option maxRecDepth 100000 in
theorem insert_shift (B i vb g cap : Nat) (L : List E) (x : E) (w : World) (h : Owns w B 61 (.slice (some ⟨g, 0, none⟩) L.length cap) L) (hx : w.heap[vb]? = some (.cells (encE x).toArray 61)) (hne : vb ≠ g) (hi : i < L.length) (hl : L.length ≤ 1000) (hc : L.length + 1 ≤ cap) :
    Calls Tryz.prog 117 #[.slice (some ⟨g, 0, none⟩) L.length cap, .int .i64 (i : Int), .slice (some ⟨vb, 0, none⟩) 1 1] w fun e w' => ∃ v', e = .returned v' ∧ Owns w' B 61 v' (L.take i ++ x :: L.drop i) ∧ w.grownBy w' (some g) ∧ Fresh w (.slice (some ⟨g, 0, none⟩) L.length cap) v' := by
  rcases h.2 with ⟨hv, _⟩ | ⟨g', cap', cur, hv, hBg, hg, _, hm, hsz, htk⟩
  · simp at hv
  obtain ⟨hv1, _, hv2⟩ : some (⟨g, 0, none⟩ : Addr) = some ⟨g', 0, none⟩ ∧ L.length = L.length ∧ cap = cap' := by
    injection hv with a b c
    exact ⟨a, b, c⟩
  obtain rfl : g = g' := by simpa using hv1
  subst hv2
  have hov := fun (W : World) (hW : W.heap = w.heap) lb cb => no_overlap W vb g ((i + 1) * 3) lb cb x cur hne (by rw [hW]; exact hx) (by rw [hW]; exact hg) (by omega)
  have hcp1 : ∀ (W : World), W.heap = w.heap → ∀ ty dc sc, (Builtin.copy_ #[33, 33] ty #[.slice (some ⟨g, (i + 1) * 3, none⟩) (L.length - i) dc, .slice (some ⟨g, i * 3, none⟩) (L.length + 1 - i) sc]).run Tryz.prog W = .ok (goInt (Nat.min (L.length + 1 - i) (L.length - i))) (W.setRow g (shifted cur.toList L i).toArray) := fun W hW ty dc sc =>
    run_copy_rowK W 33 33 ty 61 3 g ((i + 1) * 3) (L.length - i) dc ⟨g, i * 3, none⟩ (L.length + 1 - i) sc cur.toList 61 (rowV (L.drop i)) Tryz.underlying33 isize61 (by rw [hW, Array.toArray_toList]; exact hg) (by rw [rowV_length, List.length_drop, Nat.min_eq_min, Nat.min_eq_right (by omega)]) (fun j u hu => by rw [cell_heap hW]; exact drop_cells h rfl i j u hu)
      (by rw [rowV_length]; simp; omega) (rowV_one _)
  have hcp2 : ∀ (W : World), W.heap[g]? = some (.cells (shifted cur.toList L i).toArray 61 (0, 0)) → W.heap[vb]? = some (.cells (encE x).toArray 61) → ∀ ty dc, (Builtin.copy_ #[33, 33] ty #[.slice (some ⟨g, i * 3, none⟩) (L.length + 1 - i) dc, .slice (some ⟨vb, 0, none⟩) 1 1]).run Tryz.prog W = .ok (goInt (Nat.min 1 (L.length + 1 - i))) (W.setRow g (splice (shifted cur.toList L i) (i * 3) (encE x)).toArray) := fun W hW hV ty dc =>
    run_copy_rowK W 33 33 ty 61 3 g (i * 3) (L.length + 1 - i) dc ⟨vb, 0, none⟩ 1 1 (shifted cur.toList L i) 61 (encE x) Tryz.underlying33 isize61 hW (by rw [encE_length, Nat.min_eq_min, Nat.min_eq_left (by omega)]) (fun j u hu => cells_of_block hV j u (by simpa [rowV] using hu))
      (by rw [shifted_length (by omega) (by simp; omega), encE_length]; simp; omega) (fun u hu => rowV_one [x] u (by simpa [rowV] using hu))
  have HV : Hid (w.heap[vb]? = some (.cells (encE x).toArray 61)) := hx
  have HG : Hid (w.heap[g]? = some (.cells cur 61 (0, 0))) := hg
  have HD : Hid (∀ (W W' : World) (A : Array Value), W.heap = w.heap → W.os = w.os → W.tape = w.tape → W.output = w.output → W' = (W.setRow g A).setRow g (splice (shifted cur.toList L i) (i * 3) (encE x)).toArray → Owns W' B 61 (.slice (some ⟨g, 0, none⟩) (L.length + 1) cap) (L.take i ++ x :: L.drop i) ∧ w.grownBy W' (some g) ∧ Fresh w (.slice (some ⟨g, 0, none⟩) L.length cap) (.slice (some ⟨g, 0, none⟩) (L.length + 1) cap)) :=
    fun W W' A e1 e2 e3 e4 e5 => shift_done x e1 e2 e3 e4 hg hBg (by omega) htk hsz hc hm A W' e5
  have hcap : cap ≤ 9223372036854775807 := by simp only [maxLen] at hm; omega
  clear h hv hv1 hBg hg htk hsz hm hx
  have HS1 : Hid (∀ (W : World), W.heap = w.heap → (W.setRow g (shifted cur.toList L i).toArray).heap[g]? = some (.cells (shifted cur.toList L i).toArray 61 (0, 0))) := fun W hW => setRow_heap W g cur _ 61 (0, 0) (by rw [hW]; exact HG.out)
  have HS2 : Hid (∀ (W : World), W.heap = w.heap → (W.setRow g (shifted cur.toList L i).toArray).heap[vb]? = some (.cells (encE x).toArray 61)) := fun W hW => by rw [setRow_other W g vb _ hne, hW]; exact HV.out
  have HO : Hid (∀ (W : World), W.heap = w.heap → ∀ lb cb, (callFunc 228 #[.slice (some ⟨vb, 0, none⟩) 1 1, .slice (some ⟨g, (i + 1) * 3, none⟩) lb cb]).run Tryz.prog W = .ok (.value (.bool false)) W) := hov
  have HC1 : Hid _ := hcp1
  have HC2 : Hid _ := hcp2
  clear hov hcp1 hcp2
  generalize (shifted cur.toList L i) = S1 at *
  generalize (splice S1 (i * 3) (encE x)) = S2 at *
  generalize hnn : L.length = n at *
  have hz2 : ¬ ((i : Int) = (n : Int)) := by omega
  have hin : i ≤ n := by omega
  have hb2 : ¬ (cap = i + 1) := by omega
  have hb4 : ¬ (cap = i) := by omega
  have hb3 : (i : Int) ≤ (n : Int) + 1 := by omega
  have hw1 : IntKind.i64.wrap ((i : Int) + 1) = (i : Int) + 1 := by rw [IntKind.wrap_i64]; omega
  have hb1 : (0 : Int) ≤ (i : Int) + 1 := by omega
  have htn : ((i : Int) + 1).toNat = i + 1 := by omega
  have hb5 : n + 1 - (i + 1) = n - i := by omega
  clear hnn
  go_enter Tryz.func117, Tryz.ntmps117
  go_wp2_with (rw [HO.out _ rfl])
  have hc1 : ∀ ty dc sc, (Builtin.copy_ #[33, 33] ty #[.slice (some ⟨g, (i + 1) * 3, none⟩) (n - i) dc, .slice (some ⟨g, i * 3, none⟩) (n + 1 - i) sc]).run Tryz.prog w.drew = .ok (goInt (Nat.min (n + 1 - i) (n - i))) (w.drew.setRow g S1.toArray) := fun ty dc sc => HC1.out w.drew rfl ty dc sc
  generalize hW1 : w.drew.setRow g S1.toArray = W1 at hc1
  go_region
  have HS3 : Hid (W1.heap[g]? = some (.cells S1.toArray 61 (0, 0)) ∧ W1.heap[vb]? = some (.cells (encE x).toArray 61)) := by rw [← hW1]; exact ⟨HS1.out _ rfl, HS2.out _ rfl⟩
  have HW1 : Hid (w.drew.setRow g S1.toArray = W1) := hW1
  clear hc1 hW1
  have hc2 : ∀ ty dc, (Builtin.copy_ #[33, 33] ty #[.slice (some ⟨g, i * 3, none⟩) (n + 1 - i) dc, .slice (some ⟨vb, 0, none⟩) 1 1]).run Tryz.prog W1 = .ok (goInt (Nat.min 1 (n + 1 - i))) (W1.setRow g S2.toArray) := fun ty dc => HC2.out W1 HS3.out.1 HS3.out.2 ty dc
  generalize hW2 : W1.setRow g S2.toArray = W2 at hc2
  have HW2 : Hid (W1.setRow g S2.toArray = W2) := hW2
  clear hW2
  go_wp2
  go_ret
  exact ⟨_, rfl, HD.out w.drew _ _ rfl rfl rfl rfl (by rw [HW1.out, HW2.out])⟩

theorem zeroE_length (n : Nat) : (Builtin.zeroCells zE.cells n).toList.length = n * 3 := by
  rw [zE_cells]
  simp [Builtin.zeroCells]

set_option maxHeartbeats 4000000 in
set_option maxRecDepth 100000 in
theorem insert_grow (B i vb g cap : Nat) (L : List E) (x : E) (w : World) (h : Owns w B 61 (.slice (some ⟨g, 0, none⟩) L.length cap) L) (hB : B ≤ w.heap.size) (hx : w.heap[vb]? = some (.cells (encE x).toArray 61)) (hi : i < L.length) (hl : L.length ≤ 1000) (hnc : L.length ≤ cap) (hc : cap < L.length + 1) :
    Calls Tryz.prog 117 #[.slice (some ⟨g, 0, none⟩) L.length cap, .int .i64 (i : Int), .slice (some ⟨vb, 0, none⟩) 1 1] w fun e w' => ∃ v', e = .returned v' ∧ Owns w' B 61 v' (L.take i ++ x :: L.drop i) ∧ w.grownBy w' (some g) ∧ Fresh w (.slice (some ⟨g, 0, none⟩) L.length cap) v' := by
  obtain ⟨inf, hinf, hs, hb, hz⟩ := info61
  have hglt : g < w.heap.size := (World.ownsRow.lt h g rfl).2
  have hvlt : vb < w.heap.size := lt_of_some hx
  obtain ⟨N, hN⟩ : ∃ N, N = w.heap.size := ⟨_, rfl⟩
  obtain ⟨G, hG⟩ : ∃ G, G = grownCap w (L.length + 1) cap 61 := ⟨_, rfl⟩
  have hGn : L.length + 1 ≤ G := by rw [hG]; exact grownCap_ge w _ _ _
  have hGm : G ≤ maxLen := by rw [hG]; exact grownCap_le_maxLen w _ cap 61 (by simp only [maxLen]; omega)
  obtain ⟨Z, hZ⟩ : ∃ Z, Z = (Builtin.zeroCells zE.cells (L.length + 1 - i)).toList := ⟨_, rfl⟩
  obtain ⟨Y, hY⟩ : ∃ Y, Y = (Builtin.zeroCells zE.cells (G - (L.length + 1))).toList := ⟨_, rfl⟩
  have hZl : Z.length = (L.length + 1 - i) * 3 := by rw [hZ, zeroE_length]
  have hYl : Y.length = (G - (L.length + 1)) * 3 := by rw [hY, zeroE_length]
  have hti : (rowV (L.take i)).length = i * 3 := by rw [rowV_length]; simp; omega
  have hold : (Builtin.firstCells inf.size i (.slice (some ⟨g, 0, none⟩) i cap)).run Tryz.prog w.drew = .ok (rowV (L.take i)).toArray w.drew := by
    rw [hs]
    refine run_firstCells_some w.drew 3 i ⟨g, 0, none⟩ i cap (rowV (L.take i)) hti (fun j v hj => ?_)
    refine World.ownsRow.cells h rfl j v ?_
    rw [← rowV_take, List.getElem?_take] at hj
    split at hj
    · exact hj
    · cases hj
  have hrz : ∀ ty, (Builtin.append_ #[33, 3] ty #[.slice (some ⟨g, 0, none⟩) i cap, .int .i64 ((L.length : Int) + 1 - (i : Int))]).run Tryz.prog w =
      .ok (.slice (some ⟨N, 0, none⟩) (L.length + 1) G) (w.drew.alloc (.cells (rowV (L.take i) ++ (Z ++ Y)).toArray 61)) := fun ty => by
    have hik : i + (L.length + 1 - i) = L.length + 1 := by omega
    have e := Lib.run_append_grow_zeros w 33 3 ty 61 inf zE .i64 .i64 Tryz.underlying33 Tryz.underlying3 hinf hz (some ⟨g, 0, none⟩) i cap (rowV (L.take i)) hold (L.length + 1 - i) (by omega) (by rw [hs]; omega) (by omega) (by omega) (by rw [hb]; omega) (by rw [hb, hik]; exact growslice_fits (by omega) (by omega))
    rw [hik, ← hG] at e
    rw [show (L.length : Int) + 1 - (i : Int) = ((L.length + 1 - i : Nat) : Int) by omega, e, hN]
    congr 3
    apply Array.ext'
    rw [hZ, hY]
    simp
  obtain ⟨W1, hW1⟩ : ∃ W1, W1 = w.drew.alloc (.cells (rowV (L.take i) ++ (Z ++ Y)).toArray 61) := ⟨_, rfl⟩
  rw [← hW1] at hrz
  have g1 : W1.heap[N]? = some (.cells (rowV (L.take i) ++ (Z ++ Y)).toArray 61 (0, 0)) := by rw [hW1, hN]; exact heap_alloc_new w.drew _
  have o1 : ∀ k, k < N → W1.heap[k]? = w.heap[k]? := fun k hk => by rw [hW1]; exact heap_alloc_old w.drew _ (show k < w.drew.heap.size by rw [hN] at hk; exact hk)
  obtain ⟨S1, hS1⟩ : ∃ S1, S1 = splice (rowV (L.take i) ++ (Z ++ Y)) (i * 3) (encE x) := ⟨_, rfl⟩
  have l1 : S1.length = G * 3 := by rw [hS1, length_splice _ _ _ (by rw [encE_length]; simp [hti, hZl]; omega)]; simp [hti, hZl, hYl]; omega
  have hc1 : ∀ ty dc, (Builtin.copy_ #[33, 33] ty #[.slice (some ⟨N, i * 3, none⟩) (L.length + 1 - i) dc, .slice (some ⟨vb, 0, none⟩) 1 1]).run Tryz.prog W1 = .ok (goInt (Nat.min 1 (L.length + 1 - i))) (W1.setRow N S1.toArray) := fun ty dc => by
    rw [hS1]
    exact run_copy_rowK W1 33 33 ty 61 3 N (i * 3) (L.length + 1 - i) dc ⟨vb, 0, none⟩ 1 1 _ 61 (encE x) Tryz.underlying33 isize61 g1 (by rw [encE_length, Nat.min_eq_min, Nat.min_eq_left (by omega)]) (fun j u hu => cells_of_block (by rw [o1 vb (by omega)]; exact hx) j u (by simpa [rowV] using hu))
      (by rw [encE_length]; simp [hti, hZl]; omega) (fun u hu => rowV_one [x] u (by simpa [rowV] using hu))
  obtain ⟨W2, hW2⟩ : ∃ W2, W2 = W1.setRow N S1.toArray := ⟨_, rfl⟩
  rw [← hW2] at hc1
  have g2 : W2.heap[N]? = some (.cells S1.toArray 61 (0, 0)) := by rw [hW2]; exact setRow_heap W1 N _ _ 61 (0, 0) g1
  have o2 : ∀ k, k < N → W2.heap[k]? = w.heap[k]? := fun k hk => by rw [hW2, setRow_other W1 N k _ (by omega)]; exact o1 k hk
  have hc2 : ∀ ty dc sc, (Builtin.copy_ #[33, 33] ty #[.slice (some ⟨N, (i + 1) * 3, none⟩) (L.length - i) dc, .slice (some ⟨g, i * 3, none⟩) (L.length - i) sc]).run Tryz.prog W2.drew = .ok (goInt (Nat.min (L.length - i) (L.length - i))) (W2.drew.setRow N (splice S1 ((i + 1) * 3) (rowV (L.drop i))).toArray) := fun ty dc sc =>
    run_copy_rowK W2.drew 33 33 ty 61 3 N ((i + 1) * 3) (L.length - i) dc ⟨g, i * 3, none⟩ (L.length - i) sc S1 61 (rowV (L.drop i)) Tryz.underlying33 isize61 g2 (by rw [rowV_length, List.length_drop, Nat.min_eq_min, Nat.min_self]) (fun j u hu => by
        have := drop_cells h rfl i j u hu
        rw [addr_lit] at this ⊢
        rw [World.cell?_of_block (show W2.drew.heap[(⟨g, i * 3 + j, none⟩ : Addr).block]? = w.heap[(⟨g, i * 3 + j, none⟩ : Addr).block]? from o2 g (by omega))]
        exact this)
      (by rw [rowV_length, l1]; simp; omega) (rowV_one _)
  obtain ⟨W3, hW3⟩ : ∃ W3, W3 = W2.drew.setRow N (splice S1 ((i + 1) * 3) (rowV (L.drop i))).toArray := ⟨_, rfl⟩
  rw [← hW3] at hc2
  have HD : Hid (Owns W3 B 61 (.slice (some ⟨N, 0, none⟩) (L.length + 1) G) (L.take i ++ x :: L.drop i) ∧ w.grownBy W3 (some g) ∧ Fresh w (.slice (some ⟨g, 0, none⟩) L.length cap) (.slice (some ⟨N, 0, none⟩) (L.length + 1) G)) := by
    have hlen : (L.take i ++ x :: L.drop i).length = L.length + 1 := by simp; omega
    have g3 : W3.heap[N]? = some (.cells (splice S1 ((i + 1) * 3) (rowV (L.drop i))).toArray 61 (0, 0)) := by rw [hW3]; exact setRow_heap W2.drew N _ _ 61 (0, 0) g2
    refine ⟨⟨rowV_length _, Or.inr ⟨N, G, _, by rw [hlen], by omega, g3, by rw [hlen]; exact hGn, hGm, ?_, ?_⟩⟩, ⟨by rw [hW3, hW2, hW1]; rfl, by rw [hW3, hW2, hW1]; rfl, by rw [hW3, hW2, hW1]; rfl, by rw [hW3, hW2, hW1]; simp, fun k hk _ => ?_⟩, fun k hk => ?_⟩
    · rw [List.size_toArray, length_splice _ _ _ (by rw [rowV_length, l1]; simp; omega), l1]
    · show (splice _ _ _).take _ = _
      rw [hS1, grown_eq x Z Y (by omega) hZl, List.take_left' (rowV_length _)]
    · rw [hW3, setRow_other _ N k _ (by omega)]
      exact o2 k (by omega)
    · have hk' : N = k := by simpa [Value.ownBlock] using hk
      exact Or.inr (by omega)
  have hG63 : G ≤ 9223372036854775807 := by simp only [maxLen] at hGm; omega
  clear h hx hold hW1 hW2 hW3 hG hGm hZ hY hZl hYl hti g1 o1 g2 o2 hS1 l1 hinf hs hb hz hglt hvlt hN
  generalize hnn : L.length = n at *
  have hz2 : ¬ ((i : Int) = (n : Int)) := by omega
  have hin : i ≤ n := by omega
  have hGi : ¬ (G = i) := by omega
  have hGim : ¬ (G = i + 1) := by omega
  have hci : ¬ (cap = i) := by omega
  have hb3 : (i : Int) ≤ (n : Int) := by omega
  have hb6 : (i : Int) ≤ (n : Int) + 1 := by omega
  have hz3 : (cap : Int) < (n : Int) + 1 := by omega
  have hw1 : IntKind.i64.wrap ((i : Int) + 1) = (i : Int) + 1 := by rw [IntKind.wrap_i64]; omega
  have hb1 : (0 : Int) ≤ (i : Int) + 1 := by omega
  have htn : ((i : Int) + 1).toNat = i + 1 := by omega
  have hb5 : n + 1 - (i + 1) = n - i := by omega
  clear hnn hB
  go_enter Tryz.func117, Tryz.ntmps117
  go_wp2_with (at_builtin; refine Lib.wpList_append_run _ rfl _ _ _ _ rfl _ _ rfl rfl _ _ (hrz _) ?_)
  all_goals clear hrz
  go_region
  go_wp2
  go_ret
  exact ⟨_, rfl, HD.out⟩

/-- One is put in, wherever. -/
theorem insert_any (B i vb : Nat) (v : Value) (L M : List E) (x : E) (w : World) (h : Owns w B 61 v L) (hB : B ≤ w.heap.size) (hx : w.heap[vb]? = some (.cells (encE x).toArray 61)) (hne : v.ownBlock ≠ some vb) (hi : i ≤ L.length) (hl : L.length ≤ 1000) (hM : M = L.take i ++ x :: L.drop i) :
    Calls Tryz.prog 117 #[v, .int .i64 (i : Int), .slice (some ⟨vb, 0, none⟩) 1 1] w fun e w' => ∃ v', e = .returned v' ∧ Owns w' B 61 v' M ∧ w.grownBy w' v.ownBlock ∧ Fresh w v v' := by
  subst hM
  rcases Nat.lt_or_eq_of_le hi with hlt | he
  · rcases h.shape with ⟨_, hL⟩ | ⟨g, cap, rfl, h1, h2, h3, h4⟩
    · rw [hL] at hlt; simp at hlt
    · have hne' : vb ≠ g := fun e => hne (by simp [Value.ownBlock, e])
      by_cases hr : L.length + 1 ≤ cap
      · exact insert_shift B i vb g cap L x w h hx hne' hlt hl hr
      · exact insert_grow B i vb g cap L x w h hB hx hlt hl h3 (by omega)
  · have e : L.take i ++ x :: L.drop i = L ++ [x] := by rw [he]; simp
    rw [e]
    exact insert_end B i vb v L x w h hB hx he hl

end Go.Proofs.YtebcjaenhiiflaaGreatDoor.G
