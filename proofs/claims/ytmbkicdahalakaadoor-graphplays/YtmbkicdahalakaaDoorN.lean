/- slices.Insert at edges, where there is room behind: the edges behind the place are moved on. -/
import Derived.Test.YtmbkicdahalakaaDoorJ
namespace Go.Proofs.YtmbkicdahalakaaDoor
open Go.RowKit

theorem size59 (w : World) : (Go.sizeOf 59).run Tryd.prog w = .ok 3 w := by kernel_rfl
theorem isize59 : (Tryd.prog.info? 59).map (·.size) = some 3 := by kernel_rfl

theorem no_overlap (w : World) (vb g o lb cb : Nat) (x : E) (cur : Array Value) (hne : vb ≠ g) (hx : w.heap[vb]? = some (.cells (encE x).toArray 59)) (hg : w.heap[g]? = some (.cells cur 59 (0, 0))) (hc : cur.size ≠ 0) :
    (callFunc 55 #[.slice (some ⟨vb, 0, none⟩) 1 1, .slice (some ⟨g, o, none⟩) lb cb]).run Tryd.prog w = .ok (.value (.bool false)) w := by
  rw [run_callFunc_extern Tryd.func55 (by kernel_rfl) (by kernel_rfl) (by kernel_rfl) (e := Extern.SlicesOverlaps.overlaps #[49, 49] #[4]) (by kernel_rfl),
    Lib.run_overlaps_apart w 49 4 59 Tryd.underlying49 3 size59 ⟨vb, 0, none⟩ ⟨g, o, none⟩ 1 1 lb cb hne 59 59 3 cur.size (by simp [World.shape?, hx, encE]) (by simp [World.shape?, hg]) hc (by simp [World.frozen?, hx]) (by simp [World.frozen?, hx])]
  rfl

theorem drop_cells {w : World} {B g : Nat} {v : Value} {L : List E} (h : Owns w B 59 v L) (hv : v.ownBlock = some g) (i : Nat) : ∀ j u, (rowV (L.drop i))[j]? = some u → w.cell? ((⟨g, i * 3, none⟩ : Addr).add j) = some u := by
  intro j u hu
  rw [addr_lit]
  rw [← rowV_drop, List.getElem?_drop] at hu
  have := World.ownsRow.cells h hv (i * 3 + j) u hu
  rwa [addr0_add] at this

theorem cell_heap {w W : World} (h : W.heap = w.heap) (a : Addr) : W.cell? a = w.cell? a := by simp [World.cell?, h]

/-- The row's world behind the two moves. -/
theorem shift_done {w W : World} {B g cap i : Nat} {L : List E} {cur : Array Value} (x : E) (hs : W.heap = w.heap) (ho : W.os = w.os) (ht : W.tape = w.tape) (hp : W.output = w.output)
    (hg : w.heap[g]? = some (.cells cur 59 (0, 0))) (hB : B ≤ g) (hi : i ≤ L.length) (htk : cur.toList.take (L.length * 3) = rowV L) (hsz : cur.size = cap * 3) (hc : L.length + 1 ≤ cap) (hm : cap ≤ maxLen) (A : Array Value) (W' : World) (hW' : W' = (W.setRow g A).setRow g (splice (shifted cur.toList L i) (i * 3) (encE x)).toArray) :
    Owns W' B 59 (.slice (some ⟨g, 0, none⟩) (L.length + 1) cap) (L.take i ++ x :: L.drop i) ∧ w.grownBy W' (some g) ∧ Fresh w (.slice (some ⟨g, 0, none⟩) L.length cap) (.slice (some ⟨g, 0, none⟩) (L.length + 1) cap) := by
  subst hW'
  have hlen : (L.take i ++ x :: L.drop i).length = L.length + 1 := by simp; omega
  have hg' : W.heap[g]? = some (.cells cur 59 (0, 0)) := by rw [hs]; exact hg
  rw [setRow_setRow]
  refine ⟨⟨rowV_length _, Or.inr ⟨g, cap, _, by rw [hlen], hB, setRow_heap W g cur _ 59 (0, 0) hg', by rw [hlen]; exact hc, hm, ?_, ?_⟩⟩, ⟨ho, ht, hp, by simp [hs], fun k hk hn => ?_⟩, fun k hk => Or.inl hk⟩
  · rw [List.size_toArray, length_splice _ _ _ (by rw [shifted_length hi (by simp; omega), encE_length]; simp; omega), shifted_length hi (by simp; omega)]
    simpa using hsz
  · show (splice _ _ _).take _ = _
    rw [shifted_eq x hi htk (by simp; omega), List.take_left' (rowV_length _)]
  · rw [setRow_other W g k _ (fun e => hn (by rw [e])), hs]

set_option maxHeartbeats 4000000 in
set_option maxRecDepth 100000 in
theorem insert_shift (B i vb g cap : Nat) (L : List E) (x : E) (w : World) (h : Owns w B 59 (.slice (some ⟨g, 0, none⟩) L.length cap) L) (hx : w.heap[vb]? = some (.cells (encE x).toArray 59)) (hne : vb ≠ g) (hi : i < L.length) (hl : L.length ≤ 1000) (hc : L.length + 1 ≤ cap) :
    Calls Tryd.prog 39 #[.slice (some ⟨g, 0, none⟩) L.length cap, .int .i64 (i : Int), .slice (some ⟨vb, 0, none⟩) 1 1] w fun e w' => ∃ v', e = .returned v' ∧ Owns w' B 59 v' (L.take i ++ x :: L.drop i) ∧ w.grownBy w' (some g) ∧ Fresh w (.slice (some ⟨g, 0, none⟩) L.length cap) v' := by
  rcases h.2 with ⟨hv, _⟩ | ⟨g', cap', cur, hv, hBg, hg, _, hm, hsz, htk⟩
  · simp at hv
  obtain ⟨hv1, _, hv2⟩ : some (⟨g, 0, none⟩ : Addr) = some ⟨g', 0, none⟩ ∧ L.length = L.length ∧ cap = cap' := by
    injection hv with a b c
    exact ⟨a, b, c⟩
  obtain rfl : g = g' := by simpa using hv1
  subst hv2
  have hov := fun (W : World) (hW : W.heap = w.heap) lb cb => no_overlap W vb g ((i + 1) * 3) lb cb x cur hne (by rw [hW]; exact hx) (by rw [hW]; exact hg) (by omega)
  have hcp1 : ∀ (W : World), W.heap = w.heap → ∀ ty dc sc, (Builtin.copy_ #[49, 49] ty #[.slice (some ⟨g, (i + 1) * 3, none⟩) (L.length - i) dc, .slice (some ⟨g, i * 3, none⟩) (L.length + 1 - i) sc]).run Tryd.prog W = .ok (goInt (Nat.min (L.length + 1 - i) (L.length - i))) (W.setRow g (shifted cur.toList L i).toArray) := fun W hW ty dc sc =>
    run_copy_rowK W 49 49 ty 59 3 g ((i + 1) * 3) (L.length - i) dc ⟨g, i * 3, none⟩ (L.length + 1 - i) sc cur.toList 59 (rowV (L.drop i)) Tryd.underlying49 isize59 (by rw [hW, Array.toArray_toList]; exact hg) (by rw [rowV_length, List.length_drop, Nat.min_eq_min, Nat.min_eq_right (by omega)]) (fun j u hu => by rw [cell_heap hW]; exact drop_cells h rfl i j u hu)
      (by rw [rowV_length]; simp; omega) (rowV_one _)
  have hcp2 : ∀ (W : World), W.heap[g]? = some (.cells (shifted cur.toList L i).toArray 59 (0, 0)) → W.heap[vb]? = some (.cells (encE x).toArray 59) → ∀ ty dc, (Builtin.copy_ #[49, 49] ty #[.slice (some ⟨g, i * 3, none⟩) (L.length + 1 - i) dc, .slice (some ⟨vb, 0, none⟩) 1 1]).run Tryd.prog W = .ok (goInt (Nat.min 1 (L.length + 1 - i))) (W.setRow g (splice (shifted cur.toList L i) (i * 3) (encE x)).toArray) := fun W hW hV ty dc =>
    run_copy_rowK W 49 49 ty 59 3 g (i * 3) (L.length + 1 - i) dc ⟨vb, 0, none⟩ 1 1 (shifted cur.toList L i) 59 (encE x) Tryd.underlying49 isize59 hW (by rw [encE_length, Nat.min_eq_min, Nat.min_eq_left (by omega)]) (fun j u hu => cells_of_block hV j u (by simpa [rowV] using hu))
      (by rw [shifted_length (by omega) (by simp; omega), encE_length]; simp; omega) (fun u hu => rowV_one [x] u (by simpa [rowV] using hu))
  have HV : Hid (w.heap[vb]? = some (.cells (encE x).toArray 59)) := hx
  have HG : Hid (w.heap[g]? = some (.cells cur 59 (0, 0))) := hg
  have HD : Hid (∀ (W W' : World) (A : Array Value), W.heap = w.heap → W.os = w.os → W.tape = w.tape → W.output = w.output → W' = (W.setRow g A).setRow g (splice (shifted cur.toList L i) (i * 3) (encE x)).toArray → Owns W' B 59 (.slice (some ⟨g, 0, none⟩) (L.length + 1) cap) (L.take i ++ x :: L.drop i) ∧ w.grownBy W' (some g) ∧ Fresh w (.slice (some ⟨g, 0, none⟩) L.length cap) (.slice (some ⟨g, 0, none⟩) (L.length + 1) cap)) :=
    fun W W' A e1 e2 e3 e4 e5 => shift_done x e1 e2 e3 e4 hg hBg (by omega) htk hsz hc hm A W' e5
  have hcap : cap ≤ 9223372036854775807 := by simp only [maxLen] at hm; omega
  clear h hv hv1 hBg hg htk hsz hm hx
  have HS1 : Hid (∀ (W : World), W.heap = w.heap → (W.setRow g (shifted cur.toList L i).toArray).heap[g]? = some (.cells (shifted cur.toList L i).toArray 59 (0, 0))) := fun W hW => setRow_heap W g cur _ 59 (0, 0) (by rw [hW]; exact HG.out)
  have HS2 : Hid (∀ (W : World), W.heap = w.heap → (W.setRow g (shifted cur.toList L i).toArray).heap[vb]? = some (.cells (encE x).toArray 59)) := fun W hW => by rw [setRow_other W g vb _ hne, hW]; exact HV.out
  have HO : Hid (∀ (W : World), W.heap = w.heap → ∀ lb cb, (callFunc 55 #[.slice (some ⟨vb, 0, none⟩) 1 1, .slice (some ⟨g, (i + 1) * 3, none⟩) lb cb]).run Tryd.prog W = .ok (.value (.bool false)) W) := hov
  have HC1 : Hid _ := hcp1
  have HC2 : Hid _ := hcp2
  clear hov hcp1 hcp2
  generalize (shifted cur.toList L i) = S1 at *
  generalize (splice S1 (i * 3) (encE x)) = S2 at *
  generalize hnn : L.length = n at *
  have hz2 : ¬ ((i : Int) = (n : Int)) := by omega
  have hin : i ≤ n := by omega
  have hb2 : ¬ (cap = i + 1) := by omega
  have hb4 : ¬ (cap = i) := by omega
  have hb3 : (i : Int) ≤ (n : Int) + 1 := by omega
  have hw1 : IntKind.i64.wrap ((i : Int) + 1) = (i : Int) + 1 := by rw [IntKind.wrap_i64]; omega
  have hb1 : (0 : Int) ≤ (i : Int) + 1 := by omega
  have htn : ((i : Int) + 1).toNat = i + 1 := by omega
  have hb5 : n + 1 - (i + 1) = n - i := by omega
  clear hnn
  go_enter Tryd.func39, Tryd.ntmps39
  go_wp2_with (rw [HO.out _ rfl])
  have hc1 : ∀ ty dc sc, (Builtin.copy_ #[49, 49] ty #[.slice (some ⟨g, (i + 1) * 3, none⟩) (n - i) dc, .slice (some ⟨g, i * 3, none⟩) (n + 1 - i) sc]).run Tryd.prog w.drew = .ok (goInt (Nat.min (n + 1 - i) (n - i))) (w.drew.setRow g S1.toArray) := fun ty dc sc => HC1.out w.drew rfl ty dc sc
  generalize hW1 : w.drew.setRow g S1.toArray = W1 at hc1
  go_region
  have HS3 : Hid (W1.heap[g]? = some (.cells S1.toArray 59 (0, 0)) ∧ W1.heap[vb]? = some (.cells (encE x).toArray 59)) := by rw [← hW1]; exact ⟨HS1.out _ rfl, HS2.out _ rfl⟩
  have HW1 : Hid (w.drew.setRow g S1.toArray = W1) := hW1
  clear hc1 hW1
  have hc2 : ∀ ty dc, (Builtin.copy_ #[49, 49] ty #[.slice (some ⟨g, i * 3, none⟩) (n + 1 - i) dc, .slice (some ⟨vb, 0, none⟩) 1 1]).run Tryd.prog W1 = .ok (goInt (Nat.min 1 (n + 1 - i))) (W1.setRow g S2.toArray) := fun ty dc => HC2.out W1 HS3.out.1 HS3.out.2 ty dc
  generalize hW2 : W1.setRow g S2.toArray = W2 at hc2
  have HW2 : Hid (W1.setRow g S2.toArray = W2) := hW2
  clear hW2
  go_wp2
  go_ret
  exact ⟨_, rfl, HD.out w.drew _ _ rfl rfl rfl rfl (by rw [HW1.out, HW2.out])⟩

end Go.Proofs.YtmbkicdahalakaaDoor
