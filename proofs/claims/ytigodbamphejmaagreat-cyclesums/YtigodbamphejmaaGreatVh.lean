/- slices.Clone, IndexFunc, DeleteFunc at edges, as through calls them. -/
import Derived.Test.YtigodbamphejmaaGreatVf
import Derived.Test.YtigodbamphejmaaGreatGW
namespace Go.Proofs.YtigodbamphejmaaGreat.S
open Go.RowKit

/-- The box of the edge that is held. -/
def Box (w : World) (c : Nat) (d : Edg) : Prop := w.heap[c]? = some (.cells #[.int .i64 d.1, .int .i64 d.2.1, .int .i64 d.2.2] 49)
theorem Box.below {w w' : World} {c : Nat} {d : Edg} (h : Box w c d) (hb : Below w.heap.size w w') : Box w' c d := (hb.block c (lt_of_some h)).trans h
theorem Box.cells {w : World} {c : Nat} {d : Edg} (h : Box w c d) : w.cell? ⟨c, 0, none⟩ = some (.int .i64 d.1) ∧ w.cell? ⟨c, 1, none⟩ = some (.int .i64 d.2.1) ∧ w.cell? ⟨c, 2, none⟩ = some (.int .i64 d.2.2) := by
  unfold Box at h
  refine ⟨?_, ?_, ?_⟩ <;> simp [World.cell?, h]

theorem held_any (x d : Edg) (c : Nat) (w : World) (h : Box w c d) :
    Calls Tryz.prog 49 #[.agg #[.int .i64 x.1, .int .i64 x.2.1, .int .i64 x.2.2], .pointer (some ⟨c, 0, none⟩)] w fun e w' => e = .returned (.bool (decide (x = d))) ∧ Below w.heap.size w w' := by
  obtain ⟨c0, c1, c2⟩ := h.cells
  have hl : c < w.heap.size := lt_of_some h
  clear h
  obtain ⟨x0, x1, x2⟩ := x
  obtain ⟨d0, d1, d2⟩ := d
  simp only at c0 c1 c2 ⊢
  have hb : Below w.heap.size w (w.alloc (.cells #[.int .i64 x0, .int .i64 x1, .int .i64 x2] 49)) := (Below.refl _ _).alloc (Nat.le_refl _) _
  have k0 := cell_below c0 hb
  have k1 := cell_below c1 hb
  have k2 := cell_below c2 hb
  clear hb c0 c1 c2
  go_enter Tryz.func49, Tryz.ntmps49
  go_wp2_with fail
  all_goals
    go_ret
    refine ⟨?_, (Below.refl _ _).alloc (Nat.le_refl _) _⟩
    simp_all

set_option maxRecDepth 100000 in
theorem clone_edges (u : Value) (B : Nat) (M : List Edg) (w : World) (h : G.Owns w B 49 u M) (hl : M.length ≤ 1000) :
    Calls Tryz.prog 48 #[u] w fun e w' => ∃ u', e = .returned u' ∧ G.Owns w' w.heap.size 49 u' M ∧ Below w.heap.size w w' := by
  have hq := fun (a : Option Addr) (n c : Nat) (W : World) => Lib.run_eql_slice_nil (P := Tryz.prog) W 31 49 a n c 0 0 Tryz.underlying31
  rcases h.shape with ⟨rfl, rfl⟩ | ⟨g, cap, rfl, _⟩
  · go_enter Tryz.func48, Tryz.ntmps48
    go_wp2_with fail
    go_ret
    exact ⟨_, rfl, World.ownsRow_nil _ _ _ _, Below.refl _ _⟩
  · obtain ⟨a', m', c', w', hr, ho, hb⟩ := G.copy_row 31 w B _ M h hl
    have HR : Hid (_ = _) := hr
    have HO : Hid (G.Owns w' w.heap.size 49 (.slice a' m' c') M ∧ Below w.heap.size w w') := ⟨ho, hb⟩
    clear hr ho hb h
    go_enter Tryz.func48, Tryz.ntmps48
    go_wp2_with (at_builtin; refine Lib.wpList_append_run _ rfl _ _ _ _ rfl _ _ rfl rfl _ _ HR.out ?_)
    go_ret
    exact ⟨_, rfl, HO.out.1, HO.out.2⟩

set_option maxHeartbeats 2000000 in
set_option maxRecDepth 100000 in
theorem index_edges (c g m cap B : Nat) (d : Edg) (M : List Edg) (w : World) (h : G.Owns w B 49 (.slice (some ⟨g, 0, none⟩) m cap) M) (hd : Box w c d) (hl : M.length ≤ 1000) (hm : M.length = m) :
    Calls Tryz.prog 69 #[.slice (some ⟨g, 0, none⟩) m cap, .func (.func 49) #[] #[.pointer (some ⟨c, 0, none⟩)]] w fun e w' => ((∃ i, i < m ∧ e = .returned (.int .i64 (i : Int)) ∧ M[i]? = some d ∧ ∀ j, j < i → M[j]? ≠ some d) ∨ (e = .returned (.int .i64 (-1)) ∧ ∀ j, j < m → M[j]? ≠ some d)) ∧ Below w.heap.size w w' := by
  have HO : Hid (G.Owns w B 49 (.slice (some ⟨g, 0, none⟩) m cap) M ∧ Box w c d ∧ M.length = m) := ⟨h, hd, hm⟩
  rw [hm] at hl
  clear h hd hm
  go_enter Tryz.func69, Tryz.ntmps69
  go_wp2_with fail
  go_loopw [8] (fun s8 wq => ∃ k : Nat, k ≤ m ∧ s8 = .int .i64 k ∧ (∀ j, j < k → M[j]? ≠ some d) ∧ Below w.heap.size w wq) (fun s8 _ => m - (intOf s8).toNat)
  case atStart => exact ⟨0, Nat.zero_le _, rfl, fun j hj => by omega, Below.refl _ _⟩
  case round =>
    obtain ⟨k, hk, rfl, hno, hb⟩ := hrel
    have HB : Hid ((∀ j, j < k → M[j]? ≠ some d) ∧ Below w.heap.size w wr) := ⟨hno, hb⟩
    clear hno hb
    by_cases hlt : k < m
    · obtain ⟨x, hx⟩ : ∃ x, M[k]? = some x := ⟨_, List.getElem?_eq_getElem (by rw [HO.out.2.2]; exact hlt)⟩
      obtain ⟨r0, r1, r2⟩ := (HO.out.1.below HB.out.2).at (g := g) rfl hx
      have r0' : wr.cell? ⟨g, k * 3, none⟩ = some (.int .i64 x.1) := r0
      have r1' : wr.cell? ⟨g, k * 3 + 1, none⟩ = some (.int .i64 x.2.1) := r1
      have r2' : wr.cell? ⟨g, k * 3 + 2, none⟩ = some (.int .i64 x.2.2) := r2
      have HX : Hid (M[k]? = some x) := hx
      have HC : Hid _ := held_any x d c wr (HO.out.2.1.below HB.out.2)
      clear r0 r1 r2 hx
      by_cases hxd : x = d
      · as_aux_lemma =>
        subst hxd
        go_wp2_with fail
        refine Calls.mono HC.out ?_
        rintro e w2 ⟨rfl, hb2⟩
        have HB2 : Hid (Below w.heap.size w w2) := HB.out.2.trans (hb2.mono HB.out.2.size)
        first | rw [decide_eq_true rfl] | simp only [decide_true]
        clear hb2 HC
        go_wp2_with fail
        go_ret
        exact ⟨.inl ⟨k, hlt, rfl, HX.out, HB.out.1⟩, HB2.out⟩
      · as_aux_lemma =>
        go_wp2_with fail
        refine Calls.mono HC.out ?_
        rintro e w2 ⟨rfl, hb2⟩
        have HB2 : Hid (Below w.heap.size w w2 ∧ ∀ j, j < k + 1 → M[j]? ≠ some d) := ⟨HB.out.2.trans (hb2.mono HB.out.2.size), fun j hj => by
          by_cases e : j = k
          · rw [e, HX.out]; exact fun e2 => hxd (Option.some.inj e2)
          · exact HB.out.1 j (by omega)⟩
        rw [decide_eq_false hxd]
        clear hb2 HC
        go_wp2_with fail
        go_roundw
        case rel => exact ⟨k + 1, by omega, by go_num, HB2.out.2, HB2.out.1⟩
        case measure => simp [intOf]; omega
    · as_aux_lemma =>
      have hke : k = m := by omega
      go_wp2_with fail
      go_ret
      exact ⟨.inr ⟨rfl, fun j hj => HB.out.1 j (by omega)⟩, HB.out.2⟩

end Go.Proofs.YtigodbamphejmaaGreat.S
