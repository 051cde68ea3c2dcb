/- slices.Delete at edges: one is taken out. -/
import Derived.Test.YtmbkicdahalakaaDoorO
namespace Go.Proofs.YtmbkicdahalakaaDoor
open Go.RowKit

set_option maxHeartbeats 4000000 in
set_option maxRecDepth 100000 in
theorem delete_walk (i k g cap : Nat) (w W1 W2 : World) (hi : i ≤ k) (hk : k + 1 ≤ cap) (hcap : cap ≤ 9223372036854775807) (hkl : k ≤ 1000)
    (hap : ∀ ty A sc, (i < k → A = ⟨g, (i + 1) * 3, none⟩) → (Builtin.append_ #[49, 49] ty #[.slice (some ⟨g, 0, none⟩) i cap, .slice (some A) (k - i) sc]).run Tryd.prog w.drew = .ok (.slice (some ⟨g, 0, none⟩) k cap) W1)
    (hcl : ∀ ty sc, (Builtin.clear_ #[49] ty #[.slice (some ⟨g, k * 3, none⟩) 1 sc]).run Tryd.prog W1 = .ok (.tuple #[]) W2) :
    Calls Tryd.prog 37 #[.slice (some ⟨g, 0, none⟩) (k + 1) cap, .int .i64 (i : Int), .int .i64 ((i : Int) + 1)] w fun e w' => e = .returned (.slice (some ⟨g, 0, none⟩) k cap) ∧ w' = W2 := by
  have hic : i ≤ cap := by omega
  have hki : k + 1 - (i + 1) = k - i := by omega
  have hz1 : ¬ ((i : Int) = (i : Int) + 1) := by omega
  have hb1 : (i : Int) + 1 ≤ (k : Int) + 1 := by omega
  have hb2 : (i : Int) ≤ (i : Int) + 1 := by omega
  have hb3 : (0 : Int) ≤ (i : Int) + 1 := by omega
  have hb4 : (i : Int) ≤ (cap : Int) := by omega
  have htn : ((i : Int) + 1).toNat = i + 1 := by omega
  have hw1 : IntKind.i64.wrap ((i : Int) + 1) = (i : Int) + 1 := by rw [IntKind.wrap_i64]; omega
  have hck : ¬ (cap = k) := by omega
  have hkk : k + 1 - k = 1 := by omega
  by_cases hcj : cap = i + 1
  · have hap1 : ∀ ty sc, (Builtin.append_ #[49, 49] ty #[.slice (some ⟨g, 0, none⟩) i cap, .slice (some ⟨g, 0, none⟩) (k - i) sc]).run Tryd.prog w.drew = .ok (.slice (some ⟨g, 0, none⟩) k cap) W1 := fun ty sc => hap ty _ sc (fun h => by omega)
    have HAP : Hid (∀ ty sc, (Builtin.append_ #[49, 49] ty #[.slice (some ⟨g, 0, none⟩) i cap, .slice (some ⟨g, 0, none⟩) (k - i) sc]).run Tryd.prog w.drew = .ok (.slice (some ⟨g, 0, none⟩) k cap) W1) := hap1
    clear hap hap1
    go_enter Tryd.func37, Tryd.ntmps37
    go_wp2
    go_region_law (refine step_append_runK rfl (.tmp 22) (.tmp 25) 49 49 rfl (.slice (some ⟨g, 0, none⟩) i cap) (.slice (some ⟨g, 0, none⟩) (k - i) (cap - (i + 1))) (by simp [Act.eval, Act.put, hcj]) (by simp [Act.eval, Act.put, hcj]) (HAP.out _ _) ?_)
    go_wp2
    go_ret
    exact ⟨by rw [hcj]; rfl, rfl⟩
  · have hap1 : ∀ ty sc, (Builtin.append_ #[49, 49] ty #[.slice (some ⟨g, 0, none⟩) i cap, .slice (some ⟨g, (i + 1) * 3, none⟩) (k - i) sc]).run Tryd.prog w.drew = .ok (.slice (some ⟨g, 0, none⟩) k cap) W1 := fun ty sc => hap ty _ sc (fun h => rfl)
    have HAP : Hid (∀ ty sc, (Builtin.append_ #[49, 49] ty #[.slice (some ⟨g, 0, none⟩) i cap, .slice (some ⟨g, (i + 1) * 3, none⟩) (k - i) sc]).run Tryd.prog w.drew = .ok (.slice (some ⟨g, 0, none⟩) k cap) W1) := hap1
    clear hap hap1
    go_enter Tryd.func37, Tryd.ntmps37
    go_wp2
    go_region_law (refine step_append_runK rfl (.tmp 22) (.tmp 25) 49 49 rfl (.slice (some ⟨g, 0, none⟩) i cap) (.slice (some ⟨g, (i + 1) * 3, none⟩) (k - i) (cap - (i + 1))) (by simp [Act.eval, Act.put]) (by simp [Act.eval, Act.put]) (HAP.out _ _) ?_)
    go_wp2
    go_ret
    exact ⟨rfl, rfl⟩

theorem delete_any (B i : Nat) (v : Value) (L M : List E) (w : World) (h : Owns w B 59 v L) (hi : i < L.length) (hl : L.length ≤ 1000) (hM : M = L.take i ++ L.drop (i + 1)) :
    Calls Tryd.prog 37 #[v, .int .i64 (i : Int), .int .i64 ((i : Int) + 1)] w fun e w' => ∃ v', e = .returned v' ∧ Owns w' B 59 v' M ∧ w.grownBy w' v.ownBlock ∧ Fresh w v v' := by
  subst hM
  rcases h.2 with ⟨_, h0⟩ | ⟨g, cap, cur, rfl, hBg, hg, hnc, hm, hsz, htk⟩
  · omega
  obtain ⟨k, hk⟩ : ∃ k, L.length = k + 1 := ⟨L.length - 1, by omega⟩
  obtain ⟨inf, hinf, hs, hb, hz⟩ := info59
  have hcl : (closed cur.toList L i).length = cur.size := by rw [closed_length hi (by simp; omega)]; simp
  have hld : (rowV (L.drop (i + 1))).length = (k - i) * 3 := by rw [rowV_length]; simp; omega
  have hap : ∀ ty A sc, (i < k → A = ⟨g, (i + 1) * 3, none⟩) → (Builtin.append_ #[49, 49] ty #[.slice (some ⟨g, 0, none⟩) i cap, .slice (some A) (k - i) sc]).run Tryd.prog w.drew = .ok (.slice (some ⟨g, 0, none⟩) k cap) (w.drew.setRow g (closed cur.toList L i).toArray) := by
    intro ty A sc hA
    have hr := run_append_room (P := Tryd.prog) w.drew 49 ty 59 inf Tryd.underlying49 hinf g i cap cur hg A (k - i) sc (rowV (L.drop (i + 1))) (by rw [hs]; exact hld) (fun j u hu => by
        rcases Nat.lt_or_ge i k with hlt | hge
        · rw [hA hlt]
          exact drop_cells h rfl (i + 1) j u hu
        · have h0 : (rowV (L.drop (i + 1))).length = 0 := by rw [hld]; omega
          rw [List.length_eq_zero_iff.1 h0] at hu
          simp at hu) (rowV_one _) (by omega) (by rw [hs, hld]; omega)
    rw [hr, hs, show i + (k - i) = k by omega]
    rfl
  have hg1 : (w.drew.setRow g (closed cur.toList L i).toArray).heap[g]? = some (.cells (closed cur.toList L i).toArray 59 (0, 0)) := setRow_heap w.drew g cur _ 59 (0, 0) hg
  have hcr : ∀ ty sc, (Builtin.clear_ #[49] ty #[.slice (some ⟨g, k * 3, none⟩) 1 sc]).run Tryd.prog (w.drew.setRow g (closed cur.toList L i).toArray) = .ok (.tuple #[]) ((w.drew.setRow g (closed cur.toList L i).toArray).setRow g (splice (closed cur.toList L i) (k * 3) (Builtin.zeroCells zE.cells 1).toList).toArray) := fun ty sc =>
    run_clear_rowK _ 49 59 ty zE Tryd.underlying49 Tryd.zeroValue59 g (k * 3) 1 sc (by omega) _ 59 hg1 (by rw [zeroE_length, hcl]; omega) (zeroE_one 1)
  have hwalk := delete_walk i k g cap w _ _ (by omega) (by omega) (by simp only [maxLen] at hm; omega) (by omega) hap hcr
  rw [hk]
  refine hwalk.mono ?_
  rintro e w' ⟨rfl, rfl⟩
  refine ⟨_, rfl, ?_, ?_, fun b hb => Or.inl hb⟩
  · have hlen : (L.take i ++ L.drop (i + 1)).length = k := by rw [out_length hi]; omega
    rw [setRow_setRow]
    refine ⟨rowV_length _, Or.inr ⟨g, cap, _, by rw [hlen], hBg, setRow_heap w.drew g cur _ 59 (0, 0) hg, by rw [hlen]; omega, hm, ?_, ?_⟩⟩
    · rw [List.size_toArray, length_splice _ _ _ (by rw [zeroE_length, hcl]; omega), hcl]; exact hsz
    · show (splice _ _ _).take _ = _
      have := closed_take hi htk (by simp; omega) (Builtin.zeroCells zE.cells 1).toList
      rw [hk, show k + 1 - 1 = k by omega] at this
      rw [hlen]; exact this
  · rw [setRow_setRow]
    exact ⟨rfl, rfl, rfl, by simp, fun j _ hn => setRow_other w.drew g j _ (fun e => hn (by simp [Value.ownBlock, e]))⟩

end Go.Proofs.YtmbkicdahalakaaDoor
