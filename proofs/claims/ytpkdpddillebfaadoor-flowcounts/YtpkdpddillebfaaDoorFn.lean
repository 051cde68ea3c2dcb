/- slices.Reverse at rows of steps. -/
import Derived.Test.YtpkdpddillebfaaDoorFl
import Derived.Shelf.SlicesQ.Reverse
import Derived.Ground.SlgnProg
namespace Go.Proofs
open Go.Shelf
def Tryd.rev124_ren : Go.Shelf.Ren := ⟨fun | 35 => 112 | n => n, fun | 22 => 137 | 23 => 136 | 3 => 3 | 4 => 4 | 0 => 0 | n => n, fun | n => n⟩
theorem Tryd.rev124 : Go.Proofs.SlLaysE0.n35 Tryd.prog Tryd.rev124_ren := {
  mixed := by kernel_rfl
  f35 := ⟨Tryd.f112.name, by decide, Tryd.func112.trans (congrArg some (by kernel_rfl))⟩
  t0 := Tryd.underlying0
  a0 := Tryd.isAgg0
  z0 := Tryd.sizeOf0
  v0 := Tryd.zeroValue0
  t3 := Tryd.underlying3
  a3 := Tryd.isAgg3
  z3 := Tryd.sizeOf3
  v3 := Tryd.zeroValue3
  t4 := Tryd.underlying4
  a4 := Tryd.isAgg4
  z4 := Tryd.sizeOf4
  v4 := Tryd.zeroValue4
  t22 := Tryd.underlying137
  a22 := Tryd.isAgg137
  z22 := Tryd.sizeOf137
  v22 := Tryd.zeroValue137 }
end Go.Proofs
namespace Go.Proofs.YtpkdpddillebfaaDoor.S
open Go Go.ChangeMaps Go.MapKept Go.WideShapes
open Go.RowKit Go.WideMaps Go.Maps Go.Sort F

theorem rowV_get (L : List Stp) (t : Nat) (h : t < L.length * 3) : (G.rowV L)[t]? = some ((G.encE (L[t / 3]!))[t % 3]!) := by
  have hi : t / 3 < L.length := by omega
  obtain ⟨a, b, c⟩ := G.rowV_at L (t / 3) L[t / 3] (List.getElem?_eq_getElem hi)
  rw [getElem!_pos L (t / 3) hi]
  have hm : t % 3 = 0 ∨ t % 3 = 1 ∨ t % 3 = 2 := by omega
  rcases hm with e | e | e
  · rw [show t / 3 * 3 = t by omega] at a
    rw [a, e]; rfl
  · rw [show t / 3 * 3 + 1 = t by omega] at b
    rw [b, e]; rfl
  · rw [show t / 3 * 3 + 2 = t by omega] at c
    rw [c, e]; rfl

theorem flat_get (L : List Stp) (t : Nat) (h : t < L.length * 3) : (G.rowV L)[t]? = some (flatK G.encE 3 L.toArray)[t]! := by
  rw [get_flatK _ _ _ _ (by simpa using h), rowV_get L t h]
  have hi : t / 3 < L.length := by omega
  rw [getElem!_pos L (t / 3) hi, getElem!_pos L.toArray (t / 3) (by simpa using hi)]
  simp

theorem one_enc (x : Stp) : ∀ v ∈ G.encE x, v.oneCell' = true := fun v hv => by
  simp [G.encE] at hv
  rcases hv with rfl | rfl | rfl <;> rfl

theorem rev_any (w : World) (B : Nat) (v : Value) (P : List Stp) (h : G.Owns w B 136 v P) (hP : P.length ≤ 100000) :
    Calls Tryd.prog 112 #[v] w fun e w' => e = .returned (.tuple #[]) ∧ G.Owns w' B 136 v P.reverse ∧ w.grownBy w' v.ownBlock := by
  rcases h.2 with ⟨rfl, h0⟩ | ⟨g, cap, cur, rfl, hb, hg, hn, hm, hs, ht⟩
  · refine (AnyQ.slices_Reverse_empty Tryd.rev124 none 0 w).mono ?_
    rintro e w' ⟨rfl, rfl⟩
    have : P = [] := List.eq_nil_of_length_eq_zero h0
    subst this
    exact ⟨rfl, h, ⟨rfl, rfl, rfl, Nat.le_refl _, fun _ _ _ => rfl⟩⟩
  · have hH : HoldsK G.encE 3 w g 0 P.toArray := fun j hj => by
      have hj' : j < P.length * 3 := by simpa using hj
      refine ⟨?_, by simp [World.frozen?, hg]⟩
      have := World.ownsRow.cells h rfl j _ (flat_get P j hj')
      rw [G.addr0_add] at this
      rw [Nat.zero_add]
      exact this
    have hc := AnyQ.slices_Reverse Tryd.rev124 3 Tryd.isAgg136 Tryd.sizeOf136 G.encE (fun _ => rfl) one_enc g 0 cap P.toArray w hH (by simp; omega)
    rw [show P.toArray.size = P.length by simp] at hc
    refine Calls.mono hc ?_
    rintro e w' ⟨rfl, n, rfl⟩
    refine ⟨rfl, ⟨by rw [G.rowV_length], .inr ⟨g, cap, putCells id 0 (flatK G.encE 3 P.toArray.reverse) cur, by simp, hb, ?_, by simpa using hn, hm, by simpa [putCells] using hs, ?_⟩⟩, ⟨rfl, rfl, rfl, by simp [putRowK, putRow, mapBlock, Sort.ahead], fun k hk hne => ?_⟩⟩
    · simp [putRowK, putRow, mapBlock, Sort.ahead, Array.getElem?_modify, hg, onCells]
    · apply List.ext_getElem?
      intro j
      rw [List.getElem?_take, Array.getElem?_toList]
      by_cases hj : j < P.reverse.length * 3
      · have hl : P.reverse.length = P.length := by simp
        have hn3 := Nat.mul_le_mul_right 3 hn
        have hjc : j < cur.size := by omega
        rw [if_pos hj, flat_get P.reverse j hj]
        simp only [putCells, Array.getElem?_mapIdx, Array.getElem?_eq_getElem hjc, Option.map_some]
        rw [if_pos (by simp; omega)]
        simp
      · rw [if_neg hj, List.getElem?_eq_none (by rw [G.rowV_length]; omega)]
    · have hne' : g ≠ k := fun e => hne (by rw [← e]; rfl)
      simp [putRowK, putRow, mapBlock, Sort.ahead, Array.getElem?_modify, hne']

end Go.Proofs.YtpkdpddillebfaaDoor.S
