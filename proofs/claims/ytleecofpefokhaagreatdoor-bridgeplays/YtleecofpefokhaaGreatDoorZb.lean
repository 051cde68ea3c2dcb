/- The numbers of the bridges: the program's are the document's. -/
import Derived.Test.YtleecofpefokhaaGreatDoorZa
import Derived.Lib.SlKeysI
namespace Go.Proofs.YtleecofpefokhaaGreatDoor.S
open Go.RowKit Go.WideMaps Go.Maps

variable {w0 w w' : World} {p pw bw pt bt mp q n i N : Nat} {R B : List (Int × Int × Int)} {W T : List Nat} {D : DataW Unit} {u : Value}

theorem keys_perm (h : Now w p pw bw pt bt mp N n R B W T D) (hup : R.Pairwise fun x y => x.1 < y.1) : (idsOf R B).Perm (intKeys D) := by
  have hc : CollectedI D (fun _ => false) (idsOf R B) := by
    refine ⟨(ids_rise hup).imp fun {a b} h => by omega, fun x => ?_⟩
    rw [h.dis.key x, mem_ids (fun e he => ((h.st.hB e).1 he).1)]
    simp
  exact hc.perm h.at_.hm law3 Tryz.underlying3 (fun _ => rfl)

theorem sorted_ids {ss K : List Int} (h : ss.Perm K) (hK : K.Pairwise (· < ·)) : (ss.mergeSort fun x y => decide (x ≤ y)) = K := by
  have tr : ∀ a b c : Int, decide (a ≤ b) = true → decide (b ≤ c) = true → decide (a ≤ c) = true := fun a b c h1 h2 => by simp only [decide_eq_true_eq] at *; omega
  have tot : ∀ a b : Int, (decide (a ≤ b) || decide (b ≤ a)) = true := fun a b => by simp only [Bool.or_eq_true, decide_eq_true_eq]; omega
  exact List.Perm.eq_of_pairwise (le := fun a b => decide (a ≤ b) = true) (fun a b _ _ h1 h2 => by simp only [decide_eq_true_eq] at h1 h2; omega) (List.pairwise_mergeSort tr tot ss) (hK.imp fun {a b} h => by simp only [decide_eq_true_eq]; omega) ((List.mergeSort_perm ss _).trans h)

theorem ids_n (h : Now w p pw bw pt bt mp N n R B W T D) (hup : R.Pairwise fun x y => x.1 < y.1) (hN : N ≤ 1000) :
    Calls Tryz.prog 10 #[.pointer (some ⟨p, 0, none⟩)] w fun e w' => ∃ v, e = .returned v ∧ w'.ownsRow w.heap.size 3 1 v (idsOf R B).length ((idsOf R B).map (Value.int .i64)) ∧ Below w.heap.size w w' := by
  refine (ids_row w h.at_ hN).mono ?_
  rintro e w' ⟨v, ss, rfl, hp, hrow, _, hb⟩
  have hp' := hp.trans (keys_perm h hup).symm
  rw [sorted_ids hp' (ids_rise hup), hp'.length_eq] at hrow
  exact ⟨v, rfl, hrow, hb⟩

/-- What a row of numbers is. -/
theorem ints_shape {base : Nat} {v : Value} {K : List Int} (h : w.ownsRow base 3 1 v K.length (K.map (Value.int .i64))) : ∃ a cap, v = .slice a K.length cap ∧ (0 < K.length → ∃ g, a = some ⟨g, 0, none⟩ ∧ ∀ j, j < K.length → w.cell? ⟨g, j, none⟩ = some (.int .i64 (K.getD j 0))) := by
  have h0 := h
  rcases h.2 with ⟨rfl, hz⟩ | ⟨g, cap, cur, rfl, hb, hg, _⟩
  · exact ⟨none, 0, by rw [hz], fun k => by omega⟩
  · refine ⟨_, cap, rfl, fun _ => ⟨g, rfl, fun j hj => ?_⟩⟩
    rw [h0.cellAt j (by omega)]
    simp [hj]

end Go.Proofs.YtleecofpefokhaaGreatDoor.S
