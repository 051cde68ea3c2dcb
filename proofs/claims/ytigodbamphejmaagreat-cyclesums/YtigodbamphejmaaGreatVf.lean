/- Package cycle: put. -/
import Derived.Test.YtigodbamphejmaaGreatVe
import Derived.Laws.Bits64b
namespace Go.Proofs.YtigodbamphejmaaGreat.S
open Go.RowKit

theorem pow_lt64 {i : Nat} (h : i < 64) : 2 ^ i < 18446744073709551616 := Nat.pow_lt_pow_right (by omega) h

theorem wrap_pow {i : Nat} (h : i < 64) : IntKind.u64.wrap ((2 : Int) ^ i) = ((2 ^ i : Nat) : Int) := by
  have h1 := pow_lt64 h
  have h2 : ((2 : Int) ^ i) = ((2 ^ i : Nat) : Int) := by simp
  rw [h2, IntKind.wrap_u64]
  generalize 2 ^ i = K at h1 ⊢
  omega

theorem or_bit {x i : Nat} (hi : i < 64) (hx : x < 2 ^ i) : bits .or .u64 (x : Int) ((2 ^ i : Nat) : Int) = ((x + 2 ^ i : Nat) : Int) := by
  have h1 := pow_lt64 hi
  rw [bits_or_u64_nat x (2 ^ i) (by omega) h1, or_pow hx]

theorem set_word {w : World} {b t : Nat} {x y : Value} (h : w.heap[b]? = some (.cells #[x, y] t)) (v : Value) : (w.setCell ⟨b, 0, none⟩ v).heap[b]? = some (.cells #[v, y] t) := by
  simp only [World.setCell, Array.getElem?_modify, h]
  simp

set_option maxHeartbeats 2000000 in
set_option maxRecDepth 100000 in
theorem put_any (b i x : Nat) (w : World) (hb : w.heap[b]? = some (.cells #[.int .u64 (x : Int), .int .u64 0] 66)) (hi : i < 64) (hx : x < 2 ^ i) :
    Calls Tryz.prog 26 #[.pointer (some ⟨b, 0, none⟩), .int .i64 (i : Int)] w fun e w' => e = .returned (.tuple #[]) ∧ w'.heap[b]? = some (.cells #[.int .u64 ((x + 2 ^ i : Nat) : Int), .int .u64 0] 66) ∧ But b w w' := by
  have c0 : w.cell? ⟨b, 0, none⟩ = some (.int .u64 (x : Int)) := by simp [World.cell?, hb]
  have f0 : w.frozen? ⟨b, 0, none⟩ = false := by simp [World.frozen?, hb]
  have e1 : (i : Int).tdiv 64 = 0 := Int.tdiv_eq_zero_of_lt (by omega) (by omega)
  have e2 : (i : Int).tmod 64 = (i : Int) := Int.tmod_eq_of_lt (by omega) (by omega)
  have HO : Hid (bits .or .u64 (x : Int) (IntKind.u64.wrap ((2 : Int) ^ i)) = ((x + 2 ^ i : Nat) : Int)) := by
    show bits _ _ _ _ = _
    rw [wrap_pow hi]; exact or_bit hi hx
  have HB : Hid (w.heap[b]? = some (.cells #[.int .u64 (x : Int), .int .u64 0] 66)) := hb
  clear hb hx
  go_enter Tryz.func26, Tryz.ntmps26
  go_upto_region 0 with fail
  go_region
  all_goals
    go_wp2_with fail
    refine bodyPost_end (results_none rfl _ _ _) rfl ?_
    refine ⟨rfl, ?_, ?_⟩
    · rw [HO.out]
      exact set_word HB.out _
    · exact ((But.refl b w).setCell 0 _).trans (But.of_below (Below.refl _ _).drew)

end Go.Proofs.YtigodbamphejmaaGreat.S
