/- math/bits.OnesCount64; rings.count. -/
import Derived.Test.YtigodbamphejmaaGreatV1
import Derived.Test.YtigodbamphejmaaGreatVk
namespace Go.Proofs.YtigodbamphejmaaGreat.S
open Go.RowKit

theorem and_i64 (a b : Nat) (ha : a < 9223372036854775808) (hb : b < 9223372036854775808) : bits .and .i64 (a : Int) (b : Int) = ((a &&& b : Nat) : Int) := by
  have hx : a &&& b < 2 ^ 63 := Nat.and_lt_two_pow _ (by omega)
  have h1 : (BitVec.ofInt 64 (a : Int)).toNat = a := by
    rw [BitVec.ofInt_natCast, BitVec.toNat_ofNat]; exact Nat.mod_eq_of_lt (by omega)
  have h2 : (BitVec.ofInt 64 (b : Int)).toNat = b := by
    rw [BitVec.ofInt_natCast, BitVec.toNat_ofNat]; exact Nat.mod_eq_of_lt (by omega)
  show IntKind.i64.wrap ((BitVec.ofInt 64 (a : Int) &&& BitVec.ofInt 64 (b : Int)).toNat : Int) = _
  rw [BitVec.toNat_and, h1, h2, IntKind.wrap_i64]
  omega

theorem msk_and_lt (x c : Nat) (h : c < 9223372036854775808) : x &&& c < 9223372036854775808 := Nat.lt_of_le_of_lt Nat.and_le_right h

set_option maxHeartbeats 2000000 in
set_option maxRecDepth 100000 in
theorem ones_any (x : Nat) (w : World) (hx : x < 18446744073709551616) :
    Calls Tryz.prog 62 #[.int .u64 (x : Int)] w fun e w' => e = .returned (.int .i64 ((pc 64 x : Nat) : Int)) ∧ w' = w := by
  have m1 : msk 85 8 = 6148914691236517205 := by decide
  have m2 : msk 51 8 = 3689348814741910323 := by decide
  have m3 : msk 15 8 = 1085102592571150095 := by decide
  have H := ones64 x
  simp only at H
  obtain ⟨A, hA⟩ : ∃ A, x >>> 1 &&& msk 85 8 = A := ⟨_, rfl⟩
  obtain ⟨B, hB⟩ : ∃ B, x &&& msk 85 8 = B := ⟨_, rfl⟩
  obtain ⟨Y, hY⟩ : ∃ Y, s1 8 x = Y := ⟨_, rfl⟩
  have e1 : Y = A + B := by rw [← hY, ← hA, ← hB]; rfl
  rw [hY] at H
  obtain ⟨C, hC⟩ : ∃ C, Y >>> 2 &&& msk 51 8 = C := ⟨_, rfl⟩
  obtain ⟨D, hD⟩ : ∃ D, Y &&& msk 51 8 = D := ⟨_, rfl⟩
  obtain ⟨Z, hZ⟩ : ∃ Z, s2 8 Y = Z := ⟨_, rfl⟩
  have e2 : Z = C + D := by rw [← hZ, ← hC, ← hD]; rfl
  rw [hZ] at H
  obtain ⟨F, hF⟩ : ∃ F, s3 8 Z = F := ⟨_, rfl⟩
  have e3 : F = (Z / 16 + Z) &&& 1085102592571150095 := by rw [← hF, ← m3]; unfold s3; rw [Nat.shiftRight_eq_div_pow]
  rw [hF] at H
  rw [m1, Nat.shiftRight_eq_div_pow] at hA
  rw [m1] at hB
  rw [m2, Nat.shiftRight_eq_div_pow] at hC
  rw [m2] at hD
  have lA : A ≤ 6148914691236517205 := by rw [← hA]; exact Nat.and_le_right
  have lB : B ≤ 6148914691236517205 := by rw [← hB]; exact Nat.and_le_right
  have lC : C ≤ 3689348814741910323 := by rw [← hC]; exact Nat.and_le_right
  have lD : D ≤ 3689348814741910323 := by rw [← hD]; exact Nat.and_le_right
  have k1 : bits .and .u64 ((x : Int) / 2) 6148914691236517205 = (A : Int) := by
    have := bits_and_u64_nat (x / 2) 6148914691236517205 (by omega) (by omega)
    rw [show ((x / 2 : Nat) : Int) = (x : Int) / 2 by omega] at this
    rw [← hA]; exact this
  have k2 : bits .and .u64 (x : Int) 6148914691236517205 = (B : Int) := by
    have := bits_and_u64_nat x 6148914691236517205 hx (by omega)
    rw [← hB]; exact this
  have k3 : IntKind.u64.wrap ((A : Int) + (B : Int)) = (Y : Int) := by rw [IntKind.wrap_u64]; omega
  have k4 : bits .and .u64 ((Y : Int) / 4) 3689348814741910323 = (C : Int) := by
    have := bits_and_u64_nat (Y / 4) 3689348814741910323 (by omega) (by omega)
    rw [show ((Y / 4 : Nat) : Int) = (Y : Int) / 4 by omega] at this
    rw [← hC]; exact this
  have k5 : bits .and .u64 (Y : Int) 3689348814741910323 = (D : Int) := by
    have := bits_and_u64_nat Y 3689348814741910323 (by omega) (by omega)
    rw [← hD]; exact this
  have k6 : IntKind.u64.wrap ((C : Int) + (D : Int)) = (Z : Int) := by rw [IntKind.wrap_u64]; omega
  obtain ⟨E, hE⟩ : ∃ E, Z / 16 + Z = E := ⟨_, rfl⟩
  have k7 : IntKind.u64.wrap ((Z : Int) / 16 + (Z : Int)) = (E : Int) := by rw [IntKind.wrap_u64]; omega
  rw [hE] at e3
  have k8 : bits .and .u64 (E : Int) 1085102592571150095 = (F : Int) := by
    have := bits_and_u64_nat E 1085102592571150095 (by omega) (by omega)
    rw [e3]; exact this
  obtain ⟨U, hU⟩ : ∃ U, F + F / 256 = U := ⟨_, rfl⟩
  rw [hU] at H
  obtain ⟨V, hV⟩ : ∃ V, U + U / 65536 = V := ⟨_, rfl⟩
  rw [hV] at H
  obtain ⟨T, hT⟩ : ∃ T, V + V / 4294967296 = T := ⟨_, rfl⟩
  rw [hT] at H
  obtain ⟨H1, _, H2, H3, H4⟩ := H
  have k9 : IntKind.u64.wrap ((F : Int) + (F : Int) / 256) = (U : Int) := by rw [IntKind.wrap_u64]; omega
  have k10 : IntKind.u64.wrap ((U : Int) + (U : Int) / 65536) = (V : Int) := by rw [IntKind.wrap_u64]; omega
  have k11 : IntKind.u64.wrap ((V : Int) + (V : Int) / 4294967296) = (T : Int) := by rw [IntKind.wrap_u64]; omega
  have k12 : IntKind.i64.wrap (T : Int) = (T : Int) := by rw [IntKind.wrap_i64]; omega
  have HR : Hid (T % 128 = pc 64 x) := H1
  have k13 : bits .and .i64 (T : Int) 127 = ((T % 128 : Nat) : Int) := by
    have := and_i64 T 127 (by omega) (by omega)
    rw [show T &&& 127 = T % 128 from Nat.and_two_pow_sub_one_eq_mod T 7] at this
    exact this
  clear m1 m2 m3 hA hB hY e1 hC hD hZ e2 hF e3 lA lB lC lD hE hU hV hT H1 H2 H3
  go_enter Tryz.func62, Tryz.ntmps62
  go_wp2_with fail
  go_ret
  refine ⟨?_, rfl⟩
  show Ending.returned (Value.int .i64 ((T : Int) % 128)) = _
  have e : (T : Int) % 128 = ((pc 64 x : Nat) : Int) := by rw [← HR.out]; omega
  rw [e]

theorem pc_nought : pc 64 0 = 0 := by decide

theorem pc_small (x : Nat) : pc 64 x ≤ 64 := by
  have : ∀ f x, pc f x ≤ f := by
    intro f
    induction f with
    | zero => intro x; exact Nat.le_refl _
    | succ f ih => intro x; simp only [pc]; have := ih (x / 2); have := Nat.mod_lt x (show 2 > 0 by omega); omega
  exact this 64 x

theorem index_first (x : Int) (W : World) : (Instr.index 66 (.agg #[.int .u64 x, .int .u64 0]) (.int .i64 0)).run Tryz.prog W = .ok (.int .u64 x) W := by kernel_rfl
theorem index_second (x : Int) (W : World) : (Instr.index 66 (.agg #[.int .u64 x, .int .u64 0]) (.int .i64 1)).run Tryz.prog W = .ok (.int .u64 0) W := by kernel_rfl

set_option maxHeartbeats 2000000 in
set_option maxRecDepth 100000 in
theorem count_any (x : Nat) (w : World) (hx : x < 18446744073709551616) :
    Calls Tryz.prog 40 #[.agg #[.int .u64 (x : Int), .int .u64 0]] w fun e w' => e = .returned (.int .i64 ((pc 64 x : Nat) : Int)) ∧ Below w.heap.size w w' := by
  have HO : Hid (∀ W, Calls Tryz.prog 62 #[.int .u64 (x : Int)] W fun e w' => e = .returned (.int .i64 ((pc 64 x : Nat) : Int)) ∧ w' = W) := fun W => ones_any x W hx
  have HZ : Hid (∀ W, Calls Tryz.prog 62 #[.int .u64 0] W fun e w' => e = .returned (.int .i64 0) ∧ w' = W) := fun W => by
    have := ones_any 0 W (by omega)
    rw [pc_nought] at this
    exact this
  have hs := pc_small x
  obtain ⟨X, hX⟩ : ∃ X, pc 64 x = X := ⟨_, rfl⟩
  rw [hX] at HO hs ⊢
  clear hX hx
  have HB : Hid (Below w.heap.size w (w.alloc (.cells #[.int .u64 (x : Int), .int .u64 0] 66))) := (Below.refl _ _).alloc (Nat.le_refl _) _
  have hi0 := index_first (x : Int)
  have hi1 := index_second (x : Int)
  go_enter Tryz.func40, Tryz.ntmps40
  go_wp2_with fail
  go_loopw [3, 7] (fun s3 s7 wq => ∃ k : Nat, k ≤ 2 ∧ s7 = .int .i64 k ∧ s3 = .int .i64 (if k = 0 then 0 else (X : Int)) ∧ wq = w.alloc (.cells #[.int .u64 (x : Int), .int .u64 0] 66)) (fun _ s7 _ => 2 - (intOf s7).toNat)
  case atStart => exact ⟨0, by omega, rfl, rfl, rfl⟩
  case round =>
    obtain ⟨k, hk, rfl, rfl, rfl⟩ := hrel
    have : k = 0 ∨ k = 1 ∨ k = 2 := by omega
    rcases this with rfl | rfl | rfl
    · as_aux_lemma =>
      go_wp2_with fail
      refine Calls.mono (HO.out _) ?_
      rintro e w' ⟨rfl, rfl⟩
      go_wp2_with fail
      go_roundw
      case rel => exact ⟨1, by omega, by go_num, by simp, by trivial⟩
      case measure => simp [intOf]
    · as_aux_lemma =>
      go_wp2_with fail
      refine Calls.mono (HZ.out _) ?_
      rintro e w' ⟨rfl, rfl⟩
      go_wp2_with fail
      go_roundw
      case rel => exact ⟨2, by omega, by go_num, by simp, by trivial⟩
      case measure => simp [intOf]
    · as_aux_lemma =>
      go_wp2_with fail
      go_ret
      exact ⟨by simp, HB.out⟩

end Go.Proofs.YtigodbamphejmaaGreat.S
