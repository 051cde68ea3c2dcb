/- Proved: for every number n and every list of pairs l the law FlowParts returns true and its arguments read afterwards as they read before. No condition: lists of more than 40 pairs are answered true by the law itself. -/
import Derived.Test.YtpkdpddillebfabFz
import Derived.ProofKit
import Derived.OpenShut
import Derived.ShutString
import Derived.ChangeOld
import Derived.Deep.SlicePairs
namespace Go.Proofs.Ytpkdpddillebfab
open Go.ChangeShapes Go.WideShapes Go.ChangeAt Go.RowKit S

theorem own : ownKnob Try.prog.godebug = none := by kernel_rfl
theorem laidOut : laidOutB Try.prog = true := by kernel_rfl

set_option maxHeartbeats 400000 in
set_option maxRecDepth 100000 in
theorem parts_big (n0 : Int) (a : Option Addr) (m cap : Nat) (w : World) (hm : 40 < m) :
    Calls Try.prog 4 #[.int .i64 n0, .slice a m cap] w fun e w' => e = .returned (.bool true) ∧ Below w.heap.size w w' := by
  have h100 : (40 : Int) < (m : Int) := by omega
  go_enter Try.func4, Try.ntmps4
  go_wp2_with fail
  go_ret
  exact ⟨rfl, Below.refl _ _⟩

/-- What is read of a list of pairs. -/
def IsPairs (w : World) (a : Option Addr) (m : Nat) : Prop :=
  ∃ (bl off : Nat) (ps : Nat → Int × Int), (0 < m → a = some ⟨bl, off, none⟩) ∧ PairsAt w bl off m ps ∧ (0 < m → bl < w.heap.size)

theorem isPairs_none (w : World) (a : Option Addr) : IsPairs w a 0 := ⟨0, 0, fun _ => (0, 0), fun h => absurd h (by omega), ⟨fun i hi => absurd hi (by omega), fun i hi => absurd hi (by omega)⟩, fun h => absurd h (by omega)⟩

theorem addr_add (b o n : Nat) : (⟨b, o, none⟩ : Addr).add n = ⟨b, o + n, none⟩ := by
  unfold Addr.add
  split
  · next h => rw [h]; rfl
  · rfl

theorem isPairs_of {w : World} {a : Addr} {m : Nat} (h : ∀ i, i < m → ∃ p : Int × Int, w.cell? (a.add (i * 2)) = some (.int .i64 p.1) ∧ w.cell? (a.add (i * 2 + 1)) = some (.int .i64 p.2)) : IsPairs w (some a) m := by
  obtain ⟨ps, hps⟩ := Deep.choose_lt h
  obtain ⟨bl, off, spot⟩ := a
  rcases Nat.eq_zero_or_pos m with rfl | hm
  · exact isPairs_none _ _
  · have hspot : spot = none := by
      have h0 := (hps 0 hm).1
      cases spot with
      | none => rfl
      | some s => simp [World.cell?, Addr.add] at h0; split at h0 <;> simp at h0
    subst hspot
    refine ⟨bl, off, ps, fun _ => rfl, ⟨fun i hi => ?_, fun i hi => ?_⟩, fun _ => ?_⟩
    · have := (hps i hi).1
      rw [addr_add] at this; exact this
    · have := (hps i hi).2
      rw [addr_add] at this; exact this
    · have := (hps 0 hm).1
      rw [addr_add] at this; exact lt_of_cell this

theorem parts_walk (n0 : Int) (a : Option Addr) (m cap : Nat) (w : World) (h : IsPairs w a m) :
    Calls Try.prog 4 #[.int .i64 n0, .slice a m cap] w fun e w' => e = .returned (.bool true) ∧ Below w.heap.size w w' := by
  rcases Nat.lt_or_ge 40 m with hm | hm
  · exact parts_big n0 a m cap w hm
  · obtain ⟨bl, off, ps, h1, h2, h3⟩ := h
    exact fparts_in n0 a bl off m cap ps w hm h1 h2 h3

set_option maxRecDepth 100000 in
theorem parts_lifted (os : Os) (started : os.Started) (H : Type) (enc : TypeId × Value → H) :
    ReturnsInHanded {} Try.checked os 4 .any (Rows.flowPartsSpec.pre6 enc Try.prog Try.f4 Rows.flowPartsRow.domain false) (Rows.flowPartsSpec.post enc Try.prog Try.f4 false true false false) := by
  refine returnsInHanded_of_change (C := Try.checked) own started (by kernel_rfl) Try.func4
    (ChangeSpec.witness6 (enc := enc) (C := Try.checked) false ⟨#[], #[.int .i64 0, .slice none 0 0], []⟩ 8 (by kernel_rfl) (by kernel_rfl) (by kernel_rfl) (by kernel_rfl)) ?_
  intro W base args ds gs before hval0 hW hcnd _
  have hval : ∀ (j : Nat) t v, Try.f4.params[j]? = some t → args[j]? = some v → Value.okWide Try.prog W .any base t v := hval0
  have hW' := hW
  obtain ⟨p, q, hA0, hV, rfl, hfz, hnd⟩ := hW
  have hA : DataW.TrodAll enc Try.prog W 0 (fun _ => true) true Try.f4.params.toList args.toList ds p := hA0
  rw [Try.params4] at hA hval
  obtain ⟨v0, vs0, d0, ds0, p0, q0, hargs, rfl, rfl, h0, r0⟩ := trodAll_cons hA
  obtain ⟨v1, vs1, d1, ds1, p1, q1, rfl, rfl, rfl, h1, r1⟩ := trodAll_cons r0
  obtain ⟨rfl, rfl, rfl⟩ := trodAll_nil r1
  obtain rfl : args = #[v0, v1] := by cases args; simp_all
  obtain ⟨rfl, rfl⟩ := trodVars_none hV
  obtain ⟨a0, rfl, rfl, rfl, w0⟩ := open_int Try.underlying3 (hval 0 3 v0 rfl rfl) h0
  obtain ⟨a1, len1, cap1, rfl⟩ := okWide_slice Try.underlying22 (hval 1 22 v1 rfl rfl)
  have k1 := h1
  have lt1 : ∀ x ∈ p1, x.block < W.heap.size := by obtain ⟨m, hm⟩ := k1; exact DataW.trod_lt m _ _ _ hm
  have w1 : IsPairs W a1 len1 := by
    obtain ⟨fuel, hf⟩ := h1
    rcases Deep.open_slice_pairs Try.underlying22 Try.underlying48 (by kernel_rfl) rfl rfl (by kernel_rfl) (by kernel_rfl) hf with ⟨hcs, _⟩ | ⟨x, l, c, m, n, V0, V1, D0, D1, P0, P1, hcs, _, hl, _, hm, _, hcell⟩
    · simp [Value.cells] at hcs
      obtain ⟨rfl, rfl, rfl⟩ := hcs
      exact isPairs_none _ _
    · simp [Value.cells] at hcs
      obtain ⟨rfl, rfl, rfl⟩ := hcs
      refine isPairs_of (fun i hi => ?_)
      obtain ⟨e0, e1, t0, t1⟩ := hcell i (by simp at hm; omega)
      obtain ⟨y0, g0, _, _⟩ := DataW.trod_int Try.underlying3 t0
      obtain ⟨y1, g1, _, _⟩ := DataW.trod_int Try.underlying3 t1
      simp at g0 g1
      exact ⟨(y0, y1), by rw [e0, g0], by rw [e1, g1]⟩
  clear hA0 hval0
  refine (parts_walk a0 a1 len1 cap1 W w1).mono fun e W' ⟨he, bel⟩ => ?_
  subst he
  exact ⟨_, rfl, _, _, _, [], _, [], hW', trodAll_mk1 (shut_bool Try.underlying4 _), (trodAll_cons_mk (shut_int Try.underlying3 w0) (trodAll_cons_mk (Below.trod laidOut (by kernel_rfl) (of_decide_eq_true (by kernel_rfl)) k1 bel lt1) trodAll_mk0)), rfl, bel.frame _, fun h => by cases h⟩

theorem flow_parts_holds : Rows.FlowPartsSaid :=
  OpenClaim.holds_of_wide 4 Try.f4 rfl rfl rfl rfl rfl rfl rfl ⟨rfl, rfl, rfl, rfl, rfl⟩ rfl rfl rfl rfl rfl (by kernel_rfl) Try.func4 (by kernel_rfl)
    (of_decide_eq_true (by kernel_rfl)) (by unfold Func.isWrapper; first | (rw [if_pos (by decide +kernel)]; kernel_rfl) | (rw [if_neg (by decide +kernel)]; exact ⟨rfl, rfl⟩))
    (fun os started H enc _ => parts_lifted os started H enc)

#print axioms flow_parts_holds

end Go.Proofs.Ytpkdpddillebfab
