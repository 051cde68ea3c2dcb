/- Proved: for every number n and every list of pairs l, the law CycleOf returns true and its arguments read afterwards as they read before; the one package-level variable that is read, errors.errorType, is tied to the program's text. No condition: lists of more than 30 pairs, and numbers n below 0 or above 16, are answered true at once by the law itself. The card speaks of the pruned copy of the project that its seat holds. -/
import Derived.Test.YtigodbamphejmaaGreatDoorTm
import Derived.Test.YtigodbamphejmaaGreatDoorCards
import Derived.Test.YtigodbamphejmaaGreatDoorTie
import Derived.ProofKit
import Derived.OpenShut
import Derived.ShutString
import Derived.ChangeOld
import Derived.ChangeSame
import Derived.ChangeVars
import Derived.JoinedOf
import Derived.RowKit
import Derived.RowKitTokens
import Derived.LaidLaws
import Derived.LaidHandle
import Derived.Stop.Joined
import Derived.Deep.SlicePairs
import Derived.SevenTiedAt
namespace Go.Proofs.YtigodbamphejmaaGreatDoor
open Go.ChangeShapes Go.WideShapes Go.ChangeAt Go.RowKit

theorem own : ownKnob Tryz.prog.godebug = none := by kernel_rfl
theorem laidOut : laidOutB Tryz.prog = true := by kernel_rfl

set_option maxHeartbeats 400000 in
set_option maxRecDepth 100000 in
theorem play_many (n0 : Int) (a : Option Addr) (m cap : Nat) (w : World) (h : 30 < m) :
    Calls Tryz.prog 5 #[.int .i64 n0, .slice a m cap] w fun e w' => e = .returned (.bool true) ∧ Below w.heap.size w w' := by
  have h30 : (30 : Int) < (m : Int) := by omega
  clear h
  go_enter Tryz.func5, Tryz.ntmps5
  go_wp2_with fail
  go_ret
  exact ⟨rfl, Below.refl _ _⟩

set_option maxHeartbeats 400000 in
set_option maxRecDepth 100000 in
theorem play_none (n0 : Int) (a : Option Addr) (m cap : Nat) (w : World) (h : n0 < 0 ∨ 16 < n0) :
    Calls Tryz.prog 5 #[.int .i64 n0, .slice a m cap] w fun e w' => e = .returned (.bool true) ∧ Below w.heap.size w w' := by
  by_cases hm : 30 < m
  · exact play_many n0 a m cap w hm
  have h30 : ¬ ((30 : Int) < (m : Int)) := by omega
  have HM : Hid _ := S.made_out n0 a m cap w (by omega)
  clear h hm
  go_enter Tryz.func5, Tryz.ntmps5
  go_wp2_with fail
  refine Calls.mono HM.out ?_
  rintro e w1 ⟨rfl, hb⟩
  have HB : Hid (Below w.heap.size w w1) := hb
  clear hb HM
  go_wp2_with fail
  go_ret
  exact ⟨rfl, HB.out⟩

/-- What is read of a list of pairs. -/
def IsPairs (w : World) (a : Option Addr) (m : Nat) : Prop :=
  ∃ (bl off : Nat) (ps : Nat → Int × Int), (0 < m → a = some ⟨bl, off, none⟩) ∧ S.PairsAt w bl off m ps ∧ (0 < m → bl < w.heap.size)

theorem play_walk (n0 : Int) (a : Option Addr) (m cap : Nat) (w : World) (hgl : G.Gl w) (h : IsPairs w a m) :
    Calls Tryz.prog 5 #[.int .i64 n0, .slice a m cap] w fun e w' => e = .returned (.bool true) ∧ Below w.heap.size w w' := by
  by_cases hc : n0 < 0 ∨ 16 < n0
  · exact play_none n0 a m cap w hc
  · by_cases hm : 30 < m
    · exact play_many n0 a m cap w hm
    · obtain ⟨n, rfl⟩ := Int.eq_ofNat_of_zero_le (show 0 ≤ n0 by omega)
      obtain ⟨bl, off, ps, h1, h2, h3⟩ := h
      exact S.cycleof_in n a bl off m cap ps w (by omega) (by omega) hgl h1 h2 h3

theorem isPairs_none (w : World) (a : Option Addr) : IsPairs w a 0 := ⟨0, 0, fun _ => (0, 0), fun h => absurd h (by omega), ⟨fun i hi => absurd hi (by omega), fun i hi => absurd hi (by omega)⟩, fun h => absurd h (by omega)⟩

theorem addr_add (b o n : Nat) : (⟨b, o, none⟩ : Addr).add n = ⟨b, o + n, none⟩ := by
  unfold Addr.add
  split
  · next h => rw [h]; rfl
  · rfl

theorem isPairs_of {w : World} {a : Addr} {m : Nat} (h : ∀ i, i < m → ∃ p : Int × Int, w.cell? (a.add (i * 2)) = some (.int .i64 p.1) ∧ w.cell? (a.add (i * 2 + 1)) = some (.int .i64 p.2)) : IsPairs w (some a) m := by
  obtain ⟨ps, hps⟩ := Deep.choose_lt h
  obtain ⟨bl, off, spot⟩ := a
  rcases Nat.eq_zero_or_pos m with rfl | hm
  · exact isPairs_none _ _
  · have hspot : spot = none := by
      have h0 := (hps 0 hm).1
      cases spot with
      | none => rfl
      | some s => simp [World.cell?, Addr.add] at h0; split at h0 <;> simp at h0
    subst hspot
    refine ⟨bl, off, ps, fun _ => rfl, ⟨fun i hi => ?_, fun i hi => ?_⟩, fun _ => ?_⟩
    · have := (hps i hi).1
      rw [addr_add] at this; exact this
    · have := (hps i hi).2
      rw [addr_add] at this; exact this
    · have := (hps 0 hm).1
      rw [addr_add] at this; exact S.lt_of_cell this

theorem et : Tryz.prog.globalNamed "errors.errorType" = some 0 := by kernel_rfl
theorem rt : (Tryz.prog.cutTypes.find? (·.1 == "internal/reflectlite.rtype")).map (·.2) = some 167 := by kernel_rfl
theorem typesSize : ∃ k, Tryz.prog.types.size = k ∧ ((List.range k).filter fun t => Tryz.prog.rowNamed t [101, 114, 114, 111, 114]) = [25] := ⟨_, rfl, by kernel_rfl⟩

theorem gl_of_laid {W : World} (h : laidMetH Tryz.prog [("errors.errorType", Rows.laid_errors_errorType)] W) : G.Gl W := by
  have h' : laidMet Tryz.prog [] W ∧ handlesMet Tryz.prog [("errors.errorType", Rows.laid_errors_errorType)] W := h
  obtain ⟨name, u, ty, e1, e2, e3, e4, e5⟩ := h'.2 _ (List.mem_singleton.2 rfl)
  have en : name = [101, 114, 114, 111, 114] := (Option.some.inj e1).symm
  subst en
  obtain rfl := Option.some.inj (rt.symm.trans e2)
  obtain ⟨k, hk1, hk2⟩ := typesSize
  have hm : ty ∈ (List.range k).filter fun t => Tryz.prog.rowNamed t [101, 114, 114, 111, 114] := List.mem_filter.2 ⟨List.mem_range.2 (by rw [← hk1]; exact e3), e4⟩
  rw [hk2] at hm
  obtain rfl := List.mem_singleton.1 hm
  have hh : typeHandle Tryz.prog 25 = .pointer (some ⟨1, 25, none⟩) := by kernel_rfl
  rw [hh] at e5
  show W.cell? ⟨0, 0, none⟩ = _
  simpa using World.var?_cell et e5 0

/-- A start that meets the row's condition: the settled world, the variable's cell laid. -/
theorem start_met (os : Os) (args : Array Value) : laidMetH Tryz.prog [("errors.errorType", Rows.laid_errors_errorType)]
    (World.forCall { World.holding Tryz.prog os ⟨#[], #[], []⟩ with heap := (World.holding Tryz.prog os ⟨#[], #[], []⟩).heap.modify 0 fun
      | .cells _ t frozen => .cells #[.iface 167 (.agg #[.pointer (some ⟨1, 25, none⟩)])] t frozen
      | o => o } (fun _ _ => 0) ⟨#[], args, []⟩).memory :=
  laidMetH_of_parts (laidMet_nil _ _) (by kernel_rfl)

set_option maxRecDepth 100000 in
theorem play_lifted (os : Os) (started : os.Started) (H : Type) (enc : TypeId × Value → H) :
    ReturnsInHanded {} Tryz.checked os 5 .any (fun w args => (Rows.cycleOfSpec.pre enc Tryz.prog Tryz.f5 [] false w args ∧ laidMetH Tryz.prog [("errors.errorType", Rows.laid_errors_errorType)] w) ∧ sizedMet enc Tryz.prog Tryz.f5 (OpenSpec.ofChange Rows.cycleOfSpec) false w args)
      (Rows.cycleOfSpec.post enc Tryz.prog Tryz.f5 false true false false) := by
  refine returnsInHanded_of_change_and (C := Tryz.checked) (X := fun w _ => laidMetH Tryz.prog [("errors.errorType", Rows.laid_errors_errorType)] w) (fun _ _ _ hh h => h.of_heap hh) own started (by kernel_rfl) Tryz.func5
    (ChangeSpec.witness_at (enc := enc) (C := Tryz.checked) (os := os) (X := fun w _ => laidMetH Tryz.prog [("errors.errorType", Rows.laid_errors_errorType)] w) false
      { World.holding Tryz.prog os ⟨#[], #[], []⟩ with heap := (World.holding Tryz.prog os ⟨#[], #[], []⟩).heap.modify 0 fun
        | .cells _ t frozen => .cells #[.iface 167 (.agg #[.pointer (some ⟨1, 25, none⟩)])] t frozen
        | o => o } #[.int .i64 0, .slice none 0 0] 8 rfl (by kernel_rfl) (by kernel_rfl) (by kernel_rfl) (by kernel_rfl) (by kernel_rfl) (start_met os _)) ?_
  intro W base args ds gs before hval0 hW _ _ hL _
  have hval : ∀ (j : Nat) t v, Tryz.f5.params[j]? = some t → args[j]? = some v → Value.okWide Tryz.prog W .any base t v := hval0
  have hW' := hW
  obtain ⟨p, q, hA0, hV, rfl, hfz, hnd⟩ := hW
  have hA : DataW.TrodAll enc Tryz.prog W 0 (fun _ => true) true Tryz.f5.params.toList args.toList ds p := hA0
  rw [Tryz.params5] at hA hval
  obtain ⟨v0, vs0, d0, ds0, p0, q0, hargs, rfl, rfl, h0, r0⟩ := trodAll_cons hA
  obtain ⟨v1, vs1, d1, ds1, p1, q1, rfl, rfl, rfl, h1, r1⟩ := trodAll_cons r0
  obtain ⟨rfl, rfl, rfl⟩ := trodAll_nil r1
  obtain rfl : args = #[v0, v1] := by cases args; simp_all
  obtain ⟨rfl, rfl⟩ := trodVars_none hV
  obtain ⟨a0, rfl, rfl, rfl, w0⟩ := open_int Tryz.underlying3 (hval 0 3 v0 rfl rfl) h0
  obtain ⟨a1, len1, cap1, rfl⟩ := okWide_slice Tryz.underlying22 (hval 1 22 v1 rfl rfl)
  have k1 := h1
  have lt1 : ∀ x ∈ p1, x.block < W.heap.size := by obtain ⟨m, hm⟩ := k1; exact DataW.trod_lt m _ _ _ hm
  have w1 : IsPairs W a1 len1 := by
    obtain ⟨fuel, hf⟩ := h1
    rcases Deep.open_slice_pairs Tryz.underlying22 Tryz.underlying35 (by kernel_rfl) rfl rfl (by kernel_rfl) (by kernel_rfl) hf with ⟨hcs, _⟩ | ⟨x, l, c, m, n, V0, V1, D0, D1, P0, P1, hcs, _, hl, _, hm, _, hcell⟩
    · simp [Value.cells] at hcs
      obtain ⟨rfl, rfl, rfl⟩ := hcs
      exact isPairs_none _ _
    · simp [Value.cells] at hcs
      obtain ⟨rfl, rfl, rfl⟩ := hcs
      refine isPairs_of (fun i hi => ?_)
      obtain ⟨e0, e1, t0, t1⟩ := hcell i (by simp at hm; omega)
      obtain ⟨y0, g0, _, _⟩ := DataW.trod_int Tryz.underlying3 t0
      obtain ⟨y1, g1, _, _⟩ := DataW.trod_int Tryz.underlying3 t1
      simp at g0 g1
      exact ⟨(y0, y1), by rw [e0, g0], by rw [e1, g1]⟩
  have hg := gl_of_laid hL
  clear hA0 hval0
  refine (play_walk a0 a1 len1 cap1 W hg w1).mono fun e W' ⟨he, bel⟩ => ?_
  subst he
  exact ⟨_, rfl, _, _, _, [], _, [], hW', trodAll_mk1 (shut_bool Tryz.underlying4 _), (trodAll_cons_mk (shut_int Tryz.underlying3 w0) (trodAll_cons_mk (Below.trod laidOut (by kernel_rfl) (of_decide_eq_true (by kernel_rfl)) k1 bel lt1) trodAll_mk0)), rfl, bel.frame _, fun h => by cases h⟩

theorem play_holds : Rows.CycleOfSaid :=
  OpenClaim.holds_of_wide 5 Tryz.f5 rfl rfl rfl rfl rfl rfl rfl ⟨rfl, rfl, rfl, rfl, rfl⟩ rfl rfl rfl rfl rfl (by kernel_rfl) Tryz.func5 (by kernel_rfl)
    (of_decide_eq_true (by kernel_rfl)) (by unfold Func.isWrapper; rw [if_neg (of_decide_eq_false (by kernel_rfl))]; exact ⟨rfl, rfl⟩)
    (fun os started H enc _ => play_lifted os started H enc)

theorem cycle_of_holds : Rows.CycleOfCardSaid :=
  Claim7.holds_tied_plain_at .later [] [.handle] true (true, "25052d910e1e97f57bd4022dc0391e56a4d3f3aba99cd00558dde5584e23b3c8") true
    play_holds (fun _ h => by cases h) (by kernel_rfl) (fun _ h => by cases h) cycleOf_row_tie rfl ⟨rfl, rfl⟩ (by kernel_rfl) rfl
    (fun f fn hf hfn => by
      obtain rfl : f = 5 := Option.some.inj ((show Tryz.prog.funcNamed "isthmus/isthmuslaw.CycleOf" = some 5 by kernel_rfl).symm.trans hf) |>.symm
      obtain rfl : fn = Tryz.f5 := (Option.some.inj (Tryz.func5.symm.trans hfn)).symm
      exact ⟨by kernel_rfl, fun j t ht => by
        rw [Tryz.params5] at ht
        have h3 : t = 3 ∨ t = 22 := by
          rcases j with _ | _ | j
          · left; simpa using ht.symm
          · right; simpa using ht.symm
          · simp at ht
        rcases h3 with rfl | rfl
        · exact (show Tryz.prog.wantsStandIn 3 = false by kernel_rfl)
        · exact (show Tryz.prog.wantsStandIn 22 = false by kernel_rfl)⟩)
    (by kernel_rfl)

#print axioms cycle_of_holds

end Go.Proofs.YtigodbamphejmaaGreatDoor
