/- Proved: for every number n, every list of steps l and all lists of numbers edges and nodes, the law GraphPlays returns true and its arguments read afterwards as they read before; the one package-level variable that is read, errors.errorType, is tied to the program's text. No condition: lists that are longer than the law's own bounds are answered true at once by the law itself. The card speaks of the pruned copy of the project that its seat holds. -/
import Derived.Test.YtmbkicdahalakaaDoorZc
import Derived.Test.YtmbkicdahalakaaDoorCards
import Derived.Test.YtmbkicdahalakaaDoorTie
import Derived.ProofKit
import Derived.OpenShut
import Derived.ShutString
import Derived.ChangeOld
import Derived.ChangeSame
import Derived.ChangeVars
import Derived.JoinedOf
import Derived.RowKit
import Derived.RowKitTokens
import Derived.LaidLaws
import Derived.LaidHandle
import Derived.Stop.Joined
import Derived.Deep.Slices
import Derived.ChangeSlices
import Derived.SevenTiedAt
namespace Go.Proofs.YtmbkicdahalakaaDoor
open Go.ChangeShapes Go.WideShapes Go.ChangeAt Go.RowKit

theorem own : ownKnob Tryd.prog.godebug = none := by kernel_rfl
theorem laidOut : laidOutB Tryd.prog = true := by kernel_rfl

set_option maxHeartbeats 400000 in
set_option maxRecDepth 100000 in
theorem play_big (n0 : Int) (a ae an : Option Addr) (m cap me ce mn cn : Nat) (w : World) (hm : 150 < m ∨ 20 < me ∨ 20 < mn) :
    Calls Tryd.prog 4 #[.int .i64 n0, .slice a m cap, .slice ae me ce, .slice an mn cn] w fun e w' => e = .returned (.bool true) ∧ Below w.heap.size w w' := by
  by_cases h1 : (150 : Int) < (m : Int)
  · clear hm
    go_enter Tryd.func4, Tryd.ntmps4
    go_wp2_with fail
    go_ret
    exact ⟨rfl, Below.refl _ _⟩
  · by_cases h2 : (20 : Int) < (me : Int)
    · clear hm
      go_enter Tryd.func4, Tryd.ntmps4
      go_wp2_with fail
      go_ret
      exact ⟨rfl, Below.refl _ _⟩
    · have h3 : (20 : Int) < (mn : Int) := by omega
      clear hm
      go_enter Tryd.func4, Tryd.ntmps4
      go_wp2_with fail
      go_ret
      exact ⟨rfl, Below.refl _ _⟩

set_option maxHeartbeats 1000000 in
set_option maxRecDepth 100000 in
theorem play_out (n0 : Int) (a ae an : Option Addr) (m cap me ce mn cn : Nat) (w : World) (hm : m ≤ 150) (hme : me ≤ 20) (hmn : mn ≤ 20) (hgl : Gl w) (hn : n0 < 0 ∨ 40 < n0) :
    Calls Tryd.prog 4 #[.int .i64 n0, .slice a m cap, .slice ae me ce, .slice an mn cn] w fun e w' => e = .returned (.bool true) ∧ Below w.heap.size w w' := by
  have g1 : ¬ ((150 : Int) < (m : Int)) := by omega
  have g2 : ¬ ((20 : Int) < (me : Int)) := by omega
  have g3 : ¬ ((20 : Int) < (mn : Int)) := by omega
  have HGL : Hid (Gl w) := hgl
  have HN : Hid (n0 < 0 ∨ 40 < n0) := hn
  clear hgl
  rcases hn with h | h
  · go_enter Tryd.func4, Tryd.ntmps4
    go_wp2_with fail
    refine (new_out n0 _ HN.out).mono ?_
    rintro e w1 ⟨rfl, rfl⟩
    go_wp2_with fail
    refine (bare_any _ _ _ HGL.out rfl).mono ?_
    rintro e w2 ⟨rfl, hb2⟩
    have HB2 : Hid (Below w1.heap.size w1 w2) := hb2
    clear hb2
    go_wp2_with fail
    go_ret
    exact ⟨rfl, HB2.out⟩
  · have h0 : ¬ n0 < 0 := by omega
    go_enter Tryd.func4, Tryd.ntmps4
    go_wp2_with fail
    refine (new_out n0 _ HN.out).mono ?_
    rintro e w1 ⟨rfl, rfl⟩
    go_wp2_with fail
    refine (bare_any _ _ _ HGL.out rfl).mono ?_
    rintro e w2 ⟨rfl, hb2⟩
    have HB2 : Hid (Below w1.heap.size w1 w2) := hb2
    clear hb2
    go_wp2_with fail
    go_ret
    exact ⟨rfl, HB2.out⟩

/-- What is read of a list of steps. -/
def IsSteps (w : World) (a : Option Addr) (m : Nat) : Prop :=
  ∃ (bl off : Nat) (ps : Nat → Int × Int × Int × Bool), (0 < m → a = some ⟨bl, off, none⟩) ∧ StepsAt w bl off m ps ∧ (0 < m → bl < w.heap.size)

/-- What is read of a list of numbers. -/
def IsInts (w : World) (a : Option Addr) (m : Nat) : Prop := ∃ F, Ints w a m F

theorem play_walk (n0 : Int) (a ae an : Option Addr) (m cap me ce mn cn : Nat) (w : World) (hgl : Gl w) (h : IsSteps w a m) (he : IsInts w ae me) (hn : IsInts w an mn) :
    Calls Tryd.prog 4 #[.int .i64 n0, .slice a m cap, .slice ae me ce, .slice an mn cn] w fun e w' => e = .returned (.bool true) ∧ Below w.heap.size w w' := by
  by_cases hb : 150 < m ∨ 20 < me ∨ 20 < mn
  · exact play_big n0 a ae an m cap me ce mn cn w hb
  · by_cases hr : n0 < 0 ∨ 40 < n0
    · exact play_out n0 a ae an m cap me ce mn cn w (by omega) (by omega) (by omega) hgl hr
    · obtain ⟨bl, off, ps, h1, h2, h3⟩ := h
      obtain ⟨Fe, he⟩ := he
      obtain ⟨Fn, hn⟩ := hn
      exact play_in n0 a bl off m cap ps ae an me mn ce cn Fe Fn w (by omega) (by omega) (by omega) (by omega) (by omega) hgl h1 h2 h3 he hn

theorem isSteps_none (w : World) (a : Option Addr) : IsSteps w a 0 := ⟨0, 0, fun _ => (0, 0, 0, false), fun h => absurd h (by omega), ⟨fun i hi => absurd hi (by omega), fun i hi => absurd hi (by omega), fun i hi => absurd hi (by omega), fun i hi => absurd hi (by omega)⟩, fun h => absurd h (by omega)⟩
theorem isInts_none (w : World) (a : Option Addr) : IsInts w a 0 := ⟨fun _ => 0, ⟨fun h => absurd h (by omega)⟩⟩

theorem spot_none {w : World} {bl off : Nat} {spot : _} {v : Value} (h : w.cell? ((⟨bl, off, spot⟩ : Addr).add 0) = some v) : spot = none := by
  cases spot with
  | none => rfl
  | some s => simp [World.cell?, Addr.add] at h; split at h <;> simp at h

theorem list4 {α : Type} : ∀ {l : List α}, l.length = 4 → ∃ a b c d, l = [a, b, c, d]
  | [a, b, c, d], _ => ⟨a, b, c, d, rfl⟩

theorem isSteps_of {w : World} {a : Addr} {m : Nat} (h : ∀ i, i < m → ∃ p : Int × Int × Int × Bool, w.cell? (a.add (i * 4)) = some (.int .i64 p.1) ∧ w.cell? (a.add (i * 4 + 1)) = some (.int .i64 p.2.1) ∧ w.cell? (a.add (i * 4 + 2)) = some (.int .i64 p.2.2.1) ∧ w.cell? (a.add (i * 4 + 3)) = some (.bool p.2.2.2)) : IsSteps w (some a) m := by
  obtain ⟨ps, hps⟩ := Deep.choose_lt h
  obtain ⟨bl, off, spot⟩ := a
  rcases Nat.eq_zero_or_pos m with rfl | hm
  · exact isSteps_none _ _
  · obtain rfl := spot_none (by have := (hps 0 hm).1; rw [Nat.zero_mul] at this; exact this)
    refine ⟨bl, off, ps, fun _ => rfl, ⟨fun i hi => ?_, fun i hi => ?_, fun i hi => ?_, fun i hi => ?_⟩, fun _ => ?_⟩
    · have := (hps i hi).1
      rw [addr_lit] at this; exact this
    · have := (hps i hi).2.1
      rw [addr_lit] at this; exact this
    · have := (hps i hi).2.2.1
      rw [addr_lit] at this; exact this
    · have := (hps i hi).2.2.2
      rw [addr_lit] at this; exact this
    · have := (hps 0 hm).1
      rw [addr_lit] at this; exact lt_of_cell this

theorem isInts_of {w : World} {a : Addr} {m : Nat} {F : Nat → Int} (h : ∀ i, i < m → w.cell? (a.add i) = some (.int .i64 (F i))) : IsInts w (some a) m := by
  obtain ⟨bl, off, spot⟩ := a
  rcases Nat.eq_zero_or_pos m with rfl | hm
  · exact isInts_none _ _
  · obtain rfl := spot_none (h 0 hm)
    refine ⟨F, ⟨fun _ => ⟨bl, off, rfl, fun t ht => ?_⟩⟩⟩
    have := h t ht
    rw [addr_lit] at this; exact this

section
variable {H : Type} {enc : TypeId × Value → H} {W : World} {base : Nat} {spare : Nat → Bool} {held : Bool}

/-- A list of steps that came in, as cells. -/
theorem open_steps {fuel : Nat} {a : Option Addr} {len cap : Nat} {x : DataW H × List MemPlace} (h : DataW.trod enc Tryd.prog W base spare held fuel 44 [.slice a len cap] = some x) : IsSteps W a len := by
  rcases Deep.open_slice Tryd.underlying44 h with ⟨hcs, _⟩ | ⟨y, l, c, m, n, D, Pl, hcs, _, hl, _, hm, _, hx⟩
  · injection hcs with hcs
    injection hcs with e1 e2 _
    rw [e2]; exact isSteps_none _ _
  · injection hcs with hcs
    injection hcs with e1 e2 e3
    subst e1 e2 e3
    have hlm : len ≤ m := by rw [hm]; split <;> omega
    refine isSteps_of (fun i hi => ?_)
    obtain ⟨cs', h1, h2⟩ := hx i (by omega)
    have c4 : Tryd.prog.cellsOf 53 = 4 := by kernel_rfl
    have c3 : Tryd.prog.cellsOf 3 = 1 := by kernel_rfl
    have cb : Tryd.prog.cellsOf 4 = 1 := by kernel_rfl
    rw [c4] at h1
    obtain ⟨_, hlen, hcell⟩ := World.cells?_some h1
    obtain ⟨xs, k, hk, hxy, _, hxl, hf⟩ := DataW.trod_struct Tryd.underlying53 h2
    obtain ⟨v0, v1, v2, v3, rfl⟩ := list4 hlen
    obtain ⟨y0, y1, y2, y3, rfl⟩ := list4 (show xs.length = 4 from hxl)
    have g0 := hf 0 _ rfl
    have g1 := hf 1 _ rfl
    have g2 := hf 2 _ rfl
    have g3 := hf 3 _ rfl
    simp [c3, cb] at g0 g1 g2 g3
    obtain ⟨n0, t0, _, _⟩ := DataW.trod_int Tryd.underlying3 g0
    obtain ⟨n1, t1, _, _⟩ := DataW.trod_int Tryd.underlying3 g1
    obtain ⟨n2, t2, _, _⟩ := DataW.trod_int Tryd.underlying3 g2
    obtain ⟨b3, t3, _⟩ := DataW.trod_bool Tryd.underlying4 g3
    simp at t0 t1 t2 t3
    have q0 := hcell 0 (by simp)
    have q1 := hcell 1 (by simp)
    have q2 := hcell 2 (by simp)
    have q3 := hcell 3 (by simp)
    rw [Deep.add_add] at q0 q1 q2 q3
    exact ⟨(n0, n1, n2, b3), by rw [← t0]; simpa using q0, by rw [← t1]; simpa using q1, by rw [← t2]; simpa using q2, by rw [← t3]; simpa using q3⟩

/-- A list of numbers that came in, as cells. -/
theorem open_numbers {fuel : Nat} {a : Option Addr} {len cap : Nat} {x : DataW H × List MemPlace} (h : DataW.trod enc Tryd.prog W base spare held fuel 30 [.slice a len cap] = some x) : IsInts W a len := by
  rcases open_ints Tryd.underlying30 Tryd.underlying3 (by kernel_rfl) h with ⟨hcs, _⟩ | ⟨y, l, c, zs, hcs, _, hl, _, hzl, _, hx, _⟩
  · injection hcs with hcs
    injection hcs with e1 e2 _
    rw [e2]; exact isInts_none _ _
  · injection hcs with hcs
    injection hcs with e1 e2 e3
    subst e1 e2 e3
    have hlm : len ≤ zs.length := by rw [hzl]; split <;> omega
    exact isInts_of (F := fun i => zs.getD i 0) (fun i hi => hx i (by omega))
end

theorem et : Tryd.prog.globalNamed "errors.errorType" = some 0 := by kernel_rfl
theorem rt : (Tryd.prog.cutTypes.find? (·.1 == "internal/reflectlite.rtype")).map (·.2) = some 119 := by kernel_rfl
theorem typesSize : ∃ k, Tryd.prog.types.size = k ∧ ((List.range k).filter fun t => Tryd.prog.rowNamed t [101, 114, 114, 111, 114]) = [25] := ⟨_, rfl, by kernel_rfl⟩

theorem gl_of_laid {W : World} (h : laidMetH Tryd.prog [("errors.errorType", Rows.laid_errors_errorType)] W) : Gl W := by
  have h' : laidMet Tryd.prog [] W ∧ handlesMet Tryd.prog [("errors.errorType", Rows.laid_errors_errorType)] W := h
  obtain ⟨name, u, ty, e1, e2, e3, e4, e5⟩ := h'.2 _ (List.mem_singleton.2 rfl)
  have en : name = [101, 114, 114, 111, 114] := (Option.some.inj e1).symm
  subst en
  obtain rfl := Option.some.inj (rt.symm.trans e2)
  obtain ⟨k, hk1, hk2⟩ := typesSize
  have hm : ty ∈ (List.range k).filter fun t => Tryd.prog.rowNamed t [101, 114, 114, 111, 114] := List.mem_filter.2 ⟨List.mem_range.2 (by rw [← hk1]; exact e3), e4⟩
  rw [hk2] at hm
  obtain rfl := List.mem_singleton.1 hm
  have hh : typeHandle Tryd.prog 25 = .pointer (some ⟨1, 25, none⟩) := by kernel_rfl
  rw [hh] at e5
  show W.cell? ⟨0, 0, none⟩ = _
  simpa using World.var?_cell et e5 0

/-- A start that meets the row's condition: the settled world, the variable's cell laid. -/
theorem start_met (os : Os) (args : Array Value) : laidMetH Tryd.prog [("errors.errorType", Rows.laid_errors_errorType)]
    (World.forCall { World.holding Tryd.prog os ⟨#[], #[], []⟩ with heap := (World.holding Tryd.prog os ⟨#[], #[], []⟩).heap.modify 0 fun
      | .cells _ t frozen => .cells #[.iface 119 (.agg #[.pointer (some ⟨1, 25, none⟩)])] t frozen
      | o => o } (fun _ _ => 0) ⟨#[], args, []⟩).memory :=
  laidMetH_of_parts (laidMet_nil _ _) (by kernel_rfl)

set_option maxRecDepth 100000 in
theorem play_lifted (os : Os) (started : os.Started) (H : Type) (enc : TypeId × Value → H) :
    ReturnsInHanded {} Tryd.checked os 4 .any (fun w args => (Rows.graphPlaysSpec.pre enc Tryd.prog Tryd.f4 [] false w args ∧ laidMetH Tryd.prog [("errors.errorType", Rows.laid_errors_errorType)] w) ∧ sizedMet enc Tryd.prog Tryd.f4 (OpenSpec.ofChange Rows.graphPlaysSpec) false w args)
      (Rows.graphPlaysSpec.post enc Tryd.prog Tryd.f4 false true false false) := by
  refine returnsInHanded_of_change_and (C := Tryd.checked) (X := fun w _ => laidMetH Tryd.prog [("errors.errorType", Rows.laid_errors_errorType)] w) (fun _ _ _ hh h => h.of_heap hh) own started (by kernel_rfl) Tryd.func4
    (ChangeSpec.witness_at (enc := enc) (C := Tryd.checked) (os := os) (X := fun w _ => laidMetH Tryd.prog [("errors.errorType", Rows.laid_errors_errorType)] w) false
      { World.holding Tryd.prog os ⟨#[], #[], []⟩ with heap := (World.holding Tryd.prog os ⟨#[], #[], []⟩).heap.modify 0 fun
        | .cells _ t frozen => .cells #[.iface 119 (.agg #[.pointer (some ⟨1, 25, none⟩)])] t frozen
        | o => o } #[.int .i64 0, .slice none 0 0, .slice none 0 0, .slice none 0 0] 8 rfl (by kernel_rfl) (by kernel_rfl) (by kernel_rfl) (by kernel_rfl) (by kernel_rfl) (start_met os _)) ?_
  intro W base args ds gs before hval0 hW _ _ hL _
  have hval : ∀ (j : Nat) t v, Tryd.f4.params[j]? = some t → args[j]? = some v → Value.okWide Tryd.prog W .any base t v := hval0
  have hW' := hW
  obtain ⟨p, q, hA0, hV, rfl, hfz, hnd⟩ := hW
  have hA : DataW.TrodAll enc Tryd.prog W 0 (fun _ => true) true Tryd.f4.params.toList args.toList ds p := hA0
  rw [Tryd.params4] at hA hval
  obtain ⟨v0, vs0, d0, ds0, p0, q0, hargs, rfl, rfl, h0, r0⟩ := trodAll_cons hA
  obtain ⟨v1, vs1, d1, ds1, p1, q1, rfl, rfl, rfl, h1, r1⟩ := trodAll_cons r0
  obtain ⟨v2, vs2, d2, ds2, p2, q2, rfl, rfl, rfl, h2, r2⟩ := trodAll_cons r1
  obtain ⟨v3, vs3, d3, ds3, p3, q3, rfl, rfl, rfl, h3, r3⟩ := trodAll_cons r2
  obtain ⟨rfl, rfl, rfl⟩ := trodAll_nil r3
  obtain rfl : args = #[v0, v1, v2, v3] := by cases args; simp_all
  obtain ⟨rfl, rfl⟩ := trodVars_none hV
  obtain ⟨a0, rfl, rfl, rfl, w0⟩ := open_int Tryd.underlying3 (hval 0 3 v0 rfl rfl) h0
  obtain ⟨a1, len1, cap1, rfl⟩ := okWide_slice Tryd.underlying44 (hval 1 44 v1 rfl rfl)
  obtain ⟨a2, len2, cap2, rfl⟩ := okWide_slice Tryd.underlying30 (hval 2 30 v2 rfl rfl)
  obtain ⟨a3, len3, cap3, rfl⟩ := okWide_slice Tryd.underlying30 (hval 3 30 v3 rfl rfl)
  have k1 := h1
  have k2 := h2
  have k3 := h3
  have lt1 : ∀ x ∈ p1, x.block < W.heap.size := by obtain ⟨m, hm⟩ := k1; exact DataW.trod_lt m _ _ _ hm
  have lt2 : ∀ x ∈ p2, x.block < W.heap.size := by obtain ⟨m, hm⟩ := k2; exact DataW.trod_lt m _ _ _ hm
  have lt3 : ∀ x ∈ p3, x.block < W.heap.size := by obtain ⟨m, hm⟩ := k3; exact DataW.trod_lt m _ _ _ hm
  have w1 : IsSteps W a1 len1 := by
    obtain ⟨fuel, hf⟩ := h1
    exact open_steps (by simpa [Value.cells] using hf)
  have w2 : IsInts W a2 len2 := by
    obtain ⟨fuel, hf⟩ := h2
    exact open_numbers (by simpa [Value.cells] using hf)
  have w3 : IsInts W a3 len3 := by
    obtain ⟨fuel, hf⟩ := h3
    exact open_numbers (by simpa [Value.cells] using hf)
  have hg := gl_of_laid hL
  clear hA0 hval0
  refine (play_walk a0 a1 a2 a3 len1 cap1 len2 cap2 len3 cap3 W hg w1 w2 w3).mono fun e W' ⟨he, bel⟩ => ?_
  subst he
  exact ⟨_, rfl, _, _, _, [], _, [], hW', trodAll_mk1 (shut_bool Tryd.underlying4 _), (trodAll_cons_mk (shut_int Tryd.underlying3 w0) (trodAll_cons_mk (Below.trod laidOut (by kernel_rfl) (of_decide_eq_true (by kernel_rfl)) k1 bel lt1) (trodAll_cons_mk (Below.trod laidOut (by kernel_rfl) (of_decide_eq_true (by kernel_rfl)) k2 bel lt2) (trodAll_cons_mk (Below.trod laidOut (by kernel_rfl) (of_decide_eq_true (by kernel_rfl)) k3 bel lt3) trodAll_mk0)))), rfl, bel.frame _, fun h => by cases h⟩

theorem play_holds : Rows.GraphPlaysSaid :=
  OpenClaim.holds_of_wide 4 Tryd.f4 rfl rfl rfl rfl rfl rfl rfl ⟨rfl, rfl, rfl, rfl, rfl⟩ rfl rfl rfl rfl rfl (by kernel_rfl) Tryd.func4 (by kernel_rfl)
    (of_decide_eq_true (by kernel_rfl)) (by unfold Func.isWrapper; rw [if_neg (of_decide_eq_false (by kernel_rfl))]; exact ⟨rfl, rfl⟩)
    (fun os started H enc _ => play_lifted os started H enc)

theorem graph_plays_holds : Rows.GraphPlaysCardSaid :=
  Claim7.holds_tied_plain_at .later [] [.handle] true (true, "d663443b8531cd84df0e3ef613d8c969e664fe95b960a86f0219a395969b6cbe") true
    play_holds (fun _ h => by cases h) (by kernel_rfl) (fun _ h => by cases h) graphPlays_row_tie rfl ⟨rfl, rfl⟩ (by kernel_rfl) rfl
    (fun f fn hf hfn => by
      obtain rfl : f = 4 := Option.some.inj ((show Tryd.prog.funcNamed "isthmus/isthmuslaw.GraphPlays" = some 4 by kernel_rfl).symm.trans hf) |>.symm
      obtain rfl : fn = Tryd.f4 := (Option.some.inj (Tryd.func4.symm.trans hfn)).symm
      exact ⟨by kernel_rfl, fun j t ht => by
        rw [Tryd.params4] at ht
        have h3 : t = 3 ∨ t = 44 ∨ t = 30 := by
          rcases j with _ | _ | _ | _ | j
          · left; simpa using ht.symm
          · right; left; simpa using ht.symm
          · right; right; simpa using ht.symm
          · right; right; simpa using ht.symm
          · simp at ht
        rcases h3 with rfl | rfl | rfl
        · exact (show Tryd.prog.wantsStandIn 3 = false by kernel_rfl)
        · exact (show Tryd.prog.wantsStandIn 44 = false by kernel_rfl)
        · exact (show Tryd.prog.wantsStandIn 30 = false by kernel_rfl)⟩)
    (by kernel_rfl)

#print axioms graph_plays_holds

end Go.Proofs.YtmbkicdahalakaaDoor
