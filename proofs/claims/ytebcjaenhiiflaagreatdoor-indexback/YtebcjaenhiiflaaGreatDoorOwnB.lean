/- Proved: for every number n and every list of steps l, the law IndexBack returns true and its arguments read afterwards as they read before; the package-level variables that are listed are tied to the program's text, internal/bytealg.MaxLen may hold any number. No condition: lists of more than 50 steps are answered true at once. -/
import Derived.Test.YtebcjaenhiiflaaGreatDoorQf
import Derived.Test.YtebcjaenhiiflaaGreatDoorVk
import Derived.Test.YtebcjaenhiiflaaGreatDoorVb
import Derived.Test.YtebcjaenhiiflaaGreatDoorCards
import Derived.Test.YtebcjaenhiiflaaGreatDoorTie
import Derived.Deep.Slices
import Derived.ChangeSlices
namespace Go.Proofs.YtebcjaenhiiflaaGreatDoor
open Go.ChangeShapes Go.WideShapes Go.ChangeAt Go.RowKit

/-- What is read of a list of steps. -/
def IsSteps (w : World) (a : Option Addr) (m : Nat) : Prop :=
  ∃ (bl off : Nat) (ps : Nat → Int × Int × Int × Bool), (0 < m → a = some ⟨bl, off, none⟩) ∧ I.StepsAt w bl off m ps ∧ (0 < m → bl < w.heap.size)

theorem isSteps_none (w : World) (a : Option Addr) : IsSteps w a 0 := ⟨0, 0, fun _ => (0, 0, 0, false), fun h => absurd h (by omega), ⟨fun i hi => absurd hi (by omega), fun i hi => absurd hi (by omega), fun i hi => absurd hi (by omega), fun i hi => absurd hi (by omega)⟩, fun h => absurd h (by omega)⟩
theorem spot_none {w : World} {bl off : Nat} {spot : _} {v : Value} (h : w.cell? ((⟨bl, off, spot⟩ : Addr).add 0) = some v) : spot = none := by
  cases spot with
  | none => rfl
  | some s => simp [World.cell?, Addr.add] at h; split at h <;> simp at h

theorem list4 {α : Type} : ∀ {l : List α}, l.length = 4 → ∃ a b c d, l = [a, b, c, d]
  | [a, b, c, d], _ => ⟨a, b, c, d, rfl⟩

theorem isSteps_of {w : World} {a : Addr} {m : Nat} (h : ∀ i, i < m → ∃ p : Int × Int × Int × Bool, w.cell? (a.add (i * 4)) = some (.int .i64 p.1) ∧ w.cell? (a.add (i * 4 + 1)) = some (.int .i64 p.2.1) ∧ w.cell? (a.add (i * 4 + 2)) = some (.int .i64 p.2.2.1) ∧ w.cell? (a.add (i * 4 + 3)) = some (.bool p.2.2.2)) : IsSteps w (some a) m := by
  obtain ⟨ps, hps⟩ := Deep.choose_lt h
  obtain ⟨bl, off, spot⟩ := a
  rcases Nat.eq_zero_or_pos m with rfl | hm
  · exact isSteps_none _ _
  · obtain rfl := spot_none (by have := (hps 0 hm).1; rw [Nat.zero_mul] at this; exact this)
    refine ⟨bl, off, ps, fun _ => rfl, ⟨fun i hi => ?_, fun i hi => ?_, fun i hi => ?_, fun i hi => ?_⟩, fun _ => ?_⟩
    · have := (hps i hi).1
      rw [G.addr_lit] at this; exact this
    · have := (hps i hi).2.1
      rw [G.addr_lit] at this; exact this
    · have := (hps i hi).2.2.1
      rw [G.addr_lit] at this; exact this
    · have := (hps i hi).2.2.2
      rw [G.addr_lit] at this; exact this
    · have := (hps 0 hm).1
      rw [G.addr_lit] at this; exact S.lt_of_cell this

section
variable {H : Type} {enc : TypeId × Value → H} {W : World} {base : Nat} {spare : Nat → Bool} {held : Bool}

/-- A list of steps that came in, as cells. -/
theorem open_steps {fuel : Nat} {a : Option Addr} {len cap : Nat} {x : DataW H × List MemPlace} (h : DataW.trod enc Tryz.prog W base spare held fuel 56 [.slice a len cap] = some x) : IsSteps W a len := by
  rcases Deep.open_slice Tryz.underlying56 h with ⟨hcs, _⟩ | ⟨y, l, c, m, n, D, Pl, hcs, _, hl, _, hm, _, hx⟩
  · injection hcs with hcs
    injection hcs with e1 e2 _
    rw [e2]; exact isSteps_none _ _
  · injection hcs with hcs
    injection hcs with e1 e2 e3
    subst e1 e2 e3
    have hlm : len ≤ m := by rw [hm]; split <;> omega
    refine isSteps_of (fun i hi => ?_)
    obtain ⟨cs', h1, h2⟩ := hx i (by omega)
    have c4 : Tryz.prog.cellsOf 59 = 4 := by kernel_rfl
    have c3 : Tryz.prog.cellsOf 3 = 1 := by kernel_rfl
    have cb : Tryz.prog.cellsOf 4 = 1 := by kernel_rfl
    rw [c4] at h1
    obtain ⟨_, hlen, hcell⟩ := World.cells?_some h1
    obtain ⟨xs, k, hk, hxy, _, hxl, hf⟩ := DataW.trod_struct Tryz.underlying59 h2
    obtain ⟨v0, v1, v2, v3, rfl⟩ := list4 hlen
    obtain ⟨y0, y1, y2, y3, rfl⟩ := list4 (show xs.length = 4 from hxl)
    have g0 := hf 0 _ rfl
    have g1 := hf 1 _ rfl
    have g2 := hf 2 _ rfl
    have g3 := hf 3 _ rfl
    simp [c3, cb] at g0 g1 g2 g3
    obtain ⟨n0, t0, _, _⟩ := DataW.trod_int Tryz.underlying3 g0
    obtain ⟨n1, t1, _, _⟩ := DataW.trod_int Tryz.underlying3 g1
    obtain ⟨n2, t2, _, _⟩ := DataW.trod_int Tryz.underlying3 g2
    obtain ⟨b3, t3, _⟩ := DataW.trod_bool Tryz.underlying4 g3
    simp at t0 t1 t2 t3
    have q0 := hcell 0 (by simp)
    have q1 := hcell 1 (by simp)
    have q2 := hcell 2 (by simp)
    have q3 := hcell 3 (by simp)
    rw [Deep.add_add] at q0 q1 q2 q3
    exact ⟨(n0, n1, n2, b3), by rw [← t0]; simpa using q0, by rw [← t1]; simpa using q1, by rw [← t2]; simpa using q2, by rw [← t3]; simpa using q3⟩

end

set_option maxHeartbeats 400000 in
set_option maxRecDepth 100000 in
theorem back_big (n0 : Int) (a : Option Addr) (m cap : Nat) (w : World) (hm : 50 < m) :
    Calls Tryz.prog 5 #[.int .i64 n0, .slice a m cap] w fun e w' => e = .returned (.bool true) ∧ Below w.heap.size w w' := by
  have h1 : (50 : Int) < (m : Int) := by omega
  go_enter Tryz.func5, Tryz.ntmps5
  go_wp2_with fail
  go_ret
  exact ⟨rfl, Below.refl _ _⟩

theorem back_walk (n0 : Int) (a : Option Addr) (m cap : Nat) (w : World) (hv : I.Vars w) (h : IsSteps w a m) :
    Calls Tryz.prog 5 #[.int .i64 n0, .slice a m cap] w fun e w' => e = .returned (.bool true) ∧ Below w.heap.size w w' := by
  by_cases hb : 50 < m
  · exact back_big n0 a m cap w hb
  · obtain ⟨bl, off, ps, h1, h2, h3⟩ := h
    exact I.back_in n0 a bl off m cap ps w (by omega) hv h1 h2 h3

abbrev backLaid : List (String × DataW Unit) := [("math/bits.deBruijn32tab", Rows.laid_math_bits_deBruijn32tab), ("math/bits.deBruijn64tab", Rows.laid_math_bits_deBruijn64tab), ("internal/strconv.uint64pow10", Rows.laid_internal_strconv_uint64pow10), ("strconv.ErrRange", Rows.laid_strconv_ErrRange), ("strconv.ErrSyntax", Rows.laid_strconv_ErrSyntax)]

theorem back_vars {W : World} (h : laidMetH Tryz.prog backLaid W) (hs : W.ShapedOpen Tryz.prog) : I.Vars W := by
  have h1 : laidMet Tryz.prog backLaid W := h
  exact ⟨mx_of hs, sy_of h1.tail.tail.tail.tail, ra_of h1.tail.tail.tail, tab_of h1.tail.tail, big_of hs⟩

/-- A start that meets the row's condition. -/
noncomputable def startB (os : Os) : World := (World.holding Tryz.prog os ⟨#[], #[], []⟩).layVars Tryz.prog backLaid

theorem startB_os (os : Os) : (startB os).os = os := World.layVars_os _ _ _

theorem startB_met (os : Os) (args : Array Value) : laidMetH Tryz.prog backLaid ((startB os).forCall (fun _ _ => 0) ⟨#[], args, []⟩).memory := by
  refine laidMetH_of_parts ?_ (by kernel_rfl)
  have h : laidMet Tryz.prog backLaid (startB os) := laidMet_layVars (w0 := World.holding Tryz.prog os ⟨#[], #[], []⟩) (backLaid.map (·.1)) [] (by rfl) (by kernel_rfl) (by kernel_rfl) (by exact LaidIn.none)
  exact h.of_heap (by simp [World.memory, World.forCall, Input.heap])

set_option maxRecDepth 100000 in
theorem back_lifted (os : Os) (started : os.Started) (H : Type) (enc : TypeId × Value → H) :
    ReturnsInHanded {} Tryz.checked os 5 .any (fun w args => (Rows.indexBackSpec.pre enc Tryz.prog Tryz.f5 [] false w args ∧ laidMetH Tryz.prog backLaid w) ∧ sizedMet enc Tryz.prog Tryz.f5 (OpenSpec.ofChange Rows.indexBackSpec) false w args)
      (Rows.indexBackSpec.post enc Tryz.prog Tryz.f5 false true false false) := by
  refine handed_shaped (C := Tryz.checked) (X := fun w _ => laidMetH Tryz.prog backLaid w) (fun _ _ _ hh h => h.of_heap hh) started own (by kernel_rfl) Tryz.func5
    (ChangeSpec.witness_shaped (enc := enc) (C := Tryz.checked) (os := os) (X := fun w _ => laidMetH Tryz.prog backLaid w) false (startB os) #[.int .i64 0, .slice none 0 0] 8 (startB_os os)
      (World.shaped_of_ZipB (by kernel_rfl) (by kernel_rfl)) (by kernel_rfl) (by kernel_rfl) (by kernel_rfl) (startB_met os _)) ?_
  intro W base args ds gs before hval0 hW hL hsh
  have hval : ∀ (j : Nat) t v, Tryz.f5.params[j]? = some t → args[j]? = some v → Value.okWide Tryz.prog W .any base t v := hval0
  have hW' := hW
  obtain ⟨p, q, hA0, hV, rfl, hfz, hnd⟩ := hW
  have hA : DataW.TrodAll enc Tryz.prog W 0 (fun _ => true) true Tryz.f5.params.toList args.toList ds p := hA0
  rw [Tryz.params5] at hA hval
  obtain ⟨v0, vs0, d0, ds0, p0, q0, hargs, rfl, rfl, h0, r0⟩ := trodAll_cons hA
  obtain ⟨v1, vs1, d1, ds1, p1, q1, rfl, rfl, rfl, h1, r1⟩ := trodAll_cons r0
  obtain ⟨rfl, rfl, rfl⟩ := trodAll_nil r1
  obtain rfl : args = #[v0, v1] := by cases args; simp_all
  obtain ⟨rfl, rfl⟩ := trodVars_none hV
  obtain ⟨a0, rfl, rfl, rfl, w0⟩ := open_int Tryz.underlying3 (hval 0 3 v0 rfl rfl) h0
  obtain ⟨a1, len1, cap1, rfl⟩ := okWide_slice Tryz.underlying56 (hval 1 56 v1 rfl rfl)
  have k1 := h1
  have lt1 : ∀ x ∈ p1, x.block < W.heap.size := by obtain ⟨m, hm⟩ := k1; exact DataW.trod_lt m _ _ _ hm
  have w1 : IsSteps W a1 len1 := by
    obtain ⟨fuel, hf⟩ := h1
    exact open_steps (by simpa [Value.cells] using hf)
  have hv := back_vars hL hsh
  clear hA0 hval0
  refine (back_walk a0 a1 len1 cap1 W hv w1).mono fun e W' ⟨he, bel⟩ => ?_
  subst he
  exact ⟨_, rfl, _, _, _, [], _, [], hW', trodAll_mk1 (shut_bool Tryz.underlying4 _), (trodAll_cons_mk (shut_int Tryz.underlying3 w0) (trodAll_cons_mk (Below.trod laidOut (by kernel_rfl) (of_decide_eq_true (by kernel_rfl)) k1 bel lt1) trodAll_mk0)), rfl, bel.frame _, fun h => by cases h⟩

theorem back_inst : Tryz.f5.isInstance Tryz.prog Rows.indexBackRow.origin Rows.indexBackRow.targs := of_decide_eq_true (by kernel_rfl)

theorem back_wrap : Tryz.f5.isWrapper Tryz.prog Rows.indexBackRow.wrapper Rows.indexBackRow.mainSum := by unfold Func.isWrapper; rw [if_neg (of_decide_eq_false (by kernel_rfl))]; exact ⟨rfl, rfl⟩

theorem back_named : Tryz.prog.funcNamed Rows.indexBackRow.func = some 5 := by kernel_rfl

theorem back_row : Rows.IndexBackSaid :=
  OpenClaim.holds_of_wide_leaving 5 Tryz.f5 rfl rfl rfl rfl rfl rfl rfl ⟨rfl, rfl, rfl, rfl, rfl⟩ rfl rfl rfl rfl rfl back_named Tryz.func5 fb_facts back_inst back_wrap
    (fun os started H enc _ => leaving_of_handed (back_lifted os started H enc))

theorem back_text : Rows.indexBackRow.wfByText (OpenSpec.ofChange Rows.indexBackSpec) = true := by kernel_rfl

theorem back_main : Tryz.prog.mainIs = some (true, ("4ade8549f1c7e37e8ecca3c8762da108096c196075f0eddc8bb75ba31dd20d64" : String).toList) := by kernel_rfl

theorem back_looks : true = Tryz.prog.looks [] := by kernel_rfl

theorem back_goes : true = Rows.indexBackRow.goesBy Tryz.prog := by kernel_rfl

theorem index_back_holds : Rows.IndexBackCardSaid :=
  tied_goes .later [.data, .data, .data, .sentinel, .sentinel] true (true, "4ade8549f1c7e37e8ecca3c8762da108096c196075f0eddc8bb75ba31dd20d64") true
    back_row back_text indexBack_row_tie rfl ⟨rfl, rfl⟩ back_main rfl
    (fun f fn hf hfn => by
      obtain rfl : f = 5 := Option.some.inj (back_named.symm.trans hf) |>.symm
      obtain rfl : fn = Tryz.f5 := (Option.some.inj (Tryz.func5.symm.trans hfn)).symm
      exact ⟨back_looks, fun j t ht => by
        rw [Tryz.params5] at ht
        have hm : t ∈ [3, 56] := by simpa using Array.mem_of_getElem? ht
        have hall : ([3, 56].all fun u => !Tryz.prog.wantsStandIn u) = true := by kernel_rfl
        exact (show Tryz.prog.wantsStandIn t = false by simpa using List.all_eq_true.1 hall t hm)⟩)
    back_goes

#print axioms index_back_holds

end Go.Proofs.YtebcjaenhiiflaaGreatDoor
