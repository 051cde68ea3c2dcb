/- Proved: for every text s, the law IndexLoads returns true and its argument reads afterwards as it read before; the package-level variables that are listed are tied to the program's text, internal/bytealg.MaxLen may hold any number. No condition: texts of more than 1500 bytes are answered true at once by the law itself. The card speaks of the pruned copy of the project that its seat holds. -/
import Derived.Test.YtebcjaenhiiflaaGreatDoorJo
import Derived.Test.YtebcjaenhiiflaaGreatDoorVk
import Derived.Test.YtebcjaenhiiflaaGreatDoorVl
import Derived.Test.YtebcjaenhiiflaaGreatDoorCards
import Derived.Test.YtebcjaenhiiflaaGreatDoorTie
namespace Go.Proofs.YtebcjaenhiiflaaGreatDoor
open Go.ChangeShapes Go.WideShapes Go.ChangeAt Go.RowKit

abbrev loadsLaid : List (String × DataW Unit) := [("math/bits.deBruijn32tab", Rows.laid_math_bits_deBruijn32tab), ("math/bits.deBruijn64tab", Rows.laid_math_bits_deBruijn64tab), ("internal/strconv.uint64pow10", Rows.laid_internal_strconv_uint64pow10), ("unicode/utf8.acceptRanges", Rows.laid_unicode_utf8_acceptRanges), ("errors.errorType", Rows.laid_errors_errorType), ("strconv.ErrRange", Rows.laid_strconv_ErrRange), ("strconv.ErrSyntax", Rows.laid_strconv_ErrSyntax), ("unicode/utf8.first", Rows.laid_unicode_utf8_first)]

abbrev loadsData : List (String × DataW Unit) := [("math/bits.deBruijn32tab", Rows.laid_math_bits_deBruijn32tab), ("math/bits.deBruijn64tab", Rows.laid_math_bits_deBruijn64tab), ("internal/strconv.uint64pow10", Rows.laid_internal_strconv_uint64pow10), ("unicode/utf8.acceptRanges", Rows.laid_unicode_utf8_acceptRanges), ("strconv.ErrRange", Rows.laid_strconv_ErrRange), ("strconv.ErrSyntax", Rows.laid_strconv_ErrSyntax), ("unicode/utf8.first", Rows.laid_unicode_utf8_first)]

theorem loads_parts {W : World} (h : laidMetH Tryz.prog loadsLaid W) : laidMet Tryz.prog loadsData W ∧ handlesMet Tryz.prog [("errors.errorType", Rows.laid_errors_errorType)] W := h

theorem loads_vars {W : World} (h : laidMetH Tryz.prog loadsLaid W) (hs : W.ShapedOpen Tryz.prog) : I.Vars W := by
  obtain ⟨h1, h2⟩ := loads_parts h
  exact ⟨mx_of hs, sy_of h1.tail.tail.tail.tail.tail, ra_of h1.tail.tail.tail.tail, tab_of h1.tail.tail, gl_of h2, big_of hs⟩

/-- A start that meets the row's condition. -/
noncomputable def start0 (os : Os) : World := { World.holding Tryz.prog os ⟨#[], #[], []⟩ with heap := (World.holding Tryz.prog os ⟨#[], #[], []⟩).heap.modify 0 fun
  | .cells _ t frozen => .cells #[.iface 248 (.agg #[.pointer (some ⟨9, 28, none⟩)])] t frozen
  | o => o }

noncomputable def startL (os : Os) : World := (start0 os).layVars Tryz.prog loadsData

theorem startL_os (os : Os) : (startL os).os = os := World.layVars_os _ _ _

theorem startL_met (os : Os) (args : Array Value) : laidMetH Tryz.prog loadsLaid ((startL os).forCall (fun _ _ => 0) ⟨#[], args, []⟩).memory := by
  refine laidMetH_of_parts ?_ (by kernel_rfl)
  have h : laidMet Tryz.prog loadsData (startL os) := laidMet_layVars (w0 := start0 os) (loadsData.map (·.1)) [] (by rfl) (by kernel_rfl) (by kernel_rfl) (by exact LaidIn.none)
  exact h.of_heap (by simp [World.memory, World.forCall, Input.heap])

set_option maxRecDepth 100000 in
theorem loads_lifted (os : Os) (started : os.Started) (H : Type) (enc : TypeId × Value → H) :
    ReturnsInHanded {} Tryz.checked os 3 .any (fun w args => (Rows.indexLoadsSpec.pre enc Tryz.prog Tryz.f3 [] false w args ∧ laidMetH Tryz.prog loadsLaid w) ∧ sizedMet enc Tryz.prog Tryz.f3 (OpenSpec.ofChange Rows.indexLoadsSpec) false w args)
      (Rows.indexLoadsSpec.post enc Tryz.prog Tryz.f3 false true false false) := by
  refine handed_shaped (C := Tryz.checked) (X := fun w _ => laidMetH Tryz.prog loadsLaid w) (fun _ _ _ hh h => h.of_heap hh) started own (by kernel_rfl) Tryz.func3
    (ChangeSpec.witness_shaped (enc := enc) (C := Tryz.checked) (os := os) (X := fun w _ => laidMetH Tryz.prog loadsLaid w) false (startL os) #[.string ⟨#[]⟩] 8 (startL_os os)
      (World.shaped_of_ZipB (by kernel_rfl) (by kernel_rfl)) (by kernel_rfl) (by kernel_rfl) (by kernel_rfl) (startL_met os _)) ?_
  intro W base args ds gs before hval0 hW hL hsh
  have hval : ∀ (j : Nat) t v, Tryz.f3.params[j]? = some t → args[j]? = some v → Value.okWide Tryz.prog W .any base t v := hval0
  have hW' := hW
  obtain ⟨p, q, hA0, hV, rfl, hfz, hnd⟩ := hW
  have hA : DataW.TrodAll enc Tryz.prog W 0 (fun _ => true) true Tryz.f3.params.toList args.toList ds p := hA0
  rw [Tryz.params3] at hA hval
  obtain ⟨v0, vs0, d0, ds0, p0, q0, hargs, rfl, rfl, h0, r0⟩ := trodAll_cons hA
  obtain ⟨rfl, rfl, rfl⟩ := trodAll_nil r0
  obtain rfl : args = #[v0] := by cases args; simp_all
  obtain ⟨rfl, rfl⟩ := trodVars_none hV
  obtain ⟨s, rfl, rfl, rfl, ws⟩ := ChangeMaps.open_string Tryz.underlying9 (hval 0 9 v0 rfl rfl) h0
  have hv := loads_vars hL hsh
  clear hA0 hval0
  refine (I.loads_any s W hv).mono fun e W' ⟨he, bel⟩ => ?_
  subst he
  exact ⟨_, rfl, _, _, _, [], _, [], hW', trodAll_mk1 (shut_bool Tryz.underlying4 _), trodAll_cons_mk (ChangeMaps.shut_string Tryz.underlying9 ws) trodAll_mk0, rfl, bel.frame _, fun h => by cases h⟩

theorem loads_inst : Tryz.f3.isInstance Tryz.prog Rows.indexLoadsRow.origin Rows.indexLoadsRow.targs := of_decide_eq_true (by kernel_rfl)

theorem loads_wrap : Tryz.f3.isWrapper Tryz.prog Rows.indexLoadsRow.wrapper Rows.indexLoadsRow.mainSum := by unfold Func.isWrapper; rw [if_neg (of_decide_eq_false (by kernel_rfl))]; exact ⟨rfl, rfl⟩

theorem loads_named : Tryz.prog.funcNamed Rows.indexLoadsRow.func = some 3 := by kernel_rfl

theorem loads_row : Rows.IndexLoadsSaid :=
  OpenClaim.holds_of_wide_leaving 3 Tryz.f3 rfl rfl rfl rfl rfl rfl rfl ⟨rfl, rfl, rfl, rfl, rfl⟩ rfl rfl rfl rfl rfl loads_named Tryz.func3 fl_facts loads_inst loads_wrap
    (fun os started H enc _ => leaving_of_handed (loads_lifted os started H enc))

theorem loads_text : Rows.indexLoadsRow.wfByText (OpenSpec.ofChange Rows.indexLoadsSpec) = true := by kernel_rfl

theorem loads_main : Tryz.prog.mainIs = some (true, ("4ade8549f1c7e37e8ecca3c8762da108096c196075f0eddc8bb75ba31dd20d64" : String).toList) := by kernel_rfl

theorem loads_looks : true = Tryz.prog.looks [] := by kernel_rfl

theorem loads_goes : true = Rows.indexLoadsRow.goesBy Tryz.prog := by kernel_rfl

theorem index_loads_holds : Rows.IndexLoadsCardSaid :=
  tied_goes .later [.data, .data, .data, .data, .handle, .sentinel, .sentinel, .pinned] true (true, "4ade8549f1c7e37e8ecca3c8762da108096c196075f0eddc8bb75ba31dd20d64") true
    loads_row loads_text indexLoads_row_tie rfl ⟨rfl, rfl⟩ loads_main rfl
    (fun f fn hf hfn => by
      obtain rfl : f = 3 := Option.some.inj (loads_named.symm.trans hf) |>.symm
      obtain rfl : fn = Tryz.f3 := (Option.some.inj (Tryz.func3.symm.trans hfn)).symm
      exact ⟨loads_looks, fun j t ht => by
        rw [Tryz.params3] at ht
        have hm : t ∈ [9] := by simpa using Array.mem_of_getElem? ht
        have hall : ([9].all fun u => !Tryz.prog.wantsStandIn u) = true := by kernel_rfl
        exact (show Tryz.prog.wantsStandIn t = false by simpa using List.all_eq_true.1 hall t hm)⟩)
    loads_goes

#print axioms index_loads_holds

end Go.Proofs.YtebcjaenhiiflaaGreatDoor
