/- The forced cells of IndexLoads' row. -/
import Derived.Test.YtebcjaenhiiflaaGreatDoorRows
import Derived.Test.YtebcjaenhiiflaaGreatDoorVp
import Derived.JoinedOf
import Derived.KernelRfl
namespace Go.Proofs.YtebcjaenhiiflaaGreatDoor

theorem fl0 : (Rows.indexLoadsRow.wf (OpenSpec.ofChange Rows.indexLoadsSpec)) = true := by kernel_rfl

theorem fl3 : (Tryz.f3.params.all (Tryz.prog.readableRec ·)) = true := by kernel_rfl

theorem fl4 : (namedTie Tryz.prog Rows.indexLoadsRow.named Rows.indexLoadsSpec.vars) = true := by kernel_rfl

theorem fl5 : ((Rows.indexLoadsRow.stops == [])) = true := by kernel_rfl

theorem fl7 : ((Rows.indexLoadsRow.knobs == [])) = true := by kernel_rfl

theorem fl9 : ((Rows.indexLoadsRow.inPlace == Tryz.prog.inPlace 3)) = true := by kernel_rfl

theorem fl10 : ((Rows.indexLoadsRow.unfollowed == Tryz.prog.unfollowed 3)) = true := by kernel_rfl

theorem fl11 : ((Rows.indexLoadsRow.recurses == Tryz.prog.recurses 3)) = true := by kernel_rfl

theorem fl12 : ((Rows.indexLoadsRow.named == Tryz.prog.varsNamed 3)) = true := by kernel_rfl

theorem fl13 : ((Rows.indexLoadsRow.maps == (Tryz.f3.params.toList ++ Rows.indexLoadsSpec.plain.varTypes Tryz.prog).any (Tryz.prog.mapsRec ·))) = true := by kernel_rfl

theorem fl14 : ((Rows.indexLoadsRow.ifaces == (Tryz.f3.params.toList ++ Rows.indexLoadsSpec.plain.varTypes Tryz.prog).any (Tryz.prog.ifacesRec ·))) = true := by kernel_rfl

theorem fl15 : ((Rows.indexLoadsRow.mapsOut == Tryz.prog.mapsAmong Tryz.f3.resultTypes.toList)) = true := by kernel_rfl

theorem fl16 : ((Rows.indexLoadsRow.loops == (Tryz.f3.params.toList ++ Rows.indexLoadsSpec.plain.varTypes Tryz.prog).any (Tryz.prog.loopsFrom ·))) = true := by kernel_rfl

theorem fl17 : ((Rows.indexLoadsRow.wideKeys == (Tryz.f3.params.toList ++ Rows.indexLoadsSpec.plain.varTypes Tryz.prog ++ Tryz.f3.resultTypes.toList).any (Tryz.prog.wideKeysFrom ·))) = true := by kernel_rfl

theorem fl18 : (Rows.indexLoadsSpec.vars.all (Tryz.prog.varReadable ·)) = true := by kernel_rfl

theorem fl19 : (Tryz.f3.resultTypes.all (fun t => Tryz.prog.readableRec t && decide (t < Tryz.prog.types.size))) = true := by kernel_rfl

theorem fl20 : ((Rows.indexLoadsRow.ifacesOut == Tryz.f3.resultTypes.toList.any (Tryz.prog.ifacesRec ·))) = true := by kernel_rfl

theorem fl21 : ((Rows.indexLoadsRow.loopsOut == Tryz.f3.resultTypes.toList.any (Tryz.prog.loopsFrom ·))) = true := by kernel_rfl

theorem fl22 : ((Rows.indexLoadsRow.plainKeys == Tryz.prog.plainKeys)) = true := by kernel_rfl

theorem fl23 : (Rows.indexLoadsRow.shortTexts.isNone) = true := by kernel_rfl

theorem fl26 : ((Rows.indexLoadsRow.lifted == Tryz.prog.liftsFinal)) = true := by kernel_rfl

theorem fl27 : ((Tryz.prog.make == some Rows.indexLoadsRow.make)) = true := by kernel_rfl

theorem fl28 : ((Rows.indexLoadsRow.kinds == (if Rows.indexLoadsRow.domain.isEmpty then [] else Tryz.f3.params.toList.map fun t => match Tryz.prog.underlying t with | some (.int k) => some k | _ => none))) = true := by kernel_rfl

theorem fl29 : ((Rows.indexLoadsRow.pinned == Rows.indexLoadsRow.pinnedBy)) = true := by kernel_rfl

theorem fl30 : ((Rows.indexLoadsRow.veiled == (Tryz.f3.params.toList ++ Rows.indexLoadsSpec.plain.varTypes Tryz.prog ++ Tryz.f3.resultTypes.toList).any (Tryz.prog.veiledRec ·))) = true := by kernel_rfl

theorem fl31 : (Rows.indexLoadsRow.veiledFits Tryz.prog Tryz.f3.params.toList (Tryz.f3.params.toList ++ Rows.indexLoadsSpec.plain.varTypes Tryz.prog ++ Tryz.f3.resultTypes.toList)) = true := by kernel_rfl

set_option maxRecDepth 100000 in
theorem fl_facts : joinedFacts Tryz.prog 3 Tryz.f3 Rows.indexLoadsSpec Rows.indexLoadsRow = true := by
  unfold joinedFacts
  exact (band (band (band (band (band (band (band (band (band (band (band (band (band (band (band (band (band (band (band (band (band (band (band (band (band (band (band (band (band (band (band fl0 fp1) fp2) fl3) fl4) fl5) fp6) fl7) fp8) fl9) fl10) fl11) fl12) fl13) fl14) fl15) fl16) fl17) fl18) fl19) fl20) fl21) fl22) fl23) fp24) fp25) fl26) fl27) fl28) fl29) fl30) fl31)

end Go.Proofs.YtebcjaenhiiflaaGreatDoor
