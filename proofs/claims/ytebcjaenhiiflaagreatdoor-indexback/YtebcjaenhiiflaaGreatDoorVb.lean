/- The forced cells of IndexBack's row. -/
import Derived.Test.YtebcjaenhiiflaaGreatDoorRows
import Derived.Test.YtebcjaenhiiflaaGreatDoorVp
import Derived.JoinedOf
import Derived.KernelRfl
namespace Go.Proofs.YtebcjaenhiiflaaGreatDoor

theorem fb0 : (Rows.indexBackRow.wf (OpenSpec.ofChange Rows.indexBackSpec)) = true := by kernel_rfl

theorem fb3 : (Tryz.f5.params.all (Tryz.prog.readableRec ·)) = true := by kernel_rfl

theorem fb4 : (namedTie Tryz.prog Rows.indexBackRow.named Rows.indexBackSpec.vars) = true := by kernel_rfl

theorem fb5 : ((Rows.indexBackRow.stops == [])) = true := by kernel_rfl

theorem fb7 : ((Rows.indexBackRow.knobs == [])) = true := by kernel_rfl

theorem fb9 : ((Rows.indexBackRow.inPlace == Tryz.prog.inPlace 5)) = true := by kernel_rfl

theorem fb10 : ((Rows.indexBackRow.unfollowed == Tryz.prog.unfollowed 5)) = true := by kernel_rfl

theorem fb11 : ((Rows.indexBackRow.recurses == Tryz.prog.recurses 5)) = true := by kernel_rfl

theorem fb12 : ((Rows.indexBackRow.named == Tryz.prog.varsNamed 5)) = true := by kernel_rfl

theorem fb13 : ((Rows.indexBackRow.maps == (Tryz.f5.params.toList ++ Rows.indexBackSpec.plain.varTypes Tryz.prog).any (Tryz.prog.mapsRec ·))) = true := by kernel_rfl

theorem fb14 : ((Rows.indexBackRow.ifaces == (Tryz.f5.params.toList ++ Rows.indexBackSpec.plain.varTypes Tryz.prog).any (Tryz.prog.ifacesRec ·))) = true := by kernel_rfl

theorem fb15 : ((Rows.indexBackRow.mapsOut == Tryz.prog.mapsAmong Tryz.f5.resultTypes.toList)) = true := by kernel_rfl

theorem fb16 : ((Rows.indexBackRow.loops == (Tryz.f5.params.toList ++ Rows.indexBackSpec.plain.varTypes Tryz.prog).any (Tryz.prog.loopsFrom ·))) = true := by kernel_rfl

theorem fb17 : ((Rows.indexBackRow.wideKeys == (Tryz.f5.params.toList ++ Rows.indexBackSpec.plain.varTypes Tryz.prog ++ Tryz.f5.resultTypes.toList).any (Tryz.prog.wideKeysFrom ·))) = true := by kernel_rfl

theorem fb18 : (Rows.indexBackSpec.vars.all (Tryz.prog.varReadable ·)) = true := by kernel_rfl

theorem fb19 : (Tryz.f5.resultTypes.all (fun t => Tryz.prog.readableRec t && decide (t < Tryz.prog.types.size))) = true := by kernel_rfl

theorem fb20 : ((Rows.indexBackRow.ifacesOut == Tryz.f5.resultTypes.toList.any (Tryz.prog.ifacesRec ·))) = true := by kernel_rfl

theorem fb21 : ((Rows.indexBackRow.loopsOut == Tryz.f5.resultTypes.toList.any (Tryz.prog.loopsFrom ·))) = true := by kernel_rfl

theorem fb22 : ((Rows.indexBackRow.plainKeys == Tryz.prog.plainKeys)) = true := by kernel_rfl

theorem fb23 : (Rows.indexBackRow.shortTexts.isNone) = true := by kernel_rfl

theorem fb26 : ((Rows.indexBackRow.lifted == Tryz.prog.liftsFinal)) = true := by kernel_rfl

theorem fb27 : ((Tryz.prog.make == some Rows.indexBackRow.make)) = true := by kernel_rfl

theorem fb28 : ((Rows.indexBackRow.kinds == (if Rows.indexBackRow.domain.isEmpty then [] else Tryz.f5.params.toList.map fun t => match Tryz.prog.underlying t with | some (.int k) => some k | _ => none))) = true := by kernel_rfl

theorem fb29 : ((Rows.indexBackRow.pinned == Rows.indexBackRow.pinnedBy)) = true := by kernel_rfl

theorem fb30 : ((Rows.indexBackRow.veiled == (Tryz.f5.params.toList ++ Rows.indexBackSpec.plain.varTypes Tryz.prog ++ Tryz.f5.resultTypes.toList).any (Tryz.prog.veiledRec ·))) = true := by kernel_rfl

theorem fb31 : (Rows.indexBackRow.veiledFits Tryz.prog Tryz.f5.params.toList (Tryz.f5.params.toList ++ Rows.indexBackSpec.plain.varTypes Tryz.prog ++ Tryz.f5.resultTypes.toList)) = true := by kernel_rfl

set_option maxRecDepth 100000 in
theorem fb_facts : joinedFacts Tryz.prog 5 Tryz.f5 Rows.indexBackSpec Rows.indexBackRow = true := by
  unfold joinedFacts
  exact (band (band (band (band (band (band (band (band (band (band (band (band (band (band (band (band (band (band (band (band (band (band (band (band (band (band (band (band (band (band (band fb0 fp1) fp2) fb3) fb4) fb5) fp6) fb7) fp8) fb9) fb10) fb11) fb12) fb13) fb14) fb15) fb16) fb17) fb18) fb19) fb20) fb21) fb22) fb23) fp24) fp25) fb26) fb27) fb28) fb29) fb30) fb31)

end Go.Proofs.YtebcjaenhiiflaaGreatDoor
