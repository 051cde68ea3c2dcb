import Derived.Test.YtebcjaenhiiflaaGreatDoorRows
import Derived.JoinedOf
set_option maxRecDepth 100000
namespace Go.Proofs.YtebcjaenhiiflaaGreatDoor
theorem Ct {a b:Bool}(h:a=true)(k:b=true):(a&&b)=true:=by rw[h,k];rfl
theorem fp1:(laidOutB Tryz.prog)=true:=by kernel_rfl
theorem fp2:(mapsRowed Tryz.prog)=true:=by kernel_rfl
theorem fp6:((Tryz.prog.stops==[]))=true:=by kernel_rfl
theorem fp8:((Tryz.prog.stopKnobs==[]))=true:=by kernel_rfl
theorem zvu:(Tryz.prog.stopsHeard)=true:=by kernel_rfl
theorem zv6:(Tryz.prog.mayEnter)=true:=by kernel_rfl
open Go.Proofs.Tryz
theorem fa0:(Rows.deskAnswersRow.wf (OpenSpec.ofChange Rows.deskAnswersSpec))=true:=by kernel_rfl
theorem fa3:(Tryz.f7.params.all (prog.readableRec ·))=true:=by kernel_rfl
theorem fa4:(namedTie prog Rows.deskAnswersRow.named Rows.deskAnswersSpec.vars)=true:=by kernel_rfl
theorem fa5:((Rows.deskAnswersRow.stops==[]))=true:=by kernel_rfl
theorem fa7:((Rows.deskAnswersRow.knobs==[]))=true:=by kernel_rfl
theorem fa9:((Rows.deskAnswersRow.inPlace==prog.inPlace 7))=true:=by kernel_rfl
theorem zvr:((Rows.deskAnswersRow.unfollowed==prog.unfollowed 7))=true:=by kernel_rfl
theorem zv3:((Rows.deskAnswersRow.recurses==prog.recurses 7))=true:=by kernel_rfl
theorem zv4:((Rows.deskAnswersRow.named==prog.varsNamed 7))=true:=by kernel_rfl
theorem zvs:((Rows.deskAnswersRow.maps==(Tryz.f7.params.toList++Rows.deskAnswersSpec.plain.varTypes prog).any (prog.mapsRec ·)))=true:=by kernel_rfl
theorem zvt:((Rows.deskAnswersRow.ifaces==(Tryz.f7.params.toList++Rows.deskAnswersSpec.plain.varTypes prog).any (prog.ifacesRec ·)))=true:=by kernel_rfl
theorem zvz:((Rows.deskAnswersRow.mapsOut==prog.mapsAmong Tryz.f7.resultTypes.toList))=true:=by kernel_rfl
theorem zu5:((Rows.deskAnswersRow.loops==(Tryz.f7.params.toList++Rows.deskAnswersSpec.plain.varTypes prog).any (prog.loopsFrom ·)))=true:=by kernel_rfl
theorem zvi:((Rows.deskAnswersRow.wideKeys==(Tryz.f7.params.toList++Rows.deskAnswersSpec.plain.varTypes prog++Tryz.f7.resultTypes.toList).any (prog.wideKeysFrom ·)))=true:=by kernel_rfl
theorem zvb:(Rows.deskAnswersSpec.vars.all (prog.varReadable ·))=true:=by kernel_rfl
theorem zvl:(Tryz.f7.resultTypes.all (λ t=>prog.readableRec t&&decide (t<prog.types.size)))=true:=by kernel_rfl
theorem zv5:((Rows.deskAnswersRow.ifacesOut==Tryz.f7.resultTypes.toList.any (prog.ifacesRec ·)))=true:=by kernel_rfl
theorem zu9:((Rows.deskAnswersRow.loopsOut==Tryz.f7.resultTypes.toList.any (prog.loopsFrom ·)))=true:=by kernel_rfl
theorem zvj:((Rows.deskAnswersRow.plainKeys==prog.plainKeys))=true:=by kernel_rfl
theorem zvd:(Rows.deskAnswersRow.shortTexts.isNone)=true:=by kernel_rfl
theorem zve:((Rows.deskAnswersRow.lifted==prog.liftsFinal))=true:=by kernel_rfl
theorem zvv:((prog.make==some Rows.deskAnswersRow.make))=true:=by kernel_rfl
theorem zvc:((Rows.deskAnswersRow.kinds==(if Rows.deskAnswersRow.domain.isEmpty then [] else Tryz.f7.params.toList.map λ t=>match prog.underlying t with|some (.int k)=>some k|_=>none)))=true:=by kernel_rfl
theorem zvf:((Rows.deskAnswersRow.pinned==Rows.deskAnswersRow.pinnedBy))=true:=by kernel_rfl
theorem zvk:((Rows.deskAnswersRow.veiled==(Tryz.f7.params.toList++Rows.deskAnswersSpec.plain.varTypes prog++Tryz.f7.resultTypes.toList).any (prog.veiledRec ·)))=true:=by kernel_rfl
theorem zvx:(Rows.deskAnswersRow.veiledFits prog Tryz.f7.params.toList (Tryz.f7.params.toList++Rows.deskAnswersSpec.plain.varTypes prog++Tryz.f7.resultTypes.toList))=true:=by kernel_rfl
theorem zkp:joinedFacts prog 7 Tryz.f7 Rows.deskAnswersSpec Rows.deskAnswersRow=true:=by
 unfold joinedFacts;exact(Ct (Ct (Ct (Ct (Ct (Ct (Ct (Ct (Ct (Ct (Ct (Ct (Ct (Ct (Ct (Ct (Ct (Ct (Ct (Ct (Ct (Ct (Ct (Ct (Ct (Ct (Ct (Ct (Ct (Ct (Ct fa0 fp1) fp2) fa3) fa4) fa5) fp6) fa7) fp8) fa9) zvr) zv3) zv4) zvs) zvt) zvz) zu5) zvi) zvb) zvl) zv5) zu9) zvj) zvd) zvu) zv6) zve) zvv) zvc) zvf) zvk) zvx)
end Go.Proofs.YtebcjaenhiiflaaGreatDoor
