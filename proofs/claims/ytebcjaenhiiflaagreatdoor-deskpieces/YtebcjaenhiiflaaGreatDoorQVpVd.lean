import Derived.Test.YtebcjaenhiiflaaGreatDoorRows
import Derived.JoinedOf
set_option maxRecDepth 100000
namespace Go.Proofs.YtebcjaenhiiflaaGreatDoor
theorem band {a b:Bool} (h:a=true) (k:b=true):(a&&b)=true:=by rw [h,k];rfl
theorem fp1:(laidOutB Tryz.prog)=true:=by kernel_rfl
theorem fp2:(mapsRowed Tryz.prog)=true:=by kernel_rfl
theorem fp6:((Tryz.prog.stops==[]))=true:=by kernel_rfl
theorem fp8:((Tryz.prog.stopKnobs==[]))=true:=by kernel_rfl
theorem fp24:(Tryz.prog.stopsHeard)=true:=by kernel_rfl
theorem fp25:(Tryz.prog.mayEnter)=true:=by kernel_rfl
theorem fd0:(Rows.deskPiecesRow.wf (OpenSpec.ofChange Rows.deskPiecesSpec))=true:=by kernel_rfl
theorem fd3:(Tryz.f6.params.all (Tryz.prog.readableRec ·))=true:=by kernel_rfl
theorem fd4:(namedTie Tryz.prog Rows.deskPiecesRow.named Rows.deskPiecesSpec.vars)=true:=by kernel_rfl
theorem fd5:((Rows.deskPiecesRow.stops==[]))=true:=by kernel_rfl
theorem fd7:((Rows.deskPiecesRow.knobs==[]))=true:=by kernel_rfl
theorem fd9:((Rows.deskPiecesRow.inPlace==Tryz.prog.inPlace 6))=true:=by kernel_rfl
theorem fd10:((Rows.deskPiecesRow.unfollowed==Tryz.prog.unfollowed 6))=true:=by kernel_rfl
theorem fd11:((Rows.deskPiecesRow.recurses==Tryz.prog.recurses 6))=true:=by kernel_rfl
theorem fd12:((Rows.deskPiecesRow.named==Tryz.prog.varsNamed 6))=true:=by kernel_rfl
theorem fd13:((Rows.deskPiecesRow.maps==(Tryz.f6.params.toList++Rows.deskPiecesSpec.plain.varTypes Tryz.prog).any (Tryz.prog.mapsRec ·)))=true:=by kernel_rfl
theorem fd14:((Rows.deskPiecesRow.ifaces==(Tryz.f6.params.toList++Rows.deskPiecesSpec.plain.varTypes Tryz.prog).any (Tryz.prog.ifacesRec ·)))=true:=by kernel_rfl
theorem fd15:((Rows.deskPiecesRow.mapsOut==Tryz.prog.mapsAmong Tryz.f6.resultTypes.toList))=true:=by kernel_rfl
theorem fd16:((Rows.deskPiecesRow.loops==(Tryz.f6.params.toList++Rows.deskPiecesSpec.plain.varTypes Tryz.prog).any (Tryz.prog.loopsFrom ·)))=true:=by kernel_rfl
theorem fd17:((Rows.deskPiecesRow.wideKeys==(Tryz.f6.params.toList++Rows.deskPiecesSpec.plain.varTypes Tryz.prog++Tryz.f6.resultTypes.toList).any (Tryz.prog.wideKeysFrom ·)))=true:=by kernel_rfl
theorem fd18:(Rows.deskPiecesSpec.vars.all (Tryz.prog.varReadable ·))=true:=by kernel_rfl
theorem fd19:(Tryz.f6.resultTypes.all (λ t=>Tryz.prog.readableRec t&&decide (t<Tryz.prog.types.size)))=true:=by kernel_rfl
theorem fd20:((Rows.deskPiecesRow.ifacesOut==Tryz.f6.resultTypes.toList.any (Tryz.prog.ifacesRec ·)))=true:=by kernel_rfl
theorem fd21:((Rows.deskPiecesRow.loopsOut==Tryz.f6.resultTypes.toList.any (Tryz.prog.loopsFrom ·)))=true:=by kernel_rfl
theorem fd22:((Rows.deskPiecesRow.plainKeys==Tryz.prog.plainKeys))=true:=by kernel_rfl
theorem fd23:(Rows.deskPiecesRow.shortTexts.isNone)=true:=by kernel_rfl
theorem fd26:((Rows.deskPiecesRow.lifted==Tryz.prog.liftsFinal))=true:=by kernel_rfl
theorem fd27:((Tryz.prog.make==some Rows.deskPiecesRow.make))=true:=by kernel_rfl
theorem fd28:((Rows.deskPiecesRow.kinds==(if Rows.deskPiecesRow.domain.isEmpty then [] else Tryz.f6.params.toList.map λ t=>match Tryz.prog.underlying t with | some (.int k)=>some k | _=>none)))=true:=by kernel_rfl
theorem fd29:((Rows.deskPiecesRow.pinned==Rows.deskPiecesRow.pinnedBy))=true:=by kernel_rfl
theorem fd30:((Rows.deskPiecesRow.veiled==(Tryz.f6.params.toList++Rows.deskPiecesSpec.plain.varTypes Tryz.prog++Tryz.f6.resultTypes.toList).any (Tryz.prog.veiledRec ·)))=true:=by kernel_rfl
theorem fd31:(Rows.deskPiecesRow.veiledFits Tryz.prog Tryz.f6.params.toList (Tryz.f6.params.toList++Rows.deskPiecesSpec.plain.varTypes Tryz.prog++Tryz.f6.resultTypes.toList))=true:=by kernel_rfl
theorem fd_facts:joinedFacts Tryz.prog 6 Tryz.f6 Rows.deskPiecesSpec Rows.deskPiecesRow=true:=by
 unfold joinedFacts;exact (band (band (band (band (band (band (band (band (band (band (band (band (band (band (band (band (band (band (band (band (band (band (band (band (band (band (band (band (band (band (band fd0 fp1) fp2) fd3) fd4) fd5) fp6) fd7) fp8) fd9) fd10) fd11) fd12) fd13) fd14) fd15) fd16) fd17) fd18) fd19) fd20) fd21) fd22) fd23) fp24) fp25) fd26) fd27) fd28) fd29) fd30) fd31)
end Go.Proofs.YtebcjaenhiiflaaGreatDoor
