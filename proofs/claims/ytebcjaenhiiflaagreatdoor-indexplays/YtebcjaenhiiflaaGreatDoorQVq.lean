import Derived.Test.YtebcjaenhiiflaaGreatDoorQVp
set_option maxRecDepth 100000
namespace Go.Proofs.YtebcjaenhiiflaaGreatDoor
open Go.Proofs.Tryz
theorem fq0:(Rows.indexPlaysRow.wf (OpenSpec.ofChange Rows.indexPlaysSpec))=true:=by kernel_rfl
theorem fq3:(Tryz.f4.params.all (prog.readableRec ·))=true:=by kernel_rfl
theorem fq4:(namedTie prog Rows.indexPlaysRow.named Rows.indexPlaysSpec.vars)=true:=by kernel_rfl
theorem fq5:((Rows.indexPlaysRow.stops==[]))=true:=by kernel_rfl
theorem fq7:((Rows.indexPlaysRow.knobs==[]))=true:=by kernel_rfl
theorem fq9:((Rows.indexPlaysRow.inPlace==prog.inPlace 4))=true:=by kernel_rfl
theorem yac8:((Rows.indexPlaysRow.unfollowed==prog.unfollowed 4))=true:=by kernel_rfl
theorem yac9:((Rows.indexPlaysRow.recurses==prog.recurses 4))=true:=by kernel_rfl
theorem yacv:((Rows.indexPlaysRow.named==prog.varsNamed 4))=true:=by kernel_rfl
theorem yaco:((Rows.indexPlaysRow.maps==(Tryz.f4.params.toList++Rows.indexPlaysSpec.plain.varTypes prog).any (prog.mapsRec ·)))=true:=by kernel_rfl
theorem yac5:((Rows.indexPlaysRow.ifaces==(Tryz.f4.params.toList++Rows.indexPlaysSpec.plain.varTypes prog).any (prog.ifacesRec ·)))=true:=by kernel_rfl
theorem yaci:((Rows.indexPlaysRow.mapsOut==prog.mapsAmong Tryz.f4.resultTypes.toList))=true:=by kernel_rfl
theorem yadb:((Rows.indexPlaysRow.loops==(Tryz.f4.params.toList++Rows.indexPlaysSpec.plain.varTypes prog).any (prog.loopsFrom ·)))=true:=by kernel_rfl
theorem yacw:((Rows.indexPlaysRow.wideKeys==(Tryz.f4.params.toList++Rows.indexPlaysSpec.plain.varTypes prog++Tryz.f4.resultTypes.toList).any (prog.wideKeysFrom ·)))=true:=by kernel_rfl
theorem yacq:(Rows.indexPlaysSpec.vars.all (prog.varReadable ·))=true:=by kernel_rfl
theorem yacg:(Tryz.f4.resultTypes.all (λ t=>prog.readableRec t&&decide (t<prog.types.size)))=true:=by kernel_rfl
theorem yack:((Rows.indexPlaysRow.ifacesOut==Tryz.f4.resultTypes.toList.any (prog.ifacesRec ·)))=true:=by kernel_rfl
theorem yacl:((Rows.indexPlaysRow.loopsOut==Tryz.f4.resultTypes.toList.any (prog.loopsFrom ·)))=true:=by kernel_rfl
theorem yadf:((Rows.indexPlaysRow.plainKeys==prog.plainKeys))=true:=by kernel_rfl
theorem yade:(Rows.indexPlaysRow.shortTexts.isNone)=true:=by kernel_rfl
theorem yac7:((Rows.indexPlaysRow.lifted==prog.liftsFinal))=true:=by kernel_rfl
theorem yac4:((prog.make==some Rows.indexPlaysRow.make))=true:=by kernel_rfl
theorem yac3:((Rows.indexPlaysRow.kinds==(if Rows.indexPlaysRow.domain.isEmpty then [] else Tryz.f4.params.toList.map λ t=>match prog.underlying t with | some (.int k)=>some k | _=>none)))=true:=by kernel_rfl
theorem yacf:((Rows.indexPlaysRow.pinned==Rows.indexPlaysRow.pinnedBy))=true:=by kernel_rfl
theorem yacz:((Rows.indexPlaysRow.veiled==(Tryz.f4.params.toList++Rows.indexPlaysSpec.plain.varTypes prog++Tryz.f4.resultTypes.toList).any (prog.veiledRec ·)))=true:=by kernel_rfl
theorem yadg:(Rows.indexPlaysRow.veiledFits prog Tryz.f4.params.toList (Tryz.f4.params.toList++Rows.indexPlaysSpec.plain.varTypes prog++Tryz.f4.resultTypes.toList))=true:=by kernel_rfl
theorem z1b:joinedFacts prog 4 Tryz.f4 Rows.indexPlaysSpec Rows.indexPlaysRow=true:=by
 unfold joinedFacts;exact (zbf (zbf (zbf (zbf (zbf (zbf (zbf (zbf (zbf (zbf (zbf (zbf (zbf (zbf (zbf (zbf (zbf (zbf (zbf (zbf (zbf (zbf (zbf (zbf (zbf (zbf (zbf (zbf (zbf (zbf (zbf fq0 fp1) fp2) fq3) fq4) fq5) fp6) fq7) fp8) fq9) yac8) yac9) yacv) yaco) yac5) yaci) yadb) yacw) yacq) yacg) yack) yacl) yadf) yade) yacm) yacu) yac7) yac4) yac3) yacf) yacz) yadg)
end Go.Proofs.YtebcjaenhiiflaaGreatDoor
