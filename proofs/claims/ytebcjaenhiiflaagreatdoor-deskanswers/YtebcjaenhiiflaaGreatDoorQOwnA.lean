/- Proved: for every text s, the law DeskAnswers returns true and its argument reads afterwards as it read before; the package-level variables that are listed are tied to the program's text, internal/bytealg.MaxLen may hold any number. No condition: texts of more than 1500 bytes, but those of 20001 to 30000, are answered true at once by the law itself. The card speaks of the pruned copy of the project that its seat holds. -/
import Derived.Test.YtebcjaenhiiflaaGreatDoorQYlYm
import Derived.Test.YtebcjaenhiiflaaGreatDoorQVk
import Derived.Test.YtebcjaenhiiflaaGreatDoorQVpVa
import Derived.Test.YtebcjaenhiiflaaGreatDoorCards
import Derived.Test.YtebcjaenhiiflaaGreatDoorTie
set_option maxRecDepth 100000
namespace Go.Proofs.YtebcjaenhiiflaaGreatDoor
open Go.Proofs.Y
open Go.ChangeShapes Go.WideShapes Go.ChangeAt Go.RowKit Go.Proofs.Tryz
abbrev Gm:List (String × DataW Unit):=[("math/bits.deBruijn32tab",Rows.laid_math_bits_deBruijn32tab),("math/bits.deBruijn64tab",Rows.laid_math_bits_deBruijn64tab),("internal/strconv.uint64pow10",Rows.laid_internal_strconv_uint64pow10),("unicode/utf8.acceptRanges",Rows.laid_unicode_utf8_acceptRanges),("errors.errorType",Rows.laid_errors_errorType),("strconv.ErrRange",Rows.laid_strconv_ErrRange),("strconv.ErrSyntax",Rows.laid_strconv_ErrSyntax),("unicode/utf8.first",Rows.laid_unicode_utf8_first)]
abbrev J7:List (String × DataW Unit):=[("math/bits.deBruijn32tab",Rows.laid_math_bits_deBruijn32tab),("math/bits.deBruijn64tab",Rows.laid_math_bits_deBruijn64tab),("internal/strconv.uint64pow10",Rows.laid_internal_strconv_uint64pow10),("unicode/utf8.acceptRanges",Rows.laid_unicode_utf8_acceptRanges),("strconv.ErrRange",Rows.laid_strconv_ErrRange),("strconv.ErrSyntax",Rows.laid_strconv_ErrSyntax),("unicode/utf8.first",Rows.laid_unicode_utf8_first)]
theorem Px {W:World}(h:laidMetH prog Gm W):laidMet prog J7 W/\handlesMet prog [("errors.errorType",Rows.laid_errors_errorType)] W:=h
theorem jh {W:World}(h:laidMetH prog Gm W)(hs:W.ShapedOpen prog):I.Vars W:=by
 obtain⟨h1,_⟩:=Px h;exact⟨zue hs,zuy h1.tail.tail.tail.tail.tail,zuw h1.tail.tail.tail.tail,zrv h1.tail.tail,zsv hs⟩
noncomputable def ziq (os:Os):World:={World.holding prog os ⟨#[],#[],[]⟩ with heap:=(World.holding prog os ⟨#[],#[],[]⟩).heap.modify 0 λ
 | .cells _ t frozen=>.cells #[.iface 248 (.agg #[.pointer (9,28)])] t frozen
 |o=>o}
noncomputable def Uv (os:Os):World:=(ziq os).layVars prog J7
theorem zf2 (os:Os):(Uv os).os=os:=World.layVars_os _ _ _
theorem zey (os:Os)(args:Array Value):laidMetH prog Gm ((Uv os).forCall (λ _ _=>0) ⟨#[],args,[]⟩).memory:=by
 refine laidMetH_of_parts ?_ (by kernel_rfl);have h:laidMet prog J7 (Uv os):=laidMet_layVars (w0:=ziq os) (J7.map (·.1)) [] (by rfl) (by kernel_rfl) (by kernel_rfl) (by exact LaidIn.none);exact h.of_heap (by simp[World.memory,World.forCall,Input.heap])
theorem Vz (os:Os)(started:os.Started)(H:Type)(enc:TypeId × Value->H):
 ReturnsInHanded {} Tryz.checked os 7 .any (λ w args=>(Rows.deskAnswersSpec.pre enc prog Tryz.f7 [] false w args/\laidMetH prog Gm w)/\sizedMet enc prog Tryz.f7 (OpenSpec.ofChange Rows.deskAnswersSpec) false w args)
  (Rows.deskAnswersSpec.post enc prog Tryz.f7 false true false false):=by
 refine Zj (C:=Tryz.checked) (X:=λ w _=>laidMetH prog Gm w) (λ _ _ _ hh h=>h.of_heap hh) started own (by kernel_rfl) func7
  (ChangeSpec.witness_shaped (enc:=enc) (C:=Tryz.checked) (os:=os) (X:=λ w _=>laidMetH prog Gm w) false (Uv os) #[.string ⟨#[]⟩] 8 (zf2 os)
    (World.shaped_of_ZipB (by kernel_rfl) (by kernel_rfl)) (by kernel_rfl) (by kernel_rfl) (by kernel_rfl) (zey os _)) ?_
 intro W base args ds gs before hval0 hW hL hsh;have JO:∀(j:Nat) t v,Tryz.f7.params[j]? =some t->args[j]? =some v->Value.okWide prog W .any base t v:=hval0;have hW':=hW;obtain⟨p,q,hA0,hV,rfl,hfz,FM⟩:=hW;have hA:DataW.TrodAll enc prog W 0 (λ _=>true) true Tryz.f7.params.toList args.toList ds p:=hA0;rw[Tryz.params7] at hA JO;obtain⟨v0,vs0,d0,ds0,p0,q0,hargs,rfl,rfl,h0,r0⟩:=trodAll_cons hA;obtain⟨rfl,rfl,rfl⟩:=trodAll_nil r0;obtain rfl:args=#[v0]:=by cases args;simp_all
 obtain⟨rfl,rfl⟩:=trodVars_none hV;obtain⟨s,rfl,rfl,rfl,ws⟩:=ChangeMaps.open_string underlying9 (JO 0 9 v0 rfl rfl) h0;have hv:=jh hL hsh;have IK:=zux (Px hL).2;clear hA0 hval0;refine(I.zan s W hv IK).mono λ e W' ⟨he,bel⟩=>?_
 subst he;exact⟨_,rfl,_,_,_,[],_,[],hW',trodAll_mk1 (shut_bool underlying4 _),trodAll_cons_mk (ChangeMaps.shut_string underlying9 ws) trodAll_mk0,rfl,bel.frame _,λ h=>by cases h⟩
theorem ek:Tryz.f7.isInstance prog Rows.deskAnswersRow.origin Rows.deskAnswersRow.targs:=dH (by kernel_rfl)
theorem gz:Tryz.f7.isWrapper prog Rows.deskAnswersRow.wrapper Rows.deskAnswersRow.mainSum:=by unfold Func.isWrapper;rw[aL (iN (by kernel_rfl))];exact⟨rfl,rfl⟩
theorem Pw:prog.funcNamed Rows.deskAnswersRow.func=some 7:=by kernel_rfl
theorem zas:Rows.DeskAnswersSaid:=
 OpenClaim.holds_of_wide_leaving 7 Tryz.f7 rfl rfl rfl rfl rfl rfl rfl ⟨rfl,rfl,rfl,rfl,rfl⟩ rfl rfl rfl rfl rfl Pw func7 zkp ek gz
  (λ os started H enc _=>R8 (Vz os started H enc))
theorem wm:Rows.deskAnswersRow.wfByText (OpenSpec.ofChange Rows.deskAnswersSpec)=true:=by kernel_rfl
theorem mi:prog.mainIs=some (true,("4ade8549f1c7e37e8ecca3c8762da108096c196075f0eddc8bb75ba31dd20d64":String).toList):=by kernel_rfl
theorem Zm:true=prog.looks []:=by kernel_rfl
theorem ng:true=Rows.deskAnswersRow.goesBy prog:=by kernel_rfl
theorem desk_answers_holds:Rows.DeskAnswersCardSaid:=
 zgt .later [.data,.data,.data,.data,.handle,.sentinel,.sentinel,.pinned] true (true,"4ade8549f1c7e37e8ecca3c8762da108096c196075f0eddc8bb75ba31dd20d64") true
  zas wm deskAnswers_row_tie rfl ⟨rfl,rfl⟩ mi rfl
  (λ f fn hf hfn=>by
    obtain rfl:f=7:=dG (Pw.symm.trans hf) |>.symm;obtain rfl:fn=Tryz.f7:=(dG (func7.symm.trans hfn)).symm;exact⟨Zm,λ j t ht=>by
     rw[Tryz.params7] at ht;have hm:t∈[9]:=by simpa using Array.mem_of_getElem? ht
     have y7:([9].all λ u=>!prog.wantsStandIn u)=true:=by kernel_rfl
     exact(show prog.wantsStandIn t=false by simpa using iW.1 y7 t hm)⟩)
  ng
#print axioms desk_answers_holds
end Go.Proofs.YtebcjaenhiiflaaGreatDoor
