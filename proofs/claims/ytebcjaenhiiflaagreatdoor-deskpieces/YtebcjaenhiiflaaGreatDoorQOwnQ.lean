/- Proved: for all texts a and b, the law DeskPieces returns true and its arguments read afterwards as they read before; the package-level variables that are listed are tied to the program's text, internal/bytealg.MaxLen may hold any number. No condition: texts of more than 1500 bytes together are answered true at once by the law itself. The card speaks of the pruned copy of the project that its seat holds. -/
import Derived.Test.YtebcjaenhiiflaaGreatDoorQZrZy
import Derived.Test.YtebcjaenhiiflaaGreatDoorQVk
import Derived.Test.YtebcjaenhiiflaaGreatDoorQVpVd
import Derived.Test.YtebcjaenhiiflaaGreatDoorCards
import Derived.Test.YtebcjaenhiiflaaGreatDoorTie
import Derived.SizedLaws
set_option maxRecDepth 100000
namespace Go.Proofs.YtebcjaenhiiflaaGreatDoor
open Go.ChangeShapes Go.WideShapes Go.ChangeAt Go.RowKit
theorem handed_sized {H:Type} {enc:TypeId × Value->H} {C:Checked} {os:Os} {f:FuncId} {fn:Func} {s:ChangeSpec} {apart fresh handsOn again:Bool} {X:World->Array Value->Prop}
 (hX:∀(w w':World) (args:Array Value),w.heap=w'.heap->X w args->X w' args) (started:os.Started) (hown:ownKnob C.prog.godebug=none) (noInit:C.prog.inits.idxOf? f=none) (hfn:C.prog.funcs[f]? =some fn)
 (witness:∃(w:World) (tape:Tape) (i:Input),w.os=os/\(w.forCall tape i).Shaped C.prog/\i.vars=[]/\Input.okWide C.prog (w.forCall tape i) .any w.heap.size f i/\
   ((s.pre enc C.prog fn [] apart (w.forCall tape i).memory i.args/\X (w.forCall tape i).memory i.args)/\sizedMet enc C.prog fn (OpenSpec.ofChange s) apart (w.forCall tape i).memory i.args)/\({}:Assume).holds C.prog (lone (Frame.enter C.prog f i.args .normal) [] (w.forCall tape i)))
 (contract:∀(W:World) (base:Nat) (args:Array Value) (ds gs:List (DataW H)) (before:List MemPlace),(∀(j:Nat) t v,fn.params[j]? =some t->args[j]? =some v->Value.okWide C.prog W .any base t v)->
   DataW.Whole enc C.prog fn.params.toList s.vars apart W args.toList ds gs before->X W args->(DataW.weightsEach C.prog (fn.params.toList++s.plain.varTypes C.prog) (ds++gs)).all (·<=reachBytes)=true->W.ShapedOpen C.prog->Calls C.prog f args W λ e W'=>∃v,e= .returned v/\s.post enc C.prog fn apart fresh handsOn again W args v W'):
 ReturnsInHanded {} C os f .any (λ w args=>(s.pre enc C.prog fn [] apart w args/\X w args)/\sizedMet enc C.prog fn (OpenSpec.ofChange s) apart w args) (s.post enc C.prog fn apart fresh handsOn again):=by
 refine returnsInHanded_of_calls hown started noInit witness ?_;intro w tape i _ hsh _ hok hpre _;obtain ⟨_,_,_,fn',hfn',_,_,_,_,hval⟩:=hok;obtain rfl:fn'=fn:=Option.some.inj (hfn'.symm.trans hfn);obtain ⟨⟨⟨ds,gs,before,hw,_⟩,hx⟩,hz⟩:=hpre;refine (contract (w.forCall tape i) w.heap.size i.args ds gs before hval (DataW.Whole.of_heap (w':=w.forCall tape i) (by rfl) hw) (hX _ _ _ (by rfl) hx) (hz.weights hw) hsh).mono ?_;rintro e W' ⟨v,rfl,hp⟩;exact ChangeSpec.post_blind hp
abbrev piecesLaid:List (String × DataW Unit):=[("math/bits.deBruijn32tab",Rows.laid_math_bits_deBruijn32tab),("math/bits.deBruijn64tab",Rows.laid_math_bits_deBruijn64tab),("internal/strconv.uint64pow10",Rows.laid_internal_strconv_uint64pow10),("errors.errorType",Rows.laid_errors_errorType),("strconv.ErrRange",Rows.laid_strconv_ErrRange),("strconv.ErrSyntax",Rows.laid_strconv_ErrSyntax)]
abbrev piecesData:List (String × DataW Unit):=[("math/bits.deBruijn32tab",Rows.laid_math_bits_deBruijn32tab),("math/bits.deBruijn64tab",Rows.laid_math_bits_deBruijn64tab),("internal/strconv.uint64pow10",Rows.laid_internal_strconv_uint64pow10),("strconv.ErrRange",Rows.laid_strconv_ErrRange),("strconv.ErrSyntax",Rows.laid_strconv_ErrSyntax)]
theorem pieces_parts {W:World} (h:laidMetH Tryz.prog piecesLaid W):laidMet Tryz.prog piecesData W/\handlesMet Tryz.prog [("errors.errorType",Rows.laid_errors_errorType)] W:=h
theorem pieces_vars {W:World} (h:laidMetH Tryz.prog piecesLaid W) (hs:W.ShapedOpen Tryz.prog):I.Vars W:=by
 obtain ⟨h1,_⟩:=pieces_parts h;exact ⟨mx_of hs,sy_of h1.tail.tail.tail.tail,ra_of h1.tail.tail.tail,tab_of h1.tail.tail,big_of hs⟩
noncomputable def start0 (os:Os):World:={World.holding Tryz.prog os ⟨#[],#[],[]⟩ with heap:=(World.holding Tryz.prog os ⟨#[],#[],[]⟩).heap.modify 0 λ
 | .cells _ t frozen=>.cells #[.iface 248 (.agg #[.pointer (some ⟨9,28,none⟩)])] t frozen
 | o=>o}
noncomputable def startQ (os:Os):World:=(start0 os).layVars Tryz.prog piecesData
theorem startQ_os (os:Os):(startQ os).os=os:=World.layVars_os _ _ _
theorem startQ_met (os:Os) (args:Array Value):laidMetH Tryz.prog piecesLaid ((startQ os).forCall (λ _ _=>0) ⟨#[],args,[]⟩).memory:=by
 refine laidMetH_of_parts ?_ (by kernel_rfl);have h:laidMet Tryz.prog piecesData (startQ os):=laidMet_layVars (w0:=start0 os) (piecesData.map (·.1)) [] (by rfl) (by kernel_rfl) (by kernel_rfl) (by exact LaidIn.none);exact h.of_heap (by simp [World.memory,World.forCall,Input.heap])
theorem pieces_lifted (os:Os) (started:os.Started) (H:Type) (enc:TypeId × Value->H):
 ReturnsInHanded {} Tryz.checked os 6 .any (λ w args=>(Rows.deskPiecesSpec.pre enc Tryz.prog Tryz.f6 [] false w args/\laidMetH Tryz.prog piecesLaid w)/\sizedMet enc Tryz.prog Tryz.f6 (OpenSpec.ofChange Rows.deskPiecesSpec) false w args)
  (Rows.deskPiecesSpec.post enc Tryz.prog Tryz.f6 false true false false):=by
 refine handed_sized (C:=Tryz.checked) (X:=λ w _=>laidMetH Tryz.prog piecesLaid w) (λ _ _ _ hh h=>h.of_heap hh) started own (by kernel_rfl) Tryz.func6
  (ChangeSpec.witness_shaped (enc:=enc) (C:=Tryz.checked) (os:=os) (X:=λ w _=>laidMetH Tryz.prog piecesLaid w) false (startQ os) #[.string ⟨#[]⟩,.string ⟨#[]⟩] 8 (startQ_os os)
    (World.shaped_of_ZipB (by kernel_rfl) (by kernel_rfl)) (by kernel_rfl) (by kernel_rfl) (by kernel_rfl) (startQ_met os _)) ?_
 intro W base args ds gs before hval0 hW hL hwt hsh;have hval:∀(j:Nat) t v,Tryz.f6.params[j]? =some t->args[j]? =some v->Value.okWide Tryz.prog W .any base t v:=hval0;have hW':=hW;obtain ⟨p,q,hA0,hV,rfl,hfz,hnd⟩:=hW;have hA:DataW.TrodAll enc Tryz.prog W 0 (λ _=>true) true Tryz.f6.params.toList args.toList ds p:=hA0;rw [Tryz.params6] at hA hval;obtain ⟨v0,vs0,d0,ds0,p0,q0,hargs,rfl,rfl,h0,r0⟩:=trodAll_cons hA;obtain ⟨v1,vs1,d1,ds1,p1,q1,rfl,rfl,rfl,h1,r1⟩:=trodAll_cons r0;obtain ⟨rfl,rfl,rfl⟩:=trodAll_nil r1;obtain rfl:args=#[v0,v1]:=by cases args;simp_all
 obtain ⟨rfl,rfl⟩:=trodVars_none hV;obtain ⟨s,rfl,rfl,rfl,ws⟩:=ChangeMaps.open_string Tryz.underlying9 (hval 0 9 v0 rfl rfl) h0;obtain ⟨t,rfl,rfl,rfl,wt⟩:=ChangeMaps.open_string Tryz.underlying9 (hval 1 9 v1 rfl rfl) h1;rw [Tryz.params6] at hwt;have hs1:=sized_string hwt (j:=0) rfl rfl;have hs2:=sized_string hwt (j:=1) rfl rfl;have hrb:=reachBytes_lt;have hv:=pieces_vars hL hsh;have hgl:=gl_of (pieces_parts hL).2;clear hA0 hval0;refine (I.pieces_any s t W (by simp at hs1;omega) (by simp at hs2;omega) hv hgl).mono λ e W' ⟨he,bel⟩=>?_
 subst he;exact ⟨_,rfl,_,_,_,[],_,[],hW',trodAll_mk1 (shut_bool Tryz.underlying4 _),trodAll_cons_mk (ChangeMaps.shut_string Tryz.underlying9 ws) (trodAll_cons_mk (ChangeMaps.shut_string Tryz.underlying9 wt) trodAll_mk0),rfl,bel.frame _,λ h=>by cases h⟩
theorem pieces_inst:Tryz.f6.isInstance Tryz.prog Rows.deskPiecesRow.origin Rows.deskPiecesRow.targs:=of_decide_eq_true (by kernel_rfl)
theorem pieces_wrap:Tryz.f6.isWrapper Tryz.prog Rows.deskPiecesRow.wrapper Rows.deskPiecesRow.mainSum:=by unfold Func.isWrapper;rw [if_neg (of_decide_eq_false (by kernel_rfl))];exact ⟨rfl,rfl⟩
theorem pieces_named:Tryz.prog.funcNamed Rows.deskPiecesRow.func=some 6:=by kernel_rfl
theorem pieces_row:Rows.DeskPiecesSaid:=
 OpenClaim.holds_of_wide_leaving 6 Tryz.f6 rfl rfl rfl rfl rfl rfl rfl ⟨rfl,rfl,rfl,rfl,rfl⟩ rfl rfl rfl rfl rfl pieces_named Tryz.func6 fd_facts pieces_inst pieces_wrap
  (λ os started H enc _=>leaving_of_handed (pieces_lifted os started H enc))
theorem pieces_text:Rows.deskPiecesRow.wfByText (OpenSpec.ofChange Rows.deskPiecesSpec)=true:=by kernel_rfl
theorem pieces_main:Tryz.prog.mainIs=some (true,("4ade8549f1c7e37e8ecca3c8762da108096c196075f0eddc8bb75ba31dd20d64":String).toList):=by kernel_rfl
theorem pieces_looks:true=Tryz.prog.looks []:=by kernel_rfl
theorem pieces_goes:true=Rows.deskPiecesRow.goesBy Tryz.prog:=by kernel_rfl
theorem desk_pieces_holds:Rows.DeskPiecesCardSaid:=
 tied_goes .later [.data,.data,.data,.handle,.sentinel,.sentinel] true (true,"4ade8549f1c7e37e8ecca3c8762da108096c196075f0eddc8bb75ba31dd20d64") true
  pieces_row pieces_text deskPieces_row_tie rfl ⟨rfl,rfl⟩ pieces_main rfl
  (λ f fn hf hfn=>by
    obtain rfl:f=6:=Option.some.inj (pieces_named.symm.trans hf) |>.symm;obtain rfl:fn=Tryz.f6:=(Option.some.inj (Tryz.func6.symm.trans hfn)).symm;exact ⟨pieces_looks,λ j t ht=>by
     rw [Tryz.params6] at ht;have hm:t∈[9,9]:=by simpa using Array.mem_of_getElem? ht
     have hall:([9,9].all λ u=>!Tryz.prog.wantsStandIn u)=true:=by kernel_rfl
     exact (show Tryz.prog.wantsStandIn t=false by simpa using List.all_eq_true.1 hall t hm)⟩)
  pieces_goes
#print axioms desk_pieces_holds
end Go.Proofs.YtebcjaenhiiflaaGreatDoor
