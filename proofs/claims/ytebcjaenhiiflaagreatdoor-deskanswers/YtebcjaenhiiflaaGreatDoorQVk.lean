import Derived.Test.YtebcjaenhiiflaaGreatDoorQJz
import Derived.Test.YtebcjaenhiiflaaGreatDoorRows
import Derived.ProofKit
import Derived.OpenShut
import Derived.ShutString
import Derived.ChangeOld
import Derived.ChangeSame
import Derived.ChangeVars
import Derived.JoinedOf
import Derived.LaidLaws
import Derived.LaidHandle
import Derived.Stop.Joined
import Derived.Stop.LaidErr
import Derived.SevenTiedAt
import Derived.Shelf.Vars
import Derived.Lay
import Derived.Lib.LaidTab
import Derived.Conc.Holds
import Derived.ChangeMaps5
namespace Go.Proofs.YtebcjaenhiiflaaGreatDoor
open Go.Proofs.Y
open Go.ChangeShapes Go.WideShapes Go.ChangeAt Go.RowKit Go.Proofs.Tryz
theorem own:ownKnob prog.godebug=none:=by kernel_rfl
theorem R8 {a:Assume}{C:Checked}{os:Os}{f:FuncId}{r:Reach}{Pre:World->Array Value->Prop}{Post:World->Array Value->Value->World->Prop}(h:ReturnsInHanded a C os f r Pre Post):ReturnsInLeavingWide a C os f r Pre Post:=λ enter=>by
 obtain⟨g0,g1,g2,g3,all⟩:=h enter;refine⟨g0,g1,g2,g3,λ w tape i hf=>?_⟩;obtain⟨n,v,w',hn,hc,hr,hp,⟨j,last,hj,hs,hq,hh,he⟩,ha⟩:=all w tape i hf;refine⟨n,v,w',hn,hc,hr,hp,⟨j,last,hj,hs,hh,⟨λ g hg=>⟨0,?_⟩,hq.2⟩,he⟩,ha⟩;have:=iW.1 hq.1 g hg;exact eq_of_beq this
theorem Zj {H:Type}{enc:TypeId × Value->H}{C:Checked}{os:Os}{f:FuncId}{fn:Func}{s:ChangeSpec}{apart fresh handsOn again:Bool}{X:World->Array Value->Prop}
 (hX:∀(w w':World) (args:Array Value),w.heap=w'.heap->X w args->X w' args) (started:os.Started) (o8:ownKnob C.prog.godebug=none) (noInit:C.prog.inits.idxOf? f=none) (hfn:C.prog.funcs[f]? =some fn)
 (witness:∃(w:World) (tape:Tape) (i:Input),w.os=os/\(w.forCall tape i).Shaped C.prog/\i.vars=[]/\Input.okWide C.prog (w.forCall tape i) .any w f i/\
   ((s.pre enc C.prog fn [] apart (w.forCall tape i).memory i.args/\X (w.forCall tape i).memory i.args)/\sizedMet enc C.prog fn (OpenSpec.ofChange s) apart (w.forCall tape i).memory i.args)/\({}:Assume).holds C.prog (lone (Frame.enter C.prog f i.args .normal) [] (w.forCall tape i)))
 (contract:∀(W:World) (base:Nat) (args:Array Value) (ds gs:List (DataW H)) (before:List MemPlace),(∀(j:Nat) t v,fn.params[j]? =some t->args[j]? =some v->Value.okWide C.prog W .any base t v)->
   DataW.Whole enc C.prog fn.params.toList s.vars apart W args.toList ds gs before->X W args->W.ShapedOpen C.prog->Calls C.prog f args W λ e W'=>∃v,e= .returned v/\s.post enc C.prog fn apart fresh handsOn again W args v W'):
 ReturnsInHanded {} C os f .any (λ w args=>(s.pre enc C.prog fn [] apart w args/\X w args)/\sizedMet enc C.prog fn (OpenSpec.ofChange s) apart w args) (s.post enc C.prog fn apart fresh handsOn again):=by
 refine returnsInHanded_of_calls o8 started noInit witness ?_;intro w tape i _ hsh _ p8 hpre _;obtain⟨_,_,_,fn',hfn',_,_,_,_,JO⟩:=p8;obtain rfl:fn'=fn:=dG (hfn'.symm.trans hfn);obtain⟨⟨⟨ds,gs,before,hw,_⟩,hx⟩,_⟩:=hpre;refine(contract (w.forCall tape i) w i.args ds gs before JO (DataW.Whole.of_heap (w':=w.forCall tape i) (by rfl) hw) (hX _ _ _ (by rfl) hx) hsh).mono ?_;rintro e W' ⟨v,rfl,hp⟩;exact ChangeSpec.post_blind hp
theorem et:prog.globalNamed "errors.errorType"=some 0:=by kernel_rfl
theorem rt:(prog.cutTypes.find? (·.1== "internal/reflectlite.rtype")).map (·.2)=some 248:=by kernel_rfl
theorem zjh:∃k,prog.types.size=k/\((List.range k).filter λ t=>prog.rowNamed t [101,114,114,111,114])=[28]:=⟨_,rfl,by kernel_rfl⟩
theorem zux {W:World} (h:handlesMet prog [("errors.errorType",Rows.laid_errors_errorType)] W):G.Gl W:=by
 obtain⟨name,u,ty,e1,e2,e3,e4,e5⟩:=h _ (aJ.2 rfl);have en:name=[101,114,114,111,114]:=(dG e1).symm;subst en;obtain rfl:=dG (rt.symm.trans e2);obtain⟨k,GH,CK⟩:=zjh;have hm:ty∈(List.range k).filter λ t=>prog.rowNamed t [101,114,114,111,114]:=aO.2 ⟨bF.2 (by rw[<-GH];exact e3),e4⟩
 rw[CK] at hm;obtain rfl:=aJ.1 hm;have hh:typeHandle prog 28= .pointer (9,28):=by kernel_rfl
 rw[hh] at e5;show W.cell? ⟨0,0,none⟩=_
 simpa using kH et e5 0
theorem gSy:prog.globalNamed "strconv.ErrSyntax"=some 2:=by kernel_rfl
theorem zvm:(prog.globals[2]?).map (·.type)=some 28:=by kernel_rfl
theorem gRa:prog.globalNamed "strconv.ErrRange"=some 3:=by kernel_rfl
theorem zu7:(prog.globals[3]?).map (·.type)=some 28:=by kernel_rfl
theorem gTb:prog.globalNamed "internal/strconv.uint64pow10"=some 4:=by kernel_rfl
theorem zvy:(prog.globals[4]?).map (·.type)=some 361:=by kernel_rfl
theorem star:("*errors.errorString":String)= "*"++ "errors.errorString":=by rfl
theorem zhk (u:TypeId) (h:prog.typeName? 3 u=some "*errors.errorString"):u=401:=
 typeName_ptr_named (nm:= "errors.errorString") (by rw[<-star];kernel_rfl) (by kernel_rfl) (by decide) u (by rw[<-star];exact h)
theorem zuy {W:World} {r:List (String × DataW Unit)} (h:laidMet prog (("strconv.ErrSyntax",Rows.laid_strconv_ErrSyntax)::r) W):∃t p,W.cell? ⟨2,0,none⟩=some (.iface t p):=by
 obtain⟨a,s,hv,_⟩:=laid_sentinel h gSy zvm underlying28 zhk underlying401 underlying403 rfl rfl underlying9 (by kernel_rfl) (by kernel_rfl);exact⟨_,_,by simpa using kH gSy hv 0⟩
theorem zuw {W:World} {r:List (String × DataW Unit)} (h:laidMet prog (("strconv.ErrRange",Rows.laid_strconv_ErrRange)::r) W):∃t p,W.cell? ⟨3,0,none⟩=some (.iface t p):=by
 obtain⟨a,s,hv,_⟩:=laid_sentinel h gRa zu7 underlying28 zhk underlying401 underlying403 rfl rfl underlying9 (by kernel_rfl) (by kernel_rfl);exact⟨_,_,by simpa using kH gRa hv 0⟩
theorem pow_eq {H:Type}:(Rows.laid_internal_strconv_uint64pow10:DataW H)=Lib.tabData .u64 Lib.pow10Tab:=by rfl
theorem zrv {W:World} {r:List (String × DataW Unit)} (h:laidMet prog (("internal/strconv.uint64pow10",Rows.laid_internal_strconv_uint64pow10)::r) W):Lib.TabIs prog W "internal/strconv.uint64pow10" .u64 Lib.pow10Tab:=by
 rw[pow_eq] at h;exact Lib.tabIs_of_head gTb zvy underlying361 (by kernel_rfl) (by kernel_rfl) (by kernel_rfl) h
theorem zue {W:World}(h:W.ShapedOpen prog):∃m,W.cell? ⟨1,0,none⟩=some (.int .i64 m):=
 cell_of_shapedOpen_int (t:=3) (zero:=#[.int .i64 0]) h (dH (by kernel_rfl)) (by kernel_rfl) rfl (by kernel_rfl) (by kernel_rfl) underlying3
theorem zsv {W:World}(h:W.ShapedOpen prog):9<W.heap.size:=by
 obtain⟨o,_,ho,_⟩:=h.2 9 (dH (by kernel_rfl)) (dH (by kernel_rfl));exact(dK.1 ho).1
theorem zgt (Lk:Looks){p:Pinned}{s:OpenSpec}{c:OpenClaim}(kinds:List LaidKind)(tests:Bool)(har:Bool × String)(lk:Bool)
 (hc:c.holds p s) (hw:c.wfByText s=true) (htie:c.laidByTextAt Lk p kinds tests)
 (CU:c.start= .entering) (hnb:c.noBlocks=false/\c.again=false) (hm:p.checked.prog.mainIs=some (har.1,har.2.toList)) (hn:(!har.1&&har.2.isEmpty&&!lk)=false)
 (hl:∀f fn,p.checked.prog.funcNamed c.func=some f->p.checked.prog.funcs[f]? =some fn->lk=p.checked.prog.looks []/\∀(j:Nat) t,fn.params[j]? =some t->p.checked.prog.wantsStandIn t=false)
 (hg:true=c.goesBy p.checked.prog):
 Claim7.holds p (.plain s) {stood:={row:=c,standIns:=[],harness:=har,looks:=lk},kinds:=[],alts:=[],goes:=true,laidByText:=true,laidKinds:=kinds,laidTests:=tests,laidLooks:=Lk}:=by
 have h6:Claim7.isSixth {stood:={row:=c,standIns:=[],harness:=har,looks:=lk},kinds:=[]}=false:=by simpa[Claim7.isSixth] using hn
 exact⟨Claim7.tied_new_at Lk kinds tests (Claim7.new_of_sixth hc har lk CU hnb hm h6 hl) hw,λ D hD=>(by cases hD),htie,(λ h=>by cases h),hg⟩
end Go.Proofs.YtebcjaenhiiflaaGreatDoor
