import Derived.Test.YtebcjaenhiiflaaGreatDoorQZaZc
import Derived.Laws.EntriesVeiled
set_option maxHeartbeats 2000000
set_option maxRecDepth 100000
namespace Go.Proofs.YtebcjaenhiiflaaGreatDoor.I
open Go.RowKit Go.WideMaps Go.Maps Go.Lib
theorem assert_err (c:Int) (w:World):(Instr.typeAssert (.iface 23 (.int .i64 c)) 20 28 true).run Tryz.prog w= .ok (.tuple #[.iface 23 (.int .i64 c),.bool true]) w:=by kernel_rfl
theorem assert_nil (w:World):(Instr.typeAssert .nilIface 20 28 true).run Tryz.prog w= .ok (.tuple #[.nilIface,.bool false]) w:=by kernel_rfl
theorem failed_any (c:Int) (h0:0<=c/\c<=9223372036854775807) (w:World) (hv:Vars w):
 Calls Tryz.prog 86 #[.int .i64 c] w λ e w'=>e= .returned (.string ⟨([101,114,114,111,114,32]++Lib.itoa c).toArray⟩)/\Below w.heap.size w w':=by
 have HI:=kd (itoa_any c h0.1 h0.2 w hv);have hx:(Lib.itoa c).length<=21:=by
  have:=line_len (ns:=[c]) (λ y hy=>by simp at hy;subst hy;exact h0)
  simpa [lineI,joinB] using this
 generalize Lib.itoa c=x at*;go_enter Tryz.func86,Tryz.ntmps86;go_wp2_with fail;refine Calls.mono HI.out ?_;rintro e w1 ⟨rfl,hb⟩;have HB:=kd hb;clear hb HI;go_wp2_with fail;go_ret;refine ⟨?_,HB.out⟩;show Ending.returned (.string (⟨[101,114,114,111,114,32].toArray⟩++⟨x.toArray⟩))=_;rw [bytes_plus];rfl
theorem catch_idle (p:Addr) (w:World):
 CallsD Tryz.prog 169 #[.pointer (some p)] .returning w λ e u' w'=>e= .returned (.tuple #[])/\u'= .returning/\w'=w:=by
 refine callsD_of_wpS Tryz.func169 rfl λ c₀ cs hu=>?_
 apply wpS_seq;apply wpS_region;simp [wpOpsS,go_sem,recoverD,hu,Tryz.ntmps169,Exit.thenS,assert_nil];apply wpS_seq;apply wpS_region;simp [wpOpsS,go_sem,Exit.thenS];refine wpS_cond (t:=false) (by simp [Act.eval,Array.replicate]) ?_;simp only [Bool.false_eq_true,if_false];refine wpS_of_wp (wp_skip ?_);cases c₀;simp_all [bodyPostS,results,Tryz.results169]
theorem catch_err (rc:Nat) (c:Int) (s x:ByteArray) (older:List PanicEntry) (w:World) (hc:w.cell? ⟨rc,0,none⟩=some (.string s)) (hz:w.frozen? ⟨rc,0,none⟩=false)
 (ht:Calls Tryz.prog 104 #[.iface 23 (.int .i64 c)] w λ e w'=>e= .returned (.int .i64 c)/\Below w.heap.size w w')
 (hf:∀w1,Below w.heap.size w w1->Calls Tryz.prog 86 #[.int .i64 c] w1 λ e w'=>e= .returned (.string x)/\Below w1.heap.size w1 w'):
 CallsD Tryz.prog 169 #[.pointer (some ⟨rc,0,none⟩)] (.panicking ({v:=.iface 23 (.int .i64 c),recovered:=false}::older)) w λ e u' w'=>
  e= .returned (.tuple #[])/\u'= .panicking ({v:=.iface 23 (.int .i64 c),recovered:=true}::older)/\∃w1,Below w.heap.size w w1/\w'=w1.setCell ⟨rc,0,none⟩ (.string x):=by
 have HT:=kd ht;have HF:=kd hf;have hlt:=G.lt_of_cell hc;clear ht hf;refine callsD_of_wpS Tryz.func169 rfl λ c₀ cs hu=>?_
 simp only [Tryz.ntmps169,List.size_toArray,List.length_cons,List.length_nil,Nat.reduceAdd,Nat.reduceSub,Array.replicate_succ,Array.replicate_zero,List.push_toArray,List.append_toArray,List.nil_append,List.cons_append];apply wpS_seq;apply wpS_region;simp [wpOpsS,go_sem,recoverD,hu,Exit.thenS,assert_err];apply wpS_seq;apply wpS_region;simp [wpOpsS,go_sem,Exit.thenS];refine wpS_cond (t:=true) (by simp [Act.eval]) ?_;simp only [if_true];refine wpS_of_wp ?_;go_wp2_with fail;refine Calls.mono HT.out ?_;rintro e w1 ⟨rfl,hb1⟩;have HB1:=kd hb1;have HF1:=kd (HF.out w1 hb1);clear HT HF;go_wp2_with fail;refine Calls.mono HF1.out ?_;rintro e w2 ⟨rfl,hb2⟩;have hb:=HB1.out.trans (hb2.mono HB1.out.size);have HB:=kd hb;have hc2:w2.cell? ⟨rc,0,none⟩=some (.string s):=(hb.cell (p:=⟨rc,0,none⟩) hlt).trans hc;have hz2:w2.frozen? ⟨rc,0,none⟩=false:=(hb.frozen (p:=⟨rc,0,none⟩) hlt).trans hz;clear hb hb1 hb2 hc hz HF1 HB1;go_wp2_with fail;cases c₀;simp_all [bodyPostS,results,Tryz.results169];exact ⟨w2,HB.out,rfl⟩
def Rc (w:World) (rc:Nat) (x:ByteArray):Prop:=w.heap[rc]? =some (.cells #[.string x] 9)
theorem Rc.facts {w:World} {rc:Nat} {x:ByteArray} (h:Rc w rc x):w.cell? ⟨rc,0,none⟩=some (.string x)/\w.frozen? ⟨rc,0,none⟩=false:=by
 unfold Rc at h;exact ⟨by simp [World.cell?,h],by simp [World.frozen?,h]⟩
theorem Rc.set {w:World} {rc:Nat} {x:ByteArray} (h:Rc w rc x) (y:ByteArray):Rc (w.setCell ⟨rc,0,none⟩ (.string y)) rc y:=by
 unfold Rc at h ⊢;simp only [World.setCell,Array.getElem?_modify,h];simp
def FF (s:ByteArray) (xs:List (List UInt8)) (m:Nat) (w:World):Prop:=
 Calls Tryz.prog 170 #[.string s,.func (.func 171) #[] #[]] (w.alloc (.cells #[.string ⟨#[]⟩] 9)) λ e w'=>∃A,e= .returned (.slice (some ⟨A,0,none⟩) m m)/\Below (w.alloc (.cells #[.string ⟨#[]⟩] 9)).heap.size (w.alloc (.cells #[.string ⟨#[]⟩] 9)) w'/\∀(j:Nat) y,xs[j]? =some y->w'.cell? ⟨A,j,none⟩=some (.string ⟨y.toArray⟩)
theorem leaves_put {R:Ending->World->Prop} {tmps:Array Value} {i:Nat} {v:Value} (hi:i≠4):∀(ds:List Deferred) (u:FrameMode) (w:World),Leaves Tryz.prog Tryz.f90 (tmps.setIfInBounds i v) R ds u w->Leaves Tryz.prog Tryz.f90 tmps R ds u w
 | [],.returning,w,h=>by
   obtain ⟨x,h1,h2⟩:=h;refine ⟨x,?_,h2⟩;rw [<-h1];have e:(tmps.setIfInBounds i v)[4]? =tmps[4]? :=Array.getElem?_setIfInBounds_ne hi;have e2:(tmps.setIfInBounds i v).getD 4 undef=tmps.getD 4 undef:=by simp only [Array.getD_eq_getD_getElem?,e]
   simp [results,Tryz.results90,go_sem,e]
 | [],.panicking _,_,h=>h
 | [],.run,_,h=>h
 | d::ds,u,w,h=>by
   obtain ⟨h1,fv,cap,f,args,h2,h3,h4⟩:=h;refine ⟨h1,fv,cap,f,args,h2,h3,h4.mono ?_⟩;rintro e u' w' k;cases e with
   | returned x=>exact leaves_put hi ds _ _ k
   | panicked ch=>exact leaves_put hi ds _ _ k
   | outgrown=>exact k
theorem door_err {E:Ending->World->Prop} {a:Act} {W:World} {rc:Nat} {c:Int} {x y:ByteArray} (ha:a.defers=[{target:=.fn (.func 169) #[.pointer (some ⟨rc,0,none⟩)],args:=#[]}]) (h4:a.tmps[4]? =some (.pointer (some ⟨rc,0,none⟩))) (hr:Rc W rc y)
 (hc:CallsD Tryz.prog 169 #[.pointer (some ⟨rc,0,none⟩)] (.panicking [{v:=.iface 23 (.int .i64 c),recovered:=false}]) W λ e u' w'=>e= .returned (.tuple #[])/\u'= .panicking [{v:=.iface 23 (.int .i64 c),recovered:=true}]/\∃w1,Below W.heap.size W w1/\w'=w1.setCell ⟨rc,0,none⟩ (.string x))
 (hE:∀w1,Below W.heap.size W w1->E (.returned (.string x)) (w1.setCell ⟨rc,0,none⟩ (.string x))):
 bodyPostD Tryz.prog Tryz.f90 E (.panic [{v:=.iface 23 (.int .i64 c),recovered:=false}]) a W:=by
 show Leaves Tryz.prog Tryz.f90 a.tmps E a.defers _ W;rw [ha];refine leaves_cons (f:=169) (args:=#[.pointer (some ⟨rc,0,none⟩)]) (by simp) (by simp [go_sem]) ?_;refine CallsD.mono hc ?_;rintro e u' w'' ⟨rfl,rfl,w1,hb,rfl⟩;have hr1:Rc w1 rc y:=(hb.block rc (G.lt_of_some hr)).trans hr;have c5:=(hr1.set x).facts.1;simp [Leaves,settle,results,Tryz.results90,go_sem,h4,c5];exact hE w1 hb
theorem door_ok {E:Ending->World->Prop} {a:Act} {W:World} {rc:Nat} {x:ByteArray} (ha:a.defers=[{target:=.fn (.func 169) #[.pointer (some ⟨rc,0,none⟩)],args:=#[]}]) (h4:a.tmps[4]? =some (.pointer (some ⟨rc,0,none⟩))) (hr:Rc W rc x)
 (hE:E (.returned (.string x)) W):bodyPostD Tryz.prog Tryz.f90 E .ret a W:=by
 show Leaves Tryz.prog Tryz.f90 a.tmps E a.defers _ W;rw [ha];refine leaves_cons (f:=169) (args:=#[.pointer (some ⟨rc,0,none⟩)]) (by simp) (by simp [go_sem]) ?_;refine CallsD.mono (catch_idle ⟨rc,0,none⟩ _) ?_;rintro e u' w'' ⟨rfl,rfl,rfl⟩;have c5:=hr.facts.1;simp [Leaves,settle,results,Tryz.results90,go_sem,h4,c5];exact hE
def Told (rc:Nat) (c:Int) (x:ByteArray) (W:World):Prop:=
 CallsD Tryz.prog 169 #[.pointer (some ⟨rc,0,none⟩)] (.panicking [{v:=.iface 23 (.int .i64 c),recovered:=false}]) W λ e u' w'=>e= .returned (.tuple #[])/\u'= .panicking [{v:=.iface 23 (.int .i64 c),recovered:=true}]/\∃w1,Below W.heap.size W w1/\w'=w1.setCell ⟨rc,0,none⟩ (.string x)
theorem told_any (rc:Nat) (c:Int) (s:ByteArray) (W:World) (hr:Rc W rc s) (h0:0<=c/\c<=9223372036854775807) (hv:Vars W) (hg:G.Gl W):Told rc c ⟨([101,114,114,111,114,32]++Lib.itoa c).toArray⟩ W:=
 catch_err rc c s _ [] W hr.facts.1 hr.facts.2 (G.tell_errno c W hg) (λ w1 hb=>failed_any c h0 w1 (hv.below hb))
def Err3 (w:World) (E:Ending->World->Prop):Prop:=
 ∀W,Below w.heap.size w W->∀y,Rc W w.heap.size y->Told w.heap.size 3 ⟨#[101,114,114,111,114,32,51]⟩ W/\∀w1,Below W.heap.size W w1->E (.returned (.string ⟨#[101,114,114,111,114,32,51]⟩)) (w1.setCell ⟨w.heap.size,0,none⟩ (.string ⟨#[101,114,114,111,114,32,51]⟩))
def DoAt (f d:Nat) (rc:Nat) (W w4:World) (u:Value) (E:Ending->World->Prop):Prop:=
 Calls Tryz.prog f #[.pointer (some ⟨d,0,none⟩),u] w4 λ e w5=>(∀(j:Nat) (o:Obj),W.heap[j]? =some o->(∃cs t,o=Obj.cells cs t/\(t=9\/t=217))->w5.heap[j]? =some o)/\
  ((∃out,e= .returned (.string out)/\∀y,Rc w5 rc y->E (.returned (.string out)) (w5.setCell ⟨rc,0,none⟩ (.string out)))\/
   (∃c x,e= .panicked [{v:=.iface 23 (.int .i64 c),recovered:=false}]/\∀y,Rc w5 rc y->Told rc c x w5/\∀w1,Below w5.heap.size w5 w1->E (.returned (.string x)) (w1.setCell ⟨rc,0,none⟩ (.string x))))
theorem answer_none (dm:Nat) (s:ByteArray) (w:World) (E:Ending->World->Prop) (hF:FF s [] 0 w) (hE:∀W,Below w.heap.size w W->∀y,Rc W w.heap.size y->E (.returned (.string ⟨#[111,107]⟩)) (W.setCell ⟨w.heap.size,0,none⟩ (.string ⟨#[111,107]⟩))):
 Calls Tryz.prog 90 #[.map (some dm),.string s] w E:=by
 have HF:=kd hF;have HE:=kd hE;have HB0:=kd ((Below.refl _ w).alloc (Nat.le_refl _) (.cells #[.string ⟨#[]⟩] 9));have HR0:=kd (show Rc (w.alloc (.cells #[.string ⟨#[]⟩] 9)) w.heap.size ⟨#[]⟩ from World.alloc_heap_new w _);clear hF hE;have hmf:∀(fn:Fn) (first cap:Array Value) (w:World),(Instr.makeFunc fn first cap).run Tryz.prog w= .ok (.func fn first cap) w:=λ _ _ _ _=>rfl
 go_enter_defers Tryz.func90,Tryz.ntmps90
 go_wp2_with fail;refine Calls.mono HF.out ?_;rintro e w2 ⟨A,rfl,hb,hc⟩;have hr2:Rc w2 w.heap.size ⟨#[]⟩:=(hb.block w.heap.size (by simp)).trans HR0.out;have hb2:=HB0.out.trans (hb.mono HB0.out.size);have HR2:=kd hr2;have HB2:=kd hb2;obtain ⟨c2,z2⟩:=hr2.facts;clear hb hr2 HF hb2 hc;go_wp2_with fail;exact door_ok rfl rfl (HR2.out.set _) (HE.out w2 HB2.out _ HR2.out)
theorem answer_unknown (dm m:Nat) (s:ByteArray) (x:List UInt8) (r:List (List UInt8)) (w:World) (E:Ending->World->Prop) (hF:FF s (x::r) m w) (hm:m=r.length+1) (hm2:m<=1000000)
 (hL:∀W,Below w.heap.size w W->(Instr.lookup 110 (.map (some dm)) (.string ⟨x.toArray⟩) true).run Tryz.prog W= .ok (.tuple #[.agg #[.int .i64 0,.nilFunc],.bool false]) W) (hE:Err3 w E):
 Calls Tryz.prog 90 #[.map (some dm),.string s] w E:=by
 have HF:=kd hF;have HL:=kd hL;have HE:=kd hE;have HB0:=kd ((Below.refl _ w).alloc (Nat.le_refl _) (.cells #[.string ⟨#[]⟩] 9));have HR0:=kd (show Rc (w.alloc (.cells #[.string ⟨#[]⟩] 9)) w.heap.size ⟨#[]⟩ from World.alloc_heap_new w _);have h0:0<m:=by omega
 have hz:((m:Int)==0)=false:=by simp;omega
 clear hF hL hm hE;have hmf:∀(fn:Fn) (first cap:Array Value) (w:World),(Instr.makeFunc fn first cap).run Tryz.prog w= .ok (.func fn first cap) w:=λ _ _ _ _=>rfl
 go_enter_defers Tryz.func90,Tryz.ntmps90
 go_wp2_with fail;refine Calls.mono HF.out ?_;rintro e w2 ⟨A,rfl,hb,hc⟩;have hr2:Rc w2 w.heap.size ⟨#[]⟩:=(hb.block w.heap.size (by simp)).trans HR0.out;have hb2:=HB0.out.trans (hb.mono HB0.out.size);have HR2:=kd hr2;have HB2:=kd hb2;have hl:=HL.out w2 hb2;have hx:=hc 0 x rfl;clear hb hr2 HF hb2 hc;go_wp2_with fail;have hb3:Below w2.heap.size w2 (w2.alloc (.cells #[.int .i64 0,.nilFunc] 217)):=(Below.refl _ _).alloc (Nat.le_refl _) _;have hr3:Rc (w2.alloc (.cells #[.int .i64 0,.nilFunc] 217)) w.heap.size ⟨#[]⟩:=(hb3.block _ (G.lt_of_some HR2.out)).trans HR2.out;obtain ⟨hT,hE2⟩:=HE.out _ (HB2.out.trans (hb3.mono HB2.out.size)) _ hr3;exact door_err rfl rfl hr3 hT hE2
theorem answer_count (dm m:Nat) (s:ByteArray) (x:List UInt8) (r:List (List UInt8)) (k:Int) (d f:Nat) (w:World) (E:Ending->World->Prop) (hF:FF s (x::r) m w) (hm:m=r.length+1) (hm2:m<=1000000)
 (hL:∀W,Below w.heap.size w W->(Instr.lookup 110 (.map (some dm)) (.string ⟨x.toArray⟩) true).run Tryz.prog W= .ok (.tuple #[.agg #[.int .i64 k,.func (.func f) #[.pointer (some ⟨d,0,none⟩)] #[]],.bool true]) W) (hk:(((m:Int)-1) != k)=true) (hE:Err3 w E):
 Calls Tryz.prog 90 #[.map (some dm),.string s] w E:=by
 have HF:=kd hF;have HL:=kd hL;have HE:=kd hE;have HB0:=kd ((Below.refl _ w).alloc (Nat.le_refl _) (.cells #[.string ⟨#[]⟩] 9));have HR0:=kd (show Rc (w.alloc (.cells #[.string ⟨#[]⟩] 9)) w.heap.size ⟨#[]⟩ from World.alloc_heap_new w _);have h0:0<m:=by omega
 have hz:((m:Int)==0)=false:=by simp;omega
 clear hF hL hm hE;have hmf:∀(fn:Fn) (first cap:Array Value) (w:World),(Instr.makeFunc fn first cap).run Tryz.prog w= .ok (.func fn first cap) w:=λ _ _ _ _=>rfl
 go_enter_defers Tryz.func90,Tryz.ntmps90
 go_wp2_with fail;refine Calls.mono HF.out ?_;rintro e w2 ⟨A,rfl,hb,hc⟩;have hr2:Rc w2 w.heap.size ⟨#[]⟩:=(hb.block w.heap.size (by simp)).trans HR0.out;have hb2:=HB0.out.trans (hb.mono HB0.out.size);have HR2:=kd hr2;have HB2:=kd hb2;have hl:=HL.out w2 hb2;have hx:=hc 0 x rfl;clear hb hr2 HF hb2 hc;go_wp2_with fail;have hb3:Below w2.heap.size w2 (w2.alloc (.cells #[.int .i64 k,.func (.func f) #[.pointer (some ⟨d,0,none⟩)] #[]] 217)):=(Below.refl _ _).alloc (Nat.le_refl _) _;have hr3:Rc (w2.alloc (.cells #[.int .i64 k,.func (.func f) #[.pointer (some ⟨d,0,none⟩)] #[]] 217)) w.heap.size ⟨#[]⟩:=(hb3.block _ (G.lt_of_some HR2.out)).trans HR2.out;obtain ⟨hT,hE2⟩:=HE.out _ (HB2.out.trans (hb3.mono HB2.out.size)) _ hr3;exact door_err rfl rfl hr3 hT hE2
theorem answer_do (dm m:Nat) (s:ByteArray) (x:List UInt8) (r:List (List UInt8)) (k:Int) (d f:Nat) (w:World) (E:Ending->World->Prop) (hF:FF s (x::r) m w) (hm:m=r.length+1) (hm2:m<=1000000)
 (hL:∀W,Below w.heap.size w W->(Instr.lookup 110 (.map (some dm)) (.string ⟨x.toArray⟩) true).run Tryz.prog W= .ok (.tuple #[.agg #[.int .i64 k,.func (.func f) #[.pointer (some ⟨d,0,none⟩)] #[]],.bool true]) W) (hk:(((m:Int)-1) != k)=false)
 (hcf:∀args w,(callFunc f args).run Tryz.prog w= .ok (.enter f args) w)
 (hN:∀A W,Below w.heap.size w W->(∀(j:Nat) y,(x::r)[j]? =some y->W.cell? ⟨A,j,none⟩=some (.string ⟨y.toArray⟩))->Calls Tryz.prog 172 #[.slice (if m=1 then some ⟨A,0,none⟩ else some ⟨A,1,none⟩) (m-1) (m-1)] W λ e w4=>Below W.heap.size W w4/\
   ((e= .panicked [{v:=.iface 23 (.int .i64 3),recovered:=false}]/\Err3 w E)\/
    ∃u,e= .returned u/\DoAt f d w.heap.size W w4 u E)):
 Calls Tryz.prog 90 #[.map (some dm),.string s] w E:=by
 have HF:=kd hF;have HL:=kd hL;have HN:=kd hN;have HB0:=kd ((Below.refl _ w).alloc (Nat.le_refl _) (.cells #[.string ⟨#[]⟩] 9));have HR0:=kd (show Rc (w.alloc (.cells #[.string ⟨#[]⟩] 9)) w.heap.size ⟨#[]⟩ from World.alloc_heap_new w _);have h0:0<m:=by omega
 have hz:((m:Int)==0)=false:=by simp;omega
 clear hF hL hm hN;have hmf:∀(fn:Fn) (first cap:Array Value) (w:World),(Instr.makeFunc fn first cap).run Tryz.prog w= .ok (.func fn first cap) w:=λ _ _ _ _=>rfl
 go_enter_defers Tryz.func90,Tryz.ntmps90
 go_wp2_with fail;refine Calls.mono HF.out ?_;rintro e w2 ⟨A,rfl,hb,hc⟩;have hr2:Rc w2 w.heap.size ⟨#[]⟩:=(hb.block w.heap.size (by simp)).trans HR0.out;have hb2:=HB0.out.trans (hb.mono HB0.out.size);have HR2:=kd hr2;have HB2:=kd hb2;have HC:=kd hc;have hl:=HL.out w2 hb2;have hx:=hc 0 x rfl;have hlt:=G.lt_of_some hr2;have hne:¬w.heap.size=w2.heap.size:=by omega
 clear hb hr2 HF hb2 hc;go_wp2_with fail;have h1:(1:Int)<=(m:Int):=by omega
 have hS0:(w2.alloc (.cells #[.int .i64 k,.func (.func f) #[.pointer (some ⟨d,0,none⟩)] #[]] 217)).drew.cell? ⟨w2.heap.size,1,none⟩=some (.func (.func f) #[.pointer (some ⟨d,0,none⟩)] #[]):=by simp
 have hob:(w2.alloc (.cells #[.int .i64 k,.func (.func f) #[.pointer (some ⟨d,0,none⟩)] #[]] 217)).drew.heap[w2.heap.size]? =some (.cells #[.int .i64 k,.func (.func f) #[.pointer (some ⟨d,0,none⟩)] #[]] 217):=World.alloc_heap_new w2 _;have HB3:=kd (show Below w2.heap.size w2 (w2.alloc (.cells #[.int .i64 k,.func (.func f) #[.pointer (some ⟨d,0,none⟩)] #[]] 217)).drew from ((Below.refl _ _).alloc (Nat.le_refl _) _).drew);obtain ⟨W3,hW3⟩:∃W3,(w2.alloc (.cells #[.int .i64 k,.func (.func f) #[.pointer (some ⟨d,0,none⟩)] #[]] 217)).drew=W3:=⟨_,rfl⟩;rw [hW3] at hS0 hob HB3;have HOB:=kd hob;have HR3:=kd (show Rc W3 w.heap.size ⟨#[]⟩ from (HB3.out.block _ hlt).trans HR2.out);have HCN:=kd (HN.out A W3 (HB2.out.trans (HB3.out.mono HB2.out.size)) (λ j y hy=>by
  have:=HC.out j y hy;exact (HB3.out.cell (p:=⟨A,j,none⟩) (G.lt_of_cell this)).trans this))
 have HW3:=kd hW3;clear hob hW3;refine wp_region_held_drew (S:=λ w'=>w'.cell? ⟨w2.heap.size,1,none⟩=some (.func (.func f) #[.pointer (some ⟨d,0,none⟩)] #[])) (by kernel_rfl) ?_ (λ hHeld=>?_)
 ·rw [HW3.out];exact hS0
 refine wpAnyH_take (i:=0) (v:=?_) rfl (by kernel_rfl) (by kernel_rfl) (by kernel_rfl) (λ _ _ _ h=>leaves_put (by decide) _ _ _ h) (Or.inl ⟨by rfl,?_⟩) (by assumption) ?_;rotate_left
 ·intro w hSw
  try dsimp only at hSw
  first | (go_simp;done) | (go_simp;with_reducible rfl)
 try simp only [Act.put]
 refine wpAnyH_take (i:=1) (v:=?_) rfl (by kernel_rfl) (by kernel_rfl) (by kernel_rfl) (λ _ _ _ h=>leaves_put (by decide) _ _ _ h) (Or.inl ⟨by rfl,?_⟩) (by assumption) ?_;rotate_left
 ·intro w hSw
  try dsimp only at hSw
  first | (go_simp;done) | (go_simp;with_reducible rfl)
 try simp only [Act.put]
 refine wpAnyH_take (i:=2) (v:=?_) rfl (by kernel_rfl) (by kernel_rfl) (by kernel_rfl) (λ _ _ _ h=>leaves_put (by decide) _ _ _ h) (Or.inl ⟨by rfl,?_⟩) (by assumption) ?_;rotate_left
 ·intro w hSw
  try dsimp only at hSw
  first | (go_simp;done) | (go_simp;with_reducible rfl)
 try simp only [Act.put]
 refine wpAnyH_take (i:=3) (v:=?_) rfl (by kernel_rfl) (by kernel_rfl) (by kernel_rfl) (λ _ _ _ h=>leaves_put (by decide) _ _ _ h) (Or.inl ⟨by rfl,?_⟩) (by assumption) ?_;rotate_left
 ·intro w hSw
  try dsimp only at hSw
  first | (go_simp;done) | (go_simp;with_reducible rfl)
 try simp only [Act.put]
 refine wpAnyH_ready (rs:=[4]) (by kernel_rfl) (by simp) ?_;refine AllReadyH.cons rfl (λ K hK=>?_) AllReadyH.nil;go_simp;rw [HW3.out];refine Calls.mono HCN.out ?_;rintro e w4 ⟨hb4,(⟨rfl,hE3⟩ | ⟨u,rfl,hdo⟩)⟩
 ·have hr4:Rc w4 w.heap.size ⟨#[]⟩:=(hb4.block _ (G.lt_of_some HR3.out)).trans HR3.out
  have hb34:=HB3.out.trans (hb4.mono HB3.out.size);obtain ⟨hT,hE2⟩:=hE3 w4 (HB2.out.trans (hb34.mono HB2.out.size)) _ hr4;exact door_err rfl rfl hr4 hT hE2
 ·have HDO:=kd hdo
  have HB4:=kd hb4;have hS4:w4.cell? ⟨w2.heap.size,1,none⟩=some (.func (.func f) #[.pointer (some ⟨d,0,none⟩)] #[]):=(hb4.cell (p:=⟨w2.heap.size,1,none⟩) (G.lt_of_some HOB.out)).trans hS0;clear hdo hb4 HCN HN;refine hK.out _ _ ?_ (λ hHeld=>?_)
  ·exact hS4
  clear hK K;refine wpAnyH_ready (rs:=[5]) (by kernel_rfl) (by simp) ?_;refine AllReadyH.cons rfl (λ K hK=>?_) AllReadyH.nil;go_simp;refine Calls.mono HDO.out ?_;rintro e w5 ⟨hkeep,(⟨out,rfl,hE⟩ | ⟨c,y,rfl,hE⟩)⟩
  ·have hr5:Rc w5 w.heap.size ⟨#[]⟩:=hkeep _ _ HR3.out ⟨_,_,rfl,.inl rfl⟩
   have HE:=kd (hE _ hr5);have HR5:=kd hr5;obtain ⟨c5,z5⟩:=hr5.facts;have hS5:w5.cell? ⟨w2.heap.size,1,none⟩=some (.func (.func f) #[.pointer (some ⟨d,0,none⟩)] #[]):=by simp [World.cell?,hkeep _ _ HOB.out ⟨_,_,rfl,.inr rfl⟩]
   clear hkeep hE hr5 HDO;refine hK.out _ _ ?_ (λ hHeld=>?_)
   ·exact hS5
   clear hK K;refine wpAnyH_ready (rs:=[6]) (by kernel_rfl) (by simp) ?_;refine AllReadyH.cons rfl (λ K hK=>?_) AllReadyH.nil;go_simp;refine hK.out _ _ ?_ (λ hHeld=>?_)
   ·rw [World.cell?_setCell_other _ _ _ _ (by simp)];exact hS5
   clear hK K;refine wpAnyH_done (by kernel_rfl) ?_ _;go_wp2_with fail;all_goals exact door_ok rfl rfl (HR5.out.set out) HE.out
  ·have hr5:Rc w5 w.heap.size ⟨#[]⟩:=hkeep _ _ HR3.out ⟨_,_,rfl,.inl rfl⟩
   obtain ⟨hT,hE2⟩:=hE _ hr5;exact door_err rfl rfl hr5 hT hE2
end Go.Proofs.YtebcjaenhiiflaaGreatDoor.I
