import Derived.Test.YtebcjaenhiiflaaGreatDoorQZaZc
import Derived.Laws.EntriesVeiled
set_option maxHeartbeats 2000000
set_option maxRecDepth 100000
namespace Go.Proofs.Y.I
open Go.RowKit Go.WideMaps Go.Maps Go.Lib Go.Proofs.Tryz
theorem zeo (c:Int)(w:World):(Instr.typeAssert (.iface 23 c) 20 28 true).run prog w= .ok (.tuple #[.iface 23 c,true]) w:=by kernel_rfl
theorem ze4 (w:World):(Instr.typeAssert .nilIface 20 28 true).run prog w= .ok (.tuple #[.nilIface,false]) w:=by kernel_rfl
theorem Vo (c:Int)(h0:0<=c/\c<=9223372036854775807)(w:World)(hv:Vars w):
 Calls prog 86 #[c] w λ e w'=>e=Value.string ⟨([101,114,114,111,114,32]++Lib.itoa c).toArray⟩/\Below w w w':=by
 have HI:=kd (Tf c h0.1 h0.2 w hv);have hx:(Lib.itoa c).length<=21:=by
  have:=Ce (ns:=[c]) (λ y hy=>by simp at hy;subst hy;exact h0)
  simpa[Ah,Bu] using this
 generalize Lib.itoa c=x at*;go_enter func86,ntmps86;go_wp2_with fail;refine aA HI.o ?_;rintro e w1 ⟨rfl,hb⟩;have HB:=kd hb;clear hb HI;go_wp2_with fail;go_ret;refine⟨?_,HB.o⟩;show Ending.returned (.string (⟨[101,114,114,111,114,32].toArray⟩++⟨x.toArray⟩))=_;rw[Bv];rfl
theorem zfc (p:Addr)(w:World):
 CallsD prog 169 #[.pointer (some p)] .returning w λ e u' w'=>e=Value.tuple #[]/\u'= .returning/\w'=w:=by
 refine callsD_of_wpS func169 rfl λ c₀ cs hu=>?_
 apply wpS_seq;apply wpS_region;simp[wpOpsS,go_sem,recoverD,hu,ntmps169,Exit.thenS,ze4];apply wpS_seq;apply wpS_region;simp[wpOpsS,go_sem,Exit.thenS];refine wpS_cond (t:=false) (by simp[Act.eval,Array.replicate]) ?_;simp only[gY,lZ];refine wpS_of_wp (wp_skip ?_);cases c₀;simp_all[bodyPostS,results,Tryz.results169]
theorem zg5 (rc:Nat)(c:Int)(s x:ByteArray)(older:List PanicEntry)(w:World)(hc:w.cell? rc=some (.string s))(hz:w.frozen? rc=false)
 (ht:Calls prog 104 #[.iface 23 c] w λ e w'=>e=c/\Below w w w')
 (hf:∀w1,Below w w w1->Calls prog 86 #[c] w1 λ e w'=>e=Value.string x/\Below w1 w1 w'):
 CallsD prog 169 #[.pointer rc] (.panicking ({v:=.iface 23 c,recovered:=false}::older)) w λ e u' w'=>
  e=Value.tuple #[]/\u'= .panicking ({v:=.iface 23 c,recovered:=true}::older)/\∃w1,Below w w w1/\w'=w1.setCell rc (.string x):=by
 have HT:=kd ht;have HF:=kd hf;have j6:=G.lt_of_cell hc;clear ht hf;refine callsD_of_wpS func169 rfl λ c₀ cs hu=>?_
 simp only[ntmps169,bZ,bD,dU,Nat.reduceAdd,Nat.reduceSub,fE,fF,fZ,fI,dX,dZ];apply wpS_seq;apply wpS_region;simp[wpOpsS,go_sem,recoverD,hu,Exit.thenS,zeo];apply wpS_seq;apply wpS_region;simp[wpOpsS,go_sem,Exit.thenS];refine wpS_cond (t:=true) (by simp[Act.eval]) ?_;simp only[kM];refine wpS_of_wp ?_;go_wp2_with fail;refine aA HT.o ?_;rintro e w1 ⟨rfl,j4⟩;have x8:=kd j4;have TL:=kd (HF.o w1 j4);clear HT HF;go_wp2_with fail;refine aA TL.o ?_;rintro e w2 ⟨rfl,j5⟩;have hb:=x8.o.tr j5;have HB:=kd hb;have IZ:w2.cell? rc=some (.string s):=(hb.cell (p:=rc) j6).trans hc;have BM:w2.frozen? rc=false:=(hb.frozen (p:=rc) j6).trans hz;clear hb j4 j5 hc hz TL x8;go_wp2_with fail;cases c₀;simp_all[bodyPostS,results,Tryz.results169];exact⟨w2,HB.o,rfl⟩
def Rc (w:World)(rc:Nat)(x:ByteArray):Prop:=w.heap[rc]? =some (.cells #[.string x] 9)
theorem Rc.facts {w:World}{rc:Nat}{x:ByteArray}(h:Rc w rc x):w.cell? rc=some (.string x)/\w.frozen? rc=false:=by
 unfold Rc at h;exact⟨by simp[World.cell?,h],by simp[World.frozen?,h]⟩
theorem Rc.set {w:World}{rc:Nat}{x:ByteArray}(h:Rc w rc x)(y:ByteArray):Rc (w.setCell rc (.string y)) rc y:=by
 unfold Rc at h ⊢;simp only[World.setCell,dC,h];simp
def FF (s:ByteArray)(xs:List (List UInt8))(m:Nat)(w:World):Prop:=
 Calls prog 170 #[.string s,.func (.func 171) #[] #[]] (w.alloc (.cells #[.string ⟨#[]⟩] 9)) λ e w'=>∃A,e=Value.slice (some ⟨A,0,none⟩) m m/\Below (w.alloc (.cells #[.string ⟨#[]⟩] 9)).heap.size (w.alloc (.cells #[.string ⟨#[]⟩] 9)) w'/\∀(j:Nat) y,xs[j]? =some y->w'.cell? ⟨A,j,none⟩=some (.string ⟨y.toArray⟩)
theorem Ht {R:Ending->World->Prop}{tmps:Array Value}{i:Nat}{v:Value}(hi:i≠4):∀(ds:List Deferred) (u:FrameMode) (w:World),Leaves prog Tryz.f90 (tmps.setIfInBounds i v) R ds u w->Leaves prog Tryz.f90 tmps R ds u w
 |[],.returning,w,h=>by
  obtain⟨x,h1,h2⟩:=h;refine⟨x,?_,h2⟩;rw[<-h1];have e:(tmps.setIfInBounds i v)[4]? =tmps[4]? :=Array.getElem?_setIfInBounds_ne hi;have e2:(tmps.setIfInBounds i v).getD 4 undef=tmps.getD 4 undef:=by simp only[Array.getD_eq_getD_getElem?,e]
  simp[results,Tryz.results90,go_sem,e]
 |[],.panicking _,_,h=>h
 |[],.run,_,h=>h
 |d::ds,u,w,h=>by
  obtain⟨h1,fv,cap,f,args,h2,h3,h4⟩:=h;refine⟨h1,fv,cap,f,args,h2,h3,h4.mono ?_⟩;rintro e u' w' k;cases e with
  |returned x=>exact Ht hi ds _ _ k
  |panicked ch=>exact Ht hi ds _ _ k
  |outgrown=>exact k
theorem Oj {E:Ending->World->Prop}{a:Act}{W:World}{rc:Nat}{c:Int}{x y:ByteArray}(ha:a.defers=[{target:=.fn (.func 169) #[.pointer rc],args:=#[]}])(h4:a.tmps[4]? =some (.pointer rc))(hr:Rc W rc y)
 (hc:CallsD prog 169 #[.pointer rc] (.panicking [{v:=.iface 23 c,recovered:=false}]) W λ e u' w'=>e=Value.tuple #[]/\u'= .panicking [{v:=.iface 23 c,recovered:=true}]/\∃w1,Below W W w1/\w'=w1.setCell rc (.string x))
 (hE:∀w1,Below W W w1->E (.returned (.string x)) (w1.setCell rc (.string x))):
 bodyPostD prog Tryz.f90 E (.panic [{v:=.iface 23 c,recovered:=false}]) a W:=by
 show Leaves prog Tryz.f90 a.tmps E a.defers _ W;rw[ha];refine leaves_cons (f:=169) (args:=#[.pointer rc]) (by simp) (by simp[go_sem]) ?_;refine CallsD.mono hc ?_;rintro e u' w'' ⟨rfl,rfl,w1,hb,rfl⟩;have IL:Rc w1 rc y:=(hb.block rc (G.lt_of_some hr)).trans hr;have c5:=(IL.set x).facts.1;simp[Leaves,settle,results,Tryz.results90,go_sem,h4,c5];exact hE w1 hb
theorem zbs {E:Ending->World->Prop}{a:Act}{W:World}{rc:Nat}{x:ByteArray}(ha:a.defers=[{target:=.fn (.func 169) #[.pointer rc],args:=#[]}])(h4:a.tmps[4]? =some (.pointer rc))(hr:Rc W rc x)
 (hE:E (.returned (.string x)) W):bodyPostD prog Tryz.f90 E .ret a W:=by
 show Leaves prog Tryz.f90 a.tmps E a.defers _ W;rw[ha];refine leaves_cons (f:=169) (args:=#[.pointer rc]) (by simp) (by simp[go_sem]) ?_;refine CallsD.mono (zfc rc _) ?_;rintro e u' w'' ⟨rfl,rfl,rfl⟩;have c5:=hr.facts.1;simp[Leaves,settle,results,Tryz.results90,go_sem,h4,c5];exact hE
def Told (rc:Nat)(c:Int)(x:ByteArray)(W:World):Prop:=
 CallsD prog 169 #[.pointer rc] (.panicking [{v:=.iface 23 c,recovered:=false}]) W λ e u' w'=>e=Value.tuple #[]/\u'= .panicking [{v:=.iface 23 c,recovered:=true}]/\∃w1,Below W W w1/\w'=w1.setCell rc (.string x)
theorem ig (rc:Nat)(c:Int)(s:ByteArray)(W:World)(hr:Rc W rc s)(h0:0<=c/\c<=9223372036854775807)(hv:Vars W)(hg:G.Gl W):Told rc c ⟨([101,114,114,111,114,32]++Lib.itoa c).toArray⟩ W:=
 zg5 rc c s _ [] W hr.facts.1 hr.facts.2 (G.zeq c W hg) (λ w1 hb=>Vo c h0 w1 (hv.below hb))
def zfd (w:World)(E:Ending->World->Prop):Prop:=
 ∀W,Below w w W->∀y,Rc W w y->Told w 3 ⟨#[101,114,114,111,114,32,51]⟩ W/\∀w1,Below W W w1->E (.returned (.string ⟨#[101,114,114,111,114,32,51]⟩)) (w1.setCell w (.string ⟨#[101,114,114,111,114,32,51]⟩))
def zvh (f d:Nat)(rc:Nat)(W w4:World)(u:Value)(E:Ending->World->Prop):Prop:=
 Calls prog f #[.pointer d,u] w4 λ e w5=>(∀(j:Nat) (o:Obj),W.heap[j]? =some o->(∃cs t,o=Obj.cells cs t/\(t=9\/t=217))->w5.heap[j]? =some o)/\
  ((∃out,e=Value.string out/\∀y,Rc w5 rc y->E (.returned (.string out)) (w5.setCell rc (.string out)))\/
   (∃c x,e= .panicked [{v:=.iface 23 (.int .i64 c),recovered:=false}]/\∀y,Rc w5 rc y->Told rc c x w5/\∀w1,Below w5 w5 w1->E (.returned (.string x)) (w1.setCell rc (.string x))))
theorem za1 (dm:Nat)(s:ByteArray)(w:World)(E:Ending->World->Prop)(hF:FF s [] 0 w)(hE:∀W,Below w w W->∀y,Rc W w y->E (.returned (.string ⟨#[111,107]⟩)) (W.setCell w (.string ⟨#[111,107]⟩))):
 Calls prog 90 #[.map dm,.string s] w E:=by
 have HF:=kd hF;have HE:=kd hE;have GG:=kd ((aI _ w).alloc (aF _) (.cells #[.string ⟨#[]⟩] 9));have FU:=kd (show Rc (w.alloc (.cells #[.string ⟨#[]⟩] 9)) w.heap.size ⟨#[]⟩ from World.alloc_heap_new w _);clear hF hE;have hmf:∀(fn:Fn) (first cap:Array Value) (w:World),(Instr.makeFunc fn first cap).run prog w= .ok (.func fn first cap) w:=λ _ _ _ _=>rfl
 go_enter_defers func90,ntmps90
 go_wp2_with fail;refine aA HF.o ?_;rintro e w2 ⟨A,rfl,hb,hc⟩;have IM:Rc w2 w ⟨#[]⟩:=(hb.block w (by simp)).trans FU.o;have j5:=GG.o.tr hb;have CB:=kd IM;have y5:=kd j5;obtain⟨c2,z2⟩:=IM.facts;clear hb IM HF j5 hc;go_wp2_with fail;exact zbs rfl rfl (CB.o.set _) (HE.o w2 y5.o _ CB.o)
theorem Ww (dm m:Nat)(s:ByteArray)(x:List UInt8)(r:List (List UInt8))(w:World)(E:Ending->World->Prop)(hF:FF s (x::r) m w)(hm:m=r.length+1)(DF:m<=1000000)
 (hL:∀W,Below w w W->(Instr.lookup 110 (.map dm) (.string ⟨x.toArray⟩) true).run prog W= .ok (.tuple #[.agg #[(0:Int),.nilFunc],false]) W) (hE:zfd w E):
 Calls prog 90 #[.map dm,.string s] w E:=by
 have HF:=kd hF;have HL:=kd hL;have HE:=kd hE;have GG:=kd ((aI _ w).alloc (aF _) (.cells #[.string ⟨#[]⟩] 9));have FU:=kd (show Rc (w.alloc (.cells #[.string ⟨#[]⟩] 9)) w.heap.size ⟨#[]⟩ from World.alloc_heap_new w _);have h0:0<m:=by omega
 have hz:((m:Int)==0)=false:=by simp;omega
 clear hF hL hm hE;have hmf:∀(fn:Fn) (first cap:Array Value) (w:World),(Instr.makeFunc fn first cap).run prog w= .ok (.func fn first cap) w:=λ _ _ _ _=>rfl
 go_enter_defers func90,ntmps90
 go_wp2_with fail;refine aA HF.o ?_;rintro e w2 ⟨A,rfl,hb,hc⟩;have IM:Rc w2 w ⟨#[]⟩:=(hb.block w (by simp)).trans FU.o;have j5:=GG.o.tr hb;have CB:=kd IM;have y5:=kd j5;have hl:=HL.o w2 j5;have hx:=hc 0 x rfl;clear hb IM HF j5 hc;go_wp2_with fail;have y8:Below w2 w2 (w2.alloc (.cells #[(0:Int),.nilFunc] 217)):=b_;have LH:Rc (w2.alloc (.cells #[(0:Int),.nilFunc] 217)) w ⟨#[]⟩:=(y8.block _ (G.lt_of_some CB.o)).trans CB.o;obtain⟨hT,TW⟩:=HE.o _ (y5.o.tr y8) _ LH;exact Oj rfl rfl LH hT TW
theorem az (dm m:Nat)(s:ByteArray)(x:List UInt8)(r:List (List UInt8))(k:Int)(d f:Nat)(w:World)(E:Ending->World->Prop)(hF:FF s (x::r) m w)(hm:m=r.length+1)(DF:m<=1000000)
 (hL:∀W,Below w w W->(Instr.lookup 110 (.map dm) (.string ⟨x.toArray⟩) true).run prog W= .ok (.tuple #[.agg #[k,.func (.func f) #[.pointer d] #[]],true]) W) (hk:(((m:Int)-1) != k)=true) (hE:zfd w E):
 Calls prog 90 #[.map dm,.string s] w E:=by
 have HF:=kd hF;have HL:=kd hL;have HE:=kd hE;have GG:=kd ((aI _ w).alloc (aF _) (.cells #[.string ⟨#[]⟩] 9));have FU:=kd (show Rc (w.alloc (.cells #[.string ⟨#[]⟩] 9)) w.heap.size ⟨#[]⟩ from World.alloc_heap_new w _);have h0:0<m:=by omega
 have hz:((m:Int)==0)=false:=by simp;omega
 clear hF hL hm hE;have hmf:∀(fn:Fn) (first cap:Array Value) (w:World),(Instr.makeFunc fn first cap).run prog w= .ok (.func fn first cap) w:=λ _ _ _ _=>rfl
 go_enter_defers func90,ntmps90
 go_wp2_with fail;refine aA HF.o ?_;rintro e w2 ⟨A,rfl,hb,hc⟩;have IM:Rc w2 w ⟨#[]⟩:=(hb.block w (by simp)).trans FU.o;have j5:=GG.o.tr hb;have CB:=kd IM;have y5:=kd j5;have hl:=HL.o w2 j5;have hx:=hc 0 x rfl;clear hb IM HF j5 hc;go_wp2_with fail;have y8:Below w2 w2 (w2.alloc (.cells #[k,.func (.func f) #[.pointer d] #[]] 217)):=b_;have LH:Rc (w2.alloc (.cells #[k,.func (.func f) #[.pointer d] #[]] 217)) w ⟨#[]⟩:=(y8.block _ (G.lt_of_some CB.o)).trans CB.o;obtain⟨hT,TW⟩:=HE.o _ (y5.o.tr y8) _ LH;exact Oj rfl rfl LH hT TW
theorem zf6 (dm m:Nat)(s:ByteArray)(x:List UInt8)(r:List (List UInt8))(k:Int)(d f:Nat)(w:World)(E:Ending->World->Prop)(hF:FF s (x::r) m w)(hm:m=r.length+1)(DF:m<=1000000)
 (hL:∀W,Below w w W->(Instr.lookup 110 (.map dm) (.string ⟨x.toArray⟩) true).run prog W= .ok (.tuple #[.agg #[k,.func (.func f) #[.pointer d] #[]],true]) W) (hk:(((m:Int)-1) != k)=false)
 (hcf:∀args w,(callFunc f args).run prog w= .ok (.enter f args) w)
 (hN:∀A W,Below w w W->(∀(j:Nat) y,(x::r)[j]? =some y->W.cell? ⟨A,j,none⟩=some (.string ⟨y.toArray⟩))->Calls prog 172 #[.slice (if m=1 then some ⟨A,0,none⟩ else some ⟨A,1,none⟩) (m-1) (m-1)] W λ e w4=>Below W W w4/\
   ((e= .panicked [{v:=.iface 23 (3:Int),recovered:=false}]/\zfd w E)\/
    ∃u,e= .returned u/\zvh f d w W w4 u E)):
 Calls prog 90 #[.map dm,.string s] w E:=by
 have HF:=kd hF;have HL:=kd hL;have HN:=kd hN;have GG:=kd ((aI _ w).alloc (aF _) (.cells #[.string ⟨#[]⟩] 9));have FU:=kd (show Rc (w.alloc (.cells #[.string ⟨#[]⟩] 9)) w.heap.size ⟨#[]⟩ from World.alloc_heap_new w _);have h0:0<m:=by omega
 have hz:((m:Int)==0)=false:=by simp;omega
 clear hF hL hm hN;have hmf:∀(fn:Fn) (first cap:Array Value) (w:World),(Instr.makeFunc fn first cap).run prog w= .ok (.func fn first cap) w:=λ _ _ _ _=>rfl
 go_enter_defers func90,ntmps90
 go_wp2_with fail;refine aA HF.o ?_;rintro e w2 ⟨A,rfl,hb,hc⟩;have IM:Rc w2 w ⟨#[]⟩:=(hb.block w (by simp)).trans FU.o;have j5:=GG.o.tr hb;have CB:=kd IM;have y5:=kd j5;have HC:=kd hc;have hl:=HL.o w2 j5;have hx:=hc 0 x rfl;have j6:=G.lt_of_some IM;have l9:¬w.heap.size=w2.heap.size:=by omega
 clear hb IM HF j5 hc;go_wp2_with fail;have h1:(1:Int)<=(m:Int):=by omega
 have GY:(w2.alloc (.cells #[k,.func (.func f) #[.pointer d] #[]] 217)).drew.cell? (w2,1)=some (.func (.func f) #[.pointer d] #[]):=by simp
 have hob:(w2.alloc (.cells #[k,.func (.func f) #[.pointer d] #[]] 217)).drew.heap[w2.heap.size]? =some (.cells #[k,.func (.func f) #[.pointer d] #[]] 217):=World.alloc_heap_new w2 _;have AZ:=kd (show Below w2 w2 (w2.alloc (.cells #[k,.func (.func f) #[.pointer d] #[]] 217)).drew from(b_).drew);obtain⟨W3,FI⟩:∃W3,(w2.alloc (.cells #[k,.func (.func f) #[.pointer d] #[]] 217)).drew=W3:=⟨_,rfl⟩;rw[FI] at GY hob AZ;have VT:=kd hob;have DR:=kd (show Rc W3 w.heap.size ⟨#[]⟩ from(AZ.o.block _ j6).trans CB.o);have UT:=kd (HN.o A W3 (y5.o.tr AZ.o) (λ j y hy=>by
  have:=HC.o j y hy;exact(AZ.o.cell (p:=⟨A,j,none⟩) (G.lt_of_cell this)).trans this))
 have CY:=kd FI;clear hob FI;refine wp_region_held_drew (S:=λ w'=>w'.cell? (w2,1)=some (.func (.func f) #[.pointer d] #[])) (by kernel_rfl) ?_ (λ hHeld=>?_)
 ·rw[CY.o];exact GY
 refine wpAnyH_take (i:=0) (v:=?_) rfl (by kernel_rfl) (by kernel_rfl) (by kernel_rfl) (λ _ _ _ h=>Ht (by decide) _ _ _ h) (Or.inl ⟨by rfl,?_⟩) (by assumption) ?_;rotate_left
 ·intro w XZ
  try dsimp only at XZ
  first|(go_simp;done)|(go_simp;with_reducible rfl)
 try simp only[Act.put]
 refine wpAnyH_take (i:=1) (v:=?_) rfl (by kernel_rfl) (by kernel_rfl) (by kernel_rfl) (λ _ _ _ h=>Ht (by decide) _ _ _ h) (Or.inl ⟨by rfl,?_⟩) (by assumption) ?_;rotate_left
 ·intro w XZ
  try dsimp only at XZ
  first|(go_simp;done)|(go_simp;with_reducible rfl)
 try simp only[Act.put]
 refine wpAnyH_take (i:=2) (v:=?_) rfl (by kernel_rfl) (by kernel_rfl) (by kernel_rfl) (λ _ _ _ h=>Ht (by decide) _ _ _ h) (Or.inl ⟨by rfl,?_⟩) (by assumption) ?_;rotate_left
 ·intro w XZ
  try dsimp only at XZ
  first|(go_simp;done)|(go_simp;with_reducible rfl)
 try simp only[Act.put]
 refine wpAnyH_take (i:=3) (v:=?_) rfl (by kernel_rfl) (by kernel_rfl) (by kernel_rfl) (λ _ _ _ h=>Ht (by decide) _ _ _ h) (Or.inl ⟨by rfl,?_⟩) (by assumption) ?_;rotate_left
 ·intro w XZ
  try dsimp only at XZ
  first|(go_simp;done)|(go_simp;with_reducible rfl)
 try simp only[Act.put]
 refine rd 4 (λ K hK=>?_);go_simp;rw[CY.o];refine aA UT.o ?_;rintro e w4 ⟨BB,(⟨rfl,hE3⟩|⟨u,rfl,hdo⟩)⟩
 ·have TK:Rc w4 w ⟨#[]⟩:=(BB.block _ (G.lt_of_some DR.o)).trans DR.o
  have hb34:=AZ.o.tr BB;obtain⟨hT,TW⟩:=hE3 w4 (y5.o.tr hb34) _ TK;exact Oj rfl rfl TK hT TW
 ·have HDO:=kd hdo
  have EP:=kd BB;have hS4:w4.cell? (w2,1)=some (.func (.func f) #[.pointer d] #[]):=(BB.cell (p:=⟨w2.heap.size,1,none⟩) (G.lt_of_some VT.o)).trans GY;clear hdo BB UT HN;refine hK.out _ _ ?_ (λ hHeld=>?_)
  ·exact hS4
  clear hK K;refine rd 5 (λ K hK=>?_);go_simp;refine aA HDO.o ?_;rintro e w5 ⟨EL,(⟨out,rfl,hE⟩|⟨c,y,rfl,hE⟩)⟩
  ·have hr5:Rc w5 w ⟨#[]⟩:=EL _ _ DR.o ⟨_,_,rfl,.inl rfl⟩
   have HE:=kd (hE _ hr5);have HR5:=kd hr5;obtain⟨c5,z5⟩:=hr5.facts;have WH:w5.cell? (w2,1)=some (.func (.func f) #[.pointer d] #[]):=by simp[World.cell?,EL _ _ VT.o ⟨_,_,rfl,.inr rfl⟩]
   clear EL hE hr5 HDO;refine hK.out _ _ ?_ (λ hHeld=>?_)
   ·exact WH
   clear hK K;refine rd 6 (λ K hK=>?_);go_simp;refine hK.out _ _ ?_ (λ hHeld=>?_)
   ·rw[eD _ _ _ _ (by simp)];exact WH
   clear hK K;refine wpAnyH_done (by kernel_rfl) ?_ _;go_wp2_with fail;all_goals exact zbs rfl rfl (HR5.o.set out) HE.o
  ·have hr5:Rc w5 w ⟨#[]⟩:=EL _ _ DR.o ⟨_,_,rfl,.inl rfl⟩
   obtain⟨hT,TW⟩:=hE _ hr5;exact Oj rfl rfl hr5 hT TW
end Go.Proofs.Y.I
