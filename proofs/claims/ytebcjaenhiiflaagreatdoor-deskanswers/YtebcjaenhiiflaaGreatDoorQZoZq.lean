import Derived.Test.YtebcjaenhiiflaaGreatDoorQSy
import Derived.Test.YtebcjaenhiiflaaGreatDoorQZp
set_option maxHeartbeats 2000000
set_option maxRecDepth 100000
namespace Go.Proofs.Y.I
open Go.RowKit Go.WideMaps Go.Maps Go.Lib Go.Proofs.Tryz
def blk (r:Nat):Bool:=r==32
def Ca (s:ByteArray):List (List UInt8):=(Lib.goFieldsP blk s).map (·.data.toList)
theorem zjo (x:Nat)(W:World):FnGives prog 171 #[] #[encR x] (.bool (blk x)) W:=by
 have hx:((x:Int)==32)=blk x:=by
  unfold blk;rw[dV];simp;omega
 generalize blk x=t at*;show Calls prog 171 #[.int .i32 (x:Int)] W _;go_enter func171,ntmps171;go_wp2_with fail;go_ret;exact⟨rfl,0,rfl⟩
theorem Kj (p:Nat->Bool)(s:ByteArray):∀(f pos:Nat) (st:Option Nat) (acc:List (Nat × Nat)),(spansFromP p s f pos st acc).1.length<=acc.length+f
 |0,_,_,acc=>by simp[spansFromP]
 |f+1,pos,st,acc=>by
  unfold spansFromP;split
  ·split
   ·cases st with
    |some a=>
     have:=Kj p s f (pos+(Utf8.decode s pos).2) none (acc++[(a,pos)]);simp at this ⊢;omega
    |none=>
     have:=Kj p s f (pos+(Utf8.decode s pos).2) none acc;simp;omega
   ·cases st with
    |some a=>
     have:=Kj p s f (pos+(Utf8.decode s pos).2) (some a) acc;simp;omega
    |none=>
     have:=Kj p s f (pos+(Utf8.decode s pos).2) (some pos) acc;simp;omega
  ·simp
theorem zgf (s:ByteArray):(Ca s).length<=s.size+1:=by
 unfold Ca goFieldsP spansOfP;rw[aS,aS];have h:=Kj blk s s.size 0 none [];simp only[dU,gG] at h;unfold closeSpans;split
 ·rw[aM]
  simp;exact h
 ·omega
theorem zt (s:ByteArray):∀x∈Ca s,x.length<=s.size:=by
 intro x hx;unfold Ca goFieldsP at hx;rw[fB,aY] at hx;obtain⟨p,_,rfl⟩:=hx;show(s.extract p.1 p.2).data.toList.length<=s.size;rw[Lib.extract_data];have:s.data.toList.length=s.size:=by simp
 rw[bN,dJ];omega
theorem zto (s:ByteArray)(w:World)(hs:s.size<=100000):FF s (Ca s) (Ca s).length w:=by
 unfold FF;have h:=Any.strings_FieldsFunc Tryz.lays229 171 #[] (enters_of func171 (by kernel_rfl) rfl) blk s (w.alloc (.cells #[.string ⟨#[]⟩] 9)) (by omega) (λ W x _=>zjo x W) (by kernel_rfl) (by kernel_rfl);refine aA h ?_;rintro e w' ⟨A,rfl,_,o7,hb⟩;have e1:(Ca s).length=(Lib.goFieldsP blk s).length:=by unfold Ca;rw[aS]
 refine⟨A,by rw[e1],hb,λ j y hy=>?_⟩;unfold Ca at hy;rw[bJ] at hy;obtain⟨z,hz,rfl⟩:=gF.1 hy;have:=bQ o7 rfl j (.string z) (by rw[bJ,hz];rfl)
 rwa[G.Bh] at this
open Go.RowKit Go.Shelf Go.WideMaps Go.Maps Go.Proofs.Tryz
attribute [local go_sem] Oper.semAt_some
def marks:Obj->Bool
 | .loop _=>true
 | .deferred _=>true
 |_=>false
theorem zau {α:Type}{n gf:Nat}{P:Program}{g:Operand}{ps:Array Tmp}{assign body:Code}{Q:Exit->Act->World->Prop}{a:Act}{w:World}{lb:Array Value}(h1:1<=n)
 (hg:a.eval g= .func (.func gf) #[] lb) (eg:∀args w,(callFunc gf args).run P w= .ok (.enter gf args) w) (xs:List α) (encs:α->Array Value) (XA:∀x,(encs x).size=ps.size) (I:List α->World->Prop)
 (IP:∀(l:Nat) (J:List α->World->Prop) (W:World),Below w w W->(∀pre X Y,J pre X->Below X X Y->J pre Y)->(∀pre X,J pre X->I pre X)->
   (∀pre x X,pre++[x]<+:xs->J pre X->YieldAt Fence.wide (n-1-1) P l (encs x) X λ e Y=>e=true/\J (pre++[x]) Y)->J [] W->
   CallsIn Fence.wide (n-1) P gf (#[.func (.yield l) #[] #[]]++lb) W λ e Y=>(∃v,e= .returned v)/\J xs Y)
 (hIb:∀pre X Y,I pre X->Below X X Y->I pre Y) (hIm:∀pre X k o o',w.heap.size<=k->I pre X->X.heap[k]? =some o->marks o=true->I pre (X.putObj k o')) (h0:I [] w) (a₁:α->Act)
 (ZC:∀(l:Nat) (x:α) (W:World) (K:Act->World->Prop),K (a₁ x) W->
   assign.wpIn (Fence.wide.inRound l) (n-1-1) P (Exit.then K (λ _ _ _=>False)) {tmps:=(ps.zip (encs x)).foldl (λ t (p,v)=>t.setIfInBounds p v) a.tmps,defers:=[]} W)
 (hbody:∀(l:Nat) (pre:List α) (x:α) (W:World),pre++[x]<+:xs->I pre W->body.wpIn (Fence.wide.inRound l) (n-1-1) P (λ e _ Y=>e= .normal/\(∀(k:Nat) (o:Obj),W.heap[k]? =some o->marks o=true->Y.heap[k]? =some o)/\I (pre++[x]) Y) (a₁ x) W)
 (QX:∀(D:Nat) (W:World),w.heap.size<=D->I xs W->W.heap[D]? =some (.deferred (some []))->Q .normal {a with defers:={target:=.collected D,args:=#[]}::a.defers} W):
 (Code.rangeFunc g ps assign body).wpIn Fence.wide n P Q a w:=by
 refine wpIn_rangeFunc λ fn hfn=>?_
 let rc:LoopState->Loop:=λ st=>{state:=st,pending:=none,fn,tmps:=a.tmps,params:=ps,assign,body,defers:=w.heap.size}
 have hL1:((w.alloc (.deferred (some []))).alloc (.loop (rc .ready))).heap[w.heap.size+1]? =some (.loop (rc .ready)):=by
  have:=World.alloc_heap_new (w.alloc (.deferred (some []))) (.loop (rc .ready))
  rwa[aT] at this
 have j4:Below w w ((w.alloc (.deferred (some []))).alloc (.loop (rc .ready))):=(b_).alloc (by simp) _;have hD1:((w.alloc (.deferred (some []))).alloc (.loop (rc .ready))).heap[w.heap.size]? =some (.deferred (some [])):=(bG _ _ _ (by simp)).trans (World.alloc_heap_new w _);refine⟨w.heap.size+1,[{target:=.collected w,args:=#[]}],_,{target:=.fn (.func gf) lb,args:=#[.func (.yield (w+1)) #[] #[]]},_,gf,#[.func (.yield (w+1)) #[] #[]]++lb,_,
  run_enterLoop_outer _ _ _ _ _,by simp only[resolve,hg];simp[go_sem];rfl,λ _ _=>trivial,by simp[invoke,go_sem,eg];rfl,λ _=>h1,?_⟩
 refine(IP (w+1) (λ pre W=>I pre W/\W.heap[w.heap.size+1]? =some (.loop (rc .ready))/\W.heap[w.heap.size]? =some (.deferred (some []))) _ j4
  (λ pre X Y h hb=>⟨hIb pre X Y h.1 hb,(hb.block _ (dK.1 h.2.1).1).trans h.2.1,(hb.block _ (dK.1 h.2.2).1).trans h.2.2⟩) (λ _ _ h=>h.1) ?_ ⟨hIb _ _ _ h0 j4,hL1,hD1⟩).mono ?_
 ·rintro pre x X hx ⟨hi,hl,hd⟩
  have j6:=(dK.1 hl).1;refine⟨fn,_,assign,body,run_yield hl (XA x),roundIn_of_wpIn hfn (ZC _ x X _ ⟨_,run_beginRound hl rfl,?_⟩)⟩;have KS:(X.putObj (w+1) (.loop {rc .ready with state:=.busy})).heap[w.heap.size+1]? =some (.loop {rc .ready with state:=.busy}):=World.putObj_heap_same j6;have MC:(X.putObj (w+1) (.loop {rc .ready with state:=.busy})).heap[w.heap.size]? =some (.deferred (some [])):=(World.putObj_heap_other (by omega)).trans hd;refine wpIn_mono (hbody _ pre x _ hx (hIm _ _ _ _ _ (by omega) hi hl rfl)) ?_;rintro e a3 Y ⟨rfl,hk,hi3⟩;have hl3:=hk _ _ KS rfl;have ZE:=hk _ _ MC rfl;refine⟨_,_,run_endRound none hl3,rfl,hIm _ _ _ _ _ (by omega) hi3 hl3 rfl,World.putObj_heap_same (dK.1 hl3).1,(World.putObj_heap_other (by omega)).trans ZE⟩
 ·rintro e Y ⟨⟨v,rfl⟩,hi,hl,hd⟩
  exact⟨none,_,run_endLoop hl (by simp[rc]),QX _ _ (aF _) (hIm _ _ _ _ _ (by omega) hi hl rfl) ((World.putObj_heap_other (by omega)).trans hd)⟩
def ln:List UInt8->List (List UInt8)
 |[]=>[[]]
 |c::r=>if c=10 then []::ln r else
  match ln r with
  |[]=>[[c]]
  |h::t=>(c::h)::t
theorem Zw:∀l:List UInt8,ln l≠[]
 |[]=>by simp[ln]
 |c::r=>by
  unfold ln;split
  ·simp
  ·split <;> simp
theorem zej:∀{l:List UInt8},10∉l->ln l=[l]
 |[],_=>rfl
 |c::r,h=>by
  have h1:c≠10:=λ e=>h (by simp[e])
  have h2:=zej (l:=r) (λ k=>h (bS _ k));unfold ln;rw[aL h1,h2]
theorem zds:∀{p:List UInt8} (r:List UInt8),10∉p->ln (p++10::r)=p::ln r
 |[],r,_=>by
  show ln (10::r)=_;rw[ln,aP rfl]
 |c::p,r,h=>by
  have h1:c≠10:=λ e=>h (by simp[e])
  have h2:=zds (p:=p) r (λ k=>h (bS _ k));show ln (c::(p++10::r))=_;rw[ln,aL h1,h2]
theorem yo (l:List UInt8):10∉l\/∃p r,l=p++10::r/\10∉p:=by
 induction l with
 |nil=>exact .inl (by simp)
 |cons c l ih=>
  by_cases h:c=10
  ·exact .inr ⟨[],l,by rw[h];rfl,by simp⟩
  ·rcases ih with h2|⟨p,r,rfl,hp⟩
   ·refine .inl (λ k=>?_)
    rcases cO.1 k with e|e
    ·exact h e.symm
    ·exact h2 e
   ·refine .inr ⟨c::p,r,rfl,λ k=>?_⟩
    rcases cO.1 k with e|e
    ·exact h e.symm
    ·exact hp e
theorem zso {l:List UInt8}(h:10∉l):Lib.cut l [10]=(l,[],false):=by
 have hi:Lib.index l [10]= -1:=by
  rcases Lib.index_spec l [10] with⟨h1,_⟩|⟨i,_,_,h3,_⟩
  ·exact h1
  ·exfalso
   rw[Rt] at h3;exact h (aG h3)
 unfold Lib.cut;rw[hi];rfl
theorem zth {l h r:List UInt8}{m:Bool}(hc:Lib.cut l [10]=(h,r,m)):(m=true->ln l=h::ln r/\r.length<l.length)/\(m=false->ln l=[h]/\r=[])/\r.length<=l.length/\h.length<=l.length:=by
 rcases yo l with hl|⟨p,q,rfl,hp⟩
 ·rw[zso hl] at hc
  injection hc with h1 h2
  injection h2 with h2 h3
  subst h1 h2 h3;exact⟨λ k=>(by cases k),λ _=>⟨zej hl,rfl⟩,by simp,aF _⟩
 ·rw[zgr hp] at hc
  injection hc with h1 h2
  injection h2 with h2 h3
  subst h1 h2 h3;refine⟨λ _=>⟨zds _ hp,by simp;omega⟩,λ k=>(by cases k),by simp;omega,by simp⟩
def Ee (s:List UInt8):List (List UInt8):=ln (Lib.trimSuffix s [10])
theorem znz (s p:ByteArray)(w:World)(hs:s.size<=100000):
 Calls prog 167 #[.string s,.string p] w λ e w'=>e=Value.string ⟨(Lib.trimSuffix s.data.toList p.data.toList).toArray⟩/\w'=w:=
 Any.strings_TrimSuffix Tryz.lays102 s p w (by omega)
theorem Tn (s p:List UInt8):(Lib.trimSuffix s p).length<=s.length:=by
 unfold Lib.trimSuffix;split
 ·rw[bN];omega
 ·exact aF _
def zpo:Value->Nat
 | .string s=>s.size
 |_=>0
def Zu:Value->Nat
 | .bool true=>1
 |_=>0
theorem zh4 (n:Nat)(hn:1<=n)(l Bs:Nat)(s:ByteArray)(BS:s.size<=100000)(J:List (List UInt8)->World->Prop)(hJb:∀pre X Y,J pre X->Below X X Y->J pre Y)(hJv:∀pre X,J pre X->Vars X)
 (hY:∀pre x W,pre++[x]<+:Ee s.data.toList->J pre W->YieldAt Fence.wide (n-1) prog l #[.string ⟨x.toArray⟩] W λ e W'=>e=true/\J (pre++[x]) W')
 (W:World) (TM:W.heap[Bs]? =some (.cells #[.string s] 9)) (h0:J [] W):
 CallsIn Fence.wide n prog 166 #[.func (.yield l) #[] #[],.pointer Bs] W λ e W'=>(∃v,e= .returned v)/\J (Ee s.data.toList) W':=by
 have XC:Fence.wide.round=none:=rfl;have HY:=kd hY;have HJB:=kd hJb;have HJV:=kd hJv;have hc:W.cell? Bs=some (.string s):=by simp[World.cell?,TM]
 have HT:=kd (znz s ⟨#[10]⟩ W BS);have HTL:=kd (Tn s.data.toList [10]);clear hY TM hJb hJv;unfold Ee at*;rw[show((⟨#[10]⟩:ByteArray).data.toList)=[10] from rfl] at HT;have JU:s.data.toList.length=s.size:=by simp
 rw[JU] at HTL;generalize Lib.trimSuffix s.data.toList [10]=t0 at*;clear JU;refine callsIn_of_wp func166 rfl trivial ?_ XC;simp only[ntmps166,bZ,bD,dU,Nat.reduceAdd,Nat.reduceSub,fE,fF,fZ,fI,dX,dZ]
 gi_wp2_with fail
 refine⟨trivial,?_⟩;refine CallsIn.mono (callsIn_wide.2 HT.o) ?_;rintro e w1 ⟨rfl,AR⟩;subst w1;clear hc HT
 gi_wp2_with fail
 gi_loopw [3,4] (λ s3 s4 wr=>∃(pre:List (List UInt8)) (rs:List UInt8) (mr:Bool),s3= .string ⟨rs.toArray⟩/\s4= .bool mr/\rs.length<=100000/\(mr=true->ln t0=pre++ln rs)/\(mr=false->ln t0=pre/\rs=[])/\J pre wr)
  (λ s3 s4 _=>zpo s3+Zu s4)
 case atStart=>exact⟨[],t0,true,rfl,rfl,by have:=HTL.o;omega,λ _=>rfl,λ k=>(by cases k),h0⟩
 case round=>
  obtain⟨pre,rs,mr,rfl,rfl,SL,hmt,hmf,hJ⟩:=hrel;have HJ:=kd hJ;cases mr with
  |false=>
   have HE:=kd (hmf rfl).1;clear hmt hmf hJ
   gi_wp2_with fail
   go_end0
   exact⟨⟨_,rfl⟩,by rw[HE.o];exact HJ.o⟩
  |true=>
   have HE:=kd (hmt rfl);obtain⟨h,r,m,hcut⟩:∃h r m,Lib.cut rs [10]=(h,r,m):=⟨_,_,_,rfl⟩;have PS:=kd (zth hcut);have HRS:=kd SL;have HC:=kd (zb8 ⟨rs.toArray⟩ ⟨#[10]⟩ wr (by show rs.toArray.size<=100000;simpa using SL) (HJV.o _ _ hJ));rw[show((⟨#[10]⟩:ByteArray).data.toList)=[10] from rfl,show(⟨rs.toArray⟩:ByteArray).data.toList=rs from rfl,hcut] at HC;clear hmt hmf hJ hcut SL
   gi_wp2_with fail
   refine⟨trivial,?_⟩;refine CallsIn.mono (callsIn_wide.2 HC.o) ?_;rintro e w2 ⟨rfl,j5⟩;have HPX:Hid (pre++[h]<+:ln t0):=by
    show _<+:_;rw[HE.o];cases m with
    |true=>rw[(PS.o.1 rfl).1];exact⟨ln r,by simp⟩
    |false=>rw[(PS.o.2.1 rfl).1];exact⟨[],by simp⟩
   obtain⟨fn,tmps,assign,body,hy,hR⟩:=HY.o pre h w2 HPX.o (HJB.o _ _ _ HJ.o j5);have HR:=kd hR;clear hR j5 HC
   gi_wp2_with fail
   refine RoundIn.mono HR.o ?_;rintro e W3 ⟨rfl,ZR⟩;have HJ3:=kd ZR;clear ZR
   gi_wp2_with fail
   go_roundw;case rel=>
    refine⟨pre++[h],r,m,rfl,rfl,?_,λ hm=>?_,λ hm=>?_,HJ3.o⟩
    ·have:=PS.o.2.2.1
     have:=HRS.o;omega
    ·subst hm
     rw[HE.o,(PS.o.1 rfl).1];simp
    ·subst hm
     rw[HE.o,(PS.o.2.1 rfl).1];exact⟨by simp,(PS.o.2.1 rfl).2⟩
   case measure=>
    have h1:=PS.o;show r.toArray.size+Zu (.bool m)<rs.toArray.size+1;simp only[bZ];cases m with
    |true=>have:=(h1.1 rfl).2;simp[Zu];omega
    |false=>rw[(h1.2.1 rfl).2];simp[Zu]
theorem zla (s:ByteArray)(w:World):
 Calls prog 88 #[.string s] w λ e w'=>e= .returned (.func (.func 166) #[] #[.pointer w])/\w'=w.alloc (.cells #[.string s] 9):=by
 have hmf:∀(fn:Fn) (first cap:Array Value) (w:World),(Instr.makeFunc fn first cap).run prog w= .ok (.func fn first cap) w:=λ _ _ _ _=>rfl
 go_enter func88,ntmps88;go_wp2_with fail;go_ret;exact⟨rfl,rfl⟩
end Go.Proofs.Y.I
