import Derived.Test.YtebcjaenhiiflaaGreatDoorQJz
import Derived.OwnWalk
import Derived.Maps.AppendAt
import Derived.RangeFuncBox
set_option maxHeartbeats 2000000
set_option maxRecDepth 100000
namespace Go.Proofs.Y.I
open Go.RowKit Go.Lib Go.Proofs.Tryz
def Ah (ns:List Int):List UInt8:=Bu (ns.map itoa)
theorem Vh:∀(l:List (List UInt8)) (x:List UInt8),Bu (l++[x])=Bu l++(if l=[] then x else 32::x)
 |[],x=>by simp[Bu]
 |[y],x=>by simp[Bu]
 |y::z::r,x=>by
  have ih:=Vh (z::r) x;simp only[dZ,Bu] at ih ⊢;rw[ih];simp
theorem zfr (ns:List Int)(x:Int):Ah (ns++[x])=Ah ns++(if ns=[] then itoa x else 32::itoa x):=by
 unfold Ah;rw[dL,gW,jT,Vh];cases ns <;> simp
theorem zj6 {i:Int}(h0:0<=i)(h1:i<=9223372036854775807):(itoa i).length<=20:=by
 obtain⟨u,rfl⟩:=dE h0;rw[Su];have key:∀(k u:Nat),u<10^(k+1)->(decDigits u).length<=k+1:=by
  intro k;induction k with
  |zero=>intro u hu;rw[Kl (by simpa using hu)];simp
  |succ k ih=>
   intro u hu;by_cases c:u<10
   ·rw[Kl c];simp
   ·rw[Ru c,aM,fO]
    have:=ih (u/10) (by rw[Nat.div_lt_iff_lt_mul (by omega)];rw[kX] at hu;exact hu);omega
 exact key 19 u (by omega)
theorem zu1:(prog.info? 5).map (λ i=>(i.zero,i.size,i.bytes))=some (some (.int .u8 0),1,1):=by kernel_rfl
theorem info5:∃i,prog.info? 5=some i/\i.zero=some (.int .u8 0)/\i.size=1/\i.bytes=1:=info_parts zu1
def Md (w0 w:World)(B k:Nat)(xs:List Value)(ns:List Int)(j:Nat)(v:Value):Prop:=
 w.ownsRow B 5 1 v (k+(Ah (ns.take j)).length) (xs++Lib.byteCells (Ah (ns.take j)))/\Below B w0 w/\OthersKept 5 none w0 w
theorem zgx {w:World}{nb:Nat}{ns:List Int}(h:w.heap[nb]? =some (.cells (ns.map (Value.int .i64)).toArray 3)){j:Nat}{x:Int}(hx:ns[j]? =some x):w.cell? (nb,j)=x:=by
 simp[World.cell?,h,hx]
theorem rq:∀{ws:List (List UInt8)},(∀x∈ws,x.length<=20)->(Bu ws).length<=21*ws.length
 |[],_=>by simp[Bu]
 |[x],h=>by have:=h x (by simp);simp[Bu];omega
 |x::y::r,h=>by
  have h1:=rq (ws:=y::r) (λ z hz=>h z (by simp at hz ⊢;exact .inr hz));have h2:=h x (by simp);rw[Bu,aM,bD,bD];omega
theorem Ce {ns:List Int}(hr:∀x∈ns,0<=x/\x<=9223372036854775807):(Ah ns).length<=21*ns.length:=by
 have:=rq (ws:=ns.map itoa) (λ x hx=>by
  obtain⟨i,hi,rfl⟩:=aY.1 hx;exact zj6 (hr i hi).1 (hr i hi).2)
 rwa[aS] at this
theorem bytes_append (a b:List UInt8):Lib.byteCells (a++b)=Lib.byteCells a++Lib.byteCells b:=by simp[Lib.byteCells]
theorem P5 {ns:List Int}{j:Nat}{x:Int}(hx:ns[j]? =some x):ns.take (j+1)=ns.take j++[x]:=by rw[bL,hx];rfl
theorem zd6 {w0 w w1:World}{B k:Nat}{xs:List Value}{ns:List Int}{u v1:Value}{x:Int}(h:Md w0 w B k xs ns 0 u)(hx:ns[0]? =some x)(h1:w1.ownsRow B 5 1 v1 (k+(Ah (ns.take 0)).length+(itoa x).length) (xs++Lib.byteCells (Ah (ns.take 0))++Lib.byteCells (itoa x)))(hb:Below B w w1)(hk:OthersKept 5 none w w1):Md w0 w1 B k xs ns 1 v1:=by
 refine⟨?_,h.2.1.trans hb,h.2.2.trans hk⟩;rw[P5 hx,kK,dX]
 simpa[Ah,Bu,Lib.byteCells] using h1
def ze5 (w0 w:World)(B k:Nat)(xs:List Value)(ns:List Int)(j:Nat)(v:Value):Prop:=
 w.ownsRow B 5 1 v (k+(Ah (ns.take j)).length+1) (xs++Lib.byteCells (Ah (ns.take j))++[.int .u8 32])/\Below B w0 w/\OthersKept 5 none w0 w/\B<=w
theorem one_byte {b:Int}:∀u∈[Value.int .u8 b],u.oneCell'=true:=by simp[Value.oneCell']
theorem zkt {w w1:World}{B n:Nat}{xs:List Value}{u:Value}{o:Obj}(hu:w.ownsRow B 5 1 u n xs)(hg:(w.alloc o).grownBy w1 u.ownBlock):OthersKept 5 none w w1:=by
 intro k c hk _ hc;have j6:=G.lt_of_some hk;rw[hg.block k (by simp;omega) ?_,bG _ _ _ j6]
 ·exact hk
 ·rcases hu.2 with⟨rfl,_⟩|⟨g,cap,cur,rfl,_,hgb,_⟩
  ·simp[Value.ownBlock]
  ·intro e
   simp[Value.ownBlock] at e;subst e;rw[hgb] at hk;injection hk with hk
   exact hc _ _ hk.symm
theorem Zf {w0 w w1:World}{B n:Nat}{xs:List Value}{u:Value}{o:Obj}(hu:w.ownsRow B 5 1 u n xs)(hb:Below B w0 w)(hn:OthersKept 5 none w0 w)(hB:B<=w)(hg:(w.alloc o).grownBy w1 u.ownBlock):
 Below B w0 w1/\OthersKept 5 none w0 w1/\B<=w1:=by
 have hs:=hg.size;rw[aT] at hs;exact⟨hb.trans (((aI B w).alloc hB o).grown hg (by simp;omega) λ j hj=>(hu.lt j hj).1),hn.trans (zkt hu hg),by omega⟩
theorem zef {w0 w w1:World}{B k j:Nat}{xs:List Value}{ns:List Int}{u v1:Value}{o:Obj}(h:Md w0 w B k xs ns j u)(hB:B<=w)(h1:w1.ownsRow B 5 1 v1 (k+(Ah (ns.take j)).length+1) (xs++Lib.byteCells (Ah (ns.take j))++[.int .u8 32]))(hg:(w.alloc o).grownBy w1 u.ownBlock):ze5 w0 w1 B k xs ns j v1:=
 ⟨h1,Zf h.1 h.2.1 h.2.2 hB hg⟩
theorem zgq {w0 w w1:World}{B k j:Nat}{xs:List Value}{ns:List Int}{u v1:Value}{x:Int}(h:ze5 w0 w B k xs ns j u)(hj:¬j=0)(hx:ns[j]? =some x)(h1:w1.ownsRow B 5 1 v1 (k+(Ah (ns.take j)).length+1+(itoa x).length) (xs++Lib.byteCells (Ah (ns.take j))++[.int .u8 32]++Lib.byteCells (itoa x)))(hb:Below B w w1)(hk:OthersKept 5 none w w1):Md w0 w1 B k xs ns (j+1) v1:=by
 have l9:ns.take j≠[]:=by
  intro k;have hl:=(aC.1 hx).1;have:=congrArg List.length k;rw[bN,dU] at this;omega
 refine⟨?_,h.2.1.trans hb,h.2.2.1.trans hk⟩;rw[P5 hx,zfr,aL l9,aM,bD];have e:k+((Ah (ns.take j)).length+((itoa x).length+1))=k+(Ah (ns.take j)).length+1+(itoa x).length:=by omega
 rw[e,bytes_append]
 simpa[Lib.byteCells] using h1
theorem zk4 {w0 w w1:World}{B k m:Nat}{xs:List Value}{ns:List Int}{u v1:Value}{o:Obj}(h:Md w0 w B k xs ns m u)(hm:m=ns.length)(hB:B<=w)(h1:w1.ownsRow B 5 1 v1 (k+(Ah (ns.take m)).length+1) (xs++Lib.byteCells (Ah (ns.take m))++[.int .u8 10]))(hg:(w.alloc o).grownBy w1 u.ownBlock):
 w1.ownsRow B 5 1 v1 (k+(Ah ns).length+1) (xs++Lib.byteCells (Ah ns++[10]))/\Below B w0 w1/\OthersKept 5 none w0 w1:=by
 subst hm;rw[bK] at h1;have hm:=Zf h.1 h.2.1 h.2.2 hB hg;refine⟨?_,hm.1,hm.2.1⟩;rw[bytes_append,<-dW];exact h1
theorem il (B nb m c k:Nat)(v:Value)(xs:List Value)(ns:List Int)(w:World)(o8:w.ownsRow B 5 1 v k xs)(hB:B<=w)(hm:m=ns.length)(hnb:w.heap[nb]? =some (.cells (ns.map (Value.int .i64)).toArray 3))(hr:∀x∈ns,0<=x/\x<=9223372036854775807)(hk:k<=90000)(h3:ns.length<=3)(XM:TB B w):
 Calls prog 51 #[v,.slice nb m c] w λ e w'=>∃v',e= .returned v'/\w'.ownsRow B 5 1 v' (k+(Ah ns).length+1) (xs++Lib.byteCells (Ah ns++[10]))/\Below B w w'/\OthersKept 5 none w w':=by
 have H0:Hid (Md w w B k xs ns 0 v):=⟨by simpa[Ah,Bu,Lib.byteCells] using o8,aI _ _,OthersKept.refl _ _ _⟩;have HNB:=kd hnb;have HR:=kd hr;have HT:=kd XM;have HM:=kd hm;have HB:=kd hB;have HK:=kd (And.intro hk h3);have EJ:m<=3:=by omega
 clear o8 hnb hr XM hB hm hk h3;go_enter func51,ntmps51;go_wp2_with fail;go_loopw [0,9] (λ s0 s9 wq=>∃j:Nat,j<=m/\s9=j/\Md w wq B k xs ns j s0) (λ _ s9 _=>m-(RowKit.intOf s9).toNat)
 case atStart=>exact⟨0,aN _,rfl,H0.o⟩
 case round=>
  obtain⟨j,hj,rfl,q9⟩:=hrel;have HA:=kd q9;clear q9;by_cases j6:j<m
  ·have FP:j<ns.length:=by have:=HM.o;omega
   have hx:ns[j]? =some ns[j]:=aB FP;have HX:=kd hx;have HXR:Hid (0<=ns[j]/\ns[j]<=9223372036854775807):=HR.o _ (aG hx);have hc:=zgx (HA.o.2.2 _ _ HNB.o (by simp) (by simp)) hx;generalize ns[j]=x at*;have CQ:Hid (B<=wr):=aD HB.o HA.o.2.1.size;have HL:Hid (k+(Ah (ns.take j)).length<=99000):=by
    have hl:=Ce (ns:=ns.take j) (λ y hy=>HR.o y (dB hy));rw[bN] at hl;have:=HK.o;show _<=_;omega
   clear hx FP;by_cases JE:j=0
   ·subst JE
    have HC:Hid _:=Pp B _ x HXR.o.1 HXR.o.2 u0 _ wr HA.o.1 CQ.o (by have:=HL.o;omega) (HT.o.on HA.o.2.1);go_wp2_with (go_at_call 112;refine aA HC.o ?_;rintro e w1 ⟨v1,rfl,EA,j4,GH⟩);go_wp2_with fail;go_roundw;case rel=>exact⟨1,by omega,by go_num,zd6 HA.o HX.o EA j4 GH⟩
    case measure=>simp[RowKit.intOf];omega
   ·obtain⟨i0,hi,hz,hs,hb⟩:=info5
    have o7:=HA.o.1;have hl9:=HL.o;have hbw:=CQ.o;go_wp2_with (first
     |(at_builtin;refine wpList_append_own_at _ rfl _ _ 88 rfl B 5 i0 (.int .u8 0) 1 1 underlying88 hi hz hs hb rfl (by decide) u0 _ _ rfl (o7.alloc _) wr 1 1 [.int .u8 32] rfl rfl (cell_one_new _ _ _) one_byte (by unfold maxLen;omega) (by omega) (by simp;omega) ?_;intro v1 w1 EA AX _ _)
     |fail)
    have IC:Hid (ze5 w w1 B k xs ns j v1):=zef HA.o CQ.o EA AX;clear o7 EA AX;have HC:Hid _:=Pp B _ x HXR.o.1 HXR.o.2 v1 _ w1 IC.o.1 IC.o.2.2.2 (by have:=HL.o;omega) (HT.o.on IC.o.2.1);go_wp2_with (go_at_call 112;refine aA HC.o ?_;rintro e w2 ⟨v2,rfl,z8,j5,CK⟩);go_wp2_with fail;go_roundw;case rel=>exact⟨j+1,by omega,by go_num,zgq IC.o JE HX.o z8 j5 CK⟩
    case measure=>simp[RowKit.intOf];omega
  ·obtain rfl:j=m:=by omega
   obtain⟨i0,hi,hz,hs,hb⟩:=info5;have o7:=HA.o.1;have CQ:Hid (B<=wr):=aD HB.o HA.o.2.1.size;have hbw:=CQ.o;have hl9:k+(Ah (ns.take j)).length<=99000:=by
    have hl:=Ce (ns:=ns.take j) (λ y hy=>HR.o y (dB hy));rw[bN] at hl;have:=HK.o;omega
   go_wp2_with (first
    |(at_builtin;refine wpList_append_own_at _ rfl _ _ 88 rfl B 5 i0 (.int .u8 0) 1 1 underlying88 hi hz hs hb rfl (by decide) u0 _ _ rfl (o7.alloc _) wr 1 1 [.int .u8 10] rfl rfl (cell_one_new _ _ _) one_byte (by unfold maxLen;omega) (by omega) (by simp;omega) ?_;intro v1 w1 EA AX _ _)
    |fail)
   go_ret;exact⟨v1,rfl,zk4 HA.o HM.o CQ.o EA AX⟩
end Go.Proofs.Y.I
