import Derived.Test.YtebcjaenhiiflaaGreatDoorQKVsFDe
import Derived.DeepKeys4
import Derived.Deep.DeepFit
import Derived.Maps.AppendAt
set_option maxHeartbeats 4000000
set_option maxRecDepth 100000
namespace Go.Proofs.Y.S
open Go.RowKit Go.WideMaps Go.Maps Go.ChangeShapes Go.Proofs.Tryz
theorem zrc:laidOutB prog=true:=by kernel_rfl
theorem zhi:208<prog.types.size:=dH (by kernel_rfl)
theorem zpj:(match prog.underlying 208 with|some (.array _ _)|some (.struct _)=>true|_=>false)=true:=by kernel_rfl
theorem Q6:Keyed prog 208:=Keyed.of_law (deep_law_laid zrc (m:=2) (by omega) zhi (by kernel_rfl) zpj)
theorem zus:prog.keyType 208=true:=by kernel_rfl
theorem zur (p q:Int):(Value.agg #[.int .u64 p,.int .u64 q]).formed prog 208=true:=by kernel_rfl
theorem zuv:prog.cellsOf 208=2:=by kernel_rfl
theorem zv0:prog.cellsOf 132=1:=by kernel_rfl
theorem zuj:∃m,prog.types.size=m+1:=⟨prog.types.size-1,by have:=zhi;omega⟩
theorem wf_u64 {x:Nat}(h:x<18446744073709551616):(Lit.int .u64 (x:Int)).wf=true:=by
 simp only[Lit.wf,IntKind.min,IntKind.max,IntKind.signed,IntKind.bits];simp;omega
theorem zd4 {P:Program}{k t m:Nat}(hu:P.underlying k=some (.array 2 t))(ht:P.underlying t=some (.int .u64))(ck:P.cellsOf k=2)(ct:P.cellsOf t=1)(hs:P.types.size=m+1)(hkt:P.keyType k=true)
 {p q:Int} (hf:(Value.agg #[.int .u64 p,.int .u64 q]).formed P k=true) (hp:(Lit.int .u64 p).wf=true) (hq:(Lit.int .u64 q).wf=true):keyOf P k (.agg #[.int .u64 p,.int .u64 q])=some (.string (keyBytes [.int .u64 p,.int .u64 q])):=by
 unfold keyOf;rw[hu];simp only[hkt,hf,kS,kM,hs];have e1:∀x:Int,(Lit.int .u64 x).wf=true->P.keyLits (m+1) t [.int .u64 x]=some [.int .u64 x]:=λ x hx=>by simp[Program.keyLits,ht,hx]
 have:P.keyLits (m+1+1) k (Value.agg #[.int .u64 p,.int .u64 q]).cells.toList=some [.int .u64 p,.int .u64 q]:=by
  unfold Program.keyLits;rw[hu];simp[Value.cells,ck,ct,e1 p hp,e1 q hq,List.range_succ]
 rw[this];rfl
def rk (x:Nat):Lit:=.string (keyBytes [.int .u64 (Cu x:Int),.int .u64 (hi64 x:Int)])
theorem ai {x:Nat}(h:x<340282366920938463463374607431768211456):keyOf prog 208 (.agg #[.int .u64 (Cu x:Int),.int .u64 (hi64 x:Int)])=some (rk x):=by
 obtain⟨m,hm⟩:=zuj;exact zd4 underlying208 underlying132 zuv zv0 hm zus (zur _ _) (wf_u64 (zul x)) (wf_u64 (zt2 h))
theorem yj {x y:Nat}(hx:x<340282366920938463463374607431768211456)(hy:y<340282366920938463463374607431768211456)(h:rk x=rk y):x=y:=by
 have:=Q6.inj (ai hx) (h▸ai hy);simp only[Value.agg.injEq,Array.mk.injEq,kF,Value.int.injEq,lK,lL] at this;exact zmu (by omega) (by omega)
theorem zk (x:Nat):WideAt.IsKeyLit (rk x):=trivial
structure Ga (D:DataW Unit) (Dn:Edg->Prop) (f:Edg->Nat):Prop where
 yes:∀y,(∃e,Dn e/\f e=y)->∃zs,D.atKey (rk y) .nil= .slice (lits .i64 zs) []/\∀x,x∈zs↔∃d,Dn d/\f d=y/\d.1=x
 no:∀y,y<340282366920938463463374607431768211456->(¬∃e,Dn e/\f e=y)->D.atKey (rk y) .nil= .nil
 key:∀kl,Maps.has D kl=true↔∃e,Dn e/\kl=rk (f e)
 tidy:Tidy D
theorem Ga.start (f:Edg->Nat):Ga (.map []) (λ _=>False) f:=
 ⟨λ y ⟨_,h,_⟩=>h.elim,λ y _ _=>rfl,λ kl=>by simp[Maps.has],tidy_empty⟩
theorem Ga.congr {D:DataW Unit}{Dn Dn':Edg->Prop}{f:Edg->Nat}(h:Ga D Dn f)(e:∀d,Dn d↔Dn' d):Ga D Dn' f:=by
 have:Dn=Dn':=funext λ d=>propext (e d)
 rw[<-this];exact h
theorem Ga.more {D:DataW Unit}{Dn:Edg->Prop}{f:Edg->Nat}(h:Ga D Dn f)(hs:∀d,f d<340282366920938463463374607431768211456)(e:Edg){v v':Value}{zs:List Int}{w:World}{base:Nat}(q9:D.atKey (rk (f e)) .nil=rowDatum .i64 v zs)(ho:w.ownsInts base 3 .i64 v zs)(hv':∀n c,v'≠ .slice none n c):
 Ga (D.put (rk (f e)) (rowDatum .i64 v' (zs++[e.1]))) (λ d=>Dn d\/d=e) f:=by
 have KO:(rowDatum .i64 v' (zs++[e.1]):DataW Unit)= .slice (lits .i64 (zs++[e.1])) []:=by
  unfold rowDatum;split
  ·next n c=>exact absurd rfl (hv' n c)
  ·rfl
 have hold:∀x,x∈zs↔∃d,Dn d/\f d=f e/\d.1=x:=by
  by_cases hex:∃d,Dn d/\f d=f e
  ·obtain⟨ys,h1,h2⟩:=h.yes (f e) hex
   rw[h1] at q9;unfold rowDatum at q9;split at q9
   ·cases q9
   ·injection q9 with q9 _
    rw[<-Pe q9];exact h2
  ·have h1:=h.no (f e) (hs e) hex
   rw[h1] at q9;have hz:zs=[]:=by
    unfold rowDatum at q9;split at q9
    ·rcases ho.1.2 with⟨_,h0⟩|⟨g,cap,cur,hh,_⟩
     ·exact bV h0
     ·cases hh
    ·cases q9
   intro x;rw[hz];constructor
   ·intro hx;simp at hx
   ·rintro⟨d,h2,h3,_⟩;exact absurd ⟨d,h2,h3⟩ hex
 rw[KO];refine⟨λ y hy=>?_,λ y SA hy=>?_,λ kl=>?_,h.tidy.put (zk _) _⟩
 ·by_cases NF:y=f e
  ·rw[NF,atKey_put_same h.tidy.isMap (zk _)]
   refine⟨_,rfl,λ x=>?_⟩;rw[aK,hold,aJ];constructor
   ·rintro(⟨d,h1,h2,h3⟩|rfl)
    ·exact⟨d,.inl h1,h2,h3⟩
    ·exact⟨e,.inr rfl,rfl,rfl⟩
   ·rintro⟨d,h1|rfl,h2,h3⟩
    ·exact .inl ⟨d,h1,h2,h3⟩
    ·exact .inr h3.symm
  ·obtain⟨d,hd,hdy⟩:=hy
   have hdn:Dn d:=hd.resolve_right (λ k=>NF (by rw[<-hdy,k]));have SA:y<340282366920938463463374607431768211456:=by rw[<-hdy];exact hs d
   rw[atKey_put_other (λ k=>NF (yj SA (hs e) k))];obtain⟨ys,h1,h2⟩:=h.yes y ⟨d,hdn,hdy⟩;refine⟨ys,h1,λ x=>?_⟩;rw[h2];constructor
   ·rintro⟨d,k1,k2,k3⟩;exact⟨d,.inl k1,k2,k3⟩
   ·rintro⟨d,k1|rfl,k2,k3⟩
    ·exact⟨d,k1,k2,k3⟩
    ·exact absurd k2.symm NF
 ·have NF:y≠f e:=λ k=>hy ⟨e,.inr rfl,k.symm⟩
  rw[atKey_put_other (λ k=>NF (yj SA (hs e) k))];exact h.no y SA (λ⟨d,k1,k2⟩=>hy ⟨d,.inl k1,k2⟩)
 ·by_cases hk:kl=rk (f e)
  ·rw[hk,has_put_same h.tidy.isMap (zk _)]
   exact⟨λ _=>⟨e,.inr rfl,rfl⟩,λ _=>rfl⟩
  ·rw[has_put_other hk,h.key]
   constructor
   ·rintro⟨d,k1,k2⟩;exact⟨d,.inl k1,k2⟩
   ·rintro⟨d,k1|rfl,k2⟩
    ·exact⟨d,k1,k2⟩
    ·exact absurd k2 hk
end Go.Proofs.Y.S
namespace Go.Proofs.Y.S.X
open Go.RowKit Go.WideMaps Go.Maps Go.Proofs.Tryz
def Rk (w:World)(n:Nat)(R:List (Int × Int × Int))(inn:Nat->Bool)(e:Ending)(w':World):Prop:=
 ∃p b,e=Value.pointer (some ⟨p,0,none⟩)/\Aa w' p b (joins (List.range n) (R.filter (kp inn)))/\w.heap.size<=p/\w.heap.size<=b/\Below w w w'
theorem Wh {R:List (Int × Int × Int)}{k:Nat}{x:Int × Int × Int}(pf:Int × Int × Int->Bool)(h:R[k]? =some x):(R.take (k+1)).filter pf=(R.take k).filter pf++(if pf x then [x] else []):=G.Eb pf h
theorem zg1 {n:Nat}{R:List (Int × Int × Int)}(p9:Inn n R)(k:Nat)(inn:Nat->Bool):Good n (joins (List.range n) ((R.take k).filter (kp inn))):=
 Ew _ _ (Dg n) (λ d hd=>by
  have:=p9 d (dB (aO.1 hd).1);exact⟨this.1,this.2.1⟩)
theorem zo7 (x:Nat)(c a:Nat)(w:World)(hc:w.cell? c=a):
 Calls prog 148 #[x,.pointer c] w λ e w'=>e=Value.bool (decide (x≠a))/\w'=w:=by
 by_cases IQ:x=a
 ·subst IQ
  have hb:((x:Int) != (x:Int))=false:=by simp
  go_enter func148,ntmps148;go_wp2_with fail;go_ret;exact⟨by simp,rfl⟩
 ·have hb:((x:Int)==(a:Int))=false:=aH.2 (by omega)
  go_enter func148,ntmps148;go_wp2_with fail;go_ret;exact⟨by simp[IQ];omega,rfl⟩
theorem zqe (x:Nat)(c d a b:Nat)(w:World)(hc:w.cell? c=a)(hd:w.cell? d=b):
 Calls prog 149 #[x,.pointer c,.pointer d] w λ e w'=>e=Value.bool (decide (x≠a/\x≠b))/\w'=w:=by
 by_cases IQ:x=a
 ·subst IQ
  have hb:((x:Int)==(x:Int))=true:=by simp
  go_enter func149,ntmps149;go_wp2_with fail;go_ret;exact⟨by simp,rfl⟩
 ·have hb:((x:Int)==(a:Int))=false:=aH.2 (by omega)
  by_cases GA:x=b
  ·subst GA
   have j5:((x:Int)==(x:Int))=true:=by simp
   go_enter func149,ntmps149;go_wp2_with fail;go_ret;exact⟨by simp,rfl⟩
  ·have j5:((x:Int)==(b:Int))=false:=aH.2 (by omega)
   go_enter func149,ntmps149;go_wp2_with fail;go_ret;exact⟨by simp[IQ,GA];omega,rfl⟩
theorem Qw (n B0 f:Nat)(bs:List Value)(hfb:(∃c1,f=148/\bs=[.pointer (some ⟨c1,0,none⟩)])\/∃c1 c2,f=149/\bs=[.pointer (some ⟨c1,0,none⟩),.pointer (some ⟨c2,0,none⟩)])(inn:Nat->Bool)(u:Value)(R:List (Int × Int × Int))(w:World)(hR:G.Ad w B0 61 u R)(hn:n<=40)(p9:Inn n R)(hl:R.length<=120)
 (hf:∀W (x:Nat),Below w w W->Calls prog f (.int .i64 (x:Int)::bs).toArray W λ e w'=>e=Value.bool (inn x)/\w'=W):
 Calls prog 147 #[n,u,.func (.func f) #[] bs.toArray] w (Rk w n R inn):=by
 rcases hfb with⟨c1,rfl,rfl⟩|⟨c1,c2,rfl,rfl⟩
 all_goals
  have HF:=kd hf;have HR:=kd (And.intro hR p9);obtain⟨m,hm⟩:∃m,R.length=m:=⟨_,rfl⟩;have HM:=kd hm;obtain⟨va,vc,hv⟩:=hR.Ap;rw[hm] at hv hl;subst hv;clear hf hR hm p9;go_enter func147,ntmps147;go_wp2_with fail;refine(Kk n w hn).mono ?_;rintro e w1 ⟨rfl,EK,j4⟩;have IC:=kd (And.intro EK j4);clear EK j4;go_wp2_with fail;go_loopw [18] (λ s18 wq=>∃k:Nat,k<=m/\s18=k/\Aa wq (w+1) w (joins (List.range n) ((R.take k).filter (kp inn)))/\Below w w wq) (λ s18 _=>m-(intOf s18).toNat)
  case atStart=>exact⟨0,aN _,rfl,IC.o.1,IC.o.2⟩
  case round=>
   clear IC;obtain⟨k,hk,rfl,hs,hb⟩:=hrel;have HS:=kd hs;have HB:=kd hb;clear hs hb;by_cases j6:k<m
   ·obtain⟨x0,x1,x2,hx⟩:∃x0 x1 x2,R[k]? =some (x0,x1,x2):=⟨_,_,_,aB (by rw[HM.o];exact j6)⟩
    have HX:=kd hx;obtain⟨g,EF⟩:∃g,va=some ⟨g,0,none⟩:=by
     rcases HR.o.1.shape with⟨_,e⟩|⟨g,cap,e,_⟩
     ·rw[e] at hx;simp at hx
     ·injection e with e1 _ _
      exact⟨g,e1⟩
    obtain⟨r0,r1,r2⟩:=(HR.o.1.below HB.o).at (g:=g) (by rw[EF];rfl) hx;have DU:=HR.o.2 _ (aG hx);obtain⟨xa,IQ⟩:∃xa,ea (x0,x1,x2)=xa:=⟨_,rfl⟩;obtain⟨xb,GA⟩:∃xb,eb (x0,x1,x2)=xb:=⟨_,rfl⟩;rw[IQ,GA] at DU;obtain⟨OQ,LG,h1,h2⟩:=DU;simp only at h1 h2;subst h1;subst h2;have HE:=kd (And.intro IQ GA);have r0':wr.cell? (g,k*3)=x0:=r0;have r1':wr.cell? (g,k*3+1)=xa:=r1;have r2':wr.cell? (g,k*3+2)=xb:=r2;clear r0 r1 r2 hx IQ GA;subst EF;have j4:Below wr wr (wr.alloc (.cells #[x0,xa,xb] 61)):=b_;have x8:Hid (Below w w (wr.alloc (.cells #[x0,xa,xb] 61))):=HB.o.tr j4;have VA:Hid (Aa (wr.alloc (.cells #[x0,xa,xb] 61)) (w+1) w (joins (List.range n) ((R.take k).filter (kp inn)))):=HS.o.below j4 HS.o.plt HS.o.blt;have BV:(wr.alloc (.cells #[x0,xa,xb] 61)).cell? (wr,1)=xa:=by simp
    have IZ:(wr.alloc (.cells #[x0,xa,xb] 61)).cell? (wr,2)=xb:=by simp
    clear j4;cases YO:inn xa with
    |true=>
     cases hib:inn xb with
     |true=>
      as_aux_lemma=>
      have HK:Hid (kp inn (x0,(xa:Int),(xb:Int))=true):=by
       show kp inn (x0,(xa:Int),(xb:Int))=true;unfold kp;rw[HE.o.1,HE.o.2,YO,hib];rfl
      go_wp2_with fail;refine(HF.o _ xa x8.o).mono ?_;rintro e w2 ⟨rfl,rfl⟩;rw[YO];go_wp2_with fail;refine(HF.o _ xb x8.o).mono ?_;rintro e w2 ⟨rfl,rfl⟩;rw[hib];go_wp2_with fail;have g:=zg1 HR.o.2 k inn;refine(Nw xa xb (w+1) w _ _ VA.o (by rw[g.len];exact OQ) (by rw[g.len];exact LG) (by rw[g.len];exact hn)).mono ?_;rintro e w3 ⟨rfl,OT,y8⟩;have YA:Hid (Aa w3 (w+1) w (joins (List.range n) ((R.take (k+1)).filter (kp inn)))/\Below w w w3):=by
       refine⟨?_,x8.o.trans (y8.below (aF _) x8.o.size)⟩;rw[Wh (kp inn) HX.o,HK.o,aP rfl,Pn,HE.o.1,HE.o.2];exact OT
      clear OT y8 g VA HS HB x8 BV IZ YO hib r0' r1' r2';go_wp2_with fail;go_roundw;case rel=>exact⟨k+1,by omega,by go_num,YA.o.1,YA.o.2⟩
      case measure=>simp[intOf];omega
     |false=>
      as_aux_lemma=>
      have HK:Hid (Aa (wr.alloc (.cells #[x0,xa,xb] 61)) (w+1) w (joins (List.range n) ((R.take (k+1)).filter (kp inn)))):=by
       have:kp inn (x0,(xa:Int),(xb:Int))=false:=by unfold kp;rw[HE.o.1,HE.o.2,YO,hib];rfl
       have h2:=VA.o;show Aa _ _ _ _;rw[Wh (kp inn) HX.o,this]
       simpa using h2
      go_wp2_with fail;refine(HF.o _ xa x8.o).mono ?_;rintro e w2 ⟨rfl,rfl⟩;rw[YO];go_wp2_with fail;refine(HF.o _ xb x8.o).mono ?_;rintro e w2 ⟨rfl,rfl⟩;rw[hib];clear YO hib;go_wp2_with fail;go_roundw;case rel=>exact⟨k+1,by omega,by go_num,HK.o,x8.o⟩
      case measure=>simp[intOf];omega
    |false=>
     as_aux_lemma=>
     have HK:Hid (Aa (wr.alloc (.cells #[x0,xa,xb] 61)) (w+1) w (joins (List.range n) ((R.take (k+1)).filter (kp inn)))):=by
      have:kp inn (x0,(xa:Int),(xb:Int))=false:=by unfold kp;rw[HE.o.1,HE.o.2,YO];rfl
      have h2:=VA.o;show Aa _ _ _ _;rw[Wh (kp inn) HX.o,this]
      simpa using h2
     go_wp2_with fail;refine(HF.o _ xa x8.o).mono ?_;rintro e w2 ⟨rfl,rfl⟩;rw[YO];clear YO;go_wp2_with fail;go_roundw;case rel=>exact⟨k+1,by omega,by go_num,HK.o,x8.o⟩
     case measure=>simp[intOf];omega
   ·have CF:k=m:=by omega
    have YA:Hid (Aa wr (w+1) w (joins (List.range n) (R.filter (kp inn)))):=by
     have h2:=HS.o;rw[CF,<-HM.o,bK] at h2;exact h2
    clear CF HS;go_wp2_with fail;go_ret;exact⟨_,_,rfl,YA.o,by omega,by omega,HB.o⟩
theorem jo (n B0 c1:Nat)(inn:Nat->Bool)(u:Value)(R:List (Int × Int × Int))(w:World)(hR:G.Ad w B0 61 u R)(hn:n<=40)(p9:Inn n R)(hl:R.length<=120)
 (hf:∀W (x:Nat),Below w w W->Calls prog 148 #[x,.pointer c1] W λ e w'=>e=Value.bool (inn x)/\w'=W):
 Calls prog 147 #[n,u,.func (.func 148) #[] #[.pointer c1]] w (Rk w n R inn):=Qw n B0 148 _ (.inl ⟨c1,rfl,rfl⟩) inn u R w hR hn p9 hl hf
theorem fq (n B0 c1 c2:Nat)(inn:Nat->Bool)(u:Value)(R:List (Int × Int × Int))(w:World)(hR:G.Ad w B0 61 u R)(hn:n<=40)(p9:Inn n R)(hl:R.length<=120)
 (hf:∀W (x:Nat),Below w w W->Calls prog 149 #[x,.pointer c1,.pointer c2] W λ e w'=>e=Value.bool (inn x)/\w'=W):
 Calls prog 147 #[n,u,.func (.func 149) #[] #[.pointer c1,.pointer c2]] w (Rk w n R inn):=Qw n B0 149 _ (.inr ⟨c1,c2,rfl,rfl⟩) inn u R w hR hn p9 hl hf
theorem ztt:laidOutB prog=true:=by kernel_rfl
theorem zis:292<prog.types.size:=dH (by kernel_rfl)
theorem zou:(match prog.underlying 292 with|some (.array _ _)|some (.struct _)=>true|_=>false)=true:=by kernel_rfl
theorem Nq:Keyed prog 292:=Keyed.of_law (deep_law_laid ztt (m:=2) (by omega) zis (by kernel_rfl) zou)
theorem zty:prog.keyType 292=true:=by kernel_rfl
theorem zu3 (p q:Int):(Value.agg #[p,q]).formed prog 292=true:=by kernel_rfl
theorem zt6:prog.cellsOf 292=2:=by kernel_rfl
theorem zut:prog.cellsOf 3=1:=by kernel_rfl
theorem zvn:∃m,prog.types.size=m+1:=⟨prog.types.size-1,by have:=zis;omega⟩
theorem ze0 {x:Int}(h0:0<=x)(h1:x<=1000000):(Lit.int .i64 x).wf=true:=WalkArith.wf_i64 (by omega)
theorem Wq (w:World):(zeroValue 3).run prog w= .ok (0:Int) w:=by kernel_rfl
theorem zc8 {P:Program} {k t m:Nat} {f1 f2:Field} (hu:P.underlying k=some (.struct #[f1,f2])) (h1:f1.type=t) (h2:f2.type=t) (o1:f1.offset=0) (o2:f2.offset=1) (n1:(f1.name != "_")=true) (n2:(f2.name != "_")=true) (ht:P.underlying t=some (.int .i64)) (ck:P.cellsOf k=2) (ct:P.cellsOf t=1) (hs:P.types.size=m+1) (hkt:P.keyType k=true)
 {p q:Int} (hf:(Value.agg #[p,q]).formed P k=true) (hp:(Lit.int .i64 p).wf=true) (hq:(Lit.int .i64 q).wf=true):keyOf P k (.agg #[p,q])=some (.string (keyBytes [p,q])):=by
 unfold keyOf;rw[hu];simp only[hkt,hf,kS,kM,hs];have e1:∀x:Int,(Lit.int .i64 x).wf=true->P.keyLits (m+1) t [x]=some [.int .i64 x]:=λ x hx=>by simp[Program.keyLits,ht,hx]
 have:P.keyLits (m+1+1) k (Value.agg #[p,q]).cells.toList=some [.int .i64 p,.int .i64 q]:=by
  unfold Program.keyLits;rw[hu];simp[Value.cells,ck,n1,n2,h1,h2,o1,o2,ct,e1 p hp,e1 q hq]
 rw[this];rfl
def wk (p q:Nat):Lit:=.string (keyBytes [p,q])
theorem wh (p q:Nat)(hp:p<=1000)(hq:q<=1000):keyOf prog 292 (.agg #[p,q])=some (wk p q):=by
 obtain⟨m,hm⟩:=zvn;exact zc8 underlying292 rfl rfl rfl rfl rfl rfl underlying3 zt6 zut hm zty (zu3 p q) (ze0 (by omega) (by omega)) (ze0 (by omega) (by omega))
theorem zie {p q p' q':Nat}(hp:p<=1000)(hq:q<=1000)(hp':p'<=1000)(hq':q'<=1000)(h:wk p q=wk p' q'):p=p'/\q=q':=by
 have:=Nq.inj (wh p q hp hq) (h▸wh p' q' hp' hq');simp at this;omega
theorem Z8 (p q:Nat):WideAt.IsKeyLit (wk p q):=trivial
structure Wm (l1 l2 l3:List Nat) (x:Nat) (D:DataW Unit):Prop where
 key:∀kl,Maps.has D kl=true↔∃i,i<x/\kl=wk (l1.getD i 0) (l2.getD i 0)
 val:∀i,i<x->∀zd,D.atKey (wk (l1.getD i 0) (l2.getD i 0)) zd= .lit (.int .i64 ((l3.getD i 0:Nat):Int))
 tidy:Tidy D
 same:∀i j,i<x->j<x->l1.getD i 0=l1.getD j 0->l2.getD i 0=l2.getD j 0->l3.getD i 0=l3.getD j 0
section
variable {l1 l2 l3:List Nat} {x:Nat} {D:DataW Unit}
theorem Wm.start (l1 l2 l3:List Nat):Wm l1 l2 l3 0 (.map []):=⟨λ kl=>by simp[Maps.has],λ i hi=>by omega,tidy_empty,λ i j hi=>by omega⟩
theorem Wm.put (h:Wm l1 l2 l3 x D)(sm:∀i,i<=x->l1.getD i 0<=1000/\l2.getD i 0<=1000)(hs:∀i,i<x->l1.getD i 0=l1.getD x 0->l2.getD i 0=l2.getD x 0->l3.getD i 0=l3.getD x 0):
 Wm l1 l2 l3 (x+1) (D.put (wk (l1.getD x 0) (l2.getD x 0)) (.lit ((l3.getD x 0:Nat):Int))):=by
 refine⟨λ kl=>?_,λ i hi zd=>?_,h.tidy.put (Z8 _ _) _,λ i j hi hj e1 e2=>?_⟩
 ·by_cases e:kl=wk (l1.getD x 0) (l2.getD x 0)
  ·rw[e,has_put_same h.tidy.isMap (Z8 _ _)]
   exact⟨λ _=>⟨x,by omega,rfl⟩,λ _=>rfl⟩
  ·rw[has_put_other e,h.key]
   constructor
   ·rintro⟨i,hi,k⟩;exact⟨i,by omega,k⟩
   ·rintro⟨i,hi,k⟩
    refine⟨i,?_,k⟩;have:i≠x:=λ e'=>e (by rw[k,e'])
    omega
 ·by_cases e:wk (l1.getD i 0) (l2.getD i 0)=wk (l1.getD x 0) (l2.getD x 0)
  ·have sx:=sm x (by omega)
   have si:=sm i (by omega);obtain⟨e1,e2⟩:=zie si.1 si.2 sx.1 sx.2 e;rw[e,atKey_put_same h.tidy.isMap (Z8 _ _)];by_cases SB:i=x
   ·rw[SB]
   ·rw[hs i (by omega) e1 e2]
  ·have SB:i≠x:=λ e'=>e (by rw[e'])
   rw[atKey_put_other e];exact h.val i (by omega) zd
 ·by_cases hi':i=x
  ·by_cases hj':j=x
   ·rw[hi',hj']
   ·subst hi'
    exact(hs j (by omega) e1.symm e2.symm).symm
  ·by_cases hj':j=x
   ·subst hj'
    exact hs i (by omega) e1 e2
   ·exact h.same i j (by omega) (by omega) e1 e2
end
theorem zh2 (w:World)(b i:Nat)(v:Value):w.grownBy (w.setCell (b,i) v) (some b):=
 ⟨rfl,rfl,rfl,by simp,λ k _ l9=>aV _ _ _ _ (λ e=>l9 (by rw[e]))⟩
theorem Xq (x p b:Nat)(L:List Nat)(w:World)(hs:Aa w p b L)(hx:x<L.length):
 Calls prog 247 #[.pointer p,x] w λ e w'=>e=Value.tuple #[((L.getD x 0:Nat):Int),.nilIface]/\Below w w w':=by
 have:=yw (x:Int) p b L w hs (by omega) (by omega)
 simpa using this
theorem zga {W:World}{bx t:Nat}{x y:Value}(h:W.heap[bx]? =some (.cells #[x,y] t))(v:Value):(W.setCell bx v).heap[bx]? =some (.cells #[v,y] t):=by
 simp only[World.setCell,dC,h];simp
theorem zdu {W:World}{bx t:Nat}{x y:Value}(h:W.heap[bx]? =some (.cells #[x,y] t))(v:Value):(W.setCell (bx,1) v).heap[bx]? =some (.cells #[x,v] t):=by
 simp only[World.setCell,dC,h];simp
structure Pt (w0 W:World) (p1 b1 p2 b2 p3 b3 m N:Nat) (l1 l2 l3:List Nat) (D:DataW Unit):Prop where
 s1:Aa W p1 b1 l1
 s2:Aa W p2 b2 l2
 s3:Aa W p3 b3 l3
 lt:p1<w0/\b1<w0/\p2<w0/\b2<w0/\p3<w0/\b3<w0
 own:W.ownsMap prog 292 (plainElem prog 3) m N D
 below:Below w0 w0 W
section
variable {w0 W W':World} {p1 b1 p2 b2 p3 b3 m N:Nat} {l1 l2 l3:List Nat} {D:DataW Unit}
theorem Pt.below' (h:Pt w0 W p1 b1 p2 b2 p3 b3 m N l1 l2 l3 D)(hb:Below W W W'):Pt w0 W' p1 b1 p2 b2 p3 b3 m N l1 l2 l3 D:=
 ⟨h.s1.below hb h.s1.plt h.s1.blt,h.s2.below hb h.s2.plt h.s2.blt,h.s3.below hb h.s3.plt h.s3.blt,h.lt,h.own.kept (Ai hb) (by simp),h.below.tr hb⟩
theorem Pt.set (h:Pt w0 W p1 b1 p2 b2 p3 b3 m N l1 l2 l3 D){bx:Nat}(hx:w0<=bx)(hm:bx≠m)(i:Nat)(v:Value):Pt w0 (W.setCell (bx,i) v) p1 b1 p2 b2 p3 b3 m N l1 l2 l3 D:=by
 have j6:=h.lt;have hb:Below w0 W (W.setCell (bx,i) v):=⟨rfl,rfl,rfl,by simp,λ k hk=>aV _ _ _ _ (show k≠bx by omega)⟩;exact⟨h.s1.below hb j6.1 j6.2.1,h.s2.below hb j6.2.2.1 j6.2.2.2.1,h.s3.below hb j6.2.2.2.2.1 j6.2.2.2.2.2,h.lt,h.own.kept (zh2 W bx i v) (by simp;omega),h.below.trans hb⟩
theorem Pt.upd (h:Pt w0 W p1 b1 p2 b2 p3 b3 w0 N l1 l2 l3 D){N':Nat}{D':DataW Unit}(ho:W'.ownsMap prog 292 (plainElem prog 3) w0 N' D')(hg:W.grownBy W' (some w0.heap.size)):Pt w0 W' p1 b1 p2 b2 p3 b3 w0 N' l1 l2 l3 D':=by
 have j6:=h.lt;have hb:Below w0 W W':=⟨hg.os,hg.tape,hg.output,hg.size,λ k hk=>hg.block k (aR hk h.below.size) (by simp;omega)⟩;exact⟨h.s1.below hb j6.1 j6.2.1,h.s2.below hb j6.2.2.1 j6.2.2.2.1,h.s3.below hb j6.2.2.2.2.1 j6.2.2.2.2.2,h.lt,ho,h.below.trans hb⟩
end
theorem zk8 (n p1 b1 p2 b2 p3 b3:Nat)(l1 l2 l3:List Nat)(ok:Bool)(w:World)(h1:Aa w p1 b1 l1)(h2:Aa w p2 b2 l2)(h3:Aa w p3 b3 l3)(hn:n<=40)(g1:Good n l1)(g2:Good n l2)(g3:Good n l3)
 (p8:ok=true↔∃x y,x<n/\y<n/\l1.getD x 0=l1.getD y 0/\l2.getD x 0=l2.getD y 0/\l3.getD x 0≠l3.getD y 0):
 Calls prog 150 #[n,.pointer p1,.pointer p2,.pointer p3] w λ e w'=>e=ok/\Below w w w':=by
 have II:=kd p8;have HG:Hid (Good n l1/\Good n l2/\Good n l3):=⟨g1,g2,g3⟩;have HS:Hid (Pt w (w.alloc (.map #[] 0)) p1 b1 p2 b2 p3 b3 w 0 l1 l2 l3 (.map [])):=by
  have hb:Below w w (w.alloc (.map #[] 0)):=b_;exact⟨h1.below hb h1.plt h1.blt,h2.below hb h2.plt h2.blt,h3.below hb h3.plt h3.blt,⟨h1.plt,h1.blt,h2.plt,h2.blt,h3.plt,h3.blt⟩,World.ownsMap_made w _ _ _,hb⟩
 have FC:=@run_makeMap prog;clear h1 h2 h3 g1 g2 g3 p8;go_enter func150,ntmps150;go_wp2_with fail;clear FC;go_loopw [18] (λ s18 wq=>∃(x:Nat) (D:DataW Unit),x<=n/\s18=x/\Pt w wq p1 b1 p2 b2 p3 b3 w x l1 l2 l3 D/\Wm l1 l2 l3 x D) (λ s18 _=>n-(intOf s18).toNat)
 case atStart=>exact⟨0,_,aN _,rfl,HS.o,Wm.start l1 l2 l3⟩
 case round=>
  clear HS;obtain⟨x,D,hx,rfl,hpt,hwm⟩:=hrel;have HP:=kd hpt;have HW:=kd hwm;clear hpt hwm;by_cases j6:x<n
  ·have hmw:w.heap.size<wr.heap.size:=by
    obtain⟨es,clock,hb,_⟩:=HP.o.own;exact lt_of_some hb
   have HP1:Hid (Pt w (wr.alloc (.cells #[(0:Int),(0:Int)] 292)) p1 b1 p2 b2 p3 b3 w x l1 l2 l3 D):=HP.o.below' (b_);obtain⟨k1,GH⟩:∃k1,l1.getD x 0=k1:=⟨_,rfl⟩;obtain⟨k2,CK⟩:∃k2,l2.getD x 0=k2:=⟨_,rfl⟩;obtain⟨k3,UW⟩:∃k3,l3.getD x 0=k3:=⟨_,rfl⟩;have HK:Hid (l1.getD x 0=k1/\l2.getD x 0=k2/\l3.getD x 0=k3):=⟨GH,CK,UW⟩;have hk1l:k1<=x:=by rw[<-GH];exact HG.o.1.le x j6
   have hk2l:k2<=x:=by rw[<-CK];exact HG.o.2.1.le x j6
   have hk3l:k3<=x:=by rw[<-UW];exact HG.o.2.2.le x j6
   obtain⟨bx,BF⟩:∃bx,wr.heap.size=bx:=⟨_,rfl⟩;obtain⟨W1,AJ⟩:∃W1,wr.alloc (.cells #[(0:Int),(0:Int)] 292)=W1:=⟨_,rfl⟩;have c1:W1.heap[bx]? =some (.cells #[(0:Int),(0:Int)] 292):=by rw[<-AJ,<-BF];exact aQ wr _
   rw[AJ] at HP1;rw[BF] at hmw;go_upto_region 6 with fail
   try rw[AJ,BF]
   have CX:=kd BF;clear BF AJ;go_wp2_with fail;refine(Xq x p1 b1 l1 _ HP1.o.s1 (by rw[HG.o.1.len];exact j6)).mono ?_;rintro e W2 ⟨rfl,j5⟩;rw[HK.o.1];have HP2:Hid (Pt w W2 p1 b1 p2 b2 p3 b3 w x l1 l2 l3 D):=HP1.o.below' j5;have c2:W2.heap[bx]? =some (.cells #[(0:Int),(0:Int)] 292):=(j5.block bx (lt_of_some c1)).trans c1;have q0:W2.cell? bx=(0:Int):=by simp[World.cell?,c2]
   have f0:W2.frozen? bx=false:=by simp[World.frozen?,c2]
   obtain⟨W3,FI⟩:∃W3,W2.setCell bx k1=W3:=⟨_,rfl⟩;have HP3:Hid (Pt w W3 p1 b1 p2 b2 p3 b3 w x l1 l2 l3 D):=by rw[<-FI];exact HP2.o.set (by omega) (by omega) 0 _
   have c3:W3.heap[bx]? =some (.cells #[k1,(0:Int)] 292):=by
    rw[<-FI];exact zga c2 _
   clear HP1 HP2 j5 c1 c2;go_upto_region 7 with fail
   try rw[FI]
   clear FI q0 f0;go_wp2_with fail;refine(Xq x p2 b2 l2 _ HP3.o.s2 (by rw[HG.o.2.1.len];exact j6)).mono ?_;rintro e W4 ⟨rfl,BB⟩;rw[HK.o.2.1];have QR:Hid (Pt w W4 p1 b1 p2 b2 p3 b3 w x l1 l2 l3 D):=HP3.o.below' BB;have c4:W4.heap[bx]? =some (.cells #[k1,(0:Int)] 292):=(BB.block bx (lt_of_some c3)).trans c3;have q0:W4.cell? (bx,1)=(0:Int):=by simp[World.cell?,c4]
   have f0:W4.frozen? (bx,1)=false:=by simp[World.frozen?,c4]
   obtain⟨W5,YP⟩:∃W5,W4.setCell (bx,1) k2=W5:=⟨_,rfl⟩;have HP5:Hid (Pt w W5 p1 b1 p2 b2 p3 b3 w x l1 l2 l3 D):=by rw[<-YP];exact QR.o.set (by omega) (by omega) 1 _
   have c5:W5.heap[bx]? =some (.cells #[k1,k2] 292):=by
    rw[<-YP];exact zdu c4 _
   clear HP3 QR BB c3 c4;go_upto_region 8 with fail
   try rw[YP]
   clear YP q0 f0;go_wp2_with fail;refine(Xq x p3 b3 l3 _ HP5.o.s3 (by rw[HG.o.2.2.len];exact j6)).mono ?_;rintro e W6 ⟨rfl,FJ⟩;rw[HK.o.2.2];have HP6:Hid (Pt w W6 p1 b1 p2 b2 p3 b3 w x l1 l2 l3 D):=HP5.o.below' FJ;have c6:W6.heap[bx]? =some (.cells #[k1,k2] 292):=(FJ.block bx (lt_of_some c5)).trans c5;have q0:W6.cell? bx=k1:=by simp[World.cell?,c6]
   have q1:W6.cell? (bx,1)=k2:=by simp[World.cell?,c6]
   have o8:=HP6.o.own;have o9:=wh k1 k2 (by omega) (by omega);have SM:Hid (∀i,i<=x->l1.getD i 0<=1000/\l2.getD i 0<=1000):=λ i hi=>by
    have e1:=HG.o.1.le i (by omega);have e2:=HG.o.2.1.le i (by omega);omega
   clear HP5 FJ c5 c6 GH CK UW;cases hh:Maps.has D (wk k1 k2) with
   |false=>
    as_aux_lemma=>
    have HN:Hid (Wm l1 l2 l3 (x+1) (D.put (wk k1 k2) (.lit k3))):=by
     have:=HW.o.put SM.o (λ i hi e1 e2=>by
      have:Maps.has D (wk k1 k2)=true:=(HW.o.key _).2 ⟨i,hi,by rw[e1,e2,HK.o.1,HK.o.2.1]⟩;rw[hh] at this;cases this)
     rw[HK.o.1,HK.o.2.1,HK.o.2.2] at this;exact this
    go_wp2_with (first
     |(at_lookup;refine wpList_lookup_own_ok_int _ rfl _ _ 290 rfl 292 3 .i64 Nq underlying290 underlying3 (Wq _) w.heap.size x D rfl o8 _ _ rfl o9 ?_;intro c q9 NA;rw[hh];clear q9 NA)
     |(at_mapUpdate;refine wpList_mapUpdate_own _ rfl _ _ _ 290 rfl 292 3 Nq underlying290 (plainElem prog 3) w.heap.size x D rfl o8 (by unfold maxLen;omega) _ _ _ rfl rfl o9 _ [] (plainElem_int underlying3 (a:=(k3:Int)) (ze0 (by omega) (by omega))) ?_;intro w8 FY CL)
     |fail)
    have HP8:Hid (Pt w w8 p1 b1 p2 b2 p3 b3 w (x+1) l1 l2 l3 (D.put (wk k1 k2) (.lit k3))):=HP6.o.upd FY CL;clear FY CL;go_wp2_with fail;go_roundw;case rel=>exact⟨x+1,_,by omega,by go_num,HP8.o,HN.o⟩
    case measure=>simp[intOf];omega
   |true=>
    obtain⟨i,hi,TP⟩:=(HW.o.key _).1 hh;obtain⟨e1,e2⟩:=zie (by omega) (by omega) (SM.o i (by omega)).1 (SM.o i (by omega)).2 TP;have HV:Hid (∀c:Int,D.atKey (wk k1 k2) (.lit (0:Int))= .lit c->c=((l3.getD i 0:Nat):Int)):=λ c hc=>by
     have:=HW.o.val i hi (.lit (0:Int));rw[<-TP,hc] at this;exact(lI (kT this)).2
    have HI:=kd (And.intro e1.symm e2.symm);obtain⟨j3,hj3⟩:∃j3,l3.getD i 0=j3:=⟨_,rfl⟩;have HJ:=kd hj3;rw[hj3] at HV;clear TP e1 e2 hj3;by_cases h3:j3=k3
    ·as_aux_lemma=>
     subst h3;have y8:((j3:Int)==(j3:Int))=true:=by simp
     have HN:Hid (Wm l1 l2 l3 (x+1) (D.put (wk k1 k2) (.lit j3))):=by
      have:=HW.o.put SM.o (λ i' hi' e1 e2=>by
       rw[HK.o.2.2,HW.o.same i' i hi' hi (by rw[e1,HK.o.1,HI.o.1]) (by rw[e2,HK.o.2.1,HI.o.2])];exact HJ.o)
      rw[HK.o.1,HK.o.2.1,HK.o.2.2] at this;exact this
     go_wp2_with (first
      |(at_lookup;refine wpList_lookup_own_ok_int _ rfl _ _ 290 rfl 292 3 .i64 Nq underlying290 underlying3 (Wq _) w.heap.size x D rfl o8 _ _ rfl o9 ?_;intro c q9 NA;obtain rfl:=HV.o c q9;rw[hh];clear q9 NA)
      |(at_mapUpdate;refine wpList_mapUpdate_own _ rfl _ _ _ 290 rfl 292 3 Nq underlying290 (plainElem prog 3) w.heap.size x D rfl o8 (by unfold maxLen;omega) _ _ _ rfl rfl o9 _ [] (plainElem_int underlying3 (a:=(j3:Int)) (ze0 (by omega) (by omega))) ?_;intro w8 FY CL)
      |fail)
     have HP8:Hid (Pt w w8 p1 b1 p2 b2 p3 b3 w (x+1) l1 l2 l3 (D.put (wk k1 k2) (.lit j3))):=HP6.o.upd FY CL;clear FY CL;go_wp2_with fail;go_roundw;case rel=>exact⟨x+1,_,by omega,by go_num,HP8.o,HN.o⟩
     case measure=>simp[intOf];omega
    ·as_aux_lemma=>
     have y8:((j3:Int)==(k3:Int))=false:=aH.2 (by omega);have HO:Hid (ok=true):=II.o.2 ⟨i,x,by omega,j6,by rw[HI.o.1,HK.o.1],by rw[HI.o.2,HK.o.2.1],by rw[HJ.o,HK.o.2.2];exact h3⟩;go_wp2_with (first
      |(at_lookup;refine wpList_lookup_own_ok_int _ rfl _ _ 290 rfl 292 3 .i64 Nq underlying290 underlying3 (Wq _) w.heap.size x D rfl o8 _ _ rfl o9 ?_;intro c q9 NA;obtain rfl:=HV.o c q9;rw[hh];clear q9 NA)
      |fail)
     go_ret;exact⟨by rw[HO.o];rfl,HP6.o.below⟩
  ·have DK:x=n:=by omega
   have HO:Hid (ok=false):=by
    rw[fG];intro hc;obtain⟨x',y',hx',hy',e1,e2,e3⟩:=II.o.1 hc;exact e3 (HW.o.same x' y' (by omega) (by omega) e1 e2)
   clear DK;go_wp2_with fail;go_ret;exact⟨by rw[HO.o];rfl,HP.o.below⟩
end Go.Proofs.Y.S.X
namespace Go.Proofs.Y.S.X
open Go.RowKit Go.WideMaps Go.Maps Go.Proofs.Tryz
theorem Aq.mono {w:World}{B B':Nat}{v:Value}{L:List (Nat × Nat)}(h:Aq w B v L)(hB:B'<=B):Aq w B' v L:=by
 refine⟨h.1,?_⟩;rcases h.2 with hh|⟨g,cap,cur,h1,h2,h3,h4⟩
 ·exact Or.inl hh
 ·exact Or.inr ⟨g,cap,cur,h1,by omega,h3,h4⟩
theorem Tq (ty:TypeId)(w:World)(B:Nat)(v:Value)(L M:List (Nat × Nat))(h:Aq w B v L)(hB:B<=w)(a:Addr)(m c:Nat)(hm:m=M.length)(hM:∀j u,(rowP M)[j]? =some u->w.cell? (a.add j)=some u)(hl:L.length+M.length<=100000):
 ∃v' w',(Builtin.append_ #[65,65] ty #[v,.slice (some a) m c]).run prog w= .ok v' w'/\Aq w' B v' (L++M)/\w.grownBy w' v.ownBlock/\G.Dm w v v':=by
 subst hm;obtain⟨i,hi,hs,hb,hz⟩:=zop;have own:∀B',Aq w B' v L->B'<=w.heap.size->∃v' w',(Builtin.append_ #[65,65] ty #[v,.slice (some a) M.length c]).run prog w= .ok v' w'/\Aq w' B' v' (L++M)/\w.grownBy w' v.ownBlock:=by
  intro B' h' hB';obtain⟨v',w',h1,h2,h3,_⟩:=kJ (P:=prog) w B' 65 ty 180 i zP 2 16 underlying65 hi hz hs hb (by rw[Sy];rfl) (by omega) v L.length (rowP L) h' a M.length c (rowP M) (Bf M) hM (Ik M) (by simp only[maxLen];omega) (by omega) hB';refine⟨v',w',h1,?_,h3⟩;show w'.ownsRow B' 180 2 v' (L++M).length (rowP (L++M));rw[aM,rowP_append];exact h2
 rcases h.2 with⟨rfl,h0⟩|⟨g,cap,cur,rfl,h1,h2,h3,h4,h5,h6⟩
 ·have hL:L=[]:=bV h0
  subst hL;obtain⟨v',w',e1,e2,e3⟩:=own w (aX w _ 180 2) (aF _);exact⟨v',w',e1,e2.mono hB,e3,λ k hk=>Or.inr (aU e2 k hk).1⟩
 ·obtain⟨v',w',e1,e2,e3⟩:=own B h hB
  refine⟨v',w',e1,e2,e3,?_⟩;by_cases FB:L.length+M.length<=cap
  ·have hr:=iX (P:=prog) w 65 ty 180 i underlying65 hi g L.length cap cur h2 a M.length c (rowP M) (by rw[hs];exact Bf M) hM (Ik M) FB (by rw[hs,h5,Bf];omega)
   rw[hr] at e1;injection e1 with e1 _
   subst e1;intro k hk;exact Or.inl hk
  ·have hr:=kD (P:=prog) w 65 ty 180 i zP underlying65 hi hz g L.length cap (rowP L) (by rw[hs];exact Bf L) (bQ h rfl) a M.length c (rowP M) (by rw[hs];exact Bf M) hM (by omega) (by omega) (jG (by omega) (by rw[hb];omega))
   rw[hr] at e1;injection e1 with e1 _
   subst e1;intro k hk;have hk':w.heap.size=k:=by simpa[Value.ownBlock] using hk
   exact Or.inr (by omega)
theorem Kt (ty:TypeId)(W:World)(B:Nat)(u:Value)(M:List (Nat × Nat))(x y:Nat)(h:Aq W B u M)(hB:B<=W)(hl:M.length<=10000):
 ∃v' w',(Builtin.append_ #[65,65] ty #[u,.slice W 1 1]).run prog (W.alloc (.cells #[x,y] 180))= .ok v' w'/\Aq w' B v' (M++[(x,y)])/\W.grownBy w' u.ownBlock/\G.Dm W u v':=by
 have BF:Below W W (W.alloc (.cells #[x,y] 180)):=b_;obtain⟨v',w',h1,h2,h3,h4⟩:=Tq ty _ B u M [(x,y)] (h.below BF) (aD hB (by simp)) W 1 1 rfl (pair_cells W x y) (by simp;omega);refine⟨v',w',h1,h2,⟨h3.os.trans BF.os,h3.tape.trans BF.tape,h3.output.trans BF.output,aD BF.size h3.size,λ k hk hn=>(h3.block k (aR hk BF.size) hn).trans (BF.block k hk)⟩,λ k hk=>?_⟩;rcases h4 k hk with h5|h5
 ·exact Or.inl h5
 ·exact Or.inr (aD (by simp) h5)
def O6 (n:Nat)(R:List (Int × Int × Int))(i:Nat):List Nat:=joins (List.range n) (R.filter (kp λ x=>decide (x≠i)))
def zdi (n:Nat)(R:List (Int × Int × Int))(i j:Nat):List Nat:=joins (List.range n) (R.filter (kp λ x=>decide (x≠i/\x≠j)))
section
variable {n:Nat} {R:List (Int × Int × Int)}
theorem lw1 (p9:Inn n R)(i:Nat):Lw n R [i] (O6 n R i):=Z9 p9 _ (λ z=>by simp)
theorem lw2 (p9:Inn n R)(i j:Nat):Lw n R [i,j] (zdi n R i j):=Z9 p9 _ (λ z=>by simp)
theorem zaa (p9:Inn n R)(a b:Nat):Mt R n a b↔∃x y,x<n/\y<n/\(O6 n R a).getD x 0=(O6 n R a).getD y 0/\(O6 n R b).getD x 0=(O6 n R b).getD y 0/\(zdi n R a b).getD x 0≠(zdi n R a b).getD y 0:=by
 constructor
 ·rintro⟨x,y,hx,hy,h1,h2,h3⟩
  exact⟨x,y,hx,hy,((lw1 p9 a).iff x y hx hy).2 h1,((lw1 p9 b).iff x y hx hy).2 h2,λ k=>h3 (((lw2 p9 a b).iff x y hx hy).1 k)⟩
 ·rintro⟨x,y,hx,hy,h1,h2,h3⟩
  exact⟨x,y,hx,hy,((lw1 p9 a).iff x y hx hy).1 h1,((lw1 p9 b).iff x y hx hy).1 h2,λ k=>h3 (((lw2 p9 a b).iff x y hx hy).2 k)⟩
end
structure Al (w0 w:World) (A n k:Nat) (R:List (Int × Int × Int)):Prop where
 cell:∀i,i<k->∃p b,w.cell? ⟨A,i,none⟩=some (.pointer (some ⟨p,0,none⟩))/\Aa w p b (O6 n R i)/\p≠A/\b≠A
 rest:∀i,k<=i->i<n->w.cell? ⟨A,i,none⟩=some (.pointer none)
 fz:∀i,w.frozen? ⟨A,i,none⟩=false
 lt:A<w
 ge:w0<=A
 below:Below w0 w0 w
section
variable {w0 w w':World} {A n k:Nat} {R:List (Int × Int × Int)}
theorem Al.below' (h:Al w0 w A n k R)(hb:Below w w w'):Al w0 w' A n k R:=by
 refine⟨λ i hi=>?_,λ i h1 h2=>cell_below (h.rest i h1 h2) hb,λ i=>?_,aR h.lt hb.size,h.ge,h.below.tr hb⟩
 ·obtain⟨p,b,h1,h2,h3,h4⟩:=h.cell i hi
  exact⟨p,b,cell_below h1 hb,h2.below hb h2.plt h2.blt,h3,h4⟩
 ·have:=h.fz i
  simp only[World.frozen?] at this ⊢;rw[hb.block _ h.lt];exact this
theorem Al.step (h:Al w0 w A n k R)(hk:k<n){p b:Nat}(hs:Aa w p b (O6 n R k))(hp:p≠A)(hb:b≠A):Al w0 (w.setCell (A,k) (.pointer p)) A n (k+1) R:=by
 have hold:=h.rest k (aF _) hk;have keep':∀{v p b l},Aa w p b l->p≠A->b≠A->Aa (w.setCell (A,k) v) p b l:=λ {v p b l} h h1 h2=>⟨by rw[aV _ _ _ _ h1];exact h.hp,by rw[aV _ _ _ _ h2];exact h.hb⟩
 refine⟨λ i hi=>?_,λ i h1 h2=>?_,λ i=>?_,by simpa using h.lt,h.ge,h.below.trans ⟨rfl,rfl,rfl,by simp,λ j hj=>aV _ _ _ _ (show j≠A by have:=h.ge;omega)⟩⟩
 ·by_cases e:i=k
  ·subst e
   exact⟨p,b,fV _ _ _ hold,keep' hs hp hb,hp,hb⟩
  ·obtain⟨p',b',h1,h2,h3,h4⟩:=h.cell i (by omega)
   exact⟨p',b',(eD _ _ _ _ (λ c=>e (by injection c with _ c _;omega))).trans h1,keep' h2 h3 h4,h3,h4⟩
 ·exact(eD _ _ _ _ (λ c=>by injection c with _ c _;omega)).trans (h.rest i (by omega) h2)
 ·rw[eY];exact h.fz i
end
theorem Xi:(prog.info? 175).map (λ i=>(i.zero,i.size,i.bytes))=some (some (.pointer none),1,8):=by kernel_rfl
theorem zk7 (w0 W:World)(n:Nat)(R:List (Int × Int × Int))(hb:Below w0 w0 W):Al w0 (W.alloc (.cells (madeCells #[.pointer none] n) 175)) W n 0 R:=by
 have hh:=aQ W (.cells (madeCells #[.pointer none] n) 175);refine⟨λ i hi=>by omega,λ i _ hi=>?_,λ i=>?_,by simp,hb.size,hb.alloc hb.size _⟩
 ·simp only[World.cell?,hh]
  simp[madeCells,hi,Nat.mod_one]
 ·simp only[World.frozen?,hh];rfl
structure Pr (W1 w:World) (u:Value) (M:List (Nat × Nat)):Prop where
 own:Aq w W1 u M
 below:Below W1 W1 w
theorem Pr.below' {W1 w w':World}{u:Value}{M:List (Nat × Nat)}(h:Pr W1 w u M)(hb:Below w w w'):Pr W1 w' u M:=⟨h.own.below hb,h.below.tr hb⟩
structure B3 (W1 w:World) (ba bb a b:Nat) (u:Value) (M:List (Nat × Nat)):Prop where
 pr:Pr W1 w u M
 ca:w.heap[ba]? =some (.cells #[a] 3)
 cb:w.heap[bb]? =some (.cells #[b] 3)
 na:u.ownBlock≠some ba
 nb:u.ownBlock≠some bb
 ne:ba≠bb
 ga:W1<=ba
 gb:W1<=bb
section
variable {W1 w w':World} {ba bb a b:Nat} {u u':Value} {M:List (Nat × Nat)}
theorem B3.zd0 (h:B3 W1 w ba bb a b u M):w.cell? ba=a:=by simp[World.cell?,h.ca]
theorem B3.Kb (h:B3 W1 w ba bb a b u M):w.cell? bb=b:=by simp[World.cell?,h.cb]
theorem B3.below' (h:B3 W1 w ba bb a b u M)(hb:Below w w w'):B3 W1 w' ba bb a b u M:=
 {h with pr:=h.pr.below' hb,ca:=(hb.block _ (lt_of_some h.ca)).trans h.ca,cb:=(hb.block _ (lt_of_some h.cb)).trans h.cb}
theorem B3.start {M:List (Nat × Nat)}(h:Pr W1 w u M)(a:Nat):B3 W1 ((w.alloc (.cells #[a] 3)).alloc (.cells #[((a+1:Nat):Int)] 3)) w (w+1) a (a+1) u M:=by
 have h1:Below w w (w.alloc (.cells #[a] 3)):=b_;have h2:Below (w.alloc (.cells #[a] 3)).heap.size (w.alloc (.cells #[a] 3)) ((w.alloc (.cells #[a] 3)).alloc (.cells #[((a+1:Nat):Int)] 3)):=b_;have hc:=aQ w (.cells #[a] 3);have hd:=aQ (w.alloc (.cells #[a] 3)) (.cells #[((a+1:Nat):Int)] 3);rw[aT] at hd;have BS:=h.below.size;have j6:∀j,u.ownBlock=some j->j<w.heap.size:=λ j hj=>(aU h.own j hj).2
 exact⟨(h.below' h1).below' h2,(h2.block _ (lt_of_some hc)).trans hc,hd,λ e=>by have:=j6 _ e;omega,λ e=>by have:=j6 _ e;omega,by omega,by omega,by omega⟩
theorem B3.next (h:B3 W1 w ba bb a b u M):B3 W1 (w.alloc (.cells #[((b+1:Nat):Int)] 3)) ba w a (b+1) u M:=by
 have h1:Below w w (w.alloc (.cells #[((b+1:Nat):Int)] 3)):=b_;have hl:=lt_of_some h.ca;exact⟨h.pr.below' h1,(h1.block _ hl).trans h.ca,aQ w _,h.na,λ e=>by have:=(aU h.pr.own _ e).2;omega,by omega,h.ga,h.pr.below.size⟩
theorem B3.more (h:B3 W1 w ba bb a b u M)(ho:Aq w' W1 u' (M++[(a,b)]))(hg:w.grownBy w' u.ownBlock)(hf:G.Dm w u u'):B3 W1 w' ba bb a b u' (M++[(a,b)]):=by
 have hla:=lt_of_some h.ca;have RZ:=lt_of_some h.cb;refine⟨⟨ho,h.pr.below.grown hg h.pr.below.size (λ j hj=>(aU h.pr.own j hj).1)⟩,(hg.block _ hla (λ e=>h.na e.symm)).trans h.ca,(hg.block _ RZ (λ e=>h.nb e.symm)).trans h.cb,λ e=>?_,λ e=>?_,h.ne,h.ga,h.gb⟩
 ·rcases hf _ e with h1|h1
  ·exact h.na h1
  ·omega
 ·rcases hf _ e with h1|h1
  ·exact h.nb h1
  ·omega
end
end Go.Proofs.Y.S.X
namespace Go.Proofs.Y.S
open Go.RowKit Go.WideMaps Go.Maps F Go.Proofs.Tryz
theorem zrg:laidOutB prog=true:=by kernel_rfl
theorem zjb:346<prog.types.size:=dH (by kernel_rfl)
theorem zqd:(match prog.underlying 346 with|some (.array _ _)|some (.struct _)=>true|_=>false)=true:=by kernel_rfl
theorem I9:Keyed prog 346:=Keyed.of_law (deep_law_laid zrg (m:=3) (by omega) zjb (by kernel_rfl) zqd)
theorem zt7:prog.keyType 346=true:=by kernel_rfl
theorem zuq (x y z:Int):(Value.agg #[x,y,z]).formed prog 346=true:=by kernel_rfl
theorem zt8:prog.cellsOf 346=3:=by kernel_rfl
theorem co3':prog.cellsOf 3=1:=by kernel_rfl
theorem ztx:∃m,prog.types.size=m+1:=⟨prog.types.size-1,by have:=zjb;omega⟩
theorem Zq {P:Program} {k t m:Nat} {f1 f2 f3:Field} (hu:P.underlying k=some (.struct #[f1,f2,f3])) (h1:f1.type=t) (h2:f2.type=t) (h3:f3.type=t) (o1:f1.offset=0) (o2:f2.offset=1) (o3:f3.offset=2) (n1:(f1.name != "_")=true) (n2:(f2.name != "_")=true) (n3:(f3.name != "_")=true) (ht:P.underlying t=some (.int .i64)) (ck:P.cellsOf k=3) (ct:P.cellsOf t=1) (hs:P.types.size=m+1) (hkt:P.keyType k=true)
 {x y z:Int} (hf:(Value.agg #[x,y,z]).formed P k=true) (hx:(Lit.int .i64 x).wf=true) (hy:(Lit.int .i64 y).wf=true) (hz:(Lit.int .i64 z).wf=true):keyOf P k (.agg #[x,y,z])=some (.string (keyBytes [x,y,z])):=by
 unfold keyOf;rw[hu];simp only[hkt,hf,kS,kM,hs];have e1:∀x:Int,(Lit.int .i64 x).wf=true->P.keyLits (m+1) t [x]=some [.int .i64 x]:=λ x hx=>by simp[Program.keyLits,ht,hx]
 have:P.keyLits (m+1+1) k (Value.agg #[x,y,z]).cells.toList=some [.int .i64 x,.int .i64 y,.int .i64 z]:=by
  unfold Program.keyLits;rw[hu];simp[Value.cells,ck,n1,n2,n3,h1,h2,h3,o1,o2,o3,ct,e1 x hx,e1 y hy,e1 z hz]
 rw[this];rfl
def vS (s:Stp):Value:=.agg #[s.1,s.2.1,s.2.2]
def sk (s:Stp):Lit:=.string (keyBytes [s.1,s.2.1,s.2.2])
def wfS (s:Stp):Prop:=(Lit.int .i64 s.1).wf=true/\(Lit.int .i64 s.2.1).wf=true/\(Lit.int .i64 s.2.2).wf=true
theorem wfS.bk {s:Stp}(h:wfS s):wfS (bk s):=⟨h.1,h.2.2,h.2.1⟩
theorem Ia {s:Stp}(h:wfS s):keyOf prog 346 (vS s)=some (sk s):=by
 obtain⟨m,hm⟩:=ztx;exact Zq underlying346 rfl rfl rfl rfl rfl rfl rfl rfl rfl underlying3 zt8 co3' hm zt7 (zuq _ _ _) h.1 h.2.1 h.2.2
theorem Uu {s t:Stp}(hs:wfS s)(ht:wfS t)(h:sk s=sk t):s=t:=by
 have h1:=I9.inj (Ia hs) (h▸Ia ht);unfold vS at h1;simp at h1;exact kP h1.1 (kP h1.2.1 h1.2.2)
theorem Nr (s:Stp):WideAt.IsKeyLit (sk s):=trivial
structure Room (M:DataW Unit) (D:List Stp) (r:Stp->Int):Prop where
 key:∀kl,Maps.has M kl=true↔∃s,s∈D/\0<r s/\kl=sk s
 val:∀s,s∈D->0<r s->∀zd,M.atKey (sk s) zd= .lit (.int .i64 (r s))
 tidy:Tidy M
 wf:∀s,s∈D->wfS s
 pos:∀s,0<=r s
 small:∀s,r s<=1000000
section
variable {M:DataW Unit} {D:List Stp} {r:Stp->Int}
theorem Room.has (h:Room M D r){s:Stp}(hs:s∈D):Maps.has M (sk s)=decide (0<r s):=by
 rw[dV,h.key,dQ];constructor
 ·rintro⟨t,ht,h1,h2⟩
  rw[Uu (h.wf s hs) (h.wf t ht) h2];exact h1
 ·intro h1;exact⟨s,hs,h1,rfl⟩
theorem Room.at_ (h:Room M D r){s:Stp}(hs:s∈D):M.atKey (sk s) (.lit (0:Int))= .lit (r s:Int):=by
 by_cases h1:0<r s
 ·exact h.val s hs h1 _
 ·have h2:Maps.has M (sk s)=false:=by rw[h.has hs];exact bM h1
  rw[atKey_of_not_has h2];have:=h.pos s;have h3:r s=0:=by omega
  rw[h3]
theorem Room.look (h:Room M D r){s:Stp}(hs:s∈D){w:World}{rm N:Nat}(hm:w.ownsMap prog 346 (plainElem prog 3) rm N M):
 (Instr.lookup 377 (.map rm) (vS s) true).run prog w= .ok (.tuple #[(r s:Int),(decide (0<r s))]) w/\(Instr.lookup 377 (.map rm) (vS s) false).run prog w= .ok (r s:Int) w:=by
 have ZW:(Lit.int .i64 0).wf=true:=by decide
 obtain⟨v,ps,h1,h2⟩:=hm.look_ok I9 underlying377 (Gu w) (plainElem_int underlying3 ZW) (Ia (h.wf s hs));rw[h.at_ hs] at h2;obtain⟨c,rfl,hc,_⟩:=plainElem_int_inv underlying3 h2;obtain⟨c',h3,h4,_⟩:=hm.lookup_int I9 underlying377 underlying3 (Gu w) (Ia (h.wf s hs));rw[h.at_ hs] at h4;simp at hc h4;rw[h1,h3,h.has hs,<-hc.1,<-h4];exact⟨rfl,rfl⟩
theorem Room.put (h:Room M D r){s:Stp}(hs:s∈D){c:Int}(h0:0<c)(hc:c<=1000000):Room (M.put (sk s) (.lit c)) D (λ x=>if x=s then c else r x):=by
 refine⟨λ kl=>?_,λ t ht hp zd=>?_,h.tidy.put (Nr _) _,h.wf,λ t=>?_,λ t=>?_⟩
 ·by_cases hk:kl=sk s
  ·rw[hk,has_put_same h.tidy.isMap (Nr _)]
   exact⟨λ _=>⟨s,hs,by rw[aP rfl];exact h0,rfl⟩,λ _=>rfl⟩
  ·rw[has_put_other hk,h.key]
   constructor
   ·rintro⟨t,ht,h1,h2⟩
    have:t≠s:=λ e=>hk (by rw[h2,e])
    exact⟨t,ht,by rw[aL this];exact h1,h2⟩
   ·rintro⟨t,ht,h1,h2⟩
    have:t≠s:=λ e=>hk (by rw[h2,e])
    rw[aL this] at h1;exact⟨t,ht,h1,h2⟩
 ·by_cases e:t=s
  ·rw[e,aP rfl,atKey_put_same h.tidy.isMap (Nr _)]
  ·rw[aL e] at hp ⊢
   rw[atKey_put_other (λ k=>e (Uu (h.wf t ht) (h.wf s hs) k))];exact h.val t ht hp zd
 ·show 0<=(if t=s then c else r t)
  split
  ·omega
  ·exact h.pos t
 ·show(if t=s then c else r t)<=1000000
  split
  ·exact hc
  ·exact h.small t
theorem Room.del (h:Room M D r){s:Stp}(hs:s∈D)(d:DataW Unit):Room ((M.put (sk s) d).del (sk s)) D (λ x=>if x=s then 0 else r x):=by
 refine⟨λ kl=>?_,λ t ht hp zd=>?_,(h.tidy.put (Nr _) _).del _,h.wf,λ t=>?_,λ t=>?_⟩
 ·by_cases hk:kl=sk s
  ·rw[hk,has_del_same]
   refine⟨λ k=>by simp at k,?_⟩;rintro⟨t,ht,h1,h2⟩;rw[aP (Uu (h.wf s hs) (h.wf t ht) h2).symm] at h1;omega
  ·rw[has_del_other hk,has_put_other hk,h.key]
   constructor
   ·rintro⟨t,ht,h1,h2⟩
    have:t≠s:=λ e=>hk (by rw[h2,e])
    exact⟨t,ht,by rw[aL this];exact h1,h2⟩
   ·rintro⟨t,ht,h1,h2⟩
    have:t≠s:=λ e=>hk (by rw[h2,e])
    rw[aL this] at h1;exact⟨t,ht,h1,h2⟩
 ·by_cases e:t=s
  ·rw[aP e] at hp;omega
  ·rw[aL e] at hp ⊢
   have l9:sk t≠sk s:=λ k=>e (Uu (h.wf t ht) (h.wf s hs) k)
   rw[atKey_del_other l9,atKey_put_other l9];exact h.val t ht hp zd
 ·show 0<=(if t=s then 0 else r t)
  split
  ·omega
  ·exact h.pos t
 ·show(if t=s then 0 else r t)<=1000000
  split
  ·omega
  ·exact h.small t
end
theorem Sl (s:Stp)(w:World):Calls prog 349 #[vS s] w λ e w'=>e=(vS (bk s))/\Below w w w':=by
 obtain⟨x,y,z⟩:=s;unfold vS bk;go_enter func349,ntmps349;go_wp2_with fail;refine gH (v:=.agg #[x,z,y]) (by simp[results,Tryz.results349,go_sem]) rfl ⟨rfl,?_⟩;exact(b_).alloc (by simp) _
structure E9 (w:World) (p lm rm N:Nat) (M:DataW Unit) (D:List Stp) (r:Stp->Int):Prop where
 hp:w.heap[p]? =some (.cells #[.map lm,.map rm] 379)
 mp:w.ownsMap prog 346 (plainElem prog 3) rm N M
 rom:Room M D r
theorem E9.below {w w':World}{p lm rm N:Nat}{M:DataW Unit}{D:List Stp}{r:Stp->Int}(h:E9 w p lm rm N M D r)(hb:Below w w w'):E9 w' p lm rm N M D r:=
 ⟨(hb.block p (lt_of_some h.hp)).trans h.hp,h.mp.kept (Ai hb) (by simp),h.rom⟩
theorem E9.ne {w:World}{p lm rm N:Nat}{M:DataW Unit}{D:List Stp}{r:Stp->Int}(h:E9 w p lm rm N M D r):p≠rm:=λ e=>by
 obtain⟨es,clock,hb,_⟩:=h.mp;rw[<-e,h.hp] at hb;simp at hb
theorem zkg (p lm rm N:Nat)(M:DataW Unit)(D:List Stp)(r:Stp->Int)(s:Stp)(w:World)(h:E9 w p lm rm N M D r)(hs:s∈D):
 Calls prog 316 #[.pointer p,vS s] w λ e w'=>e=Value.bool (decide (0<r s))/\Below w w w':=by
 have CW:Below w w (w.alloc (.cells #[s.1,s.2.1,s.2.2] 346)):=b_;have hA:=h.below CW;have lk:=λ n=>((hA.below (below_drewN (aI _ _) n)).rom.look hs (hA.below (below_drewN (aI _ _) n)).mp).1
 have c1:(w.alloc (.cells #[s.1,s.2.1,s.2.2] 346)).cell? (p,1)=some (.map rm):=by simp[World.cell?,hA.hp]
 have HB:=kd CW;obtain⟨b,hb⟩:∃b,decide (0<r s)=b:=⟨_,rfl⟩;obtain⟨k,hk⟩:∃k,r s=k:=⟨_,rfl⟩;rw[hb,hk] at lk;rw[hb];unfold vS at lk ⊢;obtain⟨x,y,z⟩:=s;simp only at lk c1 HB ⊢;clear h CW hA hb hk hs;go_enter func316,ntmps316;go_wp2_with fail;go_quiet (fail);go_wp2_with fail;go_ret;exact⟨rfl,below_drewN HB.o nq⟩
end Go.Proofs.Y.S
namespace Go.Proofs.Y.S
open Go Go.ChangeMaps Go.MapKept Go.WideShapes Go.Proofs.Tryz
open Go.RowKit Go.WideMaps Go.Maps F
theorem Ur {P:Program}{ops:Array Oper}{o:Oper}{a:Act}{w:World}{K:Act->World->Prop}{Q:Exit->Act->World->Prop}{E:Prop}
 (hg:o.guard=none) (d x:Operand) (dT sT:TypeId) (WU:o.op=Op.call {callee:=Callee.builtin Builtin.delete,args:=#[d,x],argTypes:=#[dT,sT]})
 (v u:Value) (hd:a.eval d=v) (hx:a.eval x=u) {v':Value} {w':World} (hr:(Builtin.delete_ #[dT,sT] o.type #[v,u]).run P w= .ok v' w') (hK:K (a.put o.dst v') w'):
 if Region.wanted o (yielded ops a.tmps)=true then Oper.wp P o a w K Q else E:=by
 have hw:Region.wanted o (yielded ops a.tmps)=true:=by simp[Region.wanted,hg]
 rw[aP hw];unfold Oper.wp;simp[execOp,WU,resolve,invoke,builtin,hd,hx,hr,Result.andThen];exact hK
section
variable {H:Type} {P:Program} {k:TypeId} {R:Value->Option (DataW H × List MemPlace)} {w:World} {b n:Nat} {D:DataW H}
theorem zak {t e:TypeId}(h:w.ownsMap P k R b n D)(K:Keyed P k)(ht:P.underlying t=some (.map k e))(hn:n<maxLen){z:Value}(hz:(zeroValue e).run P w= .ok z w){key:Value}{kl:Lit}(o9:keyOf P k key=some kl){zd:DataW H}{zp:List MemPlace}(hzd:R z=some (zd,zp))(AA:Maps.has D kl=false):
 ∃st w1,(Instr.mapEntry t (.map b) key).run P w= .ok (.tuple #[z,.int .i64 st]) w1/\w1.ownsMap P k R b (n+1) (D.put kl zd)/\w.grownBy w1 (some b)/\
  ∀val d ps,R val=some (d,ps)->∃w2,(Instr.entryStore t (.map b) (.int .i64 st) val).run P w1= .ok () w2/\w2.ownsMap P k R b (n+1) (D.put kl d)/\w.grownBy w2 (some b):=by
 have h0:=h;obtain⟨v,st,w1,r1,g1,s1,CU⟩:=Vg h0 K ht hn hz o9;obtain⟨es,clock,hb,F,hs,rfl⟩:=h;have hno2:∀x∈es.toList,x.key≠key:=by
  rcases Maps.fit_look false K ht hz hb F o9 with⟨_,h2,_⟩|⟨e0,y,_,_,_,_,q9,_⟩
  ·exact h2
  ·rw[has_true_of_atKey q9] at AA;cases AA
 rcases K.find w o9 es.toList F.keys with⟨h1,h2⟩|⟨j,e0,h1,h2,h3⟩
 ·have hr:(Instr.mapEntry t (.map b) key).run P w= .ok (.tuple #[z,clock]) (setBlock w b (.map (es.push ⟨key,z,clock⟩) (clock+1))):=by
   simp[Instr.mapEntry,run_underlying ht,MapKept.run_getObj_map hb,K.check w false o9,h1,hz,MapKept.run_setObj_map _ hb,Result.andThen,setBlock,goInt]
  have hu:(Instr.mapUpdate t (.map b) key z).run P w= .ok () (setBlock w b (.map (es.push ⟨key,z,clock⟩) (clock+1))):=by
   simp[Instr.mapUpdate,run_underlying ht,MapKept.run_getObj_map hb,K.check w false o9,h1,MapKept.run_setObj_map _ hb,Result.andThen,setBlock]
  obtain⟨w',AQ,o8,FR⟩:=h0.update K ht hn o9 hzd;rw[hu] at AQ;injection AQ with _ hw
  rw[hr] at r1;injection r1 with e1 e2
  subst hw;subst e2;injection e1 with e1
  have e3:st=(clock:Int):=by
   have:=congrArg (λ a=>a[1]?) e1;simp at this;exact this.symm
  subst e3;exact⟨_,_,hr,o8,g1,CU⟩
 ·exact absurd h3 (hno2 e0 (aG h2))
theorem ze7 {t e:TypeId}(h:w.ownsMap P k R b n D)(K:Keyed P k)(ht:P.underlying t=some (.map k e))(hn:n<maxLen){z:Value}(hz:(zeroValue e).run P w= .ok z w){key:Value}{kl:Lit}(o9:keyOf P k key=some kl)(AA:Maps.has D kl=true):
 ∃v st,(Instr.mapEntry t (.map b) key).run P w= .ok (.tuple #[v,.int .i64 st]) w/\
  ∀val d ps,R val=some (d,ps)->∃w2,(Instr.entryStore t (.map b) (.int .i64 st) val).run P w= .ok () w2/\w2.ownsMap P k R b (n+1) (D.put kl d)/\w.grownBy w2 (some b):=by
 have h0:=h;obtain⟨v,st,w1,r1,g1,s1,CU⟩:=Vg h0 K ht hn hz o9
 suffices hw:w1=w by subst hw;exact⟨v,st,r1,CU⟩
 obtain⟨es,clock,hb,F,hs,rfl⟩:=h;rcases K.find w o9 es.toList F.keys with⟨h1,h2⟩|⟨j,e0,h1,h2,h3⟩
 ·exfalso
  rcases Maps.fit_look false K ht hz hb F o9 with⟨_,_,h4⟩|⟨e0,y,XQ,h3,_,_,_,_⟩
  ·rw[has_false_of_atKey h4] at AA;cases AA
  ·exact h2 e0 XQ h3
 ·have hj:es[j]? =some e0:=by simpa using h2
  have hm:(es.modify j λ e=>{e with key:=key})=es:=by
   apply kE
   ·simp
   ·intro i h4 h5
    rw[jA];split
    ·next hij=>
     subst hij;have:es[j]=e0:=(dK.1 hj).2;rw[this,<-h3]
    ·rfl
  have hw:setBlock w b (.map es clock)=w:=by
   have hl:=lt_of_some hb;have:w.heap.setIfInBounds b (.map es clock)=w.heap:=by
    apply kE
    ·simp
    ·intro i h4 h5
     rw[Array.getElem_setIfInBounds];split
     ·next hij=>subst hij;exact(dK.1 hb).2.symm
     ·rfl
   unfold setBlock;rw[this]
  have hr:(Instr.mapEntry t (.map b) key).run P w= .ok (.tuple #[e0.val,e0.born]) (setBlock w b (.map (es.modify j λ e=>{e with key:=key}) clock)):=by
   simp[Instr.mapEntry,run_underlying ht,MapKept.run_getObj_map hb,K.check w false o9,h1,hj,h3,K.stays w o9,MapKept.run_setObj_map _ hb,Result.andThen,setBlock,goInt]
  rw[hr,hm,hw] at r1;injection r1 with _ e2
  exact e2.symm
end
theorem Vr {M:DataW Unit}{D:List Stp}{r:Stp->Int}{w:World}{rm N:Nat}(h:Room M D r)(hm:w.ownsMap prog 346 (plainElem prog 3) rm N M)(hN:N<=1000000){s:Stp}(hs:s∈D){c:Int}(hc:(Lit.int .i64 c).wf=true):
 ∃v st w1 w2,(Instr.lookup 377 (.map rm) (vS s) false).run prog w= .ok (r s:Int) w/\(Instr.mapEntry 377 (.map rm) (vS s)).run prog w= .ok (.tuple #[v,.int .i64 st]) w1/\(Instr.lookup 377 (.map rm) (vS s) false).run prog w1= .ok (r s:Int) w1/\(Instr.entryStore 377 (.map rm) (.int .i64 st) c).run prog w1= .ok () w2/\w2.ownsMap prog 346 (plainElem prog 3) rm (N+1) (M.put (sk s) (.lit c))/\w.grownBy w1 (some rm)/\w.grownBy w2 (some rm):=by
 have hl:=(h.look hs hm).2;have GL:=h.wf s hs;have ZM:N<maxLen:=by unfold maxLen;omega
 by_cases h1:0<r s
 ·obtain⟨v,st,e1,e2⟩:=ze7 hm I9 underlying377 ZM (Gu w) (Ia GL) (by rw[h.has hs];exact bI h1)
  obtain⟨w2,h5,h6,h7⟩:=e2 c _ _ (plainElem_int underlying3 hc);exact⟨v,st,w,w2,hl,e1,hl,h5,h6,⟨rfl,rfl,rfl,aF _,λ _ _ _=>rfl⟩,h7⟩
 ·have h0:r s=0:=by have:=h.pos s;omega
  obtain⟨st,w1,e1,IE,g1,e2⟩:=zak hm I9 underlying377 ZM (Gu w) (Ia GL) (plainElem_int underlying3 (a:=0) (by decide)) (by rw[h.has hs];exact bM h1);obtain⟨w2,h5,h6,h7⟩:=e2 c _ _ (plainElem_int underlying3 hc);refine⟨_,st,w1,w2,hl,e1,?_,h5,h6,g1,h7⟩;obtain⟨c',k1,k2,_⟩:=IE.lookup_int I9 underlying377 underlying3 (Gu w1) (Ia GL);rw[atKey_put_same h.tidy.isMap (Nr s)] at k2;rw[k1,<-(lI (kT k2)).2,h0]
theorem Fy {w w':World}{b o rm:Nat}{v:Value}(hg:w.grownBy w' (some rm))(l9:b≠rm)(h:w.cell? (b,o)=some v):w'.cell? (b,o)=some v:=by
 have hl:=lt_of_cell h;simp only[World.cell?] at h ⊢;rw[hg.block b hl (λ e=>l9 (by injection e))];exact h
theorem qh {w:World}{b rm N:Nat}{M:DataW Unit}{cs:Array Value}{t:TypeId}(hm:w.ownsMap prog 346 (plainElem prog 3) rm N M)(h:w.heap[b]? =some (.cells cs t)):b≠rm:=λ e=>by
 obtain⟨es,clock,hb,_⟩:=hm;rw[<-e,h] at hb;simp at hb
theorem But.Mf {w w':World}{rm:Nat}(hg:w.grownBy w' (some rm)):But rm w w':=⟨hg.os,hg.tape,hg.output,hg.size,λ k hk hn=>hg.block k hk (λ e=>hn (by injection e))⟩
abbrev Cs (w':World)(p rm bx:Nat)(x y z:Int):Prop:=w'.cell? (p,1)=some (.map rm)/\w'.cell? bx=x/\w'.cell? (bx,1)=y/\w'.cell? (bx,2)=z
theorem Cs.grown {w w':World}{p rm bx:Nat}{x y z:Int}(hp:p≠rm)(hb:bx≠rm)(hg:w.grownBy w' (some rm))(h:Cs w p rm bx x y z):Cs w' p rm bx x y z:=⟨Fy hg hp h.1,Fy hg hb h.2.1,Fy hg hb h.2.2.1,Fy hg hb h.2.2.2⟩
theorem Cs.below {w w':World}{p rm bx:Nat}{x y z:Int}(hg:Below w w w')(h:Cs w p rm bx x y z):Cs w' p rm bx x y z:=⟨cell_below h.1 hg,cell_below h.2.1 hg,cell_below h.2.2.1 hg,cell_below h.2.2.2 hg⟩
theorem E9.stored {w w':World}{p lm rm N N':Nat}{M M':DataW Unit}{D:List Stp}{r r':Stp->Int}(h:E9 w p lm rm N M D r)(hg:w.grownBy w' (some rm))(hm:w'.ownsMap prog 346 (plainElem prog 3) rm N' M')(hr:Room M' D r'):E9 w' p lm rm N' M' D r':=
 ⟨(hg.block p (lt_of_some h.hp) (λ e=>h.ne (by injection e))).trans h.hp,hm,hr⟩
def Tp (w:World)(p lm rm N:Nat)(D:List Stp)(r:Stp->Int)(e:Ending)(w':World):Prop:=
 e=Value.tuple #[]/\∃M' N',E9 w' p lm rm N' M' D r/\N'<=N+2/\But rm w w'
theorem zg7 {w wr:World}{p lm rm N bx:Nat}{M:DataW Unit}{D:List Stp}{r:Stp->Int}{x y z b1:Int}(h:E9 wr p lm rm N M D r)(hc:Cs wr p rm bx x y z)(JB:bx≠rm)(hs:(x,z,y)∈D)(hN:N<=950000)(PU:r (x,z,y)<=1000)(j4:r (x,z,y)=b1)(hb:But rm w wr):
 Calls prog 349 #[.agg #[x,y,z]] wr λ e w'=>e=Value.agg #[x,z,y]/\Cs w' p rm bx x y z/\∃v st w1 w2,
  (Instr.lookup 377 (.map rm) (.agg #[x,z,y]) false).run prog w'= .ok b1 w'/\
  (Instr.mapEntry 377 (.map rm) (.agg #[x,z,y])).run prog w'= .ok (.tuple #[v,.int .i64 st]) w1/\
  (Instr.lookup 377 (.map rm) (.agg #[x,z,y]) false).run prog w1= .ok b1 w1/\
  (Instr.entryStore 377 (.map rm) (.int .i64 st) (IntKind.i64.wrap (b1+1):Int)).run prog w1= .ok () w2/\
  Cs w1 p rm bx x y z/\Cs w2 p rm bx x y z/\Hid (∃M' N',E9 w2 p lm rm N' M' D (λ q=>if q=(x,z,y) then b1+1 else r q)/\N'<=N+1/\But rm w w2):=by
 refine(Sl (x,y,z) wr).mono ?_;rintro e w' ⟨rfl,hb'⟩;have h':=h.below hb';have hc':=hc.below hb';have h0:=h.rom.pos (x,z,y);rw[j4] at h0 PU;have hw:IntKind.i64.wrap (b1+1)=b1+1:=by rw[bO];omega
 obtain⟨v,st,w1,w2,e1,e2,e3,e4,DF,AX,AU⟩:=Vr h'.rom h'.mp (by omega) hs (c:=b1+1) (Av (by omega) (by omega));rw[j4] at e1 e3;refine⟨rfl,hc',v,st,w1,w2,e1,e2,e3,by rw[hw];exact e4,hc'.grown h.ne JB AX,hc'.grown h.ne JB AU,_,_,h'.stored AU DF (h'.rom.put hs (by omega) (by omega)),aF _,?_⟩;exact(hb.trans (But.of_below hb')).trans (But.Mf AU)
theorem zmh (p lm rm N:Nat)(M:DataW Unit)(D:List Stp)(r:Stp->Int)(s:Stp)(w:World)(h:E9 w p lm rm N M D r)(hs:s∈D)(hD:Net D)(h1:1<=r s)(hN:N<=900000)(PU:∀x,r x<=1000):
 Calls prog 317 #[.pointer p,vS s] w (Tp w p lm rm N D (tk r s)):=by
 have GL:=h.rom.wf s hs;have CG:=hD.back s hs;have l9:=hD.ne s hs;obtain⟨W,hW⟩:∃W,w.alloc (.cells #[s.1,s.2.1,s.2.2] 346)=W:=⟨_,rfl⟩;have CW:Below w w W:=by rw[<-hW];exact b_
 have BF:W.heap[w.heap.size]? =some (.cells #[s.1,s.2.1,s.2.2] 346):=by rw[<-hW];exact aQ w _
 have hA:=h.below CW;have SX:E9 W.drew p lm rm N M D r:=hA.below (aI _ _).drew;have IL:(Lit.int .i64 (r s-1)).wf=true:=Av (by omega) (by have:=PU s;omega);obtain⟨v1,st1,w1,w2,e1,e2,e3,e4,DF,AX,AU⟩:=Vr SX.rom SX.mp (by omega) hs IL;obtain⟨k,hk⟩:∃k,r s=k:=⟨_,rfl⟩;obtain⟨bx,JS⟩:∃bx,w.heap.size=bx:=⟨_,rfl⟩;have EG:=SX.ne;have JB:bx≠rm:=by rw[<-JS];exact qh SX.mp BF
 rw[JS] at BF;have GY:Cs W.drew p rm bx s.1 s.2.1 s.2.2:=by
  refine⟨by simp[World.cell?,SX.hp],?_,?_,?_⟩ <;> simp[World.cell?,show W.drew.heap[bx]? =_ from BF]
 have CO:=GY.grown EG JB AX;have FW:=GY.grown EG JB AU;have hsk:=PU s;rw[hk] at e1 e3 e4 DF h1 hsk;have hwk:IntKind.i64.wrap (k-1)=k-1:=by rw[bO];omega
 have lk2:∀n,(Instr.lookup 377 (.map rm) (vS s) false).run prog (w2.drewN n)= .ok (k-1:Int) (w2.drewN n):=λ n=>by
  have EJ:(w2.drewN n).ownsMap prog 346 (plainElem prog 3) rm (N+1) _:=DF.kept (Ai (below_drewN (aI _ _) n)) (by simp);obtain⟨c',k1,k2,_⟩:=EJ.lookup_int I9 underlying377 underlying3 (Gu _) (Ia GL);rw[atKey_put_same SX.rom.tidy.isMap (Nr s)] at k2;rw[k1,<-(lI (kT k2)).2]
 have PV:Hid (∀wr M' r',(∀q,r' q=if q=s then k-1 else r q)->E9 wr p lm rm (N+1) M' D r'->Cs wr p rm bx s.1 s.2.1 s.2.2->But rm w2 wr->Calls prog 349 #[vS s] wr.drew λ e w'=>e=(vS (bk s))/\Cs w' p rm bx s.1 s.2.1 s.2.2/\∃v st b1 w1 w2,
  (Instr.lookup 377 (.map rm) (vS (bk s)) false).run prog w'= .ok (.int .i64 b1) w'/\
  (Instr.mapEntry 377 (.map rm) (vS (bk s))).run prog w'= .ok (.tuple #[v,.int .i64 st]) w1/\
  (Instr.lookup 377 (.map rm) (vS (bk s)) false).run prog w1= .ok (.int .i64 b1) w1/\
  (Instr.entryStore 377 (.map rm) (.int .i64 st) (.int .i64 (IntKind.i64.wrap (b1+1)))).run prog w1= .ok () w2/\
  Cs w1 p rm bx s.1 s.2.1 s.2.2/\Cs w2 p rm bx s.1 s.2.1 s.2.2/\Hid (Tp w p lm rm N D (tk r s) (.returned (.tuple #[])) w2)):=by
  intro wr M' r' hr' hn hc hb;have EI:bk s≠s:=R4 l9;have hrb:r' (bk s)=r (bk s):=by rw[hr',aL EI]
  have hbw:But rm w wr:=((But.of_below (CW.trans (aI _ _).drew)).trans (But.Mf AU)).trans hb;have FM:E9 wr.drew p lm rm (N+1) M' D r':=hn.below (aI _ _).drew;refine(zg7 (w:=w) (b1:=r (bk s)) FM (hc.below (aI _ _).drew) JB CG (by omega) (by have:=PU (bk s);show r' (bk s)<=1000;omega) hrb (hbw.trans (But.of_below (aI _ _).drew))).mono ?_;rintro e w' ⟨rfl,k1,v,st,w1,w2,k2,k3,k4,k5,k6,k7,M4,N4,k8,k9,k10⟩;refine⟨rfl,k1,v,st,r (bk s),w1,w2,k2,k3,k4,k5,k6,k7,rfl,M4,N4,?_,by omega,k10⟩;have:(λ q=>if q=(s.1,s.2.2,s.2.1) then r (bk s)+1 else r' q)=tk r s:=by
   funext q
   rw[Rw r l9,hr'];show(if q=bk s then _ else _)=_;by_cases h1:q=bk s
   ·rw[aP h1,aL (by rw[h1];exact EI),aP h1,h1]
   ·rw[aL h1,aL h1,hk]
  rw[this] at k8;exact k8
 have ZA:Hid (k≠1->∀n,E9 (w2.drewN n) p lm rm (N+1) (M.put (sk s) (.lit (k-1:Int))) D (λ q=>if q=s then k-1 else r q)):=λ h2 n=>
  (SX.stored AU DF (SX.rom.put hs (by omega) (by omega))).below (below_drewN (aI _ _) n)
 have SY:Hid (k=1->∀n,∃w3,(Builtin.delete_ #[377,346] 0 #[.map rm,vS s]).run prog (w2.drewN n).drew= .ok (.tuple #[]) w3/\E9 w3 p lm rm (N+1) ((M.put (sk s) (.lit (k-1:Int))).del (sk s)) D (λ q=>if q=s then k-1 else r q)/\Cs w3 p rm bx s.1 s.2.1 s.2.2/\But rm w2 w3):=λ h2 n=>by
  have LG:Below w2 w2 (w2.drewN n).drew:=(below_drewN (aI _ _) n).drew;have EJ:(w2.drewN n).drew.ownsMap prog 346 (plainElem prog 3) rm (N+1) _:=DF.kept (Ai LG) (by simp);obtain⟨w3,r3,o3,t3⟩:=EJ.drop I9 underlying377 (Ia GL) 0;have FL:=t3.grown;have hd:=SX.rom.del hs (.lit (k-1:Int));have hk0:k-1=0:=by omega
  refine⟨w3,r3,?_,(FW.below LG).grown EG JB FL,(But.of_below LG).trans (But.Mf FL)⟩;have hp2:(w2.drewN n).drew.heap[p]? =some (.cells #[.map lm,.map rm] 379):=(LG.block p (by have:=lt_of_some SX.hp;have:=AU.size;omega)).trans ((AU.block p (lt_of_some SX.hp) (λ e=>EG (by injection e))).trans SX.hp);refine⟨(FL.block p (lt_of_some hp2) (λ e=>EG (by injection e))).trans hp2,o3,?_⟩;rw[hk0] at hd ⊢;exact hd
 unfold vS at e1 e2 e3 lk2 ⊢;have HW:=kd hW;have CX:=kd JS;obtain⟨x,y,z⟩:=s;unfold vS bk at PV;unfold vS at SY;unfold Cs at GY CO FW PV SY;simp only at e1 e2 e3 e4 GY CO FW HW lk2 PV ZA SY ⊢;clear h hs hD hN PU GL CG l9 hW CW BF hA SX IL DF AX AU hk JS EG JB;go_enter func317,ntmps317;go_upto_region 1 with fail
 rw[HW.o,CX.o];go_region_held (λ w'=>(w'.cell? (p,1)=some (.map rm)/\w'.cell? bx=x/\w'.cell? (bx,1)=y/\w'.cell? (bx,2)=z)) (with_reducible assumption) (fail)
 all_goals
  clear e1 e2 e3 e4 GY CO HW CX;by_cases GH:k=1
  ·have JU:∀n,(Instr.lookup 377 (.map rm) (.agg #[x,y,z]) false).run prog (w2.drewN n)= .ok (0:Int) (w2.drewN n):=λ n=>by rw[lk2 n,GH];rfl
   have QI:Hid _:=SY.o GH;clear lk2 hwk ZA SY;go_wp2_with fail;go_quiet (fail);go_upto_region 3 with fail
   obtain⟨w3,r3,hn3,NY,y8⟩:=QI.o nq
   go_region_law (refine Ur rfl (.tmp 23) (.tmp 24) 377 346 rfl (.map rm) (.agg #[x,y,z]) (by first|rfl|(simp[Act.eval];done)|(simp[Act.eval,Act.put];done)) (by first|rfl|(simp[Act.eval];done)|(simp[Act.eval,Act.put];done)) r3 ?_)
   all_goals
    have QZ:Hid _:=PV.o w3 _ _ (λ q=>rfl) hn3 NY y8;have hS3d:(w3.drew.cell? (p,1)=some (.map rm)/\w3.drew.cell? bx=x/\w3.drew.cell? (bx,1)=y/\w3.drew.cell? (bx,2)=z):=NY;clear JU hn3 PV QI FW NY y8 r3;go_upto_region 4 with fail
    go_region_held (λ w'=>(w'.cell? (p,1)=some (.map rm)/\w'.cell? bx=x/\w'.cell? (bx,1)=y/\w'.cell? (bx,2)=z)) (with_reducible assumption)
     (first|(go_at_call 349;go_loud (refine aA QZ.o ?_;rintro e w' ⟨rfl,hS4,v2,st2,b1,w4,w5,q1,q2,q3,q4,WH,hS6,HP⟩)))
    all_goals
     go_wp2_with fail;refine gH (v:=.tuple #[]) (by simp[results,Tryz.results317,go_sem]) rfl ?_;exact HP.o
  ·have CK:¬k-1=0:=by omega
   have hn3:=λ n=>ZA.o GH n
   obtain⟨k',hk'⟩:∃k',k-1=k':=⟨_,rfl⟩;have HK:=kd hk';rw[hk'] at lk2 CK;clear ZA SY hk' hwk;go_wp2_with fail;go_quiet (fail);go_upto_region 4 with fail
   have QZ:Hid _:=PV.o (w2.drewN nq) _ _ (λ q=>rfl) (hn3 nq) FW (But.of_below (below_drewN (aI _ _) nq));have hS3d:((w2.drewN nq).drew.cell? (p,1)=some (.map rm)/\(w2.drewN nq).drew.cell? bx=x/\(w2.drewN nq).drew.cell? (bx,1)=y/\(w2.drewN nq).drew.cell? (bx,2)=z):=FW;clear lk2 hn3 PV FW;obtain⟨wr,hwr⟩:∃wr,w2.drewN nq=wr:=⟨_,rfl⟩;rw[hwr] at QZ hS3d ⊢;clear hwr;go_region_held (λ w'=>(w'.cell? (p,1)=some (.map rm)/\w'.cell? bx=x/\w'.cell? (bx,1)=y/\w'.cell? (bx,2)=z)) (with_reducible assumption)
    (first|(go_at_call 349;go_loud (refine aA QZ.o ?_;rintro e w' ⟨rfl,hS4,v2,st2,b1,w4,w5,q1,q2,q3,q4,WH,hS6,HP⟩)))
   all_goals
    go_wp2_with fail;refine gH (v:=.tuple #[]) (by simp[results,Tryz.results317,go_sem]) rfl ?_;exact HP.o
end Go.Proofs.Y.S
namespace Go.Proofs.Y.S
open Go Go.ChangeMaps Go.MapKept Go.WideShapes Go.Proofs.Tryz
open Go.RowKit Go.WideMaps Go.Maps F
theorem zp7:∃i,prog.info? 346=some i/\i.size=3/\i.bytes=24/\i.zero=some G.zE:=
 ⟨(prog.info? 346).get (by kernel_rfl),by kernel_rfl,by kernel_rfl,by kernel_rfl,by kernel_rfl⟩
theorem vw (ty:TypeId)(w:World)(B:Nat)(v:Value)(L M:List Stp)(h:G.Ad w B 346 v L)(hB:B<=w)(a:Addr)(m c:Nat)(hm:m=M.length)(hM:∀j u,(G.Af M)[j]? =some u->w.cell? (a.add j)=some u)(hl:L.length+M.length<=100000):
 ∃v' w',(Builtin.append_ #[347,347] ty #[v,.slice (some a) m c]).run prog w= .ok v' w'/\G.Ad w' B 346 v' (L++M)/\w.grownBy w' v.ownBlock/\(v'.ownBlock=v.ownBlock\/v'.ownBlock=some w.heap.size):=by
 subst hm;obtain⟨i,hi,hs,hb,hz⟩:=zp7;obtain⟨v',w',h1,h2,h3,_,h5⟩:=run_append_own_at (P:=prog) w B 347 ty 346 i G.zE 3 24 underlying347 hi hz hs hb (by rw[G.Me];rfl) (by omega) v L.length (G.Af L) h a M.length c (G.Af M) (G.Ae M) hM (G.Fa M) (by simp only[maxLen];omega) (by omega) hB;refine⟨v',w',h1,?_,h3,h5⟩;show w'.ownsRow B 346 3 v' (L++M).length (G.Af (L++M));rw[aM,G.Gj];exact h2
def hold:Value->Option (DataW Value × List MemPlace):=λ v=>some (.held v,[])
theorem zqw (w:World):(zeroValue 347).run prog w= .ok (.slice none 0 0) w:=by kernel_rfl
theorem ik (x:Int):WideAt.IsKeyLit x:=trivial
structure Lv (w:World) (lm N B:Nat) (L:DataW Value) (f:Int->Value) (g:Int->List Stp):Prop where
 mp:w.ownsMap prog 3 hold lm N L
 tidy:Tidy L
 at_:∀x,L.atKey (.int .i64 x) (.held (.slice none 0 0))= .held (f x)
 row:∀x,G.Ad w B 346 (f x) (g x)
 apart:∀x y k,x≠y->(f x).ownBlock=some k->(f y).ownBlock≠some k
 lt:lm<B
 le:B<=w
section
variable {w w':World} {lm N B:Nat} {L:DataW Value} {f:Int->Value} {g:Int->List Stp}
theorem Lv.below (h:Lv w lm N B L f g)(hb:Below w w w'):Lv w' lm N B L f g:=
 {h with mp:=h.mp.kept (Ai hb) (by simp),row:=λ x=>(h.row x).below hb,le:=aD h.le hb.size}
theorem Lv.off (h:Lv w lm N B L f g){x:Int}{k:Nat}(hk:(f x).ownBlock=some k):B<=k/\k<w:=aU (h.row x) k hk
theorem Lv.grown (h:Lv w lm N B L f g){k:Nat}(hg:w.grownBy w' (some k))(h1:k≠lm)(h2:k<B):Lv w' lm N B L f g:=
 {h with mp:=h.mp.kept hg (λ e=>h1 (by injection e with e;exact e.symm)),le:=aD h.le hg.size,row:=λ x=>dI (h.row x) hg (by
    cases hf:(f x).ownBlock with
    |none=>exact .inl rfl
    |some j=>
     refine .inr (λ e=>?_);injection e with e
     have:=(h.off hf).1;omega)}
theorem Lv.look (h:Lv w lm N B L f g){x:Int}(hx:(Lit.int .i64 x).wf=true):(Instr.lookup 376 (.map lm) x false).run prog w= .ok (f x) w:=by
 obtain⟨v,ps,h1,h2⟩:=h.mp.lookup Bp underlying376 (zqw w) (zd:=.held (.slice none 0 0)) (zp:=[]) rfl (H6 x hx);rw[h.at_ x] at h2;simp[hold] at h2;rw[h1,h2.1]
theorem Lv.more (h:Lv w lm N B L f g)(ty:TypeId){x:Int}(hx:(Lit.int .i64 x).wf=true){s:Stp}{b:Nat}(hb:w.heap[b]? =some (.cells (G.Au s).toArray 346))(hl:(g x).length<=1000)(hN:N<=1000000):
 ∃v' w1 w2 L',(Builtin.append_ #[347,347] ty #[f x,.slice b 1 1]).run prog w= .ok v' w1/\(Instr.mapUpdate 376 (.map lm) x v').run prog w1= .ok () w2/\
  Lv w2 lm (N+1) B L' (λ y=>if y=x then v' else f y) (λ y=>if y=x then g x++[s] else g y)/\w.grownBy w1 (f x).ownBlock/\w1.grownBy w2 (some lm)/\(v'.ownBlock=(f x).ownBlock\/v'.ownBlock=some w.heap.size):=by
 have hM:∀j u,(G.Af [s])[j]? =some u->w.cell? ((⟨b,0,none⟩:Addr).add j)=some u:=by
  intro j u hu;rw[G.Bh];have e:G.Af [s]=G.Au s:=by simp[G.Af]
  rw[e] at hu;simp[World.cell?,hb,hu]
 obtain⟨v',w1,r1,o1,g1,f1⟩:=vw ty w B (f x) (g x) [s] (h.row x) h.le b 1 1 rfl hM (by simp;omega);have QM:(f x).ownBlock≠some lm:=λ e=>by have:=(h.off e).1;have:=h.lt;omega
 have m1:w1.ownsMap prog 3 hold lm N L:=h.mp.kept g1 (λ e=>QM e.symm);obtain⟨w2,r2,m2,g2⟩:=m1.update Bp underlying376 (by unfold maxLen;omega) (H6 x hx) (val:=v') (d:=.held v') (ps:=[]) rfl;refine⟨v',w1,w2,_,r1,r2,⟨m2,h.tidy.put (ik x) _,λ y=>?_,λ y=>?_,λ y z k hyz hk=>?_,h.lt,aD h.le (aD g1.size g2.size)⟩,g1,g2,f1⟩
 ·by_cases e:y=x
  ·rw[e,aP rfl,atKey_put_same h.tidy.isMap (ik x)]
  ·rw[aL e,atKey_put_other (λ k=>e (by injection k))]
   exact h.at_ y
 ·have stay:∀{v:Value} {l:List Stp},G.Ad w1 B 346 v l->G.Ad w2 B 346 v l:=λ {v l} ho=>dI ho g2 (by
   cases hv:v.ownBlock with
   |none=>exact .inl rfl
   |some j=>
    refine .inr (λ e=>?_);injection e with e
    have:=(aU ho j hv).1;have:=h.lt;omega)
  by_cases e:y=x
  ·simp only[aP e];exact stay o1
  ·simp only[aL e]
   refine stay (dI (h.row y) g1 ?_);cases hv:(f y).ownBlock with
   |none=>exact .inl rfl
   |some j=>exact .inr (λ k=>h.apart y x j e hv k.symm)
 ·have new:∀{u:Int} {k:Nat},u≠x->v'.ownBlock=some k->(f u).ownBlock≠some k:=λ {u k} hu hk hf=>by
   rcases f1 with f1|f1
   ·rw[hk] at f1
    exact h.apart u x k hu hf f1.symm
   ·rw[hk] at f1
    injection f1 with f1
    have:=(h.off hf).2;omega
  by_cases e1:y=x
  ·rw[aP e1] at hk
   rw[aL (λ e2=>hyz (e1.trans e2.symm))];exact new (λ e2=>hyz (e1.trans e2.symm)) hk
  ·rw[aL e1] at hk
   by_cases e2:z=x
   ·rw[aP e2];exact λ k2=>new e1 k2 hk
   ·rw[aL e2];exact h.apart y z k hyz hk
end
end Go.Proofs.Y.S
namespace Go.Proofs.Y.S
open Go Go.ChangeMaps Go.MapKept Go.WideShapes Go.Proofs.Tryz
open Go.RowKit Go.WideMaps Go.Maps F
def F9 (f:Int->Value)(k:Nat):Prop:=∀x,(f x).ownBlock≠some k
structure Ro (f:Int->Value) (lm:Nat) (w w':World):Prop where
 os:w'.os=w.os
 tape:w'.tape=w.tape
 output:w'.output=w.output
 size:w.heap.size<=w'.heap.size
 block:∀k,k<w.heap.size->k≠lm->F9 f k->w'.heap[k]? =w.heap[k]?
section
variable {w w':World} {lm N B:Nat} {L:DataW Value} {f:Int->Value} {g:Int->List Stp}
theorem Lv.lay (h:Lv w lm N B L f g)(ty:TypeId){x:Int}(hx:(Lit.int .i64 x).wf=true)(s:Stp)(hl:(g x).length<=1000)(hN:N<=1000000):
 ∃v' w1 w2 L',(Instr.lookup 376 (.map lm) x false).run prog w= .ok (f x) w/\(Instr.lookup 376 (.map lm) x false).run prog (w.alloc (.cells #[s.1,s.2.1,s.2.2] 346))= .ok (f x) (w.alloc (.cells #[s.1,s.2.1,s.2.2] 346))/\
  (Builtin.append_ #[347,347] ty #[f x,.slice w 1 1]).run prog (w.alloc (.cells #[s.1,s.2.1,s.2.2] 346))= .ok v' w1/\(Instr.mapUpdate 376 (.map lm) x v').run prog w1= .ok () w2/\
  Lv w2 lm (N+1) B L' (λ y=>if y=x then v' else f y) (λ y=>if y=x then g x++[s] else g y)/\Ro f lm w w1/\Ro f lm w w2/\(∀k,k<w.heap.size->F9 f k->F9 (λ y=>if y=x then v' else f y) k):=by
 have hb:Below w w (w.alloc (.cells #[s.1,s.2.1,s.2.2] 346)):=b_;have ha:=h.below hb;have hn:=aQ w (.cells #[s.1,s.2.1,s.2.2] 346);obtain⟨v',w1,w2,L',r1,r2,l2,g1,g2,f1⟩:=ha.more ty hx (s:=s) (b:=w.heap.size) hn hl hN;have ro1:Ro f lm w w1:=⟨g1.os.trans hb.os,g1.tape.trans hb.tape,g1.output.trans hb.output,aD hb.size g1.size,λ k hk _ hr=>(g1.block k (aR hk hb.size) (λ e=>hr x e.symm)).trans (hb.block k hk)⟩;refine⟨v',w1,w2,L',h.look hx,ha.look hx,r1,r2,l2,ro1,⟨g2.os.trans ro1.os,g2.tape.trans ro1.tape,g2.output.trans ro1.output,aD ro1.size g2.size,λ k hk l9 hr=>(g2.block k (aR hk ro1.size) (λ e=>l9 (by injection e))).trans (ro1.block k hk l9 hr)⟩,λ k hk hr y=>?_⟩;show(if y=x then v' else f y).ownBlock≠some k;by_cases e:y=x
 ·rw[aP e]
  intro e2;rcases f1 with f1|f1
  ·exact hr x (f1.symm.trans e2)
  ·rw[f1] at e2
   injection e2 with e2
   rw[aT] at e2;omega
 ·rw[aL e];exact hr y
end
theorem Room.wider {M:DataW Unit}{D D':List Stp}{r:Stp->Int}(h:Room M D r)(hd:∀t∈D,t∈D')(h0:∀t∈D',t∉D->r t=0)(hw:∀t∈D',wfS t):Room M D' r:=by
 have back:∀t∈D',0<r t->t∈D:=λ t ht hp=>by
  by_cases h1:t∈D
  ·exact h1
  ·have:=h0 t ht h1;omega
 refine⟨λ kl=>?_,λ t ht hp=>h.val t (back t ht hp) hp,h.tidy,hw,h.pos,h.small⟩;rw[h.key];constructor
 ·rintro⟨t,h1,h2,h3⟩;exact⟨t,hd t h1,h2,h3⟩
 ·rintro⟨t,h1,h2,h3⟩;exact⟨t,back t h1 h2,h2,h3⟩
structure Gq (w:World) (p lm rm N B:Nat) (M:DataW Unit) (L:DataW Value) (D:List Stp) (r:Stp->Int) (f:Int->Value) (g:Int->List Stp):Prop where
 net:E9 w p lm rm N M D r
 lv:Lv w lm N B L f g
 pb:p<B
 rb:rm<B
 ne:lm≠rm
theorem Gq.below {w w':World}{p lm rm N B:Nat}{M:DataW Unit}{L:DataW Value}{D:List Stp}{r:Stp->Int}{f:Int->Value}{g:Int->List Stp}(h:Gq w p lm rm N B M L D r f g)(hb:Below w w w'):Gq w' p lm rm N B M L D r f g:=
 {h with net:=h.net.below hb,lv:=h.lv.below hb}
theorem Ue (w:World):Calls prog 313 #[] w λ e w'=>∃p lm rm,e=Value.pointer (some ⟨p,0,none⟩)/\Gq w' p lm rm 0 w' (.map []) (.map []) [] (λ _=>0) (λ _=>.slice none 0 0) (λ _=>[])/\w.heap.size<=p/\w.heap.size<=lm/\w.heap.size<=rm/\Below w w w':=by
 have FC:=@run_makeMap prog;go_enter func313,ntmps313;go_wp2_with fail;go_ret;obtain⟨W1,AJ⟩:∃W1,w.alloc (.map #[] 0)=W1:=⟨_,rfl⟩;obtain⟨W2,DI⟩:∃W2,W1.alloc (.map #[] 0)=W2:=⟨_,rfl⟩;have z1:W1.heap.size=w.heap.size+1:=by rw[<-AJ];simp
 have z2:W2.heap.size=w.heap.size+2:=by rw[<-DI];simp[z1]
 have m1:W1.ownsMap prog 3 hold w 0 (.map []):=by rw[<-AJ];exact World.ownsMap_made w _ _ _
 have m2:W2.ownsMap prog 346 (plainElem (H:=Unit) prog 3) (w.heap.size+1) 0 (.map []):=by rw[<-DI,<-z1];exact World.ownsMap_made W1 _ _ _
 refine⟨w.heap.size+2,w.heap.size,w.heap.size+1,rfl,⟨⟨?_,?_,?_⟩,⟨?_,tidy_empty,λ x=>rfl,λ x=>aX _ _ 346 3,λ x y k _ hk=>by simp[Value.ownBlock] at hk,?_,aF _⟩,?_,?_,by omega⟩,by omega,by omega,by omega,?_⟩
 ·rw[AJ,DI]
  have:=aQ W2 (.cells #[.map w,.map (some (w.heap.size+1))] 379);rw[z2] at this;exact this
 ·rw[AJ,DI];exact m2.alloc _
 ·exact⟨λ kl=>⟨λ h=>(by cases h),λ⟨t,h,_⟩=>(by simp at h)⟩,λ s hs=>(by simp at hs),tidy_empty,λ s hs=>(by simp at hs),λ _=>jJ _,λ _=>by omega⟩
 ·rw[AJ];exact(m1.alloc _).alloc _
 ·simp only[aT];omega
 ·simp only[aT];omega
 ·simp only[aT];omega
 ·exact((b_).alloc (by simp) _).alloc (by simp;omega) _
structure Out (lm rm:Nat) (f0 f:Int->Value) (w w':World):Prop where
 os:w'.os=w.os
 tape:w'.tape=w.tape
 output:w'.output=w.output
 size:w.heap.size<=w'.heap.size
 block:∀k,k<w.heap.size->k≠lm->k≠rm->F9 f0 k->w'.heap[k]? =w.heap[k]?
 norow:∀k,k<w.heap.size->F9 f0 k->F9 f k
def C5 (w:World)(p lm rm bx:Nat)(s:Stp):Prop:=w.cell? p=some (.map lm)/\w.cell? (p,1)=some (.map rm)/\w.cell? bx=s.1/\w.cell? (bx,1)=s.2.1/\w.cell? (bx,2)=s.2.2
structure Cj (w0:World) (f0:Int->Value) (w:World) (p lm rm bx N B:Nat) (M:DataW Unit) (D:List Stp) (r:Stp->Int) (f:Int->Value) (g:Int->List Stp) (s:Stp):Prop where
 net:E9 w p lm rm N M D r
 lv:∃L,Lv w lm N B L f g
 pb:p<B
 rb:rm<B
 ne:lm≠rm
 box:w.heap[bx]? =some (.cells #[s.1,s.2.1,s.2.2] 346)
 norow:F9 f bx
 fr:Out lm rm f0 f w0 w
 bb:B<=bx
 b0:B<=w0
section
variable {w0 w w':World} {p lm rm bx N B:Nat} {M:DataW Unit} {D:List Stp} {r:Stp->Int} {f0 f:Int->Value} {g:Int->List Stp} {s:Stp}
theorem Cj.c5 (h:Cj w0 f0 w p lm rm bx N B M D r f g s):C5 w p lm rm bx s:=by
 refine⟨?_,?_,?_,?_,?_⟩ <;> simp[World.cell?,h.net.hp,h.box]
theorem Cj.plm (h:Cj w0 f0 w p lm rm bx N B M D r f g s):p≠lm:=λ e=>by
 obtain⟨L,hl⟩:=h.lv;obtain⟨es,clock,hb,_⟩:=hl.mp;rw[<-e,h.net.hp] at hb;simp at hb
theorem Cj.ztf (h:Cj w0 f0 w p lm rm bx N B M D r f g s):bx≠lm:=λ e=>by
 obtain⟨L,hl⟩:=h.lv;have:=hl.lt;have:=h.bb;omega
theorem Cj.low (h:Cj w0 f0 w p lm rm bx N B M D r f g s){k:Nat}(hk:k<B):F9 f k:=λ x e=>by
 obtain⟨L,hl⟩:=h.lv;have:=(hl.off e).1;omega
theorem Cj.below (h:Cj w0 f0 w p lm rm bx N B M D r f g s)(hb:Below w w w'):Cj w0 f0 w' p lm rm bx N B M D r f g s:=by
 obtain⟨L,hl⟩:=h.lv;exact {h with net:=h.net.below hb,lv:=⟨L,hl.below hb⟩,box:=(hb.block bx (lt_of_some h.box)).trans h.box,fr:=⟨hb.os.trans h.fr.os,hb.tape.trans h.fr.tape,hb.output.trans h.fr.output,aD h.fr.size hb.size,λ k h1 h2 h3 h4=>(hb.block k (aR h1 h.fr.size)).trans (h.fr.block k h1 h2 h3 h4),h.fr.norow⟩}
theorem Cj.ro (h:Cj w0 f0 w p lm rm bx N B M D r f g s)(ro:Ro f lm w w'):C5 w' p lm rm bx s:=by
 have h1:=(ro.block p (lt_of_some h.net.hp) h.plm (h.low h.pb)).trans h.net.hp;have h2:=(ro.block bx (lt_of_some h.box) h.ztf h.norow).trans h.box;refine⟨?_,?_,?_,?_,?_⟩ <;> simp[World.cell?,h1,h2]
theorem Cj.lay (h:Cj w0 f0 w p lm rm bx N B M D r f g s)(ty:TypeId){x:Int}(hx:(Lit.int .i64 x).wf=true)(t:Stp)(hl:(g x).length<=1000)(hN:N<=1000000):
 ∃v' w1 w2,(Instr.lookup 376 (.map lm) x false).run prog w= .ok (f x) w/\(Instr.lookup 376 (.map lm) x false).run prog (w.alloc (.cells #[t.1,t.2.1,t.2.2] 346))= .ok (f x) (w.alloc (.cells #[t.1,t.2.1,t.2.2] 346))/\
  (Builtin.append_ #[347,347] ty #[f x,.slice w 1 1]).run prog (w.alloc (.cells #[t.1,t.2.1,t.2.2] 346))= .ok v' w1/\(Instr.mapUpdate 376 (.map lm) x v').run prog w1= .ok () w2/\
  C5 w p lm rm bx s/\C5 (w.alloc (.cells #[t.1,t.2.1,t.2.2] 346)) p lm rm bx s/\C5 w1 p lm rm bx s/\C5 w2 p lm rm bx s/\
  Cj w0 f0 w2 p lm rm bx (N+1) B M D r (λ y=>if y=x then v' else f y) (λ y=>if y=x then g x++[t] else g y) s:=by
 obtain⟨L,hv⟩:=h.lv;obtain⟨v',w1,w2,L',e1,e2,e3,e4,l2,ro1,ro2,nr⟩:=hv.lay ty hx t hl hN;refine⟨v',w1,w2,e1,e2,e3,e4,h.c5,(h.below (b_)).c5,h.ro ro1,h.ro ro2,⟨⟨(ro2.block p (lt_of_some h.net.hp) h.plm (h.low h.pb)).trans h.net.hp,?_,h.net.rom⟩,⟨L',l2⟩,h.pb,h.rb,h.ne,(ro2.block bx (lt_of_some h.box) h.ztf h.norow).trans h.box,nr bx (lt_of_some h.box) h.norow,⟨ro2.os.trans h.fr.os,ro2.tape.trans h.fr.tape,ro2.output.trans h.fr.output,aD h.fr.size ro2.size,λ k h1 h2 h3 h4=>(ro2.block k (aR h1 h.fr.size) h2 (h.fr.norow k h1 h4)).trans (h.fr.block k h1 h2 h3 h4),λ k h1 h4=>nr k (aR h1 h.fr.size) (h.fr.norow k h1 h4)⟩,h.bb,h.b0⟩⟩;obtain⟨es,clock,hb,rest⟩:=h.net.mp.mono (iE N);exact⟨es,clock,(ro2.block rm (lt_of_some hb) h.ne.symm (h.low h.rb)).trans hb,rest⟩
theorem Cj.wider {D':List Stp}(h:Cj w0 f0 w p lm rm bx N B M D r f g s)(hd:∀t∈D,t∈D')(h0:∀t∈D',t∉D->r t=0)(hw:∀t∈D',wfS t):Cj w0 f0 w p lm rm bx N B M D' r f g s:=
 {h with net:=⟨h.net.hp,h.net.mp,h.net.rom.wider hd h0 hw⟩}
theorem Cj.room (h:Cj w0 f0 w p lm rm bx N B M D r f g s){t:Stp}(ht:t∈D){c:Int}(h0:0<c)(hc:c<=1000)(hN:N<=1000000):
 ∃w2,(Instr.mapUpdate 377 (.map rm) (vS t) c).run prog w= .ok () w2/\C5 w2 p lm rm bx s/\∃M',Cj w0 f0 w2 p lm rm bx (N+1) B M' D (λ q=>if q=t then c else r q) f g s:=by
 obtain⟨w2,r2,m2,g2⟩:=h.net.mp.update I9 underlying377 (by unfold maxLen;omega) (Ia (h.net.rom.wf t ht)) (val:=.int .i64 c) (plainElem_int underlying3 (Av (by omega) (by omega)));have JB:bx≠rm:=λ e=>by have:=h.rb;have:=h.bb;omega
 obtain⟨L,hl⟩:=h.lv;have KS:=hl.grown g2 h.ne.symm h.rb;have hm:Cj w0 f0 w2 p lm rm bx (N+1) B _ D (λ q=>if q=t then c else r q) f g s:=
  ⟨h.net.stored g2 m2 (h.net.rom.put ht h0 (by omega)),⟨L,{KS with mp:=KS.mp.mono (iE N)}⟩,h.pb,h.rb,h.ne,(g2.block bx (lt_of_some h.box) (λ e=>JB (by injection e))).trans h.box,h.norow,⟨g2.os.trans h.fr.os,g2.tape.trans h.fr.tape,g2.output.trans h.fr.output,aD h.fr.size g2.size,λ k h1 h2 h3 h4=>(g2.block k (aR h1 h.fr.size) (λ e=>h3 (by injection e))).trans (h.fr.block k h1 h2 h3 h4),h.fr.norow⟩,h.bb,h.b0⟩
 exact⟨w2,r2,hm.c5,_,hm⟩
end
end Go.Proofs.Y.S
namespace Go.Proofs.Y.S
open Go Go.ChangeMaps Go.MapKept Go.WideShapes Go.Proofs.Tryz
open Go.RowKit Go.WideMaps Go.Maps F
def Gp (g:Int->List Stp)(s:Stp):Int->List Stp:=λ y=>if y=fr s then g (fr s)++[s] else g y
def Ri (w:World)(p lm rm N B:Nat)(D:List Stp)(r:Stp->Int)(f:Int->Value)(g:Int->List Stp)(s:Stp)(c:Int)(e:Ending)(w':World):Prop:=
 e=Value.tuple #[]/\∃M' L' f',Gq w' p lm rm (N+4) B M' L' (D++[s,bk s]) (λ q=>if q=bk s then c else if q=s then 1 else r q) f' (Gp (Gp g s) (bk s))/\Out lm rm f f' w w'
theorem Cj.post {w0 w:World}{p lm rm bx N N' B:Nat}{M:DataW Unit}{D D':List Stp}{r r':Stp->Int}{f0 f:Int->Value}{g g':Int->List Stp}{s:Stp}{c:Int}(h:Cj w0 f0 w p lm rm bx N B M D' r' f g' s)(hN:N<=N'+4)(hD:D'=D++[s,bk s])(hr:∀q,r' q=if q=bk s then c else if q=s then 1 else r q)(hg:g'=Gp (Gp g s) (bk s)):Ri w0 p lm rm N' B D r f0 g s c (.returned (.tuple #[])) w:=by
 obtain⟨L,hl⟩:=h.lv;have e:r'=λ q=>if q=bk s then c else if q=s then 1 else r q:=funext hr
 subst e;subst hD;subst hg;exact⟨rfl,M,L,f,⟨⟨h.net.hp,h.net.mp.mono hN,h.net.rom⟩,{hl with mp:=hl.mp.mono hN},h.pb,h.rb,h.ne⟩,h.fr⟩
theorem zf8 {w0 w:World}{p lm rm bx N B:Nat}{M:DataW Unit}{D:List Stp}{r:Stp->Int}{f0 f:Int->Value}{g:Int->List Stp}{s:Stp}(h:Cj w0 f0 w p lm rm bx N B M D r f g s)(hs:wfS s)(hl:(g (tt s)).length<=1000)(hN:N<=900000):
 (Instr.lookup 376 (.map lm) s.2.2 false).run prog w= .ok (f s.2.2) w/\
 Calls prog 349 #[vS s] w λ e w'=>e=(vS (bk s))/\C5 w' p lm rm bx s/\∃v' w1 w2,
  (Instr.lookup 376 (.map lm) s.2.2 false).run prog w'= .ok (f s.2.2) w'/\(Instr.lookup 376 (.map lm) s.2.2 false).run prog (w'.alloc (.cells #[s.1,s.2.2,s.2.1] 346))= .ok (f s.2.2) (w'.alloc (.cells #[s.1,s.2.2,s.2.1] 346))/\
  Hid ((Builtin.append_ #[347,347] 347 #[f s.2.2,.slice w' 1 1]).run prog (w'.alloc (.cells #[s.1,s.2.2,s.2.1] 346))= .ok v' w1)/\(Instr.mapUpdate 376 (.map lm) s.2.2 v').run prog w1= .ok () w2/\
  C5 (w'.alloc (.cells #[s.1,s.2.2,s.2.1] 346)) p lm rm bx s/\C5 w1 p lm rm bx s/\C5 w2 p lm rm bx s/\Hid (∃f',Cj w0 f0 w2 p lm rm bx (N+1) B M D r f' (Gp g (bk s)) s):=by
 obtain⟨L,hv⟩:=h.lv;refine⟨hv.look hs.2.2,(Sl s w).mono ?_⟩;rintro e w' ⟨rfl,hb⟩;have h':=h.below hb;obtain⟨v',w1,w2,e1,e2,e3,e4,c1,c2,c3,c4,hm⟩:=h'.lay 347 hs.2.2 (bk s) hl (by omega);exact⟨rfl,c1,v',w1,w2,e1,e2,e3,e4,c2,c3,c4,_,hm⟩
theorem zl9 {w0 w:World}{p lm rm bx N B:Nat}{M:DataW Unit}{D:List Stp}{r:Stp->Int}{f0 f:Int->Value}{g:Int->List Stp}{s:Stp}{c:Int}(h:Cj w0 f0 w p lm rm bx N B M D r f g s)(hs:bk s∈D)(h0:0<c)(hc:c<=1000)(hN:N<=900000):
 Calls prog 349 #[vS s] w λ e w'=>e=(vS (bk s))/\C5 w' p lm rm bx s/\∃w2,(Instr.mapUpdate 377 (.map rm) (vS (bk s)) c).run prog w'= .ok () w2/\C5 w2 p lm rm bx s/\Hid (∃M',Cj w0 f0 w2 p lm rm bx (N+1) B M' D (λ q=>if q=bk s then c else r q) f g s):=by
 refine(Sl s w).mono ?_;rintro e w' ⟨rfl,hb⟩;have h':=h.below hb;obtain⟨w2,e1,c1,hm⟩:=h'.room hs h0 hc (by omega);exact⟨rfl,h'.c5,w2,e1,c1,hm⟩
theorem zrp (p lm rm N B:Nat)(M:DataW Unit)(L:DataW Value)(D:List Stp)(r:Stp->Int)(f:Int->Value)(g:Int->List Stp)(s:Stp)(c:Int)(w:World)(h:Gq w p lm rm N B M L D r f g)(hs:wfS s)(l9:fr s≠tt s)(FZ:0<=c)(hc:c<=1000)(hN:N<=100000)(hl:∀x,(g x).length<=900)(hr0:r s=0)(IL:r (bk s)=0):
 Calls prog 314 #[.pointer p,vS s,c] w (Ri w p lm rm N B D r f g s c):=by
 obtain⟨W,hW⟩:∃W,w.alloc (.cells #[s.1,s.2.1,s.2.2] 346)=W:=⟨_,rfl⟩;obtain⟨bx,JS⟩:∃bx,w.heap.size=bx:=⟨_,rfl⟩;have CW:Below w w W:=by rw[<-hW];exact b_
 have hA:=h.below CW;obtain⟨D',hD'⟩:∃D',D++[s,bk s]=D':=⟨_,rfl⟩;have hsD:s∈D':=by rw[<-hD'];simp
 have hbD:bk s∈D':=by rw[<-hD'];simp
 have hM0:Cj w f W.drew p lm rm bx N B M D' r f g s:=by
  have:Cj w f W p lm rm bx N B M D r f g s:=⟨hA.net,⟨L,hA.lv⟩,h.pb,h.rb,h.ne,by rw[<-JS,<-hW];exact aQ w _,λ x e=>by have:=(h.lv.off e).2;omega,⟨CW.os,CW.tape,CW.output,CW.size,λ k h1 _ _ _=>CW.block k h1,λ k _ h=>h⟩,by rw[<-JS];exact h.lv.le,h.lv.le⟩;refine(this.wider (D':=D') (λ t ht=>by rw[<-hD'];simp[ht]) (λ t ht hn=>?_) (λ t ht=>?_)).below (aI _ _).drew
  ·rw[<-hD'] at ht
   rcases aK.1 ht with ht|ht
   ·exact absurd ht hn
   ·simp at ht
    rcases ht with rfl|rfl
    ·exact hr0
    ·exact IL
  ·rw[<-hD'] at ht
   rcases aK.1 ht with ht|ht
   ·exact h.net.rom.wf t ht
   ·simp at ht
    rcases ht with rfl|rfl
    ·exact hs
    ·exact hs.bk
 obtain⟨v1,wa,wb,e1,e2,e3,e4,c1,c2,c3,c4,hM1⟩:=hM0.lay 347 hs.2.1 s (by have:=hl s.2.1;omega) (by omega);have AX:∀x,(Gp g s x).length<=901:=λ x=>by
  unfold Gp;split
  ·have:=hl (fr s);simp;omega
  ·have:=hl x;omega
 have hM1d:=hM1.below (aI _ _).drew;obtain⟨k1,k2⟩:=zf8 hM1d hs (by have:=AX (tt s);exact aD this (by omega)) (by omega);have hC2:=hM1d.c5;obtain⟨v0,hv0⟩:∃v0,f s.2.1=v0:=⟨_,rfl⟩;obtain⟨f2,hf2⟩:∃f2,(if s.2.2=s.2.1 then v1 else f s.2.2)=f2:=⟨_,rfl⟩;simp only[hf2] at k1 k2;rw[hv0] at e1 e2 e3;have HT:Hid _:=k2;have QT:=kd e3;have RA:Hid (∀w2 f',Cj w f w2 p lm rm bx (N+2) B M D' r f' (Gp (Gp g s) (bk s)) s->C5 w2.drew p lm rm bx s/\∃w3,(Instr.mapUpdate 377 (.map rm) (vS s) (1:Int)).run prog w2.drew= .ok () w3/\C5 w3 p lm rm bx s/\C5 w3.drew p lm rm bx s/\Hid ((c=0->∀n,Ri w p lm rm N B D r f g s c (.returned (.tuple #[])) (w3.drewN n))/\
  (0<c->Calls prog 349 #[vS s] w3.drew λ e w'=>e=(vS (bk s))/\C5 w' p lm rm bx s/\∃w4,(Instr.mapUpdate 377 (.map rm) (vS (bk s)) c).run prog w'= .ok () w4/\C5 w4 p lm rm bx s/\Hid (∀n,Ri w p lm rm N B D r f g s c (.returned (.tuple #[])) (w4.drewN n))))):=by
  intro w2 f' hm;have hmd:=hm.below (aI _ _).drew;obtain⟨w3,q1,q2,M3,EJ⟩:=hmd.room hsD (c:=1) (by omega) (by omega) (by omega);have hm3d:=EJ.below (aI _ _).drew;refine⟨hmd.c5,w3,q1,q2,hm3d.c5,λ h0 n=>?_,λ h0=>?_⟩
  ·refine(EJ.below (below_drewN (aI _ _) n)).post (by omega) hD'.symm (λ q=>?_) rfl
   by_cases e:q=bk s
   ·rw[aP e,aL (by rw[e];exact R4 l9),e,IL,h0]
   ·rw[aL e]
  ·refine(zl9 hm3d hbD h0 hc (by omega)).mono ?_
   rintro e w' ⟨rfl,u1,w4,u2,u3,M4,u4⟩;refine⟨rfl,u1,w4,u2,u3,λ n=>?_⟩;exact(u4.below (below_drewN (aI _ _) n)).post (by omega) hD'.symm (λ q=>rfl) rfl
 have HW:=kd hW;have CX:=kd JS;obtain⟨x,y,z⟩:=s;unfold vS bk C5 at HT;unfold vS bk C5 at RA;unfold C5 at c1 c2 c3 c4 hC2;unfold vS;simp only at HT RA HW QT e1 e2 e4 c1 c2 c3 c4 hC2 k1 ⊢;clear h hs l9 hN hl hr0 IL hW JS CW hA hD' hsD hbD hM0 hM1 hM1d AX hf2 hv0 e3 k2;rw[show W.drew.alloc (.cells #[x,y,z] 346)=(W.alloc (.cells #[x,y,z] 346)).drew from rfl] at c2 e2 QT;go_enter func314,ntmps314;go_upto_region 1 with fail
 rw[HW.o,CX.o];clear HW CX
 go_region_held_law (λ w'=>(w'.cell? p=some (.map lm)/\w'.cell? (p,1)=some (.map rm)/\w'.cell? bx=x/\w'.cell? (bx,1)=y/\w'.cell? (bx,2)=z)) (with_reducible assumption)
  (refine G.A7 rfl (.tmp 18) (.tmp 20) 347 347 rfl v0 (.slice W 1 1) (by first|rfl|(simp[Act.eval];done)|(simp[Act.eval,Act.put];done)) (by first|rfl|(simp[Act.eval];done)|(simp[Act.eval,Act.put];done)) QT.o ?_)
 all_goals
  clear e1 e2 e4 c1 c2 c3 c4 QT;go_upto_region 2 with fail
  go_region_held_law (λ w'=>(w'.cell? p=some (.map lm)/\w'.cell? (p,1)=some (.map rm)/\w'.cell? bx=x/\w'.cell? (bx,1)=y/\w'.cell? (bx,2)=z)) (with_reducible assumption)
   (first
   |(go_at_call 349;refine aA HT.o ?_;rintro e w' ⟨rfl,d1,v2,w1,w2,l1,l2,MN,u2,d2,d3,d4,RD⟩)
   |(refine G.A7 rfl (.tmp 34) (.tmp 37) 347 347 rfl f2 (.slice (some ⟨_,0,none⟩) 1 1) (by first|rfl|(simp[Act.eval];done)) (by first|rfl|(simp[Act.eval];done)) MN.o ?_))
  all_goals
   obtain⟨f',DF⟩:=RD.o;obtain⟨i1,w3,i2,i3,i4,HR⟩:=RA.o w2 f' DF;clear DF RD RA HT l1 l2 u2 d1 d2 d3 d4 MN k1 hC2;go_upto_region 3 with fail
   go_region_held (λ w'=>(w'.cell? p=some (.map lm)/\w'.cell? (p,1)=some (.map rm)/\w'.cell? bx=x/\w'.cell? (bx,1)=y/\w'.cell? (bx,2)=z)) (with_reducible assumption) (fail)
   all_goals
    clear i1 i2;by_cases BV:c=0
    ·have HF:=HR.o.1 BV 0
     subst BV;go_wp2_with fail;refine gH (v:=.tuple #[]) (by simp[results,Tryz.results314,go_sem]) rfl ?_;exact HF
    ·have IZ:0<c:=by omega
     have HC:Hid _:=HR.o.2 IZ;clear HR;go_upto_region 5 with fail
     go_region_held (λ w'=>(w'.cell? p=some (.map lm)/\w'.cell? (p,1)=some (.map rm)/\w'.cell? bx=x/\w'.cell? (bx,1)=y/\w'.cell? (bx,2)=z)) (with_reducible assumption)
      (first|(go_at_call 349;refine aA HC.o ?_;rintro e w' ⟨rfl,j1,w4,j2,j3,HF⟩))
     all_goals
      go_wp2_with fail;refine gH (v:=.tuple #[]) (by simp[results,Tryz.results314,go_sem]) rfl ?_;exact HF.o 0
open Go Go.ChangeMaps Go.MapKept Go.WideShapes
def lD (ss:List (Stp × Int)):List Stp:=ss.foldl (λ D t=>D++[t.1,bk t.1]) []
def lr (ss:List (Stp × Int)):Stp->Int:=ss.foldl (λ r t=>λ q=>if q=bk t.1 then t.2 else if q=t.1 then 1 else r q) (λ _=>0)
def lg (ss:List (Stp × Int)):Int->List Stp:=ss.foldl (λ g t=>Gp (Gp g t.1) (bk t.1)) (λ _=>[])
theorem I1 (ss:List (Stp × Int))(t:Stp × Int):lD (ss++[t])=lD ss++[t.1,bk t.1]:=by simp[lD]
theorem R6 (ss:List (Stp × Int))(t:Stp × Int):lr (ss++[t])=λ q=>if q=bk t.1 then t.2 else if q=t.1 then 1 else lr ss q:=by simp[lr]
theorem Vv (ss:List (Stp × Int))(t:Stp × Int):lg (ss++[t])=Gp (Gp (lg ss) t.1) (bk t.1):=by simp[lg]
theorem Jm {α:Type}{P:List α->Prop}(h0:P [])(h1:∀l a,P l->P (l++[a]))(l:List α):P l:=by
 have:∀n (l:List α),l.length=n->P l:=by
  intro n;induction n with
  |zero=>intro l hl;rw[bV hl];exact h0
  |succ n ih=>
   intro l hl;have l9:l≠[]:=λ e=>by rw[e] at hl;simp at hl
   rw[<-List.dropLast_concat_getLast l9];exact h1 _ _ (ih _ (by simp[hl]))
 exact this _ l rfl
theorem Qz (ss:List (Stp × Int))(q:Stp):q∈lD ss↔∃t∈ss,q=t.1\/q=bk t.1:=by
 induction ss using Jm with
 |h0=>simp[lD]
 |h1 l a ih=>
  rw[I1,aK,ih];constructor
  ·rintro(⟨t,h1,h2⟩|h)
   ·exact⟨t,by simp[h1],h2⟩
   ·exact⟨a,by simp,by simpa using h⟩
  ·rintro⟨t,h1,h2⟩
   rcases aK.1 h1 with h1|h1
   ·exact .inl ⟨t,h1,h2⟩
   ·rw[aJ.1 h1] at h2
    exact .inr (by simpa using h2)
theorem zha (ss:List (Stp × Int)){q:Stp}(h:q∉lD ss):lr ss q=0:=by
 induction ss using Jm with
 |h0=>rfl
 |h1 l a ih=>
  rw[I1,aK] at h;have h1:q≠a.1:=λ e=>h (.inr (by simp[e]))
  have h2:q≠bk a.1:=λ e=>h (.inr (by simp[e]))
  rw[R6];simp only[aL h1,aL h2];exact ih (λ k=>h (.inl k))
theorem zg (g:Int->List Stp)(s:Stp)(x:Int):(Gp g s x).length<=(g x).length+1:=by
 unfold Gp;by_cases h:x=fr s
 ·rw[aP h,h];simp
 ·rw[aL h];omega
theorem zi7 (ss:List (Stp × Int))(x:Int):(lg ss x).length<=2*ss.length:=by
 induction ss using Jm with
 |h0=>simp[lg]
 |h1 l a ih=>
  rw[Vv];have h1:=zg (Gp (lg l) a.1) (bk a.1) x;have h2:=zg (lg l) a.1 x;simp;omega
theorem dx (g:Int->List Stp)(s q:Stp)(x:Int):q∈Gp g s x↔q∈g x\/(q=s/\x=fr s):=by
 unfold Gp;by_cases h:x=fr s
 ·rw[aP h,aK,<-h];simp[h]
 ·rw[aL h];simp[h]
theorem zta (ss:List (Stp × Int))(q:Stp)(x:Int):q∈lg ss x↔q∈lD ss/\fr q=x:=by
 induction ss using Jm with
 |h0=>simp[lg,lD]
 |h1 l a ih=>
  rw[Vv,dx,dx,ih,I1,aK];simp only[cO,gD,kC];constructor
  ·rintro((⟨h1,h2⟩|⟨h1,h2⟩)|⟨h1,h2⟩)
   ·exact⟨.inl h1,h2⟩
   ·exact⟨.inr (.inl h1),by rw[h1,h2]⟩
   ·exact⟨.inr (.inr h1),by rw[h1,h2]⟩
  ·rintro⟨h1|h1|h1,h2⟩
   ·exact .inl (.inl ⟨h1,h2⟩)
   ·exact .inl (.inr ⟨h1,by rw[<-h2,h1]⟩)
   ·exact .inr ⟨h1,by rw[<-h2,h1]⟩
def Laid (w:World)(p lm rm N B:Nat)(ss:List (Stp × Int))(f:Int->Value):Prop:=∃M L,Gq w p lm rm N B M L (lD ss) (lr ss) f (lg ss)
theorem Laid.below {w w':World}{p lm rm N B:Nat}{ss:List (Stp × Int)}{f:Int->Value}(h:Laid w p lm rm N B ss f)(hb:Below w w w'):Laid w' p lm rm N B ss f:=by
 obtain⟨M,L,h⟩:=h;exact⟨M,L,h.below hb⟩
theorem Ty {w:World}{p lm rm N B:Nat}{ss:List (Stp × Int)}{f:Int->Value}(h:Laid w p lm rm N B ss f){s:Stp}{c:Int}(hs:wfS s)(l9:fr s≠tt s)(FZ:0<=c)(hc:c<=1000)(hN:N<=4*ss.length)(hl:ss.length<=400)(h1:s∉lD ss)(h2:bk s∉lD ss):
 Calls prog 314 #[.pointer p,vS s,c] w λ e w'=>e=Value.tuple #[]/\∃f',Laid w' p lm rm (N+4) B (ss++[(s,c)]) f'/\Out lm rm f f' w w':=by
 obtain⟨M,L,h⟩:=h;refine(zrp p lm rm N B M L _ _ f _ s c w h hs l9 FZ hc (by omega) (λ x=>by have:=zi7 ss x;omega) (zha ss h1) (zha ss h2)).mono ?_;rintro e w' ⟨rfl,M',L',f',k1,k2⟩;refine⟨rfl,f',⟨M',L',?_⟩,k2⟩;rw[I1,R6,Vv];exact k1
theorem Out.refl (lm rm:Nat)(f:Int->Value)(w:World):Out lm rm f f w w:=⟨rfl,rfl,rfl,aF _,λ _ _ _ _ _=>rfl,λ _ _ h=>h⟩
theorem Out.trans {lm rm:Nat}{f0 f1 f2:Int->Value}{a b c:World}(h:Out lm rm f0 f1 a b)(k:Out lm rm f1 f2 b c):Out lm rm f0 f2 a c:=
 ⟨k.os.trans h.os,k.tape.trans h.tape,k.output.trans h.output,aD h.size k.size,λ i h1 h2 h3 h4=>(k.block i (aR h1 h.size) h2 h3 (h.norow i h1 h4)).trans (h.block i h1 h2 h3 h4),λ i h1 h4=>k.norow i (aR h1 h.size) (h.norow i h1 h4)⟩
theorem Out.below {lm rm:Nat}{f0 f1:Int->Value}{a b c:World}(h:Out lm rm f0 f1 a b)(k:Below b b c):Out lm rm f0 f1 a c:=
 ⟨k.os.trans h.os,k.tape.trans h.tape,k.output.trans h.output,aD h.size k.size,λ i h1 h2 h3 h4=>(k.block i (aR h1 h.size)).trans (h.block i h1 h2 h3 h4),h.norow⟩
theorem Out.old {lm rm B:Nat}{f0 f1:Int->Value}{a b:World}(h:Out lm rm f0 f1 a b)(hB:B<=a)(h1:B<=lm)(h2:B<=rm)(h3:∀k,k<B->F9 f0 k):Below B a b:=
 ⟨h.os,h.tape,h.output,h.size,λ k hk=>h.block k (by omega) (by omega) (by omega) (h3 k hk)⟩
theorem Out.cell {lm rm:Nat}{f0 f1:Int->Value}{a b:World}(h:Out lm rm f0 f1 a b){k o:Nat}{v:Value}(hc:a.cell? (k,o)=some v)(h1:k≠lm)(h2:k≠rm)(h3:F9 f0 k):b.cell? (k,o)=some v:=by
 have hl:=lt_of_cell hc;simp only[World.cell?] at hc ⊢;rw[h.block k hl h1 h2 h3];exact hc
def edS (L:List Stp):List (Stp × Int):=L.map λ e=>(e,1)
theorem We {L:List Stp}{e:Stp}(h:∀d∈L,d.1≠e.1):e∉lD (edS L)/\bk e∉lD (edS L):=by
 have key:∀q:Stp,q.1=e.1->q∉lD (edS L):=λ q hq k=>by
  obtain⟨t,h1,h2⟩:=(Qz _ _).1 k;obtain⟨d,hd,rfl⟩:=aY.1 h1;rcases h2 with h2|h2
  ·exact h d hd (by rw[<-hq,h2])
  ·exact h d hd (by rw[<-hq,h2];rfl)
 exact⟨key e rfl,key (bk e) rfl⟩
theorem zab (n B0 q:Nat)(u:Value)(L:List (Int × Int × Int))(w:World)(h:G.GAt w B0 168 61 q (n:Int) u L)(hn:n<=40)(AV:Ed n 120 L):
 Calls prog 235 #[.pointer q] w λ e w'=>∃p lm rm N B f,e=Value.pointer (some ⟨p,0,none⟩)/\Laid w' p lm rm N B (edS L) f/\N<=480/\Below w w w'/\w.heap.size<=p/\w.heap.size<=lm/\w.heap.size<=rm/\w.heap.size<=B:=by
 have HG:=kd h;have HE:=kd AV;have hlen:=AV.len;clear h AV;go_enter func235,ntmps235;go_wp2_with fail;refine(Ue w).mono ?_;rintro e w2 ⟨p,lm,rm,rfl,JW,h2,h3,h4,j5⟩;have y5:Hid (Below w w w2/\w.heap.size<=p/\w.heap.size<=lm/\w<=rm):=⟨j5,h2,h3,h4⟩;have UA:Hid (Laid w2 p lm rm 0 w2 [] (λ _=>.slice none 0 0)):=⟨_,_,JW⟩;have hlr:lm<w2/\rm<w2:=⟨JW.lv.lt,JW.rb⟩;clear JW h2 h3 h4 j5;go_wp2_with fail;refine(G.Dv (n:Int) B0 q u L w2 (HG.o.below y5.o.1) (by omega)).mono ?_;rintro e w3 ⟨v,rfl,ho,y8⟩;obtain⟨m,hm⟩:∃m,m=L.length:=⟨_,rfl⟩;have HM:=kd hm;obtain⟨va,vc,hv⟩:=ho.Ap;rw[<-hm] at hv hlen;subst hv;have HO:=kd ho;have IG:Hid (Laid w3 p lm rm 0 w2 [] (λ _=>.slice none 0 0)):=UA.o.below y8;have AZ:=kd y8;clear ho y8 UA hm;go_wp2_with fail;go_loopw [10] (λ s10 wq=>∃(j:Nat) (f:Int->Value),j<=m/\s10=j/\Laid wq p lm rm (4*j) w2 (edS (L.take j)) f/\Out lm rm (λ _=>.slice none 0 0) f w3 wq) (λ s10 _=>m-(intOf s10).toNat)
 case atStart=>exact⟨0,_,aN _,rfl,by simpa[edS] using IG.o,Out.refl _ _ _ _⟩
 case round=>
  clear IG;obtain⟨j,f,hj,rfl,hr,hk⟩:=hrel;have HR:=kd (And.intro hr hk);clear hr hk;by_cases j6:j<m
  ·obtain⟨e,hx⟩:∃e,L[j]? =some e:=⟨_,aB (by rw[<-HM.o];exact j6)⟩
   have NU:=aG hx;obtain⟨x,y,BO,ME,he⟩:=HE.o.ends e NU;have LF:=HE.o.ids e NU;obtain⟨g,EF⟩:∃g,va=some ⟨g,0,none⟩:=by
    rcases HO.o.shape with⟨_,k⟩|⟨g,cap,k,_⟩
    ·rw[k] at hx;simp at hx
    ·injection k with e1 _ _
     exact⟨g,e1⟩
   subst EF;obtain⟨r0,r1,r2⟩:=HO.o.at (g:=g) rfl hx;have hgb:w2<=g:=(aU HO.o g rfl).1;have hnr:F9 (λ _=>Value.slice none 0 0) g:=λ _ k=>by simp[Value.ownBlock] at k
   have q0:=HR.o.2.cell r0 (by omega) (by omega) hnr;have q1:=HR.o.2.cell r1 (by omega) (by omega) hnr;have q2:=HR.o.2.cell r2 (by omega) (by omega) hnr;have UU:Hid (L.take (j+1)=L.take j++[e]):=by
    show L.take (j+1)=_;rw[bL,hx];rfl
   have AB:∀d∈L.take j,d.1≠e.1:=by
    intro d hd k;obtain⟨i,hi,CR⟩:=dD.1 hd;obtain⟨MF,CE⟩:=aC.1 hx;have hij:i<j:=by simp at hi;omega
    rw[gP] at CR;have:=dM.1 HE.o.up i j (by omega) MF hij;rw[CR,CE] at this;omega
   obtain⟨x0,ER⟩:∃x0,e.1=x0:=⟨_,rfl⟩;rw[ER] at he LF AB q0;subst he;simp only at q0 q1 q2;obtain⟨W1,AJ⟩:∃W1,W1=wr.alloc (.cells #[x0,x,y] 61):=⟨_,rfl⟩;have hh:W1.heap[wr.heap.size]? =some (.cells #[x0,x,y] 61):=by rw[AJ];exact aQ wr _
   have p0:W1.cell? wr=x0:=by simp[World.cell?,hh]
   have p1:W1.cell? (wr,1)=x:=by simp[World.cell?,hh]
   have p2:W1.cell? (wr,2)=y:=by simp[World.cell?,hh]
   have BK:Below wr wr W1:=by rw[AJ];exact b_
   have BZ:Hid (Laid W1 p lm rm (4*j) w2 (edS (L.take j)) f/\Out lm rm (λ _=>.slice none 0 0) f w3 W1):=⟨HR.o.1.below BK,HR.o.2.below BK⟩;have BQ:=kd AJ.symm;have GR:=We (e:=(x0,(x:Int),(y:Int))) AB;have YN:(edS (L.take j)).length=j:=by
    have:=HM.o;simp[edS];omega
   have EX:wfS (x0,(x:Int),(y:Int)):=⟨Av (x:=x0) (by omega) (by omega),Av (x:=(x:Int)) (by omega) (by omega),Av (x:=(y:Int)) (by omega) (by omega)⟩;have HC:Hid _:=Ty BZ.o.1 (s:=(x0,(x:Int),(y:Int))) (c:=1) EX (by show(x:Int)≠(y:Int);omega) (by omega) (by omega) (by omega) (by omega) GR.1 GR.2;unfold vS at HC;simp only at HC;clear hx r0 r1 r2 AB ER NU hh AJ BK HR GR YN EX;go_wp2_with fail;rw[BQ.o];refine aA HC.o ?_;rintro e' w4 ⟨rfl,f',TK,MG⟩;have LC:Hid (Laid w4 p lm rm (4*(j+1)) w2 (edS (L.take (j+1))) f'/\Out lm rm (λ _=>.slice none 0 0) f' w3 w4):=by
    rw[UU.o];refine⟨?_,BZ.o.2.trans MG⟩;have:edS (L.take j++[(x0,(x:Int),(y:Int))])=edS (L.take j)++[((x0,(x:Int),(y:Int)),1)]:=by simp[edS]
    rw[this];exact TK
   clear TK MG BZ p0 p1 p2 HC;go_wp2_with fail;go_roundw;case rel=>exact⟨j+1,f',by omega,by go_num,LC.o.1,LC.o.2⟩
   case measure=>simp[intOf];omega
  ·have CE:j=m:=by omega
   subst CE;have HF:Hid (Laid wr p lm rm (4*j) w2 (edS L) f/\Below w w wr):=by
    have h1:=HR.o.1;rw[aZ (by rw[<-HM.o];omega)] at h1;refine⟨h1,?_⟩;have hs:=y5.o.1.size;have h2:=HR.o.2.old (B:=w.heap.size) (aD hs AZ.o.size) y5.o.2.2.1 y5.o.2.2.2 (λ k _ _ e=>by simp[Value.ownBlock] at e);exact(y5.o.1.trans (AZ.o.mono hs)).trans h2
   clear HR;go_wp2_with fail;go_ret;exact⟨p,lm,rm,4*j,w2.heap.size,f,rfl,HF.o.1,by omega,HF.o.2,y5.o.2.1,y5.o.2.2.1,y5.o.2.2.2,y5.o.1.size⟩
end Go.Proofs.Y.S
