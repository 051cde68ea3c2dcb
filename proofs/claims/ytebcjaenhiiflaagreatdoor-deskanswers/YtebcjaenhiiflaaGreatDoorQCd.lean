import Derived.Test.YtebcjaenhiiflaaGreatDoorQTiCce
import Derived.Lib.QuietBelow
set_option maxHeartbeats 16000000
set_option maxRecDepth 100000
namespace Go.Proofs.Y.S
open Go.RowKit Go.WideMaps Go.Maps Go.Sort Go.Proofs.Tryz
theorem zmq {L:List (Int × Int × Int)}{l:List Nat}{i j t y:Nat}{e:Int × Int × Int}(hy:(t=0/\y=ea e)\/(t=1/\y=eb e))(h:DnT L l i j t e)(hn:Rx L y i j->¬l.getD i 0<l.getD j 0):DnT L l i j (t+1) e:=by
 refine⟨h.1,λ _ hr=>?_,λ h1 hr=>?_⟩
 ·rcases hy with⟨rfl,rfl⟩|⟨rfl,rfl⟩
  ·exact hn hr
  ·exact h.2.1 (by omega) hr
 ·rcases hy with⟨rfl,rfl⟩|⟨rfl,rfl⟩
  ·omega
  ·exact hn hr
theorem Z5 (x0:Int)(A E x z:Nat)(w:World)(hx:x=A\/x=E)(hA:A<=1000)(hE:E<=1000)(hz:A+E-x=z):
 Calls prog 121 #[.agg #[x0,A,E],x] w λ e w'=>e=z/\Below w w w':=by
 rw[<-hz];exact zdy x0 A E x w hx hA hE
theorem zff (n B q M:Nat)(u:Value)(R L:List (Int × Int × Int))(w:World)(h:G.GAt w B 40 61 q (n:Int) u R)(hi:G.Inv R L)(AV:Ed n M L)(hM:M<=120)(hn:n<=40):
 Calls prog 62 #[.pointer q] w λ e w'=>∃l,Good L.length l/\(∀u v,Lk L.length l u v↔Blk L u v)/\Dl w (Ha L l) e w':=by
 have FO:R.length<=120:=by rw[hi.rz];exact hi.len
 have hlen:=AV.len;have HG:=kd h;have BG:Hid (Inn n R):=zjx AV hi;have HINV:=kd hi;have HE:=kd (And.intro AV hi.perm);obtain⟨i0,GJ,BR,BU,BM⟩:=info_parts Tryz.info48;clear h hi AV;go_enter func62,ntmps62;go_wp2_with fail;refine(G.K6 B q (n:Int) u R L w HG.o HINV.o).mono ?_;rintro e w1 ⟨vr,rfl,ho,j4⟩;obtain⟨m,hm⟩:∃m,L.length=m:=⟨_,rfl⟩;have HM:=kd hm;obtain⟨va,vc,hv⟩:=ho.Ap;rw[hm] at hv hlen;subst hv;have HO:=kd ho;have x8:=kd j4;have PD:=j4.size;have hc:=(HG.o.below j4).c0;clear ho j4 hm;go_wp2_with fail;go_loopw [4,27] (λ s4 s27 wq=>∃(x:Nat) (P:List (Nat × List Nat)),x<=n/\s27=x/\P.length=x/\H9 wq w1 n s4 P/\AlS n L P/\Below w1 w1 wq) (λ _ s27 _=>n-(intOf s27).toNat)
 case atStart=>exact⟨0,[],aN _,rfl,rfl,⟨aX _ _ _ _,by simp⟩,λ x p hp=>by simp at hp,aI _ _⟩
 case round=>
  obtain⟨x,P,hx,rfl,TV,hA,hS,UN⟩:=hrel;have HA:=kd (And.intro hA hS);have OI:=kd UN;have VL:=UN.size;have FR:=(HG.o.below x8.o).below UN;have IU:=kd FR;clear hA hS UN hc;by_cases j6:x<n
  ·have hc:=FR.c0
   clear FR;go_wp2_with fail;refine(tu x n B q u R wr IU.o FO BG.o).mono ?_;rintro e w2 ⟨q',v',rfl,AU,j5⟩;have GD:=kd (And.intro AU j5);clear AU j5 hc;go_wp2_with fail;refine(De n wr q' v' (wo R x) w2 GD.o.1 (aD (zhm R x) FO) hn (zjc BG.o x)).mono ?_;rintro e w3 ⟨b,l,rfl,LH,hb,FK,IB,IX⟩;have AZ:Hid (Below wr wr w3):=GD.o.2.tr IX;have QV:Hid (H9 w3 w1 n u4 P):=HA.o.1.below AZ.o;have IG:Hid (AlS n L (P++[(b,l)])):=zkv HA.o.2 (λ u v hu hv=>by rw[TV,IB u v hu hv];exact Xo (zbn HE.o.2 x));have DR:=kd (And.intro LH FK);have o8:=QV.o.own;have hb3s:=AZ.o.size;clear LH IB IX GD IU;go_wp2_with (first
    |(at_builtin;refine wpList_append_own_at _ rfl _ _ 51 rfl w1.heap.size 48 i0 (.slice none 0 0) 1 24 underlying51 GJ BR BU BM rfl (by decide) u4 _ _ rfl (o8.alloc _) w3 1 1 [.slice b n n] rfl rfl (cell_one_new _ _ _) (Fv _ _ _) (by unfold maxLen;omega) (by omega) (by simp;omega) ?_;intro v5 w5 BA AL QN IA)
    |fail)
   have y7:=(bR w3 _ _).trans AL;have hA5:=QV.o.push DR.o.1 DR.o.2 BA AL;have hB5:Below w1 w1 w5:=(OI.o.trans (AZ.o.mono VL)).grown y7 (by omega) (λ j hj=>(o8.lt j hj).1);go_roundw;case rel=>exact⟨x+1,P++[(b,l)],by omega,by go_num,by simp[TV],hA5,IG.o,hB5⟩
   case measure=>simp[intOf];omega
  ·have DK:x=n:=by omega
   subst DK;obtain⟨aa,ac,EF,WI⟩:=HA.o.1.shape;rw[TV] at EF;subst EF;have HAC:=kd WI;have MR:=λ W=>run_make_row' (P:=prog) 48 3 (0:Int) 8 underlying48 Tryz.info3 rfl .i64 .i64 m (by omega) (by omega) W
   clear FR WI;generalize wr=W0 at*;go_wp2_with fail;go_loopw [44] (λ s44 wq=>∃k:Nat,k<=m/\s44=k/\Aj wq W0 (fill m k)/\Below W0 W0 wq) (λ s44 _=>m-(intOf s44).toNat)
   case atStart=>exact⟨0,aN _,rfl,Yl W0 m,b_⟩
   case round=>
    obtain⟨k,hk,rfl,hr,hb⟩:=hrel;clear MR;by_cases j6:k<m
    ·as_aux_lemma=>
     have BV:=hr.cell k (by rw[H8];exact j6);have hf:=hr.frozen k;have HR:Hid (Aj (wr.setCell (W0,k) k) W0 (fill m (k+1))):=by
      have:=hr.set k k;rw[Q5] at this;exact this
     have HB:Hid (Below W0 W0 (wr.setCell (W0,k) k)):=hb.setCell (aF _) _;clear hr hb;generalize (fill m k).getD k 0=z at BV;go_wp2;go_roundw;case rel=>exact⟨k+1,by omega,by go_num,HR.o,HB.o⟩
     case measure=>simp[intOf];omega
    ·have CF:k=m:=by omega
     subst CF;rw[Tz] at hr;have FU:=kd (And.intro hr hb);clear hr hb;go_wp2_with fail;generalize wr=W2 at*;have hbbW2:=FU.o.1.lt;have hW02:=FU.o.2.size;go_loopg [8] 20000 (λ r s8 wq=>∃l,Lbs L l/\Aj wq W0 l/\But W0 W2 wq/\((s8= .bool true/\l.sum<r)\/(s8= .bool false/\DnI L l k)))
     case atStart=>
      refine⟨List.range k,by have:=ziy L;rw[HM.o] at this;exact this,FU.o.1,But.refl _ _,.inl ⟨rfl,?_⟩⟩;have h1:=Xx k;have h2:k*k<=120*120:=fU (by omega) (by omega);omega
     case round=>
      obtain⟨l,BD,hr,hbt,hs⟩:=hrel;rcases hs with⟨rfl,VC⟩|⟨rfl,y7⟩
      ·have HL:Hid (Lbs L l/\Aj wr W0 l/\But W0 W2 wr):=⟨BD,hr,hbt⟩
       clear BD hr hbt;go_wp2_with fail;go_loopw [8,55] (λ s8 s55 wq=>∃(i:Nat) (l':List Nat),i<=k/\s55=i/\Lbs L l'/\Aj wq W0 l'/\But W0 W2 wq/\Prog s8 l l' (DnI L l i)) (λ _ s55 _=>k-(intOf s55).toNat)
       case atStart=>exact⟨0,l,aN _,rfl,HL.o.1,HL.o.2.1,HL.o.2.2,.inl ⟨rfl,rfl,λ i' hi=>by omega⟩⟩
       case round=>
        obtain⟨i,l1,hi,rfl,hlab1,IL,hbt1,hpr1⟩:=hrel;have MO:Hid (Lbs L l1/\Aj wr W0 l1/\But W0 W2 wr/\Prog u8 l l1 (DnI L l i)):=⟨hlab1,IL,hbt1,hpr1⟩;have hw2r:=hbt1.size;clear hlab1 IL hbt1 hpr1 HL;by_cases hlti:i<k
        ·obtain⟨e,he⟩:∃e,L[i]? =some e:=⟨_,aB (by rw[HM.o];exact hlti)⟩
         have DU:=HE.o.1.nat (aG he);obtain⟨g,EF⟩:∃g,va=some ⟨g,0,none⟩:=by
          rcases HO.o.shape with⟨_,c⟩|⟨g,cap,c,_⟩
          ·rw[c] at he;simp at he
          ·injection c with e1 _ _
           exact⟨g,e1⟩
         subst EF;have hgb:=aU HO.o g rfl;have SN:Hid (∀w',But W0 W2 w'->∀j f,L[j]? =some f->w'.cell? ⟨g,j*3,none⟩=some (.int .i64 f.1)/\w'.cell? (g,j*3+1)=some (.int .i64 (ea f:Int))/\w'.cell? (g,j*3+2)=some (.int .i64 (eb f:Int))):=λ w' hb' j f hf=>by
          obtain⟨c0,c1,c2⟩:=((HO.o.below OI.o).below FU.o.2).at (g:=g) rfl hf;have hnf:=HE.o.1.nat (aG hf);rw[hnf.1] at c1;rw[hnf.2.1] at c2;exact⟨hb'.cell c0 (by omega),hb'.cell c1 (by omega),hb'.cell c2 (by omega)⟩
         obtain⟨q0,q1,q2⟩:=SN.o wr MO.o.2.2.1 i e he;have QQ:=kd he;obtain⟨x0,ER⟩:∃x0,e.1=x0:=⟨_,rfl⟩;obtain⟨A,hA⟩:∃A,ea e=A:=⟨_,rfl⟩;obtain⟨E,hE⟩:∃E,eb e=E:=⟨_,rfl⟩;have QK:=kd (And.intro hA hE);obtain⟨hAn,hEn,hAE⟩:=DU.2.2;rw[ER] at q0;rw[hA] at q1 hAn hAE;rw[hE] at q2 hEn hAE;obtain⟨W3,FI⟩:∃W3,W3=wr.alloc (.cells #[x0,A,E] 61):=⟨_,rfl⟩;have hh3:W3.heap[wr.heap.size]? =some (.cells #[x0,A,E] 61):=by rw[FI];exact aQ wr _
         have hbW3:Below wr wr W3:=by rw[FI];exact b_
         have CY:=kd FI.symm;have CX:=kd hh3;have PM:Hid (Lbs L l1/\Aj W3 W0 l1/\But W0 W2 W3):=⟨MO.o.1,MO.o.2.1.below hbW3 MO.o.2.1.lt,MO.o.2.2.1.trans (But.of_below hbW3)⟩;have YF:wr.heap.size<W3.heap.size:=lt_of_some hh3;obtain⟨be,NV⟩:∃be,wr.heap.size=be:=⟨_,rfl⟩;have JX:=kd MO.o.2.2.2;clear he DU ER hA hE FI hh3 hbW3 MO;go_wp2_with fail;rw[CY.o];rw[NV] at CX YF hw2r;clear CY q0 q1 q2;go_loopw [8,62] (λ s8 s62 wq=>∃(j:Nat) (l':List Nat),j<=k/\s62=j/\Lbs L l'/\Aj wq W0 l'/\But W0 W3 wq/\Prog s8 l l' (DnK L l i j)) (λ _ s62 _=>k-(intOf s62).toNat)
         case atStart=>exact⟨0,l1,aN _,rfl,PM.o.1,PM.o.2.1,But.refl _ _,JX.o.imp (λ _ h=>⟨h,λ k' hk=>by omega⟩)⟩
         case round=>
          obtain⟨j,l2,hj,rfl,hlab2,IM,hbt2,hpr2⟩:=hrel;have TZ:Hid (Lbs L l2/\Aj wr W0 l2/\But W0 W3 wr):=⟨hlab2,IM,hbt2⟩;have HPR2:=kd hpr2;have hw3r:=hbt2.size;clear hlab2 IM hbt2 hpr2 JX;by_cases JL:j<k
          ·obtain⟨f,hf⟩:∃f,L[j]? =some f:=⟨_,aB (by rw[HM.o];exact JL)⟩
           have DU:=HE.o.1.nat (aG hf);obtain⟨q0,q1,q2⟩:=SN.o wr (PM.o.2.2.trans TZ.o.2.2) j f hf;have HFF:=kd hf;obtain⟨y0,LV⟩:∃y0,f.1=y0:=⟨_,rfl⟩;obtain⟨FA,hFA⟩:∃A,ea f=A:=⟨_,rfl⟩;obtain⟨FE,hFE⟩:∃E,eb f=E:=⟨_,rfl⟩;have NI:=kd (And.intro hFA hFE);obtain⟨hFAn,hFEn,hFAE⟩:=DU.2.2;rw[LV] at q0;rw[hFA] at q1 hFAn hFAE;rw[hFE] at q2 hFEn hFAE;have NJ:wr.heap[be]? =some (.cells #[x0,A,E] 61):=by rw[TZ.o.2.2.block be YF (by omega)];exact CX.o
           obtain⟨W4,hW4⟩:∃W4,W4=wr.alloc (.cells #[y0,FA,FE] 61):=⟨_,rfl⟩;have hh4:W4.heap[wr.heap.size]? =some (.cells #[y0,FA,FE] 61):=by rw[hW4];exact aQ wr _
           have hbW4:Below wr wr W4:=by rw[hW4];exact b_
           have YX:W4.heap[be]? =some (.cells #[x0,A,E] 61):=(hbW4.block be (by omega)).trans NJ;have QG:=kd hW4.symm;have p1:W4.cell? (be,1)=A:=by simp[World.cell?,YX]
           have p2:W4.cell? (be,2)=E:=by simp[World.cell?,YX]
           have hw4s:wr.heap.size<W4.heap.size:=lt_of_some hh4;obtain⟨W5,YP⟩:∃W5,W5=W4.alloc (.cells #[A,E] 3):=⟨_,rfl⟩;have hh5:W5.heap[W4.heap.size]? =some (.cells #[A,E] 3):=by rw[YP];exact aQ W4 _
           have YY:Below W4 W4 W5:=by rw[YP];exact b_
           have HW5:=kd YP.symm;have hw5s:W4.heap.size<W5.heap.size:=lt_of_some hh5;have WJ:Below wr wr W5:=hbW4.tr YY;obtain⟨bf,hbf⟩:∃bf,wr.heap.size=bf:=⟨_,rfl⟩;obtain⟨bs,EI⟩:∃bs,W4.heap.size=bs:=⟨_,rfl⟩;have HX5:Hid (W5.heap[be]? =some (.cells #[x0,A,E] 61)/\W5.heap[bf]? =some (.cells #[y0,FA,FE] 61)/\W5.heap[bs]? =some (.cells #[A,E] 3)):=by
            rw[<-hbf,<-EI];exact⟨(YY.block be (by omega)).trans YX,(YY.block _ hw4s).trans hh4,hh5⟩
           have HL5:Hid (Lbs L l2/\Aj W5 W0 l2/\But W0 W3 W5):=⟨TZ.o.1,TZ.o.2.1.below WJ TZ.o.2.1.lt,TZ.o.2.2.trans (But.of_below WJ)⟩;clear hf DU LV hFA hFE NJ hW4 hh4 hbW4 YX YP hh5 YY WJ TZ;go_upto_region 23 with fail
           rw[QG.o];go_wp2_with fail;rw[HW5.o];rw[hbf] at hw4s hw3r;rw[EI] at hw4s hw5s;clear p1 p2 q0 q1 q2 QG HW5 hbf EI NV;go_loopw [8,73] (λ s8 s73 wq=>∃(t:Nat) (l':List Nat),t<=2/\s73=t/\Lbs L l'/\Aj wq W0 l'/\But W0 W5 wq/\Prog s8 l l' (DnT L l i j t e)) (λ _ s73 _=>2-(intOf s73).toNat)
           case atStart=>exact⟨0,l2,aN _,rfl,HL5.o.1,HL5.o.2.1,But.refl _ _,HPR2.o.imp (λ _ h=>⟨h,λ c=>by omega,λ c=>by omega⟩)⟩
           case round=>
            obtain⟨t,l3,ht,rfl,IB,LH,hbt3,hpr3⟩:=hrel;have MP:Hid (Lbs L l3/\Aj wr W0 l3/\But W0 W5 wr):=⟨IB,LH,hbt3⟩;have HPR3:=kd hpr3;have hw5r:=hbt3.size;clear IB LH hbt3 hpr3 HPR2;by_cases SS:t<2
            ·obtain⟨y,hy,hyc⟩:∃y,((t=0/\y=A)\/(t=1/\y=E))/\wr.cell? (bs,t)=some (.int .i64 (y:Int)):=by
              have hx5:wr.heap[bs]? =some (.cells #[A,E] 3):=by rw[MP.o.2.2.block bs hw5s (by omega)];exact HX5.o.2.2
              rcases(show t=0\/t=1 by omega) with c|c
              ·exact⟨A,.inl ⟨c,rfl⟩,by subst c;simp[World.cell?,hx5]⟩
              ·exact⟨E,.inr ⟨c,rfl⟩,by subst c;simp[World.cell?,hx5]⟩
             have hyAE:y=A\/y=E:=by omega
             have HYE:Hid ((t=0/\y=ea e)\/(t=1/\y=eb e)):=by
              show(t=0/\y=ea e)\/(t=1/\y=eb e);rw[QK.o.1,QK.o.2];exact hy
             have ME:y<x:=by omega
             obtain⟨pr,EG⟩:∃pr,P[y]? =some pr:=⟨_,aB (by omega)⟩;obtain⟨ga,haa,hga1,hga2,hga3⟩:=HAC.o y pr EG;subst haa;have NK:=HA.o.1.rows pr (aG EG);have hprl:=NK.1.lt;have FX:Hid (But W0 W2 wr):=(PM.o.2.2.trans HL5.o.2.2).trans MP.o.2.2;have hbaw:=FX.o.size;have cga:wr.cell? (ga,y)=some (.slice pr.1 x x):=FX.o.cell (cell_below hga3 FU.o.2) (by omega);have hprW:Aj wr pr.1 pr.2:=by
              have h1:Aj W2 pr.1 pr.2:=NK.1.below FU.o.2 hprl;show wr.heap[pr.1]? =_;rw[FX.o.block pr.1 h1.lt (by omega)];exact h1
             obtain⟨z1,hz1'⟩:∃z,A+E-y=z:=⟨_,rfl⟩;have hz1n:z1<x:=by omega
             have ck1:=hprW.cell z1 (by rw[NK.2];exact hz1n);obtain⟨K1,hK1⟩:∃K,pr.2.getD z1 0=K:=⟨_,rfl⟩;rw[hK1] at ck1;have cb1:=MP.o.2.1.cell i (by rw[MP.o.1.1,HM.o];exact hlti);have cb2:=MP.o.2.1.cell j (by rw[MP.o.1.1,HM.o];exact JL);obtain⟨B1,hB1⟩:∃K,l3.getD i 0=K:=⟨_,rfl⟩;obtain⟨B2,hB2⟩:∃K,l3.getD j 0=K:=⟨_,rfl⟩;rw[hB1] at cb1;rw[hB2] at cb2;have PO:=kd (And.intro hB1 hB2);have NJ:wr.heap[be]? =some (.cells #[x0,A,E] 61):=by rw[MP.o.2.2.block be (by omega) (by omega)];exact HX5.o.1
             have PQ:wr.heap[bf]? =some (.cells #[y0,FA,FE] 61):=by rw[MP.o.2.2.block bf (by omega) (by omega)];exact HX5.o.2.1
             have HRX:Hid (Rx L y i j↔((FA=y\/FE=y)/\pr.2.getD z1 0=pr.2.getD (FA+FE-y) 0)):=by
              have SF:tch e y:=by unfold tch;rw[QK.o.1,QK.o.2];omega
              have hz:z1=ot e y:=by rw[<-yx SF,QK.o.1,QK.o.2];exact hz1'.symm
              constructor
              ·rintro⟨e',f',h1,h2,_,h4,h5⟩
               rw[QQ.o] at h1;rw[HFF.o] at h2;cases h1;cases h2;have BM:FA+FE-y=ot f y:=by rw[<-yx h4,NI.o.1,NI.o.2]
               have h6:FA=y\/FE=y:=by unfold tch at h4;rw[NI.o.1,NI.o.2] at h4;exact h4
               refine⟨h6,?_⟩;rw[BM,hz,HA.o.2 y pr EG _ _ (by rw[<-hz];exact hz1n) (by rw[<-BM];omega)];exact h5
              ·rintro⟨h1,h2⟩
               have XH:tch f y:=by unfold tch;rw[NI.o.1,NI.o.2];exact h1
               have BM:FA+FE-y=ot f y:=by rw[<-yx XH,NI.o.1,NI.o.2]
               refine⟨e,f,QQ.o,HFF.o,SF,XH,?_⟩;rw[BM,hz,HA.o.2 y pr EG _ _ (by rw[<-hz];exact hz1n) (by rw[<-BM];omega)] at h2;exact h2
             have YE:=kd (And.intro hprW NK.2);clear hB1 hB2 EG NK hprW hga3;go_upto_region 26 with fail
             go_cut [118] from 77 to 117 (λ s118 wx=>∃c:Bool,s118= .bool c/\(c=true↔(Rx L y i j/\B1<B2))/\Below wr wr wx)
             case first=>
              by_cases XH:FA=y\/FE=y
              ·have hyF:y=FA\/y=FE:=by omega
               obtain⟨z2,hz2'⟩:∃z,FA+FE-y=z:=⟨_,rfl⟩;have hz2n:z2<x:=by omega
               have ck2:=YE.o.1.cell z2 (by rw[YE.o.2];exact hz2n);obtain⟨K2,hK2⟩:∃K,pr.2.getD z2 0=K:=⟨_,rfl⟩;rw[hK2] at ck2;have NL:Hid (Rx L y i j↔K1=K2):=by
                show Rx L y i j↔K1=K2;rw[HRX.o,hz2',hK1,hK2];exact⟨λ h=>h.2,λ h=>⟨XH,h⟩⟩
               have k1:=cell_regrown (show wr.cell? be=x0 by simp[World.cell?,NJ]);have k2:=cell_regrown (show wr.cell? (be,1)=A by simp[World.cell?,NJ]);have k3:=cell_regrown (show wr.cell? (be,2)=E by simp[World.cell?,NJ]);have k4:=cell_regrown (show wr.cell? bf=y0 by simp[World.cell?,PQ]);have k5:=cell_regrown (show wr.cell? (bf,1)=FA by simp[World.cell?,PQ]);have k6:=cell_regrown (show wr.cell? (bf,2)=FE by simp[World.cell?,PQ]);have k7:=cell_regrown cga;have k8:=cell_regrown ck1;have k9:=cell_regrown ck2;have k10:=cell_regrown cb1;have k11:=cell_regrown cb2;have cE1:∀d os,Calls prog 121 #[.agg #[x0,A,E],y] (grow (redrawn wr d) os) λ e w''=>e=z1/\∃p:Regrown,w''=grow (redrawn wr p.d) p.os:=λ d os=>Calls.regrown_of (Z5 x0 A E y z1 _ hyAE (by omega) (by omega) hz1')
               have cE2:∀d os,Calls prog 121 #[.agg #[y0,FA,FE],y] (grow (redrawn wr d) os) λ e w''=>e=z2/\∃p:Regrown,w''=grow (redrawn wr p.d) p.os:=λ d os=>Calls.regrown_of (Z5 y0 FA FE y z2 _ hyF (by omega) (by omega) hz2')
               clear cga ck1 ck2 cb1 cb2 hyc NJ PQ HRX YE HAC HA hK1 hK2 hz1' hz2' hyF hyAE;by_cases hfa:FA=y
               ·have r1:((FA:Int)==(y:Int))=true:=bX.2 (by omega)
                clear hfa;by_cases hk:K1=K2
                ·as_aux_lemma=>
                 subst hk;have HC:Hid (decide (B1<B2)=true↔(Rx L y i j/\B1<B2)):=by
                  show decide (B1<B2)=true↔_;rw[dO];exact⟨λ c=>⟨NL.o.2 rfl,c⟩,λ c=>c.2⟩
                 clear NL;refine wp_region_quiet_below (by kernel_rfl) (by kernel_rfl) ?_
                 repeat (go_big_quiet_step (first|with_reducible exact cE1 _ _|with_reducible exact cE2 _ _))
                 refine wpQuiet_nil ?_;intro _ hw';obtain⟨⟨dq,osq⟩,hw''⟩:=hw';subst hw'';have HB8:Hid (Below wr wr (grow (redrawn wr dq) osq)):=below_regrown wr dq osq;clear k1 k2 k3 k4 k5 k6 k7 k8 k9 k10 k11 cE1 cE2;generalize grow (redrawn wr dq) osq=V8 at*;go_wp2_with fail
                 go_meet
                 case rel=>exact⟨_,rfl,HC.o,HB8.o⟩
                ·as_aux_lemma=>
                 have hkb:((K1:Int)==(K2:Int))=false:=aH.2 (by omega);have HC:Hid (false=true↔(Rx L y i j/\B1<B2)):=⟨λ c=>(by cases c),λ c=>absurd (NL.o.1 c.1) hk⟩;clear NL hk;refine wp_region_quiet_below (by kernel_rfl) (by kernel_rfl) ?_
                 repeat (go_big_quiet_step (first|with_reducible exact cE1 _ _|with_reducible exact cE2 _ _))
                 refine wpQuiet_nil ?_;intro _ hw';obtain⟨⟨dq,osq⟩,hw''⟩:=hw';subst hw'';have HB8:Hid (Below wr wr (grow (redrawn wr dq) osq)):=below_regrown wr dq osq;clear k1 k2 k3 k4 k5 k6 k7 k8 k9 k10 k11 cE1 cE2;generalize grow (redrawn wr dq) osq=V8 at*;go_wp2_with fail
                 go_meet
                 case rel=>exact⟨false,rfl,HC.o,HB8.o⟩
               ·have r1:((FA:Int)==(y:Int))=false:=aH.2 (by omega)
                have r2:((FE:Int)==(y:Int))=true:=bX.2 (by omega);clear hfa;by_cases hk:K1=K2
                ·as_aux_lemma=>
                 subst hk;have HC:Hid (decide (B1<B2)=true↔(Rx L y i j/\B1<B2)):=by
                  show decide (B1<B2)=true↔_;rw[dO];exact⟨λ c=>⟨NL.o.2 rfl,c⟩,λ c=>c.2⟩
                 clear NL;refine wp_region_quiet_below (by kernel_rfl) (by kernel_rfl) ?_
                 repeat (go_big_quiet_step (first|with_reducible exact cE1 _ _|with_reducible exact cE2 _ _))
                 refine wpQuiet_nil ?_;intro _ hw';obtain⟨⟨dq,osq⟩,hw''⟩:=hw';subst hw'';have HB8:Hid (Below wr wr (grow (redrawn wr dq) osq)):=below_regrown wr dq osq;clear k1 k2 k3 k4 k5 k6 k7 k8 k9 k10 k11 cE1 cE2;generalize grow (redrawn wr dq) osq=V8 at*;go_wp2_with fail
                 go_meet
                 case rel=>exact⟨_,rfl,HC.o,HB8.o⟩
                ·as_aux_lemma=>
                 have hkb:((K1:Int)==(K2:Int))=false:=aH.2 (by omega);have HC:Hid (false=true↔(Rx L y i j/\B1<B2)):=⟨λ c=>(by cases c),λ c=>absurd (NL.o.1 c.1) hk⟩;clear NL hk;refine wp_region_quiet_below (by kernel_rfl) (by kernel_rfl) ?_
                 repeat (go_big_quiet_step (first|with_reducible exact cE1 _ _|with_reducible exact cE2 _ _))
                 refine wpQuiet_nil ?_;intro _ hw';obtain⟨⟨dq,osq⟩,hw''⟩:=hw';subst hw'';have HB8:Hid (Below wr wr (grow (redrawn wr dq) osq)):=below_regrown wr dq osq;clear k1 k2 k3 k4 k5 k6 k7 k8 k9 k10 k11 cE1 cE2;generalize grow (redrawn wr dq) osq=V8 at*;go_wp2_with fail
                 go_meet
                 case rel=>exact⟨false,rfl,HC.o,HB8.o⟩
              ·as_aux_lemma=>
               have c5:wr.cell? (bf,1)=FA:=by simp[World.cell?,PQ]
               have c6:wr.cell? (bf,2)=FE:=by simp[World.cell?,PQ]
               have r1:((FA:Int)==(y:Int))=false:=aH.2 (by omega);have r2:((FE:Int)==(y:Int))=false:=aH.2 (by omega);have HC:Hid (false=true↔(Rx L y i j/\B1<B2)):=⟨λ c=>(by cases c),λ c=>absurd (HRX.o.1 c.1).1 XH⟩;clear HRX;go_quiet (fail);go_wp2_with fail
               go_meet
               case rel=>exact⟨false,rfl,HC.o,below_drewN (aI _ _) _⟩
             case rest=>
              obtain⟨c,rfl,LU,hbc⟩:=hcut;have HCC:=kd LU;have PS:Hid (Aj wc W0 l3/\But W0 W5 wc):=⟨MP.o.2.1.below hbc MP.o.2.1.lt,MP.o.2.2.trans (But.of_below hbc)⟩;clear LU hbc cga ck1 cb1 cb2 NJ PQ hyc;cases c with
              |true=>
               as_aux_lemma=>
               obtain⟨hrx,hlt12⟩:=HCC.o.1 rfl;have CU:=znl MP.o.1 hrx (by rw[PO.o.1,PO.o.2];exact hlt12);rw[PO.o.1] at CU;have c1:=PS.o.1.cell i (by rw[MP.o.1.1,HM.o];exact hlti);rw[PO.o.1] at c1;have c2:=PS.o.1.cell j (by rw[MP.o.1.1,HM.o];exact JL);rw[PO.o.2] at c2;have f2:=PS.o.1.frozen j;have HR7:Hid (Lbs L (l3.set j B1)/\Aj (wc.setCell (W0,j) B1) W0 (l3.set j B1)/\But W0 W5 (wc.setCell (W0,j) B1)/\(l3.set j B1).sum<l.sum):=
                ⟨CU.1,PS.o.1.set j B1,PS.o.2.setCell _ _,aR CU.2 HPR3.o.le⟩
               clear CU hrx;go_wp2_with fail;go_roundw;case rel=>exact⟨t+1,l3.set j B1,by omega,by go_num,HR7.o.1,HR7.o.2.1,HR7.o.2.2.1,.inr ⟨rfl,HR7.o.2.2.2⟩⟩
               case measure=>simp[intOf];omega
              |false=>
               as_aux_lemma=>
               have HPN:Hid (Prog u8 l l3 (DnT L l i j (t+1) e)):=HPR3.o.imp (λ hl h=>zmq HYE.o h (λ hr c=>by
                have:=HCC.o.2 ⟨hr,by rw[<-PO.o.1,<-PO.o.2,hl];exact c⟩;cases this))
               go_wp2_with fail;go_roundw;case rel=>exact⟨t+1,l3,by omega,by go_num,MP.o.1,PS.o.1,PS.o.2,HPN.o⟩
               case measure=>simp[intOf];omega
            ·as_aux_lemma=>
             have SF:t=2:=by omega
             subst SF;have HF:Hid (Prog u8 l l3 (DnK L l i (j+1))):=HPR3.o.imp (λ _ h=>zp3 QQ.o h);have HBF:Hid (But W0 W3 wr):=HL5.o.2.2.trans MP.o.2.2;go_wp2_with fail;go_roundw;case rel=>exact⟨j+1,l3,by omega,by go_num,MP.o.1,MP.o.2.1,HBF.o,HF.o⟩
             case measure=>simp[intOf];omega
          ·as_aux_lemma=>
           have CE:j=k:=by omega
           subst CE;have HF:Hid (Prog u8 l l2 (DnI L l (i+1))):=HPR2.o.imp (λ _ h=>zpn HM.o h);have HBF:Hid (But W0 W2 wr):=PM.o.2.2.trans TZ.o.2.2;go_wp2_with fail;go_roundw;case rel=>exact⟨i+1,l2,by omega,by go_num,TZ.o.1,TZ.o.2.1,HBF.o,HF.o⟩
           case measure=>simp[intOf];omega
        ·as_aux_lemma=>
         have CR:i=k:=by omega
         subst CR;have HF:Hid ((u8= .bool true/\l1.sum<l.sum)\/(u8= .bool false/\DnI L l1 i)):=by
          rcases MO.o.2.2.2 with⟨h1,h2,h3⟩|h1
          ·exact .inr ⟨h1,by rw[h2];exact h3⟩
          ·exact .inl h1
         rcases HF.o with⟨h1,h2⟩|⟨h1,h2⟩
         ·subst h1
          go_wp2_with fail;go_roundg (l1.sum+1);case measure=>omega
          case rel=>exact⟨l1,MO.o.1,MO.o.2.1,MO.o.2.2.1,.inl ⟨rfl,by omega⟩⟩
         ·subst h1
          have HD:=kd h2;clear h2;go_wp2_with fail;go_roundg (gk-1);case measure=>omega
          case rel=>exact⟨l1,MO.o.1,MO.o.2.1,MO.o.2.2.1,.inr ⟨rfl,HD.o⟩⟩
      ·have QX:=zna BD (zqn HM.o y7)
       have IW:=kd QX;obtain⟨j0,JE,LV,OB,WV⟩:=info_parts Tryz.info3;have FC:=@run_makeMap prog;have FK:l.length=k:=by rw[BD.1,HM.o]
       have hbts:=hbt.size;obtain⟨W9,hW9⟩:∃W9,W9=wr.alloc (.map #[] 0):=⟨_,rfl⟩;have hb9:Below wr wr W9:=by rw[hW9];exact b_
       have RV:W9.heap.size=wr.heap.size+1:=by rw[hW9];simp
       have HM9:Hid (W9.ownsMap prog 3 (plainElem (H:=Unit) prog 3) wr 0 (.map [])):=by rw[hW9];exact World.ownsMap_made wr _ _ _
       have HW9:=kd hW9.symm;have HR9:Hid (Aj W9 W0 l/\But W0 W2 W9):=⟨hr.below hb9 hr.lt,hbt.trans (But.of_below hb9)⟩;have SN:Hid (∀w',But wr W9 w'->Aj w' W0 l/\∀j f,L[j]? =some f->∃g,va=some ⟨g,0,none⟩/\w'.cell? ⟨g,j*3,none⟩=((idN L j:Nat):Int)/\w'.cell? (g,j*3+1)=some (.int .i64 f.2.1)/\w'.cell? (g,j*3+2)=some (.int .i64 f.2.2)):=λ w' hb'=>by
        have BH:=hr.lt;refine⟨?_,λ j f hf=>?_⟩
        ·show w'.heap[W0.heap.size]? =_
         rw[hb'.block _ (by omega) (by omega)];exact HR9.o.1
        ·obtain⟨g,EF⟩:∃g,va=some ⟨g,0,none⟩:=by
          rcases HO.o.shape with⟨_,c⟩|⟨g,cap,c,_⟩
          ·rw[c] at hf;simp at hf
          ·injection c with e1 _ _
           exact⟨g,e1⟩
         subst EF;have hgb:=aU HO.o g rfl;obtain⟨c0,c1,c2⟩:=((HO.o.below OI.o).below FU.o.2).at (g:=g) rfl hf;have MF:=(aC.1 hf).1;have DD:=(D5 (R:=L) (λ e he=>by have:=HE.o.1.ids e he;omega) MF).1;rw[Et hf] at DD;rw[<-DD] at c0;have lift:∀{i:Nat} {v:Value},W2.cell? (g,i)=some v->w'.cell? (g,i)=some v:=λ hc=>hb'.cell (HR9.o.2.cell hc (by omega)) (by omega)
         exact⟨g,rfl,lift c0,lift c1,lift c2⟩
       have XI:Hid (Below w w W9):=by
        have h1:Below w w W0:=x8.o.trans (OI.o.mono PD);have h2:Below w w W2:=h1.tr FU.o.2;exact h2.trans (HR9.o.2.below (by have:=h1.size;omega) h2.size)
       have hkM:k<=120:=by omega
       clear hW9 hb9 hr hbt BD y7 QX HA HAC;go_wp2_with fail;rw[HW9.o];obtain⟨mp,hmp⟩:∃mp,wr.heap.size=mp:=⟨_,rfl⟩;rw[hmp] at HM9 SN RV hbts ⊢;clear FC HW9 hmp;go_loopw [15,132] (λ s15 s132 wq=>∃(t Nm:Nat) (Da:DataW Unit) (r c:Nat->Nat),t<=k/\s132=t/\Bg wq W9 s15 (pgI L l t) r c/\wq.ownsMap prog 3 (plainElem prog 3) mp Nm Da/\Nm<=t/\Am Da (lst l t)/\But mp W9 wq) (λ _ s132 _=>k-(intOf s132).toNat)
       case atStart=>exact⟨0,0,_,λ _=>0,λ _=>0,aN _,rfl,Un _ _ _ _,HM9.o,aF _,Am.start,But.refl _ _⟩
       case round=>
        obtain⟨t,Nm,Da,r,c,ht,rfl,hP,hmap,hNm,hAm,hbt⟩:=hrel;have HP:=kd hP;have QY:=kd (And.intro hmap hAm);have EW:=kd hbt;have hw9r:=hbt.size;clear hP hmap hAm hbt HM9;by_cases SS:t<k
        ·obtain⟨f,hf⟩:∃f,L[t]? =some f:=⟨_,aB (by rw[HM.o];exact SS)⟩
         obtain⟨o7,hedge⟩:=SN.o wr EW.o;obtain⟨g,EF,q0,q1,q2⟩:=hedge t f hf;subst EF;have cb:=o7.cell t (by omega);have hYle:=IW.o.1.le t (by rw[HM.o];exact SS);have hYid:=IW.o.1.idem t (by rw[HM.o];exact SS);obtain⟨Y,hY⟩:∃Y,l.getD t 0=Y:=⟨_,rfl⟩;rw[hY] at cb hYle hYid;have HY:=kd (And.intro hY hYid);obtain⟨X,hX⟩:∃X,idN L t=X:=⟨_,rfl⟩;have hXs:X<=1099511627776:=by rw[<-hX];exact(D5 (R:=L) (λ e he=>by have:=HE.o.1.ids e he;omega) (by rw[HM.o];exact SS)).2
         rw[hX] at q0;have HX:=kd hX;generalize f.2.1=x1 at*;generalize f.2.2=x2 at*;have hwX:(Lit.int .i64 (X:Int)).wf=true:=Av (by omega) (by omega);have o9:=Mx Y (by omega);have ZM:(lst l t).length<=120:=by unfold lst;exact aD (aW _ _) (by simp;omega)
         have LW:=Vk L l t;obtain⟨V,hV⟩:∃V,V=wr.alloc (.cells #[X,x1,x2] 61):=⟨_,rfl⟩;have hh:V.heap[wr.heap.size]? =some (.cells #[X,x1,x2] 61):=by rw[hV];exact aQ wr _
         have hbV:Below wr wr V:=by rw[hV];exact b_
         have hVs:V.heap.size=wr.heap.size+1:=by rw[hV];simp
         have HV:=kd hV.symm;have KV:=QY.o.1.kept (Ai hbV) (by simp);have GU:Hid (Bg V W9 u15 (pgI L l t) r c/\But mp W9 V):=⟨HP.o.kept (Ai hbV) (by simp),EW.o.trans (But.of_below hbV)⟩;have cbV:V.cell? (W0,t)=Y:=cell_below cb hbV;have CX:=kd hh;obtain⟨bx,BF⟩:∃bx,wr.heap.size=bx:=⟨_,rfl⟩;clear hV hh hbV o7 hedge hf hY hX HP hYid;go_upto_region 36 with fail
         rw[HV.o];rw[BF] at CX hVs hw9r;clear q0 q1 q2 cb HV BF;by_cases p9:Y∈lst l t
         ·as_aux_lemma=>
          obtain⟨i9,hi9⟩:=bY p9;obtain⟨hi9l,hi9e⟩:=aC.1 hi9;have SV:i9<(pgI L l t).length:=by rw[LW];exact hi9l
          have GN:Hid (Maps.has Da Y=true):=(QY.o.2.key Y).2 p9;have NB:Hid (Da.atKey Y (.lit (0:Int))= .lit i9):=QY.o.2.val i9 Y hi9 _;have HFND:Hid (pgI L l (t+1)=(pgI L l t).set i9 ((pgI L l t).getD i9 []++[X])/\lst l (t+1)=lst l t):=by
           have h1:(lst l t).getD i9 0=Y:=by simp[hi9]
           refine⟨?_,?_⟩
           ·rw[zfv L hi9l (by rw[h1,HY.o.1]),HX.o]
           ·exact N7 (by rw[HY.o.1];have:=(Fj.1 p9).1;omega)
          obtain⟨a,cap,hu,ha⟩:=GU.o.1.shape;subst hu;obtain⟨g9,hg9⟩:=ha (by omega);subst hg9;have EB:=GU.o.1.each i9 SV;have hgl100:((pgI L l t).getD i9 []).length<=120:=by
           rw[zho L l hi9l,aS,O4];have:=Q7 (λ i=>l.getD i 0==(lst l t).getD i9 0) t;omega
          obtain⟨v5,w5,AQ,BA,AL,_,IA⟩:=run_append_own_at (P:=prog) (V.alloc (.cells #[X] 3)).drew W9 48 48 3 j0 (0:Int) 1 8 underlying48 JE LV OB WV rfl (by decide) (.slice (r i9:Nat) ((pgI L l t).getD i9 []).length (c i9)) _ _ (show(V.alloc _).drew.ownsRow _ _ _ _ _ _ from EB.1.alloc _) V.heap.size 1 1 [X] rfl (cell_one_new _ _ _) (ints_oneCell .i64 [(X:Int)]) (by rw[Ci];unfold maxLen;omega) (by rw[Ci];omega) (by show W9.heap.size<=(V.alloc _).heap.size;simp;omega);have KG:(V.alloc (.cells #[X] 3)).grownBy w5 (some (r i9)):=⟨AL.os,AL.tape,AL.output,AL.size,AL.block⟩;obtain⟨⟨ρ,κ,hv'⟩,c3,f3⟩:=Vb GU.o.1 rfl SV BA KG;subst hv';have LB:=EB.appended BA hwX;have hloc':ρ=r i9\/ρ=V.heap.size+1:=by simpa[Value.ownBlock,World.drew] using IA
          have KN:=GU.o.1.grow rfl SV X _ (by rw[J8];exact LB) KG hloc';have FO:=GU.o.1.lt i9 SV;have hg9l:=GU.o.1.own.lt g9 rfl;have BV:=GU.o.1.Xa rfl i9 SV;have hmap5:=((KV.alloc (.cells #[X] 3)).kept KG (by simp;omega)).setCell (a:=⟨g9,i9,none⟩) (show mp≠g9 by omega) (.slice ρ (((pgI L l t).getD i9 []).length+1) κ);have hbt5:But mp W9 (w5.setCell (g9,i9) (.slice ρ (((pgI L l t).getD i9 []).length+1) κ)):=by
           have BP:=GU.o.2;refine⟨KG.os.trans BP.os,KG.tape.trans BP.tape,KG.output.trans BP.output,?_,λ kk hkk l9=>?_⟩
           ·have h1:=KG.size;have h2:=BP.size;simp at h1 ⊢;omega
           ·have h2:=BP.size
            rw[aV _ _ _ _ (show kk≠g9 by omega),KG.block kk (by simp;omega) (by simp;omega),bG _ _ _ (by omega)];exact BP.block kk hkk l9
          rw[<-HFND.o.1] at KN;have HF:Hid (Bg (w5.setCell (g9,i9) (.slice ρ (((pgI L l t).getD i9 []).length+1) κ)) W9 (.slice g9 (pgI L l t).length cap) (pgI L l (t+1)) (λ i=>if i=i9 then ρ else r i) (λ i=>if i=i9 then κ else c i)/\(w5.setCell (g9,i9) (.slice ρ (((pgI L l t).getD i9 []).length+1) κ)).ownsMap prog 3 (plainElem prog 3) mp Nm Da/\But mp W9 (w5.setCell (g9,i9) (.slice ρ (((pgI L l t).getD i9 []).length+1) κ))):=⟨KN,hmap5,hbt5⟩;have HE9:=kd AQ;have JA:V.cell? bx=X:=by have:=CX.o;simp[World.cell?,this]
          have CW:Below V V (V.alloc (.cells #[X] 3)):=b_;have d1:V.drew.cell? (g9,i9)=some (.slice (r i9:Nat) ((pgI L l t).getD i9 []).length (c i9)):=BV;have d2:V.drew.cell? bx=X:=JA;have d3:(V.alloc (.cells #[X] 3)).drew.cell? (g9,i9)=some (.slice (r i9:Nat) ((pgI L l t).getD i9 []).length (c i9)):=(cell_below BV CW:(V.alloc (.cells #[X] 3)).cell? (g9,i9)=_);have d4:(V.alloc (.cells #[X] 3)).drew.cell? bx=X:=(cell_below JA CW:(V.alloc (.cells #[X] 3)).cell? bx=_);have d5:w5.cell? bx=X:=by
           have h1:w5.heap[bx]? =some (.cells #[X,x1,x2] 61):=by
            rw[KG.block bx (by simp;omega) (λ e=>by
             have h2:=(GU.o.1.each i9 SV).1;rcases h2.2 with⟨h3,_⟩|⟨g',cap',cur',h3,_,hg',_⟩
             ·cases h3
             ·injection h3 with h4 _ _
              injection h4 with h4
              injection h4 with h4 _ _
              injection e with e
              rw[<-h4,<-e,CX.o] at hg';simp at hg'),bG _ _ _ (by omega)]
            exact CX.o
           simp[World.cell?,h1]
          have hgbx:bx≠g9:=by
           intro e;rcases GU.o.1.own.2 with⟨h3,_⟩|⟨g',cap',cur',h3,_,hg',_⟩
           ·cases h3
           ·injection h3 with h4 _ _
            injection h4 with h4
            injection h4 with h4 _ _
            rw[<-h4,<-e,CX.o] at hg';simp at hg'
          have d6:(w5.setCell (g9,i9) (.slice ρ (((pgI L l t).getD i9 []).length+1) κ)).cell? bx=X:=by
           have h1:(w5.setCell (g9,i9) (.slice ρ (((pgI L l t).getD i9 []).length+1) κ)).heap[bx]? =w5.heap[bx]? :=aV _ _ _ _ (show bx≠g9 from hgbx);have h2:=d5;simp only[World.cell?] at h2 ⊢;rw[h1];exact h2
          have hi9i:(i9:Int)<((pgI L l t).length:Int):=by omega
          clear KN hmap5 hbt5 AQ BA AL IA LB hloc' KG EB FO hg9l CW hi9 hi9e ha hVs;generalize SQ:((pgI L l t).getD i9 []).length=gl at*;generalize PT:(pgI L l t).length=pl at*;clear SQ PT LW ZM;go_wp2_with (first|(at_lookup;refine wpList_lookup_own_ok_int _ rfl _ _ 183 rfl 3 3 .i64 Bp underlying183 underlying3 (Gu _) mp Nm Da rfl KV _ _ rfl o9 ?_;intro c9 q9 NA;rw[NB.o] at q9;obtain rfl:=Ju q9;rw[GN.o];clear q9 NA)|fail);clear KV cbV o9;refine wp_region_held_drew (S:=λ w'=>w'.cell? bx=X) (by kernel_rfl) ?_ (λ hHeld=>?_)
          ·exact d2
          refine tk 0 ?_;refine tk 1 ?_;refine tk 2 ?_;refine tk 3 ?_;refine tk 4 ?_;refine tk 6 ?_;refine tk 7 ?_;refine wpAnyH_ready (rs:=[5,8]) (by kernel_rfl) (by simp) ?_;refine AllReadyH.cons rfl (λ K hK=>?_) ?_
          ·go_simp
           refine hK.out _ _ ?_ (λ hHeld=>?_)
           ·exact d2
           clear hK K;refine rd 8 (λ K hK=>?_);go_simp;refine hK.out _ _ ?_ (λ hHeld=>?_)
           ·exact d4
           clear hK K;refine rd 9 (λ K hK=>?_);refine G.A7 rfl (.tmp 164) (.tmp 167) 48 48 rfl (.slice (r i9:Nat) gl (c i9)) (.slice V.heap.size 1 1) (by first|rfl|(simp[Act.eval];done)|(simp[Act.eval,Act.put];done)) (by first|rfl|(simp[Act.eval];done)|(simp[Act.eval,Act.put];done)) HE9.o ?_;refine hK.out _ _ ?_ (λ hHeld=>?_)
           ·exact d5
           clear hK K;refine tk 10 ?_;refine rd 11 (λ K hK=>?_);go_simp;refine hK.out _ _ ?_ (λ hHeld=>?_)
           ·exact d6
           clear hK K;refine wpAnyH_done (by kernel_rfl) ?_ _;go_wp2_with fail;go_roundw;case rel=>exact⟨t+1,Nm,Da,_,_,by omega,by go_num,HF.o.1,HF.o.2.1,by omega,by rw[HFND.o.2];exact QY.o.2,HF.o.2.2⟩
           case measure=>simp[intOf];omega
          ·refine AllReadyH.cons rfl (λ K hK=>?_) AllReadyH.nil
           go_simp;refine hK.out _ _ ?_ (λ hHeld=>?_)
           ·exact d4
           clear hK K;refine rd 5 (λ K hK=>?_);go_simp;refine hK.out _ _ ?_ (λ hHeld=>?_)
           ·exact d4
           clear hK K;refine rd 9 (λ K hK=>?_);refine G.A7 rfl (.tmp 164) (.tmp 167) 48 48 rfl (.slice (r i9:Nat) gl (c i9)) (.slice V.heap.size 1 1) (by first|rfl|(simp[Act.eval];done)|(simp[Act.eval,Act.put];done)) (by first|rfl|(simp[Act.eval];done)|(simp[Act.eval,Act.put];done)) HE9.o ?_;refine hK.out _ _ ?_ (λ hHeld=>?_)
           ·exact d5
           clear hK K;refine tk 10 ?_;refine rd 11 (λ K hK=>?_);go_simp;refine hK.out _ _ ?_ (λ hHeld=>?_)
           ·exact d6
           clear hK K;refine wpAnyH_done (by kernel_rfl) ?_ _;go_wp2_with fail;go_roundw;case rel=>exact⟨t+1,Nm,Da,_,_,by omega,by go_num,HF.o.1,HF.o.2.1,by omega,by rw[HFND.o.2];exact QY.o.2,HF.o.2.2⟩
           case measure=>simp[intOf];omega
         ·as_aux_lemma=>
          have HNI:=kd p9;have GN:Hid (Maps.has Da Y=false):=by
           show _=false;rw[fG];exact λ c=>p9 ((QY.o.2.key Y).1 c)
          have NB:Hid (Da.atKey Y (.lit (0:Int))= .lit (0:Int)):=atKey_of_not_has GN.o _;obtain⟨a,cap,hu,ha⟩:=GU.o.1.shape;subst hu;have o8:=GU.o.1.own;obtain⟨pl,PT⟩:∃pl,(pgI L l t).length=pl:=⟨_,rfl⟩;have SI:=kd PT;have hpl100:pl<=120:=by omega
          have hwpl:(Lit.int .i64 (pl:Int)).wf=true:=Av (by omega) (by omega);have hNmx:Nm<maxLen:=by unfold maxLen;omega
          have WK:Hid (V.ownsRow W9 48 1 (.slice a pl cap) pl (Bq (pgI L l t) r c)):=by
           have:=o8;rw[PT] at this;exact this
          have HNEO:Hid ((Value.slice a pl cap).ownBlock=none\/(Value.slice a pl cap).ownBlock≠some mp):=by
           show _\/_;cases hv:(Value.slice a pl cap).ownBlock with
           |none=>exact .inl rfl
           |some b=>exact .inr (λ e=>by have h1:=(WK.o.lt b hv).1;injection e with e;omega)
          have HPV2:Hid (Bg V W9 (.slice a pl cap) (pgI L l t) r c):=by
           have:=GU.o.1;rw[PT] at this;exact this
          rw[PT];have hVsz:bx<V:=by omega
          clear PT LW ZM hVs ha p9 o8;go_wp2_with (first
           |(at_lookup;refine wpList_lookup_own_ok_int _ rfl _ _ 183 rfl 3 3 .i64 Bp underlying183 underlying3 (Gu _) mp Nm Da rfl KV _ _ rfl o9 ?_;intro c9 q9 NA;rw[NB.o] at q9;obtain rfl:=Ju q9;rw[GN.o];clear q9 NA)
           |(at_mapUpdate;refine wpList_mapUpdate_own _ rfl _ _ _ 183 rfl 3 3 Bp underlying183 (plainElem prog 3) mp Nm Da rfl KV hNmx _ _ _ rfl rfl o9 _ [] (plainElem_int underlying3 hwpl) ?_;intro w6 GZ BC)
           |(at_builtin;refine wpList_append_own_at _ rfl _ _ 51 rfl W9.heap.size 48 i0 (.slice none 0 0) 1 24 underlying51 GJ BR BU BM rfl (by decide) (.slice a pl cap) _ _ rfl ((WK.o.kept BC HNEO.o).alloc _) w6 1 1 [.slice none 0 0] rfl rfl (cell_one_new _ _ _) (Fv _ _ _) (by unfold maxLen;omega) (by omega) (by have:=BC.size;simp;omega) ?_;intro v7 w7 JR DX hnil7 hloc7)
           |fail)
          obtain⟨g7,cap7,hv7⟩:∃g7 cap7,v7= .slice (some ⟨g7,0,none⟩) (pl+1) cap7:=by
           rcases JR.2 with⟨_,h0⟩|⟨ρ,κ,cur,hv,_⟩
           ·omega
           ·exact⟨ρ,κ,hv⟩
          subst hv7;have hs6:=BC.size;have hs7:w6.heap.size+1<=w7.heap.size:=by have:=DX.size;simpa using this
          have hg7:=JR.lt g7 rfl;have HP6:Hid (Bg w6 W9 (.slice a pl cap) (pgI L l t) r c):=HPV2.o.kept BC (λ m e=>by injection e with e;omega);obtain⟨v8,w8,AQ,FY,CL,_,hloc8⟩:=run_append_own_at (P:=prog) (w7.alloc (.cells #[X] 3)).drew W9 48 48 3 j0 (0:Int) 1 8 underlying48 JE LV OB WV rfl (by decide) (.slice none 0 0) 0 [] (aX _ _ _ _) w7 1 1 [X] rfl (cell_one_new _ _ _) (ints_oneCell .i64 [(X:Int)]) (by unfold maxLen;omega) (by omega) (by show W9.heap.size<=(w7.alloc _).heap.size;simp;omega);have KH:(w7.alloc (.cells #[X] 3)).grownBy w8 none:=⟨CL.os,CL.tape,CL.output,CL.size,CL.block⟩;obtain⟨ρ,κ,hv8⟩:∃ρ κ,v8= .slice (some ⟨ρ,0,none⟩) 1 κ:=by
           rcases FY.2 with⟨_,h0⟩|⟨ρ,κ,cur,hv,_⟩
           ·omega
           ·exact⟨ρ,κ,hv⟩
          subst hv8;have hρ:w7<=ρ:=by
           have h1:=hloc8;simp[Value.ownBlock,World.drew] at h1;omega
          have hown8':w8.ownsInts W9 3 .i64 (.slice ρ 1 κ) [(X:Int)]:=⟨FY,by simpa using hwX⟩;have HPN:Hid (pgI L l (t+1)=pgI L l t++[[X]]/\lst l (t+1)=lst l t++[Y]):=by
           have h1:∀i,i<(lst l t).length->(lst l t).getD i 0≠l.getD t 0:=λ i hi e=>HNI.o (by
            rw[HY.o.1] at e;rw[<-e,bH,aB hi];exact dF hi)
           have h2:Y=t:=by
            have h3:¬Y<t:=λ c=>HNI.o (Fj.2 ⟨c,HY.o.2⟩)
            omega
           refine⟨?_,?_⟩
           ·rw[zkq L IW.o.1 (by rw[HM.o];exact SS) h1,HX.o]
           ·rw[N8 (by rw[HY.o.1];exact h2),h2]
          have hown7':=JR;rw[<-SI.o] at hown7';have hbeg:=HP6.o.begin _ _ DX hown7' KH hown8' hρ;rw[<-HPN.o.1,SI.o] at hbeg;have hmap8:=((((GZ.alloc (.cells #[.slice none 0 0] 48)).kept DX (HNEO.o.elim (λ e=>by rw[e];simp) (λ e=>λ c=>e c.symm))).alloc (.cells #[X] 3)).kept KH (by simp)).setCell (a:=⟨g7,pl,none⟩) (show mp≠g7 by omega) (.slice ρ 1 κ);have hbt8:But mp W9 (w8.setCell (g7,pl) (.slice ρ 1 κ)):=by
           have BP:=GU.o.2;have h8s:=KH.size;have h0s:=BP.size;simp at h8s;refine⟨KH.os.trans (DX.os.trans (BC.os.trans BP.os)),KH.tape.trans (DX.tape.trans (BC.tape.trans BP.tape)),KH.output.trans (DX.output.trans (BC.output.trans BP.output)),?_,λ kk hkk l9=>?_⟩
           ·simp;omega
           ·rw[aV _ _ _ _ (show kk≠g7 by omega),KH.block kk (by simp;omega) (by simp),bG _ _ _ (by omega),DX.block kk (by simp;omega) (λ e=>by have:=(WK.o.lt kk e.symm).1;omega),bG _ _ _ (by omega),BC.block kk (by omega) (by simp;omega)]
            exact BP.block kk hkk l9
          have HF:Hid (Bg (w8.setCell (g7,pl) (.slice ρ 1 κ)) W9 (.slice g7 (pl+1) cap7) (pgI L l (t+1)) (λ i=>if i=pl then ρ else r i) (λ i=>if i=pl then κ else c i)/\(w8.setCell (g7,pl) (.slice ρ 1 κ)).ownsMap prog 3 (plainElem prog 3) mp (Nm+1) (Da.put Y (.lit pl))/\But mp W9 (w8.setCell (g7,pl) (.slice ρ 1 κ))):=⟨hbeg,hmap8,hbt8⟩;have HAM:Hid (Am (Da.put Y (.lit pl)) (lst l (t+1))):=by
           have h1:=QY.o.2.put QY.o.1.isMap HNI.o;rw[<-Vk L l t,SI.o] at h1;show Am _ _;rw[HPN.o.2];exact h1
          have HE9:=kd AQ;have YZ:w7.heap[bx]? =some (.cells #[X,x1,x2] 61):=by
           rw[DX.block bx (by simp;omega) (λ e=>by
            rcases WK.o.2 with⟨h3,_⟩|⟨g',cap',cur',h3,_,hg',_⟩
            ·rw[h3] at e;cases e
            ·rw[h3] at e
             injection e with e
             have e:bx=g':=e;rw[<-e,CX.o] at hg';simp at hg'),bG _ _ _ (by omega),BC.block bx hVsz (by simp;omega)]
           exact CX.o
          have hbx8:w8.heap[bx]? =some (.cells #[X,x1,x2] 61):=by
           rw[KH.block bx (by simp;omega) (by simp),bG _ _ _ (by omega)];exact YZ
          have hgbx:bx≠g7:=by
           intro e;rcases JR.2 with⟨h3,_⟩|⟨g',cap',cur',h3,_,hg',_⟩
           ·cases h3
           ·injection h3 with h4 _ _
            injection h4 with h4
            injection h4 with h4 _ _
            rw[<-h4,<-e,YZ] at hg';simp at hg'
          have ht8:=(JR.alloc (.cells #[X] 3)).kept KH (.inr (by simp[Value.ownBlock]));have hrvl:(Bq (pgI L l t) r c).length=pl:=by rw[<-SI.o];simp[Bq]
          have q9:(Bq (pgI L l t) r c++[Value.slice none 0 0])[pl]? =some (.slice none 0 0):=by
           rw[<-hrvl];simp
          have d1:w7.drew.cell? (g7,pl)=some (.slice none 0 0):=(JR.cellAt pl (by omega)).trans q9;have d2:w7.drew.cell? bx=X:=by
           show w7.cell? bx=_;simp only[World.cell?];rw[YZ];rfl
          have CW:Below w7 w7 (w7.alloc (.cells #[X] 3)):=b_;have d3:(w7.alloc (.cells #[X] 3)).drew.cell? (g7,pl)=some (.slice none 0 0):=(cell_below (show w7.cell? (g7,pl)=some (.slice none 0 0) from d1) CW:(w7.alloc (.cells #[X] 3)).cell? (g7,pl)=_);have d4:(w7.alloc (.cells #[X] 3)).drew.cell? bx=X:=(cell_below (show w7.cell? bx=X from d2) CW:(w7.alloc (.cells #[X] 3)).cell? bx=_);have c3:w8.cell? (g7,pl)=some (.slice none 0 0):=(ht8.cellAt pl (by omega)).trans q9;have f3:w8.frozen? (g7,pl)=false:=ht8.frozenAt pl;have d5:w8.cell? bx=X:=by simp only[World.cell?];rw[hbx8];rfl
          have d6:(w8.setCell (g7,pl) (.slice ρ 1 κ)).cell? bx=X:=by
           have h1:(w8.setCell (g7,pl) (.slice ρ 1 κ)).heap[bx]? =w8.heap[bx]? :=aV _ _ _ _ (show bx≠g7 from hgbx);simp only[World.cell?];rw[h1,hbx8];rfl
          have hpli:(pl:Int)<((pl+1:Nat):Int):=by omega
          clear JR hown7' DX hnil7 hloc7 GZ BC hbeg hmap8 hbt8 AQ FY hown8' CL KH hloc8 hρ hs6 hs7 hg7 YZ hbx8 q9 hrvl ht8 CW KV cbV o9;have HFN:Hid (∃(Nm':Nat) (Da':DataW Unit) (r' c':Nat->Nat),Bg (w8.setCell (g7,pl) (.slice ρ 1 κ)) W9 (.slice g7 (pl+1) cap7) (pgI L l (t+1)) r' c'/\(w8.setCell (g7,pl) (.slice ρ 1 κ)).ownsMap prog 3 (plainElem prog 3) mp Nm' Da'/\Nm'<=t+1/\Am Da' (lst l (t+1))/\But mp W9 (w8.setCell (g7,pl) (.slice ρ 1 κ))):=⟨Nm+1,_,_,_,HF.o.1,HF.o.2.1,by omega,HAM.o,HF.o.2.2⟩;clear HF HAM HPN HP6 HPV2 HNEO WK SI NB GN HNI CX GU HX HY EW QY IW XI SN HR9 HM HE HO x8 OI FU BG HINV HG;obtain⟨pl1,hpl1⟩:∃pl1,pl+1=pl1:=⟨_,rfl⟩;rw[hpl1] at HFN ⊢;have hpli':(pl:Int)<(pl1:Int):=by omega
          clear hpl1 hpli;refine wp_region_held_drew (S:=λ w'=>w'.cell? bx=X) (by kernel_rfl) ?_ (λ hHeld=>?_)
          ·exact d2
          refine tk 0 ?_;refine tk 1 ?_;refine tk 2 ?_;refine tk 3 ?_;refine tk 4 ?_;refine tk 6 ?_;refine tk 7 ?_;refine wpAnyH_ready (rs:=[5,8]) (by kernel_rfl) (by simp) ?_;refine AllReadyH.cons rfl (λ K hK=>?_) ?_
          ·go_simp
           refine hK.out _ _ ?_ (λ hHeld=>?_)
           ·exact d2
           clear hK K;refine rd 8 (λ K hK=>?_);go_simp;refine hK.out _ _ ?_ (λ hHeld=>?_)
           ·exact d4
           clear hK K;refine rd 9 (λ K hK=>?_);refine G.A7 rfl (.tmp 164) (.tmp 167) 48 48 rfl (.slice none 0 0) (.slice w7 1 1) (by first|rfl|(simp[Act.eval];done)|(simp[Act.eval,Act.put];done)) (by first|rfl|(simp[Act.eval];done)|(simp[Act.eval,Act.put];done)) HE9.o ?_;refine hK.out _ _ ?_ (λ hHeld=>?_)
           ·exact d5
           clear hK K;refine tk 10 ?_;refine rd 11 (λ K hK=>?_);go_simp;refine hK.out _ _ ?_ (λ hHeld=>?_)
           ·exact d6
           clear hK K;refine wpAnyH_done (by kernel_rfl) ?_ _;go_wp2_with fail;go_roundw;case rel=>
            obtain⟨Nm',Da',r',c',e1,e2,e3,e4,e5⟩:=HFN.o;exact⟨t+1,Nm',Da',r',c',by omega,by go_num,e1,e2,e3,e4,e5⟩
           case measure=>simp[intOf];omega
          ·refine AllReadyH.cons rfl (λ K hK=>?_) AllReadyH.nil
           go_simp;refine hK.out _ _ ?_ (λ hHeld=>?_)
           ·exact d4
           clear hK K;refine rd 5 (λ K hK=>?_);go_simp;refine hK.out _ _ ?_ (λ hHeld=>?_)
           ·exact d4
           clear hK K;refine rd 9 (λ K hK=>?_);refine G.A7 rfl (.tmp 164) (.tmp 167) 48 48 rfl (.slice none 0 0) (.slice w7 1 1) (by first|rfl|(simp[Act.eval];done)|(simp[Act.eval,Act.put];done)) (by first|rfl|(simp[Act.eval];done)|(simp[Act.eval,Act.put];done)) HE9.o ?_;refine hK.out _ _ ?_ (λ hHeld=>?_)
           ·exact d5
           clear hK K;refine tk 10 ?_;refine rd 11 (λ K hK=>?_);go_simp;refine hK.out _ _ ?_ (λ hHeld=>?_)
           ·exact d6
           clear hK K;refine wpAnyH_done (by kernel_rfl) ?_ _;go_wp2_with fail;go_roundw;case rel=>
            obtain⟨Nm',Da',r',c',e1,e2,e3,e4,e5⟩:=HFN.o;exact⟨t+1,Nm',Da',r',c',by omega,by go_num,e1,e2,e3,e4,e5⟩
           case measure=>simp[intOf];omega
        ·as_aux_lemma=>
         have SF:t=k:=by omega
         subst SF;have HF:Hid (Dl w (Ha L l) (.returned u15) wr):=by
          have h1:=HP.o;rw[<-HM.o,zoe] at h1;obtain⟨a,cap,hu,ha⟩:=h1.shape;subst hu;refine⟨a,cap,rfl,λ hl=>?_,XI.o.trans (EW.o.below (by have:=XI.o.size;omega) XI.o.size)⟩;obtain⟨g,rfl⟩:=ha hl;exact⟨g,rfl,h1.rows rfl⟩
         go_wp2_with fail;go_ret;exact⟨l,IW.o.1,IW.o.2,HF.o⟩
end Go.Proofs.Y.S
