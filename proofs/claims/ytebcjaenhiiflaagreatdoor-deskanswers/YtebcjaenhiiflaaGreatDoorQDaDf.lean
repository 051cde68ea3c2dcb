import Derived.Test.YtebcjaenhiiflaaGreatDoorQBbBl
import Derived.Test.YtebcjaenhiiflaaGreatDoorQGYd
import Derived.Test.YtebcjaenhiiflaaGreatDoorQKVaKVb
set_option maxHeartbeats 4000000
set_option maxRecDepth 100000
namespace Go.Proofs.Y.S
open Go.RowKit Go.WideMaps Go.Maps Go.Proofs.Tryz
def Aj (w:World)(b:Nat)(l:List Nat):Prop:=w.heap[b]? =some (.cells (vals l) 3)
theorem Aj.cell {w:World}{b:Nat}{l:List Nat}(h:Aj w b l)(i:Nat)(hi:i<l.length):w.cell? (b,i)=((l.getD i 0:Nat):Int):=by
 unfold Aj at h;simp[World.cell?,h,vals,hi]
theorem Aj.frozen {w:World}{b:Nat}{l:List Nat}(h:Aj w b l)(i:Nat):w.frozen? (b,i)=false:=by
 unfold Aj at h;simp[World.frozen?,h]
theorem Aj.lt {w:World}{b:Nat}{l:List Nat}(h:Aj w b l):b<w:=lt_of_some h
theorem Aj.set {w:World}{b:Nat}{l:List Nat}(h:Aj w b l)(k v:Nat):Aj (w.setCell (b,k) v) b (l.set k v):=by
 unfold Aj at h ⊢;rw[<-jq];simp[World.setCell,Array.getElem?_modify,h]
theorem Aj.below {w w':World}{b B:Nat}{l:List Nat}(h:Aj w b l)(hb:Below B w w')(hl:b<B):Aj w' b l:=(hb.block b hl).trans h
theorem Aj.drewN {w:World}{b:Nat}{l:List Nat}(h:Aj w b l)(n:Nat):Aj (w.drewN n) b l:=h
theorem Aj.alloc {w:World}{b:Nat}{l:List Nat}(h:Aj w b l)(o:Obj):Aj (w.alloc o) b l:=(bG w o b h.lt).trans h
theorem Yl (w:World)(n:Nat):Aj (w.alloc (.cells (madeCells #[(0:Int)] n) 3)) w (fill n 0):=by
 rw[Za];exact aQ w _
theorem Xx (k:Nat):(List.range k).sum<=k*k:=by
 induction k with
 |zero=>simp
 |succ k ih=>
  rw[dN,List.sum_append];simp only[List.sum_cons,List.sum_nil];have:(k+1)*(k+1)=k*k+2*k+1:=by rw[lG,lH];omega
  omega
def zra (w:World)(n:Nat)(R:List (Int × Int × Int))(e:Ending)(w':World):Prop:=
 ∃b l,e=Value.slice (some ⟨b,0,none⟩) n n/\Aj w' b l/\w.heap.size<=b/\l.length=n/\(∀u v,u<n->v<n->(l.getD u 0=l.getD v 0↔cnR R u v))/\Below w w w'
def Inn (n:Nat)(R:List (Int × Int × Int)):Prop:=∀e∈R,ea e<n/\eb e<n/\e.2.1=(ea e:Int)/\e.2.2=(eb e:Int)
theorem zmf {n:Nat}{R:List (Int × Int × Int)}{l:List Nat}(h:Lab n R l)(hd:∀u v,u<n->v<n->(l.getD u 0=l.getD v 0↔cnR R u v)):Good n l:=
 ⟨h.1,λ i hi=>(h.2 i hi).1,λ i hi=>((hd i (l.getD i 0) hi (by have:=(h.2 i hi).1;omega)).2 (h.2 i hi).2).symm⟩
def fo (w:World)(n:Nat)(R:List (Int × Int × Int))(e:Ending)(w':World):Prop:=
 ∃b l,e=Value.slice (some ⟨b,0,none⟩) n n/\Aj w' b l/\w.heap.size<=b/\Good n l/\(∀u v,u<n->v<n->(l.getD u 0=l.getD v 0↔cnR R u v))/\Below w w w'
theorem Kg (n B q:Nat)(u:Value)(R:List (Int × Int × Int))(w:World)(h:G.GAt w B 40 61 q (n:Int) u R)(hl:R.length<=120)(hn:n<=40)(p9:Inn n R):
 Calls prog 59 #[.pointer q] w (fo w n R):=by
 have hc:=h.c0;have TF:=h.c1;have hqlt:=h.plt;have HG:=kd h;have BG:=kd p9;obtain⟨m,hm⟩:∃m,m=R.length:=⟨_,rfl⟩;have HM:=kd hm;obtain⟨ua,uc,hv⟩:=h.row.Ap;rw[<-hm] at hv hl;have HV:=kd hv;rw[hv] at TF;have MR:=λ W=>run_make_row' (P:=prog) 48 3 (0:Int) 8 underlying48 Tryz.info3 rfl .i64 .i64 n (by omega) (by omega) W
 clear h p9 hm hv;go_enter func59,ntmps59;go_wp2_with fail;go_loopw [4,16] (λ _ s16 wq=>∃k:Nat,k<=n/\s16=k/\Aj wq w (fill n k)/\Below w w wq) (λ _ s16 _=>n-(intOf s16).toNat)
 case atStart=>exact⟨0,aN _,rfl,Yl w n,b_⟩
 case round=>
  obtain⟨k,hk,rfl,hr,hb⟩:=hrel;clear MR;by_cases j6:k<n
  ·as_aux_lemma=>
   have BV:=hr.cell k (by rw[H8];exact j6);have hf:=hr.frozen k;have HR:Hid (Aj (wr.setCell (w,k) k) w (fill n (k+1))):=by
    have:=hr.set k k;rw[Q5] at this;exact this
   have HB:Hid (Below w w (wr.setCell (w,k) k)):=hb.setCell (aF _) _;clear hr hb;generalize (fill n k).getD k 0=z at BV;go_wp2;go_roundw;case rel=>exact⟨k+1,by omega,by go_num,HR.o,HB.o⟩
   case measure=>simp[intOf];omega
  ·have CF:k=n:=by omega
   subst CF;rw[Tz] at hr;have FU:=kd hr;have GG:=kd hb;clear hr hb;go_wp2_with fail;go_loopg [5] 10000 (λ r s5 wq=>∃l,Lab k R l/\Aj wq w l/\Below w w wq/\((s5= .bool true/\l.sum<r)\/(s5= .bool false/\∀e∈R,l.getD (ea e) 0=l.getD (eb e) 0)))
   case atStart=>
    refine⟨List.range k,zi3 k R,FU.o,GG.o,.inl ⟨rfl,?_⟩⟩;have h1:=Xx k;have h2:k*k<=40*40:=fU hn hn;omega
   case round=>
    obtain⟨l,BD,hr,hb,hs⟩:=hrel;rcases hs with⟨rfl,VC⟩|⟨rfl,y7⟩
    ·have hg:=HG.o.below hb
     have HL:Hid (Lab k R l/\Aj wr w l/\Below w w wr):=⟨BD,hr,hb⟩;have hu2:wr.cell? (q,1)=some (.slice ua m uc):=by have:=hg.c1;rwa[HV.o] at this
     clear BD hr hb hg hc TF FU GG;go_wp2_with fail;go_loopw [5,30] (λ s5 s30 wq=>∃(j:Nat) (l':List Nat),j<=m/\s30=j/\Lab k R l'/\Aj wq w l'/\Below w w wq/\((s5= .bool false/\l'=l/\∀i e,i<j->R[i]? =some e->l.getD (ea e) 0=l.getD (eb e) 0)\/(s5= .bool true/\l'.sum<l.sum))) (λ _ s30 _=>m-(intOf s30).toNat)
     case atStart=>exact⟨0,l,aN _,rfl,HL.o.1,HL.o.2.1,HL.o.2.2,.inl ⟨rfl,rfl,λ i e hi=>by omega⟩⟩
     case round=>
      obtain⟨j,l',hj,rfl,hlab',hr',hb',hs'⟩:=hrel;by_cases j6:j<m
      ·obtain⟨⟨x0,x1,x2⟩,hx⟩:∃e,R[j]? =some e:=⟨_,aB (by rw[<-HM.o];exact j6)⟩
       obtain⟨hA,hE,h1,h2⟩:=BG.o _ (aG hx);obtain⟨g,MQ⟩:∃g,ua=some ⟨g,0,none⟩:=by
        rcases HG.o.row.shape with⟨_,e⟩|⟨g,cap,e,_⟩
        ·rw[e] at hx;simp at hx
        ·rw[HV.o] at e
         injection e with e1 _ _
         exact⟨g,e1⟩
       obtain⟨r0,r1,r2⟩:=(HG.o.below hb').row.at (g:=g) (by rw[HV.o,MQ];rfl) hx;have HX:=kd hx;have HT:Hid (Lab k R (told l' (ea (x0,x1,x2)) (eb (x0,x1,x2)))):=znt hlab' (aG hx) hA hE;have HS':=kd hs';simp only at h1 h2 r0 r1 r2;generalize hAe:ea (x0,x1,x2)=A at*;generalize hEe:eb (x0,x1,x2)=E at*;have QK:=kd (And.intro hAe hEe);clear hAe hEe hx hs';subst h1 h2;have FK:=hlab'.1;have cA:=hr'.cell A (by omega);have cE:=hr'.cell E (by omega);have HR:Hid (Lab k R l'/\Aj wr w l'/\Below w w wr):=⟨hlab',hr',hb'⟩;have EI:=hb'.size;clear hlab' hr' hb' HL;obtain⟨X,hX⟩:∃X,l'.getD A 0=X:=⟨_,rfl⟩;obtain⟨Y,hY⟩:∃Y,l'.getD E 0=Y:=⟨_,rfl⟩;rw[hX] at cA;rw[hY] at cE;have CJ:=kd (And.intro hX hY);clear hX hY;subst MQ;obtain⟨W1,AJ⟩:∃W1,W1=wr.alloc (.cells #[x0,A,E] 61):=⟨_,rfl⟩;have hh:W1.heap[wr.heap.size]? =some (.cells #[x0,A,E] 61):=by rw[AJ];exact aQ wr _
       have p1:W1.cell? (wr,1)=A:=by simp[World.cell?,hh]
       have p2:W1.cell? (wr,2)=E:=by simp[World.cell?,hh]
       have BZ:Hid (Aj W1 w l'/\Below w w W1):=⟨by rw[AJ];exact HR.o.2.1.alloc _,by rw[AJ];exact HR.o.2.2.alloc EI _⟩;have l9:w.heap.size≠wr.heap.size:=Nat.ne_of_lt HR.o.2.1.lt;have BQ:=kd AJ.symm;have qA:W1.cell? (w,A)=X:=by
        have:=BZ.o.1.cell A (by omega);rwa[CJ.o.1] at this
       have qE:W1.cell? (w,E)=Y:=by
        have:=BZ.o.1.cell E (by omega);rwa[CJ.o.2] at this
       clear hh AJ cA cE;rcases eP X Y with BO|BO|BO
       ·as_aux_lemma=>
        have h1:(X:Int)<(Y:Int):=by omega
        have hq:((Y:Int)==(X:Int))=false:=aH.2 (by omega);have HTD:Hid ((l'.set A X).set E X=told l' A E/\(told l' A E).sum<l'.sum):=by
         refine⟨?_,za (by omega) (by omega) (by rw[CJ.o.1,CJ.o.2];omega)⟩;unfold told;rw[CJ.o.1,CJ.o.2,show min X Y=X by omega]
        have HYE:=kd CJ.o.2;have NS:Hid (A≠E):=λ e=>by have h1:=CJ.o.1;have h2:=CJ.o.2;rw[e] at h1;omega
        have HSM:Hid (l'.sum<=l.sum):=by
         rcases HS'.o with⟨_,rfl,_⟩|⟨_,h⟩
         ·exact aF _
         ·exact jZ h
        clear HS' HX QK CJ;go_wp2_with fail;rw[BQ.o];go_quiet (fail);have HV:Hid (Aj (W1.drewN nq) w l'/\Below w w (W1.drewN nq)):=⟨BZ.o.1.drewN nq,below_drewN BZ.o.2 nq⟩;have s1:(W1.drewN nq).cell? (wr,1)=A:=p1;have s2:(W1.drewN nq).cell? (wr,2)=E:=p2;have s3:(W1.drewN nq).cell? (w,A)=X:=qA;have s4:(W1.drewN nq).cell? (w,E)=Y:=qE;clear p1 p2 qA qE;generalize W1.drewN nq=V at*;have MZ:min (X:Int) (Y:Int)=(X:Int):=by omega
        simp only[MZ];clear MZ;go_upto_region 15 with fail
        have KO:Aj V.drew w l':=HV.o.1;have t1:V.drew.cell? (wr,1)=A:=s1;have t2:V.drew.cell? (wr,2)=E:=s2;have t3:V.drew.cell? (w,A)=X:=s3;have f3:=KO.frozen A;have SL:=KO.set A X;have t4:V.drew.cell? (w,E)=Y:=s4;have f4:=KO.frozen E;have f5:=SL.frozen E;have t5:=SL.cell E (by simp;omega);rw[show(l'.set A X).getD E 0=Y by rw[<-HYE.o];simp[NS.o]] at t5;have t6:(V.setCell (w,A) X).cell? (w,E)=Y:=t5;have f6:(V.setCell (w,A) X).frozen? (w,E)=false:=f5;have t7:(V.setCell (w,A) X).drew.cell? (w,E)=Y:=t5;have f7:(V.setCell (w,A) X).drew.frozen? (w,E)=false:=f5;have hAE:¬A=E:=NS.o;have hEA:¬E=A:=λ e=>NS.o e.symm
        have HRT:Hid (Aj ((V.drew.setCell (w,A) X).setCell (w,E) X) w (told l' A E)/\Below w w ((V.drew.setCell (w,A) X).setCell (w,E) X)):=by
         refine⟨?_,(((HV.o.2.drew).setCell (aF _) _).setCell (aF _) _)⟩;rw[<-HTD.o.1];exact SL.set E X
        clear KO SL hq h1;go_region_held (λ w'=>w'.cell? (wr,1)=A/\w'.cell? (wr,2)=E) (go_keep) (fail)
        all_goals
         go_wp2_with fail;go_roundw;case rel=>exact⟨j+1,told l' A E,by omega,by go_num,HT.o,HRT.o.1,HRT.o.2,.inr ⟨rfl,by have:=HTD.o.2;have:=HSM.o;omega⟩⟩
         case measure=>simp[intOf];omega
       ·as_aux_lemma=>
        subst BO;have HF:Hid (u5= .bool false/\l'=l/\(∀i e,i<j+1->R[i]? =some e->l.getD (ea e) 0=l.getD (eb e) 0)\/u5= .bool true/\l'.sum<l.sum):=by
         rcases HS'.o with⟨h1,rfl,h3⟩|h1
         ·refine .inl ⟨h1,rfl,λ i e hi he=>?_⟩
          by_cases hij:i=j
          ·subst hij
           have:e=(x0,(A:Int),(E:Int)):=by rw[HX.o] at he;injection he with he;exact he.symm
           rw[this,QK.o.1,QK.o.2,CJ.o.1,CJ.o.2]
          ·exact h3 i e (by omega) he
         ·exact .inr h1
        clear HT HS' HX QK CJ;go_wp2_with fail;rw[BQ.o];go_quiet (fail);have HV:Hid (Aj (W1.drewN nq) w l'/\Below w w (W1.drewN nq)):=⟨BZ.o.1.drewN nq,below_drewN BZ.o.2 nq⟩;have s1:(W1.drewN nq).cell? (wr,1)=A:=p1;have s2:(W1.drewN nq).cell? (wr,2)=E:=p2;have s3:(W1.drewN nq).cell? (w,A)=X:=qA;have s4:(W1.drewN nq).cell? (w,E)=X:=qE;clear p1 p2 qA qE;generalize W1.drewN nq=V at*;go_wp2_with fail;go_roundw;case rel=>exact⟨j+1,l',by omega,by go_num,HR.o.1,HV.o.1,HV.o.2,HF.o⟩
        case measure=>simp[intOf];omega
       ·as_aux_lemma=>
        have h1:(Y:Int)<(X:Int):=by omega
        have hq:((X:Int)==(Y:Int))=false:=aH.2 (by omega);have HTD:Hid ((l'.set A Y).set E Y=told l' A E/\(told l' A E).sum<l'.sum):=by
         refine⟨?_,za (by omega) (by omega) (by rw[CJ.o.1,CJ.o.2];omega)⟩;unfold told;rw[CJ.o.1,CJ.o.2,show min X Y=Y by omega]
        have HYE:=kd CJ.o.2;have NS:Hid (A≠E):=λ e=>by have h1:=CJ.o.1;have h2:=CJ.o.2;rw[e] at h1;omega
        have HSM:Hid (l'.sum<=l.sum):=by
         rcases HS'.o with⟨_,rfl,_⟩|⟨_,h⟩
         ·exact aF _
         ·exact jZ h
        clear HS' HX QK CJ;go_wp2_with fail;rw[BQ.o];go_quiet (fail);have HV:Hid (Aj (W1.drewN nq) w l'/\Below w w (W1.drewN nq)):=⟨BZ.o.1.drewN nq,below_drewN BZ.o.2 nq⟩;have s1:(W1.drewN nq).cell? (wr,1)=A:=p1;have s2:(W1.drewN nq).cell? (wr,2)=E:=p2;have s3:(W1.drewN nq).cell? (w,A)=X:=qA;have s4:(W1.drewN nq).cell? (w,E)=Y:=qE;clear p1 p2 qA qE;generalize W1.drewN nq=V at*;have MZ:min (X:Int) (Y:Int)=(Y:Int):=by omega
        simp only[MZ];clear MZ;go_upto_region 15 with fail
        have KO:Aj V.drew w l':=HV.o.1;have t1:V.drew.cell? (wr,1)=A:=s1;have t2:V.drew.cell? (wr,2)=E:=s2;have t3:V.drew.cell? (w,A)=X:=s3;have f3:=KO.frozen A;have SL:=KO.set A Y;have t4:V.drew.cell? (w,E)=Y:=s4;have f4:=KO.frozen E;have f5:=SL.frozen E;have t5:=SL.cell E (by simp;omega);rw[show(l'.set A Y).getD E 0=Y by rw[<-HYE.o];simp[NS.o]] at t5;have t6:(V.setCell (w,A) Y).cell? (w,E)=Y:=t5;have f6:(V.setCell (w,A) Y).frozen? (w,E)=false:=f5;have t7:(V.setCell (w,A) Y).drew.cell? (w,E)=Y:=t5;have f7:(V.setCell (w,A) Y).drew.frozen? (w,E)=false:=f5;have hAE:¬A=E:=NS.o;have hEA:¬E=A:=λ e=>NS.o e.symm
        have HRT:Hid (Aj ((V.drew.setCell (w,A) Y).setCell (w,E) Y) w (told l' A E)/\Below w w ((V.drew.setCell (w,A) Y).setCell (w,E) Y)):=by
         refine⟨?_,(((HV.o.2.drew).setCell (aF _) _).setCell (aF _) _)⟩;rw[<-HTD.o.1];exact SL.set E Y
        clear KO SL hq h1;go_region_held (λ w'=>w'.cell? (wr,1)=A/\w'.cell? (wr,2)=E) (go_keep) (fail)
        all_goals
         go_wp2_with fail;go_roundw;case rel=>exact⟨j+1,told l' A E,by omega,by go_num,HT.o,HRT.o.1,HRT.o.2,.inr ⟨rfl,by have:=HTD.o.2;have:=HSM.o;omega⟩⟩
         case measure=>simp[intOf];omega
      ·have CE:j=m:=by omega
       subst CE;rcases hs' with⟨rfl,rfl,y7⟩|⟨rfl,hsum'⟩
       ·as_aux_lemma=>
        have HF:Hid (Lab k R l'/\Aj wr w l'/\Below w w wr/\∀e∈R,l'.getD (ea e) 0=l'.getD (eb e) 0):=⟨hlab',hr',hb',λ e he=>by
         obtain⟨i,hi,CR⟩:=dD.1 he;exact y7 i e (by rw[HM.o];exact hi) (by rw[aB hi,CR])⟩
        clear hlab' hr' hb' y7 HL;go_wp2_with fail;go_roundg (gk-1);case measure=>omega
        case rel=>exact⟨l',HF.o.1,HF.o.2.1,HF.o.2.2.1,.inr ⟨rfl,HF.o.2.2.2⟩⟩
       ·as_aux_lemma=>
        have HF:Hid (Lab k R l'/\Aj wr w l'/\Below w w wr):=⟨hlab',hr',hb'⟩;clear hlab' hr' hb' HL;go_wp2_with fail;go_roundg (l'.sum+1);case measure=>omega
        case rel=>exact⟨l',HF.o.1,HF.o.2.1,HF.o.2.2,.inl ⟨rfl,by omega⟩⟩
    ·as_aux_lemma=>
     have HF:Hid (fo w k R (.returned (.slice w k k)) wr):=
      ⟨_,l,rfl,hr,aF _,zmf BD (λ u v hu hv=>jm BD (λ e he=>⟨(BG.o e he).1,(BG.o e he).2.1⟩) y7 hu hv),λ u v hu hv=>jm BD (λ e he=>⟨(BG.o e he).1,(BG.o e he).2.1⟩) y7 hu hv,hb⟩
     clear hr hb BD y7;go_wp2_with fail;go_ret;exact HF.o
theorem De (n B q:Nat)(u:Value)(R:List (Int × Int × Int))(w:World)(h:G.GAt w B 40 61 q (n:Int) u R)(hl:R.length<=120)(hn:n<=40)(p9:Inn n R):
 Calls prog 59 #[.pointer q] w (zra w n R):=
 (Kg n B q u R w h hl hn p9).mono (λ _ _ ⟨b,l,he,hr,hb,hg,hd,BH⟩=>⟨b,l,he,hr,hb,hg.1,hd,BH⟩)
theorem zr0 (x y cw bl n:Nat)(l:List Nat)(s:Bool)(w:World)(hc:w.cell? cw=some (.slice bl n n))(hr:Aj w bl l)(hl:l.length=n)(hx:x<n)(hy:y<n)(hv:(((l.getD x 0:Nat):Int)==((l.getD y 0:Nat):Int))=s):
 Calls prog 73 #[x,y,.pointer cw] w λ e w'=>e=s/\∃n,w'=w.drewN n:=by
 have JA:=hr.cell x (by omega);have NR:=hr.cell y (by omega);clear hr;generalize l.getD x 0=X at*;generalize l.getD y 0=Y at*;go_enter func73,ntmps73;go_wp2_with fail;go_quiet (fail);clear JA NR hc;go_wp2_with fail;go_ret;exact⟨by simp,_,rfl⟩
def Dl (w:World)(Gs:List (List Nat))(e:Ending)(w':World):Prop:=
 ∃a cap,e=Value.slice a Gs.length cap/\(0<Gs.length->∃g,a=some ⟨g,0,none⟩/\Ja w' g Gs Gs.length)/\Below w w w'
theorem Nk {w w1 w':World}{t:Value}{Gs:List (List Nat)}{r c:Nat->Nat}(h:Bg w' w1 t Gs r c)(hb:Below w1 w1 w')(h1:Below w w w1):Dl w Gs (.returned t) w':=by
 obtain⟨a,cap,rfl,ha⟩:=h.shape;refine⟨a,cap,rfl,λ hl=>?_,h1.tr hb⟩;obtain⟨g,rfl⟩:=ha hl;exact⟨g,rfl,h.rows rfl⟩
theorem zl5 {a b c d:Nat}(h:a=b↔c=d){s:Bool}(hs:((c:Int)==(d:Int))=s):((a:Int)==(b:Int))=s:=by
 rw[<-hs];rw[dV,bX,bX];omega
theorem zgy (n B q:Nat)(u:Value)(R:List (Int × Int × Int))(L:List Nat)(w:World)(h:G.GAt w B 40 61 q (n:Int) u R)(hl:R.length<=120)(hn:n<=40)(p9:Inn n R)(hg:Good n L)(hL:∀x y,x<n->y<n->(L.getD x 0=L.getD y 0↔cnR R x y)):
 Calls prog 24 #[.pointer q] w (Dl w (Ar L n)):=by
 have HG:=kd h;have XO:=kd hL;have hmf':=hmf;clear h hL;go_enter func24,ntmps24;go_wp2_with fail;refine(De n B q u R w HG.o hl hn p9).mono ?_;rintro e w1 ⟨b,l,rfl,hr,hb,FK,BD,BH⟩;have hc:(w1.alloc (.cells #[.slice b n n] 48)).cell? q=n:=by
  rw[dA _ _ q (HG.o.below BH).plt];exact(HG.o.below BH).c0
 have hql:q<w1:=(HG.o.below BH).plt;have HX:=kd (And.intro hr BH);have ZL:Hid (Alike 73 (w1.alloc (.cells #[.slice b n n] 48)) n w1 L):=by
  intro W' hW' x y s hx hy hs;have FO:=hr.lt;refine zr0 x y w1.heap.size b n l s W' ?_ ((hr.alloc _).below hW' (by simp;omega)) FK hx hy (zl5 ?_ hs)
  ·rw[hW'.cell (p:=w1) (by simp)];simp
  ·rw[BD x y hx hy,XO.o x y hx hy]
 clear hr BD BH;go_wp2_with fail;refine(za6 n w1 L _ ZL.o hg hn).mono ?_;rintro e w2 ⟨t,r,c,rfl,hP,j5⟩;have HF:Hid (Dl w (Ar L n) (.returned t) w2):=Nk hP j5 (HX.o.2.alloc HX.o.2.size _);clear hP j5;go_wp2;go_ret;exact HF.o
theorem Xl (R:List (Int × Int × Int))(e:Int × Int × Int)(Fn:Nat->Int):R.filter (G.stays (λ _=>e.1) Fn 1 0)=rest R e:=by
 unfold rest;refine dP (λ d _=>?_);have h1:G.among (λ _=>e.1) 1 d.1=decide (e.1=d.1):=by
  simp only[G.among,dN,List.range_zero,dX,List.any_cons,List.any_nil,Bool.or_false];exact dV.2 (by simp)
 have h2:∀x,G.among Fn 0 x=false:=λ x=>by simp[G.among]
 unfold G.stays;rw[h1,h2,h2];by_cases h:d.1=e.1
 ·simp[h]
 ·simp[h,Ne.symm h]
theorem O7 {n:Nat}{R:List (Int × Int × Int)}(h:Inn n R)(e:Int × Int × Int):Inn n (rest R e):=λ d hd=>h d (aO.1 hd).1
theorem Tx (R:List (Int × Int × Int))(e:Int × Int × Int):(rest R e).length<=R.length:=aW _ _
theorem zmg {R B:List (Int × Int × Int)}{j:Nat}{e:Int × Int × Int}(hj:R[j]? =some e):Az (R.take (j+1)) B=Az (R.take j) B++if e∈B then [e.1] else []:=by
 unfold Az;rw[bL,hj];simp only[jL,bP,dL];by_cases h:e∈B <;> simp[h]
theorem zol (R B:List (Int × Int × Int)):(Az R B).length<=R.length:=by
 unfold Az;rw[aS];exact aW _ _
theorem qo (w:World)(x:Int):G.Ints (w.alloc (.cells #[x] 3)) (some ⟨w.heap.size,0,none⟩) 1 (λ _=>x):=
 ⟨λ _=>⟨w.heap.size,0,rfl,λ t ht=>by
   have:t=0:=by omega
   subst this;simp⟩⟩
theorem U5 (w:World):G.Ints w none 0 (λ _=>0):=⟨λ h=>by omega⟩
theorem zl {Bs:List (Int × Int × Int)}(n B q:Nat)(u:Value)(R L:List (Int × Int × Int))(w:World)(h:G.GAt w B 40 61 q (n:Int) u R)(hi:G.Inv R L)(hl:L.length<=120)(hn:n<=40)(p9:Inn n L)(JB:∀e∈L,(e∈Bs↔¬cnR (rest R e) (ea e) (eb e))):
 Calls prog 22 #[.pointer q] w λ e w'=>∃v,e= .returned v/\w'.ownsRow w 3 1 v (Az L Bs).length ((Az L Bs).map (Value.int .i64))/\Below w w w':=by
 have HG:=kd h;have HS:=kd JB;have BG:=kd p9;have HINR:Hid (Inn n R):=λ e he=>p9 e (hi.perm.mem_iff.1 he)
 have HI:=kd hi;have TU:R.length=L.length:=hi.perm.length_eq;obtain⟨i0,GJ,BR,BU,BM⟩:=info_parts Tryz.info3;clear h p9 JB hi;go_enter func22,ntmps22;go_wp2_with fail;refine(G.K6 B q (n:Int) u R L w HG.o HI.o).mono ?_;rintro e w1 ⟨v,rfl,ho,j4⟩;obtain⟨m,hm⟩:∃m,m=L.length:=⟨_,rfl⟩;have HM:=kd hm;have HMR:Hid (m=R.length):=hm.trans TU.symm;obtain⟨va,vc,hv⟩:=ho.Ap;rw[<-hm] at hv hl;have HV:=kd hv;have HO:=kd ho;have x8:=kd j4;subst hv;clear hm ho j4 TU;go_wp2_with fail;go_loopw [3,10] (λ s3 s10 wq=>∃j:Nat,j<=m/\s10=j/\wq.ownsRow w1 3 1 s3 (Az (L.take j) Bs).length ((Az (L.take j) Bs).map (Value.int .i64))/\Below w1 w1 wq) (λ _ s10 _=>m-(intOf s10).toNat)
 case atStart=>exact⟨0,aN _,rfl,aX _ _ _ _,aI _ _⟩
 case round=>
  obtain⟨j,hj,rfl,o7,hb⟩:=hrel;by_cases j6:j<m
  ·obtain⟨⟨x0,x1,x2⟩,hx⟩:∃e,L[j]? =some e:=⟨_,aB (by rw[<-HM.o];exact j6)⟩
   have XW:=aG hx;obtain⟨hA,hE,h1,h2⟩:=BG.o _ XW;obtain⟨g,EF⟩:∃g,va=some ⟨g,0,none⟩:=by
    rcases HO.o.shape with⟨_,e⟩|⟨g,cap,e,_⟩
    ·rw[e] at hx;simp at hx
    ·injection e with e1 _ _
     exact⟨g,e1⟩
   subst EF;obtain⟨r0,r1,r2⟩:=(HO.o.below hb).at (g:=g) rfl hx;have JF:Hid (Az (L.take (j+1)) Bs=Az (L.take j) Bs++if (x0,x1,x2)∈Bs then [x0] else []):=zmg hx;have HBR:Hid ((x0,x1,x2)∈Bs↔¬cnR (rest R (x0,x1,x2)) (ea (x0,x1,x2)) (eb (x0,x1,x2))):=HS.o _ XW;simp only at h1 h2 r0 r1 r2;generalize hAe:ea (x0,x1,x2)=A at*;generalize hEe:eb (x0,x1,x2)=E at*;clear hAe hEe;subst h1 h2;have VZ:=kd o7;have EU:Hid ((Az (L.take j) Bs).length<=m):=by
    have h1:=zol (L.take j) Bs;have h2:(L.take j).length<=j:=by simp;omega
    show(Az (L.take j) Bs).length<=m;omega
   have HB:=kd hb;have EI:=hb.size;clear o7 hb hx;obtain⟨W1,AJ⟩:∃W1,W1=wr.alloc (.cells #[x0,A,E] 61):=⟨_,rfl⟩;have hh:W1.heap[wr.heap.size]? =some (.cells #[x0,A,E] 61):=by rw[AJ];exact aQ wr _
   have CX:=kd hh;have p0:W1.cell? wr=x0:=by simp[World.cell?,hh]
   have CQ:Hid (Below w1 w1 W1):=by
    show Below w1 w1 W1;rw[AJ];exact HB.o.alloc EI _
   have SN:Hid (W1.ownsRow w1 3 1 u3 (Az (L.take j) Bs).length ((Az (L.take j) Bs).map (Value.int .i64))):=by
    show W1.ownsRow _ _ _ _ _ _;rw[AJ];exact VZ.o.alloc _
   have BQ:=kd AJ.symm;have hW1s:wr.heap.size<W1.heap.size:=lt_of_some hh;have BS:W1.heap.size=wr.heap.size+1:=by rw[AJ];simp
   clear hh AJ VZ HB;have WA:Hid (Calls prog 58 #[.pointer q,.slice (wr.heap.size+1:Nat) 1 1,.slice none 0 0] (W1.alloc (.cells #[x0] 3)) λ e w'=>∃q' v',e=Value.pointer (some ⟨q',0,none⟩)/\G.GAt w' W1 40 61 q' (n:Int) v' (rest R (x0,(A:Int),(E:Int)))/\Below W1 W1 w'):=by
    have hg:=(HG.o.below x8.o).below CQ.o;have j5:Below W1 W1 (W1.alloc (.cells #[x0] 3)):=b_;have h1i:=qo W1 x0;rw[BS] at h1i;refine(G.Du (n:Int) B q u R _ none 1 0 1 0 (λ _=>x0) (λ _=>0) _ (hg.below j5) (by rw[<-HMR.o];omega) h1i (U5 _) (by omega) (by omega)).mono ?_;rintro e w' ⟨q',v',rfl,hg',hb'⟩;rw[Xl R (x0,(A:Int),(E:Int))] at hg';refine⟨q',v',rfl,⟨hg'.hp,hg'.row.mono (by simp),hg'.ne⟩,j5.trans (hb'.mono (by simp))⟩
   go_wp2_with fail;rw[BQ.o];refine aA WA.o ?_;rintro e' w2 ⟨q',v',rfl,AU,j5⟩;have GD:=kd (And.intro AU j5);clear AU j5 WA p0;go_wp2_with fail;refine(De n W1 q' v' (rest R (x0,(A:Int),(E:Int))) w2 GD.o.1 (aD (Tx _ _) (by rw[<-HMR.o];exact hl)) hn (O7 HINR.o _)).mono ?_;rintro e' w3 ⟨b,l,rfl,hr,EN,FK,BD,y8⟩;have FI:Below W1 W1 w3:=GD.o.2.tr y8;have AZ:Hid (Below w1 w1 w3):=CQ.o.tr FI;have DR:Hid (w3.ownsRow w1 3 1 u3 (Az (L.take j) Bs).length ((Az (L.take j) Bs).map (Value.int .i64))):=SN.o.kept (Ai FI) (by cases u3.ownBlock <;> simp);have hh3:w3.heap[wr.heap.size]? =some (.cells #[x0,A,E] 61):=(FI.block _ hW1s).trans CX.o;have c0:w3.cell? wr=x0:=by simp[World.cell?,hh3]
   have c1:w3.cell? (wr,1)=A:=by simp[World.cell?,hh3]
   have c2:w3.cell? (wr,2)=E:=by simp[World.cell?,hh3]
   have cA:=hr.cell A (by omega);have cE:=hr.cell E (by omega);have CJ:Hid ((x0,(A:Int),(E:Int))∈Bs↔l.getD A 0≠l.getD E 0):=by
    show _∈Bs↔_;rw[HBR.o,Ne,BD A E hA hE]
   clear hr EN BD y8 FI hh3 CX CQ SN GD HBR hW1s r0 r1 r2;generalize l.getD A 0=X at*;generalize l.getD E 0=Y at*;by_cases BO:X=Y
   ·as_aux_lemma=>
    subst BO;have HF:Hid (w3.ownsRow w1 3 1 u3 (Az (L.take (j+1)) Bs).length ((Az (L.take (j+1)) Bs).map (Value.int .i64))):=by
     show w3.ownsRow _ _ _ _ _ _;rw[JF.o,aL (λ k=>(CJ.o.1 k) rfl),eX];exact DR.o
    clear JF CJ DR;go_wp2_with fail;go_quiet (fail);clear c0 c1 c2 cA cE;go_wp2_with fail;go_roundw;case rel=>exact⟨j+1,by omega,by go_num,HF.o,below_drewN AZ.o nq⟩
    case measure=>simp[intOf];omega
   ·as_aux_lemma=>
    have HST':Hid (Az (L.take (j+1)) Bs=Az (L.take j) Bs++[x0]):=by
     show Az (L.take (j+1)) Bs=_;rw[JF.o,aP (CJ.o.2 BO)]
    have hq:((X:Int)==(Y:Int))=false:=aH.2 (by omega);have hlen:=EU.o;clear JF CJ;generalize Az (L.take j) Bs=K at*;go_wp2_with fail;go_quiet (fail);have d0:(w3.drewN nq).cell? wr=x0:=c0;have HD:Hid ((w3.drewN nq).ownsRow w1 3 1 u3 K.length (K.map (Value.int .i64))/\Below w1 w1 (w3.drewN nq)):=⟨DR.o,below_drewN AZ.o nq⟩;clear c0 c1 c2 cA cE DR AZ;generalize w3.drewN nq=V at*;have o7:=HD.o.1;have hVs:=HD.o.2.size;have TJ:=o7.lt;go_wp2_with (first
     |(at_builtin;refine wpList_append_own_at _ rfl _ _ 48 rfl w1.heap.size 3 i0 (0:Int) 1 8 underlying48 GJ BR BU BM rfl (by decide) u3 _ _ rfl (o7.alloc _) V.heap.size 1 1 [x0] rfl rfl (cell_one_new _ _ _) (ints_oneCell .i64 [x0]) (by unfold maxLen;omega) (by omega) (by simp;omega) ?_;intro v'' w4 hown' AY IJ ES)
     |fail)
    have HF:Hid (w4.ownsRow w1 3 1 v'' (Az (L.take (j+1)) Bs).length ((Az (L.take (j+1)) Bs).map (Value.int .i64))):=by
     show w4.ownsRow _ _ _ _ _ _;rw[HST'.o]
     simpa using hown'
    go_roundw;case rel=>exact⟨j+1,by omega,by go_num,HF.o,HD.o.2.grown ((bR V _ _).trans AY) hVs (λ j hj=>(TJ j hj).1)⟩
    case measure=>simp[intOf];omega
  ·have CE:j=m:=by omega
   subst CE;have HF:Hid (wr.ownsRow w 3 1 u3 (Az L Bs).length ((Az L Bs).map (Value.int .i64))/\Below w w wr):=by
    have ht:L.take j=L:=aZ (by rw[<-HM.o];omega);rw[ht] at o7;exact⟨ownsRow_base_a o7 x8.o.size,x8.o.tr hb⟩
   clear o7 hb;go_wp2_with fail;go_ret;exact⟨_,rfl,HF.o⟩
structure Dy (w:World) (base cw n:Nat) (v:Value) (P:List (Nat × List Nat)):Prop where
 own:w.ownsRow base 48 1 v P.length (P.map λ p=>.slice p.1 n n)
 rows:∀p∈P,Aj w p.1 p.2/\p.2.length=n
 box:w.heap[cw]? =some (.cells #[v] 51)
theorem Dy.below {w w':World}{base cw n:Nat}{v:Value}{P:List (Nat × List Nat)}(h:Dy w base cw n v P)(hb:Below w w w'):Dy w' base cw n v P:=
 ⟨h.own.kept (Ai hb) (by cases v.ownBlock <;> simp),λ p hp=>⟨(h.rows p hp).1.below hb (h.rows p hp).1.lt,(h.rows p hp).2⟩,(hb.block cw (lt_of_some h.box)).trans h.box⟩
theorem Dy.shape {w:World}{base cw n:Nat}{v:Value}{P:List (Nat × List Nat)}(h:Dy w base cw n v P)(hp:0<P.length):∃g cap,v= .slice (some ⟨g,0,none⟩) P.length cap/\∀i p,P[i]? =some p->w.cell? ⟨g,i,none⟩=some (.slice (some ⟨p.1,0,none⟩) n n):=by
 have h0:=h.own;rcases h.own.2 with⟨_,hz⟩|⟨g,cap,cur,rfl,_⟩
 ·omega
 ·refine⟨g,cap,rfl,λ i p hi=>?_⟩
  rw[h0.cellAt i (by have:=(aC.1 hi).1;omega)];simp[hi]
theorem Qj {w:World}{base:Nat}{v:Value}{k:Nat}{xs:List Value}(h:w.ownsRow base 48 1 v k xs){g:Nat}(hg:v.ownBlock=some g):∃cur,w.heap[g]? =some (.cells cur 48):=by
 rcases h.2 with⟨rfl,_⟩|⟨g',cap,cur,rfl,_,hc,_⟩
 ·simp[Value.ownBlock] at hg
 ·simp[Value.ownBlock] at hg
  subst hg;exact⟨_,hc⟩
theorem Dy.push {w w4:World}{base cw n b:Nat}{v v':Value}{P:List (Nat × List Nat)}{l:List Nat}{o:Obj}(h:Dy w base cw n v P)(hr:Aj w b l)(hl:l.length=n)(o8:w4.ownsRow base 48 1 v' (P.length+1) ((P.map λ p=>.slice p.1 n n)++[.slice b n n]))
 (hg:(w.alloc o).grownBy w4 v.ownBlock):Dy (w4.setCell cw v') base cw n v' (P++[(b,l)])/\w4.cell? cw=some v/\w4.frozen? cw=false:=by
 have l9:∀k,k<w.heap.size->(∀cur,w.heap[k]? ≠some (.cells cur 48))->w4.heap[k]? =w.heap[k]? :=by
  intro k hk hn;have h1:(w.alloc o).heap[k]? =w.heap[k]? :=bG w o k hk;rw[hg.block k (by simp;omega) (λ e=>?_),h1];obtain⟨cur,hc⟩:=Qj h.own e.symm;exact hn cur hc
 have DT:w4.heap[cw]? =some (.cells #[v] 51):=(l9 cw (lt_of_some h.box) (λ cur=>by rw[h.box];simp)).trans h.box;have o7:∀p∈P++[(b,l)],Aj w4 p.1 p.2/\p.2.length=n:=by
  intro p hp;have h1:Aj w p.1 p.2/\p.2.length=n:=by
   rcases aK.1 hp with hp|hp
   ·exact h.rows p hp
   ·rw[aJ.1 hp];exact⟨hr,hl⟩
  exact⟨(l9 p.1 h1.1.lt (λ cur=>by rw[h1.1];simp)).trans h1.1,h1.2⟩
 refine⟨⟨?_,?_,?_⟩,by simp[World.cell?,DT],by simp[World.frozen?,DT]⟩
 ·have hv:v'.ownBlock≠some cw:=by
   intro e;obtain⟨cur,hc⟩:=Qj o8 e;rw[DT] at hc;simp at hc
  have e1:(P++[(b,l)]).length=P.length+1:=by simp
  have e2:((P++[(b,l)]).map λ p=>Value.slice p.1 n n)=(P.map λ p=>.slice p.1 n n)++[.slice b n n]:=by simp
  rw[e1,e2];refine o8.kept (row:=some cw) ⟨rfl,rfl,rfl,by simp,λ i _ hi=>aV _ _ _ _ (λ e=>hi (by rw[e]))⟩ ?_;exact Or.inr hv
 ·intro p hp
  refine⟨?_,(o7 p hp).2⟩;show(w4.setCell cw v').heap[p.1]? =_;rw[aV _ _ _ _ (λ e=>?_)]
  ·exact(o7 p hp).1
  ·have:=(o7 p hp).1
   unfold Aj at this;have e':p.1=cw:=e;rw[e',DT] at this;simp at this
 ·simp[World.setCell,Array.getElem?_modify,DT]
theorem zp2 (x y cw n base:Nat)(v:Value)(P:List (Nat × List Nat))(s:Bool)(w:World)(h:Dy w base cw n v P)(hp:0<P.length)(LW:P.length<=20000)(hx:x<n)(hy:y<n)(hs:s=true↔∀p∈P,p.2.getD x 0=p.2.getD y 0):
 Calls prog 124 #[x,y,.pointer cw] w λ e w'=>e=s/\∃n,w'=w.drewN n:=by
 have HH:=kd h;obtain⟨g,cap,rfl,AP⟩:=h.shape hp;have HC:=kd AP;have DT:w.cell? cw=some (.slice g P.length cap):=by simp[World.cell?,h.box]
 have HS:=kd hs;obtain⟨m,hm⟩:∃m,P.length=m:=⟨_,rfl⟩;have HM:=kd hm;rw[hm] at DT LW;clear h AP hs hm hp;go_enter func124,ntmps124;go_wp2_with fail;go_loopw [7,10] (λ _ s10 wq=>∃j:Nat,j<=m/\s10=j/\(∀i p,i<j->P[i]? =some p->p.2.getD x 0=p.2.getD y 0)/\∃q,wq=w.drewN q) (λ _ s10 _=>m-(intOf s10).toNat)
 case atStart=>exact⟨0,aN _,rfl,λ i p hi=>by omega,0,rfl⟩
 case round=>
  obtain⟨j,hj,rfl,y7,q,hq0⟩:=hrel;have HQ:=kd hq0;clear hq0;have WB:=kd y7;clear y7;by_cases j6:j<m
  ·obtain⟨⟨b,l⟩,YR⟩:∃p,P[j]? =some p:=⟨_,aB (by rw[HM.o];exact j6)⟩
   have HPJ:=kd YR;have o7:=HH.o.rows _ (aG YR);have c0:wr.cell? (g,j)=some (.slice b n n):=by rw[HQ.o];exact HC.o j (b,l) YR
   have cx:wr.cell? (b,x)=((l.getD x 0:Nat):Int):=by rw[HQ.o];exact o7.1.cell x (by rw[o7.2];exact hx)
   have cy:wr.cell? (b,y)=((l.getD y 0:Nat):Int):=by rw[HQ.o];exact o7.1.cell y (by rw[o7.2];exact hy)
   obtain⟨X,hX⟩:∃X,l.getD x 0=X:=⟨_,rfl⟩;obtain⟨Y,hY⟩:∃Y,l.getD y 0=Y:=⟨_,rfl⟩;rw[hX] at cx;rw[hY] at cy;have CJ:=kd (And.intro hX hY);clear hX hY YR o7 DT;by_cases BO:X=Y
   ·subst BO
    go_wp2_with fail;go_quiet (fail);clear c0 cx cy;go_wp2_with fail;go_roundw;case rel=>
     refine⟨j+1,by omega,by go_num,λ i p hi PK=>?_,q+nq,by rw[HQ.o,drewN_drewN]⟩;by_cases hij:i=j
     ·subst hij
      rw[HPJ.o] at PK;injection PK with PK
      rw[<-PK,CJ.o.1,CJ.o.2]
     ·exact WB.o i p (by omega) PK
    case measure=>simp[intOf];omega
   ·have hq:((X:Int)==(Y:Int))=false:=aH.2 (by omega)
    have HF:Hid (s=false):=by
     show s=false;cases s with
     |false=>rfl
     |true=>
      have:=HS.o.1 rfl (b,l) (aG HPJ.o);rw[CJ.o.1,CJ.o.2] at this;exact absurd this BO
    go_wp2_with fail;go_quiet (fail);clear c0 cx cy;go_wp2_with fail;go_ret;exact⟨by rw[HF.o];rfl,q+nq,by rw[HQ.o,drewN_drewN]⟩
  ·have CE:j=m:=by omega
   subst CE;have HF:Hid (s=true):=HS.o.2 (λ p hp=>by
    obtain⟨i,hi,PK⟩:=dD.1 hp;exact WB.o i p (by rw[<-HM.o];exact hi) (by rw[aB hi,PK]))
   go_wp2_with fail;go_ret;exact⟨by rw[HF.o];rfl,q,HQ.o⟩
theorem Vf {w:World}{base n b:Nat}{l:List Nat}(hb:base<=w)(hr:Aj w b l)(hl:l.length=n):
 Dy ((w.alloc (.cells #[.slice b n n] 48)).alloc (.cells #[.slice w 1 1] 51)) base (w+1) n (.slice w 1 1) [(b,l)]:=by
 refine⟨?_,?_,Sc _ _ _⟩
 ·refine World.ownsRow.alloc ?_ _
  refine⟨by simp,.inr ⟨w.heap.size,1,_,rfl,hb,aQ w _,aF _,by unfold maxLen;omega,by simp,?_⟩⟩;simp
 ·intro p hp
  rw[aJ.1 hp];exact⟨(hr.alloc _).alloc _,hl⟩
def Br (R:List Edg)(e f:Edg):List Edg:=R.filter λ d=>decide (d.1≠e.1)&&decide (d.1≠f.1)
theorem Z6 (R:List Edg)(e f:Edg)(F Fn:Nat->Int)(h0:F 0=e.1)(h1:F 1=f.1):R.filter (G.stays F Fn 2 0)=Br R e f:=by
 unfold Br;refine dP (λ d _=>?_);have h3:G.among F 2 d.1=(decide (e.1=d.1) || decide (f.1=d.1)):=by
  simp only[G.among,dN,List.range_zero,dX,List.any_append,List.any_cons,List.any_nil,Bool.or_false,h0,h1];rw[dV];simp
 have h2:∀x,G.among Fn 0 x=false:=λ x=>by simp[G.among]
 unfold G.stays;rw[h3,h2,h2];by_cases hd:d.1=e.1
 ·simp[hd]
 ·by_cases hf:d.1=f.1
  ·simp[hf]
  ·simp[hd,hf,Ne.symm hd,Ne.symm hf]
theorem Qh {n:Nat}{R:List Edg}(h:Inn n R)(e f:Edg):Inn n (Br R e f):=λ d hd=>h d (aO.1 hd).1
theorem Yh (R:List Edg)(e f:Edg):(Br R e f).length<=R.length:=aW _ _
theorem zer (R:List Edg)(e f:Edg):Br R e f=Br R f e:=by
 unfold Br;exact dP (λ d _=>Bool.and_comm _ _)
def J9 (n:Nat)(R:List Edg)(P:List (Nat × List Nat))(i j:Nat):Prop:=
 ∀x y,x<n->y<n->((∀p∈P,p.2.getD x 0=p.2.getD y 0)↔(cnR R x y/\∀i' j' e f,(i'<i\/i'=i/\j'<j)->i'<=j'->R[i']? =some e->R[j']? =some f->cnR (Br R e f) x y))
theorem zad {n b:Nat}{R:List Edg}{l:List Nat}(h:∀u v,u<n->v<n->(l.getD u 0=l.getD v 0↔cnR R u v)):J9 n R [(b,l)] 0 0:=by
 intro x y hx hy;simp only[aJ,forall_eq];rw[h x y hx hy];exact⟨λ k=>⟨k,λ i' j' e f hi=>by omega⟩,λ k=>k.1⟩
theorem zdm {n b i j:Nat}{R:List Edg}{l:List Nat}{P:List (Nat × List Nat)}{e f:Edg}(h:J9 n R P i j)(hi:R[i]? =some e)(hij:i<=j)(hj:R[j]? =some f)(hl:∀u v,u<n->v<n->(l.getD u 0=l.getD v 0↔cnR (Br R e f) u v)):J9 n R (P++[(b,l)]) i (j+1):=by
 intro x y hx hy;have h1:=h x y hx hy;have h2:=hl x y hx hy;simp only[aK,aJ];constructor
 ·intro k
  have k1:=h1.1 (λ p hp=>k p (.inl hp));refine⟨k1.1,λ i' j' e' f' hh hle he' hf'=>?_⟩;by_cases hn:i'=i/\j'=j
  ·obtain⟨rfl,rfl⟩:=hn
   rw[hi] at he';rw[hj] at hf';cases he';cases hf';exact h2.1 (k (b,l) (.inr rfl))
  ·exact k1.2 i' j' e' f' (by omega) hle he' hf'
 ·rintro⟨k1,k2⟩ p (hp|rfl)
  ·exact h1.2 ⟨k1,λ i' j' e' f' hh=>k2 i' j' e' f' (by omega)⟩ p hp
  ·exact h2.2 (k2 i j e f (by omega) hij hi hj)
theorem ze8 {n i m:Nat}{R:List Edg}{P:List (Nat × List Nat)}(hm:R.length=m)(h:J9 n R P i m):J9 n R P (i+1) (i+1):=by
 intro x y hx hy;rw[h x y hx hy];constructor
 ·rintro⟨k1,k2⟩
  refine⟨k1,λ i' j' e f hh hle he hf=>k2 i' j' e f ?_ hle he hf⟩;have:=(aC.1 hf).1;omega
 ·rintro⟨k1,k2⟩
  exact⟨k1,λ i' j' e f hh hle he hf=>k2 i' j' e f (by omega) hle he hf⟩
theorem zje {n m j:Nat}{R:List Edg}{P:List (Nat × List Nat)}(hm:R.length=m)(h:J9 n R P m j){x y:Nat}(hx:x<n)(hy:y<n):(∀p∈P,p.2.getD x 0=p.2.getD y 0)↔(cnR R x y/\∀e∈R,∀f∈R,cnR (Br R e f) x y):=by
 rw[h x y hx hy];constructor
 ·rintro⟨k1,k2⟩
  refine⟨k1,λ e he f hf=>?_⟩;obtain⟨i,hi⟩:=bY he;obtain⟨j,hj⟩:=bY hf;have h1:=(aC.1 hi).1;have h2:=(aC.1 hj).1;by_cases hij:i<=j
  ·exact k2 i j e f (by omega) hij hi hj
  ·rw[zer]
   exact k2 j i f e (by omega) (by omega) hj hi
 ·rintro⟨k1,k2⟩
  exact⟨k1,λ i' j' e f _ _ he hf=>k2 e (aG he) f (aG hf)⟩
theorem Sk {w:World}{k t:Nat}{v:Value}(h:w.heap[k]? =some (.cells #[v] t)):w.cell? k=some v:=by simp[World.cell?,h]
theorem Y9 {w:World}{base e k:Nat}{v:Value}{xs:List Value}(h:w.ownsRow base e 1 v k xs)(hk:0<k):∃g cap,v= .slice (some ⟨g,0,none⟩) k cap:=by
 rcases h.2 with⟨_,hz⟩|⟨g,cap,cur,rfl,_⟩
 ·omega
 ·exact⟨g,cap,rfl⟩
theorem zcg (w:World)(x y:Int):G.Ints (w.alloc (.cells #[x,y] 3)) (some ⟨w.heap.size,0,none⟩) 2 (λ t=>if t=0 then x else y):=
 ⟨λ _=>⟨w.heap.size,0,rfl,λ t ht=>by
   have:t=0\/t=1:=by omega
   rcases this with rfl|rfl <;> simp⟩⟩
theorem zcy (n B q:Nat)(u:Value)(R:List Edg)(L:List Nat)(w:World)(h:G.GAt w B 40 61 q (n:Int) u R)(hl:R.length<=120)(hn:n<=40)(p9:Inn n R)(hg:Good n L)(hL:∀x y,x<n->y<n->(L.getD x 0=L.getD y 0↔(cnR R x y/\∀e∈R,∀f∈R,cnR (Br R e f) x y))):
 Calls prog 67 #[.pointer q] w (Dl w (Ar L n)):=by
 have HG:=kd h;have XO:=kd hL;have BG:=kd p9;have hmf':=hmf;obtain⟨i0,GJ,BR,BU,BM⟩:=info_parts Tryz.info48;obtain⟨m,hm⟩:∃m,m=R.length:=⟨_,rfl⟩;have HM:=kd hm;obtain⟨ua,uc,hv⟩:=h.row.Ap;rw[<-hm] at hv hl;have HV:=kd hv;clear h hL p9 hm hv;go_enter func67,ntmps67;go_wp2_with fail;refine(De n B q u R w HG.o (by rw[<-HM.o];omega) hn BG.o).mono ?_;rintro e w1 ⟨b0,l0,rfl,hr,hb,FK,BD,BH⟩;have HA0:Hid (Dy ((w1.alloc (.cells #[.slice b0 n n] 48)).alloc (.cells #[.slice w1 1 1] 51)) w1 (w1+1) n (.slice w1 1 1) [(b0,l0)]):=Vf (aF _) hr FK;have FQ:Hid (J9 n R [(b0,l0)] 0 0):=zad BD;have GG:Hid (Below w w ((w1.alloc (.cells #[.slice b0 n n] 48)).alloc (.cells #[.slice w1 1 1] 51))):=BH.trans ((Bt _ _ _).mono BH.size);have OD:=BH.size;have ET:=HG.o.below GG.o;have TF:((w1.alloc (.cells #[.slice b0 n n] 48)).alloc (.cells #[.slice w1 1 1] 51)).cell? (q,1)=some (.slice ua m uc):=by have:=ET.c1;rwa[HV.o] at this
 clear hr hb BD BH ET;go_wp2_with fail;go_loopw [16] (λ s16 wq=>∃(i:Nat) (v:Value) (P:List (Nat × List Nat)),i<=m/\s16=i/\0<P.length/\P.length<=1+120*i/\Dy wq w1 (w1+1) n v P/\J9 n R P i i/\Below w w wq) (λ s16 _=>m-(intOf s16).toNat)
 case atStart=>exact⟨0,_,_,aN _,rfl,by simp,by simp,HA0.o,FQ.o,GG.o⟩
 case round=>
  obtain⟨i,v,P,hi,rfl,hP0,TV,hA,hS,hb⟩:=hrel;have HA:=kd hA;have HS:=kd hS;have HB:=kd hb;have EI:=hb.size;clear hA hS hb HA0 FQ GG TF;by_cases j6:i<m
  ·rename World=>wo
   obtain⟨⟨x0,x1,x2⟩,hx⟩:∃e,R[i]? =some e:=⟨_,aB (by rw[<-HM.o];exact j6)⟩;have HX:=kd hx;obtain⟨g,MQ,GI⟩:∃g,ua=some ⟨g,0,none⟩/\m<=uc:=by
    rcases HG.o.row.2 with⟨_,e⟩|⟨g,cap,cur,e,_,_,h4,_⟩
    ·have:=HM.o;omega
    ·rw[HV.o] at e
     injection e with e1 e2 e3
     exact⟨g,e1,by have:=HM.o;omega⟩
   obtain⟨r0,r1,r2⟩:=(HG.o.below HB.o).row.at (g:=g) (by rw[HV.o,MQ];rfl) hx;simp only at r0 r1 r2;subst MQ;clear hx;have BK:Below wo wo (wo.alloc (.cells #[x0,x1,x2] 61)):=b_;have KU:Hid (Dy (wo.alloc (.cells #[x0,x1,x2] 61)) w1 (w1+1) n v P/\(wo.alloc (.cells #[x0,x1,x2] 61)).heap[wo.heap.size]? =some (.cells #[x0,x1,x2] 61)/\Below w w (wo.alloc (.cells #[x0,x1,x2] 61))):=⟨HA.o.below BK,aQ wo _,HB.o.trans (BK.mono EI)⟩;have hu2:(wo.alloc (.cells #[x0,x1,x2] 61)).cell? (q,1)=some (.slice g m uc):=by have:=(HG.o.below KU.o.2.2).c1;rwa[HV.o] at this
   have hwo1:w1.heap.size+1<wo.heap.size:=lt_of_some HA.o.box;have j5:(i:Int)<=(m:Int):=by omega
   have BB:(i:Int)<=(uc:Int):=by omega
   have CV:(m:Int)<=(uc:Int):=by omega
   have ED:¬uc=i:=by omega
   clear BK HA;go_wp2_with fail;clear r0 r1 r2 hu2 j5 BB CV ED GI;obtain⟨r,hr⟩:∃r,m-i=r:=⟨_,rfl⟩;have HR:Hid (i+r=m):=by show i+r=m;omega
   have hr30:r<=120:=by omega
   rw[hr];clear hr;go_loopw [28] (λ s28 wq=>∃(k:Nat) (v:Value) (P:List (Nat × List Nat)),k<=r/\s28=k/\0<P.length/\P.length<=1+120*i+k/\Dy wq w1 (w1+1) n v P/\J9 n R P i (i+k)/\wq.heap[wo.heap.size]? =some (.cells #[x0,x1,x2] 61)/\Below w w wq) (λ s28 _=>r-(intOf s28).toNat)
   case atStart=>exact⟨0,v,P,aN _,rfl,hP0,TV,KU.o.1,HS.o,KU.o.2.1,KU.o.2.2⟩
   case round=>
    clear KU HS HB hP0 TV EI;obtain⟨k,v,P,hk,rfl,hP0,TV,hA,hS,JA,hb⟩:=hrel;have HA:=kd hA;have HS:=kd hS;have HB:=kd (And.intro hb JA);have SI:=kd TV;have EI:=hb.size;have hwor:wo.heap.size<wr.heap.size:=lt_of_some JA;clear hA hS hb JA;by_cases hltk:k<r
    ·as_aux_lemma=>
     obtain⟨⟨y0,y1,y2⟩,hy⟩:∃e,R[i+k]? =some e:=⟨_,aB (by rw[<-HM.o,<-HR.o];omega)⟩;have HY:=kd hy;obtain⟨r0,r1,r2⟩:=(HG.o.below HB.o.1).row.at (g:=g) (by rw[HV.o];rfl) hy;simp only at r0 r1 r2;have ea0:(i+k)*3=i*3+k*3:=by omega
     have s0:wr.cell? (g,i*3+k*3)=y0:=by rw[<-ea0];exact r0
     have s1:wr.cell? (g,i*3+k*3+1)=y1:=by rw[<-ea0];exact r1
     have s2:wr.cell? (g,i*3+k*3+2)=y2:=by rw[<-ea0];exact r2
     clear hy r0 r1 r2 ea0;obtain⟨W1,AJ⟩:∃W1,W1=wr.alloc (.cells #[y0,y1,y2] 61):=⟨_,rfl⟩;have hh:W1.heap[wr.heap.size]? =some (.cells #[y0,y1,y2] 61):=by rw[AJ];exact aQ wr _
     have BK:Below wr wr W1:=by rw[AJ];exact b_
     have BS:W1.heap.size=wr.heap.size+1:=by rw[AJ];simp
     have CX:Hid (W1.heap[wr.heap.size]? =some (.cells #[y0,y1,y2] 61)/\W1.heap[wo.heap.size]? =some (.cells #[x0,x1,x2] 61)):=⟨hh,(BK.block _ hwor).trans HB.o.2⟩;have CQ:Hid (Below w w W1):=HB.o.1.trans (BK.mono EI);have HAW:Hid (Dy W1 w1 (w1+1) n v P):=HA.o.below BK;have BQ:=kd AJ.symm;have EH:Hid (∀w',Below W1 W1 w'->w'.cell? wr=y0/\w'.cell? wo=x0/\w'.cell? (w1.heap.size+1:Nat)=some v/\Dy w' w1.heap.size (w1+1) n v P/\w'.heap[wo.heap.size]? =some (.cells #[x0,x1,x2] 61)):=λ w' hb=>by
      have h1:w'.heap[wr.heap.size]? =some (.cells #[y0,y1,y2] 61):=(hb.block _ (by omega)).trans CX.o.1;have h2:=(hb.block _ (lt_of_some CX.o.2)).trans CX.o.2;exact⟨by simp[World.cell?,h1],by simp[World.cell?,h2],Sk (HAW.o.below hb).box,HAW.o.below hb,h2⟩
     have JP:w1.heap.size+1<W1.heap.size:=lt_of_some HAW.o.box;have WA:Hid (Calls prog 58 #[.pointer q,.slice (wr.heap.size+1:Nat) 2 2,.slice none 0 0] (W1.alloc (.cells #[x0,y0] 3)).drew λ e w'=>∃q' v',e=Value.pointer (some ⟨q',0,none⟩)/\G.GAt w' W1 40 61 q' (n:Int) v' (Br R (x0,x1,x2) (y0,y1,y2))/\Below W1 W1 w'):=by
      have j5:Below W1 W1 (W1.alloc (.cells #[x0,y0] 3)).drew:=(b_).drew;have hgW:=(HG.o.below CQ.o).below j5;have h1i:G.Ints (W1.alloc (.cells #[x0,y0] 3)).drew (some ⟨wr.heap.size+1,0,none⟩) 2 (λ t=>if t=0 then x0 else y0):=by
       have:=zcg W1 x0 y0;rw[BS] at this;exact this.below ((aI _ _).drew)
      refine(G.Du (n:Int) B q u R _ none 2 0 2 0 (λ t=>if t=0 then x0 else y0) (λ _=>0) _ hgW (by rw[<-HM.o];omega) h1i (U5 _) (by omega) (by omega)).mono ?_;rintro e w' ⟨q',v',rfl,hg',hb'⟩;rw[Z6 R (x0,x1,x2) (y0,y1,y2) _ _ (by simp) (by simp)] at hg';refine⟨q',v',rfl,⟨hg'.hp,hg'.row.mono ?_,hg'.ne⟩,j5.trans (hb'.mono ?_)⟩
      ·exact j5.size
      ·exact j5.size
     have bA:Below W1 W1 W1.drew:=(aI _ _).drew;have bB:Below W1 W1 (W1.alloc (.cells #[x0,y0] 3)):=b_;have bC:Below W1 W1 (W1.alloc (.cells #[x0,y0] 3)).drew:=(b_).drew;obtain⟨a1,a2,a3,_,_⟩:=EH.o W1 (aI _ _);obtain⟨b1,b2,b3,_,_⟩:=EH.o _ bA;obtain⟨c1,c2,c3,_,_⟩:=EH.o _ bB;obtain⟨d1,d2,d3,_,_⟩:=EH.o _ bC;have hP1:P.length<=20000:=by omega
     clear hh BK AJ bA bB bC;go_upto_region 8 with fail
     rw[BQ.o];clear s0 s1 s2
     go_region_law
      (first
        |(obtain⟨v5,w5,AQ,BA,AL,_,_⟩:=run_append_own_at (P:=prog) (w3.alloc (.cells #[.slice b n n] 48)) w1 51 51 48 i0 (.slice none 0 0) 1 24 underlying51 GJ BR BU BM rfl (by decide) v P.length _ (QV.o.own.alloc _) w3 1 1 [.slice b n n] rfl (cell_one_new _ _ _) (Fv _ _ _) (by unfold maxLen;omega) (by omega) (by simp;omega)
          obtain⟨g5,cap5,rfl⟩:=Y9 BA (by omega);refine G.A7 rfl (.tmp 32) (.tmp 41) 51 51 rfl v (.slice w3 1 1) (by first|rfl|(simp[Act.eval];done)|(simp[Act.eval,Act.put];done)) (by first|rfl|(simp[Act.eval];done)|(simp[Act.eval,Act.put];done)) AQ ?_;obtain⟨hA5,c5,f5⟩:=QV.o.push DR.o.1 DR.o.2.1 BA AL)
        |(go_simp;go_at_call 58;refine aA WA.o ?_;rintro e' w2 ⟨q',v',rfl,AU,j5⟩;obtain⟨m1,m2,m3,m4,_⟩:=EH.o w2 j5;have GD:Hid (G.GAt w2 W1 40 61 q' (n:Int) v' (Br R (x0,x1,x2) (y0,y1,y2))/\Below W1 W1 w2):=⟨AU,j5⟩;clear AU j5 m4)
        |(go_simp;go_at_call 59;refine(De n W1 q' v' (Br R (x0,x1,x2) (y0,y1,y2)) w2 GD.o.1 (aD (Yh _ _ _) (by rw[<-HM.o];omega)) hn (Qh BG.o _ _)).mono ?_;rintro e' w3 ⟨b,l,rfl,hr,EN,hll',BD,y8⟩;have CY:Hid (Below W1 W1 w3):=GD.o.2.tr y8;obtain⟨m5,m6,m7,m8,_⟩:=EH.o w3 CY.o;have m9:(w3.alloc (.cells #[.slice b n n] 48)).cell? (w1.heap.size+1:Nat)=some v:=(EH.o _ (CY.o.alloc CY.o.size _)).2.2.1;have QV:Hid (Dy w3 w1 (w1+1) n v P):=m8;have DR:Hid (Aj w3 b l/\l.length=n/\(∀u v,u<n->v<n->(l.getD u 0=l.getD v 0↔cnR (Br R (x0,x1,x2) (y0,y1,y2)) u v))):=⟨hr,hll',BD⟩;have OT:=CY.o.size;clear hr EN BD y8 m8 hll'))
     all_goals
      have hF0:(Dy (w5.setCell (w1.heap.size+1:Nat) (.slice g5 (P.length+1) cap5)) w1 (w1+1) n (.slice g5 (P.length+1) cap5) (P++[(b,l)])/\(w5.setCell (w1.heap.size+1:Nat) (.slice g5 (P.length+1) cap5)).heap[wo.heap.size]? =some (.cells #[x0,x1,x2] 61)/\Below w w (w5.setCell (w1.heap.size+1:Nat) (.slice g5 (P.length+1) cap5))):=by
       have y8:Below w w w3:=CQ.o.tr CY.o;refine⟨hA5,?_,(y8.grown ((bR w3 _ _).trans AL) y8.size (λ j hj=>aD OD (QV.o.own.lt j hj).1)).setCell (show w.heap.size<=w1.heap.size+1 by omega) _⟩;have UX:=(EH.o w3 CY.o).2.2.2.2;have hl3:=lt_of_some UX;have l9:v.ownBlock≠some wo.heap.size:=λ e=>by
        obtain⟨cur,EM⟩:=Qj QV.o.own e;rw[UX] at EM;simp at EM
       rw[aV _ _ _ _ (show wo.heap.size≠w1.heap.size+1 by omega),AL.block wo (by simp;omega) (λ e=>l9 e.symm),bG _ _ _ hl3];exact UX
      have HF:Hid _:=hF0;clear hA5 AL BA AQ c5 f5 hF0;go_wp2_with fail;go_roundw;case rel=>exact⟨k+1,_,P++[(b,l)],by omega,by go_num,by simp,by have:=SI.o;rw[aM,fO];omega,HF.o.1,zdm HS.o HX.o (Nat.le_add_right _ _) HY.o DR.o.2.2,HF.o.2.1,HF.o.2.2⟩
      case measure=>simp[intOf];omega
    ·as_aux_lemma=>
     have HF:Hid (J9 n R P (i+1) (i+1)):=by
      have h1:=HS.o;have e1:i+k=m:=by have:=HR.o;omega
      rw[e1] at h1;exact ze8 HM.o.symm h1
     clear HS;go_wp2_with fail;go_roundw;case rel=>exact⟨i+1,v,P,by omega,by go_num,hP0,by omega,HA.o,HF.o,HB.o.1⟩
     case measure=>simp[intOf];omega
  ·as_aux_lemma=>
   have CR:i=m:=by omega
   have FR:=HG.o.below HB.o;have hc:=FR.c0;have ZL:Hid (Alike 124 wr n (w1+1) L):=by
    intro W' hW' x y s hx hy hs;refine zp2 x y (w1+1) n w1.heap.size v P s W' (HA.o.below hW') hP0 (by omega) hx hy ?_;have h1:=HS.o;rw[CR] at h1;rw[zje HM.o.symm h1 hx hy,<-XO.o x y hx hy,<-hs,bX];omega
   clear FR;go_wp2_with fail;refine(zw n (w1+1) L wr ZL.o hg hn).mono ?_;rintro e w2 ⟨t,r,c,rfl,hP,j5⟩;have HF:Hid (Dl w (Ar L n) (.returned t) w2):=Nk hP j5 HB.o;clear hP j5;go_wp2;go_ret;exact HF.o
theorem Q9 {n:Nat}{l l':List Nat}(h:Good n l)(h':Good n l')(he:∀u v,u<n->v<n->(l.getD u 0=l.getD v 0↔l'.getD u 0=l'.getD v 0)):l=l':=by
 have half:∀{l l':List Nat},Good n l->Good n l'->(∀u v,u<n->v<n->(l.getD u 0=l.getD v 0↔l'.getD u 0=l'.getD v 0))->∀i,i<n->l'.getD i 0<=l.getD i 0:=by
  intro l l' h h' he i hi;have h1:=h.le i hi;have h2:=(he (l.getD i 0) i (by omega) hi).1 (h.idem i hi);rw[<-h2];exact h'.le _ (by omega)
 apply eB
 ·rw[h.len,h'.len]
 ·intro i h1 h2
  have a1:=half h h' he i (by rw[<-h.len];exact h1);have a2:=half h' h (λ u v hu hv=>(he u v hu hv).symm) i (by rw[<-h.len];exact h1);simp[List.getD_eq_getElem?_getD,List.getElem?_eq_getElem h1,List.getElem?_eq_getElem h2] at a1 a2;omega
theorem Vs {n:Nat}{T:List Edg}{l:List Nat}(hg:Good n l)(p9:Inn n T)(hl:∀u v,u<n->v<n->(l.getD u 0=l.getD v 0↔cnR T u v)):l=lbl n T:=by
 have hN:C8 n T:=λ e he=>⟨(p9 e he).1,(p9 e he).2.1⟩
 exact Q9 hg (Er hN) (λ u v hu hv=>by rw[hl u v hu hv,Eg hN hu hv])
def G8 (n:Nat)(l:List Nat):Nat:=cnt (λ x=>decide (x=l.getD x 0)) n
theorem cnt_mono {f g:Nat->Bool}:∀{n},(∀i,i<n->f i=true->g i=true)->cnt f n<=cnt g n
 |0,_=>aF _
 |n+1,h=>by
  have ih:=cnt_mono (f:=f) (g:=g) (n:=n) (λ i hi=>h i (by omega));have h1:=h n (by omega);simp only[cnt];cases hf:f n with
  |false=>simp;omega
  |true=>simp[h1 hf];omega
theorem zb9 {f g:Nat->Bool}:∀{n},(∀i,i<n->f i=true->g i=true)->cnt f n=cnt g n->∀i,i<n->f i=g i
 |0,_,_,i,hi=>by omega
 |n+1,h,he,i,hi=>by
  have ih:=zb9 (f:=f) (g:=g) (n:=n) (λ i hi=>h i (by omega));have hm:=cnt_mono (f:=f) (g:=g) (n:=n) (λ i hi=>h i (by omega));have h1:=h n (by omega);simp only[cnt] at he;have hn:f n=g n:=by
   cases hf:f n with
   |true=>rw[h1 hf]
   |false=>
    cases hg:g n with
    |false=>rfl
    |true=>simp[hf,hg] at he;omega
  by_cases e:i=n
  ·rw[e];exact hn
  ·exact ih (by rw[hn] at he;omega) i (by omega)
theorem za5 {n:Nat}{l l':List Nat}(h:Good n l)(h':Good n l')(hf:∀u v,u<n->v<n->l'.getD u 0=l'.getD v 0->l.getD u 0=l.getD v 0):G8 n l<=G8 n l'/\(G8 n l=G8 n l'↔l'=l):=by
 have PL:∀i,i<n->decide (i=l.getD i 0)=true->decide (i=l'.getD i 0)=true:=λ i hi hd=>by
  have h1:=dH hd;have h2:=h'.le i hi;have h3:=hf (l'.getD i 0) i (by omega) hi (h'.idem i hi);have h4:=h.le (l'.getD i 0) (by omega);exact bI (by omega)
 refine⟨cnt_mono PL,λ he=>?_,λ he=>by rw[he]⟩;have y7:=zb9 PL he;refine Q9 h' h (λ u v hu hv=>⟨hf u v hu hv,λ FD=>?_⟩);have same:∀u,u<n->l'.getD u 0=l.getD u 0:=λ u hu=>by
  have h1:=h'.le u hu;have h2:=h'.idem u hu;have h3:=y7 (l'.getD u 0) (by omega);rw[bI h2.symm] at h3;have h4:=dH h3;have h5:=hf (l'.getD u 0) u (by omega) hu h2;omega
 rw[same u hu,same v hv];exact FD
theorem Qs (b n:Nat)(l:List Nat)(w:World)(hr:Aj w b l)(hl:l.length=n)(hn:n<=40):
 Calls prog 122 #[.slice b n n] w λ e w'=>e=(G8 n l:Int)/\w'=w:=by
 have HR:=kd (And.intro hr hl);clear hr hl;go_enter func122,ntmps122;go_wp2_with fail;go_loopw [3,8] (λ s3 s8 wq=>∃k:Nat,k<=n/\s8=k/\s3=((cnt (λ x=>decide (x=l.getD x 0)) k:Nat):Int)/\wq=w) (λ _ s8 _=>n-(intOf s8).toNat)
 case atStart=>exact⟨0,aN _,rfl,rfl,rfl⟩
 case round=>
  obtain⟨k,hk,rfl,rfl,rfl⟩:=hrel;have GV:=Q7 (λ x=>decide (x=l.getD x 0)) k;have HC:Hid (cnt (λ x=>decide (x=l.getD x 0)) (k+1)=(if decide (k=l.getD k 0) then cnt (λ x=>decide (x=l.getD x 0)) k+1 else cnt (λ x=>decide (x=l.getD x 0)) k)):=by
   show cnt (λ x=>decide (x=l.getD x 0)) k+(if decide (k=l.getD k 0)=true then 1 else 0)=_;by_cases hd:decide (k=l.getD k 0)=true
   ·rw[aP hd,aP hd]
   ·rw[aL hd,aL hd];rfl
  obtain⟨c,hc⟩:∃c,cnt (λ x=>decide (x=l.getD x 0)) k=c:=⟨_,rfl⟩;have HCC:=kd hc;rw[hc] at HC GV ⊢;clear hc;by_cases j6:k<n
  ·have AO:=HR.o.1.cell k (by rw[HR.o.2];exact j6)
   obtain⟨z,hz⟩:∃z,l.getD k 0=z:=⟨_,rfl⟩;rw[hz] at HC AO;clear hz;by_cases he:k=z
   ·as_aux_lemma=>
    subst he;have KY:Hid (cnt (λ x=>decide (x=l.getD x 0)) (k+1)=c+1):=by show cnt _ _=_;rw[HC.o];simp
    clear HC;go_wp2_with fail;go_roundw;case rel=>exact⟨k+1,by omega,by go_num,by rw[KY.o];go_num,trivial⟩
    case measure=>simp[intOf];omega
   ·as_aux_lemma=>
    have KY:Hid (cnt (λ x=>decide (x=l.getD x 0)) (k+1)=c):=by show cnt _ _=_;rw[HC.o];simp[he]
    have hq:((k:Int)==(z:Int))=false:=aH.2 (by omega);clear HC he;go_wp2_with fail;go_roundw;case rel=>exact⟨k+1,by omega,by go_num,by rw[KY.o],trivial⟩
    case measure=>simp[intOf];omega
  ·as_aux_lemma=>
   have CF:k=n:=by omega
   have HF:Hid (G8 n l=c):=by show G8 n l=c;rw[<-HCC.o,CF];rfl
   clear HC CF;go_wp2_with fail;go_ret;exact⟨by simp[HF.o],rfl⟩
def nP (n:Nat)(T:List Edg):Nat:=G8 n (lbl n T)
structure Bx (w:World) (B q n N:Nat) (u:Value) (R:List Edg) (bq bn:Nat):Prop where
 ga:G.GAt w B 40 61 q (n:Int) u R
 cq:w.cell? bq=some (.pointer q)
 cn:w.cell? bn=N
theorem Bx.below {w w':World}{B q n N:Nat}{u:Value}{R:List Edg}{bq bn:Nat}(h:Bx w B q n N u R bq bn)(hb:Below w w w'):Bx w' B q n N u R bq bn:=⟨h.ga.below hb,cell_below h.cq hb,cell_below h.cn hb⟩
theorem df (B q n N:Nat)(u:Value)(R:List Edg)(bq bn:Nat)(e:Edg)(s:Bool)(w:World)(h:Bx w B q n N u R bq bn)(hl:R.length<=120)(hn:n<=40)(p9:Inn n R)(hs:decide (nP n (rest R e)=N)=s):
 Calls prog 123 #[e.1,.pointer bq,.pointer bn] w λ en w'=>en= .returned (.bool s)/\Below w w w':=by
 obtain⟨x,hx⟩:∃x,e.1=x:=⟨_,rfl⟩;have HX:Hid (Bx w B q n N u R bq bn/\Inn n R/\e.1=x/\decide (nP n (rest R e)=N)=s):=⟨h,p9,hx,hs⟩;have EH:Hid (∀w',Below w w w'->w'.cell? bq=some (.pointer q)/\w'.cell? bn=N):=λ w' hb=>⟨(h.below hb).cq,(h.below hb).cn⟩
 have WA:Hid (Calls prog 58 #[.pointer q,.slice w 1 1,.slice none 0 0] (w.alloc (.cells #[x] 3)).drew λ e' w'=>∃q' v',e'=Value.pointer (some ⟨q',0,none⟩)/\G.GAt w' w 40 61 q' (n:Int) v' (rest R e)/\Below w w w'):=by
  subst hx;have j5:Below w w (w.alloc (.cells #[e.1] 3)).drew:=(b_).drew;have h1i:G.Ints (w.alloc (.cells #[e.1] 3)).drew (some ⟨w.heap.size,0,none⟩) 1 (λ _=>e.1):=(qo w e.1).below ((aI _ _).drew);refine(G.Du (n:Int) B q u R _ none 1 0 1 0 (λ _=>e.1) (λ _=>0) _ (h.ga.below j5) hl h1i (U5 _) (by omega) (by omega)).mono ?_;rintro e' w' ⟨q',v',rfl,hg',hb'⟩;rw[Xl R e] at hg';exact⟨q',v',rfl,⟨hg'.hp,hg'.row.mono j5.size,hg'.ne⟩,j5.tr hb'⟩
 have HSB:Hid ((((nP n (rest R e):Nat):Int)==(N:Int))=s):=by
  show _=_;rw[<-hs];rw[dV,bX,dQ];omega
 obtain⟨a1,a2⟩:=EH.o w (aI _ _);obtain⟨b1,b2⟩:=EH.o w.drew (aI _ _).drew;obtain⟨c1,c2⟩:=EH.o (w.alloc (.cells #[x] 3)) (b_);obtain⟨d1,d2⟩:=EH.o (w.alloc (.cells #[x] 3)).drew (b_).drew;rw[hx];clear h p9 hx hs;go_enter func123,ntmps123;go_upto_region 1 with fail
 go_region_law
  (first
    |(go_simp;go_at_call 58;refine aA WA.o ?_;rintro e' w2 ⟨q',v',rfl,AU,j5⟩;obtain⟨m1,m2⟩:=EH.o w2 j5;have GD:Hid (G.GAt w2 w 40 61 q' (n:Int) v' (rest R e)/\Below w w w2):=⟨AU,j5⟩;clear AU j5)
    |(go_simp;go_at_call 59;refine(Kg n w q' v' (rest R e) w2 GD.o.1 (aD (Tx _ _) hl) hn (O7 HX.o.2.1 _)).mono ?_;rintro e' w3 ⟨b,l,rfl,hr,EN,JH,BD,y8⟩;have CY:Hid (Below w w w3):=GD.o.2.tr y8;obtain⟨m3,m4⟩:=EH.o w3 CY.o;have DR:Hid (Aj w3 b l/\l.length=n/\G8 n l=nP n (rest R e)):=⟨hr,JH.len,by rw[Vs JH (O7 HX.o.2.1 _) BD];rfl⟩;clear hr EN BD y8 JH)
    |(go_simp;go_at_call 122;refine(Qs b n l w3 DR.o.1 DR.o.2.1 hn).mono ?_;rintro e' w4 ⟨rfl,NG⟩;subst NG;rw[DR.o.2.2]))
 all_goals
  go_wp2_with fail;go_ret;refine⟨?_,CY.o⟩;simp[Act.put,HSB.o]
theorem ztb (x y cw n base:Nat)(v:Value)(P:List (Nat × List Nat))(s:Bool)(w:World)(h:Dy w base cw n v P)(hp:0<P.length)(LW:P.length<=20000)(hx:x<n)(hy:y<n)(hs:s=true↔∀p∈P,p.2.getD x 0=p.2.getD y 0):
 Calls prog 74 #[x,y,.pointer cw] w λ e w'=>e=s/\∃n,w'=w.drewN n:=by
 have HH:=kd h;obtain⟨g,cap,rfl,AP⟩:=h.shape hp;have HC:=kd AP;have DT:w.cell? cw=some (.slice g P.length cap):=by simp[World.cell?,h.box]
 have HS:=kd hs;obtain⟨m,hm⟩:∃m,P.length=m:=⟨_,rfl⟩;have HM:=kd hm;rw[hm] at DT LW;clear h AP hs hm hp;go_enter func74,ntmps74;go_wp2_with fail;go_loopw [7,10] (λ _ s10 wq=>∃j:Nat,j<=m/\s10=j/\(∀i p,i<j->P[i]? =some p->p.2.getD x 0=p.2.getD y 0)/\∃q,wq=w.drewN q) (λ _ s10 _=>m-(intOf s10).toNat)
 case atStart=>exact⟨0,aN _,rfl,λ i p hi=>by omega,0,rfl⟩
 case round=>
  obtain⟨j,hj,rfl,y7,q,hq0⟩:=hrel;have HQ:=kd hq0;clear hq0;have WB:=kd y7;clear y7;by_cases j6:j<m
  ·obtain⟨⟨b,l⟩,YR⟩:∃p,P[j]? =some p:=⟨_,aB (by rw[HM.o];exact j6)⟩
   have HPJ:=kd YR;have o7:=HH.o.rows _ (aG YR);have c0:wr.cell? (g,j)=some (.slice b n n):=by rw[HQ.o];exact HC.o j (b,l) YR
   have cx:wr.cell? (b,x)=((l.getD x 0:Nat):Int):=by rw[HQ.o];exact o7.1.cell x (by rw[o7.2];exact hx)
   have cy:wr.cell? (b,y)=((l.getD y 0:Nat):Int):=by rw[HQ.o];exact o7.1.cell y (by rw[o7.2];exact hy)
   obtain⟨X,hX⟩:∃X,l.getD x 0=X:=⟨_,rfl⟩;obtain⟨Y,hY⟩:∃Y,l.getD y 0=Y:=⟨_,rfl⟩;rw[hX] at cx;rw[hY] at cy;have CJ:=kd (And.intro hX hY);clear hX hY YR o7 DT;by_cases BO:X=Y
   ·subst BO
    go_wp2_with fail;go_quiet (fail);clear c0 cx cy;go_wp2_with fail;go_roundw;case rel=>
     refine⟨j+1,by omega,by go_num,λ i p hi PK=>?_,q+nq,by rw[HQ.o,drewN_drewN]⟩;by_cases hij:i=j
     ·subst hij
      rw[HPJ.o] at PK;injection PK with PK
      rw[<-PK,CJ.o.1,CJ.o.2]
     ·exact WB.o i p (by omega) PK
    case measure=>simp[intOf];omega
   ·have hq:((X:Int)==(Y:Int))=false:=aH.2 (by omega)
    have HF:Hid (s=false):=by
     show s=false;cases s with
     |false=>rfl
     |true=>
      have:=HS.o.1 rfl (b,l) (aG HPJ.o);rw[CJ.o.1,CJ.o.2] at this;exact absurd this BO
    go_wp2_with fail;go_quiet (fail);clear c0 cx cy;go_wp2_with fail;go_ret;exact⟨by rw[HF.o];rfl,q+nq,by rw[HQ.o,drewN_drewN]⟩
  ·have CE:j=m:=by omega
   subst CE;have HF:Hid (s=true):=HS.o.2 (λ p hp=>by
    obtain⟨i,hi,PK⟩:=dD.1 hp;exact WB.o i p (by rw[<-HM.o];exact hi) (by rw[aB hi,PK]))
   go_wp2_with fail;go_ret;exact⟨by rw[HF.o];rfl,q,HQ.o⟩
def Says (n:Nat)(R:List (Int × Int × Int))(P:List (Nat × List Nat))(j:Nat):Prop:=
 ∀x y,x<n->y<n->((∀p∈P,p.2.getD x 0=p.2.getD y 0)↔(cnR R x y/\∀e∈R.take j,cnR (rest R e) x y))
theorem zfa {n b:Nat}{R:List (Int × Int × Int)}{l:List Nat}(h:∀u v,u<n->v<n->(l.getD u 0=l.getD v 0↔cnR R u v)):Says n R [(b,l)] 0:=by
 intro x y hx hy;simp only[aJ,forall_eq,kK,gD,false_implies,implies_true,lL];exact h x y hx hy
theorem zgh {n b j:Nat}{R:List (Int × Int × Int)}{l:List Nat}{P:List (Nat × List Nat)}{e:Int × Int × Int}(h:Says n R P j)(hj:R[j]? =some e)(hl:∀u v,u<n->v<n->(l.getD u 0=l.getD v 0↔cnR (rest R e) u v)):Says n R (P++[(b,l)]) (j+1):=by
 intro x y hx hy;have h1:=h x y hx hy;have h2:=hl x y hx hy;rw[bL,hj];simp only[jL,aK,aJ];constructor
 ·intro k
  have k1:=h1.1 (λ p hp=>k p (.inl hp));refine⟨k1.1,?_⟩;rintro d (hd|rfl)
  ·exact k1.2 d hd
  ·exact h2.1 (k (b,l) (.inr rfl))
 ·rintro⟨k1,k2⟩ p (hp|rfl)
  ·exact h1.2 ⟨k1,λ d hd=>k2 d (.inl hd)⟩ p hp
  ·exact h2.2 (k2 e (.inr rfl))
theorem zgl (n B q:Nat)(u:Value)(R:List (Int × Int × Int))(L:List Nat)(w:World)(h:G.GAt w B 40 61 q (n:Int) u R)(hl:R.length<=120)(hn:n<=40)(p9:Inn n R)(hg:Good n L)(hL:∀x y,x<n->y<n->(L.getD x 0=L.getD y 0↔(cnR R x y/\∀e∈R,cnR (rest R e) x y))):
 Calls prog 25 #[.pointer q] w (Dl w (Ar L n)):=by
 have HG:=kd h;have XO:=kd hL;have BG:=kd p9;have hmf':=hmf;obtain⟨i0,GJ,BR,BU,BM⟩:=info_parts Tryz.info48;obtain⟨m,hm⟩:∃m,m=R.length:=⟨_,rfl⟩;have HM:=kd hm;obtain⟨ua,uc,hv⟩:=h.row.Ap;rw[<-hm] at hv hl;have HV:=kd hv;clear h hL p9 hm hv;go_enter func25,ntmps25;go_wp2_with fail;refine(De n B q u R w HG.o (by rw[<-HM.o];exact hl) hn BG.o).mono ?_;rintro e w1 ⟨b0,l0,rfl,hr,hb,FK,BD,BH⟩;have HA0:Hid (Dy ((w1.alloc (.cells #[.slice b0 n n] 48)).alloc (.cells #[.slice w1 1 1] 51)) w1 (w1+1) n (.slice w1 1 1) [(b0,l0)]):=Vf (aF _) hr FK;have FQ:Hid (Says n R [(b0,l0)] 0):=zfa BD;have GG:Hid (Below w w ((w1.alloc (.cells #[.slice b0 n n] 48)).alloc (.cells #[.slice w1 1 1] 51))):=BH.trans ((Bt _ _ _).mono BH.size);have OD:=BH.size;have ET:=HG.o.below GG.o;have TF:((w1.alloc (.cells #[.slice b0 n n] 48)).alloc (.cells #[.slice w1 1 1] 51)).cell? (q,1)=some (.slice ua m uc):=by have:=ET.c1;rwa[HV.o] at this
 clear hr hb BD BH ET;go_wp2_with fail;go_loopw [5,14] (λ _ s14 wq=>∃(j:Nat) (v:Value) (P:List (Nat × List Nat)),j<=m/\s14=j/\P.length=j+1/\Dy wq w1 (w1+1) n v P/\Says n R P j/\Below w w wq) (λ _ s14 _=>m-(intOf s14).toNat)
 case atStart=>exact⟨0,_,_,aN _,rfl,rfl,HA0.o,FQ.o,GG.o⟩
 case round=>
  obtain⟨j,v,P,hj,rfl,TV,hA,hS,hb⟩:=hrel;have HA:=kd hA;have HS:=kd hS;have HB:=kd hb;have EI:=hb.size;clear hA hS hb HA0 FQ GG TF;by_cases j6:j<m
  ·obtain⟨⟨x0,x1,x2⟩,hx⟩:∃e,R[j]? =some e:=⟨_,aB (by rw[<-HM.o];exact j6)⟩
   have HX:=kd hx;obtain⟨g,MQ⟩:∃g,ua=some ⟨g,0,none⟩:=by
    rcases HG.o.row.shape with⟨_,e⟩|⟨g,cap,e,_⟩
    ·rw[e] at hx;simp at hx
    ·rw[HV.o] at e
     injection e with e1 _ _
     exact⟨g,e1⟩
   obtain⟨r0,r1,r2⟩:=(HG.o.below HB.o).row.at (g:=g) (by rw[HV.o,MQ];rfl) hx;simp only at r0 r1 r2;subst MQ;clear hx;obtain⟨W1,AJ⟩:∃W1,W1=wr.alloc (.cells #[x0,x1,x2] 61):=⟨_,rfl⟩;have hh:W1.heap[wr.heap.size]? =some (.cells #[x0,x1,x2] 61):=by rw[AJ];exact aQ wr _
   have BK:Below wr wr W1:=by rw[AJ];exact b_
   have CX:=kd hh;have CQ:Hid (Below w w W1):=HB.o.trans (BK.mono EI);have HAW:Hid (Dy W1 w1 (w1+1) n v P):=HA.o.below BK;have BQ:=kd AJ.symm;have BS:W1.heap.size=wr.heap.size+1:=by rw[AJ];simp
   have EH:Hid (∀w',Below W1 W1 w'->w'.cell? wr=x0/\w'.cell? (w1.heap.size+1:Nat)=some v/\Dy w' w1.heap.size (w1+1) n v P/\w'.heap[wr.heap.size]? =some (.cells #[x0,x1,x2] 61)):=λ w' hb=>by
    have h1:w'.heap[wr.heap.size]? =some (.cells #[x0,x1,x2] 61):=(hb.block _ (by omega)).trans CX.o;exact⟨by simp[World.cell?,h1],Sk (HAW.o.below hb).box,HAW.o.below hb,h1⟩
   have JP:w1.heap.size+1<W1.heap.size:=lt_of_some HAW.o.box;have WA:Hid (Calls prog 58 #[.pointer q,.slice (wr.heap.size+1:Nat) 1 1,.slice none 0 0] (W1.alloc (.cells #[x0] 3)).drew λ e w'=>∃q' v',e=Value.pointer (some ⟨q',0,none⟩)/\G.GAt w' W1 40 61 q' (n:Int) v' (rest R (x0,x1,x2))/\Below W1 W1 w'):=by
    have j5:Below W1 W1 (W1.alloc (.cells #[x0] 3)).drew:=(b_).drew;have hgW:=(HG.o.below CQ.o).below j5;have h1i:G.Ints (W1.alloc (.cells #[x0] 3)).drew (some ⟨wr.heap.size+1,0,none⟩) 1 (λ _=>x0):=by
     have:=qo W1 x0;rw[BS] at this;exact this.below ((aI _ _).drew)
    refine(G.Du (n:Int) B q u R _ none 1 0 1 0 (λ _=>x0) (λ _=>0) _ hgW (by rw[<-HM.o];omega) h1i (U5 _) (by omega) (by omega)).mono ?_;rintro e w' ⟨q',v',rfl,hg',hb'⟩;rw[Xl R (x0,x1,x2)] at hg';refine⟨q',v',rfl,⟨hg'.hp,hg'.row.mono ?_,hg'.ne⟩,j5.trans (hb'.mono ?_)⟩
    ·exact j5.size
    ·exact j5.size
   have GH:W1.drew.cell? wr=x0:=(EH.o W1 (aI _ _)).1;have CK:W1.drew.cell? (w1.heap.size+1:Nat)=some v:=(EH.o W1 (aI _ _)).2.1;have UW:(W1.alloc (.cells #[x0] 3)).drew.cell? (w1.heap.size+1:Nat)=some v:=(EH.o _ ((b_).drew)).2.1;have MG:W1.cell? (w1.heap.size+1:Nat)=some v:=CK;have hk5:(W1.alloc (.cells #[x0] 3)).cell? (w1.heap.size+1:Nat)=some v:=UW;clear hh BK AJ;go_upto_region 5 with fail
   rw[BQ.o]
   go_region_law
    (first
      |(obtain⟨v5,w5,AQ,BA,AL,_,_⟩:=run_append_own_at (P:=prog) (w3.alloc (.cells #[.slice b n n] 48)) w1 51 51 48 i0 (.slice none 0 0) 1 24 underlying51 GJ BR BU BM rfl (by decide) v P.length _ (QV.o.own.alloc _) w3 1 1 [.slice b n n] rfl (cell_one_new _ _ _) (Fv _ _ _) (by unfold maxLen;omega) (by omega) (by simp;omega)
        obtain⟨g5,cap5,rfl⟩:=Y9 BA (by omega);refine G.A7 rfl (.tmp 18) (.tmp 25) 51 51 rfl v (.slice w3 1 1) (by first|rfl|(simp[Act.eval];done)|(simp[Act.eval,Act.put];done)) (by first|rfl|(simp[Act.eval];done)|(simp[Act.eval,Act.put];done)) AQ ?_;obtain⟨hA5,c5,f5⟩:=QV.o.push DR.o.1 DR.o.2.1 BA AL)
      |(go_simp;go_at_call 58;refine aA WA.o ?_;rintro e' w2 ⟨q',v',rfl,AU,j5⟩;obtain⟨m1,m2,m3,m4⟩:=EH.o w2 j5;have GD:Hid (G.GAt w2 W1 40 61 q' (n:Int) v' (rest R (x0,x1,x2))/\Below W1 W1 w2):=⟨AU,j5⟩;clear AU j5 m3 m4)
      |(go_simp;go_at_call 59;refine(De n W1 q' v' (rest R (x0,x1,x2)) w2 GD.o.1 (aD (Tx _ _) (by rw[<-HM.o];exact hl)) hn (O7 BG.o _)).mono ?_;rintro e' w3 ⟨b,l,rfl,hr,EN,hll',BD,y8⟩;have CY:Hid (Below W1 W1 w3):=GD.o.2.tr y8;obtain⟨m5,m6,m7,m8⟩:=EH.o w3 CY.o;have m9:(w3.alloc (.cells #[.slice b n n] 48)).cell? (w1.heap.size+1:Nat)=some v:=(EH.o _ (CY.o.alloc CY.o.size _)).2.1;have QV:Hid (Dy w3 w1 (w1+1) n v P):=m7;have DR:Hid (Aj w3 b l/\l.length=n/\(∀u v,u<n->v<n->(l.getD u 0=l.getD v 0↔cnR (rest R (x0,x1,x2)) u v))):=⟨hr,hll',BD⟩;have OT:=CY.o.size;clear hr EN BD y8 m7 m8 hll'))
   all_goals
    have hF0:(Dy (w5.setCell (w1.heap.size+1:Nat) (.slice g5 (P.length+1) cap5)) w1 (w1+1) n (.slice g5 (P.length+1) cap5) (P++[(b,l)])/\Below w w (w5.setCell (w1.heap.size+1:Nat) (.slice g5 (P.length+1) cap5))):=by
     refine⟨hA5,?_⟩;have y8:Below w w w3:=CQ.o.tr CY.o;exact(y8.grown ((bR w3 _ _).trans AL) y8.size (λ j hj=>aD OD (QV.o.own.lt j hj).1)).setCell (show w.heap.size<=w1.heap.size+1 by omega) _
    rw[TV] at hF0;have HF:Hid _:=hF0;clear hA5 AL BA AQ c5 f5 hF0;go_wp2_with fail;go_roundw;case rel=>exact⟨j+1,_,P++[(b,l)],by omega,by go_num,by simp[TV],HF.o.1,zgh HS.o HX.o DR.o.2.2,HF.o.2⟩
    case measure=>simp[intOf];omega
  ·have CE:j=m:=by omega
   subst CE;have FR:=HG.o.below HB.o;have hc:=FR.c0;have ZL:Hid (Alike 74 wr n (w1+1) L):=by
    intro W' hW' x y s hx hy hs;refine ztb x y (w1+1) n w1.heap.size v P s W' (HA.o.below hW') (by omega) (by omega) hx hy ?_;have ht:R.take j=R:=aZ (by rw[<-HM.o];omega);have h1:=HS.o x y hx hy;rw[ht] at h1;rw[h1,<-XO.o x y hx hy,<-hs,bX];omega
   clear FR;go_wp2_with fail;refine(zbb n (w1+1) L wr ZL.o hg hn).mono ?_;rintro e w2 ⟨t,r,c,rfl,hP,j5⟩;have HF:Hid (Dl w (Ar L n) (.returned t) w2):=Nk hP j5 HB.o;clear hP j5;go_wp2;go_ret;exact HF.o
def Has (F:Nat->Nat)(k x:Nat):Prop:=∃j,j<k/\F j=x
theorem af (F:Nat->Nat)(x:Nat):¬Has F 0 x:=λ⟨_,h,_⟩=>by omega
theorem Gi {F:Nat->Nat}{k x:Nat}(h:F k=x):Has F (k+1) x:=⟨k,by omega,h⟩
theorem Ir {F:Nat->Nat}{k x:Nat}(h:Has F k x):Has F (k+1) x:=by
 obtain⟨j,h1,h2⟩:=h;exact⟨j,by omega,h2⟩
theorem G9 {F:Nat->Nat}{k x:Nat}(h:¬Has F k x)(hk:F k≠x):¬Has F (k+1) x:=by
 rintro⟨j,h1,h2⟩;by_cases hj:j=k
 ·subst hj;exact hk h2
 ·exact h ⟨j,by omega,h2⟩
def I4 (F:Nat->Nat)(k a b:Nat)(s9:Value):Prop:=
 (s9=(0:Int)/\¬Has F k a/\¬Has F k b)\/(s9=(1:Int)/\Has F k a/\¬Has F k b)\/(s9=(2:Int)/\¬Has F k a/\Has F k b)\/(s9=(3:Int)/\Has F k a/\Has F k b)
theorem zqo (ad:Option Addr)(c cap a b:Nat)(Gs:List (List Nat))(s:Bool)(w:World)(h:0<c->∃g,ad=some ⟨g,0,none⟩/\Ja w g Gs c)(hc:c<=1000)(IK:∀i,(Gs.getD i []).length<=1000)(hs:s=true↔∃i,i<c/\Has (λ j=>(Gs.getD i []).getD j 0) (Gs.getD i []).length a/\Has (λ j=>(Gs.getD i []).getD j 0) (Gs.getD i []).length b):
 Calls prog 28 #[.slice ad c cap,a,b] w λ e w'=>e=s/\w'=w:=by
 have HH:=(show Hid _ from h);have HS:=(show Hid _ from hs);clear h hs;go_enter func28,ntmps28;go_wp2_with fail;go_loopw [14] (λ s14 wq=>∃i:Nat,i<=c/\s14=i/\(∀i',i'<i->¬(Has (λ j=>(Gs.getD i' []).getD j 0) (Gs.getD i' []).length a/\Has (λ j=>(Gs.getD i' []).getD j 0) (Gs.getD i' []).length b))/\wq=w) (λ s14 _=>c-(intOf s14).toNat)
 case atStart=>exact⟨0,aN _,rfl,λ i' hi=>by omega,rfl⟩
 case round=>
  obtain⟨i,hi,rfl,AA,hw⟩:=hrel;subst hw;have DZ:=(show Hid _ from AA);clear AA;by_cases j6:i<c
  ·obtain⟨g,rfl,CP⟩:=HH.o (by omega)
   obtain⟨r,cp,c0,cells⟩:=CP i j6;have hgl':=IK i;obtain⟨gl,SQ⟩:∃gl,(Gs.getD i []).length=gl:=⟨_,rfl⟩;obtain⟨F,hF⟩:∃F,F=λ j=>(Gs.getD i []).getD j 0:=⟨_,rfl⟩
   have UM:=kd (And.intro SQ hF);have HC:Hid (∀j,j<gl->wr.cell? ⟨r,j,none⟩=((F j:Nat):Int)):=λ j hj=>by
    rw[hF];exact cells j (by rw[SQ];exact hj)
   rw[SQ] at c0 hgl';clear cells CP SQ hF;go_wp2_with fail;clear c0;go_loopw [9,20] (λ s9 s20 wq=>∃k:Nat,k<=gl/\s20=k/\I4 F k a b s9/\wq=wr) (λ _ s20 _=>gl-(intOf s20).toNat)
   case atStart=>exact⟨0,aN _,rfl,.inl ⟨rfl,af _ _,af _ _⟩,rfl⟩
   case round=>
    obtain⟨k,hk,rfl,p9,hw'⟩:=hrel;subst hw';by_cases hlt':k<gl
    ·have ck:=HC.o k hlt'
     obtain⟨z,hz⟩:∃z,F k=z:=⟨_,rfl⟩;have HZ:=kd hz;rw[hz] at ck;clear hz;by_cases hza:z=a <;> by_cases hzb:z=b
     ·subst hza
      subst hzb;have HF:Hid (I4 F (k+1) z z (3:Int)):=.inr (.inr (.inr ⟨rfl,Gi HZ.o,Gi HZ.o⟩));rcases p9 with⟨rfl,h1,h2⟩|⟨rfl,h1,h2⟩|⟨rfl,h1,h2⟩|⟨rfl,h1,h2⟩
      all_goals
       clear h1 h2;go_wp2_with fail;go_roundw;case rel=>exact⟨k+1,by omega,by go_num,HF.o,by first|trivial|rfl⟩
       case measure=>simp[intOf];omega
     ·subst hza
      have hq:((z:Int)==(b:Int))=false:=aH.2 (by omega);have l9:F k≠b:=by rw[HZ.o];exact hzb
      rcases p9 with⟨rfl,h1,h2⟩|⟨rfl,h1,h2⟩|⟨rfl,h1,h2⟩|⟨rfl,h1,h2⟩
      ·have HF:Hid (I4 F (k+1) z b (1:Int)):=.inr (.inl ⟨rfl,Gi HZ.o,G9 h2 l9⟩)
       clear h1 h2 l9;go_wp2_with fail;go_roundw;case rel=>exact⟨k+1,by omega,by go_num,HF.o,by first|trivial|rfl⟩
       case measure=>simp[intOf];omega
      ·have HF:Hid (I4 F (k+1) z b (1:Int)):=.inr (.inl ⟨rfl,Gi HZ.o,G9 h2 l9⟩)
       clear h1 h2 l9;go_wp2_with fail;go_roundw;case rel=>exact⟨k+1,by omega,by go_num,HF.o,by first|trivial|rfl⟩
       case measure=>simp[intOf];omega
      ·have HF:Hid (I4 F (k+1) z b (3:Int)):=.inr (.inr (.inr ⟨rfl,Gi HZ.o,Ir h2⟩))
       clear h1 h2 l9;go_wp2_with fail;go_roundw;case rel=>exact⟨k+1,by omega,by go_num,HF.o,by first|trivial|rfl⟩
       case measure=>simp[intOf];omega
      ·have HF:Hid (I4 F (k+1) z b (3:Int)):=.inr (.inr (.inr ⟨rfl,Gi HZ.o,Ir h2⟩))
       clear h1 h2 l9;go_wp2_with fail;go_roundw;case rel=>exact⟨k+1,by omega,by go_num,HF.o,by first|trivial|rfl⟩
       case measure=>simp[intOf];omega
     ·subst hzb
      have hq:((z:Int)==(a:Int))=false:=aH.2 (by omega);have l9:F k≠a:=by rw[HZ.o];exact hza
      rcases p9 with⟨rfl,h1,h2⟩|⟨rfl,h1,h2⟩|⟨rfl,h1,h2⟩|⟨rfl,h1,h2⟩
      ·have HF:Hid (I4 F (k+1) a z (2:Int)):=.inr (.inr (.inl ⟨rfl,G9 h1 l9,Gi HZ.o⟩))
       clear h1 h2 l9;go_wp2_with fail;go_roundw;case rel=>exact⟨k+1,by omega,by go_num,HF.o,by first|trivial|rfl⟩
       case measure=>simp[intOf];omega
      ·have HF:Hid (I4 F (k+1) a z (3:Int)):=.inr (.inr (.inr ⟨rfl,Ir h1,Gi HZ.o⟩))
       clear h1 h2 l9;go_wp2_with fail;go_roundw;case rel=>exact⟨k+1,by omega,by go_num,HF.o,by first|trivial|rfl⟩
       case measure=>simp[intOf];omega
      ·have HF:Hid (I4 F (k+1) a z (2:Int)):=.inr (.inr (.inl ⟨rfl,G9 h1 l9,Gi HZ.o⟩))
       clear h1 h2 l9;go_wp2_with fail;go_roundw;case rel=>exact⟨k+1,by omega,by go_num,HF.o,by first|trivial|rfl⟩
       case measure=>simp[intOf];omega
      ·have HF:Hid (I4 F (k+1) a z (3:Int)):=.inr (.inr (.inr ⟨rfl,Ir h1,Gi HZ.o⟩))
       clear h1 h2 l9;go_wp2_with fail;go_roundw;case rel=>exact⟨k+1,by omega,by go_num,HF.o,by first|trivial|rfl⟩
       case measure=>simp[intOf];omega
     ·have hq:((z:Int)==(a:Int))=false:=aH.2 (by omega)
      have hq2:((z:Int)==(b:Int))=false:=aH.2 (by omega);have l9:F k≠a:=by rw[HZ.o];exact hza
      have hne2:F k≠b:=by rw[HZ.o];exact hzb
      have HF:Hid (I4 F (k+1) a b u9):=by
       rcases p9 with⟨h0,h1,h2⟩|⟨h0,h1,h2⟩|⟨h0,h1,h2⟩|⟨h0,h1,h2⟩
       ·exact .inl ⟨h0,G9 h1 l9,G9 h2 hne2⟩
       ·exact .inr (.inl ⟨h0,Ir h1,G9 h2 hne2⟩)
       ·exact .inr (.inr (.inl ⟨h0,G9 h1 l9,Ir h2⟩))
       ·exact .inr (.inr (.inr ⟨h0,Ir h1,Ir h2⟩))
      clear p9 l9 hne2;go_wp2_with fail;go_roundw;case rel=>exact⟨k+1,by omega,by go_num,HF.o,by first|trivial|rfl⟩
      case measure=>simp[intOf];omega
    ·have CF:k=gl:=by omega
     subst CF;have NH:Hid (∀{i':Nat},i'<i+1->¬(Has F k a/\Has F k b)->¬(Has (λ j=>(Gs.getD i' []).getD j 0) (Gs.getD i' []).length a/\Has (λ j=>(Gs.getD i' []).getD j 0) (Gs.getD i' []).length b)):=λ {i'} hi' AA=>by
      by_cases he:i'=i
      ·subst he
       rw[<-UM.o.2,UM.o.1];exact AA
      ·exact DZ.o i' (by omega)
     rcases p9 with⟨rfl,h1,h2⟩|⟨rfl,h1,h2⟩|⟨rfl,h1,h2⟩|⟨rfl,h1,h2⟩
     ·have HN:Hid (¬(Has F k a/\Has F k b)):=λ k=>h1 k.1
      clear h1 h2;go_wp2_with fail;go_roundw;case rel=>exact⟨i+1,by omega,by go_num,λ i' hi'=>NH.o hi' HN.o,by first|trivial|rfl⟩
      case measure=>simp[intOf];omega
     ·have HN:Hid (¬(Has F k a/\Has F k b)):=λ k=>h2 k.2
      clear h1 h2;go_wp2_with fail;go_roundw;case rel=>exact⟨i+1,by omega,by go_num,λ i' hi'=>NH.o hi' HN.o,by first|trivial|rfl⟩
      case measure=>simp[intOf];omega
     ·have HN:Hid (¬(Has F k a/\Has F k b)):=λ k=>h1 k.1
      clear h1 h2;go_wp2_with fail;go_roundw;case rel=>exact⟨i+1,by omega,by go_num,λ i' hi'=>NH.o hi' HN.o,by first|trivial|rfl⟩
      case measure=>simp[intOf];omega
     ·have HF:Hid (s=true):=HS.o.2 ⟨i,j6,by rw[<-UM.o.2,UM.o.1];exact h1,by rw[<-UM.o.2,UM.o.1];exact h2⟩
      clear h1 h2;go_wp2_with fail;go_ret;exact⟨by rw[HF.o];rfl,rfl⟩
  ·have CR:i=c:=by omega
   subst CR;have HF:Hid (s=false):=by
    show s=false;cases s with
    |false=>rfl
    |true=>
     obtain⟨i',hi',h1⟩:=HS.o.1 rfl;exact absurd h1 (DZ.o i' hi')
   go_wp2_with fail;go_ret;exact⟨by rw[HF.o];rfl,rfl⟩
theorem zq9 {n:Nat}{L:List Nat}(g:Good n L){a b:Nat}(ha:a<n)(hb:b<n):
 L.getD a 0=L.getD b 0↔∃i,i<(Ar L n).length/\Has (λ j=>((Ar L n).getD i []).getD j 0) ((Ar L n).getD i []).length a/\Has (λ j=>((Ar L n).getD i []).getD j 0) ((Ar L n).getD i []).length b:=by
 have key:∀(K:List Nat) (x:Nat),Has (λ j=>K.getD j 0) K.length x↔x∈K:=by
  intro K x;constructor
  ·rintro⟨j,hj,rfl⟩
   simp[hj]
  ·intro hx
   obtain⟨j,hj,rfl⟩:=dD.1 hx;exact⟨j,hj,by simp[hj]⟩
 simp only[key];constructor
 ·intro e
  have j6:L.getD a 0<n:=dS (g.le a ha) ha;have hm:∀x,x<n->L.getD x 0=L.getD a 0->x∈grp L n (L.getD a 0):=λ x hx DK=>by
   unfold grp;rw[aO];exact⟨by simpa using hx,by simpa using DK⟩
  have hG:grp L n (L.getD a 0)∈Ar L n:=by
   unfold Ar;rw[aO];refine⟨aY.2 ⟨L.getD a 0,by simpa using j6,by rw[g.len]⟩,?_⟩;have:=hm a ha rfl;cases hh:grp L n (L.getD a 0) with
   |nil=>rw[hh] at this;simp at this
   |cons x xs=>rfl
  obtain⟨i,hi,CR⟩:=dD.1 hG;refine⟨i,hi,?_,?_⟩
  ·have:(Ar L n).getD i []=grp L n (L.getD a 0):=by simp[hi,CR]
   rw[this];exact hm a ha rfl
  ·have:(Ar L n).getD i []=grp L n (L.getD a 0):=by simp[hi,CR]
   rw[this];exact hm b hb e.symm
 ·rintro⟨i,hi,h1,h2⟩
  obtain⟨x,_,_,hx⟩:=zcw g i hi;rw[hx] at h1 h2;unfold grp at h1 h2;rw[aO] at h1 h2;have e1:L.getD a 0=x:=by simpa using h1.2
  have e2:L.getD b 0=x:=by simpa using h2.2
  rw[e1,e2]
end Go.Proofs.Y.S
