import Derived.Test.YtebcjaenhiiflaaGreatDoorQGSlGYd
import Derived.Test.YtebcjaenhiiflaaGreatDoorQGYe
set_option maxHeartbeats 4000000
set_option maxRecDepth 100000
namespace Go.Proofs.YtebcjaenhiiflaaGreatDoor.S
open Go.RowKit Go.WideMaps Go.Maps Go.Proofs.Tryz
def zak (w:World) (b:Nat) (l:List Nat):Prop:=w.heap[b]? =some (.cells (vals l) 3)
theorem zak.cell {w:World} {b:Nat} {l:List Nat} (h:zak w b l) (i:Nat) (hi:i<l.length):w.cell? ⟨b,i,none⟩=some (.int .i64 ((l.getD i 0:Nat):Int)):=by
 unfold zak at h;simp [World.cell?,h,vals,hi]
theorem zak.frozen {w:World} {b:Nat} {l:List Nat} (h:zak w b l) (i:Nat):w.frozen? ⟨b,i,none⟩=false:=by
 unfold zak at h;simp [World.frozen?,h]
theorem zak.lt {w:World} {b:Nat} {l:List Nat} (h:zak w b l):b<w.heap.size:=lt_of_some h
theorem zak.set {w:World} {b:Nat} {l:List Nat} (h:zak w b l) (k v:Nat):zak (w.setCell ⟨b,k,none⟩ (.int .i64 (v:Int))) b (l.set k v):=by
 unfold zak at h ⊢;rw [<-zpc];simp [World.setCell,Array.getElem?_modify,h]
theorem zak.below {w w':World} {b B:Nat} {l:List Nat} (h:zak w b l) (hb:Below B w w') (hl:b<B):zak w' b l:=(hb.block b hl).trans h
theorem zak.drewN {w:World} {b:Nat} {l:List Nat} (h:zak w b l) (n:Nat):zak (w.drewN n) b l:=h
theorem zak.alloc {w:World} {b:Nat} {l:List Nat} (h:zak w b l) (o:Obj):zak (w.alloc o) b l:=(Below.heap_alloc w o b h.lt).trans h
theorem zoo (w:World) (n:Nat):zak (w.alloc (.cells (madeCells #[.int .i64 0] n) 3)) w.heap.size (fill n 0):=by
 rw [zof];exact heap_alloc_new w _
theorem zno (k:Nat):(List.range k).sum<=k*k:=by
 induction k with
 | zero=>simp
 | succ k ih=>
   rw [List.range_succ,List.sum_append];simp only [List.sum_cons,List.sum_nil];have:(k+1)*(k+1)=k*k+2*k+1:=by rw [Nat.add_mul,Nat.mul_add];omega
   omega
def z8r (w:World) (n:Nat) (R:List (Int × Int × Int)) (e:Ending) (w':World):Prop:=
 ∃b l,e= .returned (.slice (some ⟨b,0,none⟩) n n)/\zak w' b l/\w.heap.size<=b/\l.length=n/\(∀u v,u<n->v<n->(l.getD u 0=l.getD v 0↔cnR R u v))/\Below w.heap.size w w'
def Inn (n:Nat) (R:List (Int × Int × Int)):Prop:=∀e∈R,ea e<n/\eb e<n/\e.2.1=(ea e:Int)/\e.2.2=(eb e:Int)
theorem z1m {n:Nat} {R:List (Int × Int × Int)} {l:List Nat} (h:Lab n R l) (hd:∀u v,u<n->v<n->(l.getD u 0=l.getD v 0↔cnR R u v)):Good n l:=
 ⟨h.1,λ i hi=>(h.2 i hi).1,λ i hi=>((hd i (l.getD i 0) hi (by have:=(h.2 i hi).1;omega)).2 (h.2 i hi).2).symm⟩
def zp0 (w:World) (n:Nat) (R:List (Int × Int × Int)) (e:Ending) (w':World):Prop:=
 ∃b l,e= .returned (.slice (some ⟨b,0,none⟩) n n)/\zak w' b l/\w.heap.size<=b/\Good n l/\(∀u v,u<n->v<n->(l.getD u 0=l.getD v 0↔cnR R u v))/\Below w.heap.size w w'
theorem zfc (n B q:Nat) (u:Value) (R:List (Int × Int × Int)) (w:World) (h:G.GAt w B 40 61 q (n:Int) u R) (hl:R.length<=120) (hn:n<=40) (hin:Inn n R):
 Calls prog 59 #[.pointer (some ⟨q,0,none⟩)] w (zp0 w n R):=by
 have hc:=h.c0;have hu1:=h.c1;have hqlt:=h.plt;have HG:=kd h;have HIN:=kd hin;obtain ⟨m,hm⟩:∃m,m=R.length:=⟨_,rfl⟩;have HM:=kd hm;obtain ⟨ua,uc,hv⟩:=h.row.zal;rw [<-hm] at hv hl;have HV:=kd hv;rw [hv] at hu1;have hmk:=λ W=>run_make_row' (P:=prog) 48 3 (.int .i64 0) 8 underlying48 Tryz.info3 rfl .i64 .i64 n (by omega) (by omega) W
 clear h hin hm hv;go_enter func59,ntmps59;go_wp2_with fail;go_loopw [4,16] (λ _ s16 wq=>∃k:Nat,k<=n/\s16= .int .i64 k/\zak wq w.heap.size (fill n k)/\Below w.heap.size w wq) (λ _ s16 _=>n-(intOf s16).toNat)
 case atStart=>exact ⟨0,Nat.zero_le _,rfl,zoo w n,(Below.refl _ _).alloc (Nat.le_refl _) _⟩
 case round=>
  obtain ⟨k,hk,rfl,hr,hb⟩:=hrel;clear hmk;by_cases hlt:k<n
  ·as_aux_lemma=>
   have hc1:=hr.cell k (by rw [zdv];exact hlt);have hf:=hr.frozen k;have HR:Hid (zak (wr.setCell ⟨w.heap.size,k,none⟩ (.int .i64 (k:Int))) w.heap.size (fill n (k+1))):=by
    have:=hr.set k k;rw [zi9] at this;exact this
   have HB:Hid (Below w.heap.size w (wr.setCell ⟨w.heap.size,k,none⟩ (.int .i64 (k:Int)))):=hb.setCell (Nat.le_refl _) _;clear hr hb;generalize (fill n k).getD k 0=z at hc1;go_wp2;go_roundw;case rel=>exact ⟨k+1,by omega,by go_num,HR.out,HB.out⟩
   case measure=>simp [intOf];omega
  ·have hke:k=n:=by omega
   subst hke;rw [zkl] at hr;have HR0:=kd hr;have HB0:=kd hb;clear hr hb;go_wp2_with fail;go_loopg [5] 10000 (λ r s5 wq=>∃l,Lab k R l/\zak wq w.heap.size l/\Below w.heap.size w wq/\((s5= .bool true/\l.sum<r)\/(s5= .bool false/\∀e∈R,l.getD (ea e) 0=l.getD (eb e) 0)))
   case atStart=>
    refine ⟨List.range k,zxf k R,HR0.out,HB0.out,.inl ⟨rfl,?_⟩⟩;have h1:=zno k;have h2:k*k<=40*40:=Nat.mul_le_mul hn hn;omega
   case round=>
    obtain ⟨l,hlab,hr,hb,hs⟩:=hrel;rcases hs with ⟨rfl,hsum⟩ | ⟨rfl,hall⟩
    ·have hg:=HG.out.below hb
     have HL:Hid (Lab k R l/\zak wr w.heap.size l/\Below w.heap.size w wr):=⟨hlab,hr,hb⟩;have hu2:wr.cell? ⟨q,1,none⟩=some (.slice ua m uc):=by have:=hg.c1;rwa [HV.out] at this
     clear hlab hr hb hg hc hu1 HR0 HB0;go_wp2_with fail;go_loopw [5,30] (λ s5 s30 wq=>∃(j:Nat) (l':List Nat),j<=m/\s30= .int .i64 j/\Lab k R l'/\zak wq w.heap.size l'/\Below w.heap.size w wq/\((s5= .bool false/\l'=l/\∀i e,i<j->R[i]? =some e->l.getD (ea e) 0=l.getD (eb e) 0)\/(s5= .bool true/\l'.sum<l.sum))) (λ _ s30 _=>m-(intOf s30).toNat)
     case atStart=>exact ⟨0,l,Nat.zero_le _,rfl,HL.out.1,HL.out.2.1,HL.out.2.2,.inl ⟨rfl,rfl,λ i e hi=>by omega⟩⟩
     case round=>
      obtain ⟨j,l',hj,rfl,hlab',hr',hb',hs'⟩:=hrel;by_cases hlt:j<m
      ·obtain ⟨⟨x0,x1,x2⟩,hx⟩:∃e,R[j]? =some e:=⟨_,List.getElem?_eq_getElem (by rw [<-HM.out];exact hlt)⟩
       obtain ⟨hA,hE,h1,h2⟩:=HIN.out _ (List.mem_of_getElem? hx);obtain ⟨g,hua⟩:∃g,ua=some ⟨g,0,none⟩:=by
        rcases HG.out.row.shape with ⟨_,e⟩ | ⟨g,cap,e,_⟩
        ·rw [e] at hx;simp at hx
        ·rw [HV.out] at e
         injection e with e1 _ _
         exact ⟨g,e1⟩
       obtain ⟨r0,r1,r2⟩:=(HG.out.below hb').row.at (g:=g) (by rw [HV.out,hua];rfl) hx;have HX:=kd hx;have HT:Hid (Lab k R (told l' (ea (x0,x1,x2)) (eb (x0,x1,x2)))):=z14 hlab' (List.mem_of_getElem? hx) hA hE;have HS':=kd hs';simp only at h1 h2 r0 r1 r2;generalize hAe:ea (x0,x1,x2)=A at*;generalize hEe:eb (x0,x1,x2)=E at*;have HAE:=kd (And.intro hAe hEe);clear hAe hEe hx hs';subst h1 h2;have hll:=hlab'.1;have cA:=hr'.cell A (by omega);have cE:=hr'.cell E (by omega);have HR:Hid (Lab k R l'/\zak wr w.heap.size l'/\Below w.heap.size w wr):=⟨hlab',hr',hb'⟩;have hbs:=hb'.size;clear hlab' hr' hb' HL;obtain ⟨X,hX⟩:∃X,l'.getD A 0=X:=⟨_,rfl⟩;obtain ⟨Y,hY⟩:∃Y,l'.getD E 0=Y:=⟨_,rfl⟩;rw [hX] at cA;rw [hY] at cE;have HXY:=kd (And.intro hX hY);clear hX hY;subst hua;obtain ⟨W1,hW1⟩:∃W1,W1=wr.alloc (.cells #[.int .i64 x0,.int .i64 (A:Int),.int .i64 (E:Int)] 61):=⟨_,rfl⟩;have hh:W1.heap[wr.heap.size]? =some (.cells #[.int .i64 x0,.int .i64 (A:Int),.int .i64 (E:Int)] 61):=by rw [hW1];exact heap_alloc_new wr _
       have p1:W1.cell? ⟨wr.heap.size,1,none⟩=some (.int .i64 (A:Int)):=by simp [World.cell?,hh]
       have p2:W1.cell? ⟨wr.heap.size,2,none⟩=some (.int .i64 (E:Int)):=by simp [World.cell?,hh]
       have HR1:Hid (zak W1 w.heap.size l'/\Below w.heap.size w W1):=⟨by rw [hW1];exact HR.out.2.1.alloc _,by rw [hW1];exact HR.out.2.2.alloc hbs _⟩;have hne:w.heap.size≠wr.heap.size:=Nat.ne_of_lt HR.out.2.1.lt;have HW1:=kd hW1.symm;have qA:W1.cell? ⟨w.heap.size,A,none⟩=some (.int .i64 (X:Int)):=by
        have:=HR1.out.1.cell A (by omega);rwa [HXY.out.1] at this
       have qE:W1.cell? ⟨w.heap.size,E,none⟩=some (.int .i64 (Y:Int)):=by
        have:=HR1.out.1.cell E (by omega);rwa [HXY.out.2] at this
       clear hh hW1 cA cE;rcases Nat.lt_trichotomy X Y with hxy | hxy | hxy
       ·as_aux_lemma=>
        have h1:(X:Int)<(Y:Int):=by omega
        have hq:((Y:Int)==(X:Int))=false:=beq_eq_false_iff_ne.2 (by omega);have HTD:Hid ((l'.set A X).set E X=told l' A E/\(told l' A E).sum<l'.sum):=by
         refine ⟨?_,zqo (by omega) (by omega) (by rw [HXY.out.1,HXY.out.2];omega)⟩;unfold told;rw [HXY.out.1,HXY.out.2,show min X Y=X by omega]
        have HYE:=kd HXY.out.2;have HNE:Hid (A≠E):=λ e=>by have h1:=HXY.out.1;have h2:=HXY.out.2;rw [e] at h1;omega
        have HSM:Hid (l'.sum<=l.sum):=by
         rcases HS'.out with ⟨_,rfl,_⟩ | ⟨_,h⟩
         ·exact Nat.le_refl _
         ·exact Nat.le_of_lt h
        clear HS' HX HAE HXY;go_wp2_with fail;rw [HW1.out];go_quiet (fail);have HV:Hid (zak (W1.drewN nq) w.heap.size l'/\Below w.heap.size w (W1.drewN nq)):=⟨HR1.out.1.drewN nq,below_drewN HR1.out.2 nq⟩;have s1:(W1.drewN nq).cell? ⟨wr.heap.size,1,none⟩=some (.int .i64 (A:Int)):=p1;have s2:(W1.drewN nq).cell? ⟨wr.heap.size,2,none⟩=some (.int .i64 (E:Int)):=p2;have s3:(W1.drewN nq).cell? ⟨w.heap.size,A,none⟩=some (.int .i64 (X:Int)):=qA;have s4:(W1.drewN nq).cell? ⟨w.heap.size,E,none⟩=some (.int .i64 (Y:Int)):=qE;clear p1 p2 qA qE;generalize W1.drewN nq=V at*;have hmin:min (X:Int) (Y:Int)=(X:Int):=by omega
        simp only [hmin];clear hmin;go_upto_region 15 with fail
        have hrd:zak V.drew w.heap.size l':=HV.out.1;have t1:V.drew.cell? ⟨wr.heap.size,1,none⟩=some (.int .i64 (A:Int)):=s1;have t2:V.drew.cell? ⟨wr.heap.size,2,none⟩=some (.int .i64 (E:Int)):=s2;have t3:V.drew.cell? ⟨w.heap.size,A,none⟩=some (.int .i64 (X:Int)):=s3;have f3:=hrd.frozen A;have hrs:=hrd.set A X;have t4:V.drew.cell? ⟨w.heap.size,E,none⟩=some (.int .i64 (Y:Int)):=s4;have f4:=hrd.frozen E;have f5:=hrs.frozen E;have t5:=hrs.cell E (by simp;omega);rw [show (l'.set A X).getD E 0=Y by rw [<-HYE.out];simp [HNE.out]] at t5;have t6:(V.setCell ⟨w.heap.size,A,none⟩ (.int .i64 (X:Int))).cell? ⟨w.heap.size,E,none⟩=some (.int .i64 (Y:Int)):=t5;have f6:(V.setCell ⟨w.heap.size,A,none⟩ (.int .i64 (X:Int))).frozen? ⟨w.heap.size,E,none⟩=false:=f5;have t7:(V.setCell ⟨w.heap.size,A,none⟩ (.int .i64 (X:Int))).drew.cell? ⟨w.heap.size,E,none⟩=some (.int .i64 (Y:Int)):=t5;have f7:(V.setCell ⟨w.heap.size,A,none⟩ (.int .i64 (X:Int))).drew.frozen? ⟨w.heap.size,E,none⟩=false:=f5;have hAE:¬A=E:=HNE.out;have hEA:¬E=A:=λ e=>HNE.out e.symm
        have HRT:Hid (zak ((V.drew.setCell ⟨w.heap.size,A,none⟩ (.int .i64 (X:Int))).setCell ⟨w.heap.size,E,none⟩ (.int .i64 (X:Int))) w.heap.size (told l' A E)/\Below w.heap.size w ((V.drew.setCell ⟨w.heap.size,A,none⟩ (.int .i64 (X:Int))).setCell ⟨w.heap.size,E,none⟩ (.int .i64 (X:Int)))):=by
         refine ⟨?_,(((HV.out.2.drew).setCell (Nat.le_refl _) _).setCell (Nat.le_refl _) _)⟩;rw [<-HTD.out.1];exact hrs.set E X
        clear hrd hrs hq h1;go_region_held (λ w'=>w'.cell? ⟨wr.heap.size,1,none⟩=some (.int .i64 (A:Int))/\w'.cell? ⟨wr.heap.size,2,none⟩=some (.int .i64 (E:Int))) (go_keep) (fail)
        all_goals
         go_wp2_with fail;go_roundw;case rel=>exact ⟨j+1,told l' A E,by omega,by go_num,HT.out,HRT.out.1,HRT.out.2,.inr ⟨rfl,by have:=HTD.out.2;have:=HSM.out;omega⟩⟩
         case measure=>simp [intOf];omega
       ·as_aux_lemma=>
        subst hxy;have HF:Hid (u5= .bool false/\l'=l/\(∀i e,i<j+1->R[i]? =some e->l.getD (ea e) 0=l.getD (eb e) 0)\/u5= .bool true/\l'.sum<l.sum):=by
         rcases HS'.out with ⟨h1,rfl,h3⟩ | h1
         ·refine .inl ⟨h1,rfl,λ i e hi he=>?_⟩
          by_cases hij:i=j
          ·subst hij
           have:e=(x0,(A:Int),(E:Int)):=by rw [HX.out] at he;injection he with he;exact he.symm
           rw [this,HAE.out.1,HAE.out.2,HXY.out.1,HXY.out.2]
          ·exact h3 i e (by omega) he
         ·exact .inr h1
        clear HT HS' HX HAE HXY;go_wp2_with fail;rw [HW1.out];go_quiet (fail);have HV:Hid (zak (W1.drewN nq) w.heap.size l'/\Below w.heap.size w (W1.drewN nq)):=⟨HR1.out.1.drewN nq,below_drewN HR1.out.2 nq⟩;have s1:(W1.drewN nq).cell? ⟨wr.heap.size,1,none⟩=some (.int .i64 (A:Int)):=p1;have s2:(W1.drewN nq).cell? ⟨wr.heap.size,2,none⟩=some (.int .i64 (E:Int)):=p2;have s3:(W1.drewN nq).cell? ⟨w.heap.size,A,none⟩=some (.int .i64 (X:Int)):=qA;have s4:(W1.drewN nq).cell? ⟨w.heap.size,E,none⟩=some (.int .i64 (X:Int)):=qE;clear p1 p2 qA qE;generalize W1.drewN nq=V at*;go_wp2_with fail;go_roundw;case rel=>exact ⟨j+1,l',by omega,by go_num,HR.out.1,HV.out.1,HV.out.2,HF.out⟩
        case measure=>simp [intOf];omega
       ·as_aux_lemma=>
        have h1:(Y:Int)<(X:Int):=by omega
        have hq:((X:Int)==(Y:Int))=false:=beq_eq_false_iff_ne.2 (by omega);have HTD:Hid ((l'.set A Y).set E Y=told l' A E/\(told l' A E).sum<l'.sum):=by
         refine ⟨?_,zqo (by omega) (by omega) (by rw [HXY.out.1,HXY.out.2];omega)⟩;unfold told;rw [HXY.out.1,HXY.out.2,show min X Y=Y by omega]
        have HYE:=kd HXY.out.2;have HNE:Hid (A≠E):=λ e=>by have h1:=HXY.out.1;have h2:=HXY.out.2;rw [e] at h1;omega
        have HSM:Hid (l'.sum<=l.sum):=by
         rcases HS'.out with ⟨_,rfl,_⟩ | ⟨_,h⟩
         ·exact Nat.le_refl _
         ·exact Nat.le_of_lt h
        clear HS' HX HAE HXY;go_wp2_with fail;rw [HW1.out];go_quiet (fail);have HV:Hid (zak (W1.drewN nq) w.heap.size l'/\Below w.heap.size w (W1.drewN nq)):=⟨HR1.out.1.drewN nq,below_drewN HR1.out.2 nq⟩;have s1:(W1.drewN nq).cell? ⟨wr.heap.size,1,none⟩=some (.int .i64 (A:Int)):=p1;have s2:(W1.drewN nq).cell? ⟨wr.heap.size,2,none⟩=some (.int .i64 (E:Int)):=p2;have s3:(W1.drewN nq).cell? ⟨w.heap.size,A,none⟩=some (.int .i64 (X:Int)):=qA;have s4:(W1.drewN nq).cell? ⟨w.heap.size,E,none⟩=some (.int .i64 (Y:Int)):=qE;clear p1 p2 qA qE;generalize W1.drewN nq=V at*;have hmin:min (X:Int) (Y:Int)=(Y:Int):=by omega
        simp only [hmin];clear hmin;go_upto_region 15 with fail
        have hrd:zak V.drew w.heap.size l':=HV.out.1;have t1:V.drew.cell? ⟨wr.heap.size,1,none⟩=some (.int .i64 (A:Int)):=s1;have t2:V.drew.cell? ⟨wr.heap.size,2,none⟩=some (.int .i64 (E:Int)):=s2;have t3:V.drew.cell? ⟨w.heap.size,A,none⟩=some (.int .i64 (X:Int)):=s3;have f3:=hrd.frozen A;have hrs:=hrd.set A Y;have t4:V.drew.cell? ⟨w.heap.size,E,none⟩=some (.int .i64 (Y:Int)):=s4;have f4:=hrd.frozen E;have f5:=hrs.frozen E;have t5:=hrs.cell E (by simp;omega);rw [show (l'.set A Y).getD E 0=Y by rw [<-HYE.out];simp [HNE.out]] at t5;have t6:(V.setCell ⟨w.heap.size,A,none⟩ (.int .i64 (Y:Int))).cell? ⟨w.heap.size,E,none⟩=some (.int .i64 (Y:Int)):=t5;have f6:(V.setCell ⟨w.heap.size,A,none⟩ (.int .i64 (Y:Int))).frozen? ⟨w.heap.size,E,none⟩=false:=f5;have t7:(V.setCell ⟨w.heap.size,A,none⟩ (.int .i64 (Y:Int))).drew.cell? ⟨w.heap.size,E,none⟩=some (.int .i64 (Y:Int)):=t5;have f7:(V.setCell ⟨w.heap.size,A,none⟩ (.int .i64 (Y:Int))).drew.frozen? ⟨w.heap.size,E,none⟩=false:=f5;have hAE:¬A=E:=HNE.out;have hEA:¬E=A:=λ e=>HNE.out e.symm
        have HRT:Hid (zak ((V.drew.setCell ⟨w.heap.size,A,none⟩ (.int .i64 (Y:Int))).setCell ⟨w.heap.size,E,none⟩ (.int .i64 (Y:Int))) w.heap.size (told l' A E)/\Below w.heap.size w ((V.drew.setCell ⟨w.heap.size,A,none⟩ (.int .i64 (Y:Int))).setCell ⟨w.heap.size,E,none⟩ (.int .i64 (Y:Int)))):=by
         refine ⟨?_,(((HV.out.2.drew).setCell (Nat.le_refl _) _).setCell (Nat.le_refl _) _)⟩;rw [<-HTD.out.1];exact hrs.set E Y
        clear hrd hrs hq h1;go_region_held (λ w'=>w'.cell? ⟨wr.heap.size,1,none⟩=some (.int .i64 (A:Int))/\w'.cell? ⟨wr.heap.size,2,none⟩=some (.int .i64 (E:Int))) (go_keep) (fail)
        all_goals
         go_wp2_with fail;go_roundw;case rel=>exact ⟨j+1,told l' A E,by omega,by go_num,HT.out,HRT.out.1,HRT.out.2,.inr ⟨rfl,by have:=HTD.out.2;have:=HSM.out;omega⟩⟩
         case measure=>simp [intOf];omega
      ·have hje:j=m:=by omega
       subst hje;rcases hs' with ⟨rfl,rfl,hall⟩ | ⟨rfl,hsum'⟩
       ·as_aux_lemma=>
        have HF:Hid (Lab k R l'/\zak wr w.heap.size l'/\Below w.heap.size w wr/\∀e∈R,l'.getD (ea e) 0=l'.getD (eb e) 0):=⟨hlab',hr',hb',λ e he=>by
         obtain ⟨i,hi,hie⟩:=List.mem_iff_getElem.1 he;exact hall i e (by rw [HM.out];exact hi) (by rw [List.getElem?_eq_getElem hi,hie])⟩
        clear hlab' hr' hb' hall HL;go_wp2_with fail;go_roundg (gk-1);case measure=>omega
        case rel=>exact ⟨l',HF.out.1,HF.out.2.1,HF.out.2.2.1,.inr ⟨rfl,HF.out.2.2.2⟩⟩
       ·as_aux_lemma=>
        have HF:Hid (Lab k R l'/\zak wr w.heap.size l'/\Below w.heap.size w wr):=⟨hlab',hr',hb'⟩;clear hlab' hr' hb' HL;go_wp2_with fail;go_roundg (l'.sum+1);case measure=>omega
        case rel=>exact ⟨l',HF.out.1,HF.out.2.1,HF.out.2.2,.inl ⟨rfl,by omega⟩⟩
    ·as_aux_lemma=>
     have HF:Hid (zp0 w k R (.returned (.slice (some ⟨w.heap.size,0,none⟩) k k)) wr):=
      ⟨_,l,rfl,hr,Nat.le_refl _,z1m hlab (λ u v hu hv=>zrb hlab (λ e he=>⟨(HIN.out e he).1,(HIN.out e he).2.1⟩) hall hu hv),λ u v hu hv=>zrb hlab (λ e he=>⟨(HIN.out e he).1,(HIN.out e he).2.1⟩) hall hu hv,hb⟩
     clear hr hb hlab hall;go_wp2_with fail;go_ret;exact HF.out
theorem zbk (n B q:Nat) (u:Value) (R:List (Int × Int × Int)) (w:World) (h:G.GAt w B 40 61 q (n:Int) u R) (hl:R.length<=120) (hn:n<=40) (hin:Inn n R):
 Calls prog 59 #[.pointer (some ⟨q,0,none⟩)] w (z8r w n R):=
 (zfc n B q u R w h hl hn hin).mono (λ _ _ ⟨b,l,he,hr,hb,hg,hd,hbl⟩=>⟨b,l,he,hr,hb,hg.1,hd,hbl⟩)
theorem z9v (x y cw bl n:Nat) (l:List Nat) (s:Bool) (w:World) (hc:w.cell? ⟨cw,0,none⟩=some (.slice (some ⟨bl,0,none⟩) n n)) (hr:zak w bl l) (hl:l.length=n) (hx:x<n) (hy:y<n) (hv:(((l.getD x 0:Nat):Int)==((l.getD y 0:Nat):Int))=s):
 Calls prog 73 #[.int .i64 (x:Int),.int .i64 (y:Int),.pointer (some ⟨cw,0,none⟩)] w λ e w'=>e= .returned (.bool s)/\∃n,w'=w.drewN n:=by
 have hcx:=hr.cell x (by omega);have hcy:=hr.cell y (by omega);clear hr;generalize l.getD x 0=X at*;generalize l.getD y 0=Y at*;go_enter func73,ntmps73;go_wp2_with fail;go_quiet (fail);clear hcx hcy hc;go_wp2_with fail;go_ret;exact ⟨by simp,_,rfl⟩
def zb9 (w:World) (Gs:List (List Nat)) (e:Ending) (w':World):Prop:=
 ∃a cap,e= .returned (.slice a Gs.length cap)/\(0<Gs.length->∃g,a=some ⟨g,0,none⟩/\zcf w' g Gs Gs.length)/\Below w.heap.size w w'
theorem zgy {w w1 w':World} {t:Value} {Gs:List (List Nat)} {r c:Nat->Nat} (h:za2 w' w1.heap.size t Gs r c) (hb:Below w1.heap.size w1 w') (h1:Below w.heap.size w w1):zb9 w Gs (.returned t) w':=by
 obtain ⟨a,cap,rfl,ha⟩:=h.shape;refine ⟨a,cap,rfl,λ hl=>?_,h1.trans (hb.mono h1.size)⟩;obtain ⟨g,rfl⟩:=ha hl;exact ⟨g,rfl,h.rows rfl⟩
theorem z2k {a b c d:Nat} (h:a=b↔c=d) {s:Bool} (hs:((c:Int)==(d:Int))=s):((a:Int)==(b:Int))=s:=by
 rw [<-hs];rw [Bool.eq_iff_iff,beq_iff_eq,beq_iff_eq];omega
theorem z0c (n B q:Nat) (u:Value) (R:List (Int × Int × Int)) (L:List Nat) (w:World) (h:G.GAt w B 40 61 q (n:Int) u R) (hl:R.length<=120) (hn:n<=40) (hin:Inn n R) (hg:Good n L) (hL:∀x y,x<n->y<n->(L.getD x 0=L.getD y 0↔cnR R x y)):
 Calls prog 24 #[.pointer (some ⟨q,0,none⟩)] w (zb9 w (zao L n)):=by
 have HG:=kd h;have HLL:=kd hL;have hmf':=hmf;clear h hL;go_enter func24,ntmps24;go_wp2_with fail;refine (zbk n B q u R w HG.out hl hn hin).mono ?_;rintro e w1 ⟨b,l,rfl,hr,hb,hll,hlab,hbl⟩;have hc:(w1.alloc (.cells #[.slice (some ⟨b,0,none⟩) n n] 48)).cell? ⟨q,0,none⟩=some (.int .i64 (n:Int)):=by
  rw [World.cell?_alloc_lt _ _ ⟨q,0,none⟩ (HG.out.below hbl).plt];exact (HG.out.below hbl).c0
 have hql:q<w1.heap.size:=(HG.out.below hbl).plt;have HX:=kd (And.intro hr hbl);have HAL:Hid (Alike 73 (w1.alloc (.cells #[.slice (some ⟨b,0,none⟩) n n] 48)) n w1.heap.size L):=by
  intro W' hW' x y s hx hy hs;have hrl:=hr.lt;refine z9v x y w1.heap.size b n l s W' ?_ ((hr.alloc _).below hW' (by simp;omega)) hll hx hy (z2k ?_ hs)
  ·rw [hW'.cell (p:=⟨w1.heap.size,0,none⟩) (by simp)];simp
  ·rw [hlab x y hx hy,HLL.out x y hx hy]
 clear hr hlab hbl;go_wp2_with fail;refine (zsh n w1.heap.size L _ HAL.out hg hn).mono ?_;rintro e w2 ⟨t,r,c,rfl,hP,hb2⟩;have HF:Hid (zb9 w (zao L n) (.returned t) w2):=zgy hP hb2 (HX.out.2.alloc HX.out.2.size _);clear hP hb2;go_wp2;go_ret;exact HF.out
theorem zna (R:List (Int × Int × Int)) (e:Int × Int × Int) (Fn:Nat->Int):R.filter (G.stays (λ _=>e.1) Fn 1 0)=rest R e:=by
 unfold rest;refine List.filter_congr (λ d _=>?_);have h1:G.among (λ _=>e.1) 1 d.1=decide (e.1=d.1):=by
  simp only [G.among,List.range_succ,List.range_zero,List.nil_append,List.any_cons,List.any_nil,Bool.or_false];exact Bool.eq_iff_iff.2 (by simp)
 have h2:∀x,G.among Fn 0 x=false:=λ x=>by simp [G.among]
 unfold G.stays;rw [h1,h2,h2];by_cases h:d.1=e.1
 ·simp [h]
 ·simp [h,Ne.symm h]
theorem zhp {n:Nat} {R:List (Int × Int × Int)} (h:Inn n R) (e:Int × Int × Int):Inn n (rest R e):=λ d hd=>h d (List.mem_filter.1 hd).1
theorem zke (R:List (Int × Int × Int)) (e:Int × Int × Int):(rest R e).length<=R.length:=List.length_filter_le _ _
theorem z1e {R B:List (Int × Int × Int)} {j:Nat} {e:Int × Int × Int} (hj:R[j]? =some e):zav (R.take (j+1)) B=zav (R.take j) B++if e∈B then [e.1] else []:=by
 unfold zav;rw [List.take_add_one,hj];simp only [Option.toList_some,List.filter_append,List.map_append];by_cases h:e∈B <;> simp [h]
theorem z8b (R B:List (Int × Int × Int)):(zav R B).length<=R.length:=by
 unfold zav;rw [List.length_map];exact List.length_filter_le _ _
theorem zq7 (w:World) (x:Int):G.Ints (w.alloc (.cells #[.int .i64 x] 3)) (some ⟨w.heap.size,0,none⟩) 1 (λ _=>x):=
 ⟨λ _=>⟨w.heap.size,0,rfl,λ t ht=>by
   have:t=0:=by omega
   subst this;simp⟩⟩
theorem zlq (w:World):G.Ints w none 0 (λ _=>0):=⟨λ h=>by omega⟩
theorem zsv {Bs:List (Int × Int × Int)} (n B q:Nat) (u:Value) (R L:List (Int × Int × Int)) (w:World) (h:G.GAt w B 40 61 q (n:Int) u R) (hi:G.Inv R L) (hl:L.length<=120) (hn:n<=40) (hin:Inn n L) (hbr:∀e∈L,(e∈Bs↔¬cnR (rest R e) (ea e) (eb e))):
 Calls prog 22 #[.pointer (some ⟨q,0,none⟩)] w λ e w'=>∃v,e= .returned v/\w'.ownsRow w.heap.size 3 1 v (zav L Bs).length ((zav L Bs).map (Value.int .i64))/\Below w.heap.size w w':=by
 have HG:=kd h;have HS:=kd hbr;have HIN:=kd hin;have HINR:Hid (Inn n R):=λ e he=>hin e (hi.perm.mem_iff.1 he)
 have HI:=kd hi;have hRL:R.length=L.length:=hi.perm.length_eq;obtain ⟨i0,hi0,hz0,hz1,hz2⟩:=info_parts Tryz.info3;clear h hin hbr hi;go_enter func22,ntmps22;go_wp2_with fail;refine (G.zer B q (n:Int) u R L w HG.out HI.out).mono ?_;rintro e w1 ⟨v,rfl,ho,hb1⟩;obtain ⟨m,hm⟩:∃m,m=L.length:=⟨_,rfl⟩;have HM:=kd hm;have HMR:Hid (m=R.length):=hm.trans hRL.symm;obtain ⟨va,vc,hv⟩:=ho.zal;rw [<-hm] at hv hl;have HV:=kd hv;have HO:=kd ho;have HB1:=kd hb1;subst hv;clear hm ho hb1 hRL;go_wp2_with fail;go_loopw [3,10] (λ s3 s10 wq=>∃j:Nat,j<=m/\s10= .int .i64 j/\wq.ownsRow w1.heap.size 3 1 s3 (zav (L.take j) Bs).length ((zav (L.take j) Bs).map (Value.int .i64))/\Below w1.heap.size w1 wq) (λ _ s10 _=>m-(intOf s10).toNat)
 case atStart=>exact ⟨0,Nat.zero_le _,rfl,World.ownsRow_nil _ _ _ _,Below.refl _ _⟩
 case round=>
  obtain ⟨j,hj,rfl,hrow,hb⟩:=hrel;by_cases hlt:j<m
  ·obtain ⟨⟨x0,x1,x2⟩,hx⟩:∃e,L[j]? =some e:=⟨_,List.getElem?_eq_getElem (by rw [<-HM.out];exact hlt)⟩
   have heR:=List.mem_of_getElem? hx;obtain ⟨hA,hE,h1,h2⟩:=HIN.out _ heR;obtain ⟨g,hva⟩:∃g,va=some ⟨g,0,none⟩:=by
    rcases HO.out.shape with ⟨_,e⟩ | ⟨g,cap,e,_⟩
    ·rw [e] at hx;simp at hx
    ·injection e with e1 _ _
     exact ⟨g,e1⟩
   subst hva;obtain ⟨r0,r1,r2⟩:=(HO.out.below hb).at (g:=g) rfl hx;have HST:Hid (zav (L.take (j+1)) Bs=zav (L.take j) Bs++if (x0,x1,x2)∈Bs then [x0] else []):=z1e hx;have HBR:Hid ((x0,x1,x2)∈Bs↔¬cnR (rest R (x0,x1,x2)) (ea (x0,x1,x2)) (eb (x0,x1,x2))):=HS.out _ heR;simp only at h1 h2 r0 r1 r2;generalize hAe:ea (x0,x1,x2)=A at*;generalize hEe:eb (x0,x1,x2)=E at*;clear hAe hEe;subst h1 h2;have HROW:=kd hrow;have HLEN:Hid ((zav (L.take j) Bs).length<=m):=by
    have h1:=z8b (L.take j) Bs;have h2:(L.take j).length<=j:=by simp;omega
    show (zav (L.take j) Bs).length<=m;omega
   have HB:=kd hb;have hbs:=hb.size;clear hrow hb hx;obtain ⟨W1,hW1⟩:∃W1,W1=wr.alloc (.cells #[.int .i64 x0,.int .i64 (A:Int),.int .i64 (E:Int)] 61):=⟨_,rfl⟩;have hh:W1.heap[wr.heap.size]? =some (.cells #[.int .i64 x0,.int .i64 (A:Int),.int .i64 (E:Int)] 61):=by rw [hW1];exact heap_alloc_new wr _
   have HBX:=kd hh;have p0:W1.cell? ⟨wr.heap.size,0,none⟩=some (.int .i64 x0):=by simp [World.cell?,hh]
   have HBW:Hid (Below w1.heap.size w1 W1):=by
    show Below w1.heap.size w1 W1;rw [hW1];exact HB.out.alloc hbs _
   have HRW:Hid (W1.ownsRow w1.heap.size 3 1 u3 (zav (L.take j) Bs).length ((zav (L.take j) Bs).map (Value.int .i64))):=by
    show W1.ownsRow _ _ _ _ _ _;rw [hW1];exact HROW.out.alloc _
   have HW1:=kd hW1.symm;have hW1s:wr.heap.size<W1.heap.size:=lt_of_some hh;have hsz:W1.heap.size=wr.heap.size+1:=by rw [hW1];simp
   clear hh hW1 HROW HB;have HWO:Hid (Calls prog 58 #[.pointer (some ⟨q,0,none⟩),.slice (some ⟨wr.heap.size+1,0,none⟩) 1 1,.slice none 0 0] (W1.alloc (.cells #[.int .i64 x0] 3)) λ e w'=>∃q' v',e= .returned (.pointer (some ⟨q',0,none⟩))/\G.GAt w' W1.heap.size 40 61 q' (n:Int) v' (rest R (x0,(A:Int),(E:Int)))/\Below W1.heap.size W1 w'):=by
    have hg:=(HG.out.below HB1.out).below HBW.out;have hb2:Below W1.heap.size W1 (W1.alloc (.cells #[.int .i64 x0] 3)):=(Below.refl _ _).alloc (Nat.le_refl _) _;have h1i:=zq7 W1 x0;rw [hsz] at h1i;refine (G.zbw (n:Int) B q u R _ none 1 0 1 0 (λ _=>x0) (λ _=>0) _ (hg.below hb2) (by rw [<-HMR.out];omega) h1i (zlq _) (by omega) (by omega)).mono ?_;rintro e w' ⟨q',v',rfl,hg',hb'⟩;rw [zna R (x0,(A:Int),(E:Int))] at hg';refine ⟨q',v',rfl,⟨hg'.hp,hg'.row.mono (by simp),hg'.ne⟩,hb2.trans (hb'.mono (by simp))⟩
   go_wp2_with fail;rw [HW1.out];refine Calls.mono HWO.out ?_;rintro e' w2 ⟨q',v',rfl,hg2,hb2⟩;have HG2:=kd (And.intro hg2 hb2);clear hg2 hb2 HWO p0;go_wp2_with fail;refine (zbk n W1.heap.size q' v' (rest R (x0,(A:Int),(E:Int))) w2 HG2.out.1 (Nat.le_trans (zke _ _) (by rw [<-HMR.out];exact hl)) hn (zhp HINR.out _)).mono ?_;rintro e' w3 ⟨b,l,rfl,hr,hbb,hll,hlab,hb3⟩;have hW3:Below W1.heap.size W1 w3:=HG2.out.2.trans (hb3.mono HG2.out.2.size);have HB3:Hid (Below w1.heap.size w1 w3):=HBW.out.trans (hW3.mono HBW.out.size);have HR3:Hid (w3.ownsRow w1.heap.size 3 1 u3 (zav (L.take j) Bs).length ((zav (L.take j) Bs).map (Value.int .i64))):=HRW.out.kept (zai hW3) (by cases u3.ownBlock <;> simp);have hh3:w3.heap[wr.heap.size]? =some (.cells #[.int .i64 x0,.int .i64 (A:Int),.int .i64 (E:Int)] 61):=(hW3.block _ hW1s).trans HBX.out;have c0:w3.cell? ⟨wr.heap.size,0,none⟩=some (.int .i64 x0):=by simp [World.cell?,hh3]
   have c1:w3.cell? ⟨wr.heap.size,1,none⟩=some (.int .i64 (A:Int)):=by simp [World.cell?,hh3]
   have c2:w3.cell? ⟨wr.heap.size,2,none⟩=some (.int .i64 (E:Int)):=by simp [World.cell?,hh3]
   have cA:=hr.cell A (by omega);have cE:=hr.cell E (by omega);have HXY:Hid ((x0,(A:Int),(E:Int))∈Bs↔l.getD A 0≠l.getD E 0):=by
    show _∈Bs↔_;rw [HBR.out,Ne,hlab A E hA hE]
   clear hr hbb hlab hb3 hW3 hh3 HBX HBW HRW HG2 HBR hW1s r0 r1 r2;generalize l.getD A 0=X at*;generalize l.getD E 0=Y at*;by_cases hxy:X=Y
   ·as_aux_lemma=>
    subst hxy;have HF:Hid (w3.ownsRow w1.heap.size 3 1 u3 (zav (L.take (j+1)) Bs).length ((zav (L.take (j+1)) Bs).map (Value.int .i64))):=by
     show w3.ownsRow _ _ _ _ _ _;rw [HST.out,if_neg (λ k=>(HXY.out.1 k) rfl),List.append_nil];exact HR3.out
    clear HST HXY HR3;go_wp2_with fail;go_quiet (fail);clear c0 c1 c2 cA cE;go_wp2_with fail;go_roundw;case rel=>exact ⟨j+1,by omega,by go_num,HF.out,below_drewN HB3.out nq⟩
    case measure=>simp [intOf];omega
   ·as_aux_lemma=>
    have HST':Hid (zav (L.take (j+1)) Bs=zav (L.take j) Bs++[x0]):=by
     show zav (L.take (j+1)) Bs=_;rw [HST.out,if_pos (HXY.out.2 hxy)]
    have hq:((X:Int)==(Y:Int))=false:=beq_eq_false_iff_ne.2 (by omega);have hlen:=HLEN.out;clear HST HXY;generalize zav (L.take j) Bs=K at*;go_wp2_with fail;go_quiet (fail);have d0:(w3.drewN nq).cell? ⟨wr.heap.size,0,none⟩=some (.int .i64 x0):=c0;have HD:Hid ((w3.drewN nq).ownsRow w1.heap.size 3 1 u3 K.length (K.map (Value.int .i64))/\Below w1.heap.size w1 (w3.drewN nq)):=⟨HR3.out,below_drewN HB3.out nq⟩;clear c0 c1 c2 cA cE HR3 HB3;generalize w3.drewN nq=V at*;have hrow:=HD.out.1;have hVs:=HD.out.2.size;have HLT:=hrow.lt;go_wp2_with (first
     | (at_builtin;refine wpList_append_own_at _ rfl _ _ 48 rfl w1.heap.size 3 i0 (.int .i64 0) 1 8 underlying48 hi0 hz0 hz1 hz2 rfl (by decide) u3 _ _ rfl (hrow.alloc _) ⟨V.heap.size,0,none⟩ 1 1 [.int .i64 x0] rfl rfl (cell_one_new _ _ _) (ints_oneCell .i64 [x0]) (by unfold maxLen;omega) (by omega) (by simp;omega) ?_;intro v'' w4 hown' hgrow hnil hloc)
     | fail)
    have HF:Hid (w4.ownsRow w1.heap.size 3 1 v'' (zav (L.take (j+1)) Bs).length ((zav (L.take (j+1)) Bs).map (Value.int .i64))):=by
     show w4.ownsRow _ _ _ _ _ _;rw [HST'.out]
     simpa using hown'
    go_roundw;case rel=>exact ⟨j+1,by omega,by go_num,HF.out,HD.out.2.grown ((World.grownBy_alloc V _ _).trans hgrow) hVs (λ j hj=>(HLT j hj).1)⟩
    case measure=>simp [intOf];omega
  ·have hje:j=m:=by omega
   subst hje;have HF:Hid (wr.ownsRow w.heap.size 3 1 u3 (zav L Bs).length ((zav L Bs).map (Value.int .i64))/\Below w.heap.size w wr):=by
    have ht:L.take j=L:=List.take_of_length_le (by rw [<-HM.out];omega);rw [ht] at hrow;exact ⟨ownsRow_base_a hrow HB1.out.size,HB1.out.trans (hb.mono HB1.out.size)⟩
   clear hrow hb;go_wp2_with fail;go_ret;exact ⟨_,rfl,HF.out⟩
structure zb5 (w:World) (base cw n:Nat) (v:Value) (P:List (Nat × List Nat)):Prop where
 own:w.ownsRow base 48 1 v P.length (P.map λ p=>.slice (some ⟨p.1,0,none⟩) n n)
 rows:∀p∈P,zak w p.1 p.2/\p.2.length=n
 box:w.heap[cw]? =some (.cells #[v] 51)
theorem zb5.below {w w':World} {base cw n:Nat} {v:Value} {P:List (Nat × List Nat)} (h:zb5 w base cw n v P) (hb:Below w.heap.size w w'):zb5 w' base cw n v P:=
 ⟨h.own.kept (zai hb) (by cases v.ownBlock <;> simp),λ p hp=>⟨(h.rows p hp).1.below hb (h.rows p hp).1.lt,(h.rows p hp).2⟩,(hb.block cw (lt_of_some h.box)).trans h.box⟩
theorem zb5.shape {w:World} {base cw n:Nat} {v:Value} {P:List (Nat × List Nat)} (h:zb5 w base cw n v P) (hp:0<P.length):∃g cap,v= .slice (some ⟨g,0,none⟩) P.length cap/\∀i p,P[i]? =some p->w.cell? ⟨g,i,none⟩=some (.slice (some ⟨p.1,0,none⟩) n n):=by
 have h0:=h.own;rcases h.own.2 with ⟨_,hz⟩ | ⟨g,cap,cur,rfl,_⟩
 ·omega
 ·refine ⟨g,cap,rfl,λ i p hi=>?_⟩
  rw [h0.cellAt i (by have:=(List.getElem?_eq_some_iff.1 hi).1;omega)];simp [hi]
theorem ziz {w:World} {base:Nat} {v:Value} {k:Nat} {xs:List Value} (h:w.ownsRow base 48 1 v k xs) {g:Nat} (hg:v.ownBlock=some g):∃cur,w.heap[g]? =some (.cells cur 48):=by
 rcases h.2 with ⟨rfl,_⟩ | ⟨g',cap,cur,rfl,_,hc,_⟩
 ·simp [Value.ownBlock] at hg
 ·simp [Value.ownBlock] at hg
  subst hg;exact ⟨_,hc⟩
theorem zb5.push {w w4:World} {base cw n b:Nat} {v v':Value} {P:List (Nat × List Nat)} {l:List Nat} {o:Obj} (h:zb5 w base cw n v P) (hr:zak w b l) (hl:l.length=n) (hown:w4.ownsRow base 48 1 v' (P.length+1) ((P.map λ p=>.slice (some ⟨p.1,0,none⟩) n n)++[.slice (some ⟨b,0,none⟩) n n]))
 (hg:(w.alloc o).grownBy w4 v.ownBlock):zb5 (w4.setCell ⟨cw,0,none⟩ v') base cw n v' (P++[(b,l)])/\w4.cell? ⟨cw,0,none⟩=some v/\w4.frozen? ⟨cw,0,none⟩=false:=by
 have hne:∀k,k<w.heap.size->(∀cur,w.heap[k]? ≠some (.cells cur 48))->w4.heap[k]? =w.heap[k]? :=by
  intro k hk hn;have h1:(w.alloc o).heap[k]? =w.heap[k]? :=Below.heap_alloc w o k hk;rw [hg.block k (by simp;omega) (λ e=>?_),h1];obtain ⟨cur,hc⟩:=ziz h.own e.symm;exact hn cur hc
 have hbox:w4.heap[cw]? =some (.cells #[v] 51):=(hne cw (lt_of_some h.box) (λ cur=>by rw [h.box];simp)).trans h.box;have hrow:∀p∈P++[(b,l)],zak w4 p.1 p.2/\p.2.length=n:=by
  intro p hp;have h1:zak w p.1 p.2/\p.2.length=n:=by
   rcases List.mem_append.1 hp with hp | hp
   ·exact h.rows p hp
   ·rw [List.mem_singleton.1 hp];exact ⟨hr,hl⟩
  exact ⟨(hne p.1 h1.1.lt (λ cur=>by rw [h1.1];simp)).trans h1.1,h1.2⟩
 refine ⟨⟨?_,?_,?_⟩,by simp [World.cell?,hbox],by simp [World.frozen?,hbox]⟩
 ·have hv:v'.ownBlock≠some cw:=by
   intro e;obtain ⟨cur,hc⟩:=ziz hown e;rw [hbox] at hc;simp at hc
  have e1:(P++[(b,l)]).length=P.length+1:=by simp
  have e2:((P++[(b,l)]).map λ p=>Value.slice (some ⟨p.1,0,none⟩) n n)=(P.map λ p=>.slice (some ⟨p.1,0,none⟩) n n)++[.slice (some ⟨b,0,none⟩) n n]:=by simp
  rw [e1,e2];refine hown.kept (row:=some cw) ⟨rfl,rfl,rfl,by simp,λ i _ hi=>Below.heap_setCell _ _ _ _ (λ e=>hi (by rw [e]))⟩ ?_;exact Or.inr hv
 ·intro p hp
  refine ⟨?_,(hrow p hp).2⟩;show (w4.setCell ⟨cw,0,none⟩ v').heap[p.1]? =_;rw [Below.heap_setCell _ _ _ _ (λ e=>?_)]
  ·exact (hrow p hp).1
  ·have:=(hrow p hp).1
   unfold zak at this;have e':p.1=cw:=e;rw [e',hbox] at this;simp at this
 ·simp [World.setCell,Array.getElem?_modify,hbox]
theorem z7l (x y cw n base:Nat) (v:Value) (P:List (Nat × List Nat)) (s:Bool) (w:World) (h:zb5 w base cw n v P) (hp:0<P.length) (hpl:P.length<=20000) (hx:x<n) (hy:y<n) (hs:s=true↔∀p∈P,p.2.getD x 0=p.2.getD y 0):
 Calls prog 124 #[.int .i64 (x:Int),.int .i64 (y:Int),.pointer (some ⟨cw,0,none⟩)] w λ e w'=>e= .returned (.bool s)/\∃n,w'=w.drewN n:=by
 have HH:=kd h;obtain ⟨g,cap,rfl,hcells⟩:=h.shape hp;have HC:=kd hcells;have hbox:w.cell? ⟨cw,0,none⟩=some (.slice (some ⟨g,0,none⟩) P.length cap):=by simp [World.cell?,h.box]
 have HS:=kd hs;obtain ⟨m,hm⟩:∃m,P.length=m:=⟨_,rfl⟩;have HM:=kd hm;rw [hm] at hbox hpl;clear h hcells hs hm hp;go_enter func124,ntmps124;go_wp2_with fail;go_loopw [7,10] (λ _ s10 wq=>∃j:Nat,j<=m/\s10= .int .i64 j/\(∀i p,i<j->P[i]? =some p->p.2.getD x 0=p.2.getD y 0)/\∃q,wq=w.drewN q) (λ _ s10 _=>m-(intOf s10).toNat)
 case atStart=>exact ⟨0,Nat.zero_le _,rfl,λ i p hi=>by omega,0,rfl⟩
 case round=>
  obtain ⟨j,hj,rfl,hall,q,hq0⟩:=hrel;have HQ:=kd hq0;clear hq0;have HALL:=kd hall;clear hall;by_cases hlt:j<m
  ·obtain ⟨⟨b,l⟩,hpj⟩:∃p,P[j]? =some p:=⟨_,List.getElem?_eq_getElem (by rw [HM.out];exact hlt)⟩
   have HPJ:=kd hpj;have hrow:=HH.out.rows _ (List.mem_of_getElem? hpj);have c0:wr.cell? ⟨g,j,none⟩=some (.slice (some ⟨b,0,none⟩) n n):=by rw [HQ.out];exact HC.out j (b,l) hpj
   have cx:wr.cell? ⟨b,x,none⟩=some (.int .i64 ((l.getD x 0:Nat):Int)):=by rw [HQ.out];exact hrow.1.cell x (by rw [hrow.2];exact hx)
   have cy:wr.cell? ⟨b,y,none⟩=some (.int .i64 ((l.getD y 0:Nat):Int)):=by rw [HQ.out];exact hrow.1.cell y (by rw [hrow.2];exact hy)
   obtain ⟨X,hX⟩:∃X,l.getD x 0=X:=⟨_,rfl⟩;obtain ⟨Y,hY⟩:∃Y,l.getD y 0=Y:=⟨_,rfl⟩;rw [hX] at cx;rw [hY] at cy;have HXY:=kd (And.intro hX hY);clear hX hY hpj hrow hbox;by_cases hxy:X=Y
   ·subst hxy
    go_wp2_with fail;go_quiet (fail);clear c0 cx cy;go_wp2_with fail;go_roundw;case rel=>
     refine ⟨j+1,by omega,by go_num,λ i p hi hpi=>?_,q+nq,by rw [HQ.out,drewN_drewN]⟩;by_cases hij:i=j
     ·subst hij
      rw [HPJ.out] at hpi;injection hpi with hpi
      rw [<-hpi,HXY.out.1,HXY.out.2]
     ·exact HALL.out i p (by omega) hpi
    case measure=>simp [intOf];omega
   ·have hq:((X:Int)==(Y:Int))=false:=beq_eq_false_iff_ne.2 (by omega)
    have HF:Hid (s=false):=by
     show s=false;cases s with
     | false=>rfl
     | true=>
       have:=HS.out.1 rfl (b,l) (List.mem_of_getElem? HPJ.out);rw [HXY.out.1,HXY.out.2] at this;exact absurd this hxy
    go_wp2_with fail;go_quiet (fail);clear c0 cx cy;go_wp2_with fail;go_ret;exact ⟨by rw [HF.out];rfl,q+nq,by rw [HQ.out,drewN_drewN]⟩
  ·have hje:j=m:=by omega
   subst hje;have HF:Hid (s=true):=HS.out.2 (λ p hp=>by
    obtain ⟨i,hi,hpi⟩:=List.mem_iff_getElem.1 hp;exact HALL.out i p (by rw [<-HM.out];exact hi) (by rw [List.getElem?_eq_getElem hi,hpi]))
   go_wp2_with fail;go_ret;exact ⟨by rw [HF.out];rfl,q,HQ.out⟩
open Go.RowKit Go.WideMaps Go.Maps
section
variable {ι α:Type} {a b:ι->α} {T O:ι->Prop} {x y z e f o:ι} {u v w:α}
structure zc3 (a b:ι->α) (T O:ι->Prop):Prop where
 tree:∀f,T f->¬cn a b (but T f) (a f) (b f)
 rest:∀o,O o->cn a b T (a o) (b o)
 apart:∀f,T f->¬O f
def un (T O:ι->Prop):ι->Prop:=λ e=>T e\/O e
def cov (a b:ι->α) (T:ι->Prop) (f o:ι):Prop:=(T f/\¬cn a b (but T f) (a o) (b o))\/(¬T f/\f=o)
theorem zc3.own (h:zc3 a b T O) (ho:O o):cov a b T o o:=.inr ⟨λ ht=>h.apart o ht ho,rfl⟩
theorem zc3.side (h:zc3 a b T O) (hx:T x) (k1:cn a b T u v) (k2:cn a b T v w) (n1:¬cn a b (but T x) u v) (n2:¬cn a b (but T x) v w):cn a b (but T x) u w:=by
 have hb:=h.tree x hx;rcases zcx x k1 with h1 | ⟨h1,h2⟩ | ⟨h1,h2⟩
 ·exact absurd h1 n1
 ·rcases zcx x k2 with g1 | ⟨g1,g2⟩ | ⟨g1,g2⟩
  ·exact absurd g1 n2
  ·exact absurd (zac (zaa h2 g1)) hb
  ·exact zaa h1 g2
 ·rcases zcx x k2 with g1 | ⟨g1,g2⟩ | ⟨g1,g2⟩
  ·exact absurd g1 n2
  ·exact zaa h1 g2
  ·exact absurd (zaa h2 g1) hb
theorem zc3.bridge (h:zc3 a b T O) (hf:un T O f):br a b (un T O) f↔∀o,O o->¬cov a b T f o:=by
 by_cases ht:T f
 ·constructor
  ·rintro hb o ho (⟨_,hc⟩ | ⟨hn,_⟩)
   ·refine hb.2 ?_
    have hne:o≠f:=λ e=>h.apart f ht (e▸ho)
    have sub:∀{p q},cn a b (but T f) p q->cn a b (but (un T O) f) p q:=λ k=>za4 k λ e he=>⟨.inl he.1,he.2⟩
    have hoe:cn a b (but (un T O) f) (a o) (b o):=zaj ⟨.inr ho,hne⟩;rcases zcx f (h.rest o ho) with k | ⟨k1,k2⟩ | ⟨k1,k2⟩
    ·exact absurd k hc
    ·exact zaa (zac (sub k1)) (zaa hoe (zac (sub k2)))
    ·exact zaa (sub k2) (zaa (zac hoe) (sub k1))
   ·exact hn ht
  ·intro hall
   refine ⟨hf,λ k=>h.tree f ht (zf1 k ?_)⟩;rintro e ⟨he | he,hne⟩
   ·exact zaj ⟨he,hne⟩
   ·exact Classical.byContradiction λ hc=>hall e he (.inl ⟨ht,hc⟩)
 ·have ho:O f:=hf.resolve_left ht
  constructor
  ·intro hb
   refine absurd (za4 (h.rest f ho) λ e he=>?_) hb.2;exact ⟨.inl he,λ e'=>ht (e'▸he)⟩
  ·intro hall
   exact absurd (h.own ho) (hall f ho)
theorem zck (T:ι->Prop) (x y:ι):but (but T x) y=but (but T y) x:=by
 funext e;apply propext
 exact ⟨λ ⟨⟨h1,h2⟩,h3⟩=>⟨⟨h1,h3⟩,h2⟩,λ ⟨⟨h1,h2⟩,h3⟩=>⟨⟨h1,h3⟩,h2⟩⟩
theorem ze7 {G:ι->Prop} (hx:G x->cn a b (but G x) (a x) (b x)) (k:cn a b G u v):cn a b (but G x) u v:=by
 refine zf1 k λ e he=>?_
 by_cases hex:e=x
 ·subst hex;exact hx he
 ·exact zaj ⟨he,hex⟩
theorem zld {G:ι->Prop} (h:¬br a b G x) (hx:G x):cn a b (but G x) (a x) (b x):=Classical.byContradiction λ k=>h ⟨hx,k⟩
theorem znj {G:ι->Prop} (hx:G x) (hy:G y) (hne:x≠y) (ny:¬br a b G y) (h:br a b (but G x) y):br a b (but G y) x:=by
 refine ⟨⟨hx,hne⟩,λ k=>h.2 ?_⟩;rw [zck];exact ze7 (λ _=>k) (zld ny hy)
theorem zc3.pair (h:zc3 a b T O) (hx:un T O x) (hy:un T O y) (hne:x≠y) (nx:¬br a b (un T O) x) (ny:¬br a b (un T O) y):
 br a b (but (un T O) x) y↔∀o,O o->(cov a b T x o↔cov a b T y o):=by
 have mixed:∀{x y:ι},O x->T y->x≠y->¬br a b (un T O) y->(br a b (but (un T O) x) y↔∀o,O o->(cov a b T x o↔cov a b T y o)):=by
  intro x y ox ty hne ny;have hb:br a b (but (un T O) x) y↔∀o,O o->o≠x->¬cov a b T y o:=by
   have hF:zc3 a b T (but O x):=⟨h.tree,λ o ho=>h.rest o ho.1,λ f hf ho=>h.apart f hf ho.1⟩;have e:but (un T O) x=un T (but O x):=by
    funext e;apply propext
    constructor
    ·rintro ⟨h1 | h1,h2⟩
     ·exact .inl h1
     ·exact .inr ⟨h1,h2⟩
    ·rintro (h1 | ⟨h1,h2⟩)
     ·exact ⟨.inl h1,λ k=>h.apart e h1 (k▸ox)⟩
     ·exact ⟨.inr h1,h2⟩
   rw [e,hF.bridge (.inl ty)];exact ⟨λ k o ho hn=>k o ⟨ho,hn⟩,λ k o ho=>k o ho.1 ho.2⟩
  have hxo:∀o,cov a b T x o↔x=o:=λ o=>by
   have:¬T x:=λ k=>h.apart x k ox
   simp [cov,this]
  rw [hb];constructor
  ·intro k o ho
   rw [hxo];have only:∀o',O o'->cov a b T y o'->o'=x:=λ o' ho' hc=>Classical.byContradiction λ hn=>k o' ho' hn hc
   constructor
   ·rintro rfl
    obtain ⟨o',ho',hc⟩:∃o',O o'/\cov a b T y o':=Classical.byContradiction λ hn=>ny ((h.bridge (.inl ty)).2 λ o' ho' hc=>hn ⟨o',ho',hc⟩)
    rw [only o' ho' hc] at hc;exact hc
   ·intro hc;exact (only o ho hc).symm
  ·intro k o ho hn hc
   exact hn ((hxo o).1 ((k o ho).2 hc)).symm
 by_cases tx:T x
 ·by_cases ty:T y
  ·have K1:∀{p q},cn a b (but (but T x) y) p q->cn a b (but (but (un T O) x) y) p q:=λ k=>za4 k λ e he=>⟨⟨.inl he.1.1,he.1.2⟩,he.2⟩
   have hoin:∀o,O o->cn a b (but (but (un T O) x) y) (a o) (b o):=λ o ho=>zaj ⟨⟨.inr ho,λ e=>h.apart x tx (e▸ho)⟩,λ e=>h.apart y ty (e▸ho)⟩
   have tie:∀{x y:ι},T x->T y->(∀{p q},cn a b (but (but T x) y) p q->cn a b (but (but (un T O) x) y) p q)->(∀o,O o->cn a b (but (but (un T O) x) y) (a o) (b o))->∀o,O o->cov a b T x o->¬cov a b T y o->x≠y->cn a b (but (but (un T O) x) y) (a x) (b x):=by
    intro x y tx ty K1 hoin o ho hc hn hne;have k1:¬cn a b (but T x) (a o) (b o):=by
     rcases hc with ⟨_,k⟩ | ⟨k,_⟩
     ·exact k
     ·exact absurd tx k
    have k2:cn a b (but T y) (a o) (b o):=Classical.byContradiction λ k=>hn (.inl ⟨ty,k⟩)
    rcases zcx x k2 with k | ⟨p1,p2⟩ | ⟨p1,p2⟩
    ·rw [zck] at k
     exact absurd (zb7 k) k1
    ·rw [zck] at p1 p2
     exact zaa (zac (K1 p1)) (zaa (hoin o ho) (zac (K1 p2)))
    ·rw [zck] at p1 p2
     exact zaa (K1 p2) (zaa (zac (hoin o ho)) (K1 p1))
   constructor
   ·intro hb o ho
    constructor
    ·intro hc
     refine Classical.byContradiction λ hn=>hb.2 ?_
     have hxx:=tie tx ty K1 hoin o ho hc hn hne;rw [zck] at hxx ⊢;exact ze7 (λ _=>hxx) (zld ny hy)
    ·intro hc
     refine Classical.byContradiction λ hn=>hb.2 ?_
     have:=tie (x:=y) (y:=x) ty tx (λ k=>by rw [zck] at k ⊢;exact K1 k) (λ o ho=>by rw [zck];exact hoin o ho) o ho hc hn (λ e=>hne e.symm);rw [zck] at this;exact this
   ·intro hall
    refine ⟨⟨hy,λ e=>hne e.symm⟩,λ k=>?_⟩;have Q:=zae.least (P:=λ p q=>cn a b T p q/\(cn a b (but T x) p q↔cn a b (but T y) p q)) k (λ p=>⟨zaw p,⟨λ _=>zaw p,λ _=>zaw p⟩⟩) ?_ ?_ ?_
    ·have e1:cn a b (but T x) (a y) (b y):=zaj ⟨ty,λ e=>hne e.symm⟩
     exact h.tree y ty (Q.2.1 e1)
    ·rintro p q ⟨h1,h2⟩
     exact ⟨zac h1,⟨λ k=>zac (h2.1 (zac k)),λ k=>zac (h2.2 (zac k))⟩⟩
    ·rintro p q r ⟨h1,h2⟩ ⟨g1,g2⟩
     refine ⟨zaa h1 g1,?_⟩;by_cases c1:cn a b (but T x) p q
     ·have c1':=h2.1 c1
      by_cases c2:cn a b (but T x) q r
      ·have c2':=g2.1 c2
       exact ⟨λ _=>zaa c1' c2',λ _=>zaa c1 c2⟩
      ·have c2':¬cn a b (but T y) q r:=λ k=>c2 (g2.2 k)
       exact ⟨λ k=>absurd (zaa (zac c1) k) c2,λ k=>absurd (zaa (zac c1') k) c2'⟩
     ·have c1':¬cn a b (but T y) p q:=λ k=>c1 (h2.2 k)
      by_cases c2:cn a b (but T x) q r
      ·have c2':=g2.1 c2
       exact ⟨λ k=>absurd (zaa k (zac c2)) c1,λ k=>absurd (zaa k (zac c2')) c1'⟩
      ·have c2':¬cn a b (but T y) q r:=λ k=>c2 (g2.2 k)
       exact ⟨λ _=>h.side ty h1 g1 c1' c2',λ _=>h.side tx h1 g1 c1 c2⟩
    ·rintro p q ⟨e,⟨⟨he | he,h1⟩,h2⟩,rfl,rfl⟩
     ·exact ⟨zaj he,⟨λ _=>zaj ⟨he,h2⟩,λ _=>zaj ⟨he,h1⟩⟩⟩
     ·refine ⟨h.rest e he,?_⟩
      have:=hall e he;have ex:cov a b T x e↔¬cn a b (but T x) (a e) (b e):=by simp [cov,tx]
      have ey:cov a b T y e↔¬cn a b (but T y) (a e) (b e):=by simp [cov,ty]
      rw [ex,ey] at this;exact ⟨λ ha=>Classical.byContradiction λ nb=>this.2 nb ha,λ hb=>Classical.byContradiction λ na=>this.1 na hb⟩
  ·have oy:O y:=hy.resolve_left ty
   have:=mixed (x:=y) (y:=x) oy tx (λ e=>hne e.symm) nx;constructor
   ·intro hb o ho
    exact (this.1 (znj hx hy hne ny hb) o ho).symm
   ·intro hall
    exact znj hy hx (λ e=>hne e.symm) nx (this.2 λ o ho=>(hall o ho).symm)
 ·have ox:O x:=hx.resolve_left tx
  by_cases ty:T y
  ·exact mixed ox ty hne ny
  ·have oy:O y:=hy.resolve_left ty
   constructor
   ·intro hb
    refine absurd (za4 (h.rest y oy) λ e he=>?_) hb.2;exact ⟨⟨.inl he,λ k=>tx (k▸he)⟩,λ k=>ty (k▸he)⟩
   ·intro hall
    have:=(hall x ox).1 (h.own ox);rcases this with ⟨k,_⟩ | ⟨_,k⟩
    ·exact absurd k ty
    ·exact absurd k.symm hne
def zfh (a b:ι->α) (T O:ι->Prop) (x y:ι):Prop:=∀o,O o->(cov a b T x o↔cov a b T y o)
theorem zc3.thrice (h:zc3 a b T O) (N:List ι) (hN:∀e,e∈N↔un T O e):
 (∀e,un T O e->cn a b (λ d=>un T O d/\¬zfh a b T O e d) u v)↔∀e f,un T O e->un T O f->cn a b (but (but (un T O) e) f) u v:=by
 have mono2:∀{e f:ι},cn a b (but (but (un T O) e) f) u v->cn a b (but (un T O) e) u v:=λ k=>zb7 k
 constructor
 ·intro hall e f he hf
  have ce:=hall e he;by_cases hal:zfh a b T O e f
  ·refine za4 ce λ d hd=>⟨⟨hd.1,λ k=>hd.2 ?_⟩,λ k=>hd.2 ?_⟩
   ·rw [k];exact λ o _=>Iff.rfl
   ·rw [k];exact hal
  ·have hef:e≠f:=λ k=>hal (k▸λ o _=>Iff.rfl)
   have c1:cn a b (but (un T O) e) u v:=za4 ce λ d hd=>⟨hd.1,λ k=>hd.2 (k▸λ o _=>Iff.rfl)⟩
   have cf:cn a b (but (un T O) f) u v:=za4 (hall f hf) λ d hd=>⟨hd.1,λ k=>hd.2 (k▸λ o _=>Iff.rfl)⟩
   have stays:∀{e f:ι},un T O e->un T O f->e≠f->br a b (un T O) e->¬br a b (un T O) f->cn a b (but (un T O) e) u v->cn a b (but (but (un T O) e) f) u v:=by
    intro e f he hf hef be nf ce;refine ze7 (λ _=>Classical.byContradiction λ hn=>be.2 ?_) ce;rw [zck] at hn;have:=heal (zld nf hf) hn;refine za4 this ?_;rintro d (⟨⟨h1,_⟩,h2⟩ | rfl)
    ·exact ⟨h1,h2⟩
    ·exact ⟨hf,λ k=>hef k.symm⟩
   by_cases be:br a b (un T O) e
   ·by_cases bf:br a b (un T O) f
    ·refine absurd (λ o ho=>?_) hal
     exact ⟨λ k=>absurd k ((h.bridge he).1 be o ho),λ k=>absurd k ((h.bridge hf).1 bf o ho)⟩
    ·exact stays he hf hef be bf c1
   ·by_cases bf:br a b (un T O) f
    ·rw [zck]
     exact stays hf he (λ k=>hef k.symm) bf be cf
    ·refine ze7 (λ hf'=>Classical.byContradiction λ hn=>hal ((h.pair he hf hef be bf).1 ⟨hf',hn⟩)) c1
 ·intro hall e he
  by_cases be:br a b (un T O) e
  ·have e1:∀d,un T O d->(zfh a b T O e d↔br a b (un T O) d):=λ d hd=>by
    have hE:=(h.bridge he).1 be;rw [h.bridge hd];exact ⟨λ k o ho hc=>hE o ho ((k o ho).2 hc),λ k o ho=>⟨λ hc=>absurd hc (hE o ho),λ hc=>absurd hc (k o ho)⟩⟩
   have hc:cn a b (un T O) u v:=zb7 (mono2 (hall e e he he));have hcl:=Classical.propDecidable;have:=zmi (a:=a) (b:=b) (T:=un T O) (x:=u) (y:=v) (N.filter λ d=>decide (br a b (un T O) d)) (λ d hd=>by
    obtain ⟨h1,h2⟩:=List.mem_filter.1 hd;have hd':=(hN d).1 h1;exact ⟨of_decide_eq_true h2,mono2 (hall d d hd' hd')⟩) hc
   refine za4 this λ d hd=>⟨hd.1,λ k=>hd.2 (List.mem_filter.2 ⟨(hN d).2 hd.1,decide_eq_true ((e1 d hd.1).1 k)⟩)⟩
  ·have hc:cn a b (but (un T O) e) u v:=mono2 (hall e e he he)
   have hcl:=Classical.propDecidable;have hal:∀d,un T O d->d≠e->zfh a b T O e d->br a b (but (un T O) e) d:=λ d hd hde k=>by
    have bd:¬br a b (un T O) d:=λ bd=>be ((h.bridge he).2 λ o ho hc=>(h.bridge hd).1 bd o ho ((k o ho).1 hc))
    exact (h.pair he hd (λ k=>hde k.symm) be bd).2 k
   have:=zmi (a:=a) (b:=b) (T:=but (un T O) e) (x:=u) (y:=v) (N.filter λ d=>decide (d≠e/\zfh a b T O e d)) (λ d hd=>by
    obtain ⟨h1,h2⟩:=List.mem_filter.1 hd;have hd':=(hN d).1 h1;obtain ⟨h3,h4⟩:=of_decide_eq_true h2;exact ⟨hal d hd' h3 h4,hall e d he hd'⟩) hc
   refine za4 this λ d hd=>⟨hd.1.1,λ k=>hd.2 (List.mem_filter.2 ⟨(hN d).2 hd.1.1,decide_eq_true ⟨hd.1.2,k⟩⟩)⟩
end
end Go.Proofs.YtebcjaenhiiflaaGreatDoor.S
namespace Go.Proofs.YtebcjaenhiiflaaGreatDoor.S
abbrev Edg:=Int × Int × Int
def zbj (n:Nat) (R:List Edg):Prop:=∀e∈R,ea e<n/\eb e<n
def lbl (n:Nat) (t:List Edg):List Nat:=joins (List.range n) t
theorem yaa2 (n u v:Nat):Lk n (List.range n) u v↔u=v:=by
 constructor
 ·rintro (h | ⟨h1,h2,h3⟩)
  ·exact h
  ·simpa [h1,h2] using h3
 ·exact .inl
theorem zcd {n:Nat} {t:List Edg} (h:zbj n t):Good n (lbl n t):=zce _ _ (zbi n) h
theorem zb6 {n:Nat} {t:List Edg} (h:zbj n t) {u v:Nat} (hu:u<n) (hv:v<n):(lbl n t).getD u 0=(lbl n t).getD v 0↔cnR t u v:=by
 rw [<-Lk.iff hu hv];unfold lbl;rw [zf7 _ _ (zbi n) h];constructor
 ·intro k
  refine zae.lift k ?_;rintro x y (h | ⟨e,he,rfl,rfl⟩)
  ·rw [(yaa2 n x y).1 h];exact zae.refl y
  ·exact zae.base ⟨e,he,rfl,rfl⟩
 ·intro k
  refine zae.lift k ?_;rintro x y ⟨e,he,rfl,rfl⟩;exact zae.base (.inr ⟨e,he,rfl,rfl⟩)
theorem zmh (n:Nat) (t:List Edg) (d:Edg):lbl n (t++[d])=joinL (lbl n t) (ea d) (eb d):=by
 unfold lbl;generalize List.range n=L;induction t generalizing L with
 | nil=>rfl
 | cons c t ih=>exact ih _
def zdc (n:Nat) (s:List Edg × List Edg) (e:Edg):List Edg × List Edg:=
 if (lbl n s.1).getD (ea e) 0=(lbl n s.1).getD (eb e) 0 then (s.1,s.2++[e]) else (s.1++[e],s.2)
def grw (n:Nat) (R:List Edg):List Edg × List Edg:=R.foldl (zdc n) ([],[])
theorem z1l (n:Nat) (R:List Edg) (e:Edg):grw n (R++[e])=zdc n (grw n R) e:=by simp [grw,List.foldl_append]
structure Gr (n:Nat) (R t o:List Edg):Prop where
 mem:∀e,e∈R↔e∈t\/e∈o
 forest:zc3 ea eb (·∈t) (·∈o)
 tsub:t.Sublist R
 osub:o.Sublist R
 len:t.length+o.length=R.length
theorem more_snoc' (R:List Edg) (f:Edg):(·∈R++[f])=more (·∈R) f:=by
 funext e;apply propext;simp [more]
theorem z0w (n:Nat):Gr n [] [] []:=⟨λ e=>by simp,⟨λ f hf=>by simp at hf,λ o ho=>by simp at ho,λ f hf=>by simp at hf⟩,List.Sublist.refl _,List.Sublist.refl _,rfl⟩
theorem z5f {n:Nat} {R t o:List Edg} (h:Gr n R t o) {e:Edg} (he:e∉R) (hin:zbj n R) (hen:ea e<n/\eb e<n):Gr n (R++[e]) (zdc n (t,o) e).1 (zdc n (t,o) e).2:=by
 have het:e∉t:=λ k=>he ((h.mem e).2 (.inl k))
 have heo:e∉o:=λ k=>he ((h.mem e).2 (.inr k))
 have htn:zbj n t:=λ d hd=>hin d ((h.mem d).2 (.inl hd))
 unfold zdc;by_cases hc:(lbl n t).getD (ea e) 0=(lbl n t).getD (eb e) 0
 ·simp only [if_pos hc]
  have hcn:=(zb6 htn hen.1 hen.2).1 hc;refine ⟨λ d=>by simp [h.mem d,or_assoc],⟨h.forest.tree,λ d hd=>?_,λ f hf ho=>?_⟩,h.tsub.trans (List.sublist_append_left _ _),h.osub.append (List.Sublist.refl _),by simp;have:=h.len;omega⟩
  ·rcases List.mem_append.1 hd with hd | hd
   ·exact h.forest.rest d hd
   ·rw [List.mem_singleton.1 hd];exact hcn
  ·rcases List.mem_append.1 ho with ho | ho
   ·exact h.forest.apart f hf ho
   ·rw [List.mem_singleton.1 ho] at hf;exact het hf
 ·simp only [if_neg hc]
  have hcn:¬cnR t (ea e) (eb e):=λ k=>hc ((zb6 htn hen.1 hen.2).2 k)
  have hm:=more_snoc' t e;refine ⟨λ d=>?_,⟨λ f hf=>?_,λ d hd=>?_,λ f hf ho=>?_⟩,h.tsub.append (List.Sublist.refl _),h.osub.trans (List.sublist_append_left _ _),by simp;have:=h.len;omega⟩
  ·rw [List.mem_append,h.mem d,List.mem_append]
   constructor
   ·rintro ((k | k) | k)
    ·exact .inl (.inl k)
    ·exact .inr k
    ·exact .inl (.inr k)
   ·rintro ((k | k) | k)
    ·exact .inl (.inl k)
    ·exact .inr k
    ·exact .inl (.inr k)
  ·have hb:br ea eb (more (·∈t) e) f:=by
    rw [zq2 het hcn];rcases List.mem_append.1 hf with hf | hf
    ·exact .inl ⟨hf,h.forest.tree f hf⟩
    ·exact .inr (List.mem_singleton.1 hf)
   show ¬cn ea eb (but (·∈t++[e]) f) (ea f) (eb f);rw [hm];exact hb.2
  ·show cn ea eb (·∈t++[e]) (ea d) (eb d)
   rw [hm];exact za0 (h.forest.rest d hd)
  ·rcases List.mem_append.1 hf with hf | hf
   ·exact h.forest.apart f hf ho
   ·rw [List.mem_singleton.1 hf] at ho;exact heo ho
theorem zt4 {n:Nat}:∀(S Q:List Edg) (s:List Edg × List Edg),Gr n Q s.1 s.2->(Q++S).Nodup->zbj n (Q++S)->Gr n (Q++S) (S.foldl (zdc n) s).1 (S.foldl (zdc n) s).2
 | [],Q,s,h,_,_=>by rw [List.append_nil];exact h
 | e::S,Q,s,h,hnd,hin=>by
   have hnd':=hnd;rw [List.nodup_append] at hnd';have h1:=z5f h (e:=e) (λ k=>hnd'.2.2 e k e (by simp) rfl) (λ d hd=>hin d (List.mem_append_left _ hd)) (hin e (by simp));have e1:Q++e::S=(Q++[e])++S:=by simp
   rw [e1] at hnd hin ⊢;exact zt4 S (Q++[e]) (zdc n s e) h1 hnd hin
theorem zi7 {n:Nat} (R:List Edg) (hnd:R.Nodup) (hin:zbj n R):Gr n R (grw n R).1 (grw n R).2:=by
 have:=zt4 R [] ([],[]) (z0w n) (by simpa using hnd) (by simpa using hin)
 simpa [grw] using this
def zaz (c:Nat->Bool):Nat->Nat
 | 0=>0
 | m+1=>zaz c m+if c m then 2^m else 0
theorem zgf (c:Nat->Bool):∀m,zaz c m<2^m
 | 0=>by simp [zaz]
 | m+1=>by
   have:=zgf c m;simp only [zaz,Nat.pow_succ];split <;> omega
theorem zjf {c d:Nat->Bool}:∀{m},zaz c m=zaz d m->∀i,i<m->c i=d i
 | 0,_,i,hi=>by omega
 | m+1,h,i,hi=>by
   have h1:=zgf c m;have h2:=zgf d m;simp only [zaz] at h;have hp:=Nat.two_pow_pos m;have hcd:c m=d m:=by
    cases hc:c m <;> cases hd:d m <;> simp [hc,hd] at h <;> first | rfl | omega
   by_cases e:i=m
   ·rw [e];exact hcd
   ·refine zjf (m:=m) ?_ i (by omega)
    rw [hcd] at h;omega
theorem zff {c d:Nat->Bool} {m:Nat} (h:∀i,i<m->c i=d i):zaz c m=zaz d m:=by
 induction m with
 | zero=>rfl
 | succ m ih=>simp only [zaz];rw [ih (λ i hi=>h i (by omega)),h m (by omega)]
theorem yaaz {x i:Nat} (h:x<2^i):x ||| 2^i=x+2^i:=by
 have:=Nat.two_pow_add_eq_or_of_lt h 1;simp at this;rw [Nat.or_comm,<-this,Nat.add_comm]
end Go.Proofs.YtebcjaenhiiflaaGreatDoor.S
