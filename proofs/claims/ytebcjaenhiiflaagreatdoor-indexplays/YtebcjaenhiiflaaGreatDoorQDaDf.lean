import Derived.Test.YtebcjaenhiiflaaGreatDoorQBbKq
import Derived.Test.YtebcjaenhiiflaaGreatDoorQGYd
import Derived.Test.YtebcjaenhiiflaaGreatDoorQGYe
import Derived.Test.YtebcjaenhiiflaaGreatDoorQKVaKVb
set_option maxHeartbeats 4000000
set_option maxRecDepth 100000
namespace Go.Proofs.YtebcjaenhiiflaaGreatDoor.S
open Go.RowKit Go.WideMaps Go.Maps Go.Proofs.Tryz
def zak (w:World) (b:Nat) (l:List Nat):Prop:=w.heap[b]? =some (.cells (vals l) 3)
theorem zak.cell {w:World} {b:Nat} {l:List Nat} (h:zak w b l) (i:Nat) (hi:i<l.length):w.cell? ⟨b,i,none⟩=some (.int .i64 ((l.getD i 0:Nat):Int)):=by
 unfold zak at h;simp [World.cell?,h,vals,hi]
theorem zak.frozen {w:World} {b:Nat} {l:List Nat} (h:zak w b l) (i:Nat):w.frozen? ⟨b,i,none⟩=false:=by
 unfold zak at h;simp [World.frozen?,h]
theorem zak.lt {w:World} {b:Nat} {l:List Nat} (h:zak w b l):b<w.heap.size:=lt_of_some h
theorem zak.set {w:World} {b:Nat} {l:List Nat} (h:zak w b l) (k v:Nat):zak (w.setCell ⟨b,k,none⟩ (.int .i64 (v:Int))) b (l.set k v):=by
 unfold zak at h ⊢;rw [<-zpc];simp [World.setCell,Array.getElem?_modify,h]
theorem zak.below {w w':World} {b B:Nat} {l:List Nat} (h:zak w b l) (hb:Below B w w') (hl:b<B):zak w' b l:=(hb.block b hl).trans h
theorem zak.drewN {w:World} {b:Nat} {l:List Nat} (h:zak w b l) (n:Nat):zak (w.drewN n) b l:=h
theorem zak.alloc {w:World} {b:Nat} {l:List Nat} (h:zak w b l) (o:Obj):zak (w.alloc o) b l:=(Below.heap_alloc w o b h.lt).trans h
theorem zoo (w:World) (n:Nat):zak (w.alloc (.cells (madeCells #[.int .i64 0] n) 3)) w.heap.size (fill n 0):=by
 rw [zof];exact heap_alloc_new w _
theorem zno (k:Nat):(List.range k).sum<=k*k:=by
 induction k with
 | zero=>simp
 | succ k ih=>
   rw [List.range_succ,List.sum_append];simp only [List.sum_cons,List.sum_nil];have:(k+1)*(k+1)=k*k+2*k+1:=by rw [Nat.add_mul,Nat.mul_add];omega
   omega
def z8r (w:World) (n:Nat) (R:List (Int × Int × Int)) (e:Ending) (w':World):Prop:=
 ∃b l,e= .returned (.slice (some ⟨b,0,none⟩) n n)/\zak w' b l/\w.heap.size<=b/\l.length=n/\(∀u v,u<n->v<n->(l.getD u 0=l.getD v 0↔cnR R u v))/\Below w.heap.size w w'
def Inn (n:Nat) (R:List (Int × Int × Int)):Prop:=∀e∈R,ea e<n/\eb e<n/\e.2.1=(ea e:Int)/\e.2.2=(eb e:Int)
theorem z1m {n:Nat} {R:List (Int × Int × Int)} {l:List Nat} (h:Lab n R l) (hd:∀u v,u<n->v<n->(l.getD u 0=l.getD v 0↔cnR R u v)):Good n l:=
 ⟨h.1,λ i hi=>(h.2 i hi).1,λ i hi=>((hd i (l.getD i 0) hi (by have:=(h.2 i hi).1;omega)).2 (h.2 i hi).2).symm⟩
def zp0 (w:World) (n:Nat) (R:List (Int × Int × Int)) (e:Ending) (w':World):Prop:=
 ∃b l,e= .returned (.slice (some ⟨b,0,none⟩) n n)/\zak w' b l/\w.heap.size<=b/\Good n l/\(∀u v,u<n->v<n->(l.getD u 0=l.getD v 0↔cnR R u v))/\Below w.heap.size w w'
theorem zfc (n B q:Nat) (u:Value) (R:List (Int × Int × Int)) (w:World) (h:G.GAt w B 40 61 q (n:Int) u R) (hl:R.length<=120) (hn:n<=40) (hin:Inn n R):
 Calls prog 59 #[.pointer (some ⟨q,0,none⟩)] w (zp0 w n R):=by
 have hc:=h.c0;have hu1:=h.c1;have hqlt:=h.plt;have HG:=kd h;have HIN:=kd hin;obtain ⟨m,hm⟩:∃m,m=R.length:=⟨_,rfl⟩;have HM:=kd hm;obtain ⟨ua,uc,hv⟩:=h.row.zal;rw [<-hm] at hv hl;have HV:=kd hv;rw [hv] at hu1;have hmk:=λ W=>run_make_row' (P:=prog) 48 3 (.int .i64 0) 8 underlying48 Tryz.info3 rfl .i64 .i64 n (by omega) (by omega) W
 clear h hin hm hv;go_enter func59,ntmps59;go_wp2_with fail;go_loopw [4,16] (λ _ s16 wq=>∃k:Nat,k<=n/\s16= .int .i64 k/\zak wq w.heap.size (fill n k)/\Below w.heap.size w wq) (λ _ s16 _=>n-(intOf s16).toNat)
 case atStart=>exact ⟨0,Nat.zero_le _,rfl,zoo w n,(Below.refl _ _).alloc (Nat.le_refl _) _⟩
 case round=>
  obtain ⟨k,hk,rfl,hr,hb⟩:=hrel;clear hmk;by_cases hlt:k<n
  ·as_aux_lemma=>
   have hc1:=hr.cell k (by rw [zdv];exact hlt);have hf:=hr.frozen k;have HR:Hid (zak (wr.setCell ⟨w.heap.size,k,none⟩ (.int .i64 (k:Int))) w.heap.size (fill n (k+1))):=by
    have:=hr.set k k;rw [zi9] at this;exact this
   have HB:Hid (Below w.heap.size w (wr.setCell ⟨w.heap.size,k,none⟩ (.int .i64 (k:Int)))):=hb.setCell (Nat.le_refl _) _;clear hr hb;generalize (fill n k).getD k 0=z at hc1;go_wp2;go_roundw;case rel=>exact ⟨k+1,by omega,by go_num,HR.out,HB.out⟩
   case measure=>simp [intOf];omega
  ·have hke:k=n:=by omega
   subst hke;rw [zkl] at hr;have HR0:=kd hr;have HB0:=kd hb;clear hr hb;go_wp2_with fail;go_loopg [5] 10000 (λ r s5 wq=>∃l,Lab k R l/\zak wq w.heap.size l/\Below w.heap.size w wq/\((s5= .bool true/\l.sum<r)\/(s5= .bool false/\∀e∈R,l.getD (ea e) 0=l.getD (eb e) 0)))
   case atStart=>
    refine ⟨List.range k,zxf k R,HR0.out,HB0.out,.inl ⟨rfl,?_⟩⟩;have h1:=zno k;have h2:k*k<=40*40:=Nat.mul_le_mul hn hn;omega
   case round=>
    obtain ⟨l,hlab,hr,hb,hs⟩:=hrel;rcases hs with ⟨rfl,hsum⟩ | ⟨rfl,hall⟩
    ·have hg:=HG.out.below hb
     have HL:Hid (Lab k R l/\zak wr w.heap.size l/\Below w.heap.size w wr):=⟨hlab,hr,hb⟩;have hu2:wr.cell? ⟨q,1,none⟩=some (.slice ua m uc):=by have:=hg.c1;rwa [HV.out] at this
     clear hlab hr hb hg hc hu1 HR0 HB0;go_wp2_with fail;go_loopw [5,30] (λ s5 s30 wq=>∃(j:Nat) (l':List Nat),j<=m/\s30= .int .i64 j/\Lab k R l'/\zak wq w.heap.size l'/\Below w.heap.size w wq/\((s5= .bool false/\l'=l/\∀i e,i<j->R[i]? =some e->l.getD (ea e) 0=l.getD (eb e) 0)\/(s5= .bool true/\l'.sum<l.sum))) (λ _ s30 _=>m-(intOf s30).toNat)
     case atStart=>exact ⟨0,l,Nat.zero_le _,rfl,HL.out.1,HL.out.2.1,HL.out.2.2,.inl ⟨rfl,rfl,λ i e hi=>by omega⟩⟩
     case round=>
      obtain ⟨j,l',hj,rfl,hlab',hr',hb',hs'⟩:=hrel;by_cases hlt:j<m
      ·obtain ⟨⟨x0,x1,x2⟩,hx⟩:∃e,R[j]? =some e:=⟨_,List.getElem?_eq_getElem (by rw [<-HM.out];exact hlt)⟩
       obtain ⟨hA,hE,h1,h2⟩:=HIN.out _ (List.mem_of_getElem? hx);obtain ⟨g,hua⟩:∃g,ua=some ⟨g,0,none⟩:=by
        rcases HG.out.row.shape with ⟨_,e⟩ | ⟨g,cap,e,_⟩
        ·rw [e] at hx;simp at hx
        ·rw [HV.out] at e
         injection e with e1 _ _
         exact ⟨g,e1⟩
       obtain ⟨r0,r1,r2⟩:=(HG.out.below hb').row.at (g:=g) (by rw [HV.out,hua];rfl) hx;have HX:=kd hx;have HT:Hid (Lab k R (told l' (ea (x0,x1,x2)) (eb (x0,x1,x2)))):=z14 hlab' (List.mem_of_getElem? hx) hA hE;have HS':=kd hs';simp only at h1 h2 r0 r1 r2;generalize hAe:ea (x0,x1,x2)=A at*;generalize hEe:eb (x0,x1,x2)=E at*;have HAE:=kd (And.intro hAe hEe);clear hAe hEe hx hs';subst h1 h2;have hll:=hlab'.1;have cA:=hr'.cell A (by omega);have cE:=hr'.cell E (by omega);have HR:Hid (Lab k R l'/\zak wr w.heap.size l'/\Below w.heap.size w wr):=⟨hlab',hr',hb'⟩;have hbs:=hb'.size;clear hlab' hr' hb' HL;obtain ⟨X,hX⟩:∃X,l'.getD A 0=X:=⟨_,rfl⟩;obtain ⟨Y,hY⟩:∃Y,l'.getD E 0=Y:=⟨_,rfl⟩;rw [hX] at cA;rw [hY] at cE;have HXY:=kd (And.intro hX hY);clear hX hY;subst hua;obtain ⟨W1,hW1⟩:∃W1,W1=wr.alloc (.cells #[.int .i64 x0,.int .i64 (A:Int),.int .i64 (E:Int)] 61):=⟨_,rfl⟩;have hh:W1.heap[wr.heap.size]? =some (.cells #[.int .i64 x0,.int .i64 (A:Int),.int .i64 (E:Int)] 61):=by rw [hW1];exact heap_alloc_new wr _
       have p1:W1.cell? ⟨wr.heap.size,1,none⟩=some (.int .i64 (A:Int)):=by simp [World.cell?,hh]
       have p2:W1.cell? ⟨wr.heap.size,2,none⟩=some (.int .i64 (E:Int)):=by simp [World.cell?,hh]
       have HR1:Hid (zak W1 w.heap.size l'/\Below w.heap.size w W1):=⟨by rw [hW1];exact HR.out.2.1.alloc _,by rw [hW1];exact HR.out.2.2.alloc hbs _⟩;have hne:w.heap.size≠wr.heap.size:=Nat.ne_of_lt HR.out.2.1.lt;have HW1:=kd hW1.symm;have qA:W1.cell? ⟨w.heap.size,A,none⟩=some (.int .i64 (X:Int)):=by
        have:=HR1.out.1.cell A (by omega);rwa [HXY.out.1] at this
       have qE:W1.cell? ⟨w.heap.size,E,none⟩=some (.int .i64 (Y:Int)):=by
        have:=HR1.out.1.cell E (by omega);rwa [HXY.out.2] at this
       clear hh hW1 cA cE;rcases Nat.lt_trichotomy X Y with hxy | hxy | hxy
       ·as_aux_lemma=>
        have h1:(X:Int)<(Y:Int):=by omega
        have hq:((Y:Int)==(X:Int))=false:=beq_eq_false_iff_ne.2 (by omega);have HTD:Hid ((l'.set A X).set E X=told l' A E/\(told l' A E).sum<l'.sum):=by
         refine ⟨?_,zqo (by omega) (by omega) (by rw [HXY.out.1,HXY.out.2];omega)⟩;unfold told;rw [HXY.out.1,HXY.out.2,show min X Y=X by omega]
        have HYE:=kd HXY.out.2;have HNE:Hid (A≠E):=λ e=>by have h1:=HXY.out.1;have h2:=HXY.out.2;rw [e] at h1;omega
        have HSM:Hid (l'.sum<=l.sum):=by
         rcases HS'.out with ⟨_,rfl,_⟩ | ⟨_,h⟩
         ·exact Nat.le_refl _
         ·exact Nat.le_of_lt h
        clear HS' HX HAE HXY;go_wp2_with fail;rw [HW1.out];go_quiet (fail);have HV:Hid (zak (W1.drewN nq) w.heap.size l'/\Below w.heap.size w (W1.drewN nq)):=⟨HR1.out.1.drewN nq,below_drewN HR1.out.2 nq⟩;have s1:(W1.drewN nq).cell? ⟨wr.heap.size,1,none⟩=some (.int .i64 (A:Int)):=p1;have s2:(W1.drewN nq).cell? ⟨wr.heap.size,2,none⟩=some (.int .i64 (E:Int)):=p2;have s3:(W1.drewN nq).cell? ⟨w.heap.size,A,none⟩=some (.int .i64 (X:Int)):=qA;have s4:(W1.drewN nq).cell? ⟨w.heap.size,E,none⟩=some (.int .i64 (Y:Int)):=qE;clear p1 p2 qA qE;generalize W1.drewN nq=V at*;have hmin:min (X:Int) (Y:Int)=(X:Int):=by omega
        simp only [hmin];clear hmin;go_upto_region 15 with fail
        have hrd:zak V.drew w.heap.size l':=HV.out.1;have t1:V.drew.cell? ⟨wr.heap.size,1,none⟩=some (.int .i64 (A:Int)):=s1;have t2:V.drew.cell? ⟨wr.heap.size,2,none⟩=some (.int .i64 (E:Int)):=s2;have t3:V.drew.cell? ⟨w.heap.size,A,none⟩=some (.int .i64 (X:Int)):=s3;have f3:=hrd.frozen A;have hrs:=hrd.set A X;have t4:V.drew.cell? ⟨w.heap.size,E,none⟩=some (.int .i64 (Y:Int)):=s4;have f4:=hrd.frozen E;have f5:=hrs.frozen E;have t5:=hrs.cell E (by simp;omega);rw [show (l'.set A X).getD E 0=Y by rw [<-HYE.out];simp [HNE.out]] at t5;have t6:(V.setCell ⟨w.heap.size,A,none⟩ (.int .i64 (X:Int))).cell? ⟨w.heap.size,E,none⟩=some (.int .i64 (Y:Int)):=t5;have f6:(V.setCell ⟨w.heap.size,A,none⟩ (.int .i64 (X:Int))).frozen? ⟨w.heap.size,E,none⟩=false:=f5;have t7:(V.setCell ⟨w.heap.size,A,none⟩ (.int .i64 (X:Int))).drew.cell? ⟨w.heap.size,E,none⟩=some (.int .i64 (Y:Int)):=t5;have f7:(V.setCell ⟨w.heap.size,A,none⟩ (.int .i64 (X:Int))).drew.frozen? ⟨w.heap.size,E,none⟩=false:=f5;have hAE:¬A=E:=HNE.out;have hEA:¬E=A:=λ e=>HNE.out e.symm
        have HRT:Hid (zak ((V.drew.setCell ⟨w.heap.size,A,none⟩ (.int .i64 (X:Int))).setCell ⟨w.heap.size,E,none⟩ (.int .i64 (X:Int))) w.heap.size (told l' A E)/\Below w.heap.size w ((V.drew.setCell ⟨w.heap.size,A,none⟩ (.int .i64 (X:Int))).setCell ⟨w.heap.size,E,none⟩ (.int .i64 (X:Int)))):=by
         refine ⟨?_,(((HV.out.2.drew).setCell (Nat.le_refl _) _).setCell (Nat.le_refl _) _)⟩;rw [<-HTD.out.1];exact hrs.set E X
        clear hrd hrs hq h1;go_region_held (λ w'=>w'.cell? ⟨wr.heap.size,1,none⟩=some (.int .i64 (A:Int))/\w'.cell? ⟨wr.heap.size,2,none⟩=some (.int .i64 (E:Int))) (go_keep) (fail)
        all_goals
         go_wp2_with fail;go_roundw;case rel=>exact ⟨j+1,told l' A E,by omega,by go_num,HT.out,HRT.out.1,HRT.out.2,.inr ⟨rfl,by have:=HTD.out.2;have:=HSM.out;omega⟩⟩
         case measure=>simp [intOf];omega
       ·as_aux_lemma=>
        subst hxy;have HF:Hid (u5= .bool false/\l'=l/\(∀i e,i<j+1->R[i]? =some e->l.getD (ea e) 0=l.getD (eb e) 0)\/u5= .bool true/\l'.sum<l.sum):=by
         rcases HS'.out with ⟨h1,rfl,h3⟩ | h1
         ·refine .inl ⟨h1,rfl,λ i e hi he=>?_⟩
          by_cases hij:i=j
          ·subst hij
           have:e=(x0,(A:Int),(E:Int)):=by rw [HX.out] at he;injection he with he;exact he.symm
           rw [this,HAE.out.1,HAE.out.2,HXY.out.1,HXY.out.2]
          ·exact h3 i e (by omega) he
         ·exact .inr h1
        clear HT HS' HX HAE HXY;go_wp2_with fail;rw [HW1.out];go_quiet (fail);have HV:Hid (zak (W1.drewN nq) w.heap.size l'/\Below w.heap.size w (W1.drewN nq)):=⟨HR1.out.1.drewN nq,below_drewN HR1.out.2 nq⟩;have s1:(W1.drewN nq).cell? ⟨wr.heap.size,1,none⟩=some (.int .i64 (A:Int)):=p1;have s2:(W1.drewN nq).cell? ⟨wr.heap.size,2,none⟩=some (.int .i64 (E:Int)):=p2;have s3:(W1.drewN nq).cell? ⟨w.heap.size,A,none⟩=some (.int .i64 (X:Int)):=qA;have s4:(W1.drewN nq).cell? ⟨w.heap.size,E,none⟩=some (.int .i64 (X:Int)):=qE;clear p1 p2 qA qE;generalize W1.drewN nq=V at*;go_wp2_with fail;go_roundw;case rel=>exact ⟨j+1,l',by omega,by go_num,HR.out.1,HV.out.1,HV.out.2,HF.out⟩
        case measure=>simp [intOf];omega
       ·as_aux_lemma=>
        have h1:(Y:Int)<(X:Int):=by omega
        have hq:((X:Int)==(Y:Int))=false:=beq_eq_false_iff_ne.2 (by omega);have HTD:Hid ((l'.set A Y).set E Y=told l' A E/\(told l' A E).sum<l'.sum):=by
         refine ⟨?_,zqo (by omega) (by omega) (by rw [HXY.out.1,HXY.out.2];omega)⟩;unfold told;rw [HXY.out.1,HXY.out.2,show min X Y=Y by omega]
        have HYE:=kd HXY.out.2;have HNE:Hid (A≠E):=λ e=>by have h1:=HXY.out.1;have h2:=HXY.out.2;rw [e] at h1;omega
        have HSM:Hid (l'.sum<=l.sum):=by
         rcases HS'.out with ⟨_,rfl,_⟩ | ⟨_,h⟩
         ·exact Nat.le_refl _
         ·exact Nat.le_of_lt h
        clear HS' HX HAE HXY;go_wp2_with fail;rw [HW1.out];go_quiet (fail);have HV:Hid (zak (W1.drewN nq) w.heap.size l'/\Below w.heap.size w (W1.drewN nq)):=⟨HR1.out.1.drewN nq,below_drewN HR1.out.2 nq⟩;have s1:(W1.drewN nq).cell? ⟨wr.heap.size,1,none⟩=some (.int .i64 (A:Int)):=p1;have s2:(W1.drewN nq).cell? ⟨wr.heap.size,2,none⟩=some (.int .i64 (E:Int)):=p2;have s3:(W1.drewN nq).cell? ⟨w.heap.size,A,none⟩=some (.int .i64 (X:Int)):=qA;have s4:(W1.drewN nq).cell? ⟨w.heap.size,E,none⟩=some (.int .i64 (Y:Int)):=qE;clear p1 p2 qA qE;generalize W1.drewN nq=V at*;have hmin:min (X:Int) (Y:Int)=(Y:Int):=by omega
        simp only [hmin];clear hmin;go_upto_region 15 with fail
        have hrd:zak V.drew w.heap.size l':=HV.out.1;have t1:V.drew.cell? ⟨wr.heap.size,1,none⟩=some (.int .i64 (A:Int)):=s1;have t2:V.drew.cell? ⟨wr.heap.size,2,none⟩=some (.int .i64 (E:Int)):=s2;have t3:V.drew.cell? ⟨w.heap.size,A,none⟩=some (.int .i64 (X:Int)):=s3;have f3:=hrd.frozen A;have hrs:=hrd.set A Y;have t4:V.drew.cell? ⟨w.heap.size,E,none⟩=some (.int .i64 (Y:Int)):=s4;have f4:=hrd.frozen E;have f5:=hrs.frozen E;have t5:=hrs.cell E (by simp;omega);rw [show (l'.set A Y).getD E 0=Y by rw [<-HYE.out];simp [HNE.out]] at t5;have t6:(V.setCell ⟨w.heap.size,A,none⟩ (.int .i64 (Y:Int))).cell? ⟨w.heap.size,E,none⟩=some (.int .i64 (Y:Int)):=t5;have f6:(V.setCell ⟨w.heap.size,A,none⟩ (.int .i64 (Y:Int))).frozen? ⟨w.heap.size,E,none⟩=false:=f5;have t7:(V.setCell ⟨w.heap.size,A,none⟩ (.int .i64 (Y:Int))).drew.cell? ⟨w.heap.size,E,none⟩=some (.int .i64 (Y:Int)):=t5;have f7:(V.setCell ⟨w.heap.size,A,none⟩ (.int .i64 (Y:Int))).drew.frozen? ⟨w.heap.size,E,none⟩=false:=f5;have hAE:¬A=E:=HNE.out;have hEA:¬E=A:=λ e=>HNE.out e.symm
        have HRT:Hid (zak ((V.drew.setCell ⟨w.heap.size,A,none⟩ (.int .i64 (Y:Int))).setCell ⟨w.heap.size,E,none⟩ (.int .i64 (Y:Int))) w.heap.size (told l' A E)/\Below w.heap.size w ((V.drew.setCell ⟨w.heap.size,A,none⟩ (.int .i64 (Y:Int))).setCell ⟨w.heap.size,E,none⟩ (.int .i64 (Y:Int)))):=by
         refine ⟨?_,(((HV.out.2.drew).setCell (Nat.le_refl _) _).setCell (Nat.le_refl _) _)⟩;rw [<-HTD.out.1];exact hrs.set E Y
        clear hrd hrs hq h1;go_region_held (λ w'=>w'.cell? ⟨wr.heap.size,1,none⟩=some (.int .i64 (A:Int))/\w'.cell? ⟨wr.heap.size,2,none⟩=some (.int .i64 (E:Int))) (go_keep) (fail)
        all_goals
         go_wp2_with fail;go_roundw;case rel=>exact ⟨j+1,told l' A E,by omega,by go_num,HT.out,HRT.out.1,HRT.out.2,.inr ⟨rfl,by have:=HTD.out.2;have:=HSM.out;omega⟩⟩
         case measure=>simp [intOf];omega
      ·have hje:j=m:=by omega
       subst hje;rcases hs' with ⟨rfl,rfl,hall⟩ | ⟨rfl,hsum'⟩
       ·as_aux_lemma=>
        have HF:Hid (Lab k R l'/\zak wr w.heap.size l'/\Below w.heap.size w wr/\∀e∈R,l'.getD (ea e) 0=l'.getD (eb e) 0):=⟨hlab',hr',hb',λ e he=>by
         obtain ⟨i,hi,hie⟩:=List.mem_iff_getElem.1 he;exact hall i e (by rw [HM.out];exact hi) (by rw [List.getElem?_eq_getElem hi,hie])⟩
        clear hlab' hr' hb' hall HL;go_wp2_with fail;go_roundg (gk-1);case measure=>omega
        case rel=>exact ⟨l',HF.out.1,HF.out.2.1,HF.out.2.2.1,.inr ⟨rfl,HF.out.2.2.2⟩⟩
       ·as_aux_lemma=>
        have HF:Hid (Lab k R l'/\zak wr w.heap.size l'/\Below w.heap.size w wr):=⟨hlab',hr',hb'⟩;clear hlab' hr' hb' HL;go_wp2_with fail;go_roundg (l'.sum+1);case measure=>omega
        case rel=>exact ⟨l',HF.out.1,HF.out.2.1,HF.out.2.2,.inl ⟨rfl,by omega⟩⟩
    ·as_aux_lemma=>
     have HF:Hid (zp0 w k R (.returned (.slice (some ⟨w.heap.size,0,none⟩) k k)) wr):=
      ⟨_,l,rfl,hr,Nat.le_refl _,z1m hlab (λ u v hu hv=>zrb hlab (λ e he=>⟨(HIN.out e he).1,(HIN.out e he).2.1⟩) hall hu hv),λ u v hu hv=>zrb hlab (λ e he=>⟨(HIN.out e he).1,(HIN.out e he).2.1⟩) hall hu hv,hb⟩
     clear hr hb hlab hall;go_wp2_with fail;go_ret;exact HF.out
theorem zbk (n B q:Nat) (u:Value) (R:List (Int × Int × Int)) (w:World) (h:G.GAt w B 40 61 q (n:Int) u R) (hl:R.length<=120) (hn:n<=40) (hin:Inn n R):
 Calls prog 59 #[.pointer (some ⟨q,0,none⟩)] w (z8r w n R):=
 (zfc n B q u R w h hl hn hin).mono (λ _ _ ⟨b,l,he,hr,hb,hg,hd,hbl⟩=>⟨b,l,he,hr,hb,hg.1,hd,hbl⟩)
theorem z9v (x y cw bl n:Nat) (l:List Nat) (s:Bool) (w:World) (hc:w.cell? ⟨cw,0,none⟩=some (.slice (some ⟨bl,0,none⟩) n n)) (hr:zak w bl l) (hl:l.length=n) (hx:x<n) (hy:y<n) (hv:(((l.getD x 0:Nat):Int)==((l.getD y 0:Nat):Int))=s):
 Calls prog 73 #[.int .i64 (x:Int),.int .i64 (y:Int),.pointer (some ⟨cw,0,none⟩)] w λ e w'=>e= .returned (.bool s)/\∃n,w'=w.drewN n:=by
 have hcx:=hr.cell x (by omega);have hcy:=hr.cell y (by omega);clear hr;generalize l.getD x 0=X at*;generalize l.getD y 0=Y at*;go_enter func73,ntmps73;go_wp2_with fail;go_quiet (fail);clear hcx hcy hc;go_wp2_with fail;go_ret;exact ⟨by simp,_,rfl⟩
def zb9 (w:World) (Gs:List (List Nat)) (e:Ending) (w':World):Prop:=
 ∃a cap,e= .returned (.slice a Gs.length cap)/\(0<Gs.length->∃g,a=some ⟨g,0,none⟩/\zcf w' g Gs Gs.length)/\Below w.heap.size w w'
theorem zgy {w w1 w':World} {t:Value} {Gs:List (List Nat)} {r c:Nat->Nat} (h:za2 w' w1.heap.size t Gs r c) (hb:Below w1.heap.size w1 w') (h1:Below w.heap.size w w1):zb9 w Gs (.returned t) w':=by
 obtain ⟨a,cap,rfl,ha⟩:=h.shape;refine ⟨a,cap,rfl,λ hl=>?_,h1.trans (hb.mono h1.size)⟩;obtain ⟨g,rfl⟩:=ha hl;exact ⟨g,rfl,h.rows rfl⟩
theorem z2k {a b c d:Nat} (h:a=b↔c=d) {s:Bool} (hs:((c:Int)==(d:Int))=s):((a:Int)==(b:Int))=s:=by
 rw [<-hs];rw [Bool.eq_iff_iff,beq_iff_eq,beq_iff_eq];omega
theorem z0c (n B q:Nat) (u:Value) (R:List (Int × Int × Int)) (L:List Nat) (w:World) (h:G.GAt w B 40 61 q (n:Int) u R) (hl:R.length<=120) (hn:n<=40) (hin:Inn n R) (hg:Good n L) (hL:∀x y,x<n->y<n->(L.getD x 0=L.getD y 0↔cnR R x y)):
 Calls prog 24 #[.pointer (some ⟨q,0,none⟩)] w (zb9 w (zao L n)):=by
 have HG:=kd h;have HLL:=kd hL;have hmf':=hmf;clear h hL;go_enter func24,ntmps24;go_wp2_with fail;refine (zbk n B q u R w HG.out hl hn hin).mono ?_;rintro e w1 ⟨b,l,rfl,hr,hb,hll,hlab,hbl⟩;have hc:(w1.alloc (.cells #[.slice (some ⟨b,0,none⟩) n n] 48)).cell? ⟨q,0,none⟩=some (.int .i64 (n:Int)):=by
  rw [World.cell?_alloc_lt _ _ ⟨q,0,none⟩ (HG.out.below hbl).plt];exact (HG.out.below hbl).c0
 have hql:q<w1.heap.size:=(HG.out.below hbl).plt;have HX:=kd (And.intro hr hbl);have HAL:Hid (Alike 73 (w1.alloc (.cells #[.slice (some ⟨b,0,none⟩) n n] 48)) n w1.heap.size L):=by
  intro W' hW' x y s hx hy hs;have hrl:=hr.lt;refine z9v x y w1.heap.size b n l s W' ?_ ((hr.alloc _).below hW' (by simp;omega)) hll hx hy (z2k ?_ hs)
  ·rw [hW'.cell (p:=⟨w1.heap.size,0,none⟩) (by simp)];simp
  ·rw [hlab x y hx hy,HLL.out x y hx hy]
 clear hr hlab hbl;go_wp2_with fail;refine (zsh n w1.heap.size L _ HAL.out hg hn).mono ?_;rintro e w2 ⟨t,r,c,rfl,hP,hb2⟩;have HF:Hid (zb9 w (zao L n) (.returned t) w2):=zgy hP hb2 (HX.out.2.alloc HX.out.2.size _);clear hP hb2;go_wp2;go_ret;exact HF.out
theorem zna (R:List (Int × Int × Int)) (e:Int × Int × Int) (Fn:Nat->Int):R.filter (G.stays (λ _=>e.1) Fn 1 0)=rest R e:=by
 unfold rest;refine List.filter_congr (λ d _=>?_);have h1:G.among (λ _=>e.1) 1 d.1=decide (e.1=d.1):=by
  simp only [G.among,List.range_succ,List.range_zero,List.nil_append,List.any_cons,List.any_nil,Bool.or_false];exact Bool.eq_iff_iff.2 (by simp)
 have h2:∀x,G.among Fn 0 x=false:=λ x=>by simp [G.among]
 unfold G.stays;rw [h1,h2,h2];by_cases h:d.1=e.1
 ·simp [h]
 ·simp [h,Ne.symm h]
theorem zhp {n:Nat} {R:List (Int × Int × Int)} (h:Inn n R) (e:Int × Int × Int):Inn n (rest R e):=λ d hd=>h d (List.mem_filter.1 hd).1
theorem zke (R:List (Int × Int × Int)) (e:Int × Int × Int):(rest R e).length<=R.length:=List.length_filter_le _ _
theorem z1e {R B:List (Int × Int × Int)} {j:Nat} {e:Int × Int × Int} (hj:R[j]? =some e):zav (R.take (j+1)) B=zav (R.take j) B++if e∈B then [e.1] else []:=by
 unfold zav;rw [List.take_add_one,hj];simp only [Option.toList_some,List.filter_append,List.map_append];by_cases h:e∈B <;> simp [h]
theorem z8b (R B:List (Int × Int × Int)):(zav R B).length<=R.length:=by
 unfold zav;rw [List.length_map];exact List.length_filter_le _ _
theorem zq7 (w:World) (x:Int):G.Ints (w.alloc (.cells #[.int .i64 x] 3)) (some ⟨w.heap.size,0,none⟩) 1 (λ _=>x):=
 ⟨λ _=>⟨w.heap.size,0,rfl,λ t ht=>by
   have:t=0:=by omega
   subst this;simp⟩⟩
theorem zlq (w:World):G.Ints w none 0 (λ _=>0):=⟨λ h=>by omega⟩
theorem zsv {Bs:List (Int × Int × Int)} (n B q:Nat) (u:Value) (R L:List (Int × Int × Int)) (w:World) (h:G.GAt w B 40 61 q (n:Int) u R) (hi:G.Inv R L) (hl:L.length<=120) (hn:n<=40) (hin:Inn n L) (hbr:∀e∈L,(e∈Bs↔¬cnR (rest R e) (ea e) (eb e))):
 Calls prog 22 #[.pointer (some ⟨q,0,none⟩)] w λ e w'=>∃v,e= .returned v/\w'.ownsRow w.heap.size 3 1 v (zav L Bs).length ((zav L Bs).map (Value.int .i64))/\Below w.heap.size w w':=by
 have HG:=kd h;have HS:=kd hbr;have HIN:=kd hin;have HINR:Hid (Inn n R):=λ e he=>hin e (hi.perm.mem_iff.1 he)
 have HI:=kd hi;have hRL:R.length=L.length:=hi.perm.length_eq;obtain ⟨i0,hi0,hz0,hz1,hz2⟩:=info_parts Tryz.info3;clear h hin hbr hi;go_enter func22,ntmps22;go_wp2_with fail;refine (G.zer B q (n:Int) u R L w HG.out HI.out).mono ?_;rintro e w1 ⟨v,rfl,ho,hb1⟩;obtain ⟨m,hm⟩:∃m,m=L.length:=⟨_,rfl⟩;have HM:=kd hm;have HMR:Hid (m=R.length):=hm.trans hRL.symm;obtain ⟨va,vc,hv⟩:=ho.zal;rw [<-hm] at hv hl;have HV:=kd hv;have HO:=kd ho;have HB1:=kd hb1;subst hv;clear hm ho hb1 hRL;go_wp2_with fail;go_loopw [3,10] (λ s3 s10 wq=>∃j:Nat,j<=m/\s10= .int .i64 j/\wq.ownsRow w1.heap.size 3 1 s3 (zav (L.take j) Bs).length ((zav (L.take j) Bs).map (Value.int .i64))/\Below w1.heap.size w1 wq) (λ _ s10 _=>m-(intOf s10).toNat)
 case atStart=>exact ⟨0,Nat.zero_le _,rfl,World.ownsRow_nil _ _ _ _,Below.refl _ _⟩
 case round=>
  obtain ⟨j,hj,rfl,hrow,hb⟩:=hrel;by_cases hlt:j<m
  ·obtain ⟨⟨x0,x1,x2⟩,hx⟩:∃e,L[j]? =some e:=⟨_,List.getElem?_eq_getElem (by rw [<-HM.out];exact hlt)⟩
   have heR:=List.mem_of_getElem? hx;obtain ⟨hA,hE,h1,h2⟩:=HIN.out _ heR;obtain ⟨g,hva⟩:∃g,va=some ⟨g,0,none⟩:=by
    rcases HO.out.shape with ⟨_,e⟩ | ⟨g,cap,e,_⟩
    ·rw [e] at hx;simp at hx
    ·injection e with e1 _ _
     exact ⟨g,e1⟩
   subst hva;obtain ⟨r0,r1,r2⟩:=(HO.out.below hb).at (g:=g) rfl hx;have HST:Hid (zav (L.take (j+1)) Bs=zav (L.take j) Bs++if (x0,x1,x2)∈Bs then [x0] else []):=z1e hx;have HBR:Hid ((x0,x1,x2)∈Bs↔¬cnR (rest R (x0,x1,x2)) (ea (x0,x1,x2)) (eb (x0,x1,x2))):=HS.out _ heR;simp only at h1 h2 r0 r1 r2;generalize hAe:ea (x0,x1,x2)=A at*;generalize hEe:eb (x0,x1,x2)=E at*;clear hAe hEe;subst h1 h2;have HROW:=kd hrow;have HLEN:Hid ((zav (L.take j) Bs).length<=m):=by
    have h1:=z8b (L.take j) Bs;have h2:(L.take j).length<=j:=by simp;omega
    show (zav (L.take j) Bs).length<=m;omega
   have HB:=kd hb;have hbs:=hb.size;clear hrow hb hx;obtain ⟨W1,hW1⟩:∃W1,W1=wr.alloc (.cells #[.int .i64 x0,.int .i64 (A:Int),.int .i64 (E:Int)] 61):=⟨_,rfl⟩;have hh:W1.heap[wr.heap.size]? =some (.cells #[.int .i64 x0,.int .i64 (A:Int),.int .i64 (E:Int)] 61):=by rw [hW1];exact heap_alloc_new wr _
   have HBX:=kd hh;have p0:W1.cell? ⟨wr.heap.size,0,none⟩=some (.int .i64 x0):=by simp [World.cell?,hh]
   have HBW:Hid (Below w1.heap.size w1 W1):=by
    show Below w1.heap.size w1 W1;rw [hW1];exact HB.out.alloc hbs _
   have HRW:Hid (W1.ownsRow w1.heap.size 3 1 u3 (zav (L.take j) Bs).length ((zav (L.take j) Bs).map (Value.int .i64))):=by
    show W1.ownsRow _ _ _ _ _ _;rw [hW1];exact HROW.out.alloc _
   have HW1:=kd hW1.symm;have hW1s:wr.heap.size<W1.heap.size:=lt_of_some hh;have hsz:W1.heap.size=wr.heap.size+1:=by rw [hW1];simp
   clear hh hW1 HROW HB;have HWO:Hid (Calls prog 58 #[.pointer (some ⟨q,0,none⟩),.slice (some ⟨wr.heap.size+1,0,none⟩) 1 1,.slice none 0 0] (W1.alloc (.cells #[.int .i64 x0] 3)) λ e w'=>∃q' v',e= .returned (.pointer (some ⟨q',0,none⟩))/\G.GAt w' W1.heap.size 40 61 q' (n:Int) v' (rest R (x0,(A:Int),(E:Int)))/\Below W1.heap.size W1 w'):=by
    have hg:=(HG.out.below HB1.out).below HBW.out;have hb2:Below W1.heap.size W1 (W1.alloc (.cells #[.int .i64 x0] 3)):=(Below.refl _ _).alloc (Nat.le_refl _) _;have h1i:=zq7 W1 x0;rw [hsz] at h1i;refine (G.zbw (n:Int) B q u R _ none 1 0 1 0 (λ _=>x0) (λ _=>0) _ (hg.below hb2) (by rw [<-HMR.out];omega) h1i (zlq _) (by omega) (by omega)).mono ?_;rintro e w' ⟨q',v',rfl,hg',hb'⟩;rw [zna R (x0,(A:Int),(E:Int))] at hg';refine ⟨q',v',rfl,⟨hg'.hp,hg'.row.mono (by simp),hg'.ne⟩,hb2.trans (hb'.mono (by simp))⟩
   go_wp2_with fail;rw [HW1.out];refine Calls.mono HWO.out ?_;rintro e' w2 ⟨q',v',rfl,hg2,hb2⟩;have HG2:=kd (And.intro hg2 hb2);clear hg2 hb2 HWO p0;go_wp2_with fail;refine (zbk n W1.heap.size q' v' (rest R (x0,(A:Int),(E:Int))) w2 HG2.out.1 (Nat.le_trans (zke _ _) (by rw [<-HMR.out];exact hl)) hn (zhp HINR.out _)).mono ?_;rintro e' w3 ⟨b,l,rfl,hr,hbb,hll,hlab,hb3⟩;have hW3:Below W1.heap.size W1 w3:=HG2.out.2.trans (hb3.mono HG2.out.2.size);have HB3:Hid (Below w1.heap.size w1 w3):=HBW.out.trans (hW3.mono HBW.out.size);have HR3:Hid (w3.ownsRow w1.heap.size 3 1 u3 (zav (L.take j) Bs).length ((zav (L.take j) Bs).map (Value.int .i64))):=HRW.out.kept (zai hW3) (by cases u3.ownBlock <;> simp);have hh3:w3.heap[wr.heap.size]? =some (.cells #[.int .i64 x0,.int .i64 (A:Int),.int .i64 (E:Int)] 61):=(hW3.block _ hW1s).trans HBX.out;have c0:w3.cell? ⟨wr.heap.size,0,none⟩=some (.int .i64 x0):=by simp [World.cell?,hh3]
   have c1:w3.cell? ⟨wr.heap.size,1,none⟩=some (.int .i64 (A:Int)):=by simp [World.cell?,hh3]
   have c2:w3.cell? ⟨wr.heap.size,2,none⟩=some (.int .i64 (E:Int)):=by simp [World.cell?,hh3]
   have cA:=hr.cell A (by omega);have cE:=hr.cell E (by omega);have HXY:Hid ((x0,(A:Int),(E:Int))∈Bs↔l.getD A 0≠l.getD E 0):=by
    show _∈Bs↔_;rw [HBR.out,Ne,hlab A E hA hE]
   clear hr hbb hlab hb3 hW3 hh3 HBX HBW HRW HG2 HBR hW1s r0 r1 r2;generalize l.getD A 0=X at*;generalize l.getD E 0=Y at*;by_cases hxy:X=Y
   ·as_aux_lemma=>
    subst hxy;have HF:Hid (w3.ownsRow w1.heap.size 3 1 u3 (zav (L.take (j+1)) Bs).length ((zav (L.take (j+1)) Bs).map (Value.int .i64))):=by
     show w3.ownsRow _ _ _ _ _ _;rw [HST.out,if_neg (λ k=>(HXY.out.1 k) rfl),List.append_nil];exact HR3.out
    clear HST HXY HR3;go_wp2_with fail;go_quiet (fail);clear c0 c1 c2 cA cE;go_wp2_with fail;go_roundw;case rel=>exact ⟨j+1,by omega,by go_num,HF.out,below_drewN HB3.out nq⟩
    case measure=>simp [intOf];omega
   ·as_aux_lemma=>
    have HST':Hid (zav (L.take (j+1)) Bs=zav (L.take j) Bs++[x0]):=by
     show zav (L.take (j+1)) Bs=_;rw [HST.out,if_pos (HXY.out.2 hxy)]
    have hq:((X:Int)==(Y:Int))=false:=beq_eq_false_iff_ne.2 (by omega);have hlen:=HLEN.out;clear HST HXY;generalize zav (L.take j) Bs=K at*;go_wp2_with fail;go_quiet (fail);have d0:(w3.drewN nq).cell? ⟨wr.heap.size,0,none⟩=some (.int .i64 x0):=c0;have HD:Hid ((w3.drewN nq).ownsRow w1.heap.size 3 1 u3 K.length (K.map (Value.int .i64))/\Below w1.heap.size w1 (w3.drewN nq)):=⟨HR3.out,below_drewN HB3.out nq⟩;clear c0 c1 c2 cA cE HR3 HB3;generalize w3.drewN nq=V at*;have hrow:=HD.out.1;have hVs:=HD.out.2.size;have HLT:=hrow.lt;go_wp2_with (first
     | (at_builtin;refine wpList_append_own_at _ rfl _ _ 48 rfl w1.heap.size 3 i0 (.int .i64 0) 1 8 underlying48 hi0 hz0 hz1 hz2 rfl (by decide) u3 _ _ rfl (hrow.alloc _) ⟨V.heap.size,0,none⟩ 1 1 [.int .i64 x0] rfl rfl (cell_one_new _ _ _) (ints_oneCell .i64 [x0]) (by unfold maxLen;omega) (by omega) (by simp;omega) ?_;intro v'' w4 hown' hgrow hnil hloc)
     | fail)
    have HF:Hid (w4.ownsRow w1.heap.size 3 1 v'' (zav (L.take (j+1)) Bs).length ((zav (L.take (j+1)) Bs).map (Value.int .i64))):=by
     show w4.ownsRow _ _ _ _ _ _;rw [HST'.out]
     simpa using hown'
    go_roundw;case rel=>exact ⟨j+1,by omega,by go_num,HF.out,HD.out.2.grown ((World.grownBy_alloc V _ _).trans hgrow) hVs (λ j hj=>(HLT j hj).1)⟩
    case measure=>simp [intOf];omega
  ·have hje:j=m:=by omega
   subst hje;have HF:Hid (wr.ownsRow w.heap.size 3 1 u3 (zav L Bs).length ((zav L Bs).map (Value.int .i64))/\Below w.heap.size w wr):=by
    have ht:L.take j=L:=List.take_of_length_le (by rw [<-HM.out];omega);rw [ht] at hrow;exact ⟨ownsRow_base_a hrow HB1.out.size,HB1.out.trans (hb.mono HB1.out.size)⟩
   clear hrow hb;go_wp2_with fail;go_ret;exact ⟨_,rfl,HF.out⟩
structure zb5 (w:World) (base cw n:Nat) (v:Value) (P:List (Nat × List Nat)):Prop where
 own:w.ownsRow base 48 1 v P.length (P.map λ p=>.slice (some ⟨p.1,0,none⟩) n n)
 rows:∀p∈P,zak w p.1 p.2/\p.2.length=n
 box:w.heap[cw]? =some (.cells #[v] 51)
theorem zb5.below {w w':World} {base cw n:Nat} {v:Value} {P:List (Nat × List Nat)} (h:zb5 w base cw n v P) (hb:Below w.heap.size w w'):zb5 w' base cw n v P:=
 ⟨h.own.kept (zai hb) (by cases v.ownBlock <;> simp),λ p hp=>⟨(h.rows p hp).1.below hb (h.rows p hp).1.lt,(h.rows p hp).2⟩,(hb.block cw (lt_of_some h.box)).trans h.box⟩
theorem zb5.shape {w:World} {base cw n:Nat} {v:Value} {P:List (Nat × List Nat)} (h:zb5 w base cw n v P) (hp:0<P.length):∃g cap,v= .slice (some ⟨g,0,none⟩) P.length cap/\∀i p,P[i]? =some p->w.cell? ⟨g,i,none⟩=some (.slice (some ⟨p.1,0,none⟩) n n):=by
 have h0:=h.own;rcases h.own.2 with ⟨_,hz⟩ | ⟨g,cap,cur,rfl,_⟩
 ·omega
 ·refine ⟨g,cap,rfl,λ i p hi=>?_⟩
  rw [h0.cellAt i (by have:=(List.getElem?_eq_some_iff.1 hi).1;omega)];simp [hi]
theorem ziz {w:World} {base:Nat} {v:Value} {k:Nat} {xs:List Value} (h:w.ownsRow base 48 1 v k xs) {g:Nat} (hg:v.ownBlock=some g):∃cur,w.heap[g]? =some (.cells cur 48):=by
 rcases h.2 with ⟨rfl,_⟩ | ⟨g',cap,cur,rfl,_,hc,_⟩
 ·simp [Value.ownBlock] at hg
 ·simp [Value.ownBlock] at hg
  subst hg;exact ⟨_,hc⟩
theorem zb5.push {w w4:World} {base cw n b:Nat} {v v':Value} {P:List (Nat × List Nat)} {l:List Nat} {o:Obj} (h:zb5 w base cw n v P) (hr:zak w b l) (hl:l.length=n) (hown:w4.ownsRow base 48 1 v' (P.length+1) ((P.map λ p=>.slice (some ⟨p.1,0,none⟩) n n)++[.slice (some ⟨b,0,none⟩) n n]))
 (hg:(w.alloc o).grownBy w4 v.ownBlock):zb5 (w4.setCell ⟨cw,0,none⟩ v') base cw n v' (P++[(b,l)])/\w4.cell? ⟨cw,0,none⟩=some v/\w4.frozen? ⟨cw,0,none⟩=false:=by
 have hne:∀k,k<w.heap.size->(∀cur,w.heap[k]? ≠some (.cells cur 48))->w4.heap[k]? =w.heap[k]? :=by
  intro k hk hn;have h1:(w.alloc o).heap[k]? =w.heap[k]? :=Below.heap_alloc w o k hk;rw [hg.block k (by simp;omega) (λ e=>?_),h1];obtain ⟨cur,hc⟩:=ziz h.own e.symm;exact hn cur hc
 have hbox:w4.heap[cw]? =some (.cells #[v] 51):=(hne cw (lt_of_some h.box) (λ cur=>by rw [h.box];simp)).trans h.box;have hrow:∀p∈P++[(b,l)],zak w4 p.1 p.2/\p.2.length=n:=by
  intro p hp;have h1:zak w p.1 p.2/\p.2.length=n:=by
   rcases List.mem_append.1 hp with hp | hp
   ·exact h.rows p hp
   ·rw [List.mem_singleton.1 hp];exact ⟨hr,hl⟩
  exact ⟨(hne p.1 h1.1.lt (λ cur=>by rw [h1.1];simp)).trans h1.1,h1.2⟩
 refine ⟨⟨?_,?_,?_⟩,by simp [World.cell?,hbox],by simp [World.frozen?,hbox]⟩
 ·have hv:v'.ownBlock≠some cw:=by
   intro e;obtain ⟨cur,hc⟩:=ziz hown e;rw [hbox] at hc;simp at hc
  have e1:(P++[(b,l)]).length=P.length+1:=by simp
  have e2:((P++[(b,l)]).map λ p=>Value.slice (some ⟨p.1,0,none⟩) n n)=(P.map λ p=>.slice (some ⟨p.1,0,none⟩) n n)++[.slice (some ⟨b,0,none⟩) n n]:=by simp
  rw [e1,e2];refine hown.kept (row:=some cw) ⟨rfl,rfl,rfl,by simp,λ i _ hi=>Below.heap_setCell _ _ _ _ (λ e=>hi (by rw [e]))⟩ ?_;exact Or.inr hv
 ·intro p hp
  refine ⟨?_,(hrow p hp).2⟩;show (w4.setCell ⟨cw,0,none⟩ v').heap[p.1]? =_;rw [Below.heap_setCell _ _ _ _ (λ e=>?_)]
  ·exact (hrow p hp).1
  ·have:=(hrow p hp).1
   unfold zak at this;have e':p.1=cw:=e;rw [e',hbox] at this;simp at this
 ·simp [World.setCell,Array.getElem?_modify,hbox]
theorem z7l (x y cw n base:Nat) (v:Value) (P:List (Nat × List Nat)) (s:Bool) (w:World) (h:zb5 w base cw n v P) (hp:0<P.length) (hpl:P.length<=20000) (hx:x<n) (hy:y<n) (hs:s=true↔∀p∈P,p.2.getD x 0=p.2.getD y 0):
 Calls prog 124 #[.int .i64 (x:Int),.int .i64 (y:Int),.pointer (some ⟨cw,0,none⟩)] w λ e w'=>e= .returned (.bool s)/\∃n,w'=w.drewN n:=by
 have HH:=kd h;obtain ⟨g,cap,rfl,hcells⟩:=h.shape hp;have HC:=kd hcells;have hbox:w.cell? ⟨cw,0,none⟩=some (.slice (some ⟨g,0,none⟩) P.length cap):=by simp [World.cell?,h.box]
 have HS:=kd hs;obtain ⟨m,hm⟩:∃m,P.length=m:=⟨_,rfl⟩;have HM:=kd hm;rw [hm] at hbox hpl;clear h hcells hs hm hp;go_enter func124,ntmps124;go_wp2_with fail;go_loopw [7,10] (λ _ s10 wq=>∃j:Nat,j<=m/\s10= .int .i64 j/\(∀i p,i<j->P[i]? =some p->p.2.getD x 0=p.2.getD y 0)/\∃q,wq=w.drewN q) (λ _ s10 _=>m-(intOf s10).toNat)
 case atStart=>exact ⟨0,Nat.zero_le _,rfl,λ i p hi=>by omega,0,rfl⟩
 case round=>
  obtain ⟨j,hj,rfl,hall,q,hq0⟩:=hrel;have HQ:=kd hq0;clear hq0;have HALL:=kd hall;clear hall;by_cases hlt:j<m
  ·obtain ⟨⟨b,l⟩,hpj⟩:∃p,P[j]? =some p:=⟨_,List.getElem?_eq_getElem (by rw [HM.out];exact hlt)⟩
   have HPJ:=kd hpj;have hrow:=HH.out.rows _ (List.mem_of_getElem? hpj);have c0:wr.cell? ⟨g,j,none⟩=some (.slice (some ⟨b,0,none⟩) n n):=by rw [HQ.out];exact HC.out j (b,l) hpj
   have cx:wr.cell? ⟨b,x,none⟩=some (.int .i64 ((l.getD x 0:Nat):Int)):=by rw [HQ.out];exact hrow.1.cell x (by rw [hrow.2];exact hx)
   have cy:wr.cell? ⟨b,y,none⟩=some (.int .i64 ((l.getD y 0:Nat):Int)):=by rw [HQ.out];exact hrow.1.cell y (by rw [hrow.2];exact hy)
   obtain ⟨X,hX⟩:∃X,l.getD x 0=X:=⟨_,rfl⟩;obtain ⟨Y,hY⟩:∃Y,l.getD y 0=Y:=⟨_,rfl⟩;rw [hX] at cx;rw [hY] at cy;have HXY:=kd (And.intro hX hY);clear hX hY hpj hrow hbox;by_cases hxy:X=Y
   ·subst hxy
    go_wp2_with fail;go_quiet (fail);clear c0 cx cy;go_wp2_with fail;go_roundw;case rel=>
     refine ⟨j+1,by omega,by go_num,λ i p hi hpi=>?_,q+nq,by rw [HQ.out,drewN_drewN]⟩;by_cases hij:i=j
     ·subst hij
      rw [HPJ.out] at hpi;injection hpi with hpi
      rw [<-hpi,HXY.out.1,HXY.out.2]
     ·exact HALL.out i p (by omega) hpi
    case measure=>simp [intOf];omega
   ·have hq:((X:Int)==(Y:Int))=false:=beq_eq_false_iff_ne.2 (by omega)
    have HF:Hid (s=false):=by
     show s=false;cases s with
     | false=>rfl
     | true=>
       have:=HS.out.1 rfl (b,l) (List.mem_of_getElem? HPJ.out);rw [HXY.out.1,HXY.out.2] at this;exact absurd this hxy
    go_wp2_with fail;go_quiet (fail);clear c0 cx cy;go_wp2_with fail;go_ret;exact ⟨by rw [HF.out];rfl,q+nq,by rw [HQ.out,drewN_drewN]⟩
  ·have hje:j=m:=by omega
   subst hje;have HF:Hid (s=true):=HS.out.2 (λ p hp=>by
    obtain ⟨i,hi,hpi⟩:=List.mem_iff_getElem.1 hp;exact HALL.out i p (by rw [<-HM.out];exact hi) (by rw [List.getElem?_eq_getElem hi,hpi]))
   go_wp2_with fail;go_ret;exact ⟨by rw [HF.out];rfl,q,HQ.out⟩
theorem zlc {w:World} {base n b:Nat} {l:List Nat} (hb:base<=w.heap.size) (hr:zak w b l) (hl:l.length=n):
 zb5 ((w.alloc (.cells #[.slice (some ⟨b,0,none⟩) n n] 48)).alloc (.cells #[.slice (some ⟨w.heap.size,0,none⟩) 1 1] 51)) base (w.heap.size+1) n (.slice (some ⟨w.heap.size,0,none⟩) 1 1) [(b,l)]:=by
 refine ⟨?_,?_,zj2 _ _ _⟩
 ·refine World.ownsRow.alloc ?_ _
  refine ⟨by simp,.inr ⟨w.heap.size,1,_,rfl,hb,heap_alloc_new w _,Nat.le_refl _,by unfold maxLen;omega,by simp,?_⟩⟩;simp
 ·intro p hp
  rw [List.mem_singleton.1 hp];exact ⟨(hr.alloc _).alloc _,hl⟩
def za7 (R:List Edg) (e f:Edg):List Edg:=R.filter λ d=>decide (d.1≠e.1)&&decide (d.1≠f.1)
theorem zqp (R:List Edg) (e f:Edg) (F Fn:Nat->Int) (h0:F 0=e.1) (h1:F 1=f.1):R.filter (G.stays F Fn 2 0)=za7 R e f:=by
 unfold za7;refine List.filter_congr (λ d _=>?_);have h3:G.among F 2 d.1=(decide (e.1=d.1) || decide (f.1=d.1)):=by
  simp only [G.among,List.range_succ,List.range_zero,List.nil_append,List.any_append,List.any_cons,List.any_nil,Bool.or_false,h0,h1];rw [Bool.eq_iff_iff];simp
 have h2:∀x,G.among Fn 0 x=false:=λ x=>by simp [G.among]
 unfold G.stays;rw [h3,h2,h2];by_cases hd:d.1=e.1
 ·simp [hd]
 ·by_cases hf:d.1=f.1
  ·simp [hf]
  ·simp [hd,hf,Ne.symm hd,Ne.symm hf]
theorem zif {n:Nat} {R:List Edg} (h:Inn n R) (e f:Edg):Inn n (za7 R e f):=λ d hd=>h d (List.mem_filter.1 hd).1
theorem znq (R:List Edg) (e f:Edg):(za7 R e f).length<=R.length:=List.length_filter_le _ _
theorem zvh (R:List Edg) (e f:Edg):za7 R e f=za7 R f e:=by
 unfold za7;exact List.filter_congr (λ d _=>Bool.and_comm _ _)
def zfr (n:Nat) (R:List Edg) (P:List (Nat × List Nat)) (i j:Nat):Prop:=
 ∀x y,x<n->y<n->((∀p∈P,p.2.getD x 0=p.2.getD y 0)↔(cnR R x y/\∀i' j' e f,(i'<i\/i'=i/\j'<j)->i'<=j'->R[i']? =some e->R[j']? =some f->cnR (za7 R e f) x y))
theorem zsi {n b:Nat} {R:List Edg} {l:List Nat} (h:∀u v,u<n->v<n->(l.getD u 0=l.getD v 0↔cnR R u v)):zfr n R [(b,l)] 0 0:=by
 intro x y hx hy;simp only [List.mem_singleton,forall_eq];rw [h x y hx hy];exact ⟨λ k=>⟨k,λ i' j' e f hi=>by omega⟩,λ k=>k.1⟩
theorem zu0 {n b i j:Nat} {R:List Edg} {l:List Nat} {P:List (Nat × List Nat)} {e f:Edg} (h:zfr n R P i j) (hi:R[i]? =some e) (hij:i<=j) (hj:R[j]? =some f) (hl:∀u v,u<n->v<n->(l.getD u 0=l.getD v 0↔cnR (za7 R e f) u v)):zfr n R (P++[(b,l)]) i (j+1):=by
 intro x y hx hy;have h1:=h x y hx hy;have h2:=hl x y hx hy;simp only [List.mem_append,List.mem_singleton];constructor
 ·intro k
  have k1:=h1.1 (λ p hp=>k p (.inl hp));refine ⟨k1.1,λ i' j' e' f' hh hle he' hf'=>?_⟩;by_cases hn:i'=i/\j'=j
  ·obtain ⟨rfl,rfl⟩:=hn
   rw [hi] at he';rw [hj] at hf';cases he';cases hf';exact h2.1 (k (b,l) (.inr rfl))
  ·exact k1.2 i' j' e' f' (by omega) hle he' hf'
 ·rintro ⟨k1,k2⟩ p (hp | rfl)
  ·exact h1.2 ⟨k1,λ i' j' e' f' hh=>k2 i' j' e' f' (by omega)⟩ p hp
  ·exact h2.2 (k2 i j e f (by omega) hij hi hj)
theorem zvj {n i m:Nat} {R:List Edg} {P:List (Nat × List Nat)} (hm:R.length=m) (h:zfr n R P i m):zfr n R P (i+1) (i+1):=by
 intro x y hx hy;rw [h x y hx hy];constructor
 ·rintro ⟨k1,k2⟩
  refine ⟨k1,λ i' j' e f hh hle he hf=>k2 i' j' e f ?_ hle he hf⟩;have:=(List.getElem?_eq_some_iff.1 hf).1;omega
 ·rintro ⟨k1,k2⟩
  exact ⟨k1,λ i' j' e f hh hle he hf=>k2 i' j' e f (by omega) hle he hf⟩
theorem zxx {n m j:Nat} {R:List Edg} {P:List (Nat × List Nat)} (hm:R.length=m) (h:zfr n R P m j) {x y:Nat} (hx:x<n) (hy:y<n):(∀p∈P,p.2.getD x 0=p.2.getD y 0)↔(cnR R x y/\∀e∈R,∀f∈R,cnR (za7 R e f) x y):=by
 rw [h x y hx hy];constructor
 ·rintro ⟨k1,k2⟩
  refine ⟨k1,λ e he f hf=>?_⟩;obtain ⟨i,hi⟩:=List.getElem?_of_mem he;obtain ⟨j,hj⟩:=List.getElem?_of_mem hf;have h1:=(List.getElem?_eq_some_iff.1 hi).1;have h2:=(List.getElem?_eq_some_iff.1 hj).1;by_cases hij:i<=j
  ·exact k2 i j e f (by omega) hij hi hj
  ·rw [zvh]
   exact k2 j i f e (by omega) (by omega) hj hi
 ·rintro ⟨k1,k2⟩
  exact ⟨k1,λ i' j' e f _ _ he hf=>k2 e (List.mem_of_getElem? he) f (List.mem_of_getElem? hf)⟩
theorem zj3 {w:World} {k t:Nat} {v:Value} (h:w.heap[k]? =some (.cells #[v] t)):w.cell? ⟨k,0,none⟩=some v:=by simp [World.cell?,h]
theorem zn9 {w:World} {base e k:Nat} {v:Value} {xs:List Value} (h:w.ownsRow base e 1 v k xs) (hk:0<k):∃g cap,v= .slice (some ⟨g,0,none⟩) k cap:=by
 rcases h.2 with ⟨_,hz⟩ | ⟨g,cap,cur,rfl,_⟩
 ·omega
 ·exact ⟨g,cap,rfl⟩
theorem zta (w:World) (x y:Int):G.Ints (w.alloc (.cells #[.int .i64 x,.int .i64 y] 3)) (some ⟨w.heap.size,0,none⟩) 2 (λ t=>if t=0 then x else y):=
 ⟨λ _=>⟨w.heap.size,0,rfl,λ t ht=>by
   have:t=0\/t=1:=by omega
   rcases this with rfl | rfl <;> simp⟩⟩
theorem zu1 (n B q:Nat) (u:Value) (R:List Edg) (L:List Nat) (w:World) (h:G.GAt w B 40 61 q (n:Int) u R) (hl:R.length<=120) (hn:n<=40) (hin:Inn n R) (hg:Good n L) (hL:∀x y,x<n->y<n->(L.getD x 0=L.getD y 0↔(cnR R x y/\∀e∈R,∀f∈R,cnR (za7 R e f) x y))):
 Calls prog 67 #[.pointer (some ⟨q,0,none⟩)] w (zb9 w (zao L n)):=by
 have HG:=kd h;have HLL:=kd hL;have HIN:=kd hin;have hmf':=hmf;obtain ⟨i0,hi0,hz0,hz1,hz2⟩:=info_parts Tryz.info48;obtain ⟨m,hm⟩:∃m,m=R.length:=⟨_,rfl⟩;have HM:=kd hm;obtain ⟨ua,uc,hv⟩:=h.row.zal;rw [<-hm] at hv hl;have HV:=kd hv;clear h hL hin hm hv;go_enter func67,ntmps67;go_wp2_with fail;refine (zbk n B q u R w HG.out (by rw [<-HM.out];omega) hn HIN.out).mono ?_;rintro e w1 ⟨b0,l0,rfl,hr,hb,hll,hlab,hbl⟩;have HA0:Hid (zb5 ((w1.alloc (.cells #[.slice (some ⟨b0,0,none⟩) n n] 48)).alloc (.cells #[.slice (some ⟨w1.heap.size,0,none⟩) 1 1] 51)) w1.heap.size (w1.heap.size+1) n (.slice (some ⟨w1.heap.size,0,none⟩) 1 1) [(b0,l0)]):=zlc (Nat.le_refl _) hr hll;have HS0:Hid (zfr n R [(b0,l0)] 0 0):=zsi hlab;have HB0:Hid (Below w.heap.size w ((w1.alloc (.cells #[.slice (some ⟨b0,0,none⟩) n n] 48)).alloc (.cells #[.slice (some ⟨w1.heap.size,0,none⟩) 1 1] 51))):=hbl.trans ((za9 _ _ _).mono hbl.size);have hws:=hbl.size;have hg0:=HG.out.below HB0.out;have hu1:((w1.alloc (.cells #[.slice (some ⟨b0,0,none⟩) n n] 48)).alloc (.cells #[.slice (some ⟨w1.heap.size,0,none⟩) 1 1] 51)).cell? ⟨q,1,none⟩=some (.slice ua m uc):=by have:=hg0.c1;rwa [HV.out] at this
 clear hr hb hlab hbl hg0;go_wp2_with fail;go_loopw [16] (λ s16 wq=>∃(i:Nat) (v:Value) (P:List (Nat × List Nat)),i<=m/\s16= .int .i64 i/\0<P.length/\P.length<=1+120*i/\zb5 wq w1.heap.size (w1.heap.size+1) n v P/\zfr n R P i i/\Below w.heap.size w wq) (λ s16 _=>m-(intOf s16).toNat)
 case atStart=>exact ⟨0,_,_,Nat.zero_le _,rfl,by simp,by simp,HA0.out,HS0.out,HB0.out⟩
 case round=>
  obtain ⟨i,v,P,hi,rfl,hP0,hPl,hA,hS,hb⟩:=hrel;have HA:=kd hA;have HS:=kd hS;have HB:=kd hb;have hbs:=hb.size;clear hA hS hb HA0 HS0 HB0 hu1;by_cases hlt:i<m
  ·rename World=>wo
   obtain ⟨⟨x0,x1,x2⟩,hx⟩:∃e,R[i]? =some e:=⟨_,List.getElem?_eq_getElem (by rw [<-HM.out];exact hlt)⟩;have HX:=kd hx;obtain ⟨g,hua,hcap⟩:∃g,ua=some ⟨g,0,none⟩/\m<=uc:=by
    rcases HG.out.row.2 with ⟨_,e⟩ | ⟨g,cap,cur,e,_,_,h4,_⟩
    ·have:=HM.out;omega
    ·rw [HV.out] at e
     injection e with e1 e2 e3
     exact ⟨g,e1,by have:=HM.out;omega⟩
   obtain ⟨r0,r1,r2⟩:=(HG.out.below HB.out).row.at (g:=g) (by rw [HV.out,hua];rfl) hx;simp only at r0 r1 r2;subst hua;clear hx;have hbW:Below wo.heap.size wo (wo.alloc (.cells #[.int .i64 x0,.int .i64 x1,.int .i64 x2] 61)):=(Below.refl _ _).alloc (Nat.le_refl _) _;have HI0:Hid (zb5 (wo.alloc (.cells #[.int .i64 x0,.int .i64 x1,.int .i64 x2] 61)) w1.heap.size (w1.heap.size+1) n v P/\(wo.alloc (.cells #[.int .i64 x0,.int .i64 x1,.int .i64 x2] 61)).heap[wo.heap.size]? =some (.cells #[.int .i64 x0,.int .i64 x1,.int .i64 x2] 61)/\Below w.heap.size w (wo.alloc (.cells #[.int .i64 x0,.int .i64 x1,.int .i64 x2] 61))):=⟨HA.out.below hbW,heap_alloc_new wo _,HB.out.trans (hbW.mono hbs)⟩;have hu2:(wo.alloc (.cells #[.int .i64 x0,.int .i64 x1,.int .i64 x2] 61)).cell? ⟨q,1,none⟩=some (.slice (some ⟨g,0,none⟩) m uc):=by have:=(HG.out.below HI0.out.2.2).c1;rwa [HV.out] at this
   have hwo1:w1.heap.size+1<wo.heap.size:=lt_of_some HA.out.box;have hb2:(i:Int)<=(m:Int):=by omega
   have hb4:(i:Int)<=(uc:Int):=by omega
   have hb5:(m:Int)<=(uc:Int):=by omega
   have hcj:¬uc=i:=by omega
   clear hbW HA;go_wp2_with fail;clear r0 r1 r2 hu2 hb2 hb4 hb5 hcj hcap;obtain ⟨r,hr⟩:∃r,m-i=r:=⟨_,rfl⟩;have HR:Hid (i+r=m):=by show i+r=m;omega
   have hr30:r<=120:=by omega
   rw [hr];clear hr;go_loopw [28] (λ s28 wq=>∃(k:Nat) (v:Value) (P:List (Nat × List Nat)),k<=r/\s28= .int .i64 k/\0<P.length/\P.length<=1+120*i+k/\zb5 wq w1.heap.size (w1.heap.size+1) n v P/\zfr n R P i (i+k)/\wq.heap[wo.heap.size]? =some (.cells #[.int .i64 x0,.int .i64 x1,.int .i64 x2] 61)/\Below w.heap.size w wq) (λ s28 _=>r-(intOf s28).toNat)
   case atStart=>exact ⟨0,v,P,Nat.zero_le _,rfl,hP0,hPl,HI0.out.1,HS.out,HI0.out.2.1,HI0.out.2.2⟩
   case round=>
    clear HI0 HS HB hP0 hPl hbs;obtain ⟨k,v,P,hk,rfl,hP0,hPl,hA,hS,hcx,hb⟩:=hrel;have HA:=kd hA;have HS:=kd hS;have HB:=kd (And.intro hb hcx);have HPL:=kd hPl;have hbs:=hb.size;have hwor:wo.heap.size<wr.heap.size:=lt_of_some hcx;clear hA hS hb hcx;by_cases hltk:k<r
    ·as_aux_lemma=>
     obtain ⟨⟨y0,y1,y2⟩,hy⟩:∃e,R[i+k]? =some e:=⟨_,List.getElem?_eq_getElem (by rw [<-HM.out,<-HR.out];omega)⟩;have HY:=kd hy;obtain ⟨r0,r1,r2⟩:=(HG.out.below HB.out.1).row.at (g:=g) (by rw [HV.out];rfl) hy;simp only at r0 r1 r2;have ea0:(i+k)*3=i*3+k*3:=by omega
     have s0:wr.cell? ⟨g,i*3+k*3,none⟩=some (.int .i64 y0):=by rw [<-ea0];exact r0
     have s1:wr.cell? ⟨g,i*3+k*3+1,none⟩=some (.int .i64 y1):=by rw [<-ea0];exact r1
     have s2:wr.cell? ⟨g,i*3+k*3+2,none⟩=some (.int .i64 y2):=by rw [<-ea0];exact r2
     clear hy r0 r1 r2 ea0;obtain ⟨W1,hW1⟩:∃W1,W1=wr.alloc (.cells #[.int .i64 y0,.int .i64 y1,.int .i64 y2] 61):=⟨_,rfl⟩;have hh:W1.heap[wr.heap.size]? =some (.cells #[.int .i64 y0,.int .i64 y1,.int .i64 y2] 61):=by rw [hW1];exact heap_alloc_new wr _
     have hbW:Below wr.heap.size wr W1:=by rw [hW1];exact (Below.refl _ _).alloc (Nat.le_refl _) _
     have hsz:W1.heap.size=wr.heap.size+1:=by rw [hW1];simp
     have HBX:Hid (W1.heap[wr.heap.size]? =some (.cells #[.int .i64 y0,.int .i64 y1,.int .i64 y2] 61)/\W1.heap[wo.heap.size]? =some (.cells #[.int .i64 x0,.int .i64 x1,.int .i64 x2] 61)):=⟨hh,(hbW.block _ hwor).trans HB.out.2⟩;have HBW:Hid (Below w.heap.size w W1):=HB.out.1.trans (hbW.mono hbs);have HAW:Hid (zb5 W1 w1.heap.size (w1.heap.size+1) n v P):=HA.out.below hbW;have HW1:=kd hW1.symm;have HPK:Hid (∀w',Below W1.heap.size W1 w'->w'.cell? ⟨wr.heap.size,0,none⟩=some (.int .i64 y0)/\w'.cell? ⟨wo.heap.size,0,none⟩=some (.int .i64 x0)/\w'.cell? ⟨w1.heap.size+1,0,none⟩=some v/\zb5 w' w1.heap.size (w1.heap.size+1) n v P/\w'.heap[wo.heap.size]? =some (.cells #[.int .i64 x0,.int .i64 x1,.int .i64 x2] 61)):=λ w' hb=>by
      have h1:w'.heap[wr.heap.size]? =some (.cells #[.int .i64 y0,.int .i64 y1,.int .i64 y2] 61):=(hb.block _ (by omega)).trans HBX.out.1;have h2:=(hb.block _ (lt_of_some HBX.out.2)).trans HBX.out.2;exact ⟨by simp [World.cell?,h1],by simp [World.cell?,h2],zj3 (HAW.out.below hb).box,HAW.out.below hb,h2⟩
     have hlt1:w1.heap.size+1<W1.heap.size:=lt_of_some HAW.out.box;have HWO:Hid (Calls prog 58 #[.pointer (some ⟨q,0,none⟩),.slice (some ⟨wr.heap.size+1,0,none⟩) 2 2,.slice none 0 0] (W1.alloc (.cells #[.int .i64 x0,.int .i64 y0] 3)).drew λ e w'=>∃q' v',e= .returned (.pointer (some ⟨q',0,none⟩))/\G.GAt w' W1.heap.size 40 61 q' (n:Int) v' (za7 R (x0,x1,x2) (y0,y1,y2))/\Below W1.heap.size W1 w'):=by
      have hb2:Below W1.heap.size W1 (W1.alloc (.cells #[.int .i64 x0,.int .i64 y0] 3)).drew:=((Below.refl _ _).alloc (Nat.le_refl _) _).drew;have hgW:=(HG.out.below HBW.out).below hb2;have h1i:G.Ints (W1.alloc (.cells #[.int .i64 x0,.int .i64 y0] 3)).drew (some ⟨wr.heap.size+1,0,none⟩) 2 (λ t=>if t=0 then x0 else y0):=by
       have:=zta W1 x0 y0;rw [hsz] at this;exact this.below ((Below.refl _ _).drew)
      refine (G.zbw (n:Int) B q u R _ none 2 0 2 0 (λ t=>if t=0 then x0 else y0) (λ _=>0) _ hgW (by rw [<-HM.out];omega) h1i (zlq _) (by omega) (by omega)).mono ?_;rintro e w' ⟨q',v',rfl,hg',hb'⟩;rw [zqp R (x0,x1,x2) (y0,y1,y2) _ _ (by simp) (by simp)] at hg';refine ⟨q',v',rfl,⟨hg'.hp,hg'.row.mono ?_,hg'.ne⟩,hb2.trans (hb'.mono ?_)⟩
      ·exact hb2.size
      ·exact hb2.size
     have bA:Below W1.heap.size W1 W1.drew:=(Below.refl _ _).drew;have bB:Below W1.heap.size W1 (W1.alloc (.cells #[.int .i64 x0,.int .i64 y0] 3)):=(Below.refl _ _).alloc (Nat.le_refl _) _;have bC:Below W1.heap.size W1 (W1.alloc (.cells #[.int .i64 x0,.int .i64 y0] 3)).drew:=((Below.refl _ _).alloc (Nat.le_refl _) _).drew;obtain ⟨a1,a2,a3,_,_⟩:=HPK.out W1 (Below.refl _ _);obtain ⟨b1,b2,b3,_,_⟩:=HPK.out _ bA;obtain ⟨c1,c2,c3,_,_⟩:=HPK.out _ bB;obtain ⟨d1,d2,d3,_,_⟩:=HPK.out _ bC;have hP1:P.length<=20000:=by omega
     clear hh hbW hW1 bA bB bC;go_upto_region 8 with fail
     rw [HW1.out];clear s0 s1 s2
     go_region_law
      (first
        | (obtain ⟨v5,w5,hrun,hown5,hgrow5,_,_⟩:=run_append_own_at (P:=prog) (w3.alloc (.cells #[.slice (some ⟨b,0,none⟩) n n] 48)) w1.heap.size 51 51 48 i0 (.slice none 0 0) 1 24 underlying51 hi0 hz0 hz1 hz2 rfl (by decide) v P.length _ (HA3.out.own.alloc _) ⟨w3.heap.size,0,none⟩ 1 1 [.slice (some ⟨b,0,none⟩) n n] rfl (cell_one_new _ _ _) (zcu _ _ _) (by unfold maxLen;omega) (by omega) (by simp;omega)
           obtain ⟨g5,cap5,rfl⟩:=zn9 hown5 (by omega);refine G.zau rfl (.tmp 32) (.tmp 41) 51 51 rfl v (.slice (some ⟨w3.heap.size,0,none⟩) 1 1) (by first | rfl | (simp [Act.eval];done) | (simp [Act.eval,Act.put];done)) (by first | rfl | (simp [Act.eval];done) | (simp [Act.eval,Act.put];done)) hrun ?_;obtain ⟨hA5,c5,f5⟩:=HA3.out.push HR3.out.1 HR3.out.2.1 hown5 hgrow5)
        | (go_simp;go_at_call 58;refine Calls.mono HWO.out ?_;rintro e' w2 ⟨q',v',rfl,hg2,hb2⟩;obtain ⟨m1,m2,m3,m4,_⟩:=HPK.out w2 hb2;have HG2:Hid (G.GAt w2 W1.heap.size 40 61 q' (n:Int) v' (za7 R (x0,x1,x2) (y0,y1,y2))/\Below W1.heap.size W1 w2):=⟨hg2,hb2⟩;clear hg2 hb2 m4)
        | (go_simp;go_at_call 59;refine (zbk n W1.heap.size q' v' (za7 R (x0,x1,x2) (y0,y1,y2)) w2 HG2.out.1 (Nat.le_trans (znq _ _ _) (by rw [<-HM.out];omega)) hn (zif HIN.out _ _)).mono ?_;rintro e' w3 ⟨b,l,rfl,hr,hbb,hll',hlab,hb3⟩;have HW3:Hid (Below W1.heap.size W1 w3):=HG2.out.2.trans (hb3.mono HG2.out.2.size);obtain ⟨m5,m6,m7,m8,_⟩:=HPK.out w3 HW3.out;have m9:(w3.alloc (.cells #[.slice (some ⟨b,0,none⟩) n n] 48)).cell? ⟨w1.heap.size+1,0,none⟩=some v:=(HPK.out _ (HW3.out.alloc HW3.out.size _)).2.2.1;have HA3:Hid (zb5 w3 w1.heap.size (w1.heap.size+1) n v P):=m8;have HR3:Hid (zak w3 b l/\l.length=n/\(∀u v,u<n->v<n->(l.getD u 0=l.getD v 0↔cnR (za7 R (x0,x1,x2) (y0,y1,y2)) u v))):=⟨hr,hll',hlab⟩;have hs3:=HW3.out.size;clear hr hbb hlab hb3 m8 hll'))
     all_goals
      have hF0:(zb5 (w5.setCell ⟨w1.heap.size+1,0,none⟩ (.slice (some ⟨g5,0,none⟩) (P.length+1) cap5)) w1.heap.size (w1.heap.size+1) n (.slice (some ⟨g5,0,none⟩) (P.length+1) cap5) (P++[(b,l)])/\(w5.setCell ⟨w1.heap.size+1,0,none⟩ (.slice (some ⟨g5,0,none⟩) (P.length+1) cap5)).heap[wo.heap.size]? =some (.cells #[.int .i64 x0,.int .i64 x1,.int .i64 x2] 61)/\Below w.heap.size w (w5.setCell ⟨w1.heap.size+1,0,none⟩ (.slice (some ⟨g5,0,none⟩) (P.length+1) cap5))):=by
       have hb3:Below w.heap.size w w3:=HBW.out.trans (HW3.out.mono HBW.out.size);refine ⟨hA5,?_,(hb3.grown ((World.grownBy_alloc w3 _ _).trans hgrow5) hb3.size (λ j hj=>Nat.le_trans hws (HA3.out.own.lt j hj).1)).setCell (show w.heap.size<=w1.heap.size+1 by omega) _⟩;have hc3:=(HPK.out w3 HW3.out).2.2.2.2;have hl3:=lt_of_some hc3;have hne:v.ownBlock≠some wo.heap.size:=λ e=>by
        obtain ⟨cur,hcur⟩:=ziz HA3.out.own e;rw [hc3] at hcur;simp at hcur
       rw [Below.heap_setCell _ _ _ _ (show wo.heap.size≠w1.heap.size+1 by omega),hgrow5.block wo.heap.size (by simp;omega) (λ e=>hne e.symm),Below.heap_alloc _ _ _ hl3];exact hc3
      have HF:Hid _:=hF0;clear hA5 hgrow5 hown5 hrun c5 f5 hF0;go_wp2_with fail;go_roundw;case rel=>exact ⟨k+1,_,P++[(b,l)],by omega,by go_num,by simp,by have:=HPL.out;rw [List.length_append,List.length_singleton];omega,HF.out.1,zu0 HS.out HX.out (Nat.le_add_right _ _) HY.out HR3.out.2.2,HF.out.2.1,HF.out.2.2⟩
      case measure=>simp [intOf];omega
    ·as_aux_lemma=>
     have HF:Hid (zfr n R P (i+1) (i+1)):=by
      have h1:=HS.out;have e1:i+k=m:=by have:=HR.out;omega
      rw [e1] at h1;exact zvj HM.out.symm h1
     clear HS;go_wp2_with fail;go_roundw;case rel=>exact ⟨i+1,v,P,by omega,by go_num,hP0,by omega,HA.out,HF.out,HB.out.1⟩
     case measure=>simp [intOf];omega
  ·as_aux_lemma=>
   have hie:i=m:=by omega
   have hgr:=HG.out.below HB.out;have hc:=hgr.c0;have HAL:Hid (Alike 124 wr n (w1.heap.size+1) L):=by
    intro W' hW' x y s hx hy hs;refine z7l x y (w1.heap.size+1) n w1.heap.size v P s W' (HA.out.below hW') hP0 (by omega) hx hy ?_;have h1:=HS.out;rw [hie] at h1;rw [zxx HM.out.symm h1 hx hy,<-HLL.out x y hx hy,<-hs,beq_iff_eq];omega
   clear hgr;go_wp2_with fail;refine (zsq n (w1.heap.size+1) L wr HAL.out hg hn).mono ?_;rintro e w2 ⟨t,r,c,rfl,hP,hb2⟩;have HF:Hid (zb9 w (zao L n) (.returned t) w2):=zgy hP hb2 HB.out;clear hP hb2;go_wp2;go_ret;exact HF.out
open Go.RowKit Go.WideMaps Go.Maps
theorem zik {n:Nat} {l l':List Nat} (h:Good n l) (h':Good n l') (he:∀u v,u<n->v<n->(l.getD u 0=l.getD v 0↔l'.getD u 0=l'.getD v 0)):l=l':=by
 have half:∀{l l':List Nat},Good n l->Good n l'->(∀u v,u<n->v<n->(l.getD u 0=l.getD v 0↔l'.getD u 0=l'.getD v 0))->∀i,i<n->l'.getD i 0<=l.getD i 0:=by
  intro l l' h h' he i hi;have h1:=h.le i hi;have h2:=(he (l.getD i 0) i (by omega) hi).1 (h.idem i hi);rw [<-h2];exact h'.le _ (by omega)
 apply List.ext_getElem
 ·rw [h.len,h'.len]
 ·intro i h1 h2
  have a1:=half h h' he i (by rw [<-h.len];exact h1);have a2:=half h' h (λ u v hu hv=>(he u v hu hv).symm) i (by rw [<-h.len];exact h1);simp [List.getD_eq_getElem?_getD,List.getElem?_eq_getElem h1,List.getElem?_eq_getElem h2] at a1 a2;omega
theorem znc {n:Nat} {T:List Edg} {l:List Nat} (hg:Good n l) (hin:Inn n T) (hl:∀u v,u<n->v<n->(l.getD u 0=l.getD v 0↔cnR T u v)):l=lbl n T:=by
 have hN:zbj n T:=λ e he=>⟨(hin e he).1,(hin e he).2.1⟩
 exact zik hg (zcd hN) (λ u v hu hv=>by rw [hl u v hu hv,zb6 hN hu hv])
def zdh (n:Nat) (l:List Nat):Nat:=cnt (λ x=>decide (x=l.getD x 0)) n
theorem cnt_mono {f g:Nat->Bool}:∀{n},(∀i,i<n->f i=true->g i=true)->cnt f n<=cnt g n
 | 0,_=>Nat.le_refl _
 | n+1,h=>by
   have ih:=cnt_mono (f:=f) (g:=g) (n:=n) (λ i hi=>h i (by omega));have h1:=h n (by omega);simp only [cnt];cases hf:f n with
   | false=>simp;omega
   | true=>simp [h1 hf];omega
theorem zti {f g:Nat->Bool}:∀{n},(∀i,i<n->f i=true->g i=true)->cnt f n=cnt g n->∀i,i<n->f i=g i
 | 0,_,_,i,hi=>by omega
 | n+1,h,he,i,hi=>by
   have ih:=zti (f:=f) (g:=g) (n:=n) (λ i hi=>h i (by omega));have hm:=cnt_mono (f:=f) (g:=g) (n:=n) (λ i hi=>h i (by omega));have h1:=h n (by omega);simp only [cnt] at he;have hn:f n=g n:=by
    cases hf:f n with
    | true=>rw [h1 hf]
    | false=>
      cases hg:g n with
      | false=>rfl
      | true=>simp [hf,hg] at he;omega
   by_cases e:i=n
   ·rw [e];exact hn
   ·exact ih (by rw [hn] at he;omega) i (by omega)
theorem zsw {n:Nat} {l l':List Nat} (h:Good n l) (h':Good n l') (hf:∀u v,u<n->v<n->l'.getD u 0=l'.getD v 0->l.getD u 0=l.getD v 0):zdh n l<=zdh n l'/\(zdh n l=zdh n l'↔l'=l):=by
 have hsub:∀i,i<n->decide (i=l.getD i 0)=true->decide (i=l'.getD i 0)=true:=λ i hi hd=>by
  have h1:=of_decide_eq_true hd;have h2:=h'.le i hi;have h3:=hf (l'.getD i 0) i (by omega) hi (h'.idem i hi);have h4:=h.le (l'.getD i 0) (by omega);exact decide_eq_true (by omega)
 refine ⟨cnt_mono hsub,λ he=>?_,λ he=>by rw [he]⟩;have hall:=zti hsub he;refine zik h' h (λ u v hu hv=>⟨hf u v hu hv,λ huv=>?_⟩);have same:∀u,u<n->l'.getD u 0=l.getD u 0:=λ u hu=>by
  have h1:=h'.le u hu;have h2:=h'.idem u hu;have h3:=hall (l'.getD u 0) (by omega);rw [decide_eq_true h2.symm] at h3;have h4:=of_decide_eq_true h3;have h5:=hf (l'.getD u 0) u (by omega) hu h2;omega
 rw [same u hu,same v hv];exact huv
theorem zjd (b n:Nat) (l:List Nat) (w:World) (hr:zak w b l) (hl:l.length=n) (hn:n<=40):
 Calls prog 122 #[.slice (some ⟨b,0,none⟩) n n] w λ e w'=>e= .returned (.int .i64 (zdh n l:Int))/\w'=w:=by
 have HR:=kd (And.intro hr hl);clear hr hl;go_enter func122,ntmps122;go_wp2_with fail;go_loopw [3,8] (λ s3 s8 wq=>∃k:Nat,k<=n/\s8= .int .i64 k/\s3= .int .i64 ((cnt (λ x=>decide (x=l.getD x 0)) k:Nat):Int)/\wq=w) (λ _ s8 _=>n-(intOf s8).toNat)
 case atStart=>exact ⟨0,Nat.zero_le _,rfl,rfl,rfl⟩
 case round=>
  obtain ⟨k,hk,rfl,rfl,rfl⟩:=hrel;have hcl:=zi6 (λ x=>decide (x=l.getD x 0)) k;have HC:Hid (cnt (λ x=>decide (x=l.getD x 0)) (k+1)=(if decide (k=l.getD k 0) then cnt (λ x=>decide (x=l.getD x 0)) k+1 else cnt (λ x=>decide (x=l.getD x 0)) k)):=by
   show cnt (λ x=>decide (x=l.getD x 0)) k+(if decide (k=l.getD k 0)=true then 1 else 0)=_;by_cases hd:decide (k=l.getD k 0)=true
   ·rw [if_pos hd,if_pos hd]
   ·rw [if_neg hd,if_neg hd];rfl
  obtain ⟨c,hc⟩:∃c,cnt (λ x=>decide (x=l.getD x 0)) k=c:=⟨_,rfl⟩;have HCC:=kd hc;rw [hc] at HC hcl ⊢;clear hc;by_cases hlt:k<n
  ·have hcell:=HR.out.1.cell k (by rw [HR.out.2];exact hlt)
   obtain ⟨z,hz⟩:∃z,l.getD k 0=z:=⟨_,rfl⟩;rw [hz] at HC hcell;clear hz;by_cases he:k=z
   ·as_aux_lemma=>
    subst he;have HC2:Hid (cnt (λ x=>decide (x=l.getD x 0)) (k+1)=c+1):=by show cnt _ _=_;rw [HC.out];simp
    clear HC;go_wp2_with fail;go_roundw;case rel=>exact ⟨k+1,by omega,by go_num,by rw [HC2.out];go_num,trivial⟩
    case measure=>simp [intOf];omega
   ·as_aux_lemma=>
    have HC2:Hid (cnt (λ x=>decide (x=l.getD x 0)) (k+1)=c):=by show cnt _ _=_;rw [HC.out];simp [he]
    have hq:((k:Int)==(z:Int))=false:=beq_eq_false_iff_ne.2 (by omega);clear HC he;go_wp2_with fail;go_roundw;case rel=>exact ⟨k+1,by omega,by go_num,by rw [HC2.out],trivial⟩
    case measure=>simp [intOf];omega
  ·as_aux_lemma=>
   have hke:k=n:=by omega
   have HF:Hid (zdh n l=c):=by show zdh n l=c;rw [<-HCC.out,hke];rfl
   clear HC hke;go_wp2_with fail;go_ret;exact ⟨by simp [HF.out],rfl⟩
def nP (n:Nat) (T:List Edg):Nat:=zdh n (lbl n T)
structure Bx (w:World) (B q n N:Nat) (u:Value) (R:List Edg) (bq bn:Nat):Prop where
 ga:G.GAt w B 40 61 q (n:Int) u R
 cq:w.cell? ⟨bq,0,none⟩=some (.pointer (some ⟨q,0,none⟩))
 cn:w.cell? ⟨bn,0,none⟩=some (.int .i64 (N:Int))
theorem Bx.below {w w':World} {B q n N:Nat} {u:Value} {R:List Edg} {bq bn:Nat} (h:Bx w B q n N u R bq bn) (hb:Below w.heap.size w w'):Bx w' B q n N u R bq bn:=⟨h.ga.below hb,cell_below h.cq hb,cell_below h.cn hb⟩
theorem zr2 (B q n N:Nat) (u:Value) (R:List Edg) (bq bn:Nat) (e:Edg) (s:Bool) (w:World) (h:Bx w B q n N u R bq bn) (hl:R.length<=120) (hn:n<=40) (hin:Inn n R) (hs:decide (nP n (rest R e)=N)=s):
 Calls prog 123 #[.int .i64 e.1,.pointer (some ⟨bq,0,none⟩),.pointer (some ⟨bn,0,none⟩)] w λ en w'=>en= .returned (.bool s)/\Below w.heap.size w w':=by
 obtain ⟨x,hx⟩:∃x,e.1=x:=⟨_,rfl⟩;have HX:Hid (Bx w B q n N u R bq bn/\Inn n R/\e.1=x/\decide (nP n (rest R e)=N)=s):=⟨h,hin,hx,hs⟩;have HPK:Hid (∀w',Below w.heap.size w w'->w'.cell? ⟨bq,0,none⟩=some (.pointer (some ⟨q,0,none⟩))/\w'.cell? ⟨bn,0,none⟩=some (.int .i64 (N:Int))):=λ w' hb=>⟨(h.below hb).cq,(h.below hb).cn⟩
 have HWO:Hid (Calls prog 58 #[.pointer (some ⟨q,0,none⟩),.slice (some ⟨w.heap.size,0,none⟩) 1 1,.slice none 0 0] (w.alloc (.cells #[.int .i64 x] 3)).drew λ e' w'=>∃q' v',e'= .returned (.pointer (some ⟨q',0,none⟩))/\G.GAt w' w.heap.size 40 61 q' (n:Int) v' (rest R e)/\Below w.heap.size w w'):=by
  subst hx;have hb2:Below w.heap.size w (w.alloc (.cells #[.int .i64 e.1] 3)).drew:=((Below.refl _ _).alloc (Nat.le_refl _) _).drew;have h1i:G.Ints (w.alloc (.cells #[.int .i64 e.1] 3)).drew (some ⟨w.heap.size,0,none⟩) 1 (λ _=>e.1):=(zq7 w e.1).below ((Below.refl _ _).drew);refine (G.zbw (n:Int) B q u R _ none 1 0 1 0 (λ _=>e.1) (λ _=>0) _ (h.ga.below hb2) hl h1i (zlq _) (by omega) (by omega)).mono ?_;rintro e' w' ⟨q',v',rfl,hg',hb'⟩;rw [zna R e] at hg';exact ⟨q',v',rfl,⟨hg'.hp,hg'.row.mono hb2.size,hg'.ne⟩,hb2.trans (hb'.mono hb2.size)⟩
 have HSB:Hid ((((nP n (rest R e):Nat):Int)==(N:Int))=s):=by
  show _=_;rw [<-hs];rw [Bool.eq_iff_iff,beq_iff_eq,decide_eq_true_iff];omega
 obtain ⟨a1,a2⟩:=HPK.out w (Below.refl _ _);obtain ⟨b1,b2⟩:=HPK.out w.drew (Below.refl _ _).drew;obtain ⟨c1,c2⟩:=HPK.out (w.alloc (.cells #[.int .i64 x] 3)) ((Below.refl _ _).alloc (Nat.le_refl _) _);obtain ⟨d1,d2⟩:=HPK.out (w.alloc (.cells #[.int .i64 x] 3)).drew ((Below.refl _ _).alloc (Nat.le_refl _) _).drew;rw [hx];clear h hin hx hs;go_enter func123,ntmps123;go_upto_region 1 with fail
 go_region_law
  (first
    | (go_simp;go_at_call 58;refine Calls.mono HWO.out ?_;rintro e' w2 ⟨q',v',rfl,hg2,hb2⟩;obtain ⟨m1,m2⟩:=HPK.out w2 hb2;have HG2:Hid (G.GAt w2 w.heap.size 40 61 q' (n:Int) v' (rest R e)/\Below w.heap.size w w2):=⟨hg2,hb2⟩;clear hg2 hb2)
    | (go_simp;go_at_call 59;refine (zfc n w.heap.size q' v' (rest R e) w2 HG2.out.1 (Nat.le_trans (zke _ _) hl) hn (zhp HX.out.2.1 _)).mono ?_;rintro e' w3 ⟨b,l,rfl,hr,hbb,hgd,hlab,hb3⟩;have HW3:Hid (Below w.heap.size w w3):=HG2.out.2.trans (hb3.mono HG2.out.2.size);obtain ⟨m3,m4⟩:=HPK.out w3 HW3.out;have HR3:Hid (zak w3 b l/\l.length=n/\zdh n l=nP n (rest R e)):=⟨hr,hgd.len,by rw [znc hgd (zhp HX.out.2.1 _) hlab];rfl⟩;clear hr hbb hlab hb3 hgd)
    | (go_simp;go_at_call 122;refine (zjd b n l w3 HR3.out.1 HR3.out.2.1 hn).mono ?_;rintro e' w4 ⟨rfl,hw4⟩;subst hw4;rw [HR3.out.2.2]))
 all_goals
  go_wp2_with fail;go_ret;refine ⟨?_,HW3.out⟩;simp [Act.put,HSB.out]
theorem yaaa (x y cw n base:Nat) (v:Value) (P:List (Nat × List Nat)) (s:Bool) (w:World) (h:zb5 w base cw n v P) (hp:0<P.length) (hpl:P.length<=20000) (hx:x<n) (hy:y<n) (hs:s=true↔∀p∈P,p.2.getD x 0=p.2.getD y 0):
 Calls prog 74 #[.int .i64 (x:Int),.int .i64 (y:Int),.pointer (some ⟨cw,0,none⟩)] w λ e w'=>e= .returned (.bool s)/\∃n,w'=w.drewN n:=by
 have HH:=kd h;obtain ⟨g,cap,rfl,hcells⟩:=h.shape hp;have HC:=kd hcells;have hbox:w.cell? ⟨cw,0,none⟩=some (.slice (some ⟨g,0,none⟩) P.length cap):=by simp [World.cell?,h.box]
 have HS:=kd hs;obtain ⟨m,hm⟩:∃m,P.length=m:=⟨_,rfl⟩;have HM:=kd hm;rw [hm] at hbox hpl;clear h hcells hs hm hp;go_enter func74,ntmps74;go_wp2_with fail;go_loopw [7,10] (λ _ s10 wq=>∃j:Nat,j<=m/\s10= .int .i64 j/\(∀i p,i<j->P[i]? =some p->p.2.getD x 0=p.2.getD y 0)/\∃q,wq=w.drewN q) (λ _ s10 _=>m-(intOf s10).toNat)
 case atStart=>exact ⟨0,Nat.zero_le _,rfl,λ i p hi=>by omega,0,rfl⟩
 case round=>
  obtain ⟨j,hj,rfl,hall,q,hq0⟩:=hrel;have HQ:=kd hq0;clear hq0;have HALL:=kd hall;clear hall;by_cases hlt:j<m
  ·obtain ⟨⟨b,l⟩,hpj⟩:∃p,P[j]? =some p:=⟨_,List.getElem?_eq_getElem (by rw [HM.out];exact hlt)⟩
   have HPJ:=kd hpj;have hrow:=HH.out.rows _ (List.mem_of_getElem? hpj);have c0:wr.cell? ⟨g,j,none⟩=some (.slice (some ⟨b,0,none⟩) n n):=by rw [HQ.out];exact HC.out j (b,l) hpj
   have cx:wr.cell? ⟨b,x,none⟩=some (.int .i64 ((l.getD x 0:Nat):Int)):=by rw [HQ.out];exact hrow.1.cell x (by rw [hrow.2];exact hx)
   have cy:wr.cell? ⟨b,y,none⟩=some (.int .i64 ((l.getD y 0:Nat):Int)):=by rw [HQ.out];exact hrow.1.cell y (by rw [hrow.2];exact hy)
   obtain ⟨X,hX⟩:∃X,l.getD x 0=X:=⟨_,rfl⟩;obtain ⟨Y,hY⟩:∃Y,l.getD y 0=Y:=⟨_,rfl⟩;rw [hX] at cx;rw [hY] at cy;have HXY:=kd (And.intro hX hY);clear hX hY hpj hrow hbox;by_cases hxy:X=Y
   ·subst hxy
    go_wp2_with fail;go_quiet (fail);clear c0 cx cy;go_wp2_with fail;go_roundw;case rel=>
     refine ⟨j+1,by omega,by go_num,λ i p hi hpi=>?_,q+nq,by rw [HQ.out,drewN_drewN]⟩;by_cases hij:i=j
     ·subst hij
      rw [HPJ.out] at hpi;injection hpi with hpi
      rw [<-hpi,HXY.out.1,HXY.out.2]
     ·exact HALL.out i p (by omega) hpi
    case measure=>simp [intOf];omega
   ·have hq:((X:Int)==(Y:Int))=false:=beq_eq_false_iff_ne.2 (by omega)
    have HF:Hid (s=false):=by
     show s=false;cases s with
     | false=>rfl
     | true=>
       have:=HS.out.1 rfl (b,l) (List.mem_of_getElem? HPJ.out);rw [HXY.out.1,HXY.out.2] at this;exact absurd this hxy
    go_wp2_with fail;go_quiet (fail);clear c0 cx cy;go_wp2_with fail;go_ret;exact ⟨by rw [HF.out];rfl,q+nq,by rw [HQ.out,drewN_drewN]⟩
  ·have hje:j=m:=by omega
   subst hje;have HF:Hid (s=true):=HS.out.2 (λ p hp=>by
    obtain ⟨i,hi,hpi⟩:=List.mem_iff_getElem.1 hp;exact HALL.out i p (by rw [<-HM.out];exact hi) (by rw [List.getElem?_eq_getElem hi,hpi]))
   go_wp2_with fail;go_ret;exact ⟨by rw [HF.out];rfl,q,HQ.out⟩
def Says (n:Nat) (R:List (Int × Int × Int)) (P:List (Nat × List Nat)) (j:Nat):Prop:=
 ∀x y,x<n->y<n->((∀p∈P,p.2.getD x 0=p.2.getD y 0)↔(cnR R x y/\∀e∈R.take j,cnR (rest R e) x y))
theorem zw9 {n b:Nat} {R:List (Int × Int × Int)} {l:List Nat} (h:∀u v,u<n->v<n->(l.getD u 0=l.getD v 0↔cnR R u v)):Says n R [(b,l)] 0:=by
 intro x y hx hy;simp only [List.mem_singleton,forall_eq,List.take_zero,List.not_mem_nil,false_implies,implies_true,and_true];exact h x y hx hy
theorem zy3 {n b j:Nat} {R:List (Int × Int × Int)} {l:List Nat} {P:List (Nat × List Nat)} {e:Int × Int × Int} (h:Says n R P j) (hj:R[j]? =some e) (hl:∀u v,u<n->v<n->(l.getD u 0=l.getD v 0↔cnR (rest R e) u v)):Says n R (P++[(b,l)]) (j+1):=by
 intro x y hx hy;have h1:=h x y hx hy;have h2:=hl x y hx hy;rw [List.take_add_one,hj];simp only [Option.toList_some,List.mem_append,List.mem_singleton];constructor
 ·intro k
  have k1:=h1.1 (λ p hp=>k p (.inl hp));refine ⟨k1.1,?_⟩;rintro d (hd | rfl)
  ·exact k1.2 d hd
  ·exact h2.1 (k (b,l) (.inr rfl))
 ·rintro ⟨k1,k2⟩ p (hp | rfl)
  ·exact h1.2 ⟨k1,λ d hd=>k2 d (.inl hd)⟩ p hp
  ·exact h2.2 (k2 e (.inr rfl))
theorem zxh (n B q:Nat) (u:Value) (R:List (Int × Int × Int)) (L:List Nat) (w:World) (h:G.GAt w B 40 61 q (n:Int) u R) (hl:R.length<=120) (hn:n<=40) (hin:Inn n R) (hg:Good n L) (hL:∀x y,x<n->y<n->(L.getD x 0=L.getD y 0↔(cnR R x y/\∀e∈R,cnR (rest R e) x y))):
 Calls prog 25 #[.pointer (some ⟨q,0,none⟩)] w (zb9 w (zao L n)):=by
 have HG:=kd h;have HLL:=kd hL;have HIN:=kd hin;have hmf':=hmf;obtain ⟨i0,hi0,hz0,hz1,hz2⟩:=info_parts Tryz.info48;obtain ⟨m,hm⟩:∃m,m=R.length:=⟨_,rfl⟩;have HM:=kd hm;obtain ⟨ua,uc,hv⟩:=h.row.zal;rw [<-hm] at hv hl;have HV:=kd hv;clear h hL hin hm hv;go_enter func25,ntmps25;go_wp2_with fail;refine (zbk n B q u R w HG.out (by rw [<-HM.out];exact hl) hn HIN.out).mono ?_;rintro e w1 ⟨b0,l0,rfl,hr,hb,hll,hlab,hbl⟩;have HA0:Hid (zb5 ((w1.alloc (.cells #[.slice (some ⟨b0,0,none⟩) n n] 48)).alloc (.cells #[.slice (some ⟨w1.heap.size,0,none⟩) 1 1] 51)) w1.heap.size (w1.heap.size+1) n (.slice (some ⟨w1.heap.size,0,none⟩) 1 1) [(b0,l0)]):=zlc (Nat.le_refl _) hr hll;have HS0:Hid (Says n R [(b0,l0)] 0):=zw9 hlab;have HB0:Hid (Below w.heap.size w ((w1.alloc (.cells #[.slice (some ⟨b0,0,none⟩) n n] 48)).alloc (.cells #[.slice (some ⟨w1.heap.size,0,none⟩) 1 1] 51))):=hbl.trans ((za9 _ _ _).mono hbl.size);have hws:=hbl.size;have hg0:=HG.out.below HB0.out;have hu1:((w1.alloc (.cells #[.slice (some ⟨b0,0,none⟩) n n] 48)).alloc (.cells #[.slice (some ⟨w1.heap.size,0,none⟩) 1 1] 51)).cell? ⟨q,1,none⟩=some (.slice ua m uc):=by have:=hg0.c1;rwa [HV.out] at this
 clear hr hb hlab hbl hg0;go_wp2_with fail;go_loopw [5,14] (λ _ s14 wq=>∃(j:Nat) (v:Value) (P:List (Nat × List Nat)),j<=m/\s14= .int .i64 j/\P.length=j+1/\zb5 wq w1.heap.size (w1.heap.size+1) n v P/\Says n R P j/\Below w.heap.size w wq) (λ _ s14 _=>m-(intOf s14).toNat)
 case atStart=>exact ⟨0,_,_,Nat.zero_le _,rfl,rfl,HA0.out,HS0.out,HB0.out⟩
 case round=>
  obtain ⟨j,v,P,hj,rfl,hPl,hA,hS,hb⟩:=hrel;have HA:=kd hA;have HS:=kd hS;have HB:=kd hb;have hbs:=hb.size;clear hA hS hb HA0 HS0 HB0 hu1;by_cases hlt:j<m
  ·obtain ⟨⟨x0,x1,x2⟩,hx⟩:∃e,R[j]? =some e:=⟨_,List.getElem?_eq_getElem (by rw [<-HM.out];exact hlt)⟩
   have HX:=kd hx;obtain ⟨g,hua⟩:∃g,ua=some ⟨g,0,none⟩:=by
    rcases HG.out.row.shape with ⟨_,e⟩ | ⟨g,cap,e,_⟩
    ·rw [e] at hx;simp at hx
    ·rw [HV.out] at e
     injection e with e1 _ _
     exact ⟨g,e1⟩
   obtain ⟨r0,r1,r2⟩:=(HG.out.below HB.out).row.at (g:=g) (by rw [HV.out,hua];rfl) hx;simp only at r0 r1 r2;subst hua;clear hx;obtain ⟨W1,hW1⟩:∃W1,W1=wr.alloc (.cells #[.int .i64 x0,.int .i64 x1,.int .i64 x2] 61):=⟨_,rfl⟩;have hh:W1.heap[wr.heap.size]? =some (.cells #[.int .i64 x0,.int .i64 x1,.int .i64 x2] 61):=by rw [hW1];exact heap_alloc_new wr _
   have hbW:Below wr.heap.size wr W1:=by rw [hW1];exact (Below.refl _ _).alloc (Nat.le_refl _) _
   have HBX:=kd hh;have HBW:Hid (Below w.heap.size w W1):=HB.out.trans (hbW.mono hbs);have HAW:Hid (zb5 W1 w1.heap.size (w1.heap.size+1) n v P):=HA.out.below hbW;have HW1:=kd hW1.symm;have hsz:W1.heap.size=wr.heap.size+1:=by rw [hW1];simp
   have HPK:Hid (∀w',Below W1.heap.size W1 w'->w'.cell? ⟨wr.heap.size,0,none⟩=some (.int .i64 x0)/\w'.cell? ⟨w1.heap.size+1,0,none⟩=some v/\zb5 w' w1.heap.size (w1.heap.size+1) n v P/\w'.heap[wr.heap.size]? =some (.cells #[.int .i64 x0,.int .i64 x1,.int .i64 x2] 61)):=λ w' hb=>by
    have h1:w'.heap[wr.heap.size]? =some (.cells #[.int .i64 x0,.int .i64 x1,.int .i64 x2] 61):=(hb.block _ (by omega)).trans HBX.out;exact ⟨by simp [World.cell?,h1],zj3 (HAW.out.below hb).box,HAW.out.below hb,h1⟩
   have hlt1:w1.heap.size+1<W1.heap.size:=lt_of_some HAW.out.box;have HWO:Hid (Calls prog 58 #[.pointer (some ⟨q,0,none⟩),.slice (some ⟨wr.heap.size+1,0,none⟩) 1 1,.slice none 0 0] (W1.alloc (.cells #[.int .i64 x0] 3)).drew λ e w'=>∃q' v',e= .returned (.pointer (some ⟨q',0,none⟩))/\G.GAt w' W1.heap.size 40 61 q' (n:Int) v' (rest R (x0,x1,x2))/\Below W1.heap.size W1 w'):=by
    have hb2:Below W1.heap.size W1 (W1.alloc (.cells #[.int .i64 x0] 3)).drew:=((Below.refl _ _).alloc (Nat.le_refl _) _).drew;have hgW:=(HG.out.below HBW.out).below hb2;have h1i:G.Ints (W1.alloc (.cells #[.int .i64 x0] 3)).drew (some ⟨wr.heap.size+1,0,none⟩) 1 (λ _=>x0):=by
     have:=zq7 W1 x0;rw [hsz] at this;exact this.below ((Below.refl _ _).drew)
    refine (G.zbw (n:Int) B q u R _ none 1 0 1 0 (λ _=>x0) (λ _=>0) _ hgW (by rw [<-HM.out];omega) h1i (zlq _) (by omega) (by omega)).mono ?_;rintro e w' ⟨q',v',rfl,hg',hb'⟩;rw [zna R (x0,x1,x2)] at hg';refine ⟨q',v',rfl,⟨hg'.hp,hg'.row.mono ?_,hg'.ne⟩,hb2.trans (hb'.mono ?_)⟩
    ·exact hb2.size
    ·exact hb2.size
   have hk1:W1.drew.cell? ⟨wr.heap.size,0,none⟩=some (.int .i64 x0):=(HPK.out W1 (Below.refl _ _)).1;have hk2:W1.drew.cell? ⟨w1.heap.size+1,0,none⟩=some v:=(HPK.out W1 (Below.refl _ _)).2.1;have hk3:(W1.alloc (.cells #[.int .i64 x0] 3)).drew.cell? ⟨w1.heap.size+1,0,none⟩=some v:=(HPK.out _ (((Below.refl _ _).alloc (Nat.le_refl _) _).drew)).2.1;have hk4:W1.cell? ⟨w1.heap.size+1,0,none⟩=some v:=hk2;have hk5:(W1.alloc (.cells #[.int .i64 x0] 3)).cell? ⟨w1.heap.size+1,0,none⟩=some v:=hk3;clear hh hbW hW1;go_upto_region 5 with fail
   rw [HW1.out]
   go_region_law
    (first
      | (obtain ⟨v5,w5,hrun,hown5,hgrow5,_,_⟩:=run_append_own_at (P:=prog) (w3.alloc (.cells #[.slice (some ⟨b,0,none⟩) n n] 48)) w1.heap.size 51 51 48 i0 (.slice none 0 0) 1 24 underlying51 hi0 hz0 hz1 hz2 rfl (by decide) v P.length _ (HA3.out.own.alloc _) ⟨w3.heap.size,0,none⟩ 1 1 [.slice (some ⟨b,0,none⟩) n n] rfl (cell_one_new _ _ _) (zcu _ _ _) (by unfold maxLen;omega) (by omega) (by simp;omega)
         obtain ⟨g5,cap5,rfl⟩:=zn9 hown5 (by omega);refine G.zau rfl (.tmp 18) (.tmp 25) 51 51 rfl v (.slice (some ⟨w3.heap.size,0,none⟩) 1 1) (by first | rfl | (simp [Act.eval];done) | (simp [Act.eval,Act.put];done)) (by first | rfl | (simp [Act.eval];done) | (simp [Act.eval,Act.put];done)) hrun ?_;obtain ⟨hA5,c5,f5⟩:=HA3.out.push HR3.out.1 HR3.out.2.1 hown5 hgrow5)
      | (go_simp;go_at_call 58;refine Calls.mono HWO.out ?_;rintro e' w2 ⟨q',v',rfl,hg2,hb2⟩;obtain ⟨m1,m2,m3,m4⟩:=HPK.out w2 hb2;have HG2:Hid (G.GAt w2 W1.heap.size 40 61 q' (n:Int) v' (rest R (x0,x1,x2))/\Below W1.heap.size W1 w2):=⟨hg2,hb2⟩;clear hg2 hb2 m3 m4)
      | (go_simp;go_at_call 59;refine (zbk n W1.heap.size q' v' (rest R (x0,x1,x2)) w2 HG2.out.1 (Nat.le_trans (zke _ _) (by rw [<-HM.out];exact hl)) hn (zhp HIN.out _)).mono ?_;rintro e' w3 ⟨b,l,rfl,hr,hbb,hll',hlab,hb3⟩;have HW3:Hid (Below W1.heap.size W1 w3):=HG2.out.2.trans (hb3.mono HG2.out.2.size);obtain ⟨m5,m6,m7,m8⟩:=HPK.out w3 HW3.out;have m9:(w3.alloc (.cells #[.slice (some ⟨b,0,none⟩) n n] 48)).cell? ⟨w1.heap.size+1,0,none⟩=some v:=(HPK.out _ (HW3.out.alloc HW3.out.size _)).2.1;have HA3:Hid (zb5 w3 w1.heap.size (w1.heap.size+1) n v P):=m7;have HR3:Hid (zak w3 b l/\l.length=n/\(∀u v,u<n->v<n->(l.getD u 0=l.getD v 0↔cnR (rest R (x0,x1,x2)) u v))):=⟨hr,hll',hlab⟩;have hs3:=HW3.out.size;clear hr hbb hlab hb3 m7 m8 hll'))
   all_goals
    have hF0:(zb5 (w5.setCell ⟨w1.heap.size+1,0,none⟩ (.slice (some ⟨g5,0,none⟩) (P.length+1) cap5)) w1.heap.size (w1.heap.size+1) n (.slice (some ⟨g5,0,none⟩) (P.length+1) cap5) (P++[(b,l)])/\Below w.heap.size w (w5.setCell ⟨w1.heap.size+1,0,none⟩ (.slice (some ⟨g5,0,none⟩) (P.length+1) cap5))):=by
     refine ⟨hA5,?_⟩;have hb3:Below w.heap.size w w3:=HBW.out.trans (HW3.out.mono HBW.out.size);exact (hb3.grown ((World.grownBy_alloc w3 _ _).trans hgrow5) hb3.size (λ j hj=>Nat.le_trans hws (HA3.out.own.lt j hj).1)).setCell (show w.heap.size<=w1.heap.size+1 by omega) _
    rw [hPl] at hF0;have HF:Hid _:=hF0;clear hA5 hgrow5 hown5 hrun c5 f5 hF0;go_wp2_with fail;go_roundw;case rel=>exact ⟨j+1,_,P++[(b,l)],by omega,by go_num,by simp [hPl],HF.out.1,zy3 HS.out HX.out HR3.out.2.2,HF.out.2⟩
    case measure=>simp [intOf];omega
  ·have hje:j=m:=by omega
   subst hje;have hgr:=HG.out.below HB.out;have hc:=hgr.c0;have HAL:Hid (Alike 74 wr n (w1.heap.size+1) L):=by
    intro W' hW' x y s hx hy hs;refine yaaa x y (w1.heap.size+1) n w1.heap.size v P s W' (HA.out.below hW') (by omega) (by omega) hx hy ?_;have ht:R.take j=R:=List.take_of_length_le (by rw [<-HM.out];omega);have h1:=HS.out x y hx hy;rw [ht] at h1;rw [h1,<-HLL.out x y hx hy,<-hs,beq_iff_eq];omega
   clear hgr;go_wp2_with fail;refine (zsk n (w1.heap.size+1) L wr HAL.out hg hn).mono ?_;rintro e w2 ⟨t,r,c,rfl,hP,hb2⟩;have HF:Hid (zb9 w (zao L n) (.returned t) w2):=zgy hP hb2 HB.out;clear hP hb2;go_wp2;go_ret;exact HF.out
theorem zv8 (a1 a2:Option Addr) (gl c1 c2:Nat) (F:Nat->Int) (w:World) (h:0<gl->∃r1 r2,a1=some ⟨r1,0,none⟩/\a2=some ⟨r2,0,none⟩/\(∀j,j<gl->w.cell? ⟨r1,j,none⟩=some (.int .i64 (F j)))/\∀j,j<gl->w.cell? ⟨r2,j,none⟩=some (.int .i64 (F j))) (hgl:gl<=1000000):
 Calls prog 60 #[.slice a1 gl c1,.slice a2 gl c2] w λ e w'=>e= .returned (.bool true)/\∃n,w'=w.drewN n:=by
 have HH:=(show Hid _ from h);clear h;go_enter func60,ntmps60;go_wp2_with fail;go_loopw [5] (λ s5 wq=>∃j:Nat,j<=gl/\s5= .int .i64 j/\∃q,wq=w.drewN q) (λ s5 _=>gl-(intOf s5).toNat)
 case atStart=>exact ⟨0,Nat.zero_le _,rfl,0,rfl⟩
 case round=>
  obtain ⟨j,hj,rfl,q,hq0⟩:=hrel;have HQ:=kd hq0;clear hq0;by_cases hlt:j<gl
  ·obtain ⟨r1,r2,rfl,rfl,h1,h2⟩:=HH.out (by omega)
   have c1':wr.cell? ⟨r1,j,none⟩=some (.int .i64 (F j)):=by rw [HQ.out];exact h1 j hlt
   have c2':wr.cell? ⟨r2,j,none⟩=some (.int .i64 (F j)):=by rw [HQ.out];exact h2 j hlt
   generalize F j=x at*;clear h1 h2;go_wp2_with fail;go_quiet (fail);clear c1' c2';go_wp2_with fail;go_roundw;case rel=>exact ⟨j+1,by omega,by go_num,q+nq,by rw [HQ.out,drewN_drewN]⟩
   case measure=>simp [intOf];omega
  ·go_wp2_with fail
   go_ret;exact ⟨rfl,q,HQ.out⟩
def Has (F:Nat->Nat) (k x:Nat):Prop:=∃j,j<k/\F j=x
theorem zpo (F:Nat->Nat) (x:Nat):¬Has F 0 x:=λ ⟨_,h,_⟩=>by omega
theorem zc6 {F:Nat->Nat} {k x:Nat} (h:F k=x):Has F (k+1) x:=⟨k,by omega,h⟩
theorem zeh {F:Nat->Nat} {k x:Nat} (h:Has F k x):Has F (k+1) x:=by
 obtain ⟨j,h1,h2⟩:=h;exact ⟨j,by omega,h2⟩
theorem zdk {F:Nat->Nat} {k x:Nat} (h:¬Has F k x) (hk:F k≠x):¬Has F (k+1) x:=by
 rintro ⟨j,h1,h2⟩;by_cases hj:j=k
 ·subst hj;exact hk h2
 ·exact h ⟨j,by omega,h2⟩
def zes (F:Nat->Nat) (k a b:Nat) (s9:Value):Prop:=
 (s9= .int .i64 0/\¬Has F k a/\¬Has F k b)\/(s9= .int .i64 1/\Has F k a/\¬Has F k b)\/(s9= .int .i64 2/\¬Has F k a/\Has F k b)\/(s9= .int .i64 3/\Has F k a/\Has F k b)
theorem z7e (ad:Option Addr) (c cap a b:Nat) (Gs:List (List Nat)) (s:Bool) (w:World) (h:0<c->∃g,ad=some ⟨g,0,none⟩/\zcf w g Gs c) (hc:c<=1000) (hgl:∀i,(Gs.getD i []).length<=1000) (hs:s=true↔∃i,i<c/\Has (λ j=>(Gs.getD i []).getD j 0) (Gs.getD i []).length a/\Has (λ j=>(Gs.getD i []).getD j 0) (Gs.getD i []).length b):
 Calls prog 28 #[.slice ad c cap,.int .i64 (a:Int),.int .i64 (b:Int)] w λ e w'=>e= .returned (.bool s)/\w'=w:=by
 have HH:=(show Hid _ from h);have HS:=(show Hid _ from hs);clear h hs;go_enter func28,ntmps28;go_wp2_with fail;go_loopw [14] (λ s14 wq=>∃i:Nat,i<=c/\s14= .int .i64 i/\(∀i',i'<i->¬(Has (λ j=>(Gs.getD i' []).getD j 0) (Gs.getD i' []).length a/\Has (λ j=>(Gs.getD i' []).getD j 0) (Gs.getD i' []).length b))/\wq=w) (λ s14 _=>c-(intOf s14).toNat)
 case atStart=>exact ⟨0,Nat.zero_le _,rfl,λ i' hi=>by omega,rfl⟩
 case round=>
  obtain ⟨i,hi,rfl,hno,hw⟩:=hrel;subst hw;have HNO:=(show Hid _ from hno);clear hno;by_cases hlt:i<c
  ·obtain ⟨g,rfl,hrows⟩:=HH.out (by omega)
   obtain ⟨r,cp,c0,cells⟩:=hrows i hlt;have hgl':=hgl i;obtain ⟨gl,hgle⟩:∃gl,(Gs.getD i []).length=gl:=⟨_,rfl⟩;obtain ⟨F,hF⟩:∃F,F=λ j=>(Gs.getD i []).getD j 0:=⟨_,rfl⟩
   have HGL:=kd (And.intro hgle hF);have HC:Hid (∀j,j<gl->wr.cell? ⟨r,j,none⟩=some (.int .i64 ((F j:Nat):Int))):=λ j hj=>by
    rw [hF];exact cells j (by rw [hgle];exact hj)
   rw [hgle] at c0 hgl';clear cells hrows hgle hF;go_wp2_with fail;clear c0;go_loopw [9,20] (λ s9 s20 wq=>∃k:Nat,k<=gl/\s20= .int .i64 k/\zes F k a b s9/\wq=wr) (λ _ s20 _=>gl-(intOf s20).toNat)
   case atStart=>exact ⟨0,Nat.zero_le _,rfl,.inl ⟨rfl,zpo _ _,zpo _ _⟩,rfl⟩
   case round=>
    obtain ⟨k,hk,rfl,hin,hw'⟩:=hrel;subst hw';by_cases hlt':k<gl
    ·have ck:=HC.out k hlt'
     obtain ⟨z,hz⟩:∃z,F k=z:=⟨_,rfl⟩;have HZ:=kd hz;rw [hz] at ck;clear hz;by_cases hza:z=a <;> by_cases hzb:z=b
     ·subst hza
      subst hzb;have HF:Hid (zes F (k+1) z z (.int .i64 3)):=.inr (.inr (.inr ⟨rfl,zc6 HZ.out,zc6 HZ.out⟩));rcases hin with ⟨rfl,h1,h2⟩ | ⟨rfl,h1,h2⟩ | ⟨rfl,h1,h2⟩ | ⟨rfl,h1,h2⟩
      all_goals
       clear h1 h2;go_wp2_with fail;go_roundw;case rel=>exact ⟨k+1,by omega,by go_num,HF.out,by first | trivial | rfl⟩
       case measure=>simp [intOf];omega
     ·subst hza
      have hq:((z:Int)==(b:Int))=false:=beq_eq_false_iff_ne.2 (by omega);have hne:F k≠b:=by rw [HZ.out];exact hzb
      rcases hin with ⟨rfl,h1,h2⟩ | ⟨rfl,h1,h2⟩ | ⟨rfl,h1,h2⟩ | ⟨rfl,h1,h2⟩
      ·have HF:Hid (zes F (k+1) z b (.int .i64 1)):=.inr (.inl ⟨rfl,zc6 HZ.out,zdk h2 hne⟩)
       clear h1 h2 hne;go_wp2_with fail;go_roundw;case rel=>exact ⟨k+1,by omega,by go_num,HF.out,by first | trivial | rfl⟩
       case measure=>simp [intOf];omega
      ·have HF:Hid (zes F (k+1) z b (.int .i64 1)):=.inr (.inl ⟨rfl,zc6 HZ.out,zdk h2 hne⟩)
       clear h1 h2 hne;go_wp2_with fail;go_roundw;case rel=>exact ⟨k+1,by omega,by go_num,HF.out,by first | trivial | rfl⟩
       case measure=>simp [intOf];omega
      ·have HF:Hid (zes F (k+1) z b (.int .i64 3)):=.inr (.inr (.inr ⟨rfl,zc6 HZ.out,zeh h2⟩))
       clear h1 h2 hne;go_wp2_with fail;go_roundw;case rel=>exact ⟨k+1,by omega,by go_num,HF.out,by first | trivial | rfl⟩
       case measure=>simp [intOf];omega
      ·have HF:Hid (zes F (k+1) z b (.int .i64 3)):=.inr (.inr (.inr ⟨rfl,zc6 HZ.out,zeh h2⟩))
       clear h1 h2 hne;go_wp2_with fail;go_roundw;case rel=>exact ⟨k+1,by omega,by go_num,HF.out,by first | trivial | rfl⟩
       case measure=>simp [intOf];omega
     ·subst hzb
      have hq:((z:Int)==(a:Int))=false:=beq_eq_false_iff_ne.2 (by omega);have hne:F k≠a:=by rw [HZ.out];exact hza
      rcases hin with ⟨rfl,h1,h2⟩ | ⟨rfl,h1,h2⟩ | ⟨rfl,h1,h2⟩ | ⟨rfl,h1,h2⟩
      ·have HF:Hid (zes F (k+1) a z (.int .i64 2)):=.inr (.inr (.inl ⟨rfl,zdk h1 hne,zc6 HZ.out⟩))
       clear h1 h2 hne;go_wp2_with fail;go_roundw;case rel=>exact ⟨k+1,by omega,by go_num,HF.out,by first | trivial | rfl⟩
       case measure=>simp [intOf];omega
      ·have HF:Hid (zes F (k+1) a z (.int .i64 3)):=.inr (.inr (.inr ⟨rfl,zeh h1,zc6 HZ.out⟩))
       clear h1 h2 hne;go_wp2_with fail;go_roundw;case rel=>exact ⟨k+1,by omega,by go_num,HF.out,by first | trivial | rfl⟩
       case measure=>simp [intOf];omega
      ·have HF:Hid (zes F (k+1) a z (.int .i64 2)):=.inr (.inr (.inl ⟨rfl,zdk h1 hne,zc6 HZ.out⟩))
       clear h1 h2 hne;go_wp2_with fail;go_roundw;case rel=>exact ⟨k+1,by omega,by go_num,HF.out,by first | trivial | rfl⟩
       case measure=>simp [intOf];omega
      ·have HF:Hid (zes F (k+1) a z (.int .i64 3)):=.inr (.inr (.inr ⟨rfl,zeh h1,zc6 HZ.out⟩))
       clear h1 h2 hne;go_wp2_with fail;go_roundw;case rel=>exact ⟨k+1,by omega,by go_num,HF.out,by first | trivial | rfl⟩
       case measure=>simp [intOf];omega
     ·have hq:((z:Int)==(a:Int))=false:=beq_eq_false_iff_ne.2 (by omega)
      have hq2:((z:Int)==(b:Int))=false:=beq_eq_false_iff_ne.2 (by omega);have hne:F k≠a:=by rw [HZ.out];exact hza
      have hne2:F k≠b:=by rw [HZ.out];exact hzb
      have HF:Hid (zes F (k+1) a b u9):=by
       rcases hin with ⟨h0,h1,h2⟩ | ⟨h0,h1,h2⟩ | ⟨h0,h1,h2⟩ | ⟨h0,h1,h2⟩
       ·exact .inl ⟨h0,zdk h1 hne,zdk h2 hne2⟩
       ·exact .inr (.inl ⟨h0,zeh h1,zdk h2 hne2⟩)
       ·exact .inr (.inr (.inl ⟨h0,zdk h1 hne,zeh h2⟩))
       ·exact .inr (.inr (.inr ⟨h0,zeh h1,zeh h2⟩))
      clear hin hne hne2;go_wp2_with fail;go_roundw;case rel=>exact ⟨k+1,by omega,by go_num,HF.out,by first | trivial | rfl⟩
      case measure=>simp [intOf];omega
    ·have hke:k=gl:=by omega
     subst hke;have HOUT:Hid (∀{i':Nat},i'<i+1->¬(Has F k a/\Has F k b)->¬(Has (λ j=>(Gs.getD i' []).getD j 0) (Gs.getD i' []).length a/\Has (λ j=>(Gs.getD i' []).getD j 0) (Gs.getD i' []).length b)):=λ {i'} hi' hno=>by
      by_cases he:i'=i
      ·subst he
       rw [<-HGL.out.2,HGL.out.1];exact hno
      ·exact HNO.out i' (by omega)
     rcases hin with ⟨rfl,h1,h2⟩ | ⟨rfl,h1,h2⟩ | ⟨rfl,h1,h2⟩ | ⟨rfl,h1,h2⟩
     ·have HN:Hid (¬(Has F k a/\Has F k b)):=λ k=>h1 k.1
      clear h1 h2;go_wp2_with fail;go_roundw;case rel=>exact ⟨i+1,by omega,by go_num,λ i' hi'=>HOUT.out hi' HN.out,by first | trivial | rfl⟩
      case measure=>simp [intOf];omega
     ·have HN:Hid (¬(Has F k a/\Has F k b)):=λ k=>h2 k.2
      clear h1 h2;go_wp2_with fail;go_roundw;case rel=>exact ⟨i+1,by omega,by go_num,λ i' hi'=>HOUT.out hi' HN.out,by first | trivial | rfl⟩
      case measure=>simp [intOf];omega
     ·have HN:Hid (¬(Has F k a/\Has F k b)):=λ k=>h1 k.1
      clear h1 h2;go_wp2_with fail;go_roundw;case rel=>exact ⟨i+1,by omega,by go_num,λ i' hi'=>HOUT.out hi' HN.out,by first | trivial | rfl⟩
      case measure=>simp [intOf];omega
     ·have HF:Hid (s=true):=HS.out.2 ⟨i,hlt,by rw [<-HGL.out.2,HGL.out.1];exact h1,by rw [<-HGL.out.2,HGL.out.1];exact h2⟩
      clear h1 h2;go_wp2_with fail;go_ret;exact ⟨by rw [HF.out];rfl,rfl⟩
  ·have hie:i=c:=by omega
   subst hie;have HF:Hid (s=false):=by
    show s=false;cases s with
    | false=>rfl
    | true=>
      obtain ⟨i',hi',h1⟩:=HS.out.1 rfl;exact absurd h1 (HNO.out i' hi')
   go_wp2_with fail;go_ret;exact ⟨by rw [HF.out];rfl,rfl⟩
theorem z5g {n:Nat} {L:List Nat} (g:Good n L) {a b:Nat} (ha:a<n) (hb:b<n):
 L.getD a 0=L.getD b 0↔∃i,i<(zao L n).length/\Has (λ j=>((zao L n).getD i []).getD j 0) ((zao L n).getD i []).length a/\Has (λ j=>((zao L n).getD i []).getD j 0) ((zao L n).getD i []).length b:=by
 have key:∀(K:List Nat) (x:Nat),Has (λ j=>K.getD j 0) K.length x↔x∈K:=by
  intro K x;constructor
  ·rintro ⟨j,hj,rfl⟩
   simp [hj]
  ·intro hx
   obtain ⟨j,hj,rfl⟩:=List.mem_iff_getElem.1 hx;exact ⟨j,hj,by simp [hj]⟩
 simp only [key];constructor
 ·intro e
  have hlt:L.getD a 0<n:=Nat.lt_of_le_of_lt (g.le a ha) ha;have hm:∀x,x<n->L.getD x 0=L.getD a 0->x∈grp L n (L.getD a 0):=λ x hx hxe=>by
   unfold grp;rw [List.mem_filter];exact ⟨by simpa using hx,by simpa using hxe⟩
  have hG:grp L n (L.getD a 0)∈zao L n:=by
   unfold zao;rw [List.mem_filter];refine ⟨List.mem_map.2 ⟨L.getD a 0,by simpa using hlt,by rw [g.len]⟩,?_⟩;have:=hm a ha rfl;cases hh:grp L n (L.getD a 0) with
   | nil=>rw [hh] at this;simp at this
   | cons x xs=>rfl
  obtain ⟨i,hi,hie⟩:=List.mem_iff_getElem.1 hG;refine ⟨i,hi,?_,?_⟩
  ·have:(zao L n).getD i []=grp L n (L.getD a 0):=by simp [hi,hie]
   rw [this];exact hm a ha rfl
  ·have:(zao L n).getD i []=grp L n (L.getD a 0):=by simp [hi,hie]
   rw [this];exact hm b hb e.symm
 ·rintro ⟨i,hi,h1,h2⟩
  obtain ⟨x,_,_,hx⟩:=ztk g i hi;rw [hx] at h1 h2;unfold grp at h1 h2;rw [List.mem_filter] at h1 h2;have e1:L.getD a 0=x:=by simpa using h1.2
  have e2:L.getD b 0=x:=by simpa using h2.2
  rw [e1,e2]
end Go.Proofs.YtebcjaenhiiflaaGreatDoor.S
