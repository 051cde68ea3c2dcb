import Derived.Test.YtebcjaenhiiflaaGreatDoorQBbBl
import Derived.Test.YtebcjaenhiiflaaGreatDoorQGBGYa
import Derived.Shelf.SlSortFuncK.WholeK
import Derived.Ground.GgsProg
import Derived.Shelf.GgSortFunc.Tiny
set_option maxHeartbeats 4000000
set_option maxRecDepth 100000
namespace Go.Proofs.YtebcjaenhiiflaaGreatDoor.S
open Go.RowKit Go.WideMaps Go.Maps
def RowL (w:World) (b:Nat) (l:List Nat):Prop:=w.heap[b]? =some (.cells (vals l) 3)
theorem RowL.cell {w:World} {b:Nat} {l:List Nat} (h:RowL w b l) (i:Nat) (hi:i<l.length):w.cell? ⟨b,i,none⟩=some (.int .i64 ((l.getD i 0:Nat):Int)):=by
 unfold RowL at h;simp [World.cell?,h,vals,hi]
theorem RowL.frozen {w:World} {b:Nat} {l:List Nat} (h:RowL w b l) (i:Nat):w.frozen? ⟨b,i,none⟩=false:=by
 unfold RowL at h;simp [World.frozen?,h]
theorem RowL.lt {w:World} {b:Nat} {l:List Nat} (h:RowL w b l):b<w.heap.size:=lt_of_some h
theorem RowL.set {w:World} {b:Nat} {l:List Nat} (h:RowL w b l) (k v:Nat):RowL (w.setCell ⟨b,k,none⟩ (.int .i64 (v:Int))) b (l.set k v):=by
 unfold RowL at h ⊢;rw [<-vals_set];simp [World.setCell,Array.getElem?_modify,h]
theorem RowL.below {w w':World} {b B:Nat} {l:List Nat} (h:RowL w b l) (hb:Below B w w') (hl:b<B):RowL w' b l:=(hb.block b hl).trans h
theorem RowL.drewN {w:World} {b:Nat} {l:List Nat} (h:RowL w b l) (n:Nat):RowL (w.drewN n) b l:=h
theorem RowL.alloc {w:World} {b:Nat} {l:List Nat} (h:RowL w b l) (o:Obj):RowL (w.alloc o) b l:=(Below.heap_alloc w o b h.lt).trans h
theorem rowL_made (w:World) (n:Nat):RowL (w.alloc (.cells (madeCells #[.int .i64 0] n) 3)) w.heap.size (fill n 0):=by
 rw [made_vals];exact heap_alloc_new w _
theorem sum_range (k:Nat):(List.range k).sum<=k*k:=by
 induction k with
 | zero=>simp
 | succ k ih=>
   rw [List.range_succ,List.sum_append];simp only [List.sum_cons,List.sum_nil];have:(k+1)*(k+1)=k*k+2*k+1:=by rw [Nat.add_mul,Nat.mul_add];omega
   omega
def Inn (n:Nat) (R:List (Int × Int × Int)):Prop:=∀e∈R,ea e<n/\eb e<n/\e.2.1=(ea e:Int)/\e.2.2=(eb e:Int)
theorem lab_good {n:Nat} {R:List (Int × Int × Int)} {l:List Nat} (h:Lab n R l) (hd:∀u v,u<n->v<n->(l.getD u 0=l.getD v 0↔cnR R u v)):Good n l:=
 ⟨h.1,λ i hi=>(h.2 i hi).1,λ i hi=>((hd i (l.getD i 0) hi (by have:=(h.2 i hi).1;omega)).2 (h.2 i hi).2).symm⟩
def LabPostG (w:World) (n:Nat) (R:List (Int × Int × Int)) (e:Ending) (w':World):Prop:=
 ∃b l,e= .returned (.slice (some ⟨b,0,none⟩) n n)/\RowL w' b l/\w.heap.size<=b/\Good n l/\(∀u v,u<n->v<n->(l.getD u 0=l.getD v 0↔cnR R u v))/\Below w.heap.size w w'
theorem labels_good (n B q:Nat) (u:Value) (R:List (Int × Int × Int)) (w:World) (h:G.GAt w B 40 61 q (n:Int) u R) (hl:R.length<=120) (hn:n<=40) (hin:Inn n R):
 Calls Tryz.prog 59 #[.pointer (some ⟨q,0,none⟩)] w (LabPostG w n R):=by
 have hc:=h.c0;have hu1:=h.c1;have hqlt:=h.plt;have HG:Hid (G.GAt w B 40 61 q (n:Int) u R):=h;have HIN:Hid (Inn n R):=hin;obtain ⟨m,hm⟩:∃m,m=R.length:=⟨_,rfl⟩;have HM:Hid (m=R.length):=hm;obtain ⟨ua,uc,hv⟩:=h.row.slice_len;rw [<-hm] at hv hl;have HV:Hid (u= .slice ua m uc):=hv;rw [hv] at hu1;have hmk:=λ W=>run_make_row' (P:=Tryz.prog) 48 3 (.int .i64 0) 8 Tryz.underlying48 Tryz.info3 rfl .i64 .i64 n (by omega) (by omega) W
 clear h hin hm hv;go_enter Tryz.func59,Tryz.ntmps59;go_wp2_with fail;go_loopw [4,16] (λ _ s16 wq=>∃k:Nat,k<=n/\s16= .int .i64 k/\RowL wq w.heap.size (fill n k)/\Below w.heap.size w wq) (λ _ s16 _=>n-(intOf s16).toNat)
 case atStart=>exact ⟨0,Nat.zero_le _,rfl,rowL_made w n,(Below.refl _ _).alloc (Nat.le_refl _) _⟩
 case round=>
  obtain ⟨k,hk,rfl,hr,hb⟩:=hrel;clear hmk;by_cases hlt:k<n
  ·as_aux_lemma=>
   have hc1:=hr.cell k (by rw [fill_length];exact hlt);have hf:=hr.frozen k;have HR:Hid (RowL (wr.setCell ⟨w.heap.size,k,none⟩ (.int .i64 (k:Int))) w.heap.size (fill n (k+1))):=by
    have:=hr.set k k;rw [fill_succ] at this;exact this
   have HB:Hid (Below w.heap.size w (wr.setCell ⟨w.heap.size,k,none⟩ (.int .i64 (k:Int)))):=hb.setCell (Nat.le_refl _) _;clear hr hb;generalize (fill n k).getD k 0=z at hc1;go_wp2;go_roundw;case rel=>exact ⟨k+1,by omega,by go_num,HR.out,HB.out⟩
   case measure=>simp [intOf];omega
  ·have hke:k=n:=by omega
   subst hke;rw [fill_all] at hr;have HR0:Hid (RowL wr w.heap.size (List.range k)):=hr;have HB0:Hid (Below w.heap.size w wr):=hb;clear hr hb;go_wp2_with fail;go_loopg [5] 10000 (λ r s5 wq=>∃l,Lab k R l/\RowL wq w.heap.size l/\Below w.heap.size w wq/\((s5= .bool true/\l.sum<r)\/(s5= .bool false/\∀e∈R,l.getD (ea e) 0=l.getD (eb e) 0)))
   case atStart=>
    refine ⟨List.range k,lab_start k R,HR0.out,HB0.out,.inl ⟨rfl,?_⟩⟩;have h1:=sum_range k;have h2:k*k<=40*40:=Nat.mul_le_mul hn hn;omega
   case round=>
    obtain ⟨l,hlab,hr,hb,hs⟩:=hrel;rcases hs with ⟨rfl,hsum⟩ | ⟨rfl,hall⟩
    ·have hg:=HG.out.below hb
     have HL:Hid (Lab k R l/\RowL wr w.heap.size l/\Below w.heap.size w wr):=⟨hlab,hr,hb⟩;have hu2:wr.cell? ⟨q,1,none⟩=some (.slice ua m uc):=by have:=hg.c1;rwa [HV.out] at this
     clear hlab hr hb hg hc hu1 HR0 HB0;go_wp2_with fail;go_loopw [5,30] (λ s5 s30 wq=>∃(j:Nat) (l':List Nat),j<=m/\s30= .int .i64 j/\Lab k R l'/\RowL wq w.heap.size l'/\Below w.heap.size w wq/\((s5= .bool false/\l'=l/\∀i e,i<j->R[i]? =some e->l.getD (ea e) 0=l.getD (eb e) 0)\/(s5= .bool true/\l'.sum<l.sum))) (λ _ s30 _=>m-(intOf s30).toNat)
     case atStart=>exact ⟨0,l,Nat.zero_le _,rfl,HL.out.1,HL.out.2.1,HL.out.2.2,.inl ⟨rfl,rfl,λ i e hi=>by omega⟩⟩
     case round=>
      obtain ⟨j,l',hj,rfl,hlab',hr',hb',hs'⟩:=hrel;by_cases hlt:j<m
      ·obtain ⟨⟨x0,x1,x2⟩,hx⟩:∃e,R[j]? =some e:=⟨_,List.getElem?_eq_getElem (by rw [<-HM.out];exact hlt)⟩
       obtain ⟨hA,hE,h1,h2⟩:=HIN.out _ (List.mem_of_getElem? hx);obtain ⟨g,hua⟩:∃g,ua=some ⟨g,0,none⟩:=by
        rcases HG.out.row.shape with ⟨_,e⟩ | ⟨g,cap,e,_⟩
        ·rw [e] at hx;simp at hx
        ·rw [HV.out] at e
         injection e with e1 _ _
         exact ⟨g,e1⟩
       obtain ⟨r0,r1,r2⟩:=(HG.out.below hb').row.at (g:=g) (by rw [HV.out,hua];rfl) hx;have HX:Hid (R[j]? =some (x0,x1,x2)):=hx;have HT:Hid (Lab k R (told l' (ea (x0,x1,x2)) (eb (x0,x1,x2)))):=lab_step hlab' (List.mem_of_getElem? hx) hA hE;have HS':Hid (u5= .bool false/\l'=l/\(∀i e,i<j->R[i]? =some e->l.getD (ea e) 0=l.getD (eb e) 0)\/u5= .bool true/\l'.sum<l.sum):=hs';simp only at h1 h2 r0 r1 r2;generalize hAe:ea (x0,x1,x2)=A at*;generalize hEe:eb (x0,x1,x2)=E at*;have HAE:Hid (ea (x0,x1,x2)=A/\eb (x0,x1,x2)=E):=⟨hAe,hEe⟩;clear hAe hEe hx hs';subst h1 h2;have hll:=hlab'.1;have cA:=hr'.cell A (by omega);have cE:=hr'.cell E (by omega);have HR:Hid (Lab k R l'/\RowL wr w.heap.size l'/\Below w.heap.size w wr):=⟨hlab',hr',hb'⟩;have hbs:=hb'.size;clear hlab' hr' hb' HL;obtain ⟨X,hX⟩:∃X,l'.getD A 0=X:=⟨_,rfl⟩;obtain ⟨Y,hY⟩:∃Y,l'.getD E 0=Y:=⟨_,rfl⟩;rw [hX] at cA;rw [hY] at cE;have HXY:Hid (l'.getD A 0=X/\l'.getD E 0=Y):=⟨hX,hY⟩;clear hX hY;subst hua;obtain ⟨W1,hW1⟩:∃W1,W1=wr.alloc (.cells #[.int .i64 x0,.int .i64 (A:Int),.int .i64 (E:Int)] 61):=⟨_,rfl⟩;have hh:W1.heap[wr.heap.size]? =some (.cells #[.int .i64 x0,.int .i64 (A:Int),.int .i64 (E:Int)] 61):=by rw [hW1];exact heap_alloc_new wr _
       have p1:W1.cell? ⟨wr.heap.size,1,none⟩=some (.int .i64 (A:Int)):=by simp [World.cell?,hh]
       have p2:W1.cell? ⟨wr.heap.size,2,none⟩=some (.int .i64 (E:Int)):=by simp [World.cell?,hh]
       have HR1:Hid (RowL W1 w.heap.size l'/\Below w.heap.size w W1):=⟨by rw [hW1];exact HR.out.2.1.alloc _,by rw [hW1];exact HR.out.2.2.alloc hbs _⟩;have hne:w.heap.size≠wr.heap.size:=Nat.ne_of_lt HR.out.2.1.lt;have HW1:Hid (wr.alloc (.cells #[.int .i64 x0,.int .i64 (A:Int),.int .i64 (E:Int)] 61)=W1):=hW1.symm;have qA:W1.cell? ⟨w.heap.size,A,none⟩=some (.int .i64 (X:Int)):=by
        have:=HR1.out.1.cell A (by omega);rwa [HXY.out.1] at this
       have qE:W1.cell? ⟨w.heap.size,E,none⟩=some (.int .i64 (Y:Int)):=by
        have:=HR1.out.1.cell E (by omega);rwa [HXY.out.2] at this
       clear hh hW1 cA cE;rcases Nat.lt_trichotomy X Y with hxy | hxy | hxy
       ·as_aux_lemma=>
        have h1:(X:Int)<(Y:Int):=by omega
        have hq:((Y:Int)==(X:Int))=false:=beq_eq_false_iff_ne.2 (by omega);have HTD:Hid ((l'.set A X).set E X=told l' A E/\(told l' A E).sum<l'.sum):=by
         refine ⟨?_,told_sum (by omega) (by omega) (by rw [HXY.out.1,HXY.out.2];omega)⟩;unfold told;rw [HXY.out.1,HXY.out.2,show min X Y=X by omega]
        have HYE:Hid (l'.getD E 0=Y):=HXY.out.2;have HNE:Hid (A≠E):=λ e=>by have h1:=HXY.out.1;have h2:=HXY.out.2;rw [e] at h1;omega
        have HSM:Hid (l'.sum<=l.sum):=by
         rcases HS'.out with ⟨_,rfl,_⟩ | ⟨_,h⟩
         ·exact Nat.le_refl _
         ·exact Nat.le_of_lt h
        clear HS' HX HAE HXY;go_wp2_with fail;rw [HW1.out];go_quiet (fail);have HV:Hid (RowL (W1.drewN nq) w.heap.size l'/\Below w.heap.size w (W1.drewN nq)):=⟨HR1.out.1.drewN nq,below_drewN HR1.out.2 nq⟩;have s1:(W1.drewN nq).cell? ⟨wr.heap.size,1,none⟩=some (.int .i64 (A:Int)):=p1;have s2:(W1.drewN nq).cell? ⟨wr.heap.size,2,none⟩=some (.int .i64 (E:Int)):=p2;have s3:(W1.drewN nq).cell? ⟨w.heap.size,A,none⟩=some (.int .i64 (X:Int)):=qA;have s4:(W1.drewN nq).cell? ⟨w.heap.size,E,none⟩=some (.int .i64 (Y:Int)):=qE;clear p1 p2 qA qE;generalize W1.drewN nq=V at*;have hmin:min (X:Int) (Y:Int)=(X:Int):=by omega
        simp only [hmin];clear hmin;go_upto_region 15 with fail
        have hrd:RowL V.drew w.heap.size l':=HV.out.1;have t1:V.drew.cell? ⟨wr.heap.size,1,none⟩=some (.int .i64 (A:Int)):=s1;have t2:V.drew.cell? ⟨wr.heap.size,2,none⟩=some (.int .i64 (E:Int)):=s2;have t3:V.drew.cell? ⟨w.heap.size,A,none⟩=some (.int .i64 (X:Int)):=s3;have f3:=hrd.frozen A;have hrs:=hrd.set A X;have t4:V.drew.cell? ⟨w.heap.size,E,none⟩=some (.int .i64 (Y:Int)):=s4;have f4:=hrd.frozen E;have f5:=hrs.frozen E;have t5:=hrs.cell E (by simp;omega);rw [show (l'.set A X).getD E 0=Y by rw [<-HYE.out];simp [HNE.out]] at t5;have t6:(V.setCell ⟨w.heap.size,A,none⟩ (.int .i64 (X:Int))).cell? ⟨w.heap.size,E,none⟩=some (.int .i64 (Y:Int)):=t5;have f6:(V.setCell ⟨w.heap.size,A,none⟩ (.int .i64 (X:Int))).frozen? ⟨w.heap.size,E,none⟩=false:=f5;have t7:(V.setCell ⟨w.heap.size,A,none⟩ (.int .i64 (X:Int))).drew.cell? ⟨w.heap.size,E,none⟩=some (.int .i64 (Y:Int)):=t5;have f7:(V.setCell ⟨w.heap.size,A,none⟩ (.int .i64 (X:Int))).drew.frozen? ⟨w.heap.size,E,none⟩=false:=f5;have hAE:¬A=E:=HNE.out;have hEA:¬E=A:=λ e=>HNE.out e.symm
        have HRT:Hid (RowL ((V.drew.setCell ⟨w.heap.size,A,none⟩ (.int .i64 (X:Int))).setCell ⟨w.heap.size,E,none⟩ (.int .i64 (X:Int))) w.heap.size (told l' A E)/\Below w.heap.size w ((V.drew.setCell ⟨w.heap.size,A,none⟩ (.int .i64 (X:Int))).setCell ⟨w.heap.size,E,none⟩ (.int .i64 (X:Int)))):=by
         refine ⟨?_,(((HV.out.2.drew).setCell (Nat.le_refl _) _).setCell (Nat.le_refl _) _)⟩;rw [<-HTD.out.1];exact hrs.set E X
        clear hrd hrs hq h1;go_region_held (λ w'=>w'.cell? ⟨wr.heap.size,1,none⟩=some (.int .i64 (A:Int))/\w'.cell? ⟨wr.heap.size,2,none⟩=some (.int .i64 (E:Int))) (go_keep) (fail)
        all_goals
         go_wp2_with fail;go_roundw;case rel=>exact ⟨j+1,told l' A E,by omega,by go_num,HT.out,HRT.out.1,HRT.out.2,.inr ⟨rfl,by have:=HTD.out.2;have:=HSM.out;omega⟩⟩
         case measure=>simp [intOf];omega
       ·as_aux_lemma=>
        subst hxy;have HF:Hid (u5= .bool false/\l'=l/\(∀i e,i<j+1->R[i]? =some e->l.getD (ea e) 0=l.getD (eb e) 0)\/u5= .bool true/\l'.sum<l.sum):=by
         rcases HS'.out with ⟨h1,rfl,h3⟩ | h1
         ·refine .inl ⟨h1,rfl,λ i e hi he=>?_⟩
          by_cases hij:i=j
          ·subst hij
           have:e=(x0,(A:Int),(E:Int)):=by rw [HX.out] at he;injection he with he;exact he.symm
           rw [this,HAE.out.1,HAE.out.2,HXY.out.1,HXY.out.2]
          ·exact h3 i e (by omega) he
         ·exact .inr h1
        clear HT HS' HX HAE HXY;go_wp2_with fail;rw [HW1.out];go_quiet (fail);have HV:Hid (RowL (W1.drewN nq) w.heap.size l'/\Below w.heap.size w (W1.drewN nq)):=⟨HR1.out.1.drewN nq,below_drewN HR1.out.2 nq⟩;have s1:(W1.drewN nq).cell? ⟨wr.heap.size,1,none⟩=some (.int .i64 (A:Int)):=p1;have s2:(W1.drewN nq).cell? ⟨wr.heap.size,2,none⟩=some (.int .i64 (E:Int)):=p2;have s3:(W1.drewN nq).cell? ⟨w.heap.size,A,none⟩=some (.int .i64 (X:Int)):=qA;have s4:(W1.drewN nq).cell? ⟨w.heap.size,E,none⟩=some (.int .i64 (X:Int)):=qE;clear p1 p2 qA qE;generalize W1.drewN nq=V at*;go_wp2_with fail;go_roundw;case rel=>exact ⟨j+1,l',by omega,by go_num,HR.out.1,HV.out.1,HV.out.2,HF.out⟩
        case measure=>simp [intOf];omega
       ·as_aux_lemma=>
        have h1:(Y:Int)<(X:Int):=by omega
        have hq:((X:Int)==(Y:Int))=false:=beq_eq_false_iff_ne.2 (by omega);have HTD:Hid ((l'.set A Y).set E Y=told l' A E/\(told l' A E).sum<l'.sum):=by
         refine ⟨?_,told_sum (by omega) (by omega) (by rw [HXY.out.1,HXY.out.2];omega)⟩;unfold told;rw [HXY.out.1,HXY.out.2,show min X Y=Y by omega]
        have HYE:Hid (l'.getD E 0=Y):=HXY.out.2;have HNE:Hid (A≠E):=λ e=>by have h1:=HXY.out.1;have h2:=HXY.out.2;rw [e] at h1;omega
        have HSM:Hid (l'.sum<=l.sum):=by
         rcases HS'.out with ⟨_,rfl,_⟩ | ⟨_,h⟩
         ·exact Nat.le_refl _
         ·exact Nat.le_of_lt h
        clear HS' HX HAE HXY;go_wp2_with fail;rw [HW1.out];go_quiet (fail);have HV:Hid (RowL (W1.drewN nq) w.heap.size l'/\Below w.heap.size w (W1.drewN nq)):=⟨HR1.out.1.drewN nq,below_drewN HR1.out.2 nq⟩;have s1:(W1.drewN nq).cell? ⟨wr.heap.size,1,none⟩=some (.int .i64 (A:Int)):=p1;have s2:(W1.drewN nq).cell? ⟨wr.heap.size,2,none⟩=some (.int .i64 (E:Int)):=p2;have s3:(W1.drewN nq).cell? ⟨w.heap.size,A,none⟩=some (.int .i64 (X:Int)):=qA;have s4:(W1.drewN nq).cell? ⟨w.heap.size,E,none⟩=some (.int .i64 (Y:Int)):=qE;clear p1 p2 qA qE;generalize W1.drewN nq=V at*;have hmin:min (X:Int) (Y:Int)=(Y:Int):=by omega
        simp only [hmin];clear hmin;go_upto_region 15 with fail
        have hrd:RowL V.drew w.heap.size l':=HV.out.1;have t1:V.drew.cell? ⟨wr.heap.size,1,none⟩=some (.int .i64 (A:Int)):=s1;have t2:V.drew.cell? ⟨wr.heap.size,2,none⟩=some (.int .i64 (E:Int)):=s2;have t3:V.drew.cell? ⟨w.heap.size,A,none⟩=some (.int .i64 (X:Int)):=s3;have f3:=hrd.frozen A;have hrs:=hrd.set A Y;have t4:V.drew.cell? ⟨w.heap.size,E,none⟩=some (.int .i64 (Y:Int)):=s4;have f4:=hrd.frozen E;have f5:=hrs.frozen E;have t5:=hrs.cell E (by simp;omega);rw [show (l'.set A Y).getD E 0=Y by rw [<-HYE.out];simp [HNE.out]] at t5;have t6:(V.setCell ⟨w.heap.size,A,none⟩ (.int .i64 (Y:Int))).cell? ⟨w.heap.size,E,none⟩=some (.int .i64 (Y:Int)):=t5;have f6:(V.setCell ⟨w.heap.size,A,none⟩ (.int .i64 (Y:Int))).frozen? ⟨w.heap.size,E,none⟩=false:=f5;have t7:(V.setCell ⟨w.heap.size,A,none⟩ (.int .i64 (Y:Int))).drew.cell? ⟨w.heap.size,E,none⟩=some (.int .i64 (Y:Int)):=t5;have f7:(V.setCell ⟨w.heap.size,A,none⟩ (.int .i64 (Y:Int))).drew.frozen? ⟨w.heap.size,E,none⟩=false:=f5;have hAE:¬A=E:=HNE.out;have hEA:¬E=A:=λ e=>HNE.out e.symm
        have HRT:Hid (RowL ((V.drew.setCell ⟨w.heap.size,A,none⟩ (.int .i64 (Y:Int))).setCell ⟨w.heap.size,E,none⟩ (.int .i64 (Y:Int))) w.heap.size (told l' A E)/\Below w.heap.size w ((V.drew.setCell ⟨w.heap.size,A,none⟩ (.int .i64 (Y:Int))).setCell ⟨w.heap.size,E,none⟩ (.int .i64 (Y:Int)))):=by
         refine ⟨?_,(((HV.out.2.drew).setCell (Nat.le_refl _) _).setCell (Nat.le_refl _) _)⟩;rw [<-HTD.out.1];exact hrs.set E Y
        clear hrd hrs hq h1;go_region_held (λ w'=>w'.cell? ⟨wr.heap.size,1,none⟩=some (.int .i64 (A:Int))/\w'.cell? ⟨wr.heap.size,2,none⟩=some (.int .i64 (E:Int))) (go_keep) (fail)
        all_goals
         go_wp2_with fail;go_roundw;case rel=>exact ⟨j+1,told l' A E,by omega,by go_num,HT.out,HRT.out.1,HRT.out.2,.inr ⟨rfl,by have:=HTD.out.2;have:=HSM.out;omega⟩⟩
         case measure=>simp [intOf];omega
      ·have hje:j=m:=by omega
       subst hje;rcases hs' with ⟨rfl,rfl,hall⟩ | ⟨rfl,hsum'⟩
       ·as_aux_lemma=>
        have HF:Hid (Lab k R l'/\RowL wr w.heap.size l'/\Below w.heap.size w wr/\∀e∈R,l'.getD (ea e) 0=l'.getD (eb e) 0):=⟨hlab',hr',hb',λ e he=>by
         obtain ⟨i,hi,hie⟩:=List.mem_iff_getElem.1 he;exact hall i e (by rw [HM.out];exact hi) (by rw [List.getElem?_eq_getElem hi,hie])⟩
        clear hlab' hr' hb' hall HL;go_wp2_with fail;go_roundg (gk-1);case measure=>omega
        case rel=>exact ⟨l',HF.out.1,HF.out.2.1,HF.out.2.2.1,.inr ⟨rfl,HF.out.2.2.2⟩⟩
       ·as_aux_lemma=>
        have HF:Hid (Lab k R l'/\RowL wr w.heap.size l'/\Below w.heap.size w wr):=⟨hlab',hr',hb'⟩;clear hlab' hr' hb' HL;go_wp2_with fail;go_roundg (l'.sum+1);case measure=>omega
        case rel=>exact ⟨l',HF.out.1,HF.out.2.1,HF.out.2.2,.inl ⟨rfl,by omega⟩⟩
    ·as_aux_lemma=>
     have HF:Hid (LabPostG w k R (.returned (.slice (some ⟨w.heap.size,0,none⟩) k k)) wr):=
      ⟨_,l,rfl,hr,Nat.le_refl _,lab_good hlab (λ u v hu hv=>lab_done hlab (λ e he=>⟨(HIN.out e he).1,(HIN.out e he).2.1⟩) hall hu hv),λ u v hu hv=>lab_done hlab (λ e he=>⟨(HIN.out e he).1,(HIN.out e he).2.1⟩) hall hu hv,hb⟩
     clear hr hb hlab hall;go_wp2_with fail;go_ret;exact HF.out
structure AllL (w:World) (base cw n:Nat) (v:Value) (P:List (Nat × List Nat)):Prop where
 own:w.ownsRow base 48 1 v P.length (P.map λ p=>.slice (some ⟨p.1,0,none⟩) n n)
 rows:∀p∈P,RowL w p.1 p.2/\p.2.length=n
 box:w.heap[cw]? =some (.cells #[v] 51)
theorem AllL.below {w w':World} {base cw n:Nat} {v:Value} {P:List (Nat × List Nat)} (h:AllL w base cw n v P) (hb:Below w.heap.size w w'):AllL w' base cw n v P:=
 ⟨h.own.kept (grown_below hb) (by cases v.ownBlock <;> simp),λ p hp=>⟨(h.rows p hp).1.below hb (h.rows p hp).1.lt,(h.rows p hp).2⟩,(hb.block cw (lt_of_some h.box)).trans h.box⟩
theorem AllL.shape {w:World} {base cw n:Nat} {v:Value} {P:List (Nat × List Nat)} (h:AllL w base cw n v P) (hp:0<P.length):∃g cap,v= .slice (some ⟨g,0,none⟩) P.length cap/\∀i p,P[i]? =some p->w.cell? ⟨g,i,none⟩=some (.slice (some ⟨p.1,0,none⟩) n n):=by
 have h0:=h.own;rcases h.own.2 with ⟨_,hz⟩ | ⟨g,cap,cur,rfl,_⟩
 ·omega
 ·refine ⟨g,cap,rfl,λ i p hi=>?_⟩
  rw [h0.cellAt i (by have:=(List.getElem?_eq_some_iff.1 hi).1;omega)];simp [hi]
theorem own_block {w:World} {base:Nat} {v:Value} {k:Nat} {xs:List Value} (h:w.ownsRow base 48 1 v k xs) {g:Nat} (hg:v.ownBlock=some g):∃cur,w.heap[g]? =some (.cells cur 48):=by
 rcases h.2 with ⟨rfl,_⟩ | ⟨g',cap,cur,rfl,_,hc,_⟩
 ·simp [Value.ownBlock] at hg
 ·simp [Value.ownBlock] at hg
  subst hg;exact ⟨_,hc⟩
theorem AllL.push {w w4:World} {base cw n b:Nat} {v v':Value} {P:List (Nat × List Nat)} {l:List Nat} {o:Obj} (h:AllL w base cw n v P) (hr:RowL w b l) (hl:l.length=n) (hown:w4.ownsRow base 48 1 v' (P.length+1) ((P.map λ p=>.slice (some ⟨p.1,0,none⟩) n n)++[.slice (some ⟨b,0,none⟩) n n]))
 (hg:(w.alloc o).grownBy w4 v.ownBlock):AllL (w4.setCell ⟨cw,0,none⟩ v') base cw n v' (P++[(b,l)])/\w4.cell? ⟨cw,0,none⟩=some v/\w4.frozen? ⟨cw,0,none⟩=false:=by
 have hne:∀k,k<w.heap.size->(∀cur,w.heap[k]? ≠some (.cells cur 48))->w4.heap[k]? =w.heap[k]? :=by
  intro k hk hn;have h1:(w.alloc o).heap[k]? =w.heap[k]? :=Below.heap_alloc w o k hk;rw [hg.block k (by simp;omega) (λ e=>?_),h1];obtain ⟨cur,hc⟩:=own_block h.own e.symm;exact hn cur hc
 have hbox:w4.heap[cw]? =some (.cells #[v] 51):=(hne cw (lt_of_some h.box) (λ cur=>by rw [h.box];simp)).trans h.box;have hrow:∀p∈P++[(b,l)],RowL w4 p.1 p.2/\p.2.length=n:=by
  intro p hp;have h1:RowL w p.1 p.2/\p.2.length=n:=by
   rcases List.mem_append.1 hp with hp | hp
   ·exact h.rows p hp
   ·rw [List.mem_singleton.1 hp];exact ⟨hr,hl⟩
  exact ⟨(hne p.1 h1.1.lt (λ cur=>by rw [h1.1];simp)).trans h1.1,h1.2⟩
 refine ⟨⟨?_,?_,?_⟩,by simp [World.cell?,hbox],by simp [World.frozen?,hbox]⟩
 ·have hv:v'.ownBlock≠some cw:=by
   intro e;obtain ⟨cur,hc⟩:=own_block hown e;rw [hbox] at hc;simp at hc
  have e1:(P++[(b,l)]).length=P.length+1:=by simp
  have e2:((P++[(b,l)]).map λ p=>Value.slice (some ⟨p.1,0,none⟩) n n)=(P.map λ p=>.slice (some ⟨p.1,0,none⟩) n n)++[.slice (some ⟨b,0,none⟩) n n]:=by simp
  rw [e1,e2];refine hown.kept (row:=some cw) ⟨rfl,rfl,rfl,by simp,λ i _ hi=>Below.heap_setCell _ _ _ _ (λ e=>hi (by rw [e]))⟩ ?_;exact Or.inr hv
 ·intro p hp
  refine ⟨?_,(hrow p hp).2⟩;show (w4.setCell ⟨cw,0,none⟩ v').heap[p.1]? =_;rw [Below.heap_setCell _ _ _ _ (λ e=>?_)]
  ·exact (hrow p hp).1
  ·have:=(hrow p hp).1
   unfold RowL at this;have e':p.1=cw:=e;rw [e',hbox] at this;simp at this
 ·simp [World.setCell,Array.getElem?_modify,hbox]
structure Bx (w:World) (B q n N:Nat) (u:Value) (R:List Edg) (bq bn:Nat):Prop where
 ga:G.GAt w B 40 61 q (n:Int) u R
 cq:w.cell? ⟨bq,0,none⟩=some (.pointer (some ⟨q,0,none⟩))
 cn:w.cell? ⟨bn,0,none⟩=some (.int .i64 (N:Int))
theorem Bx.below {w w':World} {B q n N:Nat} {u:Value} {R:List Edg} {bq bn:Nat} (h:Bx w B q n N u R bq bn) (hb:Below w.heap.size w w'):Bx w' B q n N u R bq bn:=⟨h.ga.below hb,cell_below h.cq hb,cell_below h.cn hb⟩
end Go.Proofs.YtebcjaenhiiflaaGreatDoor.S
