import Derived.Test.YtebcjaenhiiflaaGreatDoorQFDbFDj
set_option maxHeartbeats 8000000
set_option maxRecDepth 100000
namespace Go.Proofs.YtebcjaenhiiflaaGreatDoor.S
open Go Go.ChangeMaps Go.MapKept Go.WideShapes Go.Proofs.Tryz
open Go.RowKit Go.WideMaps Go.Maps F
theorem z8y (n B q a b most:Nat) (u:Value) (R:List Stp) (w:World) (h:G.GAt w B 40 61 q (n:Int) u R) (hn:n<=40) (hin:z02 n R) (hl:R.length<=120) (ha:a<n) (hb:b<n) (hab:a≠b) (hm:most<=120):
 Calls prog 69 #[.pointer (some ⟨q,0,none⟩),.int .i64 (a:Int),.int .i64 (b:Int),.int .i64 (most:Int)] w (z8a w n a b most R):=by
 have HG:=kd (And.intro h hin);have c0:=h.c0;have c1:=h.c1;have HA:Hid _:=zpa n B q u R (a:Int) (b:Int) (most:Int) w h (by omega) ⟨⟨by omega,by omega⟩,⟨by omega,by omega⟩,by omega,by omega⟩ 0 (.inr ⟨by omega,rfl⟩);obtain ⟨m,hmm⟩:∃m,R.length=m:=⟨_,rfl⟩;have HMM:=kd hmm;obtain ⟨va,vc,hv⟩:=h.row.zal;rw [hmm] at hv hl;have HV:=kd hv;rw [hv] at c1;have hw2n:IntKind.i64.wrap (2*(n:Int))=2*(n:Int):=by rw [IntKind.wrap_i64];omega
 clear h hin hmm hv;go_enter func69,ntmps69;go_wp2_with fail;refine Calls.mono HA.out ?_;rintro e w1 ⟨rfl,hw1⟩;subst hw1;clear HA;go_wp2_with fail;rw [show 2*(n:Int)=((2*n:Nat):Int) by omega];refine (znu (2*n) w1 (by omega)).mono ?_;rintro e w2 ⟨rfl,hmat,hb2⟩;obtain ⟨g,hg⟩:∃g,w1.heap.size=g:=⟨_,rfl⟩;rw [hg] at hmat ⊢;have HM2:=kd (And.intro hmat hb2);have HGS:=kd hg;have c0:=cell_below c0 hb2;have c1:=cell_below c1 hb2;clear hmat hb2 hg hw2n;go_wp2_with fail;go_loopw [34] (λ s34 wq=>∃(j:Nat) (M:Nat->Nat->Int),j<=n/\s34= .int .i64 j/\Mat wq g (λ i=>g+1+i) (2*n) M/\RN M n a b j false []/\Below w1.heap.size w1 wq) (λ s34 _=>n-(intOf s34).toNat)
 case atStart=>exact ⟨0,_,Nat.zero_le _,rfl,HM2.out.1,RN.start n a b,HM2.out.2⟩
 case round=>
  clear HM2 c0 c1;obtain ⟨j,M,hj,rfl,hmat,hrn,hbl⟩:=hrel;have HR:Hid (Mat wr g (λ i=>g+1+i) (2*n) M/\RN M n a b j false []/\Below w1.heap.size w1 wr):=⟨hmat,hrn,hbl⟩;have c0:=cell_below HG.out.1.c0 hbl;clear hmat hrn hbl;by_cases hjn:j<n
  ·as_aux_lemma=>
   have o1:=HR.out.1.out j (by omega);have o2:=(HR.out.1.row j (n+j) (by omega) (by omega)).1;have o3:=(HR.out.1.row j (n+j) (by omega) (by omega)).2;have hwn:IntKind.i64.wrap ((n:Int)+(j:Int))=((n+j:Nat):Int):=by rw [IntKind.wrap_i64];omega
   have HF:Hid (Mat ((wr.setCell ⟨g+1+j,n+j,none⟩ (.int .i64 1)).drew) g (λ i=>g+1+i) (2*n) (zbo M j (n+j) 1)/\RN (zbo M j (n+j) 1) n a b (j+1) false []/\Below w1.heap.size w1 ((wr.setCell ⟨g+1+j,n+j,none⟩ (.int .i64 1)).drew)):=
    ⟨(HR.out.1.set (x:=j) (y:=n+j) (by omega) (by omega) 1).below (Below.refl _ _).drew,HR.out.2.1.node hjn,(HR.out.2.2.setCell (by show w1.heap.size<=g+1+j;have:=HGS.out;omega) _).drew⟩
   clear HR;go_upto_region 9 with fail
   go_region
   go_wp2_with fail;go_roundw;case rel=>exact ⟨j+1,_,by omega,by go_num,HF.out.1,HF.out.2.1,HF.out.2.2⟩
   case measure=>simp [intOf];omega
  ·have hje:n=j:=by omega
   subst hje;obtain ⟨wy,hwy⟩:∃wy,wy=wr:=⟨_,rfl⟩;subst hwy;have o1:=HR.out.1.out a (by omega);have o2:=(HR.out.1.row a (n+a) (by omega) (by omega)).1;have o3:=(HR.out.1.row a (n+a) (by omega) (by omega)).2;have o4:=HR.out.1.out b (by omega);have o5:=(HR.out.1.row b (n+b) (by omega) (by omega)).1;have o6:=(HR.out.1.row b (n+b) (by omega) (by omega)).2;have hwa:IntKind.i64.wrap ((n:Int)+(a:Int))=((n+a:Nat):Int):=by rw [IntKind.wrap_i64];omega
   have hwb:IntKind.i64.wrap ((n:Int)+(b:Int))=((n+b:Nat):Int):=by rw [IntKind.wrap_i64];omega
   go_upto_region 11 with fail
   go_region
   obtain ⟨W3,hW3⟩:∃W3,((wy.setCell ⟨g+1+a,n+a,none⟩ (.int .i64 120)).setCell ⟨g+1+b,n+b,none⟩ (.int .i64 120)).drew=W3:=⟨_,rfl⟩;have HS3:Hid (Mat W3 g (λ i=>g+1+i) (2*n) (zbo (zbo M a (n+a) 120) b (n+b) 120)/\RN (zbo (zbo M a (n+a) 120) b (n+b) 120) n a b n true []/\Below w1.heap.size w1 W3):=by
    rw [<-hW3];have hgs:=HGS.out;exact ⟨((HR.out.1.set (x:=a) (y:=n+a) (by omega) (by omega) 120).set (x:=b) (y:=n+b) (by omega) (by omega) 120).below (Below.refl _ _).drew,HR.out.2.1.both ha hb hab,((HR.out.2.2.setCell (by show w1.heap.size<=g+1+a;omega) _).setCell (by show w1.heap.size<=g+1+b;omega) _).drew⟩
   rw [hW3];have d0:=cell_below HG.out.1.c0 HS3.out.2.2;have d1:=cell_below HG.out.1.c1 HS3.out.2.2;rw [HV.out] at d1;obtain ⟨lo,hlo⟩:∃lo,min a b=lo:=⟨_,rfl⟩;obtain ⟨hi,hhi⟩:∃hi,max a b=hi:=⟨_,rfl⟩;have HLH:=kd (And.intro hlo hhi);have hmin:min (a:Int) (b:Int)=(lo:Int):=by omega
   have hmax:max (a:Int) (b:Int)=(hi:Int):=by omega
   clear hlo hhi o1 o2 o3 o4 o5 o6 hW3 HR hwa c0 hjn hj;go_wp2_with fail;go_loopw [11,76] (λ s11 s76 wq=>∃(j:Nat) (M:Nat->Nat->Int) (PR:List (Int × Int)),j<=m/\s76= .int .i64 j/\s11= .int .i64 (((R.take j).filter (zba a b)).length:Nat)/\Mat wq g (λ i=>g+1+i) (2*n) M/\RN M n a b n true PR/\zd7 a b R j PR/\Below w1.heap.size w1 wq) (λ _ s76 _=>m-(intOf s76).toNat)
   case atStart=>exact ⟨0,_,[],Nat.zero_le _,rfl,rfl,HS3.out.1,HS3.out.2.1,λ d=>⟨λ k=>by simp at k,λ ⟨e,k,_⟩=>by simp at k⟩,HS3.out.2.2⟩
   case round=>
    clear HS3 d0 d1;obtain ⟨j,M2,PR,hj,rfl,rfl,hmat,hrn,hpr,hbl⟩:=hrel;have HR:Hid (Mat wr g (λ i=>g+1+i) (2*n) M2/\RN M2 n a b n true PR/\zd7 a b R j PR/\Below w1.heap.size w1 wr):=⟨hmat,hrn,hpr,hbl⟩;obtain ⟨dc,hdc⟩:∃dc,((R.take j).filter (zba a b)).length=dc:=⟨_,rfl⟩;have hdcj:dc<=120:=by
     rw [<-hdc];have h1:=List.length_filter_le (zba a b) (R.take j);have h2:(R.take j).length<=j:=by simp;omega
     omega
    rw [hdc];have HDC:=kd hdc;clear hmat hrn hpr hbl hdc;by_cases hjm:j<m
    ·obtain ⟨⟨y0,y1,y2⟩,hx⟩:∃e:Stp,R[j]? =some e:=⟨_,List.getElem?_eq_getElem (by rw [HMM.out];exact hjm)⟩
     obtain ⟨x,y,hxn,hyn,hxy,he1,he2⟩:=HG.out.2 _ (List.mem_of_getElem? hx);have he1:y1=(x:Int):=he1;have he2:y2=(y:Int):=he2;subst he1;subst he2;have hea:ea (y0,(x:Int),(y:Int))=x:=by simp [ea]
     have heb:eb (y0,(x:Int),(y:Int))=y:=by simp [eb]
     obtain ⟨g2,hva⟩:∃g2,va=some ⟨g2,0,none⟩:=by
      rcases HG.out.1.row.shape with ⟨_,k⟩ | ⟨g2,cap2,k,_⟩
      ·rw [k] at hx;simp at hx
      ·rw [HV.out] at k
       injection k with e1 _ _
       exact ⟨g2,e1⟩
     subst hva;obtain ⟨r0,r1,r2⟩:=HG.out.1.row.at (g:=g2) (by rw [HV.out];rfl) hx;simp only at r0 r1 r2;have r0:=cell_below r0 HR.out.2.2.2;have r1:=cell_below r1 HR.out.2.2.2;have r2:=cell_below r2 HR.out.2.2.2;obtain ⟨W1,hW1⟩:∃W1,W1=wr.alloc (.cells #[.int .i64 y0,.int .i64 (x:Int),.int .i64 (y:Int)] 61):=⟨_,rfl⟩;have hbW:Below wr.heap.size wr W1:=by rw [hW1];exact (Below.refl _ _).alloc (Nat.le_refl _) _
     have hbx:W1.heap[wr.heap.size]? =some (.cells #[.int .i64 y0,.int .i64 (x:Int),.int .i64 (y:Int)] 61):=by rw [hW1];exact heap_alloc_new wr _
     have p1:W1.cell? ⟨wr.heap.size,1,none⟩=some (.int .i64 (x:Int)):=by simp [World.cell?,hbx]
     have p2:W1.cell? ⟨wr.heap.size,2,none⟩=some (.int .i64 (y:Int)):=by simp [World.cell?,hbx]
     have HW1:=kd hW1.symm;have HEX:Hid (R[j]? =some (y0,(x:Int),(y:Int))/\ea (y0,(x:Int),(y:Int))=x/\eb (y0,(x:Int),(y:Int))=y):=⟨hx,hea,heb⟩;have HB1:Hid (Below wr.heap.size wr W1/\Below w1.heap.size w1 W1):=⟨hbW,HR.out.2.2.2.trans (hbW.mono HR.out.2.2.2.size)⟩;have HBXM:Hid (∀i,i<2*n->wr.heap.size≠g+1+i):=λ i hi2 e=>by
      have h1:g+1+i<wr.heap.size:=(HR.out.1.lt (by omega)).2 i hi2;omega
     clear hx hW1 hbW hbx hea heb;by_cases hdir:zba a b (y0,(x:Int),(y:Int))=true
     ·as_aux_lemma=>
      have hdd:=of_decide_eq_true hdir;rw [HEX.out.2.1,HEX.out.2.2] at hdd;have e1:((x:Int)==(lo:Int))=true:=beq_iff_eq.2 (by obtain ⟨l1,l2⟩:=HLH.out;omega);have e2:((y:Int)==(hi:Int))=true:=beq_iff_eq.2 (by obtain ⟨l1,l2⟩:=HLH.out;omega);have hwd:IntKind.i64.wrap ((dc:Int)+1)=(dc:Int)+1:=by rw [IntKind.wrap_i64];omega
      have HF:Hid (((R.take (j+1)).filter (zba a b)).length=dc+1/\zd7 a b R (j+1) PR/\Mat W1 g (λ i=>g+1+i) (2*n) M2):=by
       refine ⟨?_,HR.out.2.2.1.skip HEX.out.1 hdir,HR.out.1.below HB1.out.1⟩;rw [zch HEX.out.1,List.filter_append,List.length_append,HDC.out];simp [hdir]
      clear hdd hdir
      go_upto_if 93 with fail
      rw [HW1.out];go_wp2_with fail;go_roundw;case rel=>exact ⟨j+1,M2,PR,by omega,by go_num,by rw [HF.out.1];rfl,HF.out.2.2,HR.out.2.1,HF.out.2.1,HB1.out.2⟩
      case measure=>simp [intOf];omega
     ·have hdf:zba a b (y0,(x:Int),(y:Int))=false:=by simpa using hdir
      have hdd:=of_decide_eq_false hdf;rw [HEX.out.2.1,HEX.out.2.2] at hdd;have hor:x≠lo\/y≠hi:=by obtain ⟨l1,l2⟩:=HLH.out;omega
      obtain ⟨P1,hr1,hp1⟩:=HR.out.2.1.pair hxn hyn;obtain ⟨P2,hr2,hp2⟩:=hr1.pair hyn hxn;have hm1:=HR.out.1.below HB1.out.1;have o1:=hm1.out (n+x) (by omega);have o2:=(hm1.row (n+x) y (by omega) (by omega)).1;have o3:=(hm1.row (n+x) y (by omega) (by omega)).2;have hwx:IntKind.i64.wrap ((n:Int)+(x:Int))=((n+x:Nat):Int):=by rw [IntKind.wrap_i64];omega
      have hwy2:IntKind.i64.wrap ((n:Int)+(y:Int))=((n+y:Nat):Int):=by rw [IntKind.wrap_i64];omega
      have d0:=cell_below HG.out.1.c0 HB1.out.2;obtain ⟨W2,hW2⟩:∃W2,(W1.setCell ⟨g+1+(n+x),y,none⟩ (.int .i64 1)).drew=W2:=⟨_,rfl⟩;have hm2:Mat W2 g (λ i=>g+1+i) (2*n) (zbo M2 (n+x) y 1):=by
       rw [<-hW2];exact (hm1.set (x:=n+x) (y:=y) (by omega) (by omega) 1).below (Below.refl _ _).drew
      have hb2:Below w1.heap.size w1 W2:=by
       rw [<-hW2];exact (HB1.out.2.setCell (by show w1.heap.size<=g+1+(n+x);have:=HGS.out;omega) _).drew
      have keep:∀i v,W1.cell? ⟨wr.heap.size,i,none⟩=some v->W2.cell? ⟨wr.heap.size,i,none⟩=some v:=λ i v hc=>by
       rw [<-hW2];show (W1.setCell _ _).cell? _=_;rw [World.cell?_setCell_far _ _ _ _ (by show g+1+(n+x)≠wr.heap.size;exact λ e=>HBXM.out (n+x) (by omega) e.symm)];exact hc
      have q1:=keep 1 _ p1;have q2:=keep 2 _ p2;have o4:=hm2.out (n+y) (by omega);have o5:=(hm2.row (n+y) x (by omega) (by omega)).1;have o6:=(hm2.row (n+y) x (by omega) (by omega)).2;have d2:=cell_below HG.out.1.c0 hb2;have HF:Hid (Mat ((W2.setCell ⟨g+1+(n+y),x,none⟩ (.int .i64 1)).drew) g (λ i=>g+1+i) (2*n) (zbo (zbo M2 (n+x) y 1) (n+y) x 1)/\RN (zbo (zbo M2 (n+x) y 1) (n+y) x 1) n a b n true P2/\zd7 a b R (j+1) P2/\Below w1.heap.size w1 ((W2.setCell ⟨g+1+(n+y),x,none⟩ (.int .i64 1)).drew)/\((R.take (j+1)).filter (zba a b)).length=dc):=by
       refine ⟨(hm2.set (x:=n+y) (y:=x) (by omega) (by omega) 1).below (Below.refl _ _).drew,hr2,HR.out.2.2.1.more (P1:=P1) HEX.out.1 hdf ?_ ?_,(hb2.setCell (by show w1.heap.size<=g+1+(n+y);have:=HGS.out;omega) _).drew,?_⟩
       ·rw [HEX.out.2.1,HEX.out.2.2];exact hp1
       ·rw [HEX.out.2.1,HEX.out.2.2];exact hp2
       ·rw [zch HEX.out.1,List.filter_append,List.length_append,HDC.out]
        simp [hdf]
      have HW2:=kd hW2;clear hdir hdf hdd hr1 hr2 hp1 hp2 hm1 hm2 hW2 keep hb2 HR HB1;by_cases hxl:x≠lo
      ·as_aux_lemma=>
       have e1:((x:Int)==(lo:Int))=false:=beq_eq_false_iff_ne.2 (by omega)
       go_upto_if 93 with fail
       rw [HW1.out];go_upto_region 17 with fail
       go_region
       rw [HW2.out];go_upto_region 18 with fail
       go_region
       go_wp2_with fail;go_roundw;case rel=>exact ⟨j+1,_,P2,by omega,by go_num,by rw [HF.out.2.2.2.2],HF.out.1,HF.out.2.1,HF.out.2.2.1,HF.out.2.2.2.1⟩
       case measure=>simp [intOf];omega
      ·as_aux_lemma=>
       have e1:((x:Int)==(lo:Int))=true:=beq_iff_eq.2 (by omega);have e2:((y:Int)==(hi:Int))=false:=beq_eq_false_iff_ne.2 (by omega)
       go_upto_if 93 with fail
       rw [HW1.out];go_upto_region 17 with fail
       go_region
       rw [HW2.out];go_upto_region 18 with fail
       go_region
       go_wp2_with fail;go_roundw;case rel=>exact ⟨j+1,_,P2,by omega,by go_num,by rw [HF.out.2.2.2.2],HF.out.1,HF.out.2.1,HF.out.2.2.1,HF.out.2.2.2.1⟩
       case measure=>simp [intOf];omega
    ·have hje:m=j:=by omega
     subst hje;have HC:Hid _:=zra g (λ i=>g+1+i) (2*n) a (n+b) (2*n) most M2 wr HR.out.1 (by omega) (by omega) (by omega) (by omega) HR.out.2.1.bd;have d0:=cell_below HG.out.1.c0 HR.out.2.2.2;have HPR:Hid (zd7 a b R R.length PR/\Below w1.heap.size w1 wr/\zb0 M2 (2*n)=zfn n a b PR):=⟨by rw [HMM.out];exact HR.out.2.2.1,HR.out.2.2.2,by funext S;rw [HR.out.2.1.cap S];rfl⟩;have HDF:Hid ((R.filter (zba a b)).length=dc):=by
      have:=HDC.out
      rwa [List.take_of_length_le (by rw [HMM.out];exact Nat.le_refl _)] at this
     clear HR HDC;go_wp2_with fail;refine Calls.mono HC.out ?_;rintro e w3 ⟨k,rfl,hvk,hka⟩;rw [HPR.out.2.2] at hvk;have hk:(k:Int)<=most:=hvk.le;have hwd:IntKind.i64.wrap ((dc:Int)+(k:Int))=(dc:Int)+(k:Int):=by rw [IntKind.wrap_i64];omega
     have HF:Hid (Val (zfn n a b PR) a ((n+b:Nat):Int) most k/\Below w1.heap.size w1 w3):=⟨hvk,HPR.out.2.1.trans (hka.old HPR.out.2.1.size (λ i _=>by have:=HGS.out;omega))⟩;clear hvk hka HC;go_wp2_with fail;go_ret2;exact ⟨k,PR,by rw [HDF.out];rfl,HPR.out.1,HF.out.1,HF.out.2⟩
theorem zoh (n B0 q b:Nat) (x:Int) (u:Value) (L:List (Int × Int × Int)) (w:World) (h:G.GAt w B0 168 61 q (n:Int) u L) (hb:w.cell? ⟨b,0,none⟩=some (.pointer (some ⟨q,0,none⟩))) (hx:¬(0<=x/\x<=(n:Int)-1)):
 Calls prog 312 #[.int .i64 x,.pointer (some ⟨b,0,none⟩)] w λ e w'=>e= .returned (.bool true)/\w'=w:=by
 have HG:=kd h;clear h;by_cases h1:x<0
 ·go_enter func312,ntmps312
  go_wp2_with fail;go_ret;exact ⟨rfl,rfl⟩
 ·have h2:(n:Int)<=x:=by omega
  go_enter func312,ntmps312;go_wp2_with fail;refine (G.zbb (n:Int) B0 q u L w HG.out).mono ?_;rintro e w1 ⟨rfl,hw1⟩;subst hw1;go_wp2_with fail;go_ret;have h4:decide ((n:Int)<=x)=true:=decide_eq_true h2
  first | exact ⟨by rw [h4],rfl⟩ | exact ⟨rfl,rfl⟩
theorem zoj (n B0 q b:Nat) (x:Int) (u:Value) (L:List (Int × Int × Int)) (w:World) (h:G.GAt w B0 168 61 q (n:Int) u L) (hb:w.cell? ⟨b,0,none⟩=some (.pointer (some ⟨q,0,none⟩))) (hx:0<=x/\x<=(n:Int)-1):
 Calls prog 312 #[.int .i64 x,.pointer (some ⟨b,0,none⟩)] w λ e w'=>e= .returned (.bool false)/\w'=w:=by
 obtain ⟨y,rfl⟩:∃y:Nat,x=(y:Int):=⟨x.toNat,by omega⟩;exact zg0 n B0 q b y u L w h hb (by omega)
def zcn (n:Nat) (a b most c:Int):Prop:=(¬zlm n a b most/\c=2)\/(zlm n a b most/\a=b/\c=1)
theorem zom (n B0 q:Nat) (a b m c:Int) (u:Value) (L:List (Int × Int × Int)) (w:World) (h:G.GAt w B0 168 61 q (n:Int) u L) (hno:zcn n a b m c):
 Calls prog 234 #[.pointer (some ⟨q,0,none⟩),.int .i64 a,.int .i64 b,.int .i64 m] w λ e w'=>e= .returned (.iface 23 (.int .i64 c))/\Below w.heap.size w w':=by
 have HG1:Hid (G.GAt (w.alloc (.cells #[.pointer (some ⟨q,0,none⟩)] 82)) B0 168 61 q (n:Int) u L):=h.below ((Below.refl _ _).alloc (Nat.le_refl _) _);have hc:(w.alloc (.cells #[.pointer (some ⟨q,0,none⟩)] 82)).cell? ⟨w.heap.size,0,none⟩=some (.pointer (some ⟨q,0,none⟩)):=by simp
 have HB:Hid (Below w.heap.size w (w.alloc (.cells #[.pointer (some ⟨q,0,none⟩)] 82))):=(Below.refl _ _).alloc (Nat.le_refl _) _;have HNO:=kd hno;clear h hno;go_enter func234,ntmps234;go_wp2_with fail;by_cases h1:0<=a/\a<=(n:Int)-1
 ·refine (zoj n B0 q w.heap.size a u L _ HG1.out hc h1).mono ?_
  rintro e w1 ⟨rfl,hw1⟩;rw [hw1];clear hw1;go_wp2_with fail;by_cases h2:0<=b/\b<=(n:Int)-1
  ·refine (zoj n B0 q w.heap.size b u L _ HG1.out hc h2).mono ?_
   rintro e w2 ⟨rfl,hw2⟩;rw [hw2];clear hw2;by_cases h3:m<0
   ·have hce:c=2:=by
     rcases HNO.out with ⟨_,k⟩ | ⟨k,_⟩
     ·exact k
     ·obtain ⟨_,_,k3,_⟩:=k;omega
    subst hce;clear HG1 hc;go_wp2_with fail;go_ret;exact ⟨rfl,HB.out⟩
   ·by_cases h4:m > 120
    ·have hce:c=2:=by
      rcases HNO.out with ⟨_,k⟩ | ⟨k,_⟩
      ·exact k
      ·obtain ⟨_,_,_,k3⟩:=k;omega
     subst hce;clear HG1 hc;go_wp2_with fail;go_ret;exact ⟨rfl,HB.out⟩
    ·obtain ⟨hab,hce⟩:a=b/\c=1:=by
      rcases HNO.out with ⟨k,_⟩ | ⟨_,k⟩
      ·exact absurd ⟨h1,h2,by omega,by omega⟩ k
      ·exact k
     subst hab;subst hce;clear HG1 hc;go_wp2_with fail;go_ret;exact ⟨rfl,HB.out⟩
  ·refine (zoh n B0 q w.heap.size b u L _ HG1.out hc h2).mono ?_
   rintro e w2 ⟨rfl,hw2⟩;rw [hw2];have hce:c=2:=by
    rcases HNO.out with ⟨_,k⟩ | ⟨k,_⟩
    ·exact k
    ·exact absurd k.2.1 h2
   subst hce;clear HG1 hc hw2;go_wp2_with fail;go_ret;exact ⟨rfl,HB.out⟩
 ·refine (zoh n B0 q w.heap.size a u L _ HG1.out hc h1).mono ?_
  rintro e w1 ⟨rfl,hw1⟩;rw [hw1];have hce:c=2:=by
   rcases HNO.out with ⟨_,k⟩ | ⟨k,_⟩
   ·exact k
   ·exact absurd k.1 h1
  subst hce;clear HG1 hc hw1;go_wp2_with fail;go_ret;exact ⟨rfl,HB.out⟩
theorem zow (n B0 q:Nat) (a b m c:Int) (u:Value) (L:List (Int × Int × Int)) (w:World) (h:G.GAt w B0 168 61 q (n:Int) u L) (hno:zcn n a b m c):
 Calls prog 128 #[.pointer (some ⟨q,0,none⟩),.int .i64 a,.int .i64 b,.int .i64 m] w λ e w'=>e= .returned (.tuple #[.int .i64 0,.iface 23 (.int .i64 c)])/\Below w.heap.size w w':=by
 have HC:Hid _:=zom n B0 q a b m c u L w h hno;clear h hno;go_enter func128,ntmps128;go_wp2_with fail;refine Calls.mono HC.out ?_;rintro e w1 ⟨rfl,hb1⟩;have HB:=kd hb1;clear hb1 HC;go_wp2_with fail;go_ret2;exact ⟨rfl,HB.out⟩
theorem zos (n B0 q:Nat) (a b m c:Int) (u:Value) (L:List (Int × Int × Int)) (w:World) (h:G.GAt w B0 168 61 q (n:Int) u L) (hno:zcn n a b m c):
 Calls prog 129 #[.pointer (some ⟨q,0,none⟩),.int .i64 a,.int .i64 b,.int .i64 m] w λ e w'=>e= .returned (.tuple #[.int .i64 0,.iface 23 (.int .i64 c)])/\Below w.heap.size w w':=by
 have HC:Hid _:=zom n B0 q a b m c u L w h hno;clear h hno;go_enter func129,ntmps129;go_wp2_with fail;refine Calls.mono HC.out ?_;rintro e w1 ⟨rfl,hb1⟩;have HB:=kd hb1;clear hb1 HC;go_wp2_with fail;go_ret2;exact ⟨rfl,HB.out⟩
theorem ztf (n B q:Nat) (u:Value) (R:List Stp) (a b m c:Int) (w:World) (h:G.GAt w B 40 61 q (n:Int) u R) (hn:n<=100) (hno:zcn n a b m c):
 Calls prog 125 #[.pointer (some ⟨q,0,none⟩),.int .i64 a,.int .i64 b,.int .i64 m] w λ e w'=>e= .returned (.int .i64 c)/\w'=w:=by
 rcases hno with ⟨k,rfl⟩ | ⟨k,hab,rfl⟩
 ·exact yaah n B q u R a b m w h hn k
 ·exact zpa n B q u R a b m w h hn k 1 (.inl ⟨hab,rfl⟩)
theorem zcn.ne {n:Nat} {a b m c:Int} (h:zcn n a b m c):c≠0:=by
 rcases h with ⟨_,rfl⟩ | ⟨_,_,rfl⟩ <;> omega
theorem z8m (n B q:Nat) (u:Value) (R:List Stp) (a b m c:Int) (w:World) (h:G.GAt w B 40 61 q (n:Int) u R) (hn:n<=100) (hno:zcn n a b m c):
 Calls prog 68 #[.pointer (some ⟨q,0,none⟩),.int .i64 a,.int .i64 b,.int .i64 m] w λ e w'=>e= .returned (.tuple #[.int .i64 0,.int .i64 c])/\w'=w:=by
 have HC:Hid _:=ztf n B q u R a b m c w h hn hno;have hne:(c==0)=false:=beq_eq_false_iff_ne.2 hno.ne;clear h hno;go_enter func68,ntmps68;go_wp2_with fail;refine Calls.mono HC.out ?_;rintro e w1 ⟨rfl,hw1⟩;subst hw1;clear HC;go_wp2_with fail;go_ret2;exact ⟨rfl,rfl⟩
theorem z8u (n B q:Nat) (u:Value) (R:List Stp) (a b m c:Int) (w:World) (h:G.GAt w B 40 61 q (n:Int) u R) (hn:n<=100) (hno:zcn n a b m c):
 Calls prog 69 #[.pointer (some ⟨q,0,none⟩),.int .i64 a,.int .i64 b,.int .i64 m] w λ e w'=>e= .returned (.tuple #[.int .i64 0,.int .i64 c])/\w'=w:=by
 have HC:Hid _:=ztf n B q u R a b m c w h hn hno;have hne:(c==0)=false:=beq_eq_false_iff_ne.2 hno.ne;clear h hno;go_enter func69,ntmps69;go_wp2_with fail;refine Calls.mono HC.out ?_;rintro e w1 ⟨rfl,hw1⟩;subst hw1;clear HC;go_wp2_with fail;go_ret2;exact ⟨rfl,rfl⟩
open Go.Proofs.Tryz
theorem zz9 {n:Nat} {R L:List Stp} (hp:R.Perm L) (he:Ed n 120 L) (hn:n<=40) {a b:Nat} (ha:a<n) (hb:b<n) (hab:a≠b) {PR:List (Int × Int)} (hpr:zd7 a b R R.length PR) {m k k':Int} (hv:Val (zfn n a b PR) a ((n+b:Nat):Int) m k') (h:Val (cap (lD (noS n L)) (lr (noS n L))) (2*(a:Int)+1) (2*(b:Int)) m k):
 k=min m (((R.filter (zba a b)).length:Int)+k'):=by
 have hj:Joins (L.filter λ e=>!zba a b e) PR:=by
  rw [zd7,List.take_length] at hpr;refine ⟨λ d hd=>?_,λ e he=>?_⟩
  ·obtain ⟨e,h1,h2,h3⟩:=(hpr d).1 hd
   exact ⟨e,List.mem_filter.2 ⟨hp.mem_iff.1 h1,by rw [h2];rfl⟩,h3⟩
  ·obtain ⟨h1,h2⟩:=List.mem_filter.1 he
   have h2:zba a b e=false:=by simpa using h2
   exact ⟨(hpr _).2 ⟨e,hp.mem_iff.2 h1,h2,.inl rfl⟩,(hpr _).2 ⟨e,hp.mem_iff.2 h1,h2,.inr rfl⟩⟩
 rw [zwk he hn hj ha hb hab h hv,(hp.filter (zba a b)).length_eq]
def WE (n:Nat) (L:List Stp) (a b k c:Int):Prop:=
 (zcn n a b 120 c/\k=0)\/(∃x y:Nat,a=(x:Int)/\b=(y:Int)/\x<n/\y<n/\x≠y/\c=0/\Val (cap (lD (edS L)) (lr (edS L))) x y 120 k)
def WN (n:Nat) (L:List Stp) (a b k c:Int):Prop:=
 (zcn n a b 120 c/\k=0)\/(∃x y:Nat,a=(x:Int)/\b=(y:Int)/\x<n/\y<n/\x≠y/\c=0/\Val (cap (lD (noS n L)) (lr (noS n L))) (2*x+1) (2*y) 120 k)
theorem zgo (n:Nat) (a b:Int):(∃c,zcn n a b 120 c)\/∃x y:Nat,a=(x:Int)/\b=(y:Int)/\x<n/\y<n/\x≠y:=by
 by_cases h:zlm n a b 120
 ·by_cases hab:a=b
  ·exact .inl ⟨1,.inr ⟨h,hab,rfl⟩⟩
  ·right
   obtain ⟨h1,h2,_⟩:=h;exact ⟨a.toNat,b.toNat,by omega,by omega,by omega,by omega,by omega⟩
 ·exact .inl ⟨2,.inl ⟨h,rfl⟩⟩
theorem zih {n:Nat} {a b m c c':Int} (h:zcn n a b m c) (h':zcn n a b m c'):c=c':=by
 rcases h with ⟨h1,rfl⟩ | ⟨h1,_,rfl⟩ <;> rcases h' with ⟨h2,rfl⟩ | ⟨h2,_,rfl⟩
 ·rfl
 ·exact absurd h2 h1
 ·exact absurd h1 h2
 ·rfl
theorem zej {n x y:Nat} {c:Int} (h:zcn n (x:Int) (y:Int) 120 c) (hx:x<n) (hy:y<n) (hxy:x≠y):False:=by
 rcases h with ⟨h1,_⟩ | ⟨_,h2,_⟩
 ·exact h1 ⟨⟨by omega,by omega⟩,⟨by omega,by omega⟩,by omega,by omega⟩
 ·omega
theorem WE.one {n:Nat} {L:List Stp} {a b k c k' c':Int} (h:WE n L a b k c) (h':WE n L a b k' c'):k=k'/\c=c':=by
 rcases h with ⟨h1,rfl⟩ | ⟨x,y,rfl,rfl,hx,hy,hxy,rfl,hv⟩ <;> rcases h' with ⟨h2,rfl⟩ | ⟨x',y',e1,e2,hx',hy',hxy',rfl,hv'⟩
 ·exact ⟨rfl,zih h1 h2⟩
 ·rw [e1,e2] at h1
  exact (zej h1 hx' hy' hxy').elim
 ·exact (zej h2 hx hy hxy).elim
 ·obtain rfl:x=x':=by omega
  obtain rfl:y=y':=by omega
  exact ⟨zv0 hv hv',rfl⟩
def DN (n:Nat) (L:List Stp) (a b k c:Int):Prop:=
 (zcn n a b 120 c/\k=0)\/(∃x y:Nat,a=(x:Int)/\b=(y:Int)/\x<n/\y<n/\x≠y/\c=0/\∃(R:List Stp) (PR:List (Int × Int)) (k':Nat),R.Perm L/\zd7 x y R R.length PR/\Val (zfn n x y PR) x ((n+y:Nat):Int) 120 k'/\k=min (120:Int) (((R.filter (zba x y)).length:Int)+(k':Int)))
theorem yabh {n:Nat} {L:List Stp} (he:Ed n 120 L) (hn:n<=40) {a b k c k' c':Int} (h:WN n L a b k c) (h':DN n L a b k' c'):k=k'/\c=c':=by
 rcases h with ⟨h1,rfl⟩ | ⟨x,y,rfl,rfl,hx,hy,hxy,rfl,hv⟩ <;> rcases h' with ⟨h2,rfl⟩ | ⟨x',y',e1,e2,hx',hy',hxy',rfl,R,PR,m,hp,hpr,hv',rfl⟩
 ·exact ⟨rfl,zih h1 h2⟩
 ·rw [e1,e2] at h1
  exact (zej h1 hx' hy' hxy').elim
 ·exact (zej h2 hx hy hxy).elim
 ·obtain rfl:x=x':=by omega
  obtain rfl:y=y':=by omega
  exact ⟨zz9 hp he hn hx hy hxy hpr hv' hv,rfl⟩
theorem yaca {n:Nat} {L:List Stp} {a b k c k' c':Int} (h:WE n L a b k c) (h':WN n L a b k' c'):c=c':=by
 rcases h with ⟨h1,rfl⟩ | ⟨x,y,rfl,rfl,hx,hy,hxy,rfl,hv⟩ <;> rcases h' with ⟨h2,rfl⟩ | ⟨x',y',e1,e2,hx',hy',hxy',rfl,hv'⟩
 ·exact zih h1 h2
 ·rw [e1,e2] at h1
  exact (zej h1 hx' hy' hxy').elim
 ·exact (zej h2 hx hy hxy).elim
 ·rfl
theorem zug {n:Nat} {a b m c:Int} (h:zcn n a b m c):Value.iface 23 (.int .i64 c)=G.zb8 c:=by
 simp [G.zb8,h.ne]
end Go.Proofs.YtebcjaenhiiflaaGreatDoor.S
namespace Go.Proofs.YtebcjaenhiiflaaGreatDoor.I
open Go.Proofs.Tryz
open Go.RowKit Go.WideMaps Go.Maps Go.Lib
variable {w w':World} {a b x q n:Nat} {L R B:List G.E}
theorem ztz (h:Ok n L) (hp:R.Perm L):S.z02 n R:=λ e he=>by
 have:=h.ed e (hp.mem_iff.1 he);exact ⟨e.2.1.toNat,e.2.2.toNat,by omega,by omega,by omega,by omega,by omega⟩
theorem yaai {B0 p:Nat} {v:Value} (i j:Int) (w:World) (h:G.GAt w B0 168 61 p (n:Int) v L) (hok:Ok n L):
 Calls prog 128 #[.pointer (some ⟨p,0,none⟩),.int .i64 i,.int .i64 j,.int .i64 120] w λ e w'=>∃k c,S.WE n L i j k c/\e= .returned (.tuple #[.int .i64 k,G.zb8 c])/\Below w.heap.size w w':=by
 rcases S.zgo n i j with ⟨c,hno⟩ | ⟨x,y,rfl,rfl,hx,hy,hxy⟩
 ·refine (S.zow n B0 p i j 120 c v L w h hno).mono ?_
  rintro e w' ⟨rfl,hb⟩;exact ⟨0,c,.inl ⟨hno,rfl⟩,by rw [S.zug hno],hb⟩
 ·refine (S.zov n B0 p x y 120 v L w h hok.n40 hok.ed' hx hy hxy (Nat.le_refl _)).mono ?_
  rintro e w' ⟨k,rfl,hv,hb⟩;exact ⟨k,0,.inr ⟨x,y,rfl,rfl,hx,hy,hxy,rfl,hv⟩,by simp [G.zb8],hb⟩
theorem yaak {B0 p:Nat} {v:Value} (i j:Int) (w:World) (h:G.GAt w B0 168 61 p (n:Int) v L) (hok:Ok n L):
 Calls prog 129 #[.pointer (some ⟨p,0,none⟩),.int .i64 i,.int .i64 j,.int .i64 120] w λ e w'=>∃k c,S.WN n L i j k c/\e= .returned (.tuple #[.int .i64 k,G.zb8 c])/\Below w.heap.size w w':=by
 rcases S.zgo n i j with ⟨c,hno⟩ | ⟨x,y,rfl,rfl,hx,hy,hxy⟩
 ·refine (S.zos n B0 p i j 120 c v L w h hno).mono ?_
  rintro e w' ⟨rfl,hb⟩;exact ⟨0,c,.inl ⟨hno,rfl⟩,by rw [S.zug hno],hb⟩
 ·refine (S.zoq n B0 p x y 120 v L w h hok.n40 hok.ed' hx hy hxy (Nat.le_refl _)).mono ?_
  rintro e w' ⟨k,rfl,hv,hb⟩;exact ⟨k,0,.inr ⟨x,y,rfl,rfl,hx,hy,hxy,rfl,hv⟩,by simp [G.zb8],hb⟩
theorem yach (h:IV w a b x n L) (i j:Int):
 Calls prog 70 #[.pointer (some ⟨x,0,none⟩),.int .i64 i,.int .i64 j] w λ e w'=>∃k c,S.WE n L i j k c/\e= .returned (.tuple #[.int .i64 k,G.zb8 c])/\Below w.heap.size w w':=by
 obtain ⟨p,q,v,R,B,W,T,D,pw,bw,pt,bt,mp,N,g,h⟩:=h;have HI:Hid _:=yaai i j w h.gra h.ok;have hc:=h.ix.c0;clear h;go_enter func70,ntmps70;go_wp2_with fail;refine Calls.mono HI.out ?_;rintro e w1 ⟨k,c,hk,rfl,hb⟩;have HK:Hid _:=hk;have HB:Hid _:=hb;obtain ⟨ev,hev⟩:∃ev,G.zb8 c=ev:=⟨_,rfl⟩;rw [hev];have HE:=kd hev;clear hk hb hc HI hev;go_wp2_with fail;go_ret2;exact ⟨k,c,HK.out,by rw [HE.out];rfl,HB.out⟩
theorem yadd (h:IV w a b x n L) (i j:Int):
 Calls prog 71 #[.pointer (some ⟨x,0,none⟩),.int .i64 i,.int .i64 j] w λ e w'=>∃k c,S.WN n L i j k c/\e= .returned (.tuple #[.int .i64 k,G.zb8 c])/\Below w.heap.size w w':=by
 obtain ⟨p,q,v,R,B,W,T,D,pw,bw,pt,bt,mp,N,g,h⟩:=h;have HI:Hid _:=yaak i j w h.gra h.ok;have hc:=h.ix.c0;clear h;go_enter func71,ntmps71;go_wp2_with fail;refine Calls.mono HI.out ?_;rintro e w1 ⟨k,c,hk,rfl,hb⟩;have HK:Hid _:=hk;have HB:Hid _:=hb;obtain ⟨ev,hev⟩:∃ev,G.zb8 c=ev:=⟨_,rfl⟩;rw [hev];have HE:=kd hev;clear hk hb hc HI hev;go_wp2_with fail;go_ret2;exact ⟨k,c,HK.out,by rw [HE.out];rfl,HB.out⟩
theorem yace (h:DV w q n L) (hok:Ok n L) (i j:Int):
 Calls prog 68 #[.pointer (some ⟨q,0,none⟩),.int .i64 i,.int .i64 j,.int .i64 120] w λ e w'=>∃k c,S.WE n L i j k c/\e= .returned (.tuple #[.int .i64 k,.int .i64 c])/\Below w.heap.size w w':=by
 obtain ⟨B0,u,R,h1,h2⟩:=h;have hl:=h2.length_eq;have hl2:=hok.len;have hn:=hok.n40;rcases S.zgo n i j with ⟨c,hno⟩ | ⟨x,y,rfl,rfl,hx,hy,hxy⟩
 ·refine (S.z8m n B0 q u R i j 120 c w h1 (by omega) hno).mono ?_
  rintro e w' ⟨rfl,hw⟩;subst hw;exact ⟨0,c,.inl ⟨hno,rfl⟩,rfl,Below.refl _ _⟩
 ·refine (S.z8z n B0 q x y 120 u R w h1 hn (ztz hok h2) (by omega) hx hy hxy (Nat.le_refl _)).mono ?_
  rintro e w' ⟨k,rfl,hv,hb⟩;refine ⟨k,0,.inr ⟨x,y,rfl,rfl,hx,hy,hxy,rfl,?_⟩,rfl,hb⟩;have hc:F.cap (S.lD (S.edS L)) (S.lr (S.edS L))=λ Z=>((R.filter (S.crs Z)).length:Int):=by
   funext Z
   rw [S.z88 hok.ed' Z,(h2.filter (S.crs Z)).length_eq]
  rw [hc];exact hv
theorem yacr (h:DV w q n L) (hok:Ok n L) (i j:Int):
 Calls prog 69 #[.pointer (some ⟨q,0,none⟩),.int .i64 i,.int .i64 j,.int .i64 120] w λ e w'=>∃k c,S.DN n L i j k c/\e= .returned (.tuple #[.int .i64 k,.int .i64 c])/\Below w.heap.size w w':=by
 obtain ⟨B0,u,R,h1,h2⟩:=h;have hl:=h2.length_eq;have hl2:=hok.len;have hn:=hok.n40;rcases S.zgo n i j with ⟨c,hno⟩ | ⟨x,y,rfl,rfl,hx,hy,hxy⟩
 ·refine (S.z8u n B0 q u R i j 120 c w h1 (by omega) hno).mono ?_
  rintro e w' ⟨rfl,hw⟩;subst hw;exact ⟨0,c,.inl ⟨hno,rfl⟩,rfl,Below.refl _ _⟩
 ·refine (S.z8y n B0 q x y 120 u R w h1 hn (ztz hok h2) (by omega) hx hy hxy (Nat.le_refl _)).mono ?_
  rintro e w' ⟨k,PR,rfl,hpr,hv,hb⟩;exact ⟨_,0,.inr ⟨x,y,rfl,rfl,hx,hy,hxy,rfl,R,PR,k,h2,hpr,hv,rfl⟩,rfl,hb⟩
end Go.Proofs.YtebcjaenhiiflaaGreatDoor.I
namespace Go.Proofs.YtebcjaenhiiflaaGreatDoor.G
open Go.RowKit Go.Proofs.Tryz
theorem zu3 (B1 B2:Nat) (a b:Value) (L:List E) (w:World) (ha:zad w B1 61 a L) (hb:zad w B2 61 b L) (hl:L.length<=1000):
 Calls prog 13 #[a,b] w λ e w'=>e= .returned (.bool true)/\Below w.heap.size w w':=by
 have HA:=kd ha;have HB:=kd hb;obtain ⟨m,hm⟩:∃m,m=L.length:=⟨_,rfl⟩;have HM:=kd hm;obtain ⟨a1,c1,hva⟩:=ha.zal;obtain ⟨a2,c2,hvb⟩:=hb.zal;rw [<-hm] at hva hvb hl;subst hva hvb;clear ha hb hm;go_enter func13,ntmps13;go_wp2_with fail;go_loopg [5] m (λ r s5 wq=>∃k:Nat,s5= .int .i64 k/\k+r=m/\∃q,wq=w.drewN q)
 case atStart=>exact ⟨0,rfl,by omega,0,rfl⟩
 case round=>
  obtain ⟨k,rfl,hk,q,hq⟩:=hrel;have HQ:=kd hq;by_cases hlt:k<m
  ·as_aux_lemma=>
   obtain ⟨x0,x1,x2,hx⟩:∃x0 x1 x2,L[k]? =some (x0,x1,x2):=⟨_,_,_,List.getElem?_eq_getElem (by rw [<-HM.out];exact hlt)⟩;obtain ⟨g1,e1⟩:∃g,a1=some ⟨g,0,none⟩:=by
    rcases HA.out.shape with ⟨_,e⟩ | ⟨g,cap,e,_⟩
    ·rw [e] at hx;simp at hx
    ·injection e with e1 _ _
     exact ⟨g,e1⟩
   obtain ⟨g2,e2⟩:∃g,a2=some ⟨g,0,none⟩:=by
    rcases HB.out.shape with ⟨_,e⟩ | ⟨g,cap,e,_⟩
    ·rw [e] at hx;simp at hx
    ·injection e with e1 _ _
     exact ⟨g,e1⟩
   obtain ⟨r0,r1,r2⟩:=HA.out.at (g:=g1) (by rw [e1];rfl) hx;obtain ⟨s0,s1,s2⟩:=HB.out.at (g:=g2) (by rw [e2];rfl) hx;have hcell:∀p,wr.cell? p=w.cell? p:=λ p=>by rw [HQ.out];rfl
   have r0':wr.cell? ⟨g1,k*3,none⟩=some (.int .i64 x0):=(hcell _).trans r0;have r1':wr.cell? ⟨g1,k*3+1,none⟩=some (.int .i64 x1):=(hcell _).trans r1;have r2':wr.cell? ⟨g1,k*3+2,none⟩=some (.int .i64 x2):=(hcell _).trans r2;have s0':wr.cell? ⟨g2,k*3,none⟩=some (.int .i64 x0):=(hcell _).trans s0;have s1':wr.cell? ⟨g2,k*3+1,none⟩=some (.int .i64 x1):=(hcell _).trans s1;have s2':wr.cell? ⟨g2,k*3+2,none⟩=some (.int .i64 x2):=(hcell _).trans s2;subst e1 e2;clear hq r0 r1 r2 s0 s1 s2 hx hcell;go_wp2_with fail;go_quiet (fail);have HQ2:Hid (wr.drewN nq=w.drewN (q+nq)):=by
    show wr.drewN nq=w.drewN (q+nq);rw [HQ.out];unfold World.drewN;simp [Nat.add_assoc]
   clear r0' r1' r2' s0' s1' s2';generalize wr.drewN nq=wx at*;go_wp2_with fail;go_roundg (gk-1);case measure=>omega
   case rel=>exact ⟨k+1,by go_num,by omega,_,HQ2.out⟩
  ·clear hq
   go_wp2_with fail;go_ret;refine ⟨rfl,?_⟩;rw [HQ.out];exact ⟨rfl,rfl,rfl,Nat.le_refl _,λ _ _=>rfl⟩
end Go.Proofs.YtebcjaenhiiflaaGreatDoor.G
namespace Go.Proofs.YtebcjaenhiiflaaGreatDoor.S
open Go.RowKit Go.WideMaps Go.Maps
end Go.Proofs.YtebcjaenhiiflaaGreatDoor.S
namespace Go.Proofs.YtebcjaenhiiflaaGreatDoor.S.K
open Go.RowKit Go.Proofs.Tryz
theorem zi8 (r1 r2 gl c1 c2:Nat) (G:Nat->Nat) (w:World) (h1:∀j,j<gl->w.cell? ⟨r1,j,none⟩=some (.int .i64 (G j:Int))) (h2:∀j,j<gl->w.cell? ⟨r2,j,none⟩=some (.int .i64 (G j:Int))) (hgl:gl<=1000000):
 Calls prog 32 #[.slice (some ⟨r1,0,none⟩) gl c1,.slice (some ⟨r2,0,none⟩) gl c2] w λ e w'=>e= .returned (.bool true)/\∃n,w'=w.drewN n:=by
 have H1:=(show Hid _ from h1);have H2:=(show Hid _ from h2);clear h1 h2;go_enter func32,ntmps32;go_wp2_with fail;go_loopw [5] (λ s5 wq=>∃j:Nat,j<=gl/\s5= .int .i64 j/\∃q,wq=w.drewN q) (λ s5 _=>gl-(intOf s5).toNat)
 case atStart=>exact ⟨0,Nat.zero_le _,rfl,0,rfl⟩
 case round=>
  obtain ⟨j,hj,rfl,q,hq⟩:=hrel;have HQ:=kd hq;clear hq;by_cases hlt:j<gl
  ·have c1':wr.cell? ⟨r1,j,none⟩=some (.int .i64 (G j:Int)):=by rw [HQ.out];exact H1.out j hlt
   have c2':wr.cell? ⟨r2,j,none⟩=some (.int .i64 (G j:Int)):=by rw [HQ.out];exact H2.out j hlt
   generalize G j=x at*;go_wp2_with fail;go_quiet (fail);go_wp2_with fail;go_roundw;case rel=>exact ⟨j+1,by omega,by go_num,_,by rw [HQ.out];exact drewN_drewN _ _ _⟩
   case measure=>simp [intOf];omega
  ·go_wp2_with fail
   go_ret;exact ⟨rfl,q,HQ.out⟩
def zcf (w:World) (g:Nat) (Gs:List (List Nat)) (c:Nat):Prop:=
 ∀i,i<c->∃r cap,w.cell? ⟨g,i,none⟩=some (.slice (some ⟨r,0,none⟩) (Gs.getD i []).length cap)/\∀j,j<(Gs.getD i []).length->w.cell? ⟨r,j,none⟩=some (.int .i64 (((Gs.getD i []).getD j 0:Nat):Int))
theorem zk8 (a1 a2:Option Addr) (c cap1 cap2:Nat) (Gs:List (List Nat)) (w:World) (h:0<c->∃g1 g2,a1=some ⟨g1,0,none⟩/\a2=some ⟨g2,0,none⟩/\zcf w g1 Gs c/\zcf w g2 Gs c) (hc:c<=1000000) (hgl:∀i,(Gs.getD i []).length<=1000000):
 Calls prog 35 #[.slice a1 c cap1,.slice a2 c cap2] w λ e w'=>e= .returned (.bool true)/\∃n,w'=w.drewN n:=by
 have HH:=(show Hid _ from h);have HL:=(show Hid _ from hgl);clear h hgl;go_enter func35,ntmps35;go_wp2_with fail;go_loopw [5] (λ s5 wq=>∃j:Nat,j<=c/\s5= .int .i64 j/\∃q,wq=w.drewN q) (λ s5 _=>c-(intOf s5).toNat)
 case atStart=>exact ⟨0,Nat.zero_le _,rfl,0,rfl⟩
 case round=>
  obtain ⟨j,hj,rfl,q,hq⟩:=hrel;have HQ:=kd hq;clear hq;by_cases hlt:j<c
  ·obtain ⟨g1,g2,e1,e2,R1,R2⟩:=HH.out (by omega)
   subst e1 e2;obtain ⟨r1,k1,a1',b1⟩:=R1 j hlt;obtain ⟨r2,k2,a2',b2⟩:=R2 j hlt;have hgl:=HL.out j;have HS:Hid (∀Q,Calls prog 32 #[.slice (some ⟨r1,0,none⟩) (Gs.getD j []).length k1,.slice (some ⟨r2,0,none⟩) (Gs.getD j []).length k2] (wr.drewN Q) λ e w'=>e= .returned (.bool true)/\∃n,w'=(wr.drewN Q).drewN n):=λ Q=>
    zi8 r1 r2 (Gs.getD j []).length k1 k2 (λ i=>(Gs.getD j []).getD i 0) (wr.drewN Q) (by rw [HQ.out];exact b1) (by rw [HQ.out];exact b2) hgl
   have d1:wr.cell? ⟨g1,j,none⟩=some (.slice (some ⟨r1,0,none⟩) (Gs.getD j []).length k1):=by rw [HQ.out];exact a1'
   have d2:wr.cell? ⟨g2,j,none⟩=some (.slice (some ⟨r2,0,none⟩) (Gs.getD j []).length k2):=by rw [HQ.out];exact a2'
   clear R1 R2 b1 b2 HH HL a1' a2';generalize (Gs.getD j []).length=gl at*;go_wp2_with fail;go_quiet ((go_at_call 32;go_must (exact Calls.quiet_of (HS.out _))));go_wp2_with fail;go_roundw;case rel=>exact ⟨j+1,by omega,by go_num,_,by rw [HQ.out];exact drewN_drewN _ _ _⟩
   case measure=>simp [intOf];omega
  ·go_wp2_with fail
   go_ret;exact ⟨rfl,q,HQ.out⟩
end Go.Proofs.YtebcjaenhiiflaaGreatDoor.S.K
namespace Go.Proofs.YtebcjaenhiiflaaGreatDoor.I
open Go.RowKit Go.WideMaps Go.Maps Go.Lib
variable {w0 w w':World} {a b x p q n:Nat} {v:Value} {L R B:List G.E} {W T:List Nat} {D:DataW Unit} {pw bw pt bt mp N:Nat}
theorem below_drewN (w:World) (n:Nat):Below w.heap.size w (w.drewN n):=⟨rfl,rfl,rfl,Nat.le_refl _,λ _ _=>rfl⟩
end Go.Proofs.YtebcjaenhiiflaaGreatDoor.I
namespace Go.Proofs.YtebcjaenhiiflaaGreatDoor.I
open Go.RowKit Go.WideMaps Go.Maps Go.Lib Go.Proofs.Tryz
variable {w0 w w':World} {a b x p q n:Nat} {v:Value} {L R B:List G.E} {W T:List Nat} {D:DataW Unit} {pw bw pt bt mp N:Nat}
def zrr (w1:World) (x n:Nat) (wq:World):Prop:=
 ∃p q v L R B W T D pw bw pt bt mp N,IAt w1 wq x p q n v L R B W T D pw bw pt bt mp N/\∀e∈L,e.1<30
theorem zrr.below' {w1:World} (h:zrr w1 x n w) (hb:Below w.heap.size w w'):zrr w1 x n w':=by
 obtain ⟨p,q,v,L,R,B,W,T,D,pw,bw,pt,bt,mp,N,h,hl⟩:=h;exact ⟨p,q,v,L,R,B,W,T,D,pw,bw,pt,bt,mp,N,h.below' hb,hl⟩
theorem zrr.base {w1:World} (h:zrr w1 x n w):Below w1.heap.size w1 w:=by
 obtain ⟨p,q,v,L,R,B,W,T,D,pw,bw,pt,bt,mp,N,h,hl⟩:=h;exact h.rn.below
theorem yaam (h:IV w a b x n L):
 Calls prog 14 #[.pointer (some ⟨x,0,none⟩)] w λ e w'=>∃u,e= .returned u/\G.zad w' w.heap.size 61 u L/\Below w.heap.size w w':=by
 obtain ⟨p,q,v,R,B,W,T,D,pw,bw,pt,bt,mp,N,g,h⟩:=h;have HE:Hid _:=G.zbv (n:Int) g p v L w h.gra h.ok.len;have hc:=h.ix.c0;clear h;go_enter func14,ntmps14;go_wp2_with (go_at_call 48;refine Calls.mono HE.out ?_;rintro e w1 ⟨u,rfl,ho,hb⟩);go_ret;exact ⟨u,rfl,ho,hb⟩
structure Ask (wG w:World) (x o n:Nat) (L:List G.E):Prop where
 ix:∃a b,IV w a b x n L
 io:∃a b,IV w a b o n L
 vars:Vars w
 below:Below wG.heap.size wG w
theorem Ask.next {wG:World} {o:Nat} (h:Ask wG w x o n L) (hb:Below w.heap.size w w'):Ask wG w' x o n L:=by
 obtain ⟨⟨a,b,h1⟩,⟨c,d,h2⟩,h3,h4⟩:=h;exact ⟨⟨a,b,h1.below hb⟩,⟨c,d,h2.below hb⟩,h3.below hb,h4.trans (hb.mono h4.size)⟩
theorem zt0 (h:IV w a b x n L):(brz n L).length<=120:=by
 obtain ⟨p,q,v,R,B,W,T,D,pw,bw,pt,bt,mp,N,g,h⟩:=h;rw [<-zpd h.now.st h.perm h.ok.unl,S.zln];unfold S.zav;rw [List.length_map];have h2:=h.perm.length_eq;have h3:=h.ok.len;exact Nat.le_trans (List.length_filter_le _ _) (by omega)
theorem z1c (n:Nat) (L:List G.E):(ze8 n L).length<=n:=by
 unfold ze8;rw [List.length_map];exact Nat.le_trans (List.length_filter_le _ _) (by simp)
theorem z0m (M:List Nat) (k y:Nat):(S.grp M k y).length<=k:=by
 unfold S.grp;exact Nat.le_trans (List.length_filter_le _ _) (by simp)
theorem zrd {Gs:List (List Nat)} {c:Nat} (h:∀l∈Gs,l.length<=c) (i:Nat):(Gs.getD i []).length<=c:=by
 rw [List.getD_eq_getElem?_getD];cases hi:Gs[i]? with
 | none=>simp
 | some l=>exact h l (List.mem_of_getElem? hi)
theorem zs8 (n:Nat) (L:List G.E):(blz n L).length<=L.length/\∀i,((blz n L).getD i []).length<=L.length:=by
 have key:∀M,(S.zdb L M).length<=L.length/\∀l∈S.zdb L M,l.length<=L.length:=by
  intro M;unfold S.zdb S.lst;refine ⟨by rw [List.length_map];exact Nat.le_trans (List.length_filter_le _ _) (by simp),λ l hl=>?_⟩;obtain ⟨r,_,rfl⟩:=List.mem_map.1 hl;rw [List.length_map];exact z0m _ _ _
 unfold blz;split
 ·exact ⟨(key _).1,λ i=>zrd (key _).2 i⟩
 ·exact ⟨by simp,λ i=>by simp⟩
theorem ztd (n:Nat) (L:List G.E):(thz n L).length<=n/\∀i,((thz n L).getD i []).length<=n:=by
 unfold thz;have hg:=S.zic n L ((S.grw n L).2++(S.grw n L).1) (S.zay n (S.grw n L).1 (S.grw n L).2);generalize S.zfl n L ((S.grw n L).2++(S.grw n L).1) (S.zay n (S.grw n L).1 (S.grw n L).2)=M at*;unfold S.zao;refine ⟨Nat.le_trans (List.length_filter_le _ _) (by simp),λ i=>zrd (λ l hl=>?_) i⟩;obtain ⟨y,_,rfl⟩:=List.mem_map.1 (List.mem_filter.1 hl).1;have:=z0m M M.length y;rw [hg.len] at this ⊢;exact this
theorem zj4 {u:Value} {Gs:List (List Nat)} (h:S.zdd w u Gs) (hb:Below w.heap.size w w'):S.zdd w' u Gs:=by
 obtain ⟨g,cap,rfl,hr⟩:=h;refine ⟨g,cap,rfl,λ i hi=>?_⟩;obtain ⟨r,c,h1,h2⟩:=hr i hi;exact ⟨r,c,S.cell_below h1 hb,λ j hj=>S.cell_below (h2 j hj) hb⟩
end Go.Proofs.YtebcjaenhiiflaaGreatDoor.I
namespace Go.Proofs.YtebcjaenhiiflaaGreatDoor.I
open Go.RowKit Go.WideMaps Go.Maps Go.Lib Go.Proofs.Tryz
variable {w w' wG:World} {a b x q n:Nat} {L R B:List G.E} {W T:List Nat}
def Ps (w:World) (a:Option Addr) (M:List (Int × Int)):Prop:=0<M.length->∃g,a=some ⟨g,0,none⟩/\∀j x,M[j]? =some x->w.cell? ⟨g,j*2,none⟩=some (.int .i64 x.1)/\w.cell? ⟨g,j*2+1,none⟩=some (.int .i64 x.2)
theorem Ps.below {a:Option Addr} {M:List (Int × Int)} (h:Ps w a M) (hb:Below w.heap.size w w'):Ps w' a M:=by
 intro hk;obtain ⟨g,e,hc⟩:=h hk;exact ⟨g,e,λ j x hx=>⟨S.cell_below (hc j x hx).1 hb,S.cell_below (hc j x hx).2 hb⟩⟩
noncomputable def spi (n:Nat) (L:List G.E):List (Int × Int):=(spz n L).map λ p=>((p.1:Int),(p.2:Int))
theorem zxm {a:Option Addr} {M:List (Nat × Nat)} (h:0<M.length->∃g,a=some ⟨g,0,none⟩/\∀j x,M[j]? =some x->w.cell? ⟨g,j*2,none⟩=some (.int .i64 (x.1:Int))/\w.cell? ⟨g,j*2+1,none⟩=some (.int .i64 (x.2:Int))):Ps w a (M.map λ p=>((p.1:Int),(p.2:Int))):=by
 intro hk;rw [List.length_map] at hk;obtain ⟨g,e,hc⟩:=h hk;refine ⟨g,e,λ j x hx=>?_⟩;rw [List.getElem?_map] at hx;cases hy:M[j]? with
 | none=>rw [hy] at hx;cases hx
 | some y=>
   rw [hy] at hx;injection hx with hx
   rw [<-hx];exact hc j y hy
theorem ipairs' (h:IV w a b x n L):
 Calls prog 38 #[.pointer (some ⟨x,0,none⟩)] w λ e w'=>∃a c,e= .returned (.slice a (prz n L).length c)/\Ps w' a (prz n L)/\Below w.heap.size w w':=by
 refine (yaay h).mono ?_;rintro e w' ⟨v,rfl,ho,hb⟩;obtain ⟨a',c,rfl,hs⟩:=ho.shape;exact ⟨a',c,rfl,hs,hb⟩
theorem dpairs' (h:DV w q n L) (hok:Ok n L):
 Calls prog 65 #[.pointer (some ⟨q,0,none⟩)] w λ e w'=>∃a c,e= .returned (.slice a (prz n L).length c)/\Ps w' a (prz n L)/\Below w.heap.size w w':=by
 refine (yaag h hok).mono ?_;rintro e w' ⟨v,rfl,ho,hb⟩;obtain ⟨a',c,rfl,hs⟩:=ho.shape;exact ⟨a',c,rfl,hs,hb⟩
theorem znd (n:Nat) (L:List G.E):(spz n L).length=(spi n L).length:=by simp [spi]
theorem isplits' (h:IV w a b x n L):
 Calls prog 39 #[.pointer (some ⟨x,0,none⟩)] w λ e w'=>∃a c,e= .returned (.slice a (spi n L).length c)/\Ps w' a (spi n L)/\Below w.heap.size w w':=by
 refine (z8d h).mono ?_;rintro e w' ⟨v,rfl,ho,hb⟩;obtain ⟨a',c,rfl,hs⟩:=ho.shape;exact ⟨a',c,by rw [znd],zxm hs,hb⟩
theorem dsplits' (h:DV w q n L) (hok:Ok n L):
 Calls prog 66 #[.pointer (some ⟨q,0,none⟩)] w λ e w'=>∃a c,e= .returned (.slice a (spi n L).length c)/\Ps w' a (spi n L)/\Below w.heap.size w w':=by
 refine (z8t h hok).mono ?_;rintro e w' ⟨v,rfl,ho,hb⟩;obtain ⟨a',c,rfl,hs⟩:=ho.shape;exact ⟨a',c,by rw [znd],zxm hs,hb⟩
theorem z5w (h:Ok n L):(prz n L).length<=14400:=by
 unfold prz;have h1:=S.zfb (λ e d=>decide (S.zay n (S.grw n L).1 (S.grw n L).2 e=S.zay n (S.grw n L).1 (S.grw n L).2 d)) (L.filter λ e=>decide (S.zay n (S.grw n L).1 (S.grw n L).2 e≠0));have h2:(L.filter λ e=>decide (S.zay n (S.grw n L).1 (S.grw n L).2 e≠0)).length<=120:=Nat.le_trans (List.length_filter_le _ _) h.len;have h3:=Nat.mul_le_mul h2 h2;omega
theorem yaaf (h:Ok n L):(spi n L).length<=1600:=by
 rw [<-znd];unfold spz;have h1:=S.X.zkm (open Classical in λ a b=>decide (S.X.zfz L n a b)) (n:=n) (a:=n);have h2:=Nat.mul_le_mul h.n40 h.n40;omega
theorem zi0 {a1 a2:Option Addr} {M:List (Int × Int)} (c1 c2:Nat) (h1:Ps w a1 M) (h2:Ps w a2 M) (hM:M.length<=100000):
 Calls prog 64 #[.slice a1 M.length c1,.slice a2 M.length c2] w λ e w'=>e= .returned (.bool true)/\∃n,w'=w.drewN n:=S.zop a1 a2 c1 c2 M w hM h1 h2
theorem zpu {a1 a2:Option Addr} {K:List Int} (c1 c2:Nat) (h1:Zs w a1 K) (h2:Zs w a2 K) (hK:K.length<=1000):
 Calls prog 60 #[.slice a1 K.length c1,.slice a2 K.length c2] w λ e w'=>e= .returned (.bool true)/\∃n,w'=w.drewN n:=
 S.zv8 a1 a2 K.length c1 c2 (λ j=>K.getD j 0) w (λ h=>by
  obtain ⟨g1,e1,f1⟩:=h1 h;obtain ⟨g2,e2,f2⟩:=h2 h;exact ⟨g1,g2,e1,e2,f1,f2⟩) (by omega)
theorem zlo {u1:Value} {a2:Option Addr} {Gs:List (List Nat)} (c2:Nat) (h1:S.zdd w u1 Gs) (h2:S.Rd w a2 Gs Gs.length) (hl:Gs.length<=1000) (hg:∀i,(Gs.getD i []).length<=1000):
 Calls prog 61 #[u1,.slice a2 Gs.length c2] w λ e w'=>e= .returned (.bool true)/\∃n,w'=w.drewN n:=by
 obtain ⟨g1,c1,rfl,r1⟩:=h1;refine S.zk8 _ a2 Gs.length c1 c2 Gs w (λ hc=>?_) (by omega) (λ i=>by have:=hg i;omega);obtain ⟨g2,e2,r2⟩:=h2 hc;exact ⟨g1,g2,rfl,e2,r1,r2⟩
structure Kn (wG w:World) (x n:Nat) (L:List G.E) (q:Nat):Prop where
 iv:∃a b,IV w a b x n L
 dv:DV w q n L
 gl:G.Gl w
 below:Below wG.heap.size wG w
theorem Kn.next (h:Kn wG w x n L q) (hb:Below w.heap.size w w'):Kn wG w' x n L q:=by
 obtain ⟨⟨a,b,h1⟩,h2,h3,h4⟩:=h;exact ⟨⟨a,b,h1.below hb⟩,h2.below hb,h3.below hb,h4.trans (hb.mono h4.size)⟩
theorem Kn.c0 (h:Kn wG w x n L q):w.cell? ⟨q,0,none⟩=some (.int .i64 (n:Int)):=by
 obtain ⟨B,u,R,h1,_⟩:=h.dv;exact h1.c0
theorem zn7 (h:Kn w w x n L q) (hok:Ok n L) (s:S.St n L W T B):
 Calls prog 23 #[.pointer (some ⟨x,0,none⟩),.pointer (some ⟨q,0,none⟩)] w λ e w'=>e= .returned (.bool true)/\Below w.heap.size w w':=by
 have HK0:=kd h;have HS:=kd s;have HOK:=kd hok;have hn40:=hok.n40;have hl120:=hok.len;clear h s hok;go_enter func23,ntmps23;go_wp2_with fail;obtain ⟨_,_,hq⟩:=HK0.out.iv;have HC:Hid _:=yaam hq;clear hq;refine Calls.mono HC.out ?_;rintro e K1 ⟨u1,rfl,hz,hb⟩;have HK1:Hid (Kn w K1 x n L q):=HK0.out.next hb;have HZ1:Hid (∃B0,G.zad K1 B0 61 u1 L):=⟨_,hz⟩;clear hz hb HC HK0;go_wp2_with fail;have hq:=HK1.out.dv;have HC:Hid _:=z8h hq HOK.out;clear hq;refine Calls.mono HC.out ?_;rintro e K2 ⟨u2,rfl,hz,hb⟩;have HK2:Hid (Kn w K2 x n L q):=HK1.out.next hb;have HZ2:Hid (∃B0,G.zad K2 B0 61 u2 L):=⟨_,hz⟩;have HM:=kd hb;clear hz hb HC HK1;obtain ⟨B1,hz1⟩:=HZ1.out;obtain ⟨B2,hz2⟩:=HZ2.out;have HE:Hid _:=G.zu3 B1 B2 u1 u2 L K2 (hz1.below HM.out) hz2 (by omega);clear hz1 hz2;go_wp2_with fail;have HC:Hid _:=HE.out;refine Calls.mono HC.out ?_;rintro e K3 ⟨rfl,hb⟩;have HK3:Hid (Kn w K3 x n L q):=HK2.out.next hb;clear hb HC HZ1 HZ2 HM HK2;clear HE;go_wp2_with fail;obtain ⟨_,_,hq⟩:=HK3.out.iv;have HC:Hid _:=z18 hq;clear hq;refine Calls.mono HC.out ?_;rintro e K4 ⟨a1,c1,rfl,hz,hb⟩;have HK4:Hid (Kn w K4 x n L q):=HK3.out.next hb;have HZ1:=kd hz;clear hz hb HC HK3;have hbl:=zt0 (HK4.out.iv.choose_spec.choose_spec);go_wp2_with fail;have hq:=HK4.out.dv;have HC:Hid _:=zrm hq HOK.out HS.out;clear hq;refine Calls.mono HC.out ?_;rintro e K5 ⟨a2,c2,rfl,hz,hb⟩;have HK5:Hid (Kn w K5 x n L q):=HK4.out.next hb;have HZ2:=kd hz;have HM:=kd hb;clear hz hb HC HK4;go_wp2_with fail;have HC:Hid _:=zpu (K:=brz n L) c1 c2 (HZ1.out.below HM.out) HZ2.out (by omega);refine Calls.mono HC.out ?_;rintro e K6 ⟨rfl,nq,hw⟩;have hb:Below K5.heap.size K5 K6:=by rw [hw];exact below_drewN _ _
 have HK6:Hid (Kn w K6 x n L q):=HK5.out.next hb;clear hb hw HC HZ1 HZ2 HM HK5;clear hbl;go_wp2_with fail;obtain ⟨_,_,hq⟩:=HK6.out.iv;have HC:Hid _:=z5q hq;clear hq;refine Calls.mono HC.out ?_;rintro e K7 ⟨u1,rfl,hz,hb⟩;have HK7:Hid (Kn w K7 x n L q):=HK6.out.next hb;have HZ1:=kd hz;clear hz hb HC HK6;go_wp2_with fail;have hq:=HK7.out.dv;have HC:Hid _:=z5i hq HOK.out;clear hq;refine Calls.mono HC.out ?_;rintro e K8 ⟨a2,c2,rfl,hz,hb⟩;have HK8:Hid (Kn w K8 x n L q):=HK7.out.next hb;have HZ2:=kd hz;have HM:=kd hb;clear hz hb HC HK7;go_wp2_with fail;have HC:Hid _:=zlo (Gs:=blz n L) c2 (zj4 HZ1.out HM.out) HZ2.out (by have:=(zs8 n L).1;omega) (λ i=>by have:=(zs8 n L).2 i;omega);refine Calls.mono HC.out ?_;rintro e K9 ⟨rfl,nq,hw⟩;have hb:Below K8.heap.size K8 K9:=by rw [hw];exact below_drewN _ _
 have HK9:Hid (Kn w K9 x n L q):=HK8.out.next hb;clear hb hw HC HZ1 HZ2 HM HK8;go_wp2_with fail;obtain ⟨_,_,hq⟩:=HK9.out.iv;have HC:Hid _:=yabv hq;clear hq;refine Calls.mono HC.out ?_;rintro e K10 ⟨a1,c1,rfl,hz,hb⟩;have HK10:Hid (Kn w K10 x n L q):=HK9.out.next hb;have HZ1:=kd hz;clear hz hb HC HK9;go_wp2_with fail;have hq:=HK10.out.dv;have HC:Hid _:=yab5 hq HOK.out;clear hq;refine Calls.mono HC.out ?_;rintro e K11 ⟨a2,c2,rfl,hz,hb⟩;have HK11:Hid (Kn w K11 x n L q):=HK10.out.next hb;have HZ2:=kd hz;have HM:=kd hb;clear hz hb HC HK10;go_wp2_with fail;have HC:Hid _:=zpu (K:=ze8 n L) c1 c2 (HZ1.out.below HM.out) HZ2.out (by have:=z1c n L;omega);refine Calls.mono HC.out ?_;rintro e K12 ⟨rfl,nq,hw⟩;have hb:Below K11.heap.size K11 K12:=by rw [hw];exact below_drewN _ _
 have HK12:Hid (Kn w K12 x n L q):=HK11.out.next hb;clear hb hw HC HZ1 HZ2 HM HK11;go_wp2_with fail;obtain ⟨_,_,hq⟩:=HK12.out.iv;have HC:Hid _:=ipairs' hq;clear hq;refine Calls.mono HC.out ?_;rintro e K13 ⟨a1,c1,rfl,hz,hb⟩;have HK13:Hid (Kn w K13 x n L q):=HK12.out.next hb;have HZ1:=kd hz;clear hz hb HC HK12;go_wp2_with fail;have hq:=HK13.out.dv;have HC:Hid _:=dpairs' hq HOK.out;clear hq;refine Calls.mono HC.out ?_;rintro e K14 ⟨a2,c2,rfl,hz,hb⟩;have HK14:Hid (Kn w K14 x n L q):=HK13.out.next hb;have HZ2:=kd hz;have HM:=kd hb;clear hz hb HC HK13;go_wp2_with fail;have HC:Hid _:=zi0 (M:=prz n L) c1 c2 (HZ1.out.below HM.out) HZ2.out (by have:=z5w HOK.out;omega);refine Calls.mono HC.out ?_;rintro e K15 ⟨rfl,nq,hw⟩;have hb:Below K14.heap.size K14 K15:=by rw [hw];exact below_drewN _ _
 have HK15:Hid (Kn w K15 x n L q):=HK14.out.next hb;clear hb hw HC HZ1 HZ2 HM HK14;go_wp2_with fail;obtain ⟨_,_,hq⟩:=HK15.out.iv;have HC:Hid _:=isplits' hq;clear hq;refine Calls.mono HC.out ?_;rintro e K16 ⟨a1,c1,rfl,hz,hb⟩;have HK16:Hid (Kn w K16 x n L q):=HK15.out.next hb;have HZ1:=kd hz;clear hz hb HC HK15;go_wp2_with fail;have hq:=HK16.out.dv;have HC:Hid _:=dsplits' hq HOK.out;clear hq;refine Calls.mono HC.out ?_;rintro e K17 ⟨a2,c2,rfl,hz,hb⟩;have HK17:Hid (Kn w K17 x n L q):=HK16.out.next hb;have HZ2:=kd hz;have HM:=kd hb;clear hz hb HC HK16;go_wp2_with fail;have HC:Hid _:=zi0 (M:=spi n L) c1 c2 (HZ1.out.below HM.out) HZ2.out (by have:=yaaf HOK.out;omega);refine Calls.mono HC.out ?_;rintro e K18 ⟨rfl,nq,hw⟩;have hb:Below K17.heap.size K17 K18:=by rw [hw];exact below_drewN _ _
 have HK18:Hid (Kn w K18 x n L q):=HK17.out.next hb;clear hb hw HC HZ1 HZ2 HM HK17;go_wp2_with fail;obtain ⟨_,_,hq⟩:=HK18.out.iv;have HC:Hid _:=z6b hq;clear hq;refine Calls.mono HC.out ?_;rintro e K19 ⟨u1,rfl,hz,hb⟩;have HK19:Hid (Kn w K19 x n L q):=HK18.out.next hb;have HZ1:=kd hz;clear hz hb HC HK18;go_wp2_with fail;have hq:=HK19.out.dv;have HC:Hid _:=z6h hq HOK.out;clear hq;refine Calls.mono HC.out ?_;rintro e K20 ⟨a2,c2,rfl,hz,hb⟩;have HK20:Hid (Kn w K20 x n L q):=HK19.out.next hb;have HZ2:=kd hz;have HM:=kd hb;clear hz hb HC HK19;go_wp2_with fail;have HC:Hid _:=zlo (Gs:=thz n L) c2 (zj4 HZ1.out HM.out) HZ2.out (by have:=(ztd n L).1;omega) (λ i=>by have:=(ztd n L).2 i;omega);refine Calls.mono HC.out ?_;rintro e K21 ⟨rfl,nq,hw⟩;have hb:Below K20.heap.size K20 K21:=by rw [hw];exact below_drewN _ _
 have HK21:Hid (Kn w K21 x n L q):=HK20.out.next hb;clear hb hw HC HZ1 HZ2 HM HK20;go_wp2_with fail;go_loopw [5] (λ s5 wq=>∃i:Nat,i<=n+2/\s5= .int .i64 ((i:Int)-1)/\Kn w wq x n L q) (λ s5 _=>((n:Int)+2-(intOf s5)).toNat)
 case atStart=>exact ⟨0,by omega,rfl,HK21.out⟩
 case round=>
  clear HK21;obtain ⟨i,hi,rfl,hk⟩:=hrel;have HA:=kd hk;have hc0:=hk.c0;clear hk;obtain ⟨A,hA⟩:∃A:Int,(i:Int)-1=A:=⟨_,rfl⟩;rw [hA];have HAE:=kd hA;by_cases hlt:i<=n+1
  ·have hle:A<=(n:Int):=by omega
   obtain ⟨h,hh⟩:∃h:Int,A.tdiv 2=h:=⟨_,rfl⟩;have hh1:-1<=h/\h<=40:=by
    rw [<-hh];rcases Int.lt_or_le A 0 with k | k
    ·have:A= -1:=by omega
     subst this
     decide
    ·rw [Int.tdiv_eq_ediv_of_nonneg k];omega
   have hw1:IntKind.i64.wrap h=h:=by rw [IntKind.wrap_i64];omega
   have hw2:IntKind.i64.wrap (h+1)=h+1:=by rw [IntKind.wrap_i64];omega
   have hA1:-1<=A:=by omega
   clear hA;go_wp2_with fail;clear hc0 hw1 hw2;obtain ⟨Bv,hBv⟩:∃Bv:Int,h+1=Bv:=⟨_,rfl⟩;rw [hBv];clear hBv hh1 hh;have HC:Hid _:=yace HA.out.dv HOK.out A Bv;refine Calls.mono HC.out ?_;rintro e M1 ⟨k1,c,hwe,rfl,hb⟩;have HA1:Hid (Kn w M1 x n L q):=HA.out.next hb;have HWE:=kd hwe;clear hb hwe HC HA;go_wp2_with fail;have HC:Hid _:=yacr HA1.out.dv HOK.out A Bv;refine Calls.mono HC.out ?_;rintro e M2 ⟨k2,c2,hdn,rfl,hb⟩;have HA2:Hid (Kn w M2 x n L q):=HA1.out.next hb;have HDN:=kd hdn;clear hb hdn HC HA1;go_wp2_with fail;obtain ⟨_,_,hq⟩:=HA2.out.iv;have HC:Hid _:=yach hq A Bv;clear hq;refine Calls.mono HC.out ?_;rintro e M3 ⟨k3,c3,hwe,rfl,hb⟩;have HA3:Hid (Kn w M3 x n L q):=HA2.out.next hb;obtain ⟨rfl,rfl⟩:=S.WE.one hwe HWE.out;obtain ⟨ev,hev⟩:∃ev,ev=G.zb8 c3:=⟨_,rfl⟩;rw [<-hev];have HEV:=kd hev;clear hb hwe HC HA2 hev;go_wp2_with fail;obtain ⟨_,_,hq⟩:=HA3.out.iv;have HC:Hid _:=yadd hq A Bv;clear hq;refine Calls.mono HC.out ?_;rintro e M4 ⟨k4,c4,hwn,rfl,hb⟩;have HA4:Hid (Kn w M4 x n L q):=HA3.out.next hb;obtain ⟨hk4,hc4⟩:=S.yabh HOK.out.ed' HOK.out.n40 hwn HDN.out;have hc4':=S.yaca HWE.out hwn;rw [<-hc4'];subst hk4;obtain ⟨ew,hew⟩:∃ew,ew=G.zb8 c3:=⟨_,rfl⟩;rw [<-hew];have HEW:=kd hew;clear hb hwn HC HA3 hc4 hc4' hew HDN;go_wp2_with fail;refine (G.zga ev c3 M4 HA4.out.gl HEV.out).mono ?_;rintro e M5 ⟨rfl,hb⟩;have HA5:Hid (Kn w M5 x n L q):=HA4.out.next hb;clear hb HA4;go_wp2_with fail;refine (G.zga ew c3 M5 HA5.out.gl HEW.out).mono ?_;rintro e M6 ⟨rfl,hb⟩;have HA6:Hid (Kn w M6 x n L q):=HA5.out.next hb;clear hb HA5;go_wp2_with fail;go_roundw;case rel=>exact ⟨i+1,by omega,by have:=HAE.out;go_num,HA6.out⟩
   case measure=>simp [intOf];omega
  ·have hgt:¬A<=(n:Int):=by omega
   clear hA;go_wp2_with fail;go_ret;exact ⟨rfl,HA.out.below⟩
end Go.Proofs.YtebcjaenhiiflaaGreatDoor.I
