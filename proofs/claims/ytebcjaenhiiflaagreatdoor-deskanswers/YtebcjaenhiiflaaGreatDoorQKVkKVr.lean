import Derived.Test.YtebcjaenhiiflaaGreatDoorQKVdKVj
import Derived.Test.YtebcjaenhiiflaaGreatDoorQBbBl
import Derived.Test.YtebcjaenhiiflaaGreatDoorQMrMe
set_option maxHeartbeats 4000000
set_option maxRecDepth 100000
namespace Go.Proofs.Y.S
open Go.RowKit Go.WideMaps Go.Maps Go.Proofs.Tryz
def zes:List Value->Option (DataW Unit × List MemPlace)
 |[.int .u64 a,.int .u64 b]=>some (.agg [.lit (.int .u64 a),.lit (.int .u64 b)],[])
 |_=>none
def D7:Value->Option (DataW Unit × List MemPlace)
 | .agg cs=>zes cs.toList
 |_=>none
def Rz (x:Nat):DataW Unit:=.agg [.lit (.int .u64 (Cu x:Int)),.lit (.int .u64 (hi64 x:Int))]
theorem Ta (x:Nat):D7 (Hq x)=some (Rz x,[]):=rfl
theorem zir {l:List Value}{y:DataW Unit × List MemPlace}(h:zes l=some y):∃a b:Int,l=[.int .u64 a,.int .u64 b]/\y=(.agg [.lit (.int .u64 a),.lit (.int .u64 b)],[]):=by
 unfold zes at h;split at h
 ·next a b=>cases h;exact⟨a,b,rfl,rfl⟩
 ·cases h
theorem Qr {v:Value}{y:DataW Unit × List MemPlace}(h:D7 v=some y):∃c:Int × Int,v= .agg #[.int .u64 c.1,.int .u64 c.2]/\y=(.agg [.lit (.int .u64 c.1),.lit (.int .u64 c.2)],[]):=by
 unfold D7 at h;split at h
 ·next cs=>
  obtain⟨a,b,h1,h2⟩:=zir h;exact⟨(a,b),by rw[<-iD (xs:=cs),h1],h2⟩
 ·cases h
structure Rm (D:DataW Unit) (S:List Edg) (f:Edg->Nat):Prop where
 key:∀kl,Maps.has D kl=true↔∃e∈S,kl=e.1
 val:∀e∈S,∀zd,D.atKey e.1 zd=Rz (f e)
 tidy:Tidy D
theorem Rm.start (f:Edg->Nat):Rm (.map []) [] f:=⟨λ kl=>by simp[Maps.has],λ e he=>by simp at he,tidy_empty⟩
theorem Rm.put {D:DataW Unit}{S:List Edg}{f:Edg->Nat}(h:Rm D S f)(e:Edg)(hn:∀d∈S,d.1≠e.1):Rm (D.put e.1 (Rz (f e))) (S++[e]) f:=by
 refine⟨λ kl=>?_,λ d hd zd=>?_,h.tidy.put (Cr _) _⟩
 ·by_cases hx:kl=e.1
  ·rw[hx,has_put_same h.tidy.isMap (Cr _)]
   exact⟨λ _=>⟨e,by simp,rfl⟩,λ _=>rfl⟩
  ·rw[has_put_other hx,h.key]
   constructor
   ·rintro⟨d,hd,k⟩;exact⟨d,by simp[hd],k⟩
   ·rintro⟨d,hd,k⟩
    rcases aK.1 hd with hd|hd
    ·exact⟨d,hd,k⟩
    ·rw[aJ.1 hd] at k;exact absurd k hx
 ·rcases aK.1 hd with hd|hd
  ·rw[atKey_put_other (by have:=hn d hd;simpa using this)]
   exact h.val d hd zd
  ·rw[aJ.1 hd,atKey_put_same h.tidy.isMap (Cr _)]
structure Cv (w0 w:World) (c mb rest:Nat) (S:List Edg) (f:Edg->Nat):Prop where
 st:∃v,w.heap[c]? =some (.cells #[rest,.map mb,v] 206)
 mp:∃D N,w.ownsMap prog 3 D7 mb N D/\Rm D S f/\N=S.length
 ne:c≠mb
 lc:w0<=c
 lm:w0<=mb
 below:Below w0 w0 w
section
variable {w0 w w':World} {c mb rest:Nat} {S:List Edg} {f:Edg->Nat}
theorem Cv.below' (h:Cv w0 w c mb rest S f)(hb:Below w w w'):Cv w0 w' c mb rest S f:=by
 obtain⟨v,hv⟩:=h.st;obtain⟨D,N,h1,h2,h3⟩:=h.mp;exact {h with st:=⟨v,(hb.block c (lt_of_some hv)).trans hv⟩,mp:=⟨D,N,h1.kept (Ai hb) (by simp),h2,h3⟩,below:=h.below.tr hb}
theorem Cv.cell1 (h:Cv w0 w c mb rest S f):w.cell? (c,1)=some (.map mb):=by
 obtain⟨v,hv⟩:=h.st;simp[World.cell?,hv]
theorem Cv.more (h:Cv w0 w c mb rest S f)(e:Edg)(hn:∀d∈S,d.1≠e.1)(hw:(Lit.int .i64 e.1).wf=true)(hl:S.length<=1000):
 ∃w2,(Instr.mapUpdate 204 (.map mb) e.1 (Hq (f e))).run prog w= .ok () w2/\Cv w0 w2 c mb rest (S++[e]) f/\w.grownBy w2 (some mb):=by
 obtain⟨v,hv⟩:=h.st;obtain⟨D,N,h1,h2,h3⟩:=h.mp;obtain⟨w2,r,ho,hg⟩:=h1.update Bp underlying204 (by unfold maxLen;omega) (H6 e.1 hw) (Ta (f e));refine⟨w2,r,{h with st:=⟨v,(hg.block c (lt_of_some hv) (by simp;exact h.ne)).trans hv⟩,mp:=⟨_,_,ho,h2.put e hn,by simp[h3]⟩,below:=h.below.grown hg h.below.size (λ j hj=>by injection hj with hj;have:=h.lm;omega)},hg⟩
end
end Go.Proofs.Y.S
namespace Go.Proofs.Y.S
open Go.RowKit Go.WideMaps Go.Maps Go.Proofs.Tryz
def Xm (n:Nat)(t o:List Edg)(e:Edg)(i:Nat):Bool:=if e∈t then Eh n t o e i else decide (o.getD i (0,0,0)=e)
def Be (n:Nat)(t o:List Edg)(e:Edg):Nat:=A8 (Xm n t o e) o.length
theorem Yb {c:Nat->Bool}{k:Nat}:∀{m},k<m->(∀i,i<m->c i=decide (i=k))->A8 c m=2^k
 |0,h,_=>by omega
 |m+1,h,hc=>by
  simp only[A8,hc m (by omega)];by_cases e:m=k
  ·subst e
   have:A8 c m=0:=by
    have h2:A8 c m=A8 (λ _=>false) m:=Ke (λ i hi=>by rw[hc i (by omega)];exact bM (by omega));rw[h2];clear h2 hc h;induction m with
    |zero=>rfl
    |succ m ih=>simp[A8,ih]
   rw[this];simp
  ·rw[bM e,Yb (m:=m) (by omega) (λ i hi=>hc i (by omega))];simp
theorem zd8 {n:Nat}{t o:List Edg}{k:Nat}{e:Edg}(FM:o.Nodup)(hk:o[k]? =some e)(l9:e∉t):Be n t o e=2^k:=by
 obtain⟨j6,he⟩:=aC.1 hk;refine Yb j6 (λ i hi=>?_);unfold Xm;rw[aL l9];have h1:o.getD i (0,0,0)=o[i]:=by simp[hi]
 rw[h1,<-he];by_cases e2:i=k
 ·subst e2;simp
 ·rw[bM e2,bM]
  intro c;exact e2 ((List.getElem_inj FM).1 c)
theorem zhl {n:Nat}{t o:List Edg}{e:Edg}(he:e∈t):Be n t o e=A8 (Eh n t o e) o.length:=
 Ke (λ i _=>by unfold Xm;rw[aP he])
theorem take_one {L:List Edg}{k:Nat}{x:Edg}(h:L[k]? =some x):L.take (k+1)=L.take k++[x]:=by
 obtain⟨j6,he⟩:=aC.1 h;rw[cB j6,he]
theorem Ve {L:List Edg}{k:Nat}{x:Edg}(FM:L.Nodup)(h:L[k]? =some x):x∉L.take k:=by
 intro hx;obtain⟨i,hi⟩:=bY hx;obtain⟨LY,CR⟩:=aC.1 hi;rw[bN] at LY;rw[iL (by omega)] at hi;obtain⟨h1,h2⟩:=aC.1 hi;obtain⟨h3,h4⟩:=aC.1 h;have:=(List.getElem_inj FM).1 (h2.trans h4.symm);omega
structure Ok (n:Nat) (R:List Edg):Prop where
 inn:InE n R
 nd:R.Nodup
 one:∀d∈R,∀e∈R,d.1=e.1->d=e
 wf:∀e∈R,(Lit.int .i64 e.1).wf=true
 len:R.length<=120
 n16:n<=40
theorem Cv.base {w w1 W:World}{c mb rest:Nat}{S:List Edg}{f:Edg->Nat}(h:Cv w1 W c mb rest S f)(hb:Below w w w1):Cv w W c mb rest S f:=
 {h with lc:=aD hb.size h.lc,lm:=aD hb.size h.lm,below:=hb.tr h.below}
theorem zpw (n B p:Nat)(v:Value)(R:List Edg)(L3:List Nat)(w:World)(h:G.GAt w B 168 61 p (n:Int) v R)(p8:Ok n R)
 (hun:∀W c mb,Cv w W c mb (grw n R).2.length ((grw n R).2++(grw n R).1) (Be n (grw n R).1 (grw n R).2)->Calls prog 142 #[.pointer (some ⟨c,0,none⟩),.pointer p] W λ e w'=>∃q bq,e=Value.pointer (some ⟨q,0,none⟩)/\Aa w' q bq L3/\W.heap.size<=q/\W.heap.size<=bq/\Below W W w'):
 Calls prog 82 #[.pointer p] w λ e w'=>∃c mb q bq,e=Value.pointer (some ⟨c,0,none⟩)/\Cv w w' c mb (grw n R).2.length ((grw n R).2++(grw n R).1) (Be n (grw n R).1 (grw n R).2)/\w'.heap[c]? =some (.cells #[((grw n R).2.length:Int),.map (some mb),.pointer (some ⟨q,0,none⟩)] 206)/\Aa w' q bq L3:=by
 have HG:=kd (And.intro h p8);have HU:=kd hun;have IU:Hid (Gr n R (grw n R).1 (grw n R).2):=P6 R p8.nd p8.inn.nodes;have hn16:=p8.n16;have hlen:=p8.len;clear h p8 hun;go_enter func82,ntmps82;go_wp2_with fail;refine(znb n B p v R w HG.o.1 (by omega) HG.o.2.inn HG.o.2.nd (by omega)).mono ?_;rintro e w1 ⟨vt,vo,B1,rfl,hot,hoo,hB1,j4⟩;obtain⟨t,ht⟩:∃t,(grw n R).1=t:=⟨_,rfl⟩;obtain⟨o,ho⟩:∃o,(grw n R).2=o:=⟨_,rfl⟩;rw[ht,ho] at HU IU;rw[ht] at hot;rw[ho] at hoo;have HTO:=kd (And.intro ht ho);have HO:Hid (G.Ad w1 B1 61 vt t/\G.Ad w1 B1 61 vo o/\Below w w w1):=⟨hot,hoo,j4⟩;obtain⟨mt,hmt⟩:∃mt,t.length=mt:=⟨_,rfl⟩;obtain⟨mo,MI⟩:∃mo,o.length=mo:=⟨_,rfl⟩;have HM:=kd (And.intro hmt MI);have VC:mt+mo<=120:=by have:=IU.o.len;omega
 obtain⟨ta,tc,hvt⟩:=hot.Ap;obtain⟨oa,oc,hvo⟩:=hoo.Ap;rw[hmt] at hvt;rw[MI] at hvo;subst hvt;subst hvo;have FC:=@run_makeMap prog;have OV:Hid (InE n o/\InE n t/\o.Nodup/\t.Nodup/\(∀e∈o,e∉t)/\(∀e∈o++t,e∈R)):=⟨HG.o.2.inn.sub (λ e he=>(IU.o.mem e).2 (.inr he)),HG.o.2.inn.sub (λ e he=>(IU.o.mem e).2 (.inl he)),HG.o.2.nd.sublist IU.o.osub,HG.o.2.nd.sublist IU.o.tsub,λ e he k=>IU.o.forest.apart e k he,λ e he=>(IU.o.mem e).2 ((aK.1 he).symm)⟩;clear ht ho hot hoo j4 hmt MI;have HC0:Hid (Cv w1 ((w1.alloc (.map #[] 0)).alloc (.cells #[mo,.map w1,.pointer none] 206)) (w1+1) w1 mo (o.take 0) (Be n t o)):=by
  have h1:Below w1 w1 (w1.alloc (.map #[] 0)):=b_;have h2:Below (w1.alloc (.map #[] 0)).heap.size (w1.alloc (.map #[] 0)) ((w1.alloc (.map #[] 0)).alloc (.cells #[mo,.map w1,.pointer none] 206)):=b_;have h3:=aQ (w1.alloc (.map #[] 0)) (.cells #[mo,.map w1,.pointer none] 206);rw[aT] at h3;exact⟨⟨_,h3⟩,⟨_,0,(World.ownsMap_made w1 prog 3 D7).alloc _,Rm.start _,rfl⟩,by omega,by omega,aF _,h1.tr h2⟩
 obtain⟨mb,hmb⟩:∃mb,w1.heap.size=mb:=⟨_,rfl⟩;go_wp2_with fail;rw[hmb] at HC0;have HMB:=kd hmb;clear FC hmb;go_loopw [23] (λ s23 wq=>∃k:Nat,k<=mo/\s23=k/\Cv w1 wq (mb+1) mb mo (o.take k) (Be n t o)) (λ s23 _=>mo-(intOf s23).toNat)
 case atStart=>exact⟨0,aN _,rfl,HC0.o⟩
 case round=>
  clear HC0;obtain⟨k,hk,rfl,MU⟩:=hrel;have HC:=kd MU;clear MU;by_cases j6:k<mo
  ·as_aux_lemma=>
   obtain⟨x0,xa,xb,hx,OQ,LG,IQ,GA⟩:=Mm OV.o.1 (by rw[HM.o.2];exact j6);obtain⟨g',rfl⟩:=Hy HO.o.2.1 (by rw[HM.o.2];exact j6);obtain⟨r0,r1,r2⟩:=(HO.o.2.1.below HC.o.below).at (g:=g') rfl hx;have r0':wr.cell? (g',k*3)=x0:=r0;have r1':wr.cell? (g',k*3+1)=xa:=r1;have r2':wr.cell? (g',k*3+2)=xb:=r2;have KL:(x0,(xa:Int),(xb:Int))∈o:=aG hx;have HX:Hid (o[k]? =some (x0,(xa:Int),(xb:Int))/\Be n t o (x0,(xa:Int),(xb:Int))=2^k):=⟨hx,zd8 OV.o.2.2.1 hx (OV.o.2.2.2.2.1 _ KL)⟩;have HN:Hid (∀d∈o.take k,d.1≠x0):=λ d hd e=>by
    have:=HG.o.2.one d (OV.o.2.2.2.2.2 d (bE _ (dB hd))) _ (OV.o.2.2.2.2.2 _ (bE _ KL)) e;rw[this] at hd;exact Ve OV.o.2.2.1 hx hd
   have GL:(Lit.int .i64 x0).wf=true:=HG.o.2.wf _ (OV.o.2.2.2.2.2 _ (bE _ KL));clear r0 r1 r2 hx IQ GA KL;have hring:RingAt ((wr.alloc (.cells #[x0,xa,xb] 61)).alloc (.cells #[.int .u64 0,.int .u64 0] 208)) (wr+1) 0:=by
    have:=aQ (wr.alloc (.cells #[x0,xa,xb] 61)) (.cells #[.int .u64 0,.int .u64 0] 208);rw[aT] at this;exact Ng this
   have HR:=kd hring;clear hring;go_wp2_with fail;refine(zbl (wr+1) k 0 _ HR.o (by omega) (Nat.two_pow_pos k)).mono ?_;rintro e w3 ⟨rfl,LH,y8⟩;rw[gG] at LH;have BI:Below wr wr w3:=((b_).alloc (by simp) _).trans (y8.below (by omega) (by simp;omega));have BF:w3.heap[wr.heap.size]? =some (.cells #[x0,xa,xb] 61):=by
    rw[y8.block wr (by simp;omega) (by omega),bG _ _ _ (by simp)];exact aQ wr _
   have TQ:Hid (Cv w1 w3.drew (mb+1) mb mo (o.take k) (Be n t o)):=HC.o.below' (BI.trans ((aI _ _).drew.mono BI.size));obtain⟨w4,JD,hcv4,_⟩:=TQ.o.more (x0,(xa:Int),(xb:Int)) HN.o GL (by rw[bN];omega);rw[HX.o.2] at JD;rw[<-take_one HX.o.1] at hcv4;have HC4:=kd hcv4;have d1:=(HC.o.below' BI).cell1;have q0:w3.cell? wr=x0:=by simp[World.cell?,BF]
   have s0:w3.cell? (wr.heap.size+1:Nat)=some (.int .u64 (Cu (2^k):Int)):=by simp[World.cell?,LH]
   have s1:w3.cell? (wr.heap.size+1,1)=some (.int .u64 (hi64 (2^k):Int)):=by simp[World.cell?,LH]
   unfold Hq at JD;obtain⟨Y,hY⟩:∃Y:Nat,Cu (2^k)=Y:=⟨_,rfl⟩;obtain⟨Z,hZ⟩:∃Z:Nat,hi64 (2^k)=Z:=⟨_,rfl⟩;rw[hY,hZ] at JD;rw[hY] at s0;rw[hZ] at s1;simp only at JD;clear LH y8 BI BF TQ hcv4 HR HC r0' r1' r2' hY hZ;go_upto_region 8 with fail
   go_region
   all_goals
    go_wp2_with fail;go_roundw;case rel=>exact⟨k+1,by omega,by go_num,HC4.o⟩
    case measure=>simp[intOf];omega
  ·have CF:k=mo:=by omega
   have RL:Hid (Cv w1 wr (mb+1) mb mo (o++t.take 0) (Be n t o)):=by
    have h2:=HC.o;rw[CF,<-HM.o.2,bK,HM.o.2] at h2;rw[kK,eX];exact h2
   clear HC CF;go_wp2_with fail;go_loopw [40] (λ s40 wq=>∃j:Nat,j<=mt/\s40=j/\Cv w1 wq (mb+1) mb mo (o++t.take j) (Be n t o)) (λ s40 _=>mt-(intOf s40).toNat)
   case atStart=>exact⟨0,aN _,rfl,RL.o⟩
   case round=>
    clear RL;obtain⟨j,hj,rfl,MU⟩:=hrel;have HC:=kd MU;clear MU;by_cases JL:j<mt
    ·as_aux_lemma=>
     obtain⟨x0,xa,xb,hx,OQ,LG,IQ,GA⟩:=Mm OV.o.2.1 (by rw[HM.o.1];exact JL);obtain⟨g',rfl⟩:=Hy HO.o.1 (by rw[HM.o.1];exact JL);obtain⟨r0,r1,r2⟩:=(HO.o.1.below HC.o.below).at (g:=g') rfl hx;have r0':wr.cell? (g',j*3)=x0:=r0;have r1':wr.cell? (g',j*3+1)=xa:=r1;have r2':wr.cell? (g',j*3+2)=xb:=r2;have KL:(x0,(xa:Int),(xb:Int))∈t:=aG hx;have GL:(Lit.int .i64 x0).wf=true:=HG.o.2.wf _ (OV.o.2.2.2.2.2 _ (fT _ KL));have HN:Hid (∀d∈o++t.take j,d.1≠x0):=λ d hd e=>by
      have hdR:d∈R:=OV.o.2.2.2.2.2 d (by
       rcases aK.1 hd with h1|h1
       ·exact bE _ h1
       ·exact fT _ (dB h1))
      have:=HG.o.2.one d hdR _ (OV.o.2.2.2.2.2 _ (fT _ KL)) e;rw[this] at hd;rcases aK.1 hd with h1|h1
      ·exact OV.o.2.2.2.2.1 _ h1 KL
      ·exact Ve OV.o.2.2.2.1 hx h1
     have BI:Below wr wr ((wr.alloc (.cells #[x0,xa,xb] 61)).drew):=(b_).drew;have KY:Hid (Cv w1 ((wr.alloc (.cells #[x0,xa,xb] 61)).drew) (mb+1) mb mo (o++t.take j) (Be n t o)):=HC.o.below' BI;have HT:Hid (Calls prog 141 #[n,.slice g' mt tc,.agg #[x0,xa,xb],.slice oa mo oc] ((wr.alloc (.cells #[x0,xa,xb] 61)).drew) λ e w'=>∃X Y W2,e=Value.agg #[.int .u64 (X:Int),.int .u64 (Y:Int)]/\(w'.cell? (mb+1,1)=some (.map mb)/\w'.cell? wr=x0/\w'.cell? (wr,1)=xa/\w'.cell? (wr,2)=xb)/\(Instr.mapUpdate 204 (.map mb) x0 (.agg #[.int .u64 (X:Int),.int .u64 (Y:Int)])).run prog w'= .ok () W2/\(W2.cell? (mb+1,1)=some (.map mb)/\W2.cell? wr=x0/\W2.cell? (wr,1)=xa/\W2.cell? (wr,2)=xb)/\Hid (Cv w1 W2 (mb+1) mb mo (o++t.take (j+1)) (Be n t o))):=by
      have hq0:((wr.alloc (.cells #[x0,xa,xb] 61)).drew).cell? wr=x0:=by simp
      have hq1:((wr.alloc (.cells #[x0,xa,xb] 61)).drew).cell? (wr,1)=xa:=by simp
      have hq2:((wr.alloc (.cells #[x0,xa,xb] 61)).drew).cell? (wr,2)=xb:=by simp
      have hmbl:mb<wr:=by
       obtain⟨D,N,h1,_,_⟩:=HC.o.mp;obtain⟨es,clock,h1,_⟩:=h1;exact lt_of_some h1
      refine(zaf n B1 B1 _ _ t o (x0,(xa:Int),(xb:Int)) _ (HO.o.1.below KY.o.below) (HO.o.2.1.below KY.o.below) OV.o.2.1 OV.o.1 KL (by omega) (by rw[HM.o.1];omega) (by rw[HM.o.2];omega)).mono ?_;rintro e w' ⟨rfl,hb'⟩;have TQ:=KY.o.below' hb';obtain⟨W2,JD,VD,FR⟩:=TQ.more (x0,(xa:Int),(xb:Int)) HN.o GL (by rw[aM,bN,HM.o.2];omega);rw[zhl KL] at JD;rw[dW,<-take_one hx] at VD;have k0:=cell_below hq0 hb';have k1:=cell_below hq1 hb';have k2:=cell_below hq2 hb';have kg:∀{i:Nat} {u:Value},w'.cell? (wr,i)=some u->W2.cell? (wr,i)=some u:=λ {i u} hk=>by
       have hl:=lt_of_cell hk;simp only[World.cell?] at hk ⊢;rw[FR.block wr hl (by simp;omega)];exact hk
      exact⟨_,_,W2,rfl,⟨TQ.cell1,k0,k1,k2⟩,JD,⟨VD.cell1,kg k0,kg k1,kg k2⟩,VD⟩
     have GD:Hid (G.GAt ((wr.alloc (.cells #[x0,xa,xb] 61)).drew) B 168 61 p (n:Int) v R):=(HG.o.1.below HO.o.2.2).below KY.o.below;have GY:(((wr.alloc (.cells #[x0,xa,xb] 61)).drew).cell? (mb+1,1)=some (.map mb)/\((wr.alloc (.cells #[x0,xa,xb] 61)).drew).cell? wr=x0/\((wr.alloc (.cells #[x0,xa,xb] 61)).drew).cell? (wr,1)=xa/\((wr.alloc (.cells #[x0,xa,xb] 61)).drew).cell? (wr,2)=xb):=⟨KY.o.cell1,by simp,by simp,by simp⟩;clear r0 r1 r2 hx IQ GA KL BI KY HC HN;go_upto_region 13 with fail
     clear r0' r1' r2';go_region_held (λ w'=>(w'.cell? (mb+1,1)=some (.map mb)/\w'.cell? wr=x0/\w'.cell? (wr,1)=xa/\w'.cell? (wr,2)=xb)) (with_reducible assumption)
      (first
      |(go_at_call 52;refine(G.Cg (n:Int) B p v R _ GD.o).mono ?_;rintro e w' ⟨rfl,rfl⟩)
      |(go_at_call 141;refine HT.o.mono ?_;rintro e w' ⟨X,Y,W2,rfl,CO,JD,FW,VD⟩))
     all_goals
      go_wp2_with fail;go_roundw;case rel=>exact⟨j+1,by omega,by go_num,VD.o⟩
      case measure=>simp[intOf];omega
    ·as_aux_lemma=>
     have RL:Hid (Cv w wr (mb+1) mb mo (o++t) (Be n t o)):=by
      have CE:j=mt:=by omega
      have h2:=HC.o;rw[CE,<-HM.o.1,bK] at h2;exact h2.base HO.o.2.2
     have HUN:Hid _:=HU.o wr (mb+1) mb (by rw[HM.o.2];exact RL.o);clear HC;go_wp2_with fail;refine aA HUN.o ?_;rintro e w5 ⟨q,bq,rfl,OW,hq5,hbq5,CV⟩;have HC5:Hid (Cv w w5 (mb+1) mb mo (o++t) (Be n t o)):=RL.o.below' CV;obtain⟨u2,CU⟩:=HC5.o.st;have k2:w5.cell? (mb+1,2)=some u2:=by simp[World.cell?,CU]
     have f2:w5.frozen? (mb+1,2)=false:=by simp[World.frozen?,CU]
     have GV:mb+1<wr.heap.size:=by obtain⟨u,hu⟩:=RL.o.st;exact lt_of_some hu
     have HF:Hid (Cv w (w5.setCell (mb+1,2) (.pointer q)) (mb+1) mb mo (o++t) (Be n t o)/\(w5.setCell (mb+1,2) (.pointer q)).heap[mb+1]? =some (.cells #[mo,.map mb,.pointer q] 206)/\Aa (w5.setCell (mb+1,2) (.pointer q)) q bq L3):=by
      have OC:(w5.setCell (mb+1,2) (.pointer q)).heap[mb+1]? =some (.cells #[mo,.map mb,.pointer q] 206):=by
       simp only[World.setCell,dC,CU];simp
      have hg:w5.grownBy (w5.setCell (mb+1,2) (.pointer q)) (some (mb+1)):=⟨rfl,rfl,rfl,by simp,λ k _ l9=>aV _ _ _ _ (λ e=>l9 (by rw[e]))⟩;obtain⟨D,N,h1,h2,h3⟩:=HC5.o.mp;refine⟨{HC5.o with st:=⟨_,OC⟩,mp:=⟨D,N,h1.kept hg (by simp),h2,h3⟩,below:=HC5.o.below.grown hg HC5.o.below.size (λ j hj=>by injection hj with hj;have:=HC5.o.lc;omega)},OC,?_⟩;exact⟨(aV _ _ _ _ (show q≠mb+1 by omega)).trans OW.hp,(aV _ _ _ _ (show bq≠mb+1 by omega)).trans OW.hb⟩
     clear CU OW CV HC5 HUN;go_wp2_with fail;go_ret;refine⟨mb+1,mb,q,bq,rfl,?_,?_,HF.o.2.2⟩
     ·rw[HTO.o.1,HTO.o.2,HM.o.2];exact HF.o.1
     ·rw[HTO.o.2,HM.o.2];exact HF.o.2.1
theorem zbd (w:World):(zeroValue 208).run prog w= .ok (Hq 0) w:=by kernel_rfl
theorem Zc {v:Value}{x:Nat}{ps:List MemPlace}(h:D7 v=some (Rz x,ps)):v=Hq x:=by
 obtain⟨c,rfl,hy⟩:=Qr h;have h1:=congrArg Prod.fst hy;simp only[Rz,DataW.agg.injEq,kF,DataW.lit.injEq,Lit.int.injEq,lK,lL] at h1;obtain⟨h2,h3⟩:=h1;rw[<-h2,<-h3];rfl
structure Co (w:World) (c mb rest:Nat) (S:List Edg) (f:Edg->Nat):Prop where
 st:∃v,w.heap[c]? =some (.cells #[rest,.map mb,v] 206)
 mp:∃D N,w.ownsMap prog 3 D7 mb N D/\Rm D S f
theorem Cv.co {w0 w:World}{c mb rest:Nat}{S:List Edg}{f:Edg->Nat}(h:Cv w0 w c mb rest S f):Co w c mb rest S f:=by
 obtain⟨D,N,h1,h2,_⟩:=h.mp;exact⟨h.st,D,N,h1,h2⟩
section
variable {w w':World} {c mb rest:Nat} {S:List Edg} {f:Edg->Nat}
theorem Co.below (h:Co w c mb rest S f)(hb:Below w w w'):Co w' c mb rest S f:=by
 obtain⟨v,hv⟩:=h.st;obtain⟨D,N,h1,h2⟩:=h.mp;exact⟨⟨v,(hb.block c (lt_of_some hv)).trans hv⟩,D,N,h1.kept (Ai hb) (by simp),h2⟩
theorem Co.cell1 (h:Co w c mb rest S f):w.cell? (c,1)=some (.map mb):=by
 obtain⟨v,hv⟩:=h.st;simp[World.cell?,hv]
theorem Co.Xf (h:Co w c mb rest S f){e:Edg}(he:e∈S)(hw:(Lit.int .i64 e.1).wf=true):
 (Instr.lookup 204 (.map mb) e.1 true).run prog w= .ok (.tuple #[Hq (f e),true]) w/\(Instr.lookup 204 (.map mb) e.1 false).run prog w= .ok (Hq (f e)) w:=by
 obtain⟨D,N,h1,h2⟩:=h.mp;have hh:Maps.has D e.1=true:=(h2.key _).2 ⟨e,he,rfl⟩;obtain⟨v,ps,r1,r2⟩:=h1.look_ok Bp underlying204 (zbd w) (Ta 0) (H6 e.1 hw);obtain⟨v',ps',q1,q2⟩:=h1.lookup Bp underlying204 (zbd w) (Ta 0) (H6 e.1 hw);rw[h2.val e he] at r2 q2;rw[r1,q1,hh,Zc r2,Zc q2];exact⟨rfl,rfl⟩
end
theorem zn8 (a b c d:Int)(w:World):(Op.equalIn 10000 208 (.agg #[.int .u64 a,.int .u64 b]) (.agg #[.int .u64 c,.int .u64 d])).run prog w= .ok (a==c&&b==d) w:=by
 have u3:=underlying132;have a3:=isAgg132;have z3:=sizeOf132;rw[show(10000:Nat)=9999+1 from rfl,Op.equalIn];simp only[jS,run_underlying underlying208,Result.andThen_ok];simp only[Std.Legacy.Range.forIn_eq_forIn_range',Std.Legacy.Range.size,Nat.sub_zero,Nat.add_sub_cancel,Nat.div_one,List.range'_succ,List.range'_zero,List.forIn_cons,List.forIn_nil];go_simp;by_cases h1:a=c <;> by_cases h2:b=d <;> simp[h1,h2]
end Go.Proofs.Y.S
namespace Go.Proofs.Y.S
open Go.RowKit Go.WideMaps Go.Maps
structure Ed (n i:Nat) (L:List (Int × Int × Int)):Prop where
 up:G.Up L
 ids:∀e∈L,0<=e.1/\e.1<=1099511627776
 ends:∀e∈L,∃x y:Nat,x<y/\y<n/\e=(e.1,(x:Int),(y:Int))
 len:L.length<=i
theorem Av {x:Int}(h0:0<=x)(h1:x<=1099511627776):(Lit.int .i64 x).wf=true:=WalkArith.wf_i64 (by omega)
theorem below_kept' {w0 w w':World}{q:Nat}{o:Option Nat}(h:Below w0 w0 w)(k:G.Kept q o w w')(h1:w0<=q)(h2:∀j,o=some j->w0.heap.size<=j):Below w0 w0 w':=
 ⟨k.os.trans h.os,k.tape.trans h.tape,k.output.trans h.output,aD h.size k.size,λ j hj=>(k.block j (aR hj h.size) (by omega) (λ e=>by have:=h2 j e.symm;omega)).trans (h.block j hj)⟩
theorem Ed.mono {n i j:Nat}{L:List (Int × Int × Int)}(h:Ed n i L)(hij:i<=j):Ed n j L:=
 ⟨h.up,λ e he=>by have:=h.ids e he;omega,h.ends,by have:=h.len;omega⟩
open Go.RowKit Go.WideMaps Go.Maps Go.Proofs.Tryz
theorem Ed.nat {n i:Nat}{L:List (Int × Int × Int)}(h:Ed n i L){e:Int × Int × Int}(he:e∈L):e.2.1=(ea e:Int)/\e.2.2=(eb e:Int)/\ea e<n/\eb e<n/\ea e<eb e:=by
 obtain⟨x,y,BO,hy,hq⟩:=h.ends e he;have h1:e.2.1=(x:Int):=by rw[hq]
 have h2:e.2.2=(y:Int):=by rw[hq]
 have h3:ea e=x:=by unfold ea;rw[h1];simp
 have h4:eb e=y:=by unfold eb;rw[h2];simp
 rw[h3,h4];exact⟨h1,h2,by omega,by omega,by omega⟩
theorem Ed.inn {n i:Nat}{L:List (Int × Int × Int)}(h:Ed n i L):∀e∈L,ea e<n/\eb e<n:=λ _ he=>⟨(h.nat he).2.2.1,(h.nat he).2.2.2.1⟩
theorem Ed.proper {n i:Nat}{L:List (Int × Int × Int)}(h:Ed n i L):∀e∈L,ea e≠eb e:=λ e he=>by have:=(h.nat he).2.2.2.2;omega
theorem zma {n i:Nat}{L:List (Int × Int × Int)}(h:Ed n i L)(x:Nat)(Fe:Nat->Int):L.filter (G.stays Fe (λ _=>(x:Int)) 0 1)=wo L x:=by
 unfold wo;apply dP;intro e he;have hn:=h.nat he;unfold G.stays G.among;rw[hn.1,hn.2.1,dV];simp;omega
theorem zkk {n i:Nat}{L:List (Int × Int × Int)}(h:Ed n i L)(x:Nat):Good n (joins (List.range n) (wo L x))/\Kx n L x (joins (List.range n) (wo L x)):=by
 have p9:∀d∈wo L x,ea d<n/\eb d<n:=λ d hd=>h.inn d (Ob.1 hd).1
 have hg:=Ew (wo L x) _ (Dg n) p9;refine⟨hg,λ u v hu hv=>?_⟩;rw[<-Lk.iff hu hv,Lh (wo L x) _ (Dg n) p9];constructor
 ·intro c
  refine Ag.lift c ?_;rintro p q (c|⟨e,he,rfl,rfl⟩)
  ·rcases c with rfl|⟨h1,h2,h3⟩
   ·exact Ag.refl _
   ·have e1:(List.range n).getD p 0=p:=by simp[h1]
    have e2:(List.range n).getD q 0=q:=by simp[h2]
    rw[e1,e2] at h3;subst h3;exact Ag.refl _
  ·exact Ao he
 ·intro c
  refine Ag.lift c ?_;rintro p q ⟨e,he,rfl,rfl⟩;exact Ag.base (.inr ⟨e,he,rfl,rfl⟩)
theorem But.cell {b:Nat}{w w':World}(h:But b w w'){g i:Nat}{v:Value}(hg:w.cell? (g,i)=some v)(h1:g≠b):w'.cell? (g,i)=some v:=by
 have hl:=lt_of_cell hg;simp only[World.cell?] at hg ⊢;rw[h.block g hl h1];exact hg
theorem Pn (L:List Nat)(ds:List (Int × Int × Int))(d:Int × Int × Int):joins L (ds++[d])=joinL (joins L ds) (ea d) (eb d):=by
 rw[Mg];rfl
theorem zq7 (x n B0 q M:Nat)(u:Value)(R:List (Int × Int × Int))(w:World)(h:G.GAt w B0 168 61 q (n:Int) u R)(hn:n<=40)(AV:Ed n M R)(hM:M<=120):
 Calls prog 246 #[.pointer q,x] w λ e w'=>∃p b K,e=Value.pointer (some ⟨p,0,none⟩)/\Aa w' p b K/\Good n K/\Kx n R x K/\Below w w w'/\w.heap.size<=p/\w.heap.size<=b:=by
 have HG:=kd h;have HE:=kd AV;have HKX:=(show Hid _ from zkk AV x);have hlen:=AV.len;clear h AV;go_enter func246,ntmps246;go_wp2_with fail;refine(G.Cg (n:Int) B0 q u R w HG.o).mono ?_;rintro e w1 ⟨rfl,AR⟩;subst AR;go_wp2_with fail;refine(Kk n w1 hn).mono ?_;rintro e w2 ⟨rfl,DJ,j5⟩;have LP:=kd (And.intro DJ j5);have BS:w1.heap.size+1<w2.heap.size:=DJ.plt;obtain⟨W1,AJ⟩:∃W1,W1=w2.alloc (.cells #[x] 3):=⟨_,rfl⟩;have BK:Below w2 w2 W1:=by rw[AJ];exact b_
 have hcW:W1.cell? w2=x:=by rw[AJ,World.cell?_alloc_at _ _ _ _ rfl];rfl
 have BQ:=kd AJ.symm;have CQ:=kd (And.intro BK hcW);clear DJ j5 AJ BK hcW;go_wp2_with fail;rw[BQ.o];refine(G.Sg (n:Int) B0 q u R none (some ⟨w2.heap.size,0,none⟩) 0 1 0 1 (λ _=>0) (λ _=>(x:Int)) W1 ((HG.o.below LP.o.2).below CQ.o.1) (by omega) ⟨λ h=>by omega⟩ ⟨λ _=>⟨w2.heap.size,0,rfl,λ t ht=>by
  obtain rfl:t=0:=by omega
  exact CQ.o.2⟩⟩ (by omega) (by omega)).mono ?_
 rintro e w3 ⟨p',v',rfl,FL,y8⟩;rw[zma HE.o] at FL;have HG3:=kd FL;have AZ:Hid (Below w2 w2 w3):=CQ.o.1.tr y8;have hwl:(wo R x).length<=R.length:=aW _ _;clear FL y8 CQ BQ;go_wp2_with fail;refine(G.Dv (n:Int) _ p' v' (wo R x) w3 HG3.o (by omega)).mono ?_;rintro e w4 ⟨v,rfl,ho,BB⟩;obtain⟨m,hm⟩:∃m,m=(wo R x).length:=⟨_,rfl⟩;have HM':=kd hm;obtain⟨va,vc,hv⟩:=ho.Ap;rw[<-hm] at hv hwl;subst hv;have HO:=kd ho;have EP:Hid (Below w2 w2 w4):=AZ.o.tr BB;have HS4:Hid (Aa w4 (w1+1) w1 (List.range n)):=LP.o.1.below EP.o BS (by omega);have hs34:w2.heap.size<=w3.heap.size:=AZ.o.size;clear ho BB hm;go_wp2_with fail;go_loopw [21] (λ s21 wq=>∃j:Nat,j<=m/\s21=j/\Aa wq (w1+1) w1 (joins (List.range n) ((wo R x).take j))/\But w1 w4 wq) (λ s21 _=>m-(intOf s21).toNat)
 case atStart=>exact⟨0,aN _,rfl,by simpa[joins] using HS4.o,But.refl _ _⟩
 case round=>
  clear HS4;obtain⟨j,hj,rfl,hs,hk⟩:=hrel;have HR:=kd (And.intro hs hk);clear hs hk;by_cases j6:j<m
  ·obtain⟨e,DK⟩:∃e,(wo R x)[j]? =some e:=⟨_,aB (by rw[<-HM'.o];exact j6)⟩
   have NU:=(Ob.1 (aG DK)).1;have DU:=HE.o.nat NU;obtain⟨g,EF⟩:∃g,va=some ⟨g,0,none⟩:=by
    rcases HO.o.shape with⟨_,k⟩|⟨g,cap,k,_⟩
    ·rw[k] at DK;simp at DK
    ·injection k with e1 _ _
     exact⟨g,e1⟩
   subst EF;obtain⟨r0,r1,r2⟩:=HO.o.at (g:=g) rfl DK;have hgb:=aU HO.o g rfl;have q0:=(HR.o.2.cell (g:=g) r0 (by omega));have q1:=(HR.o.2.cell (g:=g) r1 (by omega));have q2:=(HR.o.2.cell (g:=g) r2 (by omega));have UU:Hid ((wo R x).take (j+1)=(wo R x).take j++[e]):=by
    show(wo R x).take (j+1)=_;rw[bL,DK];rfl
   rw[DU.1] at q1;rw[DU.2.1] at q2;obtain⟨hA,hE,hAE⟩:=DU.2.2;have QK:Hid (joins (List.range n) ((wo R x).take (j+1))=joinL (joins (List.range n) ((wo R x).take j)) (ea e) (eb e)):=by
    show joins _ _=_;rw[UU.o,Pn]
   have IK:(joins (List.range n) ((wo R x).take j)).length=n:=(Ew ((wo R x).take j) _ (Dg n) (λ d hd=>HE.o.inn d (Ob.1 (dB hd)).1)).len;generalize ea e=A at*;generalize eb e=E at*;generalize e.1=x0 at*;generalize joins (List.range n) ((wo R x).take j)=J at*;clear DK r0 r1 r2 NU DU UU;obtain⟨W1,AJ⟩:∃W1,W1=wr.alloc (.cells #[x0,A,E] 61):=⟨_,rfl⟩;have hh:W1.heap[wr.heap.size]? =some (.cells #[x0,A,E] 61):=by rw[AJ];exact aQ wr _
   have p0:W1.cell? wr=x0:=by simp[World.cell?,hh]
   have p1:W1.cell? (wr,1)=A:=by simp[World.cell?,hh]
   have p2:W1.cell? (wr,2)=E:=by simp[World.cell?,hh]
   have BK:Below wr wr W1:=by rw[AJ];exact b_
   have BZ:Hid (Aa W1 (w1+1) w1 J/\But w1 w4 W1):=⟨HR.o.1.below BK HR.o.1.plt HR.o.1.blt,HR.o.2.trans (But.of_below BK)⟩;have BQ:=kd AJ.symm;clear hh AJ BK HR;go_wp2_with fail;rw[BQ.o];refine(Xg A E _ _ J _ W1 BZ.o.1 (by omega) (by omega) (by omega) rfl).mono ?_;rintro e' w5 ⟨rfl,OW,hk5⟩;have HR5:Hid (Aa w5 (w1+1) w1 (joins (List.range n) ((wo R x).take (j+1)))/\But w1 w4 w5):=by
    rw[QK.o];exact⟨OW,BZ.o.2.trans hk5⟩
   clear OW hk5 BZ p0 p1 p2;go_wp2_with fail;go_roundw;case rel=>exact⟨j+1,by omega,by go_num,HR5.o.1,HR5.o.2⟩
   case measure=>simp[intOf];omega
  ·have CE:j=m:=by omega
   subst CE;have HF:Hid (Aa wr (w1+1) w1 (joins (List.range n) (wo R x))):=by
    have:=HR.o.1;rw[aZ (by rw[<-HM'.o];omega)] at this;exact this
   have HBF:Hid (Below w1 w1 wr):=(LP.o.2.tr EP.o).trans (HR.o.2.below (aF _) (by have:=EP.o.size;omega));clear HR;go_wp2_with fail;go_ret;exact⟨_,_,_,rfl,HF.o,HKX.o.1,HKX.o.2,HBF.o,iE _,aF _⟩
open Go.Proofs.Tryz
def Ay (R:List (Int × Int × Int))(j:Nat):Int:=(R.getD j (0,0,0)).1
theorem Et {R:List (Int × Int × Int)}{i:Nat}{e:Int × Int × Int}(h:R[i]? =some e):Ay R i=e.1:=by simp[Ay,h]
theorem Jt {R:List (Int × Int × Int)}(hu:G.Up R){i j:Nat}(h:i<j)(hj:j<R.length):Ay R i<Ay R j:=by
 have:=dM.1 hu i j (by omega) hj h
 simpa[Ay,hj,show i<R.length by omega] using this
theorem Ot {R:List (Int × Int × Int)}(hu:G.Up R){i j:Nat}(hi:i<R.length)(hj:j<R.length)(h:Ay R i=Ay R j):i=j:=by
 rcases eP i j with c|c|c
 ·have:=Jt hu c hj;omega
 ·exact c
 ·have:=Jt hu c hi;omega
structure Lm (D:DataW Unit) (R:List (Int × Int × Int)) (L:List Nat):Prop where
 key:∀x:Int,Maps.has D x=true↔∃e∈R,e.1=x
 val:∀i e,R[i]? =some e->∀zd,D.atKey (.int .i64 e.1) zd= .lit (.int .i64 (Ay R (L.getD i 0)))
structure Bo (w:World) (p m N:Nat) (D:DataW Unit) (v:Value):Prop where
 hp:w.heap[p]? =some (.cells #[.map m,v] 196)
 hm:w.ownsMap prog 3 (plainElem prog 3) m N D
namespace Bo
open Go.Proofs.Tryz
variable {w w':World} {p m N:Nat} {D D':DataW Unit} {v:Value}
theorem plt (h:Bo w p m N D v):p<w:=lt_of_some h.hp
theorem c0 (h:Bo w p m N D v):w.cell? p=some (.map m):=by simp[World.cell?,h.hp]
theorem c1 (h:Bo w p m N D v):w.cell? (p,1)=some v:=by simp[World.cell?,h.hp]
theorem ne (h:Bo w p m N D v):p≠m:=by
 obtain⟨es,c,hb,_⟩:=h.hm;rintro rfl;rw[h.hp] at hb;simp at hb
theorem below (h:Bo w p m N D v)(hb:Below w w w'):Bo w' p m N D v:=
 ⟨by rw[hb.block p h.plt];exact h.hp,h.hm.kept (row:=none) ⟨hb.os,hb.tape,hb.output,hb.size,λ k hk _=>hb.block k hk⟩ (by simp)⟩
theorem drewN (h:Bo w p m N D v)(n:Nat):Bo (w.drewN n) p m N D v:=⟨h.hp,h.hm⟩
end Bo
def nm (lo hi l:Int):Int:=if l=hi then lo else l
theorem zui {R:List (Int × Int × Int)}{L:List Nat}(hu:G.Up R)(g:Good R.length L){x y i:Nat}(hx:x<R.length)(hy:y<R.length)(hi:i<R.length):
 nm (min (Ay R (L.getD x 0)) (Ay R (L.getD y 0))) (max (Ay R (L.getD x 0)) (Ay R (L.getD y 0))) (Ay R (L.getD i 0))=Ay R ((joinL L x y).getD i 0):=by
 have lx:=g.le x hx;have ly:=g.le y hy;have li:=g.le i hi;rw[Hd _ _ _ _ (by rw[g.len];exact hi)];generalize L.getD x 0=X at*;generalize L.getD y 0=Y at*;generalize L.getD i 0=I at*;have MZ:min (Ay R X) (Ay R Y)=Ay R (min X Y):=by
  rcases eP X Y with c|c|c
  ·have:=Jt hu c (by omega);rw[gJ (by omega)];omega
  ·subst c;rw[kY];omega
  ·have:=Jt hu c (by omega);rw[gQ (by omega)];omega
 have GM:max (Ay R X) (Ay R Y)=Ay R (max X Y):=by
  rcases eP X Y with c|c|c
  ·have:=Jt hu c (by omega);rw[lJ (by omega)];omega
  ·subst c;rw[Nat.max_self];omega
  ·have:=Jt hu c (by omega);rw[lN (by omega)];omega
 rw[MZ,GM];unfold nm named;by_cases c:I=max X Y
 ·rw[aP (by rw[c]),aP c]
 ·rw[aL (λ k=>c (Ot hu (by omega) (by omega) k)),aL c]
structure Mid (D:DataW Unit) (R:List (Int × Int × Int)) (L:List Nat) (lo hi:Int) (left:Lit->Bool):Prop where
 key:∀x:Int,Maps.has D x=true↔∃e∈R,e.1=x
 old:∀i e,R[i]? =some e->left (.int .i64 e.1)=true->∀zd,D.atKey (.int .i64 e.1) zd= .lit (.int .i64 (Ay R (L.getD i 0)))
 new:∀i e,R[i]? =some e->left (.int .i64 e.1)=false->∀zd,D.atKey (.int .i64 e.1) zd= .lit (.int .i64 (nm lo hi (Ay R (L.getD i 0))))
theorem Ya {D:DataW Unit}{R:List (Int × Int × Int)}{L:List Nat}(h:Lm D R L)(lo hi:Int):Mid D R L lo hi (Maps.has D):=
 ⟨h.key,λ i e he _=>h.val i e he,λ i e he hl=>by
   rw[(h.key e.1).2 ⟨e,aG he,rfl⟩] at hl;cases hl⟩
theorem mid_end {D:DataW Unit}{R:List (Int × Int × Int)}{L:List Nat}{x y:Nat}{left:Lit->Bool}(hu:G.Up R)(g:Good R.length L)(hx:x<R.length)(hy:y<R.length)
 (h:Mid D R L (min (Ay R (L.getD x 0)) (Ay R (L.getD y 0))) (max (Ay R (L.getD x 0)) (Ay R (L.getD y 0))) left) (hl:∀kl,left kl=false):Lm D R (joinL L x y):=
 ⟨h.key,λ i e he zd=>by
   rw[h.new i e he (hl _) zd,zui hu g hx hy (aC.1 he).1]⟩
theorem Tv (x y:Int):(Lit.int .i64 x).sameKey y=decide (x=y):=by
 by_cases h:x=y
 ·subst h;rw[WideAt.sameKey_self (Cr x)];simp
 ·rw[sameKey_ne (by simpa using h)];simp[h]
theorem vk {R:List (Int × Int × Int)}(hu:G.Up R){i j:Nat}{e f:Int × Int × Int}(hi:R[i]? =some e)(hj:R[j]? =some f)(h:e.1=f.1):i=j/\e=f:=by
 have e1:=Et hi;have e2:=Et hj;have hij:=Ot hu (aC.1 hi).1 (aC.1 hj).1 (by rw[e1,e2,h]);subst hij;rw[hi] at hj;cases hj;exact⟨rfl,rfl⟩
theorem sj {D:DataW Unit}{R:List (Int × Int × Int)}{L:List Nat}{lo hi:Int}{left:Lit->Bool}(hu:G.Up R)(h:Mid D R L lo hi left){i:Nat}{e:Int × Int × Int}(he:R[i]? =some e)(hl:left e.1=true)(l9:Ay R (L.getD i 0)≠hi):
 Mid D R L lo hi (λ z=>left z&&!z.sameKey e.1):=by
 refine⟨h.key,λ j f hf NT zd=>?_,λ j f hf NT zd=>?_⟩
 ·simp only[cZ] at NT
  exact h.old j f hf NT.1 zd
 ·by_cases c:f.1=e.1
  ·obtain⟨rfl,rfl⟩:=vk hu hf he c
   rw[h.old j f hf hl zd];unfold nm;rw[aL l9]
  ·simp only[Tv,c,decide_false,kN,kR] at NT
   exact h.new j f hf NT zd
theorem ym {D:DataW Unit}{R:List (Int × Int × Int)}{L:List Nat}{lo hi:Int}{left:Lit->Bool}(hD:IsMap D)(hu:G.Up R)(h:Mid D R L lo hi left){i:Nat}{e:Int × Int × Int}(he:R[i]? =some e)(heq:Ay R (L.getD i 0)=hi):
 Mid (D.put e.1 (.lit lo)) R L lo hi (λ z=>left z&&!z.sameKey e.1):=by
 refine⟨λ x=>?_,λ j f hf NT zd=>?_,λ j f hf NT zd=>?_⟩
 ·by_cases c:x=e.1
  ·subst c
   rw[has_put_same hD (Cr _)];exact⟨λ _=>⟨e,aG he,rfl⟩,λ _=>rfl⟩
  ·rw[has_put_other (by simpa using c)];exact h.key x
 ·by_cases c:f.1=e.1
  ·simp[Tv,c] at NT
  ·rw[atKey_put_other (by simpa using c)]
   simp only[cZ] at NT;exact h.old j f hf NT.1 zd
 ·by_cases c:f.1=e.1
  ·obtain⟨rfl,rfl⟩:=vk hu hf he c
   rw[atKey_put_same hD (Cr _)];unfold nm;rw[aP heq]
  ·rw[atKey_put_other (by simpa using c)]
   simp only[Tv,c,decide_false,kN,kR] at NT;exact h.new j f hf NT zd
theorem But.next {m r:Nat}{w w1 w2:World}(h:But m w w1)(hr:w<=r)(hg:w1.grownBy w2 (some r)):But m w w2:=
 ⟨hg.os.trans h.os,hg.tape.trans h.tape,hg.output.trans h.output,aD h.size hg.size,λ k hk hn=>(hg.block k (aR hk h.size) (λ e=>by injection e with e;omega)).trans (h.block k hk hn)⟩
theorem But.turned {m:Nat}{w w1 w2:World}(h:But m w w1)(hg:w1.mapTurned w2 m):But m w w2:=
 ⟨hg.grown.os.trans h.os,hg.grown.tape.trans h.tape,hg.grown.output.trans h.output,aD h.size hg.grown.size,λ k hk hn=>(hg.grown.block k (aR hk h.size) (λ e=>by injection e with e;omega)).trans (h.block k hk hn)⟩
theorem Gu (w:World):(zeroValue 3).run prog w= .ok (0:Int) w:=by kernel_rfl
theorem Ju {a b:Int}(h:(DataW.lit a:DataW Unit)= .lit b):a=b:=by
 injection h with h
 injection h
theorem Om {w:World}{m N:Nat}{D:DataW Unit}{R:List (Int × Int × Int)}{L:List Nat}(hm:w.ownsMap prog 3 (plainElem prog 3) m N D)(hl:Lm D R L){i:Nat}{e:Int × Int × Int}(he:R[i]? =some e)(hw:(Lit.int .i64 e.1).wf=true):
 (Instr.lookup 183 (.map m) e.1 false).run prog w= .ok (Ay R (L.getD i 0):Int) w:=by
 obtain⟨c,AQ,q9,_⟩:=hm.lookup_int Bp underlying183 underlying3 (Gu w) (H6 e.1 hw);rw[hl.val i e he] at q9;have:c=Ay R (L.getD i 0):=by
  have h2:=Ju q9;exact h2.symm
 rw[AQ,this]
theorem zge {R:List (Int × Int × Int)}{L:List Nat}{e f:Int × Int × Int}(x y p m N:Nat)(D:DataW Unit)(v:Value)(w:World)(h:Bo w p m N D v)(hl:Lm D R L)(g:Good R.length L)(hu:G.Up R)(hx:R[x]? =some e)(hy:R[y]? =some f)(DD:∀e∈R,0<=e.1/\e.1<=1099511627776):
 Calls prog 249 #[.pointer p,e.1,f.1] w λ en w'=>en= .returned (.tuple #[])/\∃D',Bo w' p m N D' v/\Lm D' R (joinL L x y)/\But m w w':=by
 have hxl:=(aC.1 hx).1;have SA:=(aC.1 hy).1;have GL:∀e∈R,(Lit.int .i64 e.1).wf=true:=λ e he=>Av (DD e he).1 (DD e he).2
 have SB:0<=Ay R (L.getD x 0)/\Ay R (L.getD x 0)<=1099511627776:=by
  have hl:=dS (g.le x hxl) hxl;have:=Et (aB hl);rw[this];exact DD _ (dF hl)
 have hiy:0<=Ay R (L.getD y 0)/\Ay R (L.getD y 0)<=1099511627776:=by
  have hl:=dS (g.le y SA) SA;have:=Et (aB hl);rw[this];exact DD _ (dF hl)
 have lk1:=λ n=>Om (h.drewN n).hm hl hx (GL e (aG hx))
 have lk2:=λ n=>Om (h.drewN n).hm hl hy (GL f (aG hy))
 have FZ:=h.c0;have HB:=kd h;have HL:=kd hl;have IW:Hid (Good R.length L/\G.Up R/\x<R.length/\y<R.length):=⟨g,hu,hxl,SA⟩;have HWF:=kd GL;obtain⟨X,hX⟩:∃X,Ay R (L.getD x 0)=X:=⟨_,rfl⟩;obtain⟨Y,hY⟩:∃Y,Ay R (L.getD y 0)=Y:=⟨_,rfl⟩;rw[hX] at lk1 SB;rw[hY] at lk2 hiy;have CJ:=kd (And.intro hX hY);have HSM:Hid (X=Y->joinL L x y=L):=λ k=>by
  apply Vd;exact Ot hu (dS (g.le x hxl) hxl) (dS (g.le y SA) SA) (by rw[hX,hY];exact k)
 have hwX:(Lit.int .i64 X).wf=true:=Av SB.1 SB.2;have hwY:(Lit.int .i64 Y).wf=true:=Av hiy.1 hiy.2;clear h hl g hu hxl SA GL hX hY DD hx hy;generalize e.1=e1 at*;generalize f.1=f1 at*;by_cases heq:X=Y
 ·subst heq
  go_enter func249,ntmps249;go_wp2_with fail;go_quiet (fail);go_wp2_with fail;refine gH (iK rfl _ _ _) rfl ?_;exact⟨rfl,D,HB.o.drewN _,by rw[HSM.o trivial];exact HL.o,But.of_below (below_drewN (aI _ _) _)⟩
 ·obtain⟨lo,KX⟩:∃lo,min X Y=lo:=⟨_,rfl⟩
  obtain⟨hi,RJ⟩:∃hi,max X Y=hi:=⟨_,rfl⟩;have hwlo:(Lit.int .i64 lo).wf=true:=by
   rcases Int.le_total X Y with c|c
   ·rw[<-KX,Int.min_eq_left c];exact hwX
   ·rw[<-KX,Int.min_eq_right c];exact hwY
  have l9:(lo==hi)=false:=aH.2 (by omega);have OX:Hid (min (Ay R (L.getD x 0)) (Ay R (L.getD y 0))=lo/\max (Ay R (L.getD x 0)) (Ay R (L.getD y 0))=hi):=by
   refine⟨?_,?_⟩ <;> rw[CJ.o.1,CJ.o.2] <;> assumption
  have hmsz:=HB.o.hm.lt;have YC:=HB.o.plt;have YD:=HB.o.ne;rcases jK heq with j6|hgt
  ·obtain⟨rfl,rfl⟩:X=lo/\Y=hi:=by omega
   go_enter func249,ntmps249;go_wp2_with fail;go_quiet (fail);have YE:=kd HB.o.hp;have XG:Hid (Bo (w.drewN nq) p m N D v/\But m w (w.drewN nq)):=⟨HB.o.drewN nq,But.of_below (below_drewN (aI _ _) nq)⟩;have HSZ:Hid ((w.drewN nq).heap.size=w.heap.size):=rfl;generalize w.drewN nq=W at*;have o8:=XG.o.1.hm;have FZ:=XG.o.1.c0;clear lk1 lk2 HB CJ HSM heq;go_wp2_with (first
    |(at_range;refine wpList_range_own _ rfl _ 183 rfl 3 3 Bp underlying183 (plainElem prog 3) m N D rfl o8 ?_;intro w0 JZ ET ZN)
    |fail)
   go_frame
   have FU:=kd JZ;have LZ:Hid (But m w w0):=XG.o.2.trans ⟨ET.os,ET.tape,ET.output,ET.size,λ k hk _=>ET.block k hk (by simp)⟩;clear JZ ET ZN o8 FZ;go_loopw [8] (λ _ wr=>∃(Dc:DataW Unit) (left:Lit->Bool) (cnt:Nat),wr.ranges prog 3 (plainElem prog 3) m W N Dc left cnt/\Mid Dc R L X Y left/\But m w wr) (λ _ wr=>wr.rangeLeft m W)
   case atStart=>exact⟨D,_,_,FU.o,Ya HL.o _ _,LZ.o⟩
   case round=>
    obtain⟨Dc,left,cnt,RQ,VE,hbt⟩:=hrel;have MB:=kd RQ;have VF:=kd VE;have EW:=kd hbt;clear RQ VE hbt FU LZ;go_wp2_with (first
     |(at_next;refine wpList_next_ranges_ii _ rfl _ rfl 3 3 .i64 .i64 Bp underlying3 underlying3 m W.heap.size N Dc left cnt rfl MB.o ?_ ?_)
     |fail)
    ·intro _ JU
     have UO:=kd JU;clear JU;go_wp2
     go_end0
     refine⟨rfl,Dc,⟨?_,MB.o.owns⟩,mid_end IW.o.2.1 IW.o.1 IW.o.2.2.1 IW.o.2.2.2 (by rw[OX.o.1,OX.o.2];exact VF.o) UO.o,EW.o⟩;rw[EW.o.block p YC YD];exact YE.o
    ·intro x1 c w1 cnt1 hwx NA SC q9 EC JP AX EK UQ
     obtain⟨d,hdR,rfl⟩:=(VF.o.key x1).1 (has_true_of_atKey q9);obtain⟨t,ht⟩:=bY hdR;have hc:c=Ay R (L.getD t 0):=by
      have h1:=VF.o.old t d ht SC .nil;rw[q9] at h1;exact Ju h1
     have x8:Hid (But m w w1):=EW.o.next (by rw[HSZ.o];exact aF _) AX;have BZ:=kd (And.intro EC JP);have HLX:=kd SC;have HT:=kd (And.intro ht hc);have o9:=H6 d.1 hwx;have GN:Hid (Maps.has Dc d.1=true):=has_true_of_atKey q9;have WZ:w1.heap[p]? =some (.cells #[.map m,v] 196):=by rw[x8.o.block p YC YD];exact YE.o
     have BV:w1.cell? p=some (.map m):=by simp[World.cell?,WZ]
     clear hwx NA SC q9 EC JP AX EK hdR ht hc WZ;by_cases SE:c=Y
     ·as_aux_lemma=>
      have NW:(c==Y)=true:=bX.2 SE;have HMT:=(show Hid _ from ym BZ.o.1.owns.isMap IW.o.2.1 VF.o HT.o.1 (HT.o.2.symm.trans SE));generalize d.1=x1 at*;clear SE;go_wp2_with (first
       |(at_mapUpdate;refine H5 _ rfl _ _ _ 183 rfl 3 3 Bp underlying183 (plainElem prog 3) m W.heap.size N Dc _ cnt1 rfl BZ.o.1 _ _ _ rfl rfl o9 _ [] (plainElem_int underlying3 hwlo) GN.o ?_;intro w2 VG OY)
       |fail)
      go_frame
      go_roundw;case rel=>exact⟨_,_,cnt1,VG,HMT.o,x8.o.turned OY⟩
      case measure=>rw[VG.left_eq,MB.o.left_eq];exact BZ.o.2
     ·as_aux_lemma=>
      have NW:(c==Y)=false:=aH.2 SE;have HMT:=(show Hid _ from sj IW.o.2.1 VF.o HT.o.1 HLX.o (λ k=>SE (HT.o.2.trans k)));generalize d.1=x1 at*;clear SE;go_wp2_with fail;go_roundw;case rel=>exact⟨_,_,cnt1,BZ.o.1,HMT.o,x8.o⟩
      case measure=>rw[BZ.o.1.left_eq,MB.o.left_eq];exact BZ.o.2
  ·obtain⟨rfl,rfl⟩:Y=lo/\X=hi:=by omega
   go_enter func249,ntmps249;go_wp2_with fail;go_quiet (fail);have YE:=kd HB.o.hp;have XG:Hid (Bo (w.drewN nq) p m N D v/\But m w (w.drewN nq)):=⟨HB.o.drewN nq,But.of_below (below_drewN (aI _ _) nq)⟩;have HSZ:Hid ((w.drewN nq).heap.size=w.heap.size):=rfl;generalize w.drewN nq=W at*;have o8:=XG.o.1.hm;have FZ:=XG.o.1.c0;clear lk1 lk2 HB CJ HSM heq;go_wp2_with (first
    |(at_range;refine wpList_range_own _ rfl _ 183 rfl 3 3 Bp underlying183 (plainElem prog 3) m N D rfl o8 ?_;intro w0 JZ ET ZN)
    |fail)
   go_frame
   have FU:=kd JZ;have LZ:Hid (But m w w0):=XG.o.2.trans ⟨ET.os,ET.tape,ET.output,ET.size,λ k hk _=>ET.block k hk (by simp)⟩;clear JZ ET ZN o8 FZ;go_loopw [8] (λ _ wr=>∃(Dc:DataW Unit) (left:Lit->Bool) (cnt:Nat),wr.ranges prog 3 (plainElem prog 3) m W N Dc left cnt/\Mid Dc R L Y X left/\But m w wr) (λ _ wr=>wr.rangeLeft m W)
   case atStart=>exact⟨D,_,_,FU.o,Ya HL.o _ _,LZ.o⟩
   case round=>
    obtain⟨Dc,left,cnt,RQ,VE,hbt⟩:=hrel;have MB:=kd RQ;have VF:=kd VE;have EW:=kd hbt;clear RQ VE hbt FU LZ;go_wp2_with (first
     |(at_next;refine wpList_next_ranges_ii _ rfl _ rfl 3 3 .i64 .i64 Bp underlying3 underlying3 m W.heap.size N Dc left cnt rfl MB.o ?_ ?_)
     |fail)
    ·intro _ JU
     have UO:=kd JU;clear JU;go_wp2
     go_end0
     refine⟨rfl,Dc,⟨?_,MB.o.owns⟩,mid_end IW.o.2.1 IW.o.1 IW.o.2.2.1 IW.o.2.2.2 (by rw[OX.o.1,OX.o.2];exact VF.o) UO.o,EW.o⟩;rw[EW.o.block p YC YD];exact YE.o
    ·intro x1 c w1 cnt1 hwx NA SC q9 EC JP AX EK UQ
     obtain⟨d,hdR,rfl⟩:=(VF.o.key x1).1 (has_true_of_atKey q9);obtain⟨t,ht⟩:=bY hdR;have hc:c=Ay R (L.getD t 0):=by
      have h1:=VF.o.old t d ht SC .nil;rw[q9] at h1;exact Ju h1
     have x8:Hid (But m w w1):=EW.o.next (by rw[HSZ.o];exact aF _) AX;have BZ:=kd (And.intro EC JP);have HLX:=kd SC;have HT:=kd (And.intro ht hc);have o9:=H6 d.1 hwx;have GN:Hid (Maps.has Dc d.1=true):=has_true_of_atKey q9;have WZ:w1.heap[p]? =some (.cells #[.map m,v] 196):=by rw[x8.o.block p YC YD];exact YE.o
     have BV:w1.cell? p=some (.map m):=by simp[World.cell?,WZ]
     clear hwx NA SC q9 EC JP AX EK hdR ht hc WZ;by_cases SE:c=X
     ·as_aux_lemma=>
      have NW:(c==X)=true:=bX.2 SE;have HMT:=(show Hid _ from ym BZ.o.1.owns.isMap IW.o.2.1 VF.o HT.o.1 (HT.o.2.symm.trans SE));generalize d.1=x1 at*;clear SE;go_wp2_with (first
       |(at_mapUpdate;refine H5 _ rfl _ _ _ 183 rfl 3 3 Bp underlying183 (plainElem prog 3) m W.heap.size N Dc _ cnt1 rfl BZ.o.1 _ _ _ rfl rfl o9 _ [] (plainElem_int underlying3 hwlo) GN.o ?_;intro w2 VG OY)
       |fail)
      go_frame
      go_roundw;case rel=>exact⟨_,_,cnt1,VG,HMT.o,x8.o.turned OY⟩
      case measure=>rw[VG.left_eq,MB.o.left_eq];exact BZ.o.2
     ·as_aux_lemma=>
      have NW:(c==X)=false:=aH.2 SE;have HMT:=(show Hid _ from sj IW.o.2.1 VF.o HT.o.1 HLX.o (λ k=>SE (HT.o.2.trans k)));generalize d.1=x1 at*;clear SE;go_wp2_with fail;go_roundw;case rel=>exact⟨_,_,cnt1,BZ.o.1,HMT.o,x8.o⟩
      case measure=>rw[BZ.o.1.left_eq,MB.o.left_eq];exact BZ.o.2
end Go.Proofs.Y.S
namespace Go.Proofs.Y.S
open Go.RowKit Go.WideMaps Go.Maps Go.Proofs.Tryz
def plc (R:List (Int × Int × Int))(x:Nat):List Nat:=(List.range R.length).filter λ i=>decide (tch (R.getD i (0,0,0)) x)
theorem zam (R:List (Int × Int × Int)):(List.range R.length).map (λ i=>R.getD i (0,0,0))=R:=by
 apply eB
 ·simp
 ·intro i h1 h2
  simp[h2]
theorem zhs {n M:Nat}{R:List (Int × Int × Int)}(h:Ed n M R)(x:Nat):R.filter (G.Oc (x:Int))=(plc R x).map λ i=>R.getD i (0,0,0):=by
 have h1:R.filter (G.Oc (x:Int))=R.filter λ e=>decide (tch e x):=by
  apply dP;intro e he;have hn:=h.nat he;unfold G.Oc;rw[hn.1,hn.2.1,dV];simp only[lV,bX,dO];unfold tch;omega
 rw[h1];unfold plc;conv=>lhs;rw[<-zam R]
 rw[lQ];rfl
theorem Np {R:List (Int × Int × Int)}{x i:Nat}:i∈plc R x↔∃e,R[i]? =some e/\tch e x:=by
 unfold plc;rw[aO,bF,dO];constructor
 ·rintro⟨h1,h2⟩
  refine⟨R[i],aB h1,?_⟩
  simpa[h1] using h2
 ·rintro⟨e,he,ht⟩
  refine⟨(aC.1 he).1,?_⟩;rw[Lf he];exact ht
theorem zrn (R:List (Int × Int × Int))(x:Nat):(plc R x).length<=R.length:=by
 unfold plc;exact aD (aW _ _) (by simp)
theorem zgi (x0:Int)(A E x z:Nat)(w:World)(hz:(if x=A then E else A)=z):
 Calls prog 248 #[.agg #[x0,A,E],x] w λ e w'=>e=z/\Below w w w':=by
 by_cases h:x=A
 ·rw[aP h] at hz
  subst hz h;go_enter func248,ntmps248;go_wp2;go_ret;exact⟨rfl,b_⟩
 ·rw[aL h] at hz
  subst hz;have l9:((x:Int)==(A:Int))=false:=aH.2 (by omega);go_enter func248,ntmps248;go_wp2;go_ret;exact⟨rfl,b_⟩
structure Fm (D:DataW Unit) (R:List (Int × Int × Int)) (ks:List (Nat × Nat)):Prop where
 key:∀z:Nat,Maps.has D z=true↔∃p∈ks,p.1=z
 val:∀p∈ks,∀zd,D.atKey p.1 zd= .lit (Ay R p.2:Int)
 tidy:Tidy D
 size:Maps.size D=ks.length
theorem Fm.start (R:List (Int × Int × Int)):Fm (.map []) R []:=⟨λ z=>by simp[Maps.has],by simp,tidy_empty,rfl⟩
theorem Fm.put {D:DataW Unit}{R:List (Int × Int × Int)}{ks:List (Nat × Nat)}(h:Fm D R ks)(z i:Nat)(AA:∀p∈ks,p.1≠z):Fm (D.put z (.lit (Ay R i:Int))) R (ks++[(z,i)]):=by
 have hnh:Maps.has D z=false:=by
  rw[fG];intro c;obtain⟨p,hp,hpz⟩:=(h.key z).1 c;exact AA p hp hpz
 refine⟨λ y=>?_,λ p hp zd=>?_,h.tidy.put (Cr _) _,?_⟩
 ·by_cases c:y=z
  ·subst c
   rw[has_put_same h.tidy.isMap (Cr _)];exact⟨λ _=>⟨(y,i),by simp,rfl⟩,λ _=>rfl⟩
  ·rw[has_put_other (by simp;omega),h.key]
   constructor
   ·rintro⟨p,hp,hpy⟩;exact⟨p,bE _ hp,hpy⟩
   ·rintro⟨p,hp,hpy⟩
    rcases aK.1 hp with hp|hp
    ·exact⟨p,hp,hpy⟩
    ·rw[aJ.1 hp] at hpy;exact absurd hpy.symm c
 ·rcases aK.1 hp with hp|hp
  ·have:=AA p hp
   rw[atKey_put_other (by simp;omega)];exact h.val p hp zd
  ·rw[aJ.1 hp,atKey_put_same h.tidy.isMap (Cr _)]
 ·rw[size_put h.tidy,hnh,h.size];simp
def Nn (R:List (Int × Int × Int))(x:Nat):Prop:=∃e∈R,∃f∈R,tch e x/\tch f x/\¬cnR (wo R x) (ot e x) (ot f x)
theorem Aa.bk {a b c p q:Nat}{L:List Nat}{w w':World}(h:Aa w p q L)(k:Bk a b c w w')(h1:p≠a/\p≠b/\p≠c)(h2:q≠a/\q≠b/\q≠c):Aa w' p q L:=
 ⟨by rw[k.block p h.plt h1.1 h1.2.1 h1.2.2];exact h.hp,by rw[k.block q h.blt h2.1 h2.2.1 h2.2.2];exact h.hb⟩
theorem zd3 (x n B0 q M p m N:Nat)(u v:Value)(R:List (Int × Int × Int))(L:List Nat)(D:DataW Unit)(w:World)(h:G.GAt w B0 168 61 q (n:Int) u R)(hn:n<=40)(hx:x<n)(AV:Ed n M R)(hM:M<=120)
 (hb:Bo w p m N D v) (hl:Lm D R L) (hs:Bs R x [] L):
 Calls prog 135 #[.pointer p,.pointer q,x] w λ e w'=>∃(k:Nat) (D':DataW Unit) (L':List Nat),e=k/\Bo w' p m N D' v/\Lm D' R L'/\Bs R (x+1) [] L'/\But m w w'/\(1<k↔Nn R x):=by
 have YD:=hb.ne;have hpw:=hb.plt;have hmw:=hb.hm.lt;have hlen:=AV.len;have LW:=zrn R x;have HG:=kd h;have HE:=kd AV;have HB:=kd hb;have HL:=kd hl;have HS:=kd hs;have HID:Hid (∀e∈R,0<=e.1/\e.1<=1099511627776):=λ e he=>by have:=AV.ids e he;omega
 clear h AV hb hl hs;go_enter func135,ntmps135;go_wp2_with fail;refine(G.zt5 (x:Int) (n:Int) B0 q u R w HG.o (by omega) (by omega)).mono ?_;rintro e w1 ⟨v1,rfl,VH,j4⟩;rw[zhs HE.o] at VH;obtain⟨va,vc,hv⟩:=VH.Ap;obtain⟨len,QL⟩:∃len,(plc R x).length=len:=⟨_,rfl⟩;rw[aS,QL] at hv;rw[QL] at LW;subst hv;have EU:=kd QL;have HO1:=kd (And.intro VH j4);clear VH j4 QL;go_wp2_with fail;refine(zq7 x n B0 q M u R w1 (HG.o.below HO1.o.2) hn HE.o hM).mono ?_;rintro e w2 ⟨ps,bs,K,rfl,DJ,hgK,hKx,j5,XA,EI⟩;have hsz1:=HO1.o.2.size;have y5:Hid (Below w w w2):=HO1.o.2.tr j5;have QA:Hid (G.Ad w2 w 61 (.slice va len vc) ((plc R x).map λ i=>R.getD i (0,0,0))):=HO1.o.1.below j5;have LP:Hid (Aa w2 ps bs K/\Good n K/\Kx n R x K):=⟨DJ,hgK,hKx⟩;have hps2:=DJ.plt;have hbs2:=DJ.blt;obtain⟨w3,EX⟩:∃w3,w3=w2.alloc (.map #[] 0):=⟨_,rfl⟩;have y8:Below w2 w2 w3:=by rw[EX];exact b_
 have EJ:w3.ownsMap prog 3 (plainElem (H:=Unit) prog 3) w2 0 (.map []):=by rw[EX];exact World.ownsMap_made w2 _ _ _
 have CY:=kd EX.symm;have AZ:Hid (Below w w w3/\Below w2 w2 w3):=⟨y5.o.tr y8,y8⟩;have HM3:=kd EJ;have hsz2:=y5.o.size;have FC:=@run_makeMap prog;clear DJ hgK hKx j5 EX y8 EJ HO1;go_wp2_with fail;rw[CY.o];clear FC;go_loopw [29] (λ s29 wq=>∃(t N1:Nat) (Dt Df:DataW Unit) (Lt:List Nat) (ks:List (Nat × Nat)),t<=len/\s29=t/\Bo wq p m N Dt v/\Lm Dt R Lt/\Bs R x ((plc R x).take t) Lt/\Gth R x K ((plc R x).take t) ks/\wq.ownsMap prog 3 (plainElem prog 3) w2 N1 Df/\N1<=t/\Fm Df R ks/\Bk m w2 w2 w3 wq) (λ s29 _=>len-(intOf s29).toNat)
 case atStart=>exact⟨0,0,D,.map [],L,[],aN _,rfl,HB.o.below AZ.o.1,HL.o,HS.o,zgc R x K,HM3.o,aF _,Fm.start R,Bk.refl _⟩
 case round=>
  clear HB HL HS HM3;obtain⟨t,N1,Dt,Df,Lt,ks,ht,rfl,BH,QM,hbs',hgth,hmf,hN1,hfm,CG⟩:=hrel;have JI:=kd (And.intro BH QM);have HBS:=kd (And.intro hbs' hgth);have HFM:=kd (And.intro hmf hfm);have VI:=kd CG;clear BH QM hbs' hgth hmf hfm CG;by_cases j6:t<len
  ·obtain⟨i,hi⟩:∃i,(plc R x)[t]? =some i:=⟨_,aB (by rw[EU.o];exact j6)⟩
   obtain⟨e,he,SF⟩:=Np.1 (aG hi);have DU:=HE.o.nat (aG he);have DK:((plc R x).map λ i=>R.getD i (0,0,0))[t]? =some e:=by rw[bJ,hi];simp[he]
   obtain⟨g,EF⟩:∃g,va=some ⟨g,0,none⟩:=by
    rcases QA.o.shape with⟨_,k⟩|⟨g,cap,k,_⟩
    ·rw[k] at DK;simp at DK
    ·injection k with e1 _ _
     exact⟨g,e1⟩
   subst EF;have hO3:=QA.o.below AZ.o.2;obtain⟨r0,r1,r2⟩:=hO3.at (g:=g) rfl DK;have hgb:=aU QA.o g rfl;have q0:=VI.o.cell r0 (by omega) (by omega) (by omega);have q1:=VI.o.cell r1 (by omega) (by omega) (by omega);have q2:=VI.o.cell r2 (by omega) (by omega) (by omega);rw[DU.1] at q1;rw[DU.2.1] at q2;have UU:Hid ((plc R x).take (t+1)=(plc R x).take t++[i]):=by
    show(plc R x).take (t+1)=_;rw[bL,hi];rfl
   have VJ:=kd (And.intro he SF);obtain⟨z,hz⟩:∃z,(if x=ea e then eb e else ea e)=z:=⟨_,rfl⟩;have hzn:z<n:=by rw[<-hz];have:=DU.2.2;split <;> omega
   obtain⟨k,hk⟩:∃k,K.getD z 0=k:=⟨_,rfl⟩;have HLB:Hid (lb R x K i=k):=by
    show lb R x K i=k;unfold lb ot;rw[Lf he,hz,hk]
   have hkn:k<n:=by rw[<-hk];exact dS (LP.o.2.1.le z hzn) hzn
   have hidw:=HE.o.ids e (aG he);have hwid0:(Lit.int .i64 e.1).wf=true:=Av hidw.1 (by omega);have o9:=H6 (k:Int) (Av (by omega) (by omega));obtain⟨x0,ER⟩:∃x0,e.1=x0:=⟨_,rfl⟩;obtain⟨A,hA⟩:∃A,ea e=A:=⟨_,rfl⟩;obtain⟨E,hE⟩:∃E,eb e=E:=⟨_,rfl⟩;have HXE:=kd ER.symm;rw[hA,hE] at hz;have HZ:=kd (And.intro hz hk);have VK:(Lit.int .i64 x0).wf=true:=by rw[<-ER];exact hwid0
   rw[ER] at q0;rw[hA] at q1;rw[hE] at q2;obtain⟨W1,AJ⟩:∃W1,W1=wr.alloc (.cells #[x0,A,E] 61):=⟨_,rfl⟩;have hh:W1.heap[wr.heap.size]? =some (.cells #[x0,A,E] 61):=by rw[AJ];exact aQ wr _
   have BK:Below wr wr W1:=by rw[AJ];exact b_
   have CX:=kd (And.intro hh BK);have p0:W1.cell? wr=x0:=by simp[World.cell?,hh]
   have p1:W1.cell? (wr,1)=A:=by simp[World.cell?,hh]
   have p2:W1.cell? (wr,2)=E:=by simp[World.cell?,hh]
   have BQ:=kd AJ.symm;have hwr1:wr.heap.size<W1.heap.size:=lt_of_some hh;have VL:=VI.o.size;have YF:=AZ.o.2.size;clear hi he SF DU DK hO3 r0 r1 r2 hz hk hh AJ BK hidw ER hA hE hwid0;go_wp2_with fail;rw[BQ.o];refine(zgi x0 A E x z W1 HZ.o.1).mono ?_;rintro e' w4 ⟨rfl,BB⟩;have EP:Hid (Below W1 W1 w4/\Below wr wr w4):=⟨BB,CX.o.2.tr BB⟩;clear BB p0 p1 p2;go_wp2_with fail;refine(zcd z ps bs K w4 ((LP.o.1.below AZ.o.2 hps2 hbs2 |>.bk VI.o (by omega) (by omega)).below EP.o.2 (by omega) (by omega)) LP.o.2.1 hzn HZ.o.2).mono ?_;rintro e' w5 ⟨rfl,CV⟩;have OZ:Hid (Below wr wr w5):=EP.o.2.tr CV;have hh5:w5.heap[wr.heap.size]? =some (.cells #[x0,A,E] 61):=by
    rw[CV.block _ (aR hwr1 EP.o.1.size),EP.o.1.block _ hwr1];exact CX.o.1
   have p0:w5.cell? wr=x0:=by simp[World.cell?,hh5]
   have o8:w5.ownsMap prog 3 (plainElem prog 3) w2 N1 Df:=HFM.o.1.kept (row:=none) ⟨OZ.o.os,OZ.o.tape,OZ.o.output,OZ.o.size,λ k hk _=>OZ.o.block k hk⟩ (by simp);have YG:Hid (Bo w5 p m N Dt v):=JI.o.1.below OZ.o;have HBK5:Hid (Bk m w2 w2 w3 w5):=VI.o.trans (Bk.of_below OZ.o);clear CV hh5 EP CX BQ hwr1;by_cases hc:∃pq∈ks,pq.1=k
   ·as_aux_lemma=>
    obtain⟨⟨k',j⟩,EO,hk'⟩:=hc;simp only at hk';subst hk';have hj:=HBS.o.2.at_ _ EO;simp only at hj;obtain⟨f,hf,XH⟩:=Np.1 (dB hj.1);have JM:Maps.has Df k'=true:=(HFM.o.2.key k').2 ⟨_,EO,rfl⟩;have JO:=HFM.o.2.val _ EO (.lit (0:Int));simp only at JO;rw[Et hf] at JO;have NB:=kd JO;have hrx:Rx R x j i:=(zoa LP.o.2.2 HE.o.inn hf VJ.o.1 XH VJ.o.2).2 (by rw[hj.2,HLB.o]);have GK:Hid (Bs R x ((plc R x).take (t+1)) (joinL Lt j i)/\Gth R x K ((plc R x).take (t+1)) ks):=by
     rw[UU.o];exact⟨zpu HBS.o.1 hj.1 hrx,zpc HBS.o.2 EO HLB.o.symm⟩
    have HF:=kd hf;have GN:=kd JM;clear hj hf XH JM JO hrx EO;go_wp2_with (first
     |(at_lookup;refine wpList_lookup_own_ok_int _ rfl _ _ 183 rfl 3 3 .i64 Bp underlying183 underlying3 (Gu _) w2.heap.size N1 Df rfl o8 _ _ rfl o9 ?_;intro c q9 NA;rw[NB.o] at q9;obtain rfl:=Ju q9;rw[GN.o];clear q9 NA)
     |fail)
    rw[HXE.o];refine(zge j i p m N Dt v w5 YG.o JI.o.2 HBS.o.1.good HE.o.up HF.o VJ.o.1 HID.o).mono ?_;rintro e' w6 ⟨rfl,D6,FJ,hl6,hk6⟩;have hm6:w6.ownsMap prog 3 (plainElem prog 3) w2 N1 Df:=o8.kept (row:=some m) ⟨hk6.os,hk6.tape,hk6.output,hk6.size,λ k hk hn=>hk6.block k hk (λ c=>hn (by rw[c]))⟩ (by simp;omega);have YH:Hid (Bo w6 p m N D6 v/\Lm D6 R (joinL Lt j i)/\w6.ownsMap prog 3 (plainElem prog 3) w2 N1 Df/\Bk m w2 w2 w3 w6):=⟨FJ,hl6,hm6,HBK5.o.trans (Bk.zsj hk6)⟩;clear FJ hl6 hk6 hm6 o8 p0;go_wp2_with fail;go_roundw;case rel=>exact⟨t+1,N1,D6,Df,joinL Lt j i,ks,by omega,by go_num,YH.o.1,YH.o.2.1,GK.o.1,GK.o.2,YH.o.2.2.1,by omega,HFM.o.2,YH.o.2.2.2⟩
    case measure=>simp[intOf];omega
   ·as_aux_lemma=>
    have AA:∀pq∈ks,pq.1≠k:=λ pq hp c=>hc ⟨pq,hp,c⟩
    have JM:Maps.has Df k=false:=by
     rw[fG];intro c;obtain⟨pq,hp,TS⟩:=(HFM.o.2.key k).1 c;exact AA pq hp TS
    have GN:=kd JM;have NB:Hid (Df.atKey k (.lit (0:Int))= .lit (0:Int)):=atKey_of_not_has JM _;have GK:Hid (Bs R x ((plc R x).take (t+1)) Lt/\Gth R x K ((plc R x).take (t+1)) (ks++[(k,i)])/\Fm (Df.put k (.lit x0)) R (ks++[(k,i)])):=by
     rw[UU.o];refine⟨zsi HBS.o.1 (λ j hj hr=>?_),?_,?_⟩
     ·obtain⟨f,hf,XH⟩:=Np.1 (dB hj)
      obtain⟨pq,hp,TS⟩:=HBS.o.2.all j hj;refine AA pq hp ?_;rw[TS,(zoa LP.o.2.2 HE.o.inn hf VJ.o.1 XH VJ.o.2).1 hr,HLB.o]
     ·have:=zqa (i:=i) HBS.o.2 (λ pq hp=>by rw[HLB.o];exact AA pq hp)
      rw[HLB.o] at this;exact this
     ·have:=HFM.o.2.put k i AA
      rw[Et VJ.o.1,<-HXE.o] at this;exact this
    have hNm:N1<maxLen:=by unfold maxLen;omega
    clear hc AA JM;go_wp2_with (first
     |(at_lookup;refine wpList_lookup_own_ok_int _ rfl _ _ 183 rfl 3 3 .i64 Bp underlying183 underlying3 (Gu _) w2.heap.size N1 Df rfl o8 _ _ rfl o9 ?_;intro c q9 NA;rw[NB.o] at q9;obtain rfl:=Ju q9;rw[GN.o];clear q9 NA)
     |(at_mapUpdate;refine wpList_mapUpdate_own _ rfl _ _ _ 183 rfl 3 3 Bp underlying183 (plainElem prog 3) w2.heap.size N1 Df rfl o8 hNm _ _ _ rfl rfl o9 _ [] (plainElem_int underlying3 VK) ?_;intro w6 GZ BC)
     |fail)
    go_roundw;case rel=>exact⟨t+1,N1+1,Dt,_,Lt,ks++[(k,i)],by omega,by go_num,⟨by rw[BC.block p YG.o.plt (by simp;omega)];exact YG.o.hp,YG.o.hm.kept BC (by simp;omega)⟩,JI.o.2,GK.o.1,GK.o.2.1,GZ,by omega,GK.o.2.2,HBK5.o.trans (Bk.zlu BC)⟩
    case measure=>simp[intOf];omega
  ·have SF:t=len:=by omega
   subst SF;have PY:(plc R x).take t=plc R x:=by rw[<-EU.o];exact bK
   have YI:=HBS.o;rw[PY] at YI;have HBS9:Hid (Bs R (x+1) [] Lt):=zrb YI.1 (λ i e he ht=>Np.2 ⟨e,he,ht⟩);have NC:Hid (1<ks.length↔Nn R x):=zoy YI.2 LP.o.2.2 HE.o.inn (λ i=>Np);have EW:Hid (But m w wr):=⟨VI.o.os.trans AZ.o.1.os,VI.o.tape.trans AZ.o.1.tape,VI.o.output.trans AZ.o.1.output,aD AZ.o.1.size VI.o.size,λ k hk hn=>(VI.o.block k (by have:=AZ.o.1.size;omega) hn (by omega) (by omega)).trans (AZ.o.1.block k hk)⟩;have o8:=HFM.o.1;have BS:=HFM.o.2.size;have HSZ:=kd BS;clear PY YI BS;go_wp2_with (first
    |(at_len;refine wpList_len_own _ rfl _ 183 rfl 3 3 underlying183 (plainElem prog 3) w2.heap.size N1 Df rfl o8 ?_)
    |fail)
   go_ret;exact⟨ks.length,Dt,Lt,by rw[HSZ.o];rfl,JI.o.1,JI.o.2,HBS9.o,EW.o,NC.o⟩
theorem Lm.start:Lm (.map []) [] []:=⟨λ x=>by simp[Maps.has],λ i e h=>by simp at h⟩
theorem Lm.snoc {D:DataW Unit}{R:List (Int × Int × Int)}{k:Nat}{e:Int × Int × Int}(hu:G.Up R)(hD:IsMap D)(h:Lm D (R.take k) (List.range k))(he:R[k]? =some e):
 Lm (D.put e.1 (.lit e.1)) (R.take (k+1)) (List.range (k+1)):=by
 have hk:k<R.length:=(aC.1 he).1;have ht:R.take (k+1)=R.take k++[e]:=by rw[bL,he];rfl
 have l9:∀i f,i<k->R[i]? =some f->f.1≠e.1:=λ i f hi hf c=>by
  have:=(vk hu hf he c).1;omega
 refine⟨λ x=>?_,λ i f hf zd=>?_⟩
 ·by_cases c:x=e.1
  ·subst c
   rw[has_put_same hD (Cr _)];exact⟨λ _=>⟨e,by rw[ht];simp,rfl⟩,λ _=>rfl⟩
  ·rw[has_put_other (by simpa using c),h.key]
   constructor
   ·rintro⟨f,hf,hx⟩;exact⟨f,by rw[ht];exact bE _ hf,hx⟩
   ·rintro⟨f,hf,hx⟩
    rw[ht] at hf;rcases aK.1 hf with hf|hf
    ·exact⟨f,hf,hx⟩
    ·rw[aJ.1 hf] at hx;exact absurd hx.symm c
 ·have hi:i<k+1:=by have:=(aC.1 hf).1;simp at this;omega
  rw[dY,aP hi] at hf;have DD:Ay (R.take (k+1)) ((List.range (k+1)).getD i 0)=f.1:=by
   have e1:(List.range (k+1)).getD i 0=i:=by simp[hi]
   rw[e1];apply Et;rw[dY,aP hi];exact hf
  rw[DD];by_cases c:i=k
  ·subst c
   rw[he] at hf;cases hf;rw[atKey_put_same hD (Cr _)]
  ·have LQ:i<k:=by omega
   rw[atKey_put_other (by simpa using l9 i f LQ hf)];have hf':(R.take k)[i]? =some f:=by rw[dY,aP LQ];exact hf
   rw[h.val i f hf' zd];have e2:(List.range k).getD i 0=i:=by simp[LQ]
   rw[e2,Et hf']
structure Dq (R:List (Int × Int × Int)) (x:Nat) (cs:List Nat):Prop where
 up:cs.Pairwise (·<·)
 mem:∀y,y∈cs↔y<x/\Nn R y
theorem Dq.start (R:List (Int × Int × Int)):Dq R 0 []:=⟨.nil,λ y=>by simp⟩
theorem Dq.yes {R:List (Int × Int × Int)}{x:Nat}{cs:List Nat}(h:Dq R x cs)(hc:Nn R x):Dq R (x+1) (cs++[x]):=by
 refine⟨?_,λ y=>?_⟩
 ·rw[iZ]
  exact⟨h.up,gV _ _,λ a ha b hb=>by rw[aJ.1 hb];exact((h.mem a).1 ha).1⟩
 ·rw[aK,h.mem,aJ]
  constructor
  ·rintro(⟨h1,h2⟩|rfl)
   ·exact⟨by omega,h2⟩
   ·exact⟨by omega,hc⟩
  ·rintro⟨h1,h2⟩
   by_cases c:y=x
   ·exact .inr c
   ·exact .inl ⟨by omega,h2⟩
theorem Dq.no {R:List (Int × Int × Int)}{x:Nat}{cs:List Nat}(h:Dq R x cs)(hc:¬Nn R x):Dq R (x+1) cs:=by
 refine⟨h.up,λ y=>?_⟩;rw[h.mem];constructor
 ·rintro⟨h1,h2⟩;exact⟨by omega,h2⟩
 ·rintro⟨h1,h2⟩
  by_cases c:y=x
  ·subst c;exact absurd h2 hc
  ·exact⟨by omega,h2⟩
theorem aj:∀(cs:List Nat) (lo x:Nat),cs.Pairwise (·<·)->(∀y∈cs,lo<=y/\y<x)->cs.length<=x-lo
 |[],_,_,_,_=>by simp
 |a::cs,lo,x,hp,hm=>by
  have h1:=iJ.1 hp;have ha:=hm a (by simp);have:=aj cs (a+1) x h1.2 (λ y hy=>⟨h1.1 y hy,(hm y (bS _ hy)).2⟩);simp;omega
theorem Dq.len {R:List (Int × Int × Int)}{x:Nat}{cs:List Nat}(h:Dq R x cs):cs.length<=x:=by
 have:=aj cs 0 x h.up (λ y hy=>⟨aN _,((h.mem y).1 hy).1⟩);omega
def Cy (l:List Nat):List Value:=l.map λ x:Nat=>.int .i64 (x:Int)
theorem zpe {w w':World}{B0 gT eT q m:Nat}{n:Int}{u:Value}{L:List (Int × Int × Int)}(h:G.GAt w B0 gT eT q n u L)(k:But m w w')(hm:∃es c,w.heap[m]? =some (.map es c)):G.GAt w' B0 gT eT q n u L:=by
 obtain⟨es,c,hm⟩:=hm;refine⟨?_,⟨h.row.1,?_⟩,h.ne⟩
 ·rw[k.block q h.plt (by rintro rfl;have:=h.hp.symm.trans hm;simp at this)];exact h.hp
 ·rcases h.row.2 with hn|⟨g,cap,cur,rfl,hB,hg,rest⟩
  ·exact .inl hn
  ·refine .inr ⟨g,cap,cur,rfl,hB,?_,rest⟩
   rw[k.block g (lt_of_some hg) (by rintro rfl;have:=hg.symm.trans hm;simp at this)];exact hg
theorem zf4 {w:World}{base e s:Nat}{v:Value}{n:Nat}{xs:List Value}(h:w.ownsRow base e s v n xs):∃a c,v= .slice a n c:=by
 rcases h.2 with⟨rfl,rfl⟩|⟨g,cap,cur,rfl,_⟩
 ·exact⟨none,0,rfl⟩
 ·exact⟨_,cap,rfl⟩
theorem Bo.store {w:World}{p m N:Nat}{D:DataW Unit}{v:Value}(h:Bo w p m N D v)(v':Value):Bo (w.setCell (p,1) v') p m N D v':=by
 refine⟨?_,h.hm.setCell (Ne.symm h.ne) _⟩;simp only[World.setCell,dC,h.hp];simp
theorem zqj {w w':World}{B0 gT q base k:Nat}{n:Int}{u v:Value}{L:List (Int × Int × Int)}{xs:List Value}(h:G.GAt w B0 gT 61 q n u L)(hg:w.grownBy w' v.ownBlock)(hr:w.ownsRow base 3 1 v k xs)(hgT:gT≠3:=by decide):G.GAt w' B0 gT 61 q n u L:=by
 have l9:∀g cur t,w.heap[g]? =some (.cells cur t)->t≠3->some g≠v.ownBlock:=by
  intro g cur t hc ht he;rcases hr.2 with⟨rfl,_⟩|⟨g',cap,cur',rfl,_,hg',_⟩
  ·simp[Value.ownBlock] at he
  ·simp only[Value.ownBlock,jP] at he
   subst he;rw[hc] at hg';injection hg' with hg'
   injection hg' with _ hg' _
   exact ht hg'
 refine⟨?_,⟨h.row.1,?_⟩,h.ne⟩
 ·rw[hg.block q h.plt (l9 q _ gT h.hp hgT)];exact h.hp
 ·rcases h.row.2 with hn|⟨g,cap,cur,rfl,hB,hg',rest⟩
  ·exact .inl hn
  ·refine .inr ⟨g,cap,cur,rfl,hB,?_,rest⟩
   rw[hg.block g (lt_of_some hg') (l9 g _ 61 hg' (by decide))];exact hg'
theorem gat_but' {w w':World}{B0 q p:Nat}{n:Int}{u:Value}{L:List (Int × Int × Int)}{cs:Array Value}(h:G.GAt w B0 168 61 q n u L)(k:But p w w')(hp:w.heap[p]? =some (.cells cs 196)):G.GAt w' B0 168 61 q n u L:=by
 refine⟨?_,⟨h.row.1,?_⟩,h.ne⟩
 ·rw[k.block q h.plt (by rintro rfl;have:=h.hp.symm.trans hp;simp at this)];exact h.hp
 ·rcases h.row.2 with hn|⟨g,cap,cur,rfl,hB,hg,rest⟩
  ·exact .inl hn
  ·refine .inr ⟨g,cap,cur,rfl,hB,?_,rest⟩
   rw[k.block g (lt_of_some hg) (by rintro rfl;have:=hg.symm.trans hp;simp at this)];exact hg
def zse (R:List (Int × Int × Int))(n:Nat)(w:World)(e:Ending)(w':World):Prop:=
 ∃(p m N:Nat) (D:DataW Unit) (v:Value) (L cs:List Nat),e=Value.pointer p/\Bo w' p m N D v/\N<=120/\Lm D R L/\Bs R n [] L/\Dq R n cs/\w'.ownsRow w 3 1 v cs.length (Cy cs)/\Below w w w'
theorem zbi (n B0 q M:Nat)(u:Value)(R:List (Int × Int × Int))(w:World)(h:G.GAt w B0 168 61 q (n:Int) u R)(hn:n<=40)(AV:Ed n M R)(hM:M<=120):
 Calls prog 79 #[.pointer q] w (zse R n w):=by
 have hlen:=AV.len;have HG:=kd h;have HE:=kd AV;have FC:=@run_makeMap prog;obtain⟨w1,AR⟩:∃w1,w1=(w.alloc (.map #[] 0)).alloc (.cells #[.map w,.slice none 0 0] 196):=⟨_,rfl⟩;have j4:Below w w w1:=by rw[AR];exact(b_).alloc (by simp) _
 have hbl1:Bo w1 (w+1) w 0 (.map []) (.slice none 0 0):=by
  rw[AR];refine⟨?_,(World.ownsMap_made w _ _ _).alloc _⟩;have:=aQ (w.alloc (.map #[] 0)) (.cells #[.map w,.slice none 0 0] 196);rw[aT] at this;exact this
 have BQ:=kd AR.symm;have YJ:=kd (And.intro hbl1 j4);have PD:=hbl1.plt;clear h AV AR j4 hbl1;go_enter func79,ntmps79;go_wp2_with fail;rw[BQ.o];refine(G.Dv (n:Int) B0 q u R w1 (HG.o.below YJ.o.2) (by omega)).mono ?_;rintro e w2 ⟨vr,rfl,ho,j5⟩;obtain⟨len,hm⟩:∃len,R.length=len:=⟨_,rfl⟩;have EU:=kd hm;obtain⟨va,vc,hv⟩:=ho.Ap;rw[hm] at hv hlen;subst hv;have HO:=kd ho;have YK:Hid (Bo w2 (w+1) w 0 (.map []) (.slice none 0 0)/\Below w w w2):=⟨YJ.o.1.below j5,YJ.o.2.tr j5⟩;have hw2s:=j5.size;clear ho j5 hm FC;go_wp2_with fail;go_loopw [13] (λ s13 wq=>∃(j:Nat) (Dj:DataW Unit),j<=len/\s13=j/\Bo wq (w+1) w j Dj (.slice none 0 0)/\Lm Dj (R.take j) (List.range j)/\But w w2 wq) (λ s13 _=>len-(intOf s13).toNat)
 case atStart=>exact⟨0,_,aN _,rfl,YK.o.1,Lm.start,But.refl _ _⟩
 case round=>
  obtain⟨j,Dj,hj,rfl,BH,QM,hbt⟩:=hrel;have JI:Hid (Bo wr (w+1) w j Dj (.slice none 0 0)/\Lm Dj (R.take j) (List.range j)/\But w w2 wr):=⟨BH,QM,hbt⟩;clear BH QM hbt;by_cases j6:j<len
  ·obtain⟨e,hx⟩:∃e,R[j]? =some e:=⟨_,aB (by rw[EU.o];exact j6)⟩
   have DU:=HE.o.nat (aG hx);have LF:=HE.o.ids e (aG hx);obtain⟨g,EF⟩:∃g,va=some ⟨g,0,none⟩:=by
    rcases HO.o.shape with⟨_,k⟩|⟨g,cap,k,_⟩
    ·rw[k] at hx;simp at hx
    ·injection k with e1 _ _
     exact⟨g,e1⟩
   subst EF;obtain⟨r0,r1,r2⟩:=HO.o.at (g:=g) rfl hx;have hgb:=aU HO.o g rfl;have q0:=JI.o.2.2.cell r0 (by omega);have q1:=JI.o.2.2.cell r1 (by omega);have q2:=JI.o.2.2.cell r2 (by omega);have HLM:Hid (Lm (Dj.put e.1 (.lit e.1)) (R.take (j+1)) (List.range (j+1))):=Lm.snoc HE.o.up JI.o.1.hm.isMap JI.o.2.1 hx;have VK:(Lit.int .i64 e.1).wf=true:=Av LF.1 (by omega);generalize e.1=x0 at*;generalize e.2.1=x1 at*;generalize e.2.2=x2 at*;obtain⟨W1,AJ⟩:∃W1,W1=wr.alloc (.cells #[x0,x1,x2] 61):=⟨_,rfl⟩;have hh:W1.heap[wr.heap.size]? =some (.cells #[x0,x1,x2] 61):=by rw[AJ];exact aQ wr _
   have BK:Below wr wr W1:=by rw[AJ];exact b_
   have p0:W1.drew.cell? wr=x0:=by
    show W1.cell? wr=_;simp[World.cell?,hh]
   have VM:=JI.o.1.below BK;have c0:W1.drew.cell? (w.heap.size+1:Nat)=some (.map w):=VM.c0;obtain⟨W2,JD,z8,PE⟩:=World.ownsMap.update (w:=W1.drew) (VM.hm) Bp underlying183 (by unfold maxLen;omega) (H6 x0 VK) (plainElem_int underlying3 VK);have CB:Hid (Bo W2 (w+1) w (j+1) (Dj.put x0 (.lit x0)) (.slice none 0 0)/\But w w2 W2):=
    ⟨⟨(PE.block _ VM.plt (by simp)).trans VM.hp,z8⟩,(JI.o.2.2.trans (But.of_below BK)).trans ⟨PE.os,PE.tape,PE.output,PE.size,λ k hk hn=>PE.block k hk (λ c=>hn (by injection c))⟩⟩
   have BQ:=kd AJ.symm;clear hx DU LF r0 r1 r2 AJ hh BK VM z8 PE VK JI;go_upto_region 5 with fail
   rw[BQ.o];go_region
   all_goals
    go_wp2_with fail;go_roundw;case rel=>exact⟨j+1,_,by omega,by go_num,CB.o.1,HLM.o,CB.o.2⟩
    case measure=>simp[intOf];omega
  ·have CE:j=len:=by omega
   subst CE;have PY:R.take j=R:=aZ (by rw[EU.o];exact aF _);have VN:=JI.o;rw[PY] at VN;have hBt:Below w w wr:=YK.o.2.trans (VN.2.2.below (aF _) YK.o.2.size);have HF:Hid (Bo wr (w+1) w j Dj (.slice none 0 0)/\Lm Dj R (List.range R.length)/\Below w w wr/\G.GAt wr B0 168 61 q (n:Int) u R):=⟨VN.1,by rw[EU.o];exact VN.2.1,hBt,HG.o.below hBt⟩;obtain⟨i0,GJ,BR,BU,BM⟩:=info_parts Tryz.info3;clear PY VN hBt JI YK HO YJ BQ;generalize wr=W0 at*;go_wp2_with fail;refine(G.Cg (n:Int) B0 q u R W0 HF.o.2.2.2).mono ?_;rintro e w3 ⟨rfl,EX⟩;subst EX;go_wp2_with fail;go_loopw [28] (λ s28 wq=>∃(x:Nat) (Dx:DataW Unit) (Lx cs:List Nat) (v:Value),x<=n/\Dq R x cs/\s28=x/\G.GAt wq B0 168 61 q (n:Int) u R/\Bo wq (w+1) w j Dx v/\Lm Dx R Lx/\Bs R x [] Lx/\wq.ownsRow w 3 1 v cs.length (Cy cs)/\v.ownBlock≠some (w.heap.size+1)/\v.ownBlock≠some w.heap.size/\Below w w wq) (λ s28 _=>n-(intOf s28).toNat)
   case atStart=>exact⟨0,Dj,_,[],_,aN _,Dq.start R,rfl,HF.o.2.2.2,HF.o.1,HF.o.2.1,zkh R,aX _ _ _ _,by simp[Value.ownBlock],by simp[Value.ownBlock],HF.o.2.2.1⟩
   case round=>
    clear HF;obtain⟨x,Dx,Lx,cs,v,hx,KC,rfl,hgx,BF,SC,VO,hox,XK,ZH,hBx⟩:=hrel;have HX:Hid (G.GAt wr B0 168 61 q (n:Int) u R/\Bo wr (w+1) w j Dx v/\Lm Dx R Lx/\Bs R x [] Lx):=⟨hgx,BF,SC,VO⟩;have YL:Hid (wr.ownsRow w 3 1 v cs.length (Cy cs)/\v.ownBlock≠some (w.heap.size+1)/\v.ownBlock≠some w.heap.size/\Below w w wr):=⟨hox,XK,ZH,hBx⟩;have TT:=kd KC;clear hgx BF SC VO hox XK ZH hBx KC;by_cases XL:x<n
    ·go_wp2_with fail
     refine(zd3 x n B0 q M _ _ j u v R Lx Dx wr HX.o.1 hn XL HE.o hM HX.o.2.1 HX.o.2.2.1 HX.o.2.2.2).mono ?_;rintro e w4 ⟨k,D4,L4,rfl,BB,hl4,hs4,MG,hcut4⟩;have KQ:=zpe HX.o.1 MG (by obtain⟨es,c,hb,_⟩:=HX.o.2.1.hm;exact⟨es,c,hb⟩);have hgr4:wr.grownBy w4 (some w.heap.size):=⟨MG.os,MG.tape,MG.output,MG.size,λ i hi l9=>MG.block i hi (λ c=>l9 (by rw[c]))⟩;have GX:=YL.o.1.kept hgr4 (.inr YL.o.2.2.1);have hB4:Below w w w4:=YL.o.2.2.2.trans (MG.below (aF _) YL.o.2.2.2.size);have H4:Hid (G.GAt w4 B0 168 61 q (n:Int) u R/\Bo w4 (w+1) w j D4 v/\Lm D4 R L4/\Bs R (x+1) [] L4/\Below w w w4):=⟨KQ,BB,hl4,hs4,hB4⟩;have HOV:=kd (And.intro YL.o.2.1 YL.o.2.2.1);have NC:=kd hcut4;clear MG hcut4 KQ hgr4 hl4 hs4 HX YL;by_cases GH:1<k
     ·as_aux_lemma=>
      have HC:Hid (Dq R (x+1) (cs++[x])):=TT.o.yes (NC.o.1 GH);have GV:=TT.o.len;have BV:=BB.c1;have LW:=BB.plt;have BS:=hB4.size;have HFZ:Hid (∀w',(w4.alloc (.cells #[x] 3)).grownBy w' v.ownBlock->w'.heap[w.heap.size+1]? =some (.cells #[.map w,v] 196)):=λ w' hg=>by
       rw[hg.block _ (by simp;omega) (λ c=>HOV.o.1 c.symm),bG _ _ _ LW];exact BB.hp
      have WX:=kd GX;clear BB hB4 NC;go_wp2_with (first
       |(at_builtin;refine wpList_append_own_at _ rfl _ _ 48 rfl w.heap.size 3 i0 (0:Int) 1 8 underlying48 GJ BR BU BM rfl (by decide) v _ _ rfl (GX.alloc _) w4 1 1 [x] rfl rfl (cell_one_new _ _ _) (ints_oneCell .i64 [(x:Int)]) (by unfold maxLen;omega) (by omega) (by simp;omega) ?_;intro v5 w5 BA AL QN IA;obtain⟨a5,c5,rfl⟩:=zf4 BA;have hp5:=HFZ.o w5 AL;have hf5:w5.frozen? (w.heap.size+1,1)=false:=(by simp[World.frozen?,hp5]);have hc5:w5.cell? (w.heap.size+1,1)=some v:=(by simp[World.cell?,hp5]))
       |fail)
      have hbl5:Bo w5 (w+1) w j D4 v:=⟨hp5,(H4.o.2.1.hm.alloc _).kept AL (λ c=>HOV.o.2 c.symm)⟩;have YM:G.GAt w5 B0 168 61 q (n:Int) u R:=zqj (H4.o.1.below (b_)) AL (WX.o.alloc _);have hB5:Below w w w5:=(H4.o.2.2.2.2.trans ((b_).mono H4.o.2.2.2.2.size)).grown AL (by simp;omega) (λ i hi=>(aU WX.o i hi).1);have hne5:(Value.slice a5 (cs.length+1) c5).ownBlock≠some (w.heap.size+1)/\(Value.slice a5 (cs.length+1) c5).ownBlock≠some w.heap.size:=by
       rcases IA with c|c
       ·rw[c];exact HOV.o
       ·rw[c];refine⟨?_,?_⟩ <;> simp <;> omega
      have hbt:But (w+1) w5 (w5.setCell (w.heap.size+1,1) (.slice a5 (cs.length+1) c5)):=(But.refl _ _).setCell _ _;have YH:Hid (G.GAt (w5.setCell (w.heap.size+1,1) (.slice a5 (cs.length+1) c5)) B0 168 61 q (n:Int) u R/\Bo (w5.setCell (w.heap.size+1,1) (.slice a5 (cs.length+1) c5)) (w+1) w j D4 (.slice a5 (cs.length+1) c5)/\(w5.setCell (w.heap.size+1,1) (.slice a5 (cs.length+1) c5)).ownsRow w 3 1 (.slice a5 (cs.length+1) c5) (cs++[x]).length (Cy (cs++[x]))/\Below w w (w5.setCell (w.heap.size+1,1) (.slice a5 (cs.length+1) c5))):=by
       refine⟨gat_but' YM hbt hp5,hbl5.store _,?_,hB5.trans (hbt.below (by omega) hB5.size)⟩;have:=BA.kept (w':=w5.setCell (w.heap.size+1,1) (.slice a5 (cs.length+1) c5)) (row:=some (w.heap.size+1)) ⟨hbt.os,hbt.tape,hbt.output,hbt.size,λ i hi l9=>hbt.block i hi (λ c=>l9 (by rw[c]))⟩ (.inr hne5.1)
       simpa[Cy] using this
      have NS:=kd hne5;clear hbl5 YM hB5 hne5 hbt BA AL QN IA hp5 hf5 hc5;generalize w5.setCell (w.heap.size+1,1) (.slice a5 (cs.length+1) c5)=w6 at*;go_wp2_with fail;go_roundw;case rel=>exact⟨x+1,D4,L4,cs++[x],_,by omega,HC.o,by go_num,YH.o.1,YH.o.2.1,H4.o.2.2.1,H4.o.2.2.2.1,YH.o.2.2.1,NS.o.1,NS.o.2,YH.o.2.2.2⟩
      case measure=>simp[intOf];omega
     ·as_aux_lemma=>
      have HC:Hid (Dq R (x+1) cs):=TT.o.no (λ c=>GH (NC.o.2 c));have WX:=kd GX;clear BB hB4 NC GX;go_wp2_with fail;go_roundw;case rel=>exact⟨x+1,D4,L4,cs,v,by omega,HC.o,by go_num,H4.o.1,H4.o.2.1,H4.o.2.2.1,H4.o.2.2.2.1,WX.o,HOV.o.1,HOV.o.2,H4.o.2.2.2.2⟩
      case measure=>simp[intOf];omega
    ·have DK:x=n:=by omega
     subst DK;go_wp2_with fail;go_ret;exact⟨_,_,j,Dx,v,Lx,cs,rfl,HX.o.2.1,by omega,HX.o.2.2.1,HX.o.2.2.2,TT.o,YL.o.1,YL.o.2.2.2⟩
end Go.Proofs.Y.S
namespace Go.Proofs
open Go.Proofs.Tryz
open Go.Shelf
def Tryz.keysL_ren:Go.Shelf.Ren:=⟨λ|7=>137|10=>250|n=>n,λ|23=>183|26=>3|3=>3|28=>193|0=>0|27=>192|33=>173|4=>4|n=>n,λ|n=>n⟩
theorem Tryz.keysL:Go.Proofs.SlLaysZI.n7 prog Tryz.keysL_ren:={
 mixed:=by kernel_rfl
 f7:=⟨Tryz.f137.name,by decide,func137.trans c_⟩
 f10:=⟨Tryz.f250.name,by decide,func250.trans c_⟩
 t0:=underlying0
 a0:=isAgg0
 z0:=sizeOf0
 v0:=zeroValue0
 t4:=underlying4
 a4:=isAgg4
 z4:=sizeOf4
 v4:=zeroValue4
 t23:=underlying183
 a23:=isAgg183
 z23:=sizeOf183
 v23:=zeroValue183
 t26:=underlying3
 a26:=isAgg3
 z26:=sizeOf3
 v26:=zeroValue3
 t27:=underlying192
 a27:=isAgg192
 z27:=sizeOf192
 v27:=zeroValue192
 t28:=underlying193
 a28:=isAgg193
 z28:=sizeOf193
 v28:=zeroValue193
 t33:=underlying173
 a33:=isAgg173
 z33:=sizeOf173
 v33:=zeroValue173}
def Tryz.keysG_ren:Go.Shelf.Ren:=⟨λ|7=>138|10=>251|n=>n,λ|23=>199|26=>3|3=>48|28=>193|0=>0|27=>192|33=>173|4=>4|n=>n,λ|n=>n⟩
theorem Tryz.keysG:Go.Proofs.SlLaysZI.n7 prog Tryz.keysG_ren:={
 mixed:=by kernel_rfl
 f7:=⟨Tryz.f138.name,by decide,func138.trans c_⟩
 f10:=⟨Tryz.f251.name,by decide,func251.trans c_⟩
 t0:=underlying0
 a0:=isAgg0
 z0:=sizeOf0
 v0:=zeroValue0
 t4:=underlying4
 a4:=isAgg4
 z4:=sizeOf4
 v4:=zeroValue4
 t23:=underlying199
 a23:=isAgg199
 z23:=sizeOf199
 v23:=zeroValue199
 t26:=underlying3
 a26:=isAgg3
 z26:=sizeOf3
 v26:=zeroValue3
 t27:=underlying192
 a27:=isAgg192
 z27:=sizeOf192
 v27:=zeroValue192
 t28:=underlying193
 a28:=isAgg193
 z28:=sizeOf193
 v28:=zeroValue193
 t33:=underlying173
 a33:=isAgg173
 z33:=sizeOf173
 v33:=zeroValue173}
end Go.Proofs
namespace Go.Proofs.Y.S
open Go.Proofs.Tryz
open Go.RowKit Go.WideMaps Go.Maps Go.Shelf
theorem zi6 (mb:Option Nat)(W:World):Calls prog 137 #[.map mb] W λ e w'=>e= .returned (.func (.func 250) #[] #[.pointer W])/\w'=W.alloc (.cells #[.map mb] 183):=
 (callsIn_wide (n:=5)).1 (AnyZI.keys_in Tryz.keysL Fence.wide 5 trivial rfl mb W)
theorem ja (R:Value->Option (DataW Unit × List MemPlace))(m N:Nat)(D:DataW Unit)(w:World)(o8:w.ownsMap prog 3 R m N D)(hN:N<=1000):
 Calls prog 133 #[.func (.func 250) #[] #[.pointer w]] (w.alloc (.cells #[.map m] 183)) λ e w'=>∃(v:Value) (ss:List Int),e=v/\ss.Perm (intKeys D)/\
  w'.ownsRow w 3 1 v ss.length ((ss.mergeSort (λ x y=>decide (x<=y))).map encZ)/\Below w w w':=by
 have GM:Maps.size D<=maxLen:=aD o8.size_le (by unfold maxLen;omega);have DC:Maps.size D*8<=140737488355328:=by have:=o8.size_le;omega
 have BH:=o8.lt;have IP:SeqGives Fence.wide 2 prog 250 #[.pointer w] encZ (λ ss=>ss.Perm (intKeys D)) (Maps.size D) (w.alloc (.cells #[.map m] 183)):=
  AnyZI.keys_gives (ρ:=Tryz.keysL_ren) {Tryz.keysL with} Fence.wide _ trivial rfl (by omega) w m N D _ (by simp) (by simp) (by
   obtain⟨es,clock,hb,Ft,hs,hD⟩:=o8;exact⟨es,clock,(bG _ _ m BH).trans hb,Ft,hs,hD⟩)
 have cS:=AnyZI.sorted_in Tryz.sortedA Fence.wide 5 trivial trivial trivial trivial rfl (by omega) (Uy _) (enters_of func243 (by kernel_rfl) rfl) 250 #[.pointer w] trivial (enters_of func250 (by kernel_rfl) rfl) _ _ GM DC _ IP;change CallsIn _ _ prog 133 _ _ _ at cS
 refine(callsIn_wide.1 cS).mono ?_;rintro e w' ⟨v,ss,rfl,hS,o7,IJ,hb⟩;exact⟨v,ss,rfl,hS,ownsRow_base_a o7 (by simp),(b_).trans (hb.mono (by simp))⟩
theorem zja (mb:Option Nat)(W:World):Calls prog 138 #[.map mb] W λ e w'=>e= .returned (.func (.func 251) #[] #[.pointer W])/\w'=W.alloc (.cells #[.map mb] 199):=
 (callsIn_wide (n:=5)).1 (AnyZI.keys_in Tryz.keysG Fence.wide 5 trivial rfl mb W)
theorem qj (R:Value->Option (DataW Unit × List MemPlace))(m N:Nat)(D:DataW Unit)(w:World)(o8:w.ownsMap prog 3 R m N D)(hN:N<=1000):
 Calls prog 133 #[.func (.func 251) #[] #[.pointer w]] (w.alloc (.cells #[.map m] 199)) λ e w'=>∃(v:Value) (ss:List Int),e=v/\ss.Perm (intKeys D)/\
  w'.ownsRow w 3 1 v ss.length ((ss.mergeSort (λ x y=>decide (x<=y))).map encZ)/\Below w w w':=by
 have GM:Maps.size D<=maxLen:=aD o8.size_le (by unfold maxLen;omega);have DC:Maps.size D*8<=140737488355328:=by have:=o8.size_le;omega
 have BH:=o8.lt;have IP:SeqGives Fence.wide 2 prog 251 #[.pointer w] encZ (λ ss=>ss.Perm (intKeys D)) (Maps.size D) (w.alloc (.cells #[.map m] 199)):=
  AnyZI.keys_gives (ρ:=Tryz.keysG_ren) {Tryz.keysG with} Fence.wide _ trivial rfl (by omega) w m N D _ (by simp) (by simp) (by
   obtain⟨es,clock,hb,Ft,hs,hD⟩:=o8;exact⟨es,clock,(bG _ _ m BH).trans hb,Ft,hs,hD⟩)
 have cS:=AnyZI.sorted_in Tryz.sortedA Fence.wide 5 trivial trivial trivial trivial rfl (by omega) (Uy _) (enters_of func243 (by kernel_rfl) rfl) 251 #[.pointer w] trivial (enters_of func251 (by kernel_rfl) rfl) _ _ GM DC _ IP;change CallsIn _ _ prog 133 _ _ _ at cS
 refine(callsIn_wide.1 cS).mono ?_;rintro e w' ⟨v,ss,rfl,hS,o7,IJ,hb⟩;exact⟨v,ss,rfl,hS,ownsRow_base_a o7 (by simp),(b_).trans (hb.mono (by simp))⟩
theorem Vy {w:World}{m N:Nat}{R:Value->Option (DataW Unit × List MemPlace)}{D:DataW Unit}(hm:w.ownsMap prog 3 R m N D){K ss:List Int}(hK:K.Pairwise (·<·))(hk:∀x:Int,Maps.has D x=true↔x∈K)(hp:ss.Perm (intKeys D)):
 (ss.mergeSort λ x y=>decide (x<=y))=K/\ss.length=K.length:=by
 have hc:CollectedI D (λ _=>false) K:=⟨hK.imp (λ h=>by omega),λ x=>by rw[hk x];simp⟩;have hp':ss.Perm K:=hp.trans (hc.perm hm Bp underlying3 (λ _=>rfl)).symm;refine⟨?_,hp'.length_eq⟩;rw[mergeSort_of_perm_i hp'];exact List.mergeSort_of_pairwise (hK.imp (λ h=>by simp;omega))
end Go.Proofs.Y.S
namespace Go.Proofs
open Go.Proofs.Tryz
open Go.Shelf
def Tryz.keysR_ren:Go.Shelf.Ren:=⟨λ|7=>261|10=>326|n=>n,λ|23=>204|26=>3|3=>208|28=>193|0=>0|27=>192|33=>173|4=>4|n=>n,λ|n=>n⟩
theorem Tryz.keysR:Go.Proofs.SlLaysZI.n7 prog Tryz.keysR_ren:={
 mixed:=by kernel_rfl
 f7:=⟨Tryz.f261.name,by decide,func261.trans c_⟩
 f10:=⟨Tryz.f326.name,by decide,func326.trans c_⟩
 t0:=underlying0
 a0:=isAgg0
 z0:=sizeOf0
 v0:=zeroValue0
 t4:=underlying4
 a4:=isAgg4
 z4:=sizeOf4
 v4:=zeroValue4
 t23:=underlying204
 a23:=isAgg204
 z23:=sizeOf204
 v23:=zeroValue204
 t26:=underlying3
 a26:=isAgg3
 z26:=sizeOf3
 v26:=zeroValue3
 t27:=underlying192
 a27:=isAgg192
 z27:=sizeOf192
 v27:=zeroValue192
 t28:=underlying193
 a28:=isAgg193
 z28:=sizeOf193
 v28:=zeroValue193
 t33:=underlying173
 a33:=isAgg173
 z33:=sizeOf173
 v33:=zeroValue173}
end Go.Proofs
namespace Go.Proofs.Y.S
open Go.Proofs.Tryz
open Go.RowKit Go.WideMaps Go.Maps Go.Shelf
theorem zit (mb:Option Nat)(W:World):Calls prog 261 #[.map mb] W λ e w'=>e= .returned (.func (.func 326) #[] #[.pointer W])/\w'=W.alloc (.cells #[.map mb] 204):=
 (callsIn_wide (n:=5)).1 (AnyZI.keys_in Tryz.keysR Fence.wide 5 trivial rfl mb W)
theorem eu (R:Value->Option (DataW Unit × List MemPlace))(m N:Nat)(D:DataW Unit)(w:World)(o8:w.ownsMap prog 3 R m N D)(hN:N<=1000):
 Calls prog 133 #[.func (.func 326) #[] #[.pointer w]] (w.alloc (.cells #[.map m] 204)) λ e w'=>∃(v:Value) (ss:List Int),e=v/\ss.Perm (intKeys D)/\
  w'.ownsRow w 3 1 v ss.length ((ss.mergeSort (λ x y=>decide (x<=y))).map encZ)/\Below w w w':=by
 have GM:Maps.size D<=maxLen:=aD o8.size_le (by unfold maxLen;omega);have DC:Maps.size D*8<=140737488355328:=by have:=o8.size_le;omega
 have BH:=o8.lt;have IP:SeqGives Fence.wide 2 prog 326 #[.pointer w] encZ (λ ss=>ss.Perm (intKeys D)) (Maps.size D) (w.alloc (.cells #[.map m] 204)):=
  AnyZI.keys_gives (ρ:=Tryz.keysR_ren) {Tryz.keysR with} Fence.wide _ trivial rfl (by omega) w m N D _ (by simp) (by simp) (by
   obtain⟨es,clock,hb,Ft,hs,hD⟩:=o8;exact⟨es,clock,(bG _ _ m BH).trans hb,Ft,hs,hD⟩)
 have cS:=AnyZI.sorted_in Tryz.sortedA Fence.wide 5 trivial trivial trivial trivial rfl (by omega) (Uy _) (enters_of func243 (by kernel_rfl) rfl) 326 #[.pointer w] trivial (enters_of func326 (by kernel_rfl) rfl) _ _ GM DC _ IP;change CallsIn _ _ prog 133 _ _ _ at cS
 refine(callsIn_wide.1 cS).mono ?_;rintro e w' ⟨v,ss,rfl,hS,o7,IJ,hb⟩;exact⟨v,ss,rfl,hS,ownsRow_base_a o7 (by simp),(b_).trans (hb.mono (by simp))⟩
def idV (R:List Edg):List Value:=R.map λ e=>.int .i64 e.1
theorem zlb (c mb rest:Nat)(S R:List Edg)(f:Edg->Nat)(w:World)(h:Co w c mb rest S f)(hS:∀e,e∈S↔e∈R)(hR:(R.map (·.1)).Pairwise (·<·))(hl:∀D N,w.ownsMap prog 3 D7 mb N D->Rm D S f->w.ownsMap prog 3 D7 mb 1000 D):
 Calls prog 145 #[.pointer c] w λ e w'=>∃v,e= .returned v/\w'.ownsRow w 3 1 v R.length (idV R)/\Below w w w':=by
 have h1:=h.cell1;obtain⟨D,N,ho,hm⟩:=h.mp;have ho':=hl D N ho hm;have hk:∀x:Int,Maps.has D x=true↔x∈R.map (·.1):=λ x=>by
  rw[hm.key,aY];constructor
  ·rintro⟨e,he,h2⟩;injection h2 with _ h2;exact⟨e,(hS e).1 he,h2.symm⟩
  ·rintro⟨e,he,rfl⟩;exact⟨e,(hS e).2 he,rfl⟩
 have HS:Hid _:=eu D7 mb 1000 D w ho' (aF _);have HK:Hid (∀ss:List Int,ss.Perm (intKeys D)->(ss.mergeSort λ x y=>decide (x<=y))=R.map (·.1)/\ss.length=(R.map (·.1)).length):=λ ss hp=>Vy ho' hR hk hp
 clear h ho ho' hm hl hk hR hS;go_enter func145,ntmps145;go_wp2_with fail;refine(zit (some mb) w).mono ?_;rintro e w1 ⟨rfl,AR⟩;subst AR;go_wp2_with fail;refine aA HS.o ?_;rintro e w2 ⟨v,ss,rfl,hp,o7,hb⟩;have HF:Hid (w2.ownsRow w 3 1 v R.length (idV R)/\Below w w w2):=by
  refine⟨?_,hb⟩;obtain⟨h3,h4⟩:=HK.o ss hp;rw[h3,h4,aS,fB] at o7;exact o7
 clear hp o7 hb;go_wp2_with fail;go_ret;exact⟨_,rfl,HF.o.1,HF.o.2⟩
open Go.RowKit Go.WideMaps Go.Maps Go.Proofs.Tryz
structure Cb (w:World) (bx c mb rest:Nat) (S:List Edg) (f:Edg->Nat):Prop where
 bx:w.heap[bx]? =some (.cells #[.pointer c] 106)
 co:Co w c mb rest S f
def Gx (K:List Int):List Value:=K.map λ x=>.int .i64 x
section
variable {w w':World} {bx c mb rest g:Nat} {S:List Edg} {f:Edg->Nat}
theorem Cb.below (h:Cb w bx c mb rest S f)(hb:Below w w w'):Cb w' bx c mb rest S f:=⟨(hb.block bx (lt_of_some h.bx)).trans h.bx,h.co.below hb⟩
theorem Cb.grown (h:Cb w bx c mb rest S f)(hg:w.grownBy w' (some g))(h1:bx≠g)(h2:c≠g)(h3:mb≠g):Cb w' bx c mb rest S f:=by
 obtain⟨v,hv⟩:=h.co.st;obtain⟨D,N,k1,k2⟩:=h.co.mp;exact⟨(hg.block bx (lt_of_some h.bx) (by simp;exact h1)).trans h.bx,⟨v,(hg.block c (lt_of_some hv) (by simp;exact h2)).trans hv⟩,D,N,k1.kept hg (by simp;exact h3),k2⟩
end
theorem zmj (w:World):(Instr.build 208 #[]).run prog w= .ok (.agg #[.int .u64 0,.int .u64 0]) w:=by kernel_rfl
theorem zoq (bx c mb rest:Nat)(S:List Edg)(f:Edg->Nat)(e:Edg)(w:World)(h:Cb w bx c mb rest S f)(he:e∈S)(hw:(Lit.int .i64 e.1).wf=true):
 Calls prog 146 #[e.1,.pointer bx] w λ en w'=>en= .returned (.bool (decide (f e=0)))/\w'=w:=by
 have h0:w.cell? bx=some (.pointer c):=by simp[World.cell?,h.bx]
 have h1:=h.co.cell1;have lk:=(h.co.Xf he hw).2;unfold Hq at lk;have DW:=zmj;have heq:=zn8;obtain⟨x,hx⟩:∃x,Cu (f e)=x:=⟨_,rfl⟩;obtain⟨y,hy⟩:∃y,hi64 (f e)=y:=⟨_,rfl⟩;have HX:Hid (f e=0↔x=0/\y=0):=by
  show _↔_;rw[<-hx,<-hy];exact⟨λ k=>by rw[k];exact⟨rfl,rfl⟩,λ k=>zmu (y:=0) k.1 k.2⟩
 rw[hx,hy] at lk;obtain⟨X,hX⟩:∃X,e.1=X:=⟨_,rfl⟩;rw[hX] at lk ⊢;clear h he hw hx hy hX;by_cases ER:x=0
 ·subst ER
  by_cases LV:y=0
  ·subst LV
   have HZ:Hid (f e=0):=HX.o.2 ⟨rfl,rfl⟩;have hb:(((0:Nat):Int)==0)=true:=rfl;go_enter func146,ntmps146;go_wp2_with fail;go_ret;exact⟨by rw[bI HZ.o];simp,rfl⟩
  ·have HZ:Hid (¬f e=0):=λ k=>LV (HX.o.1 k).2
   have j4:(((0:Nat):Int)==0)=true:=rfl;have hb:((y:Int)==0)=false:=aH.2 (by omega);go_enter func146,ntmps146;go_wp2_with fail;go_ret;exact⟨by rw[bM HZ.o];simp,rfl⟩
 ·have HZ:Hid (¬f e=0):=λ k=>ER (HX.o.1 k).1
  have hb:((x:Int)==0)=false:=aH.2 (by omega);go_enter func146,ntmps146;go_wp2_with fail;go_ret;exact⟨by rw[bM HZ.o];simp,rfl⟩
structure Dz (w0 w:World) (B g m cap i j:Nat) (pf:Int->Bool) (M X:List Int):Prop where
 own:w.ownsRow B 3 1 (.slice g m cap) m (Gx X)
 len:X.length=m
 fst:X.take i=(M.take j).filter λ x=>!pf x
 snd:X.drop j=M.drop j
 hij:i<j
 hjm:j<=m
 kept:w0.grownBy w (some g)
theorem Vu {L:List Int}{k:Nat}{x:Int}(pf:Int->Bool)(h:L[k]? =some x):(L.take (k+1)).filter pf=(L.take k).filter pf++(if pf x then [x] else []):=by
 obtain⟨j6,he⟩:=aC.1 h;rw[cB j6,bP,he]
 congr 1
 cases hp:pf x <;> simp[hp]
section
variable {w0 w w':World} {B g m cap i j:Nat} {x:Int} {pf:Int->Bool} {M X:List Int}
theorem Dz.at_ (h:Dz w0 w B g m cap i j pf M X)(hj:j<m)(hm:M.length=m):X[j]? =M[j]? /\∃x,M[j]? =some x:=by
 refine⟨?_,_,aB (by omega)⟩;have:=congrArg (λ l=>l[0]?) h.snd
 simpa using this
theorem Dz.cell (h:Dz w0 w B g m cap i j pf M X){k:Nat}(hk:X[k]? =some x):w.cell? (g,k)=x:=by
 have ZJ:=(aC.1 hk).1;have hlen:=h.len;rw[h.own.cellAt k (by omega)];simp[Gx,hk]
theorem Dz.fz (h:Dz w0 w B g m cap i j pf M X)(k:Nat):w.frozen? (g,k)=false:=by
 rcases h.own.2 with⟨h1,_⟩|⟨g',cap',cur,h1,_,h3,_⟩
 ·cases h1
 ·injection h1 with h1 _ _
  injection h1 with h1
  injection h1 with h1 _ _
  subst h1;simp[World.frozen?,h3]
theorem Dz.skip (h:Dz w0 w B g m cap i j pf M X)(hj:j<m)(hx:M[j]? =some x)(hp:pf x=true):Dz w0 w B g m cap i (j+1) pf M X:=by
 refine {h with fst:=?_,snd:=?_,hij:=by have:=h.hij;omega,hjm:=by omega}
 ·rw[h.fst,Vu _ hx];simp[hp]
 ·have:=congrArg (List.drop 1) h.snd
  simpa[List.drop_drop,Nat.add_comm] using this
theorem Dz.store (h:Dz w0 w B g m cap i j pf M X)(hj:j<m)(hx:M[j]? =some x)(hp:pf x=false):Dz w0 (w.setCell (g,i) x) B g m cap (i+1) (j+1) pf M (X.set i x):=by
 have hij:=h.hij;have hlen:=h.len;have BN:w.grownBy (w.setCell (g,i) x) (some g):=⟨rfl,rfl,rfl,by simp,λ k _ hn=>aV _ _ _ _ (λ e=>hn (by rw[e]))⟩;refine⟨?_,by simpa using hlen,?_,?_,by omega,by omega,⟨BN.os.trans h.kept.os,BN.tape.trans h.kept.tape,BN.output.trans h.kept.output,aD h.kept.size BN.size,λ k hk hn=>(BN.block k (aR hk h.kept.size) hn).trans (h.kept.block k hk hn)⟩⟩
 ·rcases h.own.2 with⟨h1,_⟩|⟨g',cap',cur,h1,h2,h3,h4,h5,h6,h7⟩
  ·cases h1
  ·injection h1 with JK h1b h1c
   injection JK with JK
   injection JK with JK _ _
   subst JK;subst h1c;refine⟨by simp[Gx,hlen],Or.inr ⟨g,cap,cur.setIfInBounds i x,rfl,h2,?_,h4,h5,by simpa using h6,?_⟩⟩
   ·simp only[World.setCell,dC,h3]
    simp
   ·have e1:Gx (X.set i x)=(Gx X).set i x:=by simp[Gx,List.map_set]
    rw[e1,<-h7];simp[List.take_set]
 ·rw[Vu _ hx,<-h.fst]
  have hi:i<X.length:=by omega
  rw[aP (by simp[hp]),cB (by simpa using hi)]
  congr 1
  ·rw[List.take_set_of_le (aF _)]
  ·simp
 ·have:=congrArg (List.drop 1) h.snd
  rw[List.drop_set_of_lt (by omega)]
  simpa[List.drop_drop,Nat.add_comm] using this
theorem zik (n:Nat):∀u∈(Builtin.zeroCells (Value.int .i64 0).cells n).toList,u.oneCell'=true:=by
 intro u hu;have hc:(Value.int .i64 0).cells=#[.int .i64 0]:=rfl;rw[hc] at hu;simp only[Builtin.zeroCells,jX,aY] at hu;obtain⟨a,_,rfl⟩:=hu;have:a%1=0:=Nat.mod_one a;show(#[Value.int .i64 0][a%1]!).oneCell'=true;rw[this];rfl
theorem ko (n:Nat):(Builtin.zeroCells (Value.int .i64 0).cells n).toList.length=n:=by
 have hc:(Value.int .i64 0).cells=#[.int .i64 0]:=rfl;rw[hc];simp[Builtin.zeroCells]
theorem Dz.done (h:Dz w0 w B g m cap i m pf M X)(hm:M.length=m):∃W2,(∀ty sc,(Builtin.clear_ #[48] ty #[.slice (g,i) (m-i) sc]).run prog w= .ok (.tuple #[]) W2)/\m<=cap/\cap<=maxLen/\W2.ownsRow B 3 1 (.slice g i cap) (M.filter λ x=>!pf x).length (Gx (M.filter λ x=>!pf x))/\w0.grownBy W2 (some g):=by
 have hij:=h.hij;have hlen:=h.len;rcases h.own.2 with⟨h1,_⟩|⟨g',cap',cur,h1,h2,h3,h4,h5,h6,h7⟩
 ·cases h1
 ·injection h1 with JK h1b h1c
  injection JK with JK
  injection JK with JK _ _
  subst JK;subst h1c;have VB:=h.fst;rw[<-hm,bK] at VB;have GV:cur.toList.length=cap:=by simpa using h6
  have TG:=ko (m-i);refine⟨w.setRow g (splice cur.toList i (Builtin.zeroCells (Value.int .i64 0).cells (m-i)).toList).toArray,λ ty sc=>N9 w 48 3 ty (0:Int) underlying48 Gu g i (m-i) sc (by omega) cur.toList 3 (by simpa using h3) (by rw[TG,GV];omega) (zik _),by omega,h5,?_,?_⟩
  ·rw[<-VB]
   have KS:(X.take i).length=i:=by rw[bN];omega
   refine⟨by simp[Gx],Or.inr ⟨g,cap,_,by rw[KS],h2,gZ w g cur _ 3 (0,0) h3,by rw[KS];omega,h5,?_,?_⟩⟩
   ·rw[bZ,length_splice _ _ _ (by rw[TG,GV];omega),GV];omega
   ·rw[KS]
    show(splice _ _ _).take _=_;have h8:(cur.toList.take i).length=i:=by rw[bN,GV];omega
    unfold splice;rw[Nat.mul_one,eZ (by omega),aZ (by omega)];have h9:=congrArg (List.take i) h7;rw[jH,show min i (m*1)=i by omega] at h9;rw[h9];simp[Gx,List.map_take]
  ·exact⟨h.kept.os,h.kept.tape,h.kept.output,aD h.kept.size (by simp),λ k hk hn=>(iC w g k _ (λ e=>hn (by rw[e]))).trans (h.kept.block k hk hn)⟩
end
theorem zkb (pf:Int->Bool)(bx g m cap B:Nat)(M:List Int)(w:World)(h:w.ownsRow B 3 1 (.slice g m cap) m (Gx M))(hl:M.length<=1000)(hm:M.length=m)
 (hf:∀x∈M,Calls prog 146 #[x,.pointer bx] w λ e w'=>e=Value.bool (pf x)/\w'=w):
 Calls prog 260 #[.slice g m cap,.func (.func 146) #[] #[.pointer bx]] w λ e w'=>((∃i x,i<m/\e= .returned (.int .i64 (i:Int))/\M[i]? =some x/\pf x=true/\∀j y,j<i->M[j]? =some y->pf y=false)\/(e=(-1:Int)/\∀j y,j<m->M[j]? =some y->pf y=false))/\w'=w:=by
 have HO:=kd (And.intro h hm);have HF:=kd hf;rw[hm] at hl;clear h hm hf;go_enter func260,ntmps260;go_wp2_with fail;go_loopw [8] (λ s8 wq=>∃k:Nat,k<=m/\s8=k/\(∀j y,j<k->M[j]? =some y->pf y=false)/\wq=w) (λ s8 _=>m-(intOf s8).toNat)
 case atStart=>exact⟨0,aN _,rfl,λ j y hj=>by omega,rfl⟩
 case round=>
  obtain⟨k,hk,rfl,AA,rfl⟩:=hrel;have HB:=kd AA;clear AA;by_cases j6:k<m
  ·obtain⟨x,hx⟩:∃x,M[k]? =some x:=⟨_,aB (by rw[HO.o.2];exact j6)⟩
   have r0:wr.cell? (g,k)=x:=by
    rw[HO.o.1.cellAt k (by omega)];simp[Gx,hx]
   have HX:=kd hx;have HC:Hid _:=HF.o x (aG hx);clear hx;cases hp:pf x with
   |true=>
    as_aux_lemma=>
    rw[hp] at HC;go_wp2_with fail;refine aA HC.o ?_;rintro e w2 ⟨rfl,BL⟩;subst BL;go_wp2_with fail;go_ret;exact⟨.inl ⟨k,x,j6,rfl,HX.o,hp,HB.o⟩,rfl⟩
   |false=>
    as_aux_lemma=>
    rw[hp] at HC;go_wp2_with fail;refine aA HC.o ?_;rintro e w2 ⟨rfl,BL⟩;subst BL;have y5:Hid (∀j y,j<k+1->M[j]? =some y->pf y=false):=λ j y hj hy=>by
     by_cases e:j=k
     ·rw[e,HX.o] at hy;rw[<-dG hy];exact hp
     ·exact HB.o j y (by omega) hy
    go_wp2_with fail;go_roundw;case rel=>exact⟨k+1,by omega,by go_num,y5.o,by trivial⟩
    case measure=>simp[intOf];omega
  ·as_aux_lemma=>
   have CF:k=m:=by omega
   have y5:Hid (∀j y,j<m->M[j]? =some y->pf y=false):=λ j y hj hy=>HB.o j y (by omega) hy
   clear CF;go_wp2_with fail;go_ret;exact⟨.inr ⟨rfl,y5.o⟩,rfl⟩
theorem zji (pf:Int->Bool)(bx g m cap B:Nat)(M:List Int)(w:World)(h:w.ownsRow B 3 1 (.slice g m cap) m (Gx M))(hl:M.length<=1000)(hm:M.length=m)
 (hf:∀W,w.grownBy W (some g)->∀x∈M,Calls prog 146 #[x,.pointer bx] W λ e w'=>e=Value.bool (pf x)/\w'=W):
 Calls prog 144 #[.slice g m cap,.func (.func 146) #[] #[.pointer bx]] w λ e w'=>∃v',e= .returned v'/\w'.ownsRow B 3 1 v' (M.filter λ x=>!pf x).length (Gx (M.filter λ x=>!pf x))/\w.grownBy w' (some g):=by
 have hrefl:w.grownBy w (some g):=⟨rfl,rfl,rfl,aF _,λ _ _ _=>rfl⟩;have HO:=kd (And.intro h hm);have HF:=kd hf;have HI:Hid _:=zkb pf bx g m cap B M w h hl hm (hf w hrefl);rw[hm] at hl;clear h hm hf;go_enter func144,ntmps144;go_wp2_with fail;refine aA HI.o ?_;rintro e w1 ⟨⟨i,x,hi,rfl,SB,MK,AA⟩|⟨rfl,AA⟩,AR⟩
 ·subst AR
  have ZZ:Hid (Dz w1 w1 B g m cap i (i+1) pf M M):=by
   refine⟨HO.o.1,HO.o.2,?_,rfl,by omega,by omega,hrefl⟩;rw[Vu _ SB];have:((M.take i).filter λ x=>!pf x)=M.take i:=by
    rw[iF];intro y hy;obtain⟨k,hk⟩:=bY hy;have TP:=(aC.1 hk).1;rw[bN] at TP;rw[iL (by omega)] at hk;rw[AA k y (by omega) hk];rfl
   rw[this];simp[MK]
  have l9:((i:Int)== -1)=false:=aH.2 (by omega);clear SB MK AA HI hrefl;go_wp2_with fail;go_loopw [5,6] (λ s5 s6 wq=>∃(i j:Nat) (X:List Int),s5=i/\s6=j/\Dz w1 wq B g m cap i j pf M X) (λ _ s6 _=>m-(intOf s6).toNat)
  case atStart=>exact⟨i,i+1,M,rfl,by go_num,ZZ.o⟩
  case round=>
   clear ZZ hi l9;obtain⟨i,j,X,rfl,rfl,QH⟩:=hrel;have HD:=kd QH;have hij:=QH.hij;have hjm:=QH.hjm;clear QH;by_cases j6:j<m
   ·obtain⟨hxj,x,hx⟩:=HD.o.at_ j6 HO.o.2
    rw[hx] at hxj;have r0:=HD.o.cell hxj;have HX:=kd hx;have HC:Hid _:=HF.o wr HD.o.kept x (aG hx);clear hx hxj;cases hp:pf x with
    |true=>
     as_aux_lemma=>
     rw[hp] at HC;go_wp2_with fail;refine aA HC.o ?_;rintro e w2 ⟨rfl,BL⟩;subst BL;have QI:Hid (Dz w1 w2 B g m cap i (j+1) pf M X):=HD.o.skip j6 HX.o hp;go_wp2_with fail;go_roundw;case rel=>exact⟨i,j+1,X,rfl,by go_num,QI.o⟩
     case measure=>simp[intOf];omega
    |false=>
     as_aux_lemma=>
     rw[hp] at HC;go_wp2_with fail;refine aA HC.o ?_;rintro e w2 ⟨rfl,BL⟩;subst BL;obtain⟨y,hy⟩:∃y,X[i]? =some y:=⟨_,aB (by rw[HD.o.len];omega)⟩;have s0:=HD.o.cell hy;have fz0:=HD.o.fz i;have HD3:Hid (Dz w1 (w2.setCell (g,i) x) B g m cap (i+1) (j+1) pf M (X.set i x)):=HD.o.store j6 HX.o hp;clear hy;go_wp2_with fail;go_roundw;case rel=>exact⟨i+1,j+1,_,by go_num,by go_num,HD3.o⟩
     case measure=>simp[intOf];omega
   ·as_aux_lemma=>
    have CE:j=m:=by omega
    subst CE;obtain⟨W2,GV,GI,XE,LB,AU⟩:=HD.o.done HO.o.2;have HFi:=kd (And.intro LB AU);simp only[maxLen] at XE;have hic:¬(cap=i):=by omega
    have hi1:(i:Int)<=(j:Int):=by omega
    have hi2:(i:Int)<=(cap:Int):=by omega
    have hi3:(j:Int)<=(cap:Int):=by omega
    clear LB AU HD;go_wp2_with fail;go_ret;exact⟨_,rfl,HFi.o.1,HFi.o.2⟩
 ·subst AR
  as_aux_lemma=>
  have HFi:Hid (w1.ownsRow B 3 1 (.slice g m cap) (M.filter λ x=>!pf x).length (Gx (M.filter λ x=>!pf x))/\w1.grownBy w1 (some g)):=by
   refine⟨?_,hrefl⟩;have:(M.filter λ x=>!pf x)=M:=by
    rw[iF];intro y hy;obtain⟨k,hk⟩:=bY hy;have TP:=(aC.1 hk).1;rw[AA k y (by rw[<-HO.o.2];exact TP) hk];rfl
   rw[this,HO.o.2];exact HO.o.1
  clear AA HI hrefl;go_wp2_with fail;go_ret;exact⟨_,rfl,HFi.o.1,HFi.o.2⟩
end Go.Proofs.Y.S
namespace Go.Proofs.Y.S
open Go.RowKit Go.WideMaps Go.Maps Go.Proofs.Tryz
structure Cx (w:World) (c mb rest:Nat) (S R:List Edg) (f:Edg->Nat):Prop where
 co:Co w c mb rest S f
 mem:∀e,e∈S↔e∈R
 up:(R.map (·.1)).Pairwise (·<·)
 wf:∀e∈R,(Lit.int .i64 e.1).wf=true
 len:R.length<=120
 small:∀D N,w.ownsMap prog 3 D7 mb N D->Rm D S f->w.ownsMap prog 3 D7 mb 1000 D
theorem Cx.below {w w':World}{c mb rest:Nat}{S R:List Edg}{f:Edg->Nat}(h:Cx w c mb rest S R f)(hb:Below w w w'):Cx w' c mb rest S R f:=by
 refine {h with co:=h.co.below hb,small:=λ D N ho hm=>?_};obtain⟨D0,N0,k1,k2⟩:=h.co.mp;have k3:=h.small D0 N0 k1 k2;have k4:=k3.kept (Ai hb) (by simp:some mb≠none);obtain⟨es,clock,j4,F1,EK,rfl⟩:=k4;obtain⟨es',clock',j5,F2,DJ,rfl⟩:=ho;rw[j4] at j5;cases j5;exact⟨es,clock,j4,F2,EK,rfl⟩
theorem zc1 (R:List Edg)(g:Edg->Bool)(pf:Int->Bool)(h:∀e∈R,pf e.1=g e):(R.map (·.1)).filter (λ x=>!pf x)=(R.filter λ e=>!g e).map (·.1):=by
 induction R with
 |nil=>rfl
 |cons e R ih=>
  have h1:=h e (by simp);have h2:=ih (λ d hd=>h d (by simp[hd]));simp only[gW,bT,h1];cases hg:g e <;> simp[h2]
theorem Wv (bx:Nat)(w:World):
 Calls prog 144 #[.slice none 0 0,.func (.func 146) #[] #[.pointer bx]] w λ e w'=>e=Value.slice none 0 0/\w'=w:=by
 have HI:Hid (Calls prog 260 #[.slice none 0 0,.func (.func 146) #[] #[.pointer bx]] w λ e w'=>e=(-1:Int)/\w'=w):=by
  show Calls _ _ _ _ _;go_enter func260,ntmps260;go_wp2_with fail;go_loopw [8] (λ s8 wq=>s8=(0:Int)/\wq=w) (λ _ _=>0)
  case atStart=>exact⟨rfl,rfl⟩
  case round=>
   obtain⟨rfl,rfl⟩:=hrel;go_wp2_with fail;go_ret;exact⟨rfl,rfl⟩
 go_enter func144,ntmps144;go_wp2_with fail;refine aA HI.o ?_;rintro e w1 ⟨rfl,AR⟩;subst AR;go_wp2_with fail;go_ret;exact⟨rfl,rfl⟩
def zk6 (R:List Edg)(g:Edg->Bool)(x:Int):Bool:=R.any λ e=>e.1==x&&g e
theorem Wj {R:List Edg}(h:(R.map (·.1)).Pairwise (·<·)):∀d∈R,∀e∈R,d.1=e.1->d=e:=by
 induction R with
 |nil=>intro d hd;simp at hd
 |cons a R ih=>
  rw[gW,iJ] at h;intro d hd e he LA;rcases cO.1 hd with rfl|hd'
  ·rcases cO.1 he with rfl|he'
   ·rfl
   ·have:=h.1 e.1 (aY.2 ⟨e,he',rfl⟩);omega
  ·rcases cO.1 he with rfl|he'
   ·have:=h.1 d.1 (aY.2 ⟨d,hd',rfl⟩);omega
   ·exact ih h.2 d hd' e he' LA
theorem zbz {R:List Edg}(h:(R.map (·.1)).Pairwise (·<·))(g:Edg->Bool){e:Edg}(he:e∈R):zk6 R g e.1=g e:=by
 unfold zk6;cases hg:g e with
 |true=>
  rw[fM];exact⟨e,he,by simp[hg]⟩
 |false=>
  rw[List.any_eq_false];intro d hd k;simp only[cZ,bX] at k;rw[Wj h d hd e he k.1,hg] at k;cases k.2
theorem qy (R:List Edg):Gx (R.map (·.1))=idV R:=by simp[Gx,idV]
theorem zkz {w:World}{B B' e s n:Nat}{v:Value}{xs:List Value}(h:w.ownsRow B e s v n xs)(hB:B'<=B):w.ownsRow B' e s v n xs:=by
 refine⟨h.1,?_⟩;rcases h.2 with hh|⟨g,cap,cur,h1,h2,h3,h4⟩
 ·exact Or.inl hh
 ·exact Or.inr ⟨g,cap,cur,h1,by omega,h3,h4⟩
end Go.Proofs.Y.S
