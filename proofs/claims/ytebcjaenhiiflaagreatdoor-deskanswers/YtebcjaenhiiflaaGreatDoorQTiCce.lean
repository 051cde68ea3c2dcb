import Derived.Test.YtebcjaenhiiflaaGreatDoorQDaDf
import Derived.Test.YtebcjaenhiiflaaGreatDoorQHj
import Derived.Test.YtebcjaenhiiflaaGreatDoorQKVsFDe
set_option maxHeartbeats 8000000
set_option maxRecDepth 100000
namespace Go.Proofs.Y.S
open Go.RowKit Go.WideMaps Go.Maps Go.Proofs.Tryz
def dq (n:Nat)(R:List Edg)(e d:Edg):Bool:=decide (nP n (rest R e)=nP n R)&&decide (nP n (rest R d)=nP n R)&&decide (nP n R<nP n (Br R e d))
theorem zep {w:World}{B:Nat}{v:Value}{M:List (Int × Int)}(h:Aq w B v M){g:Nat}(hg:v.ownBlock=some g):∃cur,w.heap[g]? =some (.cells cur 180):=by
 have h':w.ownsRow B 180 2 v M.length (rowP M):=h;rcases h'.2 with⟨rfl,_⟩|⟨g',cap,cur,rfl,_,hc,_⟩
 ·simp[Value.ownBlock] at hg
 ·simp[Value.ownBlock] at hg
  subst hg;exact⟨_,hc⟩
structure PbT (w3 w:World) (cb:Nat) (e:Edg) (u:Value) (M:List (Int × Int)):Prop where
 own:Aq w w3 u M
 below:Below w3 w3 w
 box:Box w cb e
theorem PbT.below' {w3 w w':World}{cb:Nat}{e:Edg}{u:Value}{M:List (Int × Int)}(h:PbT w3 w cb e u M)(hb:Below w w w'):PbT w3 w' cb e u M:=
 ⟨h.own.below hb,h.below.tr hb,h.box.below hb⟩
theorem PbT.more {w3 w w':World}{cb:Nat}{e:Edg}{u v':Value}{M M':List (Int × Int)}(h:PbT w3 w cb e u M)(ho:Aq w' w3 v' M')(hg:w.grownBy w' u.ownBlock):PbT w3 w' cb e v' M':=by
 refine⟨ho,h.below.grown hg h.below.size (λ k hk=>(aU h.own k hk).1),?_⟩;have hb:=h.box;unfold Box at hb ⊢;rw[hg.block cb (lt_of_some hb) (λ e2=>?_)]
 ·exact hb
 ·obtain⟨cur,hc⟩:=zep h.own e2.symm
  rw[hb] at hc;simp at hc
theorem zhq (n B q:Nat)(u:Value)(R L:List Edg)(w:World)(h:G.GAt w B 40 61 q (n:Int) u R)(hi:G.Inv R L)(hl:L.length<=120)(hn:n<=40)(p9:Inn n L):
 Calls prog 65 #[.pointer q] w λ e w'=>∃v,e= .returned v/\Aq w' w v (Ak L (dq n R))/\Below w w w':=by
 have TU:R.length=L.length:=hi.perm.length_eq;have YS:Inn n R:=λ e he=>p9 e (hi.perm.mem_iff.1 he)
 have BP:Below w w (w.alloc (.cells #[.pointer q] 22)):=b_;have FZ:(w.alloc (.cells #[.pointer q] 22)).cell? w=some (.pointer q):=by simp
 have HG:Hid (G.GAt (w.alloc (.cells #[.pointer q] 22)) B 40 61 q (n:Int) u R/\Below w w (w.alloc (.cells #[.pointer q] 22))/\(w.alloc (.cells #[.pointer q] 22)).cell? w=some (.pointer q)):=⟨h.below BP,BP,FZ⟩;have HI:Hid (G.Inv R L/\Inn n R/\R.length<=120/\L.length<=120):=⟨hi,YS,by omega,hl⟩;clear h hi p9 YS BP TU FZ hl;go_enter func65,ntmps65;go_wp2_with fail;refine(Kg n B q u R _ HG.o.1 (by have:=HI.o.2.2.1;omega) hn HI.o.2.1).mono ?_;rintro e w1 ⟨b,l,rfl,hr,EN,JH,BD,j4⟩;have BZ:Hid (Aj w1 b l/\l.length=n/\G8 n l=nP n R):=⟨hr,JH.len,by rw[Vs JH HI.o.2.1 BD];rfl⟩;have x8:Hid (Below w w w1/\w1.cell? w=some (.pointer q)/\G.GAt w1 B 40 61 q (n:Int) u R):=⟨HG.o.2.1.tr j4,cell_below HG.o.2.2 j4,HG.o.1.below j4⟩;clear hr EN JH BD j4 HG;go_wp2_with fail;refine(Qs b n l w1 BZ.o.1 BZ.o.2.1 hn).mono ?_;rintro e wa ⟨rfl,hwa⟩;subst hwa;rw[BZ.o.2.2];obtain⟨N,hN⟩:∃N,nP n R=N:=⟨_,rfl⟩;have HN:=kd hN;rw[hN];clear hN;have hlw:w.heap.size<wa.heap.size:=lt_of_cell x8.o.2.1;have MM:Below wa wa (wa.alloc (.cells #[N] 3)):=b_;have hca:(wa.alloc (.cells #[N] 3)).cell? w=some (.pointer q):=cell_below x8.o.2.1 MM;have HX0:Hid (Bx (wa.alloc (.cells #[N] 3)) B q n N u R w wa/\Below w w (wa.alloc (.cells #[N] 3))):=⟨⟨x8.o.2.2.below MM,hca,by simp⟩,x8.o.1.tr MM⟩;clear MM x8 BZ;go_wp2_with fail;refine(G.K6 B q (n:Int) u R L _ HX0.o.1.ga HI.o.1).mono ?_;rintro e w3 ⟨v,rfl,ho,y8⟩;have HX:Hid (Bx w3 B q n N u R w wa/\Below w w w3):=⟨HX0.o.1.below y8,HX0.o.2.tr y8⟩;obtain⟨va,vc,hv⟩:=ho.Ap;obtain⟨m,hm⟩:∃m,L.length=m:=⟨_,rfl⟩;have HM:=kd hm;have hm60:m<=120:=by rw[<-hm];exact HI.o.2.2.2
 have GI:m<=vc/\vc<=9223372036854775807:=by
  rcases ho.shape with⟨h1,h2⟩|⟨g,cap,h1,_,_,h4,h5⟩
  ·rw[hv] at h1
   injection h1 with _ h6 h7
   rw[h2] at hm;simp at hm;omega
  ·rw[hv] at h1
   injection h1 with _ _ h7
   unfold maxLen at h5;omega
 obtain⟨T,hT⟩:∃T,Ak L (dq n R)=T:=⟨_,rfl⟩;have HT:=kd hT;have hTl:T.length<=14400:=by
  rw[<-hT];have h1:=Nh (dq n R) L;have h2:L.length<=120:=HI.o.2.2.2;have h3:=fU h2 h2;omega
 rw[hm] at hv;have HO:Hid (∃B0,G.Ad w3 B0 61 (.slice va m vc) L):=⟨_,hv▸ho⟩;have HP0:Hid (∃M,Aq w3 w3 (.slice none 0 0) M/\Below w3 w3 w3/\M++Ak (L.drop 0) (dq n R)=T):=⟨[],aX _ _ _ _,aI _ _,by simpa using hT⟩;subst hv;clear ho y8 hm hT HX0 hca hlw;go_wp2_with fail;go_loopw [5,19] (λ s5 s19 wq=>∃i:Nat,i<=m/\s19=i/\∃M,Aq wq w3 s5 M/\Below w3 w3 wq/\M++Ak (L.drop i) (dq n R)=T) (λ _ s19 _=>m-(intOf s19).toNat)
 case atStart=>exact⟨0,aN _,rfl,HP0.o⟩
 case round=>
  clear HP0;obtain⟨i,hi,rfl,M,RH,YT,ND⟩:=hrel;have HP:Hid (Aq wr w3 u5 M/\Below w3 w3 wr/\M++Ak (L.drop i) (dq n R)=T):=⟨RH,YT,ND⟩;clear RH YT ND;by_cases j6:i<m
  ·rename World=>wo
   obtain⟨e,he⟩:∃e,L[i]? =some e:=⟨_,aB (by rw[HM.o];exact j6)⟩;obtain⟨B0,hO0⟩:=HO.o;obtain⟨g,rfl⟩:=Hy hO0 (by rw[HM.o];exact j6);have hOw:=hO0.below HP.o.2.1;obtain⟨r0,r1,r2⟩:=hOw.at (g:=g) rfl he;have KU:Hid (∃M,PbT w3 (wo.alloc (.cells #[e.1,e.2.1,e.2.2] 61)) wo e u5 M/\M++((((L.drop (i+1)).drop 0).filter (dq n R e)).map (λ d=>(e.1,d.1))++Ak (L.drop (i+1)) (dq n R))=T):=⟨M,⟨HP.o.1.below (b_),HP.o.2.1.alloc HP.o.2.1.size _,aQ wo _⟩,by
    have:=HP.o.2.2;rw[drop_at he] at this;exact this⟩
   have HE:=kd (And.intro he hO0);obtain⟨e0,hE0⟩:∃x,e.1=x:=⟨_,rfl⟩;obtain⟨e1,hE1⟩:∃x,e.2.1=x:=⟨_,rfl⟩;obtain⟨e2,TW⟩:∃x,e.2.2=x:=⟨_,rfl⟩;have QQ:Hid (e.1=e0/\e.2.1=e1/\e.2.2=e2):=⟨hE0,hE1,TW⟩;rw[hE0] at r0;rw[hE1] at r1;rw[TW] at r2;rw[hE1,TW] at KU;rw[show(Value.int .i64 e.1)= .int .i64 e0 by rw[hE0]] at KU;clear he hO0 hOw hE0 hE1 TW HP;have AR:IntKind.i64.wrap ((i:Int)+1)=(i:Int)+1:=by rw[bO];omega
   have j5:(i:Int)+1<=(m:Int):=by omega
   have y8:(0:Int)<=(i:Int)+1:=by omega
   have BB:(i:Int)+1<=(vc:Int):=by omega
   have CV:(m:Int)<=(vc:Int):=by omega
   have KZ:((i:Int)+1).toNat=i+1:=by omega
   by_cases ED:vc=i+1
   ·as_aux_lemma=>
    go_wp2_with fail;clear AR j5 y8 BB CV KZ r0 r1 r2;obtain⟨r,hr⟩:∃r,m-(i+1)=r:=⟨_,rfl⟩;have hr0:r=0:=by omega
    rw[hr];go_loopw [5,29] (λ s5 s29 wq=>∃j:Nat,j<=r/\s29=j/\∃M,PbT w3 wq wo e s5 M/\M++((((L.drop (i+1)).drop j).filter (dq n R e)).map (λ d=>(e.1,d.1))++Ak (L.drop (i+1)) (dq n R))=T) (λ _ s29 _=>r-(intOf s29).toNat)
    case atStart=>exact⟨0,aN _,rfl,KU.o⟩
    case round=>
     clear KU;obtain⟨j,hj,rfl,M,EO,ND⟩:=hrel;have HP:=kd (And.intro EO ND);clear EO ND;have JL:¬j<r:=by omega
     have HF:Hid (M++Ak (L.drop (i+1)) (dq n R)=T):=by
      have h1:=HP.o.2;have h2:(L.drop (i+1)).drop j=[]:=fJ (by rw[dJ,HM.o];omega);rw[h2] at h1;exact h1
     clear hr hr0;go_wp2_with fail;go_roundw;case rel=>exact⟨i+1,by omega,by go_num,M,HP.o.1.own,HP.o.1.below,HF.o⟩
     case measure=>simp[intOf];omega
   ·go_wp2_with fail
    clear AR j5 y8 BB CV KZ r0 r1 r2;obtain⟨r,hr⟩:∃r,m-(i+1)=r:=⟨_,rfl⟩;have HR:=kd hr;rw[hr];go_loopw [5,29] (λ s5 s29 wq=>∃j:Nat,j<=r/\s29=j/\∃M,PbT w3 wq wo e s5 M/\M++((((L.drop (i+1)).drop j).filter (dq n R e)).map (λ d=>(e.1,d.1))++Ak (L.drop (i+1)) (dq n R))=T) (λ _ s29 _=>r-(intOf s29).toNat)
    case atStart=>exact⟨0,aN _,rfl,KU.o⟩
    case round=>
     clear KU;obtain⟨j,hj,rfl,M,EO,ND⟩:=hrel;have HP:=kd (And.intro EO ND);clear EO ND;by_cases JL:j<r
     ·as_aux_lemma=>
      obtain⟨d,hd⟩:∃d,L[i+1+j]? =some d:=⟨_,aB (by rw[HM.o];omega)⟩;obtain⟨q0,q1,q2⟩:=(HE.o.2.below HP.o.1.below).at (g:=g) rfl hd;have ea0:(i+1+j)*3=(i+1)*3+j*3:=by omega
      rw[ea0] at q0 q1 q2;have hdr:(L.drop (i+1)).drop j=d::(L.drop (i+1)).drop (j+1):=drop_at (by rw[fA];exact hd);have HMl:Hid (M.length<=14400):=by
       have:=congrArg List.length HP.o.2;rw[aM] at this;show M.length<=14400;omega
      obtain⟨s,hs⟩:∃s,dq n R e d=s:=⟨_,rfl⟩;have WC:Hid (∀M',(if s=true then M'=M++[(e.1,d.1)] else M'=M)->M'++((((L.drop (i+1)).drop (j+1)).filter (dq n R e)).map (λ d=>(e.1,d.1))++Ak (L.drop (i+1)) (dq n R))=T):=λ M' hM'=>by
       have h1:=HP.o.2;rw[hdr,bT,hs] at h1;cases s with
       |true=>
        rw[aP rfl] at hM';rw[aP rfl] at h1;rw[hM',<-h1];simp
       |false=>
        rw[aL (by simp)] at hM';rw[aL (by simp)] at h1;rw[hM',<-h1]
      obtain⟨a1,YU⟩:∃x,decide (nP n (rest R e)=N)=x:=⟨_,rfl⟩;obtain⟨a2,ha2⟩:∃x,decide (nP n (rest R d)=N)=x:=⟨_,rfl⟩;obtain⟨K,hK⟩:∃x,nP n (Br R e d)=x:=⟨_,rfl⟩;have HS:Hid (s=(a1&&a2&&decide (N<K))):=by
       show s=_;rw[<-hs,<-YU,<-ha2,<-hK];unfold dq;rw[HN.o]
      obtain⟨d0,hD0⟩:∃x,d.1=x:=⟨_,rfl⟩;obtain⟨d1,hD1⟩:∃x,d.2.1=x:=⟨_,rfl⟩;obtain⟨d2,hD2⟩:∃x,d.2.2=x:=⟨_,rfl⟩;obtain⟨W1,AJ⟩:∃W1,W1=wr.alloc (.cells #[d0,d1,d2] 61):=⟨_,rfl⟩;have BK:Below wr wr W1:=by rw[AJ];exact b_
      have MJ:Box W1 wr d:=by
       unfold Box;rw[AJ,hD0,hD1,hD2];exact aQ wr _
      have EH:Hid (∀w',Below W1 W1 w'->(w'.cell? wo=e0/\w'.cell? wr=d0/\w'.cell? w=some (.pointer q)/\w'.cell? wa=N)/\Bx w' B q n N u R w wa/\PbT w3 w' wo e u5 M):=λ w' hb=>by
       have hp:=(HP.o.1.below' BK).below' hb;have hx:=HX.o.1.below hp.below;have c1:=hp.box.cells.1;have c2:=(MJ.below hb).cells.1;rw[QQ.o.1] at c1;rw[hD0] at c2;exact⟨⟨c1,c2,hx.cq,hx.cn⟩,hx,hp⟩
      have TL:Hid (∀W,Below W1 W1 W->Calls prog 123 #[e0,.pointer w,.pointer wa] W λ en w'=>en= .returned (.bool a1)/\(w'.cell? wo=e0/\w'.cell? wr=d0/\w'.cell? w=some (.pointer q)/\w'.cell? wa=N)/\Below W1 W1 w'):=λ W hW=>by
       have:=df B q n N u R w wa e a1 W (EH.o W hW).2.1 (by have:=HI.o.2.2.1;omega) hn HI.o.2.1 YU;rw[QQ.o.1] at this;refine this.mono ?_;rintro en w' ⟨rfl,hb'⟩;have h2:=hW.tr hb';exact⟨rfl,(EH.o w' h2).1,h2⟩
      have HF2:Hid (∀W,Below W1 W1 W->Calls prog 123 #[d0,.pointer w,.pointer wa] W λ en w'=>en= .returned (.bool a2)/\(w'.cell? wo=e0/\w'.cell? wr=d0/\w'.cell? w=some (.pointer q)/\w'.cell? wa=N)/\((w'.alloc (.cells #[e0,d0] 3)).cell? wo=e0/\(w'.alloc (.cells #[e0,d0] 3)).cell? wr=d0/\(w'.alloc (.cells #[e0,d0] 3)).cell? w=some (.pointer q)/\(w'.alloc (.cells #[e0,d0] 3)).cell? wa=N)/\Below W1 W1 w'):=λ W hW=>by
       have:=df B q n N u R w wa d a2 W (EH.o W hW).2.1 (by have:=HI.o.2.2.1;omega) hn HI.o.2.1 ha2;rw[hD0] at this;refine this.mono ?_;rintro en w' ⟨rfl,hb'⟩;have h2:=hW.tr hb';exact⟨rfl,(EH.o w' h2).1,(EH.o _ (h2.alloc h2.size _)).1,h2⟩
      have WA:Hid (∀W,Below W1 W1 W->Calls prog 58 #[.pointer q,.slice (some ⟨W.heap.size,0,none⟩) 2 2,.slice none 0 0] (W.alloc (.cells #[e0,d0] 3)) λ e' w'=>∃q' v',e'=Value.pointer (some ⟨q',0,none⟩)/\(w'.cell? wo=e0/\w'.cell? wr=d0/\w'.cell? w=some (.pointer q)/\w'.cell? wa=N)/\Below W1 W1 w'/\∃B',G.GAt w' B' 40 61 q' (n:Int) v' (Br R e d)):=λ W hW=>by
       have j5:Below W W (W.alloc (.cells #[e0,d0] 3)):=b_;have hgW:=(EH.o W hW).2.1.ga.below j5;refine(G.Du (n:Int) B q u R _ none 2 0 2 0 (λ t=>if t=0 then e0 else d0) (λ _=>0) _ hgW (by have:=HI.o.2.2.1;omega) (zcg W e0 d0) (U5 _) (by omega) (by omega)).mono ?_;rintro e' w' ⟨q',v',rfl,hg',hb'⟩;rw[Z6 R e d _ _ (by simp[QQ.o.1]) (by simp[hD0])] at hg';have h2:Below W1 W1 w':=hW.trans ((j5.tr hb').mono hW.size);exact⟨q',v',rfl,(EH.o w' h2).1,h2,_,hg'⟩
      have HLA:Hid (∀W q' v' B',Below W1 W1 W->G.GAt W B' 40 61 q' (n:Int) v' (Br R e d)->Calls prog 59 #[.pointer (some ⟨q',0,none⟩)] W λ e' w'=>∃b,e'=Value.slice (some ⟨b,0,none⟩) n n/\(w'.cell? wo=e0/\w'.cell? wr=d0/\w'.cell? w=some (.pointer q)/\w'.cell? wa=N)/\Below W1 W1 w'/\Calls prog 122 #[.slice (some ⟨b,0,none⟩) n n] w' λ e w''=>e=K/\w''=w'):=λ W q' v' B' hW hg'=>by
       refine(Kg n B' q' v' (Br R e d) W hg' (aD (Yh _ _ _) (by have:=HI.o.2.2.1;omega)) hn (Qh HI.o.2.1 _ _)).mono ?_;rintro e' w' ⟨b,l,rfl,hr,EN,JH,BD,hb'⟩;have h2:=hW.tr hb';refine⟨b,rfl,(EH.o w' h2).1,h2,?_⟩;have h3:=Qs b n l w' hr JH.len hn;have h4:G8 n l=K:=by rw[<-hK,Vs JH (Qh HI.o.2.1 _ _) BD];rfl
       rw[h4] at h3;exact h3
      have BQ:=kd AJ.symm;rw[hD0] at q0;rw[hD1] at q1;rw[hD2] at q2;have HDD:=kd hD0;obtain⟨GY,_,_⟩:=EH.o W1.drew (aI _ _).drew;have WG:Hid (Below W1 W1 W1.drew):=(aI _ _).drew;have hr60:r<=120:=by omega
      clear hd ea0 hdr hs YU ha2 hK hD0 hD1 hD2 AJ BK MJ hr;go_upto_region 11 with fail
      rw[BQ.o];clear q0 q1 q2
      go_cut [55] from 33 to 55 (λ s55 wx=>s55= .bool s/\Below W1 W1 wx)
      case first=>
       cases a1 with
       |false=>
        have HSF:Hid (s=false):=by show s=false;rw[HS.o];rfl
        refine wp_region_held_drew (S:=(λ w'=>(w'.cell? wo=e0/\w'.cell? wr=d0/\w'.cell? w=some (.pointer q)/\w'.cell? wa=N))) (by kernel_rfl) ?_ (λ hHeld=>?_)
        ·exact GY
        refine tk 0 ?_;refine tk 1 ?_;refine tk 2 ?_;refine rd 3 (λ K hK=>?_);go_simp;go_wp2_with (go_at_call 123;refine aA (TL.o _ WG.o) ?_;rintro e' w2 ⟨rfl,FW,j5⟩;have y5:Hid (Below W1 W1 w2):=j5;clear j5 TL);refine hK.out _ _ ?_ (λ hHeld=>?_)
        ·exact FW
        clear hK K;refine tk 4 ?_;refine tn 5 ?_;refine tn 6 ?_;refine tn 7 ?_;refine tn 8 ?_;refine tk 9 ?_;refine tk 10 ?_;refine tn 11 ?_;refine tn 12 ?_;refine tn 13 ?_;refine tn 14 ?_;refine tn 15 ?_;refine tn 16 ?_;refine tn 17 ?_;refine tn 18 ?_;refine tn 19 ?_;refine tn 20 ?_;refine tn 21 ?_;refine tk 22 ?_;refine wpAnyH_done (by kernel_rfl) ?_ _;go_wp2_with fail
        go_meet
        case rel=>exact⟨by rw[HSF.o],y5.o⟩
       |true=>
        cases a2 with
        |false=>
         have HSF:Hid (s=false):=by show s=false;rw[HS.o];rfl
         refine wp_region_held_drew (S:=(λ w'=>(w'.cell? wo=e0/\w'.cell? wr=d0/\w'.cell? w=some (.pointer q)/\w'.cell? wa=N))) (by kernel_rfl) ?_ (λ hHeld=>?_)
         ·exact GY
         refine tk 0 ?_;refine tk 1 ?_;refine tk 2 ?_;refine rd 3 (λ K hK=>?_);go_simp;go_wp2_with (go_at_call 123;refine aA (TL.o _ WG.o) ?_;rintro e' w2 ⟨rfl,FW,j5⟩;have y5:Hid (Below W1 W1 w2):=j5;clear j5 TL);refine hK.out _ _ ?_ (λ hHeld=>?_)
         ·exact FW
         clear hK K;refine tk 4 ?_;refine tk 5 ?_;refine tk 6 ?_;refine tk 7 ?_;refine rd 8 (λ K hK=>?_);go_simp;go_wp2_with (go_at_call 123;refine aA (HF2.o _ y5.o) ?_;rintro e' w4 ⟨rfl,hS4,WH,BB⟩;have EP:Hid (Below W1 W1 w4):=BB;clear BB HF2);refine hK.out _ _ ?_ (λ hHeld=>?_)
         ·exact hS4
         clear hK K;refine tk 9 ?_;refine tk 10 ?_;refine tn 11 ?_;refine tn 12 ?_;refine tn 13 ?_;refine tn 14 ?_;refine tn 15 ?_;refine tn 16 ?_;refine tn 17 ?_;refine tn 18 ?_;refine tn 19 ?_;refine tn 20 ?_;refine tn 21 ?_;refine tk 22 ?_;refine wpAnyH_done (by kernel_rfl) ?_ _;go_wp2_with fail
         go_meet
         case rel=>exact⟨by rw[HSF.o],EP.o⟩
        |true=>
         have HSF:Hid (s=decide (N<K)):=by show s=decide (N<K);rw[HS.o];rfl
         go_region_held (λ w'=>(w'.cell? wo=e0/\w'.cell? wr=d0/\w'.cell? w=some (.pointer q)/\w'.cell? wa=N)) (with_reducible assumption)
         (first
           |(go_at_call 123;refine aA (TL.o _ WG.o) ?_;rintro e' w2 ⟨rfl,FW,j5⟩;have y5:Hid (Below W1 W1 w2):=j5;clear j5 TL)
           |(go_at_call 123;refine aA (HF2.o _ y5.o) ?_;rintro e' w4 ⟨rfl,hS4,WH,BB⟩;have EP:Hid (Below W1 W1 w4):=BB;clear BB HF2)
           |(go_at_call 58;refine aA (WA.o _ EP.o) ?_;rintro e' w5 ⟨q',v',rfl,hS6,CV,ML⟩;have OZ:Hid (Below W1 W1 w5/\∃B',G.GAt w5 B' 40 61 q' (n:Int) v' (Br R e d)):=⟨CV,ML⟩;clear CV ML)
           |(go_at_call 59;obtain⟨B',ML⟩:=OZ.o.2;refine aA (HLA.o _ q' v' B' OZ.o.1 ML) ?_;rintro e' w6 ⟨b,rfl,hS7,FJ,hpc⟩;have HB6:Hid (Below W1 W1 w6/\Calls prog 122 #[.slice b n n] w6 λ e w''=>e=K/\w''=w6):=⟨FJ,hpc⟩;clear FJ hpc ML)
           |(go_at_call 122;refine aA HB6.o.2 ?_;rintro e' w7 ⟨rfl,hw7⟩;subst hw7))
         all_goals
          go_wp2_with fail
          go_meet
          case rel=>exact⟨by rw[HSF.o],HB6.o.1⟩
      case rest=>
       obtain⟨rfl,hbc⟩:=hcut;obtain⟨⟨k1,k2,_,_⟩,_,hpc⟩:=EH.o wc hbc;have HPC:=kd hpc;clear hbc hpc GY TL HF2 WA HLA EH WG;cases s with
       |true=>
        as_aux_lemma=>
        have DZ:Hid _:=WC.o (M++[(e.1,d.1)]) (by rw[aP rfl]);obtain⟨v',w4,KE,GX,KQ,QF⟩:=Kt 65 wc w3 u5 M e0 d0 HPC.o.own HPC.o.below.size (by have:=HMl.o;omega);have HRN:=kd KE;have QR:Hid (PbT w3 w4 wo e v' (M++[(e.1,d.1)])):=by
         rw[QQ.o.1,HDD.o];exact HPC.o.more GX KQ
        clear KE GX KQ QF;go_wp2_with (at_builtin;refine Lib.wpList_append_run _ rfl _ _ _ _ rfl _ _ rfl rfl _ _ HRN.o ?_);go_roundw;case rel=>exact⟨j+1,by omega,by go_num,_,QR.o,DZ.o⟩
        case measure=>simp[intOf];omega
       |false=>
        as_aux_lemma=>
        have DZ:Hid _:=WC.o M (by rw[aL (by simp)]);go_wp2_with fail;go_roundw;case rel=>exact⟨j+1,by omega,by go_num,_,HPC.o,DZ.o⟩
        case measure=>simp[intOf];omega
     ·as_aux_lemma=>
      have HF:Hid (M++Ak (L.drop (i+1)) (dq n R)=T):=by
       have h1:=HP.o.2;have h2:(L.drop (i+1)).drop j=[]:=fJ (by rw[dJ,HM.o];omega);rw[h2] at h1;exact h1
      clear hr;go_wp2_with fail;go_roundw;case rel=>exact⟨i+1,by omega,by go_num,M,HP.o.1.own,HP.o.1.below,HF.o⟩
      case measure=>simp[intOf];omega
  ·as_aux_lemma=>
   have HF:Hid (Aq wr w u5 (Ak L (dq n R))/\Below w w wr):=by
    have CR:i=m:=by omega
    have h1:=HP.o.2.2;rw[CR,<-HM.o,lM] at h1;simp only[Ak,eX] at h1;have hb:=HX.o.2;have h2:=HP.o.1;rw[h1,<-HT.o] at h2;exact⟨h2.mono hb.size,hb.tr HP.o.2.1⟩
   go_wp2_with fail;go_ret;exact⟨_,rfl,HF.o.1,HF.o.2⟩
open Go.RowKit Go.WideMaps Go.Maps
theorem zjx {n M:Nat}{R L:List (Int × Int × Int)}(h:Ed n M L)(hi:G.Inv R L):Inn n R:=λ e he=>by
 have hn:=h.nat (hi.perm.subset he);exact⟨hn.2.2.1,hn.2.2.2.1,hn.1,hn.2.1⟩
theorem zum {n:Nat}{R:List (Int × Int × Int)}(h:Inn n R)(x:Nat)(Fe:Nat->Int):R.filter (G.stays Fe (λ _=>(x:Int)) 0 1)=wo R x:=by
 unfold wo;apply dP;intro e he;obtain⟨_,_,h1,h2⟩:=h e he;unfold G.stays G.among;rw[h1,h2,dV];simp;omega
theorem zjc {n:Nat}{R:List (Int × Int × Int)}(h:Inn n R)(x:Nat):Inn n (wo R x):=λ e he=>h e (Ob.1 he).1
theorem zhm (R:List (Int × Int × Int))(x:Nat):(wo R x).length<=R.length:=aW _ _
theorem Xo {R L:List (Int × Int × Int)}(h:R.Perm L){u v:Nat}:cnR R u v↔cnR L u v:=
 ⟨λ k=>Bi k λ _ he=>h.subset he,λ k=>Bi k λ _ he=>h.symm.subset he⟩
theorem zbn {R L:List (Int × Int × Int)}(h:R.Perm L)(x:Nat):(wo R x).Perm (wo L x):=h.filter _
theorem one_id' (w:World)(x:Int):G.Ints (w.alloc (.cells #[x] 3)) (some ⟨w.heap.size,0,none⟩) 1 (λ _=>x):=
 ⟨λ _=>⟨w.heap.size,0,rfl,λ t ht=>by
   have:t=0:=by omega
   subst this;simp⟩⟩
theorem zuh {n:Nat}{L:List (Int × Int × Int)}(p9:∀e∈L,ea e<n/\eb e<n){u v:Nat}(h:cnR L u v):u=v\/(u<n/\v<n):=
 Ag.least (P:=λ u v=>u=v\/(u<n/\v<n)) h (λ _=>.inl rfl) (by rintro x y (h|h);exact .inl h.symm;exact .inr ⟨h.2,h.1⟩) (by
  rintro x y z (rfl|h) (rfl|k)
  ·exact .inl rfl
  ·exact .inr k
  ·exact .inr h
  ·exact .inr ⟨h.1,k.2⟩) (by
  rintro _ _ ⟨e,he,rfl,rfl⟩;exact .inr (p9 e he))
def gd (was l:List Nat)(x a b:Nat):Prop:=a≠x/\b≠x/\was.getD a 0=was.getD b 0/\l.getD a 0≠l.getD b 0
theorem zr9 {n M x:Nat}{L:List (Int × Int × Int)}{was l:List Nat}(h:Ed n M L)(hw:∀u v,u<n->v<n->(was.getD u 0=was.getD v 0↔cnR L u v))(hl:∀u v,u<n->v<n->(l.getD u 0=l.getD v 0↔cnR (wo L x) u v)):
 (∃a,a<n/\∃b,b<a/\gd was l x a b)↔Nn L x:=by
 unfold Nn;rw[<-zqk h.proper];constructor
 ·rintro⟨a,ha,b,hb,h1,h2,h3,h4⟩
  exact⟨a,b,h1,h2,(hw a b ha (by omega)).1 h3,λ c=>h4 ((hl a b ha (by omega)).2 c)⟩
 ·rintro⟨u,v,h1,h2,h3,h4⟩
  have j6:u<n/\v<n:=by
   rcases zuh h.inn h3 with rfl|k
   ·exact absurd (Bc _) h4
   ·exact k
  have hg:gd was l x u v:=⟨h1,h2,(hw u v j6.1 j6.2).2 h3,λ c=>h4 ((hl u v j6.1 j6.2).1 c)⟩;rcases eP u v with c|c|c
  ·exact⟨v,j6.2,u,c,h2,h1,hg.2.2.1.symm,λ k=>hg.2.2.2 k.symm⟩
  ·subst c;exact absurd (Bc _) h4
  ·exact⟨u,j6.1,v,c,hg⟩
def Pb (was l:List Nat)(x a b:Nat)(pb:Bool):Prop:=pb=true↔((∃a',a'<a/\∃b',b'<a'/\gd was l x a' b')\/∃b',b'<b/\gd was l x a b')
theorem zk0 (was l:List Nat)(x:Nat):Pb was l x 0 0 false:=by
 unfold Pb;refine⟨λ h=>(by cases h),?_⟩;rintro(⟨a,h,_⟩|⟨b,h,_⟩) <;> omega
theorem ziu {was l:List Nat}{x a b:Nat}{pb:Bool}(h:Pb was l x a b pb)(hg:pb=true\/gd was l x a b):Pb was l x a (b+1) true:=by
 unfold Pb at h ⊢;refine⟨λ _=>?_,λ _=>rfl⟩;rcases hg with hg|hg
 ·rcases h.1 hg with k|⟨b',hb,k⟩
  ·exact .inl k
  ·exact .inr ⟨b',by omega,k⟩
 ·exact .inr ⟨b,by omega,hg⟩
theorem Zz {was l:List Nat}{x a b:Nat}(h:Pb was l x a b false)(hg:¬gd was l x a b):Pb was l x a (b+1) false:=by
 unfold Pb at h ⊢;refine⟨λ c=>(by cases c),?_⟩;rintro(k|⟨b',hb,k⟩)
 ·exact h.2 (.inl k)
 ·by_cases c:b'=b
  ·subst c;exact absurd k hg
  ·exact h.2 (.inr ⟨b',by omega,k⟩)
theorem zp5 {was l:List Nat}{x a:Nat}{pb:Bool}(h:Pb was l x a a pb):Pb was l x (a+1) 0 pb:=by
 unfold Pb at h ⊢;rw[h];constructor
 ·rintro(⟨a',ha,k⟩|k)
  ·exact .inl ⟨a',by omega,k⟩
  ·exact .inl ⟨a,by omega,k⟩
 ·rintro(⟨a',ha,k⟩|⟨b',hb,_⟩)
  ·by_cases c:a'=a
   ·subst c;exact .inr k
   ·exact .inl ⟨a',by omega,k⟩
  ·omega
theorem zsq {was l:List Nat}{x n:Nat}{pb:Bool}(h:Pb was l x n 0 pb):pb=true↔∃a,a<n/\∃b,b<a/\gd was l x a b:=by
 unfold Pb at h;rw[h];constructor
 ·rintro(k|⟨b',hb,_⟩)
  ·exact k
  ·omega
 ·exact λ k=>.inl k
theorem tu (x n B q:Nat)(u:Value)(R:List (Int × Int × Int))(W:World)(h:G.GAt W B 40 61 q (n:Int) u R)(hl:R.length<=120)(p9:Inn n R):
 Calls prog 58 #[.pointer q,.slice none 0 0,.slice W 1 1] (W.alloc (.cells #[x] 3)) λ e w'=>∃q' v',e=Value.pointer (some ⟨q',0,none⟩)/\G.GAt w' W 40 61 q' (n:Int) v' (wo R x)/\Below W W w':=by
 have j5:Below W W (W.alloc (.cells #[x] 3)):=b_;refine(G.Du (n:Int) B q u R none (some ⟨W.heap.size,0,none⟩) 0 1 0 1 (λ _=>0) (λ _=>(x:Int)) _ (h.below j5) hl ⟨λ h=>by omega⟩ (one_id' W x) (by omega) (by omega)).mono ?_;rintro e w' ⟨q',v',rfl,hg',hb'⟩;rw[zum p9] at hg';exact⟨q',v',rfl,⟨hg'.hp,hg'.row.mono j5.size,hg'.ne⟩,j5.tr hb'⟩
theorem zle (n B q M:Nat)(u:Value)(R L:List (Int × Int × Int))(w:World)(h:G.GAt w B 40 61 q (n:Int) u R)(hi:G.Inv R L)(AV:Ed n M L)(hn:n<=40):
 Calls prog 63 #[.pointer q] w λ e w'=>∃v cs,e= .returned v/\Dq L n cs/\w'.ownsRow w 3 1 v cs.length (Cy cs)/\Below w w w':=by
 have FO:R.length<=120:=by rw[hi.rz];exact hi.len
 have HG:=kd h;have BG:Hid (Inn n R):=zjx AV hi;have HE:=kd (And.intro AV hi.perm);obtain⟨i0,GJ,BR,BU,BM⟩:=info_parts Tryz.info3;clear h hi AV;go_enter func63,ntmps63;go_wp2_with fail;refine(De n B q u R w HG.o FO hn BG.o).mono ?_;rintro e w1 ⟨b0,was,rfl,hr,BP,hwl,BD,BH⟩;have HW:Hid (Aj w1 b0 was/\∀u v,u<n->v<n->(was.getD u 0=was.getD v 0↔cnR L u v)):=⟨hr,λ u v hu hv=>by rw[BD u v hu hv];exact Xo HE.o.2⟩;have x8:=kd BH;have hc:=(HG.o.below BH).c0;have hb0l:=hr.lt;have PD:=BH.size;clear hr BD BH;go_wp2_with fail;go_loopw [4,16] (λ s4 s16 wq=>∃(x:Nat) (cs:List Nat),x<=n/\s16=x/\Dq L x cs/\wq.ownsRow w1 3 1 s4 cs.length (Cy cs)/\Below w1 w1 wq) (λ _ s16 _=>n-(intOf s16).toNat)
 case atStart=>exact⟨0,[],aN _,rfl,Dq.start L,aX _ _ _ _,aI _ _⟩
 case round=>
  obtain⟨x,cs,hx,rfl,KC,o8,UN⟩:=hrel;have TT:=kd KC;have OI:=kd UN;have FR:=(HG.o.below x8.o).below UN;have IU:=kd FR;have VL:=UN.size;have GV:=KC.len;clear KC UN hc;by_cases j6:x<n
  ·have hc:=FR.c0
   clear FR;go_wp2_with fail;refine(tu x n B q u R wr IU.o FO BG.o).mono ?_;rintro e w2 ⟨q',v',rfl,AU,j5⟩;have GD:=kd (And.intro AU j5);clear AU j5 hc;go_wp2_with fail;refine(De n wr q' v' (wo R x) w2 GD.o.1 (aD (zhm R x) FO) hn (zjc BG.o x)).mono ?_;rintro e w3 ⟨b1,l,rfl,LH,j4,FK,IB,IX⟩;have AZ:Hid (Below wr wr w3):=GD.o.2.tr IX;have hcut:=zr9 (x:=x) (was:=was) (l:=l) HE.o.1 HW.o.2 (λ u v hu hv=>by rw[IB u v hu hv];exact Xo (zbn HE.o.2 x));have NC:=kd hcut;have hc:=(IU.o.below AZ.o).c0;have XG:Hid (w3.ownsRow w1 3 1 u4 cs.length (Cy cs)):=o8.kept (Ai AZ.o) (by cases u4.ownBlock <;> simp);have CQ:Hid (Below w1 w1 w3):=OI.o.trans (AZ.o.mono VL);have PM:=kd LH;have CY:Hid (Aj w3 b0 was):=(HW.o.1.below CQ.o hb0l);clear LH IB IX hcut GD o8 OI IU;go_wp2_with fail;go_loopw [7,28] (λ s7 s28 wq=>∃(a:Nat) (pb:Bool),a<=n/\s28=a/\s7= .bool pb/\Pb was l x a 0 pb/\Below w3 w3 wq) (λ _ s28 _=>n-(intOf s28).toNat)
   case atStart=>exact⟨0,false,aN _,rfl,rfl,zk0 was l x,aI _ _⟩
   case round=>
    obtain⟨a,pb,ha,rfl,rfl,YT,MM⟩:=hrel;have TY:=kd YT;have FX:=kd MM;clear YT MM hc;by_cases hlta:a<n
    ·go_wp2_with fail
     go_loopw [7,32] (λ s7 s32 wq=>∃(b:Nat) (pb:Bool),b<=a/\s32=b/\s7= .bool pb/\Pb was l x a b pb/\Below w3 w3 wq) (λ _ s32 _=>a-(intOf s32).toNat)
     case atStart=>exact⟨0,pb,aN _,rfl,rfl,TY.o,FX.o⟩
     case round=>
      clear TY FX;obtain⟨b,pb,hb,rfl,rfl,YT,EN⟩:=hrel;have TY:=kd YT;have PZ:=kd EN;by_cases hltb:b<a
      ·have cwa:=(CY.o.below EN CY.o.lt).cell a (by omega)
       have cwb:=(CY.o.below EN CY.o.lt).cell b (by omega);have cla:=(PM.o.below EN PM.o.lt).cell a (by omega);have clb:=(PM.o.below EN PM.o.lt).cell b (by omega);obtain⟨A,hA⟩:∃A,was.getD a 0=A:=⟨_,rfl⟩;obtain⟨A',hA'⟩:∃A,was.getD b 0=A:=⟨_,rfl⟩;obtain⟨E,hE⟩:∃A,l.getD a 0=A:=⟨_,rfl⟩;obtain⟨E',hE'⟩:∃A,l.getD b 0=A:=⟨_,rfl⟩;rw[hA] at cwa;rw[hA'] at cwb;rw[hE] at cla;rw[hE'] at clb;have IW:Hid (gd was l x a b↔(a≠x/\b≠x/\A=A'/\E≠E')):=by
        show gd was l x a b↔_;unfold gd;rw[hA,hA',hE,hE']
       clear YT EN hA hA' hE hE';go_upto_region 14 with fail
       cases pb with
       |true=>
        as_aux_lemma=>
        go_quiet (fail);go_wp2_with fail;go_roundw;case rel=>exact⟨b+1,true,by omega,by go_num,rfl,ziu TY.o (.inl rfl),below_drewN PZ.o _⟩
        case measure=>simp[intOf];omega
       |false=>
        by_cases h1:a=x
        ·as_aux_lemma=>
         subst h1;have HN:Hid (Pb was l a a (b+1) false):=Zz TY.o (λ c=>(IW.o.1 c).1 rfl);go_quiet (fail);go_wp2_with fail;go_roundw;case rel=>exact⟨b+1,false,by omega,by go_num,rfl,HN.o,below_drewN PZ.o _⟩
         case measure=>simp[intOf];omega
        ·have q1:((a:Int) != (x:Int))=true:=iO.2 (by omega)
         by_cases h2:b=x
         ·as_aux_lemma=>
          subst h2;have HN:Hid (Pb was l b a (b+1) false):=Zz TY.o (λ c=>(IW.o.1 c).2.1 rfl);go_quiet (fail);go_wp2_with fail;go_roundw;case rel=>exact⟨b+1,false,by omega,by go_num,rfl,HN.o,below_drewN PZ.o _⟩
          case measure=>simp[intOf];omega
         ·have q2:((b:Int) != (x:Int))=true:=iO.2 (by omega)
          by_cases h3:A=A'
          ·subst h3
           by_cases h4:E=E'
           ·as_aux_lemma=>
            subst h4;have HN:Hid (Pb was l x a (b+1) false):=Zz TY.o (λ c=>(IW.o.1 c).2.2.2 rfl);go_quiet (fail);go_wp2_with fail;go_roundw;case rel=>exact⟨b+1,false,by omega,by go_num,rfl,HN.o,below_drewN PZ.o _⟩
            case measure=>simp[intOf];omega
           ·as_aux_lemma=>
            have q4:((E:Int) != (E':Int))=true:=iO.2 (by omega);have HN:Hid (Pb was l x a (b+1) true):=ziu TY.o (.inr (IW.o.2 ⟨h1,h2,rfl,h4⟩));clear h1 h2 h4;go_quiet (fail);go_wp2_with fail;go_roundw;case rel=>exact⟨b+1,true,by omega,by go_num,rfl,HN.o,below_drewN PZ.o _⟩
            case measure=>simp[intOf];omega
          ·as_aux_lemma=>
           have q3:((A:Int)==(A':Int))=false:=aH.2 (by omega);have HN:Hid (Pb was l x a (b+1) false):=Zz TY.o (λ c=>h3 (IW.o.1 c).2.2.1);clear h1 h2 h3;go_quiet (fail);go_wp2_with fail;go_roundw;case rel=>exact⟨b+1,false,by omega,by go_num,rfl,HN.o,below_drewN PZ.o _⟩
           case measure=>simp[intOf];omega
      ·have NV:b=a:=by omega
       subst NV;have HPN:Hid (Pb was l x (b+1) 0 pb):=zp5 TY.o;clear YT EN;go_wp2_with fail;go_roundw;case rel=>exact⟨b+1,pb,by omega,by go_num,rfl,HPN.o,PZ.o⟩
       case measure=>simp[intOf];omega
    ·have FT:a=n:=by omega
     subst FT;have HPE:Hid (pb=true↔Nn L x):=(zsq TY.o).trans NC.o;have HOW2:Hid (wr.ownsRow w1 3 1 u4 cs.length (Cy cs)):=XG.o.kept (Ai FX.o) (by cases u4.ownBlock <;> simp);have YV:Hid (Below w1 w1 wr):=CQ.o.tr FX.o;have hwrs2:=YV.o.size;clear TY FX XG CQ;cases pb with
     |true=>
      as_aux_lemma=>
      have HC:Hid (Dq L (x+1) (cs++[x])):=TT.o.yes (HPE.o.1 rfl);have how:=HOW2.o;go_wp2_with (first
       |(at_builtin;refine wpList_append_own_at _ rfl _ _ 48 rfl w1.heap.size 3 i0 (0:Int) 1 8 underlying48 GJ BR BU BM rfl (by decide) u4 _ _ rfl (how.alloc _) wr 1 1 [x] rfl rfl (cell_one_new _ _ _) (ints_oneCell .i64 [(x:Int)]) (by unfold maxLen;omega) (by omega) (by simp;omega) ?_;intro v5 w5 BA AL QN IA)
       |fail)
      have y7:=(bR wr _ _).trans AL;go_roundw;case rel=>exact⟨x+1,cs++[x],by omega,by go_num,HC.o,by simpa[Cy] using BA,YV.o.grown y7 YV.o.size (λ j hj=>(how.lt j hj).1)⟩
      case measure=>simp[intOf];omega
     |false=>
      as_aux_lemma=>
      have HC:Hid (Dq L (x+1) cs):=TT.o.no (λ c=>by have:=HPE.o.2 c;cases this);go_wp2_with fail;go_roundw;case rel=>exact⟨x+1,cs,by omega,by go_num,HC.o,HOW2.o,YV.o⟩
      case measure=>simp[intOf];omega
  ·have DK:x=n:=by omega
   subst DK;have HF:Hid (wr.ownsRow w 3 1 u4 cs.length (Cy cs)/\Below w w wr):=⟨ownsRow_base_a o8 PD,x8.o.trans (OI.o.mono PD)⟩;clear o8 FR;go_wp2_with fail;go_ret;exact⟨_,cs,rfl,TT.o,HF.o.1,HF.o.2⟩
open Go.Proofs.Tryz
structure H9 (w:World) (base n:Nat) (v:Value) (P:List (Nat × List Nat)):Prop where
 own:w.ownsRow base 48 1 v P.length (P.map λ p=>.slice p.1 n n)
 rows:∀p∈P,Aj w p.1 p.2/\p.2.length=n
theorem H9.below {w w':World}{base n:Nat}{v:Value}{P:List (Nat × List Nat)}(h:H9 w base n v P)(hb:Below w w w'):H9 w' base n v P:=
 ⟨h.own.kept (Ai hb) (by cases v.ownBlock <;> simp),λ p hp=>⟨(h.rows p hp).1.below hb (h.rows p hp).1.lt,(h.rows p hp).2⟩⟩
theorem H9.shape {w:World}{base n:Nat}{v:Value}{P:List (Nat × List Nat)}(h:H9 w base n v P):∃a cap,v= .slice a P.length cap/\∀i p,P[i]? =some p->∃g,a=some ⟨g,0,none⟩/\base<=g/\g<w.heap.size/\w.cell? ⟨g,i,none⟩=some (.slice (some ⟨p.1,0,none⟩) n n):=by
 have h0:=h.own;rcases h.own.2 with⟨rfl,hz⟩|⟨g,cap,cur,rfl,hb,hg,_⟩
 ·refine⟨none,0,by rw[hz],λ i p hi=>?_⟩
  have:=(aC.1 hi).1;omega
 ·refine⟨_,cap,rfl,λ i p hi=>⟨g,rfl,hb,lt_of_some hg,?_⟩⟩
  rw[h0.cellAt i (by have:=(aC.1 hi).1;omega)];simp[hi]
theorem zq5 {w:World}{base:Nat}{v:Value}{k:Nat}{xs:List Value}(h:w.ownsRow base 48 1 v k xs){g:Nat}(hg:v.ownBlock=some g):∃cur,w.heap[g]? =some (.cells cur 48):=by
 rcases h.2 with⟨rfl,_⟩|⟨g',cap,cur,rfl,_,hc,_⟩
 ·simp[Value.ownBlock] at hg
 ·simp[Value.ownBlock] at hg
  subst hg;exact⟨_,hc⟩
theorem H9.push {w w4:World}{base n b:Nat}{v v':Value}{P:List (Nat × List Nat)}{l:List Nat}{o:Obj}(h:H9 w base n v P)(hr:Aj w b l)(hl:l.length=n)(o8:w4.ownsRow base 48 1 v' (P.length+1) ((P.map λ p=>.slice p.1 n n)++[.slice b n n]))
 (hg:(w.alloc o).grownBy w4 v.ownBlock):H9 w4 base n v' (P++[(b,l)]):=by
 refine⟨by simpa using o8,λ p hp=>?_⟩;have h1:Aj w p.1 p.2/\p.2.length=n:=by
  rcases aK.1 hp with hp|hp
  ·exact h.rows p hp
  ·rw[aJ.1 hp];exact⟨hr,hl⟩
 refine⟨?_,h1.2⟩;have h2:(w.alloc o).heap[p.1]? =w.heap[p.1]? :=bG w o p.1 h1.1.lt;show w4.heap[p.1]? =_;rw[hg.block p.1 (by have:=h1.1.lt;simp;omega) (λ e=>?_),h2]
 ·exact h1.1
 ·obtain⟨cur,hc⟩:=zq5 h.own e.symm
  have:=h1.1;unfold Aj at this;rw[this] at hc;simp at hc
def AlS (n:Nat)(L:List (Int × Int × Int))(P:List (Nat × List Nat)):Prop:=∀x p,P[x]? =some p->∀u v,u<n->v<n->(p.2.getD u 0=p.2.getD v 0↔cnR (wo L x) u v)
theorem zkv {n:Nat}{L:List (Int × Int × Int)}{P:List (Nat × List Nat)}{b:Nat}{l:List Nat}(h:AlS n L P)(hl:∀u v,u<n->v<n->(l.getD u 0=l.getD v 0↔cnR (wo L P.length) u v)):AlS n L (P++[(b,l)]):=by
 intro x p hp;rcases eH x P.length with c|c
 ·rw[dR c] at hp;exact h x p hp
 ·rw[fK c] at hp
  have h0:x-P.length=0:=by
   have:=(aC.1 hp).1;simp at this;omega
  rw[h0] at hp;have hx:x=P.length:=by omega
  subst hx;simp at hp;subst hp;exact hl
theorem zdy (x0:Int)(A E x:Nat)(w:World)(hx:x=A\/x=E)(hA:A<=1000)(hE:E<=1000):
 Calls prog 121 #[.agg #[x0,A,E],x] w λ e w'=>e=((A+E-x:Nat):Int)/\Below w w w':=by
 have hr:(A:Int)+(E:Int)-(x:Int)=((A+E-x:Nat):Int):=by omega
 have HR:=kd hr;clear hr;have h1:(x:Int)<=1000:=by omega
 go_enter func121,ntmps121;go_wp2;go_ret;exact⟨by rw[<-HR.o];rfl,b_⟩
theorem yx {e:Int × Int × Int}{x:Nat}(h:tch e x):ea e+eb e-x=ot e x:=by
 unfold tch at h;unfold ot;split <;> omega
def Prog (s:Value)(l l':List Nat)(D:Prop):Prop:=(s= .bool false/\l'=l/\D)\/(s= .bool true/\l'.sum<l.sum)
theorem Prog.imp {s:Value}{l l':List Nat}{D D':Prop}(h:Prog s l l' D)(k:l'=l->D->D'):Prog s l l' D':=by
 rcases h with⟨h1,h2,h3⟩|h
 ·exact .inl ⟨h1,h2,k h2 h3⟩
 ·exact .inr h
theorem Prog.le {s:Value}{l l':List Nat}{D:Prop}(h:Prog s l l' D):l'.sum<=l.sum:=by
 rcases h with⟨_,rfl,_⟩|⟨_,h⟩
 ·exact aF _
 ·exact jZ h
def DnI (L:List (Int × Int × Int))(l:List Nat)(i:Nat):Prop:=∀i',i'<i->∀x k,Rx L x i' k->¬l.getD i' 0<l.getD k 0
def DnK (L:List (Int × Int × Int))(l:List Nat)(i k:Nat):Prop:=DnI L l i/\∀k',k'<k->∀x,Rx L x i k'->¬l.getD i 0<l.getD k' 0
def DnT (L:List (Int × Int × Int))(l:List Nat)(i k t:Nat)(e:Int × Int × Int):Prop:=DnK L l i k/\(0<t->Rx L (ea e) i k->¬l.getD i 0<l.getD k 0)/\(1<t->Rx L (eb e) i k->¬l.getD i 0<l.getD k 0)
theorem zp3 {L:List (Int × Int × Int)}{l:List Nat}{i k:Nat}{e:Int × Int × Int}(he:L[i]? =some e)(h:DnT L l i k 2 e):DnK L l i (k+1):=by
 refine⟨h.1.1,λ k' hk x hr=>?_⟩;by_cases c:k'=k
 ·rw[c] at hr ⊢
  obtain⟨e',f,h1,h2,h3,h4,h5⟩:=id hr;rw[he] at h1;cases h1;rcases h3 with h3|h3
  ·exact h.2.1 (by omega) (by rw[h3];exact hr)
  ·exact h.2.2 (by omega) (by rw[h3];exact hr)
 ·exact h.1.2 k' (by omega) x hr
theorem zpn {L:List (Int × Int × Int)}{l:List Nat}{i m:Nat}(hm:L.length=m)(h:DnK L l i m):DnI L l (i+1):=by
 intro i' hi x k hr;by_cases c:i'=i
 ·subst c;exact h.2 k (by have:=hr.lt.2;omega) x hr
 ·exact h.1 i' (by omega) x k hr
theorem zqn {L:List (Int × Int × Int)}{l:List Nat}{m:Nat}(hm:L.length=m)(h:DnI L l m):∀x i k,Rx L x i k->¬l.getD i 0<l.getD k 0:=λ x i k hr=>h i (by have:=hr.lt.1;omega) x k hr
end Go.Proofs.Y.S
namespace Go.Proofs.Y.S
open Go.Proofs.Tryz
open Go.RowKit Go.WideMaps Go.Maps
theorem Bg.kept {w w':World}{base:Nat}{t:Value}{Gs:List (List Nat)}{r c:Nat->Nat}{row:Option Nat}(h:Bg w base t Gs r c)(hg:w.grownBy w' row)(hr:∀m,row=some m->m<base):Bg w' base t Gs r c:=by
 have l9:∀{v:Value} {e k:Nat} {xs:List Value},w.ownsRow base e 1 v k xs->v.ownBlock=none\/v.ownBlock≠row:=by
  intro v e k xs ho;cases hv:v.ownBlock with
  |none=>exact .inl rfl
  |some b=>
   refine .inr (λ c=>?_);have h1:=(ho.lt b hv).1;have h2:=hr b c.symm;omega
 exact⟨h.own.kept hg (l9 h.own),λ i hi=>⟨(h.each i hi).1.kept hg (l9 (h.each i hi).1),(h.each i hi).2⟩,h.apart⟩
theorem Bg.lt {w:World}{base:Nat}{t:Value}{Gs:List (List Nat)}{r c:Nat->Nat}(h:Bg w base t Gs r c)(i:Nat)(hi:i<Gs.length):base<=r i/\r i<w:=(h.each i hi).1.lt (r i) rfl
theorem Bg.begin {w w1 w2:World}{base g cap ρ κ x:Nat}{t:Value}{Gs:List (List Nat)}{r c:Nat->Nat}(h:Bg w base t Gs r c)(o1 o2:Obj)(AX:(w.alloc o1).grownBy w1 t.ownBlock)
 (EA:w1.ownsRow base 48 1 (.slice g (Gs.length+1) cap) (Gs.length+1) (Bq Gs r c++[.slice none 0 0])) (AU:(w1.alloc o2).grownBy w2 none)
 (z8:w2.ownsInts base 3 .i64 (.slice ρ 1 κ) [(x:Int)]) (hρ:w1<=ρ):
 Bg (w2.setCell (g,Gs.length) (.slice ρ 1 κ)) base (.slice g (Gs.length+1) cap) (Gs++[[x]]) (λ i=>if i=Gs.length then ρ else r i) (λ i=>if i=Gs.length then κ else c i):=by
 have hglt:=EA.lt g rfl;have TI:w2.ownsRow base 48 1 (.slice g (Gs.length+1) cap) (Gs.length+1) (Bq Gs r c++[.slice none 0 0]):=(EA.alloc o2).kept AU (.inr (by simp[Value.ownBlock]));have PN:=TI.stored Gs.length (.slice ρ 1 κ);have FO:(Bq Gs r c).length=Gs.length:=by simp[Bq]
 have BN:(Bq Gs r c++[Value.slice none 0 0]).set Gs.length (.slice ρ 1 κ)=Bq (Gs++[[x]]) (λ i=>if i=Gs.length then ρ else r i) (λ i=>if i=Gs.length then κ else c i):=by
  have e1:(Bq Gs r c++[Value.slice none 0 0]).set Gs.length (.slice ρ 1 κ)=Bq Gs r c++[.slice ρ 1 κ]:=by
   rw[List.set_append_right _ _ (by omega),FO];simp
  rw[e1];unfold Bq;rw[aM];show _=List.map _ (List.range (Gs.length+1));rw[dN,dL]
  congr 1
  ·apply fH
   intro i hi;have hi':=bF.1 hi;have l9:i≠Gs.length:=by omega
   simp only[aL l9];rw[Jb hi']
  ·simp
 have FR:w2.grownBy (w2.setCell (g,Gs.length) (.slice ρ 1 κ)) (some g):=⟨rfl,rfl,rfl,by simp,λ i _ hi=>aV _ _ _ _ (λ e=>hi (by rw[e]))⟩;have YW:∀{b:Nat} {cur:Array Value},w2.heap[b]? =some (.cells cur 3)->b≠g:=by
  intro b cur hb c;subst c;rcases TI.2 with⟨h0,_⟩|⟨g',cap',cur',h0,_,hc,_⟩
  ·cases h0
  ·injection h0 with h1 _ _
   injection h1 with h1
   injection h1 with h1 _ _
   subst h1;rw[hb] at hc;injection hc with hc
   injection hc with _ hc
   exact absurd hc (by decide)
 have each3:∀{v:Value} {zs:List Int},w2.ownsInts base 3 .i64 v zs->(w2.setCell (g,Gs.length) (.slice ρ 1 κ)).ownsInts base 3 .i64 v zs:=by
  intro v zs ho;refine⟨ho.1.kept FR ?_,ho.2⟩;rcases ho.1.2 with⟨h0,_⟩|⟨b,cap',cur',h0,_,hc,_⟩
  ·rw[h0];exact .inl rfl
  ·rw[h0];exact .inr (λ c=>YW hc (by simpa[Value.ownBlock] using c))
 have old:∀i,i<Gs.length->w2.ownsInts base 3 .i64 (.slice (some ⟨r i,0,none⟩) (Gs.getD i []).length (c i)) (ints (Gs.getD i [])):=by
  intro i hi;have h1:=h.each i hi;refine⟨((((h1.1.alloc o1).kept AX (.inr (λ e=>h.ne i hi e.symm)))).alloc o2).kept AU (.inr (by simp[Value.ownBlock])),h1.2⟩
 have hw01:w.heap.size<=w1.heap.size:=aD (by simp) AX.size;refine⟨?_,?_,?_⟩
 ·rw[aM,<-BN]
  exact PN.1
 ·intro i hi
  rw[aM] at hi;have hi:i<Gs.length+1:=hi;by_cases e:i=Gs.length
  ·subst e
   simp only[aP];rw[Qn];exact each3 z8
  ·simp only[aL e]
   have hi':i<Gs.length:=by omega
   rw[Jb hi'];exact each3 (old i hi')
 ·intro i j hi hj l9
  rw[aM] at hi hj;have hi:i<Gs.length+1:=hi;have hj:j<Gs.length+1:=hj;by_cases e1:i=Gs.length
  ·by_cases e2:j=Gs.length
   ·omega
   ·simp only[aP e1,aL e2]
    have:=(h.lt j (by omega)).2;omega
  ·by_cases e2:j=Gs.length
   ·simp only[aL e1,aP e2]
    have:=(h.lt i (by omega)).2;omega
   ·simp only[aL e1,aL e2]
    exact h.apart i j (by omega) (by omega) l9
def pgI (L:List (Int × Int × Int))(l:List Nat)(t:Nat):List (List Nat):=(pgr l t).map (List.map (idN L))
theorem Vk (L:List (Int × Int × Int))(l:List Nat)(t:Nat):(pgI L l t).length=(lst l t).length:=by simp[pgI,pgr]
theorem zho (L:List (Int × Int × Int))(l:List Nat){t i:Nat}(h:i<(lst l t).length):(pgI L l t).getD i []=(grp l t ((lst l t).getD i 0)).map (idN L):=by
 have:=zhg l t i h;unfold pgI;rw[bH,bJ];rw[bH] at this;have h2:i<(pgr l t).length:=by rw[K5];exact h
 rw[aB h2] at this ⊢;simp at this ⊢;rw[this]
theorem zfv (L:List (Int × Int × Int)){l:List Nat}{t i:Nat}(hi:i<(lst l t).length)(h:(lst l t).getD i 0=l.getD t 0):pgI L l (t+1)=(pgI L l t).set i ((pgI L l t).getD i []++[idN L t]):=by
 rw[zho L l hi];unfold pgI;rw[Yc hi h,List.map_set,dL];rfl
theorem zkq (L:List (Int × Int × Int)){n:Nat}{l:List Nat}{t:Nat}(g:Good n l)(ht:t<n)(h:∀i,i<(lst l t).length->(lst l t).getD i 0≠l.getD t 0):pgI L l (t+1)=pgI L l t++[[idN L t]]:=by
 unfold pgI;rw[wu g ht h,dL];rfl
theorem zoe (L:List (Int × Int × Int))(l:List Nat):pgI L l L.length=Ha L l:=by
 unfold pgI Ha pgr;rw[fB];rfl
structure Am (D:DataW Unit) (ks:List Nat):Prop where
 key:∀y:Nat,Maps.has D y=true↔y∈ks
 val:∀(i y:Nat),ks[i]? =some y->∀zd,D.atKey y zd= .lit i
theorem Am.start:Am (.map []) []:=⟨λ y=>by simp[Maps.has],λ i y h=>by simp at h⟩
theorem Am.put {D:DataW Unit}{ks:List Nat}(h:Am D ks)(hD:IsMap D){y:Nat}(hy:y∉ks):Am (D.put y (.lit ks.length)) (ks++[y]):=by
 refine⟨λ z=>?_,λ i z hz zd=>?_⟩
 ·by_cases c:z=y
  ·subst c
   rw[has_put_same hD (Cr _)];simp
  ·rw[has_put_other (by simp;omega),h.key];simp[c]
 ·rcases eH i ks.length with c|c
  ·rw[dR c] at hz
   have l9:z≠y:=λ e=>hy (e▸aG hz)
   rw[atKey_put_other (by simp;omega)];exact h.val i z hz zd
  ·rw[fK c] at hz
   have h0:i-ks.length=0:=by
    have:=(aC.1 hz).1;simp at this;omega
   rw[h0] at hz;have hzy:z=y:=by simpa using hz.symm
   have LQ:i=ks.length:=by omega
   rw[hzy,LQ,atKey_put_same hD (Cr _)]
end Go.Proofs.Y.S
