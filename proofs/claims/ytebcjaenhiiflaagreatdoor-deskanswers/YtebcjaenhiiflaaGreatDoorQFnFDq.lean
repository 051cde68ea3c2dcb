import Derived.Test.YtebcjaenhiiflaaGreatDoorQXfFl
import Derived.Shelf.SlicesQ.Reverse
import Derived.Ground.SlgnProg
set_option maxHeartbeats 8000000
set_option maxRecDepth 100000
namespace Go.Proofs
open Go.Proofs.Tryz
open Go.Shelf
def Tryz.rev124_ren:Go.Shelf.Ren:=⟨λ|35=>350|n=>n,λ|22=>347|23=>346|3=>3|4=>4|0=>0|n=>n,λ|n=>n⟩
theorem Tryz.rev161:Go.Proofs.SlLaysE0.n35 prog Tryz.rev124_ren:={
 mixed:=by kernel_rfl
 f35:=⟨Tryz.f350.name,by decide,func350.trans c_⟩
 t0:=underlying0
 a0:=isAgg0
 z0:=sizeOf0
 v0:=zeroValue0
 t3:=underlying3
 a3:=isAgg3
 z3:=sizeOf3
 v3:=zeroValue3
 t4:=underlying4
 a4:=isAgg4
 z4:=sizeOf4
 v4:=zeroValue4
 t22:=underlying347
 a22:=isAgg347
 z22:=sizeOf347
 v22:=zeroValue347}
end Go.Proofs
namespace Go.Proofs.Y.S
open Go.Proofs.Tryz
open Go Go.ChangeMaps Go.MapKept Go.WideShapes
open Go.RowKit Go.WideMaps Go.Maps Go.Sort F
theorem zlw (L:List Stp)(t:Nat)(h:t<L.length*3):(G.Af L)[t]? =some ((G.Au (L[t/3]!))[t%3]!):=by
 have hi:t/3<L.length:=by omega
 obtain⟨a,b,c⟩:=G.R7 L (t/3) L[t/3] (aB hi);rw[jB L (t/3) hi];have hm:t%3=0\/t%3=1\/t%3=2:=by omega
 rcases hm with e|e|e
 ·rw[show t/3*3=t by omega] at a
  rw[a,e];rfl
 ·rw[show t/3*3+1=t by omega] at b
  rw[b,e];rfl
 ·rw[show t/3*3+2=t by omega] at c
  rw[c,e];rfl
theorem flat_get (L:List Stp)(t:Nat)(h:t<L.length*3):(G.Af L)[t]? =some (flatK G.Au 3 L.toArray)[t]! :=by
 rw[get_flatK _ _ _ _ (by simpa using h),zlw L t h];have hi:t/3<L.length:=by omega
 rw[jB L (t/3) hi,jB L.toArray (t/3) (by simpa using hi)];simp
theorem zow (x:Stp):∀v∈G.Au x,v.oneCell'=true:=λ v hv=>by
 simp[G.Au] at hv;rcases hv with rfl|rfl|rfl <;> rfl
theorem zoj (w:World)(B:Nat)(v:Value)(P:List Stp)(h:G.Ad w B 346 v P)(hP:P.length<=100000):
 Calls prog 350 #[v] w λ e w'=>e=Value.tuple #[]/\G.Ad w' B 346 v P.reverse/\w.grownBy w' v.ownBlock:=by
 rcases h.2 with⟨rfl,h0⟩|⟨g,cap,cur,rfl,hb,hg,hn,hm,hs,ht⟩
 ·refine(AnyQ.slices_Reverse_empty Tryz.rev161 none 0 w).mono ?_
  rintro e w' ⟨rfl,rfl⟩;have:P=[]:=bV h0;subst this;exact⟨rfl,h,⟨rfl,rfl,rfl,aF _,λ _ _ _=>rfl⟩⟩
 ·have hH:HoldsK G.Au 3 w g 0 P.toArray:=λ j hj=>by
   have hj':j<P.length*3:=by simpa using hj
   refine⟨?_,by simp[World.frozen?,hg]⟩;have:=bQ h rfl j _ (flat_get P j hj');rw[G.Bh] at this;rw[gG];exact this
  have hc:=AnyQ.slices_Reverse Tryz.rev161 3 isAgg346 sizeOf346 G.Au (λ _=>rfl) zow g 0 cap P.toArray w hH (by simp;omega);rw[show P.toArray.size=P.length by simp] at hc;refine aA hc ?_;rintro e w' ⟨rfl,n,rfl⟩;refine⟨rfl,⟨by rw[G.Ae],.inr ⟨g,cap,putCells id 0 (flatK G.Au 3 P.toArray.reverse) cur,by simp,hb,?_,by simpa using hn,hm,by simpa[putCells] using hs,?_⟩⟩,⟨rfl,rfl,rfl,by simp[putRowK,putRow,mapBlock,Sort.ahead],λ k hk l9=>?_⟩⟩
  ·simp[putRowK,putRow,mapBlock,Sort.ahead,Array.getElem?_modify,hg,onCells]
  ·apply List.ext_getElem?
   intro j;rw[dY,Array.getElem?_toList];by_cases hj:j<P.reverse.length*3
   ·have hl:P.reverse.length=P.length:=by simp
    have hn3:=Nat.mul_le_mul_right 3 hn;have hjc:j<cur.size:=by omega
    rw[aP hj,flat_get P.reverse j hj];simp only[putCells,Array.getElem?_mapIdx,Array.getElem?_eq_getElem hjc,Option.map_some];rw[aP (by simp;omega)];simp
   ·rw[aL hj,List.getElem?_eq_none (by rw[G.Ae];omega)]
  ·have hne':g≠k:=λ e=>l9 (by rw[<-e];rfl)
   simp[putRowK,putRow,mapBlock,Sort.ahead,Array.getElem?_modify,hne']
open Go Go.ChangeMaps Go.MapKept Go.WideShapes Go.Proofs.Tryz
open Go.RowKit Go.WideMaps Go.Maps F
def su (w:World)(D:List Stp)(inn:Stp->Bool)(a b:Int)(e:Ending)(w':World):Prop:=
 ∃v P,e= .returned v/\Below w w w'/\G.Ad w' w 346 v P/\((Walk a P b/\P.Nodup/\∀s∈P,s∈D/\inn s=true)\/(P=[]/\∃S:Int->Bool,S a=true/\S b=false/\∀s∈D,out S s=true->inn s=false))
theorem zlp (x y z:Int)(w:World):(Instr.field 346 (.agg #[x,y,z]) 1).run prog w= .ok y w:=by kernel_rfl
theorem zdv (p lm rm N B:Nat)(M:DataW Unit)(L:DataW Value)(D:List Stp)(r:Stp->Int)(f:Int->Value)(g:Int->List Stp)(inn:Stp->Bool)(a b:Int)(w:World)(h:Gq w p lm rm N B M L D r f g)
 (hg:∀x s,s∈g x↔s∈D/\fr s=x) (IK:∀x,(g x).length<=1000) (hr:∀s∈D,0<=tt s/\tt s<1000) (hDl:D.length<=1000) (ha0:0<=a) (YU:a<1000) (BP:0<=b) (j4:b<1000)
 (hf:∀W s,s∈D->Below w w W->Calls prog 316 #[.pointer p,vS s] W λ e w'=>e=Value.bool (inn s)/\Below W W w'):
 Calls prog 315 #[.pointer p,a,b,.func (.func 316) #[.pointer p] #[]] w (su w D inn a b):=by
 have HF:=kd hf;have HN:=kd h;have HG:Hid ((∀x s,s∈g x↔s∈D/\fr s=x)/\(∀x,(g x).length<=1000)/\∀s∈D,0<=tt s/\tt s<1000):=⟨hg,IK,hr⟩;obtain⟨w1,r1,hsz1,c0,GY,hQ0⟩:=zim w g inn ha0 YU;have FQ:Hid (ay w w g inn a 0 (.slice w1 1 1) (w1.alloc (.cells #[a] 3))):=⟨[a],c0,GY,aN _,hQ0,λ k y hk=>by omega⟩;have FC:=@run_makeMap prog;obtain⟨cb,NW⟩:∃cb,w.heap.size=cb:=⟨_,rfl⟩;have HCB:=kd NW;clear h hf hg IK hr GY hQ0 hsz1;unfold vS at r1;rw[NW] at r1 FQ;go_enter func315,ntmps315;go_wp2_with fail;clear NW;go_loopg [10] 1000 (λ rr s10 wq=>∃i,i+rr=1000/\ay w cb g inn a i s10 wq)
 case atStart=>exact⟨0,by omega,FQ.o⟩
 case round=>
  clear FQ r1;obtain⟨i,hi,WO⟩:=hrel;obtain⟨q,c,EY,hiq,⟨ad,cap,rfl,hq⟩,hdn⟩:=WO;have DY:=kd EY;have HDN:=kd hdn;have hql:=EY.len;obtain⟨ln,YN⟩:∃ln,(q.drop i).length=ln:=⟨_,rfl⟩;have QD:=kd YN;have HQ:=kd hq;rw[YN];obtain⟨wy,hwy⟩:∃wy,wy=wr:=⟨_,rfl⟩;subst hwy;obtain⟨gk1,hgk1⟩:∃gk1,gk1=gk:=⟨_,rfl⟩;subst hgk1;clear EY hdn hq YN;by_cases hpos:0<ln
  ·
   have hlnq:ln=q.length-i:=by have:=QD.o;simp at this;omega
   have hiq2:i<q.length:=by omega
   have l9:q.drop i≠[]:=λ e=>by have:=QD.o;rw[e] at this;simp at this;omega
   obtain⟨gq,o,had,PX⟩:=HQ.o l9;subst had;obtain⟨x,hx⟩:∃x,q[i]? =some x:=⟨_,aB (by omega)⟩;have ER:=DY.o.rng x (aG hx);have hc10:wy.cell? (gq,o)=x:=by
    have:=PX.got 0 x (by rw[fA];simpa using hx)
    simpa using this
   have hA:=HN.o.below DY.o.bel;have hp0:wy.cell? p=some (.map lm):=by simp[World.cell?,hA.net.hp]
   obtain⟨va,vc,hv⟩:=(hA.lv.row x).Ap;obtain⟨m,hm⟩:∃m,(g x).length=m:=⟨_,rfl⟩;rw[hm] at hv;have lk:∀n,(Instr.lookup 376 (.map lm) x false).run prog (wy.drewN n)= .ok (.slice va m vc) (wy.drewN n):=λ n=>by
    rw[<-hv];exact(hA.below (below_drewN (aI _ _) n)).lv.look (Av ER.1 (by omega))
   have HM:=kd hm;have HV:=kd hv;have ZM:m<=1000:=by rw[<-hm];exact HG.o.2.1 x
   have HX:=kd hx;have HQUE:=kd PX;have UA:=kd hlnq;clear hA hv hm hx PX l9 HQ hlnq;go_wp2_with fail;go_quiet (fail);go_wp2_with fail;have BG:Hid (InR w cb g inn a i x 0 (.slice (gq,o) ln cap) (wy.drewN nq)):=by
    have hb:=below_drewN (aI wy wy) nq;rw[UA.o];exact⟨q,c,gq,o,cap,DY.o.below hb,HX.o,rfl,HQUE.o.kept (Ai hb) (by simp),HDN.o,λ s hs=>by simp at hs⟩
   clear DY HDN QD HX HQUE UA lk hc10 hp0;obtain⟨wz,hwz⟩:∃wz,wy.drewN nq=wz:=⟨_,rfl⟩;rw[hwz] at BG ⊢;clear hwz;go_loopg [10,39] m (λ rr s10 s39 wq=>∃j:Nat,s39=j/\j+rr=m/\InR w cb g inn a i x j s10 wq)
   case atStart=>exact⟨0,rfl,by omega,BG.o⟩
   case round=>
    clear BG;obtain⟨j,rfl,hj,p9⟩:=hrel;have BG:=kd p9;clear p9;by_cases hjm:j<m
    ·obtain⟨q',c',gq',o',cap',EY,hx,hu,PX,hdn,hjj⟩:=BG.o
     subst hu;obtain⟨⟨y0,y1,y2⟩,hs⟩:∃s:Stp,(g x)[j]? =some s:=⟨_,aB (by rw[HM.o];exact hjm)⟩;have hsg:=aG hs;obtain⟨hsD,VO⟩:=(HG.o.1 x _).1 hsg;have htt:0<=y2/\y2<1000:=HG.o.2.2 _ hsD;have hA:=HN.o.below EY.bel;obtain⟨gw,EF⟩:∃gw,va=some ⟨gw,0,none⟩:=by
      rcases(hA.lv.row x).shape with⟨_,e⟩|⟨gw,cap,e,_⟩
      ·rw[e] at hs;simp at hs
      ·rw[HV.o] at e
       injection e with e1 _ _
       exact⟨gw,e1⟩
     subst EF;obtain⟨r0,r1,r2⟩:=(hA.lv.row x).at (g:=gw) (by rw[HV.o];rfl) hs;simp only at r0 r1 r2;have BK:Below wr wr (wr.alloc (.cells #[y0,y1,y2] 346)):=b_;have lk:=((EY.below BK).look htt.1 htt.2).1;have QW:Hid ((inn (y0,y1,y2)=true->y2∈q')->∀w',Below wr wr w'->InR w cb g inn a i x (j+1) (.slice (gq',o') (q'.length-i) cap') w'):=λ hn w' hb=>InR.skip EY hx PX hdn hjj hs hn hb
     obtain⟨lq,hlq⟩:∃lq,q'.length-i=lq:=⟨_,rfl⟩;rw[hlq] at QW;have HLQ:=kd hlq;have DY:=kd EY;have NN:Hid (q'[i]? =some x/\Que wr w.heap.size gq' o' cap' (q'.drop i)/\Dn g inn q' i/\(∀s∈(g x).take j,inn s=true->tt s∈q')/\(g x)[j]? =some (y0,y1,y2)/\(y0,y1,y2)∈D/\y1=x/\i<q'.length):=⟨hx,PX,hdn,hjj,hs,hsD,VO,(aC.1 hx).1⟩;rw[hlq];have CX:Hid (∀t:Stp,((wr.alloc (.cells #[y0,y1,y2] 346)).alloc (.cells #[t.1,t.2.1,t.2.2] 346)).heap[wr.heap.size]? =some (.cells #[y0,y1,y2] 346)):=λ t=>heap_alloc2_old wr _ _
     have PZ:Hid (∀t:Stp,Below wr wr ((wr.alloc (.cells #[y0,y1,y2] 346)).alloc (.cells #[t.1,t.2.1,t.2.2] 346))):=λ t=>BK.alloc (by simp) _
     clear hx PX hdn hjj hs hsg hsD VO hA BK EY hlq BG;cases hc:c' y2 with
     |some t=>
      as_aux_lemma=>
      obtain⟨t0,t1,t2⟩:=t;have HE:Hid _:=QW.o (λ _=>(DY.o.has y2).1 (by rw[hc];rfl)) _ (PZ.o (t0,t1,t2));rw[hc] at lk;unfold vS at lk;simp only[Option.getD,Option.isSome] at lk HE;clear hc QW NN DY CX PZ HLQ;go_wp2_with fail;go_roundg (gk-1);case measure=>omega
      case rel=>exact⟨j+1,by go_num,by omega,HE.o⟩
     |none=>
      obtain⟨W2,DI⟩:∃W2,W2=(wr.alloc (.cells #[y0,y1,y2] 346)).alloc (.cells #[(0:Int),(0:Int),(0:Int)] 346):=⟨_,rfl⟩;have hbW2:Below wr wr W2:=by rw[DI];exact PZ.o (0,0,0)
      have BF:W2.heap[wr.heap.size]? =some (.cells #[y0,y1,y2] 346):=by rw[DI];exact CX.o (0,0,0)
      have p0:W2.cell? wr=y0:=by simp[World.cell?,BF]
      have p1:W2.cell? (wr,1)=y1:=by simp[World.cell?,BF]
      have p2:W2.cell? (wr,2)=y2:=by simp[World.cell?,BF]
      have EE:=kd DI.symm;have BI:Below w w W2:=DY.o.bel.tr hbW2;have HC:Hid _:=HF.o W2 (y0,y1,y2) NN.o.2.2.2.2.2.1 BI;have y5:=kd hbW2;rw[hc] at lk;unfold vS at lk HC;simp only[Option.getD,Option.isSome] at lk;have UT:=kd hc;clear hc CX PZ DI hbW2 BF BI;go_wp2_with fail;rw[EE.o];refine aA HC.o ?_;rintro e w3 ⟨rfl,y8⟩;have AZ:Hid (Below wr wr w3):=y5.o.tr y8;have q0:=cell_below p0 y8;have q1:=cell_below p1 y8;have q2:=cell_below p2 y8;clear p0 p1 p2 lk y8 HC r0 r1 r2;cases p9:inn (y0,y1,y2) with
      |false=>
       as_aux_lemma=>
       have HE:Hid _:=QW.o (λ h=>by rw[p9] at h;cases h) w3 AZ.o;clear p9 QW NN DY HLQ q0 q1 q2;go_wp2_with fail;go_roundg (gk-1);case measure=>omega
       case rel=>exact⟨j+1,by go_num,by omega,HE.o⟩
      |true=>
       as_aux_lemma=>
       obtain⟨h1,h2,h3,h4,h5,h6,h7,h8⟩:=NN.o;obtain⟨w4,u4,g4,w6,v6,g6,o6,cap6,a6,e6,s6,q6⟩:=zkf (i:=i) (s:=(y0,y1,y2)) (DY.o.below AZ.o) (h2.kept (Ai AZ.o) (by simp)) (by rw[h1];exact congrArg some h7.symm) (by rw[show fr (y0,y1,y2)=x from h7];exact aG h5) p9 UT.o htt.1 htt.2;have hbc:wr.heap.size≠cb:=by
        obtain⟨N,C,XE,_⟩:=(DY.o.below AZ.o).cm;exact XE.pz q0
       have p2:=Fy g4 hbc q2;have HE:Hid (InR w cb g inn a i x (j+1) (.slice (g6,o6) (lq+1) cap6) w6):=by
        have:=InR.more (s:=(y0,y1,y2)) h1 h3 h4 h5 s6 q6;rw[show q'.length+1-i=lq+1 by have:=HLQ.o;omega] at this;exact this
       rw[show q'.length+1-i=lq+1 by have:=HLQ.o;omega] at e6;rw[HLQ.o] at a6;subst e6;have HR:=kd a6;unfold vS tt at u4;unfold tt at HR;simp only at u4 HR;clear h1 h2 h3 h4 h5 h6 h7 h8 p9 g4 s6 q6 a6 QW NN DY HLQ UT;go_wp2_with (at_builtin;refine Lib.wpList_append_run _ rfl _ _ _ _ rfl _ _ rfl rfl _ _ HR.o ?_);go_roundg (gk-1);case measure=>omega
       case rel=>exact⟨j+1,by go_num,by omega,HE.o⟩
    ·have CE:m=j:=by omega
     subst CE;obtain⟨gq',o',len,cap',hu,hlc,WO,WQ⟩:=BG.o.done (by rw[HM.o];exact aF _);subst hu;by_cases hcz:cap'=0
     ·as_aux_lemma=>
      have hlz:len=0:=by omega
      subst hcz;subst hlz;have HO:Hid (ay w cb g inn a (i+1) (.slice (gq',o') 0 0) wr):=WQ rfl _ _;clear BG WO WQ;go_wp2_with fail;go_roundg (gk1-1);case measure=>omega
      case rel=>exact⟨i+1,by omega,HO.o⟩
     ·as_aux_lemma=>
      have HO:=kd WO;clear BG WO WQ;go_wp2_with fail;go_roundg (gk1-1);case measure=>omega
      case rel=>exact⟨i+1,by omega,HO.o⟩
  ·have hln0:ln=0:=by omega
   subst hln0;have hiq2:i=q.length:=by have:=QD.o;simp at this;omega
   subst hiq2;have lk:=(DY.o.look BP j4).1;cases TA:c b with
   |none=>
    as_aux_lemma=>
    have HCL:Hid _:=zfl DY.o HDN.o (D:=D) (λ s hs=>(HG.o.1 _ _).2 ⟨hs,rfl⟩) TA;rw[TA] at lk;unfold vS at lk;simp only[Option.getD,Option.isSome] at lk;clear TA;go_wp2_with fail;go_ret;refine⟨_,[],rfl,DY.o.bel.trans ((aI _ _).alloc DY.o.bel.size _),aX _ _ _ _,.inr ⟨rfl,HCL.o⟩⟩
   |some t=>
    as_aux_lemma=>
    obtain⟨t0,t1,t2⟩:=t;rw[TA] at lk;unfold vS at lk;simp only[Option.getD,Option.isSome] at lk;obtain⟨k0,hk0,hk0e⟩:=dD.1 ((DY.o.has b).1 (by rw[TA];rfl));have HK0:Hid (L8 g inn q b b k0 []):=L8.start (by rw[aB hk0,hk0e]);have HS5:Hid (Sea w (wy.alloc (.cells #[t0,t1,t2] 346)) cb g inn a q c):=DY.o.below (b_);clear TA hk0 hk0e DY;go_wp2_with fail;go_loopg [17,18] k0 (λ rr s17 s18 wq=>∃at_ P,s18= .int .i64 at_/\L8 g inn q at_ b rr P/\Sea w wq cb g inn a q c/\G.Ad wq (cb+1) 346 s17 P)
    case atStart=>exact⟨b,[],rfl,HK0.o,HS5.o,aX _ _ _ _⟩
    case round=>
     clear HK0 HS5 lk;obtain⟨at_,P,rfl,DL,EY,o8⟩:=hrel;have HB:Hid (L8 g inn q at_ b gk P/\Sea w wr cb g inn a q c/\G.Ad wr (cb+1) 346 u17 P):=⟨DL,EY,o8⟩;have q9:=EY.rng at_ (aG DL.here);have TV:P.length<=1000:=aD (Ms P D DL.nd (λ s hs=>((HG.o.1 _ _).1 (DL.good s hs).2).1)) hDl;clear DL o8;by_cases FT:at_=a
     ·as_aux_lemma=>
      subst FT;have HRV:Hid _:=zoj wr (cb+1) u17 P HB.o.2.2 (by omega);go_wp2_with fail;refine aA HRV.o ?_;rintro e w5 ⟨rfl,ho5,YM⟩;have HP:Hid (Below w w w5/\G.Ad w5 w 346 u17 P.reverse):=by
       have h1:=(HB.o.2.1.row HB.o.2.2 YM).bel;exact⟨h1,ho5.mono (by rw[<-HCB.o];omega)⟩
      clear ho5 YM HRV;go_wp2_with fail;go_ret;refine⟨_,P.reverse,rfl,HP.o.1,HP.o.2,.inl ⟨HB.o.1.walk,(List.pairwise_reverse.2 (HB.o.1.nd.imp (λ h=>h.symm))),λ s hs=>?_⟩⟩;have:=HB.o.1.good s (List.mem_reverse.1 hs);exact⟨((HG.o.1 _ _).1 this.2).1,this.1⟩
     ·as_aux_lemma=>
      obtain⟨k',hk',hback'⟩:=L8.step HB.o.2.1.bfs HB.o.1 FT;have lk:=(EY.look q9.1 q9.2).2;obtain⟨t,ht⟩:∃t,(c at_).getD (0,0,0)=t:=⟨_,rfl⟩;rw[ht] at lk;simp only[ht] at hback';obtain⟨v6,w6,a6,o6,g6⟩:=zsk 347 wr (cb+1) u17 P t HB.o.2.2 (by
       obtain⟨N,C,XE,_⟩:=EY.cm;obtain⟨es,clock,hb,_⟩:=XE.mp;exact lt_of_some hb) (by omega)
      have WR:=EY.row HB.o.2.2 g6;have lk6:=(WR.look q9.1 q9.2).2;rw[ht] at lk6;have HE:Hid (L8 g inn q (fr t) b k' (P++[t])/\Sea w w6 cb g inn a q c/\G.Ad w6 (cb+1) 346 v6 (P++[t])):=⟨hback',WR,o6⟩;have HR:=kd a6;obtain⟨t0,t1,t2⟩:=t;unfold vS at lk lk6;unfold fr at HE;simp only at lk lk6 HR HE;have j4:(at_ != a)=true:=by simp[FT]
      have hfd:=zlp;clear ht a6 o6 g6 WR hback' EY HB;go_wp2_with (at_builtin;refine Lib.wpList_append_run _ rfl _ _ _ _ rfl _ _ rfl rfl _ _ HR.o ?_);go_roundg k';case measure=>exact hk'
      case rel=>exact⟨t1,_,rfl,HE.o.1,HE.o.2.1,HE.o.2.2⟩
theorem zr7 {s t:Stp}(h:bk s=bk t):s=t:=by rw[<-Vi s,h,Vi]
theorem ztu (r:Stp->Int){s:Stp}(hs:fr s≠tt s)(x:Stp):tk r s x+tk r s (bk x)=r x+r (bk x):=by
 have hb:=R4 hs;rw[Rw r hs,Rw r hs];by_cases h1:x=s
 ·subst h1
  rw[aP rfl,aL hb,aP rfl];omega
 ·by_cases h2:x=bk s
  ·subst h2
   rw[aL hb,aP rfl,Vi,aP rfl];omega
  ·have h3:bk x≠s:=λ e=>h2 (by rw[<-e,Vi])
   have h4:bk x≠bk s:=λ e=>h1 (zr7 e)
   rw[aL h1,aL h2,aL h3,aL h4]
theorem Xp:∀(p:List Stp) (r:Stp->Int),(∀s∈p,fr s≠tt s)->∀x,tks r p x+tks r p (bk x)=r x+r (bk x)
 |[],_,_,_=>rfl
 |s::p,r,h,x=>by
  show tks (tk r s) p x+tks (tk r s) p (bk x)=_;rw[Xp p (tk r s) (λ t ht=>h t (by simp[ht])) x,ztu r (h s (by simp)) x]
theorem Y4:∀(p:List Stp) (r:Stp->Int) (s:Stp),(∀t∈p,fr t≠tt t)->s∉p->r s<=tks r p s
 |[],_,_,_,_=>jJ _
 |t::p,r,s,h,hn=>by
  have h1:=Y4 p (tk r t) s (λ x hx=>h x (by simp[hx])) (λ k=>hn (by simp[k]));have h2:s≠t:=λ e=>hn (by simp[e])
  have h3:=Rw r (h t (by simp)) (x:=s);rw[aL h2] at h3;have h4:r s<=tk r t s:=by rw[h3];split <;> omega
  exact Int.le_trans h4 h1
theorem zko {p:List Stp}{j:Nat}{s:Stp}(h:p[j]? =some s)(r:Stp->Int):tks r (p.take (j+1))=tk (tks r (p.take j)) s:=by
 rw[bL,h];exact zlg r _ s
theorem tq {p:List Stp}{j:Nat}{s:Stp}(hn:p.Nodup)(h:p[j]? =some s):s∉p.take j:=by
 intro k;obtain⟨i,hi,he⟩:=dD.1 k;have hij:i<j/\i<p.length:=by rw[bN] at hi;omega
 rw[gP] at he;have:=(List.getElem?_inj hij.2 hn).1 ((aB hij.2).trans ((congrArg some he).trans h.symm));omega
section
variable {w w':World} {p lm rm N N' B:Nat} {M M':DataW Unit} {L:DataW Value} {D:List Stp} {r r':Stp->Int} {f:Int->Value} {g:Int->List Stp}
theorem But.grown {b:Nat}(h:But b w w'):w.grownBy w' (some b):=⟨h.os,h.tape,h.output,h.size,λ k hk hn=>h.block k hk (λ e=>hn (by rw[e]))⟩
theorem Gq.taken (h:Gq w p lm rm N B M L D r f g)(hb:But rm w w')(hn:E9 w' p lm rm N' M' D r')(hN:N<=N'):Gq w' p lm rm N' B M' L D r' f g:=
 {net:=hn,lv:={h.lv.grown hb.grown h.ne.symm h.rb with mp:=(h.lv.grown hb.grown h.ne.symm h.rb).mp.mono hN},pb:=h.pb,rb:=h.rb,ne:=h.ne}
theorem Gq.more (h:Gq w p lm rm N B M L D r f g)(hN:N<=N'):Gq w p lm rm N' B M L D r f g:=
 {h with net:=⟨h.net.hp,h.net.mp.mono hN,h.net.rom⟩,lv:={h.lv with mp:=h.lv.mp.mono hN}}
end
def Fl (w0 wq:World)(p lm rm N B:Nat)(D:List Stp)(r0:Stp->Int)(f:Int->Value)(g:Int->List Stp)(a b:Int)(k:Int)(r:Stp->Int):Prop:=
 ∃M L,Gq wq p lm rm N B M L D r f g/\Fill D (cap D r0) a b r k/\(∀x,r x+r (bk x)=r0 x+r0 (bk x))/\But rm w0 wq
def O9 (w:World)(p lm rm N B:Nat)(D:List Stp)(r0:Stp->Int)(f:Int->Value)(g:Int->List Stp)(a b:Int)(most:Nat)(e:Ending)(w':World):Prop:=
 ∃(k:Nat) (r:Stp->Int),e=k/\Val (cap D r0) a b most k/\Fl w w' p lm rm (N+2000*most) B D r0 f g a b k r
theorem But.refl' (b:Nat)(w:World):But b w w:=⟨rfl,rfl,rfl,aF _,λ _ _ _=>rfl⟩
theorem zkm (p lm rm N B most:Nat)(M:DataW Unit)(L:DataW Value)(D:List Stp)(r0:Stp->Int)(f:Int->Value)(g:Int->List Stp)(a b:Int)(w:World)(h:Gq w p lm rm N B M L D r0 f g)(hD:Net D)
 (hg:∀x s,s∈g x↔s∈D/\fr s=x) (IK:∀x,(g x).length<=1000) (hr:∀s∈D,0<=tt s/\tt s<1000) (hDl:D.length<=1000) (VC:∀x,r0 x+r0 (bk x)<=2) (hN:N<=5000) (hm:most<=120) (ha0:0<=a) (YU:a<1000) (BP:0<=b) (j4:b<1000) (BJ:a≠b):
 Calls prog 236 #[.pointer p,a,b,most] w (O9 w p lm rm N B D r0 f g a b most):=by
 have HX:Hid (Net D/\(∀x s,s∈g x↔s∈D/\fr s=x)/\(∀x,(g x).length<=1000)/\(∀s∈D,0<=tt s/\tt s<1000)/\D.length<=1000/\(∀x,r0 x+r0 (bk x)<=2)/\rm<B/\B<=w):=⟨hD,hg,IK,hr,hDl,VC,h.rb,h.lv.le⟩;have HS:Hid (Fl w w p lm rm (N+2000*0) B D r0 f g a b 0 r0):=⟨M,L,h,⟨h.net.rom.pos,λ S _ _=>by omega⟩,λ _=>rfl,But.refl' _ _⟩;have HAB:=kd BJ;have hmf':=hmf;clear h hD hg IK hr hDl VC BJ;go_enter func236,ntmps236;go_wp2_with fail;go_loopw [14] (λ s14 wq=>∃(k:Nat) (r:Stp->Int),k<=most/\s14=k/\Fl w wq p lm rm (N+2000*k) B D r0 f g a b k r) (λ s14 _=>most-(intOf s14).toNat)
 case atStart=>exact⟨0,r0,aN _,rfl,HS.o⟩
 case round=>
  clear HS;obtain⟨k,r,hk,rfl,hfl⟩:=hrel;have HR:=kd hfl;clear hfl;obtain⟨wy,hwy⟩:∃wy,wy=wr:=⟨_,rfl⟩;subst hwy;by_cases j6:k<most
  ·have HC:Hid (Calls prog 315 #[.pointer p,a,b,.func (.func 316) #[.pointer p] #[]] wy (su wy D (λ s=>decide (0<r s)) a b)):=by
    obtain⟨M,L,hA,_,_,_⟩:=HR.o;refine zdv p lm rm _ B M L D r f g _ a b wy hA HX.o.2.1 HX.o.2.2.1 HX.o.2.2.2.1 HX.o.2.2.2.2.1 ha0 YU BP j4 (λ W s hs hW=>zkg p lm rm _ M D r s W (hA.net.below hW) hs)
   go_wp2_with fail;refine aA HC.o ?_;rintro e w2 ⟨v,P,rfl,j5,ho,hP⟩;clear HC;obtain⟨m,YD⟩:∃m,m=P.length:=⟨_,rfl⟩;obtain⟨va,vc,hv⟩:=ho.Ap;rw[<-YD] at hv;subst hv;have HO:=kd ho;have HP:=kd hP;have HM:=kd YD;have CB:Hid (Fl w w2 p lm rm (N+2000*k) B D r0 f g a b k r):=by
    obtain⟨M,L,hA,h2,h3,h4⟩:=HR.o;exact⟨M,L,hA.below j5,h2,h3,h4.trans (But.of_below j5)⟩
   have CQ:=kd j5;clear ho hP YD j5;by_cases XQ:m=0
   ·have HV:Hid (Val (cap D r0) a b most k):=by
     have hPn:P=[]:=bV (by rw[<-HM.o];exact XQ);obtain⟨M,L,hA,h2,_,_⟩:=CB.o;rcases HP.o with⟨hw,_,_⟩|⟨_,S,h3,h4,h5⟩
     ·rw[hPn] at hw
      exact absurd hw HAB.o
     ·refine h2.done (by omega) (by omega) S h3 h4 (λ s hs ho=>?_)
      have:=iN (h5 s hs ho);have:=hA.net.rom.pos s;omega
    subst XQ;go_wp2_with fail;go_ret;refine⟨k,r,rfl,HV.o,?_⟩;obtain⟨M,L,hA,h2,h3,h4⟩:=CB.o;exact⟨M,L,hA.more (by omega),h2,h3,h4⟩
   ·have HW:Hid (Walk a P b/\P.Nodup/\∀s∈P,s∈D/\1<=r s):=by
     rcases HP.o with⟨h1,h2,h3⟩|⟨h1,_⟩
     ·refine⟨h1,h2,λ s hs=>⟨(h3 s hs).1,?_⟩⟩
      have:=dH (h3 s hs).2;omega
     ·exact absurd (by rw[HM.o,h1];rfl) XQ
    have hmD:m<=1000:=by
     have h1:=Ms P D HW.o.2.1 (λ x hx=>(HW.o.2.2 x hx).1);rw[HM.o];exact aD h1 HX.o.2.2.2.2.1
    clear HP;have hmb:((m:Int)==0)=false:=aH.2 (by omega);go_wp2_with fail;go_loopw [29] (λ s29 wq=>∃(j:Nat) (M':DataW Unit) (L':DataW Value),j<=m/\s29=j/\Gq wq p lm rm (N+2000*k+2*j) B M' L' D (tks r (P.take j)) f g/\But rm w2 wq) (λ s29 _=>m-(intOf s29).toNat)
    case atStart=>
     obtain⟨M,L,hA,h2,h3,h4⟩:=CB.o;exact⟨0,M,L,aN _,rfl,by simpa[tks] using hA,But.refl' _ _⟩
    case round=>
     obtain⟨j,M',L',hj,rfl,hA,hbt⟩:=hrel;have HA:=kd (And.intro hA hbt);clear hA hbt;by_cases hjm:j<m
     ·obtain⟨s,hs⟩:∃s,P[j]? =some s:=⟨_,aB (by rw[<-HM.o];exact hjm)⟩
      have hsP:=aG hs;obtain⟨gw,EF⟩:∃gw,va=some ⟨gw,0,none⟩:=by
       rcases HO.o.shape with⟨_,e⟩|⟨gw,cap,e,_⟩
       ·rw[e] at hs;simp at hs
       ·injection e with e1 _ _
        exact⟨gw,e1⟩
      subst EF;obtain⟨c0,c1,c2⟩:=HO.o.at (g:=gw) rfl hs;have KN:gw≠rm:=by
       have h1:=(aU HO.o gw rfl).1;have h2:=HX.o.2.2.2.2.2.2;obtain⟨_,_,_,_,_,h3⟩:=HR.o;have:=h3.size;omega
      have q0:=Fy HA.o.2.grown KN c0;have q1:=Fy HA.o.2.grown KN c1;have q2:=Fy HA.o.2.grown KN c2;obtain⟨W1,AJ⟩:∃W1,W1=wr.alloc (.cells #[s.1,s.2.1,s.2.2] 346):=⟨_,rfl⟩;have BK:Below wr wr W1:=by rw[AJ];exact b_
      have l9:∀t∈P,fr t≠tt t:=λ t ht=>HX.o.1.ne t (HW.o.2.2 t ht).1
      have hT:Calls prog 317 #[.pointer p,vS s] W1 (Tp W1 p lm rm (N+2000*k+2*j) D (tk (tks r (P.take j)) s)):=by
       obtain⟨_,_,_,hF,PU,_⟩:=CB.o;refine zmh p lm rm _ M' D _ s W1 (HA.o.1.net.below BK) (HW.o.2.2 s hsP).1 HX.o.1 ?_ (by omega) (λ x=>?_)
       ·exact Int.le_trans (HW.o.2.2 s hsP).2 (Y4 _ r s (λ t ht=>l9 t (dB ht)) (tq HW.o.2.1 hs))
       ·have h1:=Xp (P.take j) r (λ t ht=>l9 t (dB ht)) x
        have h2:=HA.o.1.net.rom.pos (bk x);have h3:=PU x;have h4:=HX.o.2.2.2.2.2.1 x;omega
      have HT:Hid _:=hT;unfold vS at HT;have BQ:=kd AJ.symm;have HTS:Hid (tks r (P.take (j+1))=tk (tks r (P.take j)) s):=zko hs r;have HBW1:=kd BK;clear c0 c1 c2 hT AJ BK l9 hsP hs KN;obtain⟨x,y,z⟩:=s;simp only at q0 q1 q2 HT BQ;go_wp2_with fail;rw[BQ.o];refine aA HT.o ?_;rintro e w4 ⟨rfl,M4,N4,hn4,hN4,BB⟩;have HA4:Hid (Gq w4 p lm rm (N+2000*k+2*(j+1)) B M4 L' D (tks r (P.take (j+1))) f g/\But rm w2 w4):=by
       rw[HTS.o];refine⟨((HA.o.1.below HBW1.o).more (N':=N+2000*k+2*(j+1)) (by omega)).taken BB ⟨hn4.hp,hn4.mp.mono (by omega),hn4.rom⟩ (aF _),?_⟩;exact(HA.o.2.trans (But.of_below HBW1.o)).trans BB
      clear hn4 hN4 BB HA HT q0 q1 q2;go_wp2_with fail;go_roundw;case rel=>exact⟨j+1,M4,L',by omega,by go_num,HA4.o.1,HA4.o.2⟩
      case measure=>simp[intOf];omega
     ·have CE:m=j:=by omega
      subst CE;have HF:Hid (Fl w wr p lm rm (N+2000*(k+1)) B D r0 f g a b ((k+1:Nat):Int) (tks r P)):=by
       have h1:=HA.o.1;rw[aZ (by rw[<-HM.o];omega)] at h1;obtain⟨_,_,_,hF,PU,hbt⟩:=CB.o;refine⟨M',L',h1.more (by omega),?_,λ x=>?_,hbt.trans HA.o.2⟩
       ·have:=hF.way HX.o.1 (λ s hs=>(HW.o.2.2 s hs).1) HW.o.1 HW.o.2.1 (λ s hs=>(HW.o.2.2 s hs).2)
        rw[show((k+1:Nat):Int)=(k:Int)+1 by omega];exact this
       ·rw[Xp P r (λ s hs=>HX.o.1.ne s (HW.o.2.2 s hs).1) x]
        exact PU x
      clear HA;go_wp2_with fail;go_roundw;case rel=>exact⟨k+1,_,by omega,by go_num,HF.o⟩
      case measure=>simp[intOf];omega
  ·have CF:most=k:=by omega
   subst CF;go_wp2_with fail;go_ret;refine⟨most,r,rfl,?_,HR.o⟩;obtain⟨_,_,_,hF,_,_⟩:=HR.o;exact hF.most (by omega)
end Go.Proofs.Y.S
namespace Go.Proofs.Y.S
open Go Go.ChangeMaps Go.MapKept Go.WideShapes Go.Proofs.Tryz
open Go.RowKit Go.WideMaps Go.Maps F
theorem Oi {ss:List (Stp × Int)}{s:Stp}(c:Int)(h:Net (lD ss))(h1:s∉lD ss)(h2:bk s∉lD ss)(l9:fr s≠tt s):Net (lD (ss++[(s,c)])):=by
 rw[I1];refine⟨?_,λ t ht=>?_,λ t ht=>?_⟩
 ·rw[jO]
  refine⟨h.nd,by simp;exact λ e=>R4 l9 e.symm,λ x hx y hy e=>?_⟩;subst e;simp at hy;rcases hy with rfl|rfl
  ·exact h1 hx
  ·exact h2 hx
 ·rcases aK.1 ht with ht|ht
  ·exact bE _ (h.back t ht)
  ·simp at ht
   rcases ht with rfl|rfl <;> simp[Vi]
 ·rcases aK.1 ht with ht|ht
  ·exact h.ne t ht
  ·simp at ht
   rcases ht with rfl|rfl
   ·exact l9
   ·rw[zdb,zc7];exact λ e=>l9 e.symm
theorem zcv:Net (lD []):=⟨by simp[lD],by simp[lD],by simp[lD]⟩
theorem Ux {n:Nat}{L:List Stp}(h:Ed n 120 L){j:Nat}{e:Stp}(hx:L[j]? =some e):∀d∈L.take j,d.1≠e.1:=by
 intro d hd k;obtain⟨i,hi,CR⟩:=dD.1 hd;obtain⟨MF,CE⟩:=aC.1 hx;have hij:i<j:=by simp at hi;omega
 rw[gP] at CR;have:=dM.1 h.up i j (by omega) MF hij;rw[CR,CE] at this;omega
theorem Eu {α:Type}{L:List α}{j:Nat}{e:α}(hx:L[j]? =some e):L.take (j+1)=L.take j++[e]:=by rw[bL,hx];rfl
theorem zpf {n:Nat}{L:List Stp}(h:Ed n 120 L):Net (lD (edS L)):=by
 have:∀j,j<=L.length->Net (lD (edS (L.take j))):=by
  intro j;induction j with
  |zero=>intro _;simpa[edS] using zcv
  |succ j ih=>
   intro hj;have hx:L[j]? =some L[j]:=aB (by omega);obtain⟨x,y,BO,_,he⟩:=h.ends L[j] (dF _);rw[Eu hx];have e:edS (L.take j++[L[j]])=edS (L.take j)++[(L[j],1)]:=by rw[edS,dL];rfl
   rw[e];have GR:=We (Ux h hx);refine Oi 1 (ih (by omega)) GR.1 GR.2 ?_;rw[he];show(x:Int)≠(y:Int);omega
 have h1:=this L.length (aF _)
 rwa[bK] at h1
theorem zb5:∀j,Net (lD (ndS j))
 |0=>by simpa[ndS] using zcv
 |j+1=>by
  rw[S9];have:=jl j;exact Oi 0 (zb5 j) this.1 this.2 (by show 2*(j:Int)≠2*(j:Int)+1;omega)
theorem zpr {n:Nat}{L:List Stp}(h:Ed n 120 L):Net (lD (noS n L)):=by
 have:∀j,j<=L.length->Net (lD (noS n (L.take j))):=by
  intro j;induction j with
  |zero=>intro _;simpa[noS] using zb5 n
  |succ j ih=>
   intro hj;have hx:L[j]? =some L[j]:=aB (by omega);obtain⟨x,y,BO,_,he⟩:=h.ends L[j] (dF _);have AB:=Ux h hx;rw[Eu hx,Tm];have e1:(L[j]).2.1=(x:Int):=by rw[he]
   have e2:(L[j]).2.2=(y:Int):=by rw[he]
   rw[e1,e2];have hxy':(x:Int)≠(y:Int):=by omega
   refine Oi 0 (Oi 0 (ih (by omega)) (J2 AB hxy' _ (.inl rfl)) (J2 AB hxy' _ (.inr rfl)) ?_) (J5 AB hxy' _ (.inl rfl)) (J5 AB hxy' _ (.inr rfl)) ?_
   ·show 2*(x:Int)+1≠2*(y:Int);omega
   ·show 2*(y:Int)+1≠2*(x:Int);omega
 have h1:=this L.length (aF _)
 rwa[bK] at h1
theorem zn5 (ss:List (Stp × Int))(h:∀t∈ss,t.2<=1)(q:Stp):lr ss q<=1:=by
 induction ss using Jm with
 |h0=>simp[lr]
 |h1 l a ih=>
  rw[R6];have h1:=ih (λ t ht=>h t (by simp[ht]));have h2:=h a (by simp);show(if q=bk a.1 then a.2 else if q=a.1 then 1 else lr l q)<=1;split
  ·exact h2
  ·split
   ·omega
   ·exact h1
theorem ztk (ss:List (Stp × Int)):(lD ss).length=2*ss.length:=by
 induction ss using Jm with
 |h0=>simp[lD]
 |h1 l a ih=>rw[I1,aM,ih];simp;omega
theorem Yp {w:World}{p lm rm N B:Nat}{ss:List (Stp × Int)}{f:Int->Value}(h:Laid w p lm rm N B ss f)(hD:Net (lD ss))(hl:ss.length<=300)(h1:∀t∈ss,t.2<=1)(hr:∀s∈lD ss,0<=tt s/\tt s<1000)(hN:N<=5000){a b:Int}{most:Nat}(hm:most<=120)(ha0:0<=a)(YU:a<1000)(BP:0<=b)(j4:b<1000)(BJ:a≠b):
 Calls prog 236 #[.pointer p,a,b,most] w (O9 w p lm rm N B (lD ss) (lr ss) f (lg ss) a b most):=by
 obtain⟨M,L,hA⟩:=h;refine zkm p lm rm N B most M L _ _ f _ a b w hA hD (λ x s=>zta ss s x) (λ x=>?_) hr ?_ (λ x=>?_) hN hm ha0 YU BP j4 BJ
 ·have:=zi7 ss x;omega
 ·rw[ztk];omega
 ·have:=zn5 ss h1 x
  have:=zn5 ss h1 (bk x);omega
theorem zs5 {n:Nat}{L:List Stp}(h:Ed n 120 L)(hn:n<=40):∀s∈lD (edS L),0<=tt s/\tt s<1000:=by
 intro s hs;obtain⟨t,h1,h2⟩:=(Qz _ _).1 hs;obtain⟨d,hd,rfl⟩:=aY.1 h1;obtain⟨x,y,BO,ME,he⟩:=h.ends d hd;rw[he] at h2;rcases h2 with rfl|rfl <;> (unfold tt;try unfold bk) <;> simp only <;> omega
theorem zsp {n:Nat}{L:List Stp}(h:Ed n 120 L)(hn:n<=40):∀s∈lD (noS n L),0<=tt s/\tt s<1000:=by
 intro s hs;obtain⟨t,h1,h2⟩:=(Qz _ _).1 hs;rcases aK.1 h1 with h1|h1
 ·obtain⟨x,hx,rfl⟩:=aY.1 h1
  have:=bF.1 hx;rcases h2 with rfl|rfl <;> (unfold tt;try unfold bk) <;> simp only <;> omega
 ·obtain⟨d,hd,h1⟩:=fC.1 h1
  obtain⟨x,y,BO,ME,he⟩:=h.ends d hd;rw[he] at h1;simp[edN] at h1;rcases h1 with rfl|rfl <;> rcases h2 with rfl|rfl <;> (unfold tt;try unfold bk) <;> simp only <;> omega
theorem zro (L:List Stp):∀t∈edS L,t.2<=1:=λ t ht=>by
 obtain⟨d,hd,rfl⟩:=aY.1 ht;simp
theorem zps (n:Nat)(L:List Stp):∀t∈noS n L,t.2<=1:=λ t ht=>by
 rcases aK.1 ht with h1|h1
 ·obtain⟨x,hx,rfl⟩:=aY.1 h1
  simp
 ·obtain⟨d,hd,h1⟩:=fC.1 h1
  simp[edN] at h1;rcases h1 with rfl|rfl <;> simp
theorem O9.below {w0 w w':World}{p lm rm N B:Nat}{D:List Stp}{r0:Stp->Int}{f:Int->Value}{g:Int->List Stp}{a b:Int}{most:Nat}{e:Ending}(h:O9 w p lm rm N B D r0 f g a b most e w')(hb:Below w0 w0 w)(hr:w0<=rm):∃k:Nat,e=k/\Val (cap D r0) a b most k/\Below w0 w0 w':=by
 obtain⟨k,r,h1,h2,_,_,_,_,_,h3⟩:=h;exact⟨k,h1,h2,hb.trans ⟨h3.os,h3.tape,h3.output,h3.size,λ i hi=>h3.block i (aR hi hb.size) (by omega)⟩⟩
theorem Zl (n B0 q a b m:Nat)(u:Value)(L:List (Int × Int × Int))(w:World)(h:G.GAt w B0 168 61 q (n:Int) u L)(hn:n<=40)(AV:Ed n 120 L)(ha:a<n)(hb:b<n)(BJ:a≠b)(hm:m<=120):
 Calls prog 128 #[.pointer q,a,b,m] w λ e w'=>∃k:Nat,e=Value.tuple #[k,.nilIface]/\Val (cap (lD (edS L)) (lr (edS L))) a b m k/\Below w w w':=by
 have HG:=kd h;have HE:=kd AV;have hlen:=AV.len;clear h AV;go_enter func128,ntmps128;go_wp2_with fail;refine(Yu n B0 q a b m u L w HG.o ha hb BJ hm).mono ?_;rintro e w1 ⟨rfl,j4⟩;have x8:=kd j4;clear j4;go_wp2_with fail;refine(zab n B0 q u L w1 (HG.o.below x8.o) hn HE.o).mono ?_;rintro e w2 ⟨p,lm,rm,N,B,f,rfl,hL,hN,j5,_,_,VX,_⟩;have y5:Hid (Below w w w2/\w<=rm):=⟨x8.o.tr j5,aD x8.o.size VX⟩;have HC:Hid _:=Yp hL (zpf HE.o) (by simp[edS];omega) (zro L) (zs5 HE.o hn) (by omega) (a:=(a:Int)) (b:=(b:Int)) (most:=m) hm (by omega) (by omega) (by omega) (by omega) (by omega);clear hL hN j5 VX;go_wp2_with fail;refine aA HC.o ?_;intro e w3 hp;obtain⟨k,rfl,hv,y8⟩:=hp.below y5.o.1 y5.o.2;have HV:=kd (And.intro hv y8);clear hv y8 hp HC;go_wp2_with fail;go_ret2;exact⟨k,rfl,HV.o.1,HV.o.2⟩
theorem Zo (n B0 q a b m:Nat)(u:Value)(L:List (Int × Int × Int))(w:World)(h:G.GAt w B0 168 61 q (n:Int) u L)(hn:n<=40)(AV:Ed n 120 L)(ha:a<n)(hb:b<n)(BJ:a≠b)(hm:m<=120):
 Calls prog 129 #[.pointer q,a,b,m] w λ e w'=>∃k:Nat,e=Value.tuple #[k,.nilIface]/\Val (cap (lD (noS n L)) (lr (noS n L))) (2*a+1) (2*b) m k/\Below w w w':=by
 have HG:=kd h;have HE:=kd AV;have hlen:=AV.len;clear h AV;go_enter func129,ntmps129;go_wp2_with fail;refine(Yu n B0 q a b m u L w HG.o ha hb BJ hm).mono ?_;rintro e w1 ⟨rfl,j4⟩;have x8:=kd j4;clear j4;go_wp2_with fail;refine(zaq n B0 q u L w1 (HG.o.below x8.o) hn HE.o).mono ?_;rintro e w2 ⟨p,lm,rm,N,B,f,rfl,hL,hN,j5,_,_,VX,_⟩;have y5:Hid (Below w w w2/\w<=rm):=⟨x8.o.tr j5,aD x8.o.size VX⟩;have HC:Hid _:=Yp hL (zpr HE.o) (by rw[zcl];omega) (zps n L) (zsp HE.o hn) (by omega) (a:=2*(a:Int)+1) (b:=2*(b:Int)) (most:=m) hm (by omega) (by omega) (by omega) (by omega) (by omega);clear hL hN j5 VX;go_wp2_with fail;refine(Cq (a:Int) (by omega) (by omega) w2).mono ?_;rintro e w4 ⟨rfl,NG⟩;subst NG;go_wp2_with fail;refine(M8 (b:Int) (by omega) (by omega) w4).mono ?_;rintro e w5 ⟨rfl,ZU⟩;subst ZU;go_wp2_with fail;refine aA HC.o ?_;intro e w3 hp;obtain⟨k,rfl,hv,y8⟩:=hp.below y5.o.1 y5.o.2;have HV:=kd (And.intro hv y8);clear hv y8 hp HC;go_wp2_with fail;go_ret2;exact⟨k,rfl,HV.o.1,HV.o.2⟩
open Go Go.ChangeMaps Go.MapKept Go.WideShapes
theorem zel (D D':List Stp)(r:Stp->Int)(S:Int->Bool):cap (D++D') r S=cap D r S+cap D' r S:=by
 induction D with
 |nil=>simp[cap]
 |cons s D ih=>simp only[dZ,cap,ih];omega
theorem zjm {D:List Stp}{r r':Stp->Int}{S:Int->Bool}(h:∀s∈D,r s=r' s):cap D r S=cap D r' S:=by
 induction D with
 |nil=>rfl
 |cons s D ih=>simp only[cap];rw[ih (λ t ht=>h t (by simp[ht])),h s (by simp)]
theorem Ox {ss:List (Stp × Int)}{s:Stp}(c:Int)(h1:s∉lD ss)(h2:bk s∉lD ss)(l9:fr s≠tt s)(S:Int->Bool):cap (lD (ss++[(s,c)])) (lr (ss++[(s,c)])) S=cap (lD ss) (lr ss) S+((if out S s then 1 else 0)+(if out S (bk s) then c else 0)):=by
 have hb:=R4 l9;rw[I1,R6,zel]
 congr 1
 ·refine zjm (λ t ht=>?_)
  have e1:t≠s:=λ e=>h1 (e▸ht)
  have e2:t≠bk s:=λ e=>h2 (e▸ht)
  show(if t=bk s then c else if t=s then 1 else lr ss t)=lr ss t;rw[aL e2,aL e1]
 ·have q1:(if s=bk s then c else if s=s then 1 else lr ss s)=1:=by rw[aL (λ e=>hb e.symm),aP rfl]
  have q2:(if bk s=bk s then c else if bk s=s then 1 else lr ss (bk s))=c:=aP rfl;show(if out S s then(if s=bk s then c else if s=s then 1 else lr ss s) else 0)+((if out S (bk s) then(if bk s=bk s then c else if bk s=s then 1 else lr ss (bk s)) else 0)+0)=_;rw[q1,q2];omega
def crs (S:Int->Bool)(e:Stp):Bool:=S e.2.1 != S e.2.2
theorem zp8 {n:Nat}{L:List Stp}(h:Ed n 120 L)(S:Int->Bool):cap (lD (edS L)) (lr (edS L)) S=((L.filter (crs S)).length:Int):=by
 have:∀j,j<=L.length->cap (lD (edS (L.take j))) (lr (edS (L.take j))) S=(((L.take j).filter (crs S)).length:Int):=by
  intro j;induction j with
  |zero=>intro _;rfl
  |succ j ih=>
   intro hj;have hx:L[j]? =some L[j]:=aB (by omega);obtain⟨x,y,BO,_,he⟩:=h.ends L[j] (dF _);rw[Eu hx];have e:edS (L.take j++[L[j]])=edS (L.take j)++[(L[j],1)]:=by rw[edS,dL];rfl
   have GR:=We (Ux h hx);have l9:fr L[j]≠tt L[j]:=by
    rw[he];show(x:Int)≠(y:Int);omega
   rw[e,Ox 1 GR.1 GR.2 l9,ih (by omega),bP,aM];unfold out;rw[zdb,zc7];have hc:crs S L[j]=(S (fr L[j]) != S (tt L[j])):=rfl;rw[bT,hc];cases S (fr L[j]) <;> cases S (tt L[j]) <;> simp
 have h1:=this L.length (aF _)
 rwa[bK] at h1
def nin (S:Int->Bool)(x:Nat):Bool:=S (2*(x:Int))&&!S (2*(x:Int)+1)
def two (e:Stp):List (Int × Int):=[(e.2.1,e.2.2),(e.2.2,e.2.1)]
def ein (S:Int->Bool)(d:Int × Int):Bool:=S (2*d.1+1)&&!S (2*d.2)
theorem zbr (S:Int->Bool):∀j,cap (lD (ndS j)) (lr (ndS j)) S=(((List.range j).filter (nin S)).length:Int)
 |0=>rfl
 |j+1=>by
  have:=jl j;have l9:fr ((0,2*(j:Int),2*(j:Int)+1):Stp)≠tt ((0,2*(j:Int),2*(j:Int)+1):Stp):=by show 2*(j:Int)≠2*(j:Int)+1;omega
  rw[S9,Ox 0 this.1 this.2 l9,zbr S j,dN,bP,aM];have hc:out S ((0,2*(j:Int),2*(j:Int)+1):Stp)=nin S j:=rfl;rw[hc,bT];cases nin S j <;> simp
theorem zbh {n:Nat}{L:List Stp}(h:Ed n 120 L)(S:Int->Bool):cap (lD (noS n L)) (lr (noS n L)) S=(((List.range n).filter (nin S)).length:Int)+(((L.flatMap two).filter (ein S)).length:Int):=by
 have:∀j,j<=L.length->cap (lD (noS n (L.take j))) (lr (noS n (L.take j))) S=(((List.range n).filter (nin S)).length:Int)+((((L.take j).flatMap two).filter (ein S)).length:Int):=by
  intro j;induction j with
  |zero=>
   intro _;have:=zbr S n
   simpa[noS] using this
  |succ j ih=>
   intro hj;have hx:L[j]? =some L[j]:=aB (by omega);obtain⟨x,y,BO,_,he⟩:=h.ends L[j] (dF _);have AB:=Ux h hx;have e1:(L[j]).2.1=(x:Int):=by rw[he]
   have e2:(L[j]).2.2=(y:Int):=by rw[he]
   have hxy':(x:Int)≠(y:Int):=by omega
   have ht:two L[j]=[((x:Int),(y:Int)),((y:Int),(x:Int))]:=by unfold two;rw[e1,e2]
   rw[Eu hx,Tm,e1,e2,Ox 0 (J5 AB hxy' _ (.inl rfl)) (J5 AB hxy' _ (.inr rfl)) (by show 2*(y:Int)+1≠2*(x:Int);omega),Ox 0 (J2 AB hxy' _ (.inl rfl)) (J2 AB hxy' _ (.inr rfl)) (by show 2*(x:Int)+1≠2*(y:Int);omega),ih (by omega),jD,bP,aM];have hs:[L[j]].flatMap two=[((x:Int),(y:Int)),((y:Int),(x:Int))]:=by rw[eQ,List.flatMap_nil,eX,ht]
   rw[hs];have c1:out S ((L[j]).1,2*(x:Int)+1,2*(y:Int))=ein S ((x:Int),(y:Int)):=rfl;have c2:out S ((L[j]).1,2*(y:Int)+1,2*(x:Int))=ein S ((y:Int),(x:Int)):=rfl;rw[c1,c2,bT,bT];cases ein S ((x:Int),(y:Int)) <;> cases ein S ((y:Int),(x:Int)) <;> simp <;> omega
 have h1:=this L.length (aF _)
 rwa[bK] at h1
def cnv (L:List Stp)(T:List Nat):Nat->Nat->Prop:=cn ea eb (λ e=>e∈L/\ea e∉T/\eb e∉T)
theorem zi9 {L:List Stp}{T:List Nat}{x y:Nat}(h:cnv L T x y)(hx:x∈T):x=y:=by
 have:=Ag.least (P:=λ(u v:Nat)=>u=v\/(u∉T/\v∉T)) h (λ x=>.inl rfl) ?_ ?_ ?_
 ·rcases this with h|⟨h,_⟩
  ·exact h
  ·exact absurd hx h
 ·rintro x y (h|⟨h,k⟩)
  ·exact .inl h.symm
  ·exact .inr ⟨k,h⟩
 ·rintro x y z (rfl|⟨h,k⟩) h2
  ·exact h2
  ·rcases h2 with rfl|⟨h3,h4⟩
   ·exact .inr ⟨h,k⟩
   ·exact .inr ⟨h,h4⟩
 ·rintro x y ⟨e,⟨_,h1,h2⟩,rfl,rfl⟩
  exact .inr ⟨h1,h2⟩
theorem Jl {n i:Nat}{L:List Stp}(h:Ed n i L){e:Stp}(he:e∈L):e.2.1=(ea e:Int)/\e.2.2=(eb e:Int)/\ea e<n/\eb e<n/\ea e<eb e:=by
 obtain⟨x,y,BO,hy,hq⟩:=h.ends e he;have h1:e.2.1=(x:Int):=by rw[hq]
 have h2:e.2.2=(y:Int):=by rw[hq]
 have h3:ea e=x:=by unfold ea;rw[h1];simp
 have h4:eb e=y:=by unfold eb;rw[h2];simp
 rw[h3,h4];exact⟨h1,h2,by omega,by omega,BO⟩
theorem setOf (p:Nat->Prop):∃S:Int->Bool,∀z:Nat,S (z:Int)=true↔p z:=by
 refine⟨λ x=>@decide (∃z:Nat,x=(z:Int)/\p z) (Classical.propDecidable _),λ z=>?_⟩;have:=@decide_eq_true_iff (∃y:Nat,(z:Int)=(y:Int)/\p y) (Classical.propDecidable _);refine this.trans ⟨λ⟨y,h1,h2⟩=>by rw[show z=y by omega];exact h2,λ h=>⟨z,rfl,h⟩⟩
structure Joins (L:List Stp) (Q:List (Int × Int)):Prop where
 o:∀d∈Q,∃e∈L,d=((ea e:Int),(eb e:Int))\/d=((eb e:Int),(ea e:Int))
 inn:∀e∈L,((ea e:Int),(eb e:Int))∈Q/\((eb e:Int),(ea e:Int))∈Q
theorem Zb {n i:Nat}{L:List Stp}(AV:Ed n i L):Joins L (L.flatMap two):=by
 refine⟨λ d hd=>?_,λ e he=>?_⟩
 ·obtain⟨e,he,hd⟩:=fC.1 hd
  obtain⟨e1,e2,_⟩:=Jl AV he;unfold two at hd;rw[e1,e2] at hd;simp only[cO,gD,kC] at hd;exact⟨e,he,hd⟩
 ·obtain⟨e1,e2,_⟩:=Jl AV he
  constructor <;> exact fC.2 ⟨e,he,by unfold two;rw[e1,e2];simp⟩
section
variable {n i:Nat} {L:List Stp} {a b:Nat} {Q:List (Int × Int)}
theorem Xy (hQ:Joins L Q)(T:List Nat)(ha:a∉T)(hb:b∉T)(h:¬cnv L T a b):
 ∃S:Int->Bool,S (2*(a:Int)+1)=true/\S (2*(a:Int))=true/\S (2*(b:Int))=false/\S (2*(b:Int)+1)=false/\(∀z:Nat,nin S z=true->z∈T)/\∀d∈Q,ein S d=false:=by
 obtain⟨S,GY,CO⟩:∃S:Int->Bool,(∀z:Nat,S (2*(z:Int))=true↔(cnv L T a z\/z∈T))/\∀z:Nat,S (2*(z:Int)+1)=true↔cnv L T a z:=by
  obtain⟨S1,h1⟩:=setOf (λ z=>cnv L T a z\/z∈T);obtain⟨S2,h2⟩:=setOf (λ z=>cnv L T a z);refine⟨λ x=>if x%2=0 then S1 (x/2) else S2 (x/2),λ z=>?_,λ z=>?_⟩
  ·show(if (2*(z:Int))%2=0 then _ else _)=true↔_
   rw[aP (by omega),show 2*(z:Int)/2=(z:Int) by omega,h1]
  ·show(if (2*(z:Int)+1)%2=0 then _ else _)=true↔_
   rw[aL (by omega),show(2*(z:Int)+1)/2=(z:Int) by omega,h2]
 refine⟨S,(CO a).2 (Bc a),(GY a).2 (.inl (Bc a)),?_,?_,λ z hz=>?_,λ d hd=>?_⟩
 ·cases hq:S (2*(b:Int)) with
  |false=>rfl
  |true=>
   rcases(GY b).1 hq with k|k
   ·exact absurd k h
   ·exact absurd k hb
 ·cases hq:S (2*(b:Int)+1) with
  |false=>rfl
  |true=>exact absurd ((CO b).1 hq) h
 ·unfold nin at hz
  simp only[cZ,eF] at hz;rcases(GY z).1 hz.1 with k|k
  ·have:=(CO z).2 k
   rw[hz.2] at this;cases this
  ·exact k
 ·cases hc:ein S d with
  |false=>rfl
  |true=>
   exfalso;have key:∀u v:Nat,(u∉T->v∉T->cnv L T u v)->ein S ((u:Int),(v:Int))=true->False:=λ u v FD hc=>by
    unfold ein at hc;simp only[cZ,eF] at hc;have hu:=(CO u).1 hc.1;have hnu:u∉T:=λ k=>by
     have:=zi9 (Ac hu) k;exact ha (this▸k)
    have hv:¬(cnv L T a v\/v∈T):=λ k=>by
     have:=(GY v).2 k;rw[hc.2] at this;cases this
    exact hv (.inl (Ab hu (FD hnu (λ k=>hv (.inr k)))))
   obtain⟨e,he,rfl|rfl⟩:=hQ.o d hd
   ·exact key (ea e) (eb e) (λ h1 h2=>Ao ⟨he,h1,h2⟩) hc
   ·exact key (eb e) (ea e) (λ h1 h2=>Ac (Ao ⟨he,h2,h1⟩)) hc
def Oz (a b:Nat)(d:Int × Int):List Nat:=if d.1=(b:Int) then [] else if d.1=(a:Int) then [d.2.toNat] else [d.1.toNat]
theorem zgg (a b:Nat)(l:List (Int × Int)):(l.flatMap (Oz a b)).length<=l.length:=by
 induction l with
 |nil=>simp
 |cons d l ih=>
  rw[eQ,aM];have:(Oz a b d).length<=1:=by
   unfold Oz;split
   ·simp
   ·split <;> simp
  rw[bD];omega
theorem Xt (AV:Ed n i L)(hQ:Joins L Q)(BJ:a≠b)(hna:∀e∈L,¬(ea e=a/\eb e=b)/\¬(ea e=b/\eb e=a))(S:Int->Bool)(h1:S (2*(a:Int)+1)=true)(h2:S (2*(b:Int))=false):
 ∃T:List Nat,a∉T/\b∉T/\¬cnv L T a b/\T.length<=((List.range n).filter (nin S)).length+(Q.filter (ein S)).length/\∀z∈T,z<n:=by
 obtain⟨T,hT⟩:∃T,(List.range n).filter (nin S)++(Q.filter (ein S)).flatMap (Oz a b)=T:=⟨_,rfl⟩;have ends:∀d∈Q,∃u v:Nat,d=((u:Int),(v:Int))/\u<n/\v<n/\u≠v/\¬(u=a/\v=b):=λ d hd=>by
  obtain⟨e,he,hd⟩:=hQ.o d hd;obtain⟨e1,e2,e3,e4,e5⟩:=Jl AV he;have:=hna e he;rcases hd with rfl|rfl
  ·exact⟨ea e,eb e,rfl,e3,e4,by omega,by omega⟩
  ·exact⟨eb e,ea e,rfl,e4,e3,by omega,by omega⟩
 have memT:∀z,z∈T->z<n/\z≠a/\z≠b:=λ z hz=>by
  rw[<-hT] at hz;rcases aK.1 hz with hz|hz
  ·obtain⟨q1,q2⟩:=aO.1 hz
   unfold nin at q2;simp only[cZ,eF] at q2;refine⟨bF.1 q1,λ e=>?_,λ e=>?_⟩
   ·subst e;rw[h1] at q2;cases q2.2
   ·subst e;rw[h2] at q2;cases q2.1
  ·obtain⟨d,hd,hz⟩:=fC.1 hz
   obtain⟨u,v,rfl,hu,hv',FD,AA⟩:=ends d (aO.1 hd).1;unfold Oz at hz;simp only at hz;by_cases c1:u=b
   ·rw[aP (by omega)] at hz;simp at hz
   ·rw[aL (by omega)] at hz
    by_cases c2:u=a
    ·rw[aP (by omega)] at hz
     simp at hz;omega
    ·rw[aL (by omega)] at hz
     simp at hz;omega
 have inT:∀u v:Nat,((u:Int),(v:Int))∈Q->ein S ((u:Int),(v:Int))=true->u≠b->u∈T\/(u=a/\v∈T):=λ u v hd hc hub=>by
  by_cases c2:u=a
  ·right
   refine⟨c2,?_⟩;rw[<-hT];refine fT _ (fC.2 ⟨_,aO.2 ⟨hd,hc⟩,?_⟩);unfold Oz;simp only;rw[aL (by omega),aP (by omega)];simp
  ·left
   rw[<-hT];refine fT _ (fC.2 ⟨_,aO.2 ⟨hd,hc⟩,?_⟩);unfold Oz;simp only;rw[aL (by omega),aL (by omega)];simp
 have step:∀u v:Nat,((u:Int),(v:Int))∈Q->v<n->u∉T->v∉T->(S (2*(u:Int)+1)=true/\u≠b)->(S (2*(v:Int)+1)=true/\v≠b):=λ u v hd hvn huT hvT ⟨hu,hub⟩=>by
  have FW:S (2*(v:Int))=true:=by
   cases hq:S (2*(v:Int)) with
   |true=>rfl
   |false=>
    exfalso;have hc:ein S ((u:Int),(v:Int))=true:=by
     unfold ein;simp only[cZ,eF];exact⟨hu,hq⟩
    rcases inT u v hd hc hub with k|⟨_,k⟩
    ·exact huT k
    ·exact hvT k
  refine⟨?_,λ e=>by subst e;rw[h2] at FW;cases FW⟩;cases hq:S (2*(v:Int)+1) with
  |true=>rfl
  |false=>
   exfalso;apply hvT;rw[<-hT];refine bE _ (aO.2 ⟨bF.2 hvn,?_⟩);unfold nin;simp only[cZ,eF];exact⟨FW,hq⟩
 refine⟨T,λ k=>(memT a k).2.1 rfl,λ k=>(memT b k).2.2 rfl,λ hc=>?_,?_,λ z hz=>(memT z hz).1⟩
 ·have:=Ag.least (P:=λ(u v:Nat)=>(S (2*(u:Int)+1)=true/\u≠b)↔(S (2*(v:Int)+1)=true/\v≠b)) hc (λ _=>Iff.rfl) (λ _ _ k=>k.symm) (λ _ _ _ k1 k2=>k1.trans k2) (by
   rintro u v ⟨e,⟨he,hu,hv'⟩,rfl,rfl⟩;obtain⟨e1,e2,e3,e4,e5⟩:=Jl AV he;exact⟨step _ _ (hQ.inn e he).1 e4 hu hv',step _ _ (hQ.inn e he).2 e3 hv' hu⟩)
  exact(this.1 ⟨h1,BJ⟩).2 rfl
 ·have q1:=zgg a b (Q.filter (ein S))
  rw[<-hT,aM];omega
end
def Cc (a b:Nat)(e:Stp):Bool:=decide ((ea e=a/\eb e=b)\/(ea e=b/\eb e=a))
theorem Rb (p:Stp->Bool)(f:Stp->List (Int × Int))(q:Int × Int->Bool):∀L:List Stp,((L.flatMap f).filter q).length=(((L.filter p).flatMap f).filter q).length+(((L.filter λ e=>!p e).flatMap f).filter q).length
 |[]=>rfl
 |e::L=>by
  have ih:=Rb p f q L;rw[eQ,bP,aM,ih,bT,bT];cases p e <;> simp[List.flatMap_cons,List.filter_append] <;> omega
section
variable {n:Nat} {L:List Stp} {a b:Nat}
theorem Ed.qm {n i:Nat}{L:List Stp}(h:Ed n i L)(f:Stp->Bool):Ed n i (L.filter f):=
 ⟨eG _ h.up,λ e he=>h.ids e (aO.1 he).1,λ e he=>h.ends e (aO.1 he).1,aD (aW _ _) h.len⟩
theorem zhp {S:Int->Bool}{T:List Nat}(h:∀z:Nat,nin S z=true->z∈T)(n:Nat):((List.range n).filter (nin S)).length<=T.length:=
 Ms _ _ (List.nodup_range.filter _) (λ z hz=>h z (aO.1 hz).2)
theorem Y5 (AV:Ed n 120 L){S:Int->Bool}(h1:S (2*(a:Int)+1)=true)(h2:S (2*(b:Int))=false):(L.filter (Cc a b)).length<=(((L.filter (Cc a b)).flatMap two).filter (ein S)).length/\(S (2*(b:Int)+1)=false->(((L.filter (Cc a b)).flatMap two).filter (ein S)).length=(L.filter (Cc a b)).length):=by
 have key:∀M:List Stp,(∀e∈M,e∈L/\Cc a b e=true)->M.length<=((M.flatMap two).filter (ein S)).length/\(S (2*(b:Int)+1)=false->((M.flatMap two).filter (ein S)).length=M.length):=by
  intro M;induction M with
  |nil=>intro _;exact⟨aF _,λ _=>rfl⟩
  |cons e M ih=>
   intro h;obtain⟨i1,i2⟩:=ih (λ d hd=>h d (by simp[hd]));obtain⟨NU,hd⟩:=h e (by simp);obtain⟨e1,e2,_⟩:=Jl AV NU;have hd:=dH hd;have BJ:ein S ((a:Int),(b:Int))=true:=by
    unfold ein;simp only[cZ,eF];exact⟨h1,h2⟩
   have MM:S (2*(b:Int)+1)=false->ein S ((b:Int),(a:Int))=false:=λ k=>by
    unfold ein;simp only[k,Bool.false_and]
   rw[eQ,bP,aM,bD];have ht:two e=[((ea e:Int),(eb e:Int)),((eb e:Int),(ea e:Int))]:=by unfold two;rw[e1,e2]
   rw[ht];rcases hd with⟨k1,k2⟩|⟨k1,k2⟩
   ·rw[k1,k2,bT,BJ,bT]
    cases hq:ein S ((b:Int),(a:Int)) with
    |true=>exact⟨by simp;omega,λ k=>by rw[MM k] at hq;cases hq⟩
    |false=>exact⟨by simp;omega,λ k=>by have:=i2 k;simp;omega⟩
   ·rw[k1,k2,bT,bT,BJ]
    cases hq:ein S ((b:Int),(a:Int)) with
    |true=>exact⟨by simp;omega,λ k=>by rw[MM k] at hq;cases hq⟩
    |false=>exact⟨by simp;omega,λ k=>by have:=i2 k;simp;omega⟩
 exact key _ (λ e he=>⟨(aO.1 he).1,(aO.1 he).2⟩)
theorem zct (L:List Stp)(a b:Nat):∀e∈L.filter (λ e=>!Cc a b e),¬(ea e=a/\eb e=b)/\¬(ea e=b/\eb e=a):=λ e he=>by
 have:=(aO.1 he).2;simp only[eF] at this;have:=iN this;exact⟨λ k=>this (.inl k),λ k=>this (.inr k)⟩
theorem zoc {most k:Int}(AV:Ed n 120 L)(hv:Val (cap (lD (noS n L)) (lr (noS n L))) (2*(a:Int)+1) (2*(b:Int)) most k)(T:List Nat)(ha:a∉T)(hb:b∉T)(h:¬cnv (L.filter λ e=>!Cc a b e) T a b):k<=((L.filter (Cc a b)).length:Int)+(T.length:Int):=by
 obtain⟨S,h1,_,h2,h3,h4,h5⟩:=Xy (Zb (AV.qm _)) T ha hb h;have hle:=hv.all S h1 h2;rw[zbh AV,Rb (Cc a b)] at hle;have q1:=zhp h4 n;have q2:=(Y5 AV h1 h2).2 h3;have q3:(((L.filter λ e=>!Cc a b e).flatMap two).filter (ein S)).length=0:=by
  rw[bW,iT];intro d hd;rw[h5 d hd];simp
 omega
theorem zo2 {most k:Int}(AV:Ed n 120 L)(BJ:a≠b)(hv:Val (cap (lD (noS n L)) (lr (noS n L))) (2*(a:Int)+1) (2*(b:Int)) most k)(hk:k≠most):∃T:List Nat,a∉T/\b∉T/\¬cnv (L.filter λ e=>!Cc a b e) T a b/\((L.filter (Cc a b)).length:Int)+(T.length:Int)<=k:=by
 rcases hv.one with h|⟨S,h1,h2,h3⟩
 ·exact absurd h hk
 ·rw[zbh AV,Rb (Cc a b)] at h3
  obtain⟨T,t1,t2,t3,t4,_⟩:=Xt (AV.qm _) (Zb (AV.qm _)) BJ (zct L a b) S h1 h2;have q2:=(Y5 AV h1 h2).1;exact⟨T,t1,t2,t3,by omega⟩
end
end Go.Proofs.Y.S
namespace Go.Proofs.Y.S
open Go Go.ChangeMaps Go.MapKept Go.WideShapes Go.Proofs.Tryz
open Go.RowKit Go.WideMaps Go.Maps F
def Vp (n:Nat)(a b most:Int):Prop:=(0<=a/\a<=(n:Int)-1)/\(0<=b/\b<=(n:Int)-1)/\0<=most/\most<=120
theorem ax (n B q:Nat)(u:Value)(R:List Stp)(a b most:Int)(w:World)(h:G.GAt w B 40 61 q (n:Int) u R)(hn:n<=100)(p8:Vp n a b most)(s:Int)(hs:(a=b/\s=1)\/(a≠b/\s=0)):
 Calls prog 125 #[.pointer q,a,b,most] w λ e w'=>e=s/\w'=w:=by
 have c0:=h.c0;have hw:IntKind.i64.wrap ((n:Int)-1)=(n:Int)-1:=by rw[bO];omega
 obtain⟨h1,h2,h3⟩:=p8;clear h;go_enter func125,ntmps125;go_wp2_with fail;refine(G.E5 a 0 ((n:Int)-1) w h1).mono ?_;rintro e w1 ⟨rfl,AR⟩;subst AR;go_wp2_with fail;refine(G.E5 b 0 ((n:Int)-1) w1 h2).mono ?_;rintro e w2 ⟨rfl,BL⟩;subst BL;go_wp2_with fail;refine(G.E5 most 0 120 w2 h3).mono ?_;rintro e w3 ⟨rfl,EX⟩;subst EX;rcases hs with⟨rfl,rfl⟩|⟨l9,rfl⟩
 ·go_wp2_with fail
  go_ret;exact⟨rfl,rfl⟩
 ·have hne':(a==b)=false:=aH.2 l9
  go_wp2_with fail;go_ret;exact⟨rfl,rfl⟩
theorem zr4 (n B q:Nat)(u:Value)(R:List Stp)(a b most:Int)(w:World)(h:G.GAt w B 40 61 q (n:Int) u R)(hn:n<=100)(AA:¬Vp n a b most):
 Calls prog 125 #[.pointer q,a,b,most] w λ e w'=>e=(2:Int)/\w'=w:=by
 have c0:=h.c0;have hw:IntKind.i64.wrap ((n:Int)-1)=(n:Int)-1:=by rw[bO];omega
 clear h;go_enter func125,ntmps125;go_wp2_with fail;by_cases h1:0<=a/\a<=(n:Int)-1
 ·refine(G.E5 a 0 ((n:Int)-1) w h1).mono ?_
  rintro e w1 ⟨rfl,AR⟩;subst AR;go_wp2_with fail;by_cases h2:0<=b/\b<=(n:Int)-1
  ·refine(G.E5 b 0 ((n:Int)-1) w1 h2).mono ?_
   rintro e w2 ⟨rfl,BL⟩;subst BL;go_wp2_with fail;refine(G.Mh most 0 120 w2 (λ h3=>AA ⟨h1,h2,h3⟩)).mono ?_;rintro e w3 ⟨rfl,EX⟩;subst EX;go_wp2_with fail;go_ret;exact⟨rfl,rfl⟩
  ·refine(G.Mh b 0 ((n:Int)-1) w1 h2).mono ?_
   rintro e w2 ⟨rfl,BL⟩;subst BL;go_wp2_with fail;go_ret;exact⟨rfl,rfl⟩
 ·refine(G.Mh a 0 ((n:Int)-1) w h1).mono ?_
  rintro e w1 ⟨rfl,AR⟩;subst AR;go_wp2_with fail;go_ret;exact⟨rfl,rfl⟩
structure RmF (M:Nat->Nat->Int) (n j:Nat) (R:List Stp):Prop where
 cap:∀S:Int->Bool,Ea M n S=(((R.take j).filter (crs S)).length:Int)
 bd:∀i k,0<=M i k/\M i k<=2*(j:Int)
theorem oo (S:Int->Bool)(i:Nat):∀n,Ip (λ _ _=>0) S i n=0
 |0=>rfl
 |n+1=>by simp[Ip,oo S i n]
theorem Tw (N:Nat)(S:Int->Bool):∀n,Kz (λ _ _=>0) N S n=0
 |0=>rfl
 |n+1=>by simp[Kz,Tw N S n,oo]
theorem RmF.start (n:Nat)(R:List Stp):RmF (λ _ _=>0) n 0 R:=⟨λ S=>by simp[Ea,Tw],λ _ _=>⟨by omega,by omega⟩⟩
theorem RmF.next {M:Nat->Nat->Int}{n j:Nat}{R:List Stp}(h:RmF M n j R){y0:Int}{x y:Nat}(he:R[j]? =some (y0,(x:Int),(y:Int)))(hx:x<n)(hy:y<n):RmF (D8 (D8 M x y 1) y x 1) n (j+1) R:=by
 refine⟨λ S=>?_,λ i k=>?_⟩
 ·rw[Iy hy hx,Iy hx hy,h.cap S,Eu he,bP,aM,bT]
  have hc:crs S (y0,(x:Int),(y:Int))=(S (x:Int) != S (y:Int)):=rfl;rw[hc];cases S (x:Int) <;> cases S (y:Int) <;> simp
 ·have h1:=h.bd i k
  unfold D8;split
  ·split <;> omega
  ·split <;> omega
def zlm (n:Nat)(R:List Stp):Prop:=∀e∈R,∃x y:Nat,x<n/\y<n/\x<y/\e.2.1=(x:Int)/\e.2.2=(y:Int)
theorem zp4 (n B q a b most:Nat)(u:Value)(R:List Stp)(w:World)(h:G.GAt w B 40 61 q (n:Int) u R)(hn:n<=40)(p9:zlm n R)(hl:R.length<=120)(ha:a<n)(hb:b<n)(BJ:a≠b)(hm:most<=120):
 Calls prog 68 #[.pointer q,a,b,most] w λ e w'=>∃k:Nat,e=Value.tuple #[k,(0:Int)]/\Val (λ S=>((R.filter (crs S)).length:Int)) a b most k/\Below w w w':=by
 have HG:=kd (And.intro h p9);have c0:=h.c0;have c1:=h.c1;have HA:Hid _:=ax n B q u R (a:Int) (b:Int) (most:Int) w h (by omega) ⟨⟨by omega,by omega⟩,⟨by omega,by omega⟩,by omega,by omega⟩ 0 (.inr ⟨by omega,rfl⟩);obtain⟨m,FC⟩:∃m,R.length=m:=⟨_,rfl⟩;have OX:=kd FC;obtain⟨va,vc,hv⟩:=h.row.Ap;rw[FC] at hv hl;have HV:=kd hv;rw[hv] at c1;clear h p9 FC hv;go_enter func68,ntmps68;go_wp2_with fail;refine aA HA.o ?_;rintro e w1 ⟨rfl,AR⟩;subst AR;clear HA;go_wp2_with fail;refine(Ze n w1 (by omega)).mono ?_;rintro e w2 ⟨rfl,CS,j5⟩;have RD:=kd (And.intro CS j5);have d1:=cell_below c1 j5;clear CS j5 c0;go_wp2_with fail;go_loopw [32] (λ s32 wq=>∃(j:Nat) (M:Nat->Nat->Int),j<=m/\s32=j/\Mat wq w1 (λ i=>w1.heap.size+1+i) n M/\RmF M n j R/\Below w1 w1 wq) (λ s32 _=>m-(intOf s32).toNat)
 case atStart=>exact⟨0,_,aN _,rfl,RD.o.1,RmF.start n R,RD.o.2⟩
 case round=>
  clear RD;obtain⟨j,M,hj,rfl,CS,VX,BH⟩:=hrel;have HR:Hid (Mat wr w1 (λ i=>w1.heap.size+1+i) n M/\RmF M n j R/\Below w1 w1 wr):=⟨CS,VX,BH⟩;clear CS VX BH;by_cases hjm:j<m
  ·obtain⟨⟨y0,y1,y2⟩,hx⟩:∃e:Stp,R[j]? =some e:=⟨_,aB (by rw[OX.o];exact hjm)⟩
   obtain⟨x,y,RF,ME,BO,he1,he2⟩:=HG.o.2 _ (aG hx);have he1:y1=(x:Int):=he1;have he2:y2=(y:Int):=he2;subst he1;subst he2;obtain⟨g2,EF⟩:∃g2,va=some ⟨g2,0,none⟩:=by
    rcases HG.o.1.row.shape with⟨_,k⟩|⟨g2,cap2,k,_⟩
    ·rw[k] at hx;simp at hx
    ·rw[HV.o] at k
     injection k with e1 _ _
     exact⟨g2,e1⟩
   subst EF;obtain⟨r0,r1,r2⟩:=HG.o.1.row.at (g:=g2) (by rw[HV.o];rfl) hx;simp only at r0 r1 r2;have r0:=cell_below r0 HR.o.2.2;have r1:=cell_below r1 HR.o.2.2;have r2:=cell_below r2 HR.o.2.2;obtain⟨W1,AJ⟩:∃W1,W1=wr.alloc (.cells #[y0,x,y] 61):=⟨_,rfl⟩;have BK:Below wr wr W1:=by rw[AJ];exact b_
   have BF:W1.heap[wr.heap.size]? =some (.cells #[y0,x,y] 61):=by rw[AJ];exact aQ wr _
   have p1:W1.cell? (wr,1)=x:=by simp[World.cell?,BF]
   have p2:W1.cell? (wr,2)=y:=by simp[World.cell?,BF]
   have IE:=HR.o.1.below BK;have o1:=IE.o x RF;have o2:=(IE.row x y RF ME).1;have o3:=(IE.row x y RF ME).2;obtain⟨A,hA⟩:∃A,M x y=A:=⟨_,rfl⟩;rw[hA] at o2;have hAb:=HR.o.2.1.bd x y;rw[hA] at hAb;have AR:IntKind.i64.wrap (A+1)=A+1:=by rw[bO];omega
   have BQ:=kd AJ.symm;have RG:=kd hx;have QY:Hid (Mat W1 w1 (λ i=>w1.heap.size+1+i) n M/\Below wr wr W1/\M x y=A):=⟨IE,BK,hA⟩;clear hx AJ BK BF IE hA;go_upto_region 8 with fail
   rw[BQ.o];clear r0 r1 r2;obtain⟨bx,BF⟩:∃bx,wr.heap.size=bx:=⟨_,rfl⟩;rw[BF] at p1 p2 ⊢;have hbxm:bx≠w1.heap.size+1+x/\bx≠w1.heap.size+1+y:=by
    have h1:=(HR.o.1.lt (by omega)).2;have h2:w1.heap.size+1+x<wr.heap.size:=h1 x RF;have h3:w1.heap.size+1+y<wr.heap.size:=h1 y ME;omega
   have CX:=kd BF;clear BF;go_region
   obtain⟨W2,DI⟩:∃W2,(W1.setCell (w1.heap.size+1+x,y) (A+1:Int)).drew=W2:=⟨_,rfl⟩;have DF:Mat W2 w1 (λ i=>w1.heap.size+1+i) n (λ i k=>if i=x/\k=y then A+1 else M i k):=by
    rw[<-DI];exact(QY.o.1.set RF ME (A+1)).below (aI _ _).drew
   have p1:W2.cell? (bx,1)=x:=by
    rw[<-DI];show(W1.setCell _ _).cell? _=_;rw[World.cell?_setCell_far _ _ _ _ (by show w1.heap.size+1+x≠bx;omega)];exact p1
   have p2:W2.cell? (bx,2)=y:=by
    rw[<-DI];show(W1.setCell _ _).cell? _=_;rw[World.cell?_setCell_far _ _ _ _ (by show w1.heap.size+1+x≠bx;omega)];exact p2
   have o4:=DF.o y ME;have o5:=(DF.row y x ME RF).1;have o6:=(DF.row y x ME RF).2;rw[aL (λ k=>by omega)] at o5;obtain⟨A2,JW⟩:∃A2,M y x=A2:=⟨_,rfl⟩;rw[JW] at o5;have hAb2:=HR.o.2.1.bd y x;rw[JW] at hAb2;have BL:IntKind.i64.wrap (A2+1)=A2+1:=by rw[bO];omega
   have HF:Hid (Mat ((W2.setCell (w1.heap.size+1+y,x) (A2+1:Int)).drew) w1 (λ i=>w1.heap.size+1+i) n (D8 (D8 M x y 1) y x 1)/\RmF (D8 (D8 M x y 1) y x 1) n (j+1) R/\Below w1 w1 ((W2.setCell (w1.heap.size+1+y,x) (A2+1:Int)).drew)):=by
    have h1:=HR.o.2.2.tr QY.o.2.1;refine⟨?_,HR.o.2.1.next RG.o RF ME,?_⟩
    ·have h2:=(DF.set ME RF (A2+1)).below (aI _ _).drew
     have h3:(λ i k=>if i=y/\k=x then A2+1 else if i=x/\k=y then A+1 else M i k)=D8 (D8 M x y 1) y x 1:=by
      funext i k
      unfold D8;by_cases e1:i=y/\k=x
      ·rw[aP e1,aP e1,aL (λ e=>by omega),e1.1,e1.2,JW]
      ·rw[aL e1,aL e1]
       by_cases e2:i=x/\k=y
       ·rw[aP e2,aP e2,e2.1,e2.2,QY.o.2.2]
       ·rw[aL e2,aL e2]
     rw[<-h3];exact h2
    ·have h4:Below w1 w1 W2:=by rw[<-DI];exact(h1.setCell (by show w1.heap.size<=w1.heap.size+1+x;omega) _).drew
     exact(h4.setCell (by show w1.heap.size<=w1.heap.size+1+y;omega) _).drew
   rw[DI];have EE:Hid _:=DI;clear DF JW DI o1 o2 o3 QY;go_upto_region 9 with fail
   go_region
   have NV:=CX.o;subst NV;go_wp2_with fail;go_roundw;case rel=>exact⟨j+1,_,by omega,by go_num,HF.o.1,HF.o.2.1,HF.o.2.2⟩
   case measure=>simp[intOf];omega
  ·have CE:m=j:=by omega
   subst CE;have DW:∀i k,0<=M i k/\M i k<=1000:=λ i k=>by have:=HR.o.2.1.bd i k;omega
   have HC:Hid _:=ll w1 (λ i=>w1.heap.size+1+i) n a b n most M wr HR.o.1 (by omega) ha hb (by omega) DW;have HCP:Hid (Ea M n=λ S=>((R.filter (crs S)).length:Int)):=by
    funext S
    rw[HR.o.2.1.cap S,aZ (by rw[OX.o];exact aF _)]
   clear DW;go_wp2_with fail;refine aA HC.o ?_;rintro e w3 ⟨k,rfl,hvk,hka⟩;rw[HCP.o] at hvk;have HF:Hid (Val (λ S=>((R.filter (crs S)).length:Int)) a b most k/\Below w1 w1 w3):=⟨hvk,HR.o.2.2.trans (hka.old HR.o.2.2.size (λ i _=>by omega))⟩;clear hvk hka HC;go_wp2_with fail;go_ret2;exact⟨k,rfl,HF.o.1,HF.o.2⟩
open Go Go.ChangeMaps Go.MapKept Go.WideShapes
def ndX (n:Nat)(S:Int->Bool)(i:Nat):Bool:=S (i:Int)&&!S (((n+i:Nat):Nat):Int)
def prX (n:Nat)(S:Int->Bool)(d:Int × Int):Bool:=S ((n:Int)+d.1)&&!S d.2
def Ky (n a b:Nat)(PR:List (Int × Int))(S:Int->Bool):Int:=(((List.range n).filter (ndX n S)).length:Int)+((if ndX n S a then 119 else 0)+(if ndX n S b then 119 else 0))+((PR.filter (prX n S)).length:Int)
section
variable {n:Nat} {L:List Stp} {a b:Nat} {PR:List (Int × Int)}
theorem filter_congr' {α:Type}{l:List α}{p q:α->Bool}(h:∀x∈l,p x=q x):(l.filter p).length=(l.filter q).length:=by rw[dP h]
theorem zh1 {most k:Int}(AV:Ed n 120 L)(hQ:Joins L PR)(OQ:a<n)(LG:b<n)(hv:Val (Ky n a b PR) a ((n+b:Nat):Int) most k)(T:List Nat)(ha:a∉T)(hb:b∉T)(h:¬cnv L T a b):k<=(T.length:Int):=by
 obtain⟨S',h1,h1',h2,h3,h4,h5⟩:=Xy hQ T ha hb h;have e1:∀i:Nat,i<n->(λ x:Int=>if x<n then S' (2*x) else S' (2*(x-n)+1)) (i:Int)=S' (2*(i:Int)):=λ i hi=>by
  show(if (i:Int)<n then _ else _)=_;rw[aP (by omega)]
 have e2:∀i:Nat,(λ x:Int=>if x<n then S' (2*x) else S' (2*(x-n)+1)) (((n+i:Nat):Nat):Int)=S' (2*(i:Int)+1):=λ i=>by
  show(if (((n+i:Nat):Nat):Int)<n then _ else _)=_;rw[aL (by omega),show 2*((((n+i:Nat):Nat):Int)-n)+1=2*(i:Int)+1 by omega]
 have hle:=hv.all (λ x:Int=>if x<n then S' (2*x) else S' (2*(x-n)+1)) ((e1 a OQ).trans h1') ((e2 b).trans h3);obtain⟨S,hS⟩:∃S,(λ x:Int=>if x<n then S' (2*x) else S' (2*(x-n)+1))=S:=⟨_,rfl⟩;rw[hS] at hle e1 e2;have FM:∀i,i<n->ndX n S i=nin S' i:=λ i hi=>by
  unfold ndX nin;rw[e1 i hi,e2 i]
 have q1:((List.range n).filter (ndX n S)).length<=T.length:=by
  rw[filter_congr' (λ i hi=>FM i (bF.1 hi))];exact zhp h4 n
 have qa:ndX n S a=false:=by
  rw[FM a OQ];cases hq:nin S' a with
  |false=>rfl
  |true=>exact absurd (h4 a hq) ha
 have qb:ndX n S b=false:=by
  rw[FM b LG];cases hq:nin S' b with
  |false=>rfl
  |true=>exact absurd (h4 b hq) hb
 have q2:(PR.filter (prX n S)).length=0:=by
  rw[bW,iT];intro d hd;have:prX n S d=ein S' d:=by
   obtain⟨e,he,hd'⟩:=hQ.o d hd;obtain⟨_,_,l1,l2,_⟩:=Jl AV he;have key:∀u v:Nat,v<n->prX n S ((u:Int),(v:Int))=ein S' ((u:Int),(v:Int)):=λ u v hv'=>by
    unfold prX ein;have:=e2 u;rw[show(((n+u:Nat):Nat):Int)=(n:Int)+(u:Int) by omega] at this;simp only[this,e1 v hv']
   rcases hd' with rfl|rfl
   ·exact key _ _ l2
   ·exact key _ _ l1
  rw[this,h5 d hd];simp
 unfold Ky at hle;rw[qa,qb,q2] at hle;simp at hle;omega
theorem za9 (hna:∀e∈L,¬(ea e=a/\eb e=b)/\¬(ea e=b/\eb e=a))(AV:Ed n 120 L)(BJ:a≠b):¬cnv L ((List.range n).filter λ z=>decide (z≠a/\z≠b)) a b:=λ hc=>by
 have:=Ag.least (P:=λ(u v:Nat)=>u=v) hc (λ _=>rfl) (λ _ _ k=>k.symm) (λ _ _ _ k1 k2=>k1.trans k2) (by
  rintro u v ⟨e,⟨he,h1,h2⟩,rfl,rfl⟩;exfalso;obtain⟨_,_,e3,e4,e5⟩:=Jl AV he;have:=hna e he;rw[aO,bF] at h1 h2;simp at h1 h2;omega)
 exact BJ this
theorem zry {most k:Int}(AV:Ed n 120 L)(hn:n<=40)(hQ:Joins L PR)(OQ:a<n)(LG:b<n)(BJ:a≠b)(hna:∀e∈L,¬(ea e=a/\eb e=b)/\¬(ea e=b/\eb e=a))(hv:Val (Ky n a b PR) a ((n+b:Nat):Int) most k)(hk:k≠most):∃T:List Nat,a∉T/\b∉T/\¬cnv L T a b/\(T.length:Int)<=k:=by
 have PU:=zh1 AV hQ OQ LG hv _ (by simp) (by simp) (za9 hna AV BJ);have hlen:((List.range n).filter λ z=>decide (z≠a/\z≠b)).length<=n:=by
  have:=aW (λ z=>decide (z≠a/\z≠b)) (List.range n)
  simpa using this
 rcases hv.one with h|⟨S,h1,h2,h3⟩
 ·exact absurd h hk
 ·have p1:(0:Int)<=(((List.range n).filter (ndX n S)).length:Int):=by omega
  have p2:(0:Int)<=((PR.filter (prX n S)).length:Int):=by omega
  have na:ndX n S a=false:=by
   cases hq:ndX n S a with
   |false=>rfl
   |true=>
    exfalso;unfold Ky at h3;rw[hq] at h3;simp at h3;split at h3 <;> omega
  have nb:ndX n S b=false:=by
   cases hq:ndX n S b with
   |false=>rfl
   |true=>
    exfalso;unfold Ky at h3;rw[hq] at h3;simp at h3;split at h3 <;> omega
  obtain⟨S',hS'⟩:∃S':Int->Bool,(∀i:Nat,S' (2*(i:Int))=S (i:Int))/\∀i:Nat,S' (2*(i:Int)+1)=S (((n+i:Nat):Nat):Int):=by
   refine⟨λ x=>if x%2=0 then S (x/2) else S ((n:Int)+x/2),λ i=>?_,λ i=>?_⟩
   ·show(if (2*(i:Int))%2=0 then _ else _)=_
    rw[aP (by omega),show 2*(i:Int)/2=(i:Int) by omega]
   ·show(if (2*(i:Int)+1)%2=0 then _ else _)=_
    rw[aL (by omega),show(n:Int)+(2*(i:Int)+1)/2=(((n+i:Nat):Nat):Int) by omega]
  have sa:S' (2*(a:Int)+1)=true:=by
   rw[hS'.2 a];unfold ndX at na;rw[h1] at na
   simpa using na
  have sb:S' (2*(b:Int))=false:=by
   rw[hS'.1 b];unfold ndX at nb;rw[h2] at nb
   simpa using nb
  obtain⟨T,t1,t2,t3,t4,_⟩:=Xt AV hQ BJ hna S' sa sb;refine⟨T,t1,t2,t3,?_⟩;have q1:((List.range n).filter (nin S')).length=((List.range n).filter (ndX n S)).length:=filter_congr' (λ i _=>by
   unfold nin ndX;rw[hS'.1 i,hS'.2 i])
  have q2:(PR.filter (ein S')).length=(PR.filter (prX n S)).length:=filter_congr' (λ d hd=>by
   obtain⟨e,he,hd'⟩:=hQ.o d hd;have key:∀u v:Nat,ein S' ((u:Int),(v:Int))=prX n S ((u:Int),(v:Int)):=λ u v=>by
    unfold prX ein;have:=hS'.2 u;rw[show(((n+u:Nat):Nat):Int)=(n:Int)+(u:Int) by omega] at this;simp only[this,hS'.1 v]
   rcases hd' with rfl|rfl <;> exact key _ _)
  unfold Ky at h3;rw[na,nb] at h3;simp at h3;omega
theorem zeh {most k k':Int}(AV:Ed n 120 L)(hn:n<=40)(hQ:Joins (L.filter λ e=>!Cc a b e) PR)(OQ:a<n)(LG:b<n)(BJ:a≠b)(hv:Val (cap (lD (noS n L)) (lr (noS n L))) (2*(a:Int)+1) (2*(b:Int)) most k)(hv':Val (Ky n a b PR) a ((n+b:Nat):Int) most k'):k=min most (((L.filter (Cc a b)).length:Int)+k'):=by
 have h1:k<=((L.filter (Cc a b)).length:Int)+k':=by
  by_cases e:k'=most
  ·have:=hv.le
   omega
  ·obtain⟨T,t1,t2,t3,t4⟩:=zry (AV.qm _) hn hQ OQ LG BJ (zct L a b) hv' e
   have:=zoc AV hv T t1 t2 t3;omega
 have h2:=hv.le;by_cases e:k=most
 ·omega
 ·obtain⟨T,t1,t2,t3,t4⟩:=zo2 AV BJ hv e
  have:=zh1 (AV.qm _) hQ OQ LG hv' T t1 t2 t3;omega
end
end Go.Proofs.Y.S
namespace Go.Proofs.Y.S
open Go Go.ChangeMaps Go.MapKept Go.WideShapes
open Go.RowKit Go.WideMaps Go.Maps F
def Dh (M:Nat->Nat->Int)(x y:Nat)(v:Int):Nat->Nat->Int:=λ i k=>if i=x/\k=y then v else M i k
theorem Rh {M:Nat->Nat->Int}{x y:Nat}{v v0:Int}(h:M x y=v0):Dh M x y v=D8 M x y (v-v0):=by
 funext i k
 unfold Dh D8;by_cases e:i=x/\k=y
 ·rw[aP e,aP e,e.1,e.2,h];omega
 ·rw[aL e,aL e]
structure RN (M:Nat->Nat->Int) (n a b j:Nat) (tw:Bool) (PR:List (Int × Int)):Prop where
 cap:∀S:Int->Bool,Ea M (2*n) S=(((List.range j).filter (ndX n S)).length:Int)+(if tw then((if ndX n S a then 119 else 0)+(if ndX n S b then 119 else 0)) else 0)+((PR.filter (prX n S)).length:Int)
 diag:tw=false->∀i,i<n->M i (n+i)=if i<j then 1 else 0
 ent:∀u v:Nat,u<n->v<n->M (n+u) v=if ((u:Int),(v:Int))∈PR then 1 else 0
 bd:∀i k,0<=M i k/\M i k<=1000
section
variable {M:Nat->Nat->Int} {n a b j:Nat} {tw:Bool} {PR:List (Int × Int)}
theorem RN.start (n a b:Nat):RN (λ _ _=>0) n a b 0 false []:=
 ⟨λ S=>by simp[Ea,Tw],λ _ i _=>by simp,λ u v _ _=>by simp,λ _ _=>⟨by omega,by omega⟩⟩
theorem RN.node (h:RN M n a b j false PR)(hj:j<n):RN (Dh M j (n+j) 1) n a b (j+1) false PR:=by
 have h0:M j (n+j)=0:=by have:=h.diag rfl j hj;rwa[aL (by omega)] at this
 refine⟨λ S=>?_,λ _ i hi=>?_,λ u v hu hv=>?_,λ i k=>?_⟩
 ·rw[Rh h0,Iy (by omega) (by omega),h.cap S,dN,bP,aM,bT]
  have hx:ndX n S j=(S (j:Int)&&!S (((n+j:Nat):Nat):Int)):=rfl;rw[hx];cases (S (j:Int)&&!S (((n+j:Nat):Nat):Int)) <;> simp <;> omega
 ·unfold Dh
  by_cases e:i=j
  ·subst e;rw[aP ⟨rfl,rfl⟩,aP (by omega)]
  ·rw[aL (λ k=>e k.1),h.diag rfl i hi]
   by_cases c:i<j
   ·rw[aP c,aP (by omega)]
   ·rw[aL c,aL (by omega)]
 ·unfold Dh
  rw[aL (λ k=>by omega)];exact h.ent u v hu hv
 ·have:=h.bd i k
  unfold Dh;split <;> omega
theorem RN.both (h:RN M n a b n false PR)(ha:a<n)(hb:b<n)(BJ:a≠b):RN (Dh (Dh M a (n+a) 120) b (n+b) 120) n a b n true PR:=by
 have ha0:M a (n+a)=1:=by have:=h.diag rfl a ha;rwa[aP ha] at this
 have BP:Dh M a (n+a) 120 b (n+b)=1:=by
  unfold Dh;rw[aL (λ k=>BJ k.1.symm)];have:=h.diag rfl b hb;rwa[aP hb] at this
 refine⟨λ S=>?_,λ k=>(by cases k),λ u v hu hv=>?_,λ i k=>?_⟩
 ·rw[Rh BP,Iy (by omega) (by omega),Rh ha0,Iy (by omega) (by omega),h.cap S]
  have hx:ndX n S a=(S (a:Int)&&!S (((n+a:Nat):Nat):Int)):=rfl;have hy:ndX n S b=(S (b:Int)&&!S (((n+b:Nat):Nat):Int)):=rfl;rw[hx,hy];cases (S (a:Int)&&!S (((n+a:Nat):Nat):Int)) <;> cases (S (b:Int)&&!S (((n+b:Nat):Nat):Int)) <;> simp <;> omega
 ·unfold Dh
  rw[aL (λ k=>by omega),aL (λ k=>by omega)];exact h.ent u v hu hv
 ·have:=h.bd i k
  unfold Dh;split
  ·omega
  ·split <;> omega
theorem RN.pair (h:RN M n a b j true PR){u v:Nat}(hu:u<n)(hv:v<n):∃PR',RN (Dh M (n+u) v 1) n a b j true PR'/\∀d,d∈PR'↔d∈PR\/d=((u:Int),(v:Int)):=by
 by_cases c:((u:Int),(v:Int))∈PR
 ·have h1:M (n+u) v=1:=by rw[h.ent u v hu hv,aP c]
  have hs:Dh M (n+u) v 1=M:=by
   funext i k
   unfold Dh;by_cases e:i=n+u/\k=v
   ·rw[aP e,e.1,e.2,h1]
   ·rw[aL e]
  rw[hs];exact⟨PR,h,λ d=>⟨.inl,λ k=>k.elim id (λ k=>k▸c)⟩⟩
 ·have h0:M (n+u) v=0:=by rw[h.ent u v hu hv,aL c]
  refine⟨PR++[((u:Int),(v:Int))],⟨λ S=>?_,λ k=>(by cases k),λ u' v' hu' hv'=>?_,λ i k=>?_⟩,λ d=>by simp⟩
  ·rw[Rh h0,Iy (by omega) (by omega),h.cap S,bP,aM,bT]
   have hx:prX n S ((u:Int),(v:Int))=(S (((n+u:Nat):Nat):Int)&&!S (v:Int)):=by
    unfold prX;rw[show(((n+u:Nat):Nat):Int)=(n:Int)+(u:Int) by omega]
   rw[hx];cases (S (((n+u:Nat):Nat):Int)&&!S (v:Int)) <;> simp <;> omega
  ·unfold Dh
   by_cases e:u'=u/\v'=v
   ·obtain⟨rfl,rfl⟩:=e
    rw[aP ⟨rfl,rfl⟩,aP (by simp)]
   ·rw[aL (λ k=>e ⟨by omega,k.2⟩),h.ent u' v' hu' hv']
    have:((u':Int),(v':Int))∈PR++[((u:Int),(v:Int))]↔((u':Int),(v':Int))∈PR:=by
     rw[aK,aJ];refine⟨λ k=>k.elim id (λ k=>?_),.inl⟩;injection k with k1 k2
     exact absurd ⟨by omega,by omega⟩ e
    by_cases q:((u':Int),(v':Int))∈PR
    ·rw[aP q,aP (this.2 q)]
    ·rw[aL q,aL (λ k=>q (this.1 k))]
  ·have:=h.bd i k
   unfold Dh;split <;> omega
end
def Iq (a b:Nat)(R:List Stp)(j:Nat)(PR:List (Int × Int)):Prop:=∀d,d∈PR↔∃e∈R.take j,Cc a b e=false/\(d=((ea e:Int),(eb e:Int))\/d=((eb e:Int),(ea e:Int)))
theorem Iq.skip {a b j:Nat}{R:List Stp}{PR:List (Int × Int)}(h:Iq a b R j PR){e:Stp}(he:R[j]? =some e)(hd:Cc a b e=true):Iq a b R (j+1) PR:=λ d=>by
 rw[h d,Eu he];constructor
 ·rintro⟨f,hf,k⟩;exact⟨f,bE _ hf,k⟩
 ·rintro⟨f,hf,k1,k2⟩
  rcases aK.1 hf with hf|hf
  ·exact⟨f,hf,k1,k2⟩
  ·rw[aJ.1 hf,hd] at k1;cases k1
theorem Iq.more {a b j:Nat}{R:List Stp}{PR P1 P2:List (Int × Int)}(h:Iq a b R j PR){e:Stp}(he:R[j]? =some e)(hd:Cc a b e=false)(h1:∀d,d∈P1↔d∈PR\/d=((ea e:Int),(eb e:Int)))(h2:∀d,d∈P2↔d∈P1\/d=((eb e:Int),(ea e:Int))):Iq a b R (j+1) P2:=λ d=>by
 rw[h2 d,h1 d,h d,Eu he];constructor
 ·rintro((⟨f,hf,k⟩|k)|k)
  ·exact⟨f,bE _ hf,k⟩
  ·exact⟨e,by simp,hd,.inl k⟩
  ·exact⟨e,by simp,hd,.inr k⟩
 ·rintro⟨f,hf,k1,k2⟩
  rcases aK.1 hf with hf|hf
  ·exact .inl (.inl ⟨f,hf,k1,k2⟩)
  ·rw[aJ.1 hf] at k2
   rcases k2 with k2|k2
   ·exact .inl (.inr k2)
   ·exact .inr k2
def zqu (w:World)(n a b most:Nat)(R:List Stp)(e:Ending)(w':World):Prop:=
 ∃(k:Nat) (PR:List (Int × Int)),e=Value.tuple #[(min (most:Int) (((R.filter (Cc a b)).length:Int)+(k:Int)):Int),(0:Int)]/\Iq a b R R.length PR/\Val (Ky n a b PR) a ((n+b:Nat):Int) most k/\Below w w w'
end Go.Proofs.Y.S
namespace Go.Proofs.Y.S
open Go Go.ChangeMaps Go.MapKept Go.WideShapes Go.Proofs.Tryz
open Go.RowKit Go.WideMaps Go.Maps F
theorem zpb (n B q a b most:Nat)(u:Value)(R:List Stp)(w:World)(h:G.GAt w B 40 61 q (n:Int) u R)(hn:n<=40)(p9:zlm n R)(hl:R.length<=120)(ha:a<n)(hb:b<n)(BJ:a≠b)(hm:most<=120):
 Calls prog 69 #[.pointer q,a,b,most] w (zqu w n a b most R):=by
 have HG:=kd (And.intro h p9);have c0:=h.c0;have c1:=h.c1;have HA:Hid _:=ax n B q u R (a:Int) (b:Int) (most:Int) w h (by omega) ⟨⟨by omega,by omega⟩,⟨by omega,by omega⟩,by omega,by omega⟩ 0 (.inr ⟨by omega,rfl⟩);obtain⟨m,FC⟩:∃m,R.length=m:=⟨_,rfl⟩;have OX:=kd FC;obtain⟨va,vc,hv⟩:=h.row.Ap;rw[FC] at hv hl;have HV:=kd hv;rw[hv] at c1;have hw2n:IntKind.i64.wrap (2*(n:Int))=2*(n:Int):=by rw[bO];omega
 clear h p9 FC hv;go_enter func69,ntmps69;go_wp2_with fail;refine aA HA.o ?_;rintro e w1 ⟨rfl,AR⟩;subst AR;clear HA;go_wp2_with fail;rw[show 2*(n:Int)=((2*n:Nat):Int) by omega];refine(Ze (2*n) w1 (by omega)).mono ?_;rintro e w2 ⟨rfl,CS,j5⟩;obtain⟨g,hg⟩:∃g,w1.heap.size=g:=⟨_,rfl⟩;rw[hg] at CS ⊢;have RD:=kd (And.intro CS j5);have ZX:=kd hg;have c0:=cell_below c0 j5;have c1:=cell_below c1 j5;clear CS j5 hg hw2n;go_wp2_with fail;go_loopw [34] (λ s34 wq=>∃(j:Nat) (M:Nat->Nat->Int),j<=n/\s34=j/\Mat wq g (λ i=>g+1+i) (2*n) M/\RN M n a b j false []/\Below w1 w1 wq) (λ s34 _=>n-(intOf s34).toNat)
 case atStart=>exact⟨0,_,aN _,rfl,RD.o.1,RN.start n a b,RD.o.2⟩
 case round=>
  clear RD c0 c1;obtain⟨j,M,hj,rfl,CS,KE,BH⟩:=hrel;have HR:Hid (Mat wr g (λ i=>g+1+i) (2*n) M/\RN M n a b j false []/\Below w1 w1 wr):=⟨CS,KE,BH⟩;have c0:=cell_below HG.o.1.c0 BH;clear CS KE BH;by_cases FP:j<n
  ·as_aux_lemma=>
   have o1:=HR.o.1.o j (by omega);have o2:=(HR.o.1.row j (n+j) (by omega) (by omega)).1;have o3:=(HR.o.1.row j (n+j) (by omega) (by omega)).2;have NP:IntKind.i64.wrap ((n:Int)+(j:Int))=((n+j:Nat):Int):=by rw[bO];omega
   have HF:Hid (Mat ((wr.setCell (g+1+j,n+j) (1:Int)).drew) g (λ i=>g+1+i) (2*n) (Dh M j (n+j) 1)/\RN (Dh M j (n+j) 1) n a b (j+1) false []/\Below w1 w1 ((wr.setCell (g+1+j,n+j) (1:Int)).drew)):=
    ⟨(HR.o.1.set (x:=j) (y:=n+j) (by omega) (by omega) 1).below (aI _ _).drew,HR.o.2.1.node FP,(HR.o.2.2.setCell (by show w1.heap.size<=g+1+j;have:=ZX.o;omega) _).drew⟩
   clear HR;go_upto_region 9 with fail
   go_region
   go_wp2_with fail;go_roundw;case rel=>exact⟨j+1,_,by omega,by go_num,HF.o.1,HF.o.2.1,HF.o.2.2⟩
   case measure=>simp[intOf];omega
  ·have CE:n=j:=by omega
   subst CE;obtain⟨wy,hwy⟩:∃wy,wy=wr:=⟨_,rfl⟩;subst hwy;have o1:=HR.o.1.o a (by omega);have o2:=(HR.o.1.row a (n+a) (by omega) (by omega)).1;have o3:=(HR.o.1.row a (n+a) (by omega) (by omega)).2;have o4:=HR.o.1.o b (by omega);have o5:=(HR.o.1.row b (n+b) (by omega) (by omega)).1;have o6:=(HR.o.1.row b (n+b) (by omega) (by omega)).2;have hwa:IntKind.i64.wrap ((n:Int)+(a:Int))=((n+a:Nat):Int):=by rw[bO];omega
   have hwb:IntKind.i64.wrap ((n:Int)+(b:Int))=((n+b:Nat):Int):=by rw[bO];omega
   go_upto_region 11 with fail
   go_region
   obtain⟨W3,FI⟩:∃W3,((wy.setCell (g+1+a,n+a) (120:Int)).setCell (g+1+b,n+b) (120:Int)).drew=W3:=⟨_,rfl⟩;have IG:Hid (Mat W3 g (λ i=>g+1+i) (2*n) (Dh (Dh M a (n+a) 120) b (n+b) 120)/\RN (Dh (Dh M a (n+a) 120) b (n+b) 120) n a b n true []/\Below w1 w1 W3):=by
    rw[<-FI];have hgs:=ZX.o;exact⟨((HR.o.1.set (x:=a) (y:=n+a) (by omega) (by omega) 120).set (x:=b) (y:=n+b) (by omega) (by omega) 120).below (aI _ _).drew,HR.o.2.1.both ha hb BJ,((HR.o.2.2.setCell (by show w1.heap.size<=g+1+a;omega) _).setCell (by show w1.heap.size<=g+1+b;omega) _).drew⟩
   rw[FI];have d0:=cell_below HG.o.1.c0 IG.o.2.2;have d1:=cell_below HG.o.1.c1 IG.o.2.2;rw[HV.o] at d1;obtain⟨lo,KX⟩:∃lo,min a b=lo:=⟨_,rfl⟩;obtain⟨hi,RJ⟩:∃hi,max a b=hi:=⟨_,rfl⟩;have HLH:=kd (And.intro KX RJ);have MZ:min (a:Int) (b:Int)=(lo:Int):=by omega
   have GM:max (a:Int) (b:Int)=(hi:Int):=by omega
   clear KX RJ o1 o2 o3 o4 o5 o6 FI HR hwa c0 FP hj;go_wp2_with fail;go_loopw [11,76] (λ s11 s76 wq=>∃(j:Nat) (M:Nat->Nat->Int) (PR:List (Int × Int)),j<=m/\s76=j/\s11=(((R.take j).filter (Cc a b)).length:Nat)/\Mat wq g (λ i=>g+1+i) (2*n) M/\RN M n a b n true PR/\Iq a b R j PR/\Below w1 w1 wq) (λ _ s76 _=>m-(intOf s76).toNat)
   case atStart=>exact⟨0,_,[],aN _,rfl,rfl,IG.o.1,IG.o.2.1,λ d=>⟨λ k=>by simp at k,λ⟨e,k,_⟩=>by simp at k⟩,IG.o.2.2⟩
   case round=>
    clear IG d0 d1;obtain⟨j,M2,PR,hj,rfl,rfl,CS,KE,EG,BH⟩:=hrel;have HR:Hid (Mat wr g (λ i=>g+1+i) (2*n) M2/\RN M2 n a b n true PR/\Iq a b R j PR/\Below w1 w1 wr):=⟨CS,KE,EG,BH⟩;obtain⟨dc,NZ⟩:∃dc,((R.take j).filter (Cc a b)).length=dc:=⟨_,rfl⟩;have hdcj:dc<=120:=by
     rw[<-NZ];have h1:=aW (Cc a b) (R.take j);have h2:(R.take j).length<=j:=by simp;omega
     omega
    rw[NZ];have HDC:=kd NZ;clear CS KE EG BH NZ;by_cases hjm:j<m
    ·obtain⟨⟨y0,y1,y2⟩,hx⟩:∃e:Stp,R[j]? =some e:=⟨_,aB (by rw[OX.o];exact hjm)⟩
     obtain⟨x,y,RF,ME,BO,he1,he2⟩:=HG.o.2 _ (aG hx);have he1:y1=(x:Int):=he1;have he2:y2=(y:Int):=he2;subst he1;subst he2;have hea:ea (y0,(x:Int),(y:Int))=x:=by simp[ea]
     have heb:eb (y0,(x:Int),(y:Int))=y:=by simp[eb]
     obtain⟨g2,EF⟩:∃g2,va=some ⟨g2,0,none⟩:=by
      rcases HG.o.1.row.shape with⟨_,k⟩|⟨g2,cap2,k,_⟩
      ·rw[k] at hx;simp at hx
      ·rw[HV.o] at k
       injection k with e1 _ _
       exact⟨g2,e1⟩
     subst EF;obtain⟨r0,r1,r2⟩:=HG.o.1.row.at (g:=g2) (by rw[HV.o];rfl) hx;simp only at r0 r1 r2;have r0:=cell_below r0 HR.o.2.2.2;have r1:=cell_below r1 HR.o.2.2.2;have r2:=cell_below r2 HR.o.2.2.2;obtain⟨W1,AJ⟩:∃W1,W1=wr.alloc (.cells #[y0,x,y] 61):=⟨_,rfl⟩;have BK:Below wr wr W1:=by rw[AJ];exact b_
     have BF:W1.heap[wr.heap.size]? =some (.cells #[y0,x,y] 61):=by rw[AJ];exact aQ wr _
     have p1:W1.cell? (wr,1)=x:=by simp[World.cell?,BF]
     have p2:W1.cell? (wr,2)=y:=by simp[World.cell?,BF]
     have BQ:=kd AJ.symm;have RG:Hid (R[j]? =some (y0,(x:Int),(y:Int))/\ea (y0,(x:Int),(y:Int))=x/\eb (y0,(x:Int),(y:Int))=y):=⟨hx,hea,heb⟩;have x8:Hid (Below wr wr W1/\Below w1 w1 W1):=⟨BK,HR.o.2.2.2.tr BK⟩;have HBXM:Hid (∀i,i<2*n->wr.heap.size≠g+1+i):=λ i hi2 e=>by
      have h1:g+1+i<wr.heap.size:=(HR.o.1.lt (by omega)).2 i hi2;omega
     clear hx AJ BK BF hea heb;by_cases TC:Cc a b (y0,(x:Int),(y:Int))=true
     ·as_aux_lemma=>
      have hdd:=dH TC;rw[RG.o.2.1,RG.o.2.2] at hdd;have e1:((x:Int)==(lo:Int))=true:=bX.2 (by obtain⟨l1,l2⟩:=HLH.o;omega);have e2:((y:Int)==(hi:Int))=true:=bX.2 (by obtain⟨l1,l2⟩:=HLH.o;omega);have hwd:IntKind.i64.wrap ((dc:Int)+1)=(dc:Int)+1:=by rw[bO];omega
      have HF:Hid (((R.take (j+1)).filter (Cc a b)).length=dc+1/\Iq a b R (j+1) PR/\Mat W1 g (λ i=>g+1+i) (2*n) M2):=by
       refine⟨?_,HR.o.2.2.1.skip RG.o.1 TC,HR.o.1.below x8.o.1⟩;rw[Eu RG.o.1,bP,aM,HDC.o];simp[TC]
      clear hdd TC
      go_upto_if 93 with fail
      rw[BQ.o];go_wp2_with fail;go_roundw;case rel=>exact⟨j+1,M2,PR,by omega,by go_num,by rw[HF.o.1];rfl,HF.o.2.2,HR.o.2.1,HF.o.2.1,x8.o.2⟩
      case measure=>simp[intOf];omega
     ·have QH:Cc a b (y0,(x:Int),(y:Int))=false:=by simpa using TC
      have hdd:=iN QH;rw[RG.o.2.1,RG.o.2.2] at hdd;have hor:x≠lo\/y≠hi:=by obtain⟨l1,l2⟩:=HLH.o;omega
      obtain⟨P1,IL,WZ⟩:=HR.o.2.1.pair RF ME;obtain⟨P2,IM,hp2⟩:=IL.pair ME RF;have IE:=HR.o.1.below x8.o.1;have o1:=IE.o (n+x) (by omega);have o2:=(IE.row (n+x) y (by omega) (by omega)).1;have o3:=(IE.row (n+x) y (by omega) (by omega)).2;have hwx:IntKind.i64.wrap ((n:Int)+(x:Int))=((n+x:Nat):Int):=by rw[bO];omega
      have hwy2:IntKind.i64.wrap ((n:Int)+(y:Int))=((n+y:Nat):Int):=by rw[bO];omega
      have d0:=cell_below HG.o.1.c0 x8.o.2;obtain⟨W2,DI⟩:∃W2,(W1.setCell (g+1+(n+x),y) (1:Int)).drew=W2:=⟨_,rfl⟩;have DF:Mat W2 g (λ i=>g+1+i) (2*n) (Dh M2 (n+x) y 1):=by
       rw[<-DI];exact(IE.set (x:=n+x) (y:=y) (by omega) (by omega) 1).below (aI _ _).drew
      have j5:Below w1 w1 W2:=by
       rw[<-DI];exact(x8.o.2.setCell (by show w1.heap.size<=g+1+(n+x);have:=ZX.o;omega) _).drew
      have keep:∀i v,W1.cell? ⟨wr.heap.size,i,none⟩=some v->W2.cell? (wr,i)=some v:=λ i v hc=>by
       rw[<-DI];show(W1.setCell _ _).cell? _=_;rw[World.cell?_setCell_far _ _ _ _ (by show g+1+(n+x)≠wr.heap.size;exact λ e=>HBXM.o (n+x) (by omega) e.symm)];exact hc
      have q1:=keep 1 _ p1;have q2:=keep 2 _ p2;have o4:=DF.o (n+y) (by omega);have o5:=(DF.row (n+y) x (by omega) (by omega)).1;have o6:=(DF.row (n+y) x (by omega) (by omega)).2;have d2:=cell_below HG.o.1.c0 j5;have HF:Hid (Mat ((W2.setCell (g+1+(n+y),x) (1:Int)).drew) g (λ i=>g+1+i) (2*n) (Dh (Dh M2 (n+x) y 1) (n+y) x 1)/\RN (Dh (Dh M2 (n+x) y 1) (n+y) x 1) n a b n true P2/\Iq a b R (j+1) P2/\Below w1 w1 ((W2.setCell (g+1+(n+y),x) (1:Int)).drew)/\((R.take (j+1)).filter (Cc a b)).length=dc):=by
       refine⟨(DF.set (x:=n+y) (y:=x) (by omega) (by omega) 1).below (aI _ _).drew,IM,HR.o.2.2.1.more (P1:=P1) RG.o.1 QH ?_ ?_,(j5.setCell (by show w1.heap.size<=g+1+(n+y);have:=ZX.o;omega) _).drew,?_⟩
       ·rw[RG.o.2.1,RG.o.2.2];exact WZ
       ·rw[RG.o.2.1,RG.o.2.2];exact hp2
       ·rw[Eu RG.o.1,bP,aM,HDC.o]
        simp[QH]
      have EE:=kd DI;clear TC QH hdd IL IM WZ hp2 IE DF DI keep j5 HR x8;by_cases hxl:x≠lo
      ·as_aux_lemma=>
       have e1:((x:Int)==(lo:Int))=false:=aH.2 (by omega)
       go_upto_if 93 with fail
       rw[BQ.o];go_upto_region 17 with fail
       go_region
       rw[EE.o];go_upto_region 18 with fail
       go_region
       go_wp2_with fail;go_roundw;case rel=>exact⟨j+1,_,P2,by omega,by go_num,by rw[HF.o.2.2.2.2],HF.o.1,HF.o.2.1,HF.o.2.2.1,HF.o.2.2.2.1⟩
       case measure=>simp[intOf];omega
      ·as_aux_lemma=>
       have e1:((x:Int)==(lo:Int))=true:=bX.2 (by omega);have e2:((y:Int)==(hi:Int))=false:=aH.2 (by omega)
       go_upto_if 93 with fail
       rw[BQ.o];go_upto_region 17 with fail
       go_region
       rw[EE.o];go_upto_region 18 with fail
       go_region
       go_wp2_with fail;go_roundw;case rel=>exact⟨j+1,_,P2,by omega,by go_num,by rw[HF.o.2.2.2.2],HF.o.1,HF.o.2.1,HF.o.2.2.1,HF.o.2.2.2.1⟩
       case measure=>simp[intOf];omega
    ·have CE:m=j:=by omega
     subst CE;have HC:Hid _:=ll g (λ i=>g+1+i) (2*n) a (n+b) (2*n) most M2 wr HR.o.1 (by omega) (by omega) (by omega) (by omega) HR.o.2.1.bd;have d0:=cell_below HG.o.1.c0 HR.o.2.2.2;have JX:Hid (Iq a b R R.length PR/\Below w1 w1 wr/\Ea M2 (2*n)=Ky n a b PR):=⟨by rw[OX.o];exact HR.o.2.2.1,HR.o.2.2.2,by funext S;rw[HR.o.2.1.cap S];rfl⟩;have HDF:Hid ((R.filter (Cc a b)).length=dc):=by
      have:=HDC.o
      rwa[aZ (by rw[OX.o];exact aF _)] at this
     clear HR HDC;go_wp2_with fail;refine aA HC.o ?_;rintro e w3 ⟨k,rfl,hvk,hka⟩;rw[JX.o.2.2] at hvk;have hk:(k:Int)<=most:=hvk.le;have hwd:IntKind.i64.wrap ((dc:Int)+(k:Int))=(dc:Int)+(k:Int):=by rw[bO];omega
     have HF:Hid (Val (Ky n a b PR) a ((n+b:Nat):Int) most k/\Below w1 w1 w3):=⟨hvk,JX.o.2.1.trans (hka.old JX.o.2.1.size (λ i _=>by have:=ZX.o;omega))⟩;clear hvk hka HC;go_wp2_with fail;go_ret2;exact⟨k,PR,by rw[HDF.o];rfl,JX.o.1,HF.o.1,HF.o.2⟩
theorem Yd (n B0 q b:Nat)(x:Int)(u:Value)(L:List (Int × Int × Int))(w:World)(h:G.GAt w B0 168 61 q (n:Int) u L)(hb:w.cell? b=some (.pointer q))(hx:¬(0<=x/\x<=(n:Int)-1)):
 Calls prog 312 #[x,.pointer b] w λ e w'=>e=true/\w'=w:=by
 have HG:=kd h;clear h;by_cases h1:x<0
 ·go_enter func312,ntmps312
  go_wp2_with fail;go_ret;exact⟨rfl,rfl⟩
 ·have h2:(n:Int)<=x:=by omega
  go_enter func312,ntmps312;go_wp2_with fail;refine(G.Cg (n:Int) B0 q u L w HG.o).mono ?_;rintro e w1 ⟨rfl,AR⟩;subst AR;go_wp2_with fail;go_ret;have h4:decide ((n:Int)<=x)=true:=bI h2
  first|exact⟨by rw[h4],rfl⟩|exact⟨rfl,rfl⟩
theorem Yr (n B0 q b:Nat)(x:Int)(u:Value)(L:List (Int × Int × Int))(w:World)(h:G.GAt w B0 168 61 q (n:Int) u L)(hb:w.cell? b=some (.pointer q))(hx:0<=x/\x<=(n:Int)-1):
 Calls prog 312 #[x,.pointer b] w λ e w'=>e=false/\w'=w:=by
 obtain⟨y,rfl⟩:∃y:Nat,x=(y:Int):=⟨x.toNat,by omega⟩;exact Nl n B0 q b y u L w h hb (by omega)
def Fg (n:Nat)(a b most c:Int):Prop:=(¬Vp n a b most/\c=2)\/(Vp n a b most/\a=b/\c=1)
theorem G5 (n B0 q:Nat)(a b m c:Int)(u:Value)(L:List (Int × Int × Int))(w:World)(h:G.GAt w B0 168 61 q (n:Int) u L)(AA:Fg n a b m c):
 Calls prog 234 #[.pointer q,a,b,m] w λ e w'=>e=Value.iface 23 c/\Below w w w':=by
 have FH:Hid (G.GAt (w.alloc (.cells #[.pointer q] 82)) B0 168 61 q (n:Int) u L):=h.below (b_);have hc:(w.alloc (.cells #[.pointer q] 82)).cell? w=some (.pointer q):=by simp
 have HB:Hid (Below w w (w.alloc (.cells #[.pointer q] 82))):=b_;have DZ:=kd AA;clear h AA;go_enter func234,ntmps234;go_wp2_with fail;by_cases h1:0<=a/\a<=(n:Int)-1
 ·refine(Yr n B0 q w a u L _ FH.o hc h1).mono ?_
  rintro e w1 ⟨rfl,AR⟩;rw[AR];clear AR;go_wp2_with fail;by_cases h2:0<=b/\b<=(n:Int)-1
  ·refine(Yr n B0 q w b u L _ FH.o hc h2).mono ?_
   rintro e w2 ⟨rfl,BL⟩;rw[BL];clear BL;by_cases h3:m<0
   ·have SH:c=2:=by
     rcases DZ.o with⟨_,k⟩|⟨k,_⟩
     ·exact k
     ·obtain⟨_,_,k3,_⟩:=k;omega
    subst SH;clear FH hc;go_wp2_with fail;go_ret;exact⟨rfl,HB.o⟩
   ·by_cases h4:m > 120
    ·have SH:c=2:=by
      rcases DZ.o with⟨_,k⟩|⟨k,_⟩
      ·exact k
      ·obtain⟨_,_,_,k3⟩:=k;omega
     subst SH;clear FH hc;go_wp2_with fail;go_ret;exact⟨rfl,HB.o⟩
    ·obtain⟨BJ,SH⟩:a=b/\c=1:=by
      rcases DZ.o with⟨k,_⟩|⟨_,k⟩
      ·exact absurd ⟨h1,h2,by omega,by omega⟩ k
      ·exact k
     subst BJ;subst SH;clear FH hc;go_wp2_with fail;go_ret;exact⟨rfl,HB.o⟩
  ·refine(Yd n B0 q w b u L _ FH.o hc h2).mono ?_
   rintro e w2 ⟨rfl,BL⟩;rw[BL];have SH:c=2:=by
    rcases DZ.o with⟨_,k⟩|⟨k,_⟩
    ·exact k
    ·exact absurd k.2.1 h2
   subst SH;clear FH hc BL;go_wp2_with fail;go_ret;exact⟨rfl,HB.o⟩
 ·refine(Yd n B0 q w a u L _ FH.o hc h1).mono ?_
  rintro e w1 ⟨rfl,AR⟩;rw[AR];have SH:c=2:=by
   rcases DZ.o with⟨_,k⟩|⟨k,_⟩
   ·exact k
   ·exact absurd k.1 h1
  subst SH;clear FH hc AR;go_wp2_with fail;go_ret;exact⟨rfl,HB.o⟩
theorem Zn (n B0 q:Nat)(a b m c:Int)(u:Value)(L:List (Int × Int × Int))(w:World)(h:G.GAt w B0 168 61 q (n:Int) u L)(AA:Fg n a b m c):
 Calls prog 128 #[.pointer q,a,b,m] w λ e w'=>e=Value.tuple #[(0:Int),.iface 23 c]/\Below w w w':=by
 have HC:Hid _:=G5 n B0 q a b m c u L w h AA;clear h AA;go_enter func128,ntmps128;go_wp2_with fail;refine aA HC.o ?_;rintro e w1 ⟨rfl,j4⟩;have HB:=kd j4;clear j4 HC;go_wp2_with fail;go_ret2;exact⟨rfl,HB.o⟩
theorem Zp (n B0 q:Nat)(a b m c:Int)(u:Value)(L:List (Int × Int × Int))(w:World)(h:G.GAt w B0 168 61 q (n:Int) u L)(AA:Fg n a b m c):
 Calls prog 129 #[.pointer q,a,b,m] w λ e w'=>e=Value.tuple #[(0:Int),.iface 23 c]/\Below w w w':=by
 have HC:Hid _:=G5 n B0 q a b m c u L w h AA;clear h AA;go_enter func129,ntmps129;go_wp2_with fail;refine aA HC.o ?_;rintro e w1 ⟨rfl,j4⟩;have HB:=kd j4;clear j4 HC;go_wp2_with fail;go_ret2;exact⟨rfl,HB.o⟩
theorem zby (n B q:Nat)(u:Value)(R:List Stp)(a b m c:Int)(w:World)(h:G.GAt w B 40 61 q (n:Int) u R)(hn:n<=100)(AA:Fg n a b m c):
 Calls prog 125 #[.pointer q,a,b,m] w λ e w'=>e=c/\w'=w:=by
 rcases AA with⟨k,rfl⟩|⟨k,BJ,rfl⟩
 ·exact zr4 n B q u R a b m w h hn k
 ·exact ax n B q u R a b m w h hn k 1 (.inl ⟨BJ,rfl⟩)
theorem Fg.ne {n:Nat}{a b m c:Int}(h:Fg n a b m c):c≠0:=by
 rcases h with⟨_,rfl⟩|⟨_,_,rfl⟩ <;> omega
theorem zri (n B q:Nat)(u:Value)(R:List Stp)(a b m c:Int)(w:World)(h:G.GAt w B 40 61 q (n:Int) u R)(hn:n<=100)(AA:Fg n a b m c):
 Calls prog 68 #[.pointer q,a,b,m] w λ e w'=>e=Value.tuple #[(0:Int),c]/\w'=w:=by
 have HC:Hid _:=zby n B q u R a b m c w h hn AA;have l9:(c==0)=false:=aH.2 AA.ne;clear h AA;go_enter func68,ntmps68;go_wp2_with fail;refine aA HC.o ?_;rintro e w1 ⟨rfl,AR⟩;subst AR;clear HC;go_wp2_with fail;go_ret2;exact⟨rfl,rfl⟩
theorem zpk (n B q:Nat)(u:Value)(R:List Stp)(a b m c:Int)(w:World)(h:G.GAt w B 40 61 q (n:Int) u R)(hn:n<=100)(AA:Fg n a b m c):
 Calls prog 69 #[.pointer q,a,b,m] w λ e w'=>e=Value.tuple #[(0:Int),c]/\w'=w:=by
 have HC:Hid _:=zby n B q u R a b m c w h hn AA;have l9:(c==0)=false:=aH.2 AA.ne;clear h AA;go_enter func69,ntmps69;go_wp2_with fail;refine aA HC.o ?_;rintro e w1 ⟨rfl,AR⟩;subst AR;clear HC;go_wp2_with fail;go_ret2;exact⟨rfl,rfl⟩
end Go.Proofs.Y.S
