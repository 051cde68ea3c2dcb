import Derived.Test.YtebcjaenhiiflaaGreatDoorQKVaKVb
import Derived.Test.YtebcjaenhiiflaaGreatDoorQGYfGYc
import Derived.Test.YtebcjaenhiiflaaGreatDoorQSST
import Derived.Laws.Bits64b
set_option maxHeartbeats 4000000
set_option maxRecDepth 100000
namespace Go.Proofs.Y.S
open Go.RowKit Go.Proofs.Tryz
def InE (n:Nat)(R:List Edg):Prop:=∀e∈R,ea e<n/\eb e<n/\e.2.1=(ea e:Int)/\e.2.2=(eb e:Int)
theorem InE.nodes {n:Nat}{R:List Edg}(h:InE n R):C8 n R:=λ e he=>⟨(h e he).1,(h e he).2.1⟩
theorem InE.sub {n:Nat}{R S:List Edg}(h:InE n R)(hs:∀e∈S,e∈R):InE n S:=λ e he=>h e (hs e he)
theorem Mm {n:Nat}{R:List Edg}(p9:InE n R){k:Nat}(hk:k<R.length):∃(x0:Int) (xa xb:Nat),R[k]? =some (x0,(xa:Int),(xb:Int))/\xa<n/\xb<n/\ea (x0,(xa:Int),(xb:Int))=xa/\eb (x0,(xa:Int),(xb:Int))=xb:=by
 obtain⟨e,he⟩:∃e,R[k]? =some e:=⟨_,aB hk⟩;obtain⟨h1,h2,h3,h4⟩:=p9 e (aG he);obtain⟨x0,x1,x2⟩:=e;obtain⟨xa,IQ⟩:∃xa,ea (x0,x1,x2)=xa:=⟨_,rfl⟩;obtain⟨xb,GA⟩:∃xb,eb (x0,x1,x2)=xb:=⟨_,rfl⟩;rw[IQ] at h1 h3;rw[GA] at h2 h4;simp only at h3 h4;subst h3;subst h4;exact⟨x0,xa,xb,he,h1,h2,IQ,GA⟩
theorem Hy {w:World}{B:Nat}{va:Option Addr}{m vc:Nat}{R:List Edg}(h:G.Ad w B 61 (.slice va m vc) R){k:Nat}(hk:k<R.length):∃g,va=some ⟨g,0,none⟩:=by
 rcases h.shape with⟨_,e⟩|⟨g,cap,e,_⟩
 ·rw[e] at hk;simp at hk
 ·injection e with e1 _ _
  exact⟨g,e1⟩
theorem zqh (n:Nat){R:List Edg}{k:Nat}{x:Edg}(h:R[k]? =some x):lbl n (R.take (k+1))=joinL (lbl n (R.take k)) (ea x) (eb x):=by
 obtain⟨j6,he⟩:=aC.1 h;rw[cB j6,he,Vw]
theorem zfh {n:Nat}{R:List Edg}(h:InE n R)(k:Nat):C8 n (R.take k):=λ e he=>h.nodes e (dB he)
theorem Ie (n B0:Nat)(u:Value)(R:List Edg)(w:World)(hR:G.Ad w B0 61 u R)(hn:n<=40)(p9:InE n R)(hl:R.length<=120):
 Calls prog 252 #[n,u] w λ e w'=>∃p b,e=Value.pointer (some ⟨p,0,none⟩)/\Aa w' p b (lbl n R)/\w.heap.size<=p/\w.heap.size<=b/\Below w w w':=by
 have HR:=kd (And.intro hR p9);obtain⟨m,hm⟩:∃m,R.length=m:=⟨_,rfl⟩;have HM:=kd hm;obtain⟨va,vc,hv⟩:=hR.Ap;rw[hm] at hv hl;subst hv;clear hR hm p9;go_enter func252,ntmps252;go_wp2_with fail;refine(Kk n w hn).mono ?_;rintro e w1 ⟨rfl,EK,j4⟩;have IC:=kd (And.intro EK j4);clear EK j4;go_wp2_with fail;go_loopw [16] (λ s16 wq=>∃k:Nat,k<=m/\s16=k/\Aa wq (w+1) w (lbl n (R.take k))/\Below w w wq) (λ s16 _=>m-(intOf s16).toNat)
 case atStart=>exact⟨0,aN _,rfl,IC.o.1,IC.o.2⟩
 case round=>
  clear IC;obtain⟨k,hk,rfl,hs,hb⟩:=hrel;have HS:=kd hs;have HB:=kd hb;clear hs hb;by_cases j6:k<m
  ·as_aux_lemma=>
   obtain⟨x0,xa,xb,hx,OQ,LG,IQ,GA⟩:=Mm HR.o.2 (by rw[HM.o];exact j6);have HX:Hid (R[k]? =some (x0,(xa:Int),(xb:Int))/\ea (x0,(xa:Int),(xb:Int))=xa/\eb (x0,(xa:Int),(xb:Int))=xb):=⟨hx,IQ,GA⟩;obtain⟨g,rfl⟩:=Hy HR.o.1 (by rw[HM.o];exact j6);obtain⟨r0,r1,r2⟩:=(HR.o.1.below HB.o).at (g:=g) rfl hx;have r0':wr.cell? (g,k*3)=x0:=r0;have r1':wr.cell? (g,k*3+1)=xa:=r1;have r2':wr.cell? (g,k*3+2)=xb:=r2;clear r0 r1 r2 hx IQ GA;have j4:Below wr wr (wr.alloc (.cells #[x0,xa,xb] 61)):=b_;have x8:Hid (Below w w (wr.alloc (.cells #[x0,xa,xb] 61))):=HB.o.tr j4;have VA:Hid (Aa (wr.alloc (.cells #[x0,xa,xb] 61)) (w+1) w (lbl n (R.take k))):=HS.o.below j4 HS.o.plt HS.o.blt;clear j4;go_wp2_with fail;have g:=Er (zfh HR.o.2 k);refine(Nw xa xb (w+1) w _ _ VA.o (by rw[g.len];exact OQ) (by rw[g.len];exact LG) (by rw[g.len];exact hn)).mono ?_;rintro e w3 ⟨rfl,OT,y8⟩;have YA:Hid (Aa w3 (w+1) w (lbl n (R.take (k+1)))/\Below w w w3):=by
    refine⟨?_,x8.o.trans (y8.below (aF _) x8.o.size)⟩;rw[zqh n HX.o.1,HX.o.2.1,HX.o.2.2];exact OT
   clear OT y8 g VA HS HB x8 r0' r1' r2';go_wp2_with fail;go_roundw;case rel=>exact⟨k+1,by omega,by go_num,YA.o.1,YA.o.2⟩
   case measure=>simp[intOf];omega
  ·as_aux_lemma=>
   have CF:k=m:=by omega
   have YA:Hid (Aa wr (w+1) w (lbl n R)):=by
    have h2:=HS.o;rw[CF,<-HM.o,bK] at h2;exact h2
   clear CF HS;go_wp2_with fail;go_ret;exact⟨_,_,rfl,YA.o,by omega,by omega,HB.o⟩
theorem Uw (x y p b:Nat)(L:List Nat)(s:Bool)(w:World)(hs:Aa w p b L)(hx:x<L.length)(hy:y<L.length)(hv:(s=true↔L.getD x 0≠L.getD y 0)):
 Calls prog 256 #[.pointer p,x,y] w λ e w'=>e=s/\Below w w w':=by
 have HC:Hid _:=V6 x y p b L (!s) w hs hx hy (by
  by_cases h:L.getD x 0=L.getD y 0
  ·have:s=false:=by
    rw[fG];intro k;exact hv.1 k h
   rw[this,h];simp
  ·have:s=true:=hv.2 h
   rw[this];exact aH.2 (by omega))
 clear hs hx hy hv;go_enter func256,ntmps256;go_wp2_with fail;refine aA HC.o ?_;rintro e w1 ⟨rfl,hb⟩;have HB:=kd hb;clear hb HC;go_wp2_with fail;go_ret;exact⟨by simp,HB.o⟩
structure Gw (w0 W0 w:World) (p b be:Nat) (l:List Nat) (R t o:List Edg) (ue v2 v3:Value):Prop where
 sets:Aa w p b l
 er:G.Ad w be 61 ue R
 o2:G.Ad w W0 61 v2 t
 o3:G.Ad w W0 61 v3 o
 ap:∀k,v2.ownBlock=some k->v3.ownBlock≠some k
 lp:p<be
 lbl:b<be
 lbe:be<=W0
 lu:∀k,ue.ownBlock=some k->k<W0.heap.size
 low:w0<=b
 below:Below w0 w0 w
 sz:W0.heap.size<=w.heap.size
 s0:w0.heap.size<=W0.heap.size
section
variable {w0 W0 w w':World} {p b be:Nat} {l l':List Nat} {R t o:List Edg} {ue v2 v3 v':Value}
theorem Gw.below' (h:Gw w0 W0 w p b be l R t o ue v2 v3)(hb:Below w w w'):Gw w0 W0 w' p b be l R t o ue v2 v3:=
 {h with sets:=h.sets.below hb h.sets.plt h.sets.blt,er:=h.er.below hb,o2:=h.o2.below hb,o3:=h.o3.below hb,below:=h.below.tr hb,sz:=aD h.sz hb.size}
theorem Gw.join (h:Gw w0 W0 w p b be l R t o ue v2 v3)(hs:Aa w' p b l')(hb:But b w w'):Gw w0 W0 w' p b be l' R t o ue v2 v3:=by
 have hg:w.grownBy w' (some b):=⟨hb.os,hb.tape,hb.output,hb.size,λ k hk l9=>hb.block k hk (λ e=>l9 (by rw[e]))⟩;have RZ:=h.lbl;have NV:=h.lbe;refine {h with sets:=hs,er:=dI h.er hg (.inr (λ e=>by have:=(aU h.er b e).1;omega)),o2:=dI h.o2 hg (.inr (λ e=>by have:=(aU h.o2 b e).1;omega)),o3:=dI h.o3 hg (.inr (λ e=>by have:=(aU h.o3 b e).1;omega)),below:=h.below.trans (hb.below h.low h.below.size),sz:=aD h.sz hb.size}
theorem Gw.grown (h:Gw w0 W0 w p b be l R t o ue v2 v3){v:Value}(hg:w.grownBy w' v.ownBlock)(hv:∀k,v.ownBlock=some k->W0.heap.size<=k):Aa w' p b l/\G.Ad w' be 61 ue R/\Below w0 w0 w'/\W0.heap.size<=w'.heap.size:=by
 have hlp:=h.lp;have RZ:=h.lbl;have NV:=h.lbe;have ZN:=h.s0;refine⟨⟨(hg.block p h.sets.plt (λ e=>by have:=hv p e.symm;omega)).trans h.sets.hp,(hg.block b h.sets.blt (λ e=>by have:=hv b e.symm;omega)).trans h.sets.hb⟩,dI h.er hg ?_,h.below.grown hg h.below.size (λ j hj=>by have:=hv j hj;omega),aD h.sz hg.size⟩;by_cases e:ue.ownBlock=none
 ·exact .inl e
 ·refine .inr (λ e2=>?_)
  obtain⟨k,hk⟩:=gL.1 e;have h1:=h.lu k hk;have h2:=hv k (e2.symm.trans hk);omega
theorem Gw.tree (h:Gw w0 W0 w p b be l R t o ue v2 v3){x:Edg}(ho:G.Ad w' W0 61 v' (t++[x]))(hg:w.grownBy w' v2.ownBlock)(hf:G.Dm w v2 v'):Gw w0 W0 w' p b be l R (t++[x]) o ue v' v3:=by
 obtain⟨h1,h2,h3,h4⟩:=h.grown hg (λ k hk=>(aU h.o2 k hk).1);refine {h with sets:=h1,er:=h2,o2:=ho,o3:=dI h.o3 hg ?_,ap:=λ k hk e=>?_,below:=h3,sz:=h4}
 ·by_cases e:v3.ownBlock=none
  ·exact .inl e
  ·refine .inr (λ e2=>?_)
   obtain⟨k,hk⟩:=gL.1 e;exact h.ap k (e2.symm.trans hk) hk
 ·rcases hf k hk with h5|h5
  ·exact h.ap k h5 e
  ·have:=(aU h.o3 k e).2;omega
theorem Gw.other (h:Gw w0 W0 w p b be l R t o ue v2 v3){x:Edg}(ho:G.Ad w' W0 61 v' (o++[x]))(hg:w.grownBy w' v3.ownBlock)(hf:G.Dm w v3 v'):Gw w0 W0 w' p b be l R t (o++[x]) ue v2 v':=by
 obtain⟨h1,h2,h3,h4⟩:=h.grown hg (λ k hk=>(aU h.o3 k hk).1);refine {h with sets:=h1,er:=h2,o3:=ho,o2:=dI h.o2 hg ?_,ap:=λ k hk e=>?_,below:=h3,sz:=h4}
 ·by_cases e:v2.ownBlock=none
  ·exact .inl e
  ·refine .inr (λ e2=>?_)
   obtain⟨k,hk⟩:=gL.1 e;exact h.ap k hk (e2.symm.trans hk)
 ·rcases hf k e with h5|h5
  ·exact h.ap k hk h5
  ·have:=(aU h.o2 k hk).2;omega
end
theorem zju {L:List Nat}{x y:Nat}(h:L.getD x 0=L.getD y 0):joinL L x y=L:=by
 apply eB
 ·simp[joinL]
 ·intro i h1 h2
  have:=Hd L x y i h2;rw[bH,aB h1,bH (l:=L) (i:=i),aB h2] at this;simp only[jW] at this;rw[this,h];unfold named;split <;> omega
theorem zne (n:Nat){R:List Edg}{k:Nat}{x:Edg}(h:R[k]? =some x):grw n (R.take (k+1))=F5 n (grw n (R.take k)) x:=by
 obtain⟨j6,he⟩:=aC.1 h;rw[cB j6,he,zj9]
theorem zoi {n:Nat}{R:List Edg}(FM:R.Nodup)(p9:C8 n R)(k:Nat):Gr n (R.take k) (grw n (R.take k)).1 (grw n (R.take k)).2:=
 P6 _ (FM.sublist (List.take_sublist _ _)) (λ e he=>p9 e (dB he))
def zmv (w:World)(n:Nat)(R:List Edg)(e:Ending)(w':World):Prop:=
 ∃v2 v3 B,e=Value.tuple #[v2,v3]/\G.Ad w' B 61 v2 (grw n R).1/\G.Ad w' B 61 v3 (grw n R).2/\w.heap.size<=B/\Below w w w'
theorem znb (n B p:Nat)(v:Value)(R:List Edg)(w:World)(h:G.GAt w B 168 61 p (n:Int) v R)(hn:n<=40)(p9:InE n R)(FM:R.Nodup)(hl:R.length<=120):
 Calls prog 139 #[.pointer p] w (zmv w n R):=by
 have HG:=kd h;have BG:=kd (And.intro p9 FM);clear h p9 FM;go_enter func139,ntmps139;go_wp2_with fail;refine(G.Cg (n:Int) B p v R _ HG.o).mono ?_;rintro e w0 ⟨rfl,ZW⟩;subst ZW;go_wp2_with fail;refine(Ie n 0 (.slice none 0 0) [] w0 (aX _ _ _ _) hn (λ e he=>by simp at he) (by simp)).mono ?_;rintro e w1 ⟨ps,bs,rfl,EK,XA,EI,j4⟩;have IC:Hid (Aa w1 ps bs (lbl n [])/\w0.heap.size<=bs/\Below w0 w0 w1):=⟨EK,EI,j4⟩;clear EK XA EI j4;go_wp2_with fail;refine(G.Dv (n:Int) B p v R _ (HG.o.below IC.o.2.2) hl).mono ?_;rintro e w2 ⟨ue,rfl,MX,j5⟩;have FN:Hid (Gw w0 w2 w2 ps bs w1 (lbl n (grw n (R.take 0)).1) R (grw n (R.take 0)).1 (grw n (R.take 0)).2 ue (.slice none 0 0) (.slice none 0 0)):=
  ⟨IC.o.1.below j5 IC.o.1.plt IC.o.1.blt,MX,aX _ _ _ _,aX _ _ _ _,λ k hk=>absurd hk (by simp[Value.ownBlock]),IC.o.1.plt,IC.o.1.blt,j5.size,λ k hk=>(aU MX k hk).2,IC.o.2.1,IC.o.2.2.tr j5,aF _,aD IC.o.2.2.size j5.size⟩
 obtain⟨m,hm⟩:∃m,R.length=m:=⟨_,rfl⟩;have HM:=kd hm;obtain⟨va,vc,hv⟩:=MX.Ap;rw[hm] at hv hl;subst hv;clear MX j5 IC hm;go_wp2_with fail;go_loopw [2,3,15] (λ s2 s3 s15 wq=>∃k:Nat,k<=m/\s15=k/\Gw w0 w2 wq ps bs w1 (lbl n (grw n (R.take k)).1) R (grw n (R.take k)).1 (grw n (R.take k)).2 (.slice va m vc) s2 s3) (λ _ _ s15 _=>m-(intOf s15).toNat)
 case atStart=>exact⟨0,aN _,rfl,FN.o⟩
 case round=>
  clear FN;obtain⟨k,hk,rfl,KN⟩:=hrel;have HW:=kd KN;clear KN;by_cases j6:k<m
  ·obtain⟨x0,xa,xb,hx,OQ,LG,IQ,GA⟩:=Mm BG.o.1 (by rw[HM.o];exact j6)
   have HX:Hid (R[k]? =some (x0,(xa:Int),(xb:Int))/\ea (x0,(xa:Int),(xb:Int))=xa/\eb (x0,(xa:Int),(xb:Int))=xb):=⟨hx,IQ,GA⟩;obtain⟨g,rfl⟩:=Hy HW.o.er (by rw[HM.o];exact j6);obtain⟨r0,r1,r2⟩:=HW.o.er.at (g:=g) rfl hx;have r0':wr.cell? (g,k*3)=x0:=r0;have r1':wr.cell? (g,k*3+1)=xa:=r1;have r2':wr.cell? (g,k*3+2)=xb:=r2;have IU:Hid (Gr n (R.take k) (grw n (R.take k)).1 (grw n (R.take k)).2):=zoi BG.o.2 BG.o.1.nodes k;have GK:Hid (grw n (R.take (k+1))=F5 n (grw n (R.take k)) (x0,(xa:Int),(xb:Int))):=zne n hx;have KJ:(grw n (R.take k)).1.length+(grw n (R.take k)).2.length<=1000:=by
    have:=IU.o.len;rw[this,bN];omega
   obtain⟨t,ht⟩:∃t,(grw n (R.take k)).1=t:=⟨_,rfl⟩;obtain⟨o,ho⟩:∃o,(grw n (R.take k)).2=o:=⟨_,rfl⟩;have HTO:=kd (And.intro ht ho);rw[ht,ho] at HW IU KJ;have IK:(lbl n t).length=n:=(Er (λ d hd=>BG.o.1.nodes d (dB ((IU.o.mem d).2 (.inl hd))))).len;clear r0 r1 r2 hx IQ GA ht ho;have j4:Below wr wr (wr.alloc (.cells #[x0,xa,xb] 61)):=b_;have BQ:Hid (Gw w0 w2 (wr.alloc (.cells #[x0,xa,xb] 61)) ps bs w1 (lbl n t) R t o (.slice g m vc) u2 u3):=HW.o.below' j4;have EI:=HW.o.sets.blt;clear j4 HW;go_wp2_with fail;refine(Nw xa xb ps bs (lbl n t) _ BQ.o.sets (by omega) (by omega) (by omega)).mono ?_;rintro e w3 ⟨rfl,OT,y8⟩;have DT:w3.heap[wr.heap.size]? =some (.cells #[x0,xa,xb] 61):=(y8.block wr (by simp) (by omega)).trans (aQ wr _);have q0:w3.cell? wr=x0:=by simp[World.cell?,DT]
   have q1:w3.cell? (wr,1)=xa:=by simp[World.cell?,DT]
   have q2:w3.cell? (wr,2)=xb:=by simp[World.cell?,DT]
   have EE:Hid (Gw w0 w2 w3 ps bs w1 (joinL (lbl n t) xa xb) R t o (.slice g m vc) u2 u3):=BQ.o.join OT y8;have ZX:Hid (F5 n (t,o) (x0,(xa:Int),(xb:Int))=if (lbl n t).getD xa 0=(lbl n t).getD xb 0 then(t,o++[(x0,(xa:Int),(xb:Int))]) else(t++[(x0,(xa:Int),(xb:Int))],o)):=by
    show F5 n (t,o) _=_;unfold F5;rw[HX.o.2.1,HX.o.2.2]
   have ZY:grw n (R.take k)=(t,o):=kP HTO.o.1 HTO.o.2;have HLB:Hid (lbl n (t++[(x0,(xa:Int),(xb:Int))])=joinL (lbl n t) xa xb):=by
    show lbl n _=_;rw[Vw,HX.o.2.1,HX.o.2.2]
   rw[ZY] at GK;clear OT y8 DT BQ r0' r1' r2' ZY;by_cases hc:(lbl n t).getD xa 0=(lbl n t).getD xb 0
   ·as_aux_lemma=>
    have hd:decide ((lbl n t).getD xa 0≠(lbl n t).getD xb 0)=false:=bM (λ k=>k hc);have CU:F5 n (t,o) (x0,(xa:Int),(xb:Int))=(t,o++[(x0,(xa:Int),(xb:Int))]):=by rw[ZX.o,aP hc]
    have CY:Hid (Gw w0 w2 w3 ps bs w1 (lbl n t) R t o (.slice g m vc) u2 u3):=by
     have:=EE.o;rw[zju hc] at this;exact this
    rw[hd];clear EE hc hd;obtain⟨v',w4,hr,GX,_,QF,KQ⟩:=G.Oa 33 w3 w2 u3 _ x0 (xa:Int) (xb:Int) CY.o.o3 CY.o.sz (by omega);have HR:=kd hr;have QG:Hid (Gw w0 w2 w4 ps bs w1 (lbl n (grw n (R.take (k+1))).1) R (grw n (R.take (k+1))).1 (grw n (R.take (k+1))).2 (.slice g m vc) u2 v'):=by
     have h1:=CY.o.other GX KQ QF;show Gw _ _ _ _ _ _ _ _ _ _ _ _ _;rw[GK.o,CU];exact h1
    clear hr GX QF KQ CY;go_wp2_with (at_builtin;refine Lib.wpList_append_run _ rfl _ _ _ _ rfl _ _ rfl rfl _ _ HR.o ?_);go_roundw;case rel=>exact⟨k+1,by omega,by go_num,QG.o⟩
    case measure=>simp[intOf];omega
   ·as_aux_lemma=>
    have hd:decide ((lbl n t).getD xa 0≠(lbl n t).getD xb 0)=true:=bI hc;have CU:F5 n (t,o) (x0,(xa:Int),(xb:Int))=(t++[(x0,(xa:Int),(xb:Int))],o):=by rw[ZX.o,aL hc]
    have CY:Hid (Gw w0 w2 w3 ps bs w1 (lbl n (t++[(x0,(xa:Int),(xb:Int))])) R t o (.slice g m vc) u2 u3):=by
     have:=EE.o;rw[<-HLB.o] at this;exact this
    rw[hd];clear EE hc hd;obtain⟨v',w4,hr,GX,_,QF,KQ⟩:=G.Oa 33 w3 w2 u2 _ x0 (xa:Int) (xb:Int) CY.o.o2 CY.o.sz (by omega);have HR:=kd hr;have QG:Hid (Gw w0 w2 w4 ps bs w1 (lbl n (grw n (R.take (k+1))).1) R (grw n (R.take (k+1))).1 (grw n (R.take (k+1))).2 (.slice g m vc) v' u3):=by
     have h1:=CY.o.tree GX KQ QF;show Gw _ _ _ _ _ _ _ _ _ _ _ _ _;rw[GK.o,CU];exact h1
    clear hr GX QF KQ CY;go_wp2_with (at_builtin;refine Lib.wpList_append_run _ rfl _ _ _ _ rfl _ _ rfl rfl _ _ HR.o ?_);go_roundw;case rel=>exact⟨k+1,by omega,by go_num,QG.o⟩
    case measure=>simp[intOf];omega
  ·as_aux_lemma=>
   have CF:k=m:=by omega
   have HF:Hid (Gw w0 w2 wr ps bs w1 (lbl n (grw n R).1) R (grw n R).1 (grw n R).2 (.slice va m vc) u2 u3):=by
    have h2:=HW.o;rw[CF,<-HM.o,bK,HM.o] at h2;exact h2
   clear CF HW;go_wp2_with fail;go_ret2;exact⟨_,_,w2.heap.size,rfl,HF.o.o2,HF.o.o3,HF.o.s0,HF.o.below⟩
end Go.Proofs.Y.S
namespace Go.Proofs.Y.S
open Go.RowKit Go.Proofs.Tryz
theorem jr {i:Nat}(h:i<64):2^i<18446744073709551616:=Nat.pow_lt_pow_right (by omega) h
theorem Z4 {i:Nat}(h:i<64):IntKind.u64.wrap ((2:Int)^i)=((2^i:Nat):Int):=by
 have h1:=jr h;have h2:((2:Int)^i)=((2^i:Nat):Int):=by simp
 rw[h2,IntKind.wrap_u64];generalize 2^i=K at h1 ⊢;omega
theorem or_bit {x i:Nat}(hi:i<64)(hx:x<2^i):bits .or .u64 (x:Int) ((2^i:Nat):Int)=((x+2^i:Nat):Int):=by
 have h1:=jr hi;rw[bits_or_u64_nat x (2^i) (by omega) h1,zsy hx]
def Cu (x:Nat):Nat:=x%18446744073709551616
def hi64 (x:Nat):Nat:=x/18446744073709551616
theorem zmu {x y:Nat}(h1:Cu x=Cu y)(h2:hi64 x=hi64 y):x=y:=by
 unfold Cu at h1;unfold hi64 at h2;omega
theorem zul (x:Nat):Cu x<18446744073709551616:=by unfold Cu;omega
theorem zt2 {x:Nat}(h:x<340282366920938463463374607431768211456):hi64 x<18446744073709551616:=by unfold hi64;omega
def Hq (x:Nat):Value:=.agg #[.int .u64 (Cu x:Int),.int .u64 (hi64 x:Int)]
theorem zlq {w:World}{b t:Nat}{x y:Value}(h:w.heap[b]? =some (.cells #[x,y] t))(v:Value):(w.setCell b v).heap[b]? =some (.cells #[v,y] t):=by
 simp only[World.setCell,dC,h];simp
theorem zhy {w:World}{b t:Nat}{x y:Value}(h:w.heap[b]? =some (.cells #[x,y] t))(v:Value):(w.setCell (b,1) v).heap[b]? =some (.cells #[x,v] t):=by
 simp only[World.setCell,dC,h];simp
theorem zqv (b i x:Nat)(u:Value)(w:World)(hb:w.heap[b]? =some (.cells #[.int .u64 (x:Int),u] 208))(hi:i<64)(hx:x<2^i):
 Calls prog 140 #[.pointer b,i] w λ e w'=>e=Value.tuple #[]/\w'.heap[b]? =some (.cells #[.int .u64 ((x+2^i:Nat):Int),u] 208)/\But b w w':=by
 have c0:w.cell? b=some (.int .u64 (x:Int)):=by simp[World.cell?,hb]
 have f0:w.frozen? b=false:=by simp[World.frozen?,hb]
 have e1:(i:Int).tdiv 64=0:=Int.tdiv_eq_zero_of_lt (by omega) (by omega);have e2:(i:Int).tmod 64=(i:Int):=Int.tmod_eq_of_lt (by omega) (by omega);have HO:Hid (bits .or .u64 (x:Int) (IntKind.u64.wrap ((2:Int)^i))=((x+2^i:Nat):Int)):=by
  show bits _ _ _ _=_;rw[Z4 hi];exact or_bit hi hx
 have HB:=kd hb;clear hb hx;go_enter func140,ntmps140;go_upto_region 0 with fail
 go_region
 all_goals
  go_wp2_with fail;refine lF (iK rfl _ _ _) rfl ?_;refine⟨rfl,?_,?_⟩
  ·rw[HO.o]
   exact zlq HB.o _
  ·exact((But.refl b w).setCell 0 _).trans (But.of_below (aI _ _).drew)
theorem zm1 (b i j x:Nat)(u:Value)(w:World)(hb:w.heap[b]? =some (.cells #[u,.int .u64 (x:Int)] 208))(hij:i=64+j)(hj:j<64)(hx:x<2^j):
 Calls prog 140 #[.pointer b,i] w λ e w'=>e=Value.tuple #[]/\w'.heap[b]? =some (.cells #[u,.int .u64 ((x+2^j:Nat):Int)] 208)/\But b w w':=by
 have c0:w.cell? (b,1)=some (.int .u64 (x:Int)):=by simp[World.cell?,hb]
 have f0:w.frozen? (b,1)=false:=by simp[World.frozen?,hb]
 have e1:(i:Int).tdiv 64=1:=by rw[Int.tdiv_eq_ediv_of_nonneg (by omega)];omega
 have e2:(i:Int).tmod 64=(j:Int):=by rw[Int.tmod_eq_emod_of_nonneg (by omega)];omega
 have HO:Hid (bits .or .u64 (x:Int) (IntKind.u64.wrap ((2:Int)^j))=((x+2^j:Nat):Int)):=by
  show bits _ _ _ _=_;rw[Z4 hj];exact or_bit hj hx
 have HB:=kd hb;clear hb hx hij;go_enter func140,ntmps140;go_upto_region 0 with fail
 go_region
 all_goals
  go_wp2_with fail;refine lF (iK rfl _ _ _) rfl ?_;refine⟨rfl,?_,?_⟩
  ·rw[HO.o]
   exact zhy HB.o _
  ·exact((But.refl b w).setCell 1 _).trans (But.of_below (aI _ _).drew)
theorem zbl (b i x:Nat)(w:World)(hb:w.heap[b]? =some (.cells #[.int .u64 (Cu x:Int),.int .u64 (hi64 x:Int)] 208))(hi:i<128)(hx:x<2^i):
 Calls prog 140 #[.pointer b,i] w λ e w'=>e=Value.tuple #[]/\w'.heap[b]? =some (.cells #[.int .u64 (Cu (x+2^i):Int),.int .u64 (hi64 (x+2^i):Int)] 208)/\But b w w':=by
 by_cases h:i<64
 ·have h1:2^(i+1)<=2^64:=Nat.pow_le_pow_right (by omega) (by omega)
  have h2:2^(i+1)=2^i+2^i:=by rw[kX];omega
  have h3:(2:Nat)^64=18446744073709551616:=by decide
  have e1:Cu x=x:=by unfold Cu;omega
  have e2:Cu (x+2^i)=x+2^i:=by unfold Cu;omega
  have e3:hi64 (x+2^i)=hi64 x:=by unfold hi64;omega
  rw[e1] at hb;rw[e2,e3];exact zqv b i x _ w hb h hx
 ·obtain⟨j,rfl⟩:∃j,i=64+j:=⟨i-64,by omega⟩
  have h1:2^(64+j)=18446744073709551616*2^j:=by rw[Nat.pow_add]
  have e1:Cu (x+2^(64+j))=Cu x:=by unfold Cu;omega
  have e2:hi64 (x+2^(64+j))=hi64 x+2^j:=by unfold hi64;omega
  have e3:hi64 x<2^j:=by unfold hi64;omega
  rw[e1,e2];exact zm1 b (64+j) j (hi64 x) _ w hb rfl (by omega) e3
def Box (w:World)(c:Nat)(d:Edg):Prop:=w.heap[c]? =some (.cells #[d.1,d.2.1,d.2.2] 61)
theorem Box.below {w w':World}{c:Nat}{d:Edg}(h:Box w c d)(hb:Below w w w'):Box w' c d:=(hb.block c (lt_of_some h)).trans h
theorem Box.cells {w:World}{c:Nat}{d:Edg}(h:Box w c d):w.cell? c=d.1/\w.cell? (c,1)=d.2.1/\w.cell? (c,2)=d.2.2:=by
 unfold Box at h;refine⟨?_,?_,?_⟩ <;> simp[World.cell?,h]
theorem og (x d:Edg)(c:Nat)(w:World)(h:Box w c d):
 Calls prog 255 #[.agg #[x.1,x.2.1,x.2.2],.pointer c] w λ e w'=>e=Value.bool (decide (x=d))/\Below w w w':=by
 obtain⟨c0,c1,c2⟩:=h.cells;have hl:c<w:=lt_of_some h;clear h;obtain⟨x0,x1,x2⟩:=x;obtain⟨d0,d1,d2⟩:=d;simp only at c0 c1 c2 ⊢;have hb:Below w w (w.alloc (.cells #[x0,x1,x2] 61)):=b_;have k0:=cell_below c0 hb;have k1:=cell_below c1 hb;have k2:=cell_below c2 hb;clear hb c0 c1 c2;go_enter func255,ntmps255;go_wp2_with fail;all_goals
  go_ret;refine⟨?_,b_⟩;simp_all
theorem zn (u:Value)(B:Nat)(M:List Edg)(w:World)(h:G.Ad w B 61 u M)(hl:M.length<=1000):
 Calls prog 254 #[u] w λ e w'=>∃u',e= .returned u'/\G.Ad w' w 61 u' M/\Below w w w':=by
 have hq:=λ(a:Option Addr) (n c:Nat) (W:World)=>Lib.run_eql_slice_nil (P:=prog) W 33 61 a n c 0 0 underlying33
 rcases h.shape with⟨rfl,rfl⟩|⟨g,cap,rfl,_⟩
 ·go_enter func254,ntmps254
  go_wp2_with fail;go_ret;exact⟨_,rfl,aX _ _ _ _,aI _ _⟩
 ·obtain⟨a',m',c',w',hr,ho,hb⟩:=G.Tc 33 w B _ M h hl
  have HR:=kd hr;have HO:=kd (And.intro ho hb);clear hr ho hb h;go_enter func254,ntmps254;go_wp2_with (at_builtin;refine Lib.wpList_append_run _ rfl _ _ _ _ rfl _ _ rfl rfl _ _ HR.o ?_);go_ret;exact⟨_,rfl,HO.o.1,HO.o.2⟩
theorem zal (c g m cap B:Nat)(d:Edg)(M:List Edg)(w:World)(h:G.Ad w B 61 (.slice g m cap) M)(hd:Box w c d)(hl:M.length<=1000)(hm:M.length=m):
 Calls prog 322 #[.slice g m cap,.func (.func 255) #[] #[.pointer c]] w λ e w'=>((∃i,i<m/\e= .returned (.int .i64 (i:Int))/\M[i]? =some d/\∀j,j<i->M[j]? ≠some d)\/(e=(-1:Int)/\∀j,j<m->M[j]? ≠some d))/\Below w w w':=by
 have HO:Hid (G.Ad w B 61 (.slice g m cap) M/\Box w c d/\M.length=m):=⟨h,hd,hm⟩;rw[hm] at hl;clear h hd hm;go_enter func322,ntmps322;go_wp2_with fail;go_loopw [8] (λ s8 wq=>∃k:Nat,k<=m/\s8=k/\(∀j,j<k->M[j]? ≠some d)/\Below w w wq) (λ s8 _=>m-(intOf s8).toNat)
 case atStart=>exact⟨0,aN _,rfl,λ j hj=>by omega,aI _ _⟩
 case round=>
  obtain⟨k,hk,rfl,AA,hb⟩:=hrel;have HB:=kd (And.intro AA hb);clear AA hb;by_cases j6:k<m
  ·obtain⟨x,hx⟩:∃x,M[k]? =some x:=⟨_,aB (by rw[HO.o.2.2];exact j6)⟩
   obtain⟨r0,r1,r2⟩:=(HO.o.1.below HB.o.2).at (g:=g) rfl hx;have r0':wr.cell? (g,k*3)=x.1:=r0;have r1':wr.cell? (g,k*3+1)=x.2.1:=r1;have r2':wr.cell? (g,k*3+2)=x.2.2:=r2;have HX:=kd hx;have HC:Hid _:=og x d c wr (HO.o.2.1.below HB.o.2);clear r0 r1 r2 hx;by_cases MJ:x=d
   ·as_aux_lemma=>
    subst MJ;go_wp2_with fail;refine aA HC.o ?_;rintro e w2 ⟨rfl,j5⟩;have y5:Hid (Below w w w2):=HB.o.2.tr j5
    first|rw[bI rfl]|simp only[decide_true]
    clear j5 HC;go_wp2_with fail;go_ret;exact⟨.inl ⟨k,j6,rfl,HX.o,HB.o.1⟩,y5.o⟩
   ·as_aux_lemma=>
    go_wp2_with fail;refine aA HC.o ?_;rintro e w2 ⟨rfl,j5⟩;have y5:Hid (Below w w w2/\∀j,j<k+1->M[j]? ≠some d):=⟨HB.o.2.tr j5,λ j hj=>by
     by_cases e:j=k
     ·rw[e,HX.o];exact λ e2=>MJ (dG e2)
     ·exact HB.o.1 j (by omega)⟩
    rw[bM MJ];clear j5 HC;go_wp2_with fail;go_roundw;case rel=>exact⟨k+1,by omega,by go_num,y5.o.2,y5.o.1⟩
    case measure=>simp[intOf];omega
  ·as_aux_lemma=>
   have CF:k=m:=by omega
   go_wp2_with fail;go_ret;exact⟨.inr ⟨rfl,λ j hj=>HB.o.1 j (by omega)⟩,HB.o.2⟩
theorem N9 {P:Program}(w:World)(t e ty:TypeId)(z:Value)(ht:P.underlying t=some (.slice e))(hv:∀w,(zeroValue e).run P w= .ok z w)(g o n c:Nat)(hn:0<n)(cur:List Value)(te:TypeId)
 (hg:w.heap[g]? =some (.cells cur.toArray te (0,0))) (UB:o+(Builtin.zeroCells z.cells n).toList.length<=cur.length) (h1:∀v∈(Builtin.zeroCells z.cells n).toList,v.oneCell'=true):
 (Builtin.clear_ #[t] ty #[.slice (g,o) n c]).run P w= .ok (.tuple #[]) (w.setRow g (splice cur o (Builtin.zeroCells z.cells n).toList).toArray):=by
 have CU:=jM P g o te _ 0 cur.toArray w hg (by simpa using UB) h1;simp only[jU] at CU;obtain⟨m,rfl⟩:∃m,n=m+1:=⟨n-1,by omega⟩;simp[Builtin.clear_,run_underlying ht,hv,CU,splice]
theorem zc4 (n:Nat):∀u∈(Builtin.zeroCells G.zE.cells n).toList,u.oneCell'=true:=by
 intro u hu;rw[G.Me] at hu;simp only[Builtin.zeroCells,jX,aY] at hu;obtain⟨a,_,rfl⟩:=hu;have:a%3<3:=Nat.mod_lt _ (by omega);show(#[Value.int .i64 0,Value.int .i64 0,Value.int .i64 0][a%3]!).oneCell'=true;generalize a%3=r at this
 match r,this with
 |0,_=>rfl
 |1,_=>rfl
 |2,_=>rfl
theorem zp1 (w:World):(zeroValue 61).run prog w= .ok G.zE w:=by kernel_rfl
theorem jy:∀(X:List Edg) (i:Nat) (x:Edg),i<X.length->G.Af (X.set i x)=(((G.Af X).set (i*3) x.1).set (i*3+1) x.2.1).set (i*3+2) x.2.2
 |[],i,x,h=>by simp at h
 |y::X,0,x,_=>by simp[G.Dr,G.Au]
 |y::X,i+1,x,h=>by
  have ih:=jy X i x (by simpa using h);have e1:(i+1)*3=(i*3)+3:=by omega
  have e2:(i+1)*3+1=(i*3+1)+3:=by omega
  have e3:(i+1)*3+2=(i*3+2)+3:=by omega
  rw[List.set_cons_succ,G.Dr,G.Dr,ih,e3,e2,e1];simp[G.Au]
theorem znn {w:World}{B g m cap i:Nat}{X:List Edg}(h:G.Ad w B 61 (.slice g m cap) X)(hi:i<X.length)(x:Edg):
 G.Ad (((w.setCell (g,i*3) x.1).setCell (g,i*3+1) x.2.1).setCell (g,i*3+2) x.2.2) B 61 (.slice g m cap) (X.set i x):=by
 have hl:=h.1;rcases h.2 with⟨h1,_⟩|⟨g',cap',cur,h1,h2,h3,h4,h5,h6,h7⟩
 ·cases h1
 ·injection h1 with JK h1b h1c
  injection JK with JK
  injection JK with JK _ _
  subst JK;subst h1c;refine⟨G.Ae _,Or.inr ⟨g,cap,((cur.setIfInBounds (i*3) x.1).setIfInBounds (i*3+1) x.2.1).setIfInBounds (i*3+2) x.2.2,by rw[gX,h1b],h2,?_,by rw[gX];exact h4,h5,by simpa using h6,?_⟩⟩
  ·simp only[World.setCell,dC,h3]
   simp
  ·rw[jy X i x hi,<-h7,gX]
   simp[List.take_set]
structure Df (w0 w:World) (B g m cap c i j:Nat) (d:Edg) (M X:List Edg):Prop where
 own:G.Ad w B 61 (.slice g m cap) X
 len:X.length=m
 fst:X.take i=(M.take j).filter λ x=>!decide (x=d)
 snd:X.drop j=M.drop j
 hij:i<j
 hjm:j<=m
 box:Box w c d
 ne:c≠g
 low:B<=g
 kept:w0.grownBy w (some g)
section
variable {w0 w w':World} {B g m cap c i j:Nat} {d x:Edg} {M X:List Edg}
theorem Df.below' (h:Df w0 w B g m cap c i j d M X)(hb:Below w w w'):Df w0 w' B g m cap c i j d M X:=
 {h with own:=h.own.below hb,box:=h.box.below hb,kept:=⟨hb.os.trans h.kept.os,hb.tape.trans h.kept.tape,hb.output.trans h.kept.output,aD h.kept.size hb.size,λ k hk hn=>(hb.block k (aR hk h.kept.size)).trans (h.kept.block k hk hn)⟩}
theorem Df.at_ (h:Df w0 w B g m cap c i j d M X)(hj:j<m)(hm:M.length=m):X[j]? =M[j]? /\∃x,M[j]? =some x:=by
 refine⟨?_,_,aB (by omega)⟩;have:=congrArg (λ l=>l[0]?) h.snd
 simpa using this
theorem Df.skip (h:Df w0 w B g m cap c i j d M X)(hj:j<m)(hx:M[j]? =some d):Df w0 w B g m cap c i (j+1) d M X:=by
 refine {h with fst:=?_,snd:=?_,hij:=by have:=h.hij;omega,hjm:=by omega}
 ·rw[h.fst,G.Eb _ hx];simp
 ·have:=congrArg (List.drop 1) h.snd
  simpa[List.drop_drop,Nat.add_comm] using this
theorem Df.store (h:Df w0 w B g m cap c i j d M X)(hj:j<m)(hx:M[j]? =some x)(MJ:x≠d):Df w0 (((w.setCell (g,i*3) x.1).setCell (g,i*3+1) x.2.1).setCell (g,i*3+2) x.2.2) B g m cap c (i+1) (j+1) d M (X.set i x):=by
 have hij:=h.hij;have hlen:=h.len;have l9:=h.ne;have BN:∀(w:World) (o:Nat) (v:Value),w.grownBy (w.setCell (g,o) v) (some g):=λ w o v=>⟨rfl,rfl,rfl,by simp,λ k _ hn=>aV _ _ _ _ (λ e=>hn (by rw[e]))⟩
 have gtr:∀{a b c:World},a.grownBy b (some g)->b.grownBy c (some g)->a.grownBy c (some g):=λ h1 h2=>⟨h2.os.trans h1.os,h2.tape.trans h1.tape,h2.output.trans h1.output,aD h1.size h2.size,λ k hk hn=>(h2.block k (aR hk h1.size) hn).trans (h1.block k hk hn)⟩
 have hk:=gtr (BN w (i*3) x.1) (gtr (BN _ (i*3+1) x.2.1) (BN _ (i*3+2) x.2.2));refine⟨znn h.own (by omega) x,by simpa using hlen,?_,?_,by omega,by omega,?_,l9,h.low,gtr h.kept hk⟩
 ·rw[G.Eb _ hx,<-h.fst]
  have hi:i<X.length:=by omega
  have hd:(!decide (x=d))=true:=by simp[MJ]
  rw[aP hd,cB (by simpa using hi)]
  congr 1
  ·rw[List.take_set_of_le (aF _)]
  ·simp
 ·have:=congrArg (List.drop 1) h.snd
  rw[List.drop_set_of_lt (by omega)]
  simpa[List.drop_drop,Nat.add_comm] using this
 ·exact(hk.block c (lt_of_some h.box) (by simp;exact l9)).trans h.box
theorem Df.done (h:Df w0 w B g m cap c i m d M X)(hm:M.length=m):∃W2,(∀ty sc,(Builtin.clear_ #[33] ty #[.slice (g,i*3) (m-i) sc]).run prog w= .ok (.tuple #[]) W2)/\m<=cap/\cap<=maxLen/\G.Ad W2 B 61 (.slice g i cap) (M.filter λ x=>!decide (x=d))/\w0.grownBy W2 (some g):=by
 have hij:=h.hij;have hlen:=h.len;rcases h.own.2 with⟨h1,_⟩|⟨g',cap',cur,h1,h2,h3,h4,h5,h6,h7⟩
 ·cases h1
 ·injection h1 with JK h1b h1c
  injection JK with JK
  injection JK with JK _ _
  subst JK;subst h1c;have VB:=h.fst;rw[<-hm,bK] at VB;have GV:cur.toList.length=cap*3:=by simpa using h6
  have TG:=G.He (m-i);refine⟨w.setRow g (splice cur.toList (i*3) (Builtin.zeroCells G.zE.cells (m-i)).toList).toArray,λ ty sc=>N9 w 33 61 ty G.zE underlying33 zp1 g (i*3) (m-i) sc (by omega) cur.toList 61 (by simpa using h3) (by rw[TG,GV];omega) (zc4 _),by omega,h5,?_,?_⟩
  ·rw[<-VB]
   have KS:(X.take i).length=i:=by rw[bN];omega
   refine⟨G.Ae _,Or.inr ⟨g,cap,_,by rw[KS],h2,gZ w g cur _ 61 (0,0) h3,by rw[KS];omega,h5,?_,?_⟩⟩
   ·rw[bZ,length_splice _ _ _ (by rw[TG,GV];omega),GV]
   ·rw[KS]
    show(splice _ _ _).take _=_;have h8:(cur.toList.take (i*3)).length=i*3:=by rw[bN,GV];omega
    unfold splice;rw[eZ (by omega),aZ (by omega)];have h9:=congrArg (List.take (i*3)) h7;rw[jH,hlen,show min (i*3) (m*3)=i*3 by omega] at h9;rw[h9];have e1:=G.Gj (X.take i) (X.drop i);rw[fP] at e1;rw[e1,eZ (by rw[G.Ae,KS];exact aF _),aZ (by rw[G.Ae,KS];exact aF _)]
  ·exact⟨h.kept.os,h.kept.tape,h.kept.output,aD h.kept.size (by simp),λ k hk hn=>(iC w g k _ (λ e=>hn (by rw[e]))).trans (h.kept.block k hk hn)⟩
end
theorem ic (c g m cap B:Nat)(d:Edg)(M:List Edg)(w:World)(h:G.Ad w B 61 (.slice g m cap) M)(hd:Box w c d)(hc:c≠g)(hB:B<=g)(hl:M.length<=1000)(hm:M.length=m):
 Calls prog 253 #[.slice g m cap,.func (.func 255) #[] #[.pointer c]] w λ e w'=>∃v',e= .returned v'/\G.Ad w' B 61 v' (M.filter λ x=>!decide (x=d))/\w.grownBy w' (some g):=by
 have HO:Hid (G.Ad w B 61 (.slice g m cap) M/\Box w c d/\M.length=m):=⟨h,hd,hm⟩;have HI:Hid _:=zal c g m cap B d M w h hd hl hm;rw[hm] at hl;clear h hd hm;go_enter func253,ntmps253;go_wp2_with fail;refine aA HI.o ?_;rintro e w1 ⟨⟨i,hi,rfl,DD,AA⟩|⟨rfl,AA⟩,j4⟩
 ·have ZZ:Hid (Df w w1 B g m cap c i (i+1) d M M):=by
   refine⟨HO.o.1.below j4,HO.o.2.2,?_,rfl,by omega,by omega,HO.o.2.1.below j4,hc,hB,⟨j4.os,j4.tape,j4.output,j4.size,λ k hk _=>j4.block k hk⟩⟩;rw[G.Eb _ DD];have:((M.take i).filter λ x=>!decide (x=d))=M.take i:=by
    rw[iF];intro x hx;obtain⟨k,hk⟩:=bY hx;have TP:=(aC.1 hk).1;rw[bN] at TP;rw[dY] at hk;split at hk
    ·have:=AA k (by omega)
     rw[hk] at this;simp;exact λ e=>this (by rw[e])
    ·cases hk
   rw[this];simp
  have l9:((i:Int)== -1)=false:=aH.2 (by omega);clear DD AA j4 HI;go_wp2_with fail;go_loopw [5,6] (λ s5 s6 wq=>∃(i j:Nat) (X:List Edg),s5=i/\s6=j/\Df w wq B g m cap c i j d M X) (λ _ s6 _=>m-(intOf s6).toNat)
  case atStart=>exact⟨i,i+1,M,rfl,by go_num,ZZ.o⟩
  case round=>
   clear ZZ hi l9;obtain⟨i,j,X,rfl,rfl,QH⟩:=hrel;have HD:=kd QH;have hij:=QH.hij;have hjm:=QH.hjm;clear QH;by_cases j6:j<m
   ·obtain⟨hxj,x,hx⟩:=HD.o.at_ j6 HO.o.2.2
    rw[hx] at hxj;obtain⟨r0,r1,r2⟩:=HD.o.own.at (g:=g) rfl hxj;have r0':wr.cell? (g,j*3)=x.1:=r0;have r1':wr.cell? (g,j*3+1)=x.2.1:=r1;have r2':wr.cell? (g,j*3+2)=x.2.2:=r2;have HX:=kd hx;have j4:Below wr wr (wr.alloc (.cells #[x.1,x.2.1,x.2.2] 61)):=b_;have HD1:Hid (Df w (wr.alloc (.cells #[x.1,x.2.1,x.2.2] 61)) B g m cap c i j d M X):=HD.o.below' j4;have HC:Hid _:=og x d c _ HD1.o.box;clear r0 r1 r2 hx hxj j4;by_cases MJ:x=d
    ·as_aux_lemma=>
     subst MJ;go_wp2_with fail;refine aA HC.o ?_;rintro e w2 ⟨rfl,j5⟩;have QI:Hid (Df w w2 B g m cap c i (j+1) x M X):=(HD1.o.below' j5).skip j6 HX.o
     first|rw[bI rfl]|simp only[decide_true]
     clear j5 HC;go_wp2_with fail;go_roundw;case rel=>exact⟨i,j+1,X,rfl,by go_num,QI.o⟩
     case measure=>simp[intOf];omega
    ·go_wp2_with fail
     refine aA HC.o ?_;rintro e w2 ⟨rfl,j5⟩;have QI:Hid (Df w w2 B g m cap c i j d M X):=HD1.o.below' j5;rw[bM MJ];have DT:w2.heap[wr.heap.size]? =some (.cells #[x.1,x.2.1,x.2.2] 61):=(j5.block wr (by simp)).trans (aQ wr _);have q0:w2.cell? wr=x.1:=by simp[World.cell?,DT]
     have q1:w2.cell? (wr,1)=x.2.1:=by simp[World.cell?,DT]
     have q2:w2.cell? (wr,2)=x.2.2:=by simp[World.cell?,DT]
     obtain⟨y,hy⟩:∃y,X[i]? =some y:=⟨_,aB (by rw[QI.o.len];omega)⟩;obtain⟨s0,s1,s2⟩:=QI.o.own.at (g:=g) rfl hy;have s0':w2.cell? (g,i*3)=y.1:=s0;have s1':w2.cell? (g,i*3+1)=y.2.1:=s1;have s2':w2.cell? (g,i*3+2)=y.2.2:=s2;have fz:∀k,w2.frozen? ⟨g,k,none⟩=false:=by
      intro k;rcases QI.o.own.2 with⟨h1,_⟩|⟨g',cap',cur,h1,_,h3,_⟩
      ·cases h1
      ·injection h1 with h1 _ _
       injection h1 with h1
       injection h1 with h1 _ _
       subst h1;simp[World.frozen?,h3]
     have fz0:=fz (i*3);have fz1:=fz (i*3+1);have fz2:=fz (i*3+2);clear j5 HC s0 s1 s2 fz r0' r1' r2';have HD3:Hid (Df w (((w2.setCell (g,i*3) x.1).setCell (g,i*3+1) x.2.1).setCell (g,i*3+2) x.2.2) B g m cap c (i+1) (j+1) d M (X.set i x)):=QI.o.store j6 HX.o MJ;go_wp2_with fail;go_roundw;case rel=>exact⟨i+1,j+1,_,by go_num,by go_num,HD3.o⟩
     case measure=>simp[intOf];omega
   ·as_aux_lemma=>
    have CE:j=m:=by omega
    subst CE;obtain⟨W2,GV,GI,XE,LB,AU⟩:=HD.o.done HO.o.2.2;have HF:=kd (And.intro LB AU);simp only[maxLen] at XE;have hic:¬(cap=i):=by omega
    have hi1:(i:Int)<=(j:Int):=by omega
    have hi2:(i:Int)<=(cap:Int):=by omega
    have hi3:(j:Int)<=(cap:Int):=by omega
    clear LB AU HD;go_wp2_with fail;go_ret;exact⟨_,rfl,HF.o.1,HF.o.2⟩
 ·as_aux_lemma=>
  have HF:Hid (G.Ad w1 B 61 (.slice g m cap) (M.filter λ x=>!decide (x=d))/\w.grownBy w1 (some g)):=by
   refine⟨?_,⟨j4.os,j4.tape,j4.output,j4.size,λ k hk _=>j4.block k hk⟩⟩;have:(M.filter λ x=>!decide (x=d))=M:=by
    rw[iF];intro x hx;obtain⟨k,hk⟩:=bY hx;have TP:=(aC.1 hk).1;have h3:=AA k (by rw[<-HO.o.2.2];exact TP);rw[hk] at h3;simp;exact λ e=>h3 (by rw[e])
   rw[this];exact HO.o.1.below j4
  clear AA j4 HI;go_wp2_with fail;go_ret;exact⟨_,rfl,HF.o.1,HF.o.2⟩
end Go.Proofs.Y.S
namespace Go.Proofs.Y.S
open Go.RowKit Go.Proofs.Tryz
theorem mh {fn:Func}{p:Tmp}{ty:TypeId}(h:fn.results=#[.cell p ty])(tmps:Array Value)(P:Program)(w:World):
 (results fn tmps).run P w=((asAddr (tmps.getD p undef)).run P w).andThen λ a w₁=>(loadVar ty a).run P w₁:=by
 simp only[results,h];simp[Sem.run_bind,Result.andThen]
def Gn (t:List Edg)(d:Edg):List Edg:=t.filter λ x=>!decide (x=d)
def Eh (n:Nat)(t o:List Edg)(d:Edg)(i:Nat):Bool:=decide ((lbl n (Gn t d)).getD (ea (o.getD i (0,0,0))) 0≠(lbl n (Gn t d)).getD (eb (o.getD i (0,0,0))) 0)
def RingAt (w:World)(b x:Nat):Prop:=w.heap[b]? =some (.cells #[.int .u64 (Cu x:Int),.int .u64 (hi64 x:Int)] 208)
theorem Ng {w:World}{b:Nat}(h:w.heap[b]? =some (.cells #[.int .u64 0,.int .u64 0] 208)):RingAt w b 0:=h
theorem RingAt.zero {w:World}{b:Nat}(h:RingAt w b 0):w.heap[b]? =some (.cells #[.int .u64 0,.int .u64 0] 208):=h
theorem RingAt.below {w w':World}{b x:Nat}(h:RingAt w b x)(hb:Below w w w'):RingAt w' b x:=(hb.block b (lt_of_some h)).trans h
theorem RingAt.but {w w':World}{b r x:Nat}(h:RingAt w b x)(hb:But r w w')(l9:b≠r):RingAt w' b x:=(hb.block b (lt_of_some h) l9).trans h
structure Th (w0 w:World) (p b r8 r:Nat) (l:List Nat) (x:Nat):Prop where
 sets:Aa w p b l
 res:RingAt w r8 0
 ring:RingAt w r x
 lp:p<r
 lbr:b<r
 l8:r8<r
 lo:w0<=r8
 lr:w0<=r
 below:Below w0 w0 w
section
variable {w0 w w':World} {p b r8 r:Nat} {l:List Nat} {x x':Nat}
theorem Th.below' (h:Th w0 w p b r8 r l x)(hb:Below w w w'):Th w0 w' p b r8 r l x:=
 {h with sets:=h.sets.below hb h.sets.plt h.sets.blt,res:=h.res.below hb,ring:=h.ring.below hb,below:=h.below.tr hb}
theorem Th.put (h:Th w0 w p b r8 r l x)(hr:RingAt w' r x')(hb:But r w w'):Th w0 w' p b r8 r l x':=by
 have h1:=h.lp;have h2:=h.lbr;have h3:=h.l8;exact {h with sets:=⟨(hb.block p h.sets.plt (by omega)).trans h.sets.hp,(hb.block b h.sets.blt (by omega)).trans h.sets.hb⟩,res:=h.res.but hb (by omega),ring:=hr,below:=h.below.trans (hb.below h.lr h.below.size)}
end
theorem V9 {n:Nat}{t:List Edg}(h:InE n t)(d:Edg):InE n (Gn t d):=h.sub (λ _ he=>(aO.1 he).1)
theorem zaf (n B1 B2:Nat)(vt vo:Value)(t o:List Edg)(d:Edg)(w:World)(ht:G.Ad w B1 61 vt t)(ho:G.Ad w B2 61 vo o)(hit:InE n t)(hio:InE n o)(hd:d∈t)(hn:n<=40)(j6:t.length<=120)(KX:o.length<=127):
 Calls prog 141 #[n,vt,.agg #[d.1,d.2.1,d.2.2],vo] w λ e w'=>e=(Hq (A8 (Eh n t o d) o.length))/\Below w w w':=by
 have HT:Hid (G.Ad w B1 61 vt t/\InE n t/\d∈t):=⟨ht,hit,hd⟩;have HO:=kd (And.intro ho hio);obtain⟨m,hm⟩:∃m,o.length=m:=⟨_,rfl⟩;have HM:=kd hm;obtain⟨va,vc,hv⟩:=ho.Ap;rw[hm] at hv KX ⊢;subst hv;obtain⟨W1,AJ⟩:∃W1,(w.alloc (.cells #[d.1,d.2.1,d.2.2] 61)).alloc (.cells #[.int .u64 0,.int .u64 0] 208)=W1:=⟨_,rfl⟩;have j4:Below w w W1:=by
  rw[<-AJ];exact(b_).alloc (by simp) _
 have hsz1:W1.heap.size=w.heap.size+2:=by rw[<-AJ];simp
 have BF:Box W1 w d:=by
  rw[<-AJ];show((w.alloc (.cells #[d.1,d.2.1,d.2.2] 61)).alloc _).heap[w.heap.size]? =_;rw[bG _ _ _ (by simp)];exact aQ w _
 have hr8:RingAt W1 (w+1) 0:=by
  rw[<-AJ];have:=aQ (w.alloc (.cells #[d.1,d.2.1,d.2.2] 61)) (.cells #[.int .u64 0,.int .u64 0] 208);rw[aT] at this;exact Ng this
 have H1:Hid (Below w w W1/\Box W1 w d/\RingAt W1 (w+1) 0):=⟨j4,BF,hr8⟩;clear ht ho hit hio hd hm j4 BF hr8;have hmf':=hmf;go_enter func141,ntmps141;go_wp2_with fail;refine(zn vt B1 t W1 (HT.o.1.below H1.o.1) (by omega)).mono ?_;rintro e w2 ⟨u2,rfl,LB,j5⟩;obtain⟨g,cap,hu2,hBg,_,_⟩:∃g cap,u2= .slice (some ⟨g,0,none⟩) t.length cap/\W1.heap.size<=g/\True/\True:=by
  rcases LB.shape with⟨_,e⟩|⟨g,cap,e,h1,_⟩
  ·rw[e] at HT;have:=HT.o.2.2;simp at this
  ·exact⟨g,cap,e,h1,trivial,trivial⟩
 subst hu2;have QA:=kd (And.intro LB j5);clear LB j5;go_wp2_with fail;refine(ic w g t.length cap W1 d t w2 QA.o.1 (H1.o.2.1.below QA.o.2) (by omega) hBg (by omega) rfl).mono ?_;rintro e w3 ⟨v3,rfl,WW,FL⟩;have CY:Hid (G.Ad w3 W1 61 v3 (Gn t d)/\Below w w w3/\RingAt w3 (w+1) 0/\W1.heap.size<=w3.heap.size):=by
  have hk:Below W1 W1 w3:=QA.o.2.trans ⟨FL.os,FL.tape,FL.output,FL.size,λ k hk=>FL.block k (aR hk QA.o.2.size) (by simp;omega)⟩;exact⟨WW,H1.o.1.tr hk,H1.o.2.2.below hk,hk.size⟩
 clear WW FL QA hBg;go_wp2_with fail;refine(Ie n W1 v3 (Gn t d) w3 CY.o.1 hn (V9 HT.o.2.1 d) (aD (aW _ _) j6)).mono ?_;rintro e w4 ⟨p,b,rfl,hs4,hp4,BB,QJ⟩;have QG:Hid (Aa w4 p b (lbl n (Gn t d))/\Below w w w4/\RingAt w4 (w+1) 0):=⟨hs4,CY.o.2.1.tr QJ,CY.o.2.2.1.below QJ⟩;have hsz4:w.heap.size+2<=w4.heap.size:=by have h1:=CY.o.2.2.2;have h2:=QJ.size;omega
 clear hs4 hp4 BB QJ CY;have YB:Hid (Th w (w4.alloc (.cells #[.int .u64 0,.int .u64 0] 208)) p b (w+1) w4 (lbl n (Gn t d)) (A8 (Eh n t o d) 0)):=by
  have hb:Below w4 w4 (w4.alloc (.cells #[.int .u64 0,.int .u64 0] 208)):=b_;exact⟨QG.o.1.below hb QG.o.1.plt QG.o.1.blt,QG.o.2.2.below hb,Ng (aQ w4 _),QG.o.1.plt,QG.o.1.blt,by omega,by omega,by omega,QG.o.2.1.tr hb⟩
 obtain⟨r,hr⟩:∃r,w4.heap.size=r:=⟨_,rfl⟩;go_wp2_with fail;rw[hr] at YB;clear hr;go_loopw [23] (λ s23 wq=>∃k:Nat,k<=m/\s23=k/\Th w wq p b (w+1) r (lbl n (Gn t d)) (A8 (Eh n t o d) k)) (λ s23 _=>m-(intOf s23).toNat)
 case atStart=>exact⟨0,aN _,rfl,YB.o⟩
 case round=>
  clear YB;obtain⟨k,hk,rfl,hth⟩:=hrel;have HTh:=kd hth;clear hth;by_cases hltk:k<m
  ·obtain⟨x0,xa,xb,hx,OQ,LG,IQ,GA⟩:=Mm HO.o.2 (by rw[HM.o];exact hltk)
   have HX:Hid (o.getD k (0,0,0)=(x0,(xa:Int),(xb:Int))/\ea (x0,(xa:Int),(xb:Int))=xa/\eb (x0,(xa:Int),(xb:Int))=xb):=⟨by rw[bH,hx];rfl,IQ,GA⟩;obtain⟨g',rfl⟩:=Hy HO.o.1 (by rw[HM.o];exact hltk);obtain⟨r0,r1,r2⟩:=(HO.o.1.below HTh.o.below).at (g:=g') rfl hx;have r0':wr.cell? (g',k*3)=x0:=r0;have r1':wr.cell? (g',k*3+1)=xa:=r1;have r2':wr.cell? (g',k*3+2)=xb:=r2;clear r0 r1 r2 hx IQ GA;have j4:Below wr wr (wr.alloc (.cells #[x0,xa,xb] 61)):=b_;have HT1:Hid (Th w (wr.alloc (.cells #[x0,xa,xb] 61)) p b (w+1) r (lbl n (Gn t d)) (A8 (Eh n t o d) k)):=HTh.o.below' j4;have IK:(lbl n (Gn t d)).length=n:=(Er (V9 HT.o.2.1 d).nodes).len;have HCV:Hid (Eh n t o d k=true↔(lbl n (Gn t d)).getD xa 0≠(lbl n (Gn t d)).getD xb 0):=by
    show Eh n t o d k=true↔_;unfold Eh;rw[HX.o.1,HX.o.2.1,HX.o.2.2,dQ]
   have HC:Hid _:=Uw xa xb p b (lbl n (Gn t d)) (Eh n t o d k) _ HT1.o.sets (by omega) (by omega) HCV.o;clear j4 HTh;cases MU:Eh n t o d k with
   |true=>
    as_aux_lemma=>
    rw[MU] at HC;go_wp2_with fail;refine aA HC.o ?_;rintro e w6 ⟨rfl,FJ⟩;have HT6:Hid (Th w w6 p b (w+1) r (lbl n (Gn t d)) (A8 (Eh n t o d) k)):=HT1.o.below' FJ;clear FJ HT1 HC;go_wp2_with fail;refine(zbl r k (A8 (Eh n t o d) k) w6 HT6.o.ring (by omega) (Mj _ _)).mono ?_;rintro e w7 ⟨rfl,hr7,OU⟩;have HT7:Hid (Th w w7 p b (w+1) r (lbl n (Gn t d)) (A8 (Eh n t o d) (k+1))):=by
     have e1:A8 (Eh n t o d) (k+1)=A8 (Eh n t o d) k+2^k:=by simp only[A8,MU,kM]
     have:=HT6.o.put hr7 OU;rw[<-e1] at this;exact this
    clear hr7 OU HT6;go_wp2_with fail;go_roundw;case rel=>exact⟨k+1,by omega,by go_num,HT7.o⟩
    case measure=>simp[intOf];omega
   |false=>
    as_aux_lemma=>
    rw[MU] at HC;go_wp2_with fail;refine aA HC.o ?_;rintro e w6 ⟨rfl,FJ⟩;have HT7:Hid (Th w w6 p b (w+1) r (lbl n (Gn t d)) (A8 (Eh n t o d) (k+1))):=by
     have e1:A8 (Eh n t o d) (k+1)=A8 (Eh n t o d) k:=by simp[A8,MU]
     have:=HT1.o.below' FJ;rw[<-e1] at this;exact this
    clear FJ HT1 HC;go_wp2_with fail;go_roundw;case rel=>exact⟨k+1,by omega,by go_num,HT7.o⟩
    case measure=>simp[intOf];omega
  ·as_aux_lemma=>
   have CF:k=m:=by omega
   subst CF;obtain⟨X,hX⟩:∃X,Cu (A8 (Eh n t o d) k)=X:=⟨_,rfl⟩;obtain⟨Y,hY⟩:∃Y,hi64 (A8 (Eh n t o d) k)=Y:=⟨_,rfl⟩;have HXX:Hid (Hq (A8 (Eh n t o d) k)= .agg #[.int .u64 (X:Int),.int .u64 (Y:Int)]):=by
    show Hq _=_;unfold Hq;rw[hX,hY]
   have q8:wr.heap[w.heap.size+1]? =some (.cells #[.int .u64 0,.int .u64 0] 208):=HTh.o.res.zero;have qr:wr.heap[r]? =some (.cells #[.int .u64 (X:Int),.int .u64 (Y:Int)] 208):=by rw[<-hX,<-hY];exact HTh.o.ring
   have c0:wr.cell? r=some (.int .u64 (X:Int)):=by simp[World.cell?,qr]
   have c1:wr.cell? (r,1)=some (.int .u64 (Y:Int)):=by simp[World.cell?,qr]
   have d0:wr.cell? (w.heap.size+1:Nat)=some (.int .u64 0):=by simp[World.cell?,q8]
   have d1:wr.cell? (w.heap.size+1,1)=some (.int .u64 0):=by simp[World.cell?,q8]
   have f0:∀i,wr.frozen? ⟨w.heap.size+1,i,none⟩=false:=λ i=>by simp only[World.frozen?,q8];simp
   have f00:=f0 0;have f01:=f0 1;have HB:=kd HTh.o.below;clear hX hY f0 q8 qr HTh;go_wp2_with fail
   (try simp only[Exit.inBlock,Exit.then])
   refine gH (v:=.agg #[.int .u64 (X:Int),.int .u64 (Y:Int)]) ?_ rfl ⟨by rw[HXX.o],?_⟩
   ·rw[mh rfl]
    go_simp
   ·exact(HB.o.setCell (show w.heap.size<=w.heap.size+1 by omega) _).setCell (show w.heap.size<=w.heap.size+1 by omega) _
end Go.Proofs.Y.S
