import Derived.Test.YtebcjaenhiiflaaGreatDoorQFgFn
set_option maxHeartbeats 8000000
set_option maxRecDepth 100000
namespace Go.Proofs.YtebcjaenhiiflaaGreatDoor.S
open Go Go.ChangeMaps Go.MapKept Go.WideShapes Go.Proofs.Tryz
open Go.RowKit Go.WideMaps Go.Maps F
def zpl (w:World) (D:List Stp) (inn:Stp->Bool) (a b:Int) (e:Ending) (w':World):Prop:=
 ∃v P,e= .returned v/\Below w.heap.size w w'/\G.zad w' w.heap.size 346 v P/\((Walk a P b/\P.Nodup/\∀s∈P,s∈D/\inn s=true)\/(P=[]/\∃S:Int->Bool,S a=true/\S b=false/\∀s∈D,out S s=true->inn s=false))
theorem z4j (x y z:Int) (w:World):(Instr.field 346 (.agg #[.int .i64 x,.int .i64 y,.int .i64 z]) 1).run prog w= .ok (.int .i64 y) w:=by kernel_rfl
theorem zwc (p lm rm N B:Nat) (M:DataW Unit) (L:DataW Value) (D:List Stp) (r:Stp->Int) (f:Int->Value) (g:Int->List Stp) (inn:Stp->Bool) (a b:Int) (w:World) (h:zda w p lm rm N B M L D r f g)
 (hg:∀x s,s∈g x↔s∈D/\fr s=x) (hgl:∀x,(g x).length<=1000) (hr:∀s∈D,0<=tt s/\tt s<1000) (hDl:D.length<=1000) (ha0:0<=a) (ha1:a<1000) (hb0:0<=b) (hb1:b<1000)
 (hf:∀W s,s∈D->Below w.heap.size w W->Calls prog 316 #[.pointer (some ⟨p,0,none⟩),vS s] W λ e w'=>e= .returned (.bool (inn s))/\Below W.heap.size W w'):
 Calls prog 315 #[.pointer (some ⟨p,0,none⟩),.int .i64 a,.int .i64 b,.func (.func 316) #[.pointer (some ⟨p,0,none⟩)] #[]] w (zpl w D inn a b):=by
 have HF:=kd hf;have HN:=kd h;have HG:Hid ((∀x s,s∈g x↔s∈D/\fr s=x)/\(∀x,(g x).length<=1000)/\∀s∈D,0<=tt s/\tt s<1000):=⟨hg,hgl,hr⟩;obtain ⟨w1,r1,hsz1,c0,hS0,hQ0⟩:=zye w g inn ha0 ha1;have HS0:Hid (zro w w.heap.size g inn a 0 (.slice (some ⟨w1.heap.size,0,none⟩) 1 1) (w1.alloc (.cells #[.int .i64 a] 3))):=⟨[a],c0,hS0,Nat.zero_le _,hQ0,λ k y hk=>by omega⟩;have hmm:=@run_makeMap prog;obtain ⟨cb,hcb⟩:∃cb,w.heap.size=cb:=⟨_,rfl⟩;have HCB:=kd hcb;clear h hf hg hgl hr hS0 hQ0 hsz1;unfold vS at r1;rw [hcb] at r1 HS0;go_enter func315,ntmps315;go_wp2_with fail;clear hcb;go_loopg [10] 1000 (λ rr s10 wq=>∃i,i+rr=1000/\zro w cb g inn a i s10 wq)
 case atStart=>exact ⟨0,by omega,HS0.out⟩
 case round=>
  clear HS0 r1;obtain ⟨i,hi,hout⟩:=hrel;obtain ⟨q,c,hsea,hiq,⟨ad,cap,rfl,hq⟩,hdn⟩:=hout;have HSEA:=kd hsea;have HDN:=kd hdn;have hql:=hsea.len;obtain ⟨ln,hln⟩:∃ln,(q.drop i).length=ln:=⟨_,rfl⟩;have HLN:=kd hln;have HQ:=kd hq;rw [hln];obtain ⟨wy,hwy⟩:∃wy,wy=wr:=⟨_,rfl⟩;subst hwy;obtain ⟨gk1,hgk1⟩:∃gk1,gk1=gk:=⟨_,rfl⟩;subst hgk1;clear hsea hdn hq hln;by_cases hpos:0<ln
  ·
   have hlnq:ln=q.length-i:=by have:=HLN.out;simp at this;omega
   have hiq2:i<q.length:=by omega
   have hne:q.drop i≠[]:=λ e=>by have:=HLN.out;rw [e] at this;simp at this;omega
   obtain ⟨gq,o,had,hque⟩:=HQ.out hne;subst had;obtain ⟨x,hx⟩:∃x,q[i]? =some x:=⟨_,List.getElem?_eq_getElem (by omega)⟩;have hx0:=HSEA.out.rng x (List.mem_of_getElem? hx);have hc10:wy.cell? ⟨gq,o,none⟩=some (.int .i64 x):=by
    have:=hque.got 0 x (by rw [List.getElem?_drop];simpa using hx)
    simpa using this
   have hA:=HN.out.below HSEA.out.bel;have hp0:wy.cell? ⟨p,0,none⟩=some (.map (some lm)):=by simp [World.cell?,hA.net.hp]
   obtain ⟨va,vc,hv⟩:=(hA.lv.row x).zal;obtain ⟨m,hm⟩:∃m,(g x).length=m:=⟨_,rfl⟩;rw [hm] at hv;have lk:∀n,(Instr.lookup 376 (.map (some lm)) (.int .i64 x) false).run prog (wy.drewN n)= .ok (.slice va m vc) (wy.drewN n):=λ n=>by
    rw [<-hv];exact (hA.below (below_drewN (Below.refl _ _) n)).lv.look (zar hx0.1 (by omega))
   have HM:=kd hm;have HV:=kd hv;have hml:m<=1000:=by rw [<-hm];exact HG.out.2.1 x
   have HX:=kd hx;have HQUE:=kd hque;have HL2:=kd hlnq;clear hA hv hm hx hque hne HQ hlnq;go_wp2_with fail;go_quiet (fail);go_wp2_with fail;have HIN:Hid (InR w cb g inn a i x 0 (.slice (some ⟨gq,o,none⟩) ln cap) (wy.drewN nq)):=by
    have hb:=below_drewN (Below.refl wy.heap.size wy) nq;rw [HL2.out];exact ⟨q,c,gq,o,cap,HSEA.out.below hb,HX.out,rfl,HQUE.out.kept (zai hb) (by simp),HDN.out,λ s hs=>by simp at hs⟩
   clear HSEA HDN HLN HX HQUE HL2 lk hc10 hp0;obtain ⟨wz,hwz⟩:∃wz,wy.drewN nq=wz:=⟨_,rfl⟩;rw [hwz] at HIN ⊢;clear hwz;go_loopg [10,39] m (λ rr s10 s39 wq=>∃j:Nat,s39= .int .i64 j/\j+rr=m/\InR w cb g inn a i x j s10 wq)
   case atStart=>exact ⟨0,rfl,by omega,HIN.out⟩
   case round=>
    clear HIN;obtain ⟨j,rfl,hj,hin⟩:=hrel;have HIN:=kd hin;clear hin;by_cases hjm:j<m
    ·obtain ⟨q',c',gq',o',cap',hsea,hx,hu,hque,hdn,hjj⟩:=HIN.out
     subst hu;obtain ⟨⟨y0,y1,y2⟩,hs⟩:∃s:Stp,(g x)[j]? =some s:=⟨_,List.getElem?_eq_getElem (by rw [HM.out];exact hjm)⟩;have hsg:=List.mem_of_getElem? hs;obtain ⟨hsD,hsx⟩:=(HG.out.1 x _).1 hsg;have htt:0<=y2/\y2<1000:=HG.out.2.2 _ hsD;have hA:=HN.out.below hsea.bel;obtain ⟨gw,hva⟩:∃gw,va=some ⟨gw,0,none⟩:=by
      rcases (hA.lv.row x).shape with ⟨_,e⟩ | ⟨gw,cap,e,_⟩
      ·rw [e] at hs;simp at hs
      ·rw [HV.out] at e
       injection e with e1 _ _
       exact ⟨gw,e1⟩
     subst hva;obtain ⟨r0,r1,r2⟩:=(hA.lv.row x).at (g:=gw) (by rw [HV.out];rfl) hs;simp only at r0 r1 r2;have hbW:Below wr.heap.size wr (wr.alloc (.cells #[.int .i64 y0,.int .i64 y1,.int .i64 y2] 346)):=(Below.refl _ _).alloc (Nat.le_refl _) _;have lk:=((hsea.below hbW).look htt.1 htt.2).1;have HSK:Hid ((inn (y0,y1,y2)=true->y2∈q')->∀w',Below wr.heap.size wr w'->InR w cb g inn a i x (j+1) (.slice (some ⟨gq',o',none⟩) (q'.length-i) cap') w'):=λ hn w' hb=>InR.skip hsea hx hque hdn hjj hs hn hb
     obtain ⟨lq,hlq⟩:∃lq,q'.length-i=lq:=⟨_,rfl⟩;rw [hlq] at HSK;have HLQ:=kd hlq;have HSEA:=kd hsea;have HREST:Hid (q'[i]? =some x/\Que wr w.heap.size gq' o' cap' (q'.drop i)/\Dn g inn q' i/\(∀s∈(g x).take j,inn s=true->tt s∈q')/\(g x)[j]? =some (y0,y1,y2)/\(y0,y1,y2)∈D/\y1=x/\i<q'.length):=⟨hx,hque,hdn,hjj,hs,hsD,hsx,(List.getElem?_eq_some_iff.1 hx).1⟩;rw [hlq];have HBX:Hid (∀t:Stp,((wr.alloc (.cells #[.int .i64 y0,.int .i64 y1,.int .i64 y2] 346)).alloc (.cells #[.int .i64 t.1,.int .i64 t.2.1,.int .i64 t.2.2] 346)).heap[wr.heap.size]? =some (.cells #[.int .i64 y0,.int .i64 y1,.int .i64 y2] 346)):=λ t=>heap_alloc2_old wr _ _
     have HBB:Hid (∀t:Stp,Below wr.heap.size wr ((wr.alloc (.cells #[.int .i64 y0,.int .i64 y1,.int .i64 y2] 346)).alloc (.cells #[.int .i64 t.1,.int .i64 t.2.1,.int .i64 t.2.2] 346))):=λ t=>hbW.alloc (by simp) _
     clear hx hque hdn hjj hs hsg hsD hsx hA hbW hsea hlq HIN;cases hc:c' y2 with
     | some t=>
       as_aux_lemma=>
       obtain ⟨t0,t1,t2⟩:=t;have HE:Hid _:=HSK.out (λ _=>(HSEA.out.has y2).1 (by rw [hc];rfl)) _ (HBB.out (t0,t1,t2));rw [hc] at lk;unfold vS at lk;simp only [Option.getD,Option.isSome] at lk HE;clear hc HSK HREST HSEA HBX HBB HLQ;go_wp2_with fail;go_roundg (gk-1);case measure=>omega
       case rel=>exact ⟨j+1,by go_num,by omega,HE.out⟩
     | none=>
       obtain ⟨W2,hW2⟩:∃W2,W2=(wr.alloc (.cells #[.int .i64 y0,.int .i64 y1,.int .i64 y2] 346)).alloc (.cells #[.int .i64 0,.int .i64 0,.int .i64 0] 346):=⟨_,rfl⟩;have hbW2:Below wr.heap.size wr W2:=by rw [hW2];exact HBB.out (0,0,0)
       have hbx:W2.heap[wr.heap.size]? =some (.cells #[.int .i64 y0,.int .i64 y1,.int .i64 y2] 346):=by rw [hW2];exact HBX.out (0,0,0)
       have p0:W2.cell? ⟨wr.heap.size,0,none⟩=some (.int .i64 y0):=by simp [World.cell?,hbx]
       have p1:W2.cell? ⟨wr.heap.size,1,none⟩=some (.int .i64 y1):=by simp [World.cell?,hbx]
       have p2:W2.cell? ⟨wr.heap.size,2,none⟩=some (.int .i64 y2):=by simp [World.cell?,hbx]
       have HW2:=kd hW2.symm;have hbel:Below w.heap.size w W2:=HSEA.out.bel.trans (hbW2.mono HSEA.out.bel.size);have HC:Hid _:=HF.out W2 (y0,y1,y2) HREST.out.2.2.2.2.2.1 hbel;have HB2:=kd hbW2;rw [hc] at lk;unfold vS at lk HC;simp only [Option.getD,Option.isSome] at lk;have HCN:=kd hc;clear hc HBX HBB hW2 hbW2 hbx hbel;go_wp2_with fail;rw [HW2.out];refine Calls.mono HC.out ?_;rintro e w3 ⟨rfl,hb3⟩;have HB3:Hid (Below wr.heap.size wr w3):=HB2.out.trans (hb3.mono HB2.out.size);have q0:=cell_below p0 hb3;have q1:=cell_below p1 hb3;have q2:=cell_below p2 hb3;clear p0 p1 p2 lk hb3 HC r0 r1 r2;cases hin:inn (y0,y1,y2) with
       | false=>
         as_aux_lemma=>
         have HE:Hid _:=HSK.out (λ h=>by rw [hin] at h;cases h) w3 HB3.out;clear hin HSK HREST HSEA HLQ q0 q1 q2;go_wp2_with fail;go_roundg (gk-1);case measure=>omega
         case rel=>exact ⟨j+1,by go_num,by omega,HE.out⟩
       | true=>
         as_aux_lemma=>
         obtain ⟨h1,h2,h3,h4,h5,h6,h7,h8⟩:=HREST.out;obtain ⟨w4,u4,g4,w6,v6,g6,o6,cap6,a6,e6,s6,q6⟩:=z1s (i:=i) (s:=(y0,y1,y2)) (HSEA.out.below HB3.out) (h2.kept (zai HB3.out) (by simp)) (by rw [h1];exact congrArg some h7.symm) (by rw [show fr (y0,y1,y2)=x from h7];exact List.mem_of_getElem? h5) hin HCN.out htt.1 htt.2;have hbc:wr.heap.size≠cb:=by
          obtain ⟨N,C,hcm,_⟩:=(HSEA.out.below HB3.out).cm;exact hcm.zqc q0
         have p2:=zcw g4 hbc q2;have HE:Hid (InR w cb g inn a i x (j+1) (.slice (some ⟨g6,o6,none⟩) (lq+1) cap6) w6):=by
          have:=InR.more (s:=(y0,y1,y2)) h1 h3 h4 h5 s6 q6;rw [show q'.length+1-i=lq+1 by have:=HLQ.out;omega] at this;exact this
         rw [show q'.length+1-i=lq+1 by have:=HLQ.out;omega] at e6;rw [HLQ.out] at a6;subst e6;have HR:=kd a6;unfold vS tt at u4;unfold tt at HR;simp only at u4 HR;clear h1 h2 h3 h4 h5 h6 h7 h8 hin g4 s6 q6 a6 HSK HREST HSEA HLQ HCN;go_wp2_with (at_builtin;refine Lib.wpList_append_run _ rfl _ _ _ _ rfl _ _ rfl rfl _ _ HR.out ?_);go_roundg (gk-1);case measure=>omega
         case rel=>exact ⟨j+1,by go_num,by omega,HE.out⟩
    ·have hje:m=j:=by omega
     subst hje;obtain ⟨gq',o',len,cap',hu,hlc,hout,hout0⟩:=HIN.out.done (by rw [HM.out];exact Nat.le_refl _);subst hu;by_cases hcz:cap'=0
     ·as_aux_lemma=>
      have hlz:len=0:=by omega
      subst hcz;subst hlz;have HO:Hid (zro w cb g inn a (i+1) (.slice (some ⟨gq',o',none⟩) 0 0) wr):=hout0 rfl _ _;clear HIN hout hout0;go_wp2_with fail;go_roundg (gk1-1);case measure=>omega
      case rel=>exact ⟨i+1,by omega,HO.out⟩
     ·as_aux_lemma=>
      have HO:=kd hout;clear HIN hout hout0;go_wp2_with fail;go_roundg (gk1-1);case measure=>omega
      case rel=>exact ⟨i+1,by omega,HO.out⟩
  ·have hln0:ln=0:=by omega
   subst hln0;have hiq2:i=q.length:=by have:=HLN.out;simp at this;omega
   subst hiq2;have lk:=(HSEA.out.look hb0 hb1).1;cases hcb2:c b with
   | none=>
     as_aux_lemma=>
     have HCL:Hid _:=zu5 HSEA.out HDN.out (D:=D) (λ s hs=>(HG.out.1 _ _).2 ⟨hs,rfl⟩) hcb2;rw [hcb2] at lk;unfold vS at lk;simp only [Option.getD,Option.isSome] at lk;clear hcb2;go_wp2_with fail;go_ret;refine ⟨_,[],rfl,HSEA.out.bel.trans ((Below.refl _ _).alloc HSEA.out.bel.size _),World.ownsRow_nil _ _ _ _,.inr ⟨rfl,HCL.out⟩⟩
   | some t=>
     as_aux_lemma=>
     obtain ⟨t0,t1,t2⟩:=t;rw [hcb2] at lk;unfold vS at lk;simp only [Option.getD,Option.isSome] at lk;obtain ⟨k0,hk0,hk0e⟩:=List.mem_iff_getElem.1 ((HSEA.out.has b).1 (by rw [hcb2];rfl));have HK0:Hid (zgi g inn q b b k0 []):=zgi.start (by rw [List.getElem?_eq_getElem hk0,hk0e]);have HS5:Hid (Sea w (wy.alloc (.cells #[.int .i64 t0,.int .i64 t1,.int .i64 t2] 346)) cb g inn a q c):=HSEA.out.below ((Below.refl _ _).alloc (Nat.le_refl _) _);clear hcb2 hk0 hk0e HSEA;go_wp2_with fail;go_loopg [17,18] k0 (λ rr s17 s18 wq=>∃at_ P,s18= .int .i64 at_/\zgi g inn q at_ b rr P/\Sea w wq cb g inn a q c/\G.zad wq (cb+1) 346 s17 P)
     case atStart=>exact ⟨b,[],rfl,HK0.out,HS5.out,World.ownsRow_nil _ _ _ _⟩
     case round=>
      clear HK0 HS5 lk;obtain ⟨at_,P,rfl,hback,hsea,hown⟩:=hrel;have HB:Hid (zgi g inn q at_ b gk P/\Sea w wr cb g inn a q c/\G.zad wr (cb+1) 346 u17 P):=⟨hback,hsea,hown⟩;have hat:=hsea.rng at_ (List.mem_of_getElem? hback.here);have hPl:P.length<=1000:=Nat.le_trans (zgp P D hback.nd (λ s hs=>((HG.out.1 _ _).1 (hback.good s hs).2).1)) hDl;clear hback hown;by_cases hae:at_=a
      ·as_aux_lemma=>
       subst hae;have HRV:Hid _:=z7m wr (cb+1) u17 P HB.out.2.2 (by omega);go_wp2_with fail;refine Calls.mono HRV.out ?_;rintro e w5 ⟨rfl,ho5,hg5⟩;have HP:Hid (Below w.heap.size w w5/\G.zad w5 w.heap.size 346 u17 P.reverse):=by
        have h1:=(HB.out.2.1.row HB.out.2.2 hg5).bel;exact ⟨h1,ho5.mono (by rw [<-HCB.out];omega)⟩
       clear ho5 hg5 HRV;go_wp2_with fail;go_ret;refine ⟨_,P.reverse,rfl,HP.out.1,HP.out.2,.inl ⟨HB.out.1.walk,(List.pairwise_reverse.2 (HB.out.1.nd.imp (λ h=>h.symm))),λ s hs=>?_⟩⟩;have:=HB.out.1.good s (List.mem_reverse.1 hs);exact ⟨((HG.out.1 _ _).1 this.2).1,this.1⟩
      ·as_aux_lemma=>
       obtain ⟨k',hk',hback'⟩:=zgi.step HB.out.2.1.bfs HB.out.1 hae;have lk:=(hsea.look hat.1 hat.2).2;obtain ⟨t,ht⟩:∃t,(c at_).getD (0,0,0)=t:=⟨_,rfl⟩;rw [ht] at lk;simp only [ht] at hback';obtain ⟨v6,w6,a6,o6,g6⟩:=yaa0 347 wr (cb+1) u17 P t HB.out.2.2 (by
        obtain ⟨N,C,hcm,_⟩:=hsea.cm;obtain ⟨es,clock,hb,_⟩:=hcm.mp;exact lt_of_some hb) (by omega)
       have hsea6:=hsea.row HB.out.2.2 g6;have lk6:=(hsea6.look hat.1 hat.2).2;rw [ht] at lk6;have HE:Hid (zgi g inn q (fr t) b k' (P++[t])/\Sea w w6 cb g inn a q c/\G.zad w6 (cb+1) 346 v6 (P++[t])):=⟨hback',hsea6,o6⟩;have HR:=kd a6;obtain ⟨t0,t1,t2⟩:=t;unfold vS at lk lk6;unfold fr at HE;simp only at lk lk6 HR HE;have hb1:(at_ != a)=true:=by simp [hae]
       have hfd:=z4j;clear ht a6 o6 g6 hsea6 hback' hsea HB;go_wp2_with (at_builtin;refine Lib.wpList_append_run _ rfl _ _ _ _ rfl _ _ rfl rfl _ _ HR.out ?_);go_roundg k';case measure=>exact hk'
       case rel=>exact ⟨t1,_,rfl,HE.out.1,HE.out.2.1,HE.out.2.2⟩
theorem yaad {s t:Stp} (h:bk s=bk t):s=t:=by rw [<-zly s,h,zly]
theorem z9p (r:Stp->Int) {s:Stp} (hs:fr s≠tt s) (x:Stp):tk r s x+tk r s (bk x)=r x+r (bk x):=by
 have hb:=zjt hs;rw [zjh r hs,zjh r hs];by_cases h1:x=s
 ·subst h1
  rw [if_pos rfl,if_neg hb,if_pos rfl];omega
 ·by_cases h2:x=bk s
  ·subst h2
   rw [if_neg hb,if_pos rfl,zly,if_pos rfl];omega
  ·have h3:bk x≠s:=λ e=>h2 (by rw [<-e,zly])
   have h4:bk x≠bk s:=λ e=>h1 (yaad e)
   rw [if_neg h1,if_neg h2,if_neg h3,if_neg h4]
theorem zmy:∀(p:List Stp) (r:Stp->Int),(∀s∈p,fr s≠tt s)->∀x,tks r p x+tks r p (bk x)=r x+r (bk x)
 | [],_,_,_=>rfl
 | s::p,r,h,x=>by
   show tks (tk r s) p x+tks (tk r s) p (bk x)=_;rw [zmy p (tk r s) (λ t ht=>h t (by simp [ht])) x,z9p r (h s (by simp)) x]
theorem zon:∀(p:List Stp) (r:Stp->Int) (s:Stp),(∀t∈p,fr t≠tt t)->s∉p->r s<=tks r p s
 | [],_,_,_,_=>Int.le_refl _
 | t::p,r,s,h,hn=>by
   have h1:=zon p (tk r t) s (λ x hx=>h x (by simp [hx])) (λ k=>hn (by simp [k]));have h2:s≠t:=λ e=>hn (by simp [e])
   have h3:=zjh r (h t (by simp)) (x:=s);rw [if_neg h2] at h3;have h4:r s<=tk r t s:=by rw [h3];split <;> omega
   exact Int.le_trans h4 h1
theorem z1r {p:List Stp} {j:Nat} {s:Stp} (h:p[j]? =some s) (r:Stp->Int):tks r (p.take (j+1))=tk (tks r (p.take j)) s:=by
 rw [List.take_add_one,h];exact z0x r _ s
theorem zrk {p:List Stp} {j:Nat} {s:Stp} (hn:p.Nodup) (h:p[j]? =some s):s∉p.take j:=by
 intro k;obtain ⟨i,hi,he⟩:=List.mem_iff_getElem.1 k;have hij:i<j/\i<p.length:=by rw [List.length_take] at hi;omega
 rw [List.getElem_take] at he;have:=(List.getElem?_inj hij.2 hn).1 ((List.getElem?_eq_getElem hij.2).trans ((congrArg some he).trans h.symm));omega
section
variable {w w':World} {p lm rm N N' B:Nat} {M M':DataW Unit} {L:DataW Value} {D:List Stp} {r r':Stp->Int} {f:Int->Value} {g:Int->List Stp}
theorem But.grown {b:Nat} (h:But b w w'):w.grownBy w' (some b):=⟨h.os,h.tape,h.output,h.size,λ k hk hn=>h.block k hk (λ e=>hn (by rw [e]))⟩
theorem zda.taken (h:zda w p lm rm N B M L D r f g) (hb:But rm w w') (hn:zci w' p lm rm N' M' D r') (hN:N<=N'):zda w' p lm rm N' B M' L D r' f g:=
 {net:=hn,lv:={h.lv.grown hb.grown h.ne.symm h.rb with mp:=(h.lv.grown hb.grown h.ne.symm h.rb).mp.mono hN},pb:=h.pb,rb:=h.rb,ne:=h.ne}
theorem zda.more (h:zda w p lm rm N B M L D r f g) (hN:N<=N'):zda w p lm rm N' B M L D r f g:=
 {h with net:=⟨h.net.hp,h.net.mp.mono hN,h.net.rom⟩,lv:={h.lv with mp:=h.lv.mp.mono hN}}
end
def Fl (w0 wq:World) (p lm rm N B:Nat) (D:List Stp) (r0:Stp->Int) (f:Int->Value) (g:Int->List Stp) (a b:Int) (k:Int) (r:Stp->Int):Prop:=
 ∃M L,zda wq p lm rm N B M L D r f g/\Fill D (cap D r0) a b r k/\(∀x,r x+r (bk x)=r0 x+r0 (bk x))/\But rm w0 wq
def zh4 (w:World) (p lm rm N B:Nat) (D:List Stp) (r0:Stp->Int) (f:Int->Value) (g:Int->List Stp) (a b:Int) (most:Nat) (e:Ending) (w':World):Prop:=
 ∃(k:Nat) (r:Stp->Int),e= .returned (.int .i64 (k:Int))/\Val (cap D r0) a b most k/\Fl w w' p lm rm (N+2000*most) B D r0 f g a b k r
theorem But.refl' (b:Nat) (w:World):But b w w:=⟨rfl,rfl,rfl,Nat.le_refl _,λ _ _ _=>rfl⟩
theorem z4e (p lm rm N B most:Nat) (M:DataW Unit) (L:DataW Value) (D:List Stp) (r0:Stp->Int) (f:Int->Value) (g:Int->List Stp) (a b:Int) (w:World) (h:zda w p lm rm N B M L D r0 f g) (hD:Net D)
 (hg:∀x s,s∈g x↔s∈D/\fr s=x) (hgl:∀x,(g x).length<=1000) (hr:∀s∈D,0<=tt s/\tt s<1000) (hDl:D.length<=1000) (hsum:∀x,r0 x+r0 (bk x)<=2) (hN:N<=5000) (hm:most<=120) (ha0:0<=a) (ha1:a<1000) (hb0:0<=b) (hb1:b<1000) (hab:a≠b):
 Calls prog 236 #[.pointer (some ⟨p,0,none⟩),.int .i64 a,.int .i64 b,.int .i64 (most:Int)] w (zh4 w p lm rm N B D r0 f g a b most):=by
 have HX:Hid (Net D/\(∀x s,s∈g x↔s∈D/\fr s=x)/\(∀x,(g x).length<=1000)/\(∀s∈D,0<=tt s/\tt s<1000)/\D.length<=1000/\(∀x,r0 x+r0 (bk x)<=2)/\rm<B/\B<=w.heap.size):=⟨hD,hg,hgl,hr,hDl,hsum,h.rb,h.lv.le⟩;have HS:Hid (Fl w w p lm rm (N+2000*0) B D r0 f g a b 0 r0):=⟨M,L,h,⟨h.net.rom.pos,λ S _ _=>by omega⟩,λ _=>rfl,But.refl' _ _⟩;have HAB:=kd hab;have hmf':=hmf;clear h hD hg hgl hr hDl hsum hab;go_enter func236,ntmps236;go_wp2_with fail;go_loopw [14] (λ s14 wq=>∃(k:Nat) (r:Stp->Int),k<=most/\s14= .int .i64 k/\Fl w wq p lm rm (N+2000*k) B D r0 f g a b k r) (λ s14 _=>most-(intOf s14).toNat)
 case atStart=>exact ⟨0,r0,Nat.zero_le _,rfl,HS.out⟩
 case round=>
  clear HS;obtain ⟨k,r,hk,rfl,hfl⟩:=hrel;have HR:=kd hfl;clear hfl;obtain ⟨wy,hwy⟩:∃wy,wy=wr:=⟨_,rfl⟩;subst hwy;by_cases hlt:k<most
  ·have HC:Hid (Calls prog 315 #[.pointer (some ⟨p,0,none⟩),.int .i64 a,.int .i64 b,.func (.func 316) #[.pointer (some ⟨p,0,none⟩)] #[]] wy (zpl wy D (λ s=>decide (0<r s)) a b)):=by
    obtain ⟨M,L,hA,_,_,_⟩:=HR.out;refine zwc p lm rm _ B M L D r f g _ a b wy hA HX.out.2.1 HX.out.2.2.1 HX.out.2.2.2.1 HX.out.2.2.2.2.1 ha0 ha1 hb0 hb1 (λ W s hs hW=>z3m p lm rm _ M D r s W (hA.net.below hW) hs)
   go_wp2_with fail;refine Calls.mono HC.out ?_;rintro e w2 ⟨v,P,rfl,hb2,ho,hP⟩;clear HC;obtain ⟨m,hpm⟩:∃m,m=P.length:=⟨_,rfl⟩;obtain ⟨va,vc,hv⟩:=ho.zal;rw [<-hpm] at hv;subst hv;have HO:=kd ho;have HP:=kd hP;have HM:=kd hpm;have HR2:Hid (Fl w w2 p lm rm (N+2000*k) B D r0 f g a b k r):=by
    obtain ⟨M,L,hA,h2,h3,h4⟩:=HR.out;exact ⟨M,L,hA.below hb2,h2,h3,h4.trans (But.of_below hb2)⟩
   have HBW:=kd hb2;clear ho hP hpm hb2;by_cases hm0:m=0
   ·have HV:Hid (Val (cap D r0) a b most k):=by
     have hPn:P=[]:=List.eq_nil_of_length_eq_zero (by rw [<-HM.out];exact hm0);obtain ⟨M,L,hA,h2,_,_⟩:=HR2.out;rcases HP.out with ⟨hw,_,_⟩ | ⟨_,S,h3,h4,h5⟩
     ·rw [hPn] at hw
      exact absurd hw HAB.out
     ·refine h2.done (by omega) (by omega) S h3 h4 (λ s hs ho=>?_)
      have:=of_decide_eq_false (h5 s hs ho);have:=hA.net.rom.pos s;omega
    subst hm0;go_wp2_with fail;go_ret;refine ⟨k,r,rfl,HV.out,?_⟩;obtain ⟨M,L,hA,h2,h3,h4⟩:=HR2.out;exact ⟨M,L,hA.more (by omega),h2,h3,h4⟩
   ·have HW:Hid (Walk a P b/\P.Nodup/\∀s∈P,s∈D/\1<=r s):=by
     rcases HP.out with ⟨h1,h2,h3⟩ | ⟨h1,_⟩
     ·refine ⟨h1,h2,λ s hs=>⟨(h3 s hs).1,?_⟩⟩
      have:=of_decide_eq_true (h3 s hs).2;omega
     ·exact absurd (by rw [HM.out,h1];rfl) hm0
    have hmD:m<=1000:=by
     have h1:=zgp P D HW.out.2.1 (λ x hx=>(HW.out.2.2 x hx).1);rw [HM.out];exact Nat.le_trans h1 HX.out.2.2.2.2.1
    clear HP;have hmb:((m:Int)==0)=false:=beq_eq_false_iff_ne.2 (by omega);go_wp2_with fail;go_loopw [29] (λ s29 wq=>∃(j:Nat) (M':DataW Unit) (L':DataW Value),j<=m/\s29= .int .i64 j/\zda wq p lm rm (N+2000*k+2*j) B M' L' D (tks r (P.take j)) f g/\But rm w2 wq) (λ s29 _=>m-(intOf s29).toNat)
    case atStart=>
     obtain ⟨M,L,hA,h2,h3,h4⟩:=HR2.out;exact ⟨0,M,L,Nat.zero_le _,rfl,by simpa [tks] using hA,But.refl' _ _⟩
    case round=>
     obtain ⟨j,M',L',hj,rfl,hA,hbt⟩:=hrel;have HA:=kd (And.intro hA hbt);clear hA hbt;by_cases hjm:j<m
     ·obtain ⟨s,hs⟩:∃s,P[j]? =some s:=⟨_,List.getElem?_eq_getElem (by rw [<-HM.out];exact hjm)⟩
      have hsP:=List.mem_of_getElem? hs;obtain ⟨gw,hva⟩:∃gw,va=some ⟨gw,0,none⟩:=by
       rcases HO.out.shape with ⟨_,e⟩ | ⟨gw,cap,e,_⟩
       ·rw [e] at hs;simp at hs
       ·injection e with e1 _ _
        exact ⟨gw,e1⟩
      subst hva;obtain ⟨c0,c1,c2⟩:=HO.out.at (g:=gw) rfl hs;have hgw:gw≠rm:=by
       have h1:=(World.ownsRow.lt HO.out gw rfl).1;have h2:=HX.out.2.2.2.2.2.2;obtain ⟨_,_,_,_,_,h3⟩:=HR.out;have:=h3.size;omega
      have q0:=zcw HA.out.2.grown hgw c0;have q1:=zcw HA.out.2.grown hgw c1;have q2:=zcw HA.out.2.grown hgw c2;obtain ⟨W1,hW1⟩:∃W1,W1=wr.alloc (.cells #[.int .i64 s.1,.int .i64 s.2.1,.int .i64 s.2.2] 346):=⟨_,rfl⟩;have hbW:Below wr.heap.size wr W1:=by rw [hW1];exact (Below.refl _ _).alloc (Nat.le_refl _) _
      have hne:∀t∈P,fr t≠tt t:=λ t ht=>HX.out.1.ne t (HW.out.2.2 t ht).1
      have hT:Calls prog 317 #[.pointer (some ⟨p,0,none⟩),vS s] W1 (zka W1 p lm rm (N+2000*k+2*j) D (tk (tks r (P.take j)) s)):=by
       obtain ⟨_,_,_,hF,hsm,_⟩:=HR2.out;refine z16 p lm rm _ M' D _ s W1 (HA.out.1.net.below hbW) (HW.out.2.2 s hsP).1 HX.out.1 ?_ (by omega) (λ x=>?_)
       ·exact Int.le_trans (HW.out.2.2 s hsP).2 (zon _ r s (λ t ht=>hne t (List.mem_of_mem_take ht)) (zrk HW.out.2.1 hs))
       ·have h1:=zmy (P.take j) r (λ t ht=>hne t (List.mem_of_mem_take ht)) x
        have h2:=HA.out.1.net.rom.pos (bk x);have h3:=hsm x;have h4:=HX.out.2.2.2.2.2.1 x;omega
      have HT:Hid _:=hT;unfold vS at HT;have HW1:=kd hW1.symm;have HTS:Hid (tks r (P.take (j+1))=tk (tks r (P.take j)) s):=z1r hs r;have HBW1:=kd hbW;clear c0 c1 c2 hT hW1 hbW hne hsP hs hgw;obtain ⟨x,y,z⟩:=s;simp only at q0 q1 q2 HT HW1;go_wp2_with fail;rw [HW1.out];refine Calls.mono HT.out ?_;rintro e w4 ⟨rfl,M4,N4,hn4,hN4,hb4⟩;have HA4:Hid (zda w4 p lm rm (N+2000*k+2*(j+1)) B M4 L' D (tks r (P.take (j+1))) f g/\But rm w2 w4):=by
       rw [HTS.out];refine ⟨((HA.out.1.below HBW1.out).more (N':=N+2000*k+2*(j+1)) (by omega)).taken hb4 ⟨hn4.hp,hn4.mp.mono (by omega),hn4.rom⟩ (Nat.le_refl _),?_⟩;exact (HA.out.2.trans (But.of_below HBW1.out)).trans hb4
      clear hn4 hN4 hb4 HA HT q0 q1 q2;go_wp2_with fail;go_roundw;case rel=>exact ⟨j+1,M4,L',by omega,by go_num,HA4.out.1,HA4.out.2⟩
      case measure=>simp [intOf];omega
     ·have hje:m=j:=by omega
      subst hje;have HF:Hid (Fl w wr p lm rm (N+2000*(k+1)) B D r0 f g a b ((k+1:Nat):Int) (tks r P)):=by
       have h1:=HA.out.1;rw [List.take_of_length_le (by rw [<-HM.out];omega)] at h1;obtain ⟨_,_,_,hF,hsm,hbt⟩:=HR2.out;refine ⟨M',L',h1.more (by omega),?_,λ x=>?_,hbt.trans HA.out.2⟩
       ·have:=hF.way HX.out.1 (λ s hs=>(HW.out.2.2 s hs).1) HW.out.1 HW.out.2.1 (λ s hs=>(HW.out.2.2 s hs).2)
        rw [show ((k+1:Nat):Int)=(k:Int)+1 by omega];exact this
       ·rw [zmy P r (λ s hs=>HX.out.1.ne s (HW.out.2.2 s hs).1) x]
        exact hsm x
      clear HA;go_wp2_with fail;go_roundw;case rel=>exact ⟨k+1,_,by omega,by go_num,HF.out⟩
      case measure=>simp [intOf];omega
  ·have hke:most=k:=by omega
   subst hke;go_wp2_with fail;go_ret;refine ⟨most,r,rfl,?_,HR.out⟩;obtain ⟨_,_,_,hF,_,_⟩:=HR.out;exact hF.most (by omega)
end Go.Proofs.YtebcjaenhiiflaaGreatDoor.S
namespace Go.Proofs.YtebcjaenhiiflaaGreatDoor.S
open Go Go.ChangeMaps Go.MapKept Go.WideShapes Go.Proofs.Tryz
open Go.RowKit Go.WideMaps Go.Maps F
theorem zhj {ss:List (Stp × Int)} {s:Stp} (c:Int) (h:Net (lD ss)) (h1:s∉lD ss) (h2:bk s∉lD ss) (hne:fr s≠tt s):Net (lD (ss++[(s,c)])):=by
 rw [zee];refine ⟨?_,λ t ht=>?_,λ t ht=>?_⟩
 ·rw [List.nodup_append]
  refine ⟨h.nd,by simp;exact λ e=>zjt hne e.symm,λ x hx y hy e=>?_⟩;subst e;simp at hy;rcases hy with rfl | rfl
  ·exact h1 hx
  ·exact h2 hx
 ·rcases List.mem_append.1 ht with ht | ht
  ·exact List.mem_append_left _ (h.back t ht)
  ·simp at ht
   rcases ht with rfl | rfl <;> simp [zly]
 ·rcases List.mem_append.1 ht with ht | ht
  ·exact h.ne t ht
  ·simp at ht
   rcases ht with rfl | rfl
   ·exact hne
   ·rw [zww,zwx];exact λ e=>hne e.symm
theorem zup:Net (lD []):=⟨by simp [lD],by simp [lD],by simp [lD]⟩
theorem zk0 {n:Nat} {L:List Stp} (h:Ed n 120 L) {j:Nat} {e:Stp} (hx:L[j]? =some e):∀d∈L.take j,d.1≠e.1:=by
 intro d hd k;obtain ⟨i,hi,hie⟩:=List.mem_iff_getElem.1 hd;obtain ⟨hjl,hje⟩:=List.getElem?_eq_some_iff.1 hx;have hij:i<j:=by simp at hi;omega
 rw [List.getElem_take] at hie;have:=List.pairwise_iff_getElem.1 h.up i j (by omega) hjl hij;rw [hie,hje] at this;omega
theorem zch {α:Type} {L:List α} {j:Nat} {e:α} (hx:L[j]? =some e):L.take (j+1)=L.take j++[e]:=by rw [List.take_add_one,hx];rfl
theorem z5k {n:Nat} {L:List Stp} (h:Ed n 120 L):Net (lD (edS L)):=by
 have:∀j,j<=L.length->Net (lD (edS (L.take j))):=by
  intro j;induction j with
  | zero=>intro _;simpa [edS] using zup
  | succ j ih=>
    intro hj;have hx:L[j]? =some L[j]:=List.getElem?_eq_getElem (by omega);obtain ⟨x,y,hxy,_,he⟩:=h.ends L[j] (List.getElem_mem _);rw [zch hx];have e:edS (L.take j++[L[j]])=edS (L.take j)++[(L[j],1)]:=by rw [edS,List.map_append];rfl
    rw [e];have hoff:=zl6 (zk0 h hx);refine zhj 1 (ih (by omega)) hoff.1 hoff.2 ?_;rw [he];show (x:Int)≠(y:Int);omega
 have h1:=this L.length (Nat.le_refl _)
 rwa [List.take_length] at h1
theorem zth:∀j,Net (lD (ndS j))
 | 0=>by simpa [ndS] using zup
 | j+1=>by
   rw [zkg];have:=zqs j;exact zhj 0 (zth j) this.1 this.2 (by show 2*(j:Int)≠2*(j:Int)+1;omega)
theorem z6l {n:Nat} {L:List Stp} (h:Ed n 120 L):Net (lD (noS n L)):=by
 have:∀j,j<=L.length->Net (lD (noS n (L.take j))):=by
  intro j;induction j with
  | zero=>intro _;simpa [noS] using zth n
  | succ j ih=>
    intro hj;have hx:L[j]? =some L[j]:=List.getElem?_eq_getElem (by omega);obtain ⟨x,y,hxy,_,he⟩:=h.ends L[j] (List.getElem_mem _);have hone:=zk0 h hx;rw [zch hx,zkf];have e1:(L[j]).2.1=(x:Int):=by rw [he]
    have e2:(L[j]).2.2=(y:Int):=by rw [he]
    rw [e1,e2];have hxy':(x:Int)≠(y:Int):=by omega
    refine zhj 0 (zhj 0 (ih (by omega)) (ze9 hone hxy' _ (.inl rfl)) (ze9 hone hxy' _ (.inr rfl)) ?_) (ze4 hone hxy' _ (.inl rfl)) (ze4 hone hxy' _ (.inr rfl)) ?_
    ·show 2*(x:Int)+1≠2*(y:Int);omega
    ·show 2*(y:Int)+1≠2*(x:Int);omega
 have h1:=this L.length (Nat.le_refl _)
 rwa [List.take_length] at h1
theorem z4u (ss:List (Stp × Int)) (h:∀t∈ss,t.2<=1) (q:Stp):lr ss q<=1:=by
 induction ss using zex with
 | h0=>simp [lr]
 | h1 l a ih=>
   rw [zju];have h1:=ih (λ t ht=>h t (by simp [ht]));have h2:=h a (by simp);show (if q=bk a.1 then a.2 else if q=a.1 then 1 else lr l q)<=1;split
   ·exact h2
   ·split
    ·omega
    ·exact h1
theorem z9u (ss:List (Stp × Int)):(lD ss).length=2*ss.length:=by
 induction ss using zex with
 | h0=>simp [lD]
 | h1 l a ih=>rw [zee,List.length_append,ih];simp;omega
theorem znf {w:World} {p lm rm N B:Nat} {ss:List (Stp × Int)} {f:Int->Value} (h:Laid w p lm rm N B ss f) (hD:Net (lD ss)) (hl:ss.length<=300) (h1:∀t∈ss,t.2<=1) (hr:∀s∈lD ss,0<=tt s/\tt s<1000) (hN:N<=5000) {a b:Int} {most:Nat} (hm:most<=120) (ha0:0<=a) (ha1:a<1000) (hb0:0<=b) (hb1:b<1000) (hab:a≠b):
 Calls prog 236 #[.pointer (some ⟨p,0,none⟩),.int .i64 a,.int .i64 b,.int .i64 (most:Int)] w (zh4 w p lm rm N B (lD ss) (lr ss) f (lg ss) a b most):=by
 obtain ⟨M,L,hA⟩:=h;refine z4e p lm rm N B most M L _ _ f _ a b w hA hD (λ x s=>yaap ss s x) (λ x=>?_) hr ?_ (λ x=>?_) hN hm ha0 ha1 hb0 hb1 hab
 ·have:=z0j ss x;omega
 ·rw [z9u];omega
 ·have:=z4u ss h1 x
  have:=z4u ss h1 (bk x);omega
theorem yaa6 {n:Nat} {L:List Stp} (h:Ed n 120 L) (hn:n<=40):∀s∈lD (edS L),0<=tt s/\tt s<1000:=by
 intro s hs;obtain ⟨t,h1,h2⟩:=(zi4 _ _).1 hs;obtain ⟨d,hd,rfl⟩:=List.mem_map.1 h1;obtain ⟨x,y,hxy,hyn,he⟩:=h.ends d hd;rw [he] at h2;rcases h2 with rfl | rfl <;> (unfold tt;try unfold bk) <;> simp only <;> omega
theorem yaab {n:Nat} {L:List Stp} (h:Ed n 120 L) (hn:n<=40):∀s∈lD (noS n L),0<=tt s/\tt s<1000:=by
 intro s hs;obtain ⟨t,h1,h2⟩:=(zi4 _ _).1 hs;rcases List.mem_append.1 h1 with h1 | h1
 ·obtain ⟨x,hx,rfl⟩:=List.mem_map.1 h1
  have:=List.mem_range.1 hx;rcases h2 with rfl | rfl <;> (unfold tt;try unfold bk) <;> simp only <;> omega
 ·obtain ⟨d,hd,h1⟩:=List.mem_flatMap.1 h1
  obtain ⟨x,y,hxy,hyn,he⟩:=h.ends d hd;rw [he] at h1;simp [edN] at h1;rcases h1 with rfl | rfl <;> rcases h2 with rfl | rfl <;> (unfold tt;try unfold bk) <;> simp only <;> omega
theorem z6e (L:List Stp):∀t∈edS L,t.2<=1:=λ t ht=>by
 obtain ⟨d,hd,rfl⟩:=List.mem_map.1 ht;simp
theorem z5v (n:Nat) (L:List Stp):∀t∈noS n L,t.2<=1:=λ t ht=>by
 rcases List.mem_append.1 ht with h1 | h1
 ·obtain ⟨x,hx,rfl⟩:=List.mem_map.1 h1
  simp
 ·obtain ⟨d,hd,h1⟩:=List.mem_flatMap.1 h1
  simp [edN] at h1;rcases h1 with rfl | rfl <;> simp
theorem zh4.below {w0 w w':World} {p lm rm N B:Nat} {D:List Stp} {r0:Stp->Int} {f:Int->Value} {g:Int->List Stp} {a b:Int} {most:Nat} {e:Ending} (h:zh4 w p lm rm N B D r0 f g a b most e w') (hb:Below w0.heap.size w0 w) (hr:w0.heap.size<=rm):∃k:Nat,e= .returned (.int .i64 (k:Int))/\Val (cap D r0) a b most k/\Below w0.heap.size w0 w':=by
 obtain ⟨k,r,h1,h2,_,_,_,_,_,h3⟩:=h;exact ⟨k,h1,h2,hb.trans ⟨h3.os,h3.tape,h3.output,h3.size,λ i hi=>h3.block i (Nat.lt_of_lt_of_le hi hb.size) (by omega)⟩⟩
theorem zov (n B0 q a b m:Nat) (u:Value) (L:List (Int × Int × Int)) (w:World) (h:G.GAt w B0 168 61 q (n:Int) u L) (hn:n<=40) (hed:Ed n 120 L) (ha:a<n) (hb:b<n) (hab:a≠b) (hm:m<=120):
 Calls prog 128 #[.pointer (some ⟨q,0,none⟩),.int .i64 (a:Int),.int .i64 (b:Int),.int .i64 (m:Int)] w λ e w'=>∃k:Nat,e= .returned (.tuple #[.int .i64 (k:Int),.nilIface])/\Val (cap (lD (edS L)) (lr (edS L))) a b m k/\Below w.heap.size w w':=by
 have HG:=kd h;have HE:=kd hed;have hlen:=hed.len;clear h hed;go_enter func128,ntmps128;go_wp2_with fail;refine (znw n B0 q a b m u L w HG.out ha hb hab hm).mono ?_;rintro e w1 ⟨rfl,hb1⟩;have HB1:=kd hb1;clear hb1;go_wp2_with fail;refine (zs5 n B0 q u L w1 (HG.out.below HB1.out) hn HE.out).mono ?_;rintro e w2 ⟨p,lm,rm,N,B,f,rfl,hL,hN,hb2,_,_,hrm,_⟩;have HB2:Hid (Below w.heap.size w w2/\w.heap.size<=rm):=⟨HB1.out.trans (hb2.mono HB1.out.size),Nat.le_trans HB1.out.size hrm⟩;have HC:Hid _:=znf hL (z5k HE.out) (by simp [edS];omega) (z6e L) (yaa6 HE.out hn) (by omega) (a:=(a:Int)) (b:=(b:Int)) (most:=m) hm (by omega) (by omega) (by omega) (by omega) (by omega);clear hL hN hb2 hrm;go_wp2_with fail;refine Calls.mono HC.out ?_;intro e w3 hp;obtain ⟨k,rfl,hv,hb3⟩:=hp.below HB2.out.1 HB2.out.2;have HV:=kd (And.intro hv hb3);clear hv hb3 hp HC;go_wp2_with fail;go_ret2;exact ⟨k,rfl,HV.out.1,HV.out.2⟩
theorem zoq (n B0 q a b m:Nat) (u:Value) (L:List (Int × Int × Int)) (w:World) (h:G.GAt w B0 168 61 q (n:Int) u L) (hn:n<=40) (hed:Ed n 120 L) (ha:a<n) (hb:b<n) (hab:a≠b) (hm:m<=120):
 Calls prog 129 #[.pointer (some ⟨q,0,none⟩),.int .i64 (a:Int),.int .i64 (b:Int),.int .i64 (m:Int)] w λ e w'=>∃k:Nat,e= .returned (.tuple #[.int .i64 (k:Int),.nilIface])/\Val (cap (lD (noS n L)) (lr (noS n L))) (2*a+1) (2*b) m k/\Below w.heap.size w w':=by
 have HG:=kd h;have HE:=kd hed;have hlen:=hed.len;clear h hed;go_enter func129,ntmps129;go_wp2_with fail;refine (znw n B0 q a b m u L w HG.out ha hb hab hm).mono ?_;rintro e w1 ⟨rfl,hb1⟩;have HB1:=kd hb1;clear hb1;go_wp2_with fail;refine (zr4 n B0 q u L w1 (HG.out.below HB1.out) hn HE.out).mono ?_;rintro e w2 ⟨p,lm,rm,N,B,f,rfl,hL,hN,hb2,_,_,hrm,_⟩;have HB2:Hid (Below w.heap.size w w2/\w.heap.size<=rm):=⟨HB1.out.trans (hb2.mono HB1.out.size),Nat.le_trans HB1.out.size hrm⟩;have HC:Hid _:=znf hL (z6l HE.out) (by rw [zt1];omega) (z5v n L) (yaab HE.out hn) (by omega) (a:=2*(a:Int)+1) (b:=2*(b:Int)) (most:=m) hm (by omega) (by omega) (by omega) (by omega) (by omega);clear hL hN hb2 hrm;go_wp2_with fail;refine (zf0 (a:Int) (by omega) (by omega) w2).mono ?_;rintro e w4 ⟨rfl,hw4⟩;subst hw4;go_wp2_with fail;refine (zgm (b:Int) (by omega) (by omega) w4).mono ?_;rintro e w5 ⟨rfl,hw5⟩;subst hw5;go_wp2_with fail;refine Calls.mono HC.out ?_;intro e w3 hp;obtain ⟨k,rfl,hv,hb3⟩:=hp.below HB2.out.1 HB2.out.2;have HV:=kd (And.intro hv hb3);clear hv hb3 hp HC;go_wp2_with fail;go_ret2;exact ⟨k,rfl,HV.out.1,HV.out.2⟩
open Go Go.ChangeMaps Go.MapKept Go.WideShapes
theorem zwq (D D':List Stp) (r:Stp->Int) (S:Int->Bool):cap (D++D') r S=cap D r S+cap D' r S:=by
 induction D with
 | nil=>simp [cap]
 | cons s D ih=>simp only [List.cons_append,cap,ih];omega
theorem zys {D:List Stp} {r r':Stp->Int} {S:Int->Bool} (h:∀s∈D,r s=r' s):cap D r S=cap D r' S:=by
 induction D with
 | nil=>rfl
 | cons s D ih=>simp only [cap];rw [ih (λ t ht=>h t (by simp [ht])),h s (by simp)]
theorem zho {ss:List (Stp × Int)} {s:Stp} (c:Int) (h1:s∉lD ss) (h2:bk s∉lD ss) (hne:fr s≠tt s) (S:Int->Bool):cap (lD (ss++[(s,c)])) (lr (ss++[(s,c)])) S=cap (lD ss) (lr ss) S+((if out S s then 1 else 0)+(if out S (bk s) then c else 0)):=by
 have hb:=zjt hne;rw [zee,zju,zwq]
 congr 1
 ·refine zys (λ t ht=>?_)
  have e1:t≠s:=λ e=>h1 (e▸ht)
  have e2:t≠bk s:=λ e=>h2 (e▸ht)
  show (if t=bk s then c else if t=s then 1 else lr ss t)=lr ss t;rw [if_neg e2,if_neg e1]
 ·have q1:(if s=bk s then c else if s=s then 1 else lr ss s)=1:=by rw [if_neg (λ e=>hb e.symm),if_pos rfl]
  have q2:(if bk s=bk s then c else if bk s=s then 1 else lr ss (bk s))=c:=if_pos rfl;show (if out S s then (if s=bk s then c else if s=s then 1 else lr ss s) else 0)+((if out S (bk s) then (if bk s=bk s then c else if bk s=s then 1 else lr ss (bk s)) else 0)+0)=_;rw [q1,q2];omega
def crs (S:Int->Bool) (e:Stp):Bool:=S e.2.1 != S e.2.2
theorem z88 {n:Nat} {L:List Stp} (h:Ed n 120 L) (S:Int->Bool):cap (lD (edS L)) (lr (edS L)) S=((L.filter (crs S)).length:Int):=by
 have:∀j,j<=L.length->cap (lD (edS (L.take j))) (lr (edS (L.take j))) S=(((L.take j).filter (crs S)).length:Int):=by
  intro j;induction j with
  | zero=>intro _;rfl
  | succ j ih=>
    intro hj;have hx:L[j]? =some L[j]:=List.getElem?_eq_getElem (by omega);obtain ⟨x,y,hxy,_,he⟩:=h.ends L[j] (List.getElem_mem _);rw [zch hx];have e:edS (L.take j++[L[j]])=edS (L.take j)++[(L[j],1)]:=by rw [edS,List.map_append];rfl
    have hoff:=zl6 (zk0 h hx);have hne:fr L[j]≠tt L[j]:=by
     rw [he];show (x:Int)≠(y:Int);omega
    rw [e,zho 1 hoff.1 hoff.2 hne,ih (by omega),List.filter_append,List.length_append];unfold out;rw [zww,zwx];have hc:crs S L[j]=(S (fr L[j]) != S (tt L[j])):=rfl;rw [List.filter_cons,hc];cases S (fr L[j]) <;> cases S (tt L[j]) <;> simp
 have h1:=this L.length (Nat.le_refl _)
 rwa [List.take_length] at h1
def nin (S:Int->Bool) (x:Nat):Bool:=S (2*(x:Int))&&!S (2*(x:Int)+1)
def two (e:Stp):List (Int × Int):=[(e.2.1,e.2.2),(e.2.2,e.2.1)]
def ein (S:Int->Bool) (d:Int × Int):Bool:=S (2*d.1+1)&&!S (2*d.2)
theorem ztv (S:Int->Bool):∀j,cap (lD (ndS j)) (lr (ndS j)) S=(((List.range j).filter (nin S)).length:Int)
 | 0=>rfl
 | j+1=>by
   have:=zqs j;have hne:fr ((0,2*(j:Int),2*(j:Int)+1):Stp)≠tt ((0,2*(j:Int),2*(j:Int)+1):Stp):=by show 2*(j:Int)≠2*(j:Int)+1;omega
   rw [zkg,zho 0 this.1 this.2 hne,ztv S j,List.range_succ,List.filter_append,List.length_append];have hc:out S ((0,2*(j:Int),2*(j:Int)+1):Stp)=nin S j:=rfl;rw [hc,List.filter_cons];cases nin S j <;> simp
theorem zto {n:Nat} {L:List Stp} (h:Ed n 120 L) (S:Int->Bool):cap (lD (noS n L)) (lr (noS n L)) S=(((List.range n).filter (nin S)).length:Int)+(((L.flatMap two).filter (ein S)).length:Int):=by
 have:∀j,j<=L.length->cap (lD (noS n (L.take j))) (lr (noS n (L.take j))) S=(((List.range n).filter (nin S)).length:Int)+((((L.take j).flatMap two).filter (ein S)).length:Int):=by
  intro j;induction j with
  | zero=>
    intro _;have:=ztv S n
    simpa [noS] using this
  | succ j ih=>
    intro hj;have hx:L[j]? =some L[j]:=List.getElem?_eq_getElem (by omega);obtain ⟨x,y,hxy,_,he⟩:=h.ends L[j] (List.getElem_mem _);have hone:=zk0 h hx;have e1:(L[j]).2.1=(x:Int):=by rw [he]
    have e2:(L[j]).2.2=(y:Int):=by rw [he]
    have hxy':(x:Int)≠(y:Int):=by omega
    have ht:two L[j]=[((x:Int),(y:Int)),((y:Int),(x:Int))]:=by unfold two;rw [e1,e2]
    rw [zch hx,zkf,e1,e2,zho 0 (ze4 hone hxy' _ (.inl rfl)) (ze4 hone hxy' _ (.inr rfl)) (by show 2*(y:Int)+1≠2*(x:Int);omega),zho 0 (ze9 hone hxy' _ (.inl rfl)) (ze9 hone hxy' _ (.inr rfl)) (by show 2*(x:Int)+1≠2*(y:Int);omega),ih (by omega),List.flatMap_append,List.filter_append,List.length_append];have hs:[L[j]].flatMap two=[((x:Int),(y:Int)),((y:Int),(x:Int))]:=by rw [List.flatMap_cons,List.flatMap_nil,List.append_nil,ht]
    rw [hs];have c1:out S ((L[j]).1,2*(x:Int)+1,2*(y:Int))=ein S ((x:Int),(y:Int)):=rfl;have c2:out S ((L[j]).1,2*(y:Int)+1,2*(x:Int))=ein S ((y:Int),(x:Int)):=rfl;rw [c1,c2,List.filter_cons,List.filter_cons];cases ein S ((x:Int),(y:Int)) <;> cases ein S ((y:Int),(x:Int)) <;> simp <;> omega
 have h1:=this L.length (Nat.le_refl _)
 rwa [List.take_length] at h1
def cnv (L:List Stp) (T:List Nat):Nat->Nat->Prop:=cn ea eb (λ e=>e∈L/\ea e∉T/\eb e∉T)
theorem zxv {L:List Stp} {T:List Nat} {x y:Nat} (h:cnv L T x y) (hx:x∈T):x=y:=by
 have:=zae.least (P:=λ (u v:Nat)=>u=v\/(u∉T/\v∉T)) h (λ x=>.inl rfl) ?_ ?_ ?_
 ·rcases this with h | ⟨h,_⟩
  ·exact h
  ·exact absurd hx h
 ·rintro x y (h | ⟨h,k⟩)
  ·exact .inl h.symm
  ·exact .inr ⟨k,h⟩
 ·rintro x y z (rfl | ⟨h,k⟩) h2
  ·exact h2
  ·rcases h2 with rfl | ⟨h3,h4⟩
   ·exact .inr ⟨h,k⟩
   ·exact .inr ⟨h,h4⟩
 ·rintro x y ⟨e,⟨_,h1,h2⟩,rfl,rfl⟩
  exact .inr ⟨h1,h2⟩
theorem ze1 {n i:Nat} {L:List Stp} (h:Ed n i L) {e:Stp} (he:e∈L):e.2.1=(ea e:Int)/\e.2.2=(eb e:Int)/\ea e<n/\eb e<n/\ea e<eb e:=by
 obtain ⟨x,y,hxy,hy,hq⟩:=h.ends e he;have h1:e.2.1=(x:Int):=by rw [hq]
 have h2:e.2.2=(y:Int):=by rw [hq]
 have h3:ea e=x:=by unfold ea;rw [h1];simp
 have h4:eb e=y:=by unfold eb;rw [h2];simp
 rw [h3,h4];exact ⟨h1,h2,by omega,by omega,hxy⟩
theorem setOf (p:Nat->Prop):∃S:Int->Bool,∀z:Nat,S (z:Int)=true↔p z:=by
 refine ⟨λ x=>@decide (∃z:Nat,x=(z:Int)/\p z) (Classical.propDecidable _),λ z=>?_⟩;have:=@decide_eq_true_iff (∃y:Nat,(z:Int)=(y:Int)/\p y) (Classical.propDecidable _);refine this.trans ⟨λ ⟨y,h1,h2⟩=>by rw [show z=y by omega];exact h2,λ h=>⟨z,rfl,h⟩⟩
structure Joins (L:List Stp) (Q:List (Int × Int)):Prop where
 out:∀d∈Q,∃e∈L,d=((ea e:Int),(eb e:Int))\/d=((eb e:Int),(ea e:Int))
 inn:∀e∈L,((ea e:Int),(eb e:Int))∈Q/\((eb e:Int),(ea e:Int))∈Q
theorem zog {n i:Nat} {L:List Stp} (hed:Ed n i L):Joins L (L.flatMap two):=by
 refine ⟨λ d hd=>?_,λ e he=>?_⟩
 ·obtain ⟨e,he,hd⟩:=List.mem_flatMap.1 hd
  obtain ⟨e1,e2,_⟩:=ze1 hed he;unfold two at hd;rw [e1,e2] at hd;simp only [List.mem_cons,List.not_mem_nil,or_false] at hd;exact ⟨e,he,hd⟩
 ·obtain ⟨e1,e2,_⟩:=ze1 hed he
  constructor <;> exact List.mem_flatMap.2 ⟨e,he,by unfold two;rw [e1,e2];simp⟩
section
variable {n i:Nat} {L:List Stp} {a b:Nat} {Q:List (Int × Int)}
theorem znz (hQ:Joins L Q) (T:List Nat) (ha:a∉T) (hb:b∉T) (h:¬cnv L T a b):
 ∃S:Int->Bool,S (2*(a:Int)+1)=true/\S (2*(a:Int))=true/\S (2*(b:Int))=false/\S (2*(b:Int)+1)=false/\(∀z:Nat,nin S z=true->z∈T)/\∀d∈Q,ein S d=false:=by
 obtain ⟨S,hS0,hS1⟩:∃S:Int->Bool,(∀z:Nat,S (2*(z:Int))=true↔(cnv L T a z\/z∈T))/\∀z:Nat,S (2*(z:Int)+1)=true↔cnv L T a z:=by
  obtain ⟨S1,h1⟩:=setOf (λ z=>cnv L T a z\/z∈T);obtain ⟨S2,h2⟩:=setOf (λ z=>cnv L T a z);refine ⟨λ x=>if x%2=0 then S1 (x/2) else S2 (x/2),λ z=>?_,λ z=>?_⟩
  ·show (if (2*(z:Int))%2=0 then _ else _)=true↔_
   rw [if_pos (by omega),show 2*(z:Int)/2=(z:Int) by omega,h1]
  ·show (if (2*(z:Int)+1)%2=0 then _ else _)=true↔_
   rw [if_neg (by omega),show (2*(z:Int)+1)/2=(z:Int) by omega,h2]
 refine ⟨S,(hS1 a).2 (zaw a),(hS0 a).2 (.inl (zaw a)),?_,?_,λ z hz=>?_,λ d hd=>?_⟩
 ·cases hq:S (2*(b:Int)) with
  | false=>rfl
  | true=>
    rcases (hS0 b).1 hq with k | k
    ·exact absurd k h
    ·exact absurd k hb
 ·cases hq:S (2*(b:Int)+1) with
  | false=>rfl
  | true=>exact absurd ((hS1 b).1 hq) h
 ·unfold nin at hz
  simp only [Bool.and_eq_true,Bool.not_eq_true'] at hz;rcases (hS0 z).1 hz.1 with k | k
  ·have:=(hS1 z).2 k
   rw [hz.2] at this;cases this
  ·exact k
 ·cases hc:ein S d with
  | false=>rfl
  | true=>
    exfalso;have key:∀u v:Nat,(u∉T->v∉T->cnv L T u v)->ein S ((u:Int),(v:Int))=true->False:=λ u v huv hc=>by
     unfold ein at hc;simp only [Bool.and_eq_true,Bool.not_eq_true'] at hc;have hu:=(hS1 u).1 hc.1;have hnu:u∉T:=λ k=>by
      have:=zxv (zac hu) k;exact ha (this▸k)
     have hv:¬(cnv L T a v\/v∈T):=λ k=>by
      have:=(hS0 v).2 k;rw [hc.2] at this;cases this
     exact hv (.inl (zaa hu (huv hnu (λ k=>hv (.inr k)))))
    obtain ⟨e,he,rfl | rfl⟩:=hQ.out d hd
    ·exact key (ea e) (eb e) (λ h1 h2=>zaj ⟨he,h1,h2⟩) hc
    ·exact key (eb e) (ea e) (λ h1 h2=>zac (zaj ⟨he,h2,h1⟩)) hc
def zh1 (a b:Nat) (d:Int × Int):List Nat:=if d.1=(b:Int) then [] else if d.1=(a:Int) then [d.2.toNat] else [d.1.toNat]
theorem zzd (a b:Nat) (l:List (Int × Int)):(l.flatMap (zh1 a b)).length<=l.length:=by
 induction l with
 | nil=>simp
 | cons d l ih=>
   rw [List.flatMap_cons,List.length_append];have:(zh1 a b d).length<=1:=by
    unfold zh1;split
    ·simp
    ·split <;> simp
   rw [List.length_cons];omega
theorem znl (hed:Ed n i L) (hQ:Joins L Q) (hab:a≠b) (hna:∀e∈L,¬(ea e=a/\eb e=b)/\¬(ea e=b/\eb e=a)) (S:Int->Bool) (h1:S (2*(a:Int)+1)=true) (h2:S (2*(b:Int))=false):
 ∃T:List Nat,a∉T/\b∉T/\¬cnv L T a b/\T.length<=((List.range n).filter (nin S)).length+(Q.filter (ein S)).length/\∀z∈T,z<n:=by
 obtain ⟨T,hT⟩:∃T,(List.range n).filter (nin S)++(Q.filter (ein S)).flatMap (zh1 a b)=T:=⟨_,rfl⟩;have ends:∀d∈Q,∃u v:Nat,d=((u:Int),(v:Int))/\u<n/\v<n/\u≠v/\¬(u=a/\v=b):=λ d hd=>by
  obtain ⟨e,he,hd⟩:=hQ.out d hd;obtain ⟨e1,e2,e3,e4,e5⟩:=ze1 hed he;have:=hna e he;rcases hd with rfl | rfl
  ·exact ⟨ea e,eb e,rfl,e3,e4,by omega,by omega⟩
  ·exact ⟨eb e,ea e,rfl,e4,e3,by omega,by omega⟩
 have memT:∀z,z∈T->z<n/\z≠a/\z≠b:=λ z hz=>by
  rw [<-hT] at hz;rcases List.mem_append.1 hz with hz | hz
  ·obtain ⟨q1,q2⟩:=List.mem_filter.1 hz
   unfold nin at q2;simp only [Bool.and_eq_true,Bool.not_eq_true'] at q2;refine ⟨List.mem_range.1 q1,λ e=>?_,λ e=>?_⟩
   ·subst e;rw [h1] at q2;cases q2.2
   ·subst e;rw [h2] at q2;cases q2.1
  ·obtain ⟨d,hd,hz⟩:=List.mem_flatMap.1 hz
   obtain ⟨u,v,rfl,hu,hv',huv,hno⟩:=ends d (List.mem_filter.1 hd).1;unfold zh1 at hz;simp only at hz;by_cases c1:u=b
   ·rw [if_pos (by omega)] at hz;simp at hz
   ·rw [if_neg (by omega)] at hz
    by_cases c2:u=a
    ·rw [if_pos (by omega)] at hz
     simp at hz;omega
    ·rw [if_neg (by omega)] at hz
     simp at hz;omega
 have inT:∀u v:Nat,((u:Int),(v:Int))∈Q->ein S ((u:Int),(v:Int))=true->u≠b->u∈T\/(u=a/\v∈T):=λ u v hd hc hub=>by
  by_cases c2:u=a
  ·right
   refine ⟨c2,?_⟩;rw [<-hT];refine List.mem_append_right _ (List.mem_flatMap.2 ⟨_,List.mem_filter.2 ⟨hd,hc⟩,?_⟩);unfold zh1;simp only;rw [if_neg (by omega),if_pos (by omega)];simp
  ·left
   rw [<-hT];refine List.mem_append_right _ (List.mem_flatMap.2 ⟨_,List.mem_filter.2 ⟨hd,hc⟩,?_⟩);unfold zh1;simp only;rw [if_neg (by omega),if_neg (by omega)];simp
 have step:∀u v:Nat,((u:Int),(v:Int))∈Q->v<n->u∉T->v∉T->(S (2*(u:Int)+1)=true/\u≠b)->(S (2*(v:Int)+1)=true/\v≠b):=λ u v hd hvn huT hvT ⟨hu,hub⟩=>by
  have hS2:S (2*(v:Int))=true:=by
   cases hq:S (2*(v:Int)) with
   | true=>rfl
   | false=>
     exfalso;have hc:ein S ((u:Int),(v:Int))=true:=by
      unfold ein;simp only [Bool.and_eq_true,Bool.not_eq_true'];exact ⟨hu,hq⟩
     rcases inT u v hd hc hub with k | ⟨_,k⟩
     ·exact huT k
     ·exact hvT k
  refine ⟨?_,λ e=>by subst e;rw [h2] at hS2;cases hS2⟩;cases hq:S (2*(v:Int)+1) with
  | true=>rfl
  | false=>
    exfalso;apply hvT;rw [<-hT];refine List.mem_append_left _ (List.mem_filter.2 ⟨List.mem_range.2 hvn,?_⟩);unfold nin;simp only [Bool.and_eq_true,Bool.not_eq_true'];exact ⟨hS2,hq⟩
 refine ⟨T,λ k=>(memT a k).2.1 rfl,λ k=>(memT b k).2.2 rfl,λ hc=>?_,?_,λ z hz=>(memT z hz).1⟩
 ·have:=zae.least (P:=λ (u v:Nat)=>(S (2*(u:Int)+1)=true/\u≠b)↔(S (2*(v:Int)+1)=true/\v≠b)) hc (λ _=>Iff.rfl) (λ _ _ k=>k.symm) (λ _ _ _ k1 k2=>k1.trans k2) (by
   rintro u v ⟨e,⟨he,hu,hv'⟩,rfl,rfl⟩;obtain ⟨e1,e2,e3,e4,e5⟩:=ze1 hed he;exact ⟨step _ _ (hQ.inn e he).1 e4 hu hv',step _ _ (hQ.inn e he).2 e3 hv' hu⟩)
  exact (this.1 ⟨h1,hab⟩).2 rfl
 ·have q1:=zzd a b (Q.filter (ein S))
  rw [<-hT,List.length_append];omega
end
def zba (a b:Nat) (e:Stp):Bool:=decide ((ea e=a/\eb e=b)\/(ea e=b/\eb e=a))
theorem zim (p:Stp->Bool) (f:Stp->List (Int × Int)) (q:Int × Int->Bool):∀L:List Stp,((L.flatMap f).filter q).length=(((L.filter p).flatMap f).filter q).length+(((L.filter λ e=>!p e).flatMap f).filter q).length
 | []=>rfl
 | e::L=>by
   have ih:=zim p f q L;rw [List.flatMap_cons,List.filter_append,List.length_append,ih,List.filter_cons,List.filter_cons];cases p e <;> simp [List.flatMap_cons,List.filter_append] <;> omega
section
variable {n:Nat} {L:List Stp} {a b:Nat}
theorem Ed.zqi {n i:Nat} {L:List Stp} (h:Ed n i L) (f:Stp->Bool):Ed n i (L.filter f):=
 ⟨List.Pairwise.filter _ h.up,λ e he=>h.ids e (List.mem_filter.1 he).1,λ e he=>h.ends e (List.mem_filter.1 he).1,Nat.le_trans (List.length_filter_le _ _) h.len⟩
theorem zx0 {S:Int->Bool} {T:List Nat} (h:∀z:Nat,nin S z=true->z∈T) (n:Nat):((List.range n).filter (nin S)).length<=T.length:=
 zgp _ _ (List.nodup_range.filter _) (λ z hz=>h z (List.mem_filter.1 hz).2)
theorem zn2 (hed:Ed n 120 L) {S:Int->Bool} (h1:S (2*(a:Int)+1)=true) (h2:S (2*(b:Int))=false):(L.filter (zba a b)).length<=(((L.filter (zba a b)).flatMap two).filter (ein S)).length/\(S (2*(b:Int)+1)=false->(((L.filter (zba a b)).flatMap two).filter (ein S)).length=(L.filter (zba a b)).length):=by
 have key:∀M:List Stp,(∀e∈M,e∈L/\zba a b e=true)->M.length<=((M.flatMap two).filter (ein S)).length/\(S (2*(b:Int)+1)=false->((M.flatMap two).filter (ein S)).length=M.length):=by
  intro M;induction M with
  | nil=>intro _;exact ⟨Nat.le_refl _,λ _=>rfl⟩
  | cons e M ih=>
    intro h;obtain ⟨i1,i2⟩:=ih (λ d hd=>h d (by simp [hd]));obtain ⟨heL,hd⟩:=h e (by simp);obtain ⟨e1,e2,_⟩:=ze1 hed heL;have hd:=of_decide_eq_true hd;have hab:ein S ((a:Int),(b:Int))=true:=by
     unfold ein;simp only [Bool.and_eq_true,Bool.not_eq_true'];exact ⟨h1,h2⟩
    have hba:S (2*(b:Int)+1)=false->ein S ((b:Int),(a:Int))=false:=λ k=>by
     unfold ein;simp only [k,Bool.false_and]
    rw [List.flatMap_cons,List.filter_append,List.length_append,List.length_cons];have ht:two e=[((ea e:Int),(eb e:Int)),((eb e:Int),(ea e:Int))]:=by unfold two;rw [e1,e2]
    rw [ht];rcases hd with ⟨k1,k2⟩ | ⟨k1,k2⟩
    ·rw [k1,k2,List.filter_cons,hab,List.filter_cons]
     cases hq:ein S ((b:Int),(a:Int)) with
     | true=>exact ⟨by simp;omega,λ k=>by rw [hba k] at hq;cases hq⟩
     | false=>exact ⟨by simp;omega,λ k=>by have:=i2 k;simp;omega⟩
    ·rw [k1,k2,List.filter_cons,List.filter_cons,hab]
     cases hq:ein S ((b:Int),(a:Int)) with
     | true=>exact ⟨by simp;omega,λ k=>by rw [hba k] at hq;cases hq⟩
     | false=>exact ⟨by simp;omega,λ k=>by have:=i2 k;simp;omega⟩
 exact key _ (λ e he=>⟨(List.mem_filter.1 he).1,(List.mem_filter.1 he).2⟩)
theorem ztg (L:List Stp) (a b:Nat):∀e∈L.filter (λ e=>!zba a b e),¬(ea e=a/\eb e=b)/\¬(ea e=b/\eb e=a):=λ e he=>by
 have:=(List.mem_filter.1 he).2;simp only [Bool.not_eq_true'] at this;have:=of_decide_eq_false this;exact ⟨λ k=>this (.inl k),λ k=>this (.inr k)⟩
theorem z9h {most k:Int} (hed:Ed n 120 L) (hv:Val (cap (lD (noS n L)) (lr (noS n L))) (2*(a:Int)+1) (2*(b:Int)) most k) (T:List Nat) (ha:a∉T) (hb:b∉T) (h:¬cnv (L.filter λ e=>!zba a b e) T a b):k<=((L.filter (zba a b)).length:Int)+(T.length:Int):=by
 obtain ⟨S,h1,_,h2,h3,h4,h5⟩:=znz (zog (hed.zqi _)) T ha hb h;have hle:=hv.all S h1 h2;rw [zto hed,zim (zba a b)] at hle;have q1:=zx0 h4 n;have q2:=(zn2 hed h1 h2).2 h3;have q3:(((L.filter λ e=>!zba a b e).flatMap two).filter (ein S)).length=0:=by
  rw [List.length_eq_zero_iff,List.filter_eq_nil_iff];intro d hd;rw [h5 d hd];simp
 omega
theorem z5e {most k:Int} (hed:Ed n 120 L) (hab:a≠b) (hv:Val (cap (lD (noS n L)) (lr (noS n L))) (2*(a:Int)+1) (2*(b:Int)) most k) (hk:k≠most):∃T:List Nat,a∉T/\b∉T/\¬cnv (L.filter λ e=>!zba a b e) T a b/\((L.filter (zba a b)).length:Int)+(T.length:Int)<=k:=by
 rcases hv.one with h | ⟨S,h1,h2,h3⟩
 ·exact absurd h hk
 ·rw [zto hed,zim (zba a b)] at h3
  obtain ⟨T,t1,t2,t3,t4,_⟩:=znl (hed.zqi _) (zog (hed.zqi _)) hab (ztg L a b) S h1 h2;have q2:=(zn2 hed h1 h2).1;exact ⟨T,t1,t2,t3,by omega⟩
end
end Go.Proofs.YtebcjaenhiiflaaGreatDoor.S
