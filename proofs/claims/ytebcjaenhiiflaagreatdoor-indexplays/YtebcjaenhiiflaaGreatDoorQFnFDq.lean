import Derived.Test.YtebcjaenhiiflaaGreatDoorQFgFl
import Derived.Shelf.SlicesQ.Reverse
import Derived.Ground.SlgnProg
import Derived.Test.YtebcjaenhiiflaaGreatDoorQFDdFDe
set_option maxHeartbeats 8000000
set_option maxRecDepth 100000
namespace Go.Proofs
open Go.Proofs.Tryz
open Go.Shelf
def Tryz.rev124_ren:Go.Shelf.Ren:=⟨λ | 35=>350 | n=>n,λ | 22=>347 | 23=>346 | 3=>3 | 4=>4 | 0=>0 | n=>n,λ | n=>n⟩
theorem Tryz.rev161:Go.Proofs.SlLaysE0.n35 prog Tryz.rev124_ren:={
 mixed:=by kernel_rfl
 f35:=⟨Tryz.f350.name,by decide,func350.trans (congrArg some (by kernel_rfl))⟩
 t0:=underlying0
 a0:=isAgg0
 z0:=sizeOf0
 v0:=zeroValue0
 t3:=underlying3
 a3:=isAgg3
 z3:=sizeOf3
 v3:=zeroValue3
 t4:=underlying4
 a4:=isAgg4
 z4:=sizeOf4
 v4:=zeroValue4
 t22:=underlying347
 a22:=isAgg347
 z22:=sizeOf347
 v22:=zeroValue347}
end Go.Proofs
namespace Go.Proofs.YtebcjaenhiiflaaGreatDoor.S
open Go.Proofs.Tryz
open Go Go.ChangeMaps Go.MapKept Go.WideShapes
open Go.RowKit Go.WideMaps Go.Maps Go.Sort F
theorem z3h (L:List Stp) (t:Nat) (h:t<L.length*3):(G.zaf L)[t]? =some ((G.zaq (L[t/3]!))[t%3]!):=by
 have hi:t/3<L.length:=by omega
 obtain ⟨a,b,c⟩:=G.zjn L (t/3) L[t/3] (List.getElem?_eq_getElem hi);rw [getElem!_pos L (t/3) hi];have hm:t%3=0\/t%3=1\/t%3=2:=by omega
 rcases hm with e | e | e
 ·rw [show t/3*3=t by omega] at a
  rw [a,e];rfl
 ·rw [show t/3*3+1=t by omega] at b
  rw [b,e];rfl
 ·rw [show t/3*3+2=t by omega] at c
  rw [c,e];rfl
theorem flat_get (L:List Stp) (t:Nat) (h:t<L.length*3):(G.zaf L)[t]? =some (flatK G.zaq 3 L.toArray)[t]! :=by
 rw [get_flatK _ _ _ _ (by simpa using h),z3h L t h];have hi:t/3<L.length:=by omega
 rw [getElem!_pos L (t/3) hi,getElem!_pos L.toArray (t/3) (by simpa using hi)];simp
theorem z7i (x:Stp):∀v∈G.zaq x,v.oneCell'=true:=λ v hv=>by
 simp [G.zaq] at hv;rcases hv with rfl | rfl | rfl <;> rfl
theorem z7m (w:World) (B:Nat) (v:Value) (P:List Stp) (h:G.zad w B 346 v P) (hP:P.length<=100000):
 Calls prog 350 #[v] w λ e w'=>e= .returned (.tuple #[])/\G.zad w' B 346 v P.reverse/\w.grownBy w' v.ownBlock:=by
 rcases h.2 with ⟨rfl,h0⟩ | ⟨g,cap,cur,rfl,hb,hg,hn,hm,hs,ht⟩
 ·refine (AnyQ.slices_Reverse_empty Tryz.rev161 none 0 w).mono ?_
  rintro e w' ⟨rfl,rfl⟩;have:P=[]:=List.eq_nil_of_length_eq_zero h0;subst this;exact ⟨rfl,h,⟨rfl,rfl,rfl,Nat.le_refl _,λ _ _ _=>rfl⟩⟩
 ·have hH:HoldsK G.zaq 3 w g 0 P.toArray:=λ j hj=>by
   have hj':j<P.length*3:=by simpa using hj
   refine ⟨?_,by simp [World.frozen?,hg]⟩;have:=World.ownsRow.cells h rfl j _ (flat_get P j hj');rw [G.zbm] at this;rw [Nat.zero_add];exact this
  have hc:=AnyQ.slices_Reverse Tryz.rev161 3 isAgg346 sizeOf346 G.zaq (λ _=>rfl) z7i g 0 cap P.toArray w hH (by simp;omega);rw [show P.toArray.size=P.length by simp] at hc;refine Calls.mono hc ?_;rintro e w' ⟨rfl,n,rfl⟩;refine ⟨rfl,⟨by rw [G.zah],.inr ⟨g,cap,putCells id 0 (flatK G.zaq 3 P.toArray.reverse) cur,by simp,hb,?_,by simpa using hn,hm,by simpa [putCells] using hs,?_⟩⟩,⟨rfl,rfl,rfl,by simp [putRowK,putRow,mapBlock,Sort.ahead],λ k hk hne=>?_⟩⟩
  ·simp [putRowK,putRow,mapBlock,Sort.ahead,Array.getElem?_modify,hg,onCells]
  ·apply List.ext_getElem?
   intro j;rw [List.getElem?_take,Array.getElem?_toList];by_cases hj:j<P.reverse.length*3
   ·have hl:P.reverse.length=P.length:=by simp
    have hn3:=Nat.mul_le_mul_right 3 hn;have hjc:j<cur.size:=by omega
    rw [if_pos hj,flat_get P.reverse j hj];simp only [putCells,Array.getElem?_mapIdx,Array.getElem?_eq_getElem hjc,Option.map_some];rw [if_pos (by simp;omega)];simp
   ·rw [if_neg hj,List.getElem?_eq_none (by rw [G.zah];omega)]
  ·have hne':g≠k:=λ e=>hne (by rw [<-e];rfl)
   simp [putRowK,putRow,mapBlock,Sort.ahead,Array.getElem?_modify,hne']
open Go Go.ChangeMaps Go.MapKept Go.WideShapes Go.Proofs.Tryz
open Go.RowKit Go.WideMaps Go.Maps F
def zpl (w:World) (D:List Stp) (inn:Stp->Bool) (a b:Int) (e:Ending) (w':World):Prop:=
 ∃v P,e= .returned v/\Below w.heap.size w w'/\G.zad w' w.heap.size 346 v P/\((Walk a P b/\P.Nodup/\∀s∈P,s∈D/\inn s=true)\/(P=[]/\∃S:Int->Bool,S a=true/\S b=false/\∀s∈D,out S s=true->inn s=false))
theorem z4j (x y z:Int) (w:World):(Instr.field 346 (.agg #[.int .i64 x,.int .i64 y,.int .i64 z]) 1).run prog w= .ok (.int .i64 y) w:=by kernel_rfl
theorem zwc (p lm rm N B:Nat) (M:DataW Unit) (L:DataW Value) (D:List Stp) (r:Stp->Int) (f:Int->Value) (g:Int->List Stp) (inn:Stp->Bool) (a b:Int) (w:World) (h:zda w p lm rm N B M L D r f g)
 (hg:∀x s,s∈g x↔s∈D/\fr s=x) (hgl:∀x,(g x).length<=1000) (hr:∀s∈D,0<=tt s/\tt s<1000) (hDl:D.length<=1000) (ha0:0<=a) (ha1:a<1000) (hb0:0<=b) (hb1:b<1000)
 (hf:∀W s,s∈D->Below w.heap.size w W->Calls prog 316 #[.pointer (some ⟨p,0,none⟩),vS s] W λ e w'=>e= .returned (.bool (inn s))/\Below W.heap.size W w'):
 Calls prog 315 #[.pointer (some ⟨p,0,none⟩),.int .i64 a,.int .i64 b,.func (.func 316) #[.pointer (some ⟨p,0,none⟩)] #[]] w (zpl w D inn a b):=by
 have HF:=kd hf;have HN:=kd h;have HG:Hid ((∀x s,s∈g x↔s∈D/\fr s=x)/\(∀x,(g x).length<=1000)/\∀s∈D,0<=tt s/\tt s<1000):=⟨hg,hgl,hr⟩;obtain ⟨w1,r1,hsz1,c0,hS0,hQ0⟩:=zye w g inn ha0 ha1;have HS0:Hid (zro w w.heap.size g inn a 0 (.slice (some ⟨w1.heap.size,0,none⟩) 1 1) (w1.alloc (.cells #[.int .i64 a] 3))):=⟨[a],c0,hS0,Nat.zero_le _,hQ0,λ k y hk=>by omega⟩;have hmm:=@run_makeMap prog;obtain ⟨cb,hcb⟩:∃cb,w.heap.size=cb:=⟨_,rfl⟩;have HCB:=kd hcb;clear h hf hg hgl hr hS0 hQ0 hsz1;unfold vS at r1;rw [hcb] at r1 HS0;go_enter func315,ntmps315;go_wp2_with fail;clear hcb;go_loopg [10] 1000 (λ rr s10 wq=>∃i,i+rr=1000/\zro w cb g inn a i s10 wq)
 case atStart=>exact ⟨0,by omega,HS0.out⟩
 case round=>
  clear HS0 r1;obtain ⟨i,hi,hout⟩:=hrel;obtain ⟨q,c,hsea,hiq,⟨ad,cap,rfl,hq⟩,hdn⟩:=hout;have HSEA:=kd hsea;have HDN:=kd hdn;have hql:=hsea.len;obtain ⟨ln,hln⟩:∃ln,(q.drop i).length=ln:=⟨_,rfl⟩;have HLN:=kd hln;have HQ:=kd hq;rw [hln];obtain ⟨wy,hwy⟩:∃wy,wy=wr:=⟨_,rfl⟩;subst hwy;obtain ⟨gk1,hgk1⟩:∃gk1,gk1=gk:=⟨_,rfl⟩;subst hgk1;clear hsea hdn hq hln;by_cases hpos:0<ln
  ·
   have hlnq:ln=q.length-i:=by have:=HLN.out;simp at this;omega
   have hiq2:i<q.length:=by omega
   have hne:q.drop i≠[]:=λ e=>by have:=HLN.out;rw [e] at this;simp at this;omega
   obtain ⟨gq,o,had,hque⟩:=HQ.out hne;subst had;obtain ⟨x,hx⟩:∃x,q[i]? =some x:=⟨_,List.getElem?_eq_getElem (by omega)⟩;have hx0:=HSEA.out.rng x (List.mem_of_getElem? hx);have hc10:wy.cell? ⟨gq,o,none⟩=some (.int .i64 x):=by
    have:=hque.got 0 x (by rw [List.getElem?_drop];simpa using hx)
    simpa using this
   have hA:=HN.out.below HSEA.out.bel;have hp0:wy.cell? ⟨p,0,none⟩=some (.map (some lm)):=by simp [World.cell?,hA.net.hp]
   obtain ⟨va,vc,hv⟩:=(hA.lv.row x).zal;obtain ⟨m,hm⟩:∃m,(g x).length=m:=⟨_,rfl⟩;rw [hm] at hv;have lk:∀n,(Instr.lookup 376 (.map (some lm)) (.int .i64 x) false).run prog (wy.drewN n)= .ok (.slice va m vc) (wy.drewN n):=λ n=>by
    rw [<-hv];exact (hA.below (below_drewN (Below.refl _ _) n)).lv.look (zar hx0.1 (by omega))
   have HM:=kd hm;have HV:=kd hv;have hml:m<=1000:=by rw [<-hm];exact HG.out.2.1 x
   have HX:=kd hx;have HQUE:=kd hque;have HL2:=kd hlnq;clear hA hv hm hx hque hne HQ hlnq;go_wp2_with fail;go_quiet (fail);go_wp2_with fail;have HIN:Hid (InR w cb g inn a i x 0 (.slice (some ⟨gq,o,none⟩) ln cap) (wy.drewN nq)):=by
    have hb:=below_drewN (Below.refl wy.heap.size wy) nq;rw [HL2.out];exact ⟨q,c,gq,o,cap,HSEA.out.below hb,HX.out,rfl,HQUE.out.kept (zai hb) (by simp),HDN.out,λ s hs=>by simp at hs⟩
   clear HSEA HDN HLN HX HQUE HL2 lk hc10 hp0;obtain ⟨wz,hwz⟩:∃wz,wy.drewN nq=wz:=⟨_,rfl⟩;rw [hwz] at HIN ⊢;clear hwz;go_loopg [10,39] m (λ rr s10 s39 wq=>∃j:Nat,s39= .int .i64 j/\j+rr=m/\InR w cb g inn a i x j s10 wq)
   case atStart=>exact ⟨0,rfl,by omega,HIN.out⟩
   case round=>
    clear HIN;obtain ⟨j,rfl,hj,hin⟩:=hrel;have HIN:=kd hin;clear hin;by_cases hjm:j<m
    ·obtain ⟨q',c',gq',o',cap',hsea,hx,hu,hque,hdn,hjj⟩:=HIN.out
     subst hu;obtain ⟨⟨y0,y1,y2⟩,hs⟩:∃s:Stp,(g x)[j]? =some s:=⟨_,List.getElem?_eq_getElem (by rw [HM.out];exact hjm)⟩;have hsg:=List.mem_of_getElem? hs;obtain ⟨hsD,hsx⟩:=(HG.out.1 x _).1 hsg;have htt:0<=y2/\y2<1000:=HG.out.2.2 _ hsD;have hA:=HN.out.below hsea.bel;obtain ⟨gw,hva⟩:∃gw,va=some ⟨gw,0,none⟩:=by
      rcases (hA.lv.row x).shape with ⟨_,e⟩ | ⟨gw,cap,e,_⟩
      ·rw [e] at hs;simp at hs
      ·rw [HV.out] at e
       injection e with e1 _ _
       exact ⟨gw,e1⟩
     subst hva;obtain ⟨r0,r1,r2⟩:=(hA.lv.row x).at (g:=gw) (by rw [HV.out];rfl) hs;simp only at r0 r1 r2;have hbW:Below wr.heap.size wr (wr.alloc (.cells #[.int .i64 y0,.int .i64 y1,.int .i64 y2] 346)):=(Below.refl _ _).alloc (Nat.le_refl _) _;have lk:=((hsea.below hbW).look htt.1 htt.2).1;have HSK:Hid ((inn (y0,y1,y2)=true->y2∈q')->∀w',Below wr.heap.size wr w'->InR w cb g inn a i x (j+1) (.slice (some ⟨gq',o',none⟩) (q'.length-i) cap') w'):=λ hn w' hb=>InR.skip hsea hx hque hdn hjj hs hn hb
     obtain ⟨lq,hlq⟩:∃lq,q'.length-i=lq:=⟨_,rfl⟩;rw [hlq] at HSK;have HLQ:=kd hlq;have HSEA:=kd hsea;have HREST:Hid (q'[i]? =some x/\Que wr w.heap.size gq' o' cap' (q'.drop i)/\Dn g inn q' i/\(∀s∈(g x).take j,inn s=true->tt s∈q')/\(g x)[j]? =some (y0,y1,y2)/\(y0,y1,y2)∈D/\y1=x/\i<q'.length):=⟨hx,hque,hdn,hjj,hs,hsD,hsx,(List.getElem?_eq_some_iff.1 hx).1⟩;rw [hlq];have HBX:Hid (∀t:Stp,((wr.alloc (.cells #[.int .i64 y0,.int .i64 y1,.int .i64 y2] 346)).alloc (.cells #[.int .i64 t.1,.int .i64 t.2.1,.int .i64 t.2.2] 346)).heap[wr.heap.size]? =some (.cells #[.int .i64 y0,.int .i64 y1,.int .i64 y2] 346)):=λ t=>heap_alloc2_old wr _ _
     have HBB:Hid (∀t:Stp,Below wr.heap.size wr ((wr.alloc (.cells #[.int .i64 y0,.int .i64 y1,.int .i64 y2] 346)).alloc (.cells #[.int .i64 t.1,.int .i64 t.2.1,.int .i64 t.2.2] 346))):=λ t=>hbW.alloc (by simp) _
     clear hx hque hdn hjj hs hsg hsD hsx hA hbW hsea hlq HIN;cases hc:c' y2 with
     | some t=>
       as_aux_lemma=>
       obtain ⟨t0,t1,t2⟩:=t;have HE:Hid _:=HSK.out (λ _=>(HSEA.out.has y2).1 (by rw [hc];rfl)) _ (HBB.out (t0,t1,t2));rw [hc] at lk;unfold vS at lk;simp only [Option.getD,Option.isSome] at lk HE;clear hc HSK HREST HSEA HBX HBB HLQ;go_wp2_with fail;go_roundg (gk-1);case measure=>omega
       case rel=>exact ⟨j+1,by go_num,by omega,HE.out⟩
     | none=>
       obtain ⟨W2,hW2⟩:∃W2,W2=(wr.alloc (.cells #[.int .i64 y0,.int .i64 y1,.int .i64 y2] 346)).alloc (.cells #[.int .i64 0,.int .i64 0,.int .i64 0] 346):=⟨_,rfl⟩;have hbW2:Below wr.heap.size wr W2:=by rw [hW2];exact HBB.out (0,0,0)
       have hbx:W2.heap[wr.heap.size]? =some (.cells #[.int .i64 y0,.int .i64 y1,.int .i64 y2] 346):=by rw [hW2];exact HBX.out (0,0,0)
       have p0:W2.cell? ⟨wr.heap.size,0,none⟩=some (.int .i64 y0):=by simp [World.cell?,hbx]
       have p1:W2.cell? ⟨wr.heap.size,1,none⟩=some (.int .i64 y1):=by simp [World.cell?,hbx]
       have p2:W2.cell? ⟨wr.heap.size,2,none⟩=some (.int .i64 y2):=by simp [World.cell?,hbx]
       have HW2:=kd hW2.symm;have hbel:Below w.heap.size w W2:=HSEA.out.bel.trans (hbW2.mono HSEA.out.bel.size);have HC:Hid _:=HF.out W2 (y0,y1,y2) HREST.out.2.2.2.2.2.1 hbel;have HB2:=kd hbW2;rw [hc] at lk;unfold vS at lk HC;simp only [Option.getD,Option.isSome] at lk;have HCN:=kd hc;clear hc HBX HBB hW2 hbW2 hbx hbel;go_wp2_with fail;rw [HW2.out];refine Calls.mono HC.out ?_;rintro e w3 ⟨rfl,hb3⟩;have HB3:Hid (Below wr.heap.size wr w3):=HB2.out.trans (hb3.mono HB2.out.size);have q0:=cell_below p0 hb3;have q1:=cell_below p1 hb3;have q2:=cell_below p2 hb3;clear p0 p1 p2 lk hb3 HC r0 r1 r2;cases hin:inn (y0,y1,y2) with
       | false=>
         as_aux_lemma=>
         have HE:Hid _:=HSK.out (λ h=>by rw [hin] at h;cases h) w3 HB3.out;clear hin HSK HREST HSEA HLQ q0 q1 q2;go_wp2_with fail;go_roundg (gk-1);case measure=>omega
         case rel=>exact ⟨j+1,by go_num,by omega,HE.out⟩
       | true=>
         as_aux_lemma=>
         obtain ⟨h1,h2,h3,h4,h5,h6,h7,h8⟩:=HREST.out;obtain ⟨w4,u4,g4,w6,v6,g6,o6,cap6,a6,e6,s6,q6⟩:=z1s (i:=i) (s:=(y0,y1,y2)) (HSEA.out.below HB3.out) (h2.kept (zai HB3.out) (by simp)) (by rw [h1];exact congrArg some h7.symm) (by rw [show fr (y0,y1,y2)=x from h7];exact List.mem_of_getElem? h5) hin HCN.out htt.1 htt.2;have hbc:wr.heap.size≠cb:=by
          obtain ⟨N,C,hcm,_⟩:=(HSEA.out.below HB3.out).cm;exact hcm.zqc q0
         have p2:=zcw g4 hbc q2;have HE:Hid (InR w cb g inn a i x (j+1) (.slice (some ⟨g6,o6,none⟩) (lq+1) cap6) w6):=by
          have:=InR.more (s:=(y0,y1,y2)) h1 h3 h4 h5 s6 q6;rw [show q'.length+1-i=lq+1 by have:=HLQ.out;omega] at this;exact this
         rw [show q'.length+1-i=lq+1 by have:=HLQ.out;omega] at e6;rw [HLQ.out] at a6;subst e6;have HR:=kd a6;unfold vS tt at u4;unfold tt at HR;simp only at u4 HR;clear h1 h2 h3 h4 h5 h6 h7 h8 hin g4 s6 q6 a6 HSK HREST HSEA HLQ HCN;go_wp2_with (at_builtin;refine Lib.wpList_append_run _ rfl _ _ _ _ rfl _ _ rfl rfl _ _ HR.out ?_);go_roundg (gk-1);case measure=>omega
         case rel=>exact ⟨j+1,by go_num,by omega,HE.out⟩
    ·have hje:m=j:=by omega
     subst hje;obtain ⟨gq',o',len,cap',hu,hlc,hout,hout0⟩:=HIN.out.done (by rw [HM.out];exact Nat.le_refl _);subst hu;by_cases hcz:cap'=0
     ·as_aux_lemma=>
      have hlz:len=0:=by omega
      subst hcz;subst hlz;have HO:Hid (zro w cb g inn a (i+1) (.slice (some ⟨gq',o',none⟩) 0 0) wr):=hout0 rfl _ _;clear HIN hout hout0;go_wp2_with fail;go_roundg (gk1-1);case measure=>omega
      case rel=>exact ⟨i+1,by omega,HO.out⟩
     ·as_aux_lemma=>
      have HO:=kd hout;clear HIN hout hout0;go_wp2_with fail;go_roundg (gk1-1);case measure=>omega
      case rel=>exact ⟨i+1,by omega,HO.out⟩
  ·have hln0:ln=0:=by omega
   subst hln0;have hiq2:i=q.length:=by have:=HLN.out;simp at this;omega
   subst hiq2;have lk:=(HSEA.out.look hb0 hb1).1;cases hcb2:c b with
   | none=>
     as_aux_lemma=>
     have HCL:Hid _:=zu5 HSEA.out HDN.out (D:=D) (λ s hs=>(HG.out.1 _ _).2 ⟨hs,rfl⟩) hcb2;rw [hcb2] at lk;unfold vS at lk;simp only [Option.getD,Option.isSome] at lk;clear hcb2;go_wp2_with fail;go_ret;refine ⟨_,[],rfl,HSEA.out.bel.trans ((Below.refl _ _).alloc HSEA.out.bel.size _),World.ownsRow_nil _ _ _ _,.inr ⟨rfl,HCL.out⟩⟩
   | some t=>
     as_aux_lemma=>
     obtain ⟨t0,t1,t2⟩:=t;rw [hcb2] at lk;unfold vS at lk;simp only [Option.getD,Option.isSome] at lk;obtain ⟨k0,hk0,hk0e⟩:=List.mem_iff_getElem.1 ((HSEA.out.has b).1 (by rw [hcb2];rfl));have HK0:Hid (zgi g inn q b b k0 []):=zgi.start (by rw [List.getElem?_eq_getElem hk0,hk0e]);have HS5:Hid (Sea w (wy.alloc (.cells #[.int .i64 t0,.int .i64 t1,.int .i64 t2] 346)) cb g inn a q c):=HSEA.out.below ((Below.refl _ _).alloc (Nat.le_refl _) _);clear hcb2 hk0 hk0e HSEA;go_wp2_with fail;go_loopg [17,18] k0 (λ rr s17 s18 wq=>∃at_ P,s18= .int .i64 at_/\zgi g inn q at_ b rr P/\Sea w wq cb g inn a q c/\G.zad wq (cb+1) 346 s17 P)
     case atStart=>exact ⟨b,[],rfl,HK0.out,HS5.out,World.ownsRow_nil _ _ _ _⟩
     case round=>
      clear HK0 HS5 lk;obtain ⟨at_,P,rfl,hback,hsea,hown⟩:=hrel;have HB:Hid (zgi g inn q at_ b gk P/\Sea w wr cb g inn a q c/\G.zad wr (cb+1) 346 u17 P):=⟨hback,hsea,hown⟩;have hat:=hsea.rng at_ (List.mem_of_getElem? hback.here);have hPl:P.length<=1000:=Nat.le_trans (zgp P D hback.nd (λ s hs=>((HG.out.1 _ _).1 (hback.good s hs).2).1)) hDl;clear hback hown;by_cases hae:at_=a
      ·as_aux_lemma=>
       subst hae;have HRV:Hid _:=z7m wr (cb+1) u17 P HB.out.2.2 (by omega);go_wp2_with fail;refine Calls.mono HRV.out ?_;rintro e w5 ⟨rfl,ho5,hg5⟩;have HP:Hid (Below w.heap.size w w5/\G.zad w5 w.heap.size 346 u17 P.reverse):=by
        have h1:=(HB.out.2.1.row HB.out.2.2 hg5).bel;exact ⟨h1,ho5.mono (by rw [<-HCB.out];omega)⟩
       clear ho5 hg5 HRV;go_wp2_with fail;go_ret;refine ⟨_,P.reverse,rfl,HP.out.1,HP.out.2,.inl ⟨HB.out.1.walk,(List.pairwise_reverse.2 (HB.out.1.nd.imp (λ h=>h.symm))),λ s hs=>?_⟩⟩;have:=HB.out.1.good s (List.mem_reverse.1 hs);exact ⟨((HG.out.1 _ _).1 this.2).1,this.1⟩
      ·as_aux_lemma=>
       obtain ⟨k',hk',hback'⟩:=zgi.step HB.out.2.1.bfs HB.out.1 hae;have lk:=(hsea.look hat.1 hat.2).2;obtain ⟨t,ht⟩:∃t,(c at_).getD (0,0,0)=t:=⟨_,rfl⟩;rw [ht] at lk;simp only [ht] at hback';obtain ⟨v6,w6,a6,o6,g6⟩:=yaa0 347 wr (cb+1) u17 P t HB.out.2.2 (by
        obtain ⟨N,C,hcm,_⟩:=hsea.cm;obtain ⟨es,clock,hb,_⟩:=hcm.mp;exact lt_of_some hb) (by omega)
       have hsea6:=hsea.row HB.out.2.2 g6;have lk6:=(hsea6.look hat.1 hat.2).2;rw [ht] at lk6;have HE:Hid (zgi g inn q (fr t) b k' (P++[t])/\Sea w w6 cb g inn a q c/\G.zad w6 (cb+1) 346 v6 (P++[t])):=⟨hback',hsea6,o6⟩;have HR:=kd a6;obtain ⟨t0,t1,t2⟩:=t;unfold vS at lk lk6;unfold fr at HE;simp only at lk lk6 HR HE;have hb1:(at_ != a)=true:=by simp [hae]
       have hfd:=z4j;clear ht a6 o6 g6 hsea6 hback' hsea HB;go_wp2_with (at_builtin;refine Lib.wpList_append_run _ rfl _ _ _ _ rfl _ _ rfl rfl _ _ HR.out ?_);go_roundg k';case measure=>exact hk'
       case rel=>exact ⟨t1,_,rfl,HE.out.1,HE.out.2.1,HE.out.2.2⟩
theorem yaad {s t:Stp} (h:bk s=bk t):s=t:=by rw [<-zly s,h,zly]
theorem z9p (r:Stp->Int) {s:Stp} (hs:fr s≠tt s) (x:Stp):tk r s x+tk r s (bk x)=r x+r (bk x):=by
 have hb:=zjt hs;rw [zjh r hs,zjh r hs];by_cases h1:x=s
 ·subst h1
  rw [if_pos rfl,if_neg hb,if_pos rfl];omega
 ·by_cases h2:x=bk s
  ·subst h2
   rw [if_neg hb,if_pos rfl,zly,if_pos rfl];omega
  ·have h3:bk x≠s:=λ e=>h2 (by rw [<-e,zly])
   have h4:bk x≠bk s:=λ e=>h1 (yaad e)
   rw [if_neg h1,if_neg h2,if_neg h3,if_neg h4]
theorem zmy:∀(p:List Stp) (r:Stp->Int),(∀s∈p,fr s≠tt s)->∀x,tks r p x+tks r p (bk x)=r x+r (bk x)
 | [],_,_,_=>rfl
 | s::p,r,h,x=>by
   show tks (tk r s) p x+tks (tk r s) p (bk x)=_;rw [zmy p (tk r s) (λ t ht=>h t (by simp [ht])) x,z9p r (h s (by simp)) x]
theorem zon:∀(p:List Stp) (r:Stp->Int) (s:Stp),(∀t∈p,fr t≠tt t)->s∉p->r s<=tks r p s
 | [],_,_,_,_=>Int.le_refl _
 | t::p,r,s,h,hn=>by
   have h1:=zon p (tk r t) s (λ x hx=>h x (by simp [hx])) (λ k=>hn (by simp [k]));have h2:s≠t:=λ e=>hn (by simp [e])
   have h3:=zjh r (h t (by simp)) (x:=s);rw [if_neg h2] at h3;have h4:r s<=tk r t s:=by rw [h3];split <;> omega
   exact Int.le_trans h4 h1
theorem z1r {p:List Stp} {j:Nat} {s:Stp} (h:p[j]? =some s) (r:Stp->Int):tks r (p.take (j+1))=tk (tks r (p.take j)) s:=by
 rw [List.take_add_one,h];exact z0x r _ s
theorem zrk {p:List Stp} {j:Nat} {s:Stp} (hn:p.Nodup) (h:p[j]? =some s):s∉p.take j:=by
 intro k;obtain ⟨i,hi,he⟩:=List.mem_iff_getElem.1 k;have hij:i<j/\i<p.length:=by rw [List.length_take] at hi;omega
 rw [List.getElem_take] at he;have:=(List.getElem?_inj hij.2 hn).1 ((List.getElem?_eq_getElem hij.2).trans ((congrArg some he).trans h.symm));omega
section
variable {w w':World} {p lm rm N N' B:Nat} {M M':DataW Unit} {L:DataW Value} {D:List Stp} {r r':Stp->Int} {f:Int->Value} {g:Int->List Stp}
theorem But.grown {b:Nat} (h:But b w w'):w.grownBy w' (some b):=⟨h.os,h.tape,h.output,h.size,λ k hk hn=>h.block k hk (λ e=>hn (by rw [e]))⟩
theorem zda.taken (h:zda w p lm rm N B M L D r f g) (hb:But rm w w') (hn:zci w' p lm rm N' M' D r') (hN:N<=N'):zda w' p lm rm N' B M' L D r' f g:=
 {net:=hn,lv:={h.lv.grown hb.grown h.ne.symm h.rb with mp:=(h.lv.grown hb.grown h.ne.symm h.rb).mp.mono hN},pb:=h.pb,rb:=h.rb,ne:=h.ne}
theorem zda.more (h:zda w p lm rm N B M L D r f g) (hN:N<=N'):zda w p lm rm N' B M L D r f g:=
 {h with net:=⟨h.net.hp,h.net.mp.mono hN,h.net.rom⟩,lv:={h.lv with mp:=h.lv.mp.mono hN}}
end
def Fl (w0 wq:World) (p lm rm N B:Nat) (D:List Stp) (r0:Stp->Int) (f:Int->Value) (g:Int->List Stp) (a b:Int) (k:Int) (r:Stp->Int):Prop:=
 ∃M L,zda wq p lm rm N B M L D r f g/\Fill D (cap D r0) a b r k/\(∀x,r x+r (bk x)=r0 x+r0 (bk x))/\But rm w0 wq
def zh4 (w:World) (p lm rm N B:Nat) (D:List Stp) (r0:Stp->Int) (f:Int->Value) (g:Int->List Stp) (a b:Int) (most:Nat) (e:Ending) (w':World):Prop:=
 ∃(k:Nat) (r:Stp->Int),e= .returned (.int .i64 (k:Int))/\Val (cap D r0) a b most k/\Fl w w' p lm rm (N+2000*most) B D r0 f g a b k r
theorem But.refl' (b:Nat) (w:World):But b w w:=⟨rfl,rfl,rfl,Nat.le_refl _,λ _ _ _=>rfl⟩
theorem z4e (p lm rm N B most:Nat) (M:DataW Unit) (L:DataW Value) (D:List Stp) (r0:Stp->Int) (f:Int->Value) (g:Int->List Stp) (a b:Int) (w:World) (h:zda w p lm rm N B M L D r0 f g) (hD:Net D)
 (hg:∀x s,s∈g x↔s∈D/\fr s=x) (hgl:∀x,(g x).length<=1000) (hr:∀s∈D,0<=tt s/\tt s<1000) (hDl:D.length<=1000) (hsum:∀x,r0 x+r0 (bk x)<=2) (hN:N<=5000) (hm:most<=120) (ha0:0<=a) (ha1:a<1000) (hb0:0<=b) (hb1:b<1000) (hab:a≠b):
 Calls prog 236 #[.pointer (some ⟨p,0,none⟩),.int .i64 a,.int .i64 b,.int .i64 (most:Int)] w (zh4 w p lm rm N B D r0 f g a b most):=by
 have HX:Hid (Net D/\(∀x s,s∈g x↔s∈D/\fr s=x)/\(∀x,(g x).length<=1000)/\(∀s∈D,0<=tt s/\tt s<1000)/\D.length<=1000/\(∀x,r0 x+r0 (bk x)<=2)/\rm<B/\B<=w.heap.size):=⟨hD,hg,hgl,hr,hDl,hsum,h.rb,h.lv.le⟩;have HS:Hid (Fl w w p lm rm (N+2000*0) B D r0 f g a b 0 r0):=⟨M,L,h,⟨h.net.rom.pos,λ S _ _=>by omega⟩,λ _=>rfl,But.refl' _ _⟩;have HAB:=kd hab;have hmf':=hmf;clear h hD hg hgl hr hDl hsum hab;go_enter func236,ntmps236;go_wp2_with fail;go_loopw [14] (λ s14 wq=>∃(k:Nat) (r:Stp->Int),k<=most/\s14= .int .i64 k/\Fl w wq p lm rm (N+2000*k) B D r0 f g a b k r) (λ s14 _=>most-(intOf s14).toNat)
 case atStart=>exact ⟨0,r0,Nat.zero_le _,rfl,HS.out⟩
 case round=>
  clear HS;obtain ⟨k,r,hk,rfl,hfl⟩:=hrel;have HR:=kd hfl;clear hfl;obtain ⟨wy,hwy⟩:∃wy,wy=wr:=⟨_,rfl⟩;subst hwy;by_cases hlt:k<most
  ·have HC:Hid (Calls prog 315 #[.pointer (some ⟨p,0,none⟩),.int .i64 a,.int .i64 b,.func (.func 316) #[.pointer (some ⟨p,0,none⟩)] #[]] wy (zpl wy D (λ s=>decide (0<r s)) a b)):=by
    obtain ⟨M,L,hA,_,_,_⟩:=HR.out;refine zwc p lm rm _ B M L D r f g _ a b wy hA HX.out.2.1 HX.out.2.2.1 HX.out.2.2.2.1 HX.out.2.2.2.2.1 ha0 ha1 hb0 hb1 (λ W s hs hW=>z3m p lm rm _ M D r s W (hA.net.below hW) hs)
   go_wp2_with fail;refine Calls.mono HC.out ?_;rintro e w2 ⟨v,P,rfl,hb2,ho,hP⟩;clear HC;obtain ⟨m,hpm⟩:∃m,m=P.length:=⟨_,rfl⟩;obtain ⟨va,vc,hv⟩:=ho.zal;rw [<-hpm] at hv;subst hv;have HO:=kd ho;have HP:=kd hP;have HM:=kd hpm;have HR2:Hid (Fl w w2 p lm rm (N+2000*k) B D r0 f g a b k r):=by
    obtain ⟨M,L,hA,h2,h3,h4⟩:=HR.out;exact ⟨M,L,hA.below hb2,h2,h3,h4.trans (But.of_below hb2)⟩
   have HBW:=kd hb2;clear ho hP hpm hb2;by_cases hm0:m=0
   ·have HV:Hid (Val (cap D r0) a b most k):=by
     have hPn:P=[]:=List.eq_nil_of_length_eq_zero (by rw [<-HM.out];exact hm0);obtain ⟨M,L,hA,h2,_,_⟩:=HR2.out;rcases HP.out with ⟨hw,_,_⟩ | ⟨_,S,h3,h4,h5⟩
     ·rw [hPn] at hw
      exact absurd hw HAB.out
     ·refine h2.done (by omega) (by omega) S h3 h4 (λ s hs ho=>?_)
      have:=of_decide_eq_false (h5 s hs ho);have:=hA.net.rom.pos s;omega
    subst hm0;go_wp2_with fail;go_ret;refine ⟨k,r,rfl,HV.out,?_⟩;obtain ⟨M,L,hA,h2,h3,h4⟩:=HR2.out;exact ⟨M,L,hA.more (by omega),h2,h3,h4⟩
   ·have HW:Hid (Walk a P b/\P.Nodup/\∀s∈P,s∈D/\1<=r s):=by
     rcases HP.out with ⟨h1,h2,h3⟩ | ⟨h1,_⟩
     ·refine ⟨h1,h2,λ s hs=>⟨(h3 s hs).1,?_⟩⟩
      have:=of_decide_eq_true (h3 s hs).2;omega
     ·exact absurd (by rw [HM.out,h1];rfl) hm0
    have hmD:m<=1000:=by
     have h1:=zgp P D HW.out.2.1 (λ x hx=>(HW.out.2.2 x hx).1);rw [HM.out];exact Nat.le_trans h1 HX.out.2.2.2.2.1
    clear HP;have hmb:((m:Int)==0)=false:=beq_eq_false_iff_ne.2 (by omega);go_wp2_with fail;go_loopw [29] (λ s29 wq=>∃(j:Nat) (M':DataW Unit) (L':DataW Value),j<=m/\s29= .int .i64 j/\zda wq p lm rm (N+2000*k+2*j) B M' L' D (tks r (P.take j)) f g/\But rm w2 wq) (λ s29 _=>m-(intOf s29).toNat)
    case atStart=>
     obtain ⟨M,L,hA,h2,h3,h4⟩:=HR2.out;exact ⟨0,M,L,Nat.zero_le _,rfl,by simpa [tks] using hA,But.refl' _ _⟩
    case round=>
     obtain ⟨j,M',L',hj,rfl,hA,hbt⟩:=hrel;have HA:=kd (And.intro hA hbt);clear hA hbt;by_cases hjm:j<m
     ·obtain ⟨s,hs⟩:∃s,P[j]? =some s:=⟨_,List.getElem?_eq_getElem (by rw [<-HM.out];exact hjm)⟩
      have hsP:=List.mem_of_getElem? hs;obtain ⟨gw,hva⟩:∃gw,va=some ⟨gw,0,none⟩:=by
       rcases HO.out.shape with ⟨_,e⟩ | ⟨gw,cap,e,_⟩
       ·rw [e] at hs;simp at hs
       ·injection e with e1 _ _
        exact ⟨gw,e1⟩
      subst hva;obtain ⟨c0,c1,c2⟩:=HO.out.at (g:=gw) rfl hs;have hgw:gw≠rm:=by
       have h1:=(World.ownsRow.lt HO.out gw rfl).1;have h2:=HX.out.2.2.2.2.2.2;obtain ⟨_,_,_,_,_,h3⟩:=HR.out;have:=h3.size;omega
      have q0:=zcw HA.out.2.grown hgw c0;have q1:=zcw HA.out.2.grown hgw c1;have q2:=zcw HA.out.2.grown hgw c2;obtain ⟨W1,hW1⟩:∃W1,W1=wr.alloc (.cells #[.int .i64 s.1,.int .i64 s.2.1,.int .i64 s.2.2] 346):=⟨_,rfl⟩;have hbW:Below wr.heap.size wr W1:=by rw [hW1];exact (Below.refl _ _).alloc (Nat.le_refl _) _
      have hne:∀t∈P,fr t≠tt t:=λ t ht=>HX.out.1.ne t (HW.out.2.2 t ht).1
      have hT:Calls prog 317 #[.pointer (some ⟨p,0,none⟩),vS s] W1 (zka W1 p lm rm (N+2000*k+2*j) D (tk (tks r (P.take j)) s)):=by
       obtain ⟨_,_,_,hF,hsm,_⟩:=HR2.out;refine z16 p lm rm _ M' D _ s W1 (HA.out.1.net.below hbW) (HW.out.2.2 s hsP).1 HX.out.1 ?_ (by omega) (λ x=>?_)
       ·exact Int.le_trans (HW.out.2.2 s hsP).2 (zon _ r s (λ t ht=>hne t (List.mem_of_mem_take ht)) (zrk HW.out.2.1 hs))
       ·have h1:=zmy (P.take j) r (λ t ht=>hne t (List.mem_of_mem_take ht)) x
        have h2:=HA.out.1.net.rom.pos (bk x);have h3:=hsm x;have h4:=HX.out.2.2.2.2.2.1 x;omega
      have HT:Hid _:=hT;unfold vS at HT;have HW1:=kd hW1.symm;have HTS:Hid (tks r (P.take (j+1))=tk (tks r (P.take j)) s):=z1r hs r;have HBW1:=kd hbW;clear c0 c1 c2 hT hW1 hbW hne hsP hs hgw;obtain ⟨x,y,z⟩:=s;simp only at q0 q1 q2 HT HW1;go_wp2_with fail;rw [HW1.out];refine Calls.mono HT.out ?_;rintro e w4 ⟨rfl,M4,N4,hn4,hN4,hb4⟩;have HA4:Hid (zda w4 p lm rm (N+2000*k+2*(j+1)) B M4 L' D (tks r (P.take (j+1))) f g/\But rm w2 w4):=by
       rw [HTS.out];refine ⟨((HA.out.1.below HBW1.out).more (N':=N+2000*k+2*(j+1)) (by omega)).taken hb4 ⟨hn4.hp,hn4.mp.mono (by omega),hn4.rom⟩ (Nat.le_refl _),?_⟩;exact (HA.out.2.trans (But.of_below HBW1.out)).trans hb4
      clear hn4 hN4 hb4 HA HT q0 q1 q2;go_wp2_with fail;go_roundw;case rel=>exact ⟨j+1,M4,L',by omega,by go_num,HA4.out.1,HA4.out.2⟩
      case measure=>simp [intOf];omega
     ·have hje:m=j:=by omega
      subst hje;have HF:Hid (Fl w wr p lm rm (N+2000*(k+1)) B D r0 f g a b ((k+1:Nat):Int) (tks r P)):=by
       have h1:=HA.out.1;rw [List.take_of_length_le (by rw [<-HM.out];omega)] at h1;obtain ⟨_,_,_,hF,hsm,hbt⟩:=HR2.out;refine ⟨M',L',h1.more (by omega),?_,λ x=>?_,hbt.trans HA.out.2⟩
       ·have:=hF.way HX.out.1 (λ s hs=>(HW.out.2.2 s hs).1) HW.out.1 HW.out.2.1 (λ s hs=>(HW.out.2.2 s hs).2)
        rw [show ((k+1:Nat):Int)=(k:Int)+1 by omega];exact this
       ·rw [zmy P r (λ s hs=>HX.out.1.ne s (HW.out.2.2 s hs).1) x]
        exact hsm x
      clear HA;go_wp2_with fail;go_roundw;case rel=>exact ⟨k+1,_,by omega,by go_num,HF.out⟩
      case measure=>simp [intOf];omega
  ·have hke:most=k:=by omega
   subst hke;go_wp2_with fail;go_ret;refine ⟨most,r,rfl,?_,HR.out⟩;obtain ⟨_,_,_,hF,_,_⟩:=HR.out;exact hF.most (by omega)
end Go.Proofs.YtebcjaenhiiflaaGreatDoor.S
namespace Go.Proofs.YtebcjaenhiiflaaGreatDoor.S
open Go Go.ChangeMaps Go.MapKept Go.WideShapes Go.Proofs.Tryz
open Go.RowKit Go.WideMaps Go.Maps F
theorem zhj {ss:List (Stp × Int)} {s:Stp} (c:Int) (h:Net (lD ss)) (h1:s∉lD ss) (h2:bk s∉lD ss) (hne:fr s≠tt s):Net (lD (ss++[(s,c)])):=by
 rw [zee];refine ⟨?_,λ t ht=>?_,λ t ht=>?_⟩
 ·rw [List.nodup_append]
  refine ⟨h.nd,by simp;exact λ e=>zjt hne e.symm,λ x hx y hy e=>?_⟩;subst e;simp at hy;rcases hy with rfl | rfl
  ·exact h1 hx
  ·exact h2 hx
 ·rcases List.mem_append.1 ht with ht | ht
  ·exact List.mem_append_left _ (h.back t ht)
  ·simp at ht
   rcases ht with rfl | rfl <;> simp [zly]
 ·rcases List.mem_append.1 ht with ht | ht
  ·exact h.ne t ht
  ·simp at ht
   rcases ht with rfl | rfl
   ·exact hne
   ·rw [zww,zwx];exact λ e=>hne e.symm
theorem zup:Net (lD []):=⟨by simp [lD],by simp [lD],by simp [lD]⟩
theorem zk0 {n:Nat} {L:List Stp} (h:Ed n 120 L) {j:Nat} {e:Stp} (hx:L[j]? =some e):∀d∈L.take j,d.1≠e.1:=by
 intro d hd k;obtain ⟨i,hi,hie⟩:=List.mem_iff_getElem.1 hd;obtain ⟨hjl,hje⟩:=List.getElem?_eq_some_iff.1 hx;have hij:i<j:=by simp at hi;omega
 rw [List.getElem_take] at hie;have:=List.pairwise_iff_getElem.1 h.up i j (by omega) hjl hij;rw [hie,hje] at this;omega
theorem zch {α:Type} {L:List α} {j:Nat} {e:α} (hx:L[j]? =some e):L.take (j+1)=L.take j++[e]:=by rw [List.take_add_one,hx];rfl
theorem z5k {n:Nat} {L:List Stp} (h:Ed n 120 L):Net (lD (edS L)):=by
 have:∀j,j<=L.length->Net (lD (edS (L.take j))):=by
  intro j;induction j with
  | zero=>intro _;simpa [edS] using zup
  | succ j ih=>
    intro hj;have hx:L[j]? =some L[j]:=List.getElem?_eq_getElem (by omega);obtain ⟨x,y,hxy,_,he⟩:=h.ends L[j] (List.getElem_mem _);rw [zch hx];have e:edS (L.take j++[L[j]])=edS (L.take j)++[(L[j],1)]:=by rw [edS,List.map_append];rfl
    rw [e];have hoff:=zl6 (zk0 h hx);refine zhj 1 (ih (by omega)) hoff.1 hoff.2 ?_;rw [he];show (x:Int)≠(y:Int);omega
 have h1:=this L.length (Nat.le_refl _)
 rwa [List.take_length] at h1
theorem zth:∀j,Net (lD (ndS j))
 | 0=>by simpa [ndS] using zup
 | j+1=>by
   rw [zkg];have:=zqs j;exact zhj 0 (zth j) this.1 this.2 (by show 2*(j:Int)≠2*(j:Int)+1;omega)
theorem z6l {n:Nat} {L:List Stp} (h:Ed n 120 L):Net (lD (noS n L)):=by
 have:∀j,j<=L.length->Net (lD (noS n (L.take j))):=by
  intro j;induction j with
  | zero=>intro _;simpa [noS] using zth n
  | succ j ih=>
    intro hj;have hx:L[j]? =some L[j]:=List.getElem?_eq_getElem (by omega);obtain ⟨x,y,hxy,_,he⟩:=h.ends L[j] (List.getElem_mem _);have hone:=zk0 h hx;rw [zch hx,zkf];have e1:(L[j]).2.1=(x:Int):=by rw [he]
    have e2:(L[j]).2.2=(y:Int):=by rw [he]
    rw [e1,e2];have hxy':(x:Int)≠(y:Int):=by omega
    refine zhj 0 (zhj 0 (ih (by omega)) (ze9 hone hxy' _ (.inl rfl)) (ze9 hone hxy' _ (.inr rfl)) ?_) (ze4 hone hxy' _ (.inl rfl)) (ze4 hone hxy' _ (.inr rfl)) ?_
    ·show 2*(x:Int)+1≠2*(y:Int);omega
    ·show 2*(y:Int)+1≠2*(x:Int);omega
 have h1:=this L.length (Nat.le_refl _)
 rwa [List.take_length] at h1
theorem z4u (ss:List (Stp × Int)) (h:∀t∈ss,t.2<=1) (q:Stp):lr ss q<=1:=by
 induction ss using zex with
 | h0=>simp [lr]
 | h1 l a ih=>
   rw [zju];have h1:=ih (λ t ht=>h t (by simp [ht]));have h2:=h a (by simp);show (if q=bk a.1 then a.2 else if q=a.1 then 1 else lr l q)<=1;split
   ·exact h2
   ·split
    ·omega
    ·exact h1
theorem z9u (ss:List (Stp × Int)):(lD ss).length=2*ss.length:=by
 induction ss using zex with
 | h0=>simp [lD]
 | h1 l a ih=>rw [zee,List.length_append,ih];simp;omega
theorem znf {w:World} {p lm rm N B:Nat} {ss:List (Stp × Int)} {f:Int->Value} (h:Laid w p lm rm N B ss f) (hD:Net (lD ss)) (hl:ss.length<=300) (h1:∀t∈ss,t.2<=1) (hr:∀s∈lD ss,0<=tt s/\tt s<1000) (hN:N<=5000) {a b:Int} {most:Nat} (hm:most<=120) (ha0:0<=a) (ha1:a<1000) (hb0:0<=b) (hb1:b<1000) (hab:a≠b):
 Calls prog 236 #[.pointer (some ⟨p,0,none⟩),.int .i64 a,.int .i64 b,.int .i64 (most:Int)] w (zh4 w p lm rm N B (lD ss) (lr ss) f (lg ss) a b most):=by
 obtain ⟨M,L,hA⟩:=h;refine z4e p lm rm N B most M L _ _ f _ a b w hA hD (λ x s=>yaap ss s x) (λ x=>?_) hr ?_ (λ x=>?_) hN hm ha0 ha1 hb0 hb1 hab
 ·have:=z0j ss x;omega
 ·rw [z9u];omega
 ·have:=z4u ss h1 x
  have:=z4u ss h1 (bk x);omega
theorem yaa6 {n:Nat} {L:List Stp} (h:Ed n 120 L) (hn:n<=40):∀s∈lD (edS L),0<=tt s/\tt s<1000:=by
 intro s hs;obtain ⟨t,h1,h2⟩:=(zi4 _ _).1 hs;obtain ⟨d,hd,rfl⟩:=List.mem_map.1 h1;obtain ⟨x,y,hxy,hyn,he⟩:=h.ends d hd;rw [he] at h2;rcases h2 with rfl | rfl <;> (unfold tt;try unfold bk) <;> simp only <;> omega
theorem yaab {n:Nat} {L:List Stp} (h:Ed n 120 L) (hn:n<=40):∀s∈lD (noS n L),0<=tt s/\tt s<1000:=by
 intro s hs;obtain ⟨t,h1,h2⟩:=(zi4 _ _).1 hs;rcases List.mem_append.1 h1 with h1 | h1
 ·obtain ⟨x,hx,rfl⟩:=List.mem_map.1 h1
  have:=List.mem_range.1 hx;rcases h2 with rfl | rfl <;> (unfold tt;try unfold bk) <;> simp only <;> omega
 ·obtain ⟨d,hd,h1⟩:=List.mem_flatMap.1 h1
  obtain ⟨x,y,hxy,hyn,he⟩:=h.ends d hd;rw [he] at h1;simp [edN] at h1;rcases h1 with rfl | rfl <;> rcases h2 with rfl | rfl <;> (unfold tt;try unfold bk) <;> simp only <;> omega
theorem z6e (L:List Stp):∀t∈edS L,t.2<=1:=λ t ht=>by
 obtain ⟨d,hd,rfl⟩:=List.mem_map.1 ht;simp
theorem z5v (n:Nat) (L:List Stp):∀t∈noS n L,t.2<=1:=λ t ht=>by
 rcases List.mem_append.1 ht with h1 | h1
 ·obtain ⟨x,hx,rfl⟩:=List.mem_map.1 h1
  simp
 ·obtain ⟨d,hd,h1⟩:=List.mem_flatMap.1 h1
  simp [edN] at h1;rcases h1 with rfl | rfl <;> simp
theorem zh4.below {w0 w w':World} {p lm rm N B:Nat} {D:List Stp} {r0:Stp->Int} {f:Int->Value} {g:Int->List Stp} {a b:Int} {most:Nat} {e:Ending} (h:zh4 w p lm rm N B D r0 f g a b most e w') (hb:Below w0.heap.size w0 w) (hr:w0.heap.size<=rm):∃k:Nat,e= .returned (.int .i64 (k:Int))/\Val (cap D r0) a b most k/\Below w0.heap.size w0 w':=by
 obtain ⟨k,r,h1,h2,_,_,_,_,_,h3⟩:=h;exact ⟨k,h1,h2,hb.trans ⟨h3.os,h3.tape,h3.output,h3.size,λ i hi=>h3.block i (Nat.lt_of_lt_of_le hi hb.size) (by omega)⟩⟩
theorem zov (n B0 q a b m:Nat) (u:Value) (L:List (Int × Int × Int)) (w:World) (h:G.GAt w B0 168 61 q (n:Int) u L) (hn:n<=40) (hed:Ed n 120 L) (ha:a<n) (hb:b<n) (hab:a≠b) (hm:m<=120):
 Calls prog 128 #[.pointer (some ⟨q,0,none⟩),.int .i64 (a:Int),.int .i64 (b:Int),.int .i64 (m:Int)] w λ e w'=>∃k:Nat,e= .returned (.tuple #[.int .i64 (k:Int),.nilIface])/\Val (cap (lD (edS L)) (lr (edS L))) a b m k/\Below w.heap.size w w':=by
 have HG:=kd h;have HE:=kd hed;have hlen:=hed.len;clear h hed;go_enter func128,ntmps128;go_wp2_with fail;refine (znw n B0 q a b m u L w HG.out ha hb hab hm).mono ?_;rintro e w1 ⟨rfl,hb1⟩;have HB1:=kd hb1;clear hb1;go_wp2_with fail;refine (zs5 n B0 q u L w1 (HG.out.below HB1.out) hn HE.out).mono ?_;rintro e w2 ⟨p,lm,rm,N,B,f,rfl,hL,hN,hb2,_,_,hrm,_⟩;have HB2:Hid (Below w.heap.size w w2/\w.heap.size<=rm):=⟨HB1.out.trans (hb2.mono HB1.out.size),Nat.le_trans HB1.out.size hrm⟩;have HC:Hid _:=znf hL (z5k HE.out) (by simp [edS];omega) (z6e L) (yaa6 HE.out hn) (by omega) (a:=(a:Int)) (b:=(b:Int)) (most:=m) hm (by omega) (by omega) (by omega) (by omega) (by omega);clear hL hN hb2 hrm;go_wp2_with fail;refine Calls.mono HC.out ?_;intro e w3 hp;obtain ⟨k,rfl,hv,hb3⟩:=hp.below HB2.out.1 HB2.out.2;have HV:=kd (And.intro hv hb3);clear hv hb3 hp HC;go_wp2_with fail;go_ret2;exact ⟨k,rfl,HV.out.1,HV.out.2⟩
theorem zoq (n B0 q a b m:Nat) (u:Value) (L:List (Int × Int × Int)) (w:World) (h:G.GAt w B0 168 61 q (n:Int) u L) (hn:n<=40) (hed:Ed n 120 L) (ha:a<n) (hb:b<n) (hab:a≠b) (hm:m<=120):
 Calls prog 129 #[.pointer (some ⟨q,0,none⟩),.int .i64 (a:Int),.int .i64 (b:Int),.int .i64 (m:Int)] w λ e w'=>∃k:Nat,e= .returned (.tuple #[.int .i64 (k:Int),.nilIface])/\Val (cap (lD (noS n L)) (lr (noS n L))) (2*a+1) (2*b) m k/\Below w.heap.size w w':=by
 have HG:=kd h;have HE:=kd hed;have hlen:=hed.len;clear h hed;go_enter func129,ntmps129;go_wp2_with fail;refine (znw n B0 q a b m u L w HG.out ha hb hab hm).mono ?_;rintro e w1 ⟨rfl,hb1⟩;have HB1:=kd hb1;clear hb1;go_wp2_with fail;refine (zr4 n B0 q u L w1 (HG.out.below HB1.out) hn HE.out).mono ?_;rintro e w2 ⟨p,lm,rm,N,B,f,rfl,hL,hN,hb2,_,_,hrm,_⟩;have HB2:Hid (Below w.heap.size w w2/\w.heap.size<=rm):=⟨HB1.out.trans (hb2.mono HB1.out.size),Nat.le_trans HB1.out.size hrm⟩;have HC:Hid _:=znf hL (z6l HE.out) (by rw [zt1];omega) (z5v n L) (yaab HE.out hn) (by omega) (a:=2*(a:Int)+1) (b:=2*(b:Int)) (most:=m) hm (by omega) (by omega) (by omega) (by omega) (by omega);clear hL hN hb2 hrm;go_wp2_with fail;refine (zf0 (a:Int) (by omega) (by omega) w2).mono ?_;rintro e w4 ⟨rfl,hw4⟩;subst hw4;go_wp2_with fail;refine (zgm (b:Int) (by omega) (by omega) w4).mono ?_;rintro e w5 ⟨rfl,hw5⟩;subst hw5;go_wp2_with fail;refine Calls.mono HC.out ?_;intro e w3 hp;obtain ⟨k,rfl,hv,hb3⟩:=hp.below HB2.out.1 HB2.out.2;have HV:=kd (And.intro hv hb3);clear hv hb3 hp HC;go_wp2_with fail;go_ret2;exact ⟨k,rfl,HV.out.1,HV.out.2⟩
open Go Go.ChangeMaps Go.MapKept Go.WideShapes
theorem zwq (D D':List Stp) (r:Stp->Int) (S:Int->Bool):cap (D++D') r S=cap D r S+cap D' r S:=by
 induction D with
 | nil=>simp [cap]
 | cons s D ih=>simp only [List.cons_append,cap,ih];omega
theorem zys {D:List Stp} {r r':Stp->Int} {S:Int->Bool} (h:∀s∈D,r s=r' s):cap D r S=cap D r' S:=by
 induction D with
 | nil=>rfl
 | cons s D ih=>simp only [cap];rw [ih (λ t ht=>h t (by simp [ht])),h s (by simp)]
theorem zho {ss:List (Stp × Int)} {s:Stp} (c:Int) (h1:s∉lD ss) (h2:bk s∉lD ss) (hne:fr s≠tt s) (S:Int->Bool):cap (lD (ss++[(s,c)])) (lr (ss++[(s,c)])) S=cap (lD ss) (lr ss) S+((if out S s then 1 else 0)+(if out S (bk s) then c else 0)):=by
 have hb:=zjt hne;rw [zee,zju,zwq]
 congr 1
 ·refine zys (λ t ht=>?_)
  have e1:t≠s:=λ e=>h1 (e▸ht)
  have e2:t≠bk s:=λ e=>h2 (e▸ht)
  show (if t=bk s then c else if t=s then 1 else lr ss t)=lr ss t;rw [if_neg e2,if_neg e1]
 ·have q1:(if s=bk s then c else if s=s then 1 else lr ss s)=1:=by rw [if_neg (λ e=>hb e.symm),if_pos rfl]
  have q2:(if bk s=bk s then c else if bk s=s then 1 else lr ss (bk s))=c:=if_pos rfl;show (if out S s then (if s=bk s then c else if s=s then 1 else lr ss s) else 0)+((if out S (bk s) then (if bk s=bk s then c else if bk s=s then 1 else lr ss (bk s)) else 0)+0)=_;rw [q1,q2];omega
def crs (S:Int->Bool) (e:Stp):Bool:=S e.2.1 != S e.2.2
theorem z88 {n:Nat} {L:List Stp} (h:Ed n 120 L) (S:Int->Bool):cap (lD (edS L)) (lr (edS L)) S=((L.filter (crs S)).length:Int):=by
 have:∀j,j<=L.length->cap (lD (edS (L.take j))) (lr (edS (L.take j))) S=(((L.take j).filter (crs S)).length:Int):=by
  intro j;induction j with
  | zero=>intro _;rfl
  | succ j ih=>
    intro hj;have hx:L[j]? =some L[j]:=List.getElem?_eq_getElem (by omega);obtain ⟨x,y,hxy,_,he⟩:=h.ends L[j] (List.getElem_mem _);rw [zch hx];have e:edS (L.take j++[L[j]])=edS (L.take j)++[(L[j],1)]:=by rw [edS,List.map_append];rfl
    have hoff:=zl6 (zk0 h hx);have hne:fr L[j]≠tt L[j]:=by
     rw [he];show (x:Int)≠(y:Int);omega
    rw [e,zho 1 hoff.1 hoff.2 hne,ih (by omega),List.filter_append,List.length_append];unfold out;rw [zww,zwx];have hc:crs S L[j]=(S (fr L[j]) != S (tt L[j])):=rfl;rw [List.filter_cons,hc];cases S (fr L[j]) <;> cases S (tt L[j]) <;> simp
 have h1:=this L.length (Nat.le_refl _)
 rwa [List.take_length] at h1
def nin (S:Int->Bool) (x:Nat):Bool:=S (2*(x:Int))&&!S (2*(x:Int)+1)
def two (e:Stp):List (Int × Int):=[(e.2.1,e.2.2),(e.2.2,e.2.1)]
def ein (S:Int->Bool) (d:Int × Int):Bool:=S (2*d.1+1)&&!S (2*d.2)
theorem ztv (S:Int->Bool):∀j,cap (lD (ndS j)) (lr (ndS j)) S=(((List.range j).filter (nin S)).length:Int)
 | 0=>rfl
 | j+1=>by
   have:=zqs j;have hne:fr ((0,2*(j:Int),2*(j:Int)+1):Stp)≠tt ((0,2*(j:Int),2*(j:Int)+1):Stp):=by show 2*(j:Int)≠2*(j:Int)+1;omega
   rw [zkg,zho 0 this.1 this.2 hne,ztv S j,List.range_succ,List.filter_append,List.length_append];have hc:out S ((0,2*(j:Int),2*(j:Int)+1):Stp)=nin S j:=rfl;rw [hc,List.filter_cons];cases nin S j <;> simp
theorem zto {n:Nat} {L:List Stp} (h:Ed n 120 L) (S:Int->Bool):cap (lD (noS n L)) (lr (noS n L)) S=(((List.range n).filter (nin S)).length:Int)+(((L.flatMap two).filter (ein S)).length:Int):=by
 have:∀j,j<=L.length->cap (lD (noS n (L.take j))) (lr (noS n (L.take j))) S=(((List.range n).filter (nin S)).length:Int)+((((L.take j).flatMap two).filter (ein S)).length:Int):=by
  intro j;induction j with
  | zero=>
    intro _;have:=ztv S n
    simpa [noS] using this
  | succ j ih=>
    intro hj;have hx:L[j]? =some L[j]:=List.getElem?_eq_getElem (by omega);obtain ⟨x,y,hxy,_,he⟩:=h.ends L[j] (List.getElem_mem _);have hone:=zk0 h hx;have e1:(L[j]).2.1=(x:Int):=by rw [he]
    have e2:(L[j]).2.2=(y:Int):=by rw [he]
    have hxy':(x:Int)≠(y:Int):=by omega
    have ht:two L[j]=[((x:Int),(y:Int)),((y:Int),(x:Int))]:=by unfold two;rw [e1,e2]
    rw [zch hx,zkf,e1,e2,zho 0 (ze4 hone hxy' _ (.inl rfl)) (ze4 hone hxy' _ (.inr rfl)) (by show 2*(y:Int)+1≠2*(x:Int);omega),zho 0 (ze9 hone hxy' _ (.inl rfl)) (ze9 hone hxy' _ (.inr rfl)) (by show 2*(x:Int)+1≠2*(y:Int);omega),ih (by omega),List.flatMap_append,List.filter_append,List.length_append];have hs:[L[j]].flatMap two=[((x:Int),(y:Int)),((y:Int),(x:Int))]:=by rw [List.flatMap_cons,List.flatMap_nil,List.append_nil,ht]
    rw [hs];have c1:out S ((L[j]).1,2*(x:Int)+1,2*(y:Int))=ein S ((x:Int),(y:Int)):=rfl;have c2:out S ((L[j]).1,2*(y:Int)+1,2*(x:Int))=ein S ((y:Int),(x:Int)):=rfl;rw [c1,c2,List.filter_cons,List.filter_cons];cases ein S ((x:Int),(y:Int)) <;> cases ein S ((y:Int),(x:Int)) <;> simp <;> omega
 have h1:=this L.length (Nat.le_refl _)
 rwa [List.take_length] at h1
def cnv (L:List Stp) (T:List Nat):Nat->Nat->Prop:=cn ea eb (λ e=>e∈L/\ea e∉T/\eb e∉T)
theorem zxv {L:List Stp} {T:List Nat} {x y:Nat} (h:cnv L T x y) (hx:x∈T):x=y:=by
 have:=zae.least (P:=λ (u v:Nat)=>u=v\/(u∉T/\v∉T)) h (λ x=>.inl rfl) ?_ ?_ ?_
 ·rcases this with h | ⟨h,_⟩
  ·exact h
  ·exact absurd hx h
 ·rintro x y (h | ⟨h,k⟩)
  ·exact .inl h.symm
  ·exact .inr ⟨k,h⟩
 ·rintro x y z (rfl | ⟨h,k⟩) h2
  ·exact h2
  ·rcases h2 with rfl | ⟨h3,h4⟩
   ·exact .inr ⟨h,k⟩
   ·exact .inr ⟨h,h4⟩
 ·rintro x y ⟨e,⟨_,h1,h2⟩,rfl,rfl⟩
  exact .inr ⟨h1,h2⟩
theorem ze1 {n i:Nat} {L:List Stp} (h:Ed n i L) {e:Stp} (he:e∈L):e.2.1=(ea e:Int)/\e.2.2=(eb e:Int)/\ea e<n/\eb e<n/\ea e<eb e:=by
 obtain ⟨x,y,hxy,hy,hq⟩:=h.ends e he;have h1:e.2.1=(x:Int):=by rw [hq]
 have h2:e.2.2=(y:Int):=by rw [hq]
 have h3:ea e=x:=by unfold ea;rw [h1];simp
 have h4:eb e=y:=by unfold eb;rw [h2];simp
 rw [h3,h4];exact ⟨h1,h2,by omega,by omega,hxy⟩
theorem setOf (p:Nat->Prop):∃S:Int->Bool,∀z:Nat,S (z:Int)=true↔p z:=by
 refine ⟨λ x=>@decide (∃z:Nat,x=(z:Int)/\p z) (Classical.propDecidable _),λ z=>?_⟩;have:=@decide_eq_true_iff (∃y:Nat,(z:Int)=(y:Int)/\p y) (Classical.propDecidable _);refine this.trans ⟨λ ⟨y,h1,h2⟩=>by rw [show z=y by omega];exact h2,λ h=>⟨z,rfl,h⟩⟩
structure Joins (L:List Stp) (Q:List (Int × Int)):Prop where
 out:∀d∈Q,∃e∈L,d=((ea e:Int),(eb e:Int))\/d=((eb e:Int),(ea e:Int))
 inn:∀e∈L,((ea e:Int),(eb e:Int))∈Q/\((eb e:Int),(ea e:Int))∈Q
theorem zog {n i:Nat} {L:List Stp} (hed:Ed n i L):Joins L (L.flatMap two):=by
 refine ⟨λ d hd=>?_,λ e he=>?_⟩
 ·obtain ⟨e,he,hd⟩:=List.mem_flatMap.1 hd
  obtain ⟨e1,e2,_⟩:=ze1 hed he;unfold two at hd;rw [e1,e2] at hd;simp only [List.mem_cons,List.not_mem_nil,or_false] at hd;exact ⟨e,he,hd⟩
 ·obtain ⟨e1,e2,_⟩:=ze1 hed he
  constructor <;> exact List.mem_flatMap.2 ⟨e,he,by unfold two;rw [e1,e2];simp⟩
section
variable {n i:Nat} {L:List Stp} {a b:Nat} {Q:List (Int × Int)}
theorem znz (hQ:Joins L Q) (T:List Nat) (ha:a∉T) (hb:b∉T) (h:¬cnv L T a b):
 ∃S:Int->Bool,S (2*(a:Int)+1)=true/\S (2*(a:Int))=true/\S (2*(b:Int))=false/\S (2*(b:Int)+1)=false/\(∀z:Nat,nin S z=true->z∈T)/\∀d∈Q,ein S d=false:=by
 obtain ⟨S,hS0,hS1⟩:∃S:Int->Bool,(∀z:Nat,S (2*(z:Int))=true↔(cnv L T a z\/z∈T))/\∀z:Nat,S (2*(z:Int)+1)=true↔cnv L T a z:=by
  obtain ⟨S1,h1⟩:=setOf (λ z=>cnv L T a z\/z∈T);obtain ⟨S2,h2⟩:=setOf (λ z=>cnv L T a z);refine ⟨λ x=>if x%2=0 then S1 (x/2) else S2 (x/2),λ z=>?_,λ z=>?_⟩
  ·show (if (2*(z:Int))%2=0 then _ else _)=true↔_
   rw [if_pos (by omega),show 2*(z:Int)/2=(z:Int) by omega,h1]
  ·show (if (2*(z:Int)+1)%2=0 then _ else _)=true↔_
   rw [if_neg (by omega),show (2*(z:Int)+1)/2=(z:Int) by omega,h2]
 refine ⟨S,(hS1 a).2 (zaw a),(hS0 a).2 (.inl (zaw a)),?_,?_,λ z hz=>?_,λ d hd=>?_⟩
 ·cases hq:S (2*(b:Int)) with
  | false=>rfl
  | true=>
    rcases (hS0 b).1 hq with k | k
    ·exact absurd k h
    ·exact absurd k hb
 ·cases hq:S (2*(b:Int)+1) with
  | false=>rfl
  | true=>exact absurd ((hS1 b).1 hq) h
 ·unfold nin at hz
  simp only [Bool.and_eq_true,Bool.not_eq_true'] at hz;rcases (hS0 z).1 hz.1 with k | k
  ·have:=(hS1 z).2 k
   rw [hz.2] at this;cases this
  ·exact k
 ·cases hc:ein S d with
  | false=>rfl
  | true=>
    exfalso;have key:∀u v:Nat,(u∉T->v∉T->cnv L T u v)->ein S ((u:Int),(v:Int))=true->False:=λ u v huv hc=>by
     unfold ein at hc;simp only [Bool.and_eq_true,Bool.not_eq_true'] at hc;have hu:=(hS1 u).1 hc.1;have hnu:u∉T:=λ k=>by
      have:=zxv (zac hu) k;exact ha (this▸k)
     have hv:¬(cnv L T a v\/v∈T):=λ k=>by
      have:=(hS0 v).2 k;rw [hc.2] at this;cases this
     exact hv (.inl (zaa hu (huv hnu (λ k=>hv (.inr k)))))
    obtain ⟨e,he,rfl | rfl⟩:=hQ.out d hd
    ·exact key (ea e) (eb e) (λ h1 h2=>zaj ⟨he,h1,h2⟩) hc
    ·exact key (eb e) (ea e) (λ h1 h2=>zac (zaj ⟨he,h2,h1⟩)) hc
def zh1 (a b:Nat) (d:Int × Int):List Nat:=if d.1=(b:Int) then [] else if d.1=(a:Int) then [d.2.toNat] else [d.1.toNat]
theorem zzd (a b:Nat) (l:List (Int × Int)):(l.flatMap (zh1 a b)).length<=l.length:=by
 induction l with
 | nil=>simp
 | cons d l ih=>
   rw [List.flatMap_cons,List.length_append];have:(zh1 a b d).length<=1:=by
    unfold zh1;split
    ·simp
    ·split <;> simp
   rw [List.length_cons];omega
theorem znl (hed:Ed n i L) (hQ:Joins L Q) (hab:a≠b) (hna:∀e∈L,¬(ea e=a/\eb e=b)/\¬(ea e=b/\eb e=a)) (S:Int->Bool) (h1:S (2*(a:Int)+1)=true) (h2:S (2*(b:Int))=false):
 ∃T:List Nat,a∉T/\b∉T/\¬cnv L T a b/\T.length<=((List.range n).filter (nin S)).length+(Q.filter (ein S)).length/\∀z∈T,z<n:=by
 obtain ⟨T,hT⟩:∃T,(List.range n).filter (nin S)++(Q.filter (ein S)).flatMap (zh1 a b)=T:=⟨_,rfl⟩;have ends:∀d∈Q,∃u v:Nat,d=((u:Int),(v:Int))/\u<n/\v<n/\u≠v/\¬(u=a/\v=b):=λ d hd=>by
  obtain ⟨e,he,hd⟩:=hQ.out d hd;obtain ⟨e1,e2,e3,e4,e5⟩:=ze1 hed he;have:=hna e he;rcases hd with rfl | rfl
  ·exact ⟨ea e,eb e,rfl,e3,e4,by omega,by omega⟩
  ·exact ⟨eb e,ea e,rfl,e4,e3,by omega,by omega⟩
 have memT:∀z,z∈T->z<n/\z≠a/\z≠b:=λ z hz=>by
  rw [<-hT] at hz;rcases List.mem_append.1 hz with hz | hz
  ·obtain ⟨q1,q2⟩:=List.mem_filter.1 hz
   unfold nin at q2;simp only [Bool.and_eq_true,Bool.not_eq_true'] at q2;refine ⟨List.mem_range.1 q1,λ e=>?_,λ e=>?_⟩
   ·subst e;rw [h1] at q2;cases q2.2
   ·subst e;rw [h2] at q2;cases q2.1
  ·obtain ⟨d,hd,hz⟩:=List.mem_flatMap.1 hz
   obtain ⟨u,v,rfl,hu,hv',huv,hno⟩:=ends d (List.mem_filter.1 hd).1;unfold zh1 at hz;simp only at hz;by_cases c1:u=b
   ·rw [if_pos (by omega)] at hz;simp at hz
   ·rw [if_neg (by omega)] at hz
    by_cases c2:u=a
    ·rw [if_pos (by omega)] at hz
     simp at hz;omega
    ·rw [if_neg (by omega)] at hz
     simp at hz;omega
 have inT:∀u v:Nat,((u:Int),(v:Int))∈Q->ein S ((u:Int),(v:Int))=true->u≠b->u∈T\/(u=a/\v∈T):=λ u v hd hc hub=>by
  by_cases c2:u=a
  ·right
   refine ⟨c2,?_⟩;rw [<-hT];refine List.mem_append_right _ (List.mem_flatMap.2 ⟨_,List.mem_filter.2 ⟨hd,hc⟩,?_⟩);unfold zh1;simp only;rw [if_neg (by omega),if_pos (by omega)];simp
  ·left
   rw [<-hT];refine List.mem_append_right _ (List.mem_flatMap.2 ⟨_,List.mem_filter.2 ⟨hd,hc⟩,?_⟩);unfold zh1;simp only;rw [if_neg (by omega),if_neg (by omega)];simp
 have step:∀u v:Nat,((u:Int),(v:Int))∈Q->v<n->u∉T->v∉T->(S (2*(u:Int)+1)=true/\u≠b)->(S (2*(v:Int)+1)=true/\v≠b):=λ u v hd hvn huT hvT ⟨hu,hub⟩=>by
  have hS2:S (2*(v:Int))=true:=by
   cases hq:S (2*(v:Int)) with
   | true=>rfl
   | false=>
     exfalso;have hc:ein S ((u:Int),(v:Int))=true:=by
      unfold ein;simp only [Bool.and_eq_true,Bool.not_eq_true'];exact ⟨hu,hq⟩
     rcases inT u v hd hc hub with k | ⟨_,k⟩
     ·exact huT k
     ·exact hvT k
  refine ⟨?_,λ e=>by subst e;rw [h2] at hS2;cases hS2⟩;cases hq:S (2*(v:Int)+1) with
  | true=>rfl
  | false=>
    exfalso;apply hvT;rw [<-hT];refine List.mem_append_left _ (List.mem_filter.2 ⟨List.mem_range.2 hvn,?_⟩);unfold nin;simp only [Bool.and_eq_true,Bool.not_eq_true'];exact ⟨hS2,hq⟩
 refine ⟨T,λ k=>(memT a k).2.1 rfl,λ k=>(memT b k).2.2 rfl,λ hc=>?_,?_,λ z hz=>(memT z hz).1⟩
 ·have:=zae.least (P:=λ (u v:Nat)=>(S (2*(u:Int)+1)=true/\u≠b)↔(S (2*(v:Int)+1)=true/\v≠b)) hc (λ _=>Iff.rfl) (λ _ _ k=>k.symm) (λ _ _ _ k1 k2=>k1.trans k2) (by
   rintro u v ⟨e,⟨he,hu,hv'⟩,rfl,rfl⟩;obtain ⟨e1,e2,e3,e4,e5⟩:=ze1 hed he;exact ⟨step _ _ (hQ.inn e he).1 e4 hu hv',step _ _ (hQ.inn e he).2 e3 hv' hu⟩)
  exact (this.1 ⟨h1,hab⟩).2 rfl
 ·have q1:=zzd a b (Q.filter (ein S))
  rw [<-hT,List.length_append];omega
end
def zba (a b:Nat) (e:Stp):Bool:=decide ((ea e=a/\eb e=b)\/(ea e=b/\eb e=a))
theorem zim (p:Stp->Bool) (f:Stp->List (Int × Int)) (q:Int × Int->Bool):∀L:List Stp,((L.flatMap f).filter q).length=(((L.filter p).flatMap f).filter q).length+(((L.filter λ e=>!p e).flatMap f).filter q).length
 | []=>rfl
 | e::L=>by
   have ih:=zim p f q L;rw [List.flatMap_cons,List.filter_append,List.length_append,ih,List.filter_cons,List.filter_cons];cases p e <;> simp [List.flatMap_cons,List.filter_append] <;> omega
section
variable {n:Nat} {L:List Stp} {a b:Nat}
theorem Ed.zqi {n i:Nat} {L:List Stp} (h:Ed n i L) (f:Stp->Bool):Ed n i (L.filter f):=
 ⟨List.Pairwise.filter _ h.up,λ e he=>h.ids e (List.mem_filter.1 he).1,λ e he=>h.ends e (List.mem_filter.1 he).1,Nat.le_trans (List.length_filter_le _ _) h.len⟩
theorem zx0 {S:Int->Bool} {T:List Nat} (h:∀z:Nat,nin S z=true->z∈T) (n:Nat):((List.range n).filter (nin S)).length<=T.length:=
 zgp _ _ (List.nodup_range.filter _) (λ z hz=>h z (List.mem_filter.1 hz).2)
theorem zn2 (hed:Ed n 120 L) {S:Int->Bool} (h1:S (2*(a:Int)+1)=true) (h2:S (2*(b:Int))=false):(L.filter (zba a b)).length<=(((L.filter (zba a b)).flatMap two).filter (ein S)).length/\(S (2*(b:Int)+1)=false->(((L.filter (zba a b)).flatMap two).filter (ein S)).length=(L.filter (zba a b)).length):=by
 have key:∀M:List Stp,(∀e∈M,e∈L/\zba a b e=true)->M.length<=((M.flatMap two).filter (ein S)).length/\(S (2*(b:Int)+1)=false->((M.flatMap two).filter (ein S)).length=M.length):=by
  intro M;induction M with
  | nil=>intro _;exact ⟨Nat.le_refl _,λ _=>rfl⟩
  | cons e M ih=>
    intro h;obtain ⟨i1,i2⟩:=ih (λ d hd=>h d (by simp [hd]));obtain ⟨heL,hd⟩:=h e (by simp);obtain ⟨e1,e2,_⟩:=ze1 hed heL;have hd:=of_decide_eq_true hd;have hab:ein S ((a:Int),(b:Int))=true:=by
     unfold ein;simp only [Bool.and_eq_true,Bool.not_eq_true'];exact ⟨h1,h2⟩
    have hba:S (2*(b:Int)+1)=false->ein S ((b:Int),(a:Int))=false:=λ k=>by
     unfold ein;simp only [k,Bool.false_and]
    rw [List.flatMap_cons,List.filter_append,List.length_append,List.length_cons];have ht:two e=[((ea e:Int),(eb e:Int)),((eb e:Int),(ea e:Int))]:=by unfold two;rw [e1,e2]
    rw [ht];rcases hd with ⟨k1,k2⟩ | ⟨k1,k2⟩
    ·rw [k1,k2,List.filter_cons,hab,List.filter_cons]
     cases hq:ein S ((b:Int),(a:Int)) with
     | true=>exact ⟨by simp;omega,λ k=>by rw [hba k] at hq;cases hq⟩
     | false=>exact ⟨by simp;omega,λ k=>by have:=i2 k;simp;omega⟩
    ·rw [k1,k2,List.filter_cons,List.filter_cons,hab]
     cases hq:ein S ((b:Int),(a:Int)) with
     | true=>exact ⟨by simp;omega,λ k=>by rw [hba k] at hq;cases hq⟩
     | false=>exact ⟨by simp;omega,λ k=>by have:=i2 k;simp;omega⟩
 exact key _ (λ e he=>⟨(List.mem_filter.1 he).1,(List.mem_filter.1 he).2⟩)
theorem ztg (L:List Stp) (a b:Nat):∀e∈L.filter (λ e=>!zba a b e),¬(ea e=a/\eb e=b)/\¬(ea e=b/\eb e=a):=λ e he=>by
 have:=(List.mem_filter.1 he).2;simp only [Bool.not_eq_true'] at this;have:=of_decide_eq_false this;exact ⟨λ k=>this (.inl k),λ k=>this (.inr k)⟩
theorem z9h {most k:Int} (hed:Ed n 120 L) (hv:Val (cap (lD (noS n L)) (lr (noS n L))) (2*(a:Int)+1) (2*(b:Int)) most k) (T:List Nat) (ha:a∉T) (hb:b∉T) (h:¬cnv (L.filter λ e=>!zba a b e) T a b):k<=((L.filter (zba a b)).length:Int)+(T.length:Int):=by
 obtain ⟨S,h1,_,h2,h3,h4,h5⟩:=znz (zog (hed.zqi _)) T ha hb h;have hle:=hv.all S h1 h2;rw [zto hed,zim (zba a b)] at hle;have q1:=zx0 h4 n;have q2:=(zn2 hed h1 h2).2 h3;have q3:(((L.filter λ e=>!zba a b e).flatMap two).filter (ein S)).length=0:=by
  rw [List.length_eq_zero_iff,List.filter_eq_nil_iff];intro d hd;rw [h5 d hd];simp
 omega
theorem z5e {most k:Int} (hed:Ed n 120 L) (hab:a≠b) (hv:Val (cap (lD (noS n L)) (lr (noS n L))) (2*(a:Int)+1) (2*(b:Int)) most k) (hk:k≠most):∃T:List Nat,a∉T/\b∉T/\¬cnv (L.filter λ e=>!zba a b e) T a b/\((L.filter (zba a b)).length:Int)+(T.length:Int)<=k:=by
 rcases hv.one with h | ⟨S,h1,h2,h3⟩
 ·exact absurd h hk
 ·rw [zto hed,zim (zba a b)] at h3
  obtain ⟨T,t1,t2,t3,t4,_⟩:=znl (hed.zqi _) (zog (hed.zqi _)) hab (ztg L a b) S h1 h2;have q2:=(zn2 hed h1 h2).1;exact ⟨T,t1,t2,t3,by omega⟩
end
end Go.Proofs.YtebcjaenhiiflaaGreatDoor.S
namespace Go.Proofs.YtebcjaenhiiflaaGreatDoor.S
open Go Go.ChangeMaps Go.MapKept Go.WideShapes Go.Proofs.Tryz
open Go.RowKit Go.WideMaps Go.Maps F
def zlm (n:Nat) (a b most:Int):Prop:=(0<=a/\a<=(n:Int)-1)/\(0<=b/\b<=(n:Int)-1)/\0<=most/\most<=120
theorem zpa (n B q:Nat) (u:Value) (R:List Stp) (a b most:Int) (w:World) (h:G.GAt w B 40 61 q (n:Int) u R) (hn:n<=100) (hok:zlm n a b most) (s:Int) (hs:(a=b/\s=1)\/(a≠b/\s=0)):
 Calls prog 125 #[.pointer (some ⟨q,0,none⟩),.int .i64 a,.int .i64 b,.int .i64 most] w λ e w'=>e= .returned (.int .i64 s)/\w'=w:=by
 have c0:=h.c0;have hw:IntKind.i64.wrap ((n:Int)-1)=(n:Int)-1:=by rw [IntKind.wrap_i64];omega
 obtain ⟨h1,h2,h3⟩:=hok;clear h;go_enter func125,ntmps125;go_wp2_with fail;refine (G.zen a 0 ((n:Int)-1) w h1).mono ?_;rintro e w1 ⟨rfl,hw1⟩;subst hw1;go_wp2_with fail;refine (G.zen b 0 ((n:Int)-1) w1 h2).mono ?_;rintro e w2 ⟨rfl,hw2⟩;subst hw2;go_wp2_with fail;refine (G.zen most 0 120 w2 h3).mono ?_;rintro e w3 ⟨rfl,hw3⟩;subst hw3;rcases hs with ⟨rfl,rfl⟩ | ⟨hne,rfl⟩
 ·go_wp2_with fail
  go_ret;exact ⟨rfl,rfl⟩
 ·have hne':(a==b)=false:=beq_eq_false_iff_ne.2 hne
  go_wp2_with fail;go_ret;exact ⟨rfl,rfl⟩
theorem yaah (n B q:Nat) (u:Value) (R:List Stp) (a b most:Int) (w:World) (h:G.GAt w B 40 61 q (n:Int) u R) (hn:n<=100) (hno:¬zlm n a b most):
 Calls prog 125 #[.pointer (some ⟨q,0,none⟩),.int .i64 a,.int .i64 b,.int .i64 most] w λ e w'=>e= .returned (.int .i64 2)/\w'=w:=by
 have c0:=h.c0;have hw:IntKind.i64.wrap ((n:Int)-1)=(n:Int)-1:=by rw [IntKind.wrap_i64];omega
 clear h;go_enter func125,ntmps125;go_wp2_with fail;by_cases h1:0<=a/\a<=(n:Int)-1
 ·refine (G.zen a 0 ((n:Int)-1) w h1).mono ?_
  rintro e w1 ⟨rfl,hw1⟩;subst hw1;go_wp2_with fail;by_cases h2:0<=b/\b<=(n:Int)-1
  ·refine (G.zen b 0 ((n:Int)-1) w1 h2).mono ?_
   rintro e w2 ⟨rfl,hw2⟩;subst hw2;go_wp2_with fail;refine (G.zm6 most 0 120 w2 (λ h3=>hno ⟨h1,h2,h3⟩)).mono ?_;rintro e w3 ⟨rfl,hw3⟩;subst hw3;go_wp2_with fail;go_ret;exact ⟨rfl,rfl⟩
  ·refine (G.zm6 b 0 ((n:Int)-1) w1 h2).mono ?_
   rintro e w2 ⟨rfl,hw2⟩;subst hw2;go_wp2_with fail;go_ret;exact ⟨rfl,rfl⟩
 ·refine (G.zm6 a 0 ((n:Int)-1) w h1).mono ?_
  rintro e w1 ⟨rfl,hw1⟩;subst hw1;go_wp2_with fail;go_ret;exact ⟨rfl,rfl⟩
structure RmF (M:Nat->Nat->Int) (n j:Nat) (R:List Stp):Prop where
 cap:∀S:Int->Bool,zb0 M n S=(((R.take j).filter (crs S)).length:Int)
 bd:∀i k,0<=M i k/\M i k<=2*(j:Int)
theorem zq6 (S:Int->Bool) (i:Nat):∀n,zd3 (λ _ _=>0) S i n=0
 | 0=>rfl
 | n+1=>by simp [zd3,zq6 S i n]
theorem zj9 (N:Nat) (S:Int->Bool):∀n,zfo (λ _ _=>0) N S n=0
 | 0=>rfl
 | n+1=>by simp [zfo,zj9 N S n,zq6]
theorem RmF.start (n:Nat) (R:List Stp):RmF (λ _ _=>0) n 0 R:=⟨λ S=>by simp [zb0,zj9],λ _ _=>⟨by omega,by omega⟩⟩
theorem RmF.next {M:Nat->Nat->Int} {n j:Nat} {R:List Stp} (h:RmF M n j R) {y0:Int} {x y:Nat} (he:R[j]? =some (y0,(x:Int),(y:Int))) (hx:x<n) (hy:y<n):RmF (zb2 (zb2 M x y 1) y x 1) n (j+1) R:=by
 refine ⟨λ S=>?_,λ i k=>?_⟩
 ·rw [zef hy hx,zef hx hy,h.cap S,zch he,List.filter_append,List.length_append,List.filter_cons]
  have hc:crs S (y0,(x:Int),(y:Int))=(S (x:Int) != S (y:Int)):=rfl;rw [hc];cases S (x:Int) <;> cases S (y:Int) <;> simp
 ·have h1:=h.bd i k
  unfold zb2;split
  ·split <;> omega
  ·split <;> omega
def z02 (n:Nat) (R:List Stp):Prop:=∀e∈R,∃x y:Nat,x<n/\y<n/\x<y/\e.2.1=(x:Int)/\e.2.2=(y:Int)
theorem z8z (n B q a b most:Nat) (u:Value) (R:List Stp) (w:World) (h:G.GAt w B 40 61 q (n:Int) u R) (hn:n<=40) (hin:z02 n R) (hl:R.length<=120) (ha:a<n) (hb:b<n) (hab:a≠b) (hm:most<=120):
 Calls prog 68 #[.pointer (some ⟨q,0,none⟩),.int .i64 (a:Int),.int .i64 (b:Int),.int .i64 (most:Int)] w λ e w'=>∃k:Nat,e= .returned (.tuple #[.int .i64 (k:Int),.int .i64 0])/\Val (λ S=>((R.filter (crs S)).length:Int)) a b most k/\Below w.heap.size w w':=by
 have HG:=kd (And.intro h hin);have c0:=h.c0;have c1:=h.c1;have HA:Hid _:=zpa n B q u R (a:Int) (b:Int) (most:Int) w h (by omega) ⟨⟨by omega,by omega⟩,⟨by omega,by omega⟩,by omega,by omega⟩ 0 (.inr ⟨by omega,rfl⟩);obtain ⟨m,hmm⟩:∃m,R.length=m:=⟨_,rfl⟩;have HMM:=kd hmm;obtain ⟨va,vc,hv⟩:=h.row.zal;rw [hmm] at hv hl;have HV:=kd hv;rw [hv] at c1;clear h hin hmm hv;go_enter func68,ntmps68;go_wp2_with fail;refine Calls.mono HA.out ?_;rintro e w1 ⟨rfl,hw1⟩;subst hw1;clear HA;go_wp2_with fail;refine (znu n w1 (by omega)).mono ?_;rintro e w2 ⟨rfl,hmat,hb2⟩;have HM2:=kd (And.intro hmat hb2);have d1:=cell_below c1 hb2;clear hmat hb2 c0;go_wp2_with fail;go_loopw [32] (λ s32 wq=>∃(j:Nat) (M:Nat->Nat->Int),j<=m/\s32= .int .i64 j/\Mat wq w1.heap.size (λ i=>w1.heap.size+1+i) n M/\RmF M n j R/\Below w1.heap.size w1 wq) (λ s32 _=>m-(intOf s32).toNat)
 case atStart=>exact ⟨0,_,Nat.zero_le _,rfl,HM2.out.1,RmF.start n R,HM2.out.2⟩
 case round=>
  clear HM2;obtain ⟨j,M,hj,rfl,hmat,hrm,hbl⟩:=hrel;have HR:Hid (Mat wr w1.heap.size (λ i=>w1.heap.size+1+i) n M/\RmF M n j R/\Below w1.heap.size w1 wr):=⟨hmat,hrm,hbl⟩;clear hmat hrm hbl;by_cases hjm:j<m
  ·obtain ⟨⟨y0,y1,y2⟩,hx⟩:∃e:Stp,R[j]? =some e:=⟨_,List.getElem?_eq_getElem (by rw [HMM.out];exact hjm)⟩
   obtain ⟨x,y,hxn,hyn,hxy,he1,he2⟩:=HG.out.2 _ (List.mem_of_getElem? hx);have he1:y1=(x:Int):=he1;have he2:y2=(y:Int):=he2;subst he1;subst he2;obtain ⟨g2,hva⟩:∃g2,va=some ⟨g2,0,none⟩:=by
    rcases HG.out.1.row.shape with ⟨_,k⟩ | ⟨g2,cap2,k,_⟩
    ·rw [k] at hx;simp at hx
    ·rw [HV.out] at k
     injection k with e1 _ _
     exact ⟨g2,e1⟩
   subst hva;obtain ⟨r0,r1,r2⟩:=HG.out.1.row.at (g:=g2) (by rw [HV.out];rfl) hx;simp only at r0 r1 r2;have r0:=cell_below r0 HR.out.2.2;have r1:=cell_below r1 HR.out.2.2;have r2:=cell_below r2 HR.out.2.2;obtain ⟨W1,hW1⟩:∃W1,W1=wr.alloc (.cells #[.int .i64 y0,.int .i64 (x:Int),.int .i64 (y:Int)] 61):=⟨_,rfl⟩;have hbW:Below wr.heap.size wr W1:=by rw [hW1];exact (Below.refl _ _).alloc (Nat.le_refl _) _
   have hbx:W1.heap[wr.heap.size]? =some (.cells #[.int .i64 y0,.int .i64 (x:Int),.int .i64 (y:Int)] 61):=by rw [hW1];exact heap_alloc_new wr _
   have p1:W1.cell? ⟨wr.heap.size,1,none⟩=some (.int .i64 (x:Int)):=by simp [World.cell?,hbx]
   have p2:W1.cell? ⟨wr.heap.size,2,none⟩=some (.int .i64 (y:Int)):=by simp [World.cell?,hbx]
   have hm1:=HR.out.1.below hbW;have o1:=hm1.out x hxn;have o2:=(hm1.row x y hxn hyn).1;have o3:=(hm1.row x y hxn hyn).2;obtain ⟨A,hA⟩:∃A,M x y=A:=⟨_,rfl⟩;rw [hA] at o2;have hAb:=HR.out.2.1.bd x y;rw [hA] at hAb;have hw1:IntKind.i64.wrap (A+1)=A+1:=by rw [IntKind.wrap_i64];omega
   have HW1:=kd hW1.symm;have HEX:=kd hx;have HMA:Hid (Mat W1 w1.heap.size (λ i=>w1.heap.size+1+i) n M/\Below wr.heap.size wr W1/\M x y=A):=⟨hm1,hbW,hA⟩;clear hx hW1 hbW hbx hm1 hA;go_upto_region 8 with fail
   rw [HW1.out];clear r0 r1 r2;obtain ⟨bx,hbx⟩:∃bx,wr.heap.size=bx:=⟨_,rfl⟩;rw [hbx] at p1 p2 ⊢;have hbxm:bx≠w1.heap.size+1+x/\bx≠w1.heap.size+1+y:=by
    have h1:=(HR.out.1.lt (by omega)).2;have h2:w1.heap.size+1+x<wr.heap.size:=h1 x hxn;have h3:w1.heap.size+1+y<wr.heap.size:=h1 y hyn;omega
   have HBX:=kd hbx;clear hbx;go_region
   obtain ⟨W2,hW2⟩:∃W2,(W1.setCell ⟨w1.heap.size+1+x,y,none⟩ (.int .i64 (A+1))).drew=W2:=⟨_,rfl⟩;have hm2:Mat W2 w1.heap.size (λ i=>w1.heap.size+1+i) n (λ i k=>if i=x/\k=y then A+1 else M i k):=by
    rw [<-hW2];exact (HMA.out.1.set hxn hyn (A+1)).below (Below.refl _ _).drew
   have p1:W2.cell? ⟨bx,1,none⟩=some (.int .i64 (x:Int)):=by
    rw [<-hW2];show (W1.setCell _ _).cell? _=_;rw [World.cell?_setCell_far _ _ _ _ (by show w1.heap.size+1+x≠bx;omega)];exact p1
   have p2:W2.cell? ⟨bx,2,none⟩=some (.int .i64 (y:Int)):=by
    rw [<-hW2];show (W1.setCell _ _).cell? _=_;rw [World.cell?_setCell_far _ _ _ _ (by show w1.heap.size+1+x≠bx;omega)];exact p2
   have o4:=hm2.out y hyn;have o5:=(hm2.row y x hyn hxn).1;have o6:=(hm2.row y x hyn hxn).2;rw [if_neg (λ k=>by omega)] at o5;obtain ⟨A2,hA2⟩:∃A2,M y x=A2:=⟨_,rfl⟩;rw [hA2] at o5;have hAb2:=HR.out.2.1.bd y x;rw [hA2] at hAb2;have hw2:IntKind.i64.wrap (A2+1)=A2+1:=by rw [IntKind.wrap_i64];omega
   have HF:Hid (Mat ((W2.setCell ⟨w1.heap.size+1+y,x,none⟩ (.int .i64 (A2+1))).drew) w1.heap.size (λ i=>w1.heap.size+1+i) n (zb2 (zb2 M x y 1) y x 1)/\RmF (zb2 (zb2 M x y 1) y x 1) n (j+1) R/\Below w1.heap.size w1 ((W2.setCell ⟨w1.heap.size+1+y,x,none⟩ (.int .i64 (A2+1))).drew)):=by
    have h1:=HR.out.2.2.trans (HMA.out.2.1.mono HR.out.2.2.size);refine ⟨?_,HR.out.2.1.next HEX.out hxn hyn,?_⟩
    ·have h2:=(hm2.set hyn hxn (A2+1)).below (Below.refl _ _).drew
     have h3:(λ i k=>if i=y/\k=x then A2+1 else if i=x/\k=y then A+1 else M i k)=zb2 (zb2 M x y 1) y x 1:=by
      funext i k
      unfold zb2;by_cases e1:i=y/\k=x
      ·rw [if_pos e1,if_pos e1,if_neg (λ e=>by omega),e1.1,e1.2,hA2]
      ·rw [if_neg e1,if_neg e1]
       by_cases e2:i=x/\k=y
       ·rw [if_pos e2,if_pos e2,e2.1,e2.2,HMA.out.2.2]
       ·rw [if_neg e2,if_neg e2]
     rw [<-h3];exact h2
    ·have h4:Below w1.heap.size w1 W2:=by rw [<-hW2];exact (h1.setCell (by show w1.heap.size<=w1.heap.size+1+x;omega) _).drew
     exact (h4.setCell (by show w1.heap.size<=w1.heap.size+1+y;omega) _).drew
   rw [hW2];have HW2:Hid _:=hW2;clear hm2 hA2 hW2 o1 o2 o3 HMA;go_upto_region 9 with fail
   go_region
   have hbe:=HBX.out;subst hbe;go_wp2_with fail;go_roundw;case rel=>exact ⟨j+1,_,by omega,by go_num,HF.out.1,HF.out.2.1,HF.out.2.2⟩
   case measure=>simp [intOf];omega
  ·have hje:m=j:=by omega
   subst hje;have hbd:∀i k,0<=M i k/\M i k<=1000:=λ i k=>by have:=HR.out.2.1.bd i k;omega
   have HC:Hid _:=zra w1.heap.size (λ i=>w1.heap.size+1+i) n a b n most M wr HR.out.1 (by omega) ha hb (by omega) hbd;have HCP:Hid (zb0 M n=λ S=>((R.filter (crs S)).length:Int)):=by
    funext S
    rw [HR.out.2.1.cap S,List.take_of_length_le (by rw [HMM.out];exact Nat.le_refl _)]
   clear hbd;go_wp2_with fail;refine Calls.mono HC.out ?_;rintro e w3 ⟨k,rfl,hvk,hka⟩;rw [HCP.out] at hvk;have HF:Hid (Val (λ S=>((R.filter (crs S)).length:Int)) a b most k/\Below w1.heap.size w1 w3):=⟨hvk,HR.out.2.2.trans (hka.old HR.out.2.2.size (λ i _=>by omega))⟩;clear hvk hka HC;go_wp2_with fail;go_ret2;exact ⟨k,rfl,HF.out.1,HF.out.2⟩
open Go Go.ChangeMaps Go.MapKept Go.WideShapes
def ndX (n:Nat) (S:Int->Bool) (i:Nat):Bool:=S (i:Int)&&!S (((n+i:Nat):Nat):Int)
def prX (n:Nat) (S:Int->Bool) (d:Int × Int):Bool:=S ((n:Int)+d.1)&&!S d.2
def zfn (n a b:Nat) (PR:List (Int × Int)) (S:Int->Bool):Int:=(((List.range n).filter (ndX n S)).length:Int)+((if ndX n S a then 119 else 0)+(if ndX n S b then 119 else 0))+((PR.filter (prX n S)).length:Int)
section
variable {n:Nat} {L:List Stp} {a b:Nat} {PR:List (Int × Int)}
theorem filter_congr' {α:Type} {l:List α} {p q:α->Bool} (h:∀x∈l,p x=q x):(l.filter p).length=(l.filter q).length:=by rw [List.filter_congr h]
theorem zxq {most k:Int} (hed:Ed n 120 L) (hQ:Joins L PR) (han:a<n) (hbn:b<n) (hv:Val (zfn n a b PR) a ((n+b:Nat):Int) most k) (T:List Nat) (ha:a∉T) (hb:b∉T) (h:¬cnv L T a b):k<=(T.length:Int):=by
 obtain ⟨S',h1,h1',h2,h3,h4,h5⟩:=znz hQ T ha hb h;have e1:∀i:Nat,i<n->(λ x:Int=>if x<n then S' (2*x) else S' (2*(x-n)+1)) (i:Int)=S' (2*(i:Int)):=λ i hi=>by
  show (if (i:Int)<n then _ else _)=_;rw [if_pos (by omega)]
 have e2:∀i:Nat,(λ x:Int=>if x<n then S' (2*x) else S' (2*(x-n)+1)) (((n+i:Nat):Nat):Int)=S' (2*(i:Int)+1):=λ i=>by
  show (if (((n+i:Nat):Nat):Int)<n then _ else _)=_;rw [if_neg (by omega),show 2*((((n+i:Nat):Nat):Int)-n)+1=2*(i:Int)+1 by omega]
 have hle:=hv.all (λ x:Int=>if x<n then S' (2*x) else S' (2*(x-n)+1)) ((e1 a han).trans h1') ((e2 b).trans h3);obtain ⟨S,hS⟩:∃S,(λ x:Int=>if x<n then S' (2*x) else S' (2*(x-n)+1))=S:=⟨_,rfl⟩;rw [hS] at hle e1 e2;have hnd:∀i,i<n->ndX n S i=nin S' i:=λ i hi=>by
  unfold ndX nin;rw [e1 i hi,e2 i]
 have q1:((List.range n).filter (ndX n S)).length<=T.length:=by
  rw [filter_congr' (λ i hi=>hnd i (List.mem_range.1 hi))];exact zx0 h4 n
 have qa:ndX n S a=false:=by
  rw [hnd a han];cases hq:nin S' a with
  | false=>rfl
  | true=>exact absurd (h4 a hq) ha
 have qb:ndX n S b=false:=by
  rw [hnd b hbn];cases hq:nin S' b with
  | false=>rfl
  | true=>exact absurd (h4 b hq) hb
 have q2:(PR.filter (prX n S)).length=0:=by
  rw [List.length_eq_zero_iff,List.filter_eq_nil_iff];intro d hd;have:prX n S d=ein S' d:=by
   obtain ⟨e,he,hd'⟩:=hQ.out d hd;obtain ⟨_,_,l1,l2,_⟩:=ze1 hed he;have key:∀u v:Nat,v<n->prX n S ((u:Int),(v:Int))=ein S' ((u:Int),(v:Int)):=λ u v hv'=>by
    unfold prX ein;have:=e2 u;rw [show (((n+u:Nat):Nat):Int)=(n:Int)+(u:Int) by omega] at this;simp only [this,e1 v hv']
   rcases hd' with rfl | rfl
   ·exact key _ _ l2
   ·exact key _ _ l1
  rw [this,h5 d hd];simp
 unfold zfn at hle;rw [qa,qb,q2] at hle;simp at hle;omega
theorem zso (hna:∀e∈L,¬(ea e=a/\eb e=b)/\¬(ea e=b/\eb e=a)) (hed:Ed n 120 L) (hab:a≠b):¬cnv L ((List.range n).filter λ z=>decide (z≠a/\z≠b)) a b:=λ hc=>by
 have:=zae.least (P:=λ (u v:Nat)=>u=v) hc (λ _=>rfl) (λ _ _ k=>k.symm) (λ _ _ _ k1 k2=>k1.trans k2) (by
  rintro u v ⟨e,⟨he,h1,h2⟩,rfl,rfl⟩;exfalso;obtain ⟨_,_,e3,e4,e5⟩:=ze1 hed he;have:=hna e he;rw [List.mem_filter,List.mem_range] at h1 h2;simp at h1 h2;omega)
 exact hab this
theorem z9t {most k:Int} (hed:Ed n 120 L) (hn:n<=40) (hQ:Joins L PR) (han:a<n) (hbn:b<n) (hab:a≠b) (hna:∀e∈L,¬(ea e=a/\eb e=b)/\¬(ea e=b/\eb e=a)) (hv:Val (zfn n a b PR) a ((n+b:Nat):Int) most k) (hk:k≠most):∃T:List Nat,a∉T/\b∉T/\¬cnv L T a b/\(T.length:Int)<=k:=by
 have hsm:=zxq hed hQ han hbn hv _ (by simp) (by simp) (zso hna hed hab);have hlen:((List.range n).filter λ z=>decide (z≠a/\z≠b)).length<=n:=by
  have:=List.length_filter_le (λ z=>decide (z≠a/\z≠b)) (List.range n)
  simpa using this
 rcases hv.one with h | ⟨S,h1,h2,h3⟩
 ·exact absurd h hk
 ·have p1:(0:Int)<=(((List.range n).filter (ndX n S)).length:Int):=by omega
  have p2:(0:Int)<=((PR.filter (prX n S)).length:Int):=by omega
  have na:ndX n S a=false:=by
   cases hq:ndX n S a with
   | false=>rfl
   | true=>
     exfalso;unfold zfn at h3;rw [hq] at h3;simp at h3;split at h3 <;> omega
  have nb:ndX n S b=false:=by
   cases hq:ndX n S b with
   | false=>rfl
   | true=>
     exfalso;unfold zfn at h3;rw [hq] at h3;simp at h3;split at h3 <;> omega
  obtain ⟨S',hS'⟩:∃S':Int->Bool,(∀i:Nat,S' (2*(i:Int))=S (i:Int))/\∀i:Nat,S' (2*(i:Int)+1)=S (((n+i:Nat):Nat):Int):=by
   refine ⟨λ x=>if x%2=0 then S (x/2) else S ((n:Int)+x/2),λ i=>?_,λ i=>?_⟩
   ·show (if (2*(i:Int))%2=0 then _ else _)=_
    rw [if_pos (by omega),show 2*(i:Int)/2=(i:Int) by omega]
   ·show (if (2*(i:Int)+1)%2=0 then _ else _)=_
    rw [if_neg (by omega),show (n:Int)+(2*(i:Int)+1)/2=(((n+i:Nat):Nat):Int) by omega]
  have sa:S' (2*(a:Int)+1)=true:=by
   rw [hS'.2 a];unfold ndX at na;rw [h1] at na
   simpa using na
  have sb:S' (2*(b:Int))=false:=by
   rw [hS'.1 b];unfold ndX at nb;rw [h2] at nb
   simpa using nb
  obtain ⟨T,t1,t2,t3,t4,_⟩:=znl hed hQ hab hna S' sa sb;refine ⟨T,t1,t2,t3,?_⟩;have q1:((List.range n).filter (nin S')).length=((List.range n).filter (ndX n S)).length:=filter_congr' (λ i _=>by
   unfold nin ndX;rw [hS'.1 i,hS'.2 i])
  have q2:(PR.filter (ein S')).length=(PR.filter (prX n S)).length:=filter_congr' (λ d hd=>by
   obtain ⟨e,he,hd'⟩:=hQ.out d hd;have key:∀u v:Nat,ein S' ((u:Int),(v:Int))=prX n S ((u:Int),(v:Int)):=λ u v=>by
    unfold prX ein;have:=hS'.2 u;rw [show (((n+u:Nat):Nat):Int)=(n:Int)+(u:Int) by omega] at this;simp only [this,hS'.1 v]
   rcases hd' with rfl | rfl <;> exact key _ _)
  unfold zfn at h3;rw [na,nb] at h3;simp at h3;omega
theorem zwk {most k k':Int} (hed:Ed n 120 L) (hn:n<=40) (hQ:Joins (L.filter λ e=>!zba a b e) PR) (han:a<n) (hbn:b<n) (hab:a≠b) (hv:Val (cap (lD (noS n L)) (lr (noS n L))) (2*(a:Int)+1) (2*(b:Int)) most k) (hv':Val (zfn n a b PR) a ((n+b:Nat):Int) most k'):k=min most (((L.filter (zba a b)).length:Int)+k'):=by
 have h1:k<=((L.filter (zba a b)).length:Int)+k':=by
  by_cases e:k'=most
  ·have:=hv.le
   omega
  ·obtain ⟨T,t1,t2,t3,t4⟩:=z9t (hed.zqi _) hn hQ han hbn hab (ztg L a b) hv' e
   have:=z9h hed hv T t1 t2 t3;omega
 have h2:=hv.le;by_cases e:k=most
 ·omega
 ·obtain ⟨T,t1,t2,t3,t4⟩:=z5e hed hab hv e
  have:=zxq (hed.zqi _) hQ han hbn hv' T t1 t2 t3;omega
end
end Go.Proofs.YtebcjaenhiiflaaGreatDoor.S
namespace Go.Proofs.YtebcjaenhiiflaaGreatDoor.S
open Go Go.ChangeMaps Go.MapKept Go.WideShapes
open Go.RowKit Go.WideMaps Go.Maps F
def zbo (M:Nat->Nat->Int) (x y:Nat) (v:Int):Nat->Nat->Int:=λ i k=>if i=x/\k=y then v else M i k
theorem zjw {M:Nat->Nat->Int} {x y:Nat} {v v0:Int} (h:M x y=v0):zbo M x y v=zb2 M x y (v-v0):=by
 funext i k
 unfold zbo zb2;by_cases e:i=x/\k=y
 ·rw [if_pos e,if_pos e,e.1,e.2,h];omega
 ·rw [if_neg e,if_neg e]
structure RN (M:Nat->Nat->Int) (n a b j:Nat) (tw:Bool) (PR:List (Int × Int)):Prop where
 cap:∀S:Int->Bool,zb0 M (2*n) S=(((List.range j).filter (ndX n S)).length:Int)+(if tw then ((if ndX n S a then 119 else 0)+(if ndX n S b then 119 else 0)) else 0)+((PR.filter (prX n S)).length:Int)
 diag:tw=false->∀i,i<n->M i (n+i)=if i<j then 1 else 0
 ent:∀u v:Nat,u<n->v<n->M (n+u) v=if ((u:Int),(v:Int))∈PR then 1 else 0
 bd:∀i k,0<=M i k/\M i k<=1000
section
variable {M:Nat->Nat->Int} {n a b j:Nat} {tw:Bool} {PR:List (Int × Int)}
theorem RN.start (n a b:Nat):RN (λ _ _=>0) n a b 0 false []:=
 ⟨λ S=>by simp [zb0,zj9],λ _ i _=>by simp,λ u v _ _=>by simp,λ _ _=>⟨by omega,by omega⟩⟩
theorem RN.node (h:RN M n a b j false PR) (hj:j<n):RN (zbo M j (n+j) 1) n a b (j+1) false PR:=by
 have h0:M j (n+j)=0:=by have:=h.diag rfl j hj;rwa [if_neg (by omega)] at this
 refine ⟨λ S=>?_,λ _ i hi=>?_,λ u v hu hv=>?_,λ i k=>?_⟩
 ·rw [zjw h0,zef (by omega) (by omega),h.cap S,List.range_succ,List.filter_append,List.length_append,List.filter_cons]
  have hx:ndX n S j=(S (j:Int)&&!S (((n+j:Nat):Nat):Int)):=rfl;rw [hx];cases (S (j:Int)&&!S (((n+j:Nat):Nat):Int)) <;> simp <;> omega
 ·unfold zbo
  by_cases e:i=j
  ·subst e;rw [if_pos ⟨rfl,rfl⟩,if_pos (by omega)]
  ·rw [if_neg (λ k=>e k.1),h.diag rfl i hi]
   by_cases c:i<j
   ·rw [if_pos c,if_pos (by omega)]
   ·rw [if_neg c,if_neg (by omega)]
 ·unfold zbo
  rw [if_neg (λ k=>by omega)];exact h.ent u v hu hv
 ·have:=h.bd i k
  unfold zbo;split <;> omega
theorem RN.both (h:RN M n a b n false PR) (ha:a<n) (hb:b<n) (hab:a≠b):RN (zbo (zbo M a (n+a) 120) b (n+b) 120) n a b n true PR:=by
 have ha0:M a (n+a)=1:=by have:=h.diag rfl a ha;rwa [if_pos ha] at this
 have hb0:zbo M a (n+a) 120 b (n+b)=1:=by
  unfold zbo;rw [if_neg (λ k=>hab k.1.symm)];have:=h.diag rfl b hb;rwa [if_pos hb] at this
 refine ⟨λ S=>?_,λ k=>(by cases k),λ u v hu hv=>?_,λ i k=>?_⟩
 ·rw [zjw hb0,zef (by omega) (by omega),zjw ha0,zef (by omega) (by omega),h.cap S]
  have hx:ndX n S a=(S (a:Int)&&!S (((n+a:Nat):Nat):Int)):=rfl;have hy:ndX n S b=(S (b:Int)&&!S (((n+b:Nat):Nat):Int)):=rfl;rw [hx,hy];cases (S (a:Int)&&!S (((n+a:Nat):Nat):Int)) <;> cases (S (b:Int)&&!S (((n+b:Nat):Nat):Int)) <;> simp <;> omega
 ·unfold zbo
  rw [if_neg (λ k=>by omega),if_neg (λ k=>by omega)];exact h.ent u v hu hv
 ·have:=h.bd i k
  unfold zbo;split
  ·omega
  ·split <;> omega
theorem RN.pair (h:RN M n a b j true PR) {u v:Nat} (hu:u<n) (hv:v<n):∃PR',RN (zbo M (n+u) v 1) n a b j true PR'/\∀d,d∈PR'↔d∈PR\/d=((u:Int),(v:Int)):=by
 by_cases c:((u:Int),(v:Int))∈PR
 ·have h1:M (n+u) v=1:=by rw [h.ent u v hu hv,if_pos c]
  have hs:zbo M (n+u) v 1=M:=by
   funext i k
   unfold zbo;by_cases e:i=n+u/\k=v
   ·rw [if_pos e,e.1,e.2,h1]
   ·rw [if_neg e]
  rw [hs];exact ⟨PR,h,λ d=>⟨.inl,λ k=>k.elim id (λ k=>k▸c)⟩⟩
 ·have h0:M (n+u) v=0:=by rw [h.ent u v hu hv,if_neg c]
  refine ⟨PR++[((u:Int),(v:Int))],⟨λ S=>?_,λ k=>(by cases k),λ u' v' hu' hv'=>?_,λ i k=>?_⟩,λ d=>by simp⟩
  ·rw [zjw h0,zef (by omega) (by omega),h.cap S,List.filter_append,List.length_append,List.filter_cons]
   have hx:prX n S ((u:Int),(v:Int))=(S (((n+u:Nat):Nat):Int)&&!S (v:Int)):=by
    unfold prX;rw [show (((n+u:Nat):Nat):Int)=(n:Int)+(u:Int) by omega]
   rw [hx];cases (S (((n+u:Nat):Nat):Int)&&!S (v:Int)) <;> simp <;> omega
  ·unfold zbo
   by_cases e:u'=u/\v'=v
   ·obtain ⟨rfl,rfl⟩:=e
    rw [if_pos ⟨rfl,rfl⟩,if_pos (by simp)]
   ·rw [if_neg (λ k=>e ⟨by omega,k.2⟩),h.ent u' v' hu' hv']
    have:((u':Int),(v':Int))∈PR++[((u:Int),(v:Int))]↔((u':Int),(v':Int))∈PR:=by
     rw [List.mem_append,List.mem_singleton];refine ⟨λ k=>k.elim id (λ k=>?_),.inl⟩;injection k with k1 k2
     exact absurd ⟨by omega,by omega⟩ e
    by_cases q:((u':Int),(v':Int))∈PR
    ·rw [if_pos q,if_pos (this.2 q)]
    ·rw [if_neg q,if_neg (λ k=>q (this.1 k))]
  ·have:=h.bd i k
   unfold zbo;split <;> omega
end
def zd7 (a b:Nat) (R:List Stp) (j:Nat) (PR:List (Int × Int)):Prop:=∀d,d∈PR↔∃e∈R.take j,zba a b e=false/\(d=((ea e:Int),(eb e:Int))\/d=((eb e:Int),(ea e:Int)))
theorem zd7.skip {a b j:Nat} {R:List Stp} {PR:List (Int × Int)} (h:zd7 a b R j PR) {e:Stp} (he:R[j]? =some e) (hd:zba a b e=true):zd7 a b R (j+1) PR:=λ d=>by
 rw [h d,zch he];constructor
 ·rintro ⟨f,hf,k⟩;exact ⟨f,List.mem_append_left _ hf,k⟩
 ·rintro ⟨f,hf,k1,k2⟩
  rcases List.mem_append.1 hf with hf | hf
  ·exact ⟨f,hf,k1,k2⟩
  ·rw [List.mem_singleton.1 hf,hd] at k1;cases k1
theorem zd7.more {a b j:Nat} {R:List Stp} {PR P1 P2:List (Int × Int)} (h:zd7 a b R j PR) {e:Stp} (he:R[j]? =some e) (hd:zba a b e=false) (h1:∀d,d∈P1↔d∈PR\/d=((ea e:Int),(eb e:Int))) (h2:∀d,d∈P2↔d∈P1\/d=((eb e:Int),(ea e:Int))):zd7 a b R (j+1) P2:=λ d=>by
 rw [h2 d,h1 d,h d,zch he];constructor
 ·rintro ((⟨f,hf,k⟩ | k) | k)
  ·exact ⟨f,List.mem_append_left _ hf,k⟩
  ·exact ⟨e,by simp,hd,.inl k⟩
  ·exact ⟨e,by simp,hd,.inr k⟩
 ·rintro ⟨f,hf,k1,k2⟩
  rcases List.mem_append.1 hf with hf | hf
  ·exact .inl (.inl ⟨f,hf,k1,k2⟩)
  ·rw [List.mem_singleton.1 hf] at k2
   rcases k2 with k2 | k2
   ·exact .inl (.inr k2)
   ·exact .inr k2
def z8a (w:World) (n a b most:Nat) (R:List Stp) (e:Ending) (w':World):Prop:=
 ∃(k:Nat) (PR:List (Int × Int)),e= .returned (.tuple #[.int .i64 (min (most:Int) (((R.filter (zba a b)).length:Int)+(k:Int))),.int .i64 0])/\zd7 a b R R.length PR/\Val (zfn n a b PR) a ((n+b:Nat):Int) most k/\Below w.heap.size w w'
end Go.Proofs.YtebcjaenhiiflaaGreatDoor.S
namespace Go.Proofs.YtebcjaenhiiflaaGreatDoor.S
open Go Go.ChangeMaps Go.MapKept Go.WideShapes Go.Proofs.Tryz
open Go.RowKit Go.WideMaps Go.Maps F
theorem z8y (n B q a b most:Nat) (u:Value) (R:List Stp) (w:World) (h:G.GAt w B 40 61 q (n:Int) u R) (hn:n<=40) (hin:z02 n R) (hl:R.length<=120) (ha:a<n) (hb:b<n) (hab:a≠b) (hm:most<=120):
 Calls prog 69 #[.pointer (some ⟨q,0,none⟩),.int .i64 (a:Int),.int .i64 (b:Int),.int .i64 (most:Int)] w (z8a w n a b most R):=by
 have HG:=kd (And.intro h hin);have c0:=h.c0;have c1:=h.c1;have HA:Hid _:=zpa n B q u R (a:Int) (b:Int) (most:Int) w h (by omega) ⟨⟨by omega,by omega⟩,⟨by omega,by omega⟩,by omega,by omega⟩ 0 (.inr ⟨by omega,rfl⟩);obtain ⟨m,hmm⟩:∃m,R.length=m:=⟨_,rfl⟩;have HMM:=kd hmm;obtain ⟨va,vc,hv⟩:=h.row.zal;rw [hmm] at hv hl;have HV:=kd hv;rw [hv] at c1;have hw2n:IntKind.i64.wrap (2*(n:Int))=2*(n:Int):=by rw [IntKind.wrap_i64];omega
 clear h hin hmm hv;go_enter func69,ntmps69;go_wp2_with fail;refine Calls.mono HA.out ?_;rintro e w1 ⟨rfl,hw1⟩;subst hw1;clear HA;go_wp2_with fail;rw [show 2*(n:Int)=((2*n:Nat):Int) by omega];refine (znu (2*n) w1 (by omega)).mono ?_;rintro e w2 ⟨rfl,hmat,hb2⟩;obtain ⟨g,hg⟩:∃g,w1.heap.size=g:=⟨_,rfl⟩;rw [hg] at hmat ⊢;have HM2:=kd (And.intro hmat hb2);have HGS:=kd hg;have c0:=cell_below c0 hb2;have c1:=cell_below c1 hb2;clear hmat hb2 hg hw2n;go_wp2_with fail;go_loopw [34] (λ s34 wq=>∃(j:Nat) (M:Nat->Nat->Int),j<=n/\s34= .int .i64 j/\Mat wq g (λ i=>g+1+i) (2*n) M/\RN M n a b j false []/\Below w1.heap.size w1 wq) (λ s34 _=>n-(intOf s34).toNat)
 case atStart=>exact ⟨0,_,Nat.zero_le _,rfl,HM2.out.1,RN.start n a b,HM2.out.2⟩
 case round=>
  clear HM2 c0 c1;obtain ⟨j,M,hj,rfl,hmat,hrn,hbl⟩:=hrel;have HR:Hid (Mat wr g (λ i=>g+1+i) (2*n) M/\RN M n a b j false []/\Below w1.heap.size w1 wr):=⟨hmat,hrn,hbl⟩;have c0:=cell_below HG.out.1.c0 hbl;clear hmat hrn hbl;by_cases hjn:j<n
  ·as_aux_lemma=>
   have o1:=HR.out.1.out j (by omega);have o2:=(HR.out.1.row j (n+j) (by omega) (by omega)).1;have o3:=(HR.out.1.row j (n+j) (by omega) (by omega)).2;have hwn:IntKind.i64.wrap ((n:Int)+(j:Int))=((n+j:Nat):Int):=by rw [IntKind.wrap_i64];omega
   have HF:Hid (Mat ((wr.setCell ⟨g+1+j,n+j,none⟩ (.int .i64 1)).drew) g (λ i=>g+1+i) (2*n) (zbo M j (n+j) 1)/\RN (zbo M j (n+j) 1) n a b (j+1) false []/\Below w1.heap.size w1 ((wr.setCell ⟨g+1+j,n+j,none⟩ (.int .i64 1)).drew)):=
    ⟨(HR.out.1.set (x:=j) (y:=n+j) (by omega) (by omega) 1).below (Below.refl _ _).drew,HR.out.2.1.node hjn,(HR.out.2.2.setCell (by show w1.heap.size<=g+1+j;have:=HGS.out;omega) _).drew⟩
   clear HR;go_upto_region 9 with fail
   go_region
   go_wp2_with fail;go_roundw;case rel=>exact ⟨j+1,_,by omega,by go_num,HF.out.1,HF.out.2.1,HF.out.2.2⟩
   case measure=>simp [intOf];omega
  ·have hje:n=j:=by omega
   subst hje;obtain ⟨wy,hwy⟩:∃wy,wy=wr:=⟨_,rfl⟩;subst hwy;have o1:=HR.out.1.out a (by omega);have o2:=(HR.out.1.row a (n+a) (by omega) (by omega)).1;have o3:=(HR.out.1.row a (n+a) (by omega) (by omega)).2;have o4:=HR.out.1.out b (by omega);have o5:=(HR.out.1.row b (n+b) (by omega) (by omega)).1;have o6:=(HR.out.1.row b (n+b) (by omega) (by omega)).2;have hwa:IntKind.i64.wrap ((n:Int)+(a:Int))=((n+a:Nat):Int):=by rw [IntKind.wrap_i64];omega
   have hwb:IntKind.i64.wrap ((n:Int)+(b:Int))=((n+b:Nat):Int):=by rw [IntKind.wrap_i64];omega
   go_upto_region 11 with fail
   go_region
   obtain ⟨W3,hW3⟩:∃W3,((wy.setCell ⟨g+1+a,n+a,none⟩ (.int .i64 120)).setCell ⟨g+1+b,n+b,none⟩ (.int .i64 120)).drew=W3:=⟨_,rfl⟩;have HS3:Hid (Mat W3 g (λ i=>g+1+i) (2*n) (zbo (zbo M a (n+a) 120) b (n+b) 120)/\RN (zbo (zbo M a (n+a) 120) b (n+b) 120) n a b n true []/\Below w1.heap.size w1 W3):=by
    rw [<-hW3];have hgs:=HGS.out;exact ⟨((HR.out.1.set (x:=a) (y:=n+a) (by omega) (by omega) 120).set (x:=b) (y:=n+b) (by omega) (by omega) 120).below (Below.refl _ _).drew,HR.out.2.1.both ha hb hab,((HR.out.2.2.setCell (by show w1.heap.size<=g+1+a;omega) _).setCell (by show w1.heap.size<=g+1+b;omega) _).drew⟩
   rw [hW3];have d0:=cell_below HG.out.1.c0 HS3.out.2.2;have d1:=cell_below HG.out.1.c1 HS3.out.2.2;rw [HV.out] at d1;obtain ⟨lo,hlo⟩:∃lo,min a b=lo:=⟨_,rfl⟩;obtain ⟨hi,hhi⟩:∃hi,max a b=hi:=⟨_,rfl⟩;have HLH:=kd (And.intro hlo hhi);have hmin:min (a:Int) (b:Int)=(lo:Int):=by omega
   have hmax:max (a:Int) (b:Int)=(hi:Int):=by omega
   clear hlo hhi o1 o2 o3 o4 o5 o6 hW3 HR hwa c0 hjn hj;go_wp2_with fail;go_loopw [11,76] (λ s11 s76 wq=>∃(j:Nat) (M:Nat->Nat->Int) (PR:List (Int × Int)),j<=m/\s76= .int .i64 j/\s11= .int .i64 (((R.take j).filter (zba a b)).length:Nat)/\Mat wq g (λ i=>g+1+i) (2*n) M/\RN M n a b n true PR/\zd7 a b R j PR/\Below w1.heap.size w1 wq) (λ _ s76 _=>m-(intOf s76).toNat)
   case atStart=>exact ⟨0,_,[],Nat.zero_le _,rfl,rfl,HS3.out.1,HS3.out.2.1,λ d=>⟨λ k=>by simp at k,λ ⟨e,k,_⟩=>by simp at k⟩,HS3.out.2.2⟩
   case round=>
    clear HS3 d0 d1;obtain ⟨j,M2,PR,hj,rfl,rfl,hmat,hrn,hpr,hbl⟩:=hrel;have HR:Hid (Mat wr g (λ i=>g+1+i) (2*n) M2/\RN M2 n a b n true PR/\zd7 a b R j PR/\Below w1.heap.size w1 wr):=⟨hmat,hrn,hpr,hbl⟩;obtain ⟨dc,hdc⟩:∃dc,((R.take j).filter (zba a b)).length=dc:=⟨_,rfl⟩;have hdcj:dc<=120:=by
     rw [<-hdc];have h1:=List.length_filter_le (zba a b) (R.take j);have h2:(R.take j).length<=j:=by simp;omega
     omega
    rw [hdc];have HDC:=kd hdc;clear hmat hrn hpr hbl hdc;by_cases hjm:j<m
    ·obtain ⟨⟨y0,y1,y2⟩,hx⟩:∃e:Stp,R[j]? =some e:=⟨_,List.getElem?_eq_getElem (by rw [HMM.out];exact hjm)⟩
     obtain ⟨x,y,hxn,hyn,hxy,he1,he2⟩:=HG.out.2 _ (List.mem_of_getElem? hx);have he1:y1=(x:Int):=he1;have he2:y2=(y:Int):=he2;subst he1;subst he2;have hea:ea (y0,(x:Int),(y:Int))=x:=by simp [ea]
     have heb:eb (y0,(x:Int),(y:Int))=y:=by simp [eb]
     obtain ⟨g2,hva⟩:∃g2,va=some ⟨g2,0,none⟩:=by
      rcases HG.out.1.row.shape with ⟨_,k⟩ | ⟨g2,cap2,k,_⟩
      ·rw [k] at hx;simp at hx
      ·rw [HV.out] at k
       injection k with e1 _ _
       exact ⟨g2,e1⟩
     subst hva;obtain ⟨r0,r1,r2⟩:=HG.out.1.row.at (g:=g2) (by rw [HV.out];rfl) hx;simp only at r0 r1 r2;have r0:=cell_below r0 HR.out.2.2.2;have r1:=cell_below r1 HR.out.2.2.2;have r2:=cell_below r2 HR.out.2.2.2;obtain ⟨W1,hW1⟩:∃W1,W1=wr.alloc (.cells #[.int .i64 y0,.int .i64 (x:Int),.int .i64 (y:Int)] 61):=⟨_,rfl⟩;have hbW:Below wr.heap.size wr W1:=by rw [hW1];exact (Below.refl _ _).alloc (Nat.le_refl _) _
     have hbx:W1.heap[wr.heap.size]? =some (.cells #[.int .i64 y0,.int .i64 (x:Int),.int .i64 (y:Int)] 61):=by rw [hW1];exact heap_alloc_new wr _
     have p1:W1.cell? ⟨wr.heap.size,1,none⟩=some (.int .i64 (x:Int)):=by simp [World.cell?,hbx]
     have p2:W1.cell? ⟨wr.heap.size,2,none⟩=some (.int .i64 (y:Int)):=by simp [World.cell?,hbx]
     have HW1:=kd hW1.symm;have HEX:Hid (R[j]? =some (y0,(x:Int),(y:Int))/\ea (y0,(x:Int),(y:Int))=x/\eb (y0,(x:Int),(y:Int))=y):=⟨hx,hea,heb⟩;have HB1:Hid (Below wr.heap.size wr W1/\Below w1.heap.size w1 W1):=⟨hbW,HR.out.2.2.2.trans (hbW.mono HR.out.2.2.2.size)⟩;have HBXM:Hid (∀i,i<2*n->wr.heap.size≠g+1+i):=λ i hi2 e=>by
      have h1:g+1+i<wr.heap.size:=(HR.out.1.lt (by omega)).2 i hi2;omega
     clear hx hW1 hbW hbx hea heb;by_cases hdir:zba a b (y0,(x:Int),(y:Int))=true
     ·as_aux_lemma=>
      have hdd:=of_decide_eq_true hdir;rw [HEX.out.2.1,HEX.out.2.2] at hdd;have e1:((x:Int)==(lo:Int))=true:=beq_iff_eq.2 (by obtain ⟨l1,l2⟩:=HLH.out;omega);have e2:((y:Int)==(hi:Int))=true:=beq_iff_eq.2 (by obtain ⟨l1,l2⟩:=HLH.out;omega);have hwd:IntKind.i64.wrap ((dc:Int)+1)=(dc:Int)+1:=by rw [IntKind.wrap_i64];omega
      have HF:Hid (((R.take (j+1)).filter (zba a b)).length=dc+1/\zd7 a b R (j+1) PR/\Mat W1 g (λ i=>g+1+i) (2*n) M2):=by
       refine ⟨?_,HR.out.2.2.1.skip HEX.out.1 hdir,HR.out.1.below HB1.out.1⟩;rw [zch HEX.out.1,List.filter_append,List.length_append,HDC.out];simp [hdir]
      clear hdd hdir
      go_upto_if 93 with fail
      rw [HW1.out];go_wp2_with fail;go_roundw;case rel=>exact ⟨j+1,M2,PR,by omega,by go_num,by rw [HF.out.1];rfl,HF.out.2.2,HR.out.2.1,HF.out.2.1,HB1.out.2⟩
      case measure=>simp [intOf];omega
     ·have hdf:zba a b (y0,(x:Int),(y:Int))=false:=by simpa using hdir
      have hdd:=of_decide_eq_false hdf;rw [HEX.out.2.1,HEX.out.2.2] at hdd;have hor:x≠lo\/y≠hi:=by obtain ⟨l1,l2⟩:=HLH.out;omega
      obtain ⟨P1,hr1,hp1⟩:=HR.out.2.1.pair hxn hyn;obtain ⟨P2,hr2,hp2⟩:=hr1.pair hyn hxn;have hm1:=HR.out.1.below HB1.out.1;have o1:=hm1.out (n+x) (by omega);have o2:=(hm1.row (n+x) y (by omega) (by omega)).1;have o3:=(hm1.row (n+x) y (by omega) (by omega)).2;have hwx:IntKind.i64.wrap ((n:Int)+(x:Int))=((n+x:Nat):Int):=by rw [IntKind.wrap_i64];omega
      have hwy2:IntKind.i64.wrap ((n:Int)+(y:Int))=((n+y:Nat):Int):=by rw [IntKind.wrap_i64];omega
      have d0:=cell_below HG.out.1.c0 HB1.out.2;obtain ⟨W2,hW2⟩:∃W2,(W1.setCell ⟨g+1+(n+x),y,none⟩ (.int .i64 1)).drew=W2:=⟨_,rfl⟩;have hm2:Mat W2 g (λ i=>g+1+i) (2*n) (zbo M2 (n+x) y 1):=by
       rw [<-hW2];exact (hm1.set (x:=n+x) (y:=y) (by omega) (by omega) 1).below (Below.refl _ _).drew
      have hb2:Below w1.heap.size w1 W2:=by
       rw [<-hW2];exact (HB1.out.2.setCell (by show w1.heap.size<=g+1+(n+x);have:=HGS.out;omega) _).drew
      have keep:∀i v,W1.cell? ⟨wr.heap.size,i,none⟩=some v->W2.cell? ⟨wr.heap.size,i,none⟩=some v:=λ i v hc=>by
       rw [<-hW2];show (W1.setCell _ _).cell? _=_;rw [World.cell?_setCell_far _ _ _ _ (by show g+1+(n+x)≠wr.heap.size;exact λ e=>HBXM.out (n+x) (by omega) e.symm)];exact hc
      have q1:=keep 1 _ p1;have q2:=keep 2 _ p2;have o4:=hm2.out (n+y) (by omega);have o5:=(hm2.row (n+y) x (by omega) (by omega)).1;have o6:=(hm2.row (n+y) x (by omega) (by omega)).2;have d2:=cell_below HG.out.1.c0 hb2;have HF:Hid (Mat ((W2.setCell ⟨g+1+(n+y),x,none⟩ (.int .i64 1)).drew) g (λ i=>g+1+i) (2*n) (zbo (zbo M2 (n+x) y 1) (n+y) x 1)/\RN (zbo (zbo M2 (n+x) y 1) (n+y) x 1) n a b n true P2/\zd7 a b R (j+1) P2/\Below w1.heap.size w1 ((W2.setCell ⟨g+1+(n+y),x,none⟩ (.int .i64 1)).drew)/\((R.take (j+1)).filter (zba a b)).length=dc):=by
       refine ⟨(hm2.set (x:=n+y) (y:=x) (by omega) (by omega) 1).below (Below.refl _ _).drew,hr2,HR.out.2.2.1.more (P1:=P1) HEX.out.1 hdf ?_ ?_,(hb2.setCell (by show w1.heap.size<=g+1+(n+y);have:=HGS.out;omega) _).drew,?_⟩
       ·rw [HEX.out.2.1,HEX.out.2.2];exact hp1
       ·rw [HEX.out.2.1,HEX.out.2.2];exact hp2
       ·rw [zch HEX.out.1,List.filter_append,List.length_append,HDC.out]
        simp [hdf]
      have HW2:=kd hW2;clear hdir hdf hdd hr1 hr2 hp1 hp2 hm1 hm2 hW2 keep hb2 HR HB1;by_cases hxl:x≠lo
      ·as_aux_lemma=>
       have e1:((x:Int)==(lo:Int))=false:=beq_eq_false_iff_ne.2 (by omega)
       go_upto_if 93 with fail
       rw [HW1.out];go_upto_region 17 with fail
       go_region
       rw [HW2.out];go_upto_region 18 with fail
       go_region
       go_wp2_with fail;go_roundw;case rel=>exact ⟨j+1,_,P2,by omega,by go_num,by rw [HF.out.2.2.2.2],HF.out.1,HF.out.2.1,HF.out.2.2.1,HF.out.2.2.2.1⟩
       case measure=>simp [intOf];omega
      ·as_aux_lemma=>
       have e1:((x:Int)==(lo:Int))=true:=beq_iff_eq.2 (by omega);have e2:((y:Int)==(hi:Int))=false:=beq_eq_false_iff_ne.2 (by omega)
       go_upto_if 93 with fail
       rw [HW1.out];go_upto_region 17 with fail
       go_region
       rw [HW2.out];go_upto_region 18 with fail
       go_region
       go_wp2_with fail;go_roundw;case rel=>exact ⟨j+1,_,P2,by omega,by go_num,by rw [HF.out.2.2.2.2],HF.out.1,HF.out.2.1,HF.out.2.2.1,HF.out.2.2.2.1⟩
       case measure=>simp [intOf];omega
    ·have hje:m=j:=by omega
     subst hje;have HC:Hid _:=zra g (λ i=>g+1+i) (2*n) a (n+b) (2*n) most M2 wr HR.out.1 (by omega) (by omega) (by omega) (by omega) HR.out.2.1.bd;have d0:=cell_below HG.out.1.c0 HR.out.2.2.2;have HPR:Hid (zd7 a b R R.length PR/\Below w1.heap.size w1 wr/\zb0 M2 (2*n)=zfn n a b PR):=⟨by rw [HMM.out];exact HR.out.2.2.1,HR.out.2.2.2,by funext S;rw [HR.out.2.1.cap S];rfl⟩;have HDF:Hid ((R.filter (zba a b)).length=dc):=by
      have:=HDC.out
      rwa [List.take_of_length_le (by rw [HMM.out];exact Nat.le_refl _)] at this
     clear HR HDC;go_wp2_with fail;refine Calls.mono HC.out ?_;rintro e w3 ⟨k,rfl,hvk,hka⟩;rw [HPR.out.2.2] at hvk;have hk:(k:Int)<=most:=hvk.le;have hwd:IntKind.i64.wrap ((dc:Int)+(k:Int))=(dc:Int)+(k:Int):=by rw [IntKind.wrap_i64];omega
     have HF:Hid (Val (zfn n a b PR) a ((n+b:Nat):Int) most k/\Below w1.heap.size w1 w3):=⟨hvk,HPR.out.2.1.trans (hka.old HPR.out.2.1.size (λ i _=>by have:=HGS.out;omega))⟩;clear hvk hka HC;go_wp2_with fail;go_ret2;exact ⟨k,PR,by rw [HDF.out];rfl,HPR.out.1,HF.out.1,HF.out.2⟩
theorem zoh (n B0 q b:Nat) (x:Int) (u:Value) (L:List (Int × Int × Int)) (w:World) (h:G.GAt w B0 168 61 q (n:Int) u L) (hb:w.cell? ⟨b,0,none⟩=some (.pointer (some ⟨q,0,none⟩))) (hx:¬(0<=x/\x<=(n:Int)-1)):
 Calls prog 312 #[.int .i64 x,.pointer (some ⟨b,0,none⟩)] w λ e w'=>e= .returned (.bool true)/\w'=w:=by
 have HG:=kd h;clear h;by_cases h1:x<0
 ·go_enter func312,ntmps312
  go_wp2_with fail;go_ret;exact ⟨rfl,rfl⟩
 ·have h2:(n:Int)<=x:=by omega
  go_enter func312,ntmps312;go_wp2_with fail;refine (G.zbb (n:Int) B0 q u L w HG.out).mono ?_;rintro e w1 ⟨rfl,hw1⟩;subst hw1;go_wp2_with fail;go_ret;have h4:decide ((n:Int)<=x)=true:=decide_eq_true h2
  first | exact ⟨by rw [h4],rfl⟩ | exact ⟨rfl,rfl⟩
theorem zoj (n B0 q b:Nat) (x:Int) (u:Value) (L:List (Int × Int × Int)) (w:World) (h:G.GAt w B0 168 61 q (n:Int) u L) (hb:w.cell? ⟨b,0,none⟩=some (.pointer (some ⟨q,0,none⟩))) (hx:0<=x/\x<=(n:Int)-1):
 Calls prog 312 #[.int .i64 x,.pointer (some ⟨b,0,none⟩)] w λ e w'=>e= .returned (.bool false)/\w'=w:=by
 obtain ⟨y,rfl⟩:∃y:Nat,x=(y:Int):=⟨x.toNat,by omega⟩;exact zg0 n B0 q b y u L w h hb (by omega)
def zcn (n:Nat) (a b most c:Int):Prop:=(¬zlm n a b most/\c=2)\/(zlm n a b most/\a=b/\c=1)
theorem zom (n B0 q:Nat) (a b m c:Int) (u:Value) (L:List (Int × Int × Int)) (w:World) (h:G.GAt w B0 168 61 q (n:Int) u L) (hno:zcn n a b m c):
 Calls prog 234 #[.pointer (some ⟨q,0,none⟩),.int .i64 a,.int .i64 b,.int .i64 m] w λ e w'=>e= .returned (.iface 23 (.int .i64 c))/\Below w.heap.size w w':=by
 have HG1:Hid (G.GAt (w.alloc (.cells #[.pointer (some ⟨q,0,none⟩)] 82)) B0 168 61 q (n:Int) u L):=h.below ((Below.refl _ _).alloc (Nat.le_refl _) _);have hc:(w.alloc (.cells #[.pointer (some ⟨q,0,none⟩)] 82)).cell? ⟨w.heap.size,0,none⟩=some (.pointer (some ⟨q,0,none⟩)):=by simp
 have HB:Hid (Below w.heap.size w (w.alloc (.cells #[.pointer (some ⟨q,0,none⟩)] 82))):=(Below.refl _ _).alloc (Nat.le_refl _) _;have HNO:=kd hno;clear h hno;go_enter func234,ntmps234;go_wp2_with fail;by_cases h1:0<=a/\a<=(n:Int)-1
 ·refine (zoj n B0 q w.heap.size a u L _ HG1.out hc h1).mono ?_
  rintro e w1 ⟨rfl,hw1⟩;rw [hw1];clear hw1;go_wp2_with fail;by_cases h2:0<=b/\b<=(n:Int)-1
  ·refine (zoj n B0 q w.heap.size b u L _ HG1.out hc h2).mono ?_
   rintro e w2 ⟨rfl,hw2⟩;rw [hw2];clear hw2;by_cases h3:m<0
   ·have hce:c=2:=by
     rcases HNO.out with ⟨_,k⟩ | ⟨k,_⟩
     ·exact k
     ·obtain ⟨_,_,k3,_⟩:=k;omega
    subst hce;clear HG1 hc;go_wp2_with fail;go_ret;exact ⟨rfl,HB.out⟩
   ·by_cases h4:m > 120
    ·have hce:c=2:=by
      rcases HNO.out with ⟨_,k⟩ | ⟨k,_⟩
      ·exact k
      ·obtain ⟨_,_,_,k3⟩:=k;omega
     subst hce;clear HG1 hc;go_wp2_with fail;go_ret;exact ⟨rfl,HB.out⟩
    ·obtain ⟨hab,hce⟩:a=b/\c=1:=by
      rcases HNO.out with ⟨k,_⟩ | ⟨_,k⟩
      ·exact absurd ⟨h1,h2,by omega,by omega⟩ k
      ·exact k
     subst hab;subst hce;clear HG1 hc;go_wp2_with fail;go_ret;exact ⟨rfl,HB.out⟩
  ·refine (zoh n B0 q w.heap.size b u L _ HG1.out hc h2).mono ?_
   rintro e w2 ⟨rfl,hw2⟩;rw [hw2];have hce:c=2:=by
    rcases HNO.out with ⟨_,k⟩ | ⟨k,_⟩
    ·exact k
    ·exact absurd k.2.1 h2
   subst hce;clear HG1 hc hw2;go_wp2_with fail;go_ret;exact ⟨rfl,HB.out⟩
 ·refine (zoh n B0 q w.heap.size a u L _ HG1.out hc h1).mono ?_
  rintro e w1 ⟨rfl,hw1⟩;rw [hw1];have hce:c=2:=by
   rcases HNO.out with ⟨_,k⟩ | ⟨k,_⟩
   ·exact k
   ·exact absurd k.1 h1
  subst hce;clear HG1 hc hw1;go_wp2_with fail;go_ret;exact ⟨rfl,HB.out⟩
theorem zow (n B0 q:Nat) (a b m c:Int) (u:Value) (L:List (Int × Int × Int)) (w:World) (h:G.GAt w B0 168 61 q (n:Int) u L) (hno:zcn n a b m c):
 Calls prog 128 #[.pointer (some ⟨q,0,none⟩),.int .i64 a,.int .i64 b,.int .i64 m] w λ e w'=>e= .returned (.tuple #[.int .i64 0,.iface 23 (.int .i64 c)])/\Below w.heap.size w w':=by
 have HC:Hid _:=zom n B0 q a b m c u L w h hno;clear h hno;go_enter func128,ntmps128;go_wp2_with fail;refine Calls.mono HC.out ?_;rintro e w1 ⟨rfl,hb1⟩;have HB:=kd hb1;clear hb1 HC;go_wp2_with fail;go_ret2;exact ⟨rfl,HB.out⟩
theorem zos (n B0 q:Nat) (a b m c:Int) (u:Value) (L:List (Int × Int × Int)) (w:World) (h:G.GAt w B0 168 61 q (n:Int) u L) (hno:zcn n a b m c):
 Calls prog 129 #[.pointer (some ⟨q,0,none⟩),.int .i64 a,.int .i64 b,.int .i64 m] w λ e w'=>e= .returned (.tuple #[.int .i64 0,.iface 23 (.int .i64 c)])/\Below w.heap.size w w':=by
 have HC:Hid _:=zom n B0 q a b m c u L w h hno;clear h hno;go_enter func129,ntmps129;go_wp2_with fail;refine Calls.mono HC.out ?_;rintro e w1 ⟨rfl,hb1⟩;have HB:=kd hb1;clear hb1 HC;go_wp2_with fail;go_ret2;exact ⟨rfl,HB.out⟩
theorem ztf (n B q:Nat) (u:Value) (R:List Stp) (a b m c:Int) (w:World) (h:G.GAt w B 40 61 q (n:Int) u R) (hn:n<=100) (hno:zcn n a b m c):
 Calls prog 125 #[.pointer (some ⟨q,0,none⟩),.int .i64 a,.int .i64 b,.int .i64 m] w λ e w'=>e= .returned (.int .i64 c)/\w'=w:=by
 rcases hno with ⟨k,rfl⟩ | ⟨k,hab,rfl⟩
 ·exact yaah n B q u R a b m w h hn k
 ·exact zpa n B q u R a b m w h hn k 1 (.inl ⟨hab,rfl⟩)
theorem zcn.ne {n:Nat} {a b m c:Int} (h:zcn n a b m c):c≠0:=by
 rcases h with ⟨_,rfl⟩ | ⟨_,_,rfl⟩ <;> omega
theorem z8m (n B q:Nat) (u:Value) (R:List Stp) (a b m c:Int) (w:World) (h:G.GAt w B 40 61 q (n:Int) u R) (hn:n<=100) (hno:zcn n a b m c):
 Calls prog 68 #[.pointer (some ⟨q,0,none⟩),.int .i64 a,.int .i64 b,.int .i64 m] w λ e w'=>e= .returned (.tuple #[.int .i64 0,.int .i64 c])/\w'=w:=by
 have HC:Hid _:=ztf n B q u R a b m c w h hn hno;have hne:(c==0)=false:=beq_eq_false_iff_ne.2 hno.ne;clear h hno;go_enter func68,ntmps68;go_wp2_with fail;refine Calls.mono HC.out ?_;rintro e w1 ⟨rfl,hw1⟩;subst hw1;clear HC;go_wp2_with fail;go_ret2;exact ⟨rfl,rfl⟩
theorem z8u (n B q:Nat) (u:Value) (R:List Stp) (a b m c:Int) (w:World) (h:G.GAt w B 40 61 q (n:Int) u R) (hn:n<=100) (hno:zcn n a b m c):
 Calls prog 69 #[.pointer (some ⟨q,0,none⟩),.int .i64 a,.int .i64 b,.int .i64 m] w λ e w'=>e= .returned (.tuple #[.int .i64 0,.int .i64 c])/\w'=w:=by
 have HC:Hid _:=ztf n B q u R a b m c w h hn hno;have hne:(c==0)=false:=beq_eq_false_iff_ne.2 hno.ne;clear h hno;go_enter func69,ntmps69;go_wp2_with fail;refine Calls.mono HC.out ?_;rintro e w1 ⟨rfl,hw1⟩;subst hw1;clear HC;go_wp2_with fail;go_ret2;exact ⟨rfl,rfl⟩
end Go.Proofs.YtebcjaenhiiflaaGreatDoor.S
