import Derived.Test.YtebcjaenhiiflaaGreatDoorQFfFl
import Derived.Shelf.SlicesQ.Reverse
import Derived.Ground.SlgnProg
set_option maxHeartbeats 8000000
set_option maxRecDepth 100000
namespace Go.Proofs
open Go.Shelf
def Tryz.rev124_ren:Go.Shelf.Ren:=⟨λ | 35=>350 | n=>n,λ | 22=>347 | 23=>346 | 3=>3 | 4=>4 | 0=>0 | n=>n,λ | n=>n⟩
theorem Tryz.rev161:Go.Proofs.SlLaysE0.n35 Tryz.prog Tryz.rev124_ren:={
 mixed:=by kernel_rfl
 f35:=⟨Tryz.f350.name,by decide,Tryz.func350.trans (congrArg some (by kernel_rfl))⟩
 t0:=Tryz.underlying0
 a0:=Tryz.isAgg0
 z0:=Tryz.sizeOf0
 v0:=Tryz.zeroValue0
 t3:=Tryz.underlying3
 a3:=Tryz.isAgg3
 z3:=Tryz.sizeOf3
 v3:=Tryz.zeroValue3
 t4:=Tryz.underlying4
 a4:=Tryz.isAgg4
 z4:=Tryz.sizeOf4
 v4:=Tryz.zeroValue4
 t22:=Tryz.underlying347
 a22:=Tryz.isAgg347
 z22:=Tryz.sizeOf347
 v22:=Tryz.zeroValue347}
end Go.Proofs
namespace Go.Proofs.YtebcjaenhiiflaaGreatDoor.S
open Go Go.ChangeMaps Go.MapKept Go.WideShapes
open Go.RowKit Go.WideMaps Go.Maps Go.Sort F
theorem rowV_get (L:List Stp) (t:Nat) (h:t<L.length*3):(G.rowV L)[t]? =some ((G.encE (L[t/3]!))[t%3]!):=by
 have hi:t/3<L.length:=by omega
 obtain ⟨a,b,c⟩:=G.rowV_at L (t/3) L[t/3] (List.getElem?_eq_getElem hi);rw [getElem!_pos L (t/3) hi];have hm:t%3=0\/t%3=1\/t%3=2:=by omega
 rcases hm with e | e | e
 ·rw [show t/3*3=t by omega] at a
  rw [a,e];rfl
 ·rw [show t/3*3+1=t by omega] at b
  rw [b,e];rfl
 ·rw [show t/3*3+2=t by omega] at c
  rw [c,e];rfl
theorem flat_get (L:List Stp) (t:Nat) (h:t<L.length*3):(G.rowV L)[t]? =some (flatK G.encE 3 L.toArray)[t]! :=by
 rw [get_flatK _ _ _ _ (by simpa using h),rowV_get L t h];have hi:t/3<L.length:=by omega
 rw [getElem!_pos L (t/3) hi,getElem!_pos L.toArray (t/3) (by simpa using hi)];simp
theorem one_enc (x:Stp):∀v∈G.encE x,v.oneCell'=true:=λ v hv=>by
 simp [G.encE] at hv;rcases hv with rfl | rfl | rfl <;> rfl
theorem rev_any (w:World) (B:Nat) (v:Value) (P:List Stp) (h:G.Owns w B 346 v P) (hP:P.length<=100000):
 Calls Tryz.prog 350 #[v] w λ e w'=>e= .returned (.tuple #[])/\G.Owns w' B 346 v P.reverse/\w.grownBy w' v.ownBlock:=by
 rcases h.2 with ⟨rfl,h0⟩ | ⟨g,cap,cur,rfl,hb,hg,hn,hm,hs,ht⟩
 ·refine (AnyQ.slices_Reverse_empty Tryz.rev161 none 0 w).mono ?_
  rintro e w' ⟨rfl,rfl⟩;have:P=[]:=List.eq_nil_of_length_eq_zero h0;subst this;exact ⟨rfl,h,⟨rfl,rfl,rfl,Nat.le_refl _,λ _ _ _=>rfl⟩⟩
 ·have hH:HoldsK G.encE 3 w g 0 P.toArray:=λ j hj=>by
   have hj':j<P.length*3:=by simpa using hj
   refine ⟨?_,by simp [World.frozen?,hg]⟩;have:=World.ownsRow.cells h rfl j _ (flat_get P j hj');rw [G.addr0_add] at this;rw [Nat.zero_add];exact this
  have hc:=AnyQ.slices_Reverse Tryz.rev161 3 Tryz.isAgg346 Tryz.sizeOf346 G.encE (λ _=>rfl) one_enc g 0 cap P.toArray w hH (by simp;omega);rw [show P.toArray.size=P.length by simp] at hc;refine Calls.mono hc ?_;rintro e w' ⟨rfl,n,rfl⟩;refine ⟨rfl,⟨by rw [G.rowV_length],.inr ⟨g,cap,putCells id 0 (flatK G.encE 3 P.toArray.reverse) cur,by simp,hb,?_,by simpa using hn,hm,by simpa [putCells] using hs,?_⟩⟩,⟨rfl,rfl,rfl,by simp [putRowK,putRow,mapBlock,Sort.ahead],λ k hk hne=>?_⟩⟩
  ·simp [putRowK,putRow,mapBlock,Sort.ahead,Array.getElem?_modify,hg,onCells]
  ·apply List.ext_getElem?
   intro j;rw [List.getElem?_take,Array.getElem?_toList];by_cases hj:j<P.reverse.length*3
   ·have hl:P.reverse.length=P.length:=by simp
    have hn3:=Nat.mul_le_mul_right 3 hn;have hjc:j<cur.size:=by omega
    rw [if_pos hj,flat_get P.reverse j hj];simp only [putCells,Array.getElem?_mapIdx,Array.getElem?_eq_getElem hjc,Option.map_some];rw [if_pos (by simp;omega)];simp
   ·rw [if_neg hj,List.getElem?_eq_none (by rw [G.rowV_length];omega)]
  ·have hne':g≠k:=λ e=>hne (by rw [<-e];rfl)
   simp [putRowK,putRow,mapBlock,Sort.ahead,Array.getElem?_modify,hne']
open Go.RowKit Go.WideMaps Go.Maps F
def WayPost2 (w:World) (D:List Stp) (inn:Stp->Bool) (a b:Int) (e:Ending) (w':World):Prop:=
 ∃v P,e= .returned v/\Below w.heap.size w w'/\G.Owns w' w.heap.size 346 v P/\((Walk a P b/\P.Nodup/\∀s∈P,s∈D/\inn s=true)\/(P=[]/\∃S:Int->Bool,S a=true/\S b=false/\∀s∈D,out S s=true->inn s=false))
theorem field146 (x y z:Int) (w:World):(Instr.field 346 (.agg #[.int .i64 x,.int .i64 y,.int .i64 z]) 1).run Tryz.prog w= .ok (.int .i64 y) w:=by kernel_rfl
theorem search_any (p lm rm N B:Nat) (M:DataW Unit) (L:DataW Value) (D:List Stp) (r:Stp->Int) (f:Int->Value) (g:Int->List Stp) (inn:Stp->Bool) (a b:Int) (w:World) (h:NetA w p lm rm N B M L D r f g)
 (hg:∀x s,s∈g x↔s∈D/\fr s=x) (hgl:∀x,(g x).length<=1000) (hr:∀s∈D,0<=tt s/\tt s<1000) (hDl:D.length<=1000) (ha0:0<=a) (ha1:a<1000) (hb0:0<=b) (hb1:b<1000)
 (hf:∀W s,s∈D->Below w.heap.size w W->Calls Tryz.prog 316 #[.pointer (some ⟨p,0,none⟩),vS s] W λ e w'=>e= .returned (.bool (inn s))/\Below W.heap.size W w'):
 Calls Tryz.prog 315 #[.pointer (some ⟨p,0,none⟩),.int .i64 a,.int .i64 b,.func (.func 316) #[.pointer (some ⟨p,0,none⟩)] #[]] w (WayPost2 w D inn a b):=by
 have HF:Hid (∀W s,s∈D->Below w.heap.size w W->Calls Tryz.prog 316 #[.pointer (some ⟨p,0,none⟩),vS s] W λ e w'=>e= .returned (.bool (inn s))/\Below W.heap.size W w'):=hf;have HN:Hid (NetA w p lm rm N B M L D r f g):=h;have HG:Hid ((∀x s,s∈g x↔s∈D/\fr s=x)/\(∀x,(g x).length<=1000)/\∀s∈D,0<=tt s/\tt s<1000):=⟨hg,hgl,hr⟩;obtain ⟨w1,r1,hsz1,c0,hS0,hQ0⟩:=sea_start w g inn ha0 ha1;have HS0:Hid (OutR w w.heap.size g inn a 0 (.slice (some ⟨w1.heap.size,0,none⟩) 1 1) (w1.alloc (.cells #[.int .i64 a] 3))):=⟨[a],c0,hS0,Nat.zero_le _,hQ0,λ k y hk=>by omega⟩;have hmm:=@run_makeMap Tryz.prog;obtain ⟨cb,hcb⟩:∃cb,w.heap.size=cb:=⟨_,rfl⟩;have HCB:Hid (w.heap.size=cb):=hcb;clear h hf hg hgl hr hS0 hQ0 hsz1;unfold vS at r1;rw [hcb] at r1 HS0;go_enter Tryz.func315,Tryz.ntmps315;go_wp2_with fail;clear hcb;go_loopg [10] 1000 (λ rr s10 wq=>∃i,i+rr=1000/\OutR w cb g inn a i s10 wq)
 case atStart=>exact ⟨0,by omega,HS0.out⟩
 case round=>
  clear HS0 r1;obtain ⟨i,hi,hout⟩:=hrel;obtain ⟨q,c,hsea,hiq,⟨ad,cap,rfl,hq⟩,hdn⟩:=hout;have HSEA:Hid (Sea w wr cb g inn a q c):=hsea;have HDN:Hid (Dn g inn q i):=hdn;have hql:=hsea.len;obtain ⟨ln,hln⟩:∃ln,(q.drop i).length=ln:=⟨_,rfl⟩;have HLN:Hid ((q.drop i).length=ln):=hln;have HQ:Hid (q.drop i≠[]->∃g o,ad=some ⟨g,o,none⟩/\Que wr w.heap.size g o cap (q.drop i)):=hq;rw [hln];obtain ⟨wy,hwy⟩:∃wy,wy=wr:=⟨_,rfl⟩;subst hwy;obtain ⟨gk1,hgk1⟩:∃gk1,gk1=gk:=⟨_,rfl⟩;subst hgk1;clear hsea hdn hq hln;by_cases hpos:0<ln
  ·
   have hlnq:ln=q.length-i:=by have:=HLN.out;simp at this;omega
   have hiq2:i<q.length:=by omega
   have hne:q.drop i≠[]:=λ e=>by have:=HLN.out;rw [e] at this;simp at this;omega
   obtain ⟨gq,o,had,hque⟩:=HQ.out hne;subst had;obtain ⟨x,hx⟩:∃x,q[i]? =some x:=⟨_,List.getElem?_eq_getElem (by omega)⟩;have hx0:=HSEA.out.rng x (List.mem_of_getElem? hx);have hc10:wy.cell? ⟨gq,o,none⟩=some (.int .i64 x):=by
    have:=hque.got 0 x (by rw [List.getElem?_drop];simpa using hx)
    simpa using this
   have hA:=HN.out.below HSEA.out.bel;have hp0:wy.cell? ⟨p,0,none⟩=some (.map (some lm)):=by simp [World.cell?,hA.net.hp]
   obtain ⟨va,vc,hv⟩:=(hA.lv.row x).slice_len;obtain ⟨m,hm⟩:∃m,(g x).length=m:=⟨_,rfl⟩;rw [hm] at hv;have lk:∀n,(Instr.lookup 376 (.map (some lm)) (.int .i64 x) false).run Tryz.prog (wy.drewN n)= .ok (.slice va m vc) (wy.drewN n):=λ n=>by
    rw [<-hv];exact (hA.below (below_drewN (Below.refl _ _) n)).lv.look (wf_small hx0.1 (by omega))
   have HM:Hid ((g x).length=m):=hm;have HV:Hid (f x= .slice va m vc):=hv;have hml:m<=1000:=by rw [<-hm];exact HG.out.2.1 x
   have HX:Hid (q[i]? =some x):=hx;have HQUE:Hid (Que wy w.heap.size gq o cap (q.drop i)):=hque;have HL2:Hid (ln=q.length-i):=hlnq;clear hA hv hm hx hque hne HQ hlnq;go_wp2_with fail;go_quiet (fail);go_wp2_with fail;have HIN:Hid (InR w cb g inn a i x 0 (.slice (some ⟨gq,o,none⟩) ln cap) (wy.drewN nq)):=by
    have hb:=below_drewN (Below.refl wy.heap.size wy) nq;rw [HL2.out];exact ⟨q,c,gq,o,cap,HSEA.out.below hb,HX.out,rfl,HQUE.out.kept (grown_below hb) (by simp),HDN.out,λ s hs=>by simp at hs⟩
   clear HSEA HDN HLN HX HQUE HL2 lk hc10 hp0;obtain ⟨wz,hwz⟩:∃wz,wy.drewN nq=wz:=⟨_,rfl⟩;rw [hwz] at HIN ⊢;clear hwz;go_loopg [10,39] m (λ rr s10 s39 wq=>∃j:Nat,s39= .int .i64 j/\j+rr=m/\InR w cb g inn a i x j s10 wq)
   case atStart=>exact ⟨0,rfl,by omega,HIN.out⟩
   case round=>
    clear HIN;obtain ⟨j,rfl,hj,hin⟩:=hrel;have HIN:Hid (InR w cb g inn a i x j u10 wr):=hin;clear hin;by_cases hjm:j<m
    ·obtain ⟨q',c',gq',o',cap',hsea,hx,hu,hque,hdn,hjj⟩:=HIN.out
     subst hu;obtain ⟨⟨y0,y1,y2⟩,hs⟩:∃s:Stp,(g x)[j]? =some s:=⟨_,List.getElem?_eq_getElem (by rw [HM.out];exact hjm)⟩;have hsg:=List.mem_of_getElem? hs;obtain ⟨hsD,hsx⟩:=(HG.out.1 x _).1 hsg;have htt:0<=y2/\y2<1000:=HG.out.2.2 _ hsD;have hA:=HN.out.below hsea.bel;obtain ⟨gw,hva⟩:∃gw,va=some ⟨gw,0,none⟩:=by
      rcases (hA.lv.row x).shape with ⟨_,e⟩ | ⟨gw,cap,e,_⟩
      ·rw [e] at hs;simp at hs
      ·rw [HV.out] at e
       injection e with e1 _ _
       exact ⟨gw,e1⟩
     subst hva;obtain ⟨r0,r1,r2⟩:=(hA.lv.row x).at (g:=gw) (by rw [HV.out];rfl) hs;simp only at r0 r1 r2;have hbW:Below wr.heap.size wr (wr.alloc (.cells #[.int .i64 y0,.int .i64 y1,.int .i64 y2] 346)):=(Below.refl _ _).alloc (Nat.le_refl _) _;have lk:=((hsea.below hbW).look htt.1 htt.2).1;have HSK:Hid ((inn (y0,y1,y2)=true->y2∈q')->∀w',Below wr.heap.size wr w'->InR w cb g inn a i x (j+1) (.slice (some ⟨gq',o',none⟩) (q'.length-i) cap') w'):=λ hn w' hb=>InR.skip hsea hx hque hdn hjj hs hn hb
     obtain ⟨lq,hlq⟩:∃lq,q'.length-i=lq:=⟨_,rfl⟩;rw [hlq] at HSK;have HLQ:Hid (q'.length-i=lq):=hlq;have HSEA:Hid (Sea w wr cb g inn a q' c'):=hsea;have HREST:Hid (q'[i]? =some x/\Que wr w.heap.size gq' o' cap' (q'.drop i)/\Dn g inn q' i/\(∀s∈(g x).take j,inn s=true->tt s∈q')/\(g x)[j]? =some (y0,y1,y2)/\(y0,y1,y2)∈D/\y1=x/\i<q'.length):=⟨hx,hque,hdn,hjj,hs,hsD,hsx,(List.getElem?_eq_some_iff.1 hx).1⟩;rw [hlq];have HBX:Hid (∀t:Stp,((wr.alloc (.cells #[.int .i64 y0,.int .i64 y1,.int .i64 y2] 346)).alloc (.cells #[.int .i64 t.1,.int .i64 t.2.1,.int .i64 t.2.2] 346)).heap[wr.heap.size]? =some (.cells #[.int .i64 y0,.int .i64 y1,.int .i64 y2] 346)):=λ t=>heap_alloc2_old wr _ _
     have HBB:Hid (∀t:Stp,Below wr.heap.size wr ((wr.alloc (.cells #[.int .i64 y0,.int .i64 y1,.int .i64 y2] 346)).alloc (.cells #[.int .i64 t.1,.int .i64 t.2.1,.int .i64 t.2.2] 346))):=λ t=>hbW.alloc (by simp) _
     clear hx hque hdn hjj hs hsg hsD hsx hA hbW hsea hlq HIN;cases hc:c' y2 with
     | some t=>
       as_aux_lemma=>
       obtain ⟨t0,t1,t2⟩:=t;have HE:Hid _:=HSK.out (λ _=>(HSEA.out.has y2).1 (by rw [hc];rfl)) _ (HBB.out (t0,t1,t2));rw [hc] at lk;unfold vS at lk;simp only [Option.getD,Option.isSome] at lk HE;clear hc HSK HREST HSEA HBX HBB HLQ;go_wp2_with fail;go_roundg (gk-1);case measure=>omega
       case rel=>exact ⟨j+1,by go_num,by omega,HE.out⟩
     | none=>
       obtain ⟨W2,hW2⟩:∃W2,W2=(wr.alloc (.cells #[.int .i64 y0,.int .i64 y1,.int .i64 y2] 346)).alloc (.cells #[.int .i64 0,.int .i64 0,.int .i64 0] 346):=⟨_,rfl⟩;have hbW2:Below wr.heap.size wr W2:=by rw [hW2];exact HBB.out (0,0,0)
       have hbx:W2.heap[wr.heap.size]? =some (.cells #[.int .i64 y0,.int .i64 y1,.int .i64 y2] 346):=by rw [hW2];exact HBX.out (0,0,0)
       have p0:W2.cell? ⟨wr.heap.size,0,none⟩=some (.int .i64 y0):=by simp [World.cell?,hbx]
       have p1:W2.cell? ⟨wr.heap.size,1,none⟩=some (.int .i64 y1):=by simp [World.cell?,hbx]
       have p2:W2.cell? ⟨wr.heap.size,2,none⟩=some (.int .i64 y2):=by simp [World.cell?,hbx]
       have HW2:Hid ((wr.alloc (.cells #[.int .i64 y0,.int .i64 y1,.int .i64 y2] 346)).alloc (.cells #[.int .i64 0,.int .i64 0,.int .i64 0] 346)=W2):=hW2.symm;have hbel:Below w.heap.size w W2:=HSEA.out.bel.trans (hbW2.mono HSEA.out.bel.size);have HC:Hid _:=HF.out W2 (y0,y1,y2) HREST.out.2.2.2.2.2.1 hbel;have HB2:Hid (Below wr.heap.size wr W2):=hbW2;rw [hc] at lk;unfold vS at lk HC;simp only [Option.getD,Option.isSome] at lk;have HCN:Hid (c' y2=none):=hc;clear hc HBX HBB hW2 hbW2 hbx hbel;go_wp2_with fail;rw [HW2.out];refine Calls.mono HC.out ?_;rintro e w3 ⟨rfl,hb3⟩;have HB3:Hid (Below wr.heap.size wr w3):=HB2.out.trans (hb3.mono HB2.out.size);have q0:=cell_below p0 hb3;have q1:=cell_below p1 hb3;have q2:=cell_below p2 hb3;clear p0 p1 p2 lk hb3 HC r0 r1 r2;cases hin:inn (y0,y1,y2) with
       | false=>
         as_aux_lemma=>
         have HE:Hid _:=HSK.out (λ h=>by rw [hin] at h;cases h) w3 HB3.out;clear hin HSK HREST HSEA HLQ q0 q1 q2;go_wp2_with fail;go_roundg (gk-1);case measure=>omega
         case rel=>exact ⟨j+1,by go_num,by omega,HE.out⟩
       | true=>
         as_aux_lemma=>
         obtain ⟨h1,h2,h3,h4,h5,h6,h7,h8⟩:=HREST.out;obtain ⟨w4,u4,g4,w6,v6,g6,o6,cap6,a6,e6,s6,q6⟩:=sea_more (i:=i) (s:=(y0,y1,y2)) (HSEA.out.below HB3.out) (h2.kept (grown_below HB3.out) (by simp)) (by rw [h1];exact congrArg some h7.symm) (by rw [show fr (y0,y1,y2)=x from h7];exact List.mem_of_getElem? h5) hin HCN.out htt.1 htt.2;have hbc:wr.heap.size≠cb:=by
          obtain ⟨N,C,hcm,_⟩:=(HSEA.out.below HB3.out).cm;exact hcm.ne_cells q0
         have p2:=keep_cell g4 hbc q2;have HE:Hid (InR w cb g inn a i x (j+1) (.slice (some ⟨g6,o6,none⟩) (lq+1) cap6) w6):=by
          have:=InR.more (s:=(y0,y1,y2)) h1 h3 h4 h5 s6 q6;rw [show q'.length+1-i=lq+1 by have:=HLQ.out;omega] at this;exact this
         rw [show q'.length+1-i=lq+1 by have:=HLQ.out;omega] at e6;rw [HLQ.out] at a6;subst e6;have HR:Hid (_=_):=a6;unfold vS tt at u4;unfold tt at HR;simp only at u4 HR;clear h1 h2 h3 h4 h5 h6 h7 h8 hin g4 s6 q6 a6 HSK HREST HSEA HLQ HCN;go_wp2_with (at_builtin;refine Lib.wpList_append_run _ rfl _ _ _ _ rfl _ _ rfl rfl _ _ HR.out ?_);go_roundg (gk-1);case measure=>omega
         case rel=>exact ⟨j+1,by go_num,by omega,HE.out⟩
    ·have hje:m=j:=by omega
     subst hje;obtain ⟨gq',o',len,cap',hu,hlc,hout,hout0⟩:=HIN.out.done (by rw [HM.out];exact Nat.le_refl _);subst hu;by_cases hcz:cap'=0
     ·as_aux_lemma=>
      have hlz:len=0:=by omega
      subst hcz;subst hlz;have HO:Hid (OutR w cb g inn a (i+1) (.slice (some ⟨gq',o',none⟩) 0 0) wr):=hout0 rfl _ _;clear HIN hout hout0;go_wp2_with fail;go_roundg (gk1-1);case measure=>omega
      case rel=>exact ⟨i+1,by omega,HO.out⟩
     ·as_aux_lemma=>
      have HO:Hid (OutR w cb g inn a (i+1) (.slice (some ⟨gq',o'+1,none⟩) len cap') wr):=hout;clear HIN hout hout0;go_wp2_with fail;go_roundg (gk1-1);case measure=>omega
      case rel=>exact ⟨i+1,by omega,HO.out⟩
  ·have hln0:ln=0:=by omega
   subst hln0;have hiq2:i=q.length:=by have:=HLN.out;simp at this;omega
   subst hiq2;have lk:=(HSEA.out.look hb0 hb1).1;cases hcb2:c b with
   | none=>
     as_aux_lemma=>
     have HCL:Hid _:=sea_closed HSEA.out HDN.out (D:=D) (λ s hs=>(HG.out.1 _ _).2 ⟨hs,rfl⟩) hcb2;rw [hcb2] at lk;unfold vS at lk;simp only [Option.getD,Option.isSome] at lk;clear hcb2;go_wp2_with fail;go_ret;refine ⟨_,[],rfl,HSEA.out.bel.trans ((Below.refl _ _).alloc HSEA.out.bel.size _),World.ownsRow_nil _ _ _ _,.inr ⟨rfl,HCL.out⟩⟩
   | some t=>
     as_aux_lemma=>
     obtain ⟨t0,t1,t2⟩:=t;rw [hcb2] at lk;unfold vS at lk;simp only [Option.getD,Option.isSome] at lk;obtain ⟨k0,hk0,hk0e⟩:=List.mem_iff_getElem.1 ((HSEA.out.has b).1 (by rw [hcb2];rfl));have HK0:Hid (Back g inn q b b k0 []):=Back.start (by rw [List.getElem?_eq_getElem hk0,hk0e]);have HS5:Hid (Sea w (wy.alloc (.cells #[.int .i64 t0,.int .i64 t1,.int .i64 t2] 346)) cb g inn a q c):=HSEA.out.below ((Below.refl _ _).alloc (Nat.le_refl _) _);clear hcb2 hk0 hk0e HSEA;go_wp2_with fail;go_loopg [17,18] k0 (λ rr s17 s18 wq=>∃at_ P,s18= .int .i64 at_/\Back g inn q at_ b rr P/\Sea w wq cb g inn a q c/\G.Owns wq (cb+1) 346 s17 P)
     case atStart=>exact ⟨b,[],rfl,HK0.out,HS5.out,World.ownsRow_nil _ _ _ _⟩
     case round=>
      clear HK0 HS5 lk;obtain ⟨at_,P,rfl,hback,hsea,hown⟩:=hrel;have HB:Hid (Back g inn q at_ b gk P/\Sea w wr cb g inn a q c/\G.Owns wr (cb+1) 346 u17 P):=⟨hback,hsea,hown⟩;have hat:=hsea.rng at_ (List.mem_of_getElem? hback.here);have hPl:P.length<=1000:=Nat.le_trans (nodup_sub P D hback.nd (λ s hs=>((HG.out.1 _ _).1 (hback.good s hs).2).1)) hDl;clear hback hown;by_cases hae:at_=a
      ·as_aux_lemma=>
       subst hae;have HRV:Hid _:=rev_any wr (cb+1) u17 P HB.out.2.2 (by omega);go_wp2_with fail;refine Calls.mono HRV.out ?_;rintro e w5 ⟨rfl,ho5,hg5⟩;have HP:Hid (Below w.heap.size w w5/\G.Owns w5 w.heap.size 346 u17 P.reverse):=by
        have h1:=(HB.out.2.1.row HB.out.2.2 hg5).bel;exact ⟨h1,ho5.mono (by rw [<-HCB.out];omega)⟩
       clear ho5 hg5 HRV;go_wp2_with fail;go_ret;refine ⟨_,P.reverse,rfl,HP.out.1,HP.out.2,.inl ⟨HB.out.1.walk,(List.pairwise_reverse.2 (HB.out.1.nd.imp (λ h=>h.symm))),λ s hs=>?_⟩⟩;have:=HB.out.1.good s (List.mem_reverse.1 hs);exact ⟨((HG.out.1 _ _).1 this.2).1,this.1⟩
      ·as_aux_lemma=>
       obtain ⟨k',hk',hback'⟩:=Back.step HB.out.2.1.bfs HB.out.1 hae;have lk:=(hsea.look hat.1 hat.2).2;obtain ⟨t,ht⟩:∃t,(c at_).getD (0,0,0)=t:=⟨_,rfl⟩;rw [ht] at lk;simp only [ht] at hback';obtain ⟨v6,w6,a6,o6,g6⟩:=more_S 347 wr (cb+1) u17 P t HB.out.2.2 (by
        obtain ⟨N,C,hcm,_⟩:=hsea.cm;obtain ⟨es,clock,hb,_⟩:=hcm.mp;exact lt_of_some hb) (by omega)
       have hsea6:=hsea.row HB.out.2.2 g6;have lk6:=(hsea6.look hat.1 hat.2).2;rw [ht] at lk6;have HE:Hid (Back g inn q (fr t) b k' (P++[t])/\Sea w w6 cb g inn a q c/\G.Owns w6 (cb+1) 346 v6 (P++[t])):=⟨hback',hsea6,o6⟩;have HR:Hid (_=_):=a6;obtain ⟨t0,t1,t2⟩:=t;unfold vS at lk lk6;unfold fr at HE;simp only at lk lk6 HR HE;have hb1:(at_ != a)=true:=by simp [hae]
       have hfd:=field146;clear ht a6 o6 g6 hsea6 hback' hsea HB;go_wp2_with (at_builtin;refine Lib.wpList_append_run _ rfl _ _ _ _ rfl _ _ rfl rfl _ _ HR.out ?_);go_roundg k';case measure=>exact hk'
       case rel=>exact ⟨t1,_,rfl,HE.out.1,HE.out.2.1,HE.out.2.2⟩
theorem bk_inj {s t:Stp} (h:bk s=bk t):s=t:=by rw [<-bk_bk s,h,bk_bk]
theorem tk_sum (r:Stp->Int) {s:Stp} (hs:fr s≠tt s) (x:Stp):tk r s x+tk r s (bk x)=r x+r (bk x):=by
 have hb:=bk_ne hs;rw [tk_at r hs,tk_at r hs];by_cases h1:x=s
 ·subst h1
  rw [if_pos rfl,if_neg hb,if_pos rfl];omega
 ·by_cases h2:x=bk s
  ·subst h2
   rw [if_neg hb,if_pos rfl,bk_bk,if_pos rfl];omega
  ·have h3:bk x≠s:=λ e=>h2 (by rw [<-e,bk_bk])
   have h4:bk x≠bk s:=λ e=>h1 (bk_inj e)
   rw [if_neg h1,if_neg h2,if_neg h3,if_neg h4]
theorem tks_sum:∀(p:List Stp) (r:Stp->Int),(∀s∈p,fr s≠tt s)->∀x,tks r p x+tks r p (bk x)=r x+r (bk x)
 | [],_,_,_=>rfl
 | s::p,r,h,x=>by
   show tks (tk r s) p x+tks (tk r s) p (bk x)=_;rw [tks_sum p (tk r s) (λ t ht=>h t (by simp [ht])) x,tk_sum r (h s (by simp)) x]
theorem tks_other:∀(p:List Stp) (r:Stp->Int) (s:Stp),(∀t∈p,fr t≠tt t)->s∉p->r s<=tks r p s
 | [],_,_,_,_=>Int.le_refl _
 | t::p,r,s,h,hn=>by
   have h1:=tks_other p (tk r t) s (λ x hx=>h x (by simp [hx])) (λ k=>hn (by simp [k]));have h2:s≠t:=λ e=>hn (by simp [e])
   have h3:=tk_at r (h t (by simp)) (x:=s);rw [if_neg h2] at h3;have h4:r s<=tk r t s:=by rw [h3];split <;> omega
   exact Int.le_trans h4 h1
theorem tks_step {p:List Stp} {j:Nat} {s:Stp} (h:p[j]? =some s) (r:Stp->Int):tks r (p.take (j+1))=tk (tks r (p.take j)) s:=by
 rw [List.take_add_one,h];exact tks_snoc r _ s
theorem not_mem_take {p:List Stp} {j:Nat} {s:Stp} (hn:p.Nodup) (h:p[j]? =some s):s∉p.take j:=by
 intro k;obtain ⟨i,hi,he⟩:=List.mem_iff_getElem.1 k;have hij:i<j/\i<p.length:=by rw [List.length_take] at hi;omega
 rw [List.getElem_take] at he;have:=(List.getElem?_inj hij.2 hn).1 ((List.getElem?_eq_getElem hij.2).trans ((congrArg some he).trans h.symm));omega
section
variable {w w':World} {p lm rm N N' B:Nat} {M M':DataW Unit} {L:DataW Value} {D:List Stp} {r r':Stp->Int} {f:Int->Value} {g:Int->List Stp}
theorem But.grown {b:Nat} (h:But b w w'):w.grownBy w' (some b):=⟨h.os,h.tape,h.output,h.size,λ k hk hn=>h.block k hk (λ e=>hn (by rw [e]))⟩
theorem NetA.taken (h:NetA w p lm rm N B M L D r f g) (hb:But rm w w') (hn:NetR w' p lm rm N' M' D r') (hN:N<=N'):NetA w' p lm rm N' B M' L D r' f g:=
 {net:=hn,lv:={h.lv.grown hb.grown h.ne.symm h.rb with mp:=(h.lv.grown hb.grown h.ne.symm h.rb).mp.mono hN},pb:=h.pb,rb:=h.rb,ne:=h.ne}
theorem NetA.more (h:NetA w p lm rm N B M L D r f g) (hN:N<=N'):NetA w p lm rm N' B M L D r f g:=
 {h with net:=⟨h.net.hp,h.net.mp.mono hN,h.net.rom⟩,lv:={h.lv with mp:=h.lv.mp.mono hN}}
end
def Fl (w0 wq:World) (p lm rm N B:Nat) (D:List Stp) (r0:Stp->Int) (f:Int->Value) (g:Int->List Stp) (a b:Int) (k:Int) (r:Stp->Int):Prop:=
 ∃M L,NetA wq p lm rm N B M L D r f g/\Fill D (cap D r0) a b r k/\(∀x,r x+r (bk x)=r0 x+r0 (bk x))/\But rm w0 wq
def FillPost (w:World) (p lm rm N B:Nat) (D:List Stp) (r0:Stp->Int) (f:Int->Value) (g:Int->List Stp) (a b:Int) (most:Nat) (e:Ending) (w':World):Prop:=
 ∃(k:Nat) (r:Stp->Int),e= .returned (.int .i64 (k:Int))/\Val (cap D r0) a b most k/\Fl w w' p lm rm (N+2000*most) B D r0 f g a b k r
theorem But.refl' (b:Nat) (w:World):But b w w:=⟨rfl,rfl,rfl,Nat.le_refl _,λ _ _ _=>rfl⟩
theorem fill_any (p lm rm N B most:Nat) (M:DataW Unit) (L:DataW Value) (D:List Stp) (r0:Stp->Int) (f:Int->Value) (g:Int->List Stp) (a b:Int) (w:World) (h:NetA w p lm rm N B M L D r0 f g) (hD:Net D)
 (hg:∀x s,s∈g x↔s∈D/\fr s=x) (hgl:∀x,(g x).length<=1000) (hr:∀s∈D,0<=tt s/\tt s<1000) (hDl:D.length<=1000) (hsum:∀x,r0 x+r0 (bk x)<=2) (hN:N<=5000) (hm:most<=120) (ha0:0<=a) (ha1:a<1000) (hb0:0<=b) (hb1:b<1000) (hab:a≠b):
 Calls Tryz.prog 236 #[.pointer (some ⟨p,0,none⟩),.int .i64 a,.int .i64 b,.int .i64 (most:Int)] w (FillPost w p lm rm N B D r0 f g a b most):=by
 have HX:Hid (Net D/\(∀x s,s∈g x↔s∈D/\fr s=x)/\(∀x,(g x).length<=1000)/\(∀s∈D,0<=tt s/\tt s<1000)/\D.length<=1000/\(∀x,r0 x+r0 (bk x)<=2)/\rm<B/\B<=w.heap.size):=⟨hD,hg,hgl,hr,hDl,hsum,h.rb,h.lv.le⟩;have HS:Hid (Fl w w p lm rm (N+2000*0) B D r0 f g a b 0 r0):=⟨M,L,h,⟨h.net.rom.pos,λ S _ _=>by omega⟩,λ _=>rfl,But.refl' _ _⟩;have HAB:Hid (a≠b):=hab;have hmf':=hmf;clear h hD hg hgl hr hDl hsum hab;go_enter Tryz.func236,Tryz.ntmps236;go_wp2_with fail;go_loopw [14] (λ s14 wq=>∃(k:Nat) (r:Stp->Int),k<=most/\s14= .int .i64 k/\Fl w wq p lm rm (N+2000*k) B D r0 f g a b k r) (λ s14 _=>most-(intOf s14).toNat)
 case atStart=>exact ⟨0,r0,Nat.zero_le _,rfl,HS.out⟩
 case round=>
  clear HS;obtain ⟨k,r,hk,rfl,hfl⟩:=hrel;have HR:Hid (Fl w wr p lm rm (N+2000*k) B D r0 f g a b k r):=hfl;clear hfl;obtain ⟨wy,hwy⟩:∃wy,wy=wr:=⟨_,rfl⟩;subst hwy;by_cases hlt:k<most
  ·have HC:Hid (Calls Tryz.prog 315 #[.pointer (some ⟨p,0,none⟩),.int .i64 a,.int .i64 b,.func (.func 316) #[.pointer (some ⟨p,0,none⟩)] #[]] wy (WayPost2 wy D (λ s=>decide (0<r s)) a b)):=by
    obtain ⟨M,L,hA,_,_,_⟩:=HR.out;refine search_any p lm rm _ B M L D r f g _ a b wy hA HX.out.2.1 HX.out.2.2.1 HX.out.2.2.2.1 HX.out.2.2.2.2.1 ha0 ha1 hb0 hb1 (λ W s hs hW=>free_any p lm rm _ M D r s W (hA.net.below hW) hs)
   go_wp2_with fail;refine Calls.mono HC.out ?_;rintro e w2 ⟨v,P,rfl,hb2,ho,hP⟩;clear HC;obtain ⟨m,hpm⟩:∃m,m=P.length:=⟨_,rfl⟩;obtain ⟨va,vc,hv⟩:=ho.slice_len;rw [<-hpm] at hv;subst hv;have HO:Hid (G.Owns w2 wy.heap.size 346 (.slice va m vc) P):=ho;have HP:Hid ((Walk a P b/\P.Nodup/\∀s∈P,s∈D/\decide (0<r s)=true)\/(P=[]/\∃S:Int->Bool,S a=true/\S b=false/\∀s∈D,out S s=true->decide (0<r s)=false)):=hP;have HM:Hid (m=P.length):=hpm;have HR2:Hid (Fl w w2 p lm rm (N+2000*k) B D r0 f g a b k r):=by
    obtain ⟨M,L,hA,h2,h3,h4⟩:=HR.out;exact ⟨M,L,hA.below hb2,h2,h3,h4.trans (But.of_below hb2)⟩
   have HBW:Hid (Below wy.heap.size wy w2):=hb2;clear ho hP hpm hb2;by_cases hm0:m=0
   ·have HV:Hid (Val (cap D r0) a b most k):=by
     have hPn:P=[]:=List.eq_nil_of_length_eq_zero (by rw [<-HM.out];exact hm0);obtain ⟨M,L,hA,h2,_,_⟩:=HR2.out;rcases HP.out with ⟨hw,_,_⟩ | ⟨_,S,h3,h4,h5⟩
     ·rw [hPn] at hw
      exact absurd hw HAB.out
     ·refine h2.done (by omega) (by omega) S h3 h4 (λ s hs ho=>?_)
      have:=of_decide_eq_false (h5 s hs ho);have:=hA.net.rom.pos s;omega
    subst hm0;go_wp2_with fail;go_ret;refine ⟨k,r,rfl,HV.out,?_⟩;obtain ⟨M,L,hA,h2,h3,h4⟩:=HR2.out;exact ⟨M,L,hA.more (by omega),h2,h3,h4⟩
   ·have HW:Hid (Walk a P b/\P.Nodup/\∀s∈P,s∈D/\1<=r s):=by
     rcases HP.out with ⟨h1,h2,h3⟩ | ⟨h1,_⟩
     ·refine ⟨h1,h2,λ s hs=>⟨(h3 s hs).1,?_⟩⟩
      have:=of_decide_eq_true (h3 s hs).2;omega
     ·exact absurd (by rw [HM.out,h1];rfl) hm0
    have hmD:m<=1000:=by
     have h1:=nodup_sub P D HW.out.2.1 (λ x hx=>(HW.out.2.2 x hx).1);rw [HM.out];exact Nat.le_trans h1 HX.out.2.2.2.2.1
    clear HP;have hmb:((m:Int)==0)=false:=beq_eq_false_iff_ne.2 (by omega);go_wp2_with fail;go_loopw [29] (λ s29 wq=>∃(j:Nat) (M':DataW Unit) (L':DataW Value),j<=m/\s29= .int .i64 j/\NetA wq p lm rm (N+2000*k+2*j) B M' L' D (tks r (P.take j)) f g/\But rm w2 wq) (λ s29 _=>m-(intOf s29).toNat)
    case atStart=>
     obtain ⟨M,L,hA,h2,h3,h4⟩:=HR2.out;exact ⟨0,M,L,Nat.zero_le _,rfl,by simpa [tks] using hA,But.refl' _ _⟩
    case round=>
     obtain ⟨j,M',L',hj,rfl,hA,hbt⟩:=hrel;have HA:Hid (NetA wr p lm rm (N+2000*k+2*j) B M' L' D (tks r (P.take j)) f g/\But rm w2 wr):=⟨hA,hbt⟩;clear hA hbt;by_cases hjm:j<m
     ·obtain ⟨s,hs⟩:∃s,P[j]? =some s:=⟨_,List.getElem?_eq_getElem (by rw [<-HM.out];exact hjm)⟩
      have hsP:=List.mem_of_getElem? hs;obtain ⟨gw,hva⟩:∃gw,va=some ⟨gw,0,none⟩:=by
       rcases HO.out.shape with ⟨_,e⟩ | ⟨gw,cap,e,_⟩
       ·rw [e] at hs;simp at hs
       ·injection e with e1 _ _
        exact ⟨gw,e1⟩
      subst hva;obtain ⟨c0,c1,c2⟩:=HO.out.at (g:=gw) rfl hs;have hgw:gw≠rm:=by
       have h1:=(World.ownsRow.lt HO.out gw rfl).1;have h2:=HX.out.2.2.2.2.2.2;obtain ⟨_,_,_,_,_,h3⟩:=HR.out;have:=h3.size;omega
      have q0:=keep_cell HA.out.2.grown hgw c0;have q1:=keep_cell HA.out.2.grown hgw c1;have q2:=keep_cell HA.out.2.grown hgw c2;obtain ⟨W1,hW1⟩:∃W1,W1=wr.alloc (.cells #[.int .i64 s.1,.int .i64 s.2.1,.int .i64 s.2.2] 346):=⟨_,rfl⟩;have hbW:Below wr.heap.size wr W1:=by rw [hW1];exact (Below.refl _ _).alloc (Nat.le_refl _) _
      have hne:∀t∈P,fr t≠tt t:=λ t ht=>HX.out.1.ne t (HW.out.2.2 t ht).1
      have hT:Calls Tryz.prog 317 #[.pointer (some ⟨p,0,none⟩),vS s] W1 (TakePost W1 p lm rm (N+2000*k+2*j) D (tk (tks r (P.take j)) s)):=by
       obtain ⟨_,_,_,hF,hsm,_⟩:=HR2.out;refine take_any p lm rm _ M' D _ s W1 (HA.out.1.net.below hbW) (HW.out.2.2 s hsP).1 HX.out.1 ?_ (by omega) (λ x=>?_)
       ·exact Int.le_trans (HW.out.2.2 s hsP).2 (tks_other _ r s (λ t ht=>hne t (List.mem_of_mem_take ht)) (not_mem_take HW.out.2.1 hs))
       ·have h1:=tks_sum (P.take j) r (λ t ht=>hne t (List.mem_of_mem_take ht)) x
        have h2:=HA.out.1.net.rom.pos (bk x);have h3:=hsm x;have h4:=HX.out.2.2.2.2.2.1 x;omega
      have HT:Hid _:=hT;unfold vS at HT;have HW1:Hid (wr.alloc (.cells #[.int .i64 s.1,.int .i64 s.2.1,.int .i64 s.2.2] 346)=W1):=hW1.symm;have HTS:Hid (tks r (P.take (j+1))=tk (tks r (P.take j)) s):=tks_step hs r;have HBW1:Hid (Below wr.heap.size wr W1):=hbW;clear c0 c1 c2 hT hW1 hbW hne hsP hs hgw;obtain ⟨x,y,z⟩:=s;simp only at q0 q1 q2 HT HW1;go_wp2_with fail;rw [HW1.out];refine Calls.mono HT.out ?_;rintro e w4 ⟨rfl,M4,N4,hn4,hN4,hb4⟩;have HA4:Hid (NetA w4 p lm rm (N+2000*k+2*(j+1)) B M4 L' D (tks r (P.take (j+1))) f g/\But rm w2 w4):=by
       rw [HTS.out];refine ⟨((HA.out.1.below HBW1.out).more (N':=N+2000*k+2*(j+1)) (by omega)).taken hb4 ⟨hn4.hp,hn4.mp.mono (by omega),hn4.rom⟩ (Nat.le_refl _),?_⟩;exact (HA.out.2.trans (But.of_below HBW1.out)).trans hb4
      clear hn4 hN4 hb4 HA HT q0 q1 q2;go_wp2_with fail;go_roundw;case rel=>exact ⟨j+1,M4,L',by omega,by go_num,HA4.out.1,HA4.out.2⟩
      case measure=>simp [intOf];omega
     ·have hje:m=j:=by omega
      subst hje;have HF:Hid (Fl w wr p lm rm (N+2000*(k+1)) B D r0 f g a b ((k+1:Nat):Int) (tks r P)):=by
       have h1:=HA.out.1;rw [List.take_of_length_le (by rw [<-HM.out];omega)] at h1;obtain ⟨_,_,_,hF,hsm,hbt⟩:=HR2.out;refine ⟨M',L',h1.more (by omega),?_,λ x=>?_,hbt.trans HA.out.2⟩
       ·have:=hF.way HX.out.1 (λ s hs=>(HW.out.2.2 s hs).1) HW.out.1 HW.out.2.1 (λ s hs=>(HW.out.2.2 s hs).2)
        rw [show ((k+1:Nat):Int)=(k:Int)+1 by omega];exact this
       ·rw [tks_sum P r (λ s hs=>HX.out.1.ne s (HW.out.2.2 s hs).1) x]
        exact hsm x
      clear HA;go_wp2_with fail;go_roundw;case rel=>exact ⟨k+1,_,by omega,by go_num,HF.out⟩
      case measure=>simp [intOf];omega
  ·have hke:most=k:=by omega
   subst hke;go_wp2_with fail;go_ret;refine ⟨most,r,rfl,?_,HR.out⟩;obtain ⟨_,_,_,hF,_,_⟩:=HR.out;exact hF.most (by omega)
end Go.Proofs.YtebcjaenhiiflaaGreatDoor.S
namespace Go.Proofs.YtebcjaenhiiflaaGreatDoor.S
open Go Go.ChangeMaps Go.MapKept Go.WideShapes
open Go.RowKit Go.WideMaps Go.Maps F
theorem net_snoc {ss:List (Stp × Int)} {s:Stp} (c:Int) (h:Net (lD ss)) (h1:s∉lD ss) (h2:bk s∉lD ss) (hne:fr s≠tt s):Net (lD (ss++[(s,c)])):=by
 rw [lD_snoc];refine ⟨?_,λ t ht=>?_,λ t ht=>?_⟩
 ·rw [List.nodup_append]
  refine ⟨h.nd,by simp;exact λ e=>bk_ne hne e.symm,λ x hx y hy e=>?_⟩;subst e;simp at hy;rcases hy with rfl | rfl
  ·exact h1 hx
  ·exact h2 hx
 ·rcases List.mem_append.1 ht with ht | ht
  ·exact List.mem_append_left _ (h.back t ht)
  ·simp at ht
   rcases ht with rfl | rfl <;> simp [bk_bk]
 ·rcases List.mem_append.1 ht with ht | ht
  ·exact h.ne t ht
  ·simp at ht
   rcases ht with rfl | rfl
   ·exact hne
   ·rw [fr_bk,tt_bk];exact λ e=>hne e.symm
theorem net_nil:Net (lD []):=⟨by simp [lD],by simp [lD],by simp [lD]⟩
theorem ed_one {n:Nat} {L:List Stp} (h:Ed n 120 L) {j:Nat} {e:Stp} (hx:L[j]? =some e):∀d∈L.take j,d.1≠e.1:=by
 intro d hd k;obtain ⟨i,hi,hie⟩:=List.mem_iff_getElem.1 hd;obtain ⟨hjl,hje⟩:=List.getElem?_eq_some_iff.1 hx;have hij:i<j:=by simp at hi;omega
 rw [List.getElem_take] at hie;have:=List.pairwise_iff_getElem.1 h.up i j (by omega) hjl hij;rw [hie,hje] at this;omega
theorem take_snoc {α:Type} {L:List α} {j:Nat} {e:α} (hx:L[j]? =some e):L.take (j+1)=L.take j++[e]:=by rw [List.take_add_one,hx];rfl
theorem net_edS {n:Nat} {L:List Stp} (h:Ed n 120 L):Net (lD (edS L)):=by
 have:∀j,j<=L.length->Net (lD (edS (L.take j))):=by
  intro j;induction j with
  | zero=>intro _;simpa [edS] using net_nil
  | succ j ih=>
    intro hj;have hx:L[j]? =some L[j]:=List.getElem?_eq_getElem (by omega);obtain ⟨x,y,hxy,_,he⟩:=h.ends L[j] (List.getElem_mem _);rw [take_snoc hx];have e:edS (L.take j++[L[j]])=edS (L.take j)++[(L[j],1)]:=by rw [edS,List.map_append];rfl
    rw [e];have hoff:=edS_off (ed_one h hx);refine net_snoc 1 (ih (by omega)) hoff.1 hoff.2 ?_;rw [he];show (x:Int)≠(y:Int);omega
 have h1:=this L.length (Nat.le_refl _)
 rwa [List.take_length] at h1
theorem net_ndS:∀j,Net (lD (ndS j))
 | 0=>by simpa [ndS] using net_nil
 | j+1=>by
   rw [ndS_succ];have:=nd_off j;exact net_snoc 0 (net_ndS j) this.1 this.2 (by show 2*(j:Int)≠2*(j:Int)+1;omega)
theorem net_noS {n:Nat} {L:List Stp} (h:Ed n 120 L):Net (lD (noS n L)):=by
 have:∀j,j<=L.length->Net (lD (noS n (L.take j))):=by
  intro j;induction j with
  | zero=>intro _;simpa [noS] using net_ndS n
  | succ j ih=>
    intro hj;have hx:L[j]? =some L[j]:=List.getElem?_eq_getElem (by omega);obtain ⟨x,y,hxy,_,he⟩:=h.ends L[j] (List.getElem_mem _);have hone:=ed_one h hx;rw [take_snoc hx,noS_snoc];have e1:(L[j]).2.1=(x:Int):=by rw [he]
    have e2:(L[j]).2.2=(y:Int):=by rw [he]
    rw [e1,e2];have hxy':(x:Int)≠(y:Int):=by omega
    refine net_snoc 0 (net_snoc 0 (ih (by omega)) (noS_off hone hxy' _ (.inl rfl)) (noS_off hone hxy' _ (.inr rfl)) ?_) (noS_off2 hone hxy' _ (.inl rfl)) (noS_off2 hone hxy' _ (.inr rfl)) ?_
    ·show 2*(x:Int)+1≠2*(y:Int);omega
    ·show 2*(y:Int)+1≠2*(x:Int);omega
 have h1:=this L.length (Nat.le_refl _)
 rwa [List.take_length] at h1
theorem lr_le (ss:List (Stp × Int)) (h:∀t∈ss,t.2<=1) (q:Stp):lr ss q<=1:=by
 induction ss using snoc_ind with
 | h0=>simp [lr]
 | h1 l a ih=>
   rw [lr_snoc];have h1:=ih (λ t ht=>h t (by simp [ht]));have h2:=h a (by simp);show (if q=bk a.1 then a.2 else if q=a.1 then 1 else lr l q)<=1;split
   ·exact h2
   ·split
    ·omega
    ·exact h1
theorem lD_len (ss:List (Stp × Int)):(lD ss).length=2*ss.length:=by
 induction ss using snoc_ind with
 | h0=>simp [lD]
 | h1 l a ih=>rw [lD_snoc,List.length_append,ih];simp;omega
theorem fill_laid {w:World} {p lm rm N B:Nat} {ss:List (Stp × Int)} {f:Int->Value} (h:Laid w p lm rm N B ss f) (hD:Net (lD ss)) (hl:ss.length<=300) (h1:∀t∈ss,t.2<=1) (hr:∀s∈lD ss,0<=tt s/\tt s<1000) (hN:N<=5000) {a b:Int} {most:Nat} (hm:most<=120) (ha0:0<=a) (ha1:a<1000) (hb0:0<=b) (hb1:b<1000) (hab:a≠b):
 Calls Tryz.prog 236 #[.pointer (some ⟨p,0,none⟩),.int .i64 a,.int .i64 b,.int .i64 (most:Int)] w (FillPost w p lm rm N B (lD ss) (lr ss) f (lg ss) a b most):=by
 obtain ⟨M,L,hA⟩:=h;refine fill_any p lm rm N B most M L _ _ f _ a b w hA hD (λ x s=>lg_mem ss s x) (λ x=>?_) hr ?_ (λ x=>?_) hN hm ha0 ha1 hb0 hb1 hab
 ·have:=lg_len ss x;omega
 ·rw [lD_len];omega
 ·have:=lr_le ss h1 x
  have:=lr_le ss h1 (bk x);omega
theorem tt_edS {n:Nat} {L:List Stp} (h:Ed n 120 L) (hn:n<=40):∀s∈lD (edS L),0<=tt s/\tt s<1000:=by
 intro s hs;obtain ⟨t,h1,h2⟩:=(lD_mem _ _).1 hs;obtain ⟨d,hd,rfl⟩:=List.mem_map.1 h1;obtain ⟨x,y,hxy,hyn,he⟩:=h.ends d hd;rw [he] at h2;rcases h2 with rfl | rfl <;> (unfold tt;try unfold bk) <;> simp only <;> omega
theorem tt_noS {n:Nat} {L:List Stp} (h:Ed n 120 L) (hn:n<=40):∀s∈lD (noS n L),0<=tt s/\tt s<1000:=by
 intro s hs;obtain ⟨t,h1,h2⟩:=(lD_mem _ _).1 hs;rcases List.mem_append.1 h1 with h1 | h1
 ·obtain ⟨x,hx,rfl⟩:=List.mem_map.1 h1
  have:=List.mem_range.1 hx;rcases h2 with rfl | rfl <;> (unfold tt;try unfold bk) <;> simp only <;> omega
 ·obtain ⟨d,hd,h1⟩:=List.mem_flatMap.1 h1
  obtain ⟨x,y,hxy,hyn,he⟩:=h.ends d hd;rw [he] at h1;simp [edN] at h1;rcases h1 with rfl | rfl <;> rcases h2 with rfl | rfl <;> (unfold tt;try unfold bk) <;> simp only <;> omega
theorem one_edS (L:List Stp):∀t∈edS L,t.2<=1:=λ t ht=>by
 obtain ⟨d,hd,rfl⟩:=List.mem_map.1 ht;simp
theorem one_noS (n:Nat) (L:List Stp):∀t∈noS n L,t.2<=1:=λ t ht=>by
 rcases List.mem_append.1 ht with h1 | h1
 ·obtain ⟨x,hx,rfl⟩:=List.mem_map.1 h1
  simp
 ·obtain ⟨d,hd,h1⟩:=List.mem_flatMap.1 h1
  simp [edN] at h1;rcases h1 with rfl | rfl <;> simp
theorem FillPost.below {w0 w w':World} {p lm rm N B:Nat} {D:List Stp} {r0:Stp->Int} {f:Int->Value} {g:Int->List Stp} {a b:Int} {most:Nat} {e:Ending} (h:FillPost w p lm rm N B D r0 f g a b most e w') (hb:Below w0.heap.size w0 w) (hr:w0.heap.size<=rm):∃k:Nat,e= .returned (.int .i64 (k:Int))/\Val (cap D r0) a b most k/\Below w0.heap.size w0 w':=by
 obtain ⟨k,r,h1,h2,_,_,_,_,_,h3⟩:=h;exact ⟨k,h1,h2,hb.trans ⟨h3.os,h3.tape,h3.output,h3.size,λ i hi=>h3.block i (Nat.lt_of_lt_of_le hi hb.size) (by omega)⟩⟩
theorem flowEdges_any (n B0 q a b m:Nat) (u:Value) (L:List (Int × Int × Int)) (w:World) (h:G.GAt w B0 168 61 q (n:Int) u L) (hn:n<=40) (hed:Ed n 120 L) (ha:a<n) (hb:b<n) (hab:a≠b) (hm:m<=120):
 Calls Tryz.prog 128 #[.pointer (some ⟨q,0,none⟩),.int .i64 (a:Int),.int .i64 (b:Int),.int .i64 (m:Int)] w λ e w'=>∃k:Nat,e= .returned (.tuple #[.int .i64 (k:Int),.nilIface])/\Val (cap (lD (edS L)) (lr (edS L))) a b m k/\Below w.heap.size w w':=by
 have HG:Hid (G.GAt w B0 168 61 q (n:Int) u L):=h;have HE:Hid (Ed n 120 L):=hed;have hlen:=hed.len;clear h hed;go_enter Tryz.func128,Tryz.ntmps128;go_wp2_with fail;refine (check_any n B0 q a b m u L w HG.out ha hb hab hm).mono ?_;rintro e w1 ⟨rfl,hb1⟩;have HB1:Hid (Below w.heap.size w w1):=hb1;clear hb1;go_wp2_with fail;refine (byEdges_any n B0 q u L w1 (HG.out.below HB1.out) hn HE.out).mono ?_;rintro e w2 ⟨p,lm,rm,N,B,f,rfl,hL,hN,hb2,_,_,hrm,_⟩;have HB2:Hid (Below w.heap.size w w2/\w.heap.size<=rm):=⟨HB1.out.trans (hb2.mono HB1.out.size),Nat.le_trans HB1.out.size hrm⟩;have HC:Hid _:=fill_laid hL (net_edS HE.out) (by simp [edS];omega) (one_edS L) (tt_edS HE.out hn) (by omega) (a:=(a:Int)) (b:=(b:Int)) (most:=m) hm (by omega) (by omega) (by omega) (by omega) (by omega);clear hL hN hb2 hrm;go_wp2_with fail;refine Calls.mono HC.out ?_;intro e w3 hp;obtain ⟨k,rfl,hv,hb3⟩:=hp.below HB2.out.1 HB2.out.2;have HV:Hid (Val (cap (lD (edS L)) (lr (edS L))) a b m k/\Below w.heap.size w w3):=⟨hv,hb3⟩;clear hv hb3 hp HC;go_wp2_with fail;go_ret2;exact ⟨k,rfl,HV.out.1,HV.out.2⟩
theorem flowNodes_any (n B0 q a b m:Nat) (u:Value) (L:List (Int × Int × Int)) (w:World) (h:G.GAt w B0 168 61 q (n:Int) u L) (hn:n<=40) (hed:Ed n 120 L) (ha:a<n) (hb:b<n) (hab:a≠b) (hm:m<=120):
 Calls Tryz.prog 129 #[.pointer (some ⟨q,0,none⟩),.int .i64 (a:Int),.int .i64 (b:Int),.int .i64 (m:Int)] w λ e w'=>∃k:Nat,e= .returned (.tuple #[.int .i64 (k:Int),.nilIface])/\Val (cap (lD (noS n L)) (lr (noS n L))) (2*a+1) (2*b) m k/\Below w.heap.size w w':=by
 have HG:Hid (G.GAt w B0 168 61 q (n:Int) u L):=h;have HE:Hid (Ed n 120 L):=hed;have hlen:=hed.len;clear h hed;go_enter Tryz.func129,Tryz.ntmps129;go_wp2_with fail;refine (check_any n B0 q a b m u L w HG.out ha hb hab hm).mono ?_;rintro e w1 ⟨rfl,hb1⟩;have HB1:Hid (Below w.heap.size w w1):=hb1;clear hb1;go_wp2_with fail;refine (byNodes_any n B0 q u L w1 (HG.out.below HB1.out) hn HE.out).mono ?_;rintro e w2 ⟨p,lm,rm,N,B,f,rfl,hL,hN,hb2,_,_,hrm,_⟩;have HB2:Hid (Below w.heap.size w w2/\w.heap.size<=rm):=⟨HB1.out.trans (hb2.mono HB1.out.size),Nat.le_trans HB1.out.size hrm⟩;have HC:Hid _:=fill_laid hL (net_noS HE.out) (by rw [noS_len];omega) (one_noS n L) (tt_noS HE.out hn) (by omega) (a:=2*(a:Int)+1) (b:=2*(b:Int)) (most:=m) hm (by omega) (by omega) (by omega) (by omega) (by omega);clear hL hN hb2 hrm;go_wp2_with fail;refine (behind_any (a:Int) (by omega) (by omega) w2).mono ?_;rintro e w4 ⟨rfl,hw4⟩;subst hw4;go_wp2_with fail;refine (ahead_any (b:Int) (by omega) (by omega) w4).mono ?_;rintro e w5 ⟨rfl,hw5⟩;subst hw5;go_wp2_with fail;refine Calls.mono HC.out ?_;intro e w3 hp;obtain ⟨k,rfl,hv,hb3⟩:=hp.below HB2.out.1 HB2.out.2;have HV:Hid (Val (cap (lD (noS n L)) (lr (noS n L))) (2*a+1) (2*b) m k/\Below w.heap.size w w3):=⟨hv,hb3⟩;clear hv hb3 hp HC;go_wp2_with fail;go_ret2;exact ⟨k,rfl,HV.out.1,HV.out.2⟩
def crs (S:Int->Bool) (e:Stp):Bool:=S e.2.1 != S e.2.2
def AskOk (n:Nat) (a b most:Int):Prop:=(0<=a/\a<=(n:Int)-1)/\(0<=b/\b<=(n:Int)-1)/\0<=most/\most<=120
structure RmF (M:Nat->Nat->Int) (n j:Nat) (R:List Stp):Prop where
 cap:∀S:Int->Bool,capM M n S=(((R.take j).filter (crs S)).length:Int)
 bd:∀i k,0<=M i k/\M i k<=2*(j:Int)
theorem row_none (S:Int->Bool) (i:Nat):∀n,rowM (λ _ _=>0) S i n=0
 | 0=>rfl
 | n+1=>by simp [rowM,row_none S i n]
theorem sum_none (N:Nat) (S:Int->Bool):∀n,sumM (λ _ _=>0) N S n=0
 | 0=>rfl
 | n+1=>by simp [sumM,sum_none N S n,row_none]
theorem RmF.start (n:Nat) (R:List Stp):RmF (λ _ _=>0) n 0 R:=⟨λ S=>by simp [capM,sum_none],λ _ _=>⟨by omega,by omega⟩⟩
theorem RmF.next {M:Nat->Nat->Int} {n j:Nat} {R:List Stp} (h:RmF M n j R) {y0:Int} {x y:Nat} (he:R[j]? =some (y0,(x:Int),(y:Int))) (hx:x<n) (hy:y<n):RmF (addM (addM M x y 1) y x 1) n (j+1) R:=by
 refine ⟨λ S=>?_,λ i k=>?_⟩
 ·rw [cap_add hy hx,cap_add hx hy,h.cap S,take_snoc he,List.filter_append,List.length_append,List.filter_cons]
  have hc:crs S (y0,(x:Int),(y:Int))=(S (x:Int) != S (y:Int)):=rfl;rw [hc];cases S (x:Int) <;> cases S (y:Int) <;> simp
 ·have h1:=h.bd i k
  unfold addM;split
  ·split <;> omega
  ·split <;> omega
def ndX (n:Nat) (S:Int->Bool) (i:Nat):Bool:=S (i:Int)&&!S (((n+i:Nat):Nat):Int)
def prX (n:Nat) (S:Int->Bool) (d:Int × Int):Bool:=S ((n:Int)+d.1)&&!S d.2
section
variable {n:Nat} {L:List Stp} {a b:Nat} {PR:List (Int × Int)}
end
end Go.Proofs.YtebcjaenhiiflaaGreatDoor.S
namespace Go.Proofs.YtebcjaenhiiflaaGreatDoor.S
open Go Go.ChangeMaps Go.MapKept Go.WideShapes
open Go.RowKit Go.WideMaps Go.Maps F
structure RN (M:Nat->Nat->Int) (n a b j:Nat) (tw:Bool) (PR:List (Int × Int)):Prop where
 cap:∀S:Int->Bool,capM M (2*n) S=(((List.range j).filter (ndX n S)).length:Int)+(if tw then ((if ndX n S a then 119 else 0)+(if ndX n S b then 119 else 0)) else 0)+((PR.filter (prX n S)).length:Int)
 diag:tw=false->∀i,i<n->M i (n+i)=if i<j then 1 else 0
 ent:∀u v:Nat,u<n->v<n->M (n+u) v=if ((u:Int),(v:Int))∈PR then 1 else 0
 bd:∀i k,0<=M i k/\M i k<=1000
section
variable {M:Nat->Nat->Int} {n a b j:Nat} {tw:Bool} {PR:List (Int × Int)}
theorem RN.start (n a b:Nat):RN (λ _ _=>0) n a b 0 false []:=
 ⟨λ S=>by simp [capM,sum_none],λ _ i _=>by simp,λ u v _ _=>by simp,λ _ _=>⟨by omega,by omega⟩⟩
end
end Go.Proofs.YtebcjaenhiiflaaGreatDoor.S
namespace Go.Proofs.YtebcjaenhiiflaaGreatDoor.S
open Go Go.ChangeMaps Go.MapKept Go.WideShapes
open Go.RowKit Go.WideMaps Go.Maps F
theorem strange_t (n B0 q b:Nat) (x:Int) (u:Value) (L:List (Int × Int × Int)) (w:World) (h:G.GAt w B0 168 61 q (n:Int) u L) (hb:w.cell? ⟨b,0,none⟩=some (.pointer (some ⟨q,0,none⟩))) (hx:¬(0<=x/\x<=(n:Int)-1)):
 Calls Tryz.prog 312 #[.int .i64 x,.pointer (some ⟨b,0,none⟩)] w λ e w'=>e= .returned (.bool true)/\w'=w:=by
 have HG:Hid (G.GAt w B0 168 61 q (n:Int) u L):=h;clear h;by_cases h1:x<0
 ·go_enter Tryz.func312,Tryz.ntmps312
  go_wp2_with fail;go_ret;exact ⟨rfl,rfl⟩
 ·have h2:(n:Int)<=x:=by omega
  go_enter Tryz.func312,Tryz.ntmps312;go_wp2_with fail;refine (G.nodes_any (n:Int) B0 q u L w HG.out).mono ?_;rintro e w1 ⟨rfl,hw1⟩;subst hw1;go_wp2_with fail;go_ret;have h4:decide ((n:Int)<=x)=true:=decide_eq_true h2
  first | exact ⟨by rw [h4],rfl⟩ | exact ⟨rfl,rfl⟩
theorem strange_f (n B0 q b:Nat) (x:Int) (u:Value) (L:List (Int × Int × Int)) (w:World) (h:G.GAt w B0 168 61 q (n:Int) u L) (hb:w.cell? ⟨b,0,none⟩=some (.pointer (some ⟨q,0,none⟩))) (hx:0<=x/\x<=(n:Int)-1):
 Calls Tryz.prog 312 #[.int .i64 x,.pointer (some ⟨b,0,none⟩)] w λ e w'=>e= .returned (.bool false)/\w'=w:=by
 obtain ⟨y,rfl⟩:∃y:Nat,x=(y:Int):=⟨x.toNat,by omega⟩;exact strange_any n B0 q b y u L w h hb (by omega)
def AskNo (n:Nat) (a b most c:Int):Prop:=(¬AskOk n a b most/\c=2)\/(AskOk n a b most/\a=b/\c=1)
theorem check_err (n B0 q:Nat) (a b m c:Int) (u:Value) (L:List (Int × Int × Int)) (w:World) (h:G.GAt w B0 168 61 q (n:Int) u L) (hno:AskNo n a b m c):
 Calls Tryz.prog 234 #[.pointer (some ⟨q,0,none⟩),.int .i64 a,.int .i64 b,.int .i64 m] w λ e w'=>e= .returned (.iface 23 (.int .i64 c))/\Below w.heap.size w w':=by
 have HG1:Hid (G.GAt (w.alloc (.cells #[.pointer (some ⟨q,0,none⟩)] 82)) B0 168 61 q (n:Int) u L):=h.below ((Below.refl _ _).alloc (Nat.le_refl _) _);have hc:(w.alloc (.cells #[.pointer (some ⟨q,0,none⟩)] 82)).cell? ⟨w.heap.size,0,none⟩=some (.pointer (some ⟨q,0,none⟩)):=by simp
 have HB:Hid (Below w.heap.size w (w.alloc (.cells #[.pointer (some ⟨q,0,none⟩)] 82))):=(Below.refl _ _).alloc (Nat.le_refl _) _;have HNO:Hid (AskNo n a b m c):=hno;clear h hno;go_enter Tryz.func234,Tryz.ntmps234;go_wp2_with fail;by_cases h1:0<=a/\a<=(n:Int)-1
 ·refine (strange_f n B0 q w.heap.size a u L _ HG1.out hc h1).mono ?_
  rintro e w1 ⟨rfl,hw1⟩;rw [hw1];clear hw1;go_wp2_with fail;by_cases h2:0<=b/\b<=(n:Int)-1
  ·refine (strange_f n B0 q w.heap.size b u L _ HG1.out hc h2).mono ?_
   rintro e w2 ⟨rfl,hw2⟩;rw [hw2];clear hw2;by_cases h3:m<0
   ·have hce:c=2:=by
     rcases HNO.out with ⟨_,k⟩ | ⟨k,_⟩
     ·exact k
     ·obtain ⟨_,_,k3,_⟩:=k;omega
    subst hce;clear HG1 hc;go_wp2_with fail;go_ret;exact ⟨rfl,HB.out⟩
   ·by_cases h4:m > 120
    ·have hce:c=2:=by
      rcases HNO.out with ⟨_,k⟩ | ⟨k,_⟩
      ·exact k
      ·obtain ⟨_,_,_,k3⟩:=k;omega
     subst hce;clear HG1 hc;go_wp2_with fail;go_ret;exact ⟨rfl,HB.out⟩
    ·obtain ⟨hab,hce⟩:a=b/\c=1:=by
      rcases HNO.out with ⟨k,_⟩ | ⟨_,k⟩
      ·exact absurd ⟨h1,h2,by omega,by omega⟩ k
      ·exact k
     subst hab;subst hce;clear HG1 hc;go_wp2_with fail;go_ret;exact ⟨rfl,HB.out⟩
  ·refine (strange_t n B0 q w.heap.size b u L _ HG1.out hc h2).mono ?_
   rintro e w2 ⟨rfl,hw2⟩;rw [hw2];have hce:c=2:=by
    rcases HNO.out with ⟨_,k⟩ | ⟨k,_⟩
    ·exact k
    ·exact absurd k.2.1 h2
   subst hce;clear HG1 hc hw2;go_wp2_with fail;go_ret;exact ⟨rfl,HB.out⟩
 ·refine (strange_t n B0 q w.heap.size a u L _ HG1.out hc h1).mono ?_
  rintro e w1 ⟨rfl,hw1⟩;rw [hw1];have hce:c=2:=by
   rcases HNO.out with ⟨_,k⟩ | ⟨k,_⟩
   ·exact k
   ·exact absurd k.1 h1
  subst hce;clear HG1 hc hw1;go_wp2_with fail;go_ret;exact ⟨rfl,HB.out⟩
theorem flowEdges_err (n B0 q:Nat) (a b m c:Int) (u:Value) (L:List (Int × Int × Int)) (w:World) (h:G.GAt w B0 168 61 q (n:Int) u L) (hno:AskNo n a b m c):
 Calls Tryz.prog 128 #[.pointer (some ⟨q,0,none⟩),.int .i64 a,.int .i64 b,.int .i64 m] w λ e w'=>e= .returned (.tuple #[.int .i64 0,.iface 23 (.int .i64 c)])/\Below w.heap.size w w':=by
 have HC:Hid _:=check_err n B0 q a b m c u L w h hno;clear h hno;go_enter Tryz.func128,Tryz.ntmps128;go_wp2_with fail;refine Calls.mono HC.out ?_;rintro e w1 ⟨rfl,hb1⟩;have HB:Hid (Below w.heap.size w w1):=hb1;clear hb1 HC;go_wp2_with fail;go_ret2;exact ⟨rfl,HB.out⟩
theorem flowNodes_err (n B0 q:Nat) (a b m c:Int) (u:Value) (L:List (Int × Int × Int)) (w:World) (h:G.GAt w B0 168 61 q (n:Int) u L) (hno:AskNo n a b m c):
 Calls Tryz.prog 129 #[.pointer (some ⟨q,0,none⟩),.int .i64 a,.int .i64 b,.int .i64 m] w λ e w'=>e= .returned (.tuple #[.int .i64 0,.iface 23 (.int .i64 c)])/\Below w.heap.size w w':=by
 have HC:Hid _:=check_err n B0 q a b m c u L w h hno;clear h hno;go_enter Tryz.func129,Tryz.ntmps129;go_wp2_with fail;refine Calls.mono HC.out ?_;rintro e w1 ⟨rfl,hb1⟩;have HB:Hid (Below w.heap.size w w1):=hb1;clear hb1 HC;go_wp2_with fail;go_ret2;exact ⟨rfl,HB.out⟩
theorem AskNo.ne {n:Nat} {a b m c:Int} (h:AskNo n a b m c):c≠0:=by
 rcases h with ⟨_,rfl⟩ | ⟨_,_,rfl⟩ <;> omega
end Go.Proofs.YtebcjaenhiiflaaGreatDoor.S
