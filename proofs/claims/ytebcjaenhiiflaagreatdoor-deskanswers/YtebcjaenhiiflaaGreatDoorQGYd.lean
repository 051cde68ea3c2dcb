import Derived.Test.YtebcjaenhiiflaaGreatDoorQGBGYe
import Derived.Test.YtebcjaenhiiflaaGreatDoorQGSl
import Derived.Shelf.GgSortFunc.Tiny
set_option maxHeartbeats 2000000
set_option maxRecDepth 100000
namespace Go.Proofs.Y.G
open Go.RowKit Go.Shelf Go.Proofs.Tryz
def ltE (a b:E):Bool:=decide (a.1<b.1)
theorem zp9:Sort.SWO ltE:=
 ⟨λ x=>by simp[ltE],λ x y z h1 h2=>by simp[ltE] at*;omega,λ x y z h1 h2=>by simp[ltE] at*;omega⟩
theorem cz (L:List E):Sort.flatK Au 3 L.toArray=(Af L).toArray:=by
 refine Sort.ext_get! (by simp[Ae]) (λ t ht=>?_);have ht':t<L.length*3:=by simpa using ht
 rw[Sort.get_flatK _ _ _ _ (by simpa using ht')];have j6:t/3<L.length:=by omega
 have hx:L[t/3]? =some L[t/3]:=aB j6;obtain⟨a,b,c⟩:=R7 L (t/3) _ hx;have he:(L.toArray)[t/3]! =L[t/3]:=by simp[j6]
 rw[he];have hr:(Af L).toArray[t]! =((Af L)[t]?).getD default:=by
  simp[Array.getElem!_eq_getD,Array.getD_eq_getD_getElem?]
 rw[hr];have hm:t%3=0\/t%3=1\/t%3=2:=by omega
 rcases hm with h|h|h
 ·have e:t=t/3*3:=by omega
  rw[h];have:(Af L)[t]? =(Af L)[t/3*3]? :=by rw[<-e]
  rw[this,a];rfl
 ·have e:t=t/3*3+1:=by omega
  rw[h];have:(Af L)[t]? =(Af L)[t/3*3+1]? :=by rw[<-e]
  rw[this,b];rfl
 ·have e:t=t/3*3+2:=by omega
  rw[h];have:(Af L)[t]? =(Af L)[t/3*3+2]? :=by rw[<-e]
  rw[this,c];rfl
theorem zia {w:World}{B g c:Nat}{L:List E}(h:Ad w B 61 (.slice g L.length c) L):Sort.HoldsK Au 3 w g 0 L.toArray:=by
 unfold Sort.HoldsK;rw[cz];intro j hj;have hj':j<(Af L).length:=by simpa using hj
 have hx:(Af L)[j]? =some (Af L)[j]:=aB hj';have hc:=bQ h rfl j _ hx;rw[Bh] at hc;refine⟨?_,?_⟩
 ·rw[gG,hc]
  simp[hj']
 ·rcases h.2 with⟨hv,_⟩|⟨g',cap,cur,hv,_,hg,_⟩
  ·simp at hv
  ·injection hv with hv _ _
   obtain rfl:g=g':=by simpa using hv
   simp[World.frozen?,hg]
theorem zj4 (F cur:Array Value)(h:F.size<=cur.size):(Sort.putCells id 0 F cur).toList.take F.size=F.toList:=by
 apply eB
 ·simp[Sort.putCells];omega
 ·intro i h1 h2
  have hi:i<F.size:=by simpa using h2
  simp[Sort.putCells,hi]
theorem zd2 {w:World}{B g c k:Nat}{os:Array Obj}{L M:List E}(h:Ad w B 61 (.slice g L.length c) L)(hl:M.length=L.length):
 Ad (Sort.grow (Sort.putRowK Au 3 (Sort.ahead w k) g 0 M.toArray) os) B 61 (.slice g M.length c) M/\∀b,b<w.heap.size->b≠g->(Sort.grow (Sort.putRowK Au 3 (Sort.ahead w k) g 0 M.toArray) os).heap[b]? =w.heap[b]? :=by
 rcases h.2 with⟨hv,_⟩|⟨g',cap,cur,hv,hB,hg,h1,h2,h3,_⟩
 ·simp at hv
 injection hv with hv _ hc
 obtain rfl:g=g':=by simpa using hv
 subst hc;have IK:g<w:=lt_of_some hg;have hs:(Sort.putRowK Au 3 (Sort.ahead w k) g 0 M.toArray).heap.size=w.heap.size:=by simp[Sort.putRowK,Sort.putRow,Sort.mapBlock,Sort.ahead]
 have hb:∀b,b<w.heap.size->(Sort.grow (Sort.putRowK Au 3 (Sort.ahead w k) g 0 M.toArray) os).heap[b]? =(Sort.putRowK Au 3 (Sort.ahead w k) g 0 M.toArray).heap[b]? :=λ b hb=>Sort.heap_grow_old _ _ (by rw[hs];exact hb)
 refine⟨⟨Ae _,Or.inr ⟨g,c,Sort.putCells id 0 (Af M).toArray cur,rfl,hB,?_,by omega,h2,by simp[Sort.putCells];exact h3,?_⟩⟩,λ b j4 j5=>?_⟩
 ·rw[hb g IK]
  unfold Sort.putRowK;rw[cz];simp[Sort.putRow,Sort.mapBlock,Sort.ahead,Array.getElem?_modify,hg,Sort.onCells]
 ·have:=zj4 (Af M).toArray cur (by simp[Ae];omega)
  simpa[Ae] using this
 ·rw[hb b j4]
  simp[Sort.putRowK,Sort.putRow,Sort.mapBlock,Sort.ahead,Array.getElem?_modify,Ne.symm j5]
theorem zlf (g c Bs size:Nat)(W:World)(G:Nat->Int)(hs:W.cell? Bs=some (.slice g size c))
 (hc:∀t,t<size->W.cell? ⟨g,t*3,none⟩=(G t:Int)) (i j:Nat) (hi:i<size) (hj:j<size):
 Calls prog 50 #[i,j,.pointer Bs] W λ e w'=>e=Value.bool (decide (G i<G j))/\∃q,w'=W.drewN q:=by
 have ci:=hc i hi;have cj:=hc j hj;clear hc;go_enter func50,ntmps50;go_wp2;go_quiet (fail);go_wp2;go_ret;exact⟨rfl,nq,rfl⟩
theorem zn7:∃i ie,prog.info? 33=some i/\i.desc= .slice 61/\prog.packed 31=false/\prog.info? 61=some ie/\ie.size=3/\ie.hasPointers=false/\ie.bytes=24:=
 ⟨(prog.info? 33).get (by kernel_rfl),(prog.info? 61).get (by kernel_rfl),by kernel_rfl,by kernel_rfl,by kernel_rfl,by kernel_rfl,by kernel_rfl,by kernel_rfl,by kernel_rfl⟩
theorem Um (w:World):(Extern.Rtype.kind 61).run prog w= .ok 25 w:=by kernel_rfl
theorem zuf (w:World):(isAgg 61).run prog w= .ok true w:=by kernel_rfl
theorem zny {L:List E}(h:L.length<=1):L.Pairwise (λ x y=>¬y.1<x.1):=by
 cases L with
 |nil=>exact List.Pairwise.nil
 |cons x L=>
  cases L with
  |nil=>exact gV _ _
  |cons y L=>simp at h
theorem zfm (B g c Bs:Nat)(L:List E)(w:World)(h:Ad w B 61 (.slice g L.length c) L)(hl:L.length<=1000)(TM:w.cell? Bs=some (.slice g L.length c))(l9:Bs≠g):
 Calls prog 49 #[.iface 33 (.slice g L.length c),.func (.func 50) #[] #[.pointer Bs]] w λ e w'=>
  e=Value.tuple #[]/\∃M:List E,M.Perm L/\M.Pairwise (λ x y=>¬y.1<x.1)/\Ad w' B 61 (.slice g L.length c) M/\w'.os=w.os/\w'.tape=w.tape/\w'.output=w.output/\w.heap.size<=w'.heap.size/\∀b,b<w.heap.size->b≠g->w'.heap[b]? =w.heap[b]? :=by
 obtain⟨i,ie,hi,hd,TS,CR,BS,hpt,hby⟩:=zn7;have IK:g<w:=(aU h g rfl).2;have hBl:Bs<w:=lt_of_cell TM;have hH:=zia h;rcases eH 1 L.length with h2|h1
 ·have QU:LessReadsK prog 50 #[.pointer Bs] Au 3 ltE g 0 L.toArray.size w:=by
   intro m os dk hs i j hi hj;have e:sortWorldK Au 3 w g 0 m dk os=Sort.putRowK Au 3 (Sort.grow (Sort.ahead w m) os) g 0 dk:=by
    unfold sortWorldK;rw[Sort.putRowK_grow _ _ (Sort.ahead w m) _ g 0 _ IK]
   have hHg:Sort.HoldsK Au 3 (Sort.grow (Sort.ahead w m) os) g 0 L.toArray:=Sort.holdsK_grow _ _ _ _ g 0 _ IK (Sort.holdsK_ahead _ _ _ _ _ _ _ hH);have hsz':L.toArray.size=L.length:=by simp
   refine zlf g c Bs L.length _ (λ t=>dk[t]!.1) ?_ (λ t ht=>?_) i j (by rw[hsz'] at hi;exact hi) (by rw[hsz'] at hj;exact hj)
   ·rw[e,Sort.cell?_putRowK_other _ _ _ g 0 dk _ (by exact l9),Sort.cell?_grow _ _ _ (by exact hBl)];exact TM
   ·rw[e]
    have:=((Sort.holdsK_putRowK _ _ _ g 0 L.toArray dk hHg hs).cell (i:=t) (c:=0) (by rw[hs,hsz'];exact ht) (by omega)).1
    simpa[Au] using this
  have hsw:Lib.swapperK L.toArray.size ie 25=9:=by
   have e0:(L.toArray.size==0)=false:=by simp;intro e;rw[e] at h2;simp at h2
   have e1:(L.toArray.size==1)=false:=by simp;omega
   simp only[Lib.swapperK,e0,e1,hpt,hby];rfl
  have key:=Any.sort_Slice_cells_sorted (P:=prog) (ρ:=Tryz.sl6_ren) Tryz.sl6 33 61 i ie hi hd TS CR 25 Um Au 3 (λ _=>rfl) BS zuf
   (λ x v hv=>Fa [x] v (by simpa[Af] using hv)) ltE zp9 50 #[.pointer Bs]
   (enters_of func50 (by kernel_rfl) rfl) g 0 c L.toArray (by simp;omega) (by simp;omega) 212 (by rw[hsw];kernel_rfl) false
   (λ args W=>run_callFunc_extern func212 (by kernel_rfl) (by kernel_rfl) (by kernel_rfl) (e:=Extern.ReflectliteSwapper.swap false) (by kernel_rfl) args W) w QU hH IK
  refine aA key ?_;rintro e w' ⟨rfl,d',k,os,hp,hso,rfl⟩;have hd's:d'.size=L.length:=by have:=hp.1;simpa using this
  have QO:d'.toList.Perm L:=by
   have h3:=hp.2.2;have e:List.take L.length d'.toList=d'.toList:=aZ (by simp[hd's]);have h4:(List.take L.length d'.toList).Perm L:=by simpa[hd's] using h3
   rw[e] at h4;exact h4
  obtain⟨r1,r2⟩:=zd2 (k:=k) (os:=os) (M:=d'.toList) h (by simpa using hd's);rw[iD] at r1 r2;refine⟨rfl,d'.toList,QO,?_,?_,rfl,rfl,rfl,by simp[Sort.putRowK,Sort.putRow,Sort.mapBlock,Sort.ahead],r2⟩
  ·refine dM.2 (λ a b ha hb BJ=>?_)
   have:=hso a b (by omega) BJ (by simpa[hd's] using hb);rw[jB d' b (by simpa using hb),jB d' a (by simpa using ha)] at this
   simpa[ltE] using this
  ·have e:d'.toList.length=L.length:=by simpa using hd's
   rw[e] at r1;exact r1
 ·have key:Calls prog 49 #[.iface 33 (.slice g L.length c),.func (.func 50) #[] #[.pointer Bs]] w λ e w'=>e=Value.tuple #[]/\∃os,w'=Sort.grow w os:=by
   rcases Nat.lt_or_eq_of_le h1 with h0|h0
   ·have hL0:L.length=0:=by omega
    exact Any.sort_Slice_tiny (P:=prog) (ρ:=Tryz.sl6_ren) Tryz.sl6 33 61 i ie hi hd TS CR 25 Um (some ⟨g,0,none⟩) L.length c h1 204 (by rw[hL0,show Lib.swapperK 0 ie 25=1 from rfl];kernel_rfl) (.func 50) #[] #[.pointer Bs] w
   ·exact Any.sort_Slice_tiny (P:=prog) (ρ:=Tryz.sl6_ren) Tryz.sl6 33 61 i ie hi hd TS CR 25 Um (some ⟨g,0,none⟩) L.length c h1 205 (by rw[h0,show Lib.swapperK 1 ie 25=2 from rfl];kernel_rfl) (.func 50) #[] #[.pointer Bs] w
  refine aA key ?_;rintro e w' ⟨rfl,os,rfl⟩;have hb:Below w w (Sort.grow w os):=⟨rfl,rfl,rfl,by simp,λ b hb=>Sort.heap_grow_old _ _ hb⟩;refine⟨rfl,L,eO _,?_,h.below hb,rfl,rfl,rfl,by simp,λ b j4 _=>Sort.heap_grow_old _ _ j4⟩;exact zny h1
theorem K6 (B q:Nat)(n:Int)(u:Value)(R L:List E)(w:World)(h:GAt w B 40 61 q n u R)(hi:Inv R L):
 Calls prog 15 #[.pointer q] w λ e w'=>∃v,e= .returned v/\Ad w' w 61 v L/\Below w w w':=by
 have FO:R.length<=120:=by rw[hi.rz];exact hi.len
 obtain⟨a,m,c,w1,hr,ho,hb⟩:=Tc 33 w B u R h.row (by omega);have hu:=h.c1;have hq:=h.plt;obtain⟨ua,um,uc,rfl⟩:=h.row.slice;have HR:=kd hr;have HI:=kd hi;have x8:=kd hb;have HO:=kd ho;rcases ho.shape with⟨e1,e2⟩|⟨g,c',e1,AX,AU,_,_⟩
 ·injection e1 with ea em ec
  subst ea em ec;have HL:Hid (L=[]):=by
   have:=HI.o.rz;rw[e2] at this;exact bV this.symm
  obtain⟨i,ie,hii,hd,TS,CR,_⟩:=zn7;have HC:Hid (Calls prog 49 #[.iface 33 (.slice none 0 0),.func (.func 50) #[] #[.pointer w1]] (w1.alloc (.cells #[.slice none 0 0] 33)) λ e w'=>e=Value.tuple #[]/\w'.cell? w1=some (.slice none 0 0)/\Hid (Below w w w')):=by
   have key:=Any.sort_Slice_tiny (P:=prog) (ρ:=Tryz.sl6_ren) Tryz.sl6 33 61 i ie hii hd TS CR 25 Um none 0 0 (by omega) 204 (by rw[show Lib.swapperK 0 ie 25=1 from rfl];kernel_rfl) (.func 50) #[] #[.pointer w1] (w1.alloc (.cells #[.slice none 0 0] 33));refine aA key ?_;rintro e w' ⟨rfl,os,rfl⟩;refine⟨rfl,?_,?_⟩
   ·rw[Sort.cell?_grow _ _ _ (by simp),World.cell?_alloc_at _ _ _ _ rfl];rfl
   ·have j5:Below w w (w1.alloc (.cells #[.slice none 0 0] 33)):=x8.o.alloc x8.o.size _
    exact j5.trans ⟨rfl,rfl,rfl,by simp,λ b hb=>Sort.heap_grow_old _ _ (aR hb j5.size)⟩
  clear h hi hr ho hb e2 hii hd TS CR FO;go_enter func15,ntmps15;go_wp2_with (first
   |(at_builtin;refine Lib.wpList_append_run _ rfl _ _ _ _ rfl _ _ rfl rfl _ _ HR.o ?_;clear HR)
   |(go_at_call 49;refine HC.o.mono ?_;rintro e w3 ⟨rfl,AO,AZ⟩))
  go_ret;refine⟨_,rfl,?_,AZ.o⟩;rw[HL.o];exact aX _ _ _ _
 ·injection e1 with ea em ec
  subst ea em ec;have HC:Hid (Calls prog 49 #[.iface 33 (.slice g R.length c),.func (.func 50) #[] #[.pointer w1]] (w1.alloc (.cells #[.slice g R.length c] 33)) λ e w'=>e=Value.tuple #[]/\w'.cell? w1=some (.slice g R.length c)/\Hid (Ad w' w 61 (.slice g R.length c) L/\Below w w w')):=by
   have BF:=Aw w1 (.cells #[.slice g R.length c] 33);have FZ:(w1.alloc (.cells #[.slice g R.length c] 33)).cell? w1=some (.slice g R.length c):=by rw[World.cell?_alloc_at _ _ _ _ rfl];rfl
   refine(zfm w g c w1 R _ (ho.below BF) (by omega) FZ (by omega)).mono ?_;rintro e w' ⟨rfl,M,hp,hs,hM,o1,o2,o3,o4,o5⟩;have hML:M=L:=Xz hi.up (hp.trans hi.perm) hs;subst hML;have UY:w'.heap[w1.heap.size]? =(w1.alloc (.cells #[.slice g R.length c] 33)).heap[w1.heap.size]? :=o5 _ (by simp) (by omega);refine⟨rfl,?_,hM,?_⟩
   ·rw[fD (w:=w1.alloc (.cells #[.slice g R.length c] 33)) UY];exact FZ
   ·have j5:Below w w (w1.alloc (.cells #[.slice g R.length c] 33)):=hb.alloc hb.size _
    exact j5.trans ⟨o1,o2,o3,o4,λ b hb'=>o5 b (aR hb' j5.size) (by omega)⟩
  clear h hi hr ho hb AX AU FO;generalize R.length=rl at*;go_enter func15,ntmps15;go_wp2_with (first
   |(at_builtin;refine Lib.wpList_append_run _ rfl _ _ _ _ rfl _ _ rfl rfl _ _ HR.o ?_;clear HR)
   |(go_at_call 49;refine HC.o.mono ?_;rintro e w3 ⟨rfl,AO,AZ⟩))
  go_ret;exact⟨_,rfl,AZ.o⟩
end Go.Proofs.Y.G
