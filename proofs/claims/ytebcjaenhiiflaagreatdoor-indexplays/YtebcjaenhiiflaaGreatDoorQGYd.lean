import Derived.Test.YtebcjaenhiiflaaGreatDoorQGBGYa
import Derived.Test.YtebcjaenhiiflaaGreatDoorQGSl
import Derived.Shelf.GgSortFunc.Tiny
set_option maxHeartbeats 2000000
set_option maxRecDepth 100000
namespace Go.Proofs.YtebcjaenhiiflaaGreatDoor.G
open Go.RowKit Go.Shelf Go.Proofs.Tryz
def ltE (a b:E):Bool:=decide (a.1<b.1)
theorem z8l:Sort.SWO ltE:=
 ⟨λ x=>by simp [ltE],λ x y z h1 h2=>by simp [ltE] at*;omega,λ x y z h1 h2=>by simp [ltE] at*;omega⟩
theorem zrs (L:List E):Sort.flatK zaq 3 L.toArray=(zaf L).toArray:=by
 refine Sort.ext_get! (by simp [zah]) (λ t ht=>?_);have ht':t<L.length*3:=by simpa using ht
 rw [Sort.get_flatK _ _ _ _ (by simpa using ht')];have hlt:t/3<L.length:=by omega
 have hx:L[t/3]? =some L[t/3]:=List.getElem?_eq_getElem hlt;obtain ⟨a,b,c⟩:=zjn L (t/3) _ hx;have he:(L.toArray)[t/3]! =L[t/3]:=by simp [hlt]
 rw [he];have hr:(zaf L).toArray[t]! =((zaf L)[t]?).getD default:=by
  simp [Array.getElem!_eq_getD,Array.getD_eq_getD_getElem?]
 rw [hr];have hm:t%3=0\/t%3=1\/t%3=2:=by omega
 rcases hm with h | h | h
 ·have e:t=t/3*3:=by omega
  rw [h];have:(zaf L)[t]? =(zaf L)[t/3*3]? :=by rw [<-e]
  rw [this,a];rfl
 ·have e:t=t/3*3+1:=by omega
  rw [h];have:(zaf L)[t]? =(zaf L)[t/3*3+1]? :=by rw [<-e]
  rw [this,b];rfl
 ·have e:t=t/3*3+2:=by omega
  rw [h];have:(zaf L)[t]? =(zaf L)[t/3*3+2]? :=by rw [<-e]
  rw [this,c];rfl
theorem zyj {w:World} {B g c:Nat} {L:List E} (h:zad w B 61 (.slice (some ⟨g,0,none⟩) L.length c) L):Sort.HoldsK zaq 3 w g 0 L.toArray:=by
 unfold Sort.HoldsK;rw [zrs];intro j hj;have hj':j<(zaf L).length:=by simpa using hj
 have hx:(zaf L)[j]? =some (zaf L)[j]:=List.getElem?_eq_getElem hj';have hc:=World.ownsRow.cells h rfl j _ hx;rw [zbm] at hc;refine ⟨?_,?_⟩
 ·rw [Nat.zero_add,hc]
  simp [hj']
 ·rcases h.2 with ⟨hv,_⟩ | ⟨g',cap,cur,hv,_,hg,_⟩
  ·simp at hv
  ·injection hv with hv _ _
   obtain rfl:g=g':=by simpa using hv
   simp [World.frozen?,hg]
theorem z07 (F cur:Array Value) (h:F.size<=cur.size):(Sort.putCells id 0 F cur).toList.take F.size=F.toList:=by
 apply List.ext_getElem
 ·simp [Sort.putCells];omega
 ·intro i h1 h2
  have hi:i<F.size:=by simpa using h2
  simp [Sort.putCells,hi]
theorem zwt {w:World} {B g c k:Nat} {os:Array Obj} {L M:List E} (h:zad w B 61 (.slice (some ⟨g,0,none⟩) L.length c) L) (hl:M.length=L.length):
 zad (Sort.grow (Sort.putRowK zaq 3 (Sort.ahead w k) g 0 M.toArray) os) B 61 (.slice (some ⟨g,0,none⟩) M.length c) M/\∀b,b<w.heap.size->b≠g->(Sort.grow (Sort.putRowK zaq 3 (Sort.ahead w k) g 0 M.toArray) os).heap[b]? =w.heap[b]? :=by
 rcases h.2 with ⟨hv,_⟩ | ⟨g',cap,cur,hv,hB,hg,h1,h2,h3,_⟩
 ·simp at hv
 injection hv with hv _ hc
 obtain rfl:g=g':=by simpa using hv
 subst hc;have hgl:g<w.heap.size:=lt_of_some hg;have hs:(Sort.putRowK zaq 3 (Sort.ahead w k) g 0 M.toArray).heap.size=w.heap.size:=by simp [Sort.putRowK,Sort.putRow,Sort.mapBlock,Sort.ahead]
 have hb:∀b,b<w.heap.size->(Sort.grow (Sort.putRowK zaq 3 (Sort.ahead w k) g 0 M.toArray) os).heap[b]? =(Sort.putRowK zaq 3 (Sort.ahead w k) g 0 M.toArray).heap[b]? :=λ b hb=>Sort.heap_grow_old _ _ (by rw [hs];exact hb)
 refine ⟨⟨zah _,Or.inr ⟨g,c,Sort.putCells id 0 (zaf M).toArray cur,rfl,hB,?_,by omega,h2,by simp [Sort.putCells];exact h3,?_⟩⟩,λ b hb1 hb2=>?_⟩
 ·rw [hb g hgl]
  unfold Sort.putRowK;rw [zrs];simp [Sort.putRow,Sort.mapBlock,Sort.ahead,Array.getElem?_modify,hg,Sort.onCells]
 ·have:=z07 (zaf M).toArray cur (by simp [zah];omega)
  simpa [zah] using this
 ·rw [hb b hb1]
  simp [Sort.putRowK,Sort.putRow,Sort.mapBlock,Sort.ahead,Array.getElem?_modify,Ne.symm hb2]
theorem z2y (g c Bs size:Nat) (W:World) (G:Nat->Int) (hs:W.cell? ⟨Bs,0,none⟩=some (.slice (some ⟨g,0,none⟩) size c))
 (hc:∀t,t<size->W.cell? ⟨g,t*3,none⟩=some (.int .i64 (G t))) (i j:Nat) (hi:i<size) (hj:j<size):
 Calls prog 50 #[.int .i64 i,.int .i64 j,.pointer (some ⟨Bs,0,none⟩)] W λ e w'=>e= .returned (.bool (decide (G i<G j)))/\∃q,w'=W.drewN q:=by
 have ci:=hc i hi;have cj:=hc j hj;clear hc;go_enter func50,ntmps50;go_wp2;go_quiet (fail);go_wp2;go_ret;exact ⟨rfl,nq,rfl⟩
theorem z4r:∃i ie,prog.info? 33=some i/\i.desc= .slice 61/\prog.packed 31=false/\prog.info? 61=some ie/\ie.size=3/\ie.hasPointers=false/\ie.bytes=24:=
 ⟨(prog.info? 33).get (by kernel_rfl),(prog.info? 61).get (by kernel_rfl),by kernel_rfl,by kernel_rfl,by kernel_rfl,by kernel_rfl,by kernel_rfl,by kernel_rfl,by kernel_rfl⟩
theorem zk3 (w:World):(Extern.Rtype.kind 61).run prog w= .ok 25 w:=by kernel_rfl
theorem yabq (w:World):(isAgg 61).run prog w= .ok true w:=by kernel_rfl
theorem z3k {L:List E} (h:L.length<=1):L.Pairwise (λ x y=>¬y.1<x.1):=by
 cases L with
 | nil=>exact List.Pairwise.nil
 | cons x L=>
   cases L with
   | nil=>exact List.pairwise_singleton _ _
   | cons y L=>simp at h
theorem zvt (B g c Bs:Nat) (L:List E) (w:World) (h:zad w B 61 (.slice (some ⟨g,0,none⟩) L.length c) L) (hl:L.length<=1000) (hBs:w.cell? ⟨Bs,0,none⟩=some (.slice (some ⟨g,0,none⟩) L.length c)) (hne:Bs≠g):
 Calls prog 49 #[.iface 33 (.slice (some ⟨g,0,none⟩) L.length c),.func (.func 50) #[] #[.pointer (some ⟨Bs,0,none⟩)]] w λ e w'=>
  e= .returned (.tuple #[])/\∃M:List E,M.Perm L/\M.Pairwise (λ x y=>¬y.1<x.1)/\zad w' B 61 (.slice (some ⟨g,0,none⟩) L.length c) M/\w'.os=w.os/\w'.tape=w.tape/\w'.output=w.output/\w.heap.size<=w'.heap.size/\∀b,b<w.heap.size->b≠g->w'.heap[b]? =w.heap[b]? :=by
 obtain ⟨i,ie,hi,hd,hpk,hie,hsz,hpt,hby⟩:=z4r;have hgl:g<w.heap.size:=(World.ownsRow.lt h g rfl).2;have hBl:Bs<w.heap.size:=lt_of_cell hBs;have hH:=zyj h;rcases Nat.lt_or_ge 1 L.length with h2 | h1
 ·have hless:LessReadsK prog 50 #[.pointer (some ⟨Bs,0,none⟩)] zaq 3 ltE g 0 L.toArray.size w:=by
   intro m os dk hs i j hi hj;have e:sortWorldK zaq 3 w g 0 m dk os=Sort.putRowK zaq 3 (Sort.grow (Sort.ahead w m) os) g 0 dk:=by
    unfold sortWorldK;rw [Sort.putRowK_grow _ _ (Sort.ahead w m) _ g 0 _ hgl]
   have hHg:Sort.HoldsK zaq 3 (Sort.grow (Sort.ahead w m) os) g 0 L.toArray:=Sort.holdsK_grow _ _ _ _ g 0 _ hgl (Sort.holdsK_ahead _ _ _ _ _ _ _ hH);have hsz':L.toArray.size=L.length:=by simp
   refine z2y g c Bs L.length _ (λ t=>dk[t]!.1) ?_ (λ t ht=>?_) i j (by rw [hsz'] at hi;exact hi) (by rw [hsz'] at hj;exact hj)
   ·rw [e,Sort.cell?_putRowK_other _ _ _ g 0 dk _ (by exact hne),Sort.cell?_grow _ _ _ (by exact hBl)];exact hBs
   ·rw [e]
    have:=((Sort.holdsK_putRowK _ _ _ g 0 L.toArray dk hHg hs).cell (i:=t) (c:=0) (by rw [hs,hsz'];exact ht) (by omega)).1
    simpa [zaq] using this
  have hsw:Lib.swapperK L.toArray.size ie 25=9:=by
   have e0:(L.toArray.size==0)=false:=by simp;intro e;rw [e] at h2;simp at h2
   have e1:(L.toArray.size==1)=false:=by simp;omega
   simp only [Lib.swapperK,e0,e1,hpt,hby];rfl
  have key:=Any.sort_Slice_cells_sorted (P:=prog) (ρ:=Tryz.sl6_ren) Tryz.sl6 33 61 i ie hi hd hpk hie 25 zk3 zaq 3 (λ _=>rfl) hsz yabq
   (λ x v hv=>zcj [x] v (by simpa [zaf] using hv)) ltE z8l 50 #[.pointer (some ⟨Bs,0,none⟩)]
   (enters_of func50 (by kernel_rfl) rfl) g 0 c L.toArray (by simp;omega) (by simp;omega) 212 (by rw [hsw];kernel_rfl) false
   (λ args W=>run_callFunc_extern func212 (by kernel_rfl) (by kernel_rfl) (by kernel_rfl) (e:=Extern.ReflectliteSwapper.swap false) (by kernel_rfl) args W) w hless hH hgl
  refine Calls.mono key ?_;rintro e w' ⟨rfl,d',k,os,hp,hso,rfl⟩;have hd's:d'.size=L.length:=by have:=hp.1;simpa using this
  have hperm:d'.toList.Perm L:=by
   have h3:=hp.2.2;have e:List.take L.length d'.toList=d'.toList:=List.take_of_length_le (by simp [hd's]);have h4:(List.take L.length d'.toList).Perm L:=by simpa [hd's] using h3
   rw [e] at h4;exact h4
  obtain ⟨r1,r2⟩:=zwt (k:=k) (os:=os) (M:=d'.toList) h (by simpa using hd's);rw [Array.toArray_toList] at r1 r2;refine ⟨rfl,d'.toList,hperm,?_,?_,rfl,rfl,rfl,by simp [Sort.putRowK,Sort.putRow,Sort.mapBlock,Sort.ahead],r2⟩
  ·refine List.pairwise_iff_getElem.2 (λ a b ha hb hab=>?_)
   have:=hso a b (by omega) hab (by simpa [hd's] using hb);rw [getElem!_pos d' b (by simpa using hb),getElem!_pos d' a (by simpa using ha)] at this
   simpa [ltE] using this
  ·have e:d'.toList.length=L.length:=by simpa using hd's
   rw [e] at r1;exact r1
 ·have key:Calls prog 49 #[.iface 33 (.slice (some ⟨g,0,none⟩) L.length c),.func (.func 50) #[] #[.pointer (some ⟨Bs,0,none⟩)]] w λ e w'=>e= .returned (.tuple #[])/\∃os,w'=Sort.grow w os:=by
   rcases Nat.lt_or_eq_of_le h1 with h0 | h0
   ·have hL0:L.length=0:=by omega
    exact Any.sort_Slice_tiny (P:=prog) (ρ:=Tryz.sl6_ren) Tryz.sl6 33 61 i ie hi hd hpk hie 25 zk3 (some ⟨g,0,none⟩) L.length c h1 204 (by rw [hL0,show Lib.swapperK 0 ie 25=1 from rfl];kernel_rfl) (.func 50) #[] #[.pointer (some ⟨Bs,0,none⟩)] w
   ·exact Any.sort_Slice_tiny (P:=prog) (ρ:=Tryz.sl6_ren) Tryz.sl6 33 61 i ie hi hd hpk hie 25 zk3 (some ⟨g,0,none⟩) L.length c h1 205 (by rw [h0,show Lib.swapperK 1 ie 25=2 from rfl];kernel_rfl) (.func 50) #[] #[.pointer (some ⟨Bs,0,none⟩)] w
  refine Calls.mono key ?_;rintro e w' ⟨rfl,os,rfl⟩;have hb:Below w.heap.size w (Sort.grow w os):=⟨rfl,rfl,rfl,by simp,λ b hb=>Sort.heap_grow_old _ _ hb⟩;refine ⟨rfl,L,List.Perm.refl _,?_,h.below hb,rfl,rfl,rfl,by simp,λ b hb1 _=>Sort.heap_grow_old _ _ hb1⟩;exact z3k h1
theorem zer (B q:Nat) (n:Int) (u:Value) (R L:List E) (w:World) (h:GAt w B 40 61 q n u R) (hi:Inv R L):
 Calls prog 15 #[.pointer (some ⟨q,0,none⟩)] w λ e w'=>∃v,e= .returned v/\zad w' w.heap.size 61 v L/\Below w.heap.size w w':=by
 have hrl:R.length<=120:=by rw [hi.zpf];exact hi.len
 obtain ⟨a,m,c,w1,hr,ho,hb⟩:=zj8 33 w B u R h.row (by omega);have hu:=h.c1;have hq:=h.plt;obtain ⟨ua,um,uc,rfl⟩:=h.row.slice;have HR:=kd hr;have HI:=kd hi;have HB1:=kd hb;have HO:=kd ho;rcases ho.shape with ⟨e1,e2⟩ | ⟨g,c',e1,hg1,hg2,_,_⟩
 ·injection e1 with ea em ec
  subst ea em ec;have HL:Hid (L=[]):=by
   have:=HI.out.zpf;rw [e2] at this;exact List.eq_nil_of_length_eq_zero this.symm
  obtain ⟨i,ie,hii,hd,hpk,hie,_⟩:=z4r;have HC:Hid (Calls prog 49 #[.iface 33 (.slice none 0 0),.func (.func 50) #[] #[.pointer (some ⟨w1.heap.size,0,none⟩)]] (w1.alloc (.cells #[.slice none 0 0] 33)) λ e w'=>e= .returned (.tuple #[])/\w'.cell? ⟨w1.heap.size,0,none⟩=some (.slice none 0 0)/\Hid (Below w.heap.size w w')):=by
   have key:=Any.sort_Slice_tiny (P:=prog) (ρ:=Tryz.sl6_ren) Tryz.sl6 33 61 i ie hii hd hpk hie 25 zk3 none 0 0 (by omega) 204 (by rw [show Lib.swapperK 0 ie 25=1 from rfl];kernel_rfl) (.func 50) #[] #[.pointer (some ⟨w1.heap.size,0,none⟩)] (w1.alloc (.cells #[.slice none 0 0] 33));refine Calls.mono key ?_;rintro e w' ⟨rfl,os,rfl⟩;refine ⟨rfl,?_,?_⟩
   ·rw [Sort.cell?_grow _ _ _ (by simp),World.cell?_alloc_at _ _ _ _ rfl];rfl
   ·have hb2:Below w.heap.size w (w1.alloc (.cells #[.slice none 0 0] 33)):=HB1.out.alloc HB1.out.size _
    exact hb2.trans ⟨rfl,rfl,rfl,by simp,λ b hb=>Sort.heap_grow_old _ _ (Nat.lt_of_lt_of_le hb hb2.size)⟩
  clear h hi hr ho hb e2 hii hd hpk hie hrl;go_enter func15,ntmps15;go_wp2_with (first
   | (at_builtin;refine Lib.wpList_append_run _ rfl _ _ _ _ rfl _ _ rfl rfl _ _ HR.out ?_;clear HR)
   | (go_at_call 49;refine HC.out.mono ?_;rintro e w3 ⟨rfl,hcell,HB3⟩))
  go_ret;refine ⟨_,rfl,?_,HB3.out⟩;rw [HL.out];exact World.ownsRow_nil _ _ _ _
 ·injection e1 with ea em ec
  subst ea em ec;have HC:Hid (Calls prog 49 #[.iface 33 (.slice (some ⟨g,0,none⟩) R.length c),.func (.func 50) #[] #[.pointer (some ⟨w1.heap.size,0,none⟩)]] (w1.alloc (.cells #[.slice (some ⟨g,0,none⟩) R.length c] 33)) λ e w'=>e= .returned (.tuple #[])/\w'.cell? ⟨w1.heap.size,0,none⟩=some (.slice (some ⟨g,0,none⟩) R.length c)/\Hid (zad w' w.heap.size 61 (.slice (some ⟨g,0,none⟩) R.length c) L/\Below w.heap.size w w')):=by
   have hbx:=zat w1 (.cells #[.slice (some ⟨g,0,none⟩) R.length c] 33);have hc0:(w1.alloc (.cells #[.slice (some ⟨g,0,none⟩) R.length c] 33)).cell? ⟨w1.heap.size,0,none⟩=some (.slice (some ⟨g,0,none⟩) R.length c):=by rw [World.cell?_alloc_at _ _ _ _ rfl];rfl
   refine (zvt w.heap.size g c w1.heap.size R _ (ho.below hbx) (by omega) hc0 (by omega)).mono ?_;rintro e w' ⟨rfl,M,hp,hs,hM,o1,o2,o3,o4,o5⟩;have hML:M=L:=znp hi.up (hp.trans hi.perm) hs;subst hML;have hblk:w'.heap[w1.heap.size]? =(w1.alloc (.cells #[.slice (some ⟨g,0,none⟩) R.length c] 33)).heap[w1.heap.size]? :=o5 _ (by simp) (by omega);refine ⟨rfl,?_,hM,?_⟩
   ·rw [World.cell?_of_block (w:=w1.alloc (.cells #[.slice (some ⟨g,0,none⟩) R.length c] 33)) hblk];exact hc0
   ·have hb2:Below w.heap.size w (w1.alloc (.cells #[.slice (some ⟨g,0,none⟩) R.length c] 33)):=hb.alloc hb.size _
    exact hb2.trans ⟨o1,o2,o3,o4,λ b hb'=>o5 b (Nat.lt_of_lt_of_le hb' hb2.size) (by omega)⟩
  clear h hi hr ho hb hg1 hg2 hrl;generalize R.length=rl at*;go_enter func15,ntmps15;go_wp2_with (first
   | (at_builtin;refine Lib.wpList_append_run _ rfl _ _ _ _ rfl _ _ rfl rfl _ _ HR.out ?_;clear HR)
   | (go_at_call 49;refine HC.out.mono ?_;rintro e w3 ⟨rfl,hcell,HB3⟩))
  go_ret;exact ⟨_,rfl,HB3.out⟩
end Go.Proofs.YtebcjaenhiiflaaGreatDoor.G
