import Derived.Test.YtebcjaenhiiflaaGreatDoorQJy
import Derived.Test.YtebcjaenhiiflaaGreatDoorQJbGE
import Derived.Laws.Strings
import Derived.WideShapes
set_option maxHeartbeats 2000000
set_option maxRecDepth 100000
namespace Go.Proofs.YtebcjaenhiiflaaGreatDoor.I
open Go.RowKit Go.Proofs.Tryz
def zwl (ns:List Int):List Value:=ns.map λ x=>.string ⟨(Lib.itoa x).toArray⟩
theorem yabg:(prog.info? 9).map (λ i=>(i.zero,i.size,i.bytes))=some (some (.string ByteArray.empty),1,16):=by kernel_rfl
def zuv (w0 w:World) (ns:List Int) (j:Nat) (v:Value):Prop:=w.ownsRow w0.heap.size 9 1 v j (zwl (ns.take j))/\Below w0.heap.size w0 w
theorem z5n {w0 w w1 w2:World} {ns:List Int} {j:Nat} {v v2:Value} {x:Int} {o:Obj} (h:zuv w0 w ns j v) (hb:Below w.heap.size w w1) (hx:ns[j]? =some x) (h2:w2.ownsRow w0.heap.size 9 1 v2 (j+1) (zwl (ns.take j)++[.string ⟨(Lib.itoa x).toArray⟩])) (hg:(w1.alloc o).grownBy w2 v.ownBlock):zuv w0 w2 ns (j+1) v2:=by
 have h1:=zhx h.1 hb;have hb1:=h.2.trans (hb.mono h.2.size);refine ⟨?_,(hb1.alloc hb1.size o).grown hg (by have:=hb1.size;simp;omega) λ k hk=>(h1.lt k hk).1⟩;rw [ziy hx]
 simpa [zwl] using h2
theorem z4d {w0 w:World} {ns:List Int} {j:Nat} {v:Value} (h:zuv w0 w ns j v) (hj:ns.length=j) (h0:0<j):∃g c,v= .slice (some ⟨g,0,none⟩) j c/\j<=c/\g<w.heap.size/\∀(i:Nat) y,(ns.map Lib.itoa)[i]? =some y->w.cell? ⟨g,i,none⟩=some (.string ⟨y.toArray⟩):=by
 subst hj;have h1:=h.1;rw [List.take_length] at h1;rcases h1.2 with ⟨_,hz⟩ | ⟨g,cap,cur,rfl,hb,hg,hc,_⟩
 ·omega
 ·refine ⟨g,cap,rfl,by omega,G.lt_of_some hg,λ i y hy=>?_⟩
  have:=h1.cells rfl i (.string ⟨y.toArray⟩) (by
   unfold zwl;rw [List.getElem?_map] at hy ⊢;cases hq:ns[i]? with
   | none=>rw [hq] at hy;cases hy
   | some z=>rw [hq] at hy;injection hy with hy;subst hy;rfl)
  rwa [G.zbm] at this
theorem zxj {w:World} {base e s n:Nat} {v:Value} {xs:List Value} (h:w.ownsRow base e s v n xs):∃a c,v= .slice a n c:=by
 rcases h.2 with ⟨rfl,hz⟩ | ⟨g,cap,cur,rfl,_⟩
 ·exact ⟨_,_,by rw [hz]⟩
 ·exact ⟨_,_,rfl⟩
theorem zn1 (a:Option Addr) (nb m c:Nat) (ns:List Int) (w:World) (hm:m=ns.length) (ha:0<m->a=some ⟨nb,0,none⟩) (hc:∀(j:Nat) x,ns[j]? =some x->w.cell? ⟨nb,j,none⟩=some (.int .i64 x)) (hr:∀x∈ns,0<=x/\x<=9223372036854775807) (h3:ns.length<=10000) (hv:Vars w):
 Calls prog 77 #[.slice a m c] w λ e w'=>e= .returned (.string ⟨(zax ns).toArray⟩)/\Below w.heap.size w w':=by
 have HC:=kd hc;have HR:=kd hr;have HV:=kd hv;have HM:=kd (And.intro hm h3);have HA:=kd ha;have hm3:m<=10000:=by omega
 clear hc hr hv hm h3 ha;go_enter func77,ntmps77;go_wp2_with fail;go_loopw [3,8] (λ s3 s8 wq=>∃j:Nat,j<=m/\s8= .int .i64 j/\zuv w wq ns j s3) (λ _ s8 _=>m-(RowKit.intOf s8).toNat)
 case atStart=>exact ⟨0,Nat.zero_le _,rfl,World.ownsRow_nil _ _ _ _,Below.refl _ _⟩
 case round=>
  obtain ⟨j,hj,rfl,hat⟩:=hrel;have HW:=kd hat;clear hat;by_cases hlt:j<m
  ·have hae:=HA.out (by omega)
   subst hae;have hjn:j<ns.length:=by have:=HM.out;omega
   have hx:ns[j]? =some ns[j]:=List.getElem?_eq_getElem hjn;have HX:=kd hx;have hxr:=HR.out _ (List.mem_of_getElem? hx);have hcx:wr.cell? ⟨nb,j,none⟩=some (.int .i64 ns[j]):=(HW.out.2.cell (p:=⟨nb,j,none⟩) (G.lt_of_cell (HC.out j _ hx))).trans (HC.out j _ hx);generalize ns[j]=x at*;have HI:Hid _:=z1p x hxr.1 hxr.2 wr (HV.out.on HW.out.2 HV.out.big);clear hx hjn hxr;obtain ⟨i0,hi,hz0,hz1,hz2⟩:=info_parts yabg;go_wp2_with (first
    | (go_at_call 131;refine Calls.mono HI.out ?_;rintro e w1 ⟨rfl,hb1⟩;have hrow:=zhx HW.out.1 hb1;have hsz:=Nat.le_trans HW.out.2.size hb1.size)
    | (at_builtin;refine wpList_append_own_at _ rfl _ _ 70 rfl w.heap.size 9 i0 (.string ByteArray.empty) 1 16 underlying70 hi hz0 hz1 hz2 rfl (by decide) u3 _ _ rfl (hrow.alloc _) ⟨w1.heap.size,0,none⟩ 1 1 [.string ⟨(Lib.itoa x).toArray⟩] rfl rfl (cell_one_new _ _ _) (by simp [Value.oneCell']) (by unfold maxLen;omega) (by omega) (by simp;omega) ?_;intro v2 w2 hown2 hg2 _ _))
   have HW2:Hid (zuv w w2 ns (j+1) v2):=z5n HW.out hb1 HX.out hown2 hg2;clear hown2 hg2 hrow hb1;go_wp2_with fail;go_roundw;case rel=>exact ⟨j+1,by omega,by go_num,HW2.out⟩
   case measure=>simp [RowKit.intOf];omega
  ·obtain rfl:j=m:=by omega
   by_cases h0:j=0
   ·subst h0
    have hn:ns=[]:=List.length_eq_zero_iff.1 (by have:=HM.out;omega);obtain ⟨aa,cc,hu⟩:=zxj HW.out.1;subst hu;subst hn;go_wp2_with (go_at_call 132;refine Calls.mono (join_none aa cc wr) ?_;rintro e w1 ⟨rfl,hw1⟩;subst w1);go_ret;exact ⟨rfl,HW.out.2⟩
   ·obtain ⟨g,cc,hu,hcc,hg,hcells⟩:=z4d HW.out HM.out.1.symm (by omega)
    have HJ:Hid _:=z2p g cc j (ns.map Lib.itoa) wr (by rw [List.length_map];exact HM.out.1) hcells hg (by rw [List.length_map];have:=HM.out;omega) (by rw [List.length_map];have:=HM.out;omega) (by
     have:=zdf HR.out;have:=HM.out;unfold zax at*;omega)
    subst hu;clear hcells;go_wp2_with (go_at_call 132;refine Calls.mono HJ.out ?_;rintro e w1 ⟨rfl,hb1⟩);go_ret;exact ⟨rfl,HW.out.2.trans (hb1.mono HW.out.2.size)⟩
end Go.Proofs.YtebcjaenhiiflaaGreatDoor.I
