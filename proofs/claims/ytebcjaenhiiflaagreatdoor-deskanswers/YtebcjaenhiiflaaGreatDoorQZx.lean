import Derived.Test.YtebcjaenhiiflaaGreatDoorQZn
import Derived.Test.YtebcjaenhiiflaaGreatDoorQZoZq
set_option maxHeartbeats 1000000
set_option maxRecDepth 100000
namespace Go.Proofs.Y.I
open Go Go.ChangeMaps Go.MapKept Go.WideShapes Go.Proofs.Tryz
open Go.RowKit Go.WideMaps Go.Maps Go.Lib
def Zv:List UInt8:=Lib.join (Bb.map (·.1)) [32]
theorem zjf (d:Nat):strKeys (fill d (.map []) Bb)=Bb.map (·.1):=by kernel_rfl
theorem Ye (d:Nat):Maps.size (fill d (.map []) Bb)=15:=by kernel_rfl
theorem ru {ss:List (List UInt8)}(h:ss.Perm (Bb.map (·.1))):ss.mergeSort (λ x y=>decide (x<=y))=Bb.map (·.1):=by
 rw[mergeSort_of_perm h];exact List.mergeSort_of_pairwise (by decide)
theorem zj5 (d:Nat)(u:Value)(w:World):
 Calls prog 157 #[.pointer d,u] w λ e w'=>e=Value.string ⟨Zv.toArray⟩/\Below w w w':=by
 have HD:=kd (Yk d w);go_enter func157,ntmps157;go_wp2_with fail;refine aA HD.o ?_;rintro e w1 ⟨rfl,hm,j4⟩;have x8:=kd j4;have HK:=kd (callsIn_wide.1 (Tryz.maps_Keys_271 (some w.heap.size) w1));have HS:=kd (callsIn_wide.1 (Tryz.slices_Sorted_keys_270_271 w 15 _ S.hold w1 hm (by rw[Ye];decide) (by rw[Ye];decide)));clear hm j4 HD;go_wp2_with fail;refine aA HK.o ?_;rintro e w2 ⟨rfl,BL⟩;subst w2;go_wp2_with fail;refine aA HS.o ?_;rintro e w3 ⟨v,ss,rfl,hp,o7,_,y8⟩;rw[zjf] at hp;have hlen:ss.length=15:=hp.length_eq;rw[ru hp,hlen] at o7;have BP:Below w w (w1.alloc (.cells #[.map w] 110)):=x8.o.alloc x8.o.size _;have AZ:=kd (BP.tr y8);rcases o7.2 with⟨_,hz⟩|⟨g,cap,cur,rfl,_,hg,hc,_⟩
 ·omega
 ·have HJ:=kd (Lg g cap 15 (Bb.map (·.1)) ⟨#[32]⟩ w3 rfl (λ j x hx=>by
   have:=bQ o7 rfl j (encStr x) (by rw[bJ,hx];rfl);rw[G.Bh] at this;exact this) (G.lt_of_some hg) (by decide) (by have:(Bb.map (·.1)).length=15:=rfl;omega) (by decide))
  clear hp o7 y8 hg BP HS HK x8 hlen;go_wp2_with fail;refine aA HJ.o ?_;rintro e w4 ⟨rfl,BB⟩;have EP:=kd (AZ.o.tr BB);clear HJ BB;go_wp2_with fail;go_ret;exact⟨rfl,EP.o⟩
end Go.Proofs.Y.I
