import Derived.Test.YtebcjaenhiiflaaGreatDoorQZn
import Derived.Test.YtebcjaenhiiflaaGreatDoorQZoZq
set_option maxHeartbeats 1000000
set_option maxRecDepth 100000
namespace Go.Proofs.YtebcjaenhiiflaaGreatDoor.I
open Go Go.ChangeMaps Go.MapKept Go.WideShapes
open Go.RowKit Go.WideMaps Go.Maps Go.Lib
def helpT:List UInt8:=Lib.join (deedsT.map (·.1)) [32]
theorem fill_keys (d:Nat):strKeys (fill d (.map []) deedsT)=deedsT.map (·.1):=by kernel_rfl
theorem fill_size (d:Nat):Maps.size (fill d (.map []) deedsT)=15:=by kernel_rfl
theorem sorted_names {ss:List (List UInt8)} (h:ss.Perm (deedsT.map (·.1))):ss.mergeSort (λ x y=>decide (x<=y))=deedsT.map (·.1):=by
 rw [mergeSort_of_perm h];exact List.mergeSort_of_pairwise (by decide)
theorem help_any (d:Nat) (u:Value) (w:World):
 Calls Tryz.prog 157 #[.pointer (some ⟨d,0,none⟩),u] w λ e w'=>e= .returned (.string ⟨helpT.toArray⟩)/\Below w.heap.size w w':=by
 have HD:=kd (deeds_any d w);go_enter Tryz.func157,Tryz.ntmps157;go_wp2_with fail;refine Calls.mono HD.out ?_;rintro e w1 ⟨rfl,hm,hb1⟩;have HB1:=kd hb1;have HK:=kd (callsIn_wide.1 (Tryz.maps_Keys_271 (some w.heap.size) w1));have HS:=kd (callsIn_wide.1 (Tryz.slices_Sorted_keys_270_271 w.heap.size 15 _ S.hold w1 hm (by rw [fill_size];decide) (by rw [fill_size];decide)));clear hm hb1 HD;go_wp2_with fail;refine Calls.mono HK.out ?_;rintro e w2 ⟨rfl,hw2⟩;subst w2;go_wp2_with fail;refine Calls.mono HS.out ?_;rintro e w3 ⟨v,ss,rfl,hp,hrow,_,hb3⟩;rw [fill_keys] at hp;have hlen:ss.length=15:=hp.length_eq;rw [sorted_names hp,hlen] at hrow;have hb0:Below w.heap.size w (w1.alloc (.cells #[.map (some w.heap.size)] 110)):=HB1.out.alloc HB1.out.size _;have HB3:=kd (hb0.trans (hb3.mono hb0.size));rcases hrow.2 with ⟨_,hz⟩ | ⟨g,cap,cur,rfl,_,hg,hc,_⟩
 ·omega
 ·have HJ:=kd (join_sep g cap 15 (deedsT.map (·.1)) ⟨#[32]⟩ w3 rfl (λ j x hx=>by
   have:=World.ownsRow.cells hrow rfl j (encStr x) (by rw [List.getElem?_map,hx];rfl);rw [G.addr0_add] at this;exact this) (G.lt_of_some hg) (by decide) (by have:(deedsT.map (·.1)).length=15:=rfl;omega) (by decide))
  clear hp hrow hb3 hg hb0 HS HK HB1 hlen;go_wp2_with fail;refine Calls.mono HJ.out ?_;rintro e w4 ⟨rfl,hb4⟩;have HB4:=kd (HB3.out.trans (hb4.mono HB3.out.size));clear HJ hb4;go_wp2_with fail;go_ret;exact ⟨rfl,HB4.out⟩
end Go.Proofs.YtebcjaenhiiflaaGreatDoor.I
