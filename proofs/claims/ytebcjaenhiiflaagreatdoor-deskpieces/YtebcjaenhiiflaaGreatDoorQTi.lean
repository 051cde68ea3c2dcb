import Derived.Test.YtebcjaenhiiflaaGreatDoorQDaTh
import Derived.Test.YtebcjaenhiiflaaGreatDoorQKVpFDe
namespace Go.Proofs.YtebcjaenhiiflaaGreatDoor.S
open Go.RowKit Go.WideMaps Go.Maps
theorem ownP_block {w:World} {B:Nat} {v:Value} {M:List (Int × Int)} (h:OwnsP w B v M) {g:Nat} (hg:v.ownBlock=some g):∃cur,w.heap[g]? =some (.cells cur 180):=by
 have h':w.ownsRow B 180 2 v M.length (rowP M):=h;rcases h'.2 with ⟨rfl,_⟩ | ⟨g',cap,cur,rfl,_,hc,_⟩
 ·simp [Value.ownBlock] at hg
 ·simp [Value.ownBlock] at hg
  subst hg;exact ⟨_,hc⟩
structure PbT (w3 w:World) (cb:Nat) (e:Edg) (u:Value) (M:List (Int × Int)):Prop where
 own:OwnsP w w3.heap.size u M
 below:Below w3.heap.size w3 w
 box:Box w cb e
theorem PbT.below' {w3 w w':World} {cb:Nat} {e:Edg} {u:Value} {M:List (Int × Int)} (h:PbT w3 w cb e u M) (hb:Below w.heap.size w w'):PbT w3 w' cb e u M:=
 ⟨h.own.below hb,h.below.trans (hb.mono h.below.size),h.box.below hb⟩
theorem PbT.more {w3 w w':World} {cb:Nat} {e:Edg} {u v':Value} {M M':List (Int × Int)} (h:PbT w3 w cb e u M) (ho:OwnsP w' w3.heap.size v' M') (hg:w.grownBy w' u.ownBlock):PbT w3 w' cb e v' M':=by
 refine ⟨ho,h.below.grown hg h.below.size (λ k hk=>(World.ownsRow.lt h.own k hk).1),?_⟩;have hb:=h.box;unfold Box at hb ⊢;rw [hg.block cb (lt_of_some hb) (λ e2=>?_)]
 ·exact hb
 ·obtain ⟨cur,hc⟩:=ownP_block h.own e2.symm
  rw [hb] at hc;simp at hc
end Go.Proofs.YtebcjaenhiiflaaGreatDoor.S
