import Derived.Test.YtebcjaenhiiflaaGreatDoorQJy
import Derived.Test.YtebcjaenhiiflaaGreatDoorQJb
import Derived.Laws.Strings
import Derived.WideShapes
namespace Go.Proofs.YtebcjaenhiiflaaGreatDoor.I
open Go.RowKit
def strV (ns:List Int):List Value:=ns.map λ x=>.string ⟨(Lib.itoa x).toArray⟩
theorem info9:(Tryz.prog.info? 9).map (λ i=>(i.zero,i.size,i.bytes))=some (some (.string ByteArray.empty),1,16):=by kernel_rfl
def WoAt (w0 w:World) (ns:List Int) (j:Nat) (v:Value):Prop:=w.ownsRow w0.heap.size 9 1 v j (strV (ns.take j))/\Below w0.heap.size w0 w
theorem wo_more {w0 w w1 w2:World} {ns:List Int} {j:Nat} {v v2:Value} {x:Int} {o:Obj} (h:WoAt w0 w ns j v) (hb:Below w.heap.size w w1) (hx:ns[j]? =some x) (h2:w2.ownsRow w0.heap.size 9 1 v2 (j+1) (strV (ns.take j)++[.string ⟨(Lib.itoa x).toArray⟩])) (hg:(w1.alloc o).grownBy w2 v.ownBlock):WoAt w0 w2 ns (j+1) v2:=by
 have h1:=row_keep h.1 hb;have hb1:=h.2.trans (hb.mono h.2.size);refine ⟨?_,(hb1.alloc hb1.size o).grown hg (by have:=hb1.size;simp;omega) λ k hk=>(h1.lt k hk).1⟩;rw [take_next hx]
 simpa [strV] using h2
theorem wo_cells {w0 w:World} {ns:List Int} {j:Nat} {v:Value} (h:WoAt w0 w ns j v) (hj:ns.length=j) (h0:0<j):∃g c,v= .slice (some ⟨g,0,none⟩) j c/\j<=c/\g<w.heap.size/\∀(i:Nat) y,(ns.map Lib.itoa)[i]? =some y->w.cell? ⟨g,i,none⟩=some (.string ⟨y.toArray⟩):=by
 subst hj;have h1:=h.1;rw [List.take_length] at h1;rcases h1.2 with ⟨_,hz⟩ | ⟨g,cap,cur,rfl,hb,hg,hc,_⟩
 ·omega
 ·refine ⟨g,cap,rfl,by omega,G.lt_of_some hg,λ i y hy=>?_⟩
  have:=h1.cells rfl i (.string ⟨y.toArray⟩) (by
   unfold strV;rw [List.getElem?_map] at hy ⊢;cases hq:ns[i]? with
   | none=>rw [hq] at hy;cases hy
   | some z=>rw [hq] at hy;injection hy with hy;subst hy;rfl)
  rwa [G.addr0_add] at this
theorem row_shape {w:World} {base e s n:Nat} {v:Value} {xs:List Value} (h:w.ownsRow base e s v n xs):∃a c,v= .slice a n c:=by
 rcases h.2 with ⟨rfl,hz⟩ | ⟨g,cap,cur,rfl,_⟩
 ·exact ⟨_,_,by rw [hz]⟩
 ·exact ⟨_,_,rfl⟩
end Go.Proofs.YtebcjaenhiiflaaGreatDoor.I
