import Derived.Test.YtebcjaenhiiflaaGreatDoorQSBSR
import Derived.Deep.RegionHeld
import Derived.Deep.DeepCutAuto
import Derived.Deep.LoopGhost
namespace Go.Proofs.Y.S
open Go.Proofs.Tryz
open Go.RowKit
def Ja (w:World)(g:Nat)(Gs:List (List Nat))(c:Nat):Prop:=
 ∀i,i<c->∃r cap,w.cell? ⟨g,i,none⟩=some (.slice (some ⟨r,0,none⟩) (Gs.getD i []).length cap)/\∀j,j<(Gs.getD i []).length->w.cell? ⟨r,j,none⟩=(((Gs.getD i []).getD j 0:Nat):Int)
end Go.Proofs.Y.S
namespace Go.Proofs.Y.S
open Go.Proofs.Tryz
open Go.RowKit
theorem Yg {w:World}{p b:Nat}{L:List Nat}(h:Aa w p b L):Aa w.drew p b L:=⟨h.hp,h.hb⟩
theorem Xg (x y p b:Nat)(L:List Nat)(ok:Bool)(w:World)(hs:Aa w p b L)(hx:x<L.length)(hy:y<L.length)(hlen:L.length<=40)(p8:decide (L.getD x 0≠L.getD y 0)=ok):
 Calls prog 119 #[.pointer p,x,y] w λ e w'=>e=Value.tuple #[ok,.nilIface]/\Aa w' p b (joinL L x y)/\But b w w':=by
 rw[<-p8];exact Nw x y p b L w hs hx hy hlen
theorem zcd {n X:Nat}(x p b:Nat)(L:List Nat)(w:World)(hs:Aa w p b L)(hg:Good n L)(hx:x<n)(hX:L.getD x 0=X):
 Calls prog 247 #[.pointer p,x] w λ e w'=>e=Value.tuple #[X,.nilIface]/\Below w w w':=by
 have:=yw (x:Int) p b L w hs (by omega) (by rw[hg.len];omega);rw[jN,hX] at this;exact this
theorem cell_below {w w':World}{k i:Nat}{v:Value}(h:w.cell? (k,i)=some v)(hb:Below w w w'):w'.cell? (k,i)=some v:=
 (hb.cell (p:=⟨k,i,none⟩) (lt_of_cell h)).trans h
theorem Ja.below {w w':World}{g c:Nat}{Gs:List (List Nat)}(h:Ja w g Gs c)(hb:Below w w w'):Ja w' g Gs c:=by
 intro i hi;obtain⟨r,cap,h1,h2⟩:=h i hi;exact⟨r,cap,cell_below h1 hb,λ j hj=>cell_below (h2 j hj) hb⟩
theorem Bg.rows {w:World}{base g m cap:Nat}{Gs:List (List Nat)}{r c:Nat->Nat}(h:Bg w base (.slice g m cap) Gs r c)(hm:m=Gs.length):Ja w g Gs m:=by
 intro i hi;refine⟨r i,c i,h.Xa hm i (by omega),λ j hj=>?_⟩;have h1:=(h.each i (by omega)).1;rw[Ci] at h1;rw[h1.cellAt j (by omega)];generalize Gs.getD i []=G at*;simp[ints,hj]
theorem zdh {n:Nat}{L:List Nat}(g:Good n L)(i:Nat):((Ar L n).getD i []).length<=n:=by
 rcases eH i (Ar L n).length with h|h
 ·obtain⟨x,_,_,e⟩:=zcw g i h
  rw[e,O4];exact Q7 _ _
 ·simp[List.getElem?_eq_none h]
end Go.Proofs.Y.S
