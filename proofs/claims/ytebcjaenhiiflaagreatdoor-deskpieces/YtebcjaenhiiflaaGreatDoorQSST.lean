import Derived.Test.YtebcjaenhiiflaaGreatDoorQSRKVb
import Derived.Deep.RegionHeld
import Derived.Deep.DeepCutAuto
import Derived.Deep.LoopGhost
namespace Go.Proofs.YtebcjaenhiiflaaGreatDoor.S
open Go.RowKit
def RowsAt (w:World) (g:Nat) (Gs:List (List Nat)) (c:Nat):Prop:=
 ∀i,i<c->∃r cap,w.cell? ⟨g,i,none⟩=some (.slice (some ⟨r,0,none⟩) (Gs.getD i []).length cap)/\∀j,j<(Gs.getD i []).length->w.cell? ⟨r,j,none⟩=some (.int .i64 (((Gs.getD i []).getD j 0:Nat):Int))
end Go.Proofs.YtebcjaenhiiflaaGreatDoor.S
namespace Go.Proofs.YtebcjaenhiiflaaGreatDoor.S
open Go.RowKit
theorem sets_drew {w:World} {p b:Nat} {L:List Nat} (h:SetsAt w p b L):SetsAt w.drew p b L:=⟨h.hp,h.hb⟩
theorem join_nm (x y p b:Nat) (L:List Nat) (ok:Bool) (w:World) (hs:SetsAt w p b L) (hx:x<L.length) (hy:y<L.length) (hlen:L.length<=40) (hok:decide (L.getD x 0≠L.getD y 0)=ok):
 Calls Tryz.prog 119 #[.pointer (some ⟨p,0,none⟩),.int .i64 (x:Int),.int .i64 (y:Int)] w λ e w'=>e= .returned (.tuple #[.bool ok,.nilIface])/\SetsAt w' p b (joinL L x y)/\But b w w':=by
 rw [<-hok];exact join_in x y p b L w hs hx hy hlen
theorem least_n {n X:Nat} (x p b:Nat) (L:List Nat) (w:World) (hs:SetsAt w p b L) (hg:Good n L) (hx:x<n) (hX:L.getD x 0=X):
 Calls Tryz.prog 247 #[.pointer (some ⟨p,0,none⟩),.int .i64 (x:Int)] w λ e w'=>e= .returned (.tuple #[.int .i64 (X:Int),.nilIface])/\Below w.heap.size w w':=by
 have:=least_in (x:Int) p b L w hs (by omega) (by rw [hg.len];omega);rw [Int.toNat_natCast,hX] at this;exact this
theorem cell_below {w w':World} {k i:Nat} {v:Value} (h:w.cell? ⟨k,i,none⟩=some v) (hb:Below w.heap.size w w'):w'.cell? ⟨k,i,none⟩=some v:=
 (hb.cell (p:=⟨k,i,none⟩) (lt_of_cell h)).trans h
theorem RowsAt.below {w w':World} {g c:Nat} {Gs:List (List Nat)} (h:RowsAt w g Gs c) (hb:Below w.heap.size w w'):RowsAt w' g Gs c:=by
 intro i hi;obtain ⟨r,cap,h1,h2⟩:=h i hi;exact ⟨r,cap,cell_below h1 hb,λ j hj=>cell_below (h2 j hj) hb⟩
theorem POut.rows {w:World} {base g m cap:Nat} {Gs:List (List Nat)} {r c:Nat->Nat} (h:POut w base (.slice (some ⟨g,0,none⟩) m cap) Gs r c) (hm:m=Gs.length):RowsAt w g Gs m:=by
 intro i hi;refine ⟨r i,c i,h.outcell hm i (by omega),λ j hj=>?_⟩;have h1:=(h.each i (by omega)).1;rw [ints_length] at h1;rw [h1.cellAt j (by omega)];generalize Gs.getD i []=G at*;simp [ints,hj]
end Go.Proofs.YtebcjaenhiiflaaGreatDoor.S
