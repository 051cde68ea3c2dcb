import Derived.Test.YtebcjaenhiiflaaGreatDoorQSBTa
import Derived.Deep.RegionHeld
import Derived.Deep.DeepCutAuto
import Derived.Deep.LoopGhost
set_option maxHeartbeats 400000
namespace Go.Proofs.YtebcjaenhiiflaaGreatDoor.S
open Go.Proofs.Tryz
open Go.RowKit
theorem zi8 (r1 r2 gl c1 c2:Nat) (G:Nat->Nat) (w:World) (h1:∀j,j<gl->w.cell? ⟨r1,j,none⟩=some (.int .i64 (G j:Int))) (h2:∀j,j<gl->w.cell? ⟨r2,j,none⟩=some (.int .i64 (G j:Int))) (hgl:gl<=1000000):
 Calls prog 60 #[.slice (some ⟨r1,0,none⟩) gl c1,.slice (some ⟨r2,0,none⟩) gl c2] w λ e w'=>e= .returned (.bool true)/\∃n,w'=w.drewN n:=by
 have H1:=(show Hid _ from h1);have H2:=(show Hid _ from h2);clear h1 h2;go_enter func60,ntmps60;go_wp2_with fail;go_loopw [5] (λ s5 wq=>∃j:Nat,j<=gl/\s5= .int .i64 j/\∃q,wq=w.drewN q) (λ s5 _=>gl-(intOf s5).toNat)
 case atStart=>exact ⟨0,Nat.zero_le _,rfl,0,rfl⟩
 case round=>
  obtain ⟨j,hj,rfl,q,hq⟩:=hrel;have HQ:=kd hq;clear hq;by_cases hlt:j<gl
  ·have c1':wr.cell? ⟨r1,j,none⟩=some (.int .i64 (G j:Int)):=by rw [HQ.out];exact H1.out j hlt
   have c2':wr.cell? ⟨r2,j,none⟩=some (.int .i64 (G j:Int)):=by rw [HQ.out];exact H2.out j hlt
   generalize G j=x at*;go_wp2_with fail;go_quiet (fail);go_wp2_with fail;go_roundw;case rel=>exact ⟨j+1,by omega,by go_num,_,by rw [HQ.out];exact drewN_drewN _ _ _⟩
   case measure=>simp [intOf];omega
  ·go_wp2_with fail
   go_ret;exact ⟨rfl,q,HQ.out⟩
def zcf (w:World) (g:Nat) (Gs:List (List Nat)) (c:Nat):Prop:=
 ∀i,i<c->∃r cap,w.cell? ⟨g,i,none⟩=some (.slice (some ⟨r,0,none⟩) (Gs.getD i []).length cap)/\∀j,j<(Gs.getD i []).length->w.cell? ⟨r,j,none⟩=some (.int .i64 (((Gs.getD i []).getD j 0:Nat):Int))
theorem zk8 (a1 a2:Option Addr) (c cap1 cap2:Nat) (Gs:List (List Nat)) (w:World) (h:0<c->∃g1 g2,a1=some ⟨g1,0,none⟩/\a2=some ⟨g2,0,none⟩/\zcf w g1 Gs c/\zcf w g2 Gs c) (hc:c<=1000000) (hgl:∀i,(Gs.getD i []).length<=1000000):
 Calls prog 61 #[.slice a1 c cap1,.slice a2 c cap2] w λ e w'=>e= .returned (.bool true)/\∃n,w'=w.drewN n:=by
 have HH:=(show Hid _ from h);have HL:=(show Hid _ from hgl);clear h hgl;go_enter func61,ntmps61;go_wp2_with fail;go_loopw [5] (λ s5 wq=>∃j:Nat,j<=c/\s5= .int .i64 j/\∃q,wq=w.drewN q) (λ s5 _=>c-(intOf s5).toNat)
 case atStart=>exact ⟨0,Nat.zero_le _,rfl,0,rfl⟩
 case round=>
  obtain ⟨j,hj,rfl,q,hq⟩:=hrel;have HQ:=kd hq;clear hq;by_cases hlt:j<c
  ·obtain ⟨g1,g2,e1,e2,R1,R2⟩:=HH.out (by omega)
   subst e1 e2;obtain ⟨r1,k1,a1',b1⟩:=R1 j hlt;obtain ⟨r2,k2,a2',b2⟩:=R2 j hlt;have hgl:=HL.out j;have HS:Hid (∀Q,Calls prog 60 #[.slice (some ⟨r1,0,none⟩) (Gs.getD j []).length k1,.slice (some ⟨r2,0,none⟩) (Gs.getD j []).length k2] (wr.drewN Q) λ e w'=>e= .returned (.bool true)/\∃n,w'=(wr.drewN Q).drewN n):=λ Q=>
    zi8 r1 r2 (Gs.getD j []).length k1 k2 (λ i=>(Gs.getD j []).getD i 0) (wr.drewN Q) (by rw [HQ.out];exact b1) (by rw [HQ.out];exact b2) hgl
   have d1:wr.cell? ⟨g1,j,none⟩=some (.slice (some ⟨r1,0,none⟩) (Gs.getD j []).length k1):=by rw [HQ.out];exact a1'
   have d2:wr.cell? ⟨g2,j,none⟩=some (.slice (some ⟨r2,0,none⟩) (Gs.getD j []).length k2):=by rw [HQ.out];exact a2'
   clear R1 R2 b1 b2 HH HL a1' a2';generalize (Gs.getD j []).length=gl at*;go_wp2_with fail;go_quiet ((go_at_call 60;go_must (exact Calls.quiet_of (HS.out _))));go_wp2_with fail;go_roundw;case rel=>exact ⟨j+1,by omega,by go_num,_,by rw [HQ.out];exact drewN_drewN _ _ _⟩
   case measure=>simp [intOf];omega
  ·go_wp2_with fail
   go_ret;exact ⟨rfl,q,HQ.out⟩
end Go.Proofs.YtebcjaenhiiflaaGreatDoor.S
namespace Go.Proofs.YtebcjaenhiiflaaGreatDoor.S
open Go.Proofs.Tryz
open Go.RowKit
theorem zne {w:World} {p b:Nat} {L:List Nat} (h:zab w p b L):zab w.drew p b L:=⟨h.hp,h.hb⟩
theorem zms (x y p b:Nat) (L:List Nat) (ok:Bool) (w:World) (hs:zab w p b L) (hx:x<L.length) (hy:y<L.length) (hlen:L.length<=40) (hok:decide (L.getD x 0≠L.getD y 0)=ok):
 Calls prog 119 #[.pointer (some ⟨p,0,none⟩),.int .i64 (x:Int),.int .i64 (y:Int)] w λ e w'=>e= .returned (.tuple #[.bool ok,.nilIface])/\zab w' p b (joinL L x y)/\But b w w':=by
 rw [<-hok];exact zhc x y p b L w hs hx hy hlen
theorem zts {n X:Nat} (x p b:Nat) (L:List Nat) (w:World) (hs:zab w p b L) (hg:Good n L) (hx:x<n) (hX:L.getD x 0=X):
 Calls prog 247 #[.pointer (some ⟨p,0,none⟩),.int .i64 (x:Int)] w λ e w'=>e= .returned (.tuple #[.int .i64 (X:Int),.nilIface])/\Below w.heap.size w w':=by
 have:=zo4 (x:Int) p b L w hs (by omega) (by rw [hg.len];omega);rw [Int.toNat_natCast,hX] at this;exact this
theorem cell_below {w w':World} {k i:Nat} {v:Value} (h:w.cell? ⟨k,i,none⟩=some v) (hb:Below w.heap.size w w'):w'.cell? ⟨k,i,none⟩=some v:=
 (hb.cell (p:=⟨k,i,none⟩) (lt_of_cell h)).trans h
theorem zcf.below {w w':World} {g c:Nat} {Gs:List (List Nat)} (h:zcf w g Gs c) (hb:Below w.heap.size w w'):zcf w' g Gs c:=by
 intro i hi;obtain ⟨r,cap,h1,h2⟩:=h i hi;exact ⟨r,cap,cell_below h1 hb,λ j hj=>cell_below (h2 j hj) hb⟩
theorem za2.rows {w:World} {base g m cap:Nat} {Gs:List (List Nat)} {r c:Nat->Nat} (h:za2 w base (.slice (some ⟨g,0,none⟩) m cap) Gs r c) (hm:m=Gs.length):zcf w g Gs m:=by
 intro i hi;refine ⟨r i,c i,h.zmq hm i (by omega),λ j hj=>?_⟩;have h1:=(h.each i (by omega)).1;rw [zbc] at h1;rw [h1.cellAt j (by omega)];generalize Gs.getD i []=G at*;simp [ints,hj]
theorem zwz {n:Nat} {L:List Nat} (g:Good n L) (i:Nat):((zao L n).getD i []).length<=n:=by
 rcases Nat.lt_or_ge i (zao L n).length with h | h
 ·obtain ⟨x,_,_,e⟩:=ztk g i h
  rw [e,zhn];exact zi6 _ _
 ·simp [List.getElem?_eq_none h]
end Go.Proofs.YtebcjaenhiiflaaGreatDoor.S
