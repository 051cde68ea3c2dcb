import Derived.Test.YtebcjaenhiiflaaGreatDoorQTi
import Derived.Test.YtebcjaenhiiflaaGreatDoorQQbQe
import Derived.Test.YtebcjaenhiiflaaGreatDoorQCce
import Derived.Lib.QuietBelow
import Derived.Test.YtebcjaenhiiflaaGreatDoorQXe
import Derived.Test.YtebcjaenhiiflaaGreatDoorQJj
set_option maxHeartbeats 1000000
set_option maxRecDepth 100000
namespace Go.Proofs.YtebcjaenhiiflaaGreatDoor.S
open Go.RowKit Go.WideMaps Go.Maps
def Rd (w:World) (a:Option Addr) (Gs:List (List Nat)) (c:Nat):Prop:=0<c->∃g,a=some ⟨g,0,none⟩/\RowsAt w g Gs c
theorem rowsAt_below {w w':World} {g c:Nat} {Gs:List (List Nat)} (h:RowsAt w g Gs c) (hb:Below w.heap.size w w'):RowsAt w' g Gs c:=by
 intro i hi;obtain ⟨r,cap,h1,h2⟩:=h i hi;exact ⟨r,cap,cell_below h1 hb,λ j hj=>cell_below (h2 j hj) hb⟩
theorem Rd.below {w w':World} {a:Option Addr} {Gs:List (List Nat)} {c:Nat} (h:Rd w a Gs c) (hb:Below w.heap.size w w'):Rd w' a Gs c:=λ hc=>by
 obtain ⟨g,h1,h2⟩:=h hc;exact ⟨g,h1,rowsAt_below h2 hb⟩
end Go.Proofs.YtebcjaenhiiflaaGreatDoor.S
namespace Go.Proofs.YtebcjaenhiiflaaGreatDoor.I
open Go.RowKit Go.WideMaps Go.Maps Go.Lib
variable {w0 w w':World} {a b x p q n:Nat} {v:Value} {L R B:List G.E} {W T:List Nat} {D:DataW Unit} {pw bw pt bt mp N g:Nat}
def DV (w:World) (q n:Nat) (L:List G.E):Prop:=∃B u R,G.GAt w B 40 61 q (n:Int) u R/\R.Perm L
theorem DV.below (h:DV w q n L) (hb:Below w.heap.size w w'):DV w' q n L:=by
 obtain ⟨B,u,R,h1,h2⟩:=h;exact ⟨B,u,R,h1.below hb,h2⟩
theorem Ok.inv (h:Ok n L) (hp:R.Perm L):G.Inv R L:=⟨h.up,hp,h.len⟩
theorem Ok.one (h:Ok n L):∀d∈L,∀e∈L,d.1=e.1->d=e:=S.ids_one h.ups
theorem iwhole (h:IV w a b x n L) (s:S.St n L W T B) (i j:Nat) (hi:i<n) (hj:j<n):
 Calls Tryz.prog 26 #[.pointer (some ⟨x,0,none⟩),.int .i64 (i:Int),.int .i64 (j:Int)] w λ e w'=>e= .returned (.tuple #[.bool (((W.getD i 0:Nat):Int)==((W.getD j 0:Nat):Int)),.nilIface])/\Below w.heap.size w w':=by
 obtain ⟨p,q,v,R,B',W',T',D,pw,bw,pt,bt,mp,N,g,h⟩:=h;have hW:W'=W:=(S.same_all h.now.st s h.perm h.unl).1;have hl:=h.now.st.gw.len;have HI:Hid _:=S.whole_in i j _ w h.now.at_ (by rw [hl];exact hi) (by rw [hl];exact hj) rfl;have hc:=h.ix.c1;rw [<-hW];clear h hW hl;go_enter Tryz.func26,Tryz.ntmps26;go_wp2_with (go_at_call 75;refine Calls.mono HI.out ?_;rintro e w1 ⟨rfl,hb⟩);go_ret2;exact ⟨rfl,hb⟩
end Go.Proofs.YtebcjaenhiiflaaGreatDoor.I
namespace Go.Proofs.YtebcjaenhiiflaaGreatDoor.I
open Go.RowKit Go.WideMaps Go.Maps Go.Lib
structure Ply (w0 w:World) (x n:Nat) (L Ld:List G.E) (p q:Nat) (v:Value) (R B:List G.E) (W T:List Nat) (D:DataW Unit) (pw bw pt bt mp N:Nat) (qd:Nat) (u:Value) (Rd:List G.E):Prop where
 at_:IAt w0 w x p q n v L R B W T D pw bw pt bt mp N
 doc:G.GAt w w0.heap.size 40 61 qd (n:Int) u Rd
 inv:Rd.Perm Ld
 sep:∀k,v.ownBlock=some k->u.ownBlock≠some k
 lq:w0.heap.size<=qd
def Pl (w0 w:World) (x n:Nat) (L Ld:List G.E) (qd:Nat):Prop:=
 ∃p q v R B W T D pw bw pt bt mp N u Rd,Ply w0 w x n L Ld p q v R B W T D pw bw pt bt mp N qd u Rd
def KT (w w':World):Prop:=∀(j t:Nat) (cs:Array Value),t≠168->t≠61->t≠3->t≠40->t≠85->w.heap[j]? =some (.cells cs t)->w'.heap[j]? =some (.cells cs t)
variable {w0 w w':World} {a b x p q n:Nat} {v u:Value} {L Ld R B Rd:List G.E} {W T:List Nat} {D:DataW Unit} {pw bw pt bt mp N g qd:Nat}
theorem KT.of_below (hb:Below w.heap.size w w'):KT w w':=λ j _ _ _ _ _ _ _ hj=>(hb.block j (G.lt_of_some hj)).trans hj
theorem KT.trans {w2:World} (h:KT w w') (k:KT w' w2):KT w w2:=λ j t cs h1 h2 h3 h4 h5 hj=>k j t cs h1 h2 h3 h4 h5 (h j t cs h1 h2 h3 h4 h5 hj)
theorem Ply.below' (h:Ply w0 w x n L Ld p q v R B W T D pw bw pt bt mp N qd u Rd) (hb:Below w.heap.size w w'):Ply w0 w' x n L Ld p q v R B W T D pw bw pt bt mp N qd u Rd:=
 {h with at_:=h.at_.below' hb,doc:=h.doc.below hb}
theorem Pl.below' (h:Pl w0 w x n L Ld qd) (hb:Below w.heap.size w w'):Pl w0 w' x n L Ld qd:=by
 obtain ⟨p,q,v,R,B,W,T,D,pw,bw,pt,bt,mp,N,u,Rd,h⟩:=h;exact ⟨p,q,v,R,B,W,T,D,pw,bw,pt,bt,mp,N,u,Rd,h.below' hb⟩
theorem Pl.base (h:Pl w0 w x n L Ld qd):Below w0.heap.size w0 w:=by
 obtain ⟨p,q,v,R,B,W,T,D,pw,bw,pt,bt,mp,N,u,Rd,h⟩:=h;exact h.at_.rn.below
theorem Pl.ok (h:Pl w0 w x n L Ld qd):Ok n L:=by
 obtain ⟨p,q,v,R,B,W,T,D,pw,bw,pt,bt,mp,N,u,Rd,h⟩:=h;exact h.at_.ok
theorem Pl.iv (h:Pl w0 w x n L Ld qd):∃a b,IV w a b x n L:=by
 obtain ⟨p,q,v,R,B,W,T,D,pw,bw,pt,bt,mp,N,u,Rd,h⟩:=h;exact ⟨w0.heap.size,w.heap.size,h.at_.iv (Nat.le_refl _) (Nat.le_refl _)⟩
theorem not61 {j t:Nat} {cs:Array Value} {B':Nat} {M:List G.E} (h:G.Owns w B' 61 u M) (hj:w.heap[j]? =some (.cells cs t)) (ht:t≠61):some j≠u.ownBlock:=by
 intro e;obtain ⟨cur,hc⟩:=own61 h e.symm;have:=hj.symm.trans hc;simp at this;exact ht this.2
theorem notM {j t:Nat} {es:Array MapEntry} {c:Nat} {cs:Array Value} (hm:w.heap[j]? =some (.map es c)) {k:Nat} (hk:w.heap[k]? =some (.cells cs t)):j≠k:=by
 rintro rfl;have:=hm.symm.trans hk;simp at this
theorem notM61 {j:Nat} {es:Array MapEntry} {c:Nat} {B':Nat} {M:List G.E} (h:G.Owns w B' 61 u M) (hm:w.heap[j]? =some (.map es c)):some j≠u.ownBlock:=by
 intro e;obtain ⟨cur,hc⟩:=own61 h e.symm;have:=hm.symm.trans hc;simp at this
theorem notC {j k t s:Nat} {cs ds:Array Value} (hj:w.heap[j]? =some (.cells cs t)) (hk:w.heap[k]? =some (.cells ds s)) (h:t≠s):j≠k:=by
 rintro rfl;have:=hj.symm.trans hk;simp at this;exact h this.2
def addL (n:Nat) (L:List G.E) (id a b:Int):List G.E:=if addC n L id a b=0 then G.putE L (edg id a b) else L
def dropC (L:List G.E) (id:Int):Int:=if (G.seen L id).isSome then 0 else 7
def dropL (L:List G.E) (id:Int):List G.E:=if (G.seen L id).isSome then L.take (G.place L id)++L.drop (G.place L id+1) else L
theorem seen_place {L:List G.E} (hu:G.Up L) (id:Int):(∃y,L[G.place L id]? =some y/\y.1=id/\G.seen L id=some y)\/((∀y∈L,y.1≠id)/\G.seen L id=none):=by
 rcases G.place_hit hu id with ⟨y,h1,h2,h3⟩ | ⟨h1,_,_⟩
 ·exact .inl ⟨y,h1,h2,h3⟩
 ·exact .inr ⟨h1,G.seen_none h1⟩
def IdropPost2 (w0 w:World) (x p n:Nat) (v:Value) (L:List G.E) (e:Ending) (w':World):Prop:=
 e= .returned .nilIface/\∃q v' R B W T D pw bw pt bt mp N,IAt w0 w' x p q n v' L R B W T D pw bw pt bt mp N/\G.Fresh w v v'/\(w.heap.size<=mp/\w.heap.size<=w'.heap.size)/\∀k,k<w.heap.size->k≠p->some k≠v.ownBlock->k≠x->w'.heap[k]? =w.heap[k]?
theorem idrop_ok2 (id:Int) (k:Nat) (y:G.E) (w:World) (h:IAt w0 w x p q n v L R B W T D pw bw pt bt mp N) (hk:k=G.place L id) (hy:L[k]? =some y) (hs:G.seen L id=some y):
 Calls Tryz.prog 18 #[.pointer (some ⟨x,0,none⟩),.int .i64 id] w (IdropPost2 w0 w x p n v (L.take k++L.drop (k+1))):=by
 have HH:Hid (IAt w0 w x p q n v L R B W T D pw bw pt bt mp N):=h;have HA:Hid _:=G.drop_hit id (n:Int) w0.heap.size p k v L y w h.gra h.ok.up h.ok.len hk hy hs;have HO:Hid (Ok n (L.take k++L.drop (k+1))):=h.ok.sub (out_sub L k);have c0:=h.ix.c0;clear h hk hy hs;go_enter Tryz.func18,Tryz.ntmps18;go_wp2_with fail;refine Calls.mono HA.out ?_;rintro e w1 ⟨rfl,v1,hg1,hk1,hf1⟩;obtain ⟨hx1,hr1⟩:=HH.out.graph hk1;have HF:Hid _:=S.of_gen n w0.heap.size p v1 _ w1 hg1 HO.out;have HG1:Hid (G.GAt w1 w0.heap.size 168 61 p (n:Int) v1 (L.take k++L.drop (k+1))):=hg1;have HB1:Hid (Below w0.heap.size w0 w1):=hr1.below;have HX1:Hid (Ix w1 x p q):=hx1;have HKF:Hid (G.Kept p v.ownBlock w w1/\G.Fresh w v v1):=⟨hk1,hf1⟩;have d0:=hx1.c0;clear hg1 hk1 hf1 hx1 hr1 HA c0;go_wp2_with fail;refine Calls.mono HF.out ?_;rintro e w2 ⟨q',pw',bw',pt',bt',mp',B',W',T',D',N',rfl,hrn⟩;have hX2:Ix w2 x p q:=HX1.out.below hrn.below HX1.out.lt;have HX2:Hid (Ix w2 x p q):=hX2;have HR:Hid (S.Rn w1 w2 q' pw' bw' pt' bt' mp' n (L.take k++L.drop (k+1)) B' W' T' D' N'):=hrn;have e0:=hX2.c1;have e1:w2.frozen? ⟨x,1,none⟩=false:=by simp [World.frozen?,show w2.heap[x]? =_ from hX2]
 clear hrn hX2 d0 HF;go_wp2_with fail;go_ret;have hxx:x<w2.heap.size:=HX2.out.lt;have hrn:=Rn_base HR.out HB1.out;refine ⟨rfl,q',v1,_,B',W',T',D',pw',bw',pt',bt',mp',N',⟨?_,gat_set HX2.out (HG1.out.below HR.out.below),{hrn with now:=⟨bat_set HX2.out hrn.now.at_,hrn.now.st,hrn.now.dis⟩,below:=?_},HO.out,List.Perm.refl _,HH.out.hx,HH.out.hp⟩,HKF.out.2,?_,λ j hj h1 h2 h3=>?_⟩
 ·unfold Ix
  simp only [World.setCell,Array.getElem?_modify,show w2.heap[x]? =_ from HX2.out];simp
 ·have hb:=hrn.below
  exact ⟨hb.os,hb.tape,hb.output,by simp;exact hb.size,λ j hj=>(Below.heap_setCell _ _ _ _ (show j≠x by have:=HH.out.hx;omega)).trans (hb.block j hj)⟩
 ·have h1:=HKF.out.1.size
  have h2:=HR.out.below.size;have h3:=HR.out.hb.2.2;refine ⟨by omega,?_⟩;simp;omega
 ·exact (Below.heap_setCell _ _ _ _ h3).trans ((HR.out.below.block j (Nat.lt_of_lt_of_le hj HKF.out.1.size)).trans (HKF.out.1.block j hj h1 h2))
end Go.Proofs.YtebcjaenhiiflaaGreatDoor.I
