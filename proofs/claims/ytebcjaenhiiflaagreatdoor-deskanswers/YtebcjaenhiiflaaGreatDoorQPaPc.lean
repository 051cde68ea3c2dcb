import Derived.Test.YtebcjaenhiiflaaGreatDoorQTk
import Derived.Test.YtebcjaenhiiflaaGreatDoorQCd
import Derived.Test.YtebcjaenhiiflaaGreatDoorQXeXg
import Derived.Test.YtebcjaenhiiflaaGreatDoorQJk
set_option maxHeartbeats 1000000
set_option maxRecDepth 100000
namespace Go.Proofs.Y.S
open Go.Proofs.Tryz
open Go.RowKit Go.WideMaps Go.Maps
theorem zt9 {R:List (Int × Int × Int)}{n:Nat}{l:List Nat}(p9:∀e∈R,ea e<n/\eb e<n)(g:Good R.length l)(hl:∀u v,Lk R.length l u v↔Blk R u v):Bs R n [] l:=by
 refine⟨g,λ u v=>?_⟩;rw[hl];constructor
 ·intro h
  refine Ag.lift h ?_;rintro p q ⟨y,h⟩;obtain⟨e,f,h1,h2,h3,h4,_⟩:=id h;have:=p9 e (aG h1);refine Ag.base (.inl ⟨y,?_,h⟩);unfold tch at h3;omega
 ·intro h
  refine Ag.lift h ?_;rintro p q (⟨y,_,h⟩|⟨h,_⟩)
  ·exact Ag.base ⟨y,h⟩
  ·simp at h
def Rd (w:World)(a:Option Addr)(Gs:List (List Nat))(c:Nat):Prop:=0<c->∃g,a=some ⟨g,0,none⟩/\Ja w g Gs c
theorem yg {w w':World}{g c:Nat}{Gs:List (List Nat)}(h:Ja w g Gs c)(hb:Below w w w'):Ja w' g Gs c:=by
 intro i hi;obtain⟨r,cap,h1,h2⟩:=h i hi;exact⟨r,cap,cell_below h1 hb,λ j hj=>cell_below (h2 j hj) hb⟩
theorem Rd.below {w w':World}{a:Option Addr}{Gs:List (List Nat)}{c:Nat}(h:Rd w a Gs c)(hb:Below w w w'):Rd w' a Gs c:=λ hc=>by
 obtain⟨g,h1,h2⟩:=h hc;exact⟨g,h1,yg h2 hb⟩
theorem zcc {n:Nat}(L:List Nat)(hg:Good n L)(hn:n<=40)(ad:Option Addr)(cap x y:Nat)(s:Bool)(w:World)(h:Rd w ad (Ar L n) (Ar L n).length)(hx:x<n)(hy:y<n)(hs:(((L.getD x 0:Nat):Int)==((L.getD y 0:Nat):Int))=s):
 Calls prog 28 #[.slice ad (Ar L n).length cap,x,y] w λ e w'=>e=s/\w'=w:=by
 refine zqo ad _ cap x y (Ar L n) s w h ?_ (λ i=>aD (zdh hg i) (by omega)) ?_
 ·have:=Wi L n;omega
 ·rw[<-zq9 hg hx hy,<-hs,bX]
  omega
end Go.Proofs.Y.S
namespace Go.Proofs.Y.I
open Go.Proofs.Tryz
open Go.RowKit Go.WideMaps Go.Maps Go.Lib
variable {w0 w w':World} {a b x p q n:Nat} {v:Value} {L R B:List G.E} {W T:List Nat} {D:DataW Unit} {pw bw pt bt mp N g:Nat}
def DV (w:World)(q n:Nat)(L:List G.E):Prop:=∃B u R,G.GAt w B 40 61 q (n:Int) u R/\R.Perm L
theorem DV.below (h:DV w q n L)(hb:Below w w w'):DV w' q n L:=by
 obtain⟨B,u,R,h1,h2⟩:=h;exact⟨B,u,R,h1.below hb,h2⟩
theorem Ok.inv (h:Ok n L)(hp:R.Perm L):G.Inv R L:=⟨h.up,hp,h.len⟩
theorem Ok.one (h:Ok n L):∀d∈L,∀e∈L,d.1=e.1->d=e:=S.Wj h.ups
theorem Po (h:Ok n L)(hp:R.Perm L):S.InE n R:=λ e he=>h.inE e (hp.mem_iff.1 he)
theorem zqq (h:DV w q n L)(p8:Ok n L):
 Calls prog 15 #[.pointer q] w λ e w'=>∃u,e= .returned u/\G.Ad w' w 61 u L/\Below w w w':=by
 obtain⟨B,u,R,h1,h2⟩:=h;exact G.K6 B q (n:Int) u R L w h1 (p8.inv h2)
theorem qf (h:DV w q n L)(p8:Ok n L)(s:S.St n L W T B):
 Calls prog 22 #[.pointer q] w λ e w'=>∃a c,e=Value.slice a (brz n L).length c/\Zs w' a (brz n L)/\Below w w w':=by
 obtain⟨B0,u,R,h1,h2⟩:=h;refine(S.zl (Bs:=B) n B0 q u R L w h1 (p8.inv h2) p8.len p8.n40 p8.inE (λ e he=>?_)).mono ?_
 ·rw[s.hB]
  exact S.zqc p8.one (λ e=>h2.mem_iff) he
 ·rintro e w' ⟨v,rfl,o7,hb⟩
  rw[<-Wn s p8] at o7;obtain⟨a,c,rfl,hs⟩:=K9 o7;exact⟨a,c,rfl,hs,hb⟩
theorem zu0 (h:DV w q n L)(p8:Ok n L):
 Calls prog 63 #[.pointer q] w λ e w'=>∃a c,e=Value.slice a (Gc n L).length c/\Zs w' a (Gc n L)/\Below w w w':=by
 obtain⟨B0,u,R,h1,h2⟩:=h;refine(S.zle n B0 q 120 u R L w h1 (p8.inv h2) p8.ed' p8.n40).mono ?_;rintro e w' ⟨v,cs,rfl,KC,hr,hb⟩;have e1:S.Cy cs=(Gc n L).map (Value.int .i64):=by
  rw[<-Rq KC,fB];rfl
 have e2:cs.length=(Gc n L).length:=by rw[<-Rq KC,aS]
 rw[e1,e2] at hr;obtain⟨a',c,rfl,hs⟩:=K9 hr;exact⟨a',c,rfl,hs,hb⟩
theorem zpy (h:DV w q n L)(p8:Ok n L):
 Calls prog 62 #[.pointer q] w (S.Dl w (blz n L)):=by
 obtain⟨B0,u,R,h1,h2⟩:=h;refine(S.zff n B0 q 120 u R L w h1 (p8.inv h2) p8.ed' (aF _) p8.n40).mono ?_;rintro e w' ⟨l,hg,hl,hr⟩;rw[<-zi1 (n:=n) (S.zt9 (λ e he=>⟨(p8.inE e he).1,(p8.inE e he).2.1⟩) hg hl)];exact hr
theorem zvq (p8:Ok n L)(hp:R.Perm L):prz n L=S.Ak L (S.dq n R):=by
 unfold prz;exact S.znv (S.P6 L p8.cyc.nd p8.cyc.inn.nodes) p8.cyc (λ e=>hp.mem_iff)
theorem zte (h:DV w q n L)(p8:Ok n L):
 Calls prog 65 #[.pointer q] w λ e w'=>∃v,e= .returned v/\S.Aq w' w v (prz n L)/\Below w w w':=by
 obtain⟨B0,u,R,h1,h2⟩:=h;rw[zvq p8 h2];exact S.zhq n B0 q u R L w h1 (p8.inv h2) p8.len p8.n40 p8.inE
theorem zqb (h:DV w q n L)(p8:Ok n L):
 Calls prog 66 #[.pointer q] w λ e w'=>∃v,e= .returned v/\S.X.Aq w' w v (spz n L)/\Below w w w':=by
 obtain⟨B0,u,R,h1,h2⟩:=h;have hl:=p8.len;have:=h2.length_eq;refine S.X.zd1 n B0 q u R (open Classical in λ a b=>decide (S.X.Mt L n a b)) w h1 p8.n40 (Po p8 h2) (by omega) (λ a b _ _=>Iff.trans (by simp:_↔S.X.Mt L n a b) ?_);rw[S.X.Sm,S.X.Sm];simp only[S.X.Eo,S.X.zh6 (λ e=>h2.mem_iff) (λ z=>Iff.rfl)]
theorem zpv (h:DV w q n L)(p8:Ok n L):
 Calls prog 67 #[.pointer q] w (S.Dl w (thz n L)):=by
 obtain⟨B0,u,R,h1,h2⟩:=h;have hl:=p8.len;have:=h2.length_eq;unfold thz;exact S.zcy n B0 q u R _ w h1 (by omega) p8.n40 (Po p8 h2) (S.Re _ _ _ _) (λ x y hx hy=>S.zjz (S.P6 L p8.cyc.nd p8.cyc.inn.nodes) p8.cyc (λ e=>h2.mem_iff) hx hy)
theorem zgp (h:DV w q n L)(p8:Ok n L)(s:S.St n L W T B):
 Calls prog 24 #[.pointer q] w (S.Dl w (S.Ar W n)):=by
 obtain⟨B0,u,R,h1,h2⟩:=h;have hl:=p8.len;have:=h2.length_eq;have s':=Rp s h2.symm;exact S.zgy n B0 q u R W w h1 (by omega) p8.n40 (Po p8 h2) s.gw (λ x y hx hy=>by rw[<-s'.hW,S.Lk.iff hx hy])
theorem ztp (h:DV w q n L)(p8:Ok n L)(s:S.St n L W T B):
 Calls prog 25 #[.pointer q] w (S.Dl w (S.Ar T n)):=by
 obtain⟨B0,u,R,h1,h2⟩:=h;have hl:=p8.len;have:=h2.length_eq;have s':=Rp s h2.symm;exact S.zgl n B0 q u R T w h1 (by omega) p8.n40 (Po p8 h2) s.gt (λ x y hx hy=>s'.zvo hx hy)
theorem zsf (h:IV w a b x n L)(s:S.St n L W T B)(i j:Nat)(hi:i<n)(hj:j<n):
 Calls prog 26 #[.pointer x,i,j] w λ e w'=>e=Value.tuple #[(((W.getD i 0:Nat):Int)==((W.getD j 0:Nat):Int)),.nilIface]/\Below w w w':=by
 obtain⟨p,q,v,R,B',W',T',D,pw,bw,pt,bt,mp,N,g,h⟩:=h;have hW:W'=W:=(S.Ov h.now.st s h.perm h.unl).1;have hl:=h.now.st.gw.len;have HI:Hid _:=S.Sr i j _ w h.now.at_ (by rw[hl];exact hi) (by rw[hl];exact hj) rfl;have hc:=h.ix.c1;rw[<-hW];clear h hW hl;go_enter func26,ntmps26;go_wp2_with (go_at_call 75;refine aA HI.o ?_;rintro e w1 ⟨rfl,hb⟩);go_ret2;exact⟨rfl,hb⟩
end Go.Proofs.Y.I
namespace Go.Proofs.Y.I
open Go.RowKit Go.WideMaps Go.Maps Go.Lib Go.Proofs.Tryz
structure Ply (w0 w:World) (x n:Nat) (L Ld:List G.E) (p q:Nat) (v:Value) (R B:List G.E) (W T:List Nat) (D:DataW Unit) (pw bw pt bt mp N:Nat) (qd:Nat) (u:Value) (Rd:List G.E):Prop where
 at_:IAt w0 w x p q n v L R B W T D pw bw pt bt mp N
 doc:G.GAt w w0 40 61 qd (n:Int) u Rd
 inv:Rd.Perm Ld
 sep:∀k,v.ownBlock=some k->u.ownBlock≠some k
 lq:w0<=qd
def Pl (w0 w:World)(x n:Nat)(L Ld:List G.E)(qd:Nat):Prop:=
 ∃p q v R B W T D pw bw pt bt mp N u Rd,Ply w0 w x n L Ld p q v R B W T D pw bw pt bt mp N qd u Rd
def KT (w w':World):Prop:=∀(j t:Nat) (cs:Array Value),t≠168->t≠61->t≠3->t≠40->t≠85->w.heap[j]? =some (.cells cs t)->w'.heap[j]? =some (.cells cs t)
variable {w0 w w':World} {a b x p q n:Nat} {v u:Value} {L Ld R B Rd:List G.E} {W T:List Nat} {D:DataW Unit} {pw bw pt bt mp N g qd:Nat}
theorem KT.of_below (hb:Below w w w'):KT w w':=λ j _ _ _ _ _ _ _ hj=>(hb.block j (G.lt_of_some hj)).trans hj
theorem KT.trans {w2:World}(h:KT w w')(k:KT w' w2):KT w w2:=λ j t cs h1 h2 h3 h4 h5 hj=>k j t cs h1 h2 h3 h4 h5 (h j t cs h1 h2 h3 h4 h5 hj)
theorem Ply.below' (h:Ply w0 w x n L Ld p q v R B W T D pw bw pt bt mp N qd u Rd)(hb:Below w w w'):Ply w0 w' x n L Ld p q v R B W T D pw bw pt bt mp N qd u Rd:=
 {h with at_:=h.at_.below' hb,doc:=h.doc.below hb}
theorem Pl.below' (h:Pl w0 w x n L Ld qd)(hb:Below w w w'):Pl w0 w' x n L Ld qd:=by
 obtain⟨p,q,v,R,B,W,T,D,pw,bw,pt,bt,mp,N,u,Rd,h⟩:=h;exact⟨p,q,v,R,B,W,T,D,pw,bw,pt,bt,mp,N,u,Rd,h.below' hb⟩
theorem Pl.base (h:Pl w0 w x n L Ld qd):Below w0 w0 w:=by
 obtain⟨p,q,v,R,B,W,T,D,pw,bw,pt,bt,mp,N,u,Rd,h⟩:=h;exact h.at_.rn.below
theorem Pl.ok (h:Pl w0 w x n L Ld qd):Ok n L:=by
 obtain⟨p,q,v,R,B,W,T,D,pw,bw,pt,bt,mp,N,u,Rd,h⟩:=h;exact h.at_.ok
theorem Pl.iv (h:Pl w0 w x n L Ld qd):∃a b,IV w a b x n L:=by
 obtain⟨p,q,v,R,B,W,T,D,pw,bw,pt,bt,mp,N,u,Rd,h⟩:=h;exact⟨w0.heap.size,w.heap.size,h.at_.iv (aF _) (aF _)⟩
theorem Pl.dv (h:Pl w0 w x n L Ld qd):DV w qd n Ld:=by
 obtain⟨p,q,v,R,B,W,T,D,pw,bw,pt,bt,mp,N,u,Rd,h⟩:=h;exact⟨_,u,Rd,h.doc,h.inv⟩
theorem zug {j t:Nat}{cs:Array Value}{B':Nat}{M:List G.E}(h:G.Ad w B' 61 u M)(hj:w.heap[j]? =some (.cells cs t))(ht:t≠61):some j≠u.ownBlock:=by
 intro e;obtain⟨cur,hc⟩:=Hz h e.symm;have:=hj.symm.trans hc;simp at this;exact ht this.2
theorem notM {j t:Nat}{es:Array MapEntry}{c:Nat}{cs:Array Value}(hm:w.heap[j]? =some (.map es c)){k:Nat}(hk:w.heap[k]? =some (.cells cs t)):j≠k:=by
 rintro rfl;have:=hm.symm.trans hk;simp at this
theorem zst {j:Nat}{es:Array MapEntry}{c:Nat}{B':Nat}{M:List G.E}(h:G.Ad w B' 61 u M)(hm:w.heap[j]? =some (.map es c)):some j≠u.ownBlock:=by
 intro e;obtain⟨cur,hc⟩:=Hz h e.symm;have:=hm.symm.trans hc;simp at this
theorem P8 {j k t s:Nat}{cs ds:Array Value}(hj:w.heap[j]? =some (.cells cs t))(hk:w.heap[k]? =some (.cells ds s))(h:t≠s):j≠k:=by
 rintro rfl;have:=hj.symm.trans hk;simp at this;exact h this.2
def Fh (n:Nat)(L:List G.E)(id a b:Int):List G.E:=if Bn n L id a b=0 then G.Ej L (edg id a b) else L
def Gf (L:List G.E)(id:Int):Int:=if (G.seen L id).isSome then 0 else 7
def Ey (L:List G.E)(id:Int):List G.E:=if (G.seen L id).isSome then L.take (G.place L id)++L.drop (G.place L id+1) else L
theorem zkw (R L:List G.E)(e:G.E)(hp:R.Perm L):(R++[e]).Perm (G.Ej L e):=
 (List.perm_append_comm.trans (List.Perm.cons e hp)).trans (G.Gy L e).symm
theorem Uc {L:List G.E}(hu:G.Up L)(id:Int):(∃y,L[G.place L id]? =some y/\y.1=id/\G.seen L id=some y)\/((∀y∈L,y.1≠id)/\G.seen L id=none):=by
 rcases G.Xv hu id with⟨y,h1,h2,h3⟩|⟨h1,_,_⟩
 ·exact .inl ⟨y,h1,h2,h3⟩
 ·exact .inr ⟨h1,G.seen_none h1⟩
def zeg (w0 w:World)(x p n:Nat)(v:Value)(L:List G.E)(e:Ending)(w':World):Prop:=
 e= .returned .nilIface/\∃q v' R B W T D pw bw pt bt mp N,IAt w0 w' x p q n v' L R B W T D pw bw pt bt mp N/\G.Dm w v v'/\(w.heap.size<=mp/\w.heap.size<=w'.heap.size)/\∀k,k<w.heap.size->k≠p->some k≠v.ownBlock->k≠x->w'.heap[k]? =w.heap[k]?
theorem zfx (id:Int)(k:Nat)(y:G.E)(w:World)(h:IAt w0 w x p q n v L R B W T D pw bw pt bt mp N)(hk:k=G.place L id)(hy:L[k]? =some y)(hs:G.seen L id=some y):
 Calls prog 18 #[.pointer x,id] w (zeg w0 w x p n v (L.take k++L.drop (k+1))):=by
 have HH:=kd h;have HA:Hid _:=G.znu id (n:Int) w0 p k v L y w h.gra h.ok.up h.ok.len hk hy hs;have HO:Hid (Ok n (L.take k++L.drop (k+1))):=h.ok.sub (zbf L k);have c0:=h.ix.c0;clear h hk hy hs;go_enter func18,ntmps18;go_wp2_with fail;refine aA HA.o ?_;rintro e w1 ⟨rfl,v1,AX,GH,hf1⟩;obtain⟨MS,IL⟩:=HH.o.graph GH;have HF:Hid _:=S.yh n w0 p v1 _ w1 AX HO.o;have FH:=kd AX;have x8:=kd IL.below;have XY:=kd MS;have HKF:=kd (And.intro GH hf1);have d0:=MS.c0;clear AX GH hf1 MS IL HA c0;go_wp2_with fail;refine aA HF.o ?_;rintro e w2 ⟨q',pw',bw',pt',bt',mp',B',W',T',D',N',rfl,KE⟩;have hX2:Ix w2 x p q:=XY.o.below KE.below XY.o.lt;have OO:=kd hX2;have HR:=kd KE;have e0:=hX2.c1;have e1:w2.frozen? (x,1)=false:=by simp[World.frozen?,show w2.heap[x]? =_ from hX2]
 clear KE hX2 d0 HF;go_wp2_with fail;go_ret;have hxx:x<w2:=OO.o.lt;have KE:=zb2 HR.o x8.o;refine⟨rfl,q',v1,_,B',W',T',D',pw',bw',pt',bt',mp',N',⟨?_,zrt OO.o (FH.o.below HR.o.below),{KE with now:=⟨zod OO.o KE.now.at_,KE.now.st,KE.now.dis⟩,below:=?_},HO.o,eO _,HH.o.hx,HH.o.hp⟩,HKF.o.2,?_,λ j hj h1 h2 h3=>?_⟩
 ·unfold Ix
  simp only[World.setCell,dC,show w2.heap[x]? =_ from OO.o];simp
 ·have hb:=KE.below
  exact⟨hb.os,hb.tape,hb.output,by simp;exact hb.size,λ j hj=>(aV _ _ _ _ (show j≠x by have:=HH.o.hx;omega)).trans (hb.block j hj)⟩
 ·have h1:=HKF.o.1.size
  have h2:=HR.o.below.size;have h3:=HR.o.hb.2.2;refine⟨by omega,?_⟩;simp;omega
 ·exact(aV _ _ _ _ h3).trans ((HR.o.below.block j (aR hj HKF.o.1.size)).trans (HKF.o.1.block j hj h1 h2))
end Go.Proofs.Y.I
