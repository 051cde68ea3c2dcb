import Derived.Test.YtebcjaenhiiflaaGreatDoorQTk
import Derived.Test.YtebcjaenhiiflaaGreatDoorQCd
import Derived.Test.YtebcjaenhiiflaaGreatDoorQXg
import Derived.Test.YtebcjaenhiiflaaGreatDoorQJk
set_option maxHeartbeats 1000000
set_option maxRecDepth 100000
namespace Go.Proofs.YtebcjaenhiiflaaGreatDoor.S
open Go.Proofs.Tryz
open Go.RowKit Go.WideMaps Go.Maps
theorem zvn {ss K:List Int} (h:ss.Perm K) (hK:K.Pairwise (·<·)):(ss.mergeSort λ x y=>decide (x<=y))=K:=by
 have tr:∀a b c:Int,decide (a<=b)=true->decide (b<=c)=true->decide (a<=c)=true:=λ a b c h1 h2=>by simp only [decide_eq_true_eq] at*;omega
 have tot:∀a b:Int,(decide (a<=b) || decide (b<=a))=true:=λ a b=>by simp only [Bool.or_eq_true,decide_eq_true_eq];omega
 exact List.Perm.eq_of_pairwise (le:=λ a b=>decide (a<=b)=true) (λ a b _ _ h1 h2=>by simp only [decide_eq_true_eq] at h1 h2;omega) (List.pairwise_mergeSort tr tot ss) (hK.imp λ {a b} h=>by simp only [decide_eq_true_eq];omega) ((List.mergeSort_perm ss _).trans h)
theorem yabk {R:List (Int × Int × Int)} {n:Nat} {l:List Nat} (hin:∀e∈R,ea e<n/\eb e<n) (g:Good R.length l) (hl:∀u v,Lk R.length l u v↔Blk R u v):Bs R n [] l:=by
 refine ⟨g,λ u v=>?_⟩;rw [hl];constructor
 ·intro h
  refine zae.lift h ?_;rintro p q ⟨y,h⟩;obtain ⟨e,f,h1,h2,h3,h4,_⟩:=id h;have:=hin e (List.mem_of_getElem? h1);refine zae.base (.inl ⟨y,?_,h⟩);unfold tch at h3;omega
 ·intro h
  refine zae.lift h ?_;rintro p q (⟨y,_,h⟩ | ⟨h,_⟩)
  ·exact zae.base ⟨y,h⟩
  ·simp at h
def Rd (w:World) (a:Option Addr) (Gs:List (List Nat)) (c:Nat):Prop:=0<c->∃g,a=some ⟨g,0,none⟩/\zcf w g Gs c
theorem zqa {w w':World} {g c:Nat} {Gs:List (List Nat)} (h:zcf w g Gs c) (hb:Below w.heap.size w w'):zcf w' g Gs c:=by
 intro i hi;obtain ⟨r,cap,h1,h2⟩:=h i hi;exact ⟨r,cap,cell_below h1 hb,λ j hj=>cell_below (h2 j hj) hb⟩
theorem Rd.below {w w':World} {a:Option Addr} {Gs:List (List Nat)} {c:Nat} (h:Rd w a Gs c) (hb:Below w.heap.size w w'):Rd w' a Gs c:=λ hc=>by
 obtain ⟨g,h1,h2⟩:=h hc;exact ⟨g,h1,zqa h2 hb⟩
theorem zt8 {n:Nat} (L:List Nat) (hg:Good n L) (hn:n<=40) (ad:Option Addr) (cap x y:Nat) (s:Bool) (w:World) (h:Rd w ad (zao L n) (zao L n).length) (hx:x<n) (hy:y<n) (hs:(((L.getD x 0:Nat):Int)==((L.getD y 0:Nat):Int))=s):
 Calls prog 28 #[.slice ad (zao L n).length cap,.int .i64 (x:Int),.int .i64 (y:Int)] w λ e w'=>e= .returned (.bool s)/\w'=w:=by
 refine z7e ad _ cap x y (zao L n) s w h ?_ (λ i=>Nat.le_trans (zwz hg i) (by omega)) ?_
 ·have:=ztu L n;omega
 ·rw [<-z5g hg hx hy,<-hs,beq_iff_eq]
  omega
theorem zu6 {K:List Int} {x:Int} {k:Nat} {t:Bool} (h:t=true↔∃j,j<k/\K.getD j 0=x):((t || (K.getD k 0==x))=true↔∃j,j<k+1/\K.getD j 0=x):=by
 rw [Bool.or_eq_true,h,beq_iff_eq];constructor
 ·rintro (⟨j,h1,h2⟩ | h1)
  ·exact ⟨j,by omega,h2⟩
  ·exact ⟨k,by omega,h1⟩
 ·rintro ⟨j,h1,h2⟩
  by_cases hj:j=k
  ·subst hj;exact .inr h2
  ·exact .inl ⟨j,by omega,h2⟩
theorem zxi {K:List Int} {x:Int}:(∃j,j<K.length/\K.getD j 0=x)↔x∈K:=by
 constructor
 ·rintro ⟨j,h1,rfl⟩
  simp [h1]
 ·intro h
  obtain ⟨j,h1,rfl⟩:=List.mem_iff_getElem.1 h;exact ⟨j,h1,by simp [h1]⟩
end Go.Proofs.YtebcjaenhiiflaaGreatDoor.S
namespace Go.Proofs.YtebcjaenhiiflaaGreatDoor.I
open Go.Proofs.Tryz
open Go.RowKit Go.WideMaps Go.Maps Go.Lib
variable {w0 w w':World} {a b x p q n:Nat} {v:Value} {L R B:List G.E} {W T:List Nat} {D:DataW Unit} {pw bw pt bt mp N g:Nat}
theorem zjj (s:S.St n R W T B) (hp:R.Perm L):S.St n L W T B:=by
 have hm:(λ e=>e∈R)=λ e=>e∈L:=by funext e;exact propext hp.mem_iff
 exact ⟨s.gw,s.gt,λ e he=>s.inn e (hp.mem_iff.2 he),λ e he=>s.nat e (hp.mem_iff.2 he),λ e he d hd=>s.one e (hp.mem_iff.2 he) d (hp.mem_iff.2 hd),
  λ u v=>by rw [s.hW];simp only [S.cnR];rw [hm],λ u v=>by rw [s.hT];simp only [S.twR];rw [hm],λ e=>by rw [s.hB];simp only [S.brR];rw [hm]⟩
theorem IV.st (h:IV w a b x n L):∃W T B,S.St n L W T B:=by
 obtain ⟨p,q,v,R,B,W,T,D,pw,bw,pt,bt,mp,N,g,h⟩:=h;exact ⟨W,T,B,zjj h.now.st h.perm⟩
theorem zuf (s:S.St n L W T B) (hok:Ok n L):brz n L=S.zav L B:=by
 rw [<-zpd s (List.Perm.refl _) hok.unl];unfold S.ups;exact S.zvn (List.Perm.refl _) (S.z1a hok.up)
theorem z5u (s:S.St n L W T B) (hok:Ok n L) (id:Int):id∈brz n L↔∃e∈B,e.1=id:=by
 rw [zuf s hok];exact S.z5z (λ e he=>((s.hB e).1 he).1) id
def DV (w:World) (q n:Nat) (L:List G.E):Prop:=∃B u R,G.GAt w B 40 61 q (n:Int) u R/\R.Perm L
theorem DV.below (h:DV w q n L) (hb:Below w.heap.size w w'):DV w' q n L:=by
 obtain ⟨B,u,R,h1,h2⟩:=h;exact ⟨B,u,R,h1.below hb,h2⟩
theorem Ok.inv (h:Ok n L) (hp:R.Perm L):G.Inv R L:=⟨h.up,hp,h.len⟩
theorem Ok.one (h:Ok n L):∀d∈L,∀e∈L,d.1=e.1->d=e:=S.zmf h.ups
theorem zh5 (h:Ok n L) (hp:R.Perm L):S.InE n R:=λ e he=>h.inE e (hp.mem_iff.1 he)
theorem z8h (h:DV w q n L) (hok:Ok n L):
 Calls prog 15 #[.pointer (some ⟨q,0,none⟩)] w λ e w'=>∃u,e= .returned u/\G.zad w' w.heap.size 61 u L/\Below w.heap.size w w':=by
 obtain ⟨B,u,R,h1,h2⟩:=h;exact G.zer B q (n:Int) u R L w h1 (hok.inv h2)
theorem zrm (h:DV w q n L) (hok:Ok n L) (s:S.St n L W T B):
 Calls prog 22 #[.pointer (some ⟨q,0,none⟩)] w λ e w'=>∃a c,e= .returned (.slice a (brz n L).length c)/\Zs w' a (brz n L)/\Below w.heap.size w w':=by
 obtain ⟨B0,u,R,h1,h2⟩:=h;refine (S.zsv (Bs:=B) n B0 q u R L w h1 (hok.inv h2) hok.len hok.n40 hok.inE (λ e he=>?_)).mono ?_
 ·rw [s.hB]
  exact S.z9b hok.one (λ e=>h2.mem_iff) he
 ·rintro e w' ⟨v,rfl,hrow,hb⟩
  rw [<-zuf s hok] at hrow;obtain ⟨a,c,rfl,hs⟩:=zfq hrow;exact ⟨a,c,rfl,hs,hb⟩
theorem yab5 (h:DV w q n L) (hok:Ok n L):
 Calls prog 63 #[.pointer (some ⟨q,0,none⟩)] w λ e w'=>∃a c,e= .returned (.slice a (ze8 n L).length c)/\Zs w' a (ze8 n L)/\Below w.heap.size w w':=by
 obtain ⟨B0,u,R,h1,h2⟩:=h;refine (S.z1t n B0 q 120 u R L w h1 (hok.inv h2) hok.ed' hok.n40).mono ?_;rintro e w' ⟨v,cs,rfl,hcs,hr,hb⟩;have e1:S.zbl cs=(ze8 n L).map (Value.int .i64):=by
  rw [<-zjk hcs,List.map_map];rfl
 have e2:cs.length=(ze8 n L).length:=by rw [<-zjk hcs,List.length_map]
 rw [e1,e2] at hr;obtain ⟨a',c,rfl,hs⟩:=zfq hr;exact ⟨a',c,rfl,hs,hb⟩
theorem z5i (h:DV w q n L) (hok:Ok n L):
 Calls prog 62 #[.pointer (some ⟨q,0,none⟩)] w (S.zb9 w (blz n L)):=by
 obtain ⟨B0,u,R,h1,h2⟩:=h;refine (S.zvz n B0 q 120 u R L w h1 (hok.inv h2) hok.ed' (Nat.le_refl _) hok.n40).mono ?_;rintro e w' ⟨l,hg,hl,hr⟩;rw [<-zzw (n:=n) (S.yabk (λ e he=>⟨(hok.inE e he).1,(hok.inE e he).2.1⟩) hg hl)];exact hr
theorem yacs (hok:Ok n L) (hp:R.Perm L):prz n L=S.zam L (S.dq n R):=by
 unfold prz;exact S.z4h (S.zi7 L hok.cyc.nd hok.cyc.inn.nodes) hok.cyc (λ e=>hp.mem_iff)
theorem yaag (h:DV w q n L) (hok:Ok n L):
 Calls prog 65 #[.pointer (some ⟨q,0,none⟩)] w λ e w'=>∃v,e= .returned v/\S.zan w' w.heap.size v (prz n L)/\Below w.heap.size w w':=by
 obtain ⟨B0,u,R,h1,h2⟩:=h;rw [yacs hok h2];exact S.zz0 n B0 q u R L w h1 (hok.inv h2) hok.len hok.n40 hok.inE
theorem z8t (h:DV w q n L) (hok:Ok n L):
 Calls prog 66 #[.pointer (some ⟨q,0,none⟩)] w λ e w'=>∃v,e= .returned v/\S.X.zan w' w.heap.size v (spz n L)/\Below w.heap.size w w':=by
 obtain ⟨B0,u,R,h1,h2⟩:=h;have hl:=hok.len;have:=h2.length_eq;refine S.X.zwo n B0 q u R (open Classical in λ a b=>decide (S.X.zfz L n a b)) w h1 hok.n40 (zh5 hok h2) (by omega) (λ a b _ _=>Iff.trans (by simp:_↔S.X.zfz L n a b) ?_);rw [S.X.zkp,S.X.zkp];simp only [S.X.zcc,S.X.zxc (λ e=>h2.mem_iff) (λ z=>Iff.rfl)]
theorem z6h (h:DV w q n L) (hok:Ok n L):
 Calls prog 67 #[.pointer (some ⟨q,0,none⟩)] w (S.zb9 w (thz n L)):=by
 obtain ⟨B0,u,R,h1,h2⟩:=h;have hl:=hok.len;have:=h2.length_eq;unfold thz;exact S.zu1 n B0 q u R _ w h1 (by omega) hok.n40 (zh5 hok h2) (S.zic _ _ _ _) (λ x y hx hy=>S.zxb (S.zi7 L hok.cyc.nd hok.cyc.inn.nodes) hok.cyc (λ e=>h2.mem_iff) hx hy)
theorem z9n (h:DV w q n L) (hok:Ok n L) (s:S.St n L W T B):
 Calls prog 24 #[.pointer (some ⟨q,0,none⟩)] w (S.zb9 w (S.zao W n)):=by
 obtain ⟨B0,u,R,h1,h2⟩:=h;have hl:=hok.len;have:=h2.length_eq;have s':=zjj s h2.symm;exact S.z0c n B0 q u R W w h1 (by omega) hok.n40 (zh5 hok h2) s.gw (λ x y hx hy=>by rw [<-s'.hW,S.Lk.iff hx hy])
theorem z9x (h:DV w q n L) (hok:Ok n L) (s:S.St n L W T B):
 Calls prog 25 #[.pointer (some ⟨q,0,none⟩)] w (S.zb9 w (S.zao T n)):=by
 obtain ⟨B0,u,R,h1,h2⟩:=h;have hl:=hok.len;have:=h2.length_eq;have s':=zjj s h2.symm;exact S.zxh n B0 q u R T w h1 (by omega) hok.n40 (zh5 hok h2) s.gt (λ x y hx hy=>s'.yac1 hx hy)
theorem z94 (h:DV w q n L) (hok:Ok n L) (hv:Vars w):
 Calls prog 29 #[.pointer (some ⟨q,0,none⟩)] w λ e w'=>e= .returned (.string ⟨(svI n L).toArray⟩)/\Below w.heap.size w w':=by
 obtain ⟨B0,u,R,h1,h2⟩:=h;exact zw7 q n B0 u R L w h1 hok h2 hv
theorem yaaw (h:IV w a b x n L) (s:S.St n L W T B) (i j:Nat) (hi:i<n) (hj:j<n):
 Calls prog 26 #[.pointer (some ⟨x,0,none⟩),.int .i64 (i:Int),.int .i64 (j:Int)] w λ e w'=>e= .returned (.tuple #[.bool (((W.getD i 0:Nat):Int)==((W.getD j 0:Nat):Int)),.nilIface])/\Below w.heap.size w w':=by
 obtain ⟨p,q,v,R,B',W',T',D,pw,bw,pt,bt,mp,N,g,h⟩:=h;have hW:W'=W:=(S.zkq h.now.st s h.perm h.unl).1;have hl:=h.now.st.gw.len;have HI:Hid _:=S.zko i j _ w h.now.at_ (by rw [hl];exact hi) (by rw [hl];exact hj) rfl;have hc:=h.ix.c1;rw [<-hW];clear h hW hl;go_enter func26,ntmps26;go_wp2_with (go_at_call 75;refine Calls.mono HI.out ?_;rintro e w1 ⟨rfl,hb⟩);go_ret2;exact ⟨rfl,hb⟩
end Go.Proofs.YtebcjaenhiiflaaGreatDoor.I
namespace Go.Proofs.YtebcjaenhiiflaaGreatDoor.I
open Go.RowKit Go.WideMaps Go.Maps Go.Lib Go.Proofs.Tryz
structure Ply (w0 w:World) (x n:Nat) (L Ld:List G.E) (p q:Nat) (v:Value) (R B:List G.E) (W T:List Nat) (D:DataW Unit) (pw bw pt bt mp N:Nat) (qd:Nat) (u:Value) (Rd:List G.E):Prop where
 at_:IAt w0 w x p q n v L R B W T D pw bw pt bt mp N
 doc:G.GAt w w0.heap.size 40 61 qd (n:Int) u Rd
 inv:Rd.Perm Ld
 sep:∀k,v.ownBlock=some k->u.ownBlock≠some k
 lq:w0.heap.size<=qd
def Pl (w0 w:World) (x n:Nat) (L Ld:List G.E) (qd:Nat):Prop:=
 ∃p q v R B W T D pw bw pt bt mp N u Rd,Ply w0 w x n L Ld p q v R B W T D pw bw pt bt mp N qd u Rd
def KT (w w':World):Prop:=∀(j t:Nat) (cs:Array Value),t≠168->t≠61->t≠3->t≠40->t≠85->w.heap[j]? =some (.cells cs t)->w'.heap[j]? =some (.cells cs t)
variable {w0 w w':World} {a b x p q n:Nat} {v u:Value} {L Ld R B Rd:List G.E} {W T:List Nat} {D:DataW Unit} {pw bw pt bt mp N g qd:Nat}
theorem KT.of_below (hb:Below w.heap.size w w'):KT w w':=λ j _ _ _ _ _ _ _ hj=>(hb.block j (G.lt_of_some hj)).trans hj
theorem KT.trans {w2:World} (h:KT w w') (k:KT w' w2):KT w w2:=λ j t cs h1 h2 h3 h4 h5 hj=>k j t cs h1 h2 h3 h4 h5 (h j t cs h1 h2 h3 h4 h5 hj)
theorem Ply.below' (h:Ply w0 w x n L Ld p q v R B W T D pw bw pt bt mp N qd u Rd) (hb:Below w.heap.size w w'):Ply w0 w' x n L Ld p q v R B W T D pw bw pt bt mp N qd u Rd:=
 {h with at_:=h.at_.below' hb,doc:=h.doc.below hb}
theorem Pl.below' (h:Pl w0 w x n L Ld qd) (hb:Below w.heap.size w w'):Pl w0 w' x n L Ld qd:=by
 obtain ⟨p,q,v,R,B,W,T,D,pw,bw,pt,bt,mp,N,u,Rd,h⟩:=h;exact ⟨p,q,v,R,B,W,T,D,pw,bw,pt,bt,mp,N,u,Rd,h.below' hb⟩
theorem Pl.base (h:Pl w0 w x n L Ld qd):Below w0.heap.size w0 w:=by
 obtain ⟨p,q,v,R,B,W,T,D,pw,bw,pt,bt,mp,N,u,Rd,h⟩:=h;exact h.at_.rn.below
theorem Pl.ok (h:Pl w0 w x n L Ld qd):Ok n L:=by
 obtain ⟨p,q,v,R,B,W,T,D,pw,bw,pt,bt,mp,N,u,Rd,h⟩:=h;exact h.at_.ok
theorem Pl.iv (h:Pl w0 w x n L Ld qd):∃a b,IV w a b x n L:=by
 obtain ⟨p,q,v,R,B,W,T,D,pw,bw,pt,bt,mp,N,u,Rd,h⟩:=h;exact ⟨w0.heap.size,w.heap.size,h.at_.iv (Nat.le_refl _) (Nat.le_refl _)⟩
theorem Pl.dv (h:Pl w0 w x n L Ld qd):DV w qd n Ld:=by
 obtain ⟨p,q,v,R,B,W,T,D,pw,bw,pt,bt,mp,N,u,Rd,h⟩:=h;exact ⟨_,u,Rd,h.doc,h.inv⟩
theorem zvo {j t:Nat} {cs:Array Value} {B':Nat} {M:List G.E} (h:G.zad w B' 61 u M) (hj:w.heap[j]? =some (.cells cs t)) (ht:t≠61):some j≠u.ownBlock:=by
 intro e;obtain ⟨cur,hc⟩:=zcm h e.symm;have:=hj.symm.trans hc;simp at this;exact ht this.2
theorem notM {j t:Nat} {es:Array MapEntry} {c:Nat} {cs:Array Value} (hm:w.heap[j]? =some (.map es c)) {k:Nat} (hk:w.heap[k]? =some (.cells cs t)):j≠k:=by
 rintro rfl;have:=hm.symm.trans hk;simp at this
theorem yaau {j:Nat} {es:Array MapEntry} {c:Nat} {B':Nat} {M:List G.E} (h:G.zad w B' 61 u M) (hm:w.heap[j]? =some (.map es c)):some j≠u.ownBlock:=by
 intro e;obtain ⟨cur,hc⟩:=zcm h e.symm;have:=hm.symm.trans hc;simp at this
theorem zgh {j k t s:Nat} {cs ds:Array Value} (hj:w.heap[j]? =some (.cells cs t)) (hk:w.heap[k]? =some (.cells ds s)) (h:t≠s):j≠k:=by
 rintro rfl;have:=hj.symm.trans hk;simp at this;exact h this.2
theorem Ply.zpq (h:Ply w0 w x n L Ld p q v R B W T D pw bw pt bt mp N qd u Rd) {Rd' Ld':List G.E} (hs:G.zfx w w' w0.heap.size 40 qd (n:Int) u Rd') (hp:Rd'.Perm Ld'):Pl w0 w' x n L Ld' qd/\KT w w':=by
 obtain ⟨u',hg,hk,hf⟩:=hs;have a:=h.at_.rn.now.at_;obtain ⟨es,c,hm⟩:=a.zgz;have hq:=h.doc.hp;have hr:=h.doc.row;have cell:∀{j t:Nat} {cs:Array Value},w.heap[j]? =some (.cells cs t)->t≠40->t≠61->w'.heap[j]? =w.heap[j]? :=λ hj h1 h2=>hk.block _ (G.lt_of_some hj) (zgh hj hq h1) (zvo hr hj h2)
 refine ⟨⟨p,q,v,R,B,W,T,D,pw,bw,pt,bt,mp,N,u',Rd',h.at_.same ?_ ?_,hg,hp,λ k hkv e=>?_,h.lq⟩,λ j t cs _ h2 _ h4 _ hj=>(cell hj h4 h2).trans hj⟩
 ·have hb:=h.at_.rn.below
  have hlq:=h.lq;refine ⟨hk.os.trans hb.os,hk.tape.trans hb.tape,hk.output.trans hb.output,Nat.le_trans hb.size hk.size,λ j hj=>(hk.block j (Nat.lt_of_lt_of_le hj hb.size) (by omega) (λ e=>?_)).trans (hb.block j hj)⟩;have:=(h.doc.lt e.symm).1;omega
 ·rintro k (rfl | rfl | hkv | rfl | rfl | rfl | rfl | rfl | rfl)
  ·exact cell h.at_.ix (by decide) (by decide)
  ·exact cell h.at_.gra.hp (by decide) (by decide)
  ·obtain ⟨cur,hcur⟩:=zcm h.at_.gra.row hkv
   exact hk.block k (G.lt_of_some hcur) (zgh hcur hq (by decide)) (λ e=>h.sep k hkv e.symm)
  ·exact cell a.hp (by decide) (by decide)
  ·exact cell a.sw.hp (by decide) (by decide)
  ·exact cell a.sw.hb (by decide) (by decide)
  ·exact cell a.st.hp (by decide) (by decide)
  ·exact cell a.st.hb (by decide) (by decide)
  ·exact hk.block k (G.lt_of_some hm) (notM hm hq) (yaau hr hm)
 ·rcases hf k e with h1 | h1
  ·exact h.sep k hkv h1
  ·obtain ⟨cur,hcur⟩:=zcm h.at_.gra.row hkv
   have:=G.lt_of_some hcur;omega
def zgw (n:Nat) (L:List G.E) (id a b:Int):List G.E:=if zbp n L id a b=0 then G.zca L (edg id a b) else L
def zjr (L:List G.E) (id:Int):Int:=if (G.seen L id).isSome then 0 else 7
def zc1 (L:List G.E) (id:Int):List G.E:=if (G.seen L id).isSome then L.take (G.place L id)++L.drop (G.place L id+1) else L
theorem z2j (R L:List G.E) (e:G.E) (hp:R.Perm L):(R++[e]).Perm (G.zca L e):=
 (List.perm_append_comm.trans (List.Perm.cons e hp)).trans (G.zeg L e).symm
theorem Pl.yac2 (h:Pl w0 w x n L L qd) (id a b:Int):
 Calls prog 20 #[.pointer (some ⟨qd,0,none⟩),.int .i64 id,.int .i64 a,.int .i64 b] w λ e w'=>e= .returned (.int .i64 (zbp n L id a b))/\Pl w0 w' x n L (zgw n L id a b) qd/\KT w w':=by
 obtain ⟨p,q,v,R,B,W,T,D,pw,bw,pt,bt,mp,N,u,Rd,h⟩:=h;refine (z0s qd n w0.heap.size u Rd L id a b w h.doc h.at_.rn.below.size h.at_.ok h.inv).mono ?_;rintro e w' ⟨rfl,hs⟩;refine ⟨rfl,?_⟩;rcases hs with ⟨hc,hs⟩ | ⟨hc,hb⟩
 ·unfold zgw
  rw [if_pos hc];exact h.zpq hs (z2j _ _ _ h.inv)
 ·unfold zgw
  rw [if_neg hc];exact ⟨⟨p,q,v,R,B,W,T,D,pw,bw,pt,bt,mp,N,u,Rd,h.below' hb⟩,KT.of_below hb⟩
theorem zkx {L:List G.E} (hu:G.Up L) (id:Int):(∃y,L[G.place L id]? =some y/\y.1=id/\G.seen L id=some y)\/((∀y∈L,y.1≠id)/\G.seen L id=none):=by
 rcases G.znh hu id with ⟨y,h1,h2,h3⟩ | ⟨h1,_,_⟩
 ·exact .inl ⟨y,h1,h2,h3⟩
 ·exact .inr ⟨h1,G.seen_none h1⟩
theorem Pl.yabi (h:Pl w0 w x n L Ld qd) (hd:Ok n Ld) (id:Int):
 Calls prog 19 #[.pointer (some ⟨qd,0,none⟩),.int .i64 id] w λ e w'=>e= .returned (.int .i64 (zjr Ld id))/\Pl w0 w' x n L (zc1 Ld id) qd/\KT w w':=by
 obtain ⟨p,q,v,R,B,W,T,D,pw,bw,pt,bt,mp,N,u,Rd,h⟩:=h;have hi:G.Inv Rd Ld:=hd.inv h.inv;refine (G.zxe id (n:Int) w0.heap.size qd u Rd w h.doc h.at_.rn.below.size (by rw [hi.zpf];exact hd.len)).mono ?_;rintro e w' (⟨hn,rfl,hb⟩ | ⟨i,y,hy,hyi,rfl,hs⟩)
 ·have h3:G.seen Ld id=none:=G.seen_none (λ y hy=>hn y (h.inv.mem_iff.2 hy))
  refine ⟨by simp [zjr,h3],?_,KT.of_below hb⟩;have e:zc1 Ld id=Ld:=by simp [zc1,h3]
  rw [e];exact ⟨p,q,v,R,B,W,T,D,pw,bw,pt,bt,mp,N,u,Rd,h.below' hb⟩
 ·rcases zkx hd.up id with ⟨z,h1,h2,h3⟩ | ⟨h1,_⟩
  ·refine ⟨by simp [zjr,h3],?_⟩
   have e:zc1 Ld id=Ld.take (G.place Ld id)++Ld.drop (G.place Ld id+1):=by simp [zc1,h3]
   rw [e];exact h.zpq hs (hi.out hy h1 (hyi.trans h2.symm)).perm
  ·exact absurd hyi (h1 y (h.inv.mem_iff.1 (List.mem_of_getElem? hy)))
theorem zrv {B':Nat} (hg:G.GAt w B' 40 61 qd (n:Int) u Rd) (hk:∀k,k=qd\/u.ownBlock=some k->w'.heap[k]? =w.heap[k]?):G.GAt w' B' 40 61 qd (n:Int) u Rd:=by
 refine ⟨(hk qd (.inl rfl)).trans hg.hp,⟨hg.row.1,?_⟩,hg.ne⟩;rcases hg.row.2 with h2 | ⟨j,cap,cur,e,b,c2,d⟩
 ·exact .inl h2
 ·refine .inr ⟨j,cap,cur,e,b,(hk j (.inr ?_)).trans c2,d⟩
  rw [e];rfl
theorem Pl.yact (h:Pl w0 w x n L Ld qd) (id a b:Int):
 Calls prog 21 #[.pointer (some ⟨x,0,none⟩),.int .i64 id,.int .i64 a,.int .i64 b] w λ e w'=>∃ok,e= .returned (.tuple #[.bool ok,G.zb8 (zbp n L id a b)])/\Pl w0 w' x n (zgw n L id a b) Ld qd/\KT w w'/\(zbp n L id a b=0->(ok=true↔id∈brz n (zgw n L id a b))):=by
 obtain ⟨p,q,v,R,B,W,T,D,pw,bw,pt,bt,mp,N,u,Rd,h⟩:=h;by_cases hc:zbp n L id a b=0
 ·have hf:=(zob h.at_.ok id a b).1 hc
  obtain ⟨a,rfl⟩:=Int.eq_ofNat_of_zero_le hf.2.1.1;obtain ⟨b,rfl⟩:=Int.eq_ofNat_of_zero_le hf.2.2.1.1;refine (zuj id a b w h.at_ hf).mono ?_;rintro e w' ⟨ok,v',B',W',T',D',N',rfl,h2,hok,hk,hfr⟩;have e1:zgw n L id (a:Int) (b:Int)=G.zca L (edg id (a:Int) (b:Int)):=by unfold zgw;rw [if_pos hc]
  have aa:=h.at_.rn.now.at_;obtain ⟨es,c,hm⟩:=aa.zgz;have cell:∀{j t:Nat} {cs:Array Value},w.heap[j]? =some (.cells cs t)->t≠168->t≠61->t≠3->w'.heap[j]? =w.heap[j]? :=λ hj h1 h2 h3=>(zcy h.at_ hk hj h1 h2 h3).trans hj.symm
  refine ⟨ok,by rw [hc];simp [G.zb8],?_,λ j t cs h1 h2 h3 _ _ hj=>zcy h.at_ hk hj h1 h2 h3,λ _=>?_⟩
  ·rw [e1]
   refine ⟨p,q,v',_,B',W',T',D',pw,bw,pt,bt,mp,N',u,Rd,h2,zrv h.doc ?_,h.inv,λ k hkv e=>?_,h.lq⟩
   ·rintro k (rfl | hku)
    ·exact cell h.doc.hp (by decide) (by decide) (by decide)
    ·obtain ⟨cur,hcur⟩:=zcm h.doc.row hku
     exact hk.block k (G.lt_of_some hcur) (zgh hcur h.at_.gra.hp (by decide)) (λ e=>h.sep k e.symm hku) (zgh hcur aa.sw.hb (by decide)) (zgh hcur aa.st.hb (by decide)) (λ e=>notM hm hcur e.symm)
   ·rcases hfr k hkv with h3 | h3
    ·exact h.sep k h3 e
    ·obtain ⟨cur,hcur⟩:=zcm h.doc.row e
     have:=G.lt_of_some hcur;omega
  ·rw [e1,z5u (zjj h2.rn.now.st h2.perm) h2.ok,hok]
   constructor
   ·exact λ k=>⟨_,k,rfl⟩
   ·rintro ⟨e,he,hei⟩
    have hL:=((h2.rn.now.st.hB e).1 he).1;have hu:=h2.rn.now.st.one e hL (edg id (a:Int) (b:Int)) (by simp) hei;rw [<-hu];exact he
 ·refine (zt7 id a b w h.at_ hc).mono ?_
  rintro e w' ⟨rfl,hb⟩;refine ⟨false,by simp [G.zb8,hc],?_,KT.of_below hb,λ k=>absurd k hc⟩;unfold zgw;rw [if_neg hc];exact ⟨p,q,v,R,B,W,T,D,pw,bw,pt,bt,mp,N,u,Rd,h.below' hb⟩
def zvy (w0 w:World) (x p n:Nat) (v:Value) (L:List G.E) (e:Ending) (w':World):Prop:=
 e= .returned .nilIface/\∃q v' R B W T D pw bw pt bt mp N,IAt w0 w' x p q n v' L R B W T D pw bw pt bt mp N/\G.zbr w v v'/\∀k,k<w.heap.size->k≠p->some k≠v.ownBlock->k≠x->w'.heap[k]? =w.heap[k]?
theorem zyd (id:Int) (k:Nat) (y:G.E) (w:World) (h:IAt w0 w x p q n v L R B W T D pw bw pt bt mp N) (hk:k=G.place L id) (hy:L[k]? =some y) (hs:G.seen L id=some y):
 Calls prog 18 #[.pointer (some ⟨x,0,none⟩),.int .i64 id] w (zvy w0 w x p n v (L.take k++L.drop (k+1))):=by
 have HH:=kd h;have HA:Hid _:=G.z1h id (n:Int) w0.heap.size p k v L y w h.gra h.ok.up h.ok.len hk hy hs;have HO:Hid (Ok n (L.take k++L.drop (k+1))):=h.ok.sub (z7a L k);have c0:=h.ix.c0;clear h hk hy hs;go_enter func18,ntmps18;go_wp2_with fail;refine Calls.mono HA.out ?_;rintro e w1 ⟨rfl,v1,hg1,hk1,hf1⟩;obtain ⟨hx1,hr1⟩:=HH.out.graph hk1;have HF:Hid _:=S.z0i n w0.heap.size p v1 _ w1 hg1 HO.out;have HG1:=kd hg1;have HB1:=kd hr1.below;have HX1:=kd hx1;have HKF:=kd (And.intro hk1 hf1);have d0:=hx1.c0;clear hg1 hk1 hf1 hx1 hr1 HA c0;go_wp2_with fail;refine Calls.mono HF.out ?_;rintro e w2 ⟨q',pw',bw',pt',bt',mp',B',W',T',D',N',rfl,hrn⟩;have hX2:Ix w2 x p q:=HX1.out.below hrn.below HX1.out.lt;have HX2:=kd hX2;have HR:=kd hrn;have e0:=hX2.c1;have e1:w2.frozen? ⟨x,1,none⟩=false:=by simp [World.frozen?,show w2.heap[x]? =_ from hX2]
 clear hrn hX2 d0 HF;go_wp2_with fail;go_ret;have hxx:x<w2.heap.size:=HX2.out.lt;have hrn:=z7k HR.out HB1.out;refine ⟨rfl,q',v1,_,B',W',T',D',pw',bw',pt',bt',mp',N',⟨?_,z6t HX2.out (HG1.out.below HR.out.below),{hrn with now:=⟨z8n HX2.out hrn.now.at_,hrn.now.st,hrn.now.dis⟩,below:=?_},HO.out,List.Perm.refl _,HH.out.hx,HH.out.hp⟩,HKF.out.2,λ j hj h1 h2 h3=>?_⟩
 ·unfold Ix
  simp only [World.setCell,Array.getElem?_modify,show w2.heap[x]? =_ from HX2.out];simp
 ·have hb:=hrn.below
  exact ⟨hb.os,hb.tape,hb.output,by simp;exact hb.size,λ j hj=>(Below.heap_setCell _ _ _ _ (show j≠x by have:=HH.out.hx;omega)).trans (hb.block j hj)⟩
 ·exact (Below.heap_setCell _ _ _ _ h3).trans ((HR.out.below.block j (Nat.lt_of_lt_of_le hj HKF.out.1.size)).trans (HKF.out.1.block j hj h1 h2))
theorem Pl.yabn (h:Pl w0 w x n L Ld qd) (id:Int):
 Calls prog 18 #[.pointer (some ⟨x,0,none⟩),.int .i64 id] w λ e w'=>e= .returned (G.zb8 (zjr L id))/\Pl w0 w' x n (zc1 L id) Ld qd/\KT w w':=by
 obtain ⟨p,q,v,R,B,W,T,D,pw,bw,pt,bt,mp,N,u,Rd,h⟩:=h;rcases zkx h.at_.ok.up id with ⟨z,h1,h2,h3⟩ | ⟨h1,h3⟩
 ·refine (zyd id (G.place L id) z w h.at_ rfl h1 h3).mono ?_
  rintro e w' ⟨rfl,q',v',R',B',W',T',D',pw',bw',pt',bt',mp',N',h4,hf,hk⟩;have e1:zc1 L id=L.take (G.place L id)++L.drop (G.place L id+1):=by simp [zc1,h3]
  have hgp:=h.at_.gra.hp;have hix:w.heap[x]? =_:=h.at_.ix;refine ⟨by simp [zjr,h3,G.zb8],?_,λ j t cs k1 k2 k3 k4 k5 hj=>?_⟩
  ·rw [e1]
   refine ⟨p,q',v',R',B',W',T',D',pw',bw',pt',bt',mp',N',u,Rd,h4,zrv h.doc ?_,h.inv,λ k hkv e=>?_,h.lq⟩
   ·rintro k (rfl | hku)
    ·exact hk k h.doc.plt (zgh h.doc.hp hgp (by decide)) (zvo h.at_.gra.row h.doc.hp (by decide)) (zgh h.doc.hp hix (by decide))
    ·obtain ⟨cur,hcur⟩:=zcm h.doc.row hku
     exact hk k (G.lt_of_some hcur) (zgh hcur hgp (by decide)) (λ e=>h.sep k e.symm hku) (zgh hcur hix (by decide))
   ·rcases hf k hkv with h5 | h5
    ·exact h.sep k h5 e
    ·obtain ⟨cur,hcur⟩:=zcm h.doc.row e
     have:=G.lt_of_some hcur;omega
  ·exact (hk j (G.lt_of_some hj) (zgh hj hgp k1) (zvo h.at_.gra.row hj k2) (zgh hj hix k5)).trans hj
 ·refine (z3j id w h.at_ h3).mono ?_
  rintro e w' ⟨rfl,hb⟩;have e1:zc1 L id=L:=by simp [zc1,h3]
  refine ⟨by simp [zjr,h3,G.zb8],?_,KT.of_below hb⟩;rw [e1];exact ⟨p,q,v,R,B,W,T,D,pw,bw,pt,bt,mp,N,u,Rd,h.below' hb⟩
theorem Pl.load {w1:World} {y p' q':Nat} {v':Value} {R' B':List G.E} {W' T':List Nat} {D':DataW Unit} {pw' bw' pt' bt' mp' N':Nat} (h:Pl w0 w x n L Ld qd) (hb:Below w.heap.size w w1) (hy:IAt w w1 y p' q' n v' L R' B' W' T' D' pw' bw' pt' bt' mp' N'):Pl w0 w1 y n L Ld qd:=by
 obtain ⟨p,q,v,R,B,W,T,D,pw,bw,pt,bt,mp,N,u,Rd,h⟩:=h;refine ⟨p',q',v',R',B',W',T',D',pw',bw',pt',bt',mp',N',u,Rd,hy.base h.at_.rn.below,h.doc.below hb,h.inv,λ k hk e=>?_,h.lq⟩;have h1:=(hy.gra.lt hk).1;obtain ⟨cur,hcur⟩:=zcm h.doc.row e;have:=G.lt_of_some hcur;omega
end Go.Proofs.YtebcjaenhiiflaaGreatDoor.I
