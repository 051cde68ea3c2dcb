import Derived.Test.YtebcjaenhiiflaaGreatDoorQGDGYc
set_option maxHeartbeats 1000000
set_option maxRecDepth 100000
namespace Go.Proofs.YtebcjaenhiiflaaGreatDoor.I
open Go.RowKit Go.WideMaps Go.Maps Go.Lib Go.Proofs.Tryz
structure Ply (w0 w:World) (x n:Nat) (L Ld:List G.E) (p q:Nat) (v:Value) (R B:List G.E) (W T:List Nat) (D:DataW Unit) (pw bw pt bt mp N:Nat) (qd:Nat) (u:Value) (Rd:List G.E):Prop where
 at_:IAt w0 w x p q n v L R B W T D pw bw pt bt mp N
 doc:G.GAt w w0.heap.size 40 61 qd (n:Int) u Rd
 inv:Rd.Perm Ld
 sep:∀k,v.ownBlock=some k->u.ownBlock≠some k
 lq:w0.heap.size<=qd
def Pl (w0 w:World) (x n:Nat) (L Ld:List G.E) (qd:Nat):Prop:=
 ∃p q v R B W T D pw bw pt bt mp N u Rd,Ply w0 w x n L Ld p q v R B W T D pw bw pt bt mp N qd u Rd
def KT (w w':World):Prop:=∀(j t:Nat) (cs:Array Value),t≠168->t≠61->t≠3->t≠40->t≠85->w.heap[j]? =some (.cells cs t)->w'.heap[j]? =some (.cells cs t)
variable {w0 w w':World} {a b x p q n:Nat} {v u:Value} {L Ld R B Rd:List G.E} {W T:List Nat} {D:DataW Unit} {pw bw pt bt mp N g qd:Nat}
theorem KT.of_below (hb:Below w.heap.size w w'):KT w w':=λ j _ _ _ _ _ _ _ hj=>(hb.block j (G.lt_of_some hj)).trans hj
theorem KT.trans {w2:World} (h:KT w w') (k:KT w' w2):KT w w2:=λ j t cs h1 h2 h3 h4 h5 hj=>k j t cs h1 h2 h3 h4 h5 (h j t cs h1 h2 h3 h4 h5 hj)
theorem Ply.below' (h:Ply w0 w x n L Ld p q v R B W T D pw bw pt bt mp N qd u Rd) (hb:Below w.heap.size w w'):Ply w0 w' x n L Ld p q v R B W T D pw bw pt bt mp N qd u Rd:=
 {h with at_:=h.at_.below' hb,doc:=h.doc.below hb}
theorem Pl.below' (h:Pl w0 w x n L Ld qd) (hb:Below w.heap.size w w'):Pl w0 w' x n L Ld qd:=by
 obtain ⟨p,q,v,R,B,W,T,D,pw,bw,pt,bt,mp,N,u,Rd,h⟩:=h;exact ⟨p,q,v,R,B,W,T,D,pw,bw,pt,bt,mp,N,u,Rd,h.below' hb⟩
theorem Pl.base (h:Pl w0 w x n L Ld qd):Below w0.heap.size w0 w:=by
 obtain ⟨p,q,v,R,B,W,T,D,pw,bw,pt,bt,mp,N,u,Rd,h⟩:=h;exact h.at_.rn.below
theorem Pl.ok (h:Pl w0 w x n L Ld qd):Ok n L:=by
 obtain ⟨p,q,v,R,B,W,T,D,pw,bw,pt,bt,mp,N,u,Rd,h⟩:=h;exact h.at_.ok
theorem Pl.iv (h:Pl w0 w x n L Ld qd):∃a b,IV w a b x n L:=by
 obtain ⟨p,q,v,R,B,W,T,D,pw,bw,pt,bt,mp,N,u,Rd,h⟩:=h;exact ⟨w0.heap.size,w.heap.size,h.at_.iv (Nat.le_refl _) (Nat.le_refl _)⟩
theorem Pl.dv (h:Pl w0 w x n L Ld qd):DV w qd n Ld:=by
 obtain ⟨p,q,v,R,B,W,T,D,pw,bw,pt,bt,mp,N,u,Rd,h⟩:=h;exact ⟨_,u,Rd,h.doc,h.inv⟩
theorem zvo {j t:Nat} {cs:Array Value} {B':Nat} {M:List G.E} (h:G.zad w B' 61 u M) (hj:w.heap[j]? =some (.cells cs t)) (ht:t≠61):some j≠u.ownBlock:=by
 intro e;obtain ⟨cur,hc⟩:=zcm h e.symm;have:=hj.symm.trans hc;simp at this;exact ht this.2
theorem notM {j t:Nat} {es:Array MapEntry} {c:Nat} {cs:Array Value} (hm:w.heap[j]? =some (.map es c)) {k:Nat} (hk:w.heap[k]? =some (.cells cs t)):j≠k:=by
 rintro rfl;have:=hm.symm.trans hk;simp at this
theorem yaau {j:Nat} {es:Array MapEntry} {c:Nat} {B':Nat} {M:List G.E} (h:G.zad w B' 61 u M) (hm:w.heap[j]? =some (.map es c)):some j≠u.ownBlock:=by
 intro e;obtain ⟨cur,hc⟩:=zcm h e.symm;have:=hm.symm.trans hc;simp at this
theorem zgh {j k t s:Nat} {cs ds:Array Value} (hj:w.heap[j]? =some (.cells cs t)) (hk:w.heap[k]? =some (.cells ds s)) (h:t≠s):j≠k:=by
 rintro rfl;have:=hj.symm.trans hk;simp at this;exact h this.2
theorem Ply.zpq (h:Ply w0 w x n L Ld p q v R B W T D pw bw pt bt mp N qd u Rd) {Rd' Ld':List G.E} (hs:G.zfx w w' w0.heap.size 40 qd (n:Int) u Rd') (hp:Rd'.Perm Ld'):Pl w0 w' x n L Ld' qd/\KT w w':=by
 obtain ⟨u',hg,hk,hf⟩:=hs;have a:=h.at_.rn.now.at_;obtain ⟨es,c,hm⟩:=a.zgz;have hq:=h.doc.hp;have hr:=h.doc.row;have cell:∀{j t:Nat} {cs:Array Value},w.heap[j]? =some (.cells cs t)->t≠40->t≠61->w'.heap[j]? =w.heap[j]? :=λ hj h1 h2=>hk.block _ (G.lt_of_some hj) (zgh hj hq h1) (zvo hr hj h2)
 refine ⟨⟨p,q,v,R,B,W,T,D,pw,bw,pt,bt,mp,N,u',Rd',h.at_.same ?_ ?_,hg,hp,λ k hkv e=>?_,h.lq⟩,λ j t cs _ h2 _ h4 _ hj=>(cell hj h4 h2).trans hj⟩
 ·have hb:=h.at_.rn.below
  have hlq:=h.lq;refine ⟨hk.os.trans hb.os,hk.tape.trans hb.tape,hk.output.trans hb.output,Nat.le_trans hb.size hk.size,λ j hj=>(hk.block j (Nat.lt_of_lt_of_le hj hb.size) (by omega) (λ e=>?_)).trans (hb.block j hj)⟩;have:=(h.doc.lt e.symm).1;omega
 ·rintro k (rfl | rfl | hkv | rfl | rfl | rfl | rfl | rfl | rfl)
  ·exact cell h.at_.ix (by decide) (by decide)
  ·exact cell h.at_.gra.hp (by decide) (by decide)
  ·obtain ⟨cur,hcur⟩:=zcm h.at_.gra.row hkv
   exact hk.block k (G.lt_of_some hcur) (zgh hcur hq (by decide)) (λ e=>h.sep k hkv e.symm)
  ·exact cell a.hp (by decide) (by decide)
  ·exact cell a.sw.hp (by decide) (by decide)
  ·exact cell a.sw.hb (by decide) (by decide)
  ·exact cell a.st.hp (by decide) (by decide)
  ·exact cell a.st.hb (by decide) (by decide)
  ·exact hk.block k (G.lt_of_some hm) (notM hm hq) (yaau hr hm)
 ·rcases hf k e with h1 | h1
  ·exact h.sep k hkv h1
  ·obtain ⟨cur,hcur⟩:=zcm h.at_.gra.row hkv
   have:=G.lt_of_some hcur;omega
def zgw (n:Nat) (L:List G.E) (id a b:Int):List G.E:=if zbp n L id a b=0 then G.zca L (edg id a b) else L
def zjr (L:List G.E) (id:Int):Int:=if (G.seen L id).isSome then 0 else 7
def zc1 (L:List G.E) (id:Int):List G.E:=if (G.seen L id).isSome then L.take (G.place L id)++L.drop (G.place L id+1) else L
theorem z2j (R L:List G.E) (e:G.E) (hp:R.Perm L):(R++[e]).Perm (G.zca L e):=
 (List.perm_append_comm.trans (List.Perm.cons e hp)).trans (G.zeg L e).symm
theorem Pl.yac2 (h:Pl w0 w x n L L qd) (id a b:Int):
 Calls prog 20 #[.pointer (some ⟨qd,0,none⟩),.int .i64 id,.int .i64 a,.int .i64 b] w λ e w'=>e= .returned (.int .i64 (zbp n L id a b))/\Pl w0 w' x n L (zgw n L id a b) qd/\KT w w':=by
 obtain ⟨p,q,v,R,B,W,T,D,pw,bw,pt,bt,mp,N,u,Rd,h⟩:=h;refine (z0s qd n w0.heap.size u Rd L id a b w h.doc h.at_.rn.below.size h.at_.ok h.inv).mono ?_;rintro e w' ⟨rfl,hs⟩;refine ⟨rfl,?_⟩;rcases hs with ⟨hc,hs⟩ | ⟨hc,hb⟩
 ·unfold zgw
  rw [if_pos hc];exact h.zpq hs (z2j _ _ _ h.inv)
 ·unfold zgw
  rw [if_neg hc];exact ⟨⟨p,q,v,R,B,W,T,D,pw,bw,pt,bt,mp,N,u,Rd,h.below' hb⟩,KT.of_below hb⟩
theorem zkx {L:List G.E} (hu:G.Up L) (id:Int):(∃y,L[G.place L id]? =some y/\y.1=id/\G.seen L id=some y)\/((∀y∈L,y.1≠id)/\G.seen L id=none):=by
 rcases G.znh hu id with ⟨y,h1,h2,h3⟩ | ⟨h1,_,_⟩
 ·exact .inl ⟨y,h1,h2,h3⟩
 ·exact .inr ⟨h1,G.seen_none h1⟩
theorem Pl.yabi (h:Pl w0 w x n L Ld qd) (hd:Ok n Ld) (id:Int):
 Calls prog 19 #[.pointer (some ⟨qd,0,none⟩),.int .i64 id] w λ e w'=>e= .returned (.int .i64 (zjr Ld id))/\Pl w0 w' x n L (zc1 Ld id) qd/\KT w w':=by
 obtain ⟨p,q,v,R,B,W,T,D,pw,bw,pt,bt,mp,N,u,Rd,h⟩:=h;have hi:G.Inv Rd Ld:=hd.inv h.inv;refine (G.zxe id (n:Int) w0.heap.size qd u Rd w h.doc h.at_.rn.below.size (by rw [hi.zpf];exact hd.len)).mono ?_;rintro e w' (⟨hn,rfl,hb⟩ | ⟨i,y,hy,hyi,rfl,hs⟩)
 ·have h3:G.seen Ld id=none:=G.seen_none (λ y hy=>hn y (h.inv.mem_iff.2 hy))
  refine ⟨by simp [zjr,h3],?_,KT.of_below hb⟩;have e:zc1 Ld id=Ld:=by simp [zc1,h3]
  rw [e];exact ⟨p,q,v,R,B,W,T,D,pw,bw,pt,bt,mp,N,u,Rd,h.below' hb⟩
 ·rcases zkx hd.up id with ⟨z,h1,h2,h3⟩ | ⟨h1,_⟩
  ·refine ⟨by simp [zjr,h3],?_⟩
   have e:zc1 Ld id=Ld.take (G.place Ld id)++Ld.drop (G.place Ld id+1):=by simp [zc1,h3]
   rw [e];exact h.zpq hs (hi.out hy h1 (hyi.trans h2.symm)).perm
  ·exact absurd hyi (h1 y (h.inv.mem_iff.1 (List.mem_of_getElem? hy)))
theorem zrv {B':Nat} (hg:G.GAt w B' 40 61 qd (n:Int) u Rd) (hk:∀k,k=qd\/u.ownBlock=some k->w'.heap[k]? =w.heap[k]?):G.GAt w' B' 40 61 qd (n:Int) u Rd:=by
 refine ⟨(hk qd (.inl rfl)).trans hg.hp,⟨hg.row.1,?_⟩,hg.ne⟩;rcases hg.row.2 with h2 | ⟨j,cap,cur,e,b,c2,d⟩
 ·exact .inl h2
 ·refine .inr ⟨j,cap,cur,e,b,(hk j (.inr ?_)).trans c2,d⟩
  rw [e];rfl
theorem Pl.yact (h:Pl w0 w x n L Ld qd) (id a b:Int):
 Calls prog 21 #[.pointer (some ⟨x,0,none⟩),.int .i64 id,.int .i64 a,.int .i64 b] w λ e w'=>∃ok,e= .returned (.tuple #[.bool ok,G.zb8 (zbp n L id a b)])/\Pl w0 w' x n (zgw n L id a b) Ld qd/\KT w w'/\(zbp n L id a b=0->(ok=true↔id∈brz n (zgw n L id a b))):=by
 obtain ⟨p,q,v,R,B,W,T,D,pw,bw,pt,bt,mp,N,u,Rd,h⟩:=h;by_cases hc:zbp n L id a b=0
 ·have hf:=(zob h.at_.ok id a b).1 hc
  obtain ⟨a,rfl⟩:=Int.eq_ofNat_of_zero_le hf.2.1.1;obtain ⟨b,rfl⟩:=Int.eq_ofNat_of_zero_le hf.2.2.1.1;refine (zuj id a b w h.at_ hf).mono ?_;rintro e w' ⟨ok,v',B',W',T',D',N',rfl,h2,hok,hk,hfr⟩;have e1:zgw n L id (a:Int) (b:Int)=G.zca L (edg id (a:Int) (b:Int)):=by unfold zgw;rw [if_pos hc]
  have aa:=h.at_.rn.now.at_;obtain ⟨es,c,hm⟩:=aa.zgz;have cell:∀{j t:Nat} {cs:Array Value},w.heap[j]? =some (.cells cs t)->t≠168->t≠61->t≠3->w'.heap[j]? =w.heap[j]? :=λ hj h1 h2 h3=>(zcy h.at_ hk hj h1 h2 h3).trans hj.symm
  refine ⟨ok,by rw [hc];simp [G.zb8],?_,λ j t cs h1 h2 h3 _ _ hj=>zcy h.at_ hk hj h1 h2 h3,λ _=>?_⟩
  ·rw [e1]
   refine ⟨p,q,v',_,B',W',T',D',pw,bw,pt,bt,mp,N',u,Rd,h2,zrv h.doc ?_,h.inv,λ k hkv e=>?_,h.lq⟩
   ·rintro k (rfl | hku)
    ·exact cell h.doc.hp (by decide) (by decide) (by decide)
    ·obtain ⟨cur,hcur⟩:=zcm h.doc.row hku
     exact hk.block k (G.lt_of_some hcur) (zgh hcur h.at_.gra.hp (by decide)) (λ e=>h.sep k e.symm hku) (zgh hcur aa.sw.hb (by decide)) (zgh hcur aa.st.hb (by decide)) (λ e=>notM hm hcur e.symm)
   ·rcases hfr k hkv with h3 | h3
    ·exact h.sep k h3 e
    ·obtain ⟨cur,hcur⟩:=zcm h.doc.row e
     have:=G.lt_of_some hcur;omega
  ·rw [e1,z5u (zjj h2.rn.now.st h2.perm) h2.ok,hok]
   constructor
   ·exact λ k=>⟨_,k,rfl⟩
   ·rintro ⟨e,he,hei⟩
    have hL:=((h2.rn.now.st.hB e).1 he).1;have hu:=h2.rn.now.st.one e hL (edg id (a:Int) (b:Int)) (by simp) hei;rw [<-hu];exact he
 ·refine (zt7 id a b w h.at_ hc).mono ?_
  rintro e w' ⟨rfl,hb⟩;refine ⟨false,by simp [G.zb8,hc],?_,KT.of_below hb,λ k=>absurd k hc⟩;unfold zgw;rw [if_neg hc];exact ⟨p,q,v,R,B,W,T,D,pw,bw,pt,bt,mp,N,u,Rd,h.below' hb⟩
def zvy (w0 w:World) (x p n:Nat) (v:Value) (L:List G.E) (e:Ending) (w':World):Prop:=
 e= .returned .nilIface/\∃q v' R B W T D pw bw pt bt mp N,IAt w0 w' x p q n v' L R B W T D pw bw pt bt mp N/\G.zbr w v v'/\∀k,k<w.heap.size->k≠p->some k≠v.ownBlock->k≠x->w'.heap[k]? =w.heap[k]?
theorem zyd (id:Int) (k:Nat) (y:G.E) (w:World) (h:IAt w0 w x p q n v L R B W T D pw bw pt bt mp N) (hk:k=G.place L id) (hy:L[k]? =some y) (hs:G.seen L id=some y):
 Calls prog 18 #[.pointer (some ⟨x,0,none⟩),.int .i64 id] w (zvy w0 w x p n v (L.take k++L.drop (k+1))):=by
 have HH:=kd h;have HA:Hid _:=G.z1h id (n:Int) w0.heap.size p k v L y w h.gra h.ok.up h.ok.len hk hy hs;have HO:Hid (Ok n (L.take k++L.drop (k+1))):=h.ok.sub (z7a L k);have c0:=h.ix.c0;clear h hk hy hs;go_enter func18,ntmps18;go_wp2_with fail;refine Calls.mono HA.out ?_;rintro e w1 ⟨rfl,v1,hg1,hk1,hf1⟩;obtain ⟨hx1,hr1⟩:=HH.out.graph hk1;have HF:Hid _:=S.z0i n w0.heap.size p v1 _ w1 hg1 HO.out;have HG1:=kd hg1;have HB1:=kd hr1.below;have HX1:=kd hx1;have HKF:=kd (And.intro hk1 hf1);have d0:=hx1.c0;clear hg1 hk1 hf1 hx1 hr1 HA c0;go_wp2_with fail;refine Calls.mono HF.out ?_;rintro e w2 ⟨q',pw',bw',pt',bt',mp',B',W',T',D',N',rfl,hrn⟩;have hX2:Ix w2 x p q:=HX1.out.below hrn.below HX1.out.lt;have HX2:=kd hX2;have HR:=kd hrn;have e0:=hX2.c1;have e1:w2.frozen? ⟨x,1,none⟩=false:=by simp [World.frozen?,show w2.heap[x]? =_ from hX2]
 clear hrn hX2 d0 HF;go_wp2_with fail;go_ret;have hxx:x<w2.heap.size:=HX2.out.lt;have hrn:=z7k HR.out HB1.out;refine ⟨rfl,q',v1,_,B',W',T',D',pw',bw',pt',bt',mp',N',⟨?_,z6t HX2.out (HG1.out.below HR.out.below),{hrn with now:=⟨z8n HX2.out hrn.now.at_,hrn.now.st,hrn.now.dis⟩,below:=?_},HO.out,List.Perm.refl _,HH.out.hx,HH.out.hp⟩,HKF.out.2,λ j hj h1 h2 h3=>?_⟩
 ·unfold Ix
  simp only [World.setCell,Array.getElem?_modify,show w2.heap[x]? =_ from HX2.out];simp
 ·have hb:=hrn.below
  exact ⟨hb.os,hb.tape,hb.output,by simp;exact hb.size,λ j hj=>(Below.heap_setCell _ _ _ _ (show j≠x by have:=HH.out.hx;omega)).trans (hb.block j hj)⟩
 ·exact (Below.heap_setCell _ _ _ _ h3).trans ((HR.out.below.block j (Nat.lt_of_lt_of_le hj HKF.out.1.size)).trans (HKF.out.1.block j hj h1 h2))
theorem Pl.yabn (h:Pl w0 w x n L Ld qd) (id:Int):
 Calls prog 18 #[.pointer (some ⟨x,0,none⟩),.int .i64 id] w λ e w'=>e= .returned (G.zb8 (zjr L id))/\Pl w0 w' x n (zc1 L id) Ld qd/\KT w w':=by
 obtain ⟨p,q,v,R,B,W,T,D,pw,bw,pt,bt,mp,N,u,Rd,h⟩:=h;rcases zkx h.at_.ok.up id with ⟨z,h1,h2,h3⟩ | ⟨h1,h3⟩
 ·refine (zyd id (G.place L id) z w h.at_ rfl h1 h3).mono ?_
  rintro e w' ⟨rfl,q',v',R',B',W',T',D',pw',bw',pt',bt',mp',N',h4,hf,hk⟩;have e1:zc1 L id=L.take (G.place L id)++L.drop (G.place L id+1):=by simp [zc1,h3]
  have hgp:=h.at_.gra.hp;have hix:w.heap[x]? =_:=h.at_.ix;refine ⟨by simp [zjr,h3,G.zb8],?_,λ j t cs k1 k2 k3 k4 k5 hj=>?_⟩
  ·rw [e1]
   refine ⟨p,q',v',R',B',W',T',D',pw',bw',pt',bt',mp',N',u,Rd,h4,zrv h.doc ?_,h.inv,λ k hkv e=>?_,h.lq⟩
   ·rintro k (rfl | hku)
    ·exact hk k h.doc.plt (zgh h.doc.hp hgp (by decide)) (zvo h.at_.gra.row h.doc.hp (by decide)) (zgh h.doc.hp hix (by decide))
    ·obtain ⟨cur,hcur⟩:=zcm h.doc.row hku
     exact hk k (G.lt_of_some hcur) (zgh hcur hgp (by decide)) (λ e=>h.sep k e.symm hku) (zgh hcur hix (by decide))
   ·rcases hf k hkv with h5 | h5
    ·exact h.sep k h5 e
    ·obtain ⟨cur,hcur⟩:=zcm h.doc.row e
     have:=G.lt_of_some hcur;omega
  ·exact (hk j (G.lt_of_some hj) (zgh hj hgp k1) (zvo h.at_.gra.row hj k2) (zgh hj hix k5)).trans hj
 ·refine (z3j id w h.at_ h3).mono ?_
  rintro e w' ⟨rfl,hb⟩;have e1:zc1 L id=L:=by simp [zc1,h3]
  refine ⟨by simp [zjr,h3,G.zb8],?_,KT.of_below hb⟩;rw [e1];exact ⟨p,q,v,R,B,W,T,D,pw,bw,pt,bt,mp,N,u,Rd,h.below' hb⟩
theorem Pl.load {w1:World} {y p' q':Nat} {v':Value} {R' B':List G.E} {W' T':List Nat} {D':DataW Unit} {pw' bw' pt' bt' mp' N':Nat} (h:Pl w0 w x n L Ld qd) (hb:Below w.heap.size w w1) (hy:IAt w w1 y p' q' n v' L R' B' W' T' D' pw' bw' pt' bt' mp' N'):Pl w0 w1 y n L Ld qd:=by
 obtain ⟨p,q,v,R,B,W,T,D,pw,bw,pt,bt,mp,N,u,Rd,h⟩:=h;refine ⟨p',q',v',R',B',W',T',D',pw',bw',pt',bt',mp',N',u,Rd,hy.base h.at_.rn.below,h.doc.below hb,h.inv,λ k hk e=>?_,h.lq⟩;have h1:=(hy.gra.lt hk).1;obtain ⟨cur,hcur⟩:=zcm h.doc.row e;have:=G.lt_of_some hcur;omega
end Go.Proofs.YtebcjaenhiiflaaGreatDoor.I
namespace Go.Proofs.YtebcjaenhiiflaaGreatDoor.F
abbrev Stp:=Int × Int × Int
def fr (s:Stp):Int:=s.2.1
def tt (s:Stp):Int:=s.2.2
def bk (s:Stp):Stp:=(s.1,s.2.2,s.2.1)
theorem zly (s:Stp):bk (bk s)=s:=rfl
theorem zww (s:Stp):fr (bk s)=tt s:=rfl
theorem zwx (s:Stp):tt (bk s)=fr s:=rfl
def chi (S:Int->Bool) (x:Int):Int:=if S x then 1 else 0
def out (S:Int->Bool) (s:Stp):Bool:=S (fr s)&&!S (tt s)
def cap:List Stp->(Stp->Int)->(Int->Bool)->Int
 | [],_,_=>0
 | s::D,r,S=>(if out S s then r s else 0)+cap D r S
def upd (r:Stp->Int) (s:Stp) (d:Int):Stp->Int:=λ x=>if x=s then r x+d else r x
theorem z5p {D:List Stp} {r:Stp->Int} {s:Stp} {d:Int} {S:Int->Bool} (h:s∉D):cap D (upd r s d) S=cap D r S:=by
 induction D with
 | nil=>rfl
 | cons x D ih=>
   rw [List.mem_cons] at h;have h1:x≠s:=λ k=>h (.inl k.symm)
   have h2:upd r s d x=r x:=if_neg h1;simp only [cap];rw [ih (λ k=>h (.inr k)),h2]
theorem zua {D:List Stp} {r:Stp->Int} {s:Stp} {d:Int} {S:Int->Bool} (hn:D.Nodup) (h:s∈D):cap D (upd r s d) S=cap D r S+if out S s then d else 0:=by
 induction D with
 | nil=>simp at h
 | cons x D ih=>
   rw [List.nodup_cons] at hn;by_cases e:x=s
   ·subst e
    have:=z5p (r:=r) (d:=d) (S:=S) hn.1;simp only [cap];rw [this];simp only [upd,if_true];split <;> omega
   ·have h1:s∈D:=by
     rcases List.mem_cons.1 h with k | k
     ·exact absurd k.symm e
     ·exact k
    simp only [cap];rw [ih hn.2 h1];simp only [upd,if_neg e];omega
def tk (r:Stp->Int) (s:Stp):Stp->Int:=upd (upd r s (-1)) (bk s) 1
theorem zjt {s:Stp} (h:fr s≠tt s):bk s≠s:=λ k=>h (by
 have:=congrArg (λ x:Stp=>x.2.1) k;exact this.symm)
structure Net (D:List Stp):Prop where
 nd:D.Nodup
 back:∀s∈D,bk s∈D
 ne:∀s∈D,fr s≠tt s
theorem yaax {D:List Stp} (hD:Net D) {r:Stp->Int} {s:Stp} (h:s∈D) (S:Int->Bool):cap D (tk r s) S=cap D r S-(chi S (fr s)-chi S (tt s)):=by
 unfold tk;rw [zua hD.nd (hD.back s h),zua hD.nd h];unfold out chi;rw [zww,zwx];cases S (fr s) <;> cases S (tt s) <;> simp <;> omega
def Walk:Int->List Stp->Int->Prop
 | a,[],b=>a=b
 | a,s::p,b=>fr s=a/\Walk (tt s) p b
def tks (r:Stp->Int) (p:List Stp):Stp->Int:=p.foldl tk r
theorem z0x (r:Stp->Int) (p:List Stp) (s:Stp):tks r (p++[s])=tk (tks r p) s:=by simp [tks]
theorem zrc {D:List Stp} (hD:Net D) (S:Int->Bool):∀{p:List Stp} {r:Stp->Int} {a b:Int},(∀s∈p,s∈D)->Walk a p b->cap D (tks r p) S=cap D r S-(chi S a-chi S b)
 | [],r,a,b,_,h=>by
   have:a=b:=h;rw [this];show cap D r S=_;omega
 | s::p,r,a,b,hp,h=>by
   have h1:=zrc hD S (p:=p) (r:=tk r s) (λ x hx=>hp x (by simp [hx])) h.2;have h2:=yaax hD (r:=r) (hp s (by simp)) S;show cap D (tks (tk r s) p) S=_;rw [h1,h2,h.1];omega
theorem zjh (r:Stp->Int) {s x:Stp} (hs:fr s≠tt s):tk r s x=if x=s then r s-1 else if x=bk s then r x+1 else r x:=by
 have hb:=zjt hs;unfold tk upd;by_cases h1:x=s
 ·subst h1
  rw [if_neg (λ k=>hb k.symm),if_pos rfl,if_pos rfl];rfl
 ·by_cases h2:x=bk s
  ·rw [if_pos h2,if_neg h1,if_neg h1,if_pos h2]
  ·rw [if_neg h2,if_neg h1,if_neg h1,if_neg h2]
theorem zui:∀{p:List Stp} {r:Stp->Int},p.Nodup->(∀s∈p,fr s≠tt s)->(∀s∈p,1<=r s)->(∀x,0<=r x)->∀x,0<=tks r p x
 | [],_,_,_,_,h=>h
 | s::p,r,hn,hf,h1,h0=>by
   rw [List.nodup_cons] at hn;have hs:=hf s (by simp);refine zui (p:=p) (r:=tk r s) hn.2 (λ x hx=>hf x (by simp [hx])) (λ x hx=>?_) (λ x=>?_)
   ·have hx1:=h1 x (by simp [hx])
    have hne:x≠s:=λ k=>hn.1 (k▸hx)
    rw [zjh r hs,if_neg hne];split <;> omega
   ·have a1:=h1 s (by simp)
    have a2:=h0 x;rw [zjh r hs];split
    ·omega
    ·split <;> omega
structure Val (C:(Int->Bool)->Int) (a b most k:Int):Prop where
 pos:0<=k
 le:k<=most
 all:∀S,S a=true->S b=false->k<=C S
 one:k=most\/∃S,S a=true/\S b=false/\C S=k
theorem zv0 {C:(Int->Bool)->Int} {a b most k k':Int} (h:Val C a b most k) (h':Val C a b most k'):k=k':=by
 have half:∀{k k':Int},Val C a b most k->Val C a b most k'->k'<=k:=λ {k k'} h h'=>by
  rcases h.one with e | ⟨S,h1,h2,h3⟩
  ·rw [e];exact h'.le
  ·rw [<-h3];exact h'.all S h1 h2
 have:=half h h';have:=half h' h;omega
theorem zux {D:List Stp} {r:Stp->Int} {S:Int->Bool} (h:∀x,0<=r x):0<=cap D r S:=by
 induction D with
 | nil=>exact Int.le_refl _
 | cons s D ih=>
   have:=h s;simp only [cap];split <;> omega
theorem z2n {D:List Stp} {r:Stp->Int} {S:Int->Bool} (h:∀s∈D,out S s=true->r s=0):cap D r S=0:=by
 induction D with
 | nil=>rfl
 | cons s D ih=>
   have h1:=h s (by simp);have h2:=ih (λ x hx=>h x (by simp [hx]));simp only [cap,h2];split
   ·next k=>rw [h1 k];rfl
   ·rfl
structure Fill (D:List Stp) (C:(Int->Bool)->Int) (a b:Int) (r:Stp->Int) (k:Int):Prop where
 pos:∀x,0<=r x
 cut:∀S,S a=true->S b=false->cap D r S=C S-k
theorem Fill.all {D:List Stp} {C:(Int->Bool)->Int} {a b k:Int} {r:Stp->Int} (h:Fill D C a b r k) {S:Int->Bool} (h1:S a=true) (h2:S b=false):k<=C S:=by
 have:=h.cut S h1 h2;have:=zux (D:=D) (S:=S) h.pos;omega
theorem Fill.way {D:List Stp} (hD:Net D) {C:(Int->Bool)->Int} {a b k:Int} {r:Stp->Int} (h:Fill D C a b r k) {p:List Stp} (hp:∀s∈p,s∈D) (hw:Walk a p b) (hn:p.Nodup) (h1:∀s∈p,1<=r s):Fill D C a b (tks r p) (k+1):=by
 refine ⟨zui hn (λ s hs=>hD.ne s (hp s hs)) h1 h.pos,λ S ha hb=>?_⟩;rw [zrc hD S hp hw,h.cut S ha hb];unfold chi;rw [if_pos ha,if_neg (by rw [hb];simp)];omega
theorem Fill.done {D:List Stp} {C:(Int->Bool)->Int} {a b k most:Int} {r:Stp->Int} (h:Fill D C a b r k) (h0:0<=k) (hm:k<=most) (S:Int->Bool) (ha:S a=true) (hb:S b=false) (hs:∀s∈D,out S s=true->r s=0):Val C a b most k:=
 ⟨h0,hm,λ _ h1 h2=>h.all h1 h2,.inr ⟨S,ha,hb,by have:=h.cut S ha hb;rw [z2n hs] at this;omega⟩⟩
theorem Fill.most {D:List Stp} {C:(Int->Bool)->Int} {a b most:Int} {r:Stp->Int} (h:Fill D C a b r most) (h0:0<=most):Val C a b most most:=
 ⟨h0,Int.le_refl _,λ _ h1 h2=>h.all h1 h2,.inl rfl⟩
structure Bfs (lv:Int->List Stp) (inn:Stp->Bool) (a:Int) (q:List Int) (cm:Int->Stp):Prop where
 first:q[0]? =some a
 nd:q.Nodup
 came:∀k x,0<k->q[k]? =some x->tt (cm x)=x/\inn (cm x)=true/\cm x∈lv (fr (cm x))/\∃k',k'<k/\q[k']? =some (fr (cm x))
theorem Bfs.start (lv:Int->List Stp) (inn:Stp->Bool) (a:Int) (cm:Int->Stp):Bfs lv inn a [a] cm:=
 ⟨rfl,by simp,λ k x hk hx=>by
   have:=(List.getElem?_eq_some_iff.1 hx).1;simp at this;omega⟩
theorem Bfs.more {lv:Int->List Stp} {inn:Stp->Bool} {a:Int} {q:List Int} {cm cm':Int->Stp} (h:Bfs lv inn a q cm) {s:Stp} {i:Nat} (hi:q[i]? =some (fr s)) (hs:s∈lv (fr s)) (hin:inn s=true) (hn:tt s∉q) (hc:∀x,x∈q->cm' x=cm x) (hc':cm' (tt s)=s):Bfs lv inn a (q++[tt s]) cm':=by
 have hl:0<q.length:=by
  have:=(List.getElem?_eq_some_iff.1 h.first).1;omega
 have hil:=(List.getElem?_eq_some_iff.1 hi).1;refine ⟨by rw [List.getElem?_append_left hl];exact h.first,?_,λ k x hk hx=>?_⟩
 ·rw [List.nodup_append]
  exact ⟨h.nd,by simp,λ x hx y hy=>by rw [List.mem_singleton.1 hy];exact λ k=>hn (k▸hx)⟩
 ·by_cases hkl:k<q.length
  ·rw [List.getElem?_append_left hkl] at hx
   obtain ⟨h1,h2,h3,k',h4,h5⟩:=h.came k x hk hx;rw [hc x (List.mem_of_getElem? hx)];exact ⟨h1,h2,h3,k',h4,by rw [List.getElem?_append_left (by omega)];exact h5⟩
  ·have hk2:=(List.getElem?_eq_some_iff.1 hx).1
   rw [List.length_append] at hk2;have hke:k=q.length:=by simp at hk2;omega
   rw [hke] at hx;have hxe:x=tt s:=by
    rw [List.getElem?_append_right (Nat.le_refl _)] at hx
    simpa using hx.symm
   rw [hxe,hc'];exact ⟨rfl,hin,hs,i,by omega,by rw [List.getElem?_append_left hil];exact hi⟩
theorem Bfs.back {lv:Int->List Stp} {inn:Stp->Bool} {a:Int} {q:List Int} {cm:Int->Stp} (h:Bfs lv inn a q cm) {k:Nat} {x:Int} (hx:q[k]? =some x):x=a\/(0<k/\tt (cm x)=x/\inn (cm x)=true/\cm x∈lv (fr (cm x))/\∃k',k'<k/\q[k']? =some (fr (cm x))):=by
 rcases Nat.eq_zero_or_pos k with rfl | hk
 ·rw [h.first] at hx
  exact .inl (by injection hx with hx;exact hx.symm)
 ·exact .inr ⟨hk,h.came k x hk hx⟩
theorem Bfs.pos {lv:Int->List Stp} {inn:Stp->Bool} {a:Int} {q:List Int} {cm:Int->Stp} (h:Bfs lv inn a q cm) {k:Nat} {x:Int} (hx:q[k]? =some x) (hne:x≠a):0<k:=by
 rcases Nat.eq_zero_or_pos k with rfl | hk
 ·rw [h.first] at hx
  exact absurd (by injection hx with hx;exact hx.symm) hne
 ·exact hk
structure zgi (lv:Int->List Stp) (inn:Stp->Bool) (q:List Int) (at_ b:Int) (k:Nat) (p:List Stp):Prop where
 walk:Walk at_ p.reverse b
 here:q[k]? =some at_
 nd:p.Nodup
 good:∀s∈p,inn s=true/\s∈lv (fr s)
 far:∀s∈p,∃j,k<j/\q[j]? =some (tt s)
theorem zgi.start {lv:Int->List Stp} {inn:Stp->Bool} {q:List Int} {b:Int} {k:Nat} (h:q[k]? =some b):zgi lv inn q b b k []:=⟨rfl,h,by simp,by simp,by simp⟩
theorem zgi.step {lv:Int->List Stp} {inn:Stp->Bool} {a:Int} {q:List Int} {cm:Int->Stp} (h:Bfs lv inn a q cm) {x b:Int} {k:Nat} {p:List Stp} (hb:zgi lv inn q x b k p) (hne:x≠a):∃k',k'<k/\zgi lv inn q (fr (cm x)) b k' (p++[cm x]):=by
 obtain ⟨h1,h2,h3,k',h4,h5⟩:=h.came k x (h.pos hb.here hne) hb.here;refine ⟨k',h4,?_,h5,?_,λ s hs=>?_,λ s hs=>?_⟩
 ·rw [List.reverse_append]
  exact ⟨rfl,by rw [h1];exact hb.walk⟩
 ·rw [List.nodup_append]
  refine ⟨hb.nd,by simp,λ s hs y hy e=>?_⟩;rw [List.mem_singleton.1 hy] at e;obtain ⟨j,hj,hq⟩:=hb.far s hs;rw [e,h1] at hq;have h6:=(List.getElem?_inj (List.getElem?_eq_some_iff.1 hb.here).1 h.nd).1 (hb.here.trans hq.symm);omega
 ·rcases List.mem_append.1 hs with hs | hs
  ·exact hb.good s hs
  ·rw [List.mem_singleton.1 hs];exact ⟨h2,h3⟩
 ·rcases List.mem_append.1 hs with hs | hs
  ·obtain ⟨j,hj,hq⟩:=hb.far s hs
   exact ⟨j,by omega,hq⟩
  ·rw [List.mem_singleton.1 hs,h1]
   exact ⟨k,h4,hb.here⟩
end Go.Proofs.YtebcjaenhiiflaaGreatDoor.F
namespace Go.Proofs.YtebcjaenhiiflaaGreatDoor.S
open Go Go.ChangeMaps Go.MapKept Go.WideShapes
open Go.WideElems (Fit rd rg pl rd_key rd_val rg_of rd_mk other_key)
open Go.Maps (Keyed)
theorem find_born {es:Array MapEntry} {j c:Nat} {e0:MapEntry} (h:es.toList[j]? =some e0) (hc:e0.born=c) (hu:∀i x,es.toList[i]? =some x->x.born=c->i=j):es.findIdx? (λ e=>((e.born:Int)==(c:Int)))=some j:=by
 rw [Array.findIdx?_eq_some_iff_getElem];obtain ⟨hj,he⟩:=List.getElem?_eq_some_iff.1 h;refine ⟨by simpa using hj,?_,λ i hi=>?_⟩
 ·have:es[j]'(by simpa using hj)=e0:=by simpa using he
  rw [this,hc];simp
 ·have hil:i<es.toList.length:=Nat.lt_trans hi hj
  intro hp;have:=hu i es.toList[i] (List.getElem?_eq_getElem hil) (by have h5:=beq_iff_eq.1 hp;simp;omega);omega
section
variable {H:Type} {P:Program} {k:TypeId} {R:Value->Option (DataW H × List MemPlace)} {w:World} {b n:Nat} {D:DataW H}
theorem zll {t e:TypeId} (h:w.ownsMap P k R b n D) (K:Keyed P k) (ht:P.underlying t=some (.map k e)) (hn:n<maxLen) {z:Value} (hz:(zeroValue e).run P w= .ok z w) {key:Value} {kl:Lit} (hkey:keyOf P k key=some kl):
 ∃v st w1,(Instr.mapEntry t (.map (some b)) key).run P w= .ok (.tuple #[v,.int .i64 st]) w1/\w.grownBy w1 (some b)/\w1.heap.size=w.heap.size/\
  ∀val d ps,R val=some (d,ps)->∃w2,(Instr.entryStore t (.map (some b)) (.int .i64 st) val).run P w1= .ok () w2/\w2.ownsMap P k R b (n+1) (D.put kl d)/\w.grownBy w2 (some b):=by
 have h0:=h;obtain ⟨es,clock,hb,F,hs,rfl⟩:=h;have hst:=(stamped_iff es clock).1 F.stamped;rcases K.find w hkey es.toList F.keys with ⟨h1,h2⟩ | ⟨j,e0,h1,h2,h3⟩
 ·refine ⟨z,clock,setBlock w b (.map (es.push ⟨key,z,clock⟩) (clock+1)),?_,⟨rfl,rfl,rfl,by simp [setBlock],λ i _ hi=>heap_setBlock_other hb _ (λ e=>hi (by rw [e]))⟩,by simp [setBlock],λ val d ps hv=>?_⟩
  ·simp [Instr.mapEntry,run_underlying ht,MapKept.run_getObj_map hb,K.check w false hkey,h1,hz,MapKept.run_setObj_map _ hb,Result.andThen,setBlock,goInt]
  ·obtain ⟨w',hrun,hown,hgr⟩:=h0.update K ht hn hkey hv
   refine ⟨w',?_,hown,hgr⟩;have hrun2:(Instr.mapUpdate t (.map (some b)) key val).run P w= .ok () (setBlock w b (.map (es.push ⟨key,val,clock⟩) (clock+1))):=by
    simp [Instr.mapUpdate,run_underlying ht,MapKept.run_getObj_map hb,K.check w false hkey,h1,MapKept.run_setObj_map _ hb,Result.andThen,setBlock]
   rw [hrun] at hrun2;injection hrun2 with _ hw
   subst hw;have hf:(es.push ⟨key,z,clock⟩).findIdx? (λ e=>((e.born:Int)==(clock:Int)))=some es.size:=by
    refine find_born (e0:=⟨key,z,clock⟩) (by simp) rfl (λ i x hx hxb=>?_);simp only [Array.toList_push] at hx;rcases Nat.lt_or_ge i es.toList.length with hi | hi
    ·rw [List.getElem?_append_left hi] at hx
     have:=F.stamped.1 x (List.mem_of_getElem? hx);omega
    ·have:=(List.getElem?_eq_some_iff.1 hx).1
     simp at this hi;omega
   have hb1:(setBlock w b (.map (es.push ⟨key,z,clock⟩) (clock+1))).heap[b]? =some (.map (es.push ⟨key,z,clock⟩) (clock+1)):=heap_setBlock_same hb _;have hmod:(es.push ⟨key,z,clock⟩).modify es.size (λ e=>{e with val:=val})=es.push ⟨key,val,clock⟩:=by
    apply Array.ext
    ·simp
    ·intro i h1 h2
     simp only [Array.getElem_modify,Array.getElem_push];split <;> split <;> simp_all <;> omega
   simp [Instr.entryStore,MapKept.run_getObj_map hb1,asInt,asIntOf,hf,hmod,MapKept.run_setObj_map _ hb1,Result.andThen];simp [setBlock]
 ·have hj:es[j]? =some e0:=by simpa using h2
  refine ⟨e0.val,e0.born,setBlock w b (.map (es.modify j λ e=>{e with key:=key}) clock),?_,⟨rfl,rfl,rfl,by simp [setBlock],λ i _ hi=>heap_setBlock_other hb _ (λ e=>hi (by rw [e]))⟩,by simp [setBlock],λ val d ps hv=>?_⟩
  ·simp [Instr.mapEntry,run_underlying ht,MapKept.run_getObj_map hb,K.check w false hkey,h1,hj,h3,K.stays w hkey,MapKept.run_setObj_map _ hb,Result.andThen,setBlock,goInt]
  ·obtain ⟨w',hrun,hown,hgr⟩:=h0.update K ht hn hkey hv
   refine ⟨w',?_,hown,hgr⟩;have hrun2:(Instr.mapUpdate t (.map (some b)) key val).run P w= .ok () (setBlock w b (.map (es.modify j λ e=>{e with key:=key,val:=val}) clock)):=by
    simp [Instr.mapUpdate,run_underlying ht,MapKept.run_getObj_map hb,K.check w false hkey,h1,hj,h3,K.stays w hkey,MapKept.run_setObj_map _ hb,Result.andThen,setBlock]
   rw [hrun] at hrun2;injection hrun2 with _ hw
   subst hw;have hjl:j<es.size:=(Array.getElem?_eq_some_iff.1 hj).1;have hje:es[j]=e0:=(Array.getElem?_eq_some_iff.1 hj).2;have hf:(es.modify j λ e=>{e with key:=key}).findIdx? (λ e=>((e.born:Int)==(e0.born:Int)))=some j:=by
    refine find_born (e0:={e0 with key:=key}) ?_ rfl (λ i x hx hxb=>?_)
    ·rw [Array.toList_modify,modify_eq_set _ _ _ _ h2,List.getElem?_set]
     simp [hjl]
    ·rw [Array.toList_modify,modify_eq_set _ _ _ _ h2,List.getElem?_set] at hx
     split at hx
     ·next hij=>exact hij.symm
     ·obtain ⟨hil,hie⟩:=List.getElem?_eq_some_iff.1 hx
      have hxm:=List.mem_of_getElem? hx;have hem:e0∈es.toList:=List.mem_of_getElem? h2;obtain rfl:=born_inj hst.2.1 hxm hem hxb;by_cases hij:i=j
      ·exact hij
      ·exact absurd rfl (other_key F h2 hx hij)
   have hb1:(setBlock w b (.map (es.modify j λ e=>{e with key:=key}) clock)).heap[b]? =some (.map (es.modify j λ e=>{e with key:=key}) clock):=heap_setBlock_same hb _;have hmod:(es.modify j λ e=>{e with key:=key}).modify j (λ e=>{e with val:=val})=es.modify j λ e=>{e with key:=key,val:=val}:=by
    apply Array.ext
    ·simp
    ·intro i h1 h2
     simp only [Array.getElem_modify];split <;> simp_all
   simp [Instr.entryStore,MapKept.run_getObj_map hb1,asInt,asIntOf,hf,hmod,MapKept.run_setObj_map _ hb1,Result.andThen];simp [setBlock]
end
end Go.Proofs.YtebcjaenhiiflaaGreatDoor.S
namespace Go.Proofs.YtebcjaenhiiflaaGreatDoor.S
open Go.RowKit Go.WideMaps Go.Maps F Go.Proofs.Tryz
theorem z6n:laidOutB prog=true:=by kernel_rfl
theorem zy1:346<prog.types.size:=of_decide_eq_true (by kernel_rfl)
theorem z6r:(match prog.underlying 346 with | some (.array _ _) | some (.struct _)=>true | _=>false)=true:=by kernel_rfl
theorem zew:Keyed prog 346:=Keyed.of_law (deep_law_laid z6n (m:=3) (by omega) zy1 (by kernel_rfl) z6r)
theorem yab4:prog.keyType 346=true:=by kernel_rfl
theorem yabe (x y z:Int):(Value.agg #[.int .i64 x,.int .i64 y,.int .i64 z]).formed prog 346=true:=by kernel_rfl
theorem yacc:prog.cellsOf 346=3:=by kernel_rfl
theorem co3':prog.cellsOf 3=1:=by kernel_rfl
theorem yab3:∃m,prog.types.size=m+1:=⟨prog.types.size-1,by have:=zy1;omega⟩
theorem zot {P:Program} {k t m:Nat} {f1 f2 f3:Field} (hu:P.underlying k=some (.struct #[f1,f2,f3])) (h1:f1.type=t) (h2:f2.type=t) (h3:f3.type=t) (o1:f1.offset=0) (o2:f2.offset=1) (o3:f3.offset=2) (n1:(f1.name != "_")=true) (n2:(f2.name != "_")=true) (n3:(f3.name != "_")=true) (ht:P.underlying t=some (.int .i64)) (ck:P.cellsOf k=3) (ct:P.cellsOf t=1) (hs:P.types.size=m+1) (hkt:P.keyType k=true)
 {x y z:Int} (hf:(Value.agg #[.int .i64 x,.int .i64 y,.int .i64 z]).formed P k=true) (hx:(Lit.int .i64 x).wf=true) (hy:(Lit.int .i64 y).wf=true) (hz:(Lit.int .i64 z).wf=true):keyOf P k (.agg #[.int .i64 x,.int .i64 y,.int .i64 z])=some (.string (keyBytes [.int .i64 x,.int .i64 y,.int .i64 z])):=by
 unfold keyOf;rw [hu];simp only [hkt,hf,Bool.and_self,if_true,hs];have e1:∀x:Int,(Lit.int .i64 x).wf=true->P.keyLits (m+1) t [.int .i64 x]=some [.int .i64 x]:=λ x hx=>by simp [Program.keyLits,ht,hx]
 have:P.keyLits (m+1+1) k (Value.agg #[.int .i64 x,.int .i64 y,.int .i64 z]).cells.toList=some [.int .i64 x,.int .i64 y,.int .i64 z]:=by
  unfold Program.keyLits;rw [hu];simp [Value.cells,ck,n1,n2,n3,h1,h2,h3,o1,o2,o3,ct,e1 x hx,e1 y hy,e1 z hz]
 rw [this];rfl
def vS (s:Stp):Value:=.agg #[.int .i64 s.1,.int .i64 s.2.1,.int .i64 s.2.2]
def sk (s:Stp):Lit:=.string (keyBytes [.int .i64 s.1,.int .i64 s.2.1,.int .i64 s.2.2])
def wfS (s:Stp):Prop:=(Lit.int .i64 s.1).wf=true/\(Lit.int .i64 s.2.1).wf=true/\(Lit.int .i64 s.2.2).wf=true
theorem wfS.bk {s:Stp} (h:wfS s):wfS (bk s):=⟨h.1,h.2.2,h.2.1⟩
theorem zdw {s:Stp} (h:wfS s):keyOf prog 346 (vS s)=some (sk s):=by
 obtain ⟨m,hm⟩:=yab3;exact zot underlying346 rfl rfl rfl rfl rfl rfl rfl rfl rfl underlying3 yacc co3' hm yab4 (yabe _ _ _) h.1 h.2.1 h.2.2
theorem zle {s t:Stp} (hs:wfS s) (ht:wfS t) (h:sk s=sk t):s=t:=by
 have h1:=zew.inj (zdw hs) (h▸zdw ht);unfold vS at h1;simp at h1;exact Prod.ext h1.1 (Prod.ext h1.2.1 h1.2.2)
theorem zg9 (s:Stp):WideAt.IsKeyLit (sk s):=trivial
structure Room (M:DataW Unit) (D:List Stp) (r:Stp->Int):Prop where
 key:∀kl,Maps.has M kl=true↔∃s,s∈D/\0<r s/\kl=sk s
 val:∀s,s∈D->0<r s->∀zd,M.atKey (sk s) zd= .lit (.int .i64 (r s))
 tidy:Tidy M
 wf:∀s,s∈D->wfS s
 pos:∀s,0<=r s
 small:∀s,r s<=1000000
section
variable {M:DataW Unit} {D:List Stp} {r:Stp->Int}
theorem Room.has (h:Room M D r) {s:Stp} (hs:s∈D):Maps.has M (sk s)=decide (0<r s):=by
 rw [Bool.eq_iff_iff,h.key,decide_eq_true_iff];constructor
 ·rintro ⟨t,ht,h1,h2⟩
  rw [zle (h.wf s hs) (h.wf t ht) h2];exact h1
 ·intro h1;exact ⟨s,hs,h1,rfl⟩
theorem Room.at_ (h:Room M D r) {s:Stp} (hs:s∈D):M.atKey (sk s) (.lit (.int .i64 0))= .lit (.int .i64 (r s)):=by
 by_cases h1:0<r s
 ·exact h.val s hs h1 _
 ·have h2:Maps.has M (sk s)=false:=by rw [h.has hs];exact decide_eq_false h1
  rw [atKey_of_not_has h2];have:=h.pos s;have h3:r s=0:=by omega
  rw [h3]
theorem Room.look (h:Room M D r) {s:Stp} (hs:s∈D) {w:World} {rm N:Nat} (hm:w.ownsMap prog 346 (plainElem prog 3) rm N M):
 (Instr.lookup 377 (.map (some rm)) (vS s) true).run prog w= .ok (.tuple #[.int .i64 (r s),.bool (decide (0<r s))]) w/\(Instr.lookup 377 (.map (some rm)) (vS s) false).run prog w= .ok (.int .i64 (r s)) w:=by
 have hw0:(Lit.int .i64 0).wf=true:=by decide
 obtain ⟨v,ps,h1,h2⟩:=hm.look_ok zew underlying377 (zdy w) (plainElem_int underlying3 hw0) (zdw (h.wf s hs));rw [h.at_ hs] at h2;obtain ⟨c,rfl,hc,_⟩:=plainElem_int_inv underlying3 h2;obtain ⟨c',h3,h4,_⟩:=hm.lookup_int zew underlying377 underlying3 (zdy w) (zdw (h.wf s hs));rw [h.at_ hs] at h4;simp at hc h4;rw [h1,h3,h.has hs,<-hc.1,<-h4];exact ⟨rfl,rfl⟩
theorem Room.put (h:Room M D r) {s:Stp} (hs:s∈D) {c:Int} (h0:0<c) (hc:c<=1000000):Room (M.put (sk s) (.lit (.int .i64 c))) D (λ x=>if x=s then c else r x):=by
 refine ⟨λ kl=>?_,λ t ht hp zd=>?_,h.tidy.put (zg9 _) _,h.wf,λ t=>?_,λ t=>?_⟩
 ·by_cases hk:kl=sk s
  ·rw [hk,has_put_same h.tidy.isMap (zg9 _)]
   exact ⟨λ _=>⟨s,hs,by rw [if_pos rfl];exact h0,rfl⟩,λ _=>rfl⟩
  ·rw [has_put_other hk,h.key]
   constructor
   ·rintro ⟨t,ht,h1,h2⟩
    have:t≠s:=λ e=>hk (by rw [h2,e])
    exact ⟨t,ht,by rw [if_neg this];exact h1,h2⟩
   ·rintro ⟨t,ht,h1,h2⟩
    have:t≠s:=λ e=>hk (by rw [h2,e])
    rw [if_neg this] at h1;exact ⟨t,ht,h1,h2⟩
 ·by_cases e:t=s
  ·rw [e,if_pos rfl,atKey_put_same h.tidy.isMap (zg9 _)]
  ·rw [if_neg e] at hp ⊢
   rw [atKey_put_other (λ k=>e (zle (h.wf t ht) (h.wf s hs) k))];exact h.val t ht hp zd
 ·show 0<=(if t=s then c else r t)
  split
  ·omega
  ·exact h.pos t
 ·show (if t=s then c else r t)<=1000000
  split
  ·exact hc
  ·exact h.small t
theorem Room.del (h:Room M D r) {s:Stp} (hs:s∈D) (d:DataW Unit):Room ((M.put (sk s) d).del (sk s)) D (λ x=>if x=s then 0 else r x):=by
 refine ⟨λ kl=>?_,λ t ht hp zd=>?_,(h.tidy.put (zg9 _) _).del _,h.wf,λ t=>?_,λ t=>?_⟩
 ·by_cases hk:kl=sk s
  ·rw [hk,has_del_same]
   refine ⟨λ k=>by simp at k,?_⟩;rintro ⟨t,ht,h1,h2⟩;rw [if_pos (zle (h.wf s hs) (h.wf t ht) h2).symm] at h1;omega
  ·rw [has_del_other hk,has_put_other hk,h.key]
   constructor
   ·rintro ⟨t,ht,h1,h2⟩
    have:t≠s:=λ e=>hk (by rw [h2,e])
    exact ⟨t,ht,by rw [if_neg this];exact h1,h2⟩
   ·rintro ⟨t,ht,h1,h2⟩
    have:t≠s:=λ e=>hk (by rw [h2,e])
    rw [if_neg this] at h1;exact ⟨t,ht,h1,h2⟩
 ·by_cases e:t=s
  ·rw [if_pos e] at hp;omega
  ·rw [if_neg e] at hp ⊢
   have hne:sk t≠sk s:=λ k=>e (zle (h.wf t ht) (h.wf s hs) k)
   rw [atKey_del_other hne,atKey_put_other hne];exact h.val t ht hp zd
 ·show 0<=(if t=s then 0 else r t)
  split
  ·omega
  ·exact h.pos t
 ·show (if t=s then 0 else r t)<=1000000
  split
  ·omega
  ·exact h.small t
end
theorem zkt (s:Stp) (w:World):Calls prog 349 #[vS s] w λ e w'=>e= .returned (vS (bk s))/\Below w.heap.size w w':=by
 obtain ⟨x,y,z⟩:=s;unfold vS bk;go_enter func349,ntmps349;go_wp2_with fail;refine bodyPost_ret (v:=.agg #[.int .i64 x,.int .i64 z,.int .i64 y]) (by simp [results,Tryz.results349,go_sem]) rfl ⟨rfl,?_⟩;exact ((Below.refl _ _).alloc (Nat.le_refl _) _).alloc (by simp) _
structure zci (w:World) (p lm rm N:Nat) (M:DataW Unit) (D:List Stp) (r:Stp->Int):Prop where
 hp:w.heap[p]? =some (.cells #[.map (some lm),.map (some rm)] 379)
 mp:w.ownsMap prog 346 (plainElem prog 3) rm N M
 rom:Room M D r
theorem zci.below {w w':World} {p lm rm N:Nat} {M:DataW Unit} {D:List Stp} {r:Stp->Int} (h:zci w p lm rm N M D r) (hb:Below w.heap.size w w'):zci w' p lm rm N M D r:=
 ⟨(hb.block p (lt_of_some h.hp)).trans h.hp,h.mp.kept (zai hb) (by simp),h.rom⟩
theorem zci.ne {w:World} {p lm rm N:Nat} {M:DataW Unit} {D:List Stp} {r:Stp->Int} (h:zci w p lm rm N M D r):p≠rm:=λ e=>by
 obtain ⟨es,clock,hb,_⟩:=h.mp;rw [<-e,h.hp] at hb;simp at hb
theorem z3m (p lm rm N:Nat) (M:DataW Unit) (D:List Stp) (r:Stp->Int) (s:Stp) (w:World) (h:zci w p lm rm N M D r) (hs:s∈D):
 Calls prog 316 #[.pointer (some ⟨p,0,none⟩),vS s] w λ e w'=>e= .returned (.bool (decide (0<r s)))/\Below w.heap.size w w':=by
 have hbA:Below w.heap.size w (w.alloc (.cells #[.int .i64 s.1,.int .i64 s.2.1,.int .i64 s.2.2] 346)):=(Below.refl _ _).alloc (Nat.le_refl _) _;have hA:=h.below hbA;have lk:=λ n=>((hA.below (below_drewN (Below.refl _ _) n)).rom.look hs (hA.below (below_drewN (Below.refl _ _) n)).mp).1
 have c1:(w.alloc (.cells #[.int .i64 s.1,.int .i64 s.2.1,.int .i64 s.2.2] 346)).cell? ⟨p,1,none⟩=some (.map (some rm)):=by simp [World.cell?,hA.hp]
 have HB:=kd hbA;obtain ⟨b,hb⟩:∃b,decide (0<r s)=b:=⟨_,rfl⟩;obtain ⟨k,hk⟩:∃k,r s=k:=⟨_,rfl⟩;rw [hb,hk] at lk;rw [hb];unfold vS at lk ⊢;obtain ⟨x,y,z⟩:=s;simp only at lk c1 HB ⊢;clear h hbA hA hb hk hs;go_enter func316,ntmps316;go_wp2_with fail;go_quiet (fail);go_wp2_with fail;go_ret;exact ⟨rfl,below_drewN HB.out nq⟩
end Go.Proofs.YtebcjaenhiiflaaGreatDoor.S
