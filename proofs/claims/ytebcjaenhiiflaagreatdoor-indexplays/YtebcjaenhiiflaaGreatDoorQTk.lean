import Derived.Test.YtebcjaenhiiflaaGreatDoorQTi
import Derived.Test.YtebcjaenhiiflaaGreatDoorQQbQe
namespace Go.Proofs.YtebcjaenhiiflaaGreatDoor.S
open Go.RowKit Go.WideMaps Go.Maps
section
variable {n:Nat} {L R t o:List Edg}
theorem z4m (t:List Edg) (d:Edg):(·∈zdu t d)=but (·∈t) d:=by
 funext e;apply propext;simp [zdu,but]
theorem z7x {A B:Edg->Prop} (h:A=B) (u v:Nat):cn ea eb A u v↔cn ea eb B u v:=by rw [h]
theorem zbq {A:List Edg} {B:Edg->Prop} (h:(·∈A)=B) (u v:Nat):cnR A u v↔cn ea eb B u v:=z7x h u v
theorem ze3 (hg:Gr n L t o) (hin:InE n L) {e d:Edg} {k:Nat} (hk:o[k]? =some d):zm2 n t o e k=true↔cov ea eb (·∈t) e d:=by
 have hd:d∈L:=(hg.mem d).2 (.inr (List.mem_of_getElem? hk));have hgd:o.getD k (0,0,0)=d:=by rw [List.getD_eq_getElem?_getD,hk];rfl
 have hit:InE n t:=hin.sub (λ x hx=>(hg.mem x).2 (.inl hx));unfold zm2 cov;by_cases he:e∈t
 ·rw [if_pos he]
  unfold zcl;rw [hgd,decide_eq_true_iff,Ne,zb6 (zmc hit e).nodes (hin d hd).1 (hin d hd).2.1,zbq (z4m t e)];simp [he]
 ·rw [if_neg he,decide_eq_true_iff,hgd]
  simp [he,eq_comm]
theorem ztt (hg:Gr n L t o) (hin:InE n L) (e d:Edg):zay n t o e=zay n t o d↔zfh ea eb (·∈t) (·∈o) e d:=by
 unfold zay;constructor
 ·intro h x hx
  obtain ⟨k,hk⟩:=List.getElem?_of_mem hx;have hl:=(List.getElem?_eq_some_iff.1 hk).1;have:=zjf h k hl;rw [<-ze3 hg hin hk,<-ze3 hg hin hk,this]
 ·intro h
  refine zff (λ i hi=>?_);have hk:o[i]? =some o[i]:=List.getElem?_eq_getElem hi;rw [Bool.eq_iff_iff,ze3 hg hin hk,ze3 hg hin hk];exact h _ (List.mem_of_getElem? hk)
theorem zhz:∀m,zaz (λ _=>false) m=0
 | 0=>rfl
 | m+1=>by simp [zaz,zhz m]
theorem zx9 (hg:Gr n L t o) (hin:InE n L) (e:Edg):zay n t o e=0↔∀x,x∈o->¬cov ea eb (·∈t) e x:=by
 unfold zay;constructor
 ·intro h x hx
  obtain ⟨k,hk⟩:=List.getElem?_of_mem hx;have hl:=(List.getElem?_eq_some_iff.1 hk).1;have:=zjf (d:=λ _=>false) (h.trans (zhz _).symm) k hl;rw [<-ze3 hg hin hk,this];simp
 ·intro h
  rw [<-zhz o.length];refine zff (λ i hi=>?_);have hk:o[i]? =some o[i]:=List.getElem?_eq_getElem hi;have:=h _ (List.mem_of_getElem? hk);rw [<-ze3 hg hin hk] at this
  simpa using this
theorem zg8 (hg:Gr n L t o):un (·∈t) (·∈o)=(·∈L):=by
 funext e;apply propext;exact (hg.mem e).symm
theorem zuo (hg:Gr n L t o) (hin:InE n L) {e:Edg} (he:e∈L):zay n t o e=0↔br ea eb (·∈L) e:=by
 rw [zx9 hg hin,<-zg8 hg,hg.forest.bridge ((hg.mem e).1 he)]
theorem z9b (hone:∀d∈L,∀e∈L,d.1=e.1->d=e) (hp:∀e,e∈R↔e∈L) {e:Edg} (he:e∈L):br ea eb (·∈L) e↔¬cnR (rest R e) (ea e) (eb e):=by
 have hRL:(·∈R)=(·∈L):=by funext x;exact propext (hp x)
 rw [zbq (zea (λ a ha b hb=>hone a ((hp a).1 ha) b ((hp b).1 hb)) ((hp e).2 he)),hRL];exact ⟨λ h=>h.2,λ h=>⟨he,h⟩⟩
theorem zlz {A B:List Edg} (hA:zbj n A) (hB:zbj n B) (hsub:∀x∈B,x∈A):nP n A<=nP n B/\(nP n A=nP n B↔∀u v,u<n->v<n->cnR A u v->cnR B u v):=by
 have h:=zsw (zcd hA) (zcd hB) (λ u v hu hv k=>(zb6 hA hu hv).2 (za4 ((zb6 hB hu hv).1 k) hsub));refine ⟨h.1,?_⟩;unfold nP;rw [h.2];constructor
 ·intro k u v hu hv hc
  rw [<-zb6 hB hu hv,k,zb6 hA hu hv];exact hc
 ·intro k
  exact zik (zcd hB) (zcd hA) (λ u v hu hv=>by
   rw [zb6 hB hu hv,zb6 hA hu hv];exact ⟨λ c=>za4 c hsub,k u v hu hv⟩)
theorem zlk {n:Nat} (h:zbj n R) (e:Edg):zbj n (rest R e):=λ d hd=>h d (List.mem_filter.1 hd).1
theorem zsg {n:Nat} (h:zbj n R) (e f:Edg):zbj n (za7 R e f):=λ d hd=>h d (List.mem_filter.1 hd).1
theorem zgq (hone:∀d∈R,∀e∈R,d.1=e.1->d=e) {e f:Edg} (he:e∈R) (hf:f∈R):(·∈za7 R e f)=but (but (·∈R) e) f:=by
 funext d;apply propext
 simp only [za7,List.mem_filter,Bool.and_eq_true,decide_eq_true_eq,but];constructor
 ·rintro ⟨h,k1,k2⟩;exact ⟨⟨h,λ c=>k1 (by rw [c])⟩,λ c=>k2 (by rw [c])⟩
 ·rintro ⟨⟨h,k1⟩,k2⟩;exact ⟨h,λ c=>k1 (hone d h e he c),λ c=>k2 (hone d h f hf c)⟩
theorem zkj (hin:zbj n R) (hone:∀d∈R,∀e∈R,d.1=e.1->d=e) {e:Edg} (he:e∈R):nP n (rest R e)=nP n R↔¬br ea eb (·∈R) e:=by
 rw [eq_comm,(zlz hin (zlk hin e) (λ x hx=>(List.mem_filter.1 hx).1)).2];have hm:=zea hone he;constructor
 ·intro k hb
  have:=k _ _ (hin e he).1 (hin e he).2 (zaj he);rw [zbq hm] at this;exact hb.2 this
 ·intro hb u v _ _ hc
  rw [zbq hm];exact ze7 (zld hb) hc
theorem yaae (hin:zbj n R) (hone:∀d∈R,∀e∈R,d.1=e.1->d=e) {e d:Edg} (he:e∈R) (hd:d∈R) (hne:e≠d):dq n R e d=true↔¬br ea eb (·∈R) e/\¬br ea eb (·∈R) d/\br ea eb (but (·∈R) e) d:=by
 unfold dq;rw [Bool.and_eq_true,Bool.and_eq_true,decide_eq_true_iff,decide_eq_true_iff,decide_eq_true_iff,zkj hin hone he,zkj hin hone hd,and_assoc];refine and_congr_right (λ he'=>and_congr_right (λ hd'=>?_));have h1:nP n (rest R e)=nP n R:=(zkj hin hone he).2 he';have hsub:∀x∈za7 R e d,x∈rest R e:=λ x hx=>by
  have hx':but (but (·∈R) e) d x:=by
   have:=zgq hone he hd;exact (congrFun this x)▸hx
  have h2:=zea hone he;exact (congrFun h2 x)▸hx'.1
 have h2:=zlz (zlk hin e) (zsg hin e d) hsub;rw [<-h1];have h3:nP n (rest R e)<nP n (za7 R e d)↔¬(nP n (rest R e)=nP n (za7 R e d)):=by have:=h2.1;omega
 rw [h3,h2.2];have m1:=zea hone he;have m2:=zgq hone he hd;constructor
 ·intro k
  refine ⟨⟨hd,λ c=>hne c.symm⟩,λ hc=>k (λ u v _ _ h4=>?_)⟩;rw [zbq m1] at h4;rw [zbq m2];exact ze7 (λ _=>hc) h4
 ·intro hb k
  have:=k _ _ (hin d hd).1 (hin d hd).2 ((zbq m1 _ _).2 (zaj ⟨hd,λ c=>hne c.symm⟩));rw [zbq m2] at this;exact hb.2 this
theorem zh8 {q q':Edg->Edg->Bool}:∀{R:List Edg},R.Nodup->(∀e∈R,∀d∈R,e≠d->q e d=q' e d)->zam R q=zam R q'
 | [],_,_=>rfl
 | e::R,hnd,h=>by
   rw [List.nodup_cons] at hnd;simp only [zam];rw [zh8 hnd.2 (λ a ha b hb=>h a (by simp [ha]) b (by simp [hb]))]
   congr 2
   apply List.filter_congr;intro d hd;exact h e (by simp) d (by simp [hd]) (λ c=>hnd.1 (c▸hd))
theorem z4h (hg:Gr n L t o) (hok:Ok n L) (hp:∀e,e∈R↔e∈L):zam (L.filter λ e=>decide (zay n t o e≠0)) (λ e d=>decide (zay n t o e=zay n t o d))=zam L (dq n R):=by
 rw [zhg];refine zh8 hok.nd (λ e he d hd hne=>?_);have hRL:(·∈R)=(·∈L):=by funext x;exact propext (hp x)
 have hinR:zbj n R:=λ e he=>hok.inn.nodes e ((hp e).1 he)
 rw [Bool.eq_iff_iff,yaae hinR (λ a ha b hb=>hok.one a ((hp a).1 ha) b ((hp b).1 hb)) ((hp e).2 he) ((hp d).2 hd) hne,hRL];rw [Bool.and_eq_true,Bool.and_eq_true,decide_eq_true_iff,decide_eq_true_iff,decide_eq_true_iff,Ne,Ne,zuo hg hok.inn he,zuo hg hok.inn hd,ztt hg hok.inn,and_assoc];refine and_congr_right (λ he'=>and_congr_right (λ hd'=>?_));have:=hg.forest.pair ((hg.mem e).1 he) ((hg.mem d).1 hd) hne (by rw [zg8 hg];exact he') (by rw [zg8 hg];exact hd');rw [zg8 hg] at this;exact this.symm
theorem zmo (q:Nat->Nat->Bool):∀{m x y:Nat},x<m->y<x->q x y=true->((0:Int),(x:Int),(y:Int))∈tri q m
 | 0,x,y,h,_,_=>by omega
 | m+1,x,y,h,hy,hq=>by
   rw [tri,List.mem_append];by_cases e:x=m
   ·right
    rw [<-e];exact List.mem_map.2 ⟨y,List.mem_filter.2 ⟨List.mem_range.2 hy,hq⟩,rfl⟩
   ·exact .inl (zmo q (by omega) hy hq)
theorem ztl (q:Nat->Nat->Bool):∀{m:Nat} {e:Edg},e∈tri q m->q (ea e) (eb e)=true
 | 0,e,h=>by simp [tri] at h
 | m+1,e,h=>by
   rw [tri,List.mem_append] at h;rcases h with h | h
   ·exact ztl q h
   ·obtain ⟨z,hz,rfl⟩:=List.mem_map.1 h
    have:=(List.mem_filter.1 hz).2
    simpa [ea,eb] using this
theorem zmt (Ls:List (List Nat)) (x y:Nat):alB Ls x y=true↔∀l∈Ls,l.getD x 0=l.getD y 0:=by simp [alB]
theorem z8v (S:List Edg) (f:Edg->Nat) {x y:Nat} (hx:x<n) (hy:y<n):(zfl n L S f).getD x 0=(zfl n L S f).getD y 0↔∀l∈rests n L S f,l.getD x 0=l.getD y 0:=by
 unfold zfl;rw [zb6 (zlp _ n n (Nat.le_refl _)) hx hy];constructor
 ·intro h
  refine zae.least (P:=λ x y=>∀l∈rests n L S f,l.getD x 0=l.getD y 0) h (λ x l _=>rfl) (λ x y k l hl=>(k l hl).symm) (λ x y z k1 k2 l hl=>(k1 l hl).trans (k2 l hl)) ?_;rintro x y ⟨e,he,rfl,rfl⟩;exact (zmt _ _ _).1 (ztl _ he)
 ·intro h
  rcases Nat.lt_trichotomy x y with hlt | rfl | hlt
  ·have:=zaj (a:=ea) (b:=eb) (T:=(·∈tri (alB (rests n L S f)) n)) (zmo (alB (rests n L S f)) hy hlt ((zmt _ _ _).2 λ l hl=>(h l hl).symm))
   exact zac (by simpa [ea,eb] using this)
  ·exact zaw _
  ·have:=zaj (a:=ea) (b:=eb) (T:=(·∈tri (alB (rests n L S f)) n)) (zmo (alB (rests n L S f)) hx hlt ((zmt _ _ _).2 h))
   simpa [ea,eb] using this
theorem zxb (hg:Gr n L t o) (hok:Ok n L) (hp:∀e,e∈R↔e∈L) {x y:Nat} (hx:x<n) (hy:y<n):
 (zfl n L (o++t) (zay n t o)).getD x 0=(zfl n L (o++t) (zay n t o)).getD y 0↔(cnR R x y/\∀e∈R,∀f∈R,cnR (za7 R e f) x y):=by
 have hRL:(·∈R)=(·∈L):=by funext x;exact propext (hp x)
 have hone:∀d∈R,∀e∈R,d.1=e.1->d=e:=λ a ha b hb=>hok.one a ((hp a).1 ha) b ((hp b).1 hb)
 have hfil:∀d,zbj n (L.filter λ e=>decide (zay n t o e≠zay n t o d)):=λ d e he=>hok.inn.nodes e (List.mem_filter.1 he).1
 have hmf:∀d,(·∈L.filter λ e=>decide (zay n t o e≠zay n t o d))=λ e=>un (·∈t) (·∈o) e/\¬zfh ea eb (·∈t) (·∈o) d e:=λ d=>by
  funext e;apply propext
  rw [zg8 hg,List.mem_filter,decide_eq_true_iff,Ne,<-ztt hg hok.inn,eq_comm]
 rw [z8v _ _ hx hy,zbq hRL];have h1:(∀l∈rests n L (o++t) (zay n t o),l.getD x 0=l.getD y 0)↔(cnR L x y/\∀e,un (·∈t) (·∈o) e->cn ea eb (λ d=>un (·∈t) (·∈o) d/\¬zfh ea eb (·∈t) (·∈o) e d) x y):=by
  unfold rests;constructor
  ·intro h
   refine ⟨(zb6 hok.inn.nodes hx hy).1 (h _ (by simp)),λ e he=>?_⟩;have he':e∈o++t:=List.mem_append.2 he.symm;have:=(zb6 (hfil e) hx hy).1 (h _ (List.mem_cons_of_mem _ (List.mem_map.2 ⟨e,he',rfl⟩)));rw [zbq (hmf e)] at this;exact this
  ·rintro ⟨h2,h3⟩ l hl
   rcases List.mem_cons.1 hl with rfl | hl
   ·exact (zb6 hok.inn.nodes hx hy).2 h2
   ·obtain ⟨e,he,rfl⟩:=List.mem_map.1 hl
    rw [zb6 (hfil e) hx hy,zbq (hmf e)];exact h3 e (List.mem_append.1 he).symm
 rw [h1,hg.forest.thrice L hg.mem,zg8 hg];refine and_congr_right (λ _=>?_);constructor
 ·intro h e he f hf
  rw [zbq (zgq hone he hf),hRL];exact h e f ((hp e).1 he) ((hp f).1 hf)
 ·intro h e f he hf
  have:=h e ((hp e).2 he) f ((hp f).2 hf);rw [zbq (zgq hone ((hp e).2 he) ((hp f).2 hf)),hRL] at this;exact this
end
end Go.Proofs.YtebcjaenhiiflaaGreatDoor.S
