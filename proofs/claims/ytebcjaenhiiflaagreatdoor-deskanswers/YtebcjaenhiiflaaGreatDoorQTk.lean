import Derived.Test.YtebcjaenhiiflaaGreatDoorQTiCce
import Derived.Test.YtebcjaenhiiflaaGreatDoorQQbQe
namespace Go.Proofs.Y.S
open Go.RowKit Go.WideMaps Go.Maps
section
variable {n:Nat} {L R t o:List Edg}
theorem zm3 (t:List Edg)(d:Edg):(·∈Gn t d)=but (·∈t) d:=by
 funext e;apply propext;simp[Gn,but]
theorem zqf {A B:Edg->Prop}(h:A=B)(u v:Nat):cn ea eb A u v↔cn ea eb B u v:=by rw[h]
theorem Di {A:List Edg}{B:Edg->Prop}(h:(·∈A)=B)(u v:Nat):cnR A u v↔cn ea eb B u v:=zqf h u v
theorem J3 (hg:Gr n L t o)(p9:InE n L){e d:Edg}{k:Nat}(hk:o[k]? =some d):Xm n t o e k=true↔cov ea eb (·∈t) e d:=by
 have hd:d∈L:=(hg.mem d).2 (.inr (aG hk));have JH:o.getD k (0,0,0)=d:=by rw[bH,hk];rfl
 have hit:InE n t:=p9.sub (λ x hx=>(hg.mem x).2 (.inl hx));unfold Xm cov;by_cases he:e∈t
 ·rw[aP he]
  unfold Eh;rw[JH,dQ,Ne,Eg (V9 hit e).nodes (p9 d hd).1 (p9 d hd).2.1,Di (zm3 t e)];simp[he]
 ·rw[aL he,dQ,JH]
  simp[he,eq_comm]
theorem zcq (hg:Gr n L t o)(p9:InE n L)(e d:Edg):Be n t o e=Be n t o d↔Ko ea eb (·∈t) (·∈o) e d:=by
 unfold Be;constructor
 ·intro h x hx
  obtain⟨k,hk⟩:=bY hx;have hl:=(aC.1 hk).1;have:=Qt h k hl;rw[<-J3 hg p9 hk,<-J3 hg p9 hk,this]
 ·intro h
  refine Ke (λ i hi=>?_);have hk:o[i]? =some o[i]:=aB hi;rw[dV,J3 hg p9 hk,J3 hg p9 hk];exact h _ (aG hk)
theorem Pk:∀m,A8 (λ _=>false) m=0
 |0=>rfl
 |m+1=>by simp[A8,Pk m]
theorem zh3 (hg:Gr n L t o)(p9:InE n L)(e:Edg):Be n t o e=0↔∀x,x∈o->¬cov ea eb (·∈t) e x:=by
 unfold Be;constructor
 ·intro h x hx
  obtain⟨k,hk⟩:=bY hx;have hl:=(aC.1 hk).1;have:=Qt (d:=λ _=>false) (h.trans (Pk _).symm) k hl;rw[<-J3 hg p9 hk,this];simp
 ·intro h
  rw[<-Pk o.length];refine Ke (λ i hi=>?_);have hk:o[i]? =some o[i]:=aB hi;have:=h _ (aG hk);rw[<-J3 hg p9 hk] at this
  simpa using this
theorem Od (hg:Gr n L t o):un (·∈t) (·∈o)=(·∈L):=by
 funext e;apply propext;exact(hg.mem e).symm
theorem zcf (hg:Gr n L t o)(p9:InE n L){e:Edg}(he:e∈L):Be n t o e=0↔br ea eb (·∈L) e:=by
 rw[zh3 hg p9,<-Od hg,hg.forest.bridge ((hg.mem e).1 he)]
theorem zqc (AB:∀d∈L,∀e∈L,d.1=e.1->d=e)(hp:∀e,e∈R↔e∈L){e:Edg}(he:e∈L):br ea eb (·∈L) e↔¬cnR (rest R e) (ea e) (eb e):=by
 have TU:(·∈R)=(·∈L):=by funext x;exact propext (hp x)
 rw[Di (Im (λ a ha b hb=>AB a ((hp a).1 ha) b ((hp b).1 hb)) ((hp e).2 he)),TU];exact⟨λ h=>h.2,λ h=>⟨he,h⟩⟩
theorem Ua {A B:List Edg}(hA:C8 n A)(hB:C8 n B)(PL:∀x∈B,x∈A):nP n A<=nP n B/\(nP n A=nP n B↔∀u v,u<n->v<n->cnR A u v->cnR B u v):=by
 have h:=za5 (Er hA) (Er hB) (λ u v hu hv k=>(Eg hA hu hv).2 (Bi ((Eg hB hu hv).1 k) PL));refine⟨h.1,?_⟩;unfold nP;rw[h.2];constructor
 ·intro k u v hu hv hc
  rw[<-Eg hB hu hv,k,Eg hA hu hv];exact hc
 ·intro k
  exact Q9 (Er hB) (Er hA) (λ u v hu hv=>by
   rw[Eg hB hu hv,Eg hA hu hv];exact⟨λ c=>Bi c PL,k u v hu hv⟩)
theorem U7 {n:Nat}(h:C8 n R)(e:Edg):C8 n (rest R e):=λ d hd=>h d (aO.1 hd).1
theorem zaz {n:Nat}(h:C8 n R)(e f:Edg):C8 n (Br R e f):=λ d hd=>h d (aO.1 hd).1
theorem Mw (AB:∀d∈R,∀e∈R,d.1=e.1->d=e){e f:Edg}(he:e∈R)(hf:f∈R):(·∈Br R e f)=but (but (·∈R) e) f:=by
 funext d;apply propext
 simp only[Br,aO,cZ,dO,but];constructor
 ·rintro⟨h,k1,k2⟩;exact⟨⟨h,λ c=>k1 (by rw[c])⟩,λ c=>k2 (by rw[c])⟩
 ·rintro⟨⟨h,k1⟩,k2⟩;exact⟨h,λ c=>k1 (AB d h e he c),λ c=>k2 (AB d h f hf c)⟩
theorem Sq (p9:C8 n R)(AB:∀d∈R,∀e∈R,d.1=e.1->d=e){e:Edg}(he:e∈R):nP n (rest R e)=nP n R↔¬br ea eb (·∈R) e:=by
 rw[eq_comm,(Ua p9 (U7 p9 e) (λ x hx=>(aO.1 hx).1)).2];have hm:=Im AB he;constructor
 ·intro k hb
  have:=k _ _ (p9 e he).1 (p9 e he).2 (Ao he);rw[Di hm] at this;exact hb.2 this
 ·intro hb u v _ _ hc
  rw[Di hm];exact Jy (Uk hb) hc
theorem zsz (p9:C8 n R)(AB:∀d∈R,∀e∈R,d.1=e.1->d=e){e d:Edg}(he:e∈R)(hd:d∈R)(l9:e≠d):dq n R e d=true↔¬br ea eb (·∈R) e/\¬br ea eb (·∈R) d/\br ea eb (but (·∈R) e) d:=by
 unfold dq;rw[cZ,cZ,dQ,dQ,dQ,Sq p9 AB he,Sq p9 AB hd,and_assoc];refine iG (λ he'=>iG (λ hd'=>?_));have h1:nP n (rest R e)=nP n R:=(Sq p9 AB he).2 he';have PL:∀x∈Br R e d,x∈rest R e:=λ x hx=>by
  have hx':but (but (·∈R) e) d x:=by
   have:=Mw AB he hd;exact(congrFun this x)▸hx
  have h2:=Im AB he;exact(congrFun h2 x)▸hx'.1
 have h2:=Ua (U7 p9 e) (zaz p9 e d) PL;rw[<-h1];have h3:nP n (rest R e)<nP n (Br R e d)↔¬(nP n (rest R e)=nP n (Br R e d)):=by have:=h2.1;omega
 rw[h3,h2.2];have m1:=Im AB he;have m2:=Mw AB he hd;constructor
 ·intro k
  refine⟨⟨hd,λ c=>l9 c.symm⟩,λ hc=>k (λ u v _ _ h4=>?_)⟩;rw[Di m1] at h4;rw[Di m2];exact Jy (λ _=>hc) h4
 ·intro hb k
  have:=k _ _ (p9 d hd).1 (p9 d hd).2 ((Di m1 _ _).2 (Ao ⟨hd,λ c=>l9 c.symm⟩));rw[Di m2] at this;exact hb.2 this
theorem Pv {q q':Edg->Edg->Bool}:∀{R:List Edg},R.Nodup->(∀e∈R,∀d∈R,e≠d->q e d=q' e d)->Ak R q=Ak R q'
 |[],_,_=>rfl
 |e::R,FM,h=>by
  rw[gK] at FM;simp only[Ak];rw[Pv FM.2 (λ a ha b hb=>h a (by simp[ha]) b (by simp[hb]))]
  congr 2
  apply dP;intro d hd;exact h e (by simp) d (by simp[hd]) (λ c=>FM.1 (c▸hd))
theorem znv (hg:Gr n L t o)(p8:Ok n L)(hp:∀e,e∈R↔e∈L):Ak (L.filter λ e=>decide (Be n t o e≠0)) (λ e d=>decide (Be n t o e=Be n t o d))=Ak L (dq n R):=by
 rw[Nz];refine Pv p8.nd (λ e he d hd l9=>?_);have TU:(·∈R)=(·∈L):=by funext x;exact propext (hp x)
 have YS:C8 n R:=λ e he=>p8.inn.nodes e ((hp e).1 he)
 rw[dV,zsz YS (λ a ha b hb=>p8.one a ((hp a).1 ha) b ((hp b).1 hb)) ((hp e).2 he) ((hp d).2 hd) l9,TU];rw[cZ,cZ,dQ,dQ,dQ,Ne,Ne,zcf hg p8.inn he,zcf hg p8.inn hd,zcq hg p8.inn,and_assoc];refine iG (λ he'=>iG (λ hd'=>?_));have:=hg.forest.pair ((hg.mem e).1 he) ((hg.mem d).1 hd) l9 (by rw[Od hg];exact he') (by rw[Od hg];exact hd');rw[Od hg] at this;exact this.symm
theorem Xe (q:Nat->Nat->Bool):∀{m x y:Nat},x<m->y<x->q x y=true->((0:Int),(x:Int),(y:Int))∈tri q m
 |0,x,y,h,_,_=>by omega
 |m+1,x,y,h,hy,hq=>by
  rw[tri,aK];by_cases e:x=m
  ·right
   rw[<-e];exact aY.2 ⟨y,aO.2 ⟨bF.2 hy,hq⟩,rfl⟩
  ·exact .inl (Xe q (by omega) hy hq)
theorem zbq (q:Nat->Nat->Bool):∀{m:Nat} {e:Edg},e∈tri q m->q (ea e) (eb e)=true
 |0,e,h=>by simp[tri] at h
 |m+1,e,h=>by
  rw[tri,aK] at h;rcases h with h|h
  ·exact zbq q h
  ·obtain⟨z,hz,rfl⟩:=aY.1 h
   have:=(aO.1 hz).2
   simpa[ea,eb] using this
theorem Xb (Ls:List (List Nat))(x y:Nat):alB Ls x y=true↔∀l∈Ls,l.getD x 0=l.getD y 0:=by simp[alB]
theorem zpp (S:List Edg)(f:Edg->Nat){x y:Nat}(hx:x<n)(hy:y<n):(Ku n L S f).getD x 0=(Ku n L S f).getD y 0↔∀l∈rests n L S f,l.getD x 0=l.getD y 0:=by
 unfold Ku;rw[Eg (Vn _ n n (aF _)) hx hy];constructor
 ·intro h
  refine Ag.least (P:=λ x y=>∀l∈rests n L S f,l.getD x 0=l.getD y 0) h (λ x l _=>rfl) (λ x y k l hl=>(k l hl).symm) (λ x y z k1 k2 l hl=>(k1 l hl).trans (k2 l hl)) ?_;rintro x y ⟨e,he,rfl,rfl⟩;exact(Xb _ _ _).1 (zbq _ he)
 ·intro h
  rcases eP x y with j6|rfl|j6
  ·have:=Ao (a:=ea) (b:=eb) (T:=(·∈tri (alB (rests n L S f)) n)) (Xe (alB (rests n L S f)) hy j6 ((Xb _ _ _).2 λ l hl=>(h l hl).symm))
   exact Ac (by simpa[ea,eb] using this)
  ·exact Bc _
  ·have:=Ao (a:=ea) (b:=eb) (T:=(·∈tri (alB (rests n L S f)) n)) (Xe (alB (rests n L S f)) hx j6 ((Xb _ _ _).2 h))
   simpa[ea,eb] using this
theorem zjz (hg:Gr n L t o)(p8:Ok n L)(hp:∀e,e∈R↔e∈L){x y:Nat}(hx:x<n)(hy:y<n):
 (Ku n L (o++t) (Be n t o)).getD x 0=(Ku n L (o++t) (Be n t o)).getD y 0↔(cnR R x y/\∀e∈R,∀f∈R,cnR (Br R e f) x y):=by
 have TU:(·∈R)=(·∈L):=by funext x;exact propext (hp x)
 have AB:∀d∈R,∀e∈R,d.1=e.1->d=e:=λ a ha b hb=>p8.one a ((hp a).1 ha) b ((hp b).1 hb)
 have hfil:∀d,C8 n (L.filter λ e=>decide (Be n t o e≠Be n t o d)):=λ d e he=>p8.inn.nodes e (aO.1 he).1
 have hmf:∀d,(·∈L.filter λ e=>decide (Be n t o e≠Be n t o d))=λ e=>un (·∈t) (·∈o) e/\¬Ko ea eb (·∈t) (·∈o) d e:=λ d=>by
  funext e;apply propext
  rw[Od hg,aO,dQ,Ne,<-zcq hg p8.inn,eq_comm]
 rw[zpp _ _ hx hy,Di TU];have h1:(∀l∈rests n L (o++t) (Be n t o),l.getD x 0=l.getD y 0)↔(cnR L x y/\∀e,un (·∈t) (·∈o) e->cn ea eb (λ d=>un (·∈t) (·∈o) d/\¬Ko ea eb (·∈t) (·∈o) e d) x y):=by
  unfold rests;constructor
  ·intro h
   refine⟨(Eg p8.inn.nodes hx hy).1 (h _ (by simp)),λ e he=>?_⟩;have he':e∈o++t:=aK.2 he.symm;have:=(Eg (hfil e) hx hy).1 (h _ (bS _ (aY.2 ⟨e,he',rfl⟩)));rw[Di (hmf e)] at this;exact this
  ·rintro⟨h2,h3⟩ l hl
   rcases cO.1 hl with rfl|hl
   ·exact(Eg p8.inn.nodes hx hy).2 h2
   ·obtain⟨e,he,rfl⟩:=aY.1 hl
    rw[Eg (hfil e) hx hy,Di (hmf e)];exact h3 e (aK.1 he).symm
 rw[h1,hg.forest.thrice L hg.mem,Od hg];refine iG (λ _=>?_);constructor
 ·intro h e he f hf
  rw[Di (Mw AB he hf),TU];exact h e f ((hp e).1 he) ((hp f).1 hf)
 ·intro h e f he hf
  have:=h e ((hp e).2 he) f ((hp f).2 hf);rw[Di (Mw AB ((hp e).2 he) ((hp f).2 hf)),TU] at this;exact this
end
end Go.Proofs.Y.S
