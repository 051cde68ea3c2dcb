import Derived.Test.YtebcjaenhiiflaaGreatDoorQSBSR
namespace Go.Proofs.Y.S
section
variable {ι α:Type} {a b:ι->α} {T O:ι->Prop} {x y z e f o:ι} {u v w:α}
structure Ev (a b:ι->α) (T O:ι->Prop):Prop where
 tree:∀f,T f->¬cn a b (but T f) (a f) (b f)
 rest:∀o,O o->cn a b T (a o) (b o)
 apart:∀f,T f->¬O f
def un (T O:ι->Prop):ι->Prop:=λ e=>T e\/O e
def cov (a b:ι->α)(T:ι->Prop)(f o:ι):Prop:=(T f/\¬cn a b (but T f) (a o) (b o))\/(¬T f/\f=o)
theorem Ev.all (h:Ev a b T O)(k:cn a b (un T O) u v):cn a b T u v:=
 Jq k λ e he=>he.elim Ao (h.rest e)
theorem Ev.own (h:Ev a b T O)(ho:O o):cov a b T o o:=.inr ⟨λ ht=>h.apart o ht ho,rfl⟩
theorem Ev.side (h:Ev a b T O)(hx:T x)(k1:cn a b T u v)(k2:cn a b T v w)(n1:¬cn a b (but T x) u v)(n2:¬cn a b (but T x) v w):cn a b (but T x) u w:=by
 have hb:=h.tree x hx;rcases F6 x k1 with h1|⟨h1,h2⟩|⟨h1,h2⟩
 ·exact absurd h1 n1
 ·rcases F6 x k2 with g1|⟨g1,g2⟩|⟨g1,g2⟩
  ·exact absurd g1 n2
  ·exact absurd (Ac (Ab h2 g1)) hb
  ·exact Ab h1 g2
 ·rcases F6 x k2 with g1|⟨g1,g2⟩|⟨g1,g2⟩
  ·exact absurd g1 n2
  ·exact Ab h1 g2
  ·exact absurd (Ab h2 g1) hb
theorem Ev.bridge (h:Ev a b T O)(hf:un T O f):br a b (un T O) f↔∀o,O o->¬cov a b T f o:=by
 by_cases ht:T f
 ·constructor
  ·rintro hb o ho (⟨_,hc⟩|⟨hn,_⟩)
   ·refine hb.2 ?_
    have l9:o≠f:=λ e=>h.apart f ht (e▸ho)
    have sub:∀{p q},cn a b (but T f) p q->cn a b (but (un T O) f) p q:=λ k=>Bi k λ e he=>⟨.inl he.1,he.2⟩
    have MX:cn a b (but (un T O) f) (a o) (b o):=Ao ⟨.inr ho,l9⟩;rcases F6 f (h.rest o ho) with k|⟨k1,k2⟩|⟨k1,k2⟩
    ·exact absurd k hc
    ·exact Ab (Ac (sub k1)) (Ab MX (Ac (sub k2)))
    ·exact Ab (sub k2) (Ab (Ac MX) (sub k1))
   ·exact hn ht
  ·intro y7
   refine⟨hf,λ k=>h.tree f ht (Jq k ?_)⟩;rintro e ⟨he|he,l9⟩
   ·exact Ao ⟨he,l9⟩
   ·exact bU λ hc=>y7 e he (.inl ⟨ht,hc⟩)
 ·have ho:O f:=hf.resolve_left ht
  constructor
  ·intro hb
   refine absurd (Bi (h.rest f ho) λ e he=>?_) hb.2;exact⟨.inl he,λ e'=>ht (e'▸he)⟩
  ·intro y7
   exact absurd (h.own ho) (y7 f ho)
theorem E8 (T:ι->Prop)(x y:ι):but (but T x) y=but (but T y) x:=by
 funext e;apply propext
 exact⟨λ⟨⟨h1,h2⟩,h3⟩=>⟨⟨h1,h3⟩,h2⟩,λ⟨⟨h1,h2⟩,h3⟩=>⟨⟨h1,h3⟩,h2⟩⟩
theorem Jy {G:ι->Prop}(hx:G x->cn a b (but G x) (a x) (b x))(k:cn a b G u v):cn a b (but G x) u v:=by
 refine Jq k λ e he=>?_
 by_cases hex:e=x
 ·subst hex;exact hx he
 ·exact Ao ⟨he,hex⟩
theorem Uk {G:ι->Prop}(h:¬br a b G x)(hx:G x):cn a b (but G x) (a x) (b x):=bU λ k=>h ⟨hx,k⟩
theorem X5 {G:ι->Prop}(hx:G x)(hy:G y)(l9:x≠y)(ny:¬br a b G y)(h:br a b (but G x) y):br a b (but G y) x:=by
 refine⟨⟨hx,l9⟩,λ k=>h.2 ?_⟩;rw[E8];exact Jy (λ _=>k) (Uk ny hy)
theorem Ev.pair (h:Ev a b T O)(hx:un T O x)(hy:un T O y)(l9:x≠y)(nx:¬br a b (un T O) x)(ny:¬br a b (un T O) y):
 br a b (but (un T O) x) y↔∀o,O o->(cov a b T x o↔cov a b T y o):=by
 have mixed:∀{x y:ι},O x->T y->x≠y->¬br a b (un T O) y->(br a b (but (un T O) x) y↔∀o,O o->(cov a b T x o↔cov a b T y o)):=by
  intro x y ox ty l9 ny;have hb:br a b (but (un T O) x) y↔∀o,O o->o≠x->¬cov a b T y o:=by
   have hF:Ev a b T (but O x):=⟨h.tree,λ o ho=>h.rest o ho.1,λ f hf ho=>h.apart f hf ho.1⟩;have e:but (un T O) x=un T (but O x):=by
    funext e;apply propext
    constructor
    ·rintro⟨h1|h1,h2⟩
     ·exact .inl h1
     ·exact .inr ⟨h1,h2⟩
    ·rintro(h1|⟨h1,h2⟩)
     ·exact⟨.inl h1,λ k=>h.apart e h1 (k▸ox)⟩
     ·exact⟨.inr h1,h2⟩
   rw[e,hF.bridge (.inl ty)];exact⟨λ k o ho hn=>k o ⟨ho,hn⟩,λ k o ho=>k o ho.1 ho.2⟩
  have hxo:∀o,cov a b T x o↔x=o:=λ o=>by
   have:¬T x:=λ k=>h.apart x k ox
   simp[cov,this]
  rw[hb];constructor
  ·intro k o ho
   rw[hxo];have only:∀o',O o'->cov a b T y o'->o'=x:=λ o' ho' hc=>bU λ hn=>k o' ho' hn hc
   constructor
   ·rintro rfl
    obtain⟨o',ho',hc⟩:∃o',O o'/\cov a b T y o':=bU λ hn=>ny ((h.bridge (.inl ty)).2 λ o' ho' hc=>hn ⟨o',ho',hc⟩)
    rw[only o' ho' hc] at hc;exact hc
   ·intro hc;exact(only o ho hc).symm
  ·intro k o ho hn hc
   exact hn ((hxo o).1 ((k o ho).2 hc)).symm
 by_cases tx:T x
 ·by_cases ty:T y
  ·have K1:∀{p q},cn a b (but (but T x) y) p q->cn a b (but (but (un T O) x) y) p q:=λ k=>Bi k λ e he=>⟨⟨.inl he.1.1,he.1.2⟩,he.2⟩
   have UZ:∀o,O o->cn a b (but (but (un T O) x) y) (a o) (b o):=λ o ho=>Ao ⟨⟨.inr ho,λ e=>h.apart x tx (e▸ho)⟩,λ e=>h.apart y ty (e▸ho)⟩
   have tie:∀{x y:ι},T x->T y->(∀{p q},cn a b (but (but T x) y) p q->cn a b (but (but (un T O) x) y) p q)->(∀o,O o->cn a b (but (but (un T O) x) y) (a o) (b o))->∀o,O o->cov a b T x o->¬cov a b T y o->x≠y->cn a b (but (but (un T O) x) y) (a x) (b x):=by
    intro x y tx ty K1 UZ o ho hc hn l9;have k1:¬cn a b (but T x) (a o) (b o):=by
     rcases hc with⟨_,k⟩|⟨k,_⟩
     ·exact k
     ·exact absurd tx k
    have k2:cn a b (but T y) (a o) (b o):=bU λ k=>hn (.inl ⟨ty,k⟩)
    rcases F6 x k2 with k|⟨p1,p2⟩|⟨p1,p2⟩
    ·rw[E8] at k
     exact absurd (Ei k) k1
    ·rw[E8] at p1 p2
     exact Ab (Ac (K1 p1)) (Ab (UZ o ho) (Ac (K1 p2)))
    ·rw[E8] at p1 p2
     exact Ab (K1 p2) (Ab (Ac (UZ o ho)) (K1 p1))
   constructor
   ·intro hb o ho
    constructor
    ·intro hc
     refine bU λ hn=>hb.2 ?_
     have hxx:=tie tx ty K1 UZ o ho hc hn l9;rw[E8] at hxx ⊢;exact Jy (λ _=>hxx) (Uk ny hy)
    ·intro hc
     refine bU λ hn=>hb.2 ?_
     have:=tie (x:=y) (y:=x) ty tx (λ k=>by rw[E8] at k ⊢;exact K1 k) (λ o ho=>by rw[E8];exact UZ o ho) o ho hc hn (λ e=>l9 e.symm);rw[E8] at this;exact this
   ·intro y7
    refine⟨⟨hy,λ e=>l9 e.symm⟩,λ k=>?_⟩;have Q:=Ag.least (P:=λ p q=>cn a b T p q/\(cn a b (but T x) p q↔cn a b (but T y) p q)) k (λ p=>⟨Bc p,⟨λ _=>Bc p,λ _=>Bc p⟩⟩) ?_ ?_ ?_
    ·have e1:cn a b (but T x) (a y) (b y):=Ao ⟨ty,λ e=>l9 e.symm⟩
     exact h.tree y ty (Q.2.1 e1)
    ·rintro p q ⟨h1,h2⟩
     exact⟨Ac h1,⟨λ k=>Ac (h2.1 (Ac k)),λ k=>Ac (h2.2 (Ac k))⟩⟩
    ·rintro p q r ⟨h1,h2⟩ ⟨g1,g2⟩
     refine⟨Ab h1 g1,?_⟩;by_cases c1:cn a b (but T x) p q
     ·have c1':=h2.1 c1
      by_cases c2:cn a b (but T x) q r
      ·have c2':=g2.1 c2
       exact⟨λ _=>Ab c1' c2',λ _=>Ab c1 c2⟩
      ·have c2':¬cn a b (but T y) q r:=λ k=>c2 (g2.2 k)
       exact⟨λ k=>absurd (Ab (Ac c1) k) c2,λ k=>absurd (Ab (Ac c1') k) c2'⟩
     ·have c1':¬cn a b (but T y) p q:=λ k=>c1 (h2.2 k)
      by_cases c2:cn a b (but T x) q r
      ·have c2':=g2.1 c2
       exact⟨λ k=>absurd (Ab k (Ac c2)) c1,λ k=>absurd (Ab k (Ac c2')) c1'⟩
      ·have c2':¬cn a b (but T y) q r:=λ k=>c2 (g2.2 k)
       exact⟨λ _=>h.side ty h1 g1 c1' c2',λ _=>h.side tx h1 g1 c1 c2⟩
    ·rintro p q ⟨e,⟨⟨he|he,h1⟩,h2⟩,rfl,rfl⟩
     ·exact⟨Ao he,⟨λ _=>Ao ⟨he,h2⟩,λ _=>Ao ⟨he,h1⟩⟩⟩
     ·refine⟨h.rest e he,?_⟩
      have:=y7 e he;have ex:cov a b T x e↔¬cn a b (but T x) (a e) (b e):=by simp[cov,tx]
      have ey:cov a b T y e↔¬cn a b (but T y) (a e) (b e):=by simp[cov,ty]
      rw[ex,ey] at this;exact⟨λ ha=>bU λ nb=>this.2 nb ha,λ hb=>bU λ na=>this.1 na hb⟩
  ·have oy:O y:=hy.resolve_left ty
   have:=mixed (x:=y) (y:=x) oy tx (λ e=>l9 e.symm) nx;constructor
   ·intro hb o ho
    exact(this.1 (X5 hx hy l9 ny hb) o ho).symm
   ·intro y7
    exact X5 hy hx (λ e=>l9 e.symm) nx (this.2 λ o ho=>(y7 o ho).symm)
 ·have ox:O x:=hx.resolve_left tx
  by_cases ty:T y
  ·exact mixed ox ty l9 ny
  ·have oy:O y:=hy.resolve_left ty
   constructor
   ·intro hb
    refine absurd (Bi (h.rest y oy) λ e he=>?_) hb.2;exact⟨⟨.inl he,λ k=>tx (k▸he)⟩,λ k=>ty (k▸he)⟩
   ·intro y7
    have:=(y7 x ox).1 (h.own ox);rcases this with⟨k,_⟩|⟨_,k⟩
    ·exact absurd k ty
    ·exact absurd k.symm l9
def Ko (a b:ι->α)(T O:ι->Prop)(x y:ι):Prop:=∀o,O o->(cov a b T x o↔cov a b T y o)
theorem Ev.thrice (h:Ev a b T O)(N:List ι)(hN:∀e,e∈N↔un T O e):
 (∀e,un T O e->cn a b (λ d=>un T O d/\¬Ko a b T O e d) u v)↔∀e f,un T O e->un T O f->cn a b (but (but (un T O) e) f) u v:=by
 have mono2:∀{e f:ι},cn a b (but (but (un T O) e) f) u v->cn a b (but (un T O) e) u v:=λ k=>Ei k
 constructor
 ·intro y7 e f he hf
  have ce:=y7 e he;by_cases KM:Ko a b T O e f
  ·refine Bi ce λ d hd=>⟨⟨hd.1,λ k=>hd.2 ?_⟩,λ k=>hd.2 ?_⟩
   ·rw[k];exact λ o _=>Iff.rfl
   ·rw[k];exact KM
  ·have hef:e≠f:=λ k=>KM (k▸λ o _=>Iff.rfl)
   have c1:cn a b (but (un T O) e) u v:=Bi ce λ d hd=>⟨hd.1,λ k=>hd.2 (k▸λ o _=>Iff.rfl)⟩
   have cf:cn a b (but (un T O) f) u v:=Bi (y7 f hf) λ d hd=>⟨hd.1,λ k=>hd.2 (k▸λ o _=>Iff.rfl)⟩
   have stays:∀{e f:ι},un T O e->un T O f->e≠f->br a b (un T O) e->¬br a b (un T O) f->cn a b (but (un T O) e) u v->cn a b (but (but (un T O) e) f) u v:=by
    intro e f he hf hef be nf ce;refine Jy (λ _=>bU λ hn=>be.2 ?_) ce;rw[E8] at hn;have:=heal (Uk nf hf) hn;refine Bi this ?_;rintro d (⟨⟨h1,_⟩,h2⟩|rfl)
    ·exact⟨h1,h2⟩
    ·exact⟨hf,λ k=>hef k.symm⟩
   by_cases be:br a b (un T O) e
   ·by_cases bf:br a b (un T O) f
    ·refine absurd (λ o ho=>?_) KM
     exact⟨λ k=>absurd k ((h.bridge he).1 be o ho),λ k=>absurd k ((h.bridge hf).1 bf o ho)⟩
    ·exact stays he hf hef be bf c1
   ·by_cases bf:br a b (un T O) f
    ·rw[E8]
     exact stays hf he (λ k=>hef k.symm) bf be cf
    ·refine Jy (λ hf'=>bU λ hn=>KM ((h.pair he hf hef be bf).1 ⟨hf',hn⟩)) c1
 ·intro y7 e he
  by_cases be:br a b (un T O) e
  ·have e1:∀d,un T O d->(Ko a b T O e d↔br a b (un T O) d):=λ d hd=>by
    have hE:=(h.bridge he).1 be;rw[h.bridge hd];exact⟨λ k o ho hc=>hE o ho ((k o ho).2 hc),λ k o ho=>⟨λ hc=>absurd hc (hE o ho),λ hc=>absurd hc (k o ho)⟩⟩
   have hc:cn a b (un T O) u v:=Ei (mono2 (y7 e e he he));have GV:=Classical.propDecidable;have:=Wz (a:=a) (b:=b) (T:=un T O) (x:=u) (y:=v) (N.filter λ d=>decide (br a b (un T O) d)) (λ d hd=>by
    obtain⟨h1,h2⟩:=aO.1 hd;have hd':=(hN d).1 h1;exact⟨dH h2,mono2 (y7 d d hd' hd')⟩) hc
   refine Bi this λ d hd=>⟨hd.1,λ k=>hd.2 (aO.2 ⟨(hN d).2 hd.1,bI ((e1 d hd.1).1 k)⟩)⟩
  ·have hc:cn a b (but (un T O) e) u v:=mono2 (y7 e e he he)
   have GV:=Classical.propDecidable;have KM:∀d,un T O d->d≠e->Ko a b T O e d->br a b (but (un T O) e) d:=λ d hd LA k=>by
    have bd:¬br a b (un T O) d:=λ bd=>be ((h.bridge he).2 λ o ho hc=>(h.bridge hd).1 bd o ho ((k o ho).1 hc))
    exact(h.pair he hd (λ k=>LA k.symm) be bd).2 k
   have:=Wz (a:=a) (b:=b) (T:=but (un T O) e) (x:=u) (y:=v) (N.filter λ d=>decide (d≠e/\Ko a b T O e d)) (λ d hd=>by
    obtain⟨h1,h2⟩:=aO.1 hd;have hd':=(hN d).1 h1;obtain⟨h3,h4⟩:=dH h2;exact⟨KM d hd' h3 h4,y7 e d he hd'⟩) hc
   refine Bi this λ d hd=>⟨hd.1.1,λ k=>hd.2 (aO.2 ⟨(hN d).2 hd.1.1,bI ⟨hd.1.2,k⟩⟩)⟩
end
end Go.Proofs.Y.S
namespace Go.Proofs.Y.S
abbrev Edg:=Int × Int × Int
def C8 (n:Nat)(R:List Edg):Prop:=∀e∈R,ea e<n/\eb e<n
def lbl (n:Nat)(t:List Edg):List Nat:=joins (List.range n) t
theorem zr8 (n u v:Nat):Lk n (List.range n) u v↔u=v:=by
 constructor
 ·rintro(h|⟨h1,h2,h3⟩)
  ·exact h
  ·simpa[h1,h2] using h3
 ·exact .inl
theorem Er {n:Nat}{t:List Edg}(h:C8 n t):Good n (lbl n t):=Ew _ _ (Dg n) h
theorem Eg {n:Nat}{t:List Edg}(h:C8 n t){u v:Nat}(hu:u<n)(hv:v<n):(lbl n t).getD u 0=(lbl n t).getD v 0↔cnR t u v:=by
 rw[<-Lk.iff hu hv];unfold lbl;rw[Lh _ _ (Dg n) h];constructor
 ·intro k
  refine Ag.lift k ?_;rintro x y (h|⟨e,he,rfl,rfl⟩)
  ·rw[(zr8 n x y).1 h];exact Ag.refl y
  ·exact Ag.base ⟨e,he,rfl,rfl⟩
 ·intro k
  refine Ag.lift k ?_;rintro x y ⟨e,he,rfl,rfl⟩;exact Ag.base (.inr ⟨e,he,rfl,rfl⟩)
theorem Vw (n:Nat)(t:List Edg)(d:Edg):lbl n (t++[d])=joinL (lbl n t) (ea d) (eb d):=by
 unfold lbl;generalize List.range n=L;induction t generalizing L with
 |nil=>rfl
 |cons c t ih=>exact ih _
def F5 (n:Nat)(s:List Edg × List Edg)(e:Edg):List Edg × List Edg:=
 if (lbl n s.1).getD (ea e) 0=(lbl n s.1).getD (eb e) 0 then(s.1,s.2++[e]) else(s.1++[e],s.2)
def grw (n:Nat)(R:List Edg):List Edg × List Edg:=R.foldl (F5 n) ([],[])
theorem zj9 (n:Nat)(R:List Edg)(e:Edg):grw n (R++[e])=F5 n (grw n R) e:=by simp[grw,List.foldl_append]
structure Gr (n:Nat) (R t o:List Edg):Prop where
 mem:∀e,e∈R↔e∈t\/e∈o
 forest:Ev ea eb (·∈t) (·∈o)
 tsub:t.Sublist R
 osub:o.Sublist R
 len:t.length+o.length=R.length
theorem more_snoc' (R:List Edg)(f:Edg):(·∈R++[f])=more (·∈R) f:=by
 funext e;apply propext;simp[more]
theorem znq (n:Nat):Gr n [] [] []:=⟨λ e=>by simp,⟨λ f hf=>by simp at hf,λ o ho=>by simp at ho,λ f hf=>by simp at hf⟩,iR _,iR _,rfl⟩
theorem zqt {n:Nat}{R t o:List Edg}(h:Gr n R t o){e:Edg}(he:e∉R)(p9:C8 n R)(UQ:ea e<n/\eb e<n):Gr n (R++[e]) (F5 n (t,o) e).1 (F5 n (t,o) e).2:=by
 have het:e∉t:=λ k=>he ((h.mem e).2 (.inl k))
 have heo:e∉o:=λ k=>he ((h.mem e).2 (.inr k))
 have KZ:C8 n t:=λ d hd=>p9 d ((h.mem d).2 (.inl hd))
 unfold F5;by_cases hc:(lbl n t).getD (ea e) 0=(lbl n t).getD (eb e) 0
 ·simp only[aP hc]
  have LX:=(Eg KZ UQ.1 UQ.2).1 hc;refine⟨λ d=>by simp[h.mem d,or_assoc],⟨h.forest.tree,λ d hd=>?_,λ f hf ho=>?_⟩,h.tsub.trans (List.sublist_append_left _ _),h.osub.append (iR _),by simp;have:=h.len;omega⟩
  ·rcases aK.1 hd with hd|hd
   ·exact h.forest.rest d hd
   ·rw[aJ.1 hd];exact LX
  ·rcases aK.1 ho with ho|ho
   ·exact h.forest.apart f hf ho
   ·rw[aJ.1 ho] at hf;exact het hf
 ·simp only[aL hc]
  have LX:¬cnR t (ea e) (eb e):=λ k=>hc ((Eg KZ UQ.1 UQ.2).2 k)
  have hm:=more_snoc' t e;refine⟨λ d=>?_,⟨λ f hf=>?_,λ d hd=>?_,λ f hf ho=>?_⟩,h.tsub.append (iR _),h.osub.trans (List.sublist_append_left _ _),by simp;have:=h.len;omega⟩
  ·rw[aK,h.mem d,aK]
   constructor
   ·rintro((k|k)|k)
    ·exact .inl (.inl k)
    ·exact .inr k
    ·exact .inl (.inr k)
   ·rintro((k|k)|k)
    ·exact .inl (.inl k)
    ·exact .inr k
    ·exact .inl (.inr k)
  ·have hb:br ea eb (more (·∈t) e) f:=by
    rw[ry het LX];rcases aK.1 hf with hf|hf
    ·exact .inl ⟨hf,h.forest.tree f hf⟩
    ·exact .inr (aJ.1 hf)
   show ¬cn ea eb (but (·∈t++[e]) f) (ea f) (eb f);rw[hm];exact hb.2
  ·show cn ea eb (·∈t++[e]) (ea d) (eb d)
   rw[hm];exact Bd (h.forest.rest d hd)
  ·rcases aK.1 hf with hf|hf
   ·exact h.forest.apart f hf ho
   ·rw[aJ.1 hf] at ho;exact heo ho
theorem zbe {n:Nat}:∀(S Q:List Edg) (s:List Edg × List Edg),Gr n Q s.1 s.2->(Q++S).Nodup->C8 n (Q++S)->Gr n (Q++S) (S.foldl (F5 n) s).1 (S.foldl (F5 n) s).2
 |[],Q,s,h,_,_=>by rw[eX];exact h
 |e::S,Q,s,h,FM,p9=>by
  have hnd':=FM;rw[jO] at hnd';have h1:=zqt h (e:=e) (λ k=>hnd'.2.2 e k e (by simp) rfl) (λ d hd=>p9 d (bE _ hd)) (p9 e (by simp));have e1:Q++e::S=(Q++[e])++S:=by simp
  rw[e1] at FM p9 ⊢;exact zbe S (Q++[e]) (F5 n s e) h1 FM p9
theorem P6 {n:Nat}(R:List Edg)(FM:R.Nodup)(p9:C8 n R):Gr n R (grw n R).1 (grw n R).2:=by
 have:=zbe R [] ([],[]) (znq n) (by simpa using FM) (by simpa using p9)
 simpa[grw] using this
def A8 (c:Nat->Bool):Nat->Nat
 |0=>0
 |m+1=>A8 c m+if c m then 2^m else 0
theorem Mj (c:Nat->Bool):∀m,A8 c m<2^m
 |0=>by simp[A8]
 |m+1=>by
  have:=Mj c m;simp only[A8,kX];split <;> omega
theorem Qt {c d:Nat->Bool}:∀{m},A8 c m=A8 d m->∀i,i<m->c i=d i
 |0,_,i,hi=>by omega
 |m+1,h,i,hi=>by
  have h1:=Mj c m;have h2:=Mj d m;simp only[A8] at h;have hp:=Nat.two_pow_pos m;have hcd:c m=d m:=by
   cases hc:c m <;> cases hd:d m <;> simp[hc,hd] at h <;> first|rfl|omega
  by_cases e:i=m
  ·rw[e];exact hcd
  ·refine Qt (m:=m) ?_ i (by omega)
   rw[hcd] at h;omega
theorem Ke {c d:Nat->Bool}{m:Nat}(h:∀i,i<m->c i=d i):A8 c m=A8 d m:=by
 induction m with
 |zero=>rfl
 |succ m ih=>simp only[A8];rw[ih (λ i hi=>h i (by omega)),h m (by omega)]
theorem zsy {x i:Nat}(h:x<2^i):x |||2^i=x+2^i:=by
 have:=Nat.two_pow_add_eq_or_of_lt h 1;simp at this;rw[Nat.or_comm,<-this,lC]
end Go.Proofs.Y.S
