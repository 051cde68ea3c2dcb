import Derived.Test.YtebcjaenhiiflaaGreatDoorQSBTa
namespace Go.Proofs.YtebcjaenhiiflaaGreatDoor.S
section
variable {ι α:Type} {a b:ι->α} {T O:ι->Prop} {x y z e f o:ι} {u v w:α}
structure zc3 (a b:ι->α) (T O:ι->Prop):Prop where
 tree:∀f,T f->¬cn a b (but T f) (a f) (b f)
 rest:∀o,O o->cn a b T (a o) (b o)
 apart:∀f,T f->¬O f
def un (T O:ι->Prop):ι->Prop:=λ e=>T e\/O e
def cov (a b:ι->α) (T:ι->Prop) (f o:ι):Prop:=(T f/\¬cn a b (but T f) (a o) (b o))\/(¬T f/\f=o)
theorem zc3.own (h:zc3 a b T O) (ho:O o):cov a b T o o:=.inr ⟨λ ht=>h.apart o ht ho,rfl⟩
theorem zc3.side (h:zc3 a b T O) (hx:T x) (k1:cn a b T u v) (k2:cn a b T v w) (n1:¬cn a b (but T x) u v) (n2:¬cn a b (but T x) v w):cn a b (but T x) u w:=by
 have hb:=h.tree x hx;rcases zcx x k1 with h1 | ⟨h1,h2⟩ | ⟨h1,h2⟩
 ·exact absurd h1 n1
 ·rcases zcx x k2 with g1 | ⟨g1,g2⟩ | ⟨g1,g2⟩
  ·exact absurd g1 n2
  ·exact absurd (zac (zaa h2 g1)) hb
  ·exact zaa h1 g2
 ·rcases zcx x k2 with g1 | ⟨g1,g2⟩ | ⟨g1,g2⟩
  ·exact absurd g1 n2
  ·exact zaa h1 g2
  ·exact absurd (zaa h2 g1) hb
theorem zc3.bridge (h:zc3 a b T O) (hf:un T O f):br a b (un T O) f↔∀o,O o->¬cov a b T f o:=by
 by_cases ht:T f
 ·constructor
  ·rintro hb o ho (⟨_,hc⟩ | ⟨hn,_⟩)
   ·refine hb.2 ?_
    have hne:o≠f:=λ e=>h.apart f ht (e▸ho)
    have sub:∀{p q},cn a b (but T f) p q->cn a b (but (un T O) f) p q:=λ k=>za4 k λ e he=>⟨.inl he.1,he.2⟩
    have hoe:cn a b (but (un T O) f) (a o) (b o):=zaj ⟨.inr ho,hne⟩;rcases zcx f (h.rest o ho) with k | ⟨k1,k2⟩ | ⟨k1,k2⟩
    ·exact absurd k hc
    ·exact zaa (zac (sub k1)) (zaa hoe (zac (sub k2)))
    ·exact zaa (sub k2) (zaa (zac hoe) (sub k1))
   ·exact hn ht
  ·intro hall
   refine ⟨hf,λ k=>h.tree f ht (zf1 k ?_)⟩;rintro e ⟨he | he,hne⟩
   ·exact zaj ⟨he,hne⟩
   ·exact Classical.byContradiction λ hc=>hall e he (.inl ⟨ht,hc⟩)
 ·have ho:O f:=hf.resolve_left ht
  constructor
  ·intro hb
   refine absurd (za4 (h.rest f ho) λ e he=>?_) hb.2;exact ⟨.inl he,λ e'=>ht (e'▸he)⟩
  ·intro hall
   exact absurd (h.own ho) (hall f ho)
theorem zck (T:ι->Prop) (x y:ι):but (but T x) y=but (but T y) x:=by
 funext e;apply propext
 exact ⟨λ ⟨⟨h1,h2⟩,h3⟩=>⟨⟨h1,h3⟩,h2⟩,λ ⟨⟨h1,h2⟩,h3⟩=>⟨⟨h1,h3⟩,h2⟩⟩
theorem ze7 {G:ι->Prop} (hx:G x->cn a b (but G x) (a x) (b x)) (k:cn a b G u v):cn a b (but G x) u v:=by
 refine zf1 k λ e he=>?_
 by_cases hex:e=x
 ·subst hex;exact hx he
 ·exact zaj ⟨he,hex⟩
theorem zld {G:ι->Prop} (h:¬br a b G x) (hx:G x):cn a b (but G x) (a x) (b x):=Classical.byContradiction λ k=>h ⟨hx,k⟩
theorem znj {G:ι->Prop} (hx:G x) (hy:G y) (hne:x≠y) (ny:¬br a b G y) (h:br a b (but G x) y):br a b (but G y) x:=by
 refine ⟨⟨hx,hne⟩,λ k=>h.2 ?_⟩;rw [zck];exact ze7 (λ _=>k) (zld ny hy)
theorem zc3.pair (h:zc3 a b T O) (hx:un T O x) (hy:un T O y) (hne:x≠y) (nx:¬br a b (un T O) x) (ny:¬br a b (un T O) y):
 br a b (but (un T O) x) y↔∀o,O o->(cov a b T x o↔cov a b T y o):=by
 have mixed:∀{x y:ι},O x->T y->x≠y->¬br a b (un T O) y->(br a b (but (un T O) x) y↔∀o,O o->(cov a b T x o↔cov a b T y o)):=by
  intro x y ox ty hne ny;have hb:br a b (but (un T O) x) y↔∀o,O o->o≠x->¬cov a b T y o:=by
   have hF:zc3 a b T (but O x):=⟨h.tree,λ o ho=>h.rest o ho.1,λ f hf ho=>h.apart f hf ho.1⟩;have e:but (un T O) x=un T (but O x):=by
    funext e;apply propext
    constructor
    ·rintro ⟨h1 | h1,h2⟩
     ·exact .inl h1
     ·exact .inr ⟨h1,h2⟩
    ·rintro (h1 | ⟨h1,h2⟩)
     ·exact ⟨.inl h1,λ k=>h.apart e h1 (k▸ox)⟩
     ·exact ⟨.inr h1,h2⟩
   rw [e,hF.bridge (.inl ty)];exact ⟨λ k o ho hn=>k o ⟨ho,hn⟩,λ k o ho=>k o ho.1 ho.2⟩
  have hxo:∀o,cov a b T x o↔x=o:=λ o=>by
   have:¬T x:=λ k=>h.apart x k ox
   simp [cov,this]
  rw [hb];constructor
  ·intro k o ho
   rw [hxo];have only:∀o',O o'->cov a b T y o'->o'=x:=λ o' ho' hc=>Classical.byContradiction λ hn=>k o' ho' hn hc
   constructor
   ·rintro rfl
    obtain ⟨o',ho',hc⟩:∃o',O o'/\cov a b T y o':=Classical.byContradiction λ hn=>ny ((h.bridge (.inl ty)).2 λ o' ho' hc=>hn ⟨o',ho',hc⟩)
    rw [only o' ho' hc] at hc;exact hc
   ·intro hc;exact (only o ho hc).symm
  ·intro k o ho hn hc
   exact hn ((hxo o).1 ((k o ho).2 hc)).symm
 by_cases tx:T x
 ·by_cases ty:T y
  ·have K1:∀{p q},cn a b (but (but T x) y) p q->cn a b (but (but (un T O) x) y) p q:=λ k=>za4 k λ e he=>⟨⟨.inl he.1.1,he.1.2⟩,he.2⟩
   have hoin:∀o,O o->cn a b (but (but (un T O) x) y) (a o) (b o):=λ o ho=>zaj ⟨⟨.inr ho,λ e=>h.apart x tx (e▸ho)⟩,λ e=>h.apart y ty (e▸ho)⟩
   have tie:∀{x y:ι},T x->T y->(∀{p q},cn a b (but (but T x) y) p q->cn a b (but (but (un T O) x) y) p q)->(∀o,O o->cn a b (but (but (un T O) x) y) (a o) (b o))->∀o,O o->cov a b T x o->¬cov a b T y o->x≠y->cn a b (but (but (un T O) x) y) (a x) (b x):=by
    intro x y tx ty K1 hoin o ho hc hn hne;have k1:¬cn a b (but T x) (a o) (b o):=by
     rcases hc with ⟨_,k⟩ | ⟨k,_⟩
     ·exact k
     ·exact absurd tx k
    have k2:cn a b (but T y) (a o) (b o):=Classical.byContradiction λ k=>hn (.inl ⟨ty,k⟩)
    rcases zcx x k2 with k | ⟨p1,p2⟩ | ⟨p1,p2⟩
    ·rw [zck] at k
     exact absurd (zb7 k) k1
    ·rw [zck] at p1 p2
     exact zaa (zac (K1 p1)) (zaa (hoin o ho) (zac (K1 p2)))
    ·rw [zck] at p1 p2
     exact zaa (K1 p2) (zaa (zac (hoin o ho)) (K1 p1))
   constructor
   ·intro hb o ho
    constructor
    ·intro hc
     refine Classical.byContradiction λ hn=>hb.2 ?_
     have hxx:=tie tx ty K1 hoin o ho hc hn hne;rw [zck] at hxx ⊢;exact ze7 (λ _=>hxx) (zld ny hy)
    ·intro hc
     refine Classical.byContradiction λ hn=>hb.2 ?_
     have:=tie (x:=y) (y:=x) ty tx (λ k=>by rw [zck] at k ⊢;exact K1 k) (λ o ho=>by rw [zck];exact hoin o ho) o ho hc hn (λ e=>hne e.symm);rw [zck] at this;exact this
   ·intro hall
    refine ⟨⟨hy,λ e=>hne e.symm⟩,λ k=>?_⟩;have Q:=zae.least (P:=λ p q=>cn a b T p q/\(cn a b (but T x) p q↔cn a b (but T y) p q)) k (λ p=>⟨zaw p,⟨λ _=>zaw p,λ _=>zaw p⟩⟩) ?_ ?_ ?_
    ·have e1:cn a b (but T x) (a y) (b y):=zaj ⟨ty,λ e=>hne e.symm⟩
     exact h.tree y ty (Q.2.1 e1)
    ·rintro p q ⟨h1,h2⟩
     exact ⟨zac h1,⟨λ k=>zac (h2.1 (zac k)),λ k=>zac (h2.2 (zac k))⟩⟩
    ·rintro p q r ⟨h1,h2⟩ ⟨g1,g2⟩
     refine ⟨zaa h1 g1,?_⟩;by_cases c1:cn a b (but T x) p q
     ·have c1':=h2.1 c1
      by_cases c2:cn a b (but T x) q r
      ·have c2':=g2.1 c2
       exact ⟨λ _=>zaa c1' c2',λ _=>zaa c1 c2⟩
      ·have c2':¬cn a b (but T y) q r:=λ k=>c2 (g2.2 k)
       exact ⟨λ k=>absurd (zaa (zac c1) k) c2,λ k=>absurd (zaa (zac c1') k) c2'⟩
     ·have c1':¬cn a b (but T y) p q:=λ k=>c1 (h2.2 k)
      by_cases c2:cn a b (but T x) q r
      ·have c2':=g2.1 c2
       exact ⟨λ k=>absurd (zaa k (zac c2)) c1,λ k=>absurd (zaa k (zac c2')) c1'⟩
      ·have c2':¬cn a b (but T y) q r:=λ k=>c2 (g2.2 k)
       exact ⟨λ _=>h.side ty h1 g1 c1' c2',λ _=>h.side tx h1 g1 c1 c2⟩
    ·rintro p q ⟨e,⟨⟨he | he,h1⟩,h2⟩,rfl,rfl⟩
     ·exact ⟨zaj he,⟨λ _=>zaj ⟨he,h2⟩,λ _=>zaj ⟨he,h1⟩⟩⟩
     ·refine ⟨h.rest e he,?_⟩
      have:=hall e he;have ex:cov a b T x e↔¬cn a b (but T x) (a e) (b e):=by simp [cov,tx]
      have ey:cov a b T y e↔¬cn a b (but T y) (a e) (b e):=by simp [cov,ty]
      rw [ex,ey] at this;exact ⟨λ ha=>Classical.byContradiction λ nb=>this.2 nb ha,λ hb=>Classical.byContradiction λ na=>this.1 na hb⟩
  ·have oy:O y:=hy.resolve_left ty
   have:=mixed (x:=y) (y:=x) oy tx (λ e=>hne e.symm) nx;constructor
   ·intro hb o ho
    exact (this.1 (znj hx hy hne ny hb) o ho).symm
   ·intro hall
    exact znj hy hx (λ e=>hne e.symm) nx (this.2 λ o ho=>(hall o ho).symm)
 ·have ox:O x:=hx.resolve_left tx
  by_cases ty:T y
  ·exact mixed ox ty hne ny
  ·have oy:O y:=hy.resolve_left ty
   constructor
   ·intro hb
    refine absurd (za4 (h.rest y oy) λ e he=>?_) hb.2;exact ⟨⟨.inl he,λ k=>tx (k▸he)⟩,λ k=>ty (k▸he)⟩
   ·intro hall
    have:=(hall x ox).1 (h.own ox);rcases this with ⟨k,_⟩ | ⟨_,k⟩
    ·exact absurd k ty
    ·exact absurd k.symm hne
def zfh (a b:ι->α) (T O:ι->Prop) (x y:ι):Prop:=∀o,O o->(cov a b T x o↔cov a b T y o)
theorem zc3.thrice (h:zc3 a b T O) (N:List ι) (hN:∀e,e∈N↔un T O e):
 (∀e,un T O e->cn a b (λ d=>un T O d/\¬zfh a b T O e d) u v)↔∀e f,un T O e->un T O f->cn a b (but (but (un T O) e) f) u v:=by
 have mono2:∀{e f:ι},cn a b (but (but (un T O) e) f) u v->cn a b (but (un T O) e) u v:=λ k=>zb7 k
 constructor
 ·intro hall e f he hf
  have ce:=hall e he;by_cases hal:zfh a b T O e f
  ·refine za4 ce λ d hd=>⟨⟨hd.1,λ k=>hd.2 ?_⟩,λ k=>hd.2 ?_⟩
   ·rw [k];exact λ o _=>Iff.rfl
   ·rw [k];exact hal
  ·have hef:e≠f:=λ k=>hal (k▸λ o _=>Iff.rfl)
   have c1:cn a b (but (un T O) e) u v:=za4 ce λ d hd=>⟨hd.1,λ k=>hd.2 (k▸λ o _=>Iff.rfl)⟩
   have cf:cn a b (but (un T O) f) u v:=za4 (hall f hf) λ d hd=>⟨hd.1,λ k=>hd.2 (k▸λ o _=>Iff.rfl)⟩
   have stays:∀{e f:ι},un T O e->un T O f->e≠f->br a b (un T O) e->¬br a b (un T O) f->cn a b (but (un T O) e) u v->cn a b (but (but (un T O) e) f) u v:=by
    intro e f he hf hef be nf ce;refine ze7 (λ _=>Classical.byContradiction λ hn=>be.2 ?_) ce;rw [zck] at hn;have:=heal (zld nf hf) hn;refine za4 this ?_;rintro d (⟨⟨h1,_⟩,h2⟩ | rfl)
    ·exact ⟨h1,h2⟩
    ·exact ⟨hf,λ k=>hef k.symm⟩
   by_cases be:br a b (un T O) e
   ·by_cases bf:br a b (un T O) f
    ·refine absurd (λ o ho=>?_) hal
     exact ⟨λ k=>absurd k ((h.bridge he).1 be o ho),λ k=>absurd k ((h.bridge hf).1 bf o ho)⟩
    ·exact stays he hf hef be bf c1
   ·by_cases bf:br a b (un T O) f
    ·rw [zck]
     exact stays hf he (λ k=>hef k.symm) bf be cf
    ·refine ze7 (λ hf'=>Classical.byContradiction λ hn=>hal ((h.pair he hf hef be bf).1 ⟨hf',hn⟩)) c1
 ·intro hall e he
  by_cases be:br a b (un T O) e
  ·have e1:∀d,un T O d->(zfh a b T O e d↔br a b (un T O) d):=λ d hd=>by
    have hE:=(h.bridge he).1 be;rw [h.bridge hd];exact ⟨λ k o ho hc=>hE o ho ((k o ho).2 hc),λ k o ho=>⟨λ hc=>absurd hc (hE o ho),λ hc=>absurd hc (k o ho)⟩⟩
   have hc:cn a b (un T O) u v:=zb7 (mono2 (hall e e he he));have hcl:=Classical.propDecidable;have:=zmi (a:=a) (b:=b) (T:=un T O) (x:=u) (y:=v) (N.filter λ d=>decide (br a b (un T O) d)) (λ d hd=>by
    obtain ⟨h1,h2⟩:=List.mem_filter.1 hd;have hd':=(hN d).1 h1;exact ⟨of_decide_eq_true h2,mono2 (hall d d hd' hd')⟩) hc
   refine za4 this λ d hd=>⟨hd.1,λ k=>hd.2 (List.mem_filter.2 ⟨(hN d).2 hd.1,decide_eq_true ((e1 d hd.1).1 k)⟩)⟩
  ·have hc:cn a b (but (un T O) e) u v:=mono2 (hall e e he he)
   have hcl:=Classical.propDecidable;have hal:∀d,un T O d->d≠e->zfh a b T O e d->br a b (but (un T O) e) d:=λ d hd hde k=>by
    have bd:¬br a b (un T O) d:=λ bd=>be ((h.bridge he).2 λ o ho hc=>(h.bridge hd).1 bd o ho ((k o ho).1 hc))
    exact (h.pair he hd (λ k=>hde k.symm) be bd).2 k
   have:=zmi (a:=a) (b:=b) (T:=but (un T O) e) (x:=u) (y:=v) (N.filter λ d=>decide (d≠e/\zfh a b T O e d)) (λ d hd=>by
    obtain ⟨h1,h2⟩:=List.mem_filter.1 hd;have hd':=(hN d).1 h1;obtain ⟨h3,h4⟩:=of_decide_eq_true h2;exact ⟨hal d hd' h3 h4,hall e d he hd'⟩) hc
   refine za4 this λ d hd=>⟨hd.1.1,λ k=>hd.2 (List.mem_filter.2 ⟨(hN d).2 hd.1.1,decide_eq_true ⟨hd.1.2,k⟩⟩)⟩
end
end Go.Proofs.YtebcjaenhiiflaaGreatDoor.S
namespace Go.Proofs.YtebcjaenhiiflaaGreatDoor.S
abbrev Edg:=Int × Int × Int
def zbj (n:Nat) (R:List Edg):Prop:=∀e∈R,ea e<n/\eb e<n
def lbl (n:Nat) (t:List Edg):List Nat:=joins (List.range n) t
theorem yaa2 (n u v:Nat):Lk n (List.range n) u v↔u=v:=by
 constructor
 ·rintro (h | ⟨h1,h2,h3⟩)
  ·exact h
  ·simpa [h1,h2] using h3
 ·exact .inl
theorem zcd {n:Nat} {t:List Edg} (h:zbj n t):Good n (lbl n t):=zce _ _ (zbi n) h
theorem zb6 {n:Nat} {t:List Edg} (h:zbj n t) {u v:Nat} (hu:u<n) (hv:v<n):(lbl n t).getD u 0=(lbl n t).getD v 0↔cnR t u v:=by
 rw [<-Lk.iff hu hv];unfold lbl;rw [zf7 _ _ (zbi n) h];constructor
 ·intro k
  refine zae.lift k ?_;rintro x y (h | ⟨e,he,rfl,rfl⟩)
  ·rw [(yaa2 n x y).1 h];exact zae.refl y
  ·exact zae.base ⟨e,he,rfl,rfl⟩
 ·intro k
  refine zae.lift k ?_;rintro x y ⟨e,he,rfl,rfl⟩;exact zae.base (.inr ⟨e,he,rfl,rfl⟩)
theorem zmh (n:Nat) (t:List Edg) (d:Edg):lbl n (t++[d])=joinL (lbl n t) (ea d) (eb d):=by
 unfold lbl;generalize List.range n=L;induction t generalizing L with
 | nil=>rfl
 | cons c t ih=>exact ih _
def zdc (n:Nat) (s:List Edg × List Edg) (e:Edg):List Edg × List Edg:=
 if (lbl n s.1).getD (ea e) 0=(lbl n s.1).getD (eb e) 0 then (s.1,s.2++[e]) else (s.1++[e],s.2)
def grw (n:Nat) (R:List Edg):List Edg × List Edg:=R.foldl (zdc n) ([],[])
theorem z1l (n:Nat) (R:List Edg) (e:Edg):grw n (R++[e])=zdc n (grw n R) e:=by simp [grw,List.foldl_append]
structure Gr (n:Nat) (R t o:List Edg):Prop where
 mem:∀e,e∈R↔e∈t\/e∈o
 forest:zc3 ea eb (·∈t) (·∈o)
 tsub:t.Sublist R
 osub:o.Sublist R
 len:t.length+o.length=R.length
theorem more_snoc' (R:List Edg) (f:Edg):(·∈R++[f])=more (·∈R) f:=by
 funext e;apply propext;simp [more]
theorem z0w (n:Nat):Gr n [] [] []:=⟨λ e=>by simp,⟨λ f hf=>by simp at hf,λ o ho=>by simp at ho,λ f hf=>by simp at hf⟩,List.Sublist.refl _,List.Sublist.refl _,rfl⟩
theorem z5f {n:Nat} {R t o:List Edg} (h:Gr n R t o) {e:Edg} (he:e∉R) (hin:zbj n R) (hen:ea e<n/\eb e<n):Gr n (R++[e]) (zdc n (t,o) e).1 (zdc n (t,o) e).2:=by
 have het:e∉t:=λ k=>he ((h.mem e).2 (.inl k))
 have heo:e∉o:=λ k=>he ((h.mem e).2 (.inr k))
 have htn:zbj n t:=λ d hd=>hin d ((h.mem d).2 (.inl hd))
 unfold zdc;by_cases hc:(lbl n t).getD (ea e) 0=(lbl n t).getD (eb e) 0
 ·simp only [if_pos hc]
  have hcn:=(zb6 htn hen.1 hen.2).1 hc;refine ⟨λ d=>by simp [h.mem d,or_assoc],⟨h.forest.tree,λ d hd=>?_,λ f hf ho=>?_⟩,h.tsub.trans (List.sublist_append_left _ _),h.osub.append (List.Sublist.refl _),by simp;have:=h.len;omega⟩
  ·rcases List.mem_append.1 hd with hd | hd
   ·exact h.forest.rest d hd
   ·rw [List.mem_singleton.1 hd];exact hcn
  ·rcases List.mem_append.1 ho with ho | ho
   ·exact h.forest.apart f hf ho
   ·rw [List.mem_singleton.1 ho] at hf;exact het hf
 ·simp only [if_neg hc]
  have hcn:¬cnR t (ea e) (eb e):=λ k=>hc ((zb6 htn hen.1 hen.2).2 k)
  have hm:=more_snoc' t e;refine ⟨λ d=>?_,⟨λ f hf=>?_,λ d hd=>?_,λ f hf ho=>?_⟩,h.tsub.append (List.Sublist.refl _),h.osub.trans (List.sublist_append_left _ _),by simp;have:=h.len;omega⟩
  ·rw [List.mem_append,h.mem d,List.mem_append]
   constructor
   ·rintro ((k | k) | k)
    ·exact .inl (.inl k)
    ·exact .inr k
    ·exact .inl (.inr k)
   ·rintro ((k | k) | k)
    ·exact .inl (.inl k)
    ·exact .inr k
    ·exact .inl (.inr k)
  ·have hb:br ea eb (more (·∈t) e) f:=by
    rw [zq2 het hcn];rcases List.mem_append.1 hf with hf | hf
    ·exact .inl ⟨hf,h.forest.tree f hf⟩
    ·exact .inr (List.mem_singleton.1 hf)
   show ¬cn ea eb (but (·∈t++[e]) f) (ea f) (eb f);rw [hm];exact hb.2
  ·show cn ea eb (·∈t++[e]) (ea d) (eb d)
   rw [hm];exact za0 (h.forest.rest d hd)
  ·rcases List.mem_append.1 hf with hf | hf
   ·exact h.forest.apart f hf ho
   ·rw [List.mem_singleton.1 hf] at ho;exact heo ho
theorem zt4 {n:Nat}:∀(S Q:List Edg) (s:List Edg × List Edg),Gr n Q s.1 s.2->(Q++S).Nodup->zbj n (Q++S)->Gr n (Q++S) (S.foldl (zdc n) s).1 (S.foldl (zdc n) s).2
 | [],Q,s,h,_,_=>by rw [List.append_nil];exact h
 | e::S,Q,s,h,hnd,hin=>by
   have hnd':=hnd;rw [List.nodup_append] at hnd';have h1:=z5f h (e:=e) (λ k=>hnd'.2.2 e k e (by simp) rfl) (λ d hd=>hin d (List.mem_append_left _ hd)) (hin e (by simp));have e1:Q++e::S=(Q++[e])++S:=by simp
   rw [e1] at hnd hin ⊢;exact zt4 S (Q++[e]) (zdc n s e) h1 hnd hin
theorem zi7 {n:Nat} (R:List Edg) (hnd:R.Nodup) (hin:zbj n R):Gr n R (grw n R).1 (grw n R).2:=by
 have:=zt4 R [] ([],[]) (z0w n) (by simpa using hnd) (by simpa using hin)
 simpa [grw] using this
def zaz (c:Nat->Bool):Nat->Nat
 | 0=>0
 | m+1=>zaz c m+if c m then 2^m else 0
theorem zgf (c:Nat->Bool):∀m,zaz c m<2^m
 | 0=>by simp [zaz]
 | m+1=>by
   have:=zgf c m;simp only [zaz,Nat.pow_succ];split <;> omega
theorem zjf {c d:Nat->Bool}:∀{m},zaz c m=zaz d m->∀i,i<m->c i=d i
 | 0,_,i,hi=>by omega
 | m+1,h,i,hi=>by
   have h1:=zgf c m;have h2:=zgf d m;simp only [zaz] at h;have hp:=Nat.two_pow_pos m;have hcd:c m=d m:=by
    cases hc:c m <;> cases hd:d m <;> simp [hc,hd] at h <;> first | rfl | omega
   by_cases e:i=m
   ·rw [e];exact hcd
   ·refine zjf (m:=m) ?_ i (by omega)
    rw [hcd] at h;omega
theorem zff {c d:Nat->Bool} {m:Nat} (h:∀i,i<m->c i=d i):zaz c m=zaz d m:=by
 induction m with
 | zero=>rfl
 | succ m ih=>simp only [zaz];rw [ih (λ i hi=>h i (by omega)),h m (by omega)]
theorem yaaz {x i:Nat} (h:x<2^i):x ||| 2^i=x+2^i:=by
 have:=Nat.two_pow_add_eq_or_of_lt h 1;simp at this;rw [Nat.or_comm,<-this,Nat.add_comm]
end Go.Proofs.YtebcjaenhiiflaaGreatDoor.S
