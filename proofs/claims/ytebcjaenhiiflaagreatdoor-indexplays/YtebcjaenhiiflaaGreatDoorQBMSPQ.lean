import Derived.Test.YtebcjaenhiiflaaGreatDoorQHiSM
set_option maxHeartbeats 400000
namespace Go.Proofs.YtebcjaenhiiflaaGreatDoor.S
def zae {α:Type} (S:α->α->Prop) (x y:α):Prop:=
 ∀P:α->α->Prop,(∀x,P x x)->(∀x y,P x y->P y x)->(∀x y z,P x y->P y z->P x z)->(∀x y,S x y->P x y)->P x y
namespace zae
variable {α:Type} {S S':α->α->Prop} {x y z:α}
theorem refl (x:α):zae S x x:=λ _ h _ _ _=>h x
theorem symm (h:zae S x y):zae S y x:=λ P a b c d=>b _ _ (h P a b c d)
theorem trans (h:zae S x y) (k:zae S y z):zae S x z:=λ P a b c d=>c _ _ _ (h P a b c d) (k P a b c d)
theorem base (h:S x y):zae S x y:=λ _ _ _ _ d=>d _ _ h
theorem least {P:α->α->Prop} (h:zae S x y) (a:∀x,P x x) (b:∀x y,P x y->P y x) (c:∀x y z,P x y->P y z->P x z) (d:∀x y,S x y->P x y):P x y:=h P a b c d
theorem lift (h:zae S x y) (d:∀x y,S x y->zae S' x y):zae S' x y:=h.least refl (λ _ _=>symm) (λ _ _ _=>trans) d
end zae
section
variable {α ι:Type} (a b:ι->α)
def cn (T:ι->Prop):α->α->Prop:=zae λ x y=>∃e,T e/\a e=x/\b e=y
def but (T:ι->Prop) (f:ι):ι->Prop:=λ e=>T e/\e≠f
def more (T:ι->Prop) (f:ι):ι->Prop:=λ e=>T e\/e=f
def br (T:ι->Prop) (e:ι):Prop:=T e/\¬cn a b (but T e) (a e) (b e)
def tw (T:ι->Prop) (x y:α):Prop:=cn a b T x y/\∀e,T e->cn a b (but T e) x y
variable {a b} {T T':ι->Prop} {x y z u v:α} {e f:ι}
theorem zaj (h:T e):cn a b T (a e) (b e):=zae.base ⟨e,h,rfl,rfl⟩
theorem zf1 (h:cn a b T x y) (d:∀e,T e->cn a b T' (a e) (b e)):cn a b T' x y:=
 zae.lift h (by rintro _ _ ⟨e,he,rfl,rfl⟩;exact d e he)
theorem za4 (h:cn a b T x y) (d:∀e,T e->T' e):cn a b T' x y:=zf1 h λ e he=>zaj (d e he)
theorem zb7 (h:cn a b (but T f) x y):cn a b T x y:=za4 h λ _ he=>he.1
theorem zaw (x:α):cn a b T x x:=zae.refl x
theorem zac (h:cn a b T x y):cn a b T y x:=zae.symm h
theorem zaa (h:cn a b T x y) (k:cn a b T y z):cn a b T x z:=zae.trans h k
theorem zcx (f:ι) (h:cn a b T u v):cn a b (but T f) u v\/(cn a b (but T f) u (a f)/\cn a b (but T f) (b f) v)\/(cn a b (but T f) u (b f)/\cn a b (but T f) (a f) v):=by
 refine zae.least (P:=λ u v=>cn a b (but T f) u v\/(cn a b (but T f) u (a f)/\cn a b (but T f) (b f) v)\/(cn a b (but T f) u (b f)/\cn a b (but T f) (a f) v)) h (λ x=>.inl (zaw x)) ?_ ?_ ?_
 ·rintro x y (h | ⟨h,k⟩ | ⟨h,k⟩)
  ·exact .inl (zac h)
  ·exact .inr (.inr ⟨zac k,zac h⟩)
  ·exact .inr (.inl ⟨zac k,zac h⟩)
 ·rintro x y z (h | ⟨h,k⟩ | ⟨h,k⟩) (h' | ⟨h',k'⟩ | ⟨h',k'⟩)
  ·exact .inl (zaa h h')
  ·exact .inr (.inl ⟨zaa h h',k'⟩)
  ·exact .inr (.inr ⟨zaa h h',k'⟩)
  ·exact .inr (.inl ⟨h,zaa k h'⟩)
  ·exact .inr (.inl ⟨h,k'⟩)
  ·exact .inl (zaa h k')
  ·exact .inr (.inr ⟨h,zaa k h'⟩)
  ·exact .inl (zaa h k')
  ·exact .inr (.inr ⟨h,k'⟩)
 ·rintro _ _ ⟨e,he,rfl,rfl⟩
  by_cases hf:e=f
  ·subst hf;exact .inr (.inl ⟨zaw _,zaw _⟩)
  ·exact .inl (zaj ⟨he,hf⟩)
theorem zey (hf:¬T f):but (more T f) f=T:=by
 funext e;apply propext
 exact ⟨λ h=>h.1.elim id (λ k=>absurd k h.2),λ h=>⟨.inl h,λ k=>hf (k▸h)⟩⟩
theorem zc7 (hne:e≠f):but (more T f) e=more (but T e) f:=by
 funext d;apply propext
 constructor
 ·rintro ⟨h | h,k⟩
  ·exact .inl ⟨h,k⟩
  ·exact .inr h
 ·rintro (h | h)
  ·exact ⟨.inl h.1,h.2⟩
  ·subst h;exact ⟨.inr rfl,hne.symm⟩
theorem za0 (h:cn a b T x y):cn a b (more T f) x y:=za4 h λ _=>.inl
theorem zfm (hf:¬T f) (h:cn a b (more T f) u v):cn a b T u v\/(cn a b T u (a f)/\cn a b T (b f) v)\/(cn a b T u (b f)/\cn a b T (a f) v):=by
 have:=zcx f h;rwa [zey hf] at this
theorem zev:cn a b (more T f) (a f) (b f):=zaj (.inr rfl)
theorem zsa (hf:¬T f):cn a b (more T f) u v↔cn a b T u v\/(cn a b T u (a f)/\cn a b T (b f) v)\/(cn a b T u (b f)/\cn a b T (a f) v):=by
 refine ⟨zfm hf,?_⟩;rintro (h | ⟨h,k⟩ | ⟨h,k⟩)
 ·exact za0 h
 ·exact zaa (za0 h) (zaa zev (za0 k))
 ·exact zaa (za0 h) (zaa (zac zev) (za0 k))
theorem zeo (h:cn a b T (a f) (b f)):cn a b (more T f) u v↔cn a b T u v:=
 ⟨λ k=>zf1 k (by rintro e (he | rfl);exact zaj he;exact h),za0⟩
theorem zq2 (hf:¬T f) (h:¬cn a b T (a f) (b f)):br a b (more T f) e↔br a b T e\/e=f:=by
 by_cases hne:e=f
 ·subst hne
  refine ⟨λ _=>.inr rfl,λ _=>⟨.inr rfl,?_⟩⟩;rw [zey hf];exact h
 ·have hf':¬but T e f:=λ k=>hf k.1
  unfold br;rw [zc7 hne];constructor
  ·rintro ⟨h1 | h1,h2⟩
   ·exact .inl ⟨h1,λ k=>h2 (za0 k)⟩
   ·exact absurd h1 hne
  ·rintro (⟨h1,h2⟩ | h1)
   ·refine ⟨.inl h1,λ k=>?_⟩
    rcases zfm hf' k with k | ⟨k1,k2⟩ | ⟨k1,k2⟩
    ·exact h2 k
    ·exact h (zaa (zac (zb7 k1)) (zaa (zaj h1) (zac (zb7 k2))))
    ·exact h (zaa (zb7 k2) (zaa (zac (zaj h1)) (zb7 k1)))
   ·exact absurd h1 hne
theorem z00 (hf:¬T f) (h:¬cn a b T (a f) (b f)):tw a b (more T f) u v↔tw a b T u v:=by
 constructor
 ·rintro ⟨h1,h2⟩
  have h3:cn a b T u v:=by have:=h2 f (.inr rfl);rwa [zey hf] at this
  refine ⟨h3,λ e he=>?_⟩;have hne:e≠f:=λ k=>hf (k▸he)
  have h4:=h2 e (.inl he);rw [zc7 hne] at h4;rcases zfm (λ k=>hf k.1) h4 with k | ⟨k1,k2⟩ | ⟨k1,k2⟩
  ·exact k
  ·exact absurd (zaa (zac (zb7 k1)) (zaa h3 (zac (zb7 k2)))) h
  ·exact absurd (zaa (zb7 k2) (zaa (zac h3) (zb7 k1))) h
 ·rintro ⟨h1,h2⟩
  refine ⟨za0 h1,?_⟩;rintro e (he | rfl)
  ·have hne:e≠f:=λ k=>hf (k▸he)
   rw [zc7 hne];exact za0 (h2 e he)
  ·rw [zey hf];exact h1
def sep (T:ι->Prop) (a b:ι->α) (x y:α) (e:ι):Prop:=T e/\¬cn a b (but T e) x y
theorem yaba (h:cn a b T x y) (s:sep T a b x y e):br a b T e:=
 ⟨s.1,λ k=>s.2 (zf1 h λ d hd=>by
   by_cases hde:d=e
   ·subst hde;exact k
   ·exact zaj ⟨hd,hde⟩)⟩
theorem heal (h:cn a b T (a f) (b f)) (s:¬cn a b (but T e) (a f) (b f)):cn a b (more (but T e) f) (a e) (b e):=by
 rcases zcx e h with k | ⟨k1,k2⟩ | ⟨k1,k2⟩
 ·exact absurd k s
 ·exact zaa (zac (za0 k1)) (zaa zev (zac (za0 k2)))
 ·exact zaa (za0 k2) (zaa (zac zev) (za0 k1))
theorem z0g (hf:¬T f) (h:cn a b T (a f) (b f)):br a b (more T f) e↔br a b T e/\¬sep T a b (a f) (b f) e:=by
 by_cases hne:e=f
 ·subst hne
  constructor
  ·rintro ⟨_,k⟩;rw [zey hf] at k;exact absurd h k
  ·rintro ⟨k,_⟩;exact absurd k.1 hf
 ·unfold br sep
  rw [zc7 hne];constructor
  ·rintro ⟨h1 | h1,h2⟩
   ·exact ⟨⟨h1,λ k=>h2 (za0 k)⟩,λ s=>h2 (heal h s.2)⟩
   ·exact absurd h1 hne
  ·rintro ⟨⟨h1,h2⟩,h3⟩
   refine ⟨.inl h1,λ k=>?_⟩;have h4:cn a b (but T e) (a f) (b f):=Classical.byContradiction λ k'=>h3 ⟨h1,k'⟩
   exact h2 ((zeo h4).1 k)
theorem zyn (hf:¬T f) (h:cn a b T (a f) (b f)):tw a b (more T f) u v↔cn a b T u v/\∀e,T e->cn a b (but T e) (a f) (b f)->cn a b (but T e) u v:=by
 constructor
 ·rintro ⟨h1,h2⟩
  refine ⟨(zeo h).1 h1,λ e he k=>?_⟩;have hne:e≠f:=λ k=>hf (k▸he)
  have h4:=h2 e (.inl he);rw [zc7 hne] at h4;exact (zeo k).1 h4
 ·rintro ⟨h1,h2⟩
  refine ⟨za0 h1,?_⟩;rintro e (he | rfl)
  ·have hne:e≠f:=λ k=>hf (k▸he)
   rw [zc7 hne];by_cases k:cn a b (but T e) (a f) (b f)
   ·exact za0 (h2 e he k)
   ·refine zf1 h1 λ d hd=>?_
    by_cases hde:d=e
    ·subst hde;exact heal h k
    ·exact zaj (.inl ⟨hd,hde⟩)
  ·rw [zey hf];exact h1
theorem ztm (x:α):tw a b T x x:=⟨zaw x,λ _ _=>zaw x⟩
theorem zt6 (h:tw a b T x y):tw a b T y x:=⟨zac h.1,λ e he=>zac (h.2 e he)⟩
theorem zqf (h:tw a b T x y) (k:tw a b T y z):tw a b T x z:=⟨zaa h.1 k.1,λ e he=>zaa (h.2 e he) (k.2 e he)⟩
theorem z4y (he:T e):br a b T e\/tw a b T (a e) (b e):=by
 by_cases h:cn a b (but T e) (a e) (b e)
 ·refine .inr ⟨zaj he,λ d hd=>?_⟩
  by_cases hde:e=d
  ·subst hde;exact h
  ·exact zaj ⟨he,hde⟩
 ·exact .inl ⟨he,h⟩
theorem zij (h:br a b T e):¬tw a b T (a e) (b e):=λ k=>h.2 (k.2 e h.1)
theorem zmi (N:List ι):(∀e∈N,br a b T e/\cn a b (but T e) x y)->cn a b T x y->cn a b (λ e=>T e/\e∉N) x y:=by
 induction N with
 | nil=>intro _ h;exact za4 h λ e he=>⟨he,by simp⟩
 | cons d N ih=>
   intro hN h;have h1:=ih (λ e he=>hN e (List.mem_cons_of_mem _ he)) h;have hd:=hN d List.mem_cons_self;have e1:but (λ e=>T e/\e∉N) d=λ e=>T e/\e∉d::N:=by
    funext e;apply propext;simp only [but,List.mem_cons,not_or];exact ⟨λ h=>⟨h.1.1,h.2,h.1.2⟩,λ h=>⟨⟨h.1,h.2.2⟩,h.2.1⟩⟩
   have up:∀{p q:α},cn a b (λ e=>T e/\e∉d::N) p q->cn a b (but T d) p q:=λ k=>za4 k λ e he=>⟨he.1,λ k=>he.2 (k▸List.mem_cons_self)⟩
   rcases zcx d h1 with k | ⟨k1,k2⟩ | ⟨k1,k2⟩
   ·rwa [e1] at k
   ·rw [e1] at k1 k2
    exact absurd (zaa (zac (up k1)) (zaa hd.2 (zac (up k2)))) hd.1.2
   ·rw [e1] at k1 k2
    exact absurd (zaa (up k2) (zaa (zac hd.2) (up k1))) hd.1.2
theorem zxl (B:List ι) (hB:∀e,e∈B↔br a b T e) (hf:¬T f) (h:cn a b T (a f) (b f)):
 tw a b (more T f) u v↔zae (λ x y=>tw a b T x y\/∃e,sep T a b (a f) (b f) e/\a e=x/\b e=y) u v:=by
 rw [zyn hf h];constructor
 ·rintro ⟨h1,h2⟩
  have hdec:∃N:List ι,∀e,e∈N↔e∈B/\cn a b (but T e) u v:=by
   clear h2 h1 hf h hB;induction B with
   | nil=>exact ⟨[],by simp⟩
   | cons d B ih=>
     obtain ⟨N,hN⟩:=ih;by_cases hd:cn a b (but T d) u v
     ·exact ⟨d::N,λ e=>by
       simp only [List.mem_cons,hN];constructor
       ·rintro (rfl | h)
        ·exact ⟨.inl rfl,hd⟩
        ·exact ⟨.inr h.1,h.2⟩
       ·rintro ⟨rfl | h,k⟩
        ·exact .inl rfl
        ·exact .inr ⟨h,k⟩⟩
     ·exact ⟨N,λ e=>by
       simp only [List.mem_cons,hN];constructor
       ·rintro h;exact ⟨.inr h.1,h.2⟩
       ·rintro ⟨rfl | h,k⟩
        ·exact absurd k hd
        ·exact ⟨h,k⟩⟩
  obtain ⟨N,hN⟩:=hdec;have h3:=zmi N (λ e he=>⟨(hB e).1 ((hN e).1 he).1,((hN e).1 he).2⟩) h1;refine zae.lift h3 ?_;rintro _ _ ⟨e,⟨he,hn⟩,rfl,rfl⟩;rcases z4y he with k | k
  ·have hns:¬cn a b (but T e) u v:=λ c=>hn ((hN e).2 ⟨(hB e).2 k,c⟩)
   exact zae.base (.inr ⟨e,⟨he,λ c=>hns (h2 e he c)⟩,rfl,rfl⟩)
  ·exact zae.base (.inl k)
 ·intro k
  refine zae.least (P:=λ u v=>cn a b T u v/\∀e,T e->cn a b (but T e) (a f) (b f)->cn a b (but T e) u v) k (λ x=>⟨zaw x,λ _ _ _=>zaw x⟩) (λ x y h=>⟨zac h.1,λ e he k=>zac (h.2 e he k)⟩) (λ x y z h h'=>⟨zaa h.1 h'.1,λ e he k=>zaa (h.2 e he k) (h'.2 e he k)⟩) ?_;rintro _ _ (h1 | ⟨e,he,rfl,rfl⟩)
  ·exact ⟨h1.1,λ e he _=>h1.2 e he⟩
  ·refine ⟨zaj he.1,λ d hd k=>?_⟩
   exact zaj ⟨he.1,λ c=>he.2 (c▸k)⟩
theorem zwg (f0:ι->Prop) (hf0:∀e,f0 e->T e) (h:cn a b f0 x y):
 tw a b T x y\/∃e u v,br a b T e/\f0 e/\((a e=u/\b e=v)\/(b e=u/\a e=v))/\tw a b T x u/\cn a b (but T e) v y:=by
 refine (zae.least (P:=λ p q=>(tw a b T x p\/∃e u v,br a b T e/\f0 e/\((a e=u/\b e=v)\/(b e=u/\a e=v))/\tw a b T x u/\cn a b (but T e) v p)↔(tw a b T x q\/∃e u v,br a b T e/\f0 e/\((a e=u/\b e=v)\/(b e=u/\a e=v))/\tw a b T x u/\cn a b (but T e) v q)) h (λ _=>Iff.rfl) (λ _ _ h=>h.symm) (λ _ _ _ h k=>h.trans k) ?_).1 (.inl (ztm x));have step:∀(d:ι) (p q:α),f0 d->((a d=p/\b d=q)\/(b d=p/\a d=q))->
  (tw a b T x p\/∃e u v,br a b T e/\f0 e/\((a e=u/\b e=v)\/(b e=u/\a e=v))/\tw a b T x u/\cn a b (but T e) v p)->
  (tw a b T x q\/∃e u v,br a b T e/\f0 e/\((a e=u/\b e=v)\/(b e=u/\a e=v))/\tw a b T x u/\cn a b (but T e) v q):=by
  intro d p q hd hpq hp;have hT:=hf0 d hd;have hcn:∀e,e≠d->cn a b (but T e) p q:=by
   intro e hne;rcases hpq with ⟨rfl,rfl⟩ | ⟨rfl,rfl⟩
   ·exact zaj ⟨hT,λ k=>hne k.symm⟩
   ·exact zac (zaj ⟨hT,λ k=>hne k.symm⟩)
  rcases hp with hp | ⟨e,u,v,hbr,hfe,huv,hxu,hvp⟩
  ·rcases z4y (a:=a) (b:=b) hT with k | k
   ·exact .inr ⟨d,p,q,k,hd,hpq,hp,zaw q⟩
   ·refine .inl (zqf hp ?_)
    rcases hpq with ⟨rfl,rfl⟩ | ⟨rfl,rfl⟩
    ·exact k
    ·exact zt6 k
  ·by_cases hed:e=d
   ·subst hed
    have huv':¬cn a b (but T e) u v:=by
     rcases huv with ⟨rfl,rfl⟩ | ⟨rfl,rfl⟩
     ·exact hbr.2
     ·exact λ k=>hbr.2 (zac k)
    have hqu:q=u:=by
     rcases huv with ⟨rfl,rfl⟩ | ⟨rfl,rfl⟩ <;> rcases hpq with ⟨rfl,rfl⟩ | ⟨rfl,rfl⟩
     ·exact absurd (zac hvp) huv'
     ·rfl
     ·rfl
     ·exact absurd (zac hvp) huv'
    subst hqu;exact .inl hxu
   ·exact .inr ⟨e,u,v,hbr,hfe,huv,hxu,zaa hvp (hcn e hed)⟩
 rintro _ _ ⟨d,hd,rfl,rfl⟩;exact ⟨step d _ _ hd (.inl ⟨rfl,rfl⟩),step d _ _ hd (.inr ⟨rfl,rfl⟩)⟩
theorem narrower {e0 e1:ι} {p q r s t:α} (h0:br a b T e0) (h1:br a b T e1) (hne:e0≠e1)
 (h0e:(a e0=p/\b e0=q)\/(b e0=p/\a e0=q)) (h1e:(a e1=r/\b e1=s)\/(b e1=r/\a e1=s)) (hqr:tw a b T q r)
 (hc:cn a b (but T e1) t s):t≠a e0/\cn a b (but T e0) t r:=by
 have k0:cn a b (but T e1) p q:=by
  rcases h0e with ⟨rfl,rfl⟩ | ⟨rfl,rfl⟩
  ·exact zaj ⟨h0.1,hne⟩
  ·exact zac (zaj ⟨h0.1,hne⟩)
 have k1:¬cn a b (but T e1) r s:=by
  rcases h1e with ⟨rfl,rfl⟩ | ⟨rfl,rfl⟩
  ·exact h1.2
  ·exact λ k=>h1.2 (zac k)
 have kq:cn a b (but T e1) q r:=hqr.2 e1 h1.1;have nq:∀t,cn a b (but T e1) t s->(t=p\/t=q)->False:=by
  rintro t ht (rfl | rfl)
  ·exact k1 (zaa (zac kq) (zaa (zac k0) ht))
  ·exact k1 (zaa (zac kq) ht)
 have hends:(a e0=p\/a e0=q)/\(b e0=p\/b e0=q):=by
  rcases h0e with ⟨h,k⟩ | ⟨h,k⟩
  ·exact ⟨.inl h,.inr k⟩
  ·exact ⟨.inr k,.inl h⟩
 refine ⟨?_,?_⟩
 ·rintro rfl
  exact nq _ hc hends.1
 ·have k2:cn a b (but T e0) s r:=by
   rcases h1e with ⟨rfl,rfl⟩ | ⟨rfl,rfl⟩
   ·exact zac (zaj ⟨h1.1,λ k=>hne k.symm⟩)
   ·exact zaj ⟨h1.1,λ k=>hne k.symm⟩
  have sub:∀{p q:α},cn a b (but (but T e1) e0) p q->cn a b (but T e0) p q:=λ k=>za4 k λ e he=>⟨he.1.1,he.2⟩
  rcases zcx e0 hc with k | ⟨_,k⟩ | ⟨_,k⟩
  ·exact zaa (sub k) k2
  ·exact absurd (zb7 k) (λ k=>nq _ k hends.2)
  ·exact absurd (zb7 k) (λ k=>nq _ k hends.1)
theorem z0p {x' y':α} (hx:tw a b T x x') (hy:tw a b T y y') (e:ι):sep T a b x y e↔sep T a b x' y' e:=
 ⟨λ h=>⟨h.1,λ k=>h.2 (zaa (hx.2 e h.1) (zaa k (zac (hy.2 e h.1))))⟩,λ h=>⟨h.1,λ k=>h.2 (zaa (zac (hx.2 e h.1)) (zaa k (hy.2 e h.1)))⟩⟩
theorem z2i {r s:α} (h1:br a b T e) (he:(a e=r/\b e=s)\/(b e=r/\a e=s)) (hxr:tw a b T x r) (hs:tw a b T s z) (hy:cn a b (but T e) s y) (d:ι):
 sep T a b x y d↔d=e\/sep T a b z y d:=by
 have k1:¬cn a b (but T e) r s:=by
  rcases he with ⟨rfl,rfl⟩ | ⟨rfl,rfl⟩
  ·exact h1.2
  ·exact λ k=>h1.2 (zac k)
 by_cases hde:d=e
 ·subst hde
  refine ⟨λ _=>.inl rfl,λ _=>⟨h1.1,λ k=>k1 ?_⟩⟩;exact zaa (zac (hxr.2 d h1.1)) (zaa k (zac hy))
 ·have k2:cn a b (but T d) r s:=by
   rcases he with ⟨rfl,rfl⟩ | ⟨rfl,rfl⟩
   ·exact zaj ⟨h1.1,λ k=>hde k.symm⟩
   ·exact zac (zaj ⟨h1.1,λ k=>hde k.symm⟩)
  constructor
  ·rintro ⟨h2,h3⟩
   exact .inr ⟨h2,λ k=>h3 (zaa (zaa (hxr.2 d h2) k2) (zaa (hs.2 d h2) k))⟩
  ·rintro (h2 | ⟨h2,h3⟩)
   ·exact absurd h2 hde
   ·exact ⟨h2,λ k=>h3 (zaa (zac (hs.2 d h2)) (zaa (zac k2) (zaa (zac (hxr.2 d h2)) k)))⟩
end
end Go.Proofs.YtebcjaenhiiflaaGreatDoor.S
namespace Go.Proofs.YtebcjaenhiiflaaGreatDoor.S
def Lk (n:Nat) (L:List Nat) (u v:Nat):Prop:=u=v\/(u<n/\v<n/\L.getD u 0=L.getD v 0)
theorem Lk.refl {n:Nat} {L:List Nat} (u:Nat):Lk n L u u:=.inl rfl
theorem Lk.symm {n:Nat} {L:List Nat} {u v:Nat} (h:Lk n L u v):Lk n L v u:=by
 rcases h with h | ⟨h1,h2,h3⟩
 ·exact .inl h.symm
 ·exact .inr ⟨h2,h1,h3.symm⟩
theorem Lk.trans {n:Nat} {L:List Nat} {u v z:Nat} (h:Lk n L u v) (k:Lk n L v z):Lk n L u z:=by
 rcases h with rfl | ⟨h1,h2,h3⟩
 ·exact k
 ·rcases k with rfl | ⟨k1,k2,k3⟩
  ·exact .inr ⟨h1,h2,h3⟩
  ·exact .inr ⟨h1,k2,h3.trans k3⟩
theorem Lk.lt {n:Nat} {L:List Nat} {u v:Nat} (h:Lk n L u v) (hu:u<n):v<n:=by
 rcases h with rfl | h
 ·exact hu
 ·exact h.2.1
theorem Lk.iff {n:Nat} {L:List Nat} {u v:Nat} (hu:u<n) (hv:v<n):Lk n L u v↔L.getD u 0=L.getD v 0:=by
 constructor
 ·rintro (rfl | h)
  ·rfl
  ·exact h.2.2
 ·exact λ h=>.inr ⟨hu,hv,h⟩
theorem zpv {lo hi p q:Nat}:named lo hi p=named lo hi q↔p=q\/(p=lo/\q=hi)\/(p=hi/\q=lo):=by
 unfold named;split <;> split <;> omega
theorem zgk {n:Nat} {L:List Nat} (hl:L.length=n) {x y u v:Nat} (hu:u<n) (hv:v<n):
 (joinL L x y).getD u 0=(joinL L x y).getD v 0↔L.getD u 0=L.getD v 0\/(L.getD u 0=L.getD x 0/\L.getD y 0=L.getD v 0)\/(L.getD u 0=L.getD y 0/\L.getD x 0=L.getD v 0):=by
 rw [zdi _ _ _ _ (by omega),zdi _ _ _ _ (by omega),zpv];omega
theorem zei {n:Nat} {L:List Nat} (hl:L.length=n) {x y u v:Nat} (hx:x<n) (hy:y<n):
 Lk n (joinL L x y) u v↔Lk n L u v\/(Lk n L u x/\Lk n L y v)\/(Lk n L u y/\Lk n L x v):=by
 constructor
 ·rintro (rfl | ⟨hu,hv,h⟩)
  ·exact .inl (Lk.refl _)
  ·rw [zgk hl hu hv] at h
   rw [Lk.iff hu hv,Lk.iff hu hx,Lk.iff hy hv,Lk.iff hu hy,Lk.iff hx hv];exact h
 ·rintro (h | ⟨h,k⟩ | ⟨h,k⟩)
  ·rcases h with rfl | ⟨hu,hv,h⟩
   ·exact Lk.refl _
   ·rw [Lk.iff hu hv,zgk hl hu hv];exact .inl h
  ·have hu:=h.symm.lt hx
   have hv:=k.lt hy;rw [Lk.iff hu hx] at h;rw [Lk.iff hy hv] at k;rw [Lk.iff hu hv,zgk hl hu hv];exact .inr (.inl ⟨h,k⟩)
  ·have hu:=h.symm.lt hy
   have hv:=k.lt hx;rw [Lk.iff hu hy] at h;rw [Lk.iff hx hv] at k;rw [Lk.iff hu hv,zgk hl hu hv];exact .inr (.inr ⟨h,k⟩)
def ea (e:Int × Int × Int):Nat:=e.2.1.toNat
def eb (e:Int × Int × Int):Nat:=e.2.2.toNat
def joins (L:List Nat):List (Int × Int × Int)->List Nat
 | []=>L
 | d::ds=>joins (joinL L (ea d) (eb d)) ds
theorem zce {n:Nat}:∀(ds:List (Int × Int × Int)) (L:List Nat),Good n L->(∀d∈ds,ea d<n/\eb d<n)->Good n (joins L ds)
 | [],_,g,_=>g
 | d::ds,_,g,h=>zce ds _ (zgl g (h d List.mem_cons_self).1 (h d List.mem_cons_self).2) (λ e he=>h e (List.mem_cons_of_mem _ he))
theorem zf7 {n:Nat}:∀(ds:List (Int × Int × Int)) (L:List Nat) {u v:Nat},Good n L->(∀d∈ds,ea d<n/\eb d<n)->
 (Lk n (joins L ds) u v↔zae (λ x y=>Lk n L x y\/∃e,e∈ds/\ea e=x/\eb e=y) u v)
 | [],L,u,v,_,_=>by
   constructor
   ·exact λ h=>zae.base (.inl h)
   ·exact λ h=>zae.least (P:=Lk n L) h (λ _=>Lk.refl _) (λ _ _ h=>h.symm) (λ _ _ _ h k=>h.trans k) (by
     rintro x y (h | ⟨e,he,_⟩)
     ·exact h
     ·simp at he)
 | d::ds,L,u,v,g,hds=>by
   have hd:=hds d List.mem_cons_self;have hds':∀e∈ds,ea e<n/\eb e<n:=λ e he=>hds e (List.mem_cons_of_mem _ he)
   show Lk n (joins (joinL L (ea d) (eb d)) ds) u v↔_;rw [zf7 ds _ (zgl g hd.1 hd.2) hds'];have bd:zae (λ x y=>Lk n L x y\/∃e,e∈d::ds/\ea e=x/\eb e=y) (ea d) (eb d):=zae.base (.inr ⟨d,List.mem_cons_self,rfl,rfl⟩);constructor
   ·intro h
    refine zae.lift h ?_;rintro x y (h | ⟨e,he,h1,h2⟩)
    ·rw [zei g.len hd.1 hd.2] at h
     rcases h with h | ⟨h,k⟩ | ⟨h,k⟩
     ·exact zae.base (.inl h)
     ·exact (zae.base (.inl h)).trans (bd.trans (zae.base (.inl k)))
     ·exact (zae.base (.inl h)).trans (bd.symm.trans (zae.base (.inl k)))
    ·exact zae.base (.inr ⟨e,List.mem_cons_of_mem _ he,h1,h2⟩)
   ·intro h
    refine zae.lift h ?_;rintro x y (h | ⟨e,he,h1,h2⟩)
    ·exact zae.base (.inl ((zei g.len hd.1 hd.2).2 (.inl h)))
    ·rcases List.mem_cons.1 he with rfl | he
     ·subst h1 h2
      exact zae.base (.inl ((zei g.len hd.1 hd.2).2 (.inr (.inl ⟨Lk.refl _,Lk.refl _⟩))))
     ·exact zae.base (.inr ⟨e,he,h1,h2⟩)
abbrev cnR (R:List (Int × Int × Int)):Nat->Nat->Prop:=cn ea eb (·∈R)
abbrev twR (R:List (Int × Int × Int)):Nat->Nat->Prop:=tw ea eb (·∈R)
abbrev brR (R:List (Int × Int × Int)):Int × Int × Int->Prop:=br ea eb (·∈R)
abbrev zhs (R:List (Int × Int × Int)) (x y:Nat):Int × Int × Int->Prop:=sep (·∈R) ea eb x y
structure St (n:Nat) (R:List (Int × Int × Int)) (W T:List Nat) (B:List (Int × Int × Int)):Prop where
 gw:Good n W
 gt:Good n T
 inn:∀e∈R,ea e<n/\eb e<n
 nat:∀e∈R,e.2.1=(ea e:Int)/\e.2.2=(eb e:Int)
 one:∀e∈R,∀d∈R,e.1=d.1->e=d
 hW:∀u v,Lk n W u v↔cnR R u v
 hT:∀u v,Lk n T u v↔twR R u v
 hB:∀e,e∈B↔brR R e
theorem zed (R:List (Int × Int × Int)) (f:Int × Int × Int):(·∈R++[f])=more (·∈R) f:=by
 funext e;apply propext;simp [more]
theorem St.start (n:Nat):St n [] (List.range n) (List.range n) []:=by
 have h:∀u v,Lk n (List.range n) u v↔u=v:=by
  intro u v;constructor
  ·rintro (h | ⟨h1,h2,h3⟩)
   ·exact h
   ·simpa [h1,h2] using h3
  ·exact λ h=>.inl h
 have hc:∀u v,cnR [] u v↔u=v:=by
  intro u v;constructor
  ·exact λ h=>zae.least (P:=λ u v=>u=v) h (λ _=>rfl) (λ _ _ h=>h.symm) (λ _ _ _ h k=>h.trans k) (by rintro x y ⟨e,he,_⟩;simp at he)
  ·rintro rfl;exact zaw _
 refine ⟨zbi n,zbi n,by simp,by simp,by simp,λ u v=>by rw [h,hc],λ u v=>?_,λ e=>?_⟩
 ·rw [h]
  constructor
  ·rintro rfl;exact ztm _
  ·exact λ k=>(hc u v).1 k.1
 ·simp [brR,br]
theorem St.apart {n:Nat} {R:List (Int × Int × Int)} {W T:List Nat} {B:List (Int × Int × Int)} (s:St n R W T B) (f:Int × Int × Int) (ha:ea f<n) (hb:eb f<n) (hn:f.2.1=(ea f:Int)/\f.2.2=(eb f:Int)) (hone:∀e∈R,e.1≠f.1)
 (h:W.getD (ea f) 0≠W.getD (eb f) 0):St n (R++[f]) (joinL W (ea f) (eb f)) T (B++[f]):=by
 have hf:¬(λ x=>x∈R) f:=λ k=>hone f k rfl
 have hc:¬cn ea eb (·∈R) (ea f) (eb f):=λ k=>h ((Lk.iff ha hb).1 ((s.hW _ _).2 k))
 refine ⟨zgl s.gw ha hb,s.gt,?_,?_,?_,λ u v=>?_,λ u v=>?_,λ e=>?_⟩
 ·intro e he
  rcases List.mem_append.1 he with he | he
  ·exact s.inn e he
  ·rw [List.mem_singleton.1 he];exact ⟨ha,hb⟩
 ·intro e he
  rcases List.mem_append.1 he with he | he
  ·exact s.nat e he
  ·rw [List.mem_singleton.1 he];exact hn
 ·intro e he d hd hed
  rcases List.mem_append.1 he with he | he <;> rcases List.mem_append.1 hd with hd | hd
  ·exact s.one e he d hd hed
  ·rw [List.mem_singleton.1 hd] at hed;exact absurd hed (hone e he)
  ·rw [List.mem_singleton.1 he] at hed;exact absurd hed.symm (hone d hd)
  ·rw [List.mem_singleton.1 hd,List.mem_singleton.1 he]
 ·rw [zei s.gw.len ha hb]
  simp only [s.hW,cnR];rw [zed,zsa hf]
 ·simp only [twR]
  rw [zed,z00 hf hc];exact s.hT u v
 ·simp only [brR]
  rw [zed,zq2 hf hc,List.mem_append,List.mem_singleton,s.hB]
theorem St.within {n:Nat} {R:List (Int × Int × Int)} {W T:List Nat} {B B' ds:List (Int × Int × Int)} (s:St n R W T B) (f:Int × Int × Int) (ha:ea f<n) (hb:eb f<n) (hn:f.2.1=(ea f:Int)/\f.2.2=(eb f:Int)) (hone:∀e∈R,e.1≠f.1)
 (h:W.getD (ea f) 0=W.getD (eb f) 0) (hds:∀e,e∈ds↔zhs R (ea f) (eb f) e) (hB':∀e,e∈B'↔e∈B/\e∉ds):St n (R++[f]) W (joins T ds) B':=by
 have hf:¬(λ x=>x∈R) f:=λ k=>hone f k rfl
 have hc:cn ea eb (·∈R) (ea f) (eb f):=(s.hW _ _).1 ((Lk.iff ha hb).2 h);have hin:∀d∈ds,ea d<n/\eb d<n:=λ d hd=>s.inn d ((hds d).1 hd).1
 refine ⟨s.gw,zce ds T s.gt hin,?_,?_,?_,λ u v=>?_,λ u v=>?_,λ e=>?_⟩
 ·intro e he
  rcases List.mem_append.1 he with he | he
  ·exact s.inn e he
  ·rw [List.mem_singleton.1 he];exact ⟨ha,hb⟩
 ·intro e he
  rcases List.mem_append.1 he with he | he
  ·exact s.nat e he
  ·rw [List.mem_singleton.1 he];exact hn
 ·intro e he d hd hed
  rcases List.mem_append.1 he with he | he <;> rcases List.mem_append.1 hd with hd | hd
  ·exact s.one e he d hd hed
  ·rw [List.mem_singleton.1 hd] at hed;exact absurd hed (hone e he)
  ·rw [List.mem_singleton.1 he] at hed;exact absurd hed.symm (hone d hd)
  ·rw [List.mem_singleton.1 hd,List.mem_singleton.1 he]
 ·simp only [cnR]
  rw [zed,zeo hc];exact s.hW u v
 ·rw [zf7 ds T s.gt hin]
  simp only [twR];rw [zed,zxl B s.hB hf hc];have:(λ x y=>Lk n T x y\/∃e,e∈ds/\ea e=x/\eb e=y)=(λ x y=>tw ea eb (·∈R) x y\/∃e,sep (·∈R) ea eb (ea f) (eb f) e/\ea e=x/\eb e=y):=by
   funext x y;apply propext
   rw [s.hT];simp only [hds]
  rw [this]
 ·simp only [brR]
  rw [zed,z0g hf hc,hB',s.hB,hds]
end Go.Proofs.YtebcjaenhiiflaaGreatDoor.S
namespace Go.Proofs.YtebcjaenhiiflaaGreatDoor.S
def Ends (e:Int × Int × Int) (u v:Nat):Prop:=(ea e=u/\eb e=v)\/(eb e=u/\ea e=v)
def Hop (R:List (Int × Int × Int)) (T:List Nat) (fr:Nat) (back:Int) (Z:Int × Int × Int->Prop):Prop:=
 (back= -1/\Z=(·∈R))\/∃e0 p q,brR R e0/\Ends e0 p q/\back=(T.getD p 0:Nat)/\T.getD q 0=fr/\Z=but (·∈R) e0
def Met (R:List (Int × Int × Int)) (fr:Nat) (Z:Int × Int × Int->Prop) (D:List (Int × Int × Int)):Prop:=
 ∀d,brR R d->Z d->cn ea eb Z (ea d) fr->d∈D
variable {n:Nat} {R:List (Int × Int × Int)} {W T:List Nat} {B:List (Int × Int × Int)}
theorem Ends.lt (s:St n R W T B) {e:Int × Int × Int} (he:e∈R) {u v:Nat} (h:Ends e u v):u<n/\v<n:=by
 have:=s.inn e he;rcases h with ⟨rfl,rfl⟩ | ⟨rfl,rfl⟩
 ·exact this
 ·exact ⟨this.2,this.1⟩
theorem St.rep (s:St n R W T B) {u:Nat} (hu:u<n):twR R u (T.getD u 0):=
 (s.hT _ _).1 ((Lk.iff hu (Nat.lt_of_le_of_lt (s.gt.le u hu) hu)).2 (s.gt.idem u hu).symm)
theorem St.tw (s:St n R W T B) {u v:Nat} (hu:u<n) (hv:v<n):twR R u v↔T.getD u 0=T.getD v 0:=by
 rw [<-s.hT,Lk.iff hu hv]
theorem St.lab (s:St n R W T B) {u:Nat} (hu:u<n):T.getD u 0<n:=Nat.lt_of_le_of_lt (s.gt.le u hu) hu
theorem z3d (s:St n R W T B) {fr tg u v:Nat} {back:Int} {Z:Int × Int × Int->Prop} {D:List (Int × Int × Int)} (h:Hop R T fr back Z) (hD:Met R fr Z D) (hfr:fr<n) (hrep:T.getD fr 0=fr)
 {e:Int × Int × Int} (he:brR R e) (huv:Ends e u v) (hu:T.getD u 0=fr) (hv:((T.getD v 0:Nat):Int)≠back):
 Hop R T (T.getD v 0) fr (but (·∈R) e)/\e∈D/\Met R (T.getD v 0) (but (·∈R) e) (D.filter λ d=>decide (d≠e))/\(cn ea eb (but (·∈R) e) (T.getD v 0) tg->cn ea eb Z fr tg):=by
 have hlt:=huv.lt s he.1;have hfu:twR R fr u:=(s.tw hfr hlt.1).2 (by rw [hrep,hu]);have hvr:=s.rep hlt.2;have hEdge:∀d,d≠e->cn ea eb (but (·∈R) d) u v:=by
  intro d hd;rcases huv with ⟨rfl,rfl⟩ | ⟨rfl,rfl⟩
  ·exact zaj ⟨he.1,λ k=>hd k.symm⟩
  ·exact zac (zaj ⟨he.1,λ k=>hd k.symm⟩)
 have hEdgeR:cnR R u v:=by
  rcases huv with ⟨rfl,rfl⟩ | ⟨rfl,rfl⟩
  ·exact zaj he.1
  ·exact zac (zaj he.1)
 refine ⟨.inr ⟨e,u,v,he,huv,by rw [hu],rfl,rfl⟩,?_⟩;rcases h with ⟨_,rfl⟩ | ⟨e0,p,q,h0,hpq,hbk,hq,rfl⟩
 ·refine ⟨?_,?_,?_⟩
  ·refine hD e he he.1 ?_
   rcases huv with ⟨rfl,rfl⟩ | ⟨rfl,rfl⟩
   ·exact zac hfu.1
   ·exact zaa (zac hEdgeR) (zac hfu.1)
  ·intro d hd hz hc
   refine List.mem_filter.2 ⟨hD d hd hd.1 ?_,by simpa using hz.2⟩;exact zaa (zb7 hc) (zaa (zac hvr.1) (zaa (zac hEdgeR) (zac hfu.1)))
  ·intro hc
   exact zaa hfu.1 (zaa hEdgeR (zaa hvr.1 (zb7 hc)))
 ·have hlt0:=hpq.lt s h0.1
  have hqf:twR R q fr:=(s.tw hlt0.2 hfr).2 (by rw [hrep,hq]);have hne:e0≠e:=by
   rintro rfl;have hnt:T.getD u 0≠T.getD v 0:=by
    intro k;have:=(s.tw hlt.1 hlt.2).2 k;rcases huv with ⟨rfl,rfl⟩ | ⟨rfl,rfl⟩
    ·exact zij he this
    ·exact zij he (zt6 this)
   rcases huv with ⟨rfl,rfl⟩ | ⟨rfl,rfl⟩ <;> rcases hpq with ⟨rfl,rfl⟩ | ⟨rfl,rfl⟩
   ·exact hnt (by rw [hu,hq])
   ·exact hv hbk.symm
   ·exact hv hbk.symm
   ·exact hnt (by rw [hu,hq])
  have hqu:twR R q u:=zqf hqf hfu;refine ⟨?_,?_,?_⟩
  ·refine hD e he ⟨he.1,λ k=>hne k.symm⟩ ?_
   have hfu0:=hfu.2 e0 h0.1;have hed:=hEdge e0 hne;rcases huv with ⟨rfl,rfl⟩ | ⟨rfl,rfl⟩
   ·exact zac hfu0
   ·exact zaa (zac hed) (zac hfu0)
  ·intro d hd hz hc
   have hc':cn ea eb (but (·∈R) e) (ea d) v:=zaa hc (zac (hvr.2 e he.1));have hnar:=narrower h0 he hne hpq huv hqu hc';refine List.mem_filter.2 ⟨hD d hd ⟨hd.1,λ k=>hnar.1 (by rw [k])⟩ ?_,by simpa using hz.2⟩;exact zaa hnar.2 (zac (hfu.2 e0 h0.1))
  ·intro hc
   have hc':cn ea eb (but (·∈R) e) tg v:=zaa (zac hc) (zac (hvr.2 e he.1));have hnar:=narrower h0 he hne hpq huv hqu hc';exact zaa (hfu.2 e0 h0.1) (zac hnar.2)
theorem z3r (s:St n R W T B) {fr tg:Nat} {back:Int} {Z:Int × Int × Int->Prop} (h:Hop R T fr back Z) (hfr:fr<n) (hrep:T.getD fr 0=fr) (hto:tg<n) (hrept:T.getD tg 0=tg) (hne:fr≠tg)
 (hno:∀e∈B,∀u v,Ends e u v->T.getD u 0=fr->((T.getD v 0:Nat):Int)≠back->¬cn ea eb (but (·∈R) e) (T.getD v 0) tg):¬cn ea eb Z fr tg:=by
 intro hc;have hZ:∀e,Z e->e∈R:=by
  rcases h with ⟨_,rfl⟩ | ⟨e0,p,q,h0,hpq,hbk,hq,rfl⟩
  ·exact λ _ h=>h
  ·exact λ _ h=>h.1
 rcases zwg (T:=(·∈R)) Z hZ hc with h1 | ⟨e,u,v,he,hz,huv,hfu,hvt⟩
 ·exact hne (by rw [<-hrep,<-hrept];exact (s.tw hfr hto).1 h1)
 ·have hlt:=Ends.lt s he.1 huv
  have hu:T.getD u 0=fr:=by rw [<-(s.tw hfr hlt.1).1 hfu,hrep]
  have hvr:=s.rep hlt.2;refine hno e ((s.hB e).2 he) u v huv hu ?_ (zaa (zac (hvr.2 e he.1)) hvt);rcases h with ⟨hbk,rfl⟩ | ⟨e0,p,q,h0,hpq,hbk,hq,rfl⟩
  ·rw [hbk];omega
  ·intro k
   have hlt0:=Ends.lt s h0.1 hpq;have hpv:twR R p v:=(s.tw hlt0.1 hlt.2).2 (by rw [hbk] at k;omega);have hqu:twR R q u:=(s.tw hlt0.2 hlt.1).2 (by rw [hq,hu]);have huv':cn ea eb (but (·∈R) e0) u v:=by
    rcases huv with ⟨rfl,rfl⟩ | ⟨rfl,rfl⟩
    ·exact zaj hz
    ·exact zac (zaj hz)
   have hpq':cn ea eb (but (·∈R) e0) p q:=zaa (hpv.2 e0 h0.1) (zaa (zac huv') (zac (hqu.2 e0 h0.1)));rcases hpq with ⟨rfl,rfl⟩ | ⟨rfl,rfl⟩
   ·exact h0.2 hpq'
   ·exact h0.2 (zac hpq')
def Way (R:List (Int × Int × Int)) (x y:Nat) (ds:List (Int × Int × Int)):Prop:=ds.Nodup/\∀e,e∈ds↔zhs R x y e
theorem z81 (x:Nat):Way R x x []:=⟨List.nodup_nil,λ e=>by simp [sep,zaw]⟩
theorem z3n (s:St n R W T B) {fr tg u v:Nat} (hfr:fr<n) (hrep:T.getD fr 0=fr) {e:Int × Int × Int} (he:brR R e) (huv:Ends e u v) (hu:T.getD u 0=fr)
 (hc:cn ea eb (but (·∈R) e) (T.getD v 0) tg) {ds:List (Int × Int × Int)} (hw:Way R (T.getD v 0) tg ds):Way R fr tg (ds++[e]):=by
 have hlt:=huv.lt s he.1;have hfu:twR R fr u:=(s.tw hfr hlt.1).2 (by rw [hrep,hu]);have hvr:=s.rep hlt.2;refine ⟨?_,λ d=>?_⟩
 ·rw [List.nodup_append]
  refine ⟨hw.1,by simp,?_⟩;intro x hx y hy;rw [List.mem_singleton.1 hy];rintro rfl;exact ((hw.2 x).1 hx).2 hc
 ·have:=z2i (T:=(·∈R)) he huv hfu hvr (zaa (hvr.2 e he.1) hc) d
  rw [List.mem_append,List.mem_singleton,hw.2];simp only [zhs];rw [this];exact or_comm
theorem Way.yabj (s:St n R W T B) {x y:Nat} (h:cnR R x y) {ds:List (Int × Int × Int)} (hw:Way R x y ds):∀e∈ds,e∈B:=λ e he=>(s.hB e).2 (yaba h ((hw.2 e).1 he))
theorem Way.ends (s:St n R W T B) {x y:Nat} (hx:x<n) (hy:y<n) {ds:List (Int × Int × Int)} (hw:Way R (T.getD x 0) (T.getD y 0) ds):∀e,e∈ds↔zhs R x y e:=λ e=>by
 rw [hw.2];exact (z0p (s.rep hx) (s.rep hy) e).symm
end Go.Proofs.YtebcjaenhiiflaaGreatDoor.S
namespace Go.Proofs.YtebcjaenhiiflaaGreatDoor.S
def Lab (n:Nat) (R:List (Int × Int × Int)) (l:List Nat):Prop:=l.length=n/\∀x,x<n->l.getD x 0<=x/\cnR R x (l.getD x 0)
theorem zxf (n:Nat) (R:List (Int × Int × Int)):Lab n R (List.range n):=⟨by simp,λ x hx=>by simp [hx,zaw]⟩
def told (l:List Nat) (u v:Nat):List Nat:=(l.set u (min (l.getD u 0) (l.getD v 0))).set v (min (l.getD u 0) (l.getD v 0))
theorem zsr (l:List Nat) (u v:Nat):(told l u v).length=l.length:=by simp [told]
theorem z6y {l:List Nat} {u v x:Nat} (hx:x<l.length):(told l u v).getD x 0=if x=u\/x=v then min (l.getD u 0) (l.getD v 0) else l.getD x 0:=by
 unfold told;by_cases h1:v=x
 ·subst h1;simp [hx]
 ·by_cases h2:u=x
  ·subst h2;simp [hx,h1]
  ·have:¬(x=u\/x=v):=by omega
   simp [hx,h1,h2,this]
theorem z14 {n:Nat} {R:List (Int × Int × Int)} {l:List Nat} (h:Lab n R l) {e:Int × Int × Int} (he:e∈R) (ha:ea e<n) (hb:eb e<n):Lab n R (told l (ea e) (eb e)):=by
 refine ⟨by rw [zsr];exact h.1,λ x hx=>?_⟩;rw [z6y (by rw [h.1];exact hx)];have hA:=h.2 _ ha;have hB:=h.2 _ hb;have hc:cnR R (ea e) (eb e):=zaj he;have key:∀{x},x=ea e\/x=eb e->cnR R x (min (l.getD (ea e) 0) (l.getD (eb e) 0)):=by
  rintro x (rfl | rfl)
  ·rcases Nat.le_total (l.getD (ea e) 0) (l.getD (eb e) 0) with k | k
   ·rw [Nat.min_eq_left k];exact hA.2
   ·rw [Nat.min_eq_right k];exact zaa hc hB.2
  ·rcases Nat.le_total (l.getD (ea e) 0) (l.getD (eb e) 0) with k | k
   ·rw [Nat.min_eq_left k];exact zaa (zac hc) hA.2
   ·rw [Nat.min_eq_right k];exact hB.2
 split
 ·next hk=>
  refine ⟨?_,key hk⟩;rcases hk with rfl | rfl
  ·have:=hA.1;omega
  ·have:=hB.1;omega
 ·exact h.2 x hx
theorem zjo:∀(l:List Nat) (u k:Nat),u<l.length->(l.set u k).sum+l.getD u 0=l.sum+k
 | [],u,k,h=>by simp at h
 | x::l,0,k,_=>by simp;omega
 | x::l,u+1,k,h=>by
   have:=zjo l u k (by simpa using h);simp at this ⊢;omega
theorem zqo {l:List Nat} {u v:Nat} (hu:u<l.length) (hv:v<l.length) (hne:l.getD u 0≠l.getD v 0):(told l u v).sum<l.sum:=by
 unfold told;have huv:u≠v:=λ k=>hne (by rw [k])
 have h1:=zjo l u (min (l.getD u 0) (l.getD v 0)) hu;have h2:=zjo (l.set u (min (l.getD u 0) (l.getD v 0))) v (min (l.getD u 0) (l.getD v 0)) (by simpa using hv);have h3:(l.set u (min (l.getD u 0) (l.getD v 0))).getD v 0=l.getD v 0:=by simp [huv]
 rw [h3] at h2;omega
theorem zrb {n:Nat} {R:List (Int × Int × Int)} {l:List Nat} (h:Lab n R l) (hin:∀e∈R,ea e<n/\eb e<n) (hd:∀e∈R,l.getD (ea e) 0=l.getD (eb e) 0) {u v:Nat} (hu:u<n) (hv:v<n):l.getD u 0=l.getD v 0↔cnR R u v:=by
 constructor
 ·intro k
  have h1:=(h.2 u hu).2;have h2:=(h.2 v hv).2;rw [k] at h1;exact zaa h1 (zac h2)
 ·intro k
  have:Lk n l u v:=zae.least (P:=Lk n l) k (λ _=>Lk.refl _) (λ _ _ h=>h.symm) (λ _ _ _ h k=>h.trans k) (by
   rintro _ _ ⟨e,he,rfl,rfl⟩;exact .inr ⟨(hin e he).1,(hin e he).2,hd e he⟩)
  exact (Lk.iff hu hv).1 this
def rest (R:List (Int × Int × Int)) (e:Int × Int × Int):List (Int × Int × Int):=R.filter λ d=>decide (d.1≠e.1)
theorem zea {R:List (Int × Int × Int)} (h1:∀e∈R,∀d∈R,e.1=d.1->e=d) {e:Int × Int × Int} (he:e∈R):(·∈rest R e)=but (·∈R) e:=by
 funext d;apply propext
 simp only [rest,List.mem_filter,decide_eq_true_eq,but];constructor
 ·rintro ⟨h,k⟩;exact ⟨h,λ c=>k (by rw [c])⟩
 ·rintro ⟨h,k⟩;exact ⟨h,λ c=>k (h1 d h e he c)⟩
theorem St.bridge {n:Nat} {R:List (Int × Int × Int)} {W T:List Nat} {B:List (Int × Int × Int)} (s:St n R W T B) {e:Int × Int × Int} (he:e∈R):e∈B↔¬cnR (rest R e) (ea e) (eb e):=by
 rw [s.hB];simp only [cnR];rw [zea s.one he];exact ⟨λ h=>h.2,λ h=>⟨he,h⟩⟩
theorem St.yac1 {n:Nat} {R:List (Int × Int × Int)} {W T:List Nat} {B:List (Int × Int × Int)} (s:St n R W T B) {u v:Nat} (hu:u<n) (hv:v<n):T.getD u 0=T.getD v 0↔cnR R u v/\∀e∈R,cnR (rest R e) u v:=by
 rw [<-s.tw hu hv];constructor
 ·rintro ⟨h,k⟩
  refine ⟨h,λ e he=>?_⟩;simp only [cnR];rw [zea s.one he];exact k e he
 ·rintro ⟨h,k⟩
  refine ⟨h,λ e he=>?_⟩;have:=k e he;simp only [cnR] at this;rwa [zea s.one he] at this
def zav (R B:List (Int × Int × Int)):List Int:=(R.filter λ e=>decide (e∈B)).map (·.1)
theorem z1a {R B:List (Int × Int × Int)} (h:R.Pairwise λ x y=>x.1<y.1):(zav R B).Pairwise (·<·):=by
 unfold zav;rw [List.pairwise_map];exact List.Pairwise.filter _ h
theorem z5z {R B:List (Int × Int × Int)} (hBR:∀e∈B,e∈R) (x:Int):x∈zav R B↔∃e∈B,e.1=x:=by
 simp only [zav,List.mem_map,List.mem_filter,decide_eq_true_eq];exact ⟨λ ⟨e,h,k⟩=>⟨e,h.2,k⟩,λ ⟨e,h,k⟩=>⟨e,⟨hBR e h,h⟩,k⟩⟩
end Go.Proofs.YtebcjaenhiiflaaGreatDoor.S
namespace Go.Proofs.YtebcjaenhiiflaaGreatDoor.S
open Go.RowKit Go.Proofs.Tryz
theorem znb (x y p b:Nat) (L:List Nat) (s:Bool) (w:World) (hs:zab w p b L) (hx:x<L.length) (hy:y<L.length) (hv:(((L.getD x 0:Nat):Int)==((L.getD y 0:Nat):Int))=s):
 Calls prog 130 #[.pointer (some ⟨p,0,none⟩),.int .i64 (x:Int),.int .i64 (y:Int)] w λ e w'=>e= .returned (.tuple #[.bool s,.nilIface])/\Below w.heap.size w w':=by
 go_enter func130,ntmps130;go_wp2_with fail;refine (zns (x:Int) (y:Int) w.heap.size p b 2 L _ (zbs hs _) ?c1 ?c2 ?c3 (by omega) (by omega) (by omega) (by omega)).mono ?_;case c1=>simp
 case c2=>simp
 case c3=>simp
 rintro e w' ⟨rfl,rfl⟩;have hs2:=zbs (zbs hs (Obj.cells #[Value.int IntKind.i64 ↑x,Value.int IntKind.i64 ↑y] 3)) (Obj.cells #[Value.pointer (some {block:=p,off:=0})] 175);have hb:=za9 w (Obj.cells #[Value.int IntKind.i64 ↑x,Value.int IntKind.i64 ↑y] 3) (Obj.cells #[Value.pointer (some {block:=p,off:=0})] 175);generalize (w.alloc (Obj.cells #[Value.int IntKind.i64 ↑x,Value.int IntKind.i64 ↑y] 3)).alloc (Obj.cells #[Value.pointer (some {block:=p,off:=0})] 175)=W at hs2 hb ⊢;have HB:=kd hb;clear hb hs;have hp:=hs2.zgs;have hcx:=hs2.zft x hx;have hcy:=hs2.zft y hy;clear hs2;generalize L.getD x 0=X at*;generalize L.getD y 0=Y at*;go_wp2_with fail;go_quiet (fail);clear hcx hcy hp;go_wp2_with fail;go_ret2;exact ⟨by simp,below_drewN HB.out _⟩
def lst (L:List Nat) (x:Nat):List Nat:=(List.range x).filter λ y=>L.getD y 0==y
def pgr (L:List Nat) (x:Nat):List (List Nat):=(lst L x).map (grp L x)
theorem zcp {L:List Nat} {x y:Nat}:y∈lst L x↔y<x/\L.getD y 0=y:=by
 unfold lst;rw [List.mem_filter,List.mem_range,beq_iff_eq]
theorem zfu (L:List Nat) (x:Nat):(pgr L x).length=(lst L x).length:=by simp [pgr]
theorem zyh (L:List Nat) (x i:Nat) (h:i<(lst L x).length):(pgr L x).getD i []=grp L x ((lst L x).getD i 0):=by
 simp [pgr,h]
theorem z0n {L:List Nat} {x i:Nat} (h:i<(lst L x).length):(lst L x).getD i 0<x/\L.getD ((lst L x).getD i 0) 0=(lst L x).getD i 0:=by
 have hm:(lst L x).getD i 0∈lst L x:=by
  have:(lst L x).getD i 0=(lst L x)[i]:=by simp [h]
  rw [this];exact List.getElem_mem h
 exact zcp.1 hm
theorem grp_head' {n x:Nat} {L:List Nat} (g:Good n L) (hx:x<=n) {y:Nat} (hy:y<x) (h:L.getD y 0=y):(grp L x y).getD 0 0=y:=by
 have hxm:y∈grp L x y:=zek.2 ⟨hy,h⟩;have hp:(grp L x y).Pairwise (·<·):=by
  unfold grp;exact List.Pairwise.filter _ List.pairwise_lt_range
 have hle:∀i∈grp L x y,y<=i:=λ i hi=>by
  obtain ⟨h1,h2⟩:=zek.1 hi;have:=g.le i (by omega);omega
 cases hg:grp L x y with
 | nil=>rw [hg] at hxm;cases hxm
 | cons a r=>
   rw [hg] at hxm hp hle;show a=y;have h1:=hle a (by simp);rcases List.mem_cons.1 hxm with h2 | h2
   ·exact h2.symm
   ·have:=(List.pairwise_cons.1 hp).1 y h2
    omega
theorem z6o {x y:Nat} {L:List Nat} (hy:y<x) (h:L.getD y 0=y):0<(grp L x y).length:=
 List.length_pos_iff.2 (λ e=>by
  have:y∈grp L x y:=zek.2 ⟨hy,h⟩;rw [e] at this;cases this)
theorem zha {L:List Nat} {x:Nat} (h:L.getD x 0=x):lst L (x+1)=lst L x++[x]:=by
 have hb:(L.getD x 0==x)=true:=beq_iff_eq.2 h;unfold lst;rw [List.range_succ,List.filter_append,List.filter_cons,hb];simp
theorem zg5 {L:List Nat} {x:Nat} (h:L.getD x 0≠x):lst L (x+1)=lst L x:=by
 have hb:(L.getD x 0==x)=false:=beq_eq_false_iff_ne.2 h;unfold lst;rw [List.range_succ,List.filter_append,List.filter_cons,hb];simp
theorem z5l (L:List Nat) (x i j:Nat) (hi:i<(lst L x).length) (hj:j<(lst L x).length) (e:(lst L x)[i]=(lst L x)[j]):i=j:=by
 have hp:(lst L x).Pairwise (·<·):=by
  unfold lst;exact List.Pairwise.filter _ List.pairwise_lt_range
 rw [List.pairwise_iff_getElem] at hp;rcases Nat.lt_trichotomy i j with h | h | h
 ·have:=hp i j hi hj h
  omega
 ·exact h
 ·have:=hp j i hj hi h
  omega
theorem zn5 {x i:Nat} {L:List Nat} (hi:i<(lst L x).length) (h:(lst L x).getD i 0=L.getD x 0):pgr L (x+1)=(pgr L x).set i (grp L x ((lst L x).getD i 0)++[x]):=by
 have hl:=z0n hi;have hne:L.getD x 0≠x:=by omega
 unfold pgr;rw [zg5 hne];apply List.ext_getElem
 ·simp
 ·intro j h1 h2
  rw [List.getElem_set];simp only [List.getElem_map];have hj:j<(lst L x).length:=by simpa using h1
  by_cases e:i=j
  ·subst e
   have e1:(lst L x)[i]=(lst L x).getD i 0:=by simp [hi]
   rw [if_pos rfl,e1,h,zfp]
  ·rw [if_neg e]
   have e1:(lst L x)[i]=(lst L x).getD i 0:=by simp [hi]
   have hn:(lst L x)[j]≠L.getD x 0:=by
    rw [<-h,<-e1];intro e2;exact e (z5l L x i j hi hj e2.symm)
   rw [ze0 L x _ (λ e3=>hn e3.symm)]
theorem zri {n x:Nat} {L:List Nat} (g:Good n L) (hx:x<n) (h:∀i,i<(lst L x).length->(lst L x).getD i 0≠L.getD x 0):pgr L (x+1)=pgr L x++[[x]]:=by
 have hLx:L.getD x 0=x:=by
  have h1:=g.le x hx;have h2:=g.idem x hx;rcases Nat.lt_or_ge (L.getD x 0) x with h3 | h3
  ·have hm:L.getD x 0∈lst L x:=zcp.2 ⟨h3,h2⟩
   obtain ⟨i,hi,e⟩:=List.getElem_of_mem hm;exact absurd (by rw [<-e];simp [hi]) (h i hi)
  ·omega
 unfold pgr;rw [zha hLx,List.map_append]
 congr 1
 ·apply List.map_congr_left
  intro y hy;exact ze0 L x y (by have:=(zcp.1 hy).1;omega)
 ·have e:grp L (x+1) x=grp L x x++[x]:=by
   have:=zfp L x;rw [hLx] at this;exact this
  have e2:grp L x x=[]:=by
   cases hg:grp L x x with
   | nil=>rfl
   | cons a r=>
     have:a∈grp L x x:=by rw [hg];simp
     obtain ⟨h1,h2⟩:=zek.1 this;have:=g.le a (by omega);omega
  simp [e,e2]
theorem z5b {n:Nat} {L:List Nat} (g:Good n L):pgr L n=zao L n:=by
 unfold pgr zao;rw [g.len];rw [List.filter_map]
 congr 1
 unfold lst;apply List.filter_congr;intro y hy;have hy':=List.mem_range.1 hy;have hs:=zp8 g hy';rw [Bool.eq_iff_iff,beq_iff_eq];simp only [Function.comp,Bool.not_eq_true',List.isEmpty_eq_false_iff];exact hs.symm
end Go.Proofs.YtebcjaenhiiflaaGreatDoor.S
namespace Go.Proofs.YtebcjaenhiiflaaGreatDoor.S
open Go.RowKit
def za8 (Gs:List (List Nat)) (r c:Nat->Nat):List Value:=(List.range Gs.length).map λ i=>.slice (some ⟨r i,0,none⟩) (Gs.getD i []).length (c i)
theorem zpe (Gs:List (List Nat)) (r c:Nat->Nat) (i:Nat) (h:i<Gs.length):(za8 Gs r c)[i]? =some (.slice (some ⟨r i,0,none⟩) (Gs.getD i []).length (c i)):=by
 simp [za8,h]
structure za2 (w:World) (base:Nat) (t:Value) (Gs:List (List Nat)) (r c:Nat->Nat):Prop where
 own:w.ownsRow base 48 1 t Gs.length (za8 Gs r c)
 each:∀i,i<Gs.length->w.ownsInts base 3 .i64 (.slice (some ⟨r i,0,none⟩) (Gs.getD i []).length (c i)) (ints (Gs.getD i []))
 apart:∀i j,i<Gs.length->j<Gs.length->i≠j->r i≠r j
theorem zlu (w:World) (base:Nat) (r c:Nat->Nat):za2 w base (.slice none 0 0) [] r c:=
 ⟨World.ownsRow_nil _ _ _ _,λ i hi=>absurd hi (by simp),λ i j hi=>absurd hi (by simp)⟩
theorem zl3 {w:World} {base:Nat} {t:Value} {Gs:List (List Nat)} {r c:Nat->Nat} (h:za2 w base t Gs r c) (n:Nat):za2 (w.drewN n) base t Gs r c:=⟨h.own,h.each,h.apart⟩
theorem za2.ne {w:World} {base:Nat} {t:Value} {Gs:List (List Nat)} {r c:Nat->Nat} (h:za2 w base t Gs r c) (i:Nat) (hi:i<Gs.length):t.ownBlock≠some (r i):=by
 intro e;have h2:=(h.each i hi).1.2;rcases h.own.2 with ⟨rfl,_⟩ | ⟨g,cap,cur,rfl,_,hg,_⟩
 ·simp [Value.ownBlock] at e
 ·simp only [Value.ownBlock,Option.some.injEq] at e
  rcases h2 with ⟨h3,_⟩ | ⟨g',cap',cur',h3,_,hg',_⟩
  ·cases h3
  ·simp only [Value.slice.injEq,Option.some.injEq,Addr.mk.injEq] at h3
   rw [<-h3.1.1,<-e,hg] at hg';injection hg' with h4
   injection h4 with _ h5
   exact absurd h5 (by decide)
theorem za2.head {w:World} {base:Nat} {t:Value} {Gs:List (List Nat)} {r c:Nat->Nat} (h:za2 w base t Gs r c) (i:Nat) (hi:i<Gs.length) (hp:0<(Gs.getD i []).length):w.cell? ⟨r i,0,none⟩=some (.int .i64 (((Gs.getD i []).getD 0 0:Nat):Int)):=by
 have h1:=(h.each i hi).1;rw [zbc] at h1;rw [h1.cellAt 0 (by omega)];generalize Gs.getD i []=G at*;simp [ints,hp]
theorem za2.zmq {w:World} {base g m cap:Nat} {Gs:List (List Nat)} {r c:Nat->Nat} (h:za2 w base (.slice (some ⟨g,0,none⟩) m cap) Gs r c) (hm:m=Gs.length) (i:Nat) (hi:i<Gs.length):w.cell? ⟨g,i,none⟩=some (.slice (some ⟨r i,0,none⟩) (Gs.getD i []).length (c i)):=by
 subst hm;rw [h.own.cellAt i (by omega),zpe _ _ _ _ hi]
theorem za2.shape {w:World} {base:Nat} {t:Value} {Gs:List (List Nat)} {r c:Nat->Nat} (h:za2 w base t Gs r c):∃a cap,t= .slice a Gs.length cap/\(0<Gs.length->∃g,a=some ⟨g,0,none⟩):=by
 rcases h.own.2 with ⟨rfl,h0⟩ | ⟨g,cap,cur,rfl,_⟩
 ·exact ⟨none,0,by rw [h0],λ h=>absurd h (by omega)⟩
 ·exact ⟨_,cap,rfl,λ _=>⟨g,rfl⟩⟩
theorem zem {Gs:List (List Nat)} {G:List Nat} {i:Nat} (h:i<Gs.length):(Gs++[G]).getD i []=Gs.getD i []:=by simp [List.getElem?_append_left h]
theorem zje {Gs:List (List Nat)} {G:List Nat}:(Gs++[G]).getD Gs.length []=G:=by simp
theorem za2.snoc {w w1:World} {base:Nat} {t v':Value} {Gs:List (List Nat)} {r c:Nat->Nat} (h:za2 w base t Gs r c) (hbase:base<=w.heap.size) (x:Nat) (o:Obj)
 (hown:w1.ownsRow base 48 1 v' (Gs.length+1) (za8 Gs r c++[.slice (some ⟨w.heap.size,0,none⟩) 1 1])) (hg:((w.alloc (.cells #[.int .i64 (x:Int)] 3)).alloc o).grownBy w1 t.ownBlock) (hx:x<=1000000):
 ∃r' c',za2 w1 base v' (Gs++[[x]]) r' c':=by
 refine ⟨λ i=>if i=Gs.length then w.heap.size else r i,λ i=>if i=Gs.length then 1 else c i,?_,?_,?_⟩
 ·have e:za8 (Gs++[[x]]) (λ i=>if i=Gs.length then w.heap.size else r i) (λ i=>if i=Gs.length then 1 else c i)=za8 Gs r c++[.slice (some ⟨w.heap.size,0,none⟩) 1 1]:=by
   unfold za8;rw [List.length_append];show List.map _ (List.range (Gs.length+1))=_;rw [List.range_succ,List.map_append]
   congr 1
   ·apply List.map_congr_left
    intro i hi;have hi':=List.mem_range.1 hi;have hne:i≠Gs.length:=by omega
    simp only [if_neg hne];rw [zem hi']
   ·simp
  rw [e,List.length_append];exact hown
 ·intro i hi
  rw [List.length_append] at hi;have hi:i<Gs.length+1:=hi;by_cases e:i=Gs.length
  ·subst e
   simp only [if_pos];rw [zje];have h1:(w.alloc (.cells #[.int .i64 (x:Int)] 3)).ownsRow base 3 1 (.slice (some ⟨w.heap.size,0,none⟩) 1 1) 1 [.int .i64 (x:Int)]:=World.ownsRow_lit w #[.int .i64 (x:Int)] 1 hbase (by decide) rfl;refine ⟨?_,λ z hz=>?_⟩
   ·refine (h1.alloc o).kept hg (Or.inr ?_)
    intro e2;have:=(h.own.lt w.heap.size e2.symm).2;omega
   ·simp [ints] at hz
    subst hz;exact WalkArith.wf_i64 (by omega)
  ·simp only [if_neg e]
   have hi':i<Gs.length:=by omega
   rw [zem hi'];have h1:=h.each i hi';exact ((h1.alloc _).alloc o).kept hg (Or.inr (λ e2=>h.ne i hi' e2.symm))
 ·intro i j hi hj hne
  rw [List.length_append] at hi hj;have hi:i<Gs.length+1:=hi;have hj:j<Gs.length+1:=hj;by_cases e1:i=Gs.length
  ·by_cases e2:j=Gs.length
   ·omega
   ·simp only [if_pos e1,if_neg e2]
    have:=((h.each j (by omega)).1.lt (r j) rfl).2;omega
  ·by_cases e2:j=Gs.length
   ·simp only [if_neg e1,if_pos e2]
    have:=((h.each i (by omega)).1.lt (r i) rfl).2;omega
   ·simp only [if_neg e1,if_neg e2]
    exact h.apart i j (by omega) (by omega) hne
theorem za2.grow {w w1:World} {base g m cap k ρ κ:Nat} {Gs:List (List Nat)} {r c:Nat->Nat} (h:za2 w base (.slice (some ⟨g,0,none⟩) m cap) Gs r c) (hm:m=Gs.length) (hk:k<Gs.length) (x:Nat) (o:Obj)
 (hown:w1.ownsInts base 3 .i64 (.slice (some ⟨ρ,0,none⟩) ((Gs.getD k []).length+1) κ) (ints (Gs.getD k []++[x]))) (hg:(w.alloc o).grownBy w1 (some (r k)))
 (hloc:ρ=r k\/ρ=w.heap.size+1):
 za2 (w1.setCell ⟨g,k,none⟩ (.slice (some ⟨ρ,0,none⟩) ((Gs.getD k []).length+1) κ)) base (.slice (some ⟨g,0,none⟩) m cap) (Gs.set k (Gs.getD k []++[x])) (λ i=>if i=k then ρ else r i) (λ i=>if i=k then κ else c i):=by
 subst hm;have hgk:g≠r k:=λ e=>h.ne k hk (by rw [<-e];rfl)
 have ht1:w1.ownsRow base 48 1 (.slice (some ⟨g,0,none⟩) Gs.length cap) Gs.length (za8 Gs r c):=(h.own.alloc o).kept hg (Or.inr (λ e=>h.ne k hk e));have ht2:=ht1.stored k (.slice (some ⟨ρ,0,none⟩) ((Gs.getD k []).length+1) κ);have hset:∀i,i<Gs.length->(Gs.set k (Gs.getD k []++[x])).getD i []=if i=k then Gs.getD k []++[x] else Gs.getD i []:=by
  intro i hi;by_cases e:i=k
  ·subst e;simp [hi]
  ·rw [if_neg e]
   have this:∀G:List Nat,(Gs.set k G).getD i []=Gs.getD i []:=by
    intro G;rw [List.getD_eq_getElem?_getD,List.getElem?_set,if_neg (λ e2=>e e2.symm),<-List.getD_eq_getElem?_getD]
   exact this _
 have hglt:g<w.heap.size:=(h.own.lt g rfl).2;have hρ:∀i,i<Gs.length->i≠k->r i≠ρ:=by
  intro i hi hn e;rcases hloc with e2 | e2
  ·exact h.apart i k hi hk hn (e.trans e2)
  ·have:=((h.each i hi).1.lt (r i) rfl).2
   omega
 have hgρ:ρ≠g:=by
  rcases hloc with e | e
  ·rw [e];exact λ e2=>hgk e2.symm
  ·omega
 refine ⟨?_,?_,?_⟩
 ·have e:za8 (Gs.set k (Gs.getD k []++[x])) (λ i=>if i=k then ρ else r i) (λ i=>if i=k then κ else c i)=(za8 Gs r c).set k (.slice (some ⟨ρ,0,none⟩) ((Gs.getD k []).length+1) κ):=by
   apply List.ext_getElem
   ·simp [za8]
   ·intro i h1 h2
    have hi:i<Gs.length:=by simpa [za8] using h1
    rw [List.getElem_set];simp only [za8,List.getElem_map,List.getElem_range];rw [hset i hi];by_cases e:i=k
    ·rw [if_pos e,if_pos e,if_pos e,if_pos e.symm,List.length_append];rfl
    ·rw [if_neg e,if_neg e,if_neg e,if_neg (λ e2=>e e2.symm)]
  rw [e,List.length_set];exact ht2.1
 ·intro i hi
  rw [List.length_set] at hi;rw [hset i hi];by_cases e:i=k
  ·simp only [if_pos e,List.length_append]
   exact hown.kept ht2.2 (Or.inr (λ e2=>hgρ (by simpa [Value.ownBlock] using e2)))
  ·simp only [if_neg e]
   have h1:=(h.each i hi).alloc o;refine (h1.kept hg (Or.inr (λ e2=>h.apart i k hi hk e (by simpa [Value.ownBlock] using e2)))).kept ht2.2 (Or.inr (λ e2=>h.ne i hi (by simpa [Value.ownBlock] using e2.symm)))
 ·intro i j hi hj hne
  rw [List.length_set] at hi hj;by_cases e1:i=k
  ·by_cases e2:j=k
   ·omega
   ·simp only [if_pos e1,if_neg e2]
    exact λ e=>hρ j hj e2 e.symm
  ·by_cases e2:j=k
   ·simp only [if_neg e1,if_pos e2]
    exact hρ i hi e1
   ·simp only [if_neg e1,if_neg e2]
    exact h.apart i j hi hj hne
end Go.Proofs.YtebcjaenhiiflaaGreatDoor.S
