import Derived.Test.YtebcjaenhiiflaaGreatDoorQKVjBh
set_option maxHeartbeats 4000000
set_option maxRecDepth 100000
namespace Go.Proofs.YtebcjaenhiiflaaGreatDoor.S
def tch (e:Int × Int × Int) (x:Nat):Prop:=ea e=x\/eb e=x
instance (e:Int × Int × Int) (x:Nat):Decidable (tch e x):=inferInstanceAs (Decidable (_\/_))
def ot (e:Int × Int × Int) (x:Nat):Nat:=if x=ea e then eb e else ea e
def wo (R:List (Int × Int × Int)) (x:Nat):List (Int × Int × Int):=R.filter λ d=>decide (ea d≠x/\eb d≠x)
def Rx (R:List (Int × Int × Int)) (x i j:Nat):Prop:=∃e f,R[i]? =some e/\R[j]? =some f/\tch e x/\tch f x/\cnR (wo R x) (ot e x) (ot f x)
def Blk (R:List (Int × Int × Int)):Nat->Nat->Prop:=zae λ i j=>∃x,Rx R x i j
section
variable {R:List (Int × Int × Int)} {x y z i j k u v:Nat} {e f:Int × Int × Int}
theorem zdm:e∈wo R x↔e∈R/\ea e≠x/\eb e≠x:=by simp [wo]
theorem zy6 (_:tch e x) (hp:ea e≠eb e):tch e (ot e x)/\ot e x≠x:=by
 unfold tch ot at*;split
 ·next k=>exact ⟨.inr rfl,λ c=>hp (by omega)⟩
 ·next k=>exact ⟨.inl rfl,λ c=>k c.symm⟩
theorem zdn (h:tch e x) (hy:tch e y) (hne:y≠x):ot e x=y:=by
 unfold tch ot at*;split <;> omega
theorem zma (he:e∈R) (hy:tch e y) (hz:tch e z) (hyx:y≠x) (hzx:z≠x):cnR (wo R x) y z:=by
 by_cases hyz:y=z
 ·subst hyz;exact zaw _
 ·unfold tch at hy hz
  rcases hy with hy | hy <;> rcases hz with hz | hz
  ·omega
  ·have:=zaj (a:=ea) (b:=eb) (T:=(·∈wo R x)) (zdm.2 ⟨he,by omega,by omega⟩)
   rw [hy,hz] at this;exact this
  ·have:=zaj (a:=ea) (b:=eb) (T:=(·∈wo R x)) (zdm.2 ⟨he,by omega,by omega⟩)
   rw [hy,hz] at this;exact zac this
  ·omega
theorem alone (h:cnR (wo R x) x y):y=x:=by
 have:(x=x↔y=x):=zae.least (P:=λ u v=>(u=x↔v=x)) h (λ _=>Iff.rfl) (λ _ _ h=>h.symm) (λ _ _ _ h k=>h.trans k) (by
  rintro _ _ ⟨e,he,rfl,rfl⟩;have:=zdm.1 he;constructor <;> intro c <;> omega)
 exact this.1 rfl
theorem Rx.symm (h:Rx R x i j):Rx R x j i:=by
 obtain ⟨e,f,h1,h2,h3,h4,h5⟩:=h;exact ⟨f,e,h2,h1,h4,h3,zac h5⟩
theorem Rx.trans (h:Rx R x i j) (k':Rx R x j k):Rx R x i k:=by
 obtain ⟨e,f,h1,h2,h3,h4,h5⟩:=h;obtain ⟨f',g,k1,k2,k3,k4,k5⟩:=k';rw [h2] at k1;cases k1;exact ⟨e,g,h1,k2,h3,k4,zaa h5 k5⟩
theorem Rx.refl (h:R[i]? =some e) (ht:tch e x):Rx R x i i:=⟨e,e,h,h,ht,ht,zaw _⟩
theorem yabo (hp:∀e∈R,ea e≠eb e) (h:Blk R i j) (hi:R[i]? =some e) (hj:R[j]? =some f) (hy:tch e y) (hz:tch f z) (hyx:y≠x) (hzx:z≠x):cnR (wo R x) y z:=by
 have key:i=j\/∃e f,R[i]? =some e/\R[j]? =some f/\∀y z,tch e y->tch f z->y≠x->z≠x->cnR (wo R x) y z:=by
  refine zae.least (P:=λ i j=>i=j\/∃e f,R[i]? =some e/\R[j]? =some f/\∀y z,tch e y->tch f z->y≠x->z≠x->cnR (wo R x) y z) h (λ _=>.inl rfl) ?_ ?_ ?_
  ·rintro i j (h | ⟨e,f,h1,h2,h3⟩)
   ·exact .inl h.symm
   ·exact .inr ⟨f,e,h2,h1,λ y z hy hz hyx hzx=>zac (h3 z y hz hy hzx hyx)⟩
  ·rintro i j k (rfl | ⟨e,f,h1,h2,h3⟩) (rfl | ⟨f',g,k1,k2,k3⟩)
   ·exact .inl rfl
   ·exact .inr ⟨f',g,k1,k2,k3⟩
   ·exact .inr ⟨e,f,h1,h2,h3⟩
   ·rw [h2] at k1;cases k1
    refine .inr ⟨e,g,h1,k2,λ y z hy hz hyx hzx=>?_⟩;have hpf:=hp f (List.mem_of_getElem? h2);by_cases hc:ea f=x
    ·exact zaa (h3 y (eb f) hy (.inr rfl) hyx (by omega)) (k3 (eb f) z (.inr rfl) hz (by omega) hzx)
    ·exact zaa (h3 y (ea f) hy (.inl rfl) hyx hc) (k3 (ea f) z (.inl rfl) hz hc hzx)
  ·rintro i j ⟨w,e,f,h1,h2,h3,h4,h5⟩
   refine .inr ⟨e,f,h1,h2,λ y z hy hz hyx hzx=>?_⟩;by_cases hw:w=x
   ·subst hw
    rw [zdn h3 hy hyx,zdn h4 hz hzx] at h5;exact h5
   ·exact zaa (zma (List.mem_of_getElem? h1) hy h3 hyx hw) (zma (List.mem_of_getElem? h2) h4 hz hw hzx)
 rcases key with rfl | ⟨e',f',h1,h2,h3⟩
 ·rw [hi] at hj;cases hj
  exact zma (List.mem_of_getElem? hi) hy hz hyx hzx
 ·rw [hi] at h1;rw [hj] at h2;cases h1;cases h2
  exact h3 y z hy hz hyx hzx
theorem getElem?_inj_of {i j:Nat} (hn:R.Pairwise λ a b=>a.1<b.1) (h:R[i]? =some e) (k:R[j]? =some e):i=j:=by
 obtain ⟨hi,h⟩:=List.getElem?_eq_some_iff.1 h;obtain ⟨hj,k⟩:=List.getElem?_eq_some_iff.1 k;rw [List.pairwise_iff_getElem] at hn;rcases Nat.lt_trichotomy i j with c | c | c
 ·have:=hn i j hi hj c;rw [h,k] at this;omega
 ·exact c
 ·have:=hn j i hj hi c;rw [h,k] at this;omega
theorem yaav (hp:∀e∈R,ea e≠eb e) (hn:R.Pairwise λ a b=>a.1<b.1) (hi:R[i]? =some e):brR R e↔∀j,Blk R i j->j=i:=by
 have heR:=List.mem_of_getElem? hi;have hpe:=hp e heR;constructor
 ·rintro ⟨_,hb⟩ j h
  have:(i=i↔j=i):=zae.least (P:=λ u v=>(u=i↔v=i)) h (λ _=>Iff.rfl) (λ _ _ h=>h.symm) (λ _ _ _ h k=>h.trans k) (by
   have key:∀{x v},Rx R x i v->v=i:=by
    rintro x v ⟨e',f,h1,h2,h3,h4,h5⟩;rw [hi] at h1;cases h1;refine Classical.byContradiction λ hv=>hb ?_
    have hef:f≠e:=λ c=>hv (getElem?_inj_of hn h2 (c▸hi))
    have a1:cn ea eb (but (·∈R) e) (ot e x) (ot f x):=za4 h5 (λ d hd=>⟨(zdm.1 hd).1,λ c=>by
     subst c;have:=(zdm.1 hd).2;unfold tch at h3;omega⟩)
    have a2:cn ea eb (but (·∈R) e) (ea f) (eb f):=zaj ⟨List.mem_of_getElem? h2,hef⟩;have hpf:=hp f (List.mem_of_getElem? h2);have a3:cn ea eb (but (·∈R) e) (ot f x) x:=by
     rcases h4 with h4 | h4
     ·rw [zdn (y:=eb f) (.inl h4) (.inr rfl) (by omega)]
      rw [h4] at a2;exact zac a2
     ·rw [zdn (y:=ea f) (.inr h4) (.inl rfl) (by omega)]
      rw [h4] at a2;exact a2
    have a4:=zaa a1 a3;rcases h3 with h3 | h3
    ·rw [zdn (y:=eb e) (.inl h3) (.inr rfl) (by omega)] at a4
     rw [h3];exact zac a4
    ·rw [zdn (y:=ea e) (.inr h3) (.inl rfl) (by omega)] at a4
     rw [h3];exact a4
   rintro u v ⟨x,hr⟩;constructor
   ·intro c;rw [c] at hr;exact key hr
   ·intro c;rw [c] at hr;exact key hr.symm)
  exact this.1 rfl
 ·intro h
  refine ⟨heR,λ hc=>?_⟩;have hno:∀f∈R,f≠e->tch f (ea e)->¬cnR (wo R (ea e)) (eb e) (ot f (ea e)):=by
   intro f hf hfe ht hcn;obtain ⟨j,hj⟩:=List.getElem?_of_mem hf;have:j=i:=h j (zae.base ⟨ea e,e,f,hi,hj,.inl rfl,ht,by rw [zdn (y:=eb e) (.inl rfl) (.inr rfl) hpe.symm];exact hcn⟩);subst this;rw [hi] at hj;cases hj;exact hfe rfl
  have hx:¬cnR (wo R (ea e)) (eb e) (ea e):=λ c=>hpe (alone (zac c)).symm
  have:(cnR (wo R (ea e)) (eb e) (ea e)↔cnR (wo R (ea e)) (eb e) (eb e)):=zae.least (P:=λ u v=>(cnR (wo R (ea e)) (eb e) u↔cnR (wo R (ea e)) (eb e) v)) hc (λ _=>Iff.rfl) (λ _ _ h=>h.symm) (λ _ _ _ h k=>h.trans k) (by
   rintro _ _ ⟨d,⟨hd,hde⟩,rfl,rfl⟩;have hpd:=hp d hd;by_cases ht:tch d (ea e)
   ·have h1:=hno d hd hde ht
    rcases ht with ht | ht
    ·rw [zdn (y:=eb d) (.inl ht) (.inr rfl) (by omega)] at h1
     rw [ht];exact ⟨λ c=>absurd c hx,λ c=>absurd c h1⟩
    ·rw [zdn (y:=ea d) (.inr ht) (.inl rfl) (by omega)] at h1
     rw [ht];exact ⟨λ c=>absurd c h1,λ c=>absurd c hx⟩
   ·have hd':cnR (wo R (ea e)) (ea d) (eb d):=zaj (zdm.2 ⟨hd,λ c=>ht (.inl c),λ c=>ht (.inr c)⟩)
    exact ⟨λ c=>zaa c hd',λ c=>zaa c (zac hd')⟩)
  exact hx (this.2 (zaw _))
theorem z7s (hp:∀e∈R,ea e≠eb e):(∃u v,u≠x/\v≠x/\cnR R u v/\¬cnR (wo R x) u v)↔∃e∈R,∃f∈R,tch e x/\tch f x/\¬cnR (wo R x) (ot e x) (ot f x):=by
 have edge:∀{e},e∈R->tch e x->cnR R (ot e x) x:=by
  intro e he ht;have hpe:=hp e he;have:=zaj (a:=ea) (b:=eb) (T:=(·∈R)) he;rcases ht with h | h
  ·rw [zdn (y:=eb e) (.inl h) (.inr rfl) (by omega)];rw [h] at this;exact zac this
  ·rw [zdn (y:=ea e) (.inr h) (.inl rfl) (by omega)];rw [h] at this;exact this
 constructor
 ·rintro ⟨u,v,hu,hv,h,hn⟩
  refine Classical.byContradiction λ hno=>?_
  have hall:∀e∈R,∀f∈R,tch e x->tch f x->cnR (wo R x) (ot e x) (ot f x):=λ e he f hf h1 h2=>Classical.byContradiction λ c=>hno ⟨e,he,f,hf,h1,h2,c⟩
  have key:=zae.least (P:=λ u v=>((u=x\/∃e∈R,tch e x/\cnR (wo R x) u (ot e x))/\(v=x\/∃e∈R,tch e x/\cnR (wo R x) v (ot e x)))\/cnR (wo R x) u v) h (λ _=>.inr (zaw _)) ?_ ?_ ?_
  ·rcases key with ⟨h1,h2⟩ | h1
   ·rcases h1 with h1 | ⟨e,he,ht,h1⟩
    ·exact hu h1
    ·rcases h2 with h2 | ⟨f,hf,ht',h2⟩
     ·exact hv h2
     ·exact hn (zaa h1 (zaa (hall e he f hf ht ht') (zac h2)))
   ·exact hn h1
  ·rintro u v (⟨h1,h2⟩ | h)
   ·exact .inl ⟨h2,h1⟩
   ·exact .inr (zac h)
  ·have go:∀{v w},(v=x\/∃e∈R,tch e x/\cnR (wo R x) v (ot e x))->cnR (wo R x) v w->(w=x\/∃e∈R,tch e x/\cnR (wo R x) w (ot e x)):=by
    rintro v w (rfl | ⟨e,he,ht,h⟩) hc
    ·exact .inl (alone hc)
    ·exact .inr ⟨e,he,ht,zaa (zac hc) h⟩
   rintro u v w (⟨h1,h2⟩ | h) (⟨k1,k2⟩ | k)
   ·exact .inl ⟨h1,k2⟩
   ·exact .inl ⟨h1,go h2 k⟩
   ·exact .inl ⟨go k1 (zac h),k2⟩
   ·exact .inr (zaa h k)
  ·rintro _ _ ⟨d,hd,rfl,rfl⟩
   have hpd:=hp d hd;by_cases ht:tch d x
   ·refine .inl ?_
    rcases ht with h | h
    ·exact ⟨.inl h,.inr ⟨d,hd,.inl h,by rw [zdn (y:=eb d) (.inl h) (.inr rfl) (by omega)];exact zaw _⟩⟩
    ·exact ⟨.inr ⟨d,hd,.inr h,by rw [zdn (y:=ea d) (.inr h) (.inl rfl) (by omega)];exact zaw _⟩,.inl h⟩
   ·exact .inr (zaj (zdm.2 ⟨hd,λ c=>ht (.inl c),λ c=>ht (.inr c)⟩))
 ·rintro ⟨e,he,f,hf,h1,h2,h3⟩
  exact ⟨ot e x,ot f x,(zy6 h1 (hp e he)).2,(zy6 h2 (hp f hf)).2,zaa (edge he h1) (zac (edge hf h2)),h3⟩
structure Bs (R:List (Int × Int × Int)) (x:Nat) (D L:List Nat):Prop where
 good:Good R.length L
 alike:∀u v,Lk R.length L u v↔zae (λ i j=>(∃y,y<x/\Rx R y i j)\/(i∈D/\j∈D/\Rx R x i j)) u v
variable {D L:List Nat}
theorem z3g (R:List (Int × Int × Int)):Bs R 0 [] (List.range R.length):=by
 refine ⟨zbi _,λ u v=>⟨?_,λ h=>?_⟩⟩
 ·rintro (rfl | ⟨h1,h2,h3⟩)
  ·exact zae.refl _
  ·have e1:(List.range R.length).getD u 0=u:=by simp [h1]
   have e2:(List.range R.length).getD v 0=v:=by simp [h2]
   rw [e1,e2] at h3;subst h3;exact zae.refl _
 ·exact zae.least (P:=Lk R.length (List.range R.length)) h (λ _=>Lk.refl _) (λ _ _ h=>h.symm) (λ _ _ _ h k=>h.trans k) (by
   rintro i j (⟨y,hy,_⟩ | ⟨h,_⟩)
   ·omega
   ·simp at h)
theorem Rx.lt (h:Rx R x i j):i<R.length/\j<R.length:=by
 obtain ⟨e,f,h1,h2,_⟩:=h;exact ⟨(List.getElem?_eq_some_iff.1 h1).1,(List.getElem?_eq_some_iff.1 h2).1⟩
theorem yaa4 (s:Bs R x D L) (hno:∀j∈D,¬Rx R x j i):Bs R x (D++[i]) L:=by
 refine ⟨s.good,λ u v=>?_⟩;rw [s.alike];constructor
 ·intro h
  refine zae.lift h ?_;rintro p q (h | ⟨h1,h2,h3⟩)
  ·exact zae.base (.inl h)
  ·exact zae.base (.inr ⟨List.mem_append_left _ h1,List.mem_append_left _ h2,h3⟩)
 ·intro h
  refine zae.lift h ?_;rintro p q (h | ⟨h1,h2,h3⟩)
  ·exact zae.base (.inl h)
  ·rcases List.mem_append.1 h1 with h1 | h1
   ·rcases List.mem_append.1 h2 with h2 | h2
    ·exact zae.base (.inr ⟨h1,h2,h3⟩)
    ·rw [List.mem_singleton.1 h2] at h3
     exact absurd h3 (hno p h1)
   ·rcases List.mem_append.1 h2 with h2 | h2
    ·rw [List.mem_singleton.1 h1] at h3
     exact absurd h3.symm (hno q h2)
    ·rw [List.mem_singleton.1 h1,List.mem_singleton.1 h2];exact zae.refl _
theorem z6w (s:Bs R x D L) (hj:j∈D) (h:Rx R x j i):Bs R x (D++[i]) (joinL L j i):=by
 have hl:=h.lt;refine ⟨zgl s.good hl.1 hl.2,λ u v=>?_⟩;rw [zei s.good.len hl.1 hl.2];have up:∀{u v},Lk R.length L u v->zae (λ p q=>(∃y,y<x/\Rx R y p q)\/(p∈D++[i]/\q∈D++[i]/\Rx R x p q)) u v:=by
  intro u v h;refine zae.lift ((s.alike u v).1 h) ?_;rintro p q (h | ⟨h1,h2,h3⟩)
  ·exact zae.base (.inl h)
  ·exact zae.base (.inr ⟨List.mem_append_left _ h1,List.mem_append_left _ h2,h3⟩)
 have b:zae (λ p q=>(∃y,y<x/\Rx R y p q)\/(p∈D++[i]/\q∈D++[i]/\Rx R x p q)) j i:=zae.base (.inr ⟨List.mem_append_left _ hj,by simp,h⟩);constructor
 ·rintro (h | ⟨h,k⟩ | ⟨h,k⟩)
  ·exact up h
  ·exact (up h).trans (b.trans (up k))
  ·exact (up h).trans (b.symm.trans (up k))
 ·intro h'
  have key:Lk R.length (joinL L j i) u v:=zae.least (P:=Lk R.length (joinL L j i)) h' (λ _=>Lk.refl _) (λ _ _ h=>h.symm) (λ _ _ _ h k=>h.trans k) (by
   have old:∀{p q},Lk R.length L p q->Lk R.length (joinL L j i) p q:=λ h=>(zei s.good.len hl.1 hl.2).2 (.inl h)
   have ji:Lk R.length (joinL L j i) j i:=(zei s.good.len hl.1 hl.2).2 (.inr (.inl ⟨Lk.refl _,Lk.refl _⟩));rintro p q (h1 | ⟨h1,h2,h3⟩)
   ·exact old ((s.alike p q).2 (zae.base (.inl h1)))
   ·rcases List.mem_append.1 h1 with h1 | h1
    ·rcases List.mem_append.1 h2 with h2 | h2
     ·exact old ((s.alike p q).2 (zae.base (.inr ⟨h1,h2,h3⟩)))
     ·rw [List.mem_singleton.1 h2] at h3 ⊢
      exact (old ((s.alike p j).2 (zae.base (.inr ⟨h1,hj,h3.trans h.symm⟩)))).trans ji
    ·rw [List.mem_singleton.1 h1] at h3 ⊢
     rcases List.mem_append.1 h2 with h2 | h2
     ·exact (ji.symm).trans (old ((s.alike j q).2 (zae.base (.inr ⟨hj,h2,h.trans h3⟩))))
     ·rw [List.mem_singleton.1 h2];exact Lk.refl _)
  exact (zei s.good.len hl.1 hl.2).1 key
theorem z5x (s:Bs R x D L) (hD:∀i e,R[i]? =some e->tch e x->i∈D):Bs R (x+1) [] L:=by
 refine ⟨s.good,λ u v=>?_⟩;rw [s.alike];constructor
 ·intro h
  refine zae.lift h ?_;rintro p q (⟨y,hy,h⟩ | ⟨_,_,h3⟩)
  ·exact zae.base (.inl ⟨y,by omega,h⟩)
  ·exact zae.base (.inl ⟨x,by omega,h3⟩)
 ·intro h
  refine zae.lift h ?_;rintro p q (⟨y,hy,h⟩ | ⟨h,_⟩)
  ·by_cases c:y=x
   ·rw [c] at h
    obtain ⟨e,f,h1,h2,h3,h4,_⟩:=id h;exact zae.base (.inr ⟨hD p e h1 h3,hD q f h2 h4,h⟩)
   ·exact zae.base (.inl ⟨y,by omega,h⟩)
  ·simp at h
def lb (R:List (Int × Int × Int)) (x:Nat) (K:List Nat) (j:Nat):Nat:=K.getD (ot (R.getD j (0,0,0)) x) 0
structure Gth (R:List (Int × Int × Int)) (x:Nat) (K D:List Nat) (ks:List (Nat × Nat)):Prop where
 nd:ks.Pairwise λ p q=>p.1≠q.1
 at_:∀p∈ks,p.2∈D/\lb R x K p.2=p.1
 all:∀j∈D,∃p∈ks,p.1=lb R x K j
theorem zz4 (R:List (Int × Int × Int)) (x:Nat) (K:List Nat):Gth R x K [] []:=⟨.nil,by simp,by simp⟩
theorem z5a {K:List Nat} {ks:List (Nat × Nat)} (g:Gth R x K D ks) (hno:∀p∈ks,p.1≠lb R x K i):Gth R x K (D++[i]) (ks++[(lb R x K i,i)]):=by
 refine ⟨?_,?_,?_⟩
 ·rw [List.pairwise_append]
  exact ⟨g.nd,List.pairwise_singleton _ _,λ p hp q hq=>by rw [List.mem_singleton.1 hq];exact hno p hp⟩
 ·intro p hp
  rcases List.mem_append.1 hp with h | h
  ·exact ⟨List.mem_append_left _ (g.at_ p h).1,(g.at_ p h).2⟩
  ·rw [List.mem_singleton.1 h];exact ⟨by simp,rfl⟩
 ·intro j hj
  rcases List.mem_append.1 hj with h | h
  ·obtain ⟨p,h1,h2⟩:=g.all j h
   exact ⟨p,List.mem_append_left _ h1,h2⟩
  ·rw [List.mem_singleton.1 h];exact ⟨(lb R x K i,i),by simp,rfl⟩
theorem z6s {K:List Nat} {ks:List (Nat × Nat)} (g:Gth R x K D ks) {p:Nat × Nat} (hp:p∈ks) (h:p.1=lb R x K i):Gth R x K (D++[i]) ks:=by
 refine ⟨g.nd,λ p hp=>⟨List.mem_append_left _ (g.at_ p hp).1,(g.at_ p hp).2⟩,?_⟩;intro j hj;rcases List.mem_append.1 hj with h' | h'
 ·exact g.all j h'
 ·rw [List.mem_singleton.1 h'];exact ⟨p,hp,h⟩
theorem zf2 {i:Nat} (h:R[i]? =some e):R.getD i (0,0,0)=e:=by simp [h]
def Kx (n:Nat) (R:List (Int × Int × Int)) (x:Nat) (K:List Nat):Prop:=∀u v,u<n->v<n->(K.getD u 0=K.getD v 0↔cnR (wo R x) u v)
theorem zoz {n:Nat} (hin:∀e∈R,ea e<n/\eb e<n) (he:e∈R):ot e x<n:=by
 have:=hin e he;unfold ot;split <;> omega
theorem z4o {n:Nat} {K:List Nat} (hK:Kx n R x K) (hin:∀e∈R,ea e<n/\eb e<n) (hi:R[i]? =some e) (hj:R[j]? =some f) (he:tch e x) (hf:tch f x):Rx R x i j↔lb R x K i=lb R x K j:=by
 unfold lb;rw [zf2 hi,zf2 hj,hK _ _ (zoz hin (List.mem_of_getElem? hi)) (zoz hin (List.mem_of_getElem? hj))];constructor
 ·rintro ⟨e',f',h1,h2,_,_,h5⟩
  rw [hi] at h1;rw [hj] at h2;cases h1;cases h2;exact h5
 ·exact λ h=>⟨e,f,hi,hj,he,hf,h⟩
theorem z6x {n:Nat} {K:List Nat} {ks:List (Nat × Nat)} (g:Gth R x K D ks) (hK:Kx n R x K) (hin:∀e∈R,ea e<n/\eb e<n) (hD:∀i,i∈D↔∃e,R[i]? =some e/\tch e x):
 1<ks.length↔∃e∈R,∃f∈R,tch e x/\tch f x/\¬cnR (wo R x) (ot e x) (ot f x):=by
 have key:∀{i j e f},R[i]? =some e->R[j]? =some f->(lb R x K i=lb R x K j↔cnR (wo R x) (ot e x) (ot f x)):=by
  intro i j e f hi hj;unfold lb;rw [zf2 hi,zf2 hj,hK _ _ (zoz hin (List.mem_of_getElem? hi)) (zoz hin (List.mem_of_getElem? hj))]
 constructor
 ·intro h
  match ks,g,h with
  | p::q::r,g,_=>
    have h1:=g.at_ p (by simp);have h2:=g.at_ q (by simp);obtain ⟨e,he,ht⟩:=(hD _).1 h1.1;obtain ⟨f,hf,ht'⟩:=(hD _).1 h2.1;refine ⟨e,List.mem_of_getElem? he,f,List.mem_of_getElem? hf,ht,ht',λ c=>?_⟩;rw [<-key he hf,h1.2,h2.2] at c;exact (List.pairwise_cons.1 g.nd).1 q (by simp) c
 ·rintro ⟨e,he,f,hf,ht,ht',h⟩
  obtain ⟨i,hi⟩:=List.getElem?_of_mem he;obtain ⟨j,hj⟩:=List.getElem?_of_mem hf;obtain ⟨p,hp,hp'⟩:=g.all i ((hD i).2 ⟨e,hi,ht⟩);obtain ⟨q,hq,hq'⟩:=g.all j ((hD j).2 ⟨f,hj,ht'⟩);rw [<-key hi hj,<-hp',<-hq'] at h
  match ks,hp,hq with
  | [],hp,_=>simp at hp
  | [r],hp,hq=>
    rw [List.mem_singleton.1 hp,List.mem_singleton.1 hq] at h;exact absurd rfl h
  | _::_::_,_,_=>simp
def Lbs (R:List (Int × Int × Int)) (l:List Nat):Prop:=l.length=R.length/\∀i,i<R.length->l.getD i 0<=i/\Blk R i (l.getD i 0)
theorem zzx (R:List (Int × Int × Int)):Lbs R (List.range R.length):=⟨by simp,λ i hi=>by
 have e:(List.range R.length).getD i 0=i:=by simp [hi]
 rw [e];exact ⟨Nat.le_refl _,zae.refl _⟩⟩
theorem z2q {l:List Nat} (h:Lbs R l) (hr:Rx R x i k) (hlt:l.getD i 0<l.getD k 0):Lbs R (l.set k (l.getD i 0))/\(l.set k (l.getD i 0)).sum<l.sum:=by
 have hl:=hr.lt;refine ⟨⟨by simp [h.1],λ j hj=>?_⟩,?_⟩
 ·by_cases c:k=j
  ·subst c
   have e:(l.set k (l.getD i 0)).getD k 0=l.getD i 0:=by simp [h.1,hl.2]
   rw [e];have h1:=h.2 k hl.2;exact ⟨by omega,(zae.base ⟨x,hr.symm⟩:Blk R k i).trans (h.2 i hl.1).2⟩
  ·have e:(l.set k (l.getD i 0)).getD j 0=l.getD j 0:=by simp [c]
   rw [e];exact h.2 j hj
 ·have:=zjo l k (l.getD i 0) (by rw [h.1];exact hl.2)
  omega
theorem z2h {l:List Nat} (h:Lbs R l) (hd:∀x i k,Rx R x i k->¬l.getD i 0<l.getD k 0):Good R.length l/\∀u v,Lk R.length l u v↔Blk R u v:=by
 have hiff:∀u v,Lk R.length l u v↔Blk R u v:=by
  intro u v;constructor
  ·rintro (rfl | ⟨h1,h2,h3⟩)
   ·exact zae.refl _
   ·have a:=(h.2 u h1).2
    have b:=(h.2 v h2).2;rw [h3] at a;exact zae.trans a (zae.symm b)
  ·intro k
   exact zae.least (P:=Lk R.length l) k (λ _=>Lk.refl _) (λ _ _ h=>h.symm) (λ _ _ _ h k=>h.trans k) (by
    rintro p q ⟨x,hr⟩;have h1:=hd x p q hr;have h2:=hd x q p hr.symm;exact .inr ⟨hr.lt.1,hr.lt.2,by omega⟩)
 refine ⟨⟨h.1,λ i hi=>(h.2 i hi).1,λ i hi=>?_⟩,hiff⟩;have h1:=(hiff i (l.getD i 0)).2 (h.2 i hi).2;rcases h1 with h1 | ⟨_,_,h3⟩
 ·rw [<-h1,<-h1]
 ·exact h3.symm
end
end Go.Proofs.YtebcjaenhiiflaaGreatDoor.S
namespace Go.Proofs.YtebcjaenhiiflaaGreatDoor.S
open Go.RowKit Go.WideMaps Go.Maps Go.Proofs.Tryz
theorem Ed.nat {n i:Nat} {L:List (Int × Int × Int)} (h:Ed n i L) {e:Int × Int × Int} (he:e∈L):e.2.1=(ea e:Int)/\e.2.2=(eb e:Int)/\ea e<n/\eb e<n/\ea e<eb e:=by
 obtain ⟨x,y,hxy,hy,hq⟩:=h.ends e he;have h1:e.2.1=(x:Int):=by rw [hq]
 have h2:e.2.2=(y:Int):=by rw [hq]
 have h3:ea e=x:=by unfold ea;rw [h1];simp
 have h4:eb e=y:=by unfold eb;rw [h2];simp
 rw [h3,h4];exact ⟨h1,h2,by omega,by omega,by omega⟩
theorem Ed.inn {n i:Nat} {L:List (Int × Int × Int)} (h:Ed n i L):∀e∈L,ea e<n/\eb e<n:=λ _ he=>⟨(h.nat he).2.2.1,(h.nat he).2.2.2.1⟩
theorem Ed.proper {n i:Nat} {L:List (Int × Int × Int)} (h:Ed n i L):∀e∈L,ea e≠eb e:=λ e he=>by have:=(h.nat he).2.2.2.2;omega
theorem z2a {n i:Nat} {L:List (Int × Int × Int)} (h:Ed n i L) (x:Nat) (Fe:Nat->Int):L.filter (G.stays Fe (λ _=>(x:Int)) 0 1)=wo L x:=by
 unfold wo;apply List.filter_congr;intro e he;have hn:=h.nat he;unfold G.stays G.among;rw [hn.1,hn.2.1,Bool.eq_iff_iff];simp;omega
theorem z2x {n i:Nat} {L:List (Int × Int × Int)} (h:Ed n i L) (x:Nat):Good n (joins (List.range n) (wo L x))/\Kx n L x (joins (List.range n) (wo L x)):=by
 have hin:∀d∈wo L x,ea d<n/\eb d<n:=λ d hd=>h.inn d (zdm.1 hd).1
 have hg:=zce (wo L x) _ (zbi n) hin;refine ⟨hg,λ u v hu hv=>?_⟩;rw [<-Lk.iff hu hv,zf7 (wo L x) _ (zbi n) hin];constructor
 ·intro c
  refine zae.lift c ?_;rintro p q (c | ⟨e,he,rfl,rfl⟩)
  ·rcases c with rfl | ⟨h1,h2,h3⟩
   ·exact zae.refl _
   ·have e1:(List.range n).getD p 0=p:=by simp [h1]
    have e2:(List.range n).getD q 0=q:=by simp [h2]
    rw [e1,e2] at h3;subst h3;exact zae.refl _
  ·exact zaj he
 ·intro c
  refine zae.lift c ?_;rintro p q ⟨e,he,rfl,rfl⟩;exact zae.base (.inr ⟨e,he,rfl,rfl⟩)
theorem But.cell {b:Nat} {w w':World} (h:But b w w') {g i:Nat} {v:Value} (hg:w.cell? ⟨g,i,none⟩=some v) (h1:g≠b):w'.cell? ⟨g,i,none⟩=some v:=by
 have hl:=lt_of_cell hg;simp only [World.cell?] at hg ⊢;rw [h.block g hl h1];exact hg
theorem zhl (L:List Nat) (ds:List (Int × Int × Int)) (d:Int × Int × Int):joins L (ds++[d])=joinL (joins L ds) (ea d) (eb d):=by
 rw [zf4];rfl
theorem z8s (x n B0 q M:Nat) (u:Value) (R:List (Int × Int × Int)) (w:World) (h:G.GAt w B0 168 61 q (n:Int) u R) (hn:n<=40) (hed:Ed n M R) (hM:M<=120):
 Calls prog 246 #[.pointer (some ⟨q,0,none⟩),.int .i64 (x:Int)] w λ e w'=>∃p b K,e= .returned (.pointer (some ⟨p,0,none⟩))/\zab w' p b K/\Good n K/\Kx n R x K/\Below w.heap.size w w'/\w.heap.size<=p/\w.heap.size<=b:=by
 have HG:=kd h;have HE:=kd hed;have HKX:=(show Hid _ from z2x hed x);have hlen:=hed.len;clear h hed;go_enter func246,ntmps246;go_wp2_with fail;refine (G.zbb (n:Int) B0 q u R w HG.out).mono ?_;rintro e w1 ⟨rfl,hw1⟩;subst hw1;go_wp2_with fail;refine (zfk n w1 hn).mono ?_;rintro e w2 ⟨rfl,hs2,hb2⟩;have HS2:=kd (And.intro hs2 hb2);have hsz:w1.heap.size+1<w2.heap.size:=hs2.plt;obtain ⟨W1,hW1⟩:∃W1,W1=w2.alloc (.cells #[.int .i64 (x:Int)] 3):=⟨_,rfl⟩;have hbW:Below w2.heap.size w2 W1:=by rw [hW1];exact (Below.refl _ _).alloc (Nat.le_refl _) _
 have hcW:W1.cell? ⟨w2.heap.size,0,none⟩=some (.int .i64 (x:Int)):=by rw [hW1,World.cell?_alloc_at _ _ _ _ rfl];rfl
 have HW1:=kd hW1.symm;have HBW:=kd (And.intro hbW hcW);clear hs2 hb2 hW1 hbW hcW;go_wp2_with fail;rw [HW1.out];refine (G.zjy (n:Int) B0 q u R none (some ⟨w2.heap.size,0,none⟩) 0 1 0 1 (λ _=>0) (λ _=>(x:Int)) W1 ((HG.out.below HS2.out.2).below HBW.out.1) (by omega) ⟨λ h=>by omega⟩ ⟨λ _=>⟨w2.heap.size,0,rfl,λ t ht=>by
  obtain rfl:t=0:=by omega
  exact HBW.out.2⟩⟩ (by omega) (by omega)).mono ?_
 rintro e w3 ⟨p',v',rfl,hg3,hb3⟩;rw [z2a HE.out] at hg3;have HG3:=kd hg3;have HB3:Hid (Below w2.heap.size w2 w3):=HBW.out.1.trans (hb3.mono HBW.out.1.size);have hwl:(wo R x).length<=R.length:=List.length_filter_le _ _;clear hg3 hb3 HBW HW1;go_wp2_with fail;refine (G.zbv (n:Int) _ p' v' (wo R x) w3 HG3.out (by omega)).mono ?_;rintro e w4 ⟨v,rfl,ho,hb4⟩;obtain ⟨m,hm⟩:∃m,m=(wo R x).length:=⟨_,rfl⟩;have HM':=kd hm;obtain ⟨va,vc,hv⟩:=ho.zal;rw [<-hm] at hv hwl;subst hv;have HO:=kd ho;have HB4:Hid (Below w2.heap.size w2 w4):=HB3.out.trans (hb4.mono HB3.out.size);have HS4:Hid (zab w4 (w1.heap.size+1) w1.heap.size (List.range n)):=HS2.out.1.below HB4.out hsz (by omega);have hs34:w2.heap.size<=w3.heap.size:=HB3.out.size;clear ho hb4 hm;go_wp2_with fail;go_loopw [21] (λ s21 wq=>∃j:Nat,j<=m/\s21= .int .i64 j/\zab wq (w1.heap.size+1) w1.heap.size (joins (List.range n) ((wo R x).take j))/\But w1.heap.size w4 wq) (λ s21 _=>m-(intOf s21).toNat)
 case atStart=>exact ⟨0,Nat.zero_le _,rfl,by simpa [joins] using HS4.out,But.refl _ _⟩
 case round=>
  clear HS4;obtain ⟨j,hj,rfl,hs,hk⟩:=hrel;have HR:=kd (And.intro hs hk);clear hs hk;by_cases hlt:j<m
  ·obtain ⟨e,hxe⟩:∃e,(wo R x)[j]? =some e:=⟨_,List.getElem?_eq_getElem (by rw [<-HM'.out];exact hlt)⟩
   have heL:=(zdm.1 (List.mem_of_getElem? hxe)).1;have hnat:=HE.out.nat heL;obtain ⟨g,hva⟩:∃g,va=some ⟨g,0,none⟩:=by
    rcases HO.out.shape with ⟨_,k⟩ | ⟨g,cap,k,_⟩
    ·rw [k] at hxe;simp at hxe
    ·injection k with e1 _ _
     exact ⟨g,e1⟩
   subst hva;obtain ⟨r0,r1,r2⟩:=HO.out.at (g:=g) rfl hxe;have hgb:=World.ownsRow.lt HO.out g rfl;have q0:=(HR.out.2.cell (g:=g) r0 (by omega));have q1:=(HR.out.2.cell (g:=g) r1 (by omega));have q2:=(HR.out.2.cell (g:=g) r2 (by omega));have HTK:Hid ((wo R x).take (j+1)=(wo R x).take j++[e]):=by
    show (wo R x).take (j+1)=_;rw [List.take_add_one,hxe];rfl
   rw [hnat.1] at q1;rw [hnat.2.1] at q2;obtain ⟨hA,hE,hAE⟩:=hnat.2.2;have HAE:Hid (joins (List.range n) ((wo R x).take (j+1))=joinL (joins (List.range n) ((wo R x).take j)) (ea e) (eb e)):=by
    show joins _ _=_;rw [HTK.out,zhl]
   have hgl:(joins (List.range n) ((wo R x).take j)).length=n:=(zce ((wo R x).take j) _ (zbi n) (λ d hd=>HE.out.inn d (zdm.1 (List.mem_of_mem_take hd)).1)).len;generalize ea e=A at*;generalize eb e=E at*;generalize e.1=x0 at*;generalize joins (List.range n) ((wo R x).take j)=J at*;clear hxe r0 r1 r2 heL hnat HTK;obtain ⟨W1,hW1⟩:∃W1,W1=wr.alloc (.cells #[.int .i64 x0,.int .i64 (A:Int),.int .i64 (E:Int)] 61):=⟨_,rfl⟩;have hh:W1.heap[wr.heap.size]? =some (.cells #[.int .i64 x0,.int .i64 (A:Int),.int .i64 (E:Int)] 61):=by rw [hW1];exact heap_alloc_new wr _
   have p0:W1.cell? ⟨wr.heap.size,0,none⟩=some (.int .i64 x0):=by simp [World.cell?,hh]
   have p1:W1.cell? ⟨wr.heap.size,1,none⟩=some (.int .i64 (A:Int)):=by simp [World.cell?,hh]
   have p2:W1.cell? ⟨wr.heap.size,2,none⟩=some (.int .i64 (E:Int)):=by simp [World.cell?,hh]
   have hbW:Below wr.heap.size wr W1:=by rw [hW1];exact (Below.refl _ _).alloc (Nat.le_refl _) _
   have HR1:Hid (zab W1 (w1.heap.size+1) w1.heap.size J/\But w1.heap.size w4 W1):=⟨HR.out.1.below hbW HR.out.1.plt HR.out.1.blt,HR.out.2.trans (But.of_below hbW)⟩;have HW1:=kd hW1.symm;clear hh hW1 hbW HR;go_wp2_with fail;rw [HW1.out];refine (zms A E _ _ J _ W1 HR1.out.1 (by omega) (by omega) (by omega) rfl).mono ?_;rintro e' w5 ⟨rfl,hs5,hk5⟩;have HR5:Hid (zab w5 (w1.heap.size+1) w1.heap.size (joins (List.range n) ((wo R x).take (j+1)))/\But w1.heap.size w4 w5):=by
    rw [HAE.out];exact ⟨hs5,HR1.out.2.trans hk5⟩
   clear hs5 hk5 HR1 p0 p1 p2;go_wp2_with fail;go_roundw;case rel=>exact ⟨j+1,by omega,by go_num,HR5.out.1,HR5.out.2⟩
   case measure=>simp [intOf];omega
  ·have hje:j=m:=by omega
   subst hje;have HF:Hid (zab wr (w1.heap.size+1) w1.heap.size (joins (List.range n) (wo R x))):=by
    have:=HR.out.1;rw [List.take_of_length_le (by rw [<-HM'.out];omega)] at this;exact this
   have HBF:Hid (Below w1.heap.size w1 wr):=(HS2.out.2.trans (HB4.out.mono HS2.out.2.size)).trans (HR.out.2.below (Nat.le_refl _) (by have:=HB4.out.size;omega));clear HR;go_wp2_with fail;go_ret;exact ⟨_,_,_,rfl,HF.out,HKX.out.1,HKX.out.2,HBF.out,Nat.le_succ _,Nat.le_refl _⟩
open Go Go.ChangeMaps Go.MapKept Go.WideShapes
open Go.WideElems (Fit rd rg pl rd_key rd_val rg_of rd_mk other_key)
open Go.Maps (Keyed)
section
variable {H:Type} {P:Program} {k:TypeId} {R:Value->Option (DataW H × List MemPlace)} {w:World} {b r n:Nat} {D:DataW H} {left:Lit->Bool} {cnt:Nat}
theorem zpk {t e:TypeId} (h:w.ranges P k R b r n D left cnt) (K:Keyed P k) (ht:P.underlying t=some (.map k e)) {key val:Value} {kl:Lit} {d:DataW H} {ps:List MemPlace}
 (hkey:keyOf P k key=some kl) (hv:R val=some (d,ps)) (hhas:Maps.has D kl=true):
 ∃w',(Instr.mapUpdate t (.map (some b)) key val).run P w= .ok () w'/\w'.ranges P k R b r n (D.put kl d) left cnt/\w.mapTurned w' b:=by
 have hne:=h.ne;obtain ⟨es,clock,since,seen,c0,hb,F,hs,rfl,hr,hold,rfl,hl1,hl2,hsc,hsk⟩:=h;rcases K.find w hkey es.toList F.keys with ⟨h1,h2⟩ | ⟨j,e0,h1,h2,h3⟩
 ·exfalso
  rw [Maps.has_eq,List.any_eq_true] at hhas;obtain ⟨p,hp,hpk⟩:=hhas;obtain ⟨x,hx,rfl⟩:=List.mem_map.1 (mem_sorted.1 hp);obtain ⟨y,hy⟩:=F.reads x hx;have e1:=WideAt.sameKey_eq hpk;rw [rg_of hy] at e1;exact h2 x hx (K.inj (e1▸rd_key hy) hkey)
 ·have hj:es[j]? =some e0:=by simpa using h2
  have hjl:j<es.toList.length:=(List.getElem?_eq_some_iff.1 h2).1;have hkeyf:∀e',es[j]? =some e'->({e' with key:=key,val:=val}:MapEntry).key=e'.key:=λ e' he'=>by rw [hj] at he';cases he';exact h3.symm
  have hlist:(es.modify j (λ e'=>{e' with key:=key,val:=val})).toList=es.toList.set j {e0 with key:=key,val:=val}:=by rw [Array.toList_modify,modify_eq_set _ _ _ _ h2]
  have who:∀x∈es.toList.set j {e0 with key:=key,val:=val},x={e0 with key:=key,val:=val}\/(x∈es.toList/\x.key≠key):=by
   intro x hx;obtain ⟨i,hi,ex⟩:=List.getElem_of_mem hx;rw [List.getElem_set] at ex;split at ex
   ·exact Or.inl ex.symm
   ·rename_i hne
    have hi':i<es.toList.length:=by simpa using hi
    refine Or.inr ⟨ex▸List.getElem_mem hi',?_⟩;rw [<-h3];exact other_key F h2 (by rw [List.getElem?_eq_getElem hi',ex]) (λ e1=>hne e1.symm)
  have he0:e0∈es.toList:=List.mem_of_getElem? h2;have hrg0:(rg P k R e0).1=kl:=by
   obtain ⟨y,hy⟩:=F.reads e0 he0;have m0:=rd_key hy;rw [h3,hkey] at m0;rw [rg_of hy];exact (Option.some.inj m0).symm
  have hrgn:(rg P k R {e0 with key:=key,val:=val}).1=kl:=by rw [rg_of (rd_mk hkey hv)]
  refine ⟨_,?_,⟨es.modify j (λ e'=>{e' with key:=key,val:=val}),clock,since,seen,c0,heap_setBlock_same hb _,⟨by simpa using F.size,stamped_modify F.stamped _ _ (λ _ _=>rfl) (λ e' _ he'=>hkeyf e' he'),?_⟩,by simpa using hs,?_,(heap_setBlock_other hb _ hne).trans hr,?_,?_,?_,?_,hsc,hsk⟩,⟨es,clock,_,clock,hb,rfl⟩⟩
  ·simp [Instr.mapUpdate,run_underlying ht,MapKept.run_getObj_map hb,K.check w false hkey,h1,hj,h3,K.stays w hkey,MapKept.run_setObj_map _ hb,Result.andThen,setBlock]
  ·intro x hx
   rw [hlist] at hx;rcases who x hx with rfl | ⟨hx',_⟩
   ·exact ⟨_,rd_mk hkey hv⟩
   ·exact F.reads x hx'
  ·rw [DataW.put_eq]
   congr 1
   symm;refine Maps.sorted_put K.one ⟨key,hkey⟩ (Maps.fit_keys F) (Maps.fit_apart K F) ?_;rw [Maps.filter_one K F hkey h2 h3,hlist,List.map_set,rg_of (rd_mk hkey hv)];exact set_perm _ _ (by simpa using hjl) _
  ·intro x hx
   rw [hlist] at hx;rcases who x hx with rfl | ⟨hx',_⟩
   ·exact hold e0 he0
   ·exact hold x hx'
  ·have e1:∀a:Array MapEntry,(leftOf a seen).size=((a.toList.map MapEntry.born).filter λ e=>!seen.contains e).length:=λ a=>by
    unfold leftOf;rw [<-Array.length_toList,Array.toList_filter,List.filter_map,List.length_map];rfl
   rw [e1,e1,hlist,List.map_set];have e2:(es.toList.map MapEntry.born).set j e0.born=es.toList.map MapEntry.born:=by
    apply List.ext_getElem
    ·simp
    ·intro i h1' h2'
     rw [List.getElem_set];split
     ·next hji=>
      subst hji;rw [List.getElem_map];have:=(List.getElem?_eq_some_iff.1 h2).2;rw [this]
     ·rfl
   rw [e2]
  ·intro x hx
   rw [hlist] at hx;rcases who x hx with rfl | ⟨hx',_⟩
   ·rw [hrgn,<-hrg0,hl1 e0 he0]
   ·exact hl1 x hx'
  ·intro kl' hk
   obtain ⟨x,hx,rfl⟩:=hl2 kl' hk;by_cases hxk:x.key=key
   ·have:(rg P k R x).1=kl:=by
     obtain ⟨y,hy⟩:=F.reads x hx;have m0:=rd_key hy;rw [hxk,hkey] at m0;rw [rg_of hy];exact (Option.some.inj m0).symm
    refine ⟨{e0 with key:=key,val:=val},?_,by rw [hrgn,this]⟩;rw [hlist];exact List.mem_iff_getElem.2 ⟨j,by simpa using hjl,by simp⟩
   ·refine ⟨x,?_,rfl⟩
    rw [hlist];obtain ⟨i,hi⟩:=List.getElem?_of_mem hx;obtain ⟨hil,hie⟩:=List.getElem?_eq_some_iff.1 hi;have hij:j≠i:=by
     rintro rfl;rw [h2] at hi;cases hi;exact hxk h3
    exact List.mem_iff_getElem.2 ⟨i,by simpa using hil,by rw [List.getElem_set,if_neg hij];exact hie⟩
end
section
variable {H:Type} {P:Program} (w:World) {ops:Array Oper} {rest:List Oper} {o:Oper} {a:Act} {Q:Exit->Act->World->Prop}
theorem zds (hg:o.guard=none) (m x v:Operand) (t:TypeId) (hop:o.op=Op.mapUpdate t m x v)
 (k e:TypeId) (K:Keyed P k) (ht:P.underlying t=some (.map k e)) (R:Value->Option (DataW H × List MemPlace)) (b r n:Nat) (D:DataW H) (left:Lit->Bool) (cnt:Nat)
 (hm:a.eval m= .map (some b)) (h:w.ranges P k R b r n D left cnt) (key val:Value) (kl:Lit) (hx:a.eval x=key) (hv:a.eval v=val) (hkey:keyOf P k key=some kl)
 (d:DataW H) (ps:List MemPlace) (hval:R val=some (d,ps)) (hhas:Maps.has D kl=true)
 (hK:∀w',w'.ranges P k R b r n (D.put kl d) left cnt->w.mapTurned w' b->wpList P ops Q rest (a.put o.dst undef) w'):
 wpList P ops Q (o::rest) a w:=by
 refine wpList_plain hg λ K' hK'=>?_
 obtain ⟨w',hrun,r1,r2⟩:=zpk h K ht hkey hval hhas;unfold Oper.wp;simp [execOp,hop,hm,hx,hv,hrun,Result.andThen];exact hK' _ _ (hK w' r1 r2)
end
end Go.Proofs.YtebcjaenhiiflaaGreatDoor.S
namespace Go.Proofs.YtebcjaenhiiflaaGreatDoor.S
open Go.Proofs.Tryz
open Go.RowKit Go.WideMaps Go.Maps
def zas (R:List (Int × Int × Int)) (j:Nat):Int:=(R.getD j (0,0,0)).1
theorem zcs {R:List (Int × Int × Int)} {i:Nat} {e:Int × Int × Int} (h:R[i]? =some e):zas R i=e.1:=by simp [zas,h]
theorem ze5 {R:List (Int × Int × Int)} (hu:G.Up R) {i j:Nat} (h:i<j) (hj:j<R.length):zas R i<zas R j:=by
 have:=List.pairwise_iff_getElem.1 hu i j (by omega) hj h
 simpa [zas,hj,show i<R.length by omega] using this
theorem zh3 {R:List (Int × Int × Int)} (hu:G.Up R) {i j:Nat} (hi:i<R.length) (hj:j<R.length) (h:zas R i=zas R j):i=j:=by
 rcases Nat.lt_trichotomy i j with c | c | c
 ·have:=ze5 hu c hj;omega
 ·exact c
 ·have:=ze5 hu c hi;omega
structure Lm (D:DataW Unit) (R:List (Int × Int × Int)) (L:List Nat):Prop where
 key:∀x:Int,Maps.has D (.int .i64 x)=true↔∃e∈R,e.1=x
 val:∀i e,R[i]? =some e->∀zd,D.atKey (.int .i64 e.1) zd= .lit (.int .i64 (zas R (L.getD i 0)))
structure za5 (w:World) (p m N:Nat) (D:DataW Unit) (v:Value):Prop where
 hp:w.heap[p]? =some (.cells #[.map (some m),v] 196)
 hm:w.ownsMap prog 3 (plainElem prog 3) m N D
namespace za5
open Go.Proofs.Tryz
variable {w w':World} {p m N:Nat} {D D':DataW Unit} {v:Value}
theorem plt (h:za5 w p m N D v):p<w.heap.size:=lt_of_some h.hp
theorem c0 (h:za5 w p m N D v):w.cell? ⟨p,0,none⟩=some (.map (some m)):=by simp [World.cell?,h.hp]
theorem c1 (h:za5 w p m N D v):w.cell? ⟨p,1,none⟩=some v:=by simp [World.cell?,h.hp]
theorem ne (h:za5 w p m N D v):p≠m:=by
 obtain ⟨es,c,hb,_⟩:=h.hm;rintro rfl;rw [h.hp] at hb;simp at hb
theorem below (h:za5 w p m N D v) (hb:Below w.heap.size w w'):za5 w' p m N D v:=
 ⟨by rw [hb.block p h.plt];exact h.hp,h.hm.kept (row:=none) ⟨hb.os,hb.tape,hb.output,hb.size,λ k hk _=>hb.block k hk⟩ (by simp)⟩
theorem drewN (h:za5 w p m N D v) (n:Nat):za5 (w.drewN n) p m N D v:=⟨h.hp,h.hm⟩
end za5
def nm (lo hi l:Int):Int:=if l=hi then lo else l
theorem yab9 {R:List (Int × Int × Int)} {L:List Nat} (hu:G.Up R) (g:Good R.length L) {x y i:Nat} (hx:x<R.length) (hy:y<R.length) (hi:i<R.length):
 nm (min (zas R (L.getD x 0)) (zas R (L.getD y 0))) (max (zas R (L.getD x 0)) (zas R (L.getD y 0))) (zas R (L.getD i 0))=zas R ((joinL L x y).getD i 0):=by
 have lx:=g.le x hx;have ly:=g.le y hy;have li:=g.le i hi;rw [zdi _ _ _ _ (by rw [g.len];exact hi)];generalize L.getD x 0=X at*;generalize L.getD y 0=Y at*;generalize L.getD i 0=I at*;have hmin:min (zas R X) (zas R Y)=zas R (min X Y):=by
  rcases Nat.lt_trichotomy X Y with c | c | c
  ·have:=ze5 hu c (by omega);rw [Nat.min_eq_left (by omega)];omega
  ·subst c;rw [Nat.min_self];omega
  ·have:=ze5 hu c (by omega);rw [Nat.min_eq_right (by omega)];omega
 have hmax:max (zas R X) (zas R Y)=zas R (max X Y):=by
  rcases Nat.lt_trichotomy X Y with c | c | c
  ·have:=ze5 hu c (by omega);rw [Nat.max_eq_right (by omega)];omega
  ·subst c;rw [Nat.max_self];omega
  ·have:=ze5 hu c (by omega);rw [Nat.max_eq_left (by omega)];omega
 rw [hmin,hmax];unfold nm named;by_cases c:I=max X Y
 ·rw [if_pos (by rw [c]),if_pos c]
 ·rw [if_neg (λ k=>c (zh3 hu (by omega) (by omega) k)),if_neg c]
structure Mid (D:DataW Unit) (R:List (Int × Int × Int)) (L:List Nat) (lo hi:Int) (left:Lit->Bool):Prop where
 key:∀x:Int,Maps.has D (.int .i64 x)=true↔∃e∈R,e.1=x
 old:∀i e,R[i]? =some e->left (.int .i64 e.1)=true->∀zd,D.atKey (.int .i64 e.1) zd= .lit (.int .i64 (zas R (L.getD i 0)))
 new:∀i e,R[i]? =some e->left (.int .i64 e.1)=false->∀zd,D.atKey (.int .i64 e.1) zd= .lit (.int .i64 (nm lo hi (zas R (L.getD i 0))))
theorem zn3 {D:DataW Unit} {R:List (Int × Int × Int)} {L:List Nat} (h:Lm D R L) (lo hi:Int):Mid D R L lo hi (Maps.has D):=
 ⟨h.key,λ i e he _=>h.val i e he,λ i e he hl=>by
   rw [(h.key e.1).2 ⟨e,List.mem_of_getElem? he,rfl⟩] at hl;cases hl⟩
theorem mid_end {D:DataW Unit} {R:List (Int × Int × Int)} {L:List Nat} {x y:Nat} {left:Lit->Bool} (hu:G.Up R) (g:Good R.length L) (hx:x<R.length) (hy:y<R.length)
 (h:Mid D R L (min (zas R (L.getD x 0)) (zas R (L.getD y 0))) (max (zas R (L.getD x 0)) (zas R (L.getD y 0))) left) (hl:∀kl,left kl=false):Lm D R (joinL L x y):=
 ⟨h.key,λ i e he zd=>by
   rw [h.new i e he (hl _) zd,yab9 hu g hx hy (List.getElem?_eq_some_iff.1 he).1]⟩
theorem zj6 (x y:Int):(Lit.int .i64 x).sameKey (.int .i64 y)=decide (x=y):=by
 by_cases h:x=y
 ·subst h;rw [WideAt.sameKey_self (zbe x)];simp
 ·rw [sameKey_ne (by simpa using h)];simp [h]
theorem zrw {R:List (Int × Int × Int)} (hu:G.Up R) {i j:Nat} {e f:Int × Int × Int} (hi:R[i]? =some e) (hj:R[j]? =some f) (h:e.1=f.1):i=j/\e=f:=by
 have e1:=zcs hi;have e2:=zcs hj;have hij:=zh3 hu (List.getElem?_eq_some_iff.1 hi).1 (List.getElem?_eq_some_iff.1 hj).1 (by rw [e1,e2,h]);subst hij;rw [hi] at hj;cases hj;exact ⟨rfl,rfl⟩
theorem zp4 {D:DataW Unit} {R:List (Int × Int × Int)} {L:List Nat} {lo hi:Int} {left:Lit->Bool} (hu:G.Up R) (h:Mid D R L lo hi left) {i:Nat} {e:Int × Int × Int} (he:R[i]? =some e) (hl:left (.int .i64 e.1)=true) (hne:zas R (L.getD i 0)≠hi):
 Mid D R L lo hi (λ z=>left z&&!z.sameKey (.int .i64 e.1)):=by
 refine ⟨h.key,λ j f hf hlf zd=>?_,λ j f hf hlf zd=>?_⟩
 ·simp only [Bool.and_eq_true] at hlf
  exact h.old j f hf hlf.1 zd
 ·by_cases c:f.1=e.1
  ·obtain ⟨rfl,rfl⟩:=zrw hu hf he c
   rw [h.old j f hf hl zd];unfold nm;rw [if_neg hne]
  ·simp only [zj6,c,decide_false,Bool.not_false,Bool.and_true] at hlf
   exact h.new j f hf hlf zd
theorem zrg {D:DataW Unit} {R:List (Int × Int × Int)} {L:List Nat} {lo hi:Int} {left:Lit->Bool} (hD:IsMap D) (hu:G.Up R) (h:Mid D R L lo hi left) {i:Nat} {e:Int × Int × Int} (he:R[i]? =some e) (heq:zas R (L.getD i 0)=hi):
 Mid (D.put (.int .i64 e.1) (.lit (.int .i64 lo))) R L lo hi (λ z=>left z&&!z.sameKey (.int .i64 e.1)):=by
 refine ⟨λ x=>?_,λ j f hf hlf zd=>?_,λ j f hf hlf zd=>?_⟩
 ·by_cases c:x=e.1
  ·subst c
   rw [has_put_same hD (zbe _)];exact ⟨λ _=>⟨e,List.mem_of_getElem? he,rfl⟩,λ _=>rfl⟩
  ·rw [has_put_other (by simpa using c)];exact h.key x
 ·by_cases c:f.1=e.1
  ·simp [zj6,c] at hlf
  ·rw [atKey_put_other (by simpa using c)]
   simp only [Bool.and_eq_true] at hlf;exact h.old j f hf hlf.1 zd
 ·by_cases c:f.1=e.1
  ·obtain ⟨rfl,rfl⟩:=zrw hu hf he c
   rw [atKey_put_same hD (zbe _)];unfold nm;rw [if_pos heq]
  ·rw [atKey_put_other (by simpa using c)]
   simp only [zj6,c,decide_false,Bool.not_false,Bool.and_true] at hlf;exact h.new j f hf hlf zd
theorem But.next {m r:Nat} {w w1 w2:World} (h:But m w w1) (hr:w.heap.size<=r) (hg:w1.grownBy w2 (some r)):But m w w2:=
 ⟨hg.os.trans h.os,hg.tape.trans h.tape,hg.output.trans h.output,Nat.le_trans h.size hg.size,λ k hk hn=>(hg.block k (Nat.lt_of_lt_of_le hk h.size) (λ e=>by injection e with e;omega)).trans (h.block k hk hn)⟩
theorem But.turned {m:Nat} {w w1 w2:World} (h:But m w w1) (hg:w1.mapTurned w2 m):But m w w2:=
 ⟨hg.grown.os.trans h.os,hg.grown.tape.trans h.tape,hg.grown.output.trans h.output,Nat.le_trans h.size hg.grown.size,λ k hk hn=>(hg.grown.block k (Nat.lt_of_lt_of_le hk h.size) (λ e=>by injection e with e;omega)).trans (h.block k hk hn)⟩
theorem zdy (w:World):(zeroValue 3).run prog w= .ok (.int .i64 0) w:=by kernel_rfl
theorem zfa {a b:Int} (h:(DataW.lit (.int .i64 a):DataW Unit)= .lit (.int .i64 b)):a=b:=by
 injection h with h
 injection h
theorem zhy {w:World} {m N:Nat} {D:DataW Unit} {R:List (Int × Int × Int)} {L:List Nat} (hm:w.ownsMap prog 3 (plainElem prog 3) m N D) (hl:Lm D R L) {i:Nat} {e:Int × Int × Int} (he:R[i]? =some e) (hw:(Lit.int .i64 e.1).wf=true):
 (Instr.lookup 183 (.map (some m)) (.int .i64 e.1) false).run prog w= .ok (.int .i64 (zas R (L.getD i 0))) w:=by
 obtain ⟨c,hrun,hat,_⟩:=hm.lookup_int za6 underlying183 underlying3 (zdy w) (zdt e.1 hw);rw [hl.val i e he] at hat;have:c=zas R (L.getD i 0):=by
  have h2:=zfa hat;exact h2.symm
 rw [hrun,this]
theorem zxt {R:List (Int × Int × Int)} {L:List Nat} {e f:Int × Int × Int} (x y p m N:Nat) (D:DataW Unit) (v:Value) (w:World) (h:za5 w p m N D v) (hl:Lm D R L) (g:Good R.length L) (hu:G.Up R) (hx:R[x]? =some e) (hy:R[y]? =some f) (hid:∀e∈R,0<=e.1/\e.1<=1099511627776):
 Calls prog 249 #[.pointer (some ⟨p,0,none⟩),.int .i64 e.1,.int .i64 f.1] w λ en w'=>en= .returned (.tuple #[])/\∃D',za5 w' p m N D' v/\Lm D' R (joinL L x y)/\But m w w':=by
 have hxl:=(List.getElem?_eq_some_iff.1 hx).1;have hyl:=(List.getElem?_eq_some_iff.1 hy).1;have hwf:∀e∈R,(Lit.int .i64 e.1).wf=true:=λ e he=>zar (hid e he).1 (hid e he).2
 have hix:0<=zas R (L.getD x 0)/\zas R (L.getD x 0)<=1099511627776:=by
  have hl:=Nat.lt_of_le_of_lt (g.le x hxl) hxl;have:=zcs (List.getElem?_eq_getElem hl);rw [this];exact hid _ (List.getElem_mem hl)
 have hiy:0<=zas R (L.getD y 0)/\zas R (L.getD y 0)<=1099511627776:=by
  have hl:=Nat.lt_of_le_of_lt (g.le y hyl) hyl;have:=zcs (List.getElem?_eq_getElem hl);rw [this];exact hid _ (List.getElem_mem hl)
 have lk1:=λ n=>zhy (h.drewN n).hm hl hx (hwf e (List.mem_of_getElem? hx))
 have lk2:=λ n=>zhy (h.drewN n).hm hl hy (hwf f (List.mem_of_getElem? hy))
 have hc0:=h.c0;have HB:=kd h;have HL:=kd hl;have HGD:Hid (Good R.length L/\G.Up R/\x<R.length/\y<R.length):=⟨g,hu,hxl,hyl⟩;have HWF:=kd hwf;obtain ⟨X,hX⟩:∃X,zas R (L.getD x 0)=X:=⟨_,rfl⟩;obtain ⟨Y,hY⟩:∃Y,zas R (L.getD y 0)=Y:=⟨_,rfl⟩;rw [hX] at lk1 hix;rw [hY] at lk2 hiy;have HXY:=kd (And.intro hX hY);have HSM:Hid (X=Y->joinL L x y=L):=λ k=>by
  apply zlh;exact zh3 hu (Nat.lt_of_le_of_lt (g.le x hxl) hxl) (Nat.lt_of_le_of_lt (g.le y hyl) hyl) (by rw [hX,hY];exact k)
 have hwX:(Lit.int .i64 X).wf=true:=zar hix.1 hix.2;have hwY:(Lit.int .i64 Y).wf=true:=zar hiy.1 hiy.2;clear h hl g hu hxl hyl hwf hX hY hid hx hy;generalize e.1=e1 at*;generalize f.1=f1 at*;by_cases heq:X=Y
 ·subst heq
  go_enter func249,ntmps249;go_wp2_with fail;go_quiet (fail);go_wp2_with fail;refine bodyPost_ret (results_none rfl _ _ _) rfl ?_;exact ⟨rfl,D,HB.out.drewN _,by rw [HSM.out trivial];exact HL.out,But.of_below (below_drewN (Below.refl _ _) _)⟩
 ·obtain ⟨lo,hlo⟩:∃lo,min X Y=lo:=⟨_,rfl⟩
  obtain ⟨hi,hhi⟩:∃hi,max X Y=hi:=⟨_,rfl⟩;have hwlo:(Lit.int .i64 lo).wf=true:=by
   rcases Int.le_total X Y with c | c
   ·rw [<-hlo,Int.min_eq_left c];exact hwX
   ·rw [<-hlo,Int.min_eq_right c];exact hwY
  have hne:(lo==hi)=false:=beq_eq_false_iff_ne.2 (by omega);have HMM:Hid (min (zas R (L.getD x 0)) (zas R (L.getD y 0))=lo/\max (zas R (L.getD x 0)) (zas R (L.getD y 0))=hi):=by
   refine ⟨?_,?_⟩ <;> rw [HXY.out.1,HXY.out.2] <;> assumption
  have hmsz:=HB.out.hm.lt;have hpsz:=HB.out.plt;have hpm:=HB.out.ne;rcases Int.lt_or_gt_of_ne heq with hlt | hgt
  ·obtain ⟨rfl,rfl⟩:X=lo/\Y=hi:=by omega
   go_enter func249,ntmps249;go_wp2_with fail;go_quiet (fail);have HPW:=kd HB.out.hp;have HOW:Hid (za5 (w.drewN nq) p m N D v/\But m w (w.drewN nq)):=⟨HB.out.drewN nq,But.of_below (below_drewN (Below.refl _ _) nq)⟩;have HSZ:Hid ((w.drewN nq).heap.size=w.heap.size):=rfl;generalize w.drewN nq=W at*;have hown:=HOW.out.1.hm;have hc0:=HOW.out.1.c0;clear lk1 lk2 HB HXY HSM heq;go_wp2_with (first
    | (at_range;refine wpList_range_own _ rfl _ 183 rfl 3 3 za6 underlying183 (plainElem prog 3) m N D rfl hown ?_;intro w0 hrg0 hg0 hs0)
    | fail)
   go_frame
   have HR0:=kd hrg0;have HG0:Hid (But m w w0):=HOW.out.2.trans ⟨hg0.os,hg0.tape,hg0.output,hg0.size,λ k hk _=>hg0.block k hk (by simp)⟩;clear hrg0 hg0 hs0 hown hc0;go_loopw [8] (λ _ wr=>∃(Dc:DataW Unit) (left:Lit->Bool) (cnt:Nat),wr.ranges prog 3 (plainElem prog 3) m W.heap.size N Dc left cnt/\Mid Dc R L X Y left/\But m w wr) (λ _ wr=>wr.rangeLeft m W.heap.size)
   case atStart=>exact ⟨D,_,_,HR0.out,zn3 HL.out _ _,HG0.out⟩
   case round=>
    obtain ⟨Dc,left,cnt,hrg,hmid,hbt⟩:=hrel;have HRG:=kd hrg;have HMD:=kd hmid;have HBT:=kd hbt;clear hrg hmid hbt HR0 HG0;go_wp2_with (first
     | (at_next;refine wpList_next_ranges_ii _ rfl _ rfl 3 3 .i64 .i64 za6 underlying3 underlying3 m W.heap.size N Dc left cnt rfl HRG.out ?_ ?_)
     | fail)
    ·intro _ hl0
     have HL0:=kd hl0;clear hl0;go_wp2
     go_end0
     refine ⟨rfl,Dc,⟨?_,HRG.out.owns⟩,mid_end HGD.out.2.1 HGD.out.1 HGD.out.2.2.1 HGD.out.2.2.2 (by rw [HMM.out.1,HMM.out.2];exact HMD.out) HL0.out,HBT.out⟩;rw [HBT.out.block p hpsz hpm];exact HPW.out
    ·intro x1 c w1 cnt1 hwx hwc hlx hat hrg1 hlt1 hg1 hs1 hen
     obtain ⟨d,hdR,rfl⟩:=(HMD.out.key x1).1 (has_true_of_atKey hat);obtain ⟨t,ht⟩:=List.getElem?_of_mem hdR;have hc:c=zas R (L.getD t 0):=by
      have h1:=HMD.out.old t d ht hlx .nil;rw [hat] at h1;exact zfa h1
     have HB1:Hid (But m w w1):=HBT.out.next (by rw [HSZ.out];exact Nat.le_refl _) hg1;have HR1:=kd (And.intro hrg1 hlt1);have HLX:=kd hlx;have HT:=kd (And.intro ht hc);have hkey:=zdt d.1 hwx;have HHAS:Hid (Maps.has Dc (.int .i64 d.1)=true):=has_true_of_atKey hat;have hp1:w1.heap[p]? =some (.cells #[.map (some m),v] 196):=by rw [HB1.out.block p hpsz hpm];exact HPW.out
     have hc1:w1.cell? ⟨p,0,none⟩=some (.map (some m)):=by simp [World.cell?,hp1]
     clear hwx hwc hlx hat hrg1 hlt1 hg1 hs1 hdR ht hc hp1;by_cases hch:c=Y
     ·as_aux_lemma=>
      have hcb:(c==Y)=true:=beq_iff_eq.2 hch;have HMT:=(show Hid _ from zrg HR1.out.1.owns.isMap HGD.out.2.1 HMD.out HT.out.1 (HT.out.2.symm.trans hch));generalize d.1=x1 at*;clear hch;go_wp2_with (first
       | (at_mapUpdate;refine zds _ rfl _ _ _ 183 rfl 3 3 za6 underlying183 (plainElem prog 3) m W.heap.size N Dc _ cnt1 rfl HR1.out.1 _ _ _ rfl rfl hkey _ [] (plainElem_int underlying3 hwlo) HHAS.out ?_;intro w2 hrg2 hturn2)
       | fail)
      go_frame
      go_roundw;case rel=>exact ⟨_,_,cnt1,hrg2,HMT.out,HB1.out.turned hturn2⟩
      case measure=>rw [hrg2.left_eq,HRG.out.left_eq];exact HR1.out.2
     ·as_aux_lemma=>
      have hcb:(c==Y)=false:=beq_eq_false_iff_ne.2 hch;have HMT:=(show Hid _ from zp4 HGD.out.2.1 HMD.out HT.out.1 HLX.out (λ k=>hch (HT.out.2.trans k)));generalize d.1=x1 at*;clear hch;go_wp2_with fail;go_roundw;case rel=>exact ⟨_,_,cnt1,HR1.out.1,HMT.out,HB1.out⟩
      case measure=>rw [HR1.out.1.left_eq,HRG.out.left_eq];exact HR1.out.2
  ·obtain ⟨rfl,rfl⟩:Y=lo/\X=hi:=by omega
   go_enter func249,ntmps249;go_wp2_with fail;go_quiet (fail);have HPW:=kd HB.out.hp;have HOW:Hid (za5 (w.drewN nq) p m N D v/\But m w (w.drewN nq)):=⟨HB.out.drewN nq,But.of_below (below_drewN (Below.refl _ _) nq)⟩;have HSZ:Hid ((w.drewN nq).heap.size=w.heap.size):=rfl;generalize w.drewN nq=W at*;have hown:=HOW.out.1.hm;have hc0:=HOW.out.1.c0;clear lk1 lk2 HB HXY HSM heq;go_wp2_with (first
    | (at_range;refine wpList_range_own _ rfl _ 183 rfl 3 3 za6 underlying183 (plainElem prog 3) m N D rfl hown ?_;intro w0 hrg0 hg0 hs0)
    | fail)
   go_frame
   have HR0:=kd hrg0;have HG0:Hid (But m w w0):=HOW.out.2.trans ⟨hg0.os,hg0.tape,hg0.output,hg0.size,λ k hk _=>hg0.block k hk (by simp)⟩;clear hrg0 hg0 hs0 hown hc0;go_loopw [8] (λ _ wr=>∃(Dc:DataW Unit) (left:Lit->Bool) (cnt:Nat),wr.ranges prog 3 (plainElem prog 3) m W.heap.size N Dc left cnt/\Mid Dc R L Y X left/\But m w wr) (λ _ wr=>wr.rangeLeft m W.heap.size)
   case atStart=>exact ⟨D,_,_,HR0.out,zn3 HL.out _ _,HG0.out⟩
   case round=>
    obtain ⟨Dc,left,cnt,hrg,hmid,hbt⟩:=hrel;have HRG:=kd hrg;have HMD:=kd hmid;have HBT:=kd hbt;clear hrg hmid hbt HR0 HG0;go_wp2_with (first
     | (at_next;refine wpList_next_ranges_ii _ rfl _ rfl 3 3 .i64 .i64 za6 underlying3 underlying3 m W.heap.size N Dc left cnt rfl HRG.out ?_ ?_)
     | fail)
    ·intro _ hl0
     have HL0:=kd hl0;clear hl0;go_wp2
     go_end0
     refine ⟨rfl,Dc,⟨?_,HRG.out.owns⟩,mid_end HGD.out.2.1 HGD.out.1 HGD.out.2.2.1 HGD.out.2.2.2 (by rw [HMM.out.1,HMM.out.2];exact HMD.out) HL0.out,HBT.out⟩;rw [HBT.out.block p hpsz hpm];exact HPW.out
    ·intro x1 c w1 cnt1 hwx hwc hlx hat hrg1 hlt1 hg1 hs1 hen
     obtain ⟨d,hdR,rfl⟩:=(HMD.out.key x1).1 (has_true_of_atKey hat);obtain ⟨t,ht⟩:=List.getElem?_of_mem hdR;have hc:c=zas R (L.getD t 0):=by
      have h1:=HMD.out.old t d ht hlx .nil;rw [hat] at h1;exact zfa h1
     have HB1:Hid (But m w w1):=HBT.out.next (by rw [HSZ.out];exact Nat.le_refl _) hg1;have HR1:=kd (And.intro hrg1 hlt1);have HLX:=kd hlx;have HT:=kd (And.intro ht hc);have hkey:=zdt d.1 hwx;have HHAS:Hid (Maps.has Dc (.int .i64 d.1)=true):=has_true_of_atKey hat;have hp1:w1.heap[p]? =some (.cells #[.map (some m),v] 196):=by rw [HB1.out.block p hpsz hpm];exact HPW.out
     have hc1:w1.cell? ⟨p,0,none⟩=some (.map (some m)):=by simp [World.cell?,hp1]
     clear hwx hwc hlx hat hrg1 hlt1 hg1 hs1 hdR ht hc hp1;by_cases hch:c=X
     ·as_aux_lemma=>
      have hcb:(c==X)=true:=beq_iff_eq.2 hch;have HMT:=(show Hid _ from zrg HR1.out.1.owns.isMap HGD.out.2.1 HMD.out HT.out.1 (HT.out.2.symm.trans hch));generalize d.1=x1 at*;clear hch;go_wp2_with (first
       | (at_mapUpdate;refine zds _ rfl _ _ _ 183 rfl 3 3 za6 underlying183 (plainElem prog 3) m W.heap.size N Dc _ cnt1 rfl HR1.out.1 _ _ _ rfl rfl hkey _ [] (plainElem_int underlying3 hwlo) HHAS.out ?_;intro w2 hrg2 hturn2)
       | fail)
      go_frame
      go_roundw;case rel=>exact ⟨_,_,cnt1,hrg2,HMT.out,HB1.out.turned hturn2⟩
      case measure=>rw [hrg2.left_eq,HRG.out.left_eq];exact HR1.out.2
     ·as_aux_lemma=>
      have hcb:(c==X)=false:=beq_eq_false_iff_ne.2 hch;have HMT:=(show Hid _ from zp4 HGD.out.2.1 HMD.out HT.out.1 HLX.out (λ k=>hch (HT.out.2.trans k)));generalize d.1=x1 at*;clear hch;go_wp2_with fail;go_roundw;case rel=>exact ⟨_,_,cnt1,HR1.out.1,HMT.out,HB1.out⟩
      case measure=>rw [HR1.out.1.left_eq,HRG.out.left_eq];exact HR1.out.2
end Go.Proofs.YtebcjaenhiiflaaGreatDoor.S
