namespace Go.Proofs.Y.G
abbrev E:=Int × Int × Int
def Up (L:List E):Prop:=L.Pairwise λ x y=>x.1<y.1
def place:List E->Int->Nat
 |[],_=>0
 |x::L,id=>if x.1<id then place L id+1 else 0
def Ej (L:List E)(e:E):List E:=L.take (place L e.1)++e::L.drop (place L e.1)
theorem Gy (L:List E)(e:E):(Ej L e).Perm (e::L):=by
 unfold Ej;refine List.perm_middle.trans ?_;rw[List.take_append_drop]
theorem kz (x:E)(L:List E)(e:E)(h:x.1<e.1):Ej (x::L) e=x::Ej L e:=by
 simp[Ej,place,h]
theorem qg (x:E)(L:List E)(e:E)(h:¬x.1<e.1):Ej (x::L) e=e::x::L:=by
 simp[Ej,place,h]
theorem Sa (L:List E)(e:E):(Ej L e).length=L.length+1:=by
 rw[(Gy L e).length_eq];rfl
theorem V4:∀(L:List E) (e:E),Up L->(∀x∈L,x.1≠e.1)->Up (Ej L e)
 |[],e,_,_=>by simp[Ej,place,Up]
 |x::L,e,hu,hn=>by
  by_cases h:x.1<e.1
  ·rw[kz x L e h]
   have ih:=V4 L e (List.Pairwise.of_cons hu) (λ y hy=>hn y (List.mem_cons_of_mem _ hy));refine List.pairwise_cons.2 ⟨λ y hy=>?_,ih⟩;rcases List.mem_cons.1 ((Gy L e).mem_iff.1 hy) with rfl|hy
   ·exact h
   ·exact List.rel_of_pairwise_cons hu hy
  ·rw[qg x L e h]
   have DK:=hn x List.mem_cons_self;refine List.pairwise_cons.2 ⟨λ y hy=>?_,hu⟩;rcases List.mem_cons.1 hy with rfl|hy
   ·show e.1<y.1;omega
   ·have:=List.rel_of_pairwise_cons hu hy
    have h':x.1<y.1:=this;show e.1<y.1;omega
theorem zn4 {L:List E}(hu:Up L):∀{x y:E},x∈L->y∈L->x.1=y.1->x=y:=by
 induction L with
 |nil=>intro x y hx;simp at hx
 |cons z L ih=>
  intro x y hx hy h;rcases List.mem_cons.1 hx with rfl|hx'
  ·rcases List.mem_cons.1 hy with rfl|hy'
   ·rfl
   ·have h1:x.1<y.1:=List.rel_of_pairwise_cons hu hy'
    omega
  ·rcases List.mem_cons.1 hy with rfl|hy'
   ·have h1:y.1<x.1:=List.rel_of_pairwise_cons hu hx'
    omega
   ·exact ih (List.Pairwise.of_cons hu) hx' hy' h
theorem Xz:∀{L D:List E},Up L->D.Perm L->D.Pairwise (λ x y=>¬y.1<x.1)->D=L
 |[],D,_,hp,_=>hp.eq_nil
 |x::L,[],_,hp,_=>by simpa using hp.length_eq
 |x::L,y::D,hu,hp,hs=>by
  have hy:y∈x::L:=hp.mem_iff.1 List.mem_cons_self;have hx:x∈y::D:=hp.mem_iff.2 List.mem_cons_self;have BO:x=y:=by
   refine zn4 hu List.mem_cons_self hy ?_;rcases List.mem_cons.1 hy with h|hy'
   ·rw[h]
   ·have h1:x.1<y.1:=List.rel_of_pairwise_cons hu hy'
    rcases List.mem_cons.1 hx with h|hx'
    ·rw[h]
    ·have h2:=List.rel_of_pairwise_cons hs hx'
     omega
  subst BO;rw[Xz (List.Pairwise.of_cons hu) (List.Perm.cons_inv hp) (List.Pairwise.of_cons hs)]
theorem zmt {R L:List E}(hu:Up L)(hp:R.Perm L){i k:Nat}{x y:E}(hi:R[i]? =some x)(hk:L[k]? =some y)(h:x.1=y.1):(R.take i++R.drop (i+1)).Perm (L.take k++L.drop (k+1)):=by
 have hx:x∈L:=hp.mem_iff.1 (List.mem_of_getElem? hi);have BO:x=y:=zn4 hu hx (List.mem_of_getElem? hk) h;subst BO;have cut:∀(M:List E) (j:Nat),M[j]? =some x->M.Perm (x::(M.take j++M.drop (j+1))):=by
  intro M j hj;obtain⟨j6,he⟩:=List.getElem?_eq_some_iff.1 hj;have e:M=M.take j++x::M.drop (j+1):=by
   rw[<-he,<-List.drop_eq_getElem_cons j6,List.take_append_drop]
  exact(List.Perm.of_eq e).trans List.perm_middle
 exact List.Perm.cons_inv (((cut R i hi).symm.trans hp).trans (cut L k hk))
theorem ztg {L:List E}(hu:Up L)(k:Nat):Up (L.take k++L.drop (k+1)):=by
 rw[<-List.eraseIdx_eq_take_drop_succ];exact List.Pairwise.sublist (List.eraseIdx_sublist L k) hu
theorem K3 {L:List E}{k:Nat}(h:k<L.length):(L.take k++L.drop (k+1)).length=L.length-1:=by
 simp;omega
theorem zin {L:List E}(hu:Up L)(p:E->Bool):Up (L.filter p):=List.Pairwise.sublist List.filter_sublist hu
structure Inv (R L:List E):Prop where
 up:Up L
 perm:R.Perm L
 len:L.length<=120
theorem Inv.rz {R L:List E}(h:Inv R L):R.length=L.length:=h.perm.length_eq
theorem Inv.put {R L:List E}(h:Inv R L)(e:E)(hn:∀x∈L,x.1≠e.1)(hl:L.length<120):Inv (R++[e]) (Ej L e):=
 ⟨V4 L e h.up hn,(List.perm_append_comm.trans ((List.Perm.cons e h.perm))).trans (Gy L e).symm,by rw[Sa];omega⟩
theorem Inv.out {R L:List E}(h:Inv R L){i k:Nat}{x y:E}(hi:R[i]? =some x)(hk:L[k]? =some y)(e:x.1=y.1):Inv (R.take i++R.drop (i+1)) (L.take k++L.drop (k+1)):=
 ⟨ztg h.up k,zmt h.up h.perm hi hk e,by
   have j6:k<L.length:=(List.getElem?_eq_some_iff.1 hk).1;rw[K3 j6];have:=h.len;omega⟩
theorem Inv.filter {R L:List E}(h:Inv R L)(p:E->Bool):Inv (R.filter p) (L.filter p):=
 ⟨zin h.up p,h.perm.filter p,Nat.le_trans (List.length_filter_le p L) h.len⟩
end Go.Proofs.Y.G
namespace Go.Proofs.Y.F
abbrev Stp:=Int × Int × Int
def fr (s:Stp):Int:=s.2.1
def tt (s:Stp):Int:=s.2.2
def bk (s:Stp):Stp:=(s.1,s.2.2,s.2.1)
theorem Vi (s:Stp):bk (bk s)=s:=rfl
theorem zdb (s:Stp):fr (bk s)=tt s:=rfl
theorem zc7 (s:Stp):tt (bk s)=fr s:=rfl
def chi (S:Int->Bool)(x:Int):Int:=if S x then 1 else 0
def out (S:Int->Bool)(s:Stp):Bool:=S (fr s)&&!S (tt s)
def cap:List Stp->(Stp->Int)->(Int->Bool)->Int
 |[],_,_=>0
 |s::D,r,S=>(if out S s then r s else 0)+cap D r S
def upd (r:Stp->Int)(s:Stp)(d:Int):Stp->Int:=λ x=>if x=s then r x+d else r x
theorem zo4 {D:List Stp}{r:Stp->Int}{s:Stp}{d:Int}{S:Int->Bool}(h:s∉D):cap D (upd r s d) S=cap D r S:=by
 induction D with
 |nil=>rfl
 |cons x D ih=>
  rw[List.mem_cons] at h;have h1:x≠s:=λ k=>h (.inl k.symm)
  have h2:upd r s d x=r x:=if_neg h1;simp only[cap];rw[ih (λ k=>h (.inr k)),h2]
theorem zcm {D:List Stp}{r:Stp->Int}{s:Stp}{d:Int}{S:Int->Bool}(hn:D.Nodup)(h:s∈D):cap D (upd r s d) S=cap D r S+if out S s then d else 0:=by
 induction D with
 |nil=>simp at h
 |cons x D ih=>
  rw[List.nodup_cons] at hn;by_cases e:x=s
  ·subst e
   have:=zo4 (r:=r) (d:=d) (S:=S) hn.1;simp only[cap];rw[this];simp only[upd,if_true];split <;> omega
  ·have h1:s∈D:=by
    rcases List.mem_cons.1 h with k|k
    ·exact absurd k.symm e
    ·exact k
   simp only[cap];rw[ih hn.2 h1];simp only[upd,if_neg e];omega
def tk (r:Stp->Int)(s:Stp):Stp->Int:=upd (upd r s (-1)) (bk s) 1
theorem R4 {s:Stp}(h:fr s≠tt s):bk s≠s:=λ k=>h (by
 have:=congrArg (λ x:Stp=>x.2.1) k;exact this.symm)
structure Net (D:List Stp):Prop where
 nd:D.Nodup
 back:∀s∈D,bk s∈D
 ne:∀s∈D,fr s≠tt s
theorem ztl {D:List Stp}(hD:Net D){r:Stp->Int}{s:Stp}(h:s∈D)(S:Int->Bool):cap D (tk r s) S=cap D r S-(chi S (fr s)-chi S (tt s)):=by
 unfold tk;rw[zcm hD.nd (hD.back s h),zcm hD.nd h];unfold out chi;rw[zdb,zc7];cases S (fr s) <;> cases S (tt s) <;> simp <;> omega
def Walk:Int->List Stp->Int->Prop
 |a,[],b=>a=b
 |a,s::p,b=>fr s=a/\Walk (tt s) p b
def tks (r:Stp->Int)(p:List Stp):Stp->Int:=p.foldl tk r
theorem zlg (r:Stp->Int)(p:List Stp)(s:Stp):tks r (p++[s])=tk (tks r p) s:=by simp[tks]
theorem gy {D:List Stp}(hD:Net D)(S:Int->Bool):∀{p:List Stp} {r:Stp->Int} {a b:Int},(∀s∈p,s∈D)->Walk a p b->cap D (tks r p) S=cap D r S-(chi S a-chi S b)
 |[],r,a,b,_,h=>by
  have:a=b:=h;rw[this];show cap D r S=_;omega
 |s::p,r,a,b,hp,h=>by
  have h1:=gy hD S (p:=p) (r:=tk r s) (λ x hx=>hp x (by simp[hx])) h.2;have h2:=ztl hD (r:=r) (hp s (by simp)) S;show cap D (tks (tk r s) p) S=_;rw[h1,h2,h.1];omega
theorem Rw (r:Stp->Int){s x:Stp}(hs:fr s≠tt s):tk r s x=if x=s then r s-1 else if x=bk s then r x+1 else r x:=by
 have hb:=R4 hs;unfold tk upd;by_cases h1:x=s
 ·subst h1
  rw[if_neg (λ k=>hb k.symm),if_pos rfl,if_pos rfl];rfl
 ·by_cases h2:x=bk s
  ·rw[if_pos h2,if_neg h1,if_neg h1,if_pos h2]
  ·rw[if_neg h2,if_neg h1,if_neg h1,if_neg h2]
theorem zcp:∀{p:List Stp} {r:Stp->Int},p.Nodup->(∀s∈p,fr s≠tt s)->(∀s∈p,1<=r s)->(∀x,0<=r x)->∀x,0<=tks r p x
 |[],_,_,_,_,h=>h
 |s::p,r,hn,hf,h1,h0=>by
  rw[List.nodup_cons] at hn;have hs:=hf s (by simp);refine zcp (p:=p) (r:=tk r s) hn.2 (λ x hx=>hf x (by simp[hx])) (λ x hx=>?_) (λ x=>?_)
  ·have MS:=h1 x (by simp[hx])
   have l9:x≠s:=λ k=>hn.1 (k▸hx)
   rw[Rw r hs,if_neg l9];split <;> omega
  ·have a1:=h1 s (by simp)
   have a2:=h0 x;rw[Rw r hs];split
   ·omega
   ·split <;> omega
structure Val (C:(Int->Bool)->Int) (a b most k:Int):Prop where
 pos:0<=k
 le:k<=most
 all:∀S,S a=true->S b=false->k<=C S
 one:k=most\/∃S,S a=true/\S b=false/\C S=k
theorem U1 {C:(Int->Bool)->Int}{a b most k k':Int}(h:Val C a b most k)(h':Val C a b most k'):k=k':=by
 have half:∀{k k':Int},Val C a b most k->Val C a b most k'->k'<=k:=λ {k k'} h h'=>by
  rcases h.one with e|⟨S,h1,h2,h3⟩
  ·rw[e];exact h'.le
  ·rw[<-h3];exact h'.all S h1 h2
 have:=half h h';have:=half h' h;omega
theorem zde {D:List Stp}{r:Stp->Int}{S:Int->Bool}(h:∀x,0<=r x):0<=cap D r S:=by
 induction D with
 |nil=>exact Int.le_refl _
 |cons s D ih=>
  have:=h s;simp only[cap];split <;> omega
theorem zkd {D:List Stp}{r:Stp->Int}{S:Int->Bool}(h:∀s∈D,out S s=true->r s=0):cap D r S=0:=by
 induction D with
 |nil=>rfl
 |cons s D ih=>
  have h1:=h s (by simp);have h2:=ih (λ x hx=>h x (by simp[hx]));simp only[cap,h2];split
  ·next k=>rw[h1 k];rfl
  ·rfl
structure Fill (D:List Stp) (C:(Int->Bool)->Int) (a b:Int) (r:Stp->Int) (k:Int):Prop where
 pos:∀x,0<=r x
 cut:∀S,S a=true->S b=false->cap D r S=C S-k
theorem Fill.all {D:List Stp}{C:(Int->Bool)->Int}{a b k:Int}{r:Stp->Int}(h:Fill D C a b r k){S:Int->Bool}(h1:S a=true)(h2:S b=false):k<=C S:=by
 have:=h.cut S h1 h2;have:=zde (D:=D) (S:=S) h.pos;omega
theorem Fill.way {D:List Stp}(hD:Net D){C:(Int->Bool)->Int}{a b k:Int}{r:Stp->Int}(h:Fill D C a b r k){p:List Stp}(hp:∀s∈p,s∈D)(hw:Walk a p b)(hn:p.Nodup)(h1:∀s∈p,1<=r s):Fill D C a b (tks r p) (k+1):=by
 refine⟨zcp hn (λ s hs=>hD.ne s (hp s hs)) h1 h.pos,λ S ha hb=>?_⟩;rw[gy hD S hp hw,h.cut S ha hb];unfold chi;rw[if_pos ha,if_neg (by rw[hb];simp)];omega
theorem Fill.done {D:List Stp}{C:(Int->Bool)->Int}{a b k most:Int}{r:Stp->Int}(h:Fill D C a b r k)(h0:0<=k)(hm:k<=most)(S:Int->Bool)(ha:S a=true)(hb:S b=false)(hs:∀s∈D,out S s=true->r s=0):Val C a b most k:=
 ⟨h0,hm,λ _ h1 h2=>h.all h1 h2,.inr ⟨S,ha,hb,by have:=h.cut S ha hb;rw[zkd hs] at this;omega⟩⟩
theorem Fill.most {D:List Stp}{C:(Int->Bool)->Int}{a b most:Int}{r:Stp->Int}(h:Fill D C a b r most)(h0:0<=most):Val C a b most most:=
 ⟨h0,Int.le_refl _,λ _ h1 h2=>h.all h1 h2,.inl rfl⟩
structure Bfs (lv:Int->List Stp) (inn:Stp->Bool) (a:Int) (q:List Int) (cm:Int->Stp):Prop where
 first:q[0]? =some a
 nd:q.Nodup
 came:∀k x,0<k->q[k]? =some x->tt (cm x)=x/\inn (cm x)=true/\cm x∈lv (fr (cm x))/\∃k',k'<k/\q[k']? =some (fr (cm x))
theorem Bfs.start (lv:Int->List Stp)(inn:Stp->Bool)(a:Int)(cm:Int->Stp):Bfs lv inn a [a] cm:=
 ⟨rfl,by simp,λ k x hk hx=>by
   have:=(List.getElem?_eq_some_iff.1 hx).1;simp at this;omega⟩
theorem Bfs.more {lv:Int->List Stp}{inn:Stp->Bool}{a:Int}{q:List Int}{cm cm':Int->Stp}(h:Bfs lv inn a q cm){s:Stp}{i:Nat}(hi:q[i]? =some (fr s))(hs:s∈lv (fr s))(p9:inn s=true)(hn:tt s∉q)(hc:∀x,x∈q->cm' x=cm x)(hc':cm' (tt s)=s):Bfs lv inn a (q++[tt s]) cm':=by
 have hl:0<q.length:=by
  have:=(List.getElem?_eq_some_iff.1 h.first).1;omega
 have LY:=(List.getElem?_eq_some_iff.1 hi).1;refine⟨by rw[List.getElem?_append_left hl];exact h.first,?_,λ k x hk hx=>?_⟩
 ·rw[List.nodup_append]
  exact⟨h.nd,by simp,λ x hx y hy=>by rw[List.mem_singleton.1 hy];exact λ k=>hn (k▸hx)⟩
 ·by_cases ZJ:k<q.length
  ·rw[List.getElem?_append_left ZJ] at hx
   obtain⟨h1,h2,h3,k',h4,h5⟩:=h.came k x hk hx;rw[hc x (List.mem_of_getElem? hx)];exact⟨h1,h2,h3,k',h4,by rw[List.getElem?_append_left (by omega)];exact h5⟩
  ·have CK:=(List.getElem?_eq_some_iff.1 hx).1
   rw[List.length_append] at CK;have CF:k=q.length:=by simp at CK;omega
   rw[CF] at hx;have DK:x=tt s:=by
    rw[List.getElem?_append_right (Nat.le_refl _)] at hx
    simpa using hx.symm
   rw[DK,hc'];exact⟨rfl,p9,hs,i,by omega,by rw[List.getElem?_append_left LY];exact hi⟩
theorem Bfs.back {lv:Int->List Stp}{inn:Stp->Bool}{a:Int}{q:List Int}{cm:Int->Stp}(h:Bfs lv inn a q cm){k:Nat}{x:Int}(hx:q[k]? =some x):x=a\/(0<k/\tt (cm x)=x/\inn (cm x)=true/\cm x∈lv (fr (cm x))/\∃k',k'<k/\q[k']? =some (fr (cm x))):=by
 rcases Nat.eq_zero_or_pos k with rfl|hk
 ·rw[h.first] at hx
  exact .inl (by injection hx with hx;exact hx.symm)
 ·exact .inr ⟨hk,h.came k x hk hx⟩
theorem Bfs.pos {lv:Int->List Stp}{inn:Stp->Bool}{a:Int}{q:List Int}{cm:Int->Stp}(h:Bfs lv inn a q cm){k:Nat}{x:Int}(hx:q[k]? =some x)(l9:x≠a):0<k:=by
 rcases Nat.eq_zero_or_pos k with rfl|hk
 ·rw[h.first] at hx
  exact absurd (by injection hx with hx;exact hx.symm) l9
 ·exact hk
structure L8 (lv:Int->List Stp) (inn:Stp->Bool) (q:List Int) (at_ b:Int) (k:Nat) (p:List Stp):Prop where
 walk:Walk at_ p.reverse b
 here:q[k]? =some at_
 nd:p.Nodup
 good:∀s∈p,inn s=true/\s∈lv (fr s)
 far:∀s∈p,∃j,k<j/\q[j]? =some (tt s)
theorem L8.start {lv:Int->List Stp}{inn:Stp->Bool}{q:List Int}{b:Int}{k:Nat}(h:q[k]? =some b):L8 lv inn q b b k []:=⟨rfl,h,by simp,by simp,by simp⟩
theorem L8.step {lv:Int->List Stp}{inn:Stp->Bool}{a:Int}{q:List Int}{cm:Int->Stp}(h:Bfs lv inn a q cm){x b:Int}{k:Nat}{p:List Stp}(hb:L8 lv inn q x b k p)(l9:x≠a):∃k',k'<k/\L8 lv inn q (fr (cm x)) b k' (p++[cm x]):=by
 obtain⟨h1,h2,h3,k',h4,h5⟩:=h.came k x (h.pos hb.here l9) hb.here;refine⟨k',h4,?_,h5,?_,λ s hs=>?_,λ s hs=>?_⟩
 ·rw[List.reverse_append]
  exact⟨rfl,by rw[h1];exact hb.walk⟩
 ·rw[List.nodup_append]
  refine⟨hb.nd,by simp,λ s hs y hy e=>?_⟩;rw[List.mem_singleton.1 hy] at e;obtain⟨j,hj,hq⟩:=hb.far s hs;rw[e,h1] at hq;have h6:=(List.getElem?_inj (List.getElem?_eq_some_iff.1 hb.here).1 h.nd).1 (hb.here.trans hq.symm);omega
 ·rcases List.mem_append.1 hs with hs|hs
  ·exact hb.good s hs
  ·rw[List.mem_singleton.1 hs];exact⟨h2,h3⟩
 ·rcases List.mem_append.1 hs with hs|hs
  ·obtain⟨j,hj,hq⟩:=hb.far s hs
   exact⟨j,by omega,hq⟩
  ·rw[List.mem_singleton.1 hs,h1]
   exact⟨k,h4,hb.here⟩
end Go.Proofs.Y.F
