import Derived.Test.YtebcjaenhiiflaaGreatDoorQFDa
import Derived.Test.YtebcjaenhiiflaaGreatDoorQFoFDh
set_option maxHeartbeats 4000000
set_option maxRecDepth 100000
namespace Go.Proofs.YtebcjaenhiiflaaGreatDoor.S
open Go Go.ChangeMaps Go.MapKept Go.WideShapes
open Go.RowKit Go.WideMaps Go.Maps F
structure Mat (w:World) (g:Nat) (b:Nat->Nat) (N:Nat) (M:Nat->Nat->Int):Prop where
 out:∀i,i<N->w.cell? ⟨g,i,none⟩=some (.slice (some ⟨b i,0,none⟩) N N)
 row:∀i j,i<N->j<N->w.cell? ⟨b i,j,none⟩=some (.int .i64 (M i j))/\w.frozen? ⟨b i,j,none⟩=false
 inj:∀i j,i<N->j<N->b i=b j->i=j
 off:∀i,i<N->b i≠g
def Sn (w:World) (sb N:Nat) (sn:Nat->Bool):Prop:=∀j,j<N->w.cell? ⟨sb,j,none⟩=some (.bool (sn j))/\w.frozen? ⟨sb,j,none⟩=false
structure Kq (b:Nat->Nat) (N sb:Nat) (w w':World):Prop where
 os:w'.os=w.os
 tape:w'.tape=w.tape
 output:w'.output=w.output
 size:w'.heap.size=w.heap.size
 block:∀k,(∀i,i<N->k≠b i)->k≠sb->w'.heap[k]? =w.heap[k]?
section
variable {w w' w'':World} {g:Nat} {b:Nat->Nat} {N sb:Nat} {M:Nat->Nat->Int} {sn:Nat->Bool}
theorem Kq.refl (b:Nat->Nat) (N sb:Nat) (w:World):Kq b N sb w w:=⟨rfl,rfl,rfl,rfl,λ _ _ _=>rfl⟩
theorem Kq.trans (h:Kq b N sb w w') (k:Kq b N sb w' w''):Kq b N sb w w'':=⟨k.os.trans h.os,k.tape.trans h.tape,k.output.trans h.output,k.size.trans h.size,λ i h1 h2=>(k.block i h1 h2).trans (h.block i h1 h2)⟩
theorem Kq.set (h:Kq b N sb w w') {i:Nat} (hi:i<N) (j:Nat) (v:Value):Kq b N sb w (w'.setCell ⟨b i,j,none⟩ v):=
 h.trans ⟨rfl,rfl,rfl,by simp,λ k h1 _=>Below.heap_setCell _ _ _ _ (h1 i hi)⟩
theorem Kq.yadc (h:Kq b N sb w w') (j:Nat) (v:Value):Kq b N sb w (w'.setCell ⟨sb,j,none⟩ v):=
 h.trans ⟨rfl,rfl,rfl,by simp,λ k _ h2=>Below.heap_setCell _ _ _ _ h2⟩
theorem Mat.set (h:Mat w g b N M) {x y:Nat} (hx:x<N) (hy:y<N) (v:Int):Mat (w.setCell ⟨b x,y,none⟩ (.int .i64 v)) g b N (λ i j=>if i=x/\j=y then v else M i j):=by
 refine ⟨λ i hi=>?_,λ i j hi hj=>⟨?_,?_⟩,h.inj,h.off⟩
 ·rw [World.cell?_setCell_far _ _ _ _ (by show b x≠g;exact h.off x hx)]
  exact h.out i hi
 ·by_cases e:i=x/\j=y
  ·obtain ⟨rfl,rfl⟩:=e
   rw [if_pos ⟨rfl,rfl⟩];exact World.cell?_setCell_same _ _ _ (h.row i j hi hj).1
  ·rw [if_neg e,World.cell?_setCell_other]
   ·exact (h.row i j hi hj).1
   ·intro k
    injection k with k1 k2
    exact e ⟨(h.inj x i hx hi k1).symm,k2.symm⟩
 ·rw [World.frozen?_setCell];exact (h.row i j hi hj).2
theorem Mat.zl2 (h:Mat w g b N M) {k o:Nat} {v:Value} (hk:∀i,i<N->k≠b i) (hg:k≠g):Mat (w.setCell ⟨k,o,none⟩ v) g b N M:=by
 refine ⟨λ i hi=>?_,λ i j hi hj=>⟨?_,?_⟩,h.inj,h.off⟩
 ·rw [World.cell?_setCell_far _ _ _ _ (by show k≠g;exact hg)];exact h.out i hi
 ·rw [World.cell?_setCell_far _ _ _ _ (by show k≠b i;exact hk i hi)];exact (h.row i j hi hj).1
 ·rw [World.frozen?_setCell];exact (h.row i j hi hj).2
theorem Sn.set (h:Sn w sb N sn) {x:Nat} (hx:x<N) (v:Bool):Sn (w.setCell ⟨sb,x,none⟩ (.bool v)) sb N (λ j=>if j=x then v else sn j):=λ j hj=>by
 refine ⟨?_,by rw [World.frozen?_setCell];exact (h j hj).2⟩;by_cases e:j=x
 ·subst e
  show _=some (Value.bool (if j=j then v else sn j));rw [if_pos rfl];exact World.cell?_setCell_same _ _ _ (h j hj).1
 ·show _=some (Value.bool (if j=x then v else sn j))
  rw [if_neg e,World.cell?_setCell_other]
  ·exact (h j hj).1
  ·intro k
   injection k with _ k2
   exact e k2.symm
theorem Sn.zl2 (h:Sn w sb N sn) {k o:Nat} {v:Value} (hk:k≠sb):Sn (w.setCell ⟨k,o,none⟩ v) sb N sn:=λ j hj=>by
 refine ⟨?_,by rw [World.frozen?_setCell];exact (h j hj).2⟩;rw [World.cell?_setCell_far _ _ _ _ (by show k≠sb;exact hk)];exact (h j hj).1
end
def uns (sn:Nat->Bool):Nat->Nat
 | 0=>0
 | n+1=>uns sn n+(if sn n then 0 else 1)
theorem zpi {sn sn':Nat->Bool} (h:∀j,sn j=true->sn' j=true):∀n,uns sn' n<=uns sn n
 | 0=>Nat.le_refl _
 | n+1=>by
   have ih:=zpi h n;have:=h n;simp only [uns];cases h1:sn n <;> cases h2:sn' n <;> simp <;> first | omega | (rw [h1,h2] at this;simp at this)
theorem zrf {sn sn':Nat->Bool} (h:∀j,sn j=true->sn' j=true) {x:Nat} (h1:sn x=false) (h2:sn' x=true):∀n,x<n->uns sn' n<uns sn n
 | 0,hx=>by omega
 | n+1,hx=>by
   by_cases e:x=n
   ·subst e
    have:=zpi h x;simp only [uns,h1,h2];simp;omega
   ·have ih:=zrf h h1 h2 n (by omega)
    have:=h n;simp only [uns];cases h3:sn n <;> cases h4:sn' n <;> simp <;> first | omega | (rw [h3,h4] at this;simp at this)
def Gone (M:Nat->Nat->Int):List Nat->Prop
 | x::y::r=>1<=M x y/\Gone M (y::r)
 | _=>True
def zhr (w:World) (g:Nat) (b:Nat->Nat) (N sb x tg:Nat) (M:Nat->Nat->Int) (sn:Nat->Bool) (e:Ending) (w':World):Prop:=
 ∃M' sn',Mat w' g b N M'/\Sn w' sb N sn'/\Kq b N sb w w'/\(∀j,sn j=true->sn' j=true)/\
  ((e= .returned (.bool true)/\∃vs:List Nat,vs.head? =some x/\vs.getLast? =some tg/\vs.Nodup/\(∀v∈vs,v<N/\sn v=false)/\Gone M vs/\M'=tkP M vs)\/
   (e= .returned (.bool false)/\M'=M/\sn' x=true/\∀z,z<N->sn' z=true->sn z=false->z≠tg/\∀y,y<N->0<M z y->sn' y=true))
end Go.Proofs.YtebcjaenhiiflaaGreatDoor.S
namespace Go.Proofs.YtebcjaenhiiflaaGreatDoor.S
open Go Go.ChangeMaps Go.MapKept Go.WideShapes Go.Proofs.Tryz
open Go.RowKit Go.WideMaps Go.Maps F
structure zc4 (w wq:World) (g:Nat) (b:Nat->Nat) (N sb x tg:Nat) (M:Nat->Nat->Int) (sn sn':Nat->Bool) (j:Nat):Prop where
 mat:Mat wq g b N M
 seen:Sn wq sb N sn'
 kept:Kq b N sb w wq
 mono:∀z,sn z=true->sn' z=true
 here:sn' x=true
 tried:∀y,y<j->0<M x y->sn' y=true
 done:∀z,z<N->sn' z=true->sn z=false->z≠x->z≠tg/\∀y,y<N->0<M z y->sn' y=true
def zqu (g:Nat) (b:Nat->Nat) (N sb tg c:Nat) (u:Nat):Prop:=
 ∀(x:Nat) (M:Nat->Nat->Int) (sn:Nat->Bool) (w:World),uns sn N<u->Mat w g b N M->Sn w sb N sn->x<N->sn x=false->(∀i j,i<N->j<N->0<=M i j/\M i j<=1000000)->
  Calls prog 233 #[.slice (some ⟨g,0,none⟩) N c,.int .i64 (x:Int),.int .i64 (tg:Int),.slice (some ⟨sb,0,none⟩) N N] w (zhr w g b N sb x tg M sn)
section
variable {w wq w':World} {g:Nat} {b:Nat->Nat} {N sb x tg j:Nat} {M:Nat->Nat->Int} {sn sn':Nat->Bool}
theorem zc4.skip (h:zc4 w wq g b N sb x tg M sn sn' j) (hs:¬0<M x j\/sn' j=true):zc4 w wq g b N sb x tg M sn sn' (j+1):=
 ⟨h.mat,h.seen,h.kept,h.mono,h.here,λ y hy hm=>by
   by_cases e:y=j
   ·subst e
    rcases hs with k | k
    ·exact absurd hm k
    ·exact k
   ·exact h.tried y (by omega) hm,h.done⟩
theorem zc4.fail (h:zc4 w wq g b N sb x tg M sn sn' j) {sn2:Nat->Bool} (hm:Mat w' g b N M) (hs:Sn w' sb N sn2) (hk:Kq b N sb wq w') (mono:∀z,sn' z=true->sn2 z=true) (hj:sn2 j=true) (hd:∀z,z<N->sn2 z=true->sn' z=false->z≠tg/\∀y,y<N->0<M z y->sn2 y=true):zc4 w w' g b N sb x tg M sn sn2 (j+1):=by
 refine ⟨hm,hs,h.kept.trans hk,λ z hz=>mono z (h.mono z hz),mono x h.here,λ y hy hmy=>?_,λ z hz h1 h2 h3=>?_⟩
 ·by_cases e:y=j
  ·subst e;exact hj
  ·exact mono y (h.tried y (by omega) hmy)
 ·cases hq:sn' z with
  | true=>
    obtain ⟨k1,k2⟩:=h.done z hz hq h2 h3;exact ⟨k1,λ y hy hmy=>mono y (k2 y hy hmy)⟩
  | false=>exact hd z hz h1 hq
theorem zc4.none (h:zc4 w wq g b N sb x tg M sn sn' N) (hne:x≠tg):zhr w g b N sb x tg M sn (.returned (.bool false)) wq:=
 ⟨M,sn',h.mat,h.seen,h.kept,h.mono,.inr ⟨rfl,rfl,h.here,λ z hz h1 h2=>by
   by_cases e:z=x
   ·subst e;exact ⟨hne,λ y hy hmy=>h.tried y hy hmy⟩
   ·exact h.done z hz h1 h2 e⟩⟩
end
theorem zzz (g:Nat) (b:Nat->Nat) (N sb tg c u:Nat) (hN:N<=1000) (htg:tg<N) (hsb:∀i,i<N->sb≠b i) (hsg:sb≠g) (IH:zqu g b N sb tg c u):zqu g b N sb tg c (u+1):=by
 intro x M sn w hu hmat hsn hx hsx hM;have HIH:=kd IH;have HM:=kd hM;have HB:=kd (And.intro hsb hsg);by_cases hxt:x=tg
 ·subst hxt
  have HP:Hid (zhr w g b N sb x x M sn (.returned (.bool true)) w):=⟨M,sn,hmat,hsn,Kq.refl _ _ _ _,λ _ h=>h,.inl ⟨rfl,[x],rfl,rfl,by simp,λ v hv=>by rw [List.mem_singleton.1 hv];exact ⟨hx,hsx⟩,trivial,rfl⟩⟩;clear hmat hsn hM IH hsb;go_enter func233,ntmps233;go_wp2_with fail;go_ret;exact HP.out
 ·have hxt':((x:Int)==(tg:Int))=false:=beq_eq_false_iff_ne.2 (by omega)
  have s1:=(hsn x hx).1;have s2:=(hsn x hx).2;obtain ⟨W1,hW1⟩:∃W1,W1=w.setCell ⟨sb,x,none⟩ (.bool true):=⟨_,rfl⟩;have HT0:Hid (zc4 w W1 g b N sb x tg M sn (λ j=>if j=x then true else sn j) 0):=by
   rw [hW1];refine ⟨hmat.zl2 hsb hsg,hsn.set hx true,(Kq.refl _ _ _ _).yadc x _,λ z hz=>?_,by simp,λ y hy=>by omega,λ z hz h1 h2 h3=>?_⟩
   ·show (if z=x then true else sn z)=true
    split
    ·rfl
    ·exact hz
   ·have h1:(if z=x then true else sn z)=true:=h1
    rw [if_neg h3,h2] at h1;cases h1
  have HW1:=kd hW1.symm;have HU:=kd (And.intro hu hsx);have HXT:=kd hxt;clear hW1 hmat hsn hM IH hsb hu;go_enter func233,ntmps233;go_wp2_with fail;rw [HW1.out];clear s1 s2;go_loopw [18] (λ s18 wq=>∃(j:Nat) (sn':Nat->Bool),j<=N/\s18= .int .i64 j/\zc4 w wq g b N sb x tg M sn sn' j) (λ s18 _=>N-(intOf s18).toNat)
  case atStart=>exact ⟨0,_,Nat.zero_le _,rfl,HT0.out⟩
  case round=>
   clear HT0 HW1;obtain ⟨j,sn',hj,rfl,ht⟩:=hrel;have HT:=kd ht;clear ht;by_cases hjn:j<N
   ·have q1:=HT.out.mat.out x hx
    have q2:=(HT.out.mat.row x j hx hjn).1;have q3:=(HT.out.seen j hjn).1;by_cases hpos:0<M x j
    ·cases hsj:sn' j with
     | true=>
       as_aux_lemma=>
       have HN:Hid (zc4 w wr g b N sb x tg M sn sn' (j+1)):=HT.out.skip (.inr hsj);rw [hsj] at q3;clear hsj;go_wp2_with fail;go_roundw;case rel=>exact ⟨j+1,sn',by omega,by go_num,HN.out⟩
       case measure=>simp [intOf];omega
     | false=>
       rw [hsj] at q3;have hless:uns sn' N<u:=by
        have h1:=zrf HT.out.mono HU.out.2 HT.out.here N hx;have:=HU.out.1;omega
       have HC:Hid _:=HIH.out j M sn' wr hless HT.out.mat HT.out.seen hjn hsj HM.out;have HSJ:=kd hsj;clear hsj hless;go_wp2_with fail;refine Calls.mono HC.out ?_;rintro e w2 ⟨M',sn2,hm2,hs2,hk2,hmono2,h2⟩;clear HC;rcases h2 with ⟨rfl,vs,hh,hl,hnd,hv,hg,hM'⟩ | ⟨rfl,hM',hx2,hd2⟩
       ·as_aux_lemma=>
        have hxv:x∉vs:=λ k=>by
         have h1:=(hv x k).2;rw [HT.out.here] at h1;cases h1
        have hjx:j≠x:=λ e=>by
         have h1:=HT.out.here;rw [<-e,HSJ.out] at h1;cases h1
        obtain ⟨r,hr⟩:∃r,vs=j::r:=by
         cases vs with
         | nil=>cases hh
         | cons a r=>simp at hh;exact ⟨r,by rw [hh]⟩
        have hMx:M' x j=M x j/\M' j x=M j x:=by rw [hM'];exact zm0 vs x j hxv
        have c1:=hm2.out x hx;have c2:=(hm2.row x j hx hjn).1;have c3:=(hm2.row x j hx hjn).2;rw [hMx.1] at c2;have hm3:=hm2.set hx hjn (M x j-1);have d1:=hm3.out j hjn;have d2:=(hm3.row j x hjn hx).1;have d3:=(hm3.row j x hjn hx).2;rw [if_neg (λ k=>hjx k.1),hMx.2] at d2;have hm4:=hm3.set hjn hx (M j x+1);have hMxj:=HM.out x j hx hjn;have hMjx:=HM.out j x hjn hx;have hw1:IntKind.i64.wrap (M x j-1)=M x j-1:=by rw [IntKind.wrap_i64];omega
        have hw2:IntKind.i64.wrap (M j x+1)=M j x+1:=by rw [IntKind.wrap_i64];omega
        have HP:Hid (zhr w g b N sb x tg M sn (.returned (.bool true)) ((w2.setCell ⟨b x,j,none⟩ (.int .i64 (M x j-1))).setCell ⟨b j,x,none⟩ (.int .i64 (M j x+1)))):=by
         refine ⟨_,sn2,hm4,(hs2.zl2 (λ e=>HB.out.1 x hx e.symm)).zl2 (λ e=>HB.out.1 j hjn e.symm),((HT.out.kept.trans hk2).set hx j _).set hjn x _,λ z hz=>hmono2 z (HT.out.mono z hz),.inl ⟨rfl,x::vs,rfl,?_,?_,λ v hv'=>?_,?_,?_⟩⟩
         ·rw [hr,List.getLast?_cons_cons,<-hr];exact hl
         ·exact List.nodup_cons.2 ⟨hxv,hnd⟩
         ·rcases List.mem_cons.1 hv' with rfl | hv'
          ·exact ⟨hx,HU.out.2⟩
          ·refine ⟨(hv v hv').1,?_⟩
           cases hq:sn v with
           | false=>rfl
           | true=>
             have h1:=HT.out.mono v hq;rw [(hv v hv').2] at h1;cases h1
         ·rw [hr]
          exact ⟨by omega,hr▸hg⟩
         ·rw [hr]
          show _=tkM (tkP M (j::r)) x j;rw [<-hr,<-hM']
          funext i k
          unfold tkM zb2;by_cases e1:i=j/\k=x
          ·rw [if_pos e1,if_pos e1,if_neg (λ k'=>hjx (e1.1.symm.trans k'.1)),e1.1,e1.2,hMx.2]
          ·rw [if_neg e1,if_neg e1]
           by_cases e2:i=x/\k=j
           ·rw [if_pos e2,if_pos e2,e2.1,e2.2,hMx.1];omega
           ·rw [if_neg e2,if_neg e2]
        clear hm2 hs2 hk2 hmono2 hh hl hnd hv hg hM' hxv hr hMx hm3 hm4 hMxj hMjx HT HM HIH q1 q2 q3;go_wp2_with fail;go_ret;exact HP.out
       ·as_aux_lemma=>
        subst hM';have HN:Hid (zc4 w w2 g b N sb x tg M' sn sn2 (j+1)):=HT.out.fail hm2 hs2 hk2 hmono2 hx2 hd2;clear hm2 hs2 hk2 hmono2 hx2 hd2 HT q1 q2 q3;go_wp2_with fail;go_roundw;case rel=>exact ⟨j+1,sn2,by omega,by go_num,HN.out⟩
        case measure=>simp [intOf];omega
    ·as_aux_lemma=>
     have HN:Hid (zc4 w wr g b N sb x tg M sn sn' (j+1)):=HT.out.skip (.inl hpos);go_wp2_with fail;go_roundw;case rel=>exact ⟨j+1,sn',by omega,by go_num,HN.out⟩
     case measure=>simp [intOf];omega
   ·as_aux_lemma=>
    have hje:N=j:=by omega
    subst hje;have HP:Hid (zhr w g b N sb x tg M sn (.returned (.bool false)) wr):=HT.out.none HXT.out;clear HT;go_wp2_with fail;go_ret;exact HP.out
theorem zpj (g:Nat) (b:Nat->Nat) (N sb tg c:Nat) (hN:N<=1000) (htg:tg<N) (hsb:∀i,i<N->sb≠b i) (hsg:sb≠g):∀u,zqu g b N sb tg c u
 | 0=>λ _ _ _ _ h=>absurd h (by omega)
 | u+1=>zzz g b N sb tg c u hN htg hsb hsg (zpj g b N sb tg c hN htg hsb hsg u)
end Go.Proofs.YtebcjaenhiiflaaGreatDoor.S
namespace Go.Proofs.YtebcjaenhiiflaaGreatDoor.S
open Go Go.ChangeMaps Go.MapKept Go.WideShapes Go.Proofs.Tryz
open Go.RowKit Go.WideMaps Go.Maps F
theorem zo9 {M:Nat->Nat->Int} {x y:Nat} (h:x≠y) (i j:Nat):tkM M x y i j=if i=x/\j=y then M i j-1 else if i=y/\j=x then M i j+1 else M i j:=by
 unfold tkM zb2;by_cases e1:i=y/\j=x
 ·rw [if_pos e1,if_neg (λ k=>h (k.1.symm.trans e1.1)),if_neg (λ k=>h (k.1.symm.trans e1.1)),if_pos e1]
 ·rw [if_neg e1]
  by_cases e2:i=x/\j=y
  ·rw [if_pos e2,if_pos e2];rfl
  ·rw [if_neg e2,if_neg e2,if_neg e1]
theorem z6k {M:Nat->Nat->Int} {x y:Nat} (h:x≠y) (i j:Nat):tkM M x y i j+tkM M x y j i=M i j+M j i:=by
 rw [zo9 h,zo9 h];by_cases e1:i=x/\j=y
 ·rw [if_pos e1,if_neg (λ k:j=x/\i=y=>h (e1.1.symm.trans k.2)),if_pos (show j=y/\i=x from ⟨e1.2,e1.1⟩)];omega
 ·by_cases e2:i=y/\j=x
  ·rw [if_neg e1,if_pos e2,if_pos ⟨e2.2,e2.1⟩];omega
  ·rw [if_neg e1,if_neg e2,if_neg (λ k=>e2 ⟨k.2,k.1⟩),if_neg (λ k=>e1 ⟨k.2,k.1⟩)]
theorem ztq {M:Nat->Nat->Int}:∀(vs:List Nat),vs.Nodup->∀i j,tkP M vs i j+tkP M vs j i=M i j+M j i
 | [],_,_,_=>rfl
 | [_],_,_,_=>rfl
 | x::y::r,h,i,j=>by
   have hn:=List.nodup_cons.1 h;show tkM (tkP M (y::r)) x y i j+tkM (tkP M (y::r)) x y j i=_;rw [z6k (λ e=>hn.1 (by simp [e])),ztq (y::r) hn.2]
theorem zt5 {M:Nat->Nat->Int} (h0:∀i j,0<=M i j):∀(vs:List Nat),vs.Nodup->Gone M vs->∀i j,0<=tkP M vs i j
 | [],_,_,i,j=>h0 i j
 | [_],_,_,i,j=>h0 i j
 | x::y::r,h,hg,i,j=>by
   have hn:=List.nodup_cons.1 h;have ih:=zt5 h0 (y::r) hn.2 hg.2;have hx:=(zm0 (M:=M) (y::r) x y hn.1).1;have h1:=hg.1;show 0<=tkM (tkP M (y::r)) x y i j;rw [zo9 (λ e=>hn.1 (by simp [e]))];have:=ih i j;split
   ·next e=>rw [e.1,e.2,hx];omega
   ·split <;> omega
structure zco (M0 M:Nat->Nat->Int) (N a tg:Nat) (k:Int):Prop where
 pos:∀i j,0<=M i j
 sum:∀i j,M i j+M j i=M0 i j+M0 j i
 cut:∀S:Int->Bool,S (a:Int)=true->S (tg:Int)=false->zb0 M N S=zb0 M0 N S-k
theorem zk1 {M:Nat->Nat->Int} (h:∀i j,0<=M i j) (S:Int->Bool) (i:Nat):∀n,0<=zd3 M S i n
 | 0=>Int.le_refl _
 | n+1=>by
   have:=zk1 h S i n;have:=h i n;simp only [zd3];split <;> omega
theorem zk9 {M:Nat->Nat->Int} (h:∀i j,0<=M i j) (N:Nat) (S:Int->Bool):∀n,0<=zfo M N S n
 | 0=>Int.le_refl _
 | n+1=>by
   have:=zk9 h N S n;have:=zk1 h S n N;simp only [zfo];omega
theorem row_zero {M:Nat->Nat->Int} {S:Int->Bool} {i:Nat}:∀n:Nat,(∀j:Nat,j<n->S (i:Int)=true->S (j:Int)=false->M i j=0)->zd3 M S i n=0
 | 0,_=>rfl
 | n+1,h=>by
   have ih:=row_zero n (λ j hj=>h j (by omega));have h1:=h n (by omega);simp only [zd3,ih];cases h2:S (i:Int) <;> cases h3:S (n:Int) <;> simp
   exact h1 h2 h3
theorem zp2 {M:Nat->Nat->Int} {N:Nat} {S:Int->Bool}:∀n:Nat,(∀i j:Nat,i<n->j<N->S (i:Int)=true->S (j:Int)=false->M i j=0)->zfo M N S n=0
 | 0,_=>rfl
 | n+1,h=>by
   have ih:=zp2 n (λ i j hi=>h i j (by omega));have:=row_zero (M:=M) (S:=S) (i:=n) N (λ j hj=>h n j (by omega) hj);simp only [zfo,ih,this];rfl
theorem zco.start {M0:Nat->Nat->Int} {N a tg:Nat} (h:∀i j,0<=M0 i j):zco M0 M0 N a tg 0:=⟨h,λ _ _=>rfl,λ _ _ _=>by omega⟩
theorem zco.way {M0 M:Nat->Nat->Int} {N a tg:Nat} {k:Int} (h:zco M0 M N a tg k) {vs:List Nat} (h1:vs.head? =some a) (h2:vs.getLast? =some tg) (h3:∀v∈vs,v<N) (h4:vs.Nodup) (h5:Gone M vs):zco M0 (tkP M vs) N a tg (k+1):=
 ⟨zt5 h.pos vs h4 h5,λ i j=>by rw [ztq vs h4,h.sum],λ S ha hb=>by
   rw [ztb S vs a tg h1 h2 h3,h.cut S ha hb];unfold chi;rw [if_pos ha,if_neg (by rw [hb];simp)];omega⟩
theorem zco.le {M0 M:Nat->Nat->Int} {N a tg:Nat} {k:Int} (h:zco M0 M N a tg k) {S:Int->Bool} (h1:S (a:Int)=true) (h2:S (tg:Int)=false):k<=zb0 M0 N S:=by
 have:=h.cut S h1 h2;have:=zk9 h.pos N S N;unfold zb0 at*;omega
theorem zco.done {M0 M:Nat->Nat->Int} {N a tg:Nat} {k most:Int} (h:zco M0 M N a tg k) (h0:0<=k) (hm:k<=most) (S:Int->Bool) (h1:S (a:Int)=true) (h2:S (tg:Int)=false) (hz:∀i j:Nat,i<N->j<N->S (i:Int)=true->S (j:Int)=false->M i j=0):Val (zb0 M0 N) a tg most k:=
 ⟨h0,hm,λ _ k1 k2=>h.le k1 k2,.inr ⟨S,h1,h2,by
   have h3:=h.cut S h1 h2;have h4:=zp2 (M:=M) (N:=N) (S:=S) N hz;have h5:zb0 M N S=0:=h4;rw [h5] at h3;omega⟩⟩
theorem zco.most {M0 M:Nat->Nat->Int} {N a tg:Nat} {most:Int} (h:zco M0 M N a tg most) (h0:0<=most):Val (zb0 M0 N) a tg most most:=
 ⟨h0,Int.le_refl _,λ _ h1 h2=>h.le h1 h2,.inl rfl⟩
structure Ka (b:Nat->Nat) (N:Nat) (w w':World):Prop where
 os:w'.os=w.os
 tape:w'.tape=w.tape
 output:w'.output=w.output
 size:w.heap.size<=w'.heap.size
 block:∀k,k<w.heap.size->(∀i,i<N->k≠b i)->w'.heap[k]? =w.heap[k]?
theorem Ka.refl (b:Nat->Nat) (N:Nat) (w:World):Ka b N w w:=⟨rfl,rfl,rfl,Nat.le_refl _,λ _ _ _=>rfl⟩
theorem Ka.trans {b:Nat->Nat} {N:Nat} {w w' w'':World} (h:Ka b N w w') (k:Ka b N w' w''):Ka b N w w'':=⟨k.os.trans h.os,k.tape.trans h.tape,k.output.trans h.output,Nat.le_trans h.size k.size,λ i h1 h2=>(k.block i (Nat.lt_of_lt_of_le h1 h.size) h2).trans (h.block i h1 h2)⟩
theorem Ka.of_below {b:Nat->Nat} {N:Nat} {w w':World} (h:Below w.heap.size w w'):Ka b N w w':=⟨h.os,h.tape,h.output,h.size,λ k hk _=>h.block k hk⟩
theorem Ka.yacx {b:Nat->Nat} {N sb:Nat} {w0 w w':World} (h:Ka b N w0 w) (k:Kq b N sb w w') (hs:w0.heap.size<=sb):Ka b N w0 w':=⟨k.os.trans h.os,k.tape.trans h.tape,k.output.trans h.output,by rw [k.size];exact h.size,λ i h1 h2=>(k.block i h2 (by omega)).trans (h.block i h1 h2)⟩
theorem Ka.old {b:Nat->Nat} {N B:Nat} {w w':World} (h:Ka b N w w') (hB:B<=w.heap.size) (hb:∀i,i<N->B<=b i):Below B w w':=⟨h.os,h.tape,h.output,h.size,λ k hk=>h.block k (by omega) (λ i hi e=>by have:=hb i hi;omega)⟩
theorem Mat.below {w w':World} {g:Nat} {b:Nat->Nat} {N:Nat} {M:Nat->Nat->Int} (h:Mat w g b N M) (hb:Below w.heap.size w w'):Mat w' g b N M:=
 ⟨λ i hi=>cell_below (h.out i hi) hb,λ i j hi hj=>⟨cell_below (h.row i j hi hj).1 hb,by
   have hl:=lt_of_cell (h.row i j hi hj).1;have:=(h.row i j hi hj).2;unfold World.frozen? at this ⊢;rw [hb.block _ hl];exact this⟩,h.inj,h.off⟩
theorem Mat.lt {w:World} {g:Nat} {b:Nat->Nat} {N:Nat} {M:Nat->Nat->Int} (h:Mat w g b N M) (hN:0<N):g<w.heap.size/\∀i,i<N->b i<w.heap.size:=
 ⟨lt_of_cell (h.out 0 hN),λ i hi=>lt_of_cell (h.row i 0 hi hN).1⟩
theorem z9d (w:World) (N:Nat):Sn (w.alloc (.cells (madeCells #[.bool false] N) 4)) w.heap.size N (λ _=>false):=λ j hj=>by
 have hh:=heap_alloc_new w (.cells (madeCells #[.bool false] N) 4);obtain ⟨W,hW⟩:∃W,w.alloc (.cells (madeCells #[.bool false] N) 4)=W:=⟨_,rfl⟩;rw [hW] at hh ⊢;have hc:(madeCells #[.bool false] N)[j]? =some (.bool false):=by simp [madeCells,hj,Nat.mod_one]
 exact ⟨by simp [World.cell?,hh,hc],by simp [World.frozen?,hh]⟩
theorem yaal:(prog.info? 4).map (λ i=>(i.zero,i.size,i.bytes))=some (some (.bool false),1,1):=by kernel_rfl
theorem zra (g:Nat) (b:Nat->Nat) (N a tg c most:Nat) (M0:Nat->Nat->Int) (w:World) (hmat:Mat w g b N M0) (hN:N<=100) (ha:a<N) (htg:tg<N) (hmost:most<=1000) (hM:∀i j,0<=M0 i j/\M0 i j<=1000):
 Calls prog 127 #[.slice (some ⟨g,0,none⟩) N c,.int .i64 (a:Int),.int .i64 (tg:Int),.int .i64 (most:Int)] w λ e w'=>∃k:Nat,e= .returned (.int .i64 (k:Int))/\Val (zb0 M0 N) a tg most k/\Ka b N w w':=by
 have HS:Hid (Mat w g b N M0/\zco M0 M0 N a tg 0/\Ka b N w w):=⟨hmat,zco.start (λ i j=>(hM i j).1),Ka.refl _ _ _⟩;have HM:=kd hM;have HL:Hid (g<w.heap.size/\∀i,i<N->b i<w.heap.size):=hmat.lt (by omega);clear hmat hM;go_enter func127,ntmps127;go_wp2_with fail;go_loopw [9] (λ s9 wq=>∃(k:Nat) (M:Nat->Nat->Int),k<=most/\s9= .int .i64 k/\Mat wq g b N M/\zco M0 M N a tg k/\Ka b N w wq) (λ s9 _=>most-(intOf s9).toNat)
 case atStart=>exact ⟨0,M0,Nat.zero_le _,rfl,HS.out.1,HS.out.2.1,HS.out.2.2⟩
 case round=>
  clear HS;obtain ⟨k,M,hk,rfl,hm,hf,hka⟩:=hrel;have HR:Hid (Mat wr g b N M/\zco M0 M N a tg k/\Ka b N w wr):=⟨hm,hf,hka⟩;clear hm hf hka;by_cases hlt:k<most
  ·have hmk:=λ W=>run_make_row' (P:=prog) 270 4 (.bool false) 1 underlying270 yaal rfl .i64 .i64 N (by omega) (by omega) W
   obtain ⟨W1,hW1⟩:∃W1,W1=wr.alloc (.cells (madeCells #[.bool false] N) 4):=⟨_,rfl⟩;have hbW:Below wr.heap.size wr W1:=by rw [hW1];exact (Below.refl _ _).alloc (Nat.le_refl _) _
   have hsn:Sn W1 wr.heap.size N (λ _=>false):=by rw [hW1];exact z9d wr N
   have hmat1:=HR.out.1.below hbW;have hlt1:=HR.out.1.lt (show 0<N by omega);have hbd:∀i j,i<N->j<N->0<=M i j/\M i j<=1000000:=λ i j _ _=>by
    have h1:=HR.out.2.1.pos i j;have h2:=HR.out.2.1.pos j i;have h3:=HR.out.2.1.sum i j;have h4:=HM.out i j;have h5:=HM.out j i;omega
   have HC:Hid _:=zpj g b N wr.heap.size tg c (by omega) htg (λ i hi e=>by have:=hlt1.2 i hi;omega) (λ e=>by have:=hlt1.1;omega) (uns (λ _=>false) N+1) a M (λ _=>false) W1 (Nat.lt_succ_self _) hmat1 hsn ha rfl hbd;have HW1:=kd hW1.symm;have HB1:=kd hbW;clear hW1 hbW hsn hmat1 hlt1 hbd;go_wp2_with fail;rw [HW1.out];clear hmk;refine Calls.mono HC.out ?_;rintro e w2 ⟨M',sn',hm2,hs2,hk2,_,h2⟩;have HKA:Hid (Ka b N w w2):=(HR.out.2.2.trans (Ka.of_below HB1.out)).yacx hk2 HR.out.2.2.size;have HM2:=kd hm2;clear hm2 hs2 hk2 HC;rcases h2 with ⟨rfl,vs,hh,hl,hnd,hv,hg,hM'⟩ | ⟨rfl,hM',hx2,hd2⟩
   ·as_aux_lemma=>
    have HF:Hid (zco M0 M' N a tg ((k+1:Nat):Int)):=by
     have:=HR.out.2.1.way hh hl (λ v hv'=>(hv v hv').1) hnd hg;rw [<-hM'] at this;rw [show ((k+1:Nat):Int)=(k:Int)+1 by omega];exact this
    clear hh hl hnd hv hg hM' HR;go_wp2_with fail;go_roundw;case rel=>exact ⟨k+1,M',by omega,by go_num,HM2.out,HF.out,HKA.out⟩
    case measure=>simp [intOf];omega
   ·as_aux_lemma=>
    have HV:Hid (Val (zb0 M0 N) a tg most k):=by
     have hat:a≠tg:=(hd2 a ha hx2 rfl).1;refine HR.out.2.1.done (by omega) (by omega) (λ z=>decide (0<=z/\z<N)&&sn' z.toNat) ?_ ?_ (λ i j hi hj h1 h2=>?_)
     ·simp [ha,hx2]
     ·have:sn' tg=false:=by
       cases hq:sn' tg with
       | false=>rfl
       | true=>exact absurd rfl (hd2 tg htg hq rfl).1
      simp [this]
     ·have h1':sn' i=true:=by simp [hi] at h1;exact h1
      have h2':sn' j=false:=by simp [hj] at h2;exact h2
      have h3:=(hd2 i hi h1' rfl).2 j hj;have h4:=HR.out.2.1.pos i j;by_cases c:0<M i j
      ·have h5:=h3 c;rw [h2'] at h5;cases h5
      ·omega
    clear hM' hx2 hd2 HR;go_wp2_with fail;go_ret;exact ⟨k,rfl,HV.out,HKA.out⟩
  ·as_aux_lemma=>
   have hke:most=k:=by omega
   subst hke;go_wp2_with fail;go_ret;exact ⟨most,rfl,HR.out.2.1.most (by omega),HR.out.2.2⟩
theorem z6u:(prog.info? 48).map (λ i=>(i.zero,i.size,i.bytes))=some (some (.slice none 0 0),1,24):=by kernel_rfl
structure zfy (w wq:World) (n i:Nat):Prop where
 out:∀j,j<n->w.heap.size<wq.heap.size/\wq.cell? ⟨w.heap.size,j,none⟩=some (if j<i then .slice (some ⟨w.heap.size+1+j,0,none⟩) n n else .slice none 0 0)/\wq.frozen? ⟨w.heap.size,j,none⟩=false
 row:∀k j,k<i->j<n->wq.cell? ⟨w.heap.size+1+k,j,none⟩=some (.int .i64 0)/\wq.frozen? ⟨w.heap.size+1+k,j,none⟩=false
 size:wq.heap.size=w.heap.size+1+i
 bel:Below w.heap.size w wq
theorem zit (w:World) (v:Value) (n:Nat) (t:TypeId) (j:Nat) (hj:j<n):(w.alloc (.cells (madeCells #[v] n) t)).cell? ⟨w.heap.size,j,none⟩=some v/\(w.alloc (.cells (madeCells #[v] n) t)).frozen? ⟨w.heap.size,j,none⟩=false:=by
 have hh:=heap_alloc_new w (.cells (madeCells #[v] n) t);obtain ⟨W,hW⟩:∃W,w.alloc (.cells (madeCells #[v] n) t)=W:=⟨_,rfl⟩;rw [hW] at hh ⊢;have hc:(madeCells #[v] n)[j]? =some v:=by simp [madeCells,hj,Nat.mod_one]
 exact ⟨by simp [World.cell?,hh,hc],by simp [World.frozen?,hh]⟩
theorem zfy.start (w:World) (n:Nat):zfy w (w.alloc (.cells (madeCells #[.slice none 0 0] n) 48)) n 0:=
 ⟨λ j hj=>⟨by simp,by rw [if_neg (by omega)];exact (zit w _ n 48 j hj).1,(zit w _ n 48 j hj).2⟩,λ k j hk=>by omega,by simp,(Below.refl _ _).alloc (Nat.le_refl _) _⟩
theorem zf3 {w w':World} {k i:Nat} {f:Bool} (h:w.frozen? ⟨k,i,none⟩=f) (hk:k<w.heap.size) (hb:Below w.heap.size w w'):w'.frozen? ⟨k,i,none⟩=f:=by
 unfold World.frozen? at h ⊢;rw [hb.block k hk];exact h
theorem zfy.next {w wq:World} {n i:Nat} (h:zfy w wq n i) (hi:i<n):zfy w ((wq.alloc (.cells (madeCells #[.int .i64 0] n) 3)).setCell ⟨w.heap.size,i,none⟩ (.slice (some ⟨wq.heap.size,0,none⟩) n n)) n (i+1):=by
 have hbA:Below wq.heap.size wq (wq.alloc (.cells (madeCells #[.int .i64 0] n) 3)):=(Below.refl _ _).alloc (Nat.le_refl _) _;have hlt:=(h.out i hi).1;refine ⟨λ j hj=>⟨by simp;omega,?_,?_⟩,λ k j hk hj=>?_,by simp [h.size];omega,?_⟩
 ·by_cases e:j=i
  ·subst e
   rw [if_pos (by omega),<-h.size];exact World.cell?_setCell_same _ _ _ (cell_below (h.out j hj).2.1 hbA)
  ·rw [World.cell?_setCell_other _ _ _ _ (λ k=>by injection k with _ k2;exact e k2.symm)]
   rw [cell_below (h.out j hj).2.1 hbA];by_cases c:j<i
   ·rw [if_pos c,if_pos (by omega)]
   ·rw [if_neg c,if_neg (by omega)]
 ·rw [World.frozen?_setCell];exact zf3 (h.out j hj).2.2 hlt hbA
 ·rw [World.cell?_setCell_far _ _ _ _ (by show w.heap.size≠w.heap.size+1+k;omega),World.frozen?_setCell]
  by_cases e:k=i
  ·subst e
   rw [<-h.size];exact zit wq _ n 3 j hj
  ·have h1:=h.row k j (by omega) hj
   exact ⟨cell_below h1.1 hbA,zf3 h1.2 (lt_of_cell h1.1) hbA⟩
 ·exact (h.bel.trans (hbA.mono h.bel.size)).setCell (Nat.le_refl _) _
theorem zfy.mat {w wq:World} {n:Nat} (h:zfy w wq n n):Mat wq w.heap.size (λ i=>w.heap.size+1+i) n (λ _ _=>0):=
 ⟨λ i hi=>by have:=(h.out i hi).2.1;rwa [if_pos hi] at this,λ i j hi hj=>h.row i j hi hj,λ i j _ _ e=>by omega,λ i _ e=>by omega⟩
theorem znu (n:Nat) (w:World) (hn:n<=100):
 Calls prog 126 #[.int .i64 (n:Int)] w λ e w'=>e= .returned (.slice (some ⟨w.heap.size,0,none⟩) n n)/\Mat w' w.heap.size (λ i=>w.heap.size+1+i) n (λ _ _=>0)/\Below w.heap.size w w':=by
 have hmk:=λ W=>run_make_row' (P:=prog) 185 48 (.slice none 0 0) 24 underlying185 z6u rfl .i64 .i64 n (by omega) (by omega) W
 have hmk2:=λ W=>run_make_row' (P:=prog) 48 3 (.int .i64 0) 8 underlying48 Tryz.info3 rfl .i64 .i64 n (by omega) (by omega) W
 have HS:Hid (zfy w (w.alloc (.cells (madeCells #[.slice none 0 0] n) 48)) n 0):=zfy.start w n;go_enter func126,ntmps126;go_wp2_with fail;go_loopw [9] (λ s9 wq=>∃i:Nat,i<=n/\s9= .int .i64 i/\zfy w wq n i) (λ s9 _=>n-(intOf s9).toNat)
 case atStart=>exact ⟨0,Nat.zero_le _,rfl,HS.out⟩
 case round=>
  clear HS;obtain ⟨i,hi,rfl,hr⟩:=hrel;have HR:=kd hr;clear hr;by_cases hlt:i<n
  ·as_aux_lemma=>
   have HN:Hid (zfy w ((wr.alloc (.cells (madeCells #[.int .i64 0] n) 3)).setCell ⟨w.heap.size,i,none⟩ (.slice (some ⟨wr.heap.size,0,none⟩) n n)) n (i+1)):=HR.out.next hlt;have hbA:Below wr.heap.size wr (wr.alloc (.cells (madeCells #[.int .i64 0] n) 3)):=(Below.refl _ _).alloc (Nat.le_refl _) _;have q1:=cell_below (HR.out.out i hlt).2.1 hbA;have q2:=zf3 (HR.out.out i hlt).2.2 (HR.out.out i hlt).1 hbA;rw [if_neg (Nat.lt_irrefl i)] at q1;clear hbA;go_wp2_with fail;go_roundw;case rel=>exact ⟨i+1,by omega,by go_num,HN.out⟩
   case measure=>simp [intOf];omega
  ·as_aux_lemma=>
   have hie:n=i:=by omega
   subst hie;go_wp2_with fail;go_ret;exact ⟨rfl,HR.out.mat,HR.out.bel⟩
def zlm (n:Nat) (a b most:Int):Prop:=(0<=a/\a<=(n:Int)-1)/\(0<=b/\b<=(n:Int)-1)/\0<=most/\most<=120
theorem zpa (n B q:Nat) (u:Value) (R:List Stp) (a b most:Int) (w:World) (h:G.GAt w B 40 61 q (n:Int) u R) (hn:n<=100) (hok:zlm n a b most) (s:Int) (hs:(a=b/\s=1)\/(a≠b/\s=0)):
 Calls prog 125 #[.pointer (some ⟨q,0,none⟩),.int .i64 a,.int .i64 b,.int .i64 most] w λ e w'=>e= .returned (.int .i64 s)/\w'=w:=by
 have c0:=h.c0;have hw:IntKind.i64.wrap ((n:Int)-1)=(n:Int)-1:=by rw [IntKind.wrap_i64];omega
 obtain ⟨h1,h2,h3⟩:=hok;clear h;go_enter func125,ntmps125;go_wp2_with fail;refine (G.zen a 0 ((n:Int)-1) w h1).mono ?_;rintro e w1 ⟨rfl,hw1⟩;subst hw1;go_wp2_with fail;refine (G.zen b 0 ((n:Int)-1) w1 h2).mono ?_;rintro e w2 ⟨rfl,hw2⟩;subst hw2;go_wp2_with fail;refine (G.zen most 0 120 w2 h3).mono ?_;rintro e w3 ⟨rfl,hw3⟩;subst hw3;rcases hs with ⟨rfl,rfl⟩ | ⟨hne,rfl⟩
 ·go_wp2_with fail
  go_ret;exact ⟨rfl,rfl⟩
 ·have hne':(a==b)=false:=beq_eq_false_iff_ne.2 hne
  go_wp2_with fail;go_ret;exact ⟨rfl,rfl⟩
theorem yaah (n B q:Nat) (u:Value) (R:List Stp) (a b most:Int) (w:World) (h:G.GAt w B 40 61 q (n:Int) u R) (hn:n<=100) (hno:¬zlm n a b most):
 Calls prog 125 #[.pointer (some ⟨q,0,none⟩),.int .i64 a,.int .i64 b,.int .i64 most] w λ e w'=>e= .returned (.int .i64 2)/\w'=w:=by
 have c0:=h.c0;have hw:IntKind.i64.wrap ((n:Int)-1)=(n:Int)-1:=by rw [IntKind.wrap_i64];omega
 clear h;go_enter func125,ntmps125;go_wp2_with fail;by_cases h1:0<=a/\a<=(n:Int)-1
 ·refine (G.zen a 0 ((n:Int)-1) w h1).mono ?_
  rintro e w1 ⟨rfl,hw1⟩;subst hw1;go_wp2_with fail;by_cases h2:0<=b/\b<=(n:Int)-1
  ·refine (G.zen b 0 ((n:Int)-1) w1 h2).mono ?_
   rintro e w2 ⟨rfl,hw2⟩;subst hw2;go_wp2_with fail;refine (G.zm6 most 0 120 w2 (λ h3=>hno ⟨h1,h2,h3⟩)).mono ?_;rintro e w3 ⟨rfl,hw3⟩;subst hw3;go_wp2_with fail;go_ret;exact ⟨rfl,rfl⟩
  ·refine (G.zm6 b 0 ((n:Int)-1) w1 h2).mono ?_
   rintro e w2 ⟨rfl,hw2⟩;subst hw2;go_wp2_with fail;go_ret;exact ⟨rfl,rfl⟩
 ·refine (G.zm6 a 0 ((n:Int)-1) w h1).mono ?_
  rintro e w1 ⟨rfl,hw1⟩;subst hw1;go_wp2_with fail;go_ret;exact ⟨rfl,rfl⟩
structure RmF (M:Nat->Nat->Int) (n j:Nat) (R:List Stp):Prop where
 cap:∀S:Int->Bool,zb0 M n S=(((R.take j).filter (crs S)).length:Int)
 bd:∀i k,0<=M i k/\M i k<=2*(j:Int)
theorem zq6 (S:Int->Bool) (i:Nat):∀n,zd3 (λ _ _=>0) S i n=0
 | 0=>rfl
 | n+1=>by simp [zd3,zq6 S i n]
theorem zj9 (N:Nat) (S:Int->Bool):∀n,zfo (λ _ _=>0) N S n=0
 | 0=>rfl
 | n+1=>by simp [zfo,zj9 N S n,zq6]
theorem RmF.start (n:Nat) (R:List Stp):RmF (λ _ _=>0) n 0 R:=⟨λ S=>by simp [zb0,zj9],λ _ _=>⟨by omega,by omega⟩⟩
theorem RmF.next {M:Nat->Nat->Int} {n j:Nat} {R:List Stp} (h:RmF M n j R) {y0:Int} {x y:Nat} (he:R[j]? =some (y0,(x:Int),(y:Int))) (hx:x<n) (hy:y<n):RmF (zb2 (zb2 M x y 1) y x 1) n (j+1) R:=by
 refine ⟨λ S=>?_,λ i k=>?_⟩
 ·rw [zef hy hx,zef hx hy,h.cap S,zch he,List.filter_append,List.length_append,List.filter_cons]
  have hc:crs S (y0,(x:Int),(y:Int))=(S (x:Int) != S (y:Int)):=rfl;rw [hc];cases S (x:Int) <;> cases S (y:Int) <;> simp
 ·have h1:=h.bd i k
  unfold zb2;split
  ·split <;> omega
  ·split <;> omega
def z02 (n:Nat) (R:List Stp):Prop:=∀e∈R,∃x y:Nat,x<n/\y<n/\x<y/\e.2.1=(x:Int)/\e.2.2=(y:Int)
theorem z8z (n B q a b most:Nat) (u:Value) (R:List Stp) (w:World) (h:G.GAt w B 40 61 q (n:Int) u R) (hn:n<=40) (hin:z02 n R) (hl:R.length<=120) (ha:a<n) (hb:b<n) (hab:a≠b) (hm:most<=120):
 Calls prog 68 #[.pointer (some ⟨q,0,none⟩),.int .i64 (a:Int),.int .i64 (b:Int),.int .i64 (most:Int)] w λ e w'=>∃k:Nat,e= .returned (.tuple #[.int .i64 (k:Int),.int .i64 0])/\Val (λ S=>((R.filter (crs S)).length:Int)) a b most k/\Below w.heap.size w w':=by
 have HG:=kd (And.intro h hin);have c0:=h.c0;have c1:=h.c1;have HA:Hid _:=zpa n B q u R (a:Int) (b:Int) (most:Int) w h (by omega) ⟨⟨by omega,by omega⟩,⟨by omega,by omega⟩,by omega,by omega⟩ 0 (.inr ⟨by omega,rfl⟩);obtain ⟨m,hmm⟩:∃m,R.length=m:=⟨_,rfl⟩;have HMM:=kd hmm;obtain ⟨va,vc,hv⟩:=h.row.zal;rw [hmm] at hv hl;have HV:=kd hv;rw [hv] at c1;clear h hin hmm hv;go_enter func68,ntmps68;go_wp2_with fail;refine Calls.mono HA.out ?_;rintro e w1 ⟨rfl,hw1⟩;subst hw1;clear HA;go_wp2_with fail;refine (znu n w1 (by omega)).mono ?_;rintro e w2 ⟨rfl,hmat,hb2⟩;have HM2:=kd (And.intro hmat hb2);have d1:=cell_below c1 hb2;clear hmat hb2 c0;go_wp2_with fail;go_loopw [32] (λ s32 wq=>∃(j:Nat) (M:Nat->Nat->Int),j<=m/\s32= .int .i64 j/\Mat wq w1.heap.size (λ i=>w1.heap.size+1+i) n M/\RmF M n j R/\Below w1.heap.size w1 wq) (λ s32 _=>m-(intOf s32).toNat)
 case atStart=>exact ⟨0,_,Nat.zero_le _,rfl,HM2.out.1,RmF.start n R,HM2.out.2⟩
 case round=>
  clear HM2;obtain ⟨j,M,hj,rfl,hmat,hrm,hbl⟩:=hrel;have HR:Hid (Mat wr w1.heap.size (λ i=>w1.heap.size+1+i) n M/\RmF M n j R/\Below w1.heap.size w1 wr):=⟨hmat,hrm,hbl⟩;clear hmat hrm hbl;by_cases hjm:j<m
  ·obtain ⟨⟨y0,y1,y2⟩,hx⟩:∃e:Stp,R[j]? =some e:=⟨_,List.getElem?_eq_getElem (by rw [HMM.out];exact hjm)⟩
   obtain ⟨x,y,hxn,hyn,hxy,he1,he2⟩:=HG.out.2 _ (List.mem_of_getElem? hx);have he1:y1=(x:Int):=he1;have he2:y2=(y:Int):=he2;subst he1;subst he2;obtain ⟨g2,hva⟩:∃g2,va=some ⟨g2,0,none⟩:=by
    rcases HG.out.1.row.shape with ⟨_,k⟩ | ⟨g2,cap2,k,_⟩
    ·rw [k] at hx;simp at hx
    ·rw [HV.out] at k
     injection k with e1 _ _
     exact ⟨g2,e1⟩
   subst hva;obtain ⟨r0,r1,r2⟩:=HG.out.1.row.at (g:=g2) (by rw [HV.out];rfl) hx;simp only at r0 r1 r2;have r0:=cell_below r0 HR.out.2.2;have r1:=cell_below r1 HR.out.2.2;have r2:=cell_below r2 HR.out.2.2;obtain ⟨W1,hW1⟩:∃W1,W1=wr.alloc (.cells #[.int .i64 y0,.int .i64 (x:Int),.int .i64 (y:Int)] 61):=⟨_,rfl⟩;have hbW:Below wr.heap.size wr W1:=by rw [hW1];exact (Below.refl _ _).alloc (Nat.le_refl _) _
   have hbx:W1.heap[wr.heap.size]? =some (.cells #[.int .i64 y0,.int .i64 (x:Int),.int .i64 (y:Int)] 61):=by rw [hW1];exact heap_alloc_new wr _
   have p1:W1.cell? ⟨wr.heap.size,1,none⟩=some (.int .i64 (x:Int)):=by simp [World.cell?,hbx]
   have p2:W1.cell? ⟨wr.heap.size,2,none⟩=some (.int .i64 (y:Int)):=by simp [World.cell?,hbx]
   have hm1:=HR.out.1.below hbW;have o1:=hm1.out x hxn;have o2:=(hm1.row x y hxn hyn).1;have o3:=(hm1.row x y hxn hyn).2;obtain ⟨A,hA⟩:∃A,M x y=A:=⟨_,rfl⟩;rw [hA] at o2;have hAb:=HR.out.2.1.bd x y;rw [hA] at hAb;have hw1:IntKind.i64.wrap (A+1)=A+1:=by rw [IntKind.wrap_i64];omega
   have HW1:=kd hW1.symm;have HEX:=kd hx;have HMA:Hid (Mat W1 w1.heap.size (λ i=>w1.heap.size+1+i) n M/\Below wr.heap.size wr W1/\M x y=A):=⟨hm1,hbW,hA⟩;clear hx hW1 hbW hbx hm1 hA;go_upto_region 8 with fail
   rw [HW1.out];clear r0 r1 r2;obtain ⟨bx,hbx⟩:∃bx,wr.heap.size=bx:=⟨_,rfl⟩;rw [hbx] at p1 p2 ⊢;have hbxm:bx≠w1.heap.size+1+x/\bx≠w1.heap.size+1+y:=by
    have h1:=(HR.out.1.lt (by omega)).2;have h2:w1.heap.size+1+x<wr.heap.size:=h1 x hxn;have h3:w1.heap.size+1+y<wr.heap.size:=h1 y hyn;omega
   have HBX:=kd hbx;clear hbx;go_region
   obtain ⟨W2,hW2⟩:∃W2,(W1.setCell ⟨w1.heap.size+1+x,y,none⟩ (.int .i64 (A+1))).drew=W2:=⟨_,rfl⟩;have hm2:Mat W2 w1.heap.size (λ i=>w1.heap.size+1+i) n (λ i k=>if i=x/\k=y then A+1 else M i k):=by
    rw [<-hW2];exact (HMA.out.1.set hxn hyn (A+1)).below (Below.refl _ _).drew
   have p1:W2.cell? ⟨bx,1,none⟩=some (.int .i64 (x:Int)):=by
    rw [<-hW2];show (W1.setCell _ _).cell? _=_;rw [World.cell?_setCell_far _ _ _ _ (by show w1.heap.size+1+x≠bx;omega)];exact p1
   have p2:W2.cell? ⟨bx,2,none⟩=some (.int .i64 (y:Int)):=by
    rw [<-hW2];show (W1.setCell _ _).cell? _=_;rw [World.cell?_setCell_far _ _ _ _ (by show w1.heap.size+1+x≠bx;omega)];exact p2
   have o4:=hm2.out y hyn;have o5:=(hm2.row y x hyn hxn).1;have o6:=(hm2.row y x hyn hxn).2;rw [if_neg (λ k=>by omega)] at o5;obtain ⟨A2,hA2⟩:∃A2,M y x=A2:=⟨_,rfl⟩;rw [hA2] at o5;have hAb2:=HR.out.2.1.bd y x;rw [hA2] at hAb2;have hw2:IntKind.i64.wrap (A2+1)=A2+1:=by rw [IntKind.wrap_i64];omega
   have HF:Hid (Mat ((W2.setCell ⟨w1.heap.size+1+y,x,none⟩ (.int .i64 (A2+1))).drew) w1.heap.size (λ i=>w1.heap.size+1+i) n (zb2 (zb2 M x y 1) y x 1)/\RmF (zb2 (zb2 M x y 1) y x 1) n (j+1) R/\Below w1.heap.size w1 ((W2.setCell ⟨w1.heap.size+1+y,x,none⟩ (.int .i64 (A2+1))).drew)):=by
    have h1:=HR.out.2.2.trans (HMA.out.2.1.mono HR.out.2.2.size);refine ⟨?_,HR.out.2.1.next HEX.out hxn hyn,?_⟩
    ·have h2:=(hm2.set hyn hxn (A2+1)).below (Below.refl _ _).drew
     have h3:(λ i k=>if i=y/\k=x then A2+1 else if i=x/\k=y then A+1 else M i k)=zb2 (zb2 M x y 1) y x 1:=by
      funext i k
      unfold zb2;by_cases e1:i=y/\k=x
      ·rw [if_pos e1,if_pos e1,if_neg (λ e=>by omega),e1.1,e1.2,hA2]
      ·rw [if_neg e1,if_neg e1]
       by_cases e2:i=x/\k=y
       ·rw [if_pos e2,if_pos e2,e2.1,e2.2,HMA.out.2.2]
       ·rw [if_neg e2,if_neg e2]
     rw [<-h3];exact h2
    ·have h4:Below w1.heap.size w1 W2:=by rw [<-hW2];exact (h1.setCell (by show w1.heap.size<=w1.heap.size+1+x;omega) _).drew
     exact (h4.setCell (by show w1.heap.size<=w1.heap.size+1+y;omega) _).drew
   rw [hW2];have HW2:Hid _:=hW2;clear hm2 hA2 hW2 o1 o2 o3 HMA;go_upto_region 9 with fail
   go_region
   have hbe:=HBX.out;subst hbe;go_wp2_with fail;go_roundw;case rel=>exact ⟨j+1,_,by omega,by go_num,HF.out.1,HF.out.2.1,HF.out.2.2⟩
   case measure=>simp [intOf];omega
  ·have hje:m=j:=by omega
   subst hje;have hbd:∀i k,0<=M i k/\M i k<=1000:=λ i k=>by have:=HR.out.2.1.bd i k;omega
   have HC:Hid _:=zra w1.heap.size (λ i=>w1.heap.size+1+i) n a b n most M wr HR.out.1 (by omega) ha hb (by omega) hbd;have HCP:Hid (zb0 M n=λ S=>((R.filter (crs S)).length:Int)):=by
    funext S
    rw [HR.out.2.1.cap S,List.take_of_length_le (by rw [HMM.out];exact Nat.le_refl _)]
   clear hbd;go_wp2_with fail;refine Calls.mono HC.out ?_;rintro e w3 ⟨k,rfl,hvk,hka⟩;rw [HCP.out] at hvk;have HF:Hid (Val (λ S=>((R.filter (crs S)).length:Int)) a b most k/\Below w1.heap.size w1 w3):=⟨hvk,HR.out.2.2.trans (hka.old HR.out.2.2.size (λ i _=>by omega))⟩;clear hvk hka HC;go_wp2_with fail;go_ret2;exact ⟨k,rfl,HF.out.1,HF.out.2⟩
open Go Go.ChangeMaps Go.MapKept Go.WideShapes
def ndX (n:Nat) (S:Int->Bool) (i:Nat):Bool:=S (i:Int)&&!S (((n+i:Nat):Nat):Int)
def prX (n:Nat) (S:Int->Bool) (d:Int × Int):Bool:=S ((n:Int)+d.1)&&!S d.2
def zfn (n a b:Nat) (PR:List (Int × Int)) (S:Int->Bool):Int:=(((List.range n).filter (ndX n S)).length:Int)+((if ndX n S a then 119 else 0)+(if ndX n S b then 119 else 0))+((PR.filter (prX n S)).length:Int)
section
variable {n:Nat} {L:List Stp} {a b:Nat} {PR:List (Int × Int)}
theorem filter_congr' {α:Type} {l:List α} {p q:α->Bool} (h:∀x∈l,p x=q x):(l.filter p).length=(l.filter q).length:=by rw [List.filter_congr h]
theorem zxq {most k:Int} (hed:Ed n 120 L) (hQ:Joins L PR) (han:a<n) (hbn:b<n) (hv:Val (zfn n a b PR) a ((n+b:Nat):Int) most k) (T:List Nat) (ha:a∉T) (hb:b∉T) (h:¬cnv L T a b):k<=(T.length:Int):=by
 obtain ⟨S',h1,h1',h2,h3,h4,h5⟩:=znz hQ T ha hb h;have e1:∀i:Nat,i<n->(λ x:Int=>if x<n then S' (2*x) else S' (2*(x-n)+1)) (i:Int)=S' (2*(i:Int)):=λ i hi=>by
  show (if (i:Int)<n then _ else _)=_;rw [if_pos (by omega)]
 have e2:∀i:Nat,(λ x:Int=>if x<n then S' (2*x) else S' (2*(x-n)+1)) (((n+i:Nat):Nat):Int)=S' (2*(i:Int)+1):=λ i=>by
  show (if (((n+i:Nat):Nat):Int)<n then _ else _)=_;rw [if_neg (by omega),show 2*((((n+i:Nat):Nat):Int)-n)+1=2*(i:Int)+1 by omega]
 have hle:=hv.all (λ x:Int=>if x<n then S' (2*x) else S' (2*(x-n)+1)) ((e1 a han).trans h1') ((e2 b).trans h3);obtain ⟨S,hS⟩:∃S,(λ x:Int=>if x<n then S' (2*x) else S' (2*(x-n)+1))=S:=⟨_,rfl⟩;rw [hS] at hle e1 e2;have hnd:∀i,i<n->ndX n S i=nin S' i:=λ i hi=>by
  unfold ndX nin;rw [e1 i hi,e2 i]
 have q1:((List.range n).filter (ndX n S)).length<=T.length:=by
  rw [filter_congr' (λ i hi=>hnd i (List.mem_range.1 hi))];exact zx0 h4 n
 have qa:ndX n S a=false:=by
  rw [hnd a han];cases hq:nin S' a with
  | false=>rfl
  | true=>exact absurd (h4 a hq) ha
 have qb:ndX n S b=false:=by
  rw [hnd b hbn];cases hq:nin S' b with
  | false=>rfl
  | true=>exact absurd (h4 b hq) hb
 have q2:(PR.filter (prX n S)).length=0:=by
  rw [List.length_eq_zero_iff,List.filter_eq_nil_iff];intro d hd;have:prX n S d=ein S' d:=by
   obtain ⟨e,he,hd'⟩:=hQ.out d hd;obtain ⟨_,_,l1,l2,_⟩:=ze1 hed he;have key:∀u v:Nat,v<n->prX n S ((u:Int),(v:Int))=ein S' ((u:Int),(v:Int)):=λ u v hv'=>by
    unfold prX ein;have:=e2 u;rw [show (((n+u:Nat):Nat):Int)=(n:Int)+(u:Int) by omega] at this;simp only [this,e1 v hv']
   rcases hd' with rfl | rfl
   ·exact key _ _ l2
   ·exact key _ _ l1
  rw [this,h5 d hd];simp
 unfold zfn at hle;rw [qa,qb,q2] at hle;simp at hle;omega
theorem zso (hna:∀e∈L,¬(ea e=a/\eb e=b)/\¬(ea e=b/\eb e=a)) (hed:Ed n 120 L) (hab:a≠b):¬cnv L ((List.range n).filter λ z=>decide (z≠a/\z≠b)) a b:=λ hc=>by
 have:=zae.least (P:=λ (u v:Nat)=>u=v) hc (λ _=>rfl) (λ _ _ k=>k.symm) (λ _ _ _ k1 k2=>k1.trans k2) (by
  rintro u v ⟨e,⟨he,h1,h2⟩,rfl,rfl⟩;exfalso;obtain ⟨_,_,e3,e4,e5⟩:=ze1 hed he;have:=hna e he;rw [List.mem_filter,List.mem_range] at h1 h2;simp at h1 h2;omega)
 exact hab this
theorem z9t {most k:Int} (hed:Ed n 120 L) (hn:n<=40) (hQ:Joins L PR) (han:a<n) (hbn:b<n) (hab:a≠b) (hna:∀e∈L,¬(ea e=a/\eb e=b)/\¬(ea e=b/\eb e=a)) (hv:Val (zfn n a b PR) a ((n+b:Nat):Int) most k) (hk:k≠most):∃T:List Nat,a∉T/\b∉T/\¬cnv L T a b/\(T.length:Int)<=k:=by
 have hsm:=zxq hed hQ han hbn hv _ (by simp) (by simp) (zso hna hed hab);have hlen:((List.range n).filter λ z=>decide (z≠a/\z≠b)).length<=n:=by
  have:=List.length_filter_le (λ z=>decide (z≠a/\z≠b)) (List.range n)
  simpa using this
 rcases hv.one with h | ⟨S,h1,h2,h3⟩
 ·exact absurd h hk
 ·have p1:(0:Int)<=(((List.range n).filter (ndX n S)).length:Int):=by omega
  have p2:(0:Int)<=((PR.filter (prX n S)).length:Int):=by omega
  have na:ndX n S a=false:=by
   cases hq:ndX n S a with
   | false=>rfl
   | true=>
     exfalso;unfold zfn at h3;rw [hq] at h3;simp at h3;split at h3 <;> omega
  have nb:ndX n S b=false:=by
   cases hq:ndX n S b with
   | false=>rfl
   | true=>
     exfalso;unfold zfn at h3;rw [hq] at h3;simp at h3;split at h3 <;> omega
  obtain ⟨S',hS'⟩:∃S':Int->Bool,(∀i:Nat,S' (2*(i:Int))=S (i:Int))/\∀i:Nat,S' (2*(i:Int)+1)=S (((n+i:Nat):Nat):Int):=by
   refine ⟨λ x=>if x%2=0 then S (x/2) else S ((n:Int)+x/2),λ i=>?_,λ i=>?_⟩
   ·show (if (2*(i:Int))%2=0 then _ else _)=_
    rw [if_pos (by omega),show 2*(i:Int)/2=(i:Int) by omega]
   ·show (if (2*(i:Int)+1)%2=0 then _ else _)=_
    rw [if_neg (by omega),show (n:Int)+(2*(i:Int)+1)/2=(((n+i:Nat):Nat):Int) by omega]
  have sa:S' (2*(a:Int)+1)=true:=by
   rw [hS'.2 a];unfold ndX at na;rw [h1] at na
   simpa using na
  have sb:S' (2*(b:Int))=false:=by
   rw [hS'.1 b];unfold ndX at nb;rw [h2] at nb
   simpa using nb
  obtain ⟨T,t1,t2,t3,t4,_⟩:=znl hed hQ hab hna S' sa sb;refine ⟨T,t1,t2,t3,?_⟩;have q1:((List.range n).filter (nin S')).length=((List.range n).filter (ndX n S)).length:=filter_congr' (λ i _=>by
   unfold nin ndX;rw [hS'.1 i,hS'.2 i])
  have q2:(PR.filter (ein S')).length=(PR.filter (prX n S)).length:=filter_congr' (λ d hd=>by
   obtain ⟨e,he,hd'⟩:=hQ.out d hd;have key:∀u v:Nat,ein S' ((u:Int),(v:Int))=prX n S ((u:Int),(v:Int)):=λ u v=>by
    unfold prX ein;have:=hS'.2 u;rw [show (((n+u:Nat):Nat):Int)=(n:Int)+(u:Int) by omega] at this;simp only [this,hS'.1 v]
   rcases hd' with rfl | rfl <;> exact key _ _)
  unfold zfn at h3;rw [na,nb] at h3;simp at h3;omega
theorem zwk {most k k':Int} (hed:Ed n 120 L) (hn:n<=40) (hQ:Joins (L.filter λ e=>!zba a b e) PR) (han:a<n) (hbn:b<n) (hab:a≠b) (hv:Val (cap (lD (noS n L)) (lr (noS n L))) (2*(a:Int)+1) (2*(b:Int)) most k) (hv':Val (zfn n a b PR) a ((n+b:Nat):Int) most k'):k=min most (((L.filter (zba a b)).length:Int)+k'):=by
 have h1:k<=((L.filter (zba a b)).length:Int)+k':=by
  by_cases e:k'=most
  ·have:=hv.le
   omega
  ·obtain ⟨T,t1,t2,t3,t4⟩:=z9t (hed.zqi _) hn hQ han hbn hab (ztg L a b) hv' e
   have:=z9h hed hv T t1 t2 t3;omega
 have h2:=hv.le;by_cases e:k=most
 ·omega
 ·obtain ⟨T,t1,t2,t3,t4⟩:=z5e hed hab hv e
  have:=zxq (hed.zqi _) hQ han hbn hv' T t1 t2 t3;omega
end
end Go.Proofs.YtebcjaenhiiflaaGreatDoor.S
namespace Go.Proofs.YtebcjaenhiiflaaGreatDoor.S
open Go Go.ChangeMaps Go.MapKept Go.WideShapes
open Go.RowKit Go.WideMaps Go.Maps F
def zbo (M:Nat->Nat->Int) (x y:Nat) (v:Int):Nat->Nat->Int:=λ i k=>if i=x/\k=y then v else M i k
theorem zjw {M:Nat->Nat->Int} {x y:Nat} {v v0:Int} (h:M x y=v0):zbo M x y v=zb2 M x y (v-v0):=by
 funext i k
 unfold zbo zb2;by_cases e:i=x/\k=y
 ·rw [if_pos e,if_pos e,e.1,e.2,h];omega
 ·rw [if_neg e,if_neg e]
structure RN (M:Nat->Nat->Int) (n a b j:Nat) (tw:Bool) (PR:List (Int × Int)):Prop where
 cap:∀S:Int->Bool,zb0 M (2*n) S=(((List.range j).filter (ndX n S)).length:Int)+(if tw then ((if ndX n S a then 119 else 0)+(if ndX n S b then 119 else 0)) else 0)+((PR.filter (prX n S)).length:Int)
 diag:tw=false->∀i,i<n->M i (n+i)=if i<j then 1 else 0
 ent:∀u v:Nat,u<n->v<n->M (n+u) v=if ((u:Int),(v:Int))∈PR then 1 else 0
 bd:∀i k,0<=M i k/\M i k<=1000
section
variable {M:Nat->Nat->Int} {n a b j:Nat} {tw:Bool} {PR:List (Int × Int)}
theorem RN.start (n a b:Nat):RN (λ _ _=>0) n a b 0 false []:=
 ⟨λ S=>by simp [zb0,zj9],λ _ i _=>by simp,λ u v _ _=>by simp,λ _ _=>⟨by omega,by omega⟩⟩
theorem RN.node (h:RN M n a b j false PR) (hj:j<n):RN (zbo M j (n+j) 1) n a b (j+1) false PR:=by
 have h0:M j (n+j)=0:=by have:=h.diag rfl j hj;rwa [if_neg (by omega)] at this
 refine ⟨λ S=>?_,λ _ i hi=>?_,λ u v hu hv=>?_,λ i k=>?_⟩
 ·rw [zjw h0,zef (by omega) (by omega),h.cap S,List.range_succ,List.filter_append,List.length_append,List.filter_cons]
  have hx:ndX n S j=(S (j:Int)&&!S (((n+j:Nat):Nat):Int)):=rfl;rw [hx];cases (S (j:Int)&&!S (((n+j:Nat):Nat):Int)) <;> simp <;> omega
 ·unfold zbo
  by_cases e:i=j
  ·subst e;rw [if_pos ⟨rfl,rfl⟩,if_pos (by omega)]
  ·rw [if_neg (λ k=>e k.1),h.diag rfl i hi]
   by_cases c:i<j
   ·rw [if_pos c,if_pos (by omega)]
   ·rw [if_neg c,if_neg (by omega)]
 ·unfold zbo
  rw [if_neg (λ k=>by omega)];exact h.ent u v hu hv
 ·have:=h.bd i k
  unfold zbo;split <;> omega
theorem RN.both (h:RN M n a b n false PR) (ha:a<n) (hb:b<n) (hab:a≠b):RN (zbo (zbo M a (n+a) 120) b (n+b) 120) n a b n true PR:=by
 have ha0:M a (n+a)=1:=by have:=h.diag rfl a ha;rwa [if_pos ha] at this
 have hb0:zbo M a (n+a) 120 b (n+b)=1:=by
  unfold zbo;rw [if_neg (λ k=>hab k.1.symm)];have:=h.diag rfl b hb;rwa [if_pos hb] at this
 refine ⟨λ S=>?_,λ k=>(by cases k),λ u v hu hv=>?_,λ i k=>?_⟩
 ·rw [zjw hb0,zef (by omega) (by omega),zjw ha0,zef (by omega) (by omega),h.cap S]
  have hx:ndX n S a=(S (a:Int)&&!S (((n+a:Nat):Nat):Int)):=rfl;have hy:ndX n S b=(S (b:Int)&&!S (((n+b:Nat):Nat):Int)):=rfl;rw [hx,hy];cases (S (a:Int)&&!S (((n+a:Nat):Nat):Int)) <;> cases (S (b:Int)&&!S (((n+b:Nat):Nat):Int)) <;> simp <;> omega
 ·unfold zbo
  rw [if_neg (λ k=>by omega),if_neg (λ k=>by omega)];exact h.ent u v hu hv
 ·have:=h.bd i k
  unfold zbo;split
  ·omega
  ·split <;> omega
theorem RN.pair (h:RN M n a b j true PR) {u v:Nat} (hu:u<n) (hv:v<n):∃PR',RN (zbo M (n+u) v 1) n a b j true PR'/\∀d,d∈PR'↔d∈PR\/d=((u:Int),(v:Int)):=by
 by_cases c:((u:Int),(v:Int))∈PR
 ·have h1:M (n+u) v=1:=by rw [h.ent u v hu hv,if_pos c]
  have hs:zbo M (n+u) v 1=M:=by
   funext i k
   unfold zbo;by_cases e:i=n+u/\k=v
   ·rw [if_pos e,e.1,e.2,h1]
   ·rw [if_neg e]
  rw [hs];exact ⟨PR,h,λ d=>⟨.inl,λ k=>k.elim id (λ k=>k▸c)⟩⟩
 ·have h0:M (n+u) v=0:=by rw [h.ent u v hu hv,if_neg c]
  refine ⟨PR++[((u:Int),(v:Int))],⟨λ S=>?_,λ k=>(by cases k),λ u' v' hu' hv'=>?_,λ i k=>?_⟩,λ d=>by simp⟩
  ·rw [zjw h0,zef (by omega) (by omega),h.cap S,List.filter_append,List.length_append,List.filter_cons]
   have hx:prX n S ((u:Int),(v:Int))=(S (((n+u:Nat):Nat):Int)&&!S (v:Int)):=by
    unfold prX;rw [show (((n+u:Nat):Nat):Int)=(n:Int)+(u:Int) by omega]
   rw [hx];cases (S (((n+u:Nat):Nat):Int)&&!S (v:Int)) <;> simp <;> omega
  ·unfold zbo
   by_cases e:u'=u/\v'=v
   ·obtain ⟨rfl,rfl⟩:=e
    rw [if_pos ⟨rfl,rfl⟩,if_pos (by simp)]
   ·rw [if_neg (λ k=>e ⟨by omega,k.2⟩),h.ent u' v' hu' hv']
    have:((u':Int),(v':Int))∈PR++[((u:Int),(v:Int))]↔((u':Int),(v':Int))∈PR:=by
     rw [List.mem_append,List.mem_singleton];refine ⟨λ k=>k.elim id (λ k=>?_),.inl⟩;injection k with k1 k2
     exact absurd ⟨by omega,by omega⟩ e
    by_cases q:((u':Int),(v':Int))∈PR
    ·rw [if_pos q,if_pos (this.2 q)]
    ·rw [if_neg q,if_neg (λ k=>q (this.1 k))]
  ·have:=h.bd i k
   unfold zbo;split <;> omega
end
def zd7 (a b:Nat) (R:List Stp) (j:Nat) (PR:List (Int × Int)):Prop:=∀d,d∈PR↔∃e∈R.take j,zba a b e=false/\(d=((ea e:Int),(eb e:Int))\/d=((eb e:Int),(ea e:Int)))
theorem zd7.skip {a b j:Nat} {R:List Stp} {PR:List (Int × Int)} (h:zd7 a b R j PR) {e:Stp} (he:R[j]? =some e) (hd:zba a b e=true):zd7 a b R (j+1) PR:=λ d=>by
 rw [h d,zch he];constructor
 ·rintro ⟨f,hf,k⟩;exact ⟨f,List.mem_append_left _ hf,k⟩
 ·rintro ⟨f,hf,k1,k2⟩
  rcases List.mem_append.1 hf with hf | hf
  ·exact ⟨f,hf,k1,k2⟩
  ·rw [List.mem_singleton.1 hf,hd] at k1;cases k1
theorem zd7.more {a b j:Nat} {R:List Stp} {PR P1 P2:List (Int × Int)} (h:zd7 a b R j PR) {e:Stp} (he:R[j]? =some e) (hd:zba a b e=false) (h1:∀d,d∈P1↔d∈PR\/d=((ea e:Int),(eb e:Int))) (h2:∀d,d∈P2↔d∈P1\/d=((eb e:Int),(ea e:Int))):zd7 a b R (j+1) P2:=λ d=>by
 rw [h2 d,h1 d,h d,zch he];constructor
 ·rintro ((⟨f,hf,k⟩ | k) | k)
  ·exact ⟨f,List.mem_append_left _ hf,k⟩
  ·exact ⟨e,by simp,hd,.inl k⟩
  ·exact ⟨e,by simp,hd,.inr k⟩
 ·rintro ⟨f,hf,k1,k2⟩
  rcases List.mem_append.1 hf with hf | hf
  ·exact .inl (.inl ⟨f,hf,k1,k2⟩)
  ·rw [List.mem_singleton.1 hf] at k2
   rcases k2 with k2 | k2
   ·exact .inl (.inr k2)
   ·exact .inr k2
def z8a (w:World) (n a b most:Nat) (R:List Stp) (e:Ending) (w':World):Prop:=
 ∃(k:Nat) (PR:List (Int × Int)),e= .returned (.tuple #[.int .i64 (min (most:Int) (((R.filter (zba a b)).length:Int)+(k:Int))),.int .i64 0])/\zd7 a b R R.length PR/\Val (zfn n a b PR) a ((n+b:Nat):Int) most k/\Below w.heap.size w w'
end Go.Proofs.YtebcjaenhiiflaaGreatDoor.S
