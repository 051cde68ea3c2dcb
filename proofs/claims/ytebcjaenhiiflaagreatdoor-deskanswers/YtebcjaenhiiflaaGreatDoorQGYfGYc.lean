import Derived.Test.YtebcjaenhiiflaaGreatDoorQGBGYe
import Derived.Test.YtebcjaenhiiflaaGreatDoorQGAs
set_option maxHeartbeats 4000000
set_option maxRecDepth 100000
namespace Go.Proofs.Y.G
open Go.RowKit Go.Extern.Stop Go.Stop Go.Extern Go.Proofs.Tryz
def Gl (w:World):Prop:=w.cell? ⟨0,0,none⟩=some (.iface 248 (.agg #[.pointer (9,28)]))
theorem Gl.below {w w':World}(h:Gl w)(hb:Below w w w'):Gl w':=
 (hb.cell (p:=⟨0,0,none⟩) (lt_of_cell h)).trans h
theorem Ub (w:World)(o1 o2 o3 o4:Obj):Below w w ((((w.alloc o1).alloc o2).alloc o3).alloc o4):=
 (((b_).alloc (by simp) _).alloc (by simp;omega) _).alloc (by simp;omega) _
theorem zlj (w:World)(t:Nat)(h:w<=t)(o1 o2 o3 o4 o5:Obj)(v:Value):Below w w ((((((w.alloc o1).alloc o2).alloc o3).alloc o4).alloc o5).setCell t v):=
 ((Ub w o1 o2 o3 o4).alloc (by simp;omega) _).setCell h _
theorem zeq (n:Int)(w:World)(hg:Gl w):Calls prog 104 #[.iface 23 n] w λ e w'=>e=n/\Below w w w':=by
 have AX:Gl (w.alloc (.cells #[(0:Int)] 23)):=hg.below (b_);have HG:=kd AX;clear hg AX;go_enter func104,ntmps104;go_wp2_with fail;refine(ztw n w (0:Int) _ (by exact HG.o) (by simp) (by simp)).mono ?_;rintro e w' ⟨rfl,hw⟩;have hb:Below w w w':=by rw[hw];exact zlj w _ (aF _) _ _ _ _ _ _
 have hc:w'.cell? w=n:=by
  rw[hw];refine fV _ _ _ (u:=.int .i64 0) ?_;have h1:(w.alloc (.cells #[(0:Int)] 23)).cell? w=(0:Int):=by simp
  refine(Below.cell (p:=w) (Ub (w.alloc (.cells #[(0:Int)] 23)) _ _ _ _) (by simp)).trans h1
 have HB:=kd hb;clear hw hb HG;go_wp2;go_ret;exact⟨rfl,HB.o⟩
def Ef (c:Int):Value:=if c=0 then .nilIface else .iface 23 c
open Go.RowKit
variable {P:Program}
theorem Og:∀(L:List E) (id:Int),place L id<=L.length
 |[],_=>aF _
 |x::L,id=>by
  have:=Og L id;unfold place;split
  ·simp;omega
  ·simp
theorem Tk:∀(L:List E) (id:Int) (t:Nat),t<place L id->∀x,L[t]? =some x->x.1<id
 |[],_,t,h=>by simp[place] at h
 |y::L,id,t,h=>by
  intro x hx;unfold place at h;split at h
  ·next hy=>
   rcases t with _|t
   ·simp at hx;subst hx;exact hy
   ·exact Tk L id t (by omega) x (by simpa using hx)
  ·omega
theorem Sv:∀(L:List E) (id:Int),Up L->∀t,place L id<=t->∀x,L[t]? =some x->id<=x.1
 |[],_,_,t,_=>by simp
 |y::L,id,hu,t,h=>by
  intro x hx;unfold place at h;rcases t with _|t
  ·simp at hx;subst hx
   split at h
   ·omega
   ·omega
  ·have hx':L[t]? =some x:=by simpa using hx
   split at h
   ·exact Sv L id (List.Pairwise.of_cons hu) t (by omega) x hx'
   ·have h1:=jR hu (aG hx')
    have h1':y.1<x.1:=h1;omega
def seen:List E->Int->Option E
 |[],_=>none
 |x::L,id=>if (seen L id).isSome then seen L id else if x.1=id then some x else none
theorem seen_none {L:List E}{id:Int}(h:∀x∈L,x.1≠id):seen L id=none:=by
 induction L with
 |nil=>rfl
 |cons y L ih=>
  have h1:=ih (λ x hx=>h x (bS _ hx));simp[seen,h1,h y List.mem_cons_self]
theorem Qq {L:List E}{id:Int}{x:E}(hu:Up L)(hx:x∈L)(h:x.1=id):seen L id=some x:=by
 induction L with
 |nil=>simp at hx
 |cons y L ih=>
  rcases cO.1 hx with rfl|hx'
  ·have:seen L id=none:=seen_none (λ z hz=>by
    have h1:x.1<z.1:=jR hu hz;omega)
   simp[seen,this,h]
  ·simp[seen,ih (List.Pairwise.of_cons hu) hx']
theorem Xv {L:List E}(hu:Up L)(id:Int):(∃x,L[place L id]? =some x/\x.1=id/\seen L id=some x)\/((∀x∈L,x.1≠id)/\(∀x,L[place L id]? =some x->x.1≠id)/\seen L id=none):=by
 by_cases h:∃x,L[place L id]? =some x/\x.1=id
 ·obtain⟨x,h1,h2⟩:=h
  exact Or.inl ⟨x,h1,h2,Qq hu (aG h1) h2⟩
 ·have y7:∀x∈L,x.1≠id:=by
   intro x hx e;obtain⟨t,ht,hxt⟩:=dD.1 hx;have hxt':L[t]? =some x:=by rw[aB ht,hxt]
   rcases eP t (place L id) with h1|h1|h1
   ·have:=Tk L id t h1 x hxt'
    omega
   ·rw[h1] at hxt'
    exact h ⟨x,hxt',e⟩
   ·have j6:place L id<L.length:=by omega
    have hy:L[place L id]? =some L[place L id]:=aB j6;have h2:=Sv L id hu (place L id) (aF _) _ hy;have h3:L[place L id].1<L[t].1:=dM.1 hu _ _ j6 ht h1;rw[hxt] at h3;omega
  exact Or.inr ⟨y7,λ x hx e=>h ⟨x,hx,e⟩,seen_none y7⟩
theorem M9 (L:List E)(k:Nat):(Af L).take (k*3)=Af (L.take k):=by
 induction L generalizing k with
 |nil=>simp[Af]
 |cons x L ih=>
  rcases k with _|k
  ·simp[Af]
  ·rw[Dr,List.take_succ_cons,Dr,<-ih]
   show(Au x++Af L).take ((k+1)*3)=_;rw[show(k+1)*3=(Au x).length+k*3 by simp[Au];omega,List.take_length_add_append]
theorem Kept.Mf {p:Nat}{o:Option Nat}{w w':World}(h:w.grownBy w' o):Kept p o w w':=⟨h.os,h.tape,h.output,h.size,λ k hk _ hn=>h.block k hk hn⟩
theorem Ih (w:World)(dT sT ty elem:TypeId)(size g off dLen dCap:Nat)(ad:Addr)(sLen sCap:Nat)(cur:List Value)(t:TypeId)(cs:List Value)
 (hu:P.underlying dT=some (.slice elem)) (BS:(P.info? elem).map (·.size)=some size) (hg:w.heap[g]? =some (.cells cur.toArray t (0,0))) (hn:cs.length=Nat.min sLen dLen*size)
 (hsrc:∀j v,cs[j]? =some v->w.cell? (ad.add j)=some v) (UB:off+cs.length<=cur.length) (h1:∀v∈cs,v.oneCell'=true):
 (Builtin.copy_ #[dT,sT] ty #[.slice (g,off) dLen dCap,.slice (some ad) sLen sCap]).run P w= .ok (goInt (Nat.min sLen dLen)) (w.setRow g (splice cur off cs).toArray):=by
 have hl:=run_loadCells_list (P:=P) w ad cs hsrc;have CU:=jM P g off t cs 0 cur.toArray w hg (by simpa using UB) h1;simp only[jU] at CU;cases hq:P.info? elem with
 |none=>simp[hq] at BS
 |some i=>
  have hi:i.size=size:=by simpa[hq] using BS
  subst hi;simp[Builtin.copy_,run_underlying hu,Builtin.lenOf,Builtin.firstCells,sizeOf,typeInfo,hq,<-hn,hl,CU,splice]
theorem Oh {α:Type}(A B C D:List α)(k:Nat)(hk:k=A.length)(h:D.length=B.length):splice (A++(B++C)) k D=A++(D++C):=by
 subst hk;unfold splice;rw[List.take_left,h,List.drop_append,<-dW];simp
theorem Dp (x:E):(Au x).length=3:=rfl
def shifted (cur:List Value)(L:List E)(i:Nat):List Value:=splice cur ((i+1)*3) (Af (L.drop i))
theorem zem {cur:List Value}{L:List E}{i:Nat}(x:E)(hi:i<=L.length)(h:cur.take (L.length*3)=Af L)(FB:(L.length+1)*3<=cur.length):
 splice (shifted cur L i) (i*3) (Au x)=Af (L.take i++x::L.drop i)++cur.drop ((L.length+1)*3):=by
 have j6:(Af (L.take i)).length=i*3:=by rw[Ae];simp;omega
 have ZI:(Af (L.drop i)).length=(L.length-i)*3:=by rw[Ae];simp
 have h1:shifted cur L i=Af (L.take i)++((cur.drop (i*3)).take 3++(Af (L.drop i)++cur.drop ((L.length+1)*3))):=by
  unfold shifted splice;have e1:cur.take ((i+1)*3)=Af (L.take i)++(cur.drop (i*3)).take 3:=by
   rw[show(i+1)*3=i*3+3 by omega,List.take_add,<-M9,<-h,jH]
   congr 2
   omega
  rw[e1,ZI,show(i+1)*3+(L.length-i)*3=(L.length+1)*3 by omega,dW]
 rw[h1,Oh _ _ _ _ _ j6.symm (by rw[Dp];simp;omega)];rw[Gj,Dr];simp
theorem Jn {cur:List Value}{L:List E}{i:Nat}(hi:i<=L.length)(FB:(L.length+1)*3<=cur.length):(shifted cur L i).length=cur.length:=by
 unfold shifted;refine length_splice _ _ _ ?_;rw[Ae];simp;omega
theorem zmy {L:List E}{i:Nat}(x:E)(Z Y:List Value)(hi:i<=L.length)(hZ:Z.length=(L.length+1-i)*3):
 splice (splice (Af (L.take i)++(Z++Y)) (i*3) (Au x)) ((i+1)*3) (Af (L.drop i))=Af (L.take i++x::L.drop i)++Y:=by
 have j6:(Af (L.take i)).length=i*3:=by rw[Ae];simp;omega
 have ZI:(Af (L.drop i)).length=(L.length-i)*3:=by rw[Ae];simp
 have e1:Af (L.take i)++(Z++Y)=Af (L.take i)++(Z.take 3++(Z.drop 3++Y)):=by rw[<-dW (Z.take 3),fP]
 rw[e1,Oh _ _ _ _ _ j6.symm (by rw[Dp];simp;omega),<-dW,Oh _ _ _ _ _ (by simp[j6,Dp];omega) (by rw[ZI];simp;omega)];rw[Gj,Dr];simp
end Go.Proofs.Y.G
namespace Go.Proofs.Y.G
open Go.RowKit Go.Proofs.Tryz
def En (x y:Int):Int:=if x<y then-1 else if y<x then 1 else 0
theorem zo (x y:Int)(w:World):Calls prog 227 #[x,y] w λ e w'=>e=(En x y:Int)/\w'=w:=by
 have H:Hid (x<y\/¬x<y):=iI _;rcases Int.lt_trichotomy x y with h|h|h
 ·have HC:Hid (En x y= -1):=by show En x y= -1;simp[En,h]
  go_enter func227,ntmps227;go_wp2;go_ret;exact⟨by rw[HC.o];rfl,rfl⟩
 ·subst h
  have HC:Hid (En x x=0):=by show En x x=0;simp[En]
  go_enter func227,ntmps227;go_wp2;go_ret;exact⟨by rw[HC.o];rfl,rfl⟩
 ·have h1:¬x<y:=by omega
  have HC:Hid (En x y=1):=by show En x y=1;simp[En,h,h1]
  go_enter func227,ntmps227;go_wp2;go_ret;exact⟨by rw[HC.o];rfl,rfl⟩
theorem zjs (id y:Int)(t n cap g p gb ib:Nat)(w:World)(ht:t<n)(hib:w.cell? ib=id)(hgb:w.cell? gb=some (.pointer p))
 (hp:w.cell? (p,1)=some (.slice g n cap)) (hy:w.cell? (g,t*3)=y):
 Calls prog 226 #[t,.pointer ib,.pointer gb] w λ e w'=>e=(En id y:Int)/\∃q,w'=w.drewN q:=by
 go_enter func226,ntmps226;go_wp2;go_quiet ((go_at_call 227;exact Calls.quiet_of_same (zo id y _)));go_wp2;go_ret;exact⟨rfl,nq,rfl⟩
theorem zlc {x y:Int}(h:y<x):En x y=1:=by
 have:¬x<y:=by omega
 simp[En,h,this]
theorem zf {x y:Int}(h:x<y):En x y= -1:=by simp[En,h]
theorem zb3 (x:Int):En x x=0:=by simp[En]
structure Reads (w:World) (id:Int) (n p gb ib:Nat) (Y:Nat->Int):Prop where
 hib:w.cell? ib=id
 hgb:w.cell? gb=some (.pointer p)
 hp:0<n->∃g cap,w.cell? (p,1)=some (.slice (some ⟨g,0,none⟩) n cap)/\∀t,t<n->w.cell? ⟨g,t*3,none⟩=(Y t:Int)
theorem O5 {w:World}{id:Int}{n p gb ib:Nat}{Y:Nat->Int}(h:Reads w id n p gb ib Y)(t:Nat)(ht:t<n)(c:Int)(hc:En id (Y t)=c)(q:Nat):
 Calls prog 226 #[t,.pointer ib,.pointer gb] (w.drewN q) λ e w'=>e=c/\∃q',w'=w.drewN q':=by
 obtain⟨g,cap,h1,h2⟩:=h.hp (by omega);have hD:∀j,(w.drewN q).drewN j=w.drewN (q+j):=λ j=>by
  unfold World.drewN;simp[Nat.add_assoc]
 refine(zjs id (Y t) t n cap g p gb ib (w.drewN q) ht h.hib h.hgb h1 (h2 t ht)).mono ?_;rintro e w' ⟨rfl,j,rfl⟩;exact⟨by rw[hc],q+j,hD j⟩
theorem zfw (id:Int)(n k p gb ib:Nat)(Y:Nat->Int)(ok:Bool)(w:World)(h:Reads w id n p gb ib Y)(hk:k<=n)(hn:n<=1000)(h1:∀t,t<k->Y t<id)(h2:∀t,k<=t->t<n->id<=Y t)(p8:ok=decide (k<n/\Y k=id)):
 Calls prog 225 #[n,.func (.func 226) #[] #[.pointer ib,.pointer gb]] w λ e w'=>e=Value.tuple #[k,ok]/\∃q,w'=w.drewN q:=by
 have HR:=kd h;have H1:=kd h1;have H2:=kd h2;have HO:=kd p8;clear h h1 h2 p8;go_enter func225,ntmps225;go_wp2_with fail;go_loopg [4,6,7] n (λ r s4 s6 _ wr=>∃lo hi:Nat,s4=lo/\s6=hi/\lo<=k/\k<=hi/\hi<=n/\hi-lo<=r/\∃q,wr=w.drewN q)
 case atStart=>exact⟨0,n,rfl,rfl,aN _,hk,aF _,by omega,0,rfl⟩
 case round=>
  obtain⟨lo,hi,rfl,rfl,IY,hkh,p9,hg,q,hwr⟩:=hrel;have HW:=kd hwr;clear hwr;by_cases j6:lo<hi
  ·have e1:((lo:Int)+(hi:Int))/2=(((lo+hi)/2:Nat):Int):=by omega
   obtain⟨m,hm⟩:∃m,m=(lo+hi)/2:=⟨_,rfl⟩;rw[<-hm] at e1;have IE:m<n:=by omega
   have DF:lo<=m:=by omega
   have EJ:m<hi:=by omega
   have E1:=kd e1;clear e1 hm;by_cases MR:m<k
   ·as_aux_lemma=>
    have hc:En id (Y m)=1:=zlc (H1.o m MR);have HC:Hid (∀q,Calls prog 226 #[m,.pointer ib,.pointer gb] (w.drewN q) λ e w'=>e=(1:Int)/\∃q',w'=w.drewN q'):=λ q=>O5 HR.o m IE 1 hc q
    clear hc;go_wp2_with fail;rw[E1.o,HW.o];refine(HC.o q).mono ?_;rintro e w' ⟨rfl,q',hw'⟩;have HW':=kd hw';clear hw';go_wp2_with fail;go_roundg (hi-(m+1));case measure=>omega
    case rel=>exact⟨m+1,hi,by go_num,rfl,by omega,hkh,p9,by omega,q',HW'.o⟩
   ·as_aux_lemma=>
    have hle:id<=Y m:=H2.o m (by omega) IE;obtain⟨c,hc,FZ⟩:∃c,En id (Y m)=c/\¬(0<c):=by
     refine⟨_,rfl,?_⟩;rcases Int.lt_or_eq_of_le hle with h|h
     ·rw[zf h];decide
     ·rw[<-h,zb3];decide
    have HC:Hid (∀q,Calls prog 226 #[m,.pointer ib,.pointer gb] (w.drewN q) λ e w'=>e=c/\∃q',w'=w.drewN q'):=λ q=>O5 HR.o m IE c hc q
    clear hc hle;go_wp2_with fail;rw[E1.o,HW.o];refine(HC.o q).mono ?_;rintro e w' ⟨rfl,q',hw'⟩;have HW':=kd hw';clear hw';go_wp2_with fail;go_roundg (m-lo);case measure=>omega
    case rel=>exact⟨lo,m,rfl,by go_num,IY,by omega,by omega,aF _,q',HW'.o⟩
  ·have ZJ:lo=k:=by omega
   subst ZJ;by_cases hkn:lo<n
   ·by_cases hy:Y lo=id
    ·as_aux_lemma=>
     have hc:En id (Y lo)=0:=by rw[hy,zb3]
     have HC:Hid (∀q,Calls prog 226 #[lo,.pointer ib,.pointer gb] (w.drewN q) λ e w'=>e=(0:Int)/\∃q',w'=w.drewN q'):=λ q=>O5 HR.o lo hkn 0 hc q
     have HO':Hid (ok=true):=by
      show ok=true;rw[HO.o];exact bI ⟨hkn,hy⟩
     clear hc hy HO;go_wp2_with fail;rw[HW.o];refine(HC.o q).mono ?_;rintro e w' ⟨rfl,q',hw'⟩;have HW':=kd hw';clear hw';go_wp2_with fail;go_ret2;exact⟨by rw[HO'.o];rfl,q',HW'.o⟩
    ·as_aux_lemma=>
     have hle:id<=Y lo:=H2.o lo (aF _) hkn;have hc:En id (Y lo)= -1:=zf (by omega);have HC:Hid (∀q,Calls prog 226 #[lo,.pointer ib,.pointer gb] (w.drewN q) λ e w'=>e=(-1:Int)/\∃q',w'=w.drewN q'):=λ q=>O5 HR.o lo hkn (-1) hc q
     have HO':Hid (ok=false):=by
      show ok=false;rw[HO.o];exact bM (λ h=>hy h.2)
     clear hc hy HO hle;go_wp2_with fail;rw[HW.o];refine(HC.o q).mono ?_;rintro e w' ⟨rfl,q',hw'⟩;have HW':=kd hw';clear hw';go_wp2_with fail;go_ret2;exact⟨by rw[HO'.o];rfl,q',HW'.o⟩
   ·as_aux_lemma=>
    have HO':Hid (ok=false):=by
     show ok=false;rw[HO.o];exact bM (λ h=>hkn h.1)
    clear HO;go_wp2_with fail;go_ret2;exact⟨by rw[HO'.o];rfl,q,HW.o⟩
def Rf (L:List E)(t:Nat):Int:=(L.getD t (0,0,0)).1
theorem I5 {L:List E}{t:Nat}(h:t<L.length):∃x,L[t]? =some x/\Rf L t=x.1:=by
 refine⟨L[t],aB h,?_⟩;simp[Rf,h]
theorem zrd {L:List E}(hu:Up L)(id:Int):(seen L id).isSome=decide (place L id<L.length/\Rf L (place L id)=id):=by
 rcases Xv hu id with⟨x,h1,h2,h3⟩|⟨_,h2,h3⟩
 ·have j6:=(aC.1 h1).1
  obtain⟨y,OB,WV⟩:=I5 j6;rw[h1] at OB;obtain rfl:=dG OB;rw[h3,bI ⟨j6,WV.trans h2⟩];rfl
 ·rw[h3]
  symm;refine bM ?_;rintro⟨j6,hk⟩;obtain⟨y,OB,WV⟩:=I5 j6;exact h2 y OB (WV.symm.trans hk)
theorem zmi {w:World}{B gT p:Nat}{n:Int}{v:Value}{L:List E}(h:GAt w B gT 61 p n v L)(id:Int)(o1 o2:Obj)(h1:o1= .cells #[.pointer p] 82)(h2:o2= .cells #[id] 3):
 Reads ((w.alloc o1).alloc o2) id L.length p w (w+1) (Rf L):=by
 subst h1 h2;have hb:Below w w ((w.alloc (.cells #[.pointer p] 82)).alloc (.cells #[id] 3)):=(b_).alloc (by simp) _;have h':=h.below hb;refine⟨?_,?_,λ h0=>?_⟩
 ·rw[World.cell?_alloc_at _ _ _ _ (by simp)];rfl
 ·rw[dA _ _ w (by simp),World.cell?_alloc_at _ _ _ _ rfl];rfl
 ·rcases h'.row.shape with⟨_,e⟩|⟨g,cap,e,_⟩
  ·rw[e] at h0;simp at h0
  ·refine⟨g,cap,h'.c1.trans (by rw[e]),λ t ht=>?_⟩
   obtain⟨x,MS,LM⟩:=I5 ht;rw[LM];exact(h'.row.at (by rw[e];rfl) MS).1
theorem Xk (w:World)(o1 o2:Obj)(q:Nat):Below w w (((w.alloc o1).alloc o2).drewN q):=
 ((b_).alloc (by simp) _).trans ⟨rfl,rfl,rfl,aF _,λ _ _=>rfl⟩
theorem L9 (id:Int)(B p k:Nat)(n:Int)(v:Value)(L:List E)(ok:Bool)(w:World)(h:GAt w B 168 61 p n v L)(hu:Up L)(hl:L.length<=1000)(hk:k=place L id)(p8:ok=(seen L id).isSome):
 Calls prog 114 #[.pointer p,id] w λ e w'=>e=Value.tuple #[k,ok]/\Below w w w':=by
 have HR:Hid (Reads ((w.alloc (.cells #[.pointer p] 82)).alloc (.cells #[id] 3)) id L.length p w (w+1) (Rf L)):=zmi h id _ _ rfl rfl;have HU:=kd hu;have HK:=kd (And.intro hk p8);obtain⟨m,hm⟩:∃m,m=L.length:=⟨_,rfl⟩;have HM:=kd hm;have hp:=h.c1;have hplt:=h.plt;obtain⟨a,cap,hv⟩:∃a cap,v= .slice a m cap:=by
  rcases h.row.shape with⟨e1,e2⟩|⟨g,cap,e,_⟩
  ·exact⟨none,0,by rw[e1,hm,e2];rfl⟩
  ·exact⟨_,cap,by rw[e,hm]⟩
 subst hv;clear h hu hk p8 hm;go_enter func114,ntmps114;go_wp2_with fail;refine(zfw id m k p w (w+1) (Rf L) ok _ (by rw[HM.o];exact HR.o) (by rw[HM.o,HK.o.1];exact Og L id) (by rw[HM.o];exact hl) (λ t ht=>?_) (λ t h1 h2=>?_) (by rw[HM.o,HK.o.1,HK.o.2];exact zrd HU.o id)).mono ?_
 ·have j6:t<L.length:=by have:=Og L id;rw[<-HK.o.1] at this;omega
  obtain⟨x,MS,LM⟩:=I5 j6;rw[LM];exact Tk L id t (by rw[<-HK.o.1];exact ht) x MS
 ·obtain⟨x,MS,LM⟩:=I5 (show t<L.length by rw[<-HM.o];exact h2)
  rw[LM];exact Sv L id HU.o t (by rw[<-HK.o.1];exact h1) x MS
 ·rintro e w' ⟨rfl,q,hw⟩
  have HB:Hid (Below w w w'):=by
   show Below w w w';rw[hw];exact Xk w _ _ q
  clear hw HR;go_wp2_with fail;go_ret2;exact⟨rfl,HB.o⟩
theorem zbc (x n:Int)(B p:Nat)(v:Value)(L:List E)(ok:Bool)(w:World)(h:GAt w B 168 61 p n v L)(p8:ok=decide (0<=x/\x<n)):
 Calls prog 116 #[.pointer p,x] w λ e w'=>e=ok/\w'=w:=by
 have hp:=h.c0;clear h;by_cases h0:0<=x
 ·by_cases h1:x<n
  ·have HO:Hid (ok=true):=by
    show ok=true;rw[p8];exact bI ⟨h0,h1⟩
   clear p8;go_enter func116,ntmps116;go_wp2;go_ret;exact⟨by rw[HO.o];rfl,rfl⟩
  ·have HO:Hid (ok=false):=by
    show ok=false;rw[p8];exact bM (λ h=>h1 h.2)
   clear p8;go_enter func116,ntmps116;go_wp2;go_ret;exact⟨by rw[HO.o];rfl,rfl⟩
 ·have HO:Hid (ok=false):=by
   show ok=false;rw[p8];exact bM (λ h=>h0 h.1)
  clear p8;go_enter func116,ntmps116;go_wp2;go_ret;exact⟨by rw[HO.o];rfl,rfl⟩
theorem Cg (n:Int)(B p:Nat)(v:Value)(L:List E)(w:World)(h:GAt w B 168 61 p n v L):
 Calls prog 52 #[.pointer p] w λ e w'=>e=n/\w'=w:=by
 have hp:=h.c0;clear h;go_enter func52,ntmps52;go_wp2;go_ret;exact⟨rfl,rfl⟩
theorem Kk (n:Int)(w:World)(h0:0<=n)(h1:n<=40):
 Calls prog 53 #[n] w λ e w'=>e=Value.tuple #[.pointer w,.nilIface]/\w'=w.alloc (.cells #[n,.slice none 0 0] 168):=by
 have g0:¬n<0:=by omega
 have g1:¬40<n:=by omega
 go_enter func53,ntmps53;go_wp2;go_ret2;exact⟨rfl,rfl⟩
theorem au (b o n:Nat):(⟨b,o,none⟩:Addr).add n=⟨b,o+n,none⟩:=by
 unfold Addr.add;split
 ·next h=>rw[h];rfl
 ·rfl
theorem zei (B i vb:Nat)(v:Value)(L:List E)(x:E)(w:World)(h:Ad w B 61 v L)(hB:B<=w)(hx:w.heap[vb]? =some (.cells (Au x).toArray 61))(hi:i=L.length)(hl:L.length<=1000):
 Calls prog 117 #[v,i,.slice vb 1 1] w λ e w'=>∃v',e= .returned v'/\Ad w' B 61 v' (L++[x])/\w.grownBy w' v.ownBlock/\Dm w v v':=by
 obtain⟨v',w',hr,h2,h3,h4⟩:=Pf 33 w B v L [x] h hB vb 1 1 rfl (cells_of_block hx) (by simp;omega);have HF:Hid (Ad w' B 61 v' (L++[x])/\w.grownBy w' v.ownBlock/\Dm w v v'):=⟨h2,h3,h4⟩;clear h2 h3 h4 hx;rcases h.shape with⟨rfl,hL⟩|⟨g,cap,rfl,h1,h2,h3,h4⟩
 ·subst hL
  have GJ:i=0:=hi;subst GJ;have HR:=kd hr;clear h hr hi hl;go_enter func117,ntmps117;go_wp2_with (at_builtin;refine Lib.wpList_append_run _ rfl _ _ _ _ rfl _ _ rfl rfl _ _ HR.o ?_);go_ret;exact⟨v',rfl,HF.o⟩
 ·rw[<-hi] at hr h3 HF
  have h4':cap<=9223372036854775807:=by simp only[maxLen] at h4;omega
  have HF':=kd HF;have HR:=kd hr;clear h h4 HF hr;rw[<-hi];clear hi;go_enter func117,ntmps117;go_wp2_with (at_builtin;refine Lib.wpList_append_run _ rfl _ _ _ _ rfl _ _ rfl rfl _ _ HR.o ?_);all_goals
   go_ret;exact⟨v',rfl,HF'.o⟩
theorem zsm (w:World):(Go.sizeOf 61).run prog w= .ok 3 w:=by kernel_rfl
theorem Ry:(prog.info? 61).map (·.size)=some 3:=by kernel_rfl
theorem zdr (w:World)(vb g o lb cb:Nat)(x:E)(cur:Array Value)(l9:vb≠g)(hx:w.heap[vb]? =some (.cells (Au x).toArray 61))(hg:w.heap[g]? =some (.cells cur 61 (0,0)))(hc:cur.size≠0):
 (callFunc 228 #[.slice vb 1 1,.slice (g,o) lb cb]).run prog w= .ok (.value (.bool false)) w:=by
 rw[run_callFunc_extern func228 (by kernel_rfl) (by kernel_rfl) (by kernel_rfl) (e:=Extern.SlicesOverlaps.overlaps #[33,33] #[4]) (by kernel_rfl),
  Lib.run_overlaps_apart w 33 4 61 underlying33 3 zsm vb (g,o) 1 1 lb cb l9 61 61 3 cur.size (by simp[World.shape?,hx,Au]) (by simp[World.shape?,hg]) hc (by simp[World.frozen?,hx]) (by simp[World.frozen?,hx])]
 rfl
theorem K8 {w:World}{B g:Nat}{v:Value}{L:List E}(h:Ad w B 61 v L)(hv:v.ownBlock=some g)(i:Nat):∀j u,(Af (L.drop i))[j]? =some u->w.cell? ((⟨g,i*3,none⟩:Addr).add j)=some u:=by
 intro j u hu;rw[au];rw[<-Zg,fA] at hu;have:=bQ h hv (i*3+j) u hu
 rwa[Bh] at this
theorem zix {w W:World}(h:W.heap=w.heap)(a:Addr):W.cell? a=w.cell? a:=by simp[World.cell?,h]
theorem zdt {w W:World}{B g cap i:Nat}{L:List E}{cur:Array Value}(x:E)(hs:W.heap=w.heap)(ho:W.os=w.os)(ht:W.tape=w.tape)(hp:W.output=w.output)
 (hg:w.heap[g]? =some (.cells cur 61 (0,0))) (hB:B<=g) (hi:i<=L.length) (PY:cur.toList.take (L.length*3)=Af L) (BS:cur.size=cap*3) (hc:L.length+1<=cap) (hm:cap<=maxLen) (A:Array Value) (W':World) (hW':W'=(W.setRow g A).setRow g (splice (shifted cur.toList L i) (i*3) (Au x)).toArray):
 Ad W' B 61 (.slice g (L.length+1) cap) (L.take i++x::L.drop i)/\w.grownBy W' (some g)/\Dm w (.slice g L.length cap) (.slice g (L.length+1) cap):=by
 subst hW';have hlen:(L.take i++x::L.drop i).length=L.length+1:=by simp;omega
 have hg':W.heap[g]? =some (.cells cur 61 (0,0)):=by rw[hs];exact hg
 rw[kQ];refine⟨⟨Ae _,Or.inr ⟨g,cap,_,by rw[hlen],hB,gZ W g cur _ 61 (0,0) hg',by rw[hlen];exact hc,hm,?_,?_⟩⟩,⟨ho,ht,hp,by simp[hs],λ k hk hn=>?_⟩,λ k hk=>Or.inl hk⟩
 ·rw[bZ,length_splice _ _ _ (by rw[Jn hi (by simp;omega),Dp];simp;omega),Jn hi (by simp;omega)]
  simpa using BS
 ·show(splice _ _ _).take _=_
  rw[zem x hi PY (by simp;omega),List.take_left' (Ae _)]
 ·rw[iC W g k _ (λ e=>hn (by rw[e])),hs]
theorem jw (B i vb g cap:Nat)(L:List E)(x:E)(w:World)(h:Ad w B 61 (.slice g L.length cap) L)(hx:w.heap[vb]? =some (.cells (Au x).toArray 61))(l9:vb≠g)(hi:i<L.length)(hl:L.length<=1000)(hc:L.length+1<=cap):
 Calls prog 117 #[.slice g L.length cap,i,.slice vb 1 1] w λ e w'=>∃v',e= .returned v'/\Ad w' B 61 v' (L.take i++x::L.drop i)/\w.grownBy w' (some g)/\Dm w (.slice g L.length cap) v':=by
 rcases h.2 with⟨hv,_⟩|⟨g',cap',cur,hv,hBg,hg,_,hm,BS,PY⟩
 ·simp at hv
 obtain⟨XK,_,ZH⟩:some (⟨g,0,none⟩:Addr)=some ⟨g',0,none⟩/\L.length=L.length/\cap=cap':=by
  injection hv with a b c
  exact⟨a,b,c⟩
 obtain rfl:g=g':=by simpa using XK
 subst ZH;have hov:=λ(W:World) (hW:W.heap=w.heap) lb cb=>zdr W vb g ((i+1)*3) lb cb x cur l9 (by rw[hW];exact hx) (by rw[hW];exact hg) (by omega)
 have hcp1:∀(W:World),W.heap=w.heap->∀ty dc sc,(Builtin.copy_ #[33,33] ty #[.slice (g,(i+1)*3) (L.length-i) dc,.slice (g,i*3) (L.length+1-i) sc]).run prog W= .ok (goInt (Nat.min (L.length+1-i) (L.length-i))) (W.setRow g (shifted cur.toList L i).toArray):=λ W hW ty dc sc=>
  Ih W 33 33 ty 61 3 g ((i+1)*3) (L.length-i) dc (g,i*3) (L.length+1-i) sc cur.toList 61 (Af (L.drop i)) underlying33 Ry (by rw[hW,iD];exact hg) (by rw[Ae,dJ,jI,gQ (by omega)]) (λ j u hu=>by rw[zix hW];exact K8 h rfl i j u hu)
   (by rw[Ae];simp;omega) (Fa _)
 have hcp2:∀(W:World),W.heap[g]? =some (.cells (shifted cur.toList L i).toArray 61 (0,0))->W.heap[vb]? =some (.cells (Au x).toArray 61)->∀ty dc,(Builtin.copy_ #[33,33] ty #[.slice (g,i*3) (L.length+1-i) dc,.slice vb 1 1]).run prog W= .ok (goInt (Nat.min 1 (L.length+1-i))) (W.setRow g (splice (shifted cur.toList L i) (i*3) (Au x)).toArray):=λ W hW hV ty dc=>
  Ih W 33 33 ty 61 3 g (i*3) (L.length+1-i) dc vb 1 1 (shifted cur.toList L i) 61 (Au x) underlying33 Ry hW (by rw[Dp,jI,gJ (by omega)]) (λ j u hu=>cells_of_block hV j u (by simpa[Af] using hu))
   (by rw[Jn (by omega) (by simp;omega),Dp];simp;omega) (λ u hu=>Fa [x] u (by simpa[Af] using hu))
 have HV:=kd hx;have HG:=kd hg;have HD:Hid (∀(W W':World) (A:Array Value),W.heap=w.heap->W.os=w.os->W.tape=w.tape->W.output=w.output->W'=(W.setRow g A).setRow g (splice (shifted cur.toList L i) (i*3) (Au x)).toArray->Ad W' B 61 (.slice g (L.length+1) cap) (L.take i++x::L.drop i)/\w.grownBy W' (some g)/\Dm w (.slice g L.length cap) (.slice g (L.length+1) cap)):=
  λ W W' A e1 e2 e3 e4 e5=>zdt x e1 e2 e3 e4 hg hBg (by omega) PY BS hc hm A W' e5
 have GI:cap<=9223372036854775807:=by simp only[maxLen] at hm;omega
 clear h hv XK hBg hg PY BS hm hx;have IC:Hid (∀(W:World),W.heap=w.heap->(W.setRow g (shifted cur.toList L i).toArray).heap[g]? =some (.cells (shifted cur.toList L i).toArray 61 (0,0))):=λ W hW=>gZ W g cur _ 61 (0,0) (by rw[hW];exact HG.o)
 have LP:Hid (∀(W:World),W.heap=w.heap->(W.setRow g (shifted cur.toList L i).toArray).heap[vb]? =some (.cells (Au x).toArray 61)):=λ W hW=>by rw[iC W g vb _ l9,hW];exact HV.o
 have HO:=kd hov;have RL:Hid _:=hcp1;have KY:Hid _:=hcp2;clear hov hcp1 hcp2;generalize (shifted cur.toList L i)=S1 at*;generalize (splice S1 (i*3) (Au x))=S2 at*;generalize hnn:L.length=n at*;have BM:¬((i:Int)=(n:Int)):=by omega
 have p9:i<=n:=by omega
 have j5:¬(cap=i+1):=by omega
 have BB:¬(cap=i):=by omega
 have y8:(i:Int)<=(n:Int)+1:=by omega
 have AR:IntKind.i64.wrap ((i:Int)+1)=(i:Int)+1:=by rw[bO];omega
 have j4:(0:Int)<=(i:Int)+1:=by omega
 have KZ:((i:Int)+1).toNat=i+1:=by omega
 have CV:n+1-(i+1)=n-i:=by omega
 clear hnn;go_enter func117,ntmps117;go_wp2_with (rw[HO.o _ rfl]);have BV:∀ty dc sc,(Builtin.copy_ #[33,33] ty #[.slice (g,(i+1)*3) (n-i) dc,.slice (g,i*3) (n+1-i) sc]).run prog w.drew= .ok (goInt (Nat.min (n+1-i) (n-i))) (w.drew.setRow g S1.toArray):=λ ty dc sc=>RL.o w.drew rfl ty dc sc
 generalize AJ:w.drew.setRow g S1.toArray=W1 at BV;go_region
 have IG:Hid (W1.heap[g]? =some (.cells S1.toArray 61 (0,0))/\W1.heap[vb]? =some (.cells (Au x).toArray 61)):=by rw[<-AJ];exact⟨IC.o _ rfl,LP.o _ rfl⟩
 have BQ:=kd AJ;clear BV AJ;have IZ:∀ty dc,(Builtin.copy_ #[33,33] ty #[.slice (g,i*3) (n+1-i) dc,.slice vb 1 1]).run prog W1= .ok (goInt (Nat.min 1 (n+1-i))) (W1.setRow g S2.toArray):=λ ty dc=>KY.o W1 IG.o.1 IG.o.2 ty dc
 generalize DI:W1.setRow g S2.toArray=W2 at IZ;have EE:=kd DI;clear DI;go_wp2;go_ret;exact⟨_,rfl,HD.o w.drew _ _ rfl rfl rfl rfl (by rw[BQ.o,EE.o])⟩
theorem He (n:Nat):(Builtin.zeroCells zE.cells n).toList.length=n*3:=by
 rw[Me];simp[Builtin.zeroCells]
theorem zm (B i vb g cap:Nat)(L:List E)(x:E)(w:World)(h:Ad w B 61 (.slice g L.length cap) L)(hB:B<=w)(hx:w.heap[vb]? =some (.cells (Au x).toArray 61))(hi:i<L.length)(hl:L.length<=1000)(hnc:L.length<=cap)(hc:cap<L.length+1):
 Calls prog 117 #[.slice g L.length cap,i,.slice vb 1 1] w λ e w'=>∃v',e= .returned v'/\Ad w' B 61 v' (L.take i++x::L.drop i)/\w.grownBy w' (some g)/\Dm w (.slice g L.length cap) v':=by
 obtain⟨inf,XN,hs,hb,hz⟩:=Va;have hglt:g<w:=(aU h g rfl).2;have hvlt:vb<w:=lt_of_some hx;obtain⟨N,hN⟩:∃N,N=w.heap.size:=⟨_,rfl⟩;obtain⟨G,hG⟩:∃G,G=grownCap w (L.length+1) cap 61:=⟨_,rfl⟩;have hGn:L.length+1<=G:=by rw[hG];exact grownCap_ge w _ _ _
 have hGm:G<=maxLen:=by rw[hG];exact grownCap_le_maxLen w _ cap 61 (by simp only[maxLen];omega)
 obtain⟨Z,hZ⟩:∃Z,Z=(Builtin.zeroCells zE.cells (L.length+1-i)).toList:=⟨_,rfl⟩;obtain⟨Y,hY⟩:∃Y,Y=(Builtin.zeroCells zE.cells (G-(L.length+1))).toList:=⟨_,rfl⟩;have hZl:Z.length=(L.length+1-i)*3:=by rw[hZ,He]
 have hYl:Y.length=(G-(L.length+1))*3:=by rw[hY,He]
 have hti:(Af (L.take i)).length=i*3:=by rw[Ae];simp;omega
 have hold:(Builtin.firstCells inf.size i (.slice g i cap)).run prog w.drew= .ok (Af (L.take i)).toArray w.drew:=by
  rw[hs];refine run_firstCells_some w.drew 3 i g i cap (Af (L.take i)) hti (λ j v hj=>?_);refine bQ h rfl j v ?_;rw[<-M9,dY] at hj;split at hj
  ·exact hj
  ·cases hj
 have hrz:∀ty,(Builtin.append_ #[33,3] ty #[.slice g i cap,((L.length:Int)+1-(i:Int):Int)]).run prog w=
  .ok (.slice N (L.length+1) G) (w.drew.alloc (.cells (Af (L.take i)++(Z++Y)).toArray 61)):=λ ty=>by
  have LQ:i+(L.length+1-i)=L.length+1:=by omega
  have e:=Lib.run_append_grow_zeros w 33 3 ty 61 inf zE .i64 .i64 underlying33 underlying3 XN hz (some ⟨g,0,none⟩) i cap (Af (L.take i)) hold (L.length+1-i) (by omega) (by rw[hs];omega) (by omega) (by omega) (by rw[hb];omega) (by rw[hb,LQ];exact jG (by omega) (by omega));rw[LQ,<-hG] at e;rw[show(L.length:Int)+1-(i:Int)=((L.length+1-i:Nat):Int) by omega,e,hN]
  congr 3
  apply Array.ext';rw[hZ,hY];simp
 obtain⟨W1,AJ⟩:∃W1,W1=w.drew.alloc (.cells (Af (L.take i)++(Z++Y)).toArray 61):=⟨_,rfl⟩;rw[<-AJ] at hrz;have g1:W1.heap[N]? =some (.cells (Af (L.take i)++(Z++Y)).toArray 61 (0,0)):=by rw[AJ,hN];exact aQ w.drew _
 have o1:∀k,k<N->W1.heap[k]? =w.heap[k]? :=λ k hk=>by rw[AJ];exact heap_alloc_old w.drew _ (show k<w.drew.heap.size by rw[hN] at hk;exact hk)
 obtain⟨S1,CO⟩:∃S1,S1=splice (Af (L.take i)++(Z++Y)) (i*3) (Au x):=⟨_,rfl⟩;have l1:S1.length=G*3:=by rw[CO,length_splice _ _ _ (by rw[Dp];simp[hti,hZl];omega)];simp[hti,hZl,hYl];omega
 have BV:∀ty dc,(Builtin.copy_ #[33,33] ty #[.slice (N,i*3) (L.length+1-i) dc,.slice vb 1 1]).run prog W1= .ok (goInt (Nat.min 1 (L.length+1-i))) (W1.setRow N S1.toArray):=λ ty dc=>by
  rw[CO];exact Ih W1 33 33 ty 61 3 N (i*3) (L.length+1-i) dc vb 1 1 _ 61 (Au x) underlying33 Ry g1 (by rw[Dp,jI,gJ (by omega)]) (λ j u hu=>cells_of_block (by rw[o1 vb (by omega)];exact hx) j u (by simpa[Af] using hu))
   (by rw[Dp];simp[hti,hZl];omega) (λ u hu=>Fa [x] u (by simpa[Af] using hu))
 obtain⟨W2,DI⟩:∃W2,W2=W1.setRow N S1.toArray:=⟨_,rfl⟩;rw[<-DI] at BV;have g2:W2.heap[N]? =some (.cells S1.toArray 61 (0,0)):=by rw[DI];exact gZ W1 N _ _ 61 (0,0) g1
 have o2:∀k,k<N->W2.heap[k]? =w.heap[k]? :=λ k hk=>by rw[DI,iC W1 N k _ (by omega)];exact o1 k hk
 have IZ:∀ty dc sc,(Builtin.copy_ #[33,33] ty #[.slice (N,(i+1)*3) (L.length-i) dc,.slice (g,i*3) (L.length-i) sc]).run prog W2.drew= .ok (goInt (Nat.min (L.length-i) (L.length-i))) (W2.drew.setRow N (splice S1 ((i+1)*3) (Af (L.drop i))).toArray):=λ ty dc sc=>
  Ih W2.drew 33 33 ty 61 3 N ((i+1)*3) (L.length-i) dc (g,i*3) (L.length-i) sc S1 61 (Af (L.drop i)) underlying33 Ry g2 (by rw[Ae,dJ,jI,kY]) (λ j u hu=>by
      have:=K8 h rfl i j u hu;rw[au] at this ⊢;rw[fD (show W2.drew.heap[(⟨g,i*3+j,none⟩:Addr).block]? =w.heap[(⟨g,i*3+j,none⟩:Addr).block]? from o2 g (by omega))];exact this)
   (by rw[Ae,l1];simp;omega) (Fa _)
 obtain⟨W3,FI⟩:∃W3,W3=W2.drew.setRow N (splice S1 ((i+1)*3) (Af (L.drop i))).toArray:=⟨_,rfl⟩;rw[<-FI] at IZ;have HD:Hid (Ad W3 B 61 (.slice N (L.length+1) G) (L.take i++x::L.drop i)/\w.grownBy W3 (some g)/\Dm w (.slice g L.length cap) (.slice N (L.length+1) G)):=by
  have hlen:(L.take i++x::L.drop i).length=L.length+1:=by simp;omega
  have g3:W3.heap[N]? =some (.cells (splice S1 ((i+1)*3) (Af (L.drop i))).toArray 61 (0,0)):=by rw[FI];exact gZ W2.drew N _ _ 61 (0,0) g2
  refine⟨⟨Ae _,Or.inr ⟨N,G,_,by rw[hlen],by omega,g3,by rw[hlen];exact hGn,hGm,?_,?_⟩⟩,⟨by rw[FI,DI,AJ];rfl,by rw[FI,DI,AJ];rfl,by rw[FI,DI,AJ];rfl,by rw[FI,DI,AJ];simp,λ k hk _=>?_⟩,λ k hk=>?_⟩
  ·rw[bZ,length_splice _ _ _ (by rw[Ae,l1];simp;omega),l1]
  ·show(splice _ _ _).take _=_
   rw[CO,zmy x Z Y (by omega) hZl,List.take_left' (Ae _)]
  ·rw[FI,iC _ N k _ (by omega)]
   exact o2 k (by omega)
  ·have hk':N=k:=by simpa[Value.ownBlock] using hk
   exact Or.inr (by omega)
 have hG63:G<=9223372036854775807:=by simp only[maxLen] at hGm;omega
 clear h hx hold AJ DI FI hG hGm hZ hY hZl hYl hti g1 o1 g2 o2 CO l1 XN hs hb hz hglt hvlt hN;generalize hnn:L.length=n at*;have BM:¬((i:Int)=(n:Int)):=by omega
 have p9:i<=n:=by omega
 have hGi:¬(G=i):=by omega
 have hGim:¬(G=i+1):=by omega
 have hci:¬(cap=i):=by omega
 have y8:(i:Int)<=(n:Int):=by omega
 have FJ:(i:Int)<=(n:Int)+1:=by omega
 have hz3:(cap:Int)<(n:Int)+1:=by omega
 have AR:IntKind.i64.wrap ((i:Int)+1)=(i:Int)+1:=by rw[bO];omega
 have j4:(0:Int)<=(i:Int)+1:=by omega
 have KZ:((i:Int)+1).toNat=i+1:=by omega
 have CV:n+1-(i+1)=n-i:=by omega
 clear hnn hB;go_enter func117,ntmps117;go_wp2_with (at_builtin;refine Lib.wpList_append_run _ rfl _ _ _ _ rfl _ _ rfl rfl _ _ (hrz _) ?_);all_goals clear hrz
 go_region
 go_wp2;go_ret;exact⟨_,rfl,HD.o⟩
theorem ze6 (B i vb:Nat)(v:Value)(L M:List E)(x:E)(w:World)(h:Ad w B 61 v L)(hB:B<=w)(hx:w.heap[vb]? =some (.cells (Au x).toArray 61))(l9:v.ownBlock≠some vb)(hi:i<=L.length)(hl:L.length<=1000)(hM:M=L.take i++x::L.drop i):
 Calls prog 117 #[v,i,.slice vb 1 1] w λ e w'=>∃v',e= .returned v'/\Ad w' B 61 v' M/\w.grownBy w' v.ownBlock/\Dm w v v':=by
 subst hM;rcases Nat.lt_or_eq_of_le hi with j6|he
 ·rcases h.shape with⟨_,hL⟩|⟨g,cap,rfl,h1,h2,h3,h4⟩
  ·rw[hL] at j6;simp at j6
  ·have hne':vb≠g:=λ e=>l9 (by simp[Value.ownBlock,e])
   by_cases hr:L.length+1<=cap
   ·exact jw B i vb g cap L x w h hx hne' j6 hl hr
   ·exact zm B i vb g cap L x w h hB hx j6 hl h3 (by omega)
 ·have e:L.take i++x::L.drop i=L++[x]:=by rw[he];simp
  rw[e];exact zei B i vb v L x w h hB hx he hl
theorem Ic (x n:Int)(B p:Nat)(v:Value)(L:List E)(w:World)(h:GAt w B 168 61 p n v L)(hx:0<=x/\x<n):
 Calls prog 116 #[.pointer p,x] w λ e w'=>e=true/\w'=w:=zbc x n B p v L true w h (bI hx).symm
theorem vg {w w1 w2:World}{B gT p:Nat}{n:Int}{v u:Value}{L M:List E}(h:GAt w1 B gT 61 p n v L)(hb:Below w w w1)(hg:w1.grownBy w2 v.ownBlock)(hr:Ad w2 B 61 u M)(hf:Dm w1 v u)(hp:p<w):Jd w (w2.setCell (p,1) u) B gT p n v M:=by
 have hu:u.ownBlock≠some p:=by
  intro e;rcases hf p e with h1|h1
  ·exact h.ne h1
  ·have:=hb.size;omega
 refine⟨u,h.store hg hr hu,((Kept.of_below hb).trans (Kept.Mf hg)).setCell 1 u,λ k hk=>?_⟩;rcases hf k hk with h1|h1
 ·exact Or.inl h1
 ·exact Or.inr (aD hb.size h1)
theorem ztq (id a b n lo hi:Int)(B p:Nat)(v:Value)(L M:List E)(w:World)(h:GAt w B 168 61 p n v L)(hB:B<=w)(hu:Up L)(hl:L.length<120)(hr:Ec id a b n)(BJ:a≠b)(hs:seen L id=none)(KX:lo=min a b)(RJ:hi=max a b)(hM:M=Ej L (id,lo,hi)):
 Calls prog 56 #[.pointer p,id,a,b] w λ e w'=>e= .returned .nilIface/\Jd w w' B 168 p n v M:=by
 obtain⟨k,hk⟩:∃k,k=place L id:=⟨_,rfl⟩;have ZJ:k<=L.length:=by rw[hk];exact Og L id
 have HC:Hid (Calls prog 114 #[.pointer p,id] w λ e w'=>e=Value.tuple #[k,false]/\Below w w w'):=L9 id B p k n v L false w h hu (by omega) hk (by rw[hs];rfl);have HG:=kd h;have h1:¬id<0:=by have:=hr.1.1;omega
 have h2:¬1099511627776<id:=by have:=hr.1.2;omega
 have H3:=kd hr.2.1;have H4:=kd hr.2.2;have h5:(a==b)=false:=aH.2 BJ;have HM:Hid (M=L.take k++(id,lo,hi)::L.drop k):=by
  show M=_;rw[hM,hk];rfl
 have HL:Hid (k<=L.length/\L.length<=1000):=⟨ZJ,by omega⟩;have PZ:=kd hB;have RO:=h.row.Ap;obtain⟨va,vc,hv⟩:=RO;obtain⟨m,hm⟩:∃m,m=L.length:=⟨_,rfl⟩;rw[<-hm] at hl hv ZJ;have hl':¬((120:Int)<=(m:Int)):=by omega
 have HV:=kd hv;clear hr h hu hs hM hm hB hv hk;have fin:∀(w3:World),Below w w w3->Calls prog 117 #[.slice va m vc,k,.slice w3 1 1] (w3.alloc (.cells #[id,lo,hi] 61)) λ e w4=>∃a' m' c',e=Value.slice a' m' c'/\Jd w (w4.setCell (p,1) (.slice a' m' c')) B 168 p n v M/\w4.cell? (p,1)=some v/\w4.frozen? (p,1)=false:=by
  intro w3 hb;have j5:Below w w (w3.alloc (.cells #[id,lo,hi] 61)):=hb.alloc hb.size _;have hg:=HG.o.below j5;rw[<-HV.o];refine(ze6 B k w3 v L M (id,lo,hi) _ hg.row (aD PZ.o j5.size) (aQ w3 _) (λ e=>?_) HL.o.1 HL.o.2 HM.o).mono ?_
  ·have:=(HG.o.lt e).2
   have:=hb.size;omega
  ·rintro e w4 ⟨v',rfl,i1,i2,i3⟩
   obtain⟨a',m',c',rfl⟩:=i1.slice;exact⟨a',m',c',rfl,vg hg j5 i2 i1 i3 HG.o.plt,(Ny hg i2).1,(Ny hg i2).2⟩
 have HFIN:=kd fin;clear fin;rcases jK BJ with j6|hgt
 ·obtain rfl:lo=a:=by rw[KX];omega
  obtain rfl:hi=b:=by rw[RJ];omega
  clear KX RJ BJ;go_enter func56,ntmps56;go_wp2_with fail;refine(Ic lo n B p v L w HG.o H3.o).mono ?_;rintro e w1 ⟨rfl,rfl⟩;go_wp2_with fail;refine(Ic hi n B p v L w1 HG.o H4.o).mono ?_;rintro e w2 ⟨rfl,rfl⟩;go_wp2_with fail;refine HC.o.mono ?_;rintro e w3 ⟨rfl,hb⟩;have HB:=kd hb;have hp:=(HG.o.below hb).c1;rw[HV.o] at hp;clear hb HC;go_wp2_with fail;refine(HFIN.o w3 HB.o).mono ?_;rintro e w4 ⟨a',m',c',rfl,CU,q1,q2⟩;have JF:=kd CU;clear CU;go_wp2_with fail;go_ret;exact⟨rfl,JF.o⟩
 ·obtain rfl:lo=b:=by rw[KX];omega
  obtain rfl:hi=a:=by rw[RJ];omega
  clear KX RJ BJ;go_enter func56,ntmps56;go_wp2_with fail;refine(Ic hi n B p v L w HG.o H3.o).mono ?_;rintro e w1 ⟨rfl,rfl⟩;go_wp2_with fail;refine(Ic lo n B p v L w1 HG.o H4.o).mono ?_;rintro e w2 ⟨rfl,rfl⟩;go_wp2_with fail;refine HC.o.mono ?_;rintro e w3 ⟨rfl,hb⟩;have HB:=kd hb;have hp:=(HG.o.below hb).c1;rw[HV.o] at hp;clear hb HC;go_wp2_with fail;refine(HFIN.o w3 HB.o).mono ?_;rintro e w4 ⟨a',m',c',rfl,CU,q1,q2⟩;have JF:=kd CU;clear CU;go_wp2_with fail;go_ret;exact⟨rfl,JF.o⟩
theorem zq6 (x0 x1 x2:Int)(w:World):
 Calls prog 106 #[.agg #[x0,x1,x2]] w λ e w'=>e=true/\Below w w w':=by
 go_enter func106,ntmps106;go_wp2;go_ret;exact⟨rfl,Aw _ _⟩
theorem Qb (f:Nat)(bs:List Value)(hfb:(f=106/\bs=[])\/(∃xb,f=321/\bs=[.pointer (some ⟨xb,0,none⟩)])\/∃eb nb,f=323/\bs=[.pointer (some ⟨eb,0,none⟩),.pointer (some ⟨nb,0,none⟩)])(pf:E->Bool)(n:Int)(B p:Nat)(v:Value)(L:List E)(w:World)(h:GAt w B 168 61 p n v L)(hl:L.length<=120)
 (hf:∀W x0 x1 x2,Below w w W->Calls prog f (.agg #[.int .i64 x0,.int .i64 x1,.int .i64 x2]::bs).toArray W λ e w'=>e=Value.bool (pf (x0,x1,x2))/\Below W W w'):
 Calls prog 105 #[.pointer p,.func (.func f) #[] bs.toArray] w λ e w'=>∃u,e= .returned u/\Ad w' w 61 u (L.filter pf)/\Below w w w':=by
 rcases hfb with⟨rfl,rfl⟩|⟨xb,rfl,rfl⟩|⟨eb,nb,rfl,rfl⟩
 all_goals
  have HF:=kd hf;have HG:=kd h;obtain⟨m,hm⟩:∃m,m=L.length:=⟨_,rfl⟩;have HM:=kd hm;have hp:=h.c1;obtain⟨va,vc,hv⟩:=h.row.Ap;rw[<-hm] at hv hl;have HV:=kd hv;rw[hv] at hp;clear hf h hv hm;go_enter func105,ntmps105;go_wp2_with fail;go_loopg [5,7,13] m (λ r s5 _ s13 wq=>∃k:Nat,s13=k/\k+r=m/\Ad wq w 61 s5 ((L.take k).filter pf)/\Below w w wq)
  case atStart=>exact⟨0,rfl,by omega,aX _ _ _ _,aI _ _⟩
  case round=>
   obtain⟨k,rfl,hk,ho,hb⟩:=hrel;have HO:=kd ho;have HB:=kd hb;clear ho hb;by_cases j6:k<m
   ·obtain⟨x0,x1,x2,hx⟩:∃x0 x1 x2,L[k]? =some (x0,x1,x2):=⟨_,_,_,aB (by rw[<-HM.o];exact j6)⟩
    have HX:=kd hx;obtain⟨g,EF⟩:∃g,va=some ⟨g,0,none⟩:=by
     rcases HG.o.row.shape with⟨_,e⟩|⟨g,cap,e,_⟩
     ·rw[e] at hx;simp at hx
     ·rw[HV.o] at e
      injection e with e1 _ _
      exact⟨g,e1⟩
    have AX:=HG.o.below HB.o;obtain⟨r0,r1,r2⟩:=AX.row.at (g:=g) (by rw[HV.o,EF];rfl) hx;have r0':wr.cell? (g,k*3)=x0:=r0;have r1':wr.cell? (g,k*3+1)=x1:=r1;have r2':wr.cell? (g,k*3+2)=x2:=r2;clear AX r0 r1 r2 hx;subst EF;have x8:Hid (Below w w (wr.alloc (.cells #[x0,x1,x2] 61))):=HB.o.alloc HB.o.size _;go_wp2_with fail;refine(HF.o _ x0 x1 x2 x8.o).mono ?_;rintro e w2 ⟨rfl,j5⟩;have hb2':Below (wr+1) (wr.alloc (.cells #[x0,x1,x2] 61)) w2:=by simpa using j5
    have y5:Hid (Below w w w2):=x8.o.tr j5;have y8:Below wr wr w2:=(Aw wr _).trans (hb2'.mono (by omega));have QA:Hid (Ad w2 w 61 u5 ((L.take k).filter pf)):=HO.o.below y8;cases UC:pf (x0,x1,x2) with
    |true=>
     as_aux_lemma=>
     have hh:w2.heap[wr.heap.size]? =some (.cells #[x0,x1,x2] 61):=by rw[hb2'.block wr (by omega)];exact aQ wr _
     have q0:w2.cell? wr=x0:=by simp[World.cell?,hh]
     have q1:w2.cell? (wr,1)=x1:=by simp[World.cell?,hh]
     have q2:w2.cell? (wr,2)=x2:=by simp[World.cell?,hh]
     obtain⟨v',w3,hr,WW,BB,_,_⟩:=Oa 33 w2 w u5 _ x0 x1 x2 QA.o y5.o.size (by have:=Uz L k pf;rw[<-HM.o] at this;omega);have HR:=kd hr;have HO3:Hid (Ad w3 w 61 v' ((L.take (k+1)).filter pf)):=by
      show Ad w3 w.heap.size 61 v' ((L.take (k+1)).filter pf);rw[Eb pf HX.o,UC];exact WW
     have AZ:Hid (Below w w w3):=y5.o.trans BB;clear hr WW BB hh j5 hb2' y8 QA HO HB x8 y5 UC r0' r1' r2';go_wp2_with (at_builtin;refine Lib.wpList_append_run _ rfl _ _ _ _ rfl _ _ rfl rfl _ _ HR.o ?_);go_roundg (gk-1);case measure=>omega
     case rel=>exact⟨k+1,by go_num,by omega,HO3.o,AZ.o⟩
    |false=>
     as_aux_lemma=>
     have HO3:Hid (Ad w2 w 61 u5 ((L.take (k+1)).filter pf)):=by
      show Ad w2 w.heap.size 61 u5 ((L.take (k+1)).filter pf);rw[Eb pf HX.o,UC]
      simpa using QA.o
     clear j5 hb2' y8 QA HO HB x8 UC r0' r1' r2';go_wp2_with fail;go_roundg (gk-1);case measure=>omega
     case rel=>exact⟨k+1,by go_num,by omega,HO3.o,y5.o⟩
   ·have CF:L.take k=L:=aZ (by rw[<-HM.o];omega)
    have HO3:Hid (Ad wr w 61 u5 (L.filter pf)):=by
     show Ad wr w.heap.size 61 u5 (L.filter pf);have:=HO.o;rw[CF] at this;exact this
    clear CF HO;go_wp2_with fail;go_ret;exact⟨_,rfl,HO3.o,HB.o⟩
theorem zke (pf:E->Bool)(n:Int)(B p:Nat)(v:Value)(L:List E)(w:World)(h:GAt w B 168 61 p n v L)(hl:L.length<=120)
 (hf:∀W x0 x1 x2,Below w w W->Calls prog 106 #[.agg #[.int .i64 x0,.int .i64 x1,.int .i64 x2]] W λ e w'=>e=Value.bool (pf (x0,x1,x2))/\Below W W w'):
 Calls prog 105 #[.pointer p,.func (.func 106) #[] #[]] w λ e w'=>∃u,e= .returned u/\Ad w' w 61 u (L.filter pf)/\Below w w w':=Qb 106 [] (.inl ⟨rfl,rfl⟩) pf n B p v L w h hl hf
theorem Dv (n:Int)(B p:Nat)(v:Value)(L:List E)(w:World)(h:GAt w B 168 61 p n v L)(hl:L.length<=120):
 Calls prog 48 #[.pointer p] w λ e w'=>∃u,e= .returned u/\Ad w' w 61 u L/\Below w w w':=by
 have HC:Hid (Calls prog 105 #[.pointer p,.func (.func 106) #[] #[]] w λ e w'=>∃u,e= .returned u/\Ad w' w 61 u L/\Below w w w'):=by
  have:=zke (λ _=>true) n B p v L w h hl (λ W x0 x1 x2 _=>zq6 x0 x1 x2 W);have e:L.filter (λ _=>true)=L:=by simp
  rw[e] at this;exact this
 clear h;go_enter func48,ntmps48;go_wp2_with fail;refine HC.o.mono ?_;rintro e w1 ⟨u,rfl,ho,hb⟩;have HR:=kd (And.intro ho hb);clear ho hb HC;go_wp2_with fail;go_ret;exact⟨_,rfl,HR.o⟩
theorem zn6 (x n:Int)(B p:Nat)(v:Value)(L:List E)(w:World)(h:GAt w B 168 61 p n v L)(hx:¬(0<=x/\x<n)):
 Calls prog 116 #[.pointer p,x] w λ e w'=>e=false/\w'=w:=zbc x n B p v L false w h (bM hx).symm
theorem zgn (id a b n:Int)(B p:Nat)(v:Value)(L:List E)(w:World)(h:GAt w B 168 61 p n v L)(hr:¬Ec id a b n):
 Calls prog 56 #[.pointer p,id,a,b] w λ e w'=>e=Value.iface 23 (2:Int)/\Below w w w':=by
 have HG:=kd h;clear h;by_cases h1:id<0
 ·clear hr
  go_enter func56,ntmps56;go_wp2_with fail;go_ret;exact⟨rfl,aI _ _⟩
 by_cases h2:1099511627776<id
 ·clear hr
  go_enter func56,ntmps56;go_wp2_with fail;go_ret;exact⟨rfl,aI _ _⟩
 by_cases h3:0<=a/\a<n
 ·have h4:¬(0<=b/\b<n):=λ hb=>hr ⟨⟨by omega,by omega⟩,h3,hb⟩
  have H3:=kd h3;have H4:=kd h4;clear hr h3 h4;go_enter func56,ntmps56;go_wp2_with fail;refine(Ic a n B p v L w HG.o H3.o).mono ?_;rintro e w1 ⟨rfl,rfl⟩;go_wp2_with fail;refine(zn6 b n B p v L w1 HG.o H4.o).mono ?_;rintro e w2 ⟨rfl,rfl⟩;go_wp2_with fail;go_ret;exact⟨rfl,aI _ _⟩
 ·have H3:=kd h3
  clear hr h3;go_enter func56,ntmps56;go_wp2_with fail;refine(zn6 a n B p v L w HG.o H3.o).mono ?_;rintro e w1 ⟨rfl,rfl⟩;go_wp2_with fail;go_ret;exact⟨rfl,aI _ _⟩
theorem zpt (id a n:Int)(B p:Nat)(v:Value)(L:List E)(w:World)(h:GAt w B 168 61 p n v L)(hr:Ec id a a n):
 Calls prog 56 #[.pointer p,id,a,a] w λ e w'=>e=Value.iface 23 (1:Int)/\Below w w w':=by
 have HG:=kd h;have h1:¬id<0:=by have:=hr.1.1;omega
 have h2:¬1099511627776<id:=by have:=hr.1.2;omega
 have H3:=kd hr.2.1;clear hr h;go_enter func56,ntmps56;go_wp2_with fail;refine(Ic a n B p v L w HG.o H3.o).mono ?_;rintro e w1 ⟨rfl,rfl⟩;go_wp2_with fail;refine(Ic a n B p v L w1 HG.o H3.o).mono ?_;rintro e w2 ⟨rfl,rfl⟩;go_wp2_with fail;go_ret;exact⟨rfl,aI _ _⟩
theorem zf0 (id a b n:Int)(B p:Nat)(v:Value)(L:List E)(w:World)(h:GAt w B 168 61 p n v L)(hu:Up L)(hl:L.length<=120)(hr:Ec id a b n)(BJ:a≠b)(hs:(seen L id).isSome=true):
 Calls prog 56 #[.pointer p,id,a,b] w λ e w'=>e=Value.iface 23 (9:Int)/\Below w w w':=by
 have HC:Hid (Calls prog 114 #[.pointer p,id] w λ e w'=>e=Value.tuple #[(place L id:Nat),true]/\Below w w w'):=L9 id B p (place L id) n v L true w h hu (by omega) rfl hs.symm;have HG:=kd h;have h1:¬id<0:=by have:=hr.1.1;omega
 have h2:¬1099511627776<id:=by have:=hr.1.2;omega
 have H3:=kd hr.2.1;have H4:=kd hr.2.2;have h5:(a==b)=false:=aH.2 BJ;clear hr h hu hs BJ;go_enter func56,ntmps56;go_wp2_with fail;refine(Ic a n B p v L w HG.o H3.o).mono ?_;rintro e w1 ⟨rfl,rfl⟩;go_wp2_with fail;refine(Ic b n B p v L w1 HG.o H4.o).mono ?_;rintro e w2 ⟨rfl,rfl⟩;go_wp2_with fail;refine HC.o.mono ?_;rintro e w3 ⟨rfl,hb⟩;have HB:=kd hb;clear hb;go_wp2_with fail;go_ret;exact⟨rfl,HB.o⟩
theorem zkl (id a b n:Int)(B p:Nat)(v:Value)(L:List E)(w:World)(h:GAt w B 168 61 p n v L)(hu:Up L)(hl:L.length<=120)(hr:Ec id a b n)(BJ:a≠b)(hs:seen L id=none)(hf:120<=L.length):
 Calls prog 56 #[.pointer p,id,a,b] w λ e w'=>e=Value.iface 23 (12:Int)/\Below w w w':=by
 have HC:Hid (Calls prog 114 #[.pointer p,id] w λ e w'=>e=Value.tuple #[(place L id:Nat),false]/\Below w w w'):=L9 id B p (place L id) n v L false w h hu (by omega) rfl (by rw[hs];rfl);have HG:=kd h;have h1:¬id<0:=by have:=hr.1.1;omega
 have h2:¬1099511627776<id:=by have:=hr.1.2;omega
 have H3:=kd hr.2.1;have H4:=kd hr.2.2;have h5:(a==b)=false:=aH.2 BJ;obtain⟨va,vc,hv⟩:=h.row.Ap;obtain⟨m,hm⟩:∃m,m=L.length:=⟨_,rfl⟩;rw[<-hm] at hf hv;have hf':(120:Int)<=(m:Int):=by omega
 clear hr h hu hs BJ hl hm;go_enter func56,ntmps56;go_wp2_with fail;refine(Ic a n B p v L w HG.o H3.o).mono ?_;rintro e w1 ⟨rfl,rfl⟩;go_wp2_with fail;refine(Ic b n B p v L w1 HG.o H4.o).mono ?_;rintro e w2 ⟨rfl,rfl⟩;go_wp2_with fail;refine HC.o.mono ?_;rintro e w3 ⟨rfl,hb⟩;have HB:=kd hb;have hp:=(HG.o.below hb).c1;rw[hv] at hp;clear hb hv HC;go_wp2_with fail;go_ret;exact⟨rfl,HB.o⟩
theorem zhh (a:Option Addr)(m cap:Nat)(F:Nat->Int)(x:Int)(w:World)(h:Ints w a m F)(hm:m<=1000):
 Calls prog 361 #[.slice a m cap,x] w λ e w'=>∃r:Int,e=r/\decide (0<=r)=among F m x/\w'=w:=by
 have HI:=kd h;clear h;go_enter func361,ntmps361;go_wp2_with fail;go_loopg [5,8] m (λ r _ s8 wq=>∃k:Nat,s8=k/\k+r=m/\(∀t,t<k->F t≠x)/\wq=w)
 case atStart=>exact⟨0,rfl,by omega,λ t ht=>by omega,rfl⟩
 case round=>
  obtain⟨k,rfl,hk,AA,rfl⟩:=hrel;by_cases j6:k<m
  ·obtain⟨bl,off,ha,hc⟩:=HI.o.some_ (by omega)
   have c:=hc k j6;subst ha;clear hc;by_cases hy:x=F k
   ·as_aux_lemma=>
    have HA:Hid (decide (0<=(k:Int))=among F m x):=by
     show decide (0<=(k:Int))=among F m x;rw[Qo j6 hy.symm];simp
    clear AA;generalize F k=y at*;subst hy;go_wp2_with fail;go_ret;exact⟨k,rfl,HA.o,rfl⟩
   ·as_aux_lemma=>
    have HN:Hid (∀t,t<k+1->F t≠x):=by
     intro t ht;rcases Nat.lt_succ_iff_lt_or_eq.1 ht with h|h
     ·exact AA t h
     ·subst h;exact λ e=>hy e.symm
    clear AA;generalize F k=y at*;have hyb:(x==y)=false:=aH.2 hy;clear hy;go_wp2_with fail;go_roundg (gk-1);case measure=>omega
    case rel=>exact⟨k+1,by go_num,by omega,HN.o,rfl⟩
  ·have CF:m=k:=by omega
   have HA:Hid (decide (0<=(-1:Int))=among F m x):=by
    show decide (0<=(-1:Int))=among F m x;rw[Ol (λ t ht=>AA t (by omega))];rfl
   clear AA;go_wp2_with fail;go_ret;exact⟨-1,rfl,HA.o,rfl⟩
theorem Fp (a:Option Addr)(m cap:Nat)(F:Nat->Int)(x:Int)(ok:Bool)(w:World)(h:Ints w a m F)(hm:m<=1000)(p8:among F m x=ok):
 Calls prog 324 #[.slice a m cap,x] w λ e w'=>e=ok/\w'=w:=by
 have HI:=kd h;have HO:=kd p8;clear h p8;go_enter func324,ntmps324;go_wp2_with fail;refine(zhh a m cap F x w HI.o hm).mono ?_;rintro e w' ⟨r,rfl,hr,rfl⟩;have HR:Hid (decide (0<=r)=ok):=hr.trans HO.o;clear hr;go_wp2_with fail;go_ret;exact⟨by rw[<-HR.o];rfl,rfl⟩
theorem zoh (x0 x1 x2 y:Int)(xb:Nat)(ok:Bool)(w:World)(hc:w.cell? xb=y)(p8:(x1==y || x2==y)=ok):
 Calls prog 321 #[.agg #[x0,x1,x2],.pointer xb] w λ e w'=>e=ok/\Below w w w':=by
 have j6:xb<w:=lt_of_cell hc;by_cases h1:x1=y
 ·have HO:Hid (ok=true):=by
   show ok=true;rw[<-p8,h1];simp
  clear p8;subst h1;go_enter func321,ntmps321;go_wp2;go_ret;exact⟨by rw[HO.o];rfl,Aw _ _⟩
 ·have h1b:(x1==y)=false:=aH.2 h1
  by_cases h2:x2=y
  ·have HO:Hid (ok=true):=by
    show ok=true;rw[<-p8,h2];simp
   clear p8 h1;subst h2;go_enter func321,ntmps321;go_wp2;go_ret;exact⟨by rw[HO.o];rfl,Aw _ _⟩
  ·have h2b:(x2==y)=false:=aH.2 h2
   have HO:Hid (ok=false):=by
    show ok=false;rw[<-p8,h1b,h2b];rfl
   clear p8 h1 h2;go_enter func321,ntmps321;go_wp2;go_ret;exact⟨by rw[HO.o];rfl,Aw _ _⟩
theorem zrf (x0 x1 x2:Int)(eb nb:Nat)(ae an:Option Addr)(me mn ce cn:Nat)(Fe Fn:Nat->Int)(ok:Bool)(w:World)(he:w.cell? eb=some (.slice ae me ce))(hn:w.cell? nb=some (.slice an mn cn))
 (CR:Ints w ae me Fe) (p9:Ints w an mn Fn) (TR:me<=1000) (RS:mn<=1000) (p8:(!among Fe me x0&&!among Fn mn x1&&!among Fn mn x2)=ok):
 Calls prog 323 #[.agg #[x0,x1,x2],.pointer eb,.pointer nb] w λ e w'=>e=ok/\Below w w w':=by
 have j6:eb<w:=lt_of_cell he;have XL:nb<w:=lt_of_cell hn;have HE:Hid (∀o,Ints (w.alloc o) ae me Fe):=λ o=>CR.below (Aw w o)
 have HN:Hid (∀o,Ints (w.alloc o) an mn Fn):=λ o=>p9.below (Aw w o)
 clear CR p9;cases BV:among Fe me x0 with
 |true=>
  have RL:=kd BV;have HO:Hid (ok=false):=by
   show ok=false;rw[<-p8,BV];rfl
  clear p8 BV;go_enter func323,ntmps323;go_wp2_with fail;refine(Fp ae me ce Fe x0 true _ (HE.o _) TR RL.o).mono ?_;rintro e w1 ⟨rfl,rfl⟩;go_wp2_with fail;go_ret;exact⟨by rw[HO.o];rfl,Aw _ _⟩
 |false=>
  have RL:=kd BV;rw[BV] at p8;clear BV;cases IZ:among Fn mn x1 with
  |true=>
   have KY:=kd IZ;have HO:Hid (ok=false):=by
    show ok=false;rw[<-p8,IZ];rfl
   clear p8 IZ;go_enter func323,ntmps323;go_wp2_with fail;refine(Fp ae me ce Fe x0 false _ (HE.o _) TR RL.o).mono ?_;rintro e w1 ⟨rfl,rfl⟩;go_wp2_with fail;refine(Fp an mn cn Fn x1 true _ (HN.o _) RS KY.o).mono ?_;rintro e w1 ⟨rfl,rfl⟩;go_wp2_with fail;go_ret;exact⟨by rw[HO.o];rfl,Aw _ _⟩
  |false=>
   have KY:=kd IZ;rw[IZ] at p8;clear IZ;have TQ:Hid (among Fn mn x2=!ok):=by
    show among Fn mn x2=!ok;rw[<-p8];simp
   clear p8;go_enter func323,ntmps323;go_wp2_with fail;refine(Fp ae me ce Fe x0 false _ (HE.o _) TR RL.o).mono ?_;rintro e w1 ⟨rfl,rfl⟩;go_wp2_with fail;refine(Fp an mn cn Fn x1 false _ (HN.o _) RS KY.o).mono ?_;rintro e w1 ⟨rfl,rfl⟩;go_wp2_with fail;refine(Fp an mn cn Fn x2 (!ok) _ (HN.o _) RS TQ.o).mono ?_;rintro e w1 ⟨rfl,rfl⟩;cases ok
   ·go_wp2_with fail
    go_ret;exact⟨rfl,Aw _ _⟩
   ·go_wp2_with fail
    go_ret;exact⟨rfl,Aw _ _⟩
theorem zku (pf:E->Bool)(n:Int)(B p:Nat)(xb:Nat)(v:Value)(L:List E)(w:World)(h:GAt w B 168 61 p n v L)(hl:L.length<=120)
 (hf:∀W x0 x1 x2,Below w w W->Calls prog 321 #[.agg #[.int .i64 x0,.int .i64 x1,.int .i64 x2],.pointer xb] W λ e w'=>e=Value.bool (pf (x0,x1,x2))/\Below W W w'):
 Calls prog 105 #[.pointer p,.func (.func 321) #[] #[.pointer xb]] w λ e w'=>∃u,e= .returned u/\Ad w' w 61 u (L.filter pf)/\Below w w w':=Qb 321 _ (.inr (.inl ⟨xb,rfl,rfl⟩)) pf n B p v L w h hl hf
theorem znw (pf:E->Bool)(n:Int)(B p:Nat)(eb nb:Nat)(v:Value)(L:List E)(w:World)(h:GAt w B 168 61 p n v L)(hl:L.length<=120)
 (hf:∀W x0 x1 x2,Below w w W->Calls prog 323 #[.agg #[.int .i64 x0,.int .i64 x1,.int .i64 x2],.pointer eb,.pointer nb] W λ e w'=>e=Value.bool (pf (x0,x1,x2))/\Below W W w'):
 Calls prog 105 #[.pointer p,.func (.func 323) #[] #[.pointer eb,.pointer nb]] w λ e w'=>∃u,e= .returned u/\Ad w' w 61 u (L.filter pf)/\Below w w w':=Qb 323 _ (.inr (.inr ⟨eb,nb,rfl,rfl⟩)) pf n B p v L w h hl hf
def Oc (x:Int):E->Bool:=λ e=>e.2.1==x || e.2.2==x
theorem zt5 (x n:Int)(B p:Nat)(v:Value)(L:List E)(w:World)(h:GAt w B 168 61 p n v L)(hl:L.length<=120)(hx:0<=x/\x<n):
 Calls prog 245 #[.pointer p,x] w λ e w'=>∃u,e=Value.tuple #[u,.nilIface]/\Ad w' w 61 u (L.filter (Oc x))/\Below w w w':=by
 have BP:=Aw w (.cells #[x] 3);have HC:Hid (Calls prog 116 #[.pointer p,x] (w.alloc (.cells #[x] 3)) λ e w'=>e=true/\w'=w.alloc (.cells #[x] 3)):=Ic x n B p v L _ (h.below BP) hx;have HD:Hid (Calls prog 105 #[.pointer p,.func (.func 321) #[] #[.pointer w]] (w.alloc (.cells #[x] 3)) λ e w'=>∃u,e= .returned u/\Ad w' w 61 u (L.filter (Oc x))/\Below w w w'):=by
  have hc:(w.alloc (.cells #[x] 3)).cell? w=x:=by rw[World.cell?_alloc_at _ _ _ _ rfl];rfl
  have:=zku (Oc x) n B p w v L _ (h.below BP) hl (λ W x0 x1 x2 hb=>zoh x0 x1 x2 x w _ W ((hb.cell (p:=w) (by simp)).trans hc) rfl);refine this.mono ?_;rintro e w' ⟨u,he,ho,hb⟩;exact⟨u,he,ho.mono (by simp),BP.trans (hb.mono (by simp))⟩
 clear h hx BP;go_enter func245,ntmps245;go_wp2_with fail;refine HC.o.mono ?_;rintro e w1 ⟨rfl,hw⟩;have HW:=kd hw;clear hw HC;go_wp2_with fail;rw[HW.o];refine HD.o.mono ?_;rintro e w2 ⟨u,rfl,ho,hb⟩;have HR:=kd (And.intro ho hb);clear ho hb HD HW;go_wp2_with fail;go_ret2;exact⟨_,rfl,HR.o⟩
theorem Sg (n:Int)(B p:Nat)(v:Value)(L:List E)(ae an:Option Addr)(me mn ce cn:Nat)(Fe Fn:Nat->Int)(w:World)(h:GAt w B 168 61 p n v L)(hl:L.length<=120)(CR:Ints w ae me Fe)(p9:Ints w an mn Fn)(TR:me<=1000)(RS:mn<=1000):
 Calls prog 257 #[.pointer p,.slice ae me ce,.slice an mn cn] w λ e w'=>∃p' v',e=Value.pointer (some ⟨p',0,none⟩)/\GAt w' w 168 61 p' n v' (L.filter (stays Fe Fn me mn))/\Below w w w':=by
 obtain⟨W0,XF⟩:∃W0,W0=(w.alloc (.cells #[.slice ae me ce] 48)).alloc (.cells #[.slice an mn cn] 48):=⟨_,rfl⟩;have BP:Below w w W0:=by rw[XF];exact(b_).alloc (by simp) _
 have ZN:W0.heap.size=w.heap.size+1+1:=by rw[XF];simp
 have he0:W0.cell? w=some (.slice ae me ce):=by
  rw[XF,dA _ _ w (by simp),World.cell?_alloc_at _ _ _ _ rfl];rfl
 have hn0:W0.cell? (w.heap.size+1:Nat)=some (.slice an mn cn):=by
  rw[XF,World.cell?_alloc_at _ _ _ _ (by simp)];rfl
 have ET:=h.below BP;have FZ:=ET.c0;have HD:Hid (Calls prog 105 #[.pointer p,.func (.func 323) #[] #[.pointer w,.pointer (w.heap.size+1:Nat)]] W0.drew λ e w'=>∃a m c,e=Value.slice a m c/\w'.cell? p=n/\Hid (Ad w' w 61 (.slice a m c) (L.filter (stays Fe Fn me mn))/\Below w w w')):=by
  have DW:Below W0 W0 W0.drew:=⟨rfl,rfl,rfl,aF _,λ _ _=>rfl⟩;have hbd2:Below w w W0.drew:=BP.tr DW;have:=znw (stays Fe Fn me mn) n B p w (w+1) v L W0.drew (ET.below DW) hl (λ W x0 x1 x2 hb=>by
   have BK:Below w w W:=hbd2.trans (hb.mono (by show w.heap.size<=W0.heap.size;omega));exact zrf x0 x1 x2 w.heap.size (w+1) ae an me mn ce cn Fe Fn _ W ((hb.cell (p:=w) (by show w.heap.size<W0.heap.size;omega)).trans he0) ((hb.cell (p:=(w.heap.size+1:Nat)) (by show w.heap.size+1<W0.heap.size;omega)).trans hn0) (CR.below BK) (p9.below BK) TR RS rfl)
  refine this.mono ?_;rintro e w' ⟨u,he,ho,hb⟩;obtain⟨a,m,c,rfl⟩:=ho.slice;exact⟨a,m,c,he,(hb.cell (p:=p) (ET.below DW).plt).trans FZ,ho.mono (by show w.heap.size<=W0.heap.size;omega),hbd2.trans (hb.mono (by show w.heap.size<=W0.heap.size;omega))⟩
 have FN:=kd XF;have hplt:=h.plt;clear XF BP ZN he0 hn0 ET h CR p9;go_enter func257,ntmps257;go_wp2_with fail;rw[<-FN.o];go_region_held (λ w'=>w'.cell? p=n) (go_keep) (first|(go_at_call 105;refine HD.o.mono ?_;rintro e w2 ⟨a',m',c',rfl,hq,hr⟩))
 all_goals
  go_wp2_with fail;go_ret;refine⟨_,_,rfl,⟨aQ _ _,hr.o.1.below (Aw _ _),?_⟩,hr.o.2.trans ((Aw _ _).mono hr.o.2.size)⟩;intro e;have:=(aU hr.o.1 _ e).2;omega
variable {P:Program}
theorem Wd (w:World)(t e ty:TypeId)(z:Value)(ht:P.underlying t=some (.slice e))(hv:∀w,(zeroValue e).run P w= .ok z w)(g o n c:Nat)(hn:0<n)(cur:List Value)(te:TypeId)
 (hg:w.heap[g]? =some (.cells cur.toArray te (0,0))) (UB:o+(Builtin.zeroCells z.cells n).toList.length<=cur.length) (h1:∀v∈(Builtin.zeroCells z.cells n).toList,v.oneCell'=true):
 (Builtin.clear_ #[t] ty #[.slice (g,o) n c]).run P w= .ok (.tuple #[]) (w.setRow g (splice cur o (Builtin.zeroCells z.cells n).toList).toArray):=by
 have CU:=jM P g o te _ 0 cur.toArray w hg (by simpa using UB) h1;simp only[jU] at CU;obtain⟨m,rfl⟩:∃m,n=m+1:=⟨n-1,by omega⟩;simp[Builtin.clear_,run_underlying ht,hv,CU,splice]
def closed (cur:List Value)(L:List E)(i:Nat):List Value:=cur.take (i*3)++Af (L.drop (i+1))++cur.drop (i*3+(Af (L.drop (i+1))).length)
theorem Py {cur:List Value}{L:List E}{i:Nat}(hi:i<L.length)(FB:L.length*3<=cur.length):(closed cur L i).length=cur.length:=by
 unfold closed;simp[Ae];omega
theorem zy {cur:List Value}{L:List E}{i:Nat}(hi:i<L.length)(h:cur.take (L.length*3)=Af L)(FB:L.length*3<=cur.length)(cs:List Value):(splice (closed cur L i) ((L.length-1)*3) cs).take ((L.length-1)*3)=Af (L.take i++L.drop (i+1)):=by
 have hl:=Py hi FB;unfold splice;rw[eZ (by simp;omega),aZ (by simp;omega)];unfold closed;have e1:cur.take (i*3)=Af (L.take i):=by
  rw[<-M9,<-h,jH]
  congr 1
  omega
 have j6:(Af (L.take i)).length=i*3:=by rw[Ae];simp;omega
 have ZI:(Af (L.drop (i+1))).length=(L.length-(i+1))*3:=by rw[Ae];simp
 rw[e1,<-Gj,eZ (by rw[Ae,K3 hi];omega),aZ (by rw[Ae,K3 hi];omega)]
theorem zi2 (n:Nat):∀u∈(Builtin.zeroCells zE.cells n).toList,u.oneCell'=true:=by
 intro u hu;rw[Me] at hu;simp only[Builtin.zeroCells,jX,aY] at hu;obtain⟨a,_,rfl⟩:=hu;have:a%3<3:=Nat.mod_lt _ (by omega);show(#[Value.int .i64 0,Value.int .i64 0,Value.int .i64 0][a%3]!).oneCell'=true;generalize a%3=r at this
 match r,this with
 |0,_=>rfl
 |1,_=>rfl
 |2,_=>rfl
theorem zai (i k g cap:Nat)(w W1 W2:World)(hi:i<=k)(hk:k+1<=cap)(GI:cap<=9223372036854775807)(ZJ:k<=1000)
 (UF:∀ty A sc,(i<k->A=⟨g,(i+1)*3,none⟩)->(Builtin.append_ #[33,33] ty #[.slice g i cap,.slice (some A) (k-i) sc]).run prog w.drew= .ok (.slice g k cap) W1)
 (GV:∀ty sc,(Builtin.clear_ #[33] ty #[.slice (g,k*3) 1 sc]).run prog W1= .ok (.tuple #[]) W2):
 Calls prog 115 #[.slice g (k+1) cap,i,((i:Int)+1:Int)] w λ e w'=>e=Value.slice g k cap/\w'=W2:=by
 have hic:i<=cap:=by omega
 have TP:k+1-(i+1)=k-i:=by omega
 have BU:¬((i:Int)=(i:Int)+1):=by omega
 have j4:(i:Int)+1<=(k:Int)+1:=by omega
 have j5:(i:Int)<=(i:Int)+1:=by omega
 have y8:(0:Int)<=(i:Int)+1:=by omega
 have BB:(i:Int)<=(cap:Int):=by omega
 have KZ:((i:Int)+1).toNat=i+1:=by omega
 have AR:IntKind.i64.wrap ((i:Int)+1)=(i:Int)+1:=by rw[bO];omega
 have hck:¬(cap=k):=by omega
 have hkk:k+1-k=1:=by omega
 by_cases ED:cap=i+1
 ·have WM:∀ty sc,(Builtin.append_ #[33,33] ty #[.slice g i cap,.slice g (k-i) sc]).run prog w.drew= .ok (.slice g k cap) W1:=λ ty sc=>UF ty _ sc (λ h=>by omega)
  have QT:=kd WM;clear UF WM;go_enter func115,ntmps115;go_wp2
  go_region_law (refine A7 rfl (.tmp 22) (.tmp 25) 33 33 rfl (.slice g i cap) (.slice g (k-i) (cap-(i+1))) (by simp[Act.eval,Act.put,ED]) (by simp[Act.eval,Act.put,ED]) (QT.o _ _) ?_)
  go_wp2;go_ret;exact⟨by rw[ED];rfl,rfl⟩
 ·have WM:∀ty sc,(Builtin.append_ #[33,33] ty #[.slice g i cap,.slice (g,(i+1)*3) (k-i) sc]).run prog w.drew= .ok (.slice g k cap) W1:=λ ty sc=>UF ty _ sc (λ h=>rfl)
  have QT:=kd WM;clear UF WM;go_enter func115,ntmps115;go_wp2
  go_region_law (refine A7 rfl (.tmp 22) (.tmp 25) 33 33 rfl (.slice g i cap) (.slice (g,(i+1)*3) (k-i) (cap-(i+1))) (by simp[Act.eval,Act.put]) (by simp[Act.eval,Act.put]) (QT.o _ _) ?_)
  go_wp2;go_ret;exact⟨rfl,rfl⟩
theorem zec (B i:Nat)(v:Value)(L M:List E)(w:World)(h:Ad w B 61 v L)(hi:i<L.length)(hl:L.length<=1000)(hM:M=L.take i++L.drop (i+1)):
 Calls prog 115 #[v,i,((i:Int)+1:Int)] w λ e w'=>∃v',e= .returned v'/\Ad w' B 61 v' M/\w.grownBy w' v.ownBlock/\Dm w v v':=by
 subst hM;rcases h.2 with⟨_,h0⟩|⟨g,cap,cur,rfl,hBg,hg,hnc,hm,BS,PY⟩
 ·omega
 obtain⟨k,hk⟩:∃k,L.length=k+1:=⟨L.length-1,by omega⟩;obtain⟨inf,XN,hs,hb,hz⟩:=Va;have GV:(closed cur.toList L i).length=cur.size:=by rw[Py hi (by simp;omega)];simp
 have ZI:(Af (L.drop (i+1))).length=(k-i)*3:=by rw[Ae];simp;omega
 have UF:∀ty A sc,(i<k->A=⟨g,(i+1)*3,none⟩)->(Builtin.append_ #[33,33] ty #[.slice g i cap,.slice (some A) (k-i) sc]).run prog w.drew= .ok (.slice g k cap) (w.drew.setRow g (closed cur.toList L i).toArray):=by
  intro ty A sc hA;have hr:=iX (P:=prog) w.drew 33 ty 61 inf underlying33 XN g i cap cur hg A (k-i) sc (Af (L.drop (i+1))) (by rw[hs];exact ZI) (λ j u hu=>by
   rcases eH i k with j6|hge
   ·rw[hA j6]
    exact K8 h rfl (i+1) j u hu
   ·have h0:(Af (L.drop (i+1))).length=0:=by rw[ZI];omega
    rw[bW.1 h0] at hu;simp at hu) (Fa _) (by omega) (by rw[hs,ZI];omega)
  rw[hr,hs,show i+(k-i)=k by omega];rfl
 have AX:(w.drew.setRow g (closed cur.toList L i).toArray).heap[g]? =some (.cells (closed cur.toList L i).toArray 61 (0,0)):=gZ w.drew g cur _ 61 (0,0) hg;have hcr:∀ty sc,(Builtin.clear_ #[33] ty #[.slice (g,k*3) 1 sc]).run prog (w.drew.setRow g (closed cur.toList L i).toArray)= .ok (.tuple #[]) ((w.drew.setRow g (closed cur.toList L i).toArray).setRow g (splice (closed cur.toList L i) (k*3) (Builtin.zeroCells zE.cells 1).toList).toArray):=λ ty sc=>
  Wd _ 33 61 ty zE underlying33 zeroValue61 g (k*3) 1 sc (by omega) _ 61 AX (by rw[He,GV];omega) (zi2 1)
 have hwalk:=zai i k g cap w _ _ (by omega) (by omega) (by simp only[maxLen] at hm;omega) (by omega) UF hcr;rw[hk];refine hwalk.mono ?_;rintro e w' ⟨rfl,rfl⟩;refine⟨_,rfl,?_,?_,λ b hb=>Or.inl hb⟩
 ·have hlen:(L.take i++L.drop (i+1)).length=k:=by rw[K3 hi];omega
  rw[kQ];refine⟨Ae _,Or.inr ⟨g,cap,_,by rw[hlen],hBg,gZ w.drew g cur _ 61 (0,0) hg,by rw[hlen];omega,hm,?_,?_⟩⟩
  ·rw[bZ,length_splice _ _ _ (by rw[He,GV];omega),GV];exact BS
  ·show(splice _ _ _).take _=_
   have:=zy hi PY (by simp;omega) (Builtin.zeroCells zE.cells 1).toList;rw[hk,show k+1-1=k by omega] at this;rw[hlen];exact this
 ·rw[kQ]
  exact⟨rfl,rfl,rfl,by simp,λ j _ hn=>iC w.drew g j _ (λ e=>hn (by simp[Value.ownBlock,e]))⟩
theorem zjy (id n:Int)(B p:Nat)(v:Value)(L:List E)(w:World)(h:GAt w B 168 61 p n v L)(hu:Up L)(hl:L.length<=120)(hs:seen L id=none):
 Calls prog 55 #[.pointer p,id] w λ e w'=>e=Value.iface 23 (7:Int)/\Below w w w':=by
 have HC:Hid (Calls prog 114 #[.pointer p,id] w λ e w'=>e=Value.tuple #[(place L id:Nat),false]/\Below w w w'):=L9 id B p (place L id) n v L false w h hu (by omega) rfl (by rw[hs];rfl);clear h hu hs;go_enter func55,ntmps55;go_wp2_with fail;refine HC.o.mono ?_;rintro e w1 ⟨rfl,hb⟩;have HB:=kd hb;clear hb;go_wp2;go_ret;exact⟨rfl,HB.o⟩
theorem znu (id n:Int)(B p k:Nat)(v:Value)(L:List E)(x:E)(w:World)(h:GAt w B 168 61 p n v L)(hu:Up L)(hl:L.length<=120)(hk:k=place L id)(hx:L[k]? =some x)(hs:seen L id=some x):
 Calls prog 55 #[.pointer p,id] w λ e w'=>e= .returned .nilIface/\Jd w w' B 168 p n v (L.take k++L.drop (k+1)):=by
 have HC:Hid (Calls prog 114 #[.pointer p,id] w λ e w'=>e=Value.tuple #[k,true]/\Below w w w'):=L9 id B p k n v L true w h hu (by omega) hk (by rw[hs];rfl);have j6:k<L.length:=(aC.1 hx).1;have hk9:k<=120:=by omega
 have HL:Hid (k<L.length/\L.length<=1000):=⟨j6,by omega⟩;have HG:=kd h;clear h hu hs hx hk j6 hl;go_enter func55,ntmps55;go_wp2_with fail;refine HC.o.mono ?_;rintro e w1 ⟨rfl,hb⟩;have HB:=kd hb;have FH:Hid (GAt w1 B 168 61 p n v L):=HG.o.below hb;have hp:=FH.o.c1;clear hb HC;go_wp2_with fail;refine(zec B k v L _ w1 FH.o.row HL.o.1 HL.o.2 rfl).mono ?_;rintro e w2 ⟨v',rfl,h1,h2,h3⟩;have HS:Hid (Jd w (w2.setCell (p,1) v') B 168 p n v (L.take k++L.drop (k+1))):=vg FH.o HB.o h2 h1 h3 HG.o.plt;have q1:=(Ny FH.o h2).1;have q2:=(Ny FH.o h2).2;obtain⟨a',m',c',hv'⟩:=h1.slice;subst hv';clear h1 h2 h3 hp;go_wp2;go_ret;exact⟨rfl,HS.o⟩
end Go.Proofs.Y.G
namespace Go.Proofs.Y.G
open Go.RowKit Go.Proofs.Tryz
theorem Oy {ops:Array Oper}{o:Oper}{a:Act}{w:World}{K:Act->World->Prop}{Q:Exit->Act->World->Prop}{F:Prop}
 (hg:o.guard=none) (d x:Operand) (WU:o.op=Op.call {callee:=Callee.builtin Builtin.append,args:=#[d,x],argTypes:=#[33,33]})
 (w0:World) (B q:Nat) (n:Int) (uq:Value) (R:List E) (hG:GAt w0 B 40 61 q n uq R) (v:Value) (M:List E) (ho:Ad w w0 61 v M) (hb:Below w0 w0 w)
 (A:Addr) (m c:Nat) (N:List E) (hm:m=N.length) (hN:∀j u,(Af N)[j]? =some u->w0.cell? (A.add j)=some u) (hd:a.eval d=v) (hx:a.eval x= .slice (some A) m c) (hl:M.length+N.length<=100000)
 (hK:∀a' m' c' w',Hid (Ad w' w0 61 (.slice a' m' c') (M++N)/\Below w0 w0 w')->w'.cell? (q,1)=some uq->w'.frozen? (q,1)=false->K (a.put o.dst (.slice a' m' c')) w'):
 if Region.wanted o (yielded ops a.tmps)=true then Oper.wp prog o a w K Q else F:=by
 obtain⟨v',w',h1,h2,h3,_⟩:=Pf o.type w w0 v M N ho hb.size A m c hm (λ j u hu=>by
  have e:=hN j u hu;rw[<-e];exact hb.cell (World.block_lt_of_cell? _ _ e)) hl
 obtain⟨a',m',c',rfl⟩:=h2.slice;have hb':Below w0 w w':=⟨h3.os,h3.tape,h3.output,h3.size,λ k hk=>h3.block k (aR hk hb.size) (λ e=>by
  have:=(aU ho k e.symm).1;omega)⟩
 have j5:=hb.trans hb';exact A7 hg d x 33 33 WU _ _ hd hx h1 (hK _ _ _ _ ⟨h2,j5⟩ (hG.below j5).c1 ((hG.below j5).f1 1))
theorem Vl {W w:World}(o:Obj)(h:w.heap=(W.alloc o).heap)(h1:w.os=W.os)(h2:w.tape=W.tape)(h3:w.output=W.output):Below W W w:=
 ⟨h1,h2,h3,by rw[h];exact(Aw W o).size,λ k hk=>by rw[h];exact(Aw W o).block k hk⟩
def ziw (w:World)(B q:Nat)(n:Int)(u:Value)(R:List E)(id:Int)(e:Ending)(w':World):Prop:=
 ((∀x∈R,x.1≠id)/\e=(7:Int)/\Below w w w')\/
 (∃i x,R[i]? =some x/\x.1=id/\e=(0:Int)/\Jd w w' B 40 q n u (R.take i++R.drop (i+1)))
theorem ziz (id n:Int)(B q:Nat)(u:Value)(R:List E)(w:World)(h:GAt w B 40 61 q n u R)(hB:B<=w)(hl:R.length<=120):
 Calls prog 19 #[.pointer q,id] w λ e w'=>ziw w B q n u R id e w':=by
 have TF:=h.c1;have HG:=kd h;have HB:=kd hB;obtain⟨m,hm⟩:∃m,m=R.length:=⟨_,rfl⟩;have HM:=kd hm;obtain⟨ua,uc,hv⟩:=h.row.Ap;rw[<-hm] at hv hl;have HV:=kd hv;rw[hv] at TF;clear h hB hv hm;go_enter func19,ntmps19;go_wp2_with fail;go_loopg [5,6,12] m (λ r _ _ s12 wq=>∃k:Nat,s12=k/\k+r=m/\(∀x∈R.take k,x.1≠id)/\Below w w wq)
 case atStart=>exact⟨0,rfl,by omega,λ x hx=>by simp at hx,aI _ _⟩
 case round=>
  obtain⟨k,rfl,hk,AA,hb⟩:=hrel;have DZ:=kd AA;have CQ:=kd hb;clear AA hb;by_cases j6:k<m
  ·obtain⟨x0,x1,x2,hx⟩:∃x0 x1 x2,R[k]? =some (x0,x1,x2):=⟨_,_,_,aB (by rw[<-HM.o];exact j6)⟩
   have HX:=kd hx;obtain⟨g,MQ,GI,XE⟩:∃g,ua=some ⟨g,0,none⟩/\m<=uc/\uc<=9223372036854775807:=by
    rcases HG.o.row.shape with⟨_,e⟩|⟨g,cap,e,_,_,e3,e4⟩
    ·rw[e] at hx;simp at hx
    ·rw[HV.o] at e
     injection e with e1 _ e2
     refine⟨g,e1,by rw[e2,HM.o];exact e3,by rw[e2];simp only[maxLen] at e4;omega⟩
   have FR:=HG.o.below CQ.o;obtain⟨r0,r1,r2⟩:=FR.row.at (g:=g) (by rw[HV.o,MQ];rfl) hx;have r0':wr.cell? (g,k*3)=x0:=r0;have r1':wr.cell? (g,k*3+1)=x1:=r1;have r2':wr.cell? (g,k*3+2)=x2:=r2;have x8:Hid (∀o,Below w w (wr.alloc o)):=λ o=>CQ.o.alloc CQ.o.size _
   clear r0 r1 r2 hx FR;subst MQ;by_cases DD:x0=id
   ·obtain⟨W0,XF⟩:∃W0,W0=wr.alloc (.cells #[x0,x1,x2] 61):=⟨_,rfl⟩
    have y5:Hid (Below w w W0):=by
     show Below w w W0;rw[XF];exact x8.o _
    have LZ:Hid (GAt W0 B 40 61 q n (.slice g m uc) R):=by
     have:=HG.o.below y5.o;rw[HV.o] at this;exact this
    have s1:W0.cell? (q,1)=some (.slice g m uc):=LZ.o.c1;have s2:W0.frozen? (q,1)=false:=LZ.o.f1 1;have HT1:Hid (∀j u,(Af (R.take k))[j]? =some u->W0.cell? ((⟨g,0,none⟩:Addr).add j)=some u):=by
     intro j u hu;refine bQ LZ.o.row rfl j u ?_;rw[<-M9,dY] at hu;split at hu
     ·exact hu
     ·cases hu
    have HT2:Hid (∀j u,(Af (R.drop (k+1)))[j]? =some u->W0.cell? ((⟨g,(k+1)*3,none⟩:Addr).add j)=some u):=K8 LZ.o.row rfl (k+1);have MO:Hid (k=(R.take k).length):=by
     show k=(R.take k).length;rw[bN,<-HM.o];omega
    have UA:Hid (m-(k+1)=(R.drop (k+1)).length):=by
     show m-(k+1)=(R.drop (k+1)).length;rw[dJ,<-HM.o]
    have PM:Hid (([]:List E).length+(R.take k).length<=100000/\(R.take k).length+(R.drop (k+1)).length<=100000):=by
     have h1:=MO.o;have h2:=UA.o;exact⟨by rw[<-h1];simp;omega,by rw[<-h1,<-h2];omega⟩
    have FN:=kd XF;have AR:IntKind.i64.wrap ((k:Int)+1)=(k:Int)+1:=by rw[bO];omega
    have j4:(0:Int)<=(k:Int)+1:=by omega
    have y8:(k:Int)+1<=(m:Int):=by omega
    have BB:(k:Int)<=(uc:Int):=by omega
    have KZ:((k:Int)+1).toNat=k+1:=by omega
    have hq0:q<W0:=LZ.o.plt;subst DD;clear XF x8 DZ;go_wp2_with fail;rw[<-FN.o];clear FN;by_cases ED:uc=k+1
    ·have HT3:Hid (∀j u,(Af (R.drop (k+1)))[j]? =some u->W0.cell? ((⟨g,0,none⟩:Addr).add j)=some u):=by
      intro j u hu;have h0:R.drop (k+1)=[]:=fJ (by rw[<-HM.o];omega);rw[h0] at hu;simp[Af] at hu
     have MR:m=k+1:=by omega
     have TZ:Hid (0=(R.drop (k+1)).length):=by
      show 0=(R.drop (k+1)).length;rw[<-UA.o];omega
     subst MR;subst ED;have OU:(k:Int)<=(k:Int)+1:=by omega
     go_region_law (first
      |(refine Oy rfl (.tmp 22) (.tmp 28) rfl W0 B q n _ R LZ.o (.slice W0 0 0) [] (by exact Pd W0) (Vl (.cells #[] 61) rfl rfl rfl rfl) g k (k+1) (R.take k) MO.o HT1.o (by first|rfl|(simp[Act.eval];done)|(simp[Act.eval,Act.put];done)) (by first|rfl|(simp[Act.eval];done)|(simp[Act.eval,Act.put];done)) PM.o.1 ?_;intro a1 m1 c1 w1 h1 q1 f1)
      |(refine Oy rfl (.tmp 29) (.tmp 36) rfl W0 B q n _ R LZ.o (.slice a1 m1 c1) (R.take k) h1.o.1 h1.o.2 g 0 0 (R.drop (k+1)) TZ.o HT3.o (by first|rfl|(simp[Act.eval];done)|(simp[Act.eval,Act.put];done)) (by first|rfl|(simp[Act.eval];done)|(simp[Act.eval,Act.put];done)) PM.o.2 ?_;intro a2 m2 c2 w2 h2 q2 f2))
     all_goals
      go_wp2_with fail;go_ret;refine Or.inr ⟨k,_,HX.o,rfl,rfl,?_⟩;have CU:=Qu HG.o HB.o y5.o h2.o.1 h2.o.2;exact CU.1
    ·go_region_law (first
      |(refine Oy rfl (.tmp 22) (.tmp 28) rfl W0 B q n _ R LZ.o (.slice W0 0 0) [] (by exact Pd W0) (Vl (.cells #[] 61) rfl rfl rfl rfl) g k uc (R.take k) MO.o HT1.o (by first|rfl|(simp[Act.eval];done)|(simp[Act.eval,Act.put];done)) (by first|rfl|(simp[Act.eval];done)|(simp[Act.eval,ED];done)|(simp[Act.eval,Act.put,ED];done)) PM.o.1 ?_;intro a1 m1 c1 w1 h1 q1 f1)
      |(refine Oy rfl (.tmp 29) (.tmp 36) rfl W0 B q n _ R LZ.o (.slice a1 m1 c1) (R.take k) h1.o.1 h1.o.2 (g,(k+1)*3) (m-(k+1)) (uc-(k+1)) (R.drop (k+1)) UA.o HT2.o (by first|rfl|(simp[Act.eval];done)|(simp[Act.eval,Act.put];done)) (by first|rfl|(simp[Act.eval];done)|(simp[Act.eval,ED];done)|(simp[Act.eval,Act.put,ED];done)) PM.o.2 ?_;intro a2 m2 c2 w2 h2 q2 f2))
     all_goals
      go_wp2_with fail;go_ret;refine Or.inr ⟨k,_,HX.o,rfl,rfl,?_⟩;have CU:=Qu HG.o HB.o y5.o h2.o.1 h2.o.2;exact CU.1
   ·as_aux_lemma=>
    have HN:Hid (∀x∈R.take (k+1),x.1≠id):=by
     intro x hx;obtain⟨hlt',he⟩:=aC.1 HX.o;rw[cB hlt',he] at hx;rcases aK.1 hx with h|h
     ·exact DZ.o x h
     ·rw[aJ.1 h];exact DD
    have hib:(x0==id)=false:=aH.2 DD;clear DD;go_wp2_with fail;go_roundg (gk-1);case measure=>omega
    case rel=>exact⟨k+1,by go_num,by omega,HN.o,x8.o _⟩
  ·have HN:Hid (∀x∈R,x.1≠id):=by
    have e:R.take k=R:=aZ (by rw[<-HM.o];omega);have:=DZ.o;rw[e] at this;exact this
   clear DZ;go_wp2_with fail;go_ret;exact Or.inl ⟨HN.o,rfl,CQ.o⟩
end Go.Proofs.Y.G
