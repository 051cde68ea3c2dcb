import Derived.Test.YtebcjaenhiiflaaGreatDoorQGBGYa
import Derived.Test.YtebcjaenhiiflaaGreatDoorQGAs
set_option maxHeartbeats 4000000
set_option maxRecDepth 100000
namespace Go.Proofs.YtebcjaenhiiflaaGreatDoor.G
open Go.RowKit Go.Extern.Stop Go.Stop Go.Extern
def Gl (w:World):Prop:=w.cell? ⟨0,0,none⟩=some (.iface 248 (.agg #[.pointer (some ⟨9,28,none⟩)]))
theorem Gl.below {w w':World} (h:Gl w) (hb:Below w.heap.size w w'):Gl w':=
 (hb.cell (p:=⟨0,0,none⟩) (lt_of_cell h)).trans h
theorem below_four (w:World) (o1 o2 o3 o4:Obj):Below w.heap.size w ((((w.alloc o1).alloc o2).alloc o3).alloc o4):=
 ((((Below.refl _ _).alloc (Nat.le_refl _) _).alloc (by simp) _).alloc (by simp;omega) _).alloc (by simp;omega) _
theorem below_as (w:World) (t:Nat) (h:w.heap.size<=t) (o1 o2 o3 o4 o5:Obj) (v:Value):Below w.heap.size w ((((((w.alloc o1).alloc o2).alloc o3).alloc o4).alloc o5).setCell ⟨t,0,none⟩ v):=
 ((below_four w o1 o2 o3 o4).alloc (by simp;omega) _).setCell h _
theorem tell_errno (n:Int) (w:World) (hg:Gl w):Calls Tryz.prog 104 #[.iface 23 (.int .i64 n)] w λ e w'=>e= .returned (.int .i64 n)/\Below w.heap.size w w':=by
 have hg1:Gl (w.alloc (.cells #[.int .i64 0] 23)):=hg.below ((Below.refl _ _).alloc (Nat.le_refl _) _);have HG:Hid (Gl (w.alloc (.cells #[.int .i64 0] 23))):=hg1;clear hg hg1;go_enter Tryz.func104,Tryz.ntmps104;go_wp2_with fail;refine (as_hit n ⟨w.heap.size,0,none⟩ (.int .i64 0) _ (by exact HG.out) (by simp) (by simp)).mono ?_;rintro e w' ⟨rfl,hw⟩;have hb:Below w.heap.size w w':=by rw [hw];exact below_as w _ (Nat.le_refl _) _ _ _ _ _ _
 have hc:w'.cell? ⟨w.heap.size,0,none⟩=some (.int .i64 n):=by
  rw [hw];refine World.cell?_setCell_same _ _ _ (u:=.int .i64 0) ?_;have h1:(w.alloc (.cells #[.int .i64 0] 23)).cell? ⟨w.heap.size,0,none⟩=some (.int .i64 0):=by simp
  refine (Below.cell (p:=⟨w.heap.size,0,none⟩) (below_four (w.alloc (.cells #[.int .i64 0] 23)) _ _ _ _) (by simp)).trans h1
 have HB:Hid (Below w.heap.size w w'):=hb;clear hw hb HG;go_wp2;go_ret;exact ⟨rfl,HB.out⟩
def errV (c:Int):Value:=if c=0 then .nilIface else .iface 23 (.int .i64 c)
open Go.RowKit
variable {P:Program}
theorem place_le:∀(L:List E) (id:Int),place L id<=L.length
 | [],_=>Nat.le_refl _
 | x::L,id=>by
   have:=place_le L id;unfold place;split
   ·simp;omega
   ·simp
theorem place_lt:∀(L:List E) (id:Int) (t:Nat),t<place L id->∀x,L[t]? =some x->x.1<id
 | [],_,t,h=>by simp [place] at h
 | y::L,id,t,h=>by
   intro x hx;unfold place at h;split at h
   ·next hy=>
    rcases t with _ | t
    ·simp at hx;subst hx;exact hy
    ·exact place_lt L id t (by omega) x (by simpa using hx)
   ·omega
theorem place_ge:∀(L:List E) (id:Int),Up L->∀t,place L id<=t->∀x,L[t]? =some x->id<=x.1
 | [],_,_,t,_=>by simp
 | y::L,id,hu,t,h=>by
   intro x hx;unfold place at h;rcases t with _ | t
   ·simp at hx;subst hx
    split at h
    ·omega
    ·omega
   ·have hx':L[t]? =some x:=by simpa using hx
    split at h
    ·exact place_ge L id (List.Pairwise.of_cons hu) t (by omega) x hx'
    ·have h1:=List.rel_of_pairwise_cons hu (List.mem_of_getElem? hx')
     have h1':y.1<x.1:=h1;omega
def seen:List E->Int->Option E
 | [],_=>none
 | x::L,id=>if (seen L id).isSome then seen L id else if x.1=id then some x else none
theorem seen_none {L:List E} {id:Int} (h:∀x∈L,x.1≠id):seen L id=none:=by
 induction L with
 | nil=>rfl
 | cons y L ih=>
   have h1:=ih (λ x hx=>h x (List.mem_cons_of_mem _ hx));simp [seen,h1,h y List.mem_cons_self]
theorem seen_some {L:List E} {id:Int} {x:E} (hu:Up L) (hx:x∈L) (h:x.1=id):seen L id=some x:=by
 induction L with
 | nil=>simp at hx
 | cons y L ih=>
   rcases List.mem_cons.1 hx with rfl | hx'
   ·have:seen L id=none:=seen_none (λ z hz=>by
     have h1:x.1<z.1:=List.rel_of_pairwise_cons hu hz;omega)
    simp [seen,this,h]
   ·simp [seen,ih (List.Pairwise.of_cons hu) hx']
theorem place_hit {L:List E} (hu:Up L) (id:Int):(∃x,L[place L id]? =some x/\x.1=id/\seen L id=some x)\/((∀x∈L,x.1≠id)/\(∀x,L[place L id]? =some x->x.1≠id)/\seen L id=none):=by
 by_cases h:∃x,L[place L id]? =some x/\x.1=id
 ·obtain ⟨x,h1,h2⟩:=h
  exact Or.inl ⟨x,h1,h2,seen_some hu (List.mem_of_getElem? h1) h2⟩
 ·have hall:∀x∈L,x.1≠id:=by
   intro x hx e;obtain ⟨t,ht,hxt⟩:=List.mem_iff_getElem.1 hx;have hxt':L[t]? =some x:=by rw [List.getElem?_eq_getElem ht,hxt]
   rcases Nat.lt_trichotomy t (place L id) with h1 | h1 | h1
   ·have:=place_lt L id t h1 x hxt'
    omega
   ·rw [h1] at hxt'
    exact h ⟨x,hxt',e⟩
   ·have hlt:place L id<L.length:=by omega
    have hy:L[place L id]? =some L[place L id]:=List.getElem?_eq_getElem hlt;have h2:=place_ge L id hu (place L id) (Nat.le_refl _) _ hy;have h3:L[place L id].1<L[t].1:=List.pairwise_iff_getElem.1 hu _ _ hlt ht h1;rw [hxt] at h3;omega
  exact Or.inr ⟨hall,λ x hx e=>h ⟨x,hx,e⟩,seen_none hall⟩
theorem rowV_take (L:List E) (k:Nat):(rowV L).take (k*3)=rowV (L.take k):=by
 induction L generalizing k with
 | nil=>simp [rowV]
 | cons x L ih=>
   rcases k with _ | k
   ·simp [rowV]
   ·rw [rowV_cons,List.take_succ_cons,rowV_cons,<-ih]
    show (encE x++rowV L).take ((k+1)*3)=_;rw [show (k+1)*3=(encE x).length+k*3 by simp [encE];omega,List.take_length_add_append]
theorem Kept.of_grown {p:Nat} {o:Option Nat} {w w':World} (h:w.grownBy w' o):Kept p o w w':=⟨h.os,h.tape,h.output,h.size,λ k hk _ hn=>h.block k hk hn⟩
theorem run_copy_rowK (w:World) (dT sT ty elem:TypeId) (size g off dLen dCap:Nat) (ad:Addr) (sLen sCap:Nat) (cur:List Value) (t:TypeId) (cs:List Value)
 (hu:P.underlying dT=some (.slice elem)) (hsz:(P.info? elem).map (·.size)=some size) (hg:w.heap[g]? =some (.cells cur.toArray t (0,0))) (hn:cs.length=Nat.min sLen dLen*size)
 (hsrc:∀j v,cs[j]? =some v->w.cell? (ad.add j)=some v) (hfit:off+cs.length<=cur.length) (h1:∀v∈cs,v.oneCell'=true):
 (Builtin.copy_ #[dT,sT] ty #[.slice (some ⟨g,off,none⟩) dLen dCap,.slice (some ad) sLen sCap]).run P w= .ok (goInt (Nat.min sLen dLen)) (w.setRow g (splice cur off cs).toArray):=by
 have hl:=run_loadCells_list (P:=P) w ad cs hsrc;have hst:=run_storeCells_at P g off t cs 0 cur.toArray w hg (by simpa using hfit) h1;simp only [Nat.add_zero] at hst;cases hq:P.info? elem with
 | none=>simp [hq] at hsz
 | some i=>
   have hi:i.size=size:=by simpa [hq] using hsz
   subst hi;simp [Builtin.copy_,run_underlying hu,Builtin.lenOf,Builtin.firstCells,sizeOf,typeInfo,hq,<-hn,hl,hst,splice]
theorem splice_mid {α:Type} (A B C D:List α) (k:Nat) (hk:k=A.length) (h:D.length=B.length):splice (A++(B++C)) k D=A++(D++C):=by
 subst hk;unfold splice;rw [List.take_left,h,List.drop_append,<-List.append_assoc];simp
theorem encE_length (x:E):(encE x).length=3:=rfl
def shifted (cur:List Value) (L:List E) (i:Nat):List Value:=splice cur ((i+1)*3) (rowV (L.drop i))
theorem shifted_eq {cur:List Value} {L:List E} {i:Nat} (x:E) (hi:i<=L.length) (h:cur.take (L.length*3)=rowV L) (hroom:(L.length+1)*3<=cur.length):
 splice (shifted cur L i) (i*3) (encE x)=rowV (L.take i++x::L.drop i)++cur.drop ((L.length+1)*3):=by
 have hlt:(rowV (L.take i)).length=i*3:=by rw [rowV_length];simp;omega
 have hld:(rowV (L.drop i)).length=(L.length-i)*3:=by rw [rowV_length];simp
 have h1:shifted cur L i=rowV (L.take i)++((cur.drop (i*3)).take 3++(rowV (L.drop i)++cur.drop ((L.length+1)*3))):=by
  unfold shifted splice;have e1:cur.take ((i+1)*3)=rowV (L.take i)++(cur.drop (i*3)).take 3:=by
   rw [show (i+1)*3=i*3+3 by omega,List.take_add,<-rowV_take,<-h,List.take_take]
   congr 2
   omega
  rw [e1,hld,show (i+1)*3+(L.length-i)*3=(L.length+1)*3 by omega,List.append_assoc]
 rw [h1,splice_mid _ _ _ _ _ hlt.symm (by rw [encE_length];simp;omega)];rw [rowV_append,rowV_cons];simp
theorem shifted_length {cur:List Value} {L:List E} {i:Nat} (hi:i<=L.length) (hroom:(L.length+1)*3<=cur.length):(shifted cur L i).length=cur.length:=by
 unfold shifted;refine length_splice _ _ _ ?_;rw [rowV_length];simp;omega
theorem grown_eq {L:List E} {i:Nat} (x:E) (Z Y:List Value) (hi:i<=L.length) (hZ:Z.length=(L.length+1-i)*3):
 splice (splice (rowV (L.take i)++(Z++Y)) (i*3) (encE x)) ((i+1)*3) (rowV (L.drop i))=rowV (L.take i++x::L.drop i)++Y:=by
 have hlt:(rowV (L.take i)).length=i*3:=by rw [rowV_length];simp;omega
 have hld:(rowV (L.drop i)).length=(L.length-i)*3:=by rw [rowV_length];simp
 have e1:rowV (L.take i)++(Z++Y)=rowV (L.take i)++(Z.take 3++(Z.drop 3++Y)):=by rw [<-List.append_assoc (Z.take 3),List.take_append_drop]
 rw [e1,splice_mid _ _ _ _ _ hlt.symm (by rw [encE_length];simp;omega),<-List.append_assoc,splice_mid _ _ _ _ _ (by simp [hlt,encE_length];omega) (by rw [hld];simp;omega)];rw [rowV_append,rowV_cons];simp
end Go.Proofs.YtebcjaenhiiflaaGreatDoor.G
namespace Go.Proofs.YtebcjaenhiiflaaGreatDoor.G
open Go.RowKit
def cmpI (x y:Int):Int:=if x<y then-1 else if y<x then 1 else 0
theorem compare_any (x y:Int) (w:World):Calls Tryz.prog 227 #[.int .i64 x,.int .i64 y] w λ e w'=>e= .returned (.int .i64 (cmpI x y))/\w'=w:=by
 have H:Hid (x<y\/¬x<y):=Classical.em _;rcases Int.lt_trichotomy x y with h | h | h
 ·have HC:Hid (cmpI x y= -1):=by show cmpI x y= -1;simp [cmpI,h]
  go_enter Tryz.func227,Tryz.ntmps227;go_wp2;go_ret;exact ⟨by rw [HC.out];rfl,rfl⟩
 ·subst h
  have HC:Hid (cmpI x x=0):=by show cmpI x x=0;simp [cmpI]
  go_enter Tryz.func227,Tryz.ntmps227;go_wp2;go_ret;exact ⟨by rw [HC.out];rfl,rfl⟩
 ·have h1:¬x<y:=by omega
  have HC:Hid (cmpI x y=1):=by show cmpI x y=1;simp [cmpI,h,h1]
  go_enter Tryz.func227,Tryz.ntmps227;go_wp2;go_ret;exact ⟨by rw [HC.out];rfl,rfl⟩
theorem find1_any (id y:Int) (t n cap g p gb ib:Nat) (w:World) (ht:t<n) (hib:w.cell? ⟨ib,0,none⟩=some (.int .i64 id)) (hgb:w.cell? ⟨gb,0,none⟩=some (.pointer (some ⟨p,0,none⟩)))
 (hp:w.cell? ⟨p,1,none⟩=some (.slice (some ⟨g,0,none⟩) n cap)) (hy:w.cell? ⟨g,t*3,none⟩=some (.int .i64 y)):
 Calls Tryz.prog 226 #[.int .i64 (t:Int),.pointer (some ⟨ib,0,none⟩),.pointer (some ⟨gb,0,none⟩)] w λ e w'=>e= .returned (.int .i64 (cmpI id y))/\∃q,w'=w.drewN q:=by
 go_enter Tryz.func226,Tryz.ntmps226;go_wp2;go_quiet ((go_at_call 227;exact Calls.quiet_of_same (compare_any id y _)));go_wp2;go_ret;exact ⟨rfl,nq,rfl⟩
theorem cmpI_pos {x y:Int} (h:y<x):cmpI x y=1:=by
 have:¬x<y:=by omega
 simp [cmpI,h,this]
theorem cmpI_neg {x y:Int} (h:x<y):cmpI x y= -1:=by simp [cmpI,h]
theorem cmpI_eq (x:Int):cmpI x x=0:=by simp [cmpI]
structure Reads (w:World) (id:Int) (n p gb ib:Nat) (Y:Nat->Int):Prop where
 hib:w.cell? ⟨ib,0,none⟩=some (.int .i64 id)
 hgb:w.cell? ⟨gb,0,none⟩=some (.pointer (some ⟨p,0,none⟩))
 hp:0<n->∃g cap,w.cell? ⟨p,1,none⟩=some (.slice (some ⟨g,0,none⟩) n cap)/\∀t,t<n->w.cell? ⟨g,t*3,none⟩=some (.int .i64 (Y t))
theorem find1_at {w:World} {id:Int} {n p gb ib:Nat} {Y:Nat->Int} (h:Reads w id n p gb ib Y) (t:Nat) (ht:t<n) (c:Int) (hc:cmpI id (Y t)=c) (q:Nat):
 Calls Tryz.prog 226 #[.int .i64 (t:Int),.pointer (some ⟨ib,0,none⟩),.pointer (some ⟨gb,0,none⟩)] (w.drewN q) λ e w'=>e= .returned (.int .i64 c)/\∃q',w'=w.drewN q':=by
 obtain ⟨g,cap,h1,h2⟩:=h.hp (by omega);have hD:∀j,(w.drewN q).drewN j=w.drewN (q+j):=λ j=>by
  unfold World.drewN;simp [Nat.add_assoc]
 refine (find1_any id (Y t) t n cap g p gb ib (w.drewN q) ht h.hib h.hgb h1 (h2 t ht)).mono ?_;rintro e w' ⟨rfl,j,rfl⟩;exact ⟨by rw [hc],q+j,hD j⟩
theorem find_sort (id:Int) (n k p gb ib:Nat) (Y:Nat->Int) (ok:Bool) (w:World) (h:Reads w id n p gb ib Y) (hk:k<=n) (hn:n<=1000) (h1:∀t,t<k->Y t<id) (h2:∀t,k<=t->t<n->id<=Y t) (hok:ok=decide (k<n/\Y k=id)):
 Calls Tryz.prog 225 #[.int .i64 (n:Int),.func (.func 226) #[] #[.pointer (some ⟨ib,0,none⟩),.pointer (some ⟨gb,0,none⟩)]] w λ e w'=>e= .returned (.tuple #[.int .i64 (k:Int),.bool ok])/\∃q,w'=w.drewN q:=by
 have HR:Hid (Reads w id n p gb ib Y):=h;have H1:Hid (∀t,t<k->Y t<id):=h1;have H2:Hid (∀t,k<=t->t<n->id<=Y t):=h2;have HO:Hid (ok=decide (k<n/\Y k=id)):=hok;clear h h1 h2 hok;go_enter Tryz.func225,Tryz.ntmps225;go_wp2_with fail;go_loopg [4,6,7] n (λ r s4 s6 _ wr=>∃lo hi:Nat,s4= .int .i64 lo/\s6= .int .i64 hi/\lo<=k/\k<=hi/\hi<=n/\hi-lo<=r/\∃q,wr=w.drewN q)
 case atStart=>exact ⟨0,n,rfl,rfl,Nat.zero_le _,hk,Nat.le_refl _,by omega,0,rfl⟩
 case round=>
  obtain ⟨lo,hi,rfl,rfl,hlk,hkh,hin,hg,q,hwr⟩:=hrel;have HW:Hid (wr=w.drewN q):=hwr;clear hwr;by_cases hlt:lo<hi
  ·have e1:((lo:Int)+(hi:Int))/2=(((lo+hi)/2:Nat):Int):=by omega
   obtain ⟨m,hm⟩:∃m,m=(lo+hi)/2:=⟨_,rfl⟩;rw [<-hm] at e1;have hm1:m<n:=by omega
   have hm2:lo<=m:=by omega
   have hm3:m<hi:=by omega
   have E1:Hid (((lo:Int)+(hi:Int))/2=(m:Int)):=e1;clear e1 hm;by_cases hmk:m<k
   ·as_aux_lemma=>
    have hc:cmpI id (Y m)=1:=cmpI_pos (H1.out m hmk);have HC:Hid (∀q,Calls Tryz.prog 226 #[.int .i64 (m:Int),.pointer (some ⟨ib,0,none⟩),.pointer (some ⟨gb,0,none⟩)] (w.drewN q) λ e w'=>e= .returned (.int .i64 1)/\∃q',w'=w.drewN q'):=λ q=>find1_at HR.out m hm1 1 hc q
    clear hc;go_wp2_with fail;rw [E1.out,HW.out];refine (HC.out q).mono ?_;rintro e w' ⟨rfl,q',hw'⟩;have HW':Hid (w'=w.drewN q'):=hw';clear hw';go_wp2_with fail;go_roundg (hi-(m+1));case measure=>omega
    case rel=>exact ⟨m+1,hi,by go_num,rfl,by omega,hkh,hin,by omega,q',HW'.out⟩
   ·as_aux_lemma=>
    have hle:id<=Y m:=H2.out m (by omega) hm1;obtain ⟨c,hc,hc0⟩:∃c,cmpI id (Y m)=c/\¬(0<c):=by
     refine ⟨_,rfl,?_⟩;rcases Int.lt_or_eq_of_le hle with h | h
     ·rw [cmpI_neg h];decide
     ·rw [<-h,cmpI_eq];decide
    have HC:Hid (∀q,Calls Tryz.prog 226 #[.int .i64 (m:Int),.pointer (some ⟨ib,0,none⟩),.pointer (some ⟨gb,0,none⟩)] (w.drewN q) λ e w'=>e= .returned (.int .i64 c)/\∃q',w'=w.drewN q'):=λ q=>find1_at HR.out m hm1 c hc q
    clear hc hle;go_wp2_with fail;rw [E1.out,HW.out];refine (HC.out q).mono ?_;rintro e w' ⟨rfl,q',hw'⟩;have HW':Hid (w'=w.drewN q'):=hw';clear hw';go_wp2_with fail;go_roundg (m-lo);case measure=>omega
    case rel=>exact ⟨lo,m,rfl,by go_num,hlk,by omega,by omega,Nat.le_refl _,q',HW'.out⟩
  ·have hkl:lo=k:=by omega
   subst hkl;by_cases hkn:lo<n
   ·by_cases hy:Y lo=id
    ·as_aux_lemma=>
     have hc:cmpI id (Y lo)=0:=by rw [hy,cmpI_eq]
     have HC:Hid (∀q,Calls Tryz.prog 226 #[.int .i64 (lo:Int),.pointer (some ⟨ib,0,none⟩),.pointer (some ⟨gb,0,none⟩)] (w.drewN q) λ e w'=>e= .returned (.int .i64 0)/\∃q',w'=w.drewN q'):=λ q=>find1_at HR.out lo hkn 0 hc q
     have HO':Hid (ok=true):=by
      show ok=true;rw [HO.out];exact decide_eq_true ⟨hkn,hy⟩
     clear hc hy HO;go_wp2_with fail;rw [HW.out];refine (HC.out q).mono ?_;rintro e w' ⟨rfl,q',hw'⟩;have HW':Hid (w'=w.drewN q'):=hw';clear hw';go_wp2_with fail;go_ret2;exact ⟨by rw [HO'.out];rfl,q',HW'.out⟩
    ·as_aux_lemma=>
     have hle:id<=Y lo:=H2.out lo (Nat.le_refl _) hkn;have hc:cmpI id (Y lo)= -1:=cmpI_neg (by omega);have HC:Hid (∀q,Calls Tryz.prog 226 #[.int .i64 (lo:Int),.pointer (some ⟨ib,0,none⟩),.pointer (some ⟨gb,0,none⟩)] (w.drewN q) λ e w'=>e= .returned (.int .i64 (-1))/\∃q',w'=w.drewN q'):=λ q=>find1_at HR.out lo hkn (-1) hc q
     have HO':Hid (ok=false):=by
      show ok=false;rw [HO.out];exact decide_eq_false (λ h=>hy h.2)
     clear hc hy HO hle;go_wp2_with fail;rw [HW.out];refine (HC.out q).mono ?_;rintro e w' ⟨rfl,q',hw'⟩;have HW':Hid (w'=w.drewN q'):=hw';clear hw';go_wp2_with fail;go_ret2;exact ⟨by rw [HO'.out];rfl,q',HW'.out⟩
   ·as_aux_lemma=>
    have HO':Hid (ok=false):=by
     show ok=false;rw [HO.out];exact decide_eq_false (λ h=>hkn h.1)
    clear HO;go_wp2_with fail;go_ret2;exact ⟨by rw [HO'.out];rfl,q,HW.out⟩
def keyAt (L:List E) (t:Nat):Int:=(L.getD t (0,0,0)).1
theorem keyAt_some {L:List E} {t:Nat} (h:t<L.length):∃x,L[t]? =some x/\keyAt L t=x.1:=by
 refine ⟨L[t],List.getElem?_eq_getElem h,?_⟩;simp [keyAt,h]
theorem seen_ok {L:List E} (hu:Up L) (id:Int):(seen L id).isSome=decide (place L id<L.length/\keyAt L (place L id)=id):=by
 rcases place_hit hu id with ⟨x,h1,h2,h3⟩ | ⟨_,h2,h3⟩
 ·have hlt:=(List.getElem?_eq_some_iff.1 h1).1
  obtain ⟨y,hy1,hy2⟩:=keyAt_some hlt;rw [h1] at hy1;obtain rfl:=Option.some.inj hy1;rw [h3,decide_eq_true ⟨hlt,hy2.trans h2⟩];rfl
 ·rw [h3]
  symm;refine decide_eq_false ?_;rintro ⟨hlt,hk⟩;obtain ⟨y,hy1,hy2⟩:=keyAt_some hlt;exact h2 y hy1 (hy2.symm.trans hk)
theorem reads_of {w:World} {B gT p:Nat} {n:Int} {v:Value} {L:List E} (h:GAt w B gT 61 p n v L) (id:Int) (o1 o2:Obj) (h1:o1= .cells #[.pointer (some ⟨p,0,none⟩)] 82) (h2:o2= .cells #[.int .i64 id] 3):
 Reads ((w.alloc o1).alloc o2) id L.length p w.heap.size (w.heap.size+1) (keyAt L):=by
 subst h1 h2;have hb:Below w.heap.size w ((w.alloc (.cells #[.pointer (some ⟨p,0,none⟩)] 82)).alloc (.cells #[.int .i64 id] 3)):=((Below.refl _ _).alloc (Nat.le_refl _) _).alloc (by simp) _;have h':=h.below hb;refine ⟨?_,?_,λ h0=>?_⟩
 ·rw [World.cell?_alloc_at _ _ _ _ (by simp)];rfl
 ·rw [World.cell?_alloc_lt _ _ ⟨w.heap.size,0,none⟩ (by simp),World.cell?_alloc_at _ _ _ _ rfl];rfl
 ·rcases h'.row.shape with ⟨_,e⟩ | ⟨g,cap,e,_⟩
  ·rw [e] at h0;simp at h0
  ·refine ⟨g,cap,h'.c1.trans (by rw [e]),λ t ht=>?_⟩
   obtain ⟨x,hx1,hx2⟩:=keyAt_some ht;rw [hx2];exact (h'.row.at (by rw [e];rfl) hx1).1
theorem below_two_drew (w:World) (o1 o2:Obj) (q:Nat):Below w.heap.size w (((w.alloc o1).alloc o2).drewN q):=
 (((Below.refl _ _).alloc (Nat.le_refl _) _).alloc (by simp) _).trans ⟨rfl,rfl,rfl,Nat.le_refl _,λ _ _=>rfl⟩
theorem find_any (id:Int) (B p k:Nat) (n:Int) (v:Value) (L:List E) (ok:Bool) (w:World) (h:GAt w B 168 61 p n v L) (hu:Up L) (hl:L.length<=1000) (hk:k=place L id) (hok:ok=(seen L id).isSome):
 Calls Tryz.prog 114 #[.pointer (some ⟨p,0,none⟩),.int .i64 id] w λ e w'=>e= .returned (.tuple #[.int .i64 (k:Int),.bool ok])/\Below w.heap.size w w':=by
 have HR:Hid (Reads ((w.alloc (.cells #[.pointer (some ⟨p,0,none⟩)] 82)).alloc (.cells #[.int .i64 id] 3)) id L.length p w.heap.size (w.heap.size+1) (keyAt L)):=reads_of h id _ _ rfl rfl;have HU:Hid (Up L):=hu;have HK:Hid (k=place L id/\ok=(seen L id).isSome):=⟨hk,hok⟩;obtain ⟨m,hm⟩:∃m,m=L.length:=⟨_,rfl⟩;have HM:Hid (m=L.length):=hm;have hp:=h.c1;have hplt:=h.plt;obtain ⟨a,cap,hv⟩:∃a cap,v= .slice a m cap:=by
  rcases h.row.shape with ⟨e1,e2⟩ | ⟨g,cap,e,_⟩
  ·exact ⟨none,0,by rw [e1,hm,e2];rfl⟩
  ·exact ⟨_,cap,by rw [e,hm]⟩
 subst hv;clear h hu hk hok hm;go_enter Tryz.func114,Tryz.ntmps114;go_wp2_with fail;refine (find_sort id m k p w.heap.size (w.heap.size+1) (keyAt L) ok _ (by rw [HM.out];exact HR.out) (by rw [HM.out,HK.out.1];exact place_le L id) (by rw [HM.out];exact hl) (λ t ht=>?_) (λ t h1 h2=>?_) (by rw [HM.out,HK.out.1,HK.out.2];exact seen_ok HU.out id)).mono ?_
 ·have hlt:t<L.length:=by have:=place_le L id;rw [<-HK.out.1] at this;omega
  obtain ⟨x,hx1,hx2⟩:=keyAt_some hlt;rw [hx2];exact place_lt L id t (by rw [<-HK.out.1];exact ht) x hx1
 ·obtain ⟨x,hx1,hx2⟩:=keyAt_some (show t<L.length by rw [<-HM.out];exact h2)
  rw [hx2];exact place_ge L id HU.out t (by rw [<-HK.out.1];exact h1) x hx1
 ·rintro e w' ⟨rfl,q,hw⟩
  have HB:Hid (Below w.heap.size w w'):=by
   show Below w.heap.size w w';rw [hw];exact below_two_drew w _ _ q
  clear hw HR;go_wp2_with fail;go_ret2;exact ⟨rfl,HB.out⟩
theorem has_any (x n:Int) (B p:Nat) (v:Value) (L:List E) (ok:Bool) (w:World) (h:GAt w B 168 61 p n v L) (hok:ok=decide (0<=x/\x<n)):
 Calls Tryz.prog 116 #[.pointer (some ⟨p,0,none⟩),.int .i64 x] w λ e w'=>e= .returned (.bool ok)/\w'=w:=by
 have hp:=h.c0;clear h;by_cases h0:0<=x
 ·by_cases h1:x<n
  ·have HO:Hid (ok=true):=by
    show ok=true;rw [hok];exact decide_eq_true ⟨h0,h1⟩
   clear hok;go_enter Tryz.func116,Tryz.ntmps116;go_wp2;go_ret;exact ⟨by rw [HO.out];rfl,rfl⟩
  ·have HO:Hid (ok=false):=by
    show ok=false;rw [hok];exact decide_eq_false (λ h=>h1 h.2)
   clear hok;go_enter Tryz.func116,Tryz.ntmps116;go_wp2;go_ret;exact ⟨by rw [HO.out];rfl,rfl⟩
 ·have HO:Hid (ok=false):=by
   show ok=false;rw [hok];exact decide_eq_false (λ h=>h0 h.1)
  clear hok;go_enter Tryz.func116,Tryz.ntmps116;go_wp2;go_ret;exact ⟨by rw [HO.out];rfl,rfl⟩
theorem nodes_any (n:Int) (B p:Nat) (v:Value) (L:List E) (w:World) (h:GAt w B 168 61 p n v L):
 Calls Tryz.prog 52 #[.pointer (some ⟨p,0,none⟩)] w λ e w'=>e= .returned (.int .i64 n)/\w'=w:=by
 have hp:=h.c0;clear h;go_enter Tryz.func52,Tryz.ntmps52;go_wp2;go_ret;exact ⟨rfl,rfl⟩
theorem new_in (n:Int) (w:World) (h0:0<=n) (h1:n<=40):
 Calls Tryz.prog 53 #[.int .i64 n] w λ e w'=>e= .returned (.tuple #[.pointer (some ⟨w.heap.size,0,none⟩),.nilIface])/\w'=w.alloc (.cells #[.int .i64 n,.slice none 0 0] 168):=by
 have g0:¬n<0:=by omega
 have g1:¬40<n:=by omega
 go_enter Tryz.func53,Tryz.ntmps53;go_wp2;go_ret2;exact ⟨rfl,rfl⟩
theorem addr_lit (b o n:Nat):(⟨b,o,none⟩:Addr).add n=⟨b,o+n,none⟩:=by
 unfold Addr.add;split
 ·next h=>rw [h];rfl
 ·rfl
theorem insert_end (B i vb:Nat) (v:Value) (L:List E) (x:E) (w:World) (h:Owns w B 61 v L) (hB:B<=w.heap.size) (hx:w.heap[vb]? =some (.cells (encE x).toArray 61)) (hi:i=L.length) (hl:L.length<=1000):
 Calls Tryz.prog 117 #[v,.int .i64 (i:Int),.slice (some ⟨vb,0,none⟩) 1 1] w λ e w'=>∃v',e= .returned v'/\Owns w' B 61 v' (L++[x])/\w.grownBy w' v.ownBlock/\Fresh w v v':=by
 obtain ⟨v',w',hr,h2,h3,h4⟩:=append_E 33 w B v L [x] h hB ⟨vb,0,none⟩ 1 1 rfl (cells_of_block hx) (by simp;omega);have HF:Hid (Owns w' B 61 v' (L++[x])/\w.grownBy w' v.ownBlock/\Fresh w v v'):=⟨h2,h3,h4⟩;clear h2 h3 h4 hx;rcases h.shape with ⟨rfl,hL⟩ | ⟨g,cap,rfl,h1,h2,h3,h4⟩
 ·subst hL
  have hi0:i=0:=hi;subst hi0;have HR:Hid (_=_):=hr;clear h hr hi hl;go_enter Tryz.func117,Tryz.ntmps117;go_wp2_with (at_builtin;refine Lib.wpList_append_run _ rfl _ _ _ _ rfl _ _ rfl rfl _ _ HR.out ?_);go_ret;exact ⟨v',rfl,HF.out⟩
 ·rw [<-hi] at hr h3 HF
  have h4':cap<=9223372036854775807:=by simp only [maxLen] at h4;omega
  have HF':Hid (Owns w' B 61 v' (L++[x])/\w.grownBy w' (some g)/\Fresh w (.slice (some ⟨g,0,none⟩) i cap) v'):=HF;have HR:Hid (_=_):=hr;clear h h4 HF hr;rw [<-hi];clear hi;go_enter Tryz.func117,Tryz.ntmps117;go_wp2_with (at_builtin;refine Lib.wpList_append_run _ rfl _ _ _ _ rfl _ _ rfl rfl _ _ HR.out ?_);all_goals
   go_ret;exact ⟨v',rfl,HF'.out⟩
theorem size61 (w:World):(Go.sizeOf 61).run Tryz.prog w= .ok 3 w:=by kernel_rfl
theorem isize61:(Tryz.prog.info? 61).map (·.size)=some 3:=by kernel_rfl
theorem no_overlap (w:World) (vb g o lb cb:Nat) (x:E) (cur:Array Value) (hne:vb≠g) (hx:w.heap[vb]? =some (.cells (encE x).toArray 61)) (hg:w.heap[g]? =some (.cells cur 61 (0,0))) (hc:cur.size≠0):
 (callFunc 228 #[.slice (some ⟨vb,0,none⟩) 1 1,.slice (some ⟨g,o,none⟩) lb cb]).run Tryz.prog w= .ok (.value (.bool false)) w:=by
 rw [run_callFunc_extern Tryz.func228 (by kernel_rfl) (by kernel_rfl) (by kernel_rfl) (e:=Extern.SlicesOverlaps.overlaps #[33,33] #[4]) (by kernel_rfl),
  Lib.run_overlaps_apart w 33 4 61 Tryz.underlying33 3 size61 ⟨vb,0,none⟩ ⟨g,o,none⟩ 1 1 lb cb hne 61 61 3 cur.size (by simp [World.shape?,hx,encE]) (by simp [World.shape?,hg]) hc (by simp [World.frozen?,hx]) (by simp [World.frozen?,hx])]
 rfl
theorem drop_cells {w:World} {B g:Nat} {v:Value} {L:List E} (h:Owns w B 61 v L) (hv:v.ownBlock=some g) (i:Nat):∀j u,(rowV (L.drop i))[j]? =some u->w.cell? ((⟨g,i*3,none⟩:Addr).add j)=some u:=by
 intro j u hu;rw [addr_lit];rw [<-rowV_drop,List.getElem?_drop] at hu;have:=World.ownsRow.cells h hv (i*3+j) u hu
 rwa [addr0_add] at this
theorem cell_heap {w W:World} (h:W.heap=w.heap) (a:Addr):W.cell? a=w.cell? a:=by simp [World.cell?,h]
theorem shift_done {w W:World} {B g cap i:Nat} {L:List E} {cur:Array Value} (x:E) (hs:W.heap=w.heap) (ho:W.os=w.os) (ht:W.tape=w.tape) (hp:W.output=w.output)
 (hg:w.heap[g]? =some (.cells cur 61 (0,0))) (hB:B<=g) (hi:i<=L.length) (htk:cur.toList.take (L.length*3)=rowV L) (hsz:cur.size=cap*3) (hc:L.length+1<=cap) (hm:cap<=maxLen) (A:Array Value) (W':World) (hW':W'=(W.setRow g A).setRow g (splice (shifted cur.toList L i) (i*3) (encE x)).toArray):
 Owns W' B 61 (.slice (some ⟨g,0,none⟩) (L.length+1) cap) (L.take i++x::L.drop i)/\w.grownBy W' (some g)/\Fresh w (.slice (some ⟨g,0,none⟩) L.length cap) (.slice (some ⟨g,0,none⟩) (L.length+1) cap):=by
 subst hW';have hlen:(L.take i++x::L.drop i).length=L.length+1:=by simp;omega
 have hg':W.heap[g]? =some (.cells cur 61 (0,0)):=by rw [hs];exact hg
 rw [setRow_setRow];refine ⟨⟨rowV_length _,Or.inr ⟨g,cap,_,by rw [hlen],hB,setRow_heap W g cur _ 61 (0,0) hg',by rw [hlen];exact hc,hm,?_,?_⟩⟩,⟨ho,ht,hp,by simp [hs],λ k hk hn=>?_⟩,λ k hk=>Or.inl hk⟩
 ·rw [List.size_toArray,length_splice _ _ _ (by rw [shifted_length hi (by simp;omega),encE_length];simp;omega),shifted_length hi (by simp;omega)]
  simpa using hsz
 ·show (splice _ _ _).take _=_
  rw [shifted_eq x hi htk (by simp;omega),List.take_left' (rowV_length _)]
 ·rw [setRow_other W g k _ (λ e=>hn (by rw [e])),hs]
theorem insert_shift (B i vb g cap:Nat) (L:List E) (x:E) (w:World) (h:Owns w B 61 (.slice (some ⟨g,0,none⟩) L.length cap) L) (hx:w.heap[vb]? =some (.cells (encE x).toArray 61)) (hne:vb≠g) (hi:i<L.length) (hl:L.length<=1000) (hc:L.length+1<=cap):
 Calls Tryz.prog 117 #[.slice (some ⟨g,0,none⟩) L.length cap,.int .i64 (i:Int),.slice (some ⟨vb,0,none⟩) 1 1] w λ e w'=>∃v',e= .returned v'/\Owns w' B 61 v' (L.take i++x::L.drop i)/\w.grownBy w' (some g)/\Fresh w (.slice (some ⟨g,0,none⟩) L.length cap) v':=by
 rcases h.2 with ⟨hv,_⟩ | ⟨g',cap',cur,hv,hBg,hg,_,hm,hsz,htk⟩
 ·simp at hv
 obtain ⟨hv1,_,hv2⟩:some (⟨g,0,none⟩:Addr)=some ⟨g',0,none⟩/\L.length=L.length/\cap=cap':=by
  injection hv with a b c
  exact ⟨a,b,c⟩
 obtain rfl:g=g':=by simpa using hv1
 subst hv2;have hov:=λ (W:World) (hW:W.heap=w.heap) lb cb=>no_overlap W vb g ((i+1)*3) lb cb x cur hne (by rw [hW];exact hx) (by rw [hW];exact hg) (by omega)
 have hcp1:∀(W:World),W.heap=w.heap->∀ty dc sc,(Builtin.copy_ #[33,33] ty #[.slice (some ⟨g,(i+1)*3,none⟩) (L.length-i) dc,.slice (some ⟨g,i*3,none⟩) (L.length+1-i) sc]).run Tryz.prog W= .ok (goInt (Nat.min (L.length+1-i) (L.length-i))) (W.setRow g (shifted cur.toList L i).toArray):=λ W hW ty dc sc=>
  run_copy_rowK W 33 33 ty 61 3 g ((i+1)*3) (L.length-i) dc ⟨g,i*3,none⟩ (L.length+1-i) sc cur.toList 61 (rowV (L.drop i)) Tryz.underlying33 isize61 (by rw [hW,Array.toArray_toList];exact hg) (by rw [rowV_length,List.length_drop,Nat.min_eq_min,Nat.min_eq_right (by omega)]) (λ j u hu=>by rw [cell_heap hW];exact drop_cells h rfl i j u hu)
   (by rw [rowV_length];simp;omega) (rowV_one _)
 have hcp2:∀(W:World),W.heap[g]? =some (.cells (shifted cur.toList L i).toArray 61 (0,0))->W.heap[vb]? =some (.cells (encE x).toArray 61)->∀ty dc,(Builtin.copy_ #[33,33] ty #[.slice (some ⟨g,i*3,none⟩) (L.length+1-i) dc,.slice (some ⟨vb,0,none⟩) 1 1]).run Tryz.prog W= .ok (goInt (Nat.min 1 (L.length+1-i))) (W.setRow g (splice (shifted cur.toList L i) (i*3) (encE x)).toArray):=λ W hW hV ty dc=>
  run_copy_rowK W 33 33 ty 61 3 g (i*3) (L.length+1-i) dc ⟨vb,0,none⟩ 1 1 (shifted cur.toList L i) 61 (encE x) Tryz.underlying33 isize61 hW (by rw [encE_length,Nat.min_eq_min,Nat.min_eq_left (by omega)]) (λ j u hu=>cells_of_block hV j u (by simpa [rowV] using hu))
   (by rw [shifted_length (by omega) (by simp;omega),encE_length];simp;omega) (λ u hu=>rowV_one [x] u (by simpa [rowV] using hu))
 have HV:Hid (w.heap[vb]? =some (.cells (encE x).toArray 61)):=hx;have HG:Hid (w.heap[g]? =some (.cells cur 61 (0,0))):=hg;have HD:Hid (∀(W W':World) (A:Array Value),W.heap=w.heap->W.os=w.os->W.tape=w.tape->W.output=w.output->W'=(W.setRow g A).setRow g (splice (shifted cur.toList L i) (i*3) (encE x)).toArray->Owns W' B 61 (.slice (some ⟨g,0,none⟩) (L.length+1) cap) (L.take i++x::L.drop i)/\w.grownBy W' (some g)/\Fresh w (.slice (some ⟨g,0,none⟩) L.length cap) (.slice (some ⟨g,0,none⟩) (L.length+1) cap)):=
  λ W W' A e1 e2 e3 e4 e5=>shift_done x e1 e2 e3 e4 hg hBg (by omega) htk hsz hc hm A W' e5
 have hcap:cap<=9223372036854775807:=by simp only [maxLen] at hm;omega
 clear h hv hv1 hBg hg htk hsz hm hx;have HS1:Hid (∀(W:World),W.heap=w.heap->(W.setRow g (shifted cur.toList L i).toArray).heap[g]? =some (.cells (shifted cur.toList L i).toArray 61 (0,0))):=λ W hW=>setRow_heap W g cur _ 61 (0,0) (by rw [hW];exact HG.out)
 have HS2:Hid (∀(W:World),W.heap=w.heap->(W.setRow g (shifted cur.toList L i).toArray).heap[vb]? =some (.cells (encE x).toArray 61)):=λ W hW=>by rw [setRow_other W g vb _ hne,hW];exact HV.out
 have HO:Hid (∀(W:World),W.heap=w.heap->∀lb cb,(callFunc 228 #[.slice (some ⟨vb,0,none⟩) 1 1,.slice (some ⟨g,(i+1)*3,none⟩) lb cb]).run Tryz.prog W= .ok (.value (.bool false)) W):=hov;have HC1:Hid _:=hcp1;have HC2:Hid _:=hcp2;clear hov hcp1 hcp2;generalize (shifted cur.toList L i)=S1 at*;generalize (splice S1 (i*3) (encE x))=S2 at*;generalize hnn:L.length=n at*;have hz2:¬((i:Int)=(n:Int)):=by omega
 have hin:i<=n:=by omega
 have hb2:¬(cap=i+1):=by omega
 have hb4:¬(cap=i):=by omega
 have hb3:(i:Int)<=(n:Int)+1:=by omega
 have hw1:IntKind.i64.wrap ((i:Int)+1)=(i:Int)+1:=by rw [IntKind.wrap_i64];omega
 have hb1:(0:Int)<=(i:Int)+1:=by omega
 have htn:((i:Int)+1).toNat=i+1:=by omega
 have hb5:n+1-(i+1)=n-i:=by omega
 clear hnn;go_enter Tryz.func117,Tryz.ntmps117;go_wp2_with (rw [HO.out _ rfl]);have hc1:∀ty dc sc,(Builtin.copy_ #[33,33] ty #[.slice (some ⟨g,(i+1)*3,none⟩) (n-i) dc,.slice (some ⟨g,i*3,none⟩) (n+1-i) sc]).run Tryz.prog w.drew= .ok (goInt (Nat.min (n+1-i) (n-i))) (w.drew.setRow g S1.toArray):=λ ty dc sc=>HC1.out w.drew rfl ty dc sc
 generalize hW1:w.drew.setRow g S1.toArray=W1 at hc1;go_region
 have HS3:Hid (W1.heap[g]? =some (.cells S1.toArray 61 (0,0))/\W1.heap[vb]? =some (.cells (encE x).toArray 61)):=by rw [<-hW1];exact ⟨HS1.out _ rfl,HS2.out _ rfl⟩
 have HW1:Hid (w.drew.setRow g S1.toArray=W1):=hW1;clear hc1 hW1;have hc2:∀ty dc,(Builtin.copy_ #[33,33] ty #[.slice (some ⟨g,i*3,none⟩) (n+1-i) dc,.slice (some ⟨vb,0,none⟩) 1 1]).run Tryz.prog W1= .ok (goInt (Nat.min 1 (n+1-i))) (W1.setRow g S2.toArray):=λ ty dc=>HC2.out W1 HS3.out.1 HS3.out.2 ty dc
 generalize hW2:W1.setRow g S2.toArray=W2 at hc2;have HW2:Hid (W1.setRow g S2.toArray=W2):=hW2;clear hW2;go_wp2;go_ret;exact ⟨_,rfl,HD.out w.drew _ _ rfl rfl rfl rfl (by rw [HW1.out,HW2.out])⟩
theorem zeroE_length (n:Nat):(Builtin.zeroCells zE.cells n).toList.length=n*3:=by
 rw [zE_cells];simp [Builtin.zeroCells]
theorem insert_grow (B i vb g cap:Nat) (L:List E) (x:E) (w:World) (h:Owns w B 61 (.slice (some ⟨g,0,none⟩) L.length cap) L) (hB:B<=w.heap.size) (hx:w.heap[vb]? =some (.cells (encE x).toArray 61)) (hi:i<L.length) (hl:L.length<=1000) (hnc:L.length<=cap) (hc:cap<L.length+1):
 Calls Tryz.prog 117 #[.slice (some ⟨g,0,none⟩) L.length cap,.int .i64 (i:Int),.slice (some ⟨vb,0,none⟩) 1 1] w λ e w'=>∃v',e= .returned v'/\Owns w' B 61 v' (L.take i++x::L.drop i)/\w.grownBy w' (some g)/\Fresh w (.slice (some ⟨g,0,none⟩) L.length cap) v':=by
 obtain ⟨inf,hinf,hs,hb,hz⟩:=info61;have hglt:g<w.heap.size:=(World.ownsRow.lt h g rfl).2;have hvlt:vb<w.heap.size:=lt_of_some hx;obtain ⟨N,hN⟩:∃N,N=w.heap.size:=⟨_,rfl⟩;obtain ⟨G,hG⟩:∃G,G=grownCap w (L.length+1) cap 61:=⟨_,rfl⟩;have hGn:L.length+1<=G:=by rw [hG];exact grownCap_ge w _ _ _
 have hGm:G<=maxLen:=by rw [hG];exact grownCap_le_maxLen w _ cap 61 (by simp only [maxLen];omega)
 obtain ⟨Z,hZ⟩:∃Z,Z=(Builtin.zeroCells zE.cells (L.length+1-i)).toList:=⟨_,rfl⟩;obtain ⟨Y,hY⟩:∃Y,Y=(Builtin.zeroCells zE.cells (G-(L.length+1))).toList:=⟨_,rfl⟩;have hZl:Z.length=(L.length+1-i)*3:=by rw [hZ,zeroE_length]
 have hYl:Y.length=(G-(L.length+1))*3:=by rw [hY,zeroE_length]
 have hti:(rowV (L.take i)).length=i*3:=by rw [rowV_length];simp;omega
 have hold:(Builtin.firstCells inf.size i (.slice (some ⟨g,0,none⟩) i cap)).run Tryz.prog w.drew= .ok (rowV (L.take i)).toArray w.drew:=by
  rw [hs];refine run_firstCells_some w.drew 3 i ⟨g,0,none⟩ i cap (rowV (L.take i)) hti (λ j v hj=>?_);refine World.ownsRow.cells h rfl j v ?_;rw [<-rowV_take,List.getElem?_take] at hj;split at hj
  ·exact hj
  ·cases hj
 have hrz:∀ty,(Builtin.append_ #[33,3] ty #[.slice (some ⟨g,0,none⟩) i cap,.int .i64 ((L.length:Int)+1-(i:Int))]).run Tryz.prog w=
  .ok (.slice (some ⟨N,0,none⟩) (L.length+1) G) (w.drew.alloc (.cells (rowV (L.take i)++(Z++Y)).toArray 61)):=λ ty=>by
  have hik:i+(L.length+1-i)=L.length+1:=by omega
  have e:=Lib.run_append_grow_zeros w 33 3 ty 61 inf zE .i64 .i64 Tryz.underlying33 Tryz.underlying3 hinf hz (some ⟨g,0,none⟩) i cap (rowV (L.take i)) hold (L.length+1-i) (by omega) (by rw [hs];omega) (by omega) (by omega) (by rw [hb];omega) (by rw [hb,hik];exact growslice_fits (by omega) (by omega));rw [hik,<-hG] at e;rw [show (L.length:Int)+1-(i:Int)=((L.length+1-i:Nat):Int) by omega,e,hN]
  congr 3
  apply Array.ext';rw [hZ,hY];simp
 obtain ⟨W1,hW1⟩:∃W1,W1=w.drew.alloc (.cells (rowV (L.take i)++(Z++Y)).toArray 61):=⟨_,rfl⟩;rw [<-hW1] at hrz;have g1:W1.heap[N]? =some (.cells (rowV (L.take i)++(Z++Y)).toArray 61 (0,0)):=by rw [hW1,hN];exact heap_alloc_new w.drew _
 have o1:∀k,k<N->W1.heap[k]? =w.heap[k]? :=λ k hk=>by rw [hW1];exact heap_alloc_old w.drew _ (show k<w.drew.heap.size by rw [hN] at hk;exact hk)
 obtain ⟨S1,hS1⟩:∃S1,S1=splice (rowV (L.take i)++(Z++Y)) (i*3) (encE x):=⟨_,rfl⟩;have l1:S1.length=G*3:=by rw [hS1,length_splice _ _ _ (by rw [encE_length];simp [hti,hZl];omega)];simp [hti,hZl,hYl];omega
 have hc1:∀ty dc,(Builtin.copy_ #[33,33] ty #[.slice (some ⟨N,i*3,none⟩) (L.length+1-i) dc,.slice (some ⟨vb,0,none⟩) 1 1]).run Tryz.prog W1= .ok (goInt (Nat.min 1 (L.length+1-i))) (W1.setRow N S1.toArray):=λ ty dc=>by
  rw [hS1];exact run_copy_rowK W1 33 33 ty 61 3 N (i*3) (L.length+1-i) dc ⟨vb,0,none⟩ 1 1 _ 61 (encE x) Tryz.underlying33 isize61 g1 (by rw [encE_length,Nat.min_eq_min,Nat.min_eq_left (by omega)]) (λ j u hu=>cells_of_block (by rw [o1 vb (by omega)];exact hx) j u (by simpa [rowV] using hu))
   (by rw [encE_length];simp [hti,hZl];omega) (λ u hu=>rowV_one [x] u (by simpa [rowV] using hu))
 obtain ⟨W2,hW2⟩:∃W2,W2=W1.setRow N S1.toArray:=⟨_,rfl⟩;rw [<-hW2] at hc1;have g2:W2.heap[N]? =some (.cells S1.toArray 61 (0,0)):=by rw [hW2];exact setRow_heap W1 N _ _ 61 (0,0) g1
 have o2:∀k,k<N->W2.heap[k]? =w.heap[k]? :=λ k hk=>by rw [hW2,setRow_other W1 N k _ (by omega)];exact o1 k hk
 have hc2:∀ty dc sc,(Builtin.copy_ #[33,33] ty #[.slice (some ⟨N,(i+1)*3,none⟩) (L.length-i) dc,.slice (some ⟨g,i*3,none⟩) (L.length-i) sc]).run Tryz.prog W2.drew= .ok (goInt (Nat.min (L.length-i) (L.length-i))) (W2.drew.setRow N (splice S1 ((i+1)*3) (rowV (L.drop i))).toArray):=λ ty dc sc=>
  run_copy_rowK W2.drew 33 33 ty 61 3 N ((i+1)*3) (L.length-i) dc ⟨g,i*3,none⟩ (L.length-i) sc S1 61 (rowV (L.drop i)) Tryz.underlying33 isize61 g2 (by rw [rowV_length,List.length_drop,Nat.min_eq_min,Nat.min_self]) (λ j u hu=>by
   have:=drop_cells h rfl i j u hu;rw [addr_lit] at this ⊢;rw [World.cell?_of_block (show W2.drew.heap[(⟨g,i*3+j,none⟩:Addr).block]? =w.heap[(⟨g,i*3+j,none⟩:Addr).block]? from o2 g (by omega))];exact this)
   (by rw [rowV_length,l1];simp;omega) (rowV_one _)
 obtain ⟨W3,hW3⟩:∃W3,W3=W2.drew.setRow N (splice S1 ((i+1)*3) (rowV (L.drop i))).toArray:=⟨_,rfl⟩;rw [<-hW3] at hc2;have HD:Hid (Owns W3 B 61 (.slice (some ⟨N,0,none⟩) (L.length+1) G) (L.take i++x::L.drop i)/\w.grownBy W3 (some g)/\Fresh w (.slice (some ⟨g,0,none⟩) L.length cap) (.slice (some ⟨N,0,none⟩) (L.length+1) G)):=by
  have hlen:(L.take i++x::L.drop i).length=L.length+1:=by simp;omega
  have g3:W3.heap[N]? =some (.cells (splice S1 ((i+1)*3) (rowV (L.drop i))).toArray 61 (0,0)):=by rw [hW3];exact setRow_heap W2.drew N _ _ 61 (0,0) g2
  refine ⟨⟨rowV_length _,Or.inr ⟨N,G,_,by rw [hlen],by omega,g3,by rw [hlen];exact hGn,hGm,?_,?_⟩⟩,⟨by rw [hW3,hW2,hW1];rfl,by rw [hW3,hW2,hW1];rfl,by rw [hW3,hW2,hW1];rfl,by rw [hW3,hW2,hW1];simp,λ k hk _=>?_⟩,λ k hk=>?_⟩
  ·rw [List.size_toArray,length_splice _ _ _ (by rw [rowV_length,l1];simp;omega),l1]
  ·show (splice _ _ _).take _=_
   rw [hS1,grown_eq x Z Y (by omega) hZl,List.take_left' (rowV_length _)]
  ·rw [hW3,setRow_other _ N k _ (by omega)]
   exact o2 k (by omega)
  ·have hk':N=k:=by simpa [Value.ownBlock] using hk
   exact Or.inr (by omega)
 have hG63:G<=9223372036854775807:=by simp only [maxLen] at hGm;omega
 clear h hx hold hW1 hW2 hW3 hG hGm hZ hY hZl hYl hti g1 o1 g2 o2 hS1 l1 hinf hs hb hz hglt hvlt hN;generalize hnn:L.length=n at*;have hz2:¬((i:Int)=(n:Int)):=by omega
 have hin:i<=n:=by omega
 have hGi:¬(G=i):=by omega
 have hGim:¬(G=i+1):=by omega
 have hci:¬(cap=i):=by omega
 have hb3:(i:Int)<=(n:Int):=by omega
 have hb6:(i:Int)<=(n:Int)+1:=by omega
 have hz3:(cap:Int)<(n:Int)+1:=by omega
 have hw1:IntKind.i64.wrap ((i:Int)+1)=(i:Int)+1:=by rw [IntKind.wrap_i64];omega
 have hb1:(0:Int)<=(i:Int)+1:=by omega
 have htn:((i:Int)+1).toNat=i+1:=by omega
 have hb5:n+1-(i+1)=n-i:=by omega
 clear hnn hB;go_enter Tryz.func117,Tryz.ntmps117;go_wp2_with (at_builtin;refine Lib.wpList_append_run _ rfl _ _ _ _ rfl _ _ rfl rfl _ _ (hrz _) ?_);all_goals clear hrz
 go_region
 go_wp2;go_ret;exact ⟨_,rfl,HD.out⟩
theorem insert_any (B i vb:Nat) (v:Value) (L M:List E) (x:E) (w:World) (h:Owns w B 61 v L) (hB:B<=w.heap.size) (hx:w.heap[vb]? =some (.cells (encE x).toArray 61)) (hne:v.ownBlock≠some vb) (hi:i<=L.length) (hl:L.length<=1000) (hM:M=L.take i++x::L.drop i):
 Calls Tryz.prog 117 #[v,.int .i64 (i:Int),.slice (some ⟨vb,0,none⟩) 1 1] w λ e w'=>∃v',e= .returned v'/\Owns w' B 61 v' M/\w.grownBy w' v.ownBlock/\Fresh w v v':=by
 subst hM;rcases Nat.lt_or_eq_of_le hi with hlt | he
 ·rcases h.shape with ⟨_,hL⟩ | ⟨g,cap,rfl,h1,h2,h3,h4⟩
  ·rw [hL] at hlt;simp at hlt
  ·have hne':vb≠g:=λ e=>hne (by simp [Value.ownBlock,e])
   by_cases hr:L.length+1<=cap
   ·exact insert_shift B i vb g cap L x w h hx hne' hlt hl hr
   ·exact insert_grow B i vb g cap L x w h hB hx hlt hl h3 (by omega)
 ·have e:L.take i++x::L.drop i=L++[x]:=by rw [he];simp
  rw [e];exact insert_end B i vb v L x w h hB hx he hl
theorem has_t (x n:Int) (B p:Nat) (v:Value) (L:List E) (w:World) (h:GAt w B 168 61 p n v L) (hx:0<=x/\x<n):
 Calls Tryz.prog 116 #[.pointer (some ⟨p,0,none⟩),.int .i64 x] w λ e w'=>e= .returned (.bool true)/\w'=w:=has_any x n B p v L true w h (decide_eq_true hx).symm
theorem step1_of {w w1 w2:World} {B gT p:Nat} {n:Int} {v u:Value} {L M:List E} (h:GAt w1 B gT 61 p n v L) (hb:Below w.heap.size w w1) (hg:w1.grownBy w2 v.ownBlock) (hr:Owns w2 B 61 u M) (hf:Fresh w1 v u) (hp:p<w.heap.size):Step1 w (w2.setCell ⟨p,1,none⟩ u) B gT p n v M:=by
 have hu:u.ownBlock≠some p:=by
  intro e;rcases hf p e with h1 | h1
  ·exact h.ne h1
  ·have:=hb.size;omega
 refine ⟨u,h.store hg hr hu,((Kept.of_below hb).trans (Kept.of_grown hg)).setCell 1 u,λ k hk=>?_⟩;rcases hf k hk with h1 | h1
 ·exact Or.inl h1
 ·exact Or.inr (Nat.le_trans hb.size h1)
theorem add_ok (id a b n lo hi:Int) (B p:Nat) (v:Value) (L M:List E) (w:World) (h:GAt w B 168 61 p n v L) (hB:B<=w.heap.size) (hu:Up L) (hl:L.length<120) (hr:InRange id a b n) (hab:a≠b) (hs:seen L id=none) (hlo:lo=min a b) (hhi:hi=max a b) (hM:M=putE L (id,lo,hi)):
 Calls Tryz.prog 56 #[.pointer (some ⟨p,0,none⟩),.int .i64 id,.int .i64 a,.int .i64 b] w λ e w'=>e= .returned .nilIface/\Step1 w w' B 168 p n v M:=by
 obtain ⟨k,hk⟩:∃k,k=place L id:=⟨_,rfl⟩;have hkl:k<=L.length:=by rw [hk];exact place_le L id
 have HC:Hid (Calls Tryz.prog 114 #[.pointer (some ⟨p,0,none⟩),.int .i64 id] w λ e w'=>e= .returned (.tuple #[.int .i64 (k:Int),.bool false])/\Below w.heap.size w w'):=find_any id B p k n v L false w h hu (by omega) hk (by rw [hs];rfl);have HG:Hid (GAt w B 168 61 p n v L):=h;have h1:¬id<0:=by have:=hr.1.1;omega
 have h2:¬1099511627776<id:=by have:=hr.1.2;omega
 have H3:Hid (0<=a/\a<n):=hr.2.1;have H4:Hid (0<=b/\b<n):=hr.2.2;have h5:(a==b)=false:=beq_eq_false_iff_ne.2 hab;have HM:Hid (M=L.take k++(id,lo,hi)::L.drop k):=by
  show M=_;rw [hM,hk];rfl
 have HL:Hid (k<=L.length/\L.length<=1000):=⟨hkl,by omega⟩;have HBB:Hid (B<=w.heap.size):=hB;have hsl:=h.row.slice_len;obtain ⟨va,vc,hv⟩:=hsl;obtain ⟨m,hm⟩:∃m,m=L.length:=⟨_,rfl⟩;rw [<-hm] at hl hv hkl;have hl':¬((120:Int)<=(m:Int)):=by omega
 have HV:Hid (v= .slice va m vc):=hv;clear hr h hu hs hM hm hB hv hk;have fin:∀(w3:World),Below w.heap.size w w3->Calls Tryz.prog 117 #[.slice va m vc,.int .i64 (k:Int),.slice (some ⟨w3.heap.size,0,none⟩) 1 1] (w3.alloc (.cells #[.int .i64 id,.int .i64 lo,.int .i64 hi] 61)) λ e w4=>∃a' m' c',e= .returned (.slice a' m' c')/\Step1 w (w4.setCell ⟨p,1,none⟩ (.slice a' m' c')) B 168 p n v M/\w4.cell? ⟨p,1,none⟩=some v/\w4.frozen? ⟨p,1,none⟩=false:=by
  intro w3 hb;have hb2:Below w.heap.size w (w3.alloc (.cells #[.int .i64 id,.int .i64 lo,.int .i64 hi] 61)):=hb.alloc hb.size _;have hg:=HG.out.below hb2;rw [<-HV.out];refine (insert_any B k w3.heap.size v L M (id,lo,hi) _ hg.row (Nat.le_trans HBB.out hb2.size) (heap_alloc_new w3 _) (λ e=>?_) HL.out.1 HL.out.2 HM.out).mono ?_
  ·have:=(HG.out.lt e).2
   have:=hb.size;omega
  ·rintro e w4 ⟨v',rfl,i1,i2,i3⟩
   obtain ⟨a',m',c',rfl⟩:=i1.slice;exact ⟨a',m',c',rfl,step1_of hg hb2 i2 i1 i3 HG.out.plt,(cell_p hg i2).1,(cell_p hg i2).2⟩
 have HFIN:Hid (∀(w3:World),Below w.heap.size w w3->Calls Tryz.prog 117 #[.slice va m vc,.int .i64 (k:Int),.slice (some ⟨w3.heap.size,0,none⟩) 1 1] (w3.alloc (.cells #[.int .i64 id,.int .i64 lo,.int .i64 hi] 61)) λ e w4=>∃a' m' c',e= .returned (.slice a' m' c')/\Step1 w (w4.setCell ⟨p,1,none⟩ (.slice a' m' c')) B 168 p n v M/\w4.cell? ⟨p,1,none⟩=some v/\w4.frozen? ⟨p,1,none⟩=false):=fin;clear fin;rcases Int.lt_or_gt_of_ne hab with hlt | hgt
 ·obtain rfl:lo=a:=by rw [hlo];omega
  obtain rfl:hi=b:=by rw [hhi];omega
  clear hlo hhi hab;go_enter Tryz.func56,Tryz.ntmps56;go_wp2_with fail;refine (has_t lo n B p v L w HG.out H3.out).mono ?_;rintro e w1 ⟨rfl,rfl⟩;go_wp2_with fail;refine (has_t hi n B p v L w1 HG.out H4.out).mono ?_;rintro e w2 ⟨rfl,rfl⟩;go_wp2_with fail;refine HC.out.mono ?_;rintro e w3 ⟨rfl,hb⟩;have HB:Hid (Below w2.heap.size w2 w3):=hb;have hp:=(HG.out.below hb).c1;rw [HV.out] at hp;clear hb HC;go_wp2_with fail;refine (HFIN.out w3 HB.out).mono ?_;rintro e w4 ⟨a',m',c',rfl,hst,q1,q2⟩;have HST:Hid (Step1 w2 (w4.setCell ⟨p,1,none⟩ (.slice a' m' c')) B 168 p n v M):=hst;clear hst;go_wp2_with fail;go_ret;exact ⟨rfl,HST.out⟩
 ·obtain rfl:lo=b:=by rw [hlo];omega
  obtain rfl:hi=a:=by rw [hhi];omega
  clear hlo hhi hab;go_enter Tryz.func56,Tryz.ntmps56;go_wp2_with fail;refine (has_t hi n B p v L w HG.out H3.out).mono ?_;rintro e w1 ⟨rfl,rfl⟩;go_wp2_with fail;refine (has_t lo n B p v L w1 HG.out H4.out).mono ?_;rintro e w2 ⟨rfl,rfl⟩;go_wp2_with fail;refine HC.out.mono ?_;rintro e w3 ⟨rfl,hb⟩;have HB:Hid (Below w2.heap.size w2 w3):=hb;have hp:=(HG.out.below hb).c1;rw [HV.out] at hp;clear hb HC;go_wp2_with fail;refine (HFIN.out w3 HB.out).mono ?_;rintro e w4 ⟨a',m',c',rfl,hst,q1,q2⟩;have HST:Hid (Step1 w2 (w4.setCell ⟨p,1,none⟩ (.slice a' m' c')) B 168 p n v M):=hst;clear hst;go_wp2_with fail;go_ret;exact ⟨rfl,HST.out⟩
theorem ed1_any (x0 x1 x2:Int) (w:World):
 Calls Tryz.prog 106 #[.agg #[.int .i64 x0,.int .i64 x1,.int .i64 x2]] w λ e w'=>e= .returned (.bool true)/\Below w.heap.size w w':=by
 go_enter Tryz.func106,Tryz.ntmps106;go_wp2;go_ret;exact ⟨rfl,below_box _ _⟩
theorem those_any (f:Nat) (bs:List Value) (hfb:(f=106/\bs=[])\/(∃xb,f=321/\bs=[.pointer (some ⟨xb,0,none⟩)])\/∃eb nb,f=323/\bs=[.pointer (some ⟨eb,0,none⟩),.pointer (some ⟨nb,0,none⟩)]) (pf:E->Bool) (n:Int) (B p:Nat) (v:Value) (L:List E) (w:World) (h:GAt w B 168 61 p n v L) (hl:L.length<=120)
 (hf:∀W x0 x1 x2,Below w.heap.size w W->Calls Tryz.prog f (.agg #[.int .i64 x0,.int .i64 x1,.int .i64 x2]::bs).toArray W λ e w'=>e= .returned (.bool (pf (x0,x1,x2)))/\Below W.heap.size W w'):
 Calls Tryz.prog 105 #[.pointer (some ⟨p,0,none⟩),.func (.func f) #[] bs.toArray] w λ e w'=>∃u,e= .returned u/\Owns w' w.heap.size 61 u (L.filter pf)/\Below w.heap.size w w':=by
 rcases hfb with ⟨rfl,rfl⟩ | ⟨xb,rfl,rfl⟩ | ⟨eb,nb,rfl,rfl⟩
 all_goals
  have HF:=kd hf;have HG:Hid (GAt w B 168 61 p n v L):=h;obtain ⟨m,hm⟩:∃m,m=L.length:=⟨_,rfl⟩;have HM:Hid (m=L.length):=hm;have hp:=h.c1;obtain ⟨va,vc,hv⟩:=h.row.slice_len;rw [<-hm] at hv hl;have HV:Hid (v= .slice va m vc):=hv;rw [hv] at hp;clear hf h hv hm;go_enter Tryz.func105,Tryz.ntmps105;go_wp2_with fail;go_loopg [5,7,13] m (λ r s5 _ s13 wq=>∃k:Nat,s13= .int .i64 k/\k+r=m/\Owns wq w.heap.size 61 s5 ((L.take k).filter pf)/\Below w.heap.size w wq)
  case atStart=>exact ⟨0,rfl,by omega,World.ownsRow_nil _ _ _ _,Below.refl _ _⟩
  case round=>
   obtain ⟨k,rfl,hk,ho,hb⟩:=hrel;have HO:Hid (Owns wr w.heap.size 61 u5 ((L.take k).filter pf)):=ho;have HB:Hid (Below w.heap.size w wr):=hb;clear ho hb;by_cases hlt:k<m
   ·obtain ⟨x0,x1,x2,hx⟩:∃x0 x1 x2,L[k]? =some (x0,x1,x2):=⟨_,_,_,List.getElem?_eq_getElem (by rw [<-HM.out];exact hlt)⟩
    have HX:Hid (L[k]? =some (x0,x1,x2)):=hx;obtain ⟨g,hva⟩:∃g,va=some ⟨g,0,none⟩:=by
     rcases HG.out.row.shape with ⟨_,e⟩ | ⟨g,cap,e,_⟩
     ·rw [e] at hx;simp at hx
     ·rw [HV.out] at e
      injection e with e1 _ _
      exact ⟨g,e1⟩
    have hg1:=HG.out.below HB.out;obtain ⟨r0,r1,r2⟩:=hg1.row.at (g:=g) (by rw [HV.out,hva];rfl) hx;have r0':wr.cell? ⟨g,k*3,none⟩=some (.int .i64 x0):=r0;have r1':wr.cell? ⟨g,k*3+1,none⟩=some (.int .i64 x1):=r1;have r2':wr.cell? ⟨g,k*3+2,none⟩=some (.int .i64 x2):=r2;clear hg1 r0 r1 r2 hx;subst hva;have HB1:Hid (Below w.heap.size w (wr.alloc (.cells #[.int .i64 x0,.int .i64 x1,.int .i64 x2] 61))):=HB.out.alloc HB.out.size _;go_wp2_with fail;refine (HF.out _ x0 x1 x2 HB1.out).mono ?_;rintro e w2 ⟨rfl,hb2⟩;have hb2':Below (wr.heap.size+1) (wr.alloc (.cells #[.int .i64 x0,.int .i64 x1,.int .i64 x2] 61)) w2:=by simpa using hb2
    have HB2:Hid (Below w.heap.size w w2):=HB1.out.trans (hb2.mono HB1.out.size);have hb3:Below wr.heap.size wr w2:=(below_box wr _).trans (hb2'.mono (by omega));have HO2:Hid (Owns w2 w.heap.size 61 u5 ((L.take k).filter pf)):=HO.out.below hb3;cases hpf:pf (x0,x1,x2) with
    | true=>
      as_aux_lemma=>
      have hh:w2.heap[wr.heap.size]? =some (.cells #[.int .i64 x0,.int .i64 x1,.int .i64 x2] 61):=by rw [hb2'.block wr.heap.size (by omega)];exact heap_alloc_new wr _
      have q0:w2.cell? ⟨wr.heap.size,0,none⟩=some (.int .i64 x0):=by simp [World.cell?,hh]
      have q1:w2.cell? ⟨wr.heap.size,1,none⟩=some (.int .i64 x1):=by simp [World.cell?,hh]
      have q2:w2.cell? ⟨wr.heap.size,2,none⟩=some (.int .i64 x2):=by simp [World.cell?,hh]
      obtain ⟨v',w3,hr,ho3,hb4,_,_⟩:=app_one 33 w2 w.heap.size u5 _ x0 x1 x2 HO2.out HB2.out.size (by have:=filter_len L k pf;rw [<-HM.out] at this;omega);have HR:Hid (_=_):=hr;have HO3:Hid (Owns w3 w.heap.size 61 v' ((L.take (k+1)).filter pf)):=by
       show Owns w3 w.heap.size 61 v' ((L.take (k+1)).filter pf);rw [take_filter pf HX.out,hpf];exact ho3
      have HB3:Hid (Below w.heap.size w w3):=HB2.out.trans hb4;clear hr ho3 hb4 hh hb2 hb2' hb3 HO2 HO HB HB1 HB2 hpf r0' r1' r2';go_wp2_with (at_builtin;refine Lib.wpList_append_run _ rfl _ _ _ _ rfl _ _ rfl rfl _ _ HR.out ?_);go_roundg (gk-1);case measure=>omega
      case rel=>exact ⟨k+1,by go_num,by omega,HO3.out,HB3.out⟩
    | false=>
      as_aux_lemma=>
      have HO3:Hid (Owns w2 w.heap.size 61 u5 ((L.take (k+1)).filter pf)):=by
       show Owns w2 w.heap.size 61 u5 ((L.take (k+1)).filter pf);rw [take_filter pf HX.out,hpf]
       simpa using HO2.out
      clear hb2 hb2' hb3 HO2 HO HB HB1 hpf r0' r1' r2';go_wp2_with fail;go_roundg (gk-1);case measure=>omega
      case rel=>exact ⟨k+1,by go_num,by omega,HO3.out,HB2.out⟩
   ·have hke:L.take k=L:=List.take_of_length_le (by rw [<-HM.out];omega)
    have HO3:Hid (Owns wr w.heap.size 61 u5 (L.filter pf)):=by
     show Owns wr w.heap.size 61 u5 (L.filter pf);have:=HO.out;rw [hke] at this;exact this
    clear hke HO;go_wp2_with fail;go_ret;exact ⟨_,rfl,HO3.out,HB.out⟩
theorem those_ed (pf:E->Bool) (n:Int) (B p:Nat) (v:Value) (L:List E) (w:World) (h:GAt w B 168 61 p n v L) (hl:L.length<=120)
 (hf:∀W x0 x1 x2,Below w.heap.size w W->Calls Tryz.prog 106 #[.agg #[.int .i64 x0,.int .i64 x1,.int .i64 x2]] W λ e w'=>e= .returned (.bool (pf (x0,x1,x2)))/\Below W.heap.size W w'):
 Calls Tryz.prog 105 #[.pointer (some ⟨p,0,none⟩),.func (.func 106) #[] #[]] w λ e w'=>∃u,e= .returned u/\Owns w' w.heap.size 61 u (L.filter pf)/\Below w.heap.size w w':=those_any 106 [] (.inl ⟨rfl,rfl⟩) pf n B p v L w h hl hf
theorem edges_any (n:Int) (B p:Nat) (v:Value) (L:List E) (w:World) (h:GAt w B 168 61 p n v L) (hl:L.length<=120):
 Calls Tryz.prog 48 #[.pointer (some ⟨p,0,none⟩)] w λ e w'=>∃u,e= .returned u/\Owns w' w.heap.size 61 u L/\Below w.heap.size w w':=by
 have HC:Hid (Calls Tryz.prog 105 #[.pointer (some ⟨p,0,none⟩),.func (.func 106) #[] #[]] w λ e w'=>∃u,e= .returned u/\Owns w' w.heap.size 61 u L/\Below w.heap.size w w'):=by
  have:=those_ed (λ _=>true) n B p v L w h hl (λ W x0 x1 x2 _=>ed1_any x0 x1 x2 W);have e:L.filter (λ _=>true)=L:=by simp
  rw [e] at this;exact this
 clear h;go_enter Tryz.func48,Tryz.ntmps48;go_wp2_with fail;refine HC.out.mono ?_;rintro e w1 ⟨u,rfl,ho,hb⟩;have HR:Hid (Owns w1 w.heap.size 61 u L/\Below w.heap.size w w1):=⟨ho,hb⟩;clear ho hb HC;go_wp2_with fail;go_ret;exact ⟨_,rfl,HR.out⟩
theorem has_f (x n:Int) (B p:Nat) (v:Value) (L:List E) (w:World) (h:GAt w B 168 61 p n v L) (hx:¬(0<=x/\x<n)):
 Calls Tryz.prog 116 #[.pointer (some ⟨p,0,none⟩),.int .i64 x] w λ e w'=>e= .returned (.bool false)/\w'=w:=has_any x n B p v L false w h (decide_eq_false hx).symm
theorem add_range (id a b n:Int) (B p:Nat) (v:Value) (L:List E) (w:World) (h:GAt w B 168 61 p n v L) (hr:¬InRange id a b n):
 Calls Tryz.prog 56 #[.pointer (some ⟨p,0,none⟩),.int .i64 id,.int .i64 a,.int .i64 b] w λ e w'=>e= .returned (.iface 23 (.int .i64 2))/\Below w.heap.size w w':=by
 have HG:Hid (GAt w B 168 61 p n v L):=h;clear h;by_cases h1:id<0
 ·clear hr
  go_enter Tryz.func56,Tryz.ntmps56;go_wp2_with fail;go_ret;exact ⟨rfl,Below.refl _ _⟩
 by_cases h2:1099511627776<id
 ·clear hr
  go_enter Tryz.func56,Tryz.ntmps56;go_wp2_with fail;go_ret;exact ⟨rfl,Below.refl _ _⟩
 by_cases h3:0<=a/\a<n
 ·have h4:¬(0<=b/\b<n):=λ hb=>hr ⟨⟨by omega,by omega⟩,h3,hb⟩
  have H3:Hid (0<=a/\a<n):=h3;have H4:Hid (¬(0<=b/\b<n)):=h4;clear hr h3 h4;go_enter Tryz.func56,Tryz.ntmps56;go_wp2_with fail;refine (has_t a n B p v L w HG.out H3.out).mono ?_;rintro e w1 ⟨rfl,rfl⟩;go_wp2_with fail;refine (has_f b n B p v L w1 HG.out H4.out).mono ?_;rintro e w2 ⟨rfl,rfl⟩;go_wp2_with fail;go_ret;exact ⟨rfl,Below.refl _ _⟩
 ·have H3:Hid (¬(0<=a/\a<n)):=h3
  clear hr h3;go_enter Tryz.func56,Tryz.ntmps56;go_wp2_with fail;refine (has_f a n B p v L w HG.out H3.out).mono ?_;rintro e w1 ⟨rfl,rfl⟩;go_wp2_with fail;go_ret;exact ⟨rfl,Below.refl _ _⟩
theorem add_arg (id a n:Int) (B p:Nat) (v:Value) (L:List E) (w:World) (h:GAt w B 168 61 p n v L) (hr:InRange id a a n):
 Calls Tryz.prog 56 #[.pointer (some ⟨p,0,none⟩),.int .i64 id,.int .i64 a,.int .i64 a] w λ e w'=>e= .returned (.iface 23 (.int .i64 1))/\Below w.heap.size w w':=by
 have HG:Hid (GAt w B 168 61 p n v L):=h;have h1:¬id<0:=by have:=hr.1.1;omega
 have h2:¬1099511627776<id:=by have:=hr.1.2;omega
 have H3:Hid (0<=a/\a<n):=hr.2.1;clear hr h;go_enter Tryz.func56,Tryz.ntmps56;go_wp2_with fail;refine (has_t a n B p v L w HG.out H3.out).mono ?_;rintro e w1 ⟨rfl,rfl⟩;go_wp2_with fail;refine (has_t a n B p v L w1 HG.out H3.out).mono ?_;rintro e w2 ⟨rfl,rfl⟩;go_wp2_with fail;go_ret;exact ⟨rfl,Below.refl _ _⟩
theorem add_twice (id a b n:Int) (B p:Nat) (v:Value) (L:List E) (w:World) (h:GAt w B 168 61 p n v L) (hu:Up L) (hl:L.length<=120) (hr:InRange id a b n) (hab:a≠b) (hs:(seen L id).isSome=true):
 Calls Tryz.prog 56 #[.pointer (some ⟨p,0,none⟩),.int .i64 id,.int .i64 a,.int .i64 b] w λ e w'=>e= .returned (.iface 23 (.int .i64 9))/\Below w.heap.size w w':=by
 have HC:Hid (Calls Tryz.prog 114 #[.pointer (some ⟨p,0,none⟩),.int .i64 id] w λ e w'=>e= .returned (.tuple #[.int .i64 (place L id:Nat),.bool true])/\Below w.heap.size w w'):=find_any id B p (place L id) n v L true w h hu (by omega) rfl hs.symm;have HG:Hid (GAt w B 168 61 p n v L):=h;have h1:¬id<0:=by have:=hr.1.1;omega
 have h2:¬1099511627776<id:=by have:=hr.1.2;omega
 have H3:Hid (0<=a/\a<n):=hr.2.1;have H4:Hid (0<=b/\b<n):=hr.2.2;have h5:(a==b)=false:=beq_eq_false_iff_ne.2 hab;clear hr h hu hs hab;go_enter Tryz.func56,Tryz.ntmps56;go_wp2_with fail;refine (has_t a n B p v L w HG.out H3.out).mono ?_;rintro e w1 ⟨rfl,rfl⟩;go_wp2_with fail;refine (has_t b n B p v L w1 HG.out H4.out).mono ?_;rintro e w2 ⟨rfl,rfl⟩;go_wp2_with fail;refine HC.out.mono ?_;rintro e w3 ⟨rfl,hb⟩;have HB:Hid (Below w2.heap.size w2 w3):=hb;clear hb;go_wp2_with fail;go_ret;exact ⟨rfl,HB.out⟩
theorem add_full (id a b n:Int) (B p:Nat) (v:Value) (L:List E) (w:World) (h:GAt w B 168 61 p n v L) (hu:Up L) (hl:L.length<=120) (hr:InRange id a b n) (hab:a≠b) (hs:seen L id=none) (hf:120<=L.length):
 Calls Tryz.prog 56 #[.pointer (some ⟨p,0,none⟩),.int .i64 id,.int .i64 a,.int .i64 b] w λ e w'=>e= .returned (.iface 23 (.int .i64 12))/\Below w.heap.size w w':=by
 have HC:Hid (Calls Tryz.prog 114 #[.pointer (some ⟨p,0,none⟩),.int .i64 id] w λ e w'=>e= .returned (.tuple #[.int .i64 (place L id:Nat),.bool false])/\Below w.heap.size w w'):=find_any id B p (place L id) n v L false w h hu (by omega) rfl (by rw [hs];rfl);have HG:Hid (GAt w B 168 61 p n v L):=h;have h1:¬id<0:=by have:=hr.1.1;omega
 have h2:¬1099511627776<id:=by have:=hr.1.2;omega
 have H3:Hid (0<=a/\a<n):=hr.2.1;have H4:Hid (0<=b/\b<n):=hr.2.2;have h5:(a==b)=false:=beq_eq_false_iff_ne.2 hab;obtain ⟨va,vc,hv⟩:=h.row.slice_len;obtain ⟨m,hm⟩:∃m,m=L.length:=⟨_,rfl⟩;rw [<-hm] at hf hv;have hf':(120:Int)<=(m:Int):=by omega
 clear hr h hu hs hab hl hm;go_enter Tryz.func56,Tryz.ntmps56;go_wp2_with fail;refine (has_t a n B p v L w HG.out H3.out).mono ?_;rintro e w1 ⟨rfl,rfl⟩;go_wp2_with fail;refine (has_t b n B p v L w1 HG.out H4.out).mono ?_;rintro e w2 ⟨rfl,rfl⟩;go_wp2_with fail;refine HC.out.mono ?_;rintro e w3 ⟨rfl,hb⟩;have HB:Hid (Below w2.heap.size w2 w3):=hb;have hp:=(HG.out.below hb).c1;rw [hv] at hp;clear hb hv HC;go_wp2_with fail;go_ret;exact ⟨rfl,HB.out⟩
theorem index_any (a:Option Addr) (m cap:Nat) (F:Nat->Int) (x:Int) (w:World) (h:Ints w a m F) (hm:m<=1000):
 Calls Tryz.prog 361 #[.slice a m cap,.int .i64 x] w λ e w'=>∃r:Int,e= .returned (.int .i64 r)/\decide (0<=r)=among F m x/\w'=w:=by
 have HI:Hid (Ints w a m F):=h;clear h;go_enter Tryz.func361,Tryz.ntmps361;go_wp2_with fail;go_loopg [5,8] m (λ r _ s8 wq=>∃k:Nat,s8= .int .i64 k/\k+r=m/\(∀t,t<k->F t≠x)/\wq=w)
 case atStart=>exact ⟨0,rfl,by omega,λ t ht=>by omega,rfl⟩
 case round=>
  obtain ⟨k,rfl,hk,hno,rfl⟩:=hrel;by_cases hlt:k<m
  ·obtain ⟨bl,off,ha,hc⟩:=HI.out.some_ (by omega)
   have c:=hc k hlt;subst ha;clear hc;by_cases hy:x=F k
   ·as_aux_lemma=>
    have HA:Hid (decide (0<=(k:Int))=among F m x):=by
     show decide (0<=(k:Int))=among F m x;rw [among_hit hlt hy.symm];simp
    clear hno;generalize F k=y at*;subst hy;go_wp2_with fail;go_ret;exact ⟨k,rfl,HA.out,rfl⟩
   ·as_aux_lemma=>
    have HN:Hid (∀t,t<k+1->F t≠x):=by
     intro t ht;rcases Nat.lt_succ_iff_lt_or_eq.1 ht with h | h
     ·exact hno t h
     ·subst h;exact λ e=>hy e.symm
    clear hno;generalize F k=y at*;have hyb:(x==y)=false:=beq_eq_false_iff_ne.2 hy;clear hy;go_wp2_with fail;go_roundg (gk-1);case measure=>omega
    case rel=>exact ⟨k+1,by go_num,by omega,HN.out,rfl⟩
  ·have hke:m=k:=by omega
   have HA:Hid (decide (0<=(-1:Int))=among F m x):=by
    show decide (0<=(-1:Int))=among F m x;rw [among_miss (λ t ht=>hno t (by omega))];rfl
   clear hno;go_wp2_with fail;go_ret;exact ⟨-1,rfl,HA.out,rfl⟩
theorem contains_any (a:Option Addr) (m cap:Nat) (F:Nat->Int) (x:Int) (ok:Bool) (w:World) (h:Ints w a m F) (hm:m<=1000) (hok:among F m x=ok):
 Calls Tryz.prog 324 #[.slice a m cap,.int .i64 x] w λ e w'=>e= .returned (.bool ok)/\w'=w:=by
 have HI:Hid (Ints w a m F):=h;have HO:Hid (among F m x=ok):=hok;clear h hok;go_enter Tryz.func324,Tryz.ntmps324;go_wp2_with fail;refine (index_any a m cap F x w HI.out hm).mono ?_;rintro e w' ⟨r,rfl,hr,rfl⟩;have HR:Hid (decide (0<=r)=ok):=hr.trans HO.out;clear hr;go_wp2_with fail;go_ret;exact ⟨by rw [<-HR.out];rfl,rfl⟩
theorem at1_any (x0 x1 x2 y:Int) (xb:Nat) (ok:Bool) (w:World) (hc:w.cell? ⟨xb,0,none⟩=some (.int .i64 y)) (hok:(x1==y || x2==y)=ok):
 Calls Tryz.prog 321 #[.agg #[.int .i64 x0,.int .i64 x1,.int .i64 x2],.pointer (some ⟨xb,0,none⟩)] w λ e w'=>e= .returned (.bool ok)/\Below w.heap.size w w':=by
 have hlt:xb<w.heap.size:=lt_of_cell hc;by_cases h1:x1=y
 ·have HO:Hid (ok=true):=by
   show ok=true;rw [<-hok,h1];simp
  clear hok;subst h1;go_enter Tryz.func321,Tryz.ntmps321;go_wp2;go_ret;exact ⟨by rw [HO.out];rfl,below_box _ _⟩
 ·have h1b:(x1==y)=false:=beq_eq_false_iff_ne.2 h1
  by_cases h2:x2=y
  ·have HO:Hid (ok=true):=by
    show ok=true;rw [<-hok,h2];simp
   clear hok h1;subst h2;go_enter Tryz.func321,Tryz.ntmps321;go_wp2;go_ret;exact ⟨by rw [HO.out];rfl,below_box _ _⟩
  ·have h2b:(x2==y)=false:=beq_eq_false_iff_ne.2 h2
   have HO:Hid (ok=false):=by
    show ok=false;rw [<-hok,h1b,h2b];rfl
   clear hok h1 h2;go_enter Tryz.func321,Tryz.ntmps321;go_wp2;go_ret;exact ⟨by rw [HO.out];rfl,below_box _ _⟩
theorem wo1_any (x0 x1 x2:Int) (eb nb:Nat) (ae an:Option Addr) (me mn ce cn:Nat) (Fe Fn:Nat->Int) (ok:Bool) (w:World) (he:w.cell? ⟨eb,0,none⟩=some (.slice ae me ce)) (hn:w.cell? ⟨nb,0,none⟩=some (.slice an mn cn))
 (hie:Ints w ae me Fe) (hin:Ints w an mn Fn) (hme:me<=1000) (hmn:mn<=1000) (hok:(!among Fe me x0&&!among Fn mn x1&&!among Fn mn x2)=ok):
 Calls Tryz.prog 323 #[.agg #[.int .i64 x0,.int .i64 x1,.int .i64 x2],.pointer (some ⟨eb,0,none⟩),.pointer (some ⟨nb,0,none⟩)] w λ e w'=>e= .returned (.bool ok)/\Below w.heap.size w w':=by
 have hlt:eb<w.heap.size:=lt_of_cell he;have hlt2:nb<w.heap.size:=lt_of_cell hn;have HE:Hid (∀o,Ints (w.alloc o) ae me Fe):=λ o=>hie.below (below_box w o)
 have HN:Hid (∀o,Ints (w.alloc o) an mn Fn):=λ o=>hin.below (below_box w o)
 clear hie hin;cases hc1:among Fe me x0 with
 | true=>
   have HC1:Hid (among Fe me x0=true):=hc1;have HO:Hid (ok=false):=by
    show ok=false;rw [<-hok,hc1];rfl
   clear hok hc1;go_enter Tryz.func323,Tryz.ntmps323;go_wp2_with fail;refine (contains_any ae me ce Fe x0 true _ (HE.out _) hme HC1.out).mono ?_;rintro e w1 ⟨rfl,rfl⟩;go_wp2_with fail;go_ret;exact ⟨by rw [HO.out];rfl,below_box _ _⟩
 | false=>
   have HC1:Hid (among Fe me x0=false):=hc1;rw [hc1] at hok;clear hc1;cases hc2:among Fn mn x1 with
   | true=>
     have HC2:Hid (among Fn mn x1=true):=hc2;have HO:Hid (ok=false):=by
      show ok=false;rw [<-hok,hc2];rfl
     clear hok hc2;go_enter Tryz.func323,Tryz.ntmps323;go_wp2_with fail;refine (contains_any ae me ce Fe x0 false _ (HE.out _) hme HC1.out).mono ?_;rintro e w1 ⟨rfl,rfl⟩;go_wp2_with fail;refine (contains_any an mn cn Fn x1 true _ (HN.out _) hmn HC2.out).mono ?_;rintro e w1 ⟨rfl,rfl⟩;go_wp2_with fail;go_ret;exact ⟨by rw [HO.out];rfl,below_box _ _⟩
   | false=>
     have HC2:Hid (among Fn mn x1=false):=hc2;rw [hc2] at hok;clear hc2;have HC3:Hid (among Fn mn x2=!ok):=by
      show among Fn mn x2=!ok;rw [<-hok];simp
     clear hok;go_enter Tryz.func323,Tryz.ntmps323;go_wp2_with fail;refine (contains_any ae me ce Fe x0 false _ (HE.out _) hme HC1.out).mono ?_;rintro e w1 ⟨rfl,rfl⟩;go_wp2_with fail;refine (contains_any an mn cn Fn x1 false _ (HN.out _) hmn HC2.out).mono ?_;rintro e w1 ⟨rfl,rfl⟩;go_wp2_with fail;refine (contains_any an mn cn Fn x2 (!ok) _ (HN.out _) hmn HC3.out).mono ?_;rintro e w1 ⟨rfl,rfl⟩;cases ok
     ·go_wp2_with fail
      go_ret;exact ⟨rfl,below_box _ _⟩
     ·go_wp2_with fail
      go_ret;exact ⟨rfl,below_box _ _⟩
theorem those_at (pf:E->Bool) (n:Int) (B p:Nat) (xb:Nat) (v:Value) (L:List E) (w:World) (h:GAt w B 168 61 p n v L) (hl:L.length<=120)
 (hf:∀W x0 x1 x2,Below w.heap.size w W->Calls Tryz.prog 321 #[.agg #[.int .i64 x0,.int .i64 x1,.int .i64 x2],.pointer (some ⟨xb,0,none⟩)] W λ e w'=>e= .returned (.bool (pf (x0,x1,x2)))/\Below W.heap.size W w'):
 Calls Tryz.prog 105 #[.pointer (some ⟨p,0,none⟩),.func (.func 321) #[] #[.pointer (some ⟨xb,0,none⟩)]] w λ e w'=>∃u,e= .returned u/\Owns w' w.heap.size 61 u (L.filter pf)/\Below w.heap.size w w':=those_any 321 _ (.inr (.inl ⟨xb,rfl,rfl⟩)) pf n B p v L w h hl hf
theorem those_wo (pf:E->Bool) (n:Int) (B p:Nat) (eb nb:Nat) (v:Value) (L:List E) (w:World) (h:GAt w B 168 61 p n v L) (hl:L.length<=120)
 (hf:∀W x0 x1 x2,Below w.heap.size w W->Calls Tryz.prog 323 #[.agg #[.int .i64 x0,.int .i64 x1,.int .i64 x2],.pointer (some ⟨eb,0,none⟩),.pointer (some ⟨nb,0,none⟩)] W λ e w'=>e= .returned (.bool (pf (x0,x1,x2)))/\Below W.heap.size W w'):
 Calls Tryz.prog 105 #[.pointer (some ⟨p,0,none⟩),.func (.func 323) #[] #[.pointer (some ⟨eb,0,none⟩),.pointer (some ⟨nb,0,none⟩)]] w λ e w'=>∃u,e= .returned u/\Owns w' w.heap.size 61 u (L.filter pf)/\Below w.heap.size w w':=those_any 323 _ (.inr (.inr ⟨eb,nb,rfl,rfl⟩)) pf n B p v L w h hl hf
def ofNode (x:Int):E->Bool:=λ e=>e.2.1==x || e.2.2==x
theorem at_in (x n:Int) (B p:Nat) (v:Value) (L:List E) (w:World) (h:GAt w B 168 61 p n v L) (hl:L.length<=120) (hx:0<=x/\x<n):
 Calls Tryz.prog 245 #[.pointer (some ⟨p,0,none⟩),.int .i64 x] w λ e w'=>∃u,e= .returned (.tuple #[u,.nilIface])/\Owns w' w.heap.size 61 u (L.filter (ofNode x))/\Below w.heap.size w w':=by
 have hb0:=below_box w (.cells #[.int .i64 x] 3);have HC:Hid (Calls Tryz.prog 116 #[.pointer (some ⟨p,0,none⟩),.int .i64 x] (w.alloc (.cells #[.int .i64 x] 3)) λ e w'=>e= .returned (.bool true)/\w'=w.alloc (.cells #[.int .i64 x] 3)):=has_t x n B p v L _ (h.below hb0) hx;have HD:Hid (Calls Tryz.prog 105 #[.pointer (some ⟨p,0,none⟩),.func (.func 321) #[] #[.pointer (some ⟨w.heap.size,0,none⟩)]] (w.alloc (.cells #[.int .i64 x] 3)) λ e w'=>∃u,e= .returned u/\Owns w' w.heap.size 61 u (L.filter (ofNode x))/\Below w.heap.size w w'):=by
  have hc:(w.alloc (.cells #[.int .i64 x] 3)).cell? ⟨w.heap.size,0,none⟩=some (.int .i64 x):=by rw [World.cell?_alloc_at _ _ _ _ rfl];rfl
  have:=those_at (ofNode x) n B p w.heap.size v L _ (h.below hb0) hl (λ W x0 x1 x2 hb=>at1_any x0 x1 x2 x w.heap.size _ W ((hb.cell (p:=⟨w.heap.size,0,none⟩) (by simp)).trans hc) rfl);refine this.mono ?_;rintro e w' ⟨u,he,ho,hb⟩;exact ⟨u,he,ho.mono (by simp),hb0.trans (hb.mono (by simp))⟩
 clear h hx hb0;go_enter Tryz.func245,Tryz.ntmps245;go_wp2_with fail;refine HC.out.mono ?_;rintro e w1 ⟨rfl,hw⟩;have HW:Hid (w1=w.alloc (.cells #[.int .i64 x] 3)):=hw;clear hw HC;go_wp2_with fail;rw [HW.out];refine HD.out.mono ?_;rintro e w2 ⟨u,rfl,ho,hb⟩;have HR:Hid (Owns w2 w.heap.size 61 u (L.filter (ofNode x))/\Below w.heap.size w w2):=⟨ho,hb⟩;clear ho hb HD HW;go_wp2_with fail;go_ret2;exact ⟨_,rfl,HR.out⟩
theorem without_any (n:Int) (B p:Nat) (v:Value) (L:List E) (ae an:Option Addr) (me mn ce cn:Nat) (Fe Fn:Nat->Int) (w:World) (h:GAt w B 168 61 p n v L) (hl:L.length<=120) (hie:Ints w ae me Fe) (hin:Ints w an mn Fn) (hme:me<=1000) (hmn:mn<=1000):
 Calls Tryz.prog 257 #[.pointer (some ⟨p,0,none⟩),.slice ae me ce,.slice an mn cn] w λ e w'=>∃p' v',e= .returned (.pointer (some ⟨p',0,none⟩))/\GAt w' w.heap.size 168 61 p' n v' (L.filter (stays Fe Fn me mn))/\Below w.heap.size w w':=by
 obtain ⟨W0,hW0⟩:∃W0,W0=(w.alloc (.cells #[.slice ae me ce] 48)).alloc (.cells #[.slice an mn cn] 48):=⟨_,rfl⟩;have hb0:Below w.heap.size w W0:=by rw [hW0];exact ((Below.refl _ _).alloc (Nat.le_refl _) _).alloc (by simp) _
 have hs0:W0.heap.size=w.heap.size+1+1:=by rw [hW0];simp
 have he0:W0.cell? ⟨w.heap.size,0,none⟩=some (.slice ae me ce):=by
  rw [hW0,World.cell?_alloc_lt _ _ ⟨w.heap.size,0,none⟩ (by simp),World.cell?_alloc_at _ _ _ _ rfl];rfl
 have hn0:W0.cell? ⟨w.heap.size+1,0,none⟩=some (.slice an mn cn):=by
  rw [hW0,World.cell?_alloc_at _ _ _ _ (by simp)];rfl
 have hg0:=h.below hb0;have hc0:=hg0.c0;have HD:Hid (Calls Tryz.prog 105 #[.pointer (some ⟨p,0,none⟩),.func (.func 323) #[] #[.pointer (some ⟨w.heap.size,0,none⟩),.pointer (some ⟨w.heap.size+1,0,none⟩)]] W0.drew λ e w'=>∃a m c,e= .returned (.slice a m c)/\w'.cell? ⟨p,0,none⟩=some (.int .i64 n)/\Hid (Owns w' w.heap.size 61 (.slice a m c) (L.filter (stays Fe Fn me mn))/\Below w.heap.size w w')):=by
  have hbd:Below W0.heap.size W0 W0.drew:=⟨rfl,rfl,rfl,Nat.le_refl _,λ _ _=>rfl⟩;have hbd2:Below w.heap.size w W0.drew:=hb0.trans (hbd.mono hb0.size);have:=those_wo (stays Fe Fn me mn) n B p w.heap.size (w.heap.size+1) v L W0.drew (hg0.below hbd) hl (λ W x0 x1 x2 hb=>by
   have hbW:Below w.heap.size w W:=hbd2.trans (hb.mono (by show w.heap.size<=W0.heap.size;omega));exact wo1_any x0 x1 x2 w.heap.size (w.heap.size+1) ae an me mn ce cn Fe Fn _ W ((hb.cell (p:=⟨w.heap.size,0,none⟩) (by show w.heap.size<W0.heap.size;omega)).trans he0) ((hb.cell (p:=⟨w.heap.size+1,0,none⟩) (by show w.heap.size+1<W0.heap.size;omega)).trans hn0) (hie.below hbW) (hin.below hbW) hme hmn rfl)
  refine this.mono ?_;rintro e w' ⟨u,he,ho,hb⟩;obtain ⟨a,m,c,rfl⟩:=ho.slice;exact ⟨a,m,c,he,(hb.cell (p:=⟨p,0,none⟩) (hg0.below hbd).plt).trans hc0,ho.mono (by show w.heap.size<=W0.heap.size;omega),hbd2.trans (hb.mono (by show w.heap.size<=W0.heap.size;omega))⟩
 have HW0:Hid (W0=(w.alloc (.cells #[.slice ae me ce] 48)).alloc (.cells #[.slice an mn cn] 48)):=hW0;have hplt:=h.plt;clear hW0 hb0 hs0 he0 hn0 hg0 h hie hin;go_enter Tryz.func257,Tryz.ntmps257;go_wp2_with fail;rw [<-HW0.out];go_region_held (λ w'=>w'.cell? ⟨p,0,none⟩=some (.int .i64 n)) (go_keep) (first | (go_at_call 105;refine HD.out.mono ?_;rintro e w2 ⟨a',m',c',rfl,hq,hr⟩))
 all_goals
  go_wp2_with fail;go_ret;refine ⟨_,_,rfl,⟨heap_alloc_new _ _,hr.out.1.below (below_box _ _),?_⟩,hr.out.2.trans ((below_box _ _).mono hr.out.2.size)⟩;intro e;have:=(World.ownsRow.lt hr.out.1 _ e).2;omega
variable {P:Program}
theorem run_clear_rowK (w:World) (t e ty:TypeId) (z:Value) (ht:P.underlying t=some (.slice e)) (hv:∀w,(zeroValue e).run P w= .ok z w) (g o n c:Nat) (hn:0<n) (cur:List Value) (te:TypeId)
 (hg:w.heap[g]? =some (.cells cur.toArray te (0,0))) (hfit:o+(Builtin.zeroCells z.cells n).toList.length<=cur.length) (h1:∀v∈(Builtin.zeroCells z.cells n).toList,v.oneCell'=true):
 (Builtin.clear_ #[t] ty #[.slice (some ⟨g,o,none⟩) n c]).run P w= .ok (.tuple #[]) (w.setRow g (splice cur o (Builtin.zeroCells z.cells n).toList).toArray):=by
 have hst:=run_storeCells_at P g o te _ 0 cur.toArray w hg (by simpa using hfit) h1;simp only [Nat.add_zero] at hst;obtain ⟨m,rfl⟩:∃m,n=m+1:=⟨n-1,by omega⟩;simp [Builtin.clear_,run_underlying ht,hv,hst,splice]
def closed (cur:List Value) (L:List E) (i:Nat):List Value:=cur.take (i*3)++rowV (L.drop (i+1))++cur.drop (i*3+(rowV (L.drop (i+1))).length)
theorem closed_length {cur:List Value} {L:List E} {i:Nat} (hi:i<L.length) (hroom:L.length*3<=cur.length):(closed cur L i).length=cur.length:=by
 unfold closed;simp [rowV_length];omega
theorem closed_take {cur:List Value} {L:List E} {i:Nat} (hi:i<L.length) (h:cur.take (L.length*3)=rowV L) (hroom:L.length*3<=cur.length) (cs:List Value):(splice (closed cur L i) ((L.length-1)*3) cs).take ((L.length-1)*3)=rowV (L.take i++L.drop (i+1)):=by
 have hl:=closed_length hi hroom;unfold splice;rw [List.take_append_of_le_length (by simp;omega),List.take_of_length_le (by simp;omega)];unfold closed;have e1:cur.take (i*3)=rowV (L.take i):=by
  rw [<-rowV_take,<-h,List.take_take]
  congr 1
  omega
 have hlt:(rowV (L.take i)).length=i*3:=by rw [rowV_length];simp;omega
 have hld:(rowV (L.drop (i+1))).length=(L.length-(i+1))*3:=by rw [rowV_length];simp
 rw [e1,<-rowV_append,List.take_append_of_le_length (by rw [rowV_length,out_length hi];omega),List.take_of_length_le (by rw [rowV_length,out_length hi];omega)]
theorem zeroE_one (n:Nat):∀u∈(Builtin.zeroCells zE.cells n).toList,u.oneCell'=true:=by
 intro u hu;rw [zE_cells] at hu;simp only [Builtin.zeroCells,Array.toList_map,List.mem_map] at hu;obtain ⟨a,_,rfl⟩:=hu;have:a%3<3:=Nat.mod_lt _ (by omega);show (#[Value.int .i64 0,Value.int .i64 0,Value.int .i64 0][a%3]!).oneCell'=true;generalize a%3=r at this
 match r,this with
 | 0,_=>rfl
 | 1,_=>rfl
 | 2,_=>rfl
theorem delete_walk (i k g cap:Nat) (w W1 W2:World) (hi:i<=k) (hk:k+1<=cap) (hcap:cap<=9223372036854775807) (hkl:k<=1000)
 (hap:∀ty A sc,(i<k->A=⟨g,(i+1)*3,none⟩)->(Builtin.append_ #[33,33] ty #[.slice (some ⟨g,0,none⟩) i cap,.slice (some A) (k-i) sc]).run Tryz.prog w.drew= .ok (.slice (some ⟨g,0,none⟩) k cap) W1)
 (hcl:∀ty sc,(Builtin.clear_ #[33] ty #[.slice (some ⟨g,k*3,none⟩) 1 sc]).run Tryz.prog W1= .ok (.tuple #[]) W2):
 Calls Tryz.prog 115 #[.slice (some ⟨g,0,none⟩) (k+1) cap,.int .i64 (i:Int),.int .i64 ((i:Int)+1)] w λ e w'=>e= .returned (.slice (some ⟨g,0,none⟩) k cap)/\w'=W2:=by
 have hic:i<=cap:=by omega
 have hki:k+1-(i+1)=k-i:=by omega
 have hz1:¬((i:Int)=(i:Int)+1):=by omega
 have hb1:(i:Int)+1<=(k:Int)+1:=by omega
 have hb2:(i:Int)<=(i:Int)+1:=by omega
 have hb3:(0:Int)<=(i:Int)+1:=by omega
 have hb4:(i:Int)<=(cap:Int):=by omega
 have htn:((i:Int)+1).toNat=i+1:=by omega
 have hw1:IntKind.i64.wrap ((i:Int)+1)=(i:Int)+1:=by rw [IntKind.wrap_i64];omega
 have hck:¬(cap=k):=by omega
 have hkk:k+1-k=1:=by omega
 by_cases hcj:cap=i+1
 ·have hap1:∀ty sc,(Builtin.append_ #[33,33] ty #[.slice (some ⟨g,0,none⟩) i cap,.slice (some ⟨g,0,none⟩) (k-i) sc]).run Tryz.prog w.drew= .ok (.slice (some ⟨g,0,none⟩) k cap) W1:=λ ty sc=>hap ty _ sc (λ h=>by omega)
  have HAP:Hid (∀ty sc,(Builtin.append_ #[33,33] ty #[.slice (some ⟨g,0,none⟩) i cap,.slice (some ⟨g,0,none⟩) (k-i) sc]).run Tryz.prog w.drew= .ok (.slice (some ⟨g,0,none⟩) k cap) W1):=hap1;clear hap hap1;go_enter Tryz.func115,Tryz.ntmps115;go_wp2
  go_region_law (refine step_append_runK rfl (.tmp 22) (.tmp 25) 33 33 rfl (.slice (some ⟨g,0,none⟩) i cap) (.slice (some ⟨g,0,none⟩) (k-i) (cap-(i+1))) (by simp [Act.eval,Act.put,hcj]) (by simp [Act.eval,Act.put,hcj]) (HAP.out _ _) ?_)
  go_wp2;go_ret;exact ⟨by rw [hcj];rfl,rfl⟩
 ·have hap1:∀ty sc,(Builtin.append_ #[33,33] ty #[.slice (some ⟨g,0,none⟩) i cap,.slice (some ⟨g,(i+1)*3,none⟩) (k-i) sc]).run Tryz.prog w.drew= .ok (.slice (some ⟨g,0,none⟩) k cap) W1:=λ ty sc=>hap ty _ sc (λ h=>rfl)
  have HAP:Hid (∀ty sc,(Builtin.append_ #[33,33] ty #[.slice (some ⟨g,0,none⟩) i cap,.slice (some ⟨g,(i+1)*3,none⟩) (k-i) sc]).run Tryz.prog w.drew= .ok (.slice (some ⟨g,0,none⟩) k cap) W1):=hap1;clear hap hap1;go_enter Tryz.func115,Tryz.ntmps115;go_wp2
  go_region_law (refine step_append_runK rfl (.tmp 22) (.tmp 25) 33 33 rfl (.slice (some ⟨g,0,none⟩) i cap) (.slice (some ⟨g,(i+1)*3,none⟩) (k-i) (cap-(i+1))) (by simp [Act.eval,Act.put]) (by simp [Act.eval,Act.put]) (HAP.out _ _) ?_)
  go_wp2;go_ret;exact ⟨rfl,rfl⟩
theorem delete_any (B i:Nat) (v:Value) (L M:List E) (w:World) (h:Owns w B 61 v L) (hi:i<L.length) (hl:L.length<=1000) (hM:M=L.take i++L.drop (i+1)):
 Calls Tryz.prog 115 #[v,.int .i64 (i:Int),.int .i64 ((i:Int)+1)] w λ e w'=>∃v',e= .returned v'/\Owns w' B 61 v' M/\w.grownBy w' v.ownBlock/\Fresh w v v':=by
 subst hM;rcases h.2 with ⟨_,h0⟩ | ⟨g,cap,cur,rfl,hBg,hg,hnc,hm,hsz,htk⟩
 ·omega
 obtain ⟨k,hk⟩:∃k,L.length=k+1:=⟨L.length-1,by omega⟩;obtain ⟨inf,hinf,hs,hb,hz⟩:=info61;have hcl:(closed cur.toList L i).length=cur.size:=by rw [closed_length hi (by simp;omega)];simp
 have hld:(rowV (L.drop (i+1))).length=(k-i)*3:=by rw [rowV_length];simp;omega
 have hap:∀ty A sc,(i<k->A=⟨g,(i+1)*3,none⟩)->(Builtin.append_ #[33,33] ty #[.slice (some ⟨g,0,none⟩) i cap,.slice (some A) (k-i) sc]).run Tryz.prog w.drew= .ok (.slice (some ⟨g,0,none⟩) k cap) (w.drew.setRow g (closed cur.toList L i).toArray):=by
  intro ty A sc hA;have hr:=run_append_room (P:=Tryz.prog) w.drew 33 ty 61 inf Tryz.underlying33 hinf g i cap cur hg A (k-i) sc (rowV (L.drop (i+1))) (by rw [hs];exact hld) (λ j u hu=>by
   rcases Nat.lt_or_ge i k with hlt | hge
   ·rw [hA hlt]
    exact drop_cells h rfl (i+1) j u hu
   ·have h0:(rowV (L.drop (i+1))).length=0:=by rw [hld];omega
    rw [List.length_eq_zero_iff.1 h0] at hu;simp at hu) (rowV_one _) (by omega) (by rw [hs,hld];omega)
  rw [hr,hs,show i+(k-i)=k by omega];rfl
 have hg1:(w.drew.setRow g (closed cur.toList L i).toArray).heap[g]? =some (.cells (closed cur.toList L i).toArray 61 (0,0)):=setRow_heap w.drew g cur _ 61 (0,0) hg;have hcr:∀ty sc,(Builtin.clear_ #[33] ty #[.slice (some ⟨g,k*3,none⟩) 1 sc]).run Tryz.prog (w.drew.setRow g (closed cur.toList L i).toArray)= .ok (.tuple #[]) ((w.drew.setRow g (closed cur.toList L i).toArray).setRow g (splice (closed cur.toList L i) (k*3) (Builtin.zeroCells zE.cells 1).toList).toArray):=λ ty sc=>
  run_clear_rowK _ 33 61 ty zE Tryz.underlying33 Tryz.zeroValue61 g (k*3) 1 sc (by omega) _ 61 hg1 (by rw [zeroE_length,hcl];omega) (zeroE_one 1)
 have hwalk:=delete_walk i k g cap w _ _ (by omega) (by omega) (by simp only [maxLen] at hm;omega) (by omega) hap hcr;rw [hk];refine hwalk.mono ?_;rintro e w' ⟨rfl,rfl⟩;refine ⟨_,rfl,?_,?_,λ b hb=>Or.inl hb⟩
 ·have hlen:(L.take i++L.drop (i+1)).length=k:=by rw [out_length hi];omega
  rw [setRow_setRow];refine ⟨rowV_length _,Or.inr ⟨g,cap,_,by rw [hlen],hBg,setRow_heap w.drew g cur _ 61 (0,0) hg,by rw [hlen];omega,hm,?_,?_⟩⟩
  ·rw [List.size_toArray,length_splice _ _ _ (by rw [zeroE_length,hcl];omega),hcl];exact hsz
  ·show (splice _ _ _).take _=_
   have:=closed_take hi htk (by simp;omega) (Builtin.zeroCells zE.cells 1).toList;rw [hk,show k+1-1=k by omega] at this;rw [hlen];exact this
 ·rw [setRow_setRow]
  exact ⟨rfl,rfl,rfl,by simp,λ j _ hn=>setRow_other w.drew g j _ (λ e=>hn (by simp [Value.ownBlock,e]))⟩
theorem drop_miss (id n:Int) (B p:Nat) (v:Value) (L:List E) (w:World) (h:GAt w B 168 61 p n v L) (hu:Up L) (hl:L.length<=120) (hs:seen L id=none):
 Calls Tryz.prog 55 #[.pointer (some ⟨p,0,none⟩),.int .i64 id] w λ e w'=>e= .returned (.iface 23 (.int .i64 7))/\Below w.heap.size w w':=by
 have HC:Hid (Calls Tryz.prog 114 #[.pointer (some ⟨p,0,none⟩),.int .i64 id] w λ e w'=>e= .returned (.tuple #[.int .i64 (place L id:Nat),.bool false])/\Below w.heap.size w w'):=find_any id B p (place L id) n v L false w h hu (by omega) rfl (by rw [hs];rfl);clear h hu hs;go_enter Tryz.func55,Tryz.ntmps55;go_wp2_with fail;refine HC.out.mono ?_;rintro e w1 ⟨rfl,hb⟩;have HB:Hid (Below w.heap.size w w1):=hb;clear hb;go_wp2;go_ret;exact ⟨rfl,HB.out⟩
theorem drop_hit (id n:Int) (B p k:Nat) (v:Value) (L:List E) (x:E) (w:World) (h:GAt w B 168 61 p n v L) (hu:Up L) (hl:L.length<=120) (hk:k=place L id) (hx:L[k]? =some x) (hs:seen L id=some x):
 Calls Tryz.prog 55 #[.pointer (some ⟨p,0,none⟩),.int .i64 id] w λ e w'=>e= .returned .nilIface/\Step1 w w' B 168 p n v (L.take k++L.drop (k+1)):=by
 have HC:Hid (Calls Tryz.prog 114 #[.pointer (some ⟨p,0,none⟩),.int .i64 id] w λ e w'=>e= .returned (.tuple #[.int .i64 (k:Int),.bool true])/\Below w.heap.size w w'):=find_any id B p k n v L true w h hu (by omega) hk (by rw [hs];rfl);have hlt:k<L.length:=(List.getElem?_eq_some_iff.1 hx).1;have hk9:k<=120:=by omega
 have HL:Hid (k<L.length/\L.length<=1000):=⟨hlt,by omega⟩;have HG:Hid (GAt w B 168 61 p n v L):=h;clear h hu hs hx hk hlt hl;go_enter Tryz.func55,Tryz.ntmps55;go_wp2_with fail;refine HC.out.mono ?_;rintro e w1 ⟨rfl,hb⟩;have HB:Hid (Below w.heap.size w w1):=hb;have HG1:Hid (GAt w1 B 168 61 p n v L):=HG.out.below hb;have hp:=HG1.out.c1;clear hb HC;go_wp2_with fail;refine (delete_any B k v L _ w1 HG1.out.row HL.out.1 HL.out.2 rfl).mono ?_;rintro e w2 ⟨v',rfl,h1,h2,h3⟩;have HS:Hid (Step1 w (w2.setCell ⟨p,1,none⟩ v') B 168 p n v (L.take k++L.drop (k+1))):=step1_of HG1.out HB.out h2 h1 h3 HG.out.plt;have q1:=(cell_p HG1.out h2).1;have q2:=(cell_p HG1.out h2).2;obtain ⟨a',m',c',hv'⟩:=h1.slice;subst hv';clear h1 h2 h3 hp;go_wp2;go_ret;exact ⟨rfl,HS.out⟩
end Go.Proofs.YtebcjaenhiiflaaGreatDoor.G
