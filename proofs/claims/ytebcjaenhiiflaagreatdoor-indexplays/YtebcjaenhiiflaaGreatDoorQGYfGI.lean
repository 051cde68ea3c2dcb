import Derived.Test.YtebcjaenhiiflaaGreatDoorQBfGYa
import Derived.Test.YtebcjaenhiiflaaGreatDoorQGAs
set_option maxHeartbeats 4000000
set_option maxRecDepth 100000
namespace Go.Proofs.YtebcjaenhiiflaaGreatDoor.G
open Go.RowKit Go.Extern.Stop Go.Stop Go.Extern Go.Proofs.Tryz
def Gl (w:World):Prop:=w.cell? ⟨0,0,none⟩=some (.iface 248 (.agg #[.pointer (some ⟨9,28,none⟩)]))
theorem Gl.below {w w':World} (h:Gl w) (hb:Below w.heap.size w w'):Gl w':=
 (hb.cell (p:=⟨0,0,none⟩) (lt_of_cell h)).trans h
theorem zht (w:World) (o1 o2 o3 o4:Obj):Below w.heap.size w ((((w.alloc o1).alloc o2).alloc o3).alloc o4):=
 ((((Below.refl _ _).alloc (Nat.le_refl _) _).alloc (by simp) _).alloc (by simp;omega) _).alloc (by simp;omega) _
theorem z08 (w:World) (t:Nat) (h:w.heap.size<=t) (o1 o2 o3 o4 o5:Obj) (v:Value):Below w.heap.size w ((((((w.alloc o1).alloc o2).alloc o3).alloc o4).alloc o5).setCell ⟨t,0,none⟩ v):=
 ((zht w o1 o2 o3 o4).alloc (by simp;omega) _).setCell h _
theorem zwy (n:Int) (w:World) (hg:Gl w):Calls prog 104 #[.iface 23 (.int .i64 n)] w λ e w'=>e= .returned (.int .i64 n)/\Below w.heap.size w w':=by
 have hg1:Gl (w.alloc (.cells #[.int .i64 0] 23)):=hg.below ((Below.refl _ _).alloc (Nat.le_refl _) _);have HG:=kd hg1;clear hg hg1;go_enter func104,ntmps104;go_wp2_with fail;refine (yaa3 n ⟨w.heap.size,0,none⟩ (.int .i64 0) _ (by exact HG.out) (by simp) (by simp)).mono ?_;rintro e w' ⟨rfl,hw⟩;have hb:Below w.heap.size w w':=by rw [hw];exact z08 w _ (Nat.le_refl _) _ _ _ _ _ _
 have hc:w'.cell? ⟨w.heap.size,0,none⟩=some (.int .i64 n):=by
  rw [hw];refine World.cell?_setCell_same _ _ _ (u:=.int .i64 0) ?_;have h1:(w.alloc (.cells #[.int .i64 0] 23)).cell? ⟨w.heap.size,0,none⟩=some (.int .i64 0):=by simp
  refine (Below.cell (p:=⟨w.heap.size,0,none⟩) (zht (w.alloc (.cells #[.int .i64 0] 23)) _ _ _ _) (by simp)).trans h1
 have HB:=kd hb;clear hw hb HG;go_wp2;go_ret;exact ⟨rfl,HB.out⟩
theorem yada (v:Value) (w:World):(Instr.typeAssert (.iface 23 v) 28 148 true).run prog w= .ok (.tuple #[.pointer none,.bool false]) w:=by kernel_rfl
theorem z0v (v:Value) (w:World):(Instr.typeAssert (.iface 23 v) 28 150 true).run prog w= .ok (.tuple #[.nilIface,.bool false]) w:=run_typeAssert_lacksB underlying150 (by kernel_rfl) (by kernel_rfl) v 28 w
theorem zwi (n:Int) (w:World) (hg:Gl w):Calls prog 47 #[.iface 23 (.int .i64 n)] w λ e w'=>e= .returned (.tuple #[.int .i64 n,.bool true])/\Below w.heap.size w w':=by
 go_enter func47,ntmps47;go_wp2_with fail;refine (zwy n _ hg).mono ?_;rintro e w' ⟨rfl,hb⟩;have na:=yada;have nu:=z0v;have HB:=kd hb;clear hb hg;go_wp2_with fail;refine wp_loop_rounds 1 ?_;rw [rounds_succ];go_wp2;go_ret2;exact ⟨rfl,HB.out⟩
theorem z7c (n:Int) (w:World) (hg:Gl w):Calls prog 12 #[.iface 23 (.int .i64 n),.int .i64 n] w λ e w'=>e= .returned (.bool true)/\Below w.heap.size w w':=by
 go_enter func12,ntmps12;go_wp2_with fail;refine (zwi n _ hg).mono ?_;rintro e w' ⟨rfl,hb⟩;have HB:=kd hb;clear hb hg;go_wp2;go_ret;exact ⟨by simp,HB.out⟩
theorem z6c (w:World):Calls prog 12 #[.nilIface,.int .i64 0] w λ e w'=>e= .returned (.bool true)/\Below w.heap.size w w':=by
 go_enter func12,ntmps12;go_wp2_with fail;have h30:Calls prog 47 #[.nilIface] w λ e w'=>e= .returned (.tuple #[.int .i64 0,.bool true])/\w'=w:=by
  go_enter func47,ntmps47;go_wp2;refine wp_loop_rounds 1 ?_;rw [rounds_succ];go_wp2;go_ret2;exact ⟨rfl,rfl⟩
 refine h30.mono ?_;rintro e w' ⟨rfl,rfl⟩;go_wp2;go_ret;exact ⟨rfl,Below.refl _ _⟩
def zb8 (c:Int):Value:=if c=0 then .nilIface else .iface 23 (.int .i64 c)
theorem zga (v:Value) (c:Int) (w:World) (hg:Gl w) (hv:v=zb8 c):Calls prog 12 #[v,.int .i64 c] w λ e w'=>e= .returned (.bool true)/\Below w.heap.size w w':=by
 subst hv;by_cases h:c=0
 ·subst h;exact z6c w
 ·have:zb8 c= .iface 23 (.int .i64 c):=by simp [zb8,h]
  rw [this];exact z7c c w hg
open Go.RowKit
variable {P:Program}
theorem zhq:∀(L:List E) (id:Int),place L id<=L.length
 | [],_=>Nat.le_refl _
 | x::L,id=>by
   have:=zhq L id;unfold place;split
   ·simp;omega
   ·simp
theorem zj5:∀(L:List E) (id:Int) (t:Nat),t<place L id->∀x,L[t]? =some x->x.1<id
 | [],_,t,h=>by simp [place] at h
 | y::L,id,t,h=>by
   intro x hx;unfold place at h;split at h
   ·next hy=>
    rcases t with _ | t
    ·simp at hx;subst hx;exact hy
    ·exact zj5 L id t (by omega) x (by simpa using hx)
   ·omega
theorem zkv:∀(L:List E) (id:Int),Up L->∀t,place L id<=t->∀x,L[t]? =some x->id<=x.1
 | [],_,_,t,_=>by simp
 | y::L,id,hu,t,h=>by
   intro x hx;unfold place at h;rcases t with _ | t
   ·simp at hx;subst hx
    split at h
    ·omega
    ·omega
   ·have hx':L[t]? =some x:=by simpa using hx
    split at h
    ·exact zkv L id (List.Pairwise.of_cons hu) t (by omega) x hx'
    ·have h1:=List.rel_of_pairwise_cons hu (List.mem_of_getElem? hx')
     have h1':y.1<x.1:=h1;omega
def seen:List E->Int->Option E
 | [],_=>none
 | x::L,id=>if (seen L id).isSome then seen L id else if x.1=id then some x else none
theorem seen_none {L:List E} {id:Int} (h:∀x∈L,x.1≠id):seen L id=none:=by
 induction L with
 | nil=>rfl
 | cons y L ih=>
   have h1:=ih (λ x hx=>h x (List.mem_cons_of_mem _ hx));simp [seen,h1,h y List.mem_cons_self]
theorem zix {L:List E} {id:Int} {x:E} (hu:Up L) (hx:x∈L) (h:x.1=id):seen L id=some x:=by
 induction L with
 | nil=>simp at hx
 | cons y L ih=>
   rcases List.mem_cons.1 hx with rfl | hx'
   ·have:seen L id=none:=seen_none (λ z hz=>by
     have h1:x.1<z.1:=List.rel_of_pairwise_cons hu hz;omega)
    simp [seen,this,h]
   ·simp [seen,ih (List.Pairwise.of_cons hu) hx']
theorem znh {L:List E} (hu:Up L) (id:Int):(∃x,L[place L id]? =some x/\x.1=id/\seen L id=some x)\/((∀x∈L,x.1≠id)/\(∀x,L[place L id]? =some x->x.1≠id)/\seen L id=none):=by
 by_cases h:∃x,L[place L id]? =some x/\x.1=id
 ·obtain ⟨x,h1,h2⟩:=h
  exact Or.inl ⟨x,h1,h2,zix hu (List.mem_of_getElem? h1) h2⟩
 ·have hall:∀x∈L,x.1≠id:=by
   intro x hx e;obtain ⟨t,ht,hxt⟩:=List.mem_iff_getElem.1 hx;have hxt':L[t]? =some x:=by rw [List.getElem?_eq_getElem ht,hxt]
   rcases Nat.lt_trichotomy t (place L id) with h1 | h1 | h1
   ·have:=zj5 L id t h1 x hxt'
    omega
   ·rw [h1] at hxt'
    exact h ⟨x,hxt',e⟩
   ·have hlt:place L id<L.length:=by omega
    have hy:L[place L id]? =some L[place L id]:=List.getElem?_eq_getElem hlt;have h2:=zkv L id hu (place L id) (Nat.le_refl _) _ hy;have h3:L[place L id].1<L[t].1:=List.pairwise_iff_getElem.1 hu _ _ hlt ht h1;rw [hxt] at h3;omega
  exact Or.inr ⟨hall,λ x hx e=>h ⟨x,hx,e⟩,seen_none hall⟩
theorem zgu (L:List E) (k:Nat):(zaf L).take (k*3)=zaf (L.take k):=by
 induction L generalizing k with
 | nil=>simp [zaf]
 | cons x L ih=>
   rcases k with _ | k
   ·simp [zaf]
   ·rw [zbu,List.take_succ_cons,zbu,<-ih]
    show (zaq x++zaf L).take ((k+1)*3)=_;rw [show (k+1)*3=(zaq x).length+k*3 by simp [zaq];omega,List.take_length_add_append]
theorem Kept.zgj {p:Nat} {o:Option Nat} {w w':World} (h:w.grownBy w' o):Kept p o w w':=⟨h.os,h.tape,h.output,h.size,λ k hk _ hn=>h.block k hk hn⟩
theorem zd0 (w:World) (dT sT ty elem:TypeId) (size g off dLen dCap:Nat) (ad:Addr) (sLen sCap:Nat) (cur:List Value) (t:TypeId) (cs:List Value)
 (hu:P.underlying dT=some (.slice elem)) (hsz:(P.info? elem).map (·.size)=some size) (hg:w.heap[g]? =some (.cells cur.toArray t (0,0))) (hn:cs.length=Nat.min sLen dLen*size)
 (hsrc:∀j v,cs[j]? =some v->w.cell? (ad.add j)=some v) (hfit:off+cs.length<=cur.length) (h1:∀v∈cs,v.oneCell'=true):
 (Builtin.copy_ #[dT,sT] ty #[.slice (some ⟨g,off,none⟩) dLen dCap,.slice (some ad) sLen sCap]).run P w= .ok (goInt (Nat.min sLen dLen)) (w.setRow g (splice cur off cs).toArray):=by
 have hl:=run_loadCells_list (P:=P) w ad cs hsrc;have hst:=run_storeCells_at P g off t cs 0 cur.toArray w hg (by simpa using hfit) h1;simp only [Nat.add_zero] at hst;cases hq:P.info? elem with
 | none=>simp [hq] at hsz
 | some i=>
   have hi:i.size=size:=by simpa [hq] using hsz
   subst hi;simp [Builtin.copy_,run_underlying hu,Builtin.lenOf,Builtin.firstCells,sizeOf,typeInfo,hq,<-hn,hl,hst,splice]
theorem zhv {α:Type} (A B C D:List α) (k:Nat) (hk:k=A.length) (h:D.length=B.length):splice (A++(B++C)) k D=A++(D++C):=by
 subst hk;unfold splice;rw [List.take_left,h,List.drop_append,<-List.append_assoc];simp
theorem zbt (x:E):(zaq x).length=3:=rfl
def shifted (cur:List Value) (L:List E) (i:Nat):List Value:=splice cur ((i+1)*3) (zaf (L.drop i))
theorem zvv {cur:List Value} {L:List E} {i:Nat} (x:E) (hi:i<=L.length) (h:cur.take (L.length*3)=zaf L) (hroom:(L.length+1)*3<=cur.length):
 splice (shifted cur L i) (i*3) (zaq x)=zaf (L.take i++x::L.drop i)++cur.drop ((L.length+1)*3):=by
 have hlt:(zaf (L.take i)).length=i*3:=by rw [zah];simp;omega
 have hld:(zaf (L.drop i)).length=(L.length-i)*3:=by rw [zah];simp
 have h1:shifted cur L i=zaf (L.take i)++((cur.drop (i*3)).take 3++(zaf (L.drop i)++cur.drop ((L.length+1)*3))):=by
  unfold shifted splice;have e1:cur.take ((i+1)*3)=zaf (L.take i)++(cur.drop (i*3)).take 3:=by
   rw [show (i+1)*3=i*3+3 by omega,List.take_add,<-zgu,<-h,List.take_take]
   congr 2
   omega
  rw [e1,hld,show (i+1)*3+(L.length-i)*3=(L.length+1)*3 by omega,List.append_assoc]
 rw [h1,zhv _ _ _ _ _ hlt.symm (by rw [zbt];simp;omega)];rw [zc8,zbu];simp
theorem ze2 {cur:List Value} {L:List E} {i:Nat} (hi:i<=L.length) (hroom:(L.length+1)*3<=cur.length):(shifted cur L i).length=cur.length:=by
 unfold shifted;refine length_splice _ _ _ ?_;rw [zah];simp;omega
theorem z2w {L:List E} {i:Nat} (x:E) (Z Y:List Value) (hi:i<=L.length) (hZ:Z.length=(L.length+1-i)*3):
 splice (splice (zaf (L.take i)++(Z++Y)) (i*3) (zaq x)) ((i+1)*3) (zaf (L.drop i))=zaf (L.take i++x::L.drop i)++Y:=by
 have hlt:(zaf (L.take i)).length=i*3:=by rw [zah];simp;omega
 have hld:(zaf (L.drop i)).length=(L.length-i)*3:=by rw [zah];simp
 have e1:zaf (L.take i)++(Z++Y)=zaf (L.take i)++(Z.take 3++(Z.drop 3++Y)):=by rw [<-List.append_assoc (Z.take 3),List.take_append_drop]
 rw [e1,zhv _ _ _ _ _ hlt.symm (by rw [zbt];simp;omega),<-List.append_assoc,zhv _ _ _ _ _ (by simp [hlt,zbt];omega) (by rw [hld];simp;omega)];rw [zc8,zbu];simp
end Go.Proofs.YtebcjaenhiiflaaGreatDoor.G
namespace Go.Proofs.YtebcjaenhiiflaaGreatDoor.G
open Go.RowKit Go.Proofs.Tryz
def zcb (x y:Int):Int:=if x<y then-1 else if y<x then 1 else 0
theorem zsy (x y:Int) (w:World):Calls prog 227 #[.int .i64 x,.int .i64 y] w λ e w'=>e= .returned (.int .i64 (zcb x y))/\w'=w:=by
 have H:Hid (x<y\/¬x<y):=Classical.em _;rcases Int.lt_trichotomy x y with h | h | h
 ·have HC:Hid (zcb x y= -1):=by show zcb x y= -1;simp [zcb,h]
  go_enter func227,ntmps227;go_wp2;go_ret;exact ⟨by rw [HC.out];rfl,rfl⟩
 ·subst h
  have HC:Hid (zcb x x=0):=by show zcb x x=0;simp [zcb]
  go_enter func227,ntmps227;go_wp2;go_ret;exact ⟨by rw [HC.out];rfl,rfl⟩
 ·have h1:¬x<y:=by omega
  have HC:Hid (zcb x y=1):=by show zcb x y=1;simp [zcb,h,h1]
  go_enter func227,ntmps227;go_wp2;go_ret;exact ⟨by rw [HC.out];rfl,rfl⟩
theorem zze (id y:Int) (t n cap g p gb ib:Nat) (w:World) (ht:t<n) (hib:w.cell? ⟨ib,0,none⟩=some (.int .i64 id)) (hgb:w.cell? ⟨gb,0,none⟩=some (.pointer (some ⟨p,0,none⟩)))
 (hp:w.cell? ⟨p,1,none⟩=some (.slice (some ⟨g,0,none⟩) n cap)) (hy:w.cell? ⟨g,t*3,none⟩=some (.int .i64 y)):
 Calls prog 226 #[.int .i64 (t:Int),.pointer (some ⟨ib,0,none⟩),.pointer (some ⟨gb,0,none⟩)] w λ e w'=>e= .returned (.int .i64 (zcb id y))/\∃q,w'=w.drewN q:=by
 go_enter func226,ntmps226;go_wp2;go_quiet ((go_at_call 227;exact Calls.quiet_of_same (zsy id y _)));go_wp2;go_ret;exact ⟨rfl,nq,rfl⟩
theorem z3c {x y:Int} (h:y<x):zcb x y=1:=by
 have:¬x<y:=by omega
 simp [zcb,h,this]
theorem zp1 {x y:Int} (h:x<y):zcb x y= -1:=by simp [zcb,h]
theorem zt3 (x:Int):zcb x x=0:=by simp [zcb]
structure Reads (w:World) (id:Int) (n p gb ib:Nat) (Y:Nat->Int):Prop where
 hib:w.cell? ⟨ib,0,none⟩=some (.int .i64 id)
 hgb:w.cell? ⟨gb,0,none⟩=some (.pointer (some ⟨p,0,none⟩))
 hp:0<n->∃g cap,w.cell? ⟨p,1,none⟩=some (.slice (some ⟨g,0,none⟩) n cap)/\∀t,t<n->w.cell? ⟨g,t*3,none⟩=some (.int .i64 (Y t))
theorem zhi {w:World} {id:Int} {n p gb ib:Nat} {Y:Nat->Int} (h:Reads w id n p gb ib Y) (t:Nat) (ht:t<n) (c:Int) (hc:zcb id (Y t)=c) (q:Nat):
 Calls prog 226 #[.int .i64 (t:Int),.pointer (some ⟨ib,0,none⟩),.pointer (some ⟨gb,0,none⟩)] (w.drewN q) λ e w'=>e= .returned (.int .i64 c)/\∃q',w'=w.drewN q':=by
 obtain ⟨g,cap,h1,h2⟩:=h.hp (by omega);have hD:∀j,(w.drewN q).drewN j=w.drewN (q+j):=λ j=>by
  unfold World.drewN;simp [Nat.add_assoc]
 refine (zze id (Y t) t n cap g p gb ib (w.drewN q) ht h.hib h.hgb h1 (h2 t ht)).mono ?_;rintro e w' ⟨rfl,j,rfl⟩;exact ⟨by rw [hc],q+j,hD j⟩
theorem zyc (id:Int) (n k p gb ib:Nat) (Y:Nat->Int) (ok:Bool) (w:World) (h:Reads w id n p gb ib Y) (hk:k<=n) (hn:n<=1000) (h1:∀t,t<k->Y t<id) (h2:∀t,k<=t->t<n->id<=Y t) (hok:ok=decide (k<n/\Y k=id)):
 Calls prog 225 #[.int .i64 (n:Int),.func (.func 226) #[] #[.pointer (some ⟨ib,0,none⟩),.pointer (some ⟨gb,0,none⟩)]] w λ e w'=>e= .returned (.tuple #[.int .i64 (k:Int),.bool ok])/\∃q,w'=w.drewN q:=by
 have HR:=kd h;have H1:=kd h1;have H2:=kd h2;have HO:=kd hok;clear h h1 h2 hok;go_enter func225,ntmps225;go_wp2_with fail;go_loopg [4,6,7] n (λ r s4 s6 _ wr=>∃lo hi:Nat,s4= .int .i64 lo/\s6= .int .i64 hi/\lo<=k/\k<=hi/\hi<=n/\hi-lo<=r/\∃q,wr=w.drewN q)
 case atStart=>exact ⟨0,n,rfl,rfl,Nat.zero_le _,hk,Nat.le_refl _,by omega,0,rfl⟩
 case round=>
  obtain ⟨lo,hi,rfl,rfl,hlk,hkh,hin,hg,q,hwr⟩:=hrel;have HW:=kd hwr;clear hwr;by_cases hlt:lo<hi
  ·have e1:((lo:Int)+(hi:Int))/2=(((lo+hi)/2:Nat):Int):=by omega
   obtain ⟨m,hm⟩:∃m,m=(lo+hi)/2:=⟨_,rfl⟩;rw [<-hm] at e1;have hm1:m<n:=by omega
   have hm2:lo<=m:=by omega
   have hm3:m<hi:=by omega
   have E1:=kd e1;clear e1 hm;by_cases hmk:m<k
   ·as_aux_lemma=>
    have hc:zcb id (Y m)=1:=z3c (H1.out m hmk);have HC:Hid (∀q,Calls prog 226 #[.int .i64 (m:Int),.pointer (some ⟨ib,0,none⟩),.pointer (some ⟨gb,0,none⟩)] (w.drewN q) λ e w'=>e= .returned (.int .i64 1)/\∃q',w'=w.drewN q'):=λ q=>zhi HR.out m hm1 1 hc q
    clear hc;go_wp2_with fail;rw [E1.out,HW.out];refine (HC.out q).mono ?_;rintro e w' ⟨rfl,q',hw'⟩;have HW':=kd hw';clear hw';go_wp2_with fail;go_roundg (hi-(m+1));case measure=>omega
    case rel=>exact ⟨m+1,hi,by go_num,rfl,by omega,hkh,hin,by omega,q',HW'.out⟩
   ·as_aux_lemma=>
    have hle:id<=Y m:=H2.out m (by omega) hm1;obtain ⟨c,hc,hc0⟩:∃c,zcb id (Y m)=c/\¬(0<c):=by
     refine ⟨_,rfl,?_⟩;rcases Int.lt_or_eq_of_le hle with h | h
     ·rw [zp1 h];decide
     ·rw [<-h,zt3];decide
    have HC:Hid (∀q,Calls prog 226 #[.int .i64 (m:Int),.pointer (some ⟨ib,0,none⟩),.pointer (some ⟨gb,0,none⟩)] (w.drewN q) λ e w'=>e= .returned (.int .i64 c)/\∃q',w'=w.drewN q'):=λ q=>zhi HR.out m hm1 c hc q
    clear hc hle;go_wp2_with fail;rw [E1.out,HW.out];refine (HC.out q).mono ?_;rintro e w' ⟨rfl,q',hw'⟩;have HW':=kd hw';clear hw';go_wp2_with fail;go_roundg (m-lo);case measure=>omega
    case rel=>exact ⟨lo,m,rfl,by go_num,hlk,by omega,by omega,Nat.le_refl _,q',HW'.out⟩
  ·have hkl:lo=k:=by omega
   subst hkl;by_cases hkn:lo<n
   ·by_cases hy:Y lo=id
    ·as_aux_lemma=>
     have hc:zcb id (Y lo)=0:=by rw [hy,zt3]
     have HC:Hid (∀q,Calls prog 226 #[.int .i64 (lo:Int),.pointer (some ⟨ib,0,none⟩),.pointer (some ⟨gb,0,none⟩)] (w.drewN q) λ e w'=>e= .returned (.int .i64 0)/\∃q',w'=w.drewN q'):=λ q=>zhi HR.out lo hkn 0 hc q
     have HO':Hid (ok=true):=by
      show ok=true;rw [HO.out];exact decide_eq_true ⟨hkn,hy⟩
     clear hc hy HO;go_wp2_with fail;rw [HW.out];refine (HC.out q).mono ?_;rintro e w' ⟨rfl,q',hw'⟩;have HW':=kd hw';clear hw';go_wp2_with fail;go_ret2;exact ⟨by rw [HO'.out];rfl,q',HW'.out⟩
    ·as_aux_lemma=>
     have hle:id<=Y lo:=H2.out lo (Nat.le_refl _) hkn;have hc:zcb id (Y lo)= -1:=zp1 (by omega);have HC:Hid (∀q,Calls prog 226 #[.int .i64 (lo:Int),.pointer (some ⟨ib,0,none⟩),.pointer (some ⟨gb,0,none⟩)] (w.drewN q) λ e w'=>e= .returned (.int .i64 (-1))/\∃q',w'=w.drewN q'):=λ q=>zhi HR.out lo hkn (-1) hc q
     have HO':Hid (ok=false):=by
      show ok=false;rw [HO.out];exact decide_eq_false (λ h=>hy h.2)
     clear hc hy HO hle;go_wp2_with fail;rw [HW.out];refine (HC.out q).mono ?_;rintro e w' ⟨rfl,q',hw'⟩;have HW':=kd hw';clear hw';go_wp2_with fail;go_ret2;exact ⟨by rw [HO'.out];rfl,q',HW'.out⟩
   ·as_aux_lemma=>
    have HO':Hid (ok=false):=by
     show ok=false;rw [HO.out];exact decide_eq_false (λ h=>hkn h.1)
    clear HO;go_wp2_with fail;go_ret2;exact ⟨by rw [HO'.out];rfl,q,HW.out⟩
def zjs (L:List E) (t:Nat):Int:=(L.getD t (0,0,0)).1
theorem zeu {L:List E} {t:Nat} (h:t<L.length):∃x,L[t]? =some x/\zjs L t=x.1:=by
 refine ⟨L[t],List.getElem?_eq_getElem h,?_⟩;simp [zjs,h]
theorem z7h {L:List E} (hu:Up L) (id:Int):(seen L id).isSome=decide (place L id<L.length/\zjs L (place L id)=id):=by
 rcases znh hu id with ⟨x,h1,h2,h3⟩ | ⟨_,h2,h3⟩
 ·have hlt:=(List.getElem?_eq_some_iff.1 h1).1
  obtain ⟨y,hy1,hy2⟩:=zeu hlt;rw [h1] at hy1;obtain rfl:=Option.some.inj hy1;rw [h3,decide_eq_true ⟨hlt,hy2.trans h2⟩];rfl
 ·rw [h3]
  symm;refine decide_eq_false ?_;rintro ⟨hlt,hk⟩;obtain ⟨y,hy1,hy2⟩:=zeu hlt;exact h2 y hy1 (hy2.symm.trans hk)
theorem z0z {w:World} {B gT p:Nat} {n:Int} {v:Value} {L:List E} (h:GAt w B gT 61 p n v L) (id:Int) (o1 o2:Obj) (h1:o1= .cells #[.pointer (some ⟨p,0,none⟩)] 82) (h2:o2= .cells #[.int .i64 id] 3):
 Reads ((w.alloc o1).alloc o2) id L.length p w.heap.size (w.heap.size+1) (zjs L):=by
 subst h1 h2;have hb:Below w.heap.size w ((w.alloc (.cells #[.pointer (some ⟨p,0,none⟩)] 82)).alloc (.cells #[.int .i64 id] 3)):=((Below.refl _ _).alloc (Nat.le_refl _) _).alloc (by simp) _;have h':=h.below hb;refine ⟨?_,?_,λ h0=>?_⟩
 ·rw [World.cell?_alloc_at _ _ _ _ (by simp)];rfl
 ·rw [World.cell?_alloc_lt _ _ ⟨w.heap.size,0,none⟩ (by simp),World.cell?_alloc_at _ _ _ _ rfl];rfl
 ·rcases h'.row.shape with ⟨_,e⟩ | ⟨g,cap,e,_⟩
  ·rw [e] at h0;simp at h0
  ·refine ⟨g,cap,h'.c1.trans (by rw [e]),λ t ht=>?_⟩
   obtain ⟨x,hx1,hx2⟩:=zeu ht;rw [hx2];exact (h'.row.at (by rw [e];rfl) hx1).1
theorem zmp (w:World) (o1 o2:Obj) (q:Nat):Below w.heap.size w (((w.alloc o1).alloc o2).drewN q):=
 (((Below.refl _ _).alloc (Nat.le_refl _) _).alloc (by simp) _).trans ⟨rfl,rfl,rfl,Nat.le_refl _,λ _ _=>rfl⟩
theorem zge (id:Int) (B p k:Nat) (n:Int) (v:Value) (L:List E) (ok:Bool) (w:World) (h:GAt w B 168 61 p n v L) (hu:Up L) (hl:L.length<=1000) (hk:k=place L id) (hok:ok=(seen L id).isSome):
 Calls prog 114 #[.pointer (some ⟨p,0,none⟩),.int .i64 id] w λ e w'=>e= .returned (.tuple #[.int .i64 (k:Int),.bool ok])/\Below w.heap.size w w':=by
 have HR:Hid (Reads ((w.alloc (.cells #[.pointer (some ⟨p,0,none⟩)] 82)).alloc (.cells #[.int .i64 id] 3)) id L.length p w.heap.size (w.heap.size+1) (zjs L)):=z0z h id _ _ rfl rfl;have HU:=kd hu;have HK:=kd (And.intro hk hok);obtain ⟨m,hm⟩:∃m,m=L.length:=⟨_,rfl⟩;have HM:=kd hm;have hp:=h.c1;have hplt:=h.plt;obtain ⟨a,cap,hv⟩:∃a cap,v= .slice a m cap:=by
  rcases h.row.shape with ⟨e1,e2⟩ | ⟨g,cap,e,_⟩
  ·exact ⟨none,0,by rw [e1,hm,e2];rfl⟩
  ·exact ⟨_,cap,by rw [e,hm]⟩
 subst hv;clear h hu hk hok hm;go_enter func114,ntmps114;go_wp2_with fail;refine (zyc id m k p w.heap.size (w.heap.size+1) (zjs L) ok _ (by rw [HM.out];exact HR.out) (by rw [HM.out,HK.out.1];exact zhq L id) (by rw [HM.out];exact hl) (λ t ht=>?_) (λ t h1 h2=>?_) (by rw [HM.out,HK.out.1,HK.out.2];exact z7h HU.out id)).mono ?_
 ·have hlt:t<L.length:=by have:=zhq L id;rw [<-HK.out.1] at this;omega
  obtain ⟨x,hx1,hx2⟩:=zeu hlt;rw [hx2];exact zj5 L id t (by rw [<-HK.out.1];exact ht) x hx1
 ·obtain ⟨x,hx1,hx2⟩:=zeu (show t<L.length by rw [<-HM.out];exact h2)
  rw [hx2];exact zkv L id HU.out t (by rw [<-HK.out.1];exact h1) x hx1
 ·rintro e w' ⟨rfl,q,hw⟩
  have HB:Hid (Below w.heap.size w w'):=by
   show Below w.heap.size w w';rw [hw];exact zmp w _ _ q
  clear hw HR;go_wp2_with fail;go_ret2;exact ⟨rfl,HB.out⟩
theorem zs9 (x n:Int) (B p:Nat) (v:Value) (L:List E) (ok:Bool) (w:World) (h:GAt w B 168 61 p n v L) (hok:ok=decide (0<=x/\x<n)):
 Calls prog 116 #[.pointer (some ⟨p,0,none⟩),.int .i64 x] w λ e w'=>e= .returned (.bool ok)/\w'=w:=by
 have hp:=h.c0;clear h;by_cases h0:0<=x
 ·by_cases h1:x<n
  ·have HO:Hid (ok=true):=by
    show ok=true;rw [hok];exact decide_eq_true ⟨h0,h1⟩
   clear hok;go_enter func116,ntmps116;go_wp2;go_ret;exact ⟨by rw [HO.out];rfl,rfl⟩
  ·have HO:Hid (ok=false):=by
    show ok=false;rw [hok];exact decide_eq_false (λ h=>h1 h.2)
   clear hok;go_enter func116,ntmps116;go_wp2;go_ret;exact ⟨by rw [HO.out];rfl,rfl⟩
 ·have HO:Hid (ok=false):=by
   show ok=false;rw [hok];exact decide_eq_false (λ h=>h0 h.1)
  clear hok;go_enter func116,ntmps116;go_wp2;go_ret;exact ⟨by rw [HO.out];rfl,rfl⟩
theorem zbb (n:Int) (B p:Nat) (v:Value) (L:List E) (w:World) (h:GAt w B 168 61 p n v L):
 Calls prog 52 #[.pointer (some ⟨p,0,none⟩)] w λ e w'=>e= .returned (.int .i64 n)/\w'=w:=by
 have hp:=h.c0;clear h;go_enter func52,ntmps52;go_wp2;go_ret;exact ⟨rfl,rfl⟩
theorem zfk (n:Int) (w:World) (h0:0<=n) (h1:n<=40):
 Calls prog 53 #[.int .i64 n] w λ e w'=>e= .returned (.tuple #[.pointer (some ⟨w.heap.size,0,none⟩),.nilIface])/\w'=w.alloc (.cells #[.int .i64 n,.slice none 0 0] 168):=by
 have g0:¬n<0:=by omega
 have g1:¬40<n:=by omega
 go_enter func53,ntmps53;go_wp2;go_ret2;exact ⟨rfl,rfl⟩
theorem zd9 (b o n:Nat):(⟨b,o,none⟩:Addr).add n=⟨b,o+n,none⟩:=by
 unfold Addr.add;split
 ·next h=>rw [h];rfl
 ·rfl
theorem zw4 (B i vb:Nat) (v:Value) (L:List E) (x:E) (w:World) (h:zad w B 61 v L) (hB:B<=w.heap.size) (hx:w.heap[vb]? =some (.cells (zaq x).toArray 61)) (hi:i=L.length) (hl:L.length<=1000):
 Calls prog 117 #[v,.int .i64 (i:Int),.slice (some ⟨vb,0,none⟩) 1 1] w λ e w'=>∃v',e= .returned v'/\zad w' B 61 v' (L++[x])/\w.grownBy w' v.ownBlock/\zbr w v v':=by
 obtain ⟨v',w',hr,h2,h3,h4⟩:=zhk 33 w B v L [x] h hB ⟨vb,0,none⟩ 1 1 rfl (cells_of_block hx) (by simp;omega);have HF:Hid (zad w' B 61 v' (L++[x])/\w.grownBy w' v.ownBlock/\zbr w v v'):=⟨h2,h3,h4⟩;clear h2 h3 h4 hx;rcases h.shape with ⟨rfl,hL⟩ | ⟨g,cap,rfl,h1,h2,h3,h4⟩
 ·subst hL
  have hi0:i=0:=hi;subst hi0;have HR:=kd hr;clear h hr hi hl;go_enter func117,ntmps117;go_wp2_with (at_builtin;refine Lib.wpList_append_run _ rfl _ _ _ _ rfl _ _ rfl rfl _ _ HR.out ?_);go_ret;exact ⟨v',rfl,HF.out⟩
 ·rw [<-hi] at hr h3 HF
  have h4':cap<=9223372036854775807:=by simp only [maxLen] at h4;omega
  have HF':=kd HF;have HR:=kd hr;clear h h4 HF hr;rw [<-hi];clear hi;go_enter func117,ntmps117;go_wp2_with (at_builtin;refine Lib.wpList_append_run _ rfl _ _ _ _ rfl _ _ rfl rfl _ _ HR.out ?_);all_goals
   go_ret;exact ⟨v',rfl,HF'.out⟩
theorem yaar (w:World):(Go.sizeOf 61).run prog w= .ok 3 w:=by kernel_rfl
theorem zjm:(prog.info? 61).map (·.size)=some 3:=by kernel_rfl
theorem zvb (w:World) (vb g o lb cb:Nat) (x:E) (cur:Array Value) (hne:vb≠g) (hx:w.heap[vb]? =some (.cells (zaq x).toArray 61)) (hg:w.heap[g]? =some (.cells cur 61 (0,0))) (hc:cur.size≠0):
 (callFunc 228 #[.slice (some ⟨vb,0,none⟩) 1 1,.slice (some ⟨g,o,none⟩) lb cb]).run prog w= .ok (.value (.bool false)) w:=by
 rw [run_callFunc_extern func228 (by kernel_rfl) (by kernel_rfl) (by kernel_rfl) (e:=Extern.SlicesOverlaps.overlaps #[33,33] #[4]) (by kernel_rfl),
  Lib.run_overlaps_apart w 33 4 61 underlying33 3 yaar ⟨vb,0,none⟩ ⟨g,o,none⟩ 1 1 lb cb hne 61 61 3 cur.size (by simp [World.shape?,hx,zaq]) (by simp [World.shape?,hg]) hc (by simp [World.frozen?,hx]) (by simp [World.frozen?,hx])]
 rfl
theorem zfs {w:World} {B g:Nat} {v:Value} {L:List E} (h:zad w B 61 v L) (hv:v.ownBlock=some g) (i:Nat):∀j u,(zaf (L.drop i))[j]? =some u->w.cell? ((⟨g,i*3,none⟩:Addr).add j)=some u:=by
 intro j u hu;rw [zd9];rw [<-znn,List.getElem?_drop] at hu;have:=World.ownsRow.cells h hv (i*3+j) u hu
 rwa [zbm] at this
theorem zza {w W:World} (h:W.heap=w.heap) (a:Addr):W.cell? a=w.cell? a:=by simp [World.cell?,h]
theorem zvm {w W:World} {B g cap i:Nat} {L:List E} {cur:Array Value} (x:E) (hs:W.heap=w.heap) (ho:W.os=w.os) (ht:W.tape=w.tape) (hp:W.output=w.output)
 (hg:w.heap[g]? =some (.cells cur 61 (0,0))) (hB:B<=g) (hi:i<=L.length) (htk:cur.toList.take (L.length*3)=zaf L) (hsz:cur.size=cap*3) (hc:L.length+1<=cap) (hm:cap<=maxLen) (A:Array Value) (W':World) (hW':W'=(W.setRow g A).setRow g (splice (shifted cur.toList L i) (i*3) (zaq x)).toArray):
 zad W' B 61 (.slice (some ⟨g,0,none⟩) (L.length+1) cap) (L.take i++x::L.drop i)/\w.grownBy W' (some g)/\zbr w (.slice (some ⟨g,0,none⟩) L.length cap) (.slice (some ⟨g,0,none⟩) (L.length+1) cap):=by
 subst hW';have hlen:(L.take i++x::L.drop i).length=L.length+1:=by simp;omega
 have hg':W.heap[g]? =some (.cells cur 61 (0,0)):=by rw [hs];exact hg
 rw [setRow_setRow];refine ⟨⟨zah _,Or.inr ⟨g,cap,_,by rw [hlen],hB,setRow_heap W g cur _ 61 (0,0) hg',by rw [hlen];exact hc,hm,?_,?_⟩⟩,⟨ho,ht,hp,by simp [hs],λ k hk hn=>?_⟩,λ k hk=>Or.inl hk⟩
 ·rw [List.size_toArray,length_splice _ _ _ (by rw [ze2 hi (by simp;omega),zbt];simp;omega),ze2 hi (by simp;omega)]
  simpa using hsz
 ·show (splice _ _ _).take _=_
  rw [zvv x hi htk (by simp;omega),List.take_left' (zah _)]
 ·rw [setRow_other W g k _ (λ e=>hn (by rw [e])),hs]
theorem zpg (B i vb g cap:Nat) (L:List E) (x:E) (w:World) (h:zad w B 61 (.slice (some ⟨g,0,none⟩) L.length cap) L) (hx:w.heap[vb]? =some (.cells (zaq x).toArray 61)) (hne:vb≠g) (hi:i<L.length) (hl:L.length<=1000) (hc:L.length+1<=cap):
 Calls prog 117 #[.slice (some ⟨g,0,none⟩) L.length cap,.int .i64 (i:Int),.slice (some ⟨vb,0,none⟩) 1 1] w λ e w'=>∃v',e= .returned v'/\zad w' B 61 v' (L.take i++x::L.drop i)/\w.grownBy w' (some g)/\zbr w (.slice (some ⟨g,0,none⟩) L.length cap) v':=by
 rcases h.2 with ⟨hv,_⟩ | ⟨g',cap',cur,hv,hBg,hg,_,hm,hsz,htk⟩
 ·simp at hv
 obtain ⟨hv1,_,hv2⟩:some (⟨g,0,none⟩:Addr)=some ⟨g',0,none⟩/\L.length=L.length/\cap=cap':=by
  injection hv with a b c
  exact ⟨a,b,c⟩
 obtain rfl:g=g':=by simpa using hv1
 subst hv2;have hov:=λ (W:World) (hW:W.heap=w.heap) lb cb=>zvb W vb g ((i+1)*3) lb cb x cur hne (by rw [hW];exact hx) (by rw [hW];exact hg) (by omega)
 have hcp1:∀(W:World),W.heap=w.heap->∀ty dc sc,(Builtin.copy_ #[33,33] ty #[.slice (some ⟨g,(i+1)*3,none⟩) (L.length-i) dc,.slice (some ⟨g,i*3,none⟩) (L.length+1-i) sc]).run prog W= .ok (goInt (Nat.min (L.length+1-i) (L.length-i))) (W.setRow g (shifted cur.toList L i).toArray):=λ W hW ty dc sc=>
  zd0 W 33 33 ty 61 3 g ((i+1)*3) (L.length-i) dc ⟨g,i*3,none⟩ (L.length+1-i) sc cur.toList 61 (zaf (L.drop i)) underlying33 zjm (by rw [hW,Array.toArray_toList];exact hg) (by rw [zah,List.length_drop,Nat.min_eq_min,Nat.min_eq_right (by omega)]) (λ j u hu=>by rw [zza hW];exact zfs h rfl i j u hu)
   (by rw [zah];simp;omega) (zcj _)
 have hcp2:∀(W:World),W.heap[g]? =some (.cells (shifted cur.toList L i).toArray 61 (0,0))->W.heap[vb]? =some (.cells (zaq x).toArray 61)->∀ty dc,(Builtin.copy_ #[33,33] ty #[.slice (some ⟨g,i*3,none⟩) (L.length+1-i) dc,.slice (some ⟨vb,0,none⟩) 1 1]).run prog W= .ok (goInt (Nat.min 1 (L.length+1-i))) (W.setRow g (splice (shifted cur.toList L i) (i*3) (zaq x)).toArray):=λ W hW hV ty dc=>
  zd0 W 33 33 ty 61 3 g (i*3) (L.length+1-i) dc ⟨vb,0,none⟩ 1 1 (shifted cur.toList L i) 61 (zaq x) underlying33 zjm hW (by rw [zbt,Nat.min_eq_min,Nat.min_eq_left (by omega)]) (λ j u hu=>cells_of_block hV j u (by simpa [zaf] using hu))
   (by rw [ze2 (by omega) (by simp;omega),zbt];simp;omega) (λ u hu=>zcj [x] u (by simpa [zaf] using hu))
 have HV:=kd hx;have HG:=kd hg;have HD:Hid (∀(W W':World) (A:Array Value),W.heap=w.heap->W.os=w.os->W.tape=w.tape->W.output=w.output->W'=(W.setRow g A).setRow g (splice (shifted cur.toList L i) (i*3) (zaq x)).toArray->zad W' B 61 (.slice (some ⟨g,0,none⟩) (L.length+1) cap) (L.take i++x::L.drop i)/\w.grownBy W' (some g)/\zbr w (.slice (some ⟨g,0,none⟩) L.length cap) (.slice (some ⟨g,0,none⟩) (L.length+1) cap)):=
  λ W W' A e1 e2 e3 e4 e5=>zvm x e1 e2 e3 e4 hg hBg (by omega) htk hsz hc hm A W' e5
 have hcap:cap<=9223372036854775807:=by simp only [maxLen] at hm;omega
 clear h hv hv1 hBg hg htk hsz hm hx;have HS1:Hid (∀(W:World),W.heap=w.heap->(W.setRow g (shifted cur.toList L i).toArray).heap[g]? =some (.cells (shifted cur.toList L i).toArray 61 (0,0))):=λ W hW=>setRow_heap W g cur _ 61 (0,0) (by rw [hW];exact HG.out)
 have HS2:Hid (∀(W:World),W.heap=w.heap->(W.setRow g (shifted cur.toList L i).toArray).heap[vb]? =some (.cells (zaq x).toArray 61)):=λ W hW=>by rw [setRow_other W g vb _ hne,hW];exact HV.out
 have HO:=kd hov;have HC1:Hid _:=hcp1;have HC2:Hid _:=hcp2;clear hov hcp1 hcp2;generalize (shifted cur.toList L i)=S1 at*;generalize (splice S1 (i*3) (zaq x))=S2 at*;generalize hnn:L.length=n at*;have hz2:¬((i:Int)=(n:Int)):=by omega
 have hin:i<=n:=by omega
 have hb2:¬(cap=i+1):=by omega
 have hb4:¬(cap=i):=by omega
 have hb3:(i:Int)<=(n:Int)+1:=by omega
 have hw1:IntKind.i64.wrap ((i:Int)+1)=(i:Int)+1:=by rw [IntKind.wrap_i64];omega
 have hb1:(0:Int)<=(i:Int)+1:=by omega
 have htn:((i:Int)+1).toNat=i+1:=by omega
 have hb5:n+1-(i+1)=n-i:=by omega
 clear hnn;go_enter func117,ntmps117;go_wp2_with (rw [HO.out _ rfl]);have hc1:∀ty dc sc,(Builtin.copy_ #[33,33] ty #[.slice (some ⟨g,(i+1)*3,none⟩) (n-i) dc,.slice (some ⟨g,i*3,none⟩) (n+1-i) sc]).run prog w.drew= .ok (goInt (Nat.min (n+1-i) (n-i))) (w.drew.setRow g S1.toArray):=λ ty dc sc=>HC1.out w.drew rfl ty dc sc
 generalize hW1:w.drew.setRow g S1.toArray=W1 at hc1;go_region
 have HS3:Hid (W1.heap[g]? =some (.cells S1.toArray 61 (0,0))/\W1.heap[vb]? =some (.cells (zaq x).toArray 61)):=by rw [<-hW1];exact ⟨HS1.out _ rfl,HS2.out _ rfl⟩
 have HW1:=kd hW1;clear hc1 hW1;have hc2:∀ty dc,(Builtin.copy_ #[33,33] ty #[.slice (some ⟨g,i*3,none⟩) (n+1-i) dc,.slice (some ⟨vb,0,none⟩) 1 1]).run prog W1= .ok (goInt (Nat.min 1 (n+1-i))) (W1.setRow g S2.toArray):=λ ty dc=>HC2.out W1 HS3.out.1 HS3.out.2 ty dc
 generalize hW2:W1.setRow g S2.toArray=W2 at hc2;have HW2:=kd hW2;clear hW2;go_wp2;go_ret;exact ⟨_,rfl,HD.out w.drew _ _ rfl rfl rfl rfl (by rw [HW1.out,HW2.out])⟩
theorem zdg (n:Nat):(Builtin.zeroCells zE.cells n).toList.length=n*3:=by
 rw [zgd];simp [Builtin.zeroCells]
theorem zsp (B i vb g cap:Nat) (L:List E) (x:E) (w:World) (h:zad w B 61 (.slice (some ⟨g,0,none⟩) L.length cap) L) (hB:B<=w.heap.size) (hx:w.heap[vb]? =some (.cells (zaq x).toArray 61)) (hi:i<L.length) (hl:L.length<=1000) (hnc:L.length<=cap) (hc:cap<L.length+1):
 Calls prog 117 #[.slice (some ⟨g,0,none⟩) L.length cap,.int .i64 (i:Int),.slice (some ⟨vb,0,none⟩) 1 1] w λ e w'=>∃v',e= .returned v'/\zad w' B 61 v' (L.take i++x::L.drop i)/\w.grownBy w' (some g)/\zbr w (.slice (some ⟨g,0,none⟩) L.length cap) v':=by
 obtain ⟨inf,hinf,hs,hb,hz⟩:=zlf;have hglt:g<w.heap.size:=(World.ownsRow.lt h g rfl).2;have hvlt:vb<w.heap.size:=lt_of_some hx;obtain ⟨N,hN⟩:∃N,N=w.heap.size:=⟨_,rfl⟩;obtain ⟨G,hG⟩:∃G,G=grownCap w (L.length+1) cap 61:=⟨_,rfl⟩;have hGn:L.length+1<=G:=by rw [hG];exact grownCap_ge w _ _ _
 have hGm:G<=maxLen:=by rw [hG];exact grownCap_le_maxLen w _ cap 61 (by simp only [maxLen];omega)
 obtain ⟨Z,hZ⟩:∃Z,Z=(Builtin.zeroCells zE.cells (L.length+1-i)).toList:=⟨_,rfl⟩;obtain ⟨Y,hY⟩:∃Y,Y=(Builtin.zeroCells zE.cells (G-(L.length+1))).toList:=⟨_,rfl⟩;have hZl:Z.length=(L.length+1-i)*3:=by rw [hZ,zdg]
 have hYl:Y.length=(G-(L.length+1))*3:=by rw [hY,zdg]
 have hti:(zaf (L.take i)).length=i*3:=by rw [zah];simp;omega
 have hold:(Builtin.firstCells inf.size i (.slice (some ⟨g,0,none⟩) i cap)).run prog w.drew= .ok (zaf (L.take i)).toArray w.drew:=by
  rw [hs];refine run_firstCells_some w.drew 3 i ⟨g,0,none⟩ i cap (zaf (L.take i)) hti (λ j v hj=>?_);refine World.ownsRow.cells h rfl j v ?_;rw [<-zgu,List.getElem?_take] at hj;split at hj
  ·exact hj
  ·cases hj
 have hrz:∀ty,(Builtin.append_ #[33,3] ty #[.slice (some ⟨g,0,none⟩) i cap,.int .i64 ((L.length:Int)+1-(i:Int))]).run prog w=
  .ok (.slice (some ⟨N,0,none⟩) (L.length+1) G) (w.drew.alloc (.cells (zaf (L.take i)++(Z++Y)).toArray 61)):=λ ty=>by
  have hik:i+(L.length+1-i)=L.length+1:=by omega
  have e:=Lib.run_append_grow_zeros w 33 3 ty 61 inf zE .i64 .i64 underlying33 underlying3 hinf hz (some ⟨g,0,none⟩) i cap (zaf (L.take i)) hold (L.length+1-i) (by omega) (by rw [hs];omega) (by omega) (by omega) (by rw [hb];omega) (by rw [hb,hik];exact growslice_fits (by omega) (by omega));rw [hik,<-hG] at e;rw [show (L.length:Int)+1-(i:Int)=((L.length+1-i:Nat):Int) by omega,e,hN]
  congr 3
  apply Array.ext';rw [hZ,hY];simp
 obtain ⟨W1,hW1⟩:∃W1,W1=w.drew.alloc (.cells (zaf (L.take i)++(Z++Y)).toArray 61):=⟨_,rfl⟩;rw [<-hW1] at hrz;have g1:W1.heap[N]? =some (.cells (zaf (L.take i)++(Z++Y)).toArray 61 (0,0)):=by rw [hW1,hN];exact heap_alloc_new w.drew _
 have o1:∀k,k<N->W1.heap[k]? =w.heap[k]? :=λ k hk=>by rw [hW1];exact heap_alloc_old w.drew _ (show k<w.drew.heap.size by rw [hN] at hk;exact hk)
 obtain ⟨S1,hS1⟩:∃S1,S1=splice (zaf (L.take i)++(Z++Y)) (i*3) (zaq x):=⟨_,rfl⟩;have l1:S1.length=G*3:=by rw [hS1,length_splice _ _ _ (by rw [zbt];simp [hti,hZl];omega)];simp [hti,hZl,hYl];omega
 have hc1:∀ty dc,(Builtin.copy_ #[33,33] ty #[.slice (some ⟨N,i*3,none⟩) (L.length+1-i) dc,.slice (some ⟨vb,0,none⟩) 1 1]).run prog W1= .ok (goInt (Nat.min 1 (L.length+1-i))) (W1.setRow N S1.toArray):=λ ty dc=>by
  rw [hS1];exact zd0 W1 33 33 ty 61 3 N (i*3) (L.length+1-i) dc ⟨vb,0,none⟩ 1 1 _ 61 (zaq x) underlying33 zjm g1 (by rw [zbt,Nat.min_eq_min,Nat.min_eq_left (by omega)]) (λ j u hu=>cells_of_block (by rw [o1 vb (by omega)];exact hx) j u (by simpa [zaf] using hu))
   (by rw [zbt];simp [hti,hZl];omega) (λ u hu=>zcj [x] u (by simpa [zaf] using hu))
 obtain ⟨W2,hW2⟩:∃W2,W2=W1.setRow N S1.toArray:=⟨_,rfl⟩;rw [<-hW2] at hc1;have g2:W2.heap[N]? =some (.cells S1.toArray 61 (0,0)):=by rw [hW2];exact setRow_heap W1 N _ _ 61 (0,0) g1
 have o2:∀k,k<N->W2.heap[k]? =w.heap[k]? :=λ k hk=>by rw [hW2,setRow_other W1 N k _ (by omega)];exact o1 k hk
 have hc2:∀ty dc sc,(Builtin.copy_ #[33,33] ty #[.slice (some ⟨N,(i+1)*3,none⟩) (L.length-i) dc,.slice (some ⟨g,i*3,none⟩) (L.length-i) sc]).run prog W2.drew= .ok (goInt (Nat.min (L.length-i) (L.length-i))) (W2.drew.setRow N (splice S1 ((i+1)*3) (zaf (L.drop i))).toArray):=λ ty dc sc=>
  zd0 W2.drew 33 33 ty 61 3 N ((i+1)*3) (L.length-i) dc ⟨g,i*3,none⟩ (L.length-i) sc S1 61 (zaf (L.drop i)) underlying33 zjm g2 (by rw [zah,List.length_drop,Nat.min_eq_min,Nat.min_self]) (λ j u hu=>by
      have:=zfs h rfl i j u hu;rw [zd9] at this ⊢;rw [World.cell?_of_block (show W2.drew.heap[(⟨g,i*3+j,none⟩:Addr).block]? =w.heap[(⟨g,i*3+j,none⟩:Addr).block]? from o2 g (by omega))];exact this)
   (by rw [zah,l1];simp;omega) (zcj _)
 obtain ⟨W3,hW3⟩:∃W3,W3=W2.drew.setRow N (splice S1 ((i+1)*3) (zaf (L.drop i))).toArray:=⟨_,rfl⟩;rw [<-hW3] at hc2;have HD:Hid (zad W3 B 61 (.slice (some ⟨N,0,none⟩) (L.length+1) G) (L.take i++x::L.drop i)/\w.grownBy W3 (some g)/\zbr w (.slice (some ⟨g,0,none⟩) L.length cap) (.slice (some ⟨N,0,none⟩) (L.length+1) G)):=by
  have hlen:(L.take i++x::L.drop i).length=L.length+1:=by simp;omega
  have g3:W3.heap[N]? =some (.cells (splice S1 ((i+1)*3) (zaf (L.drop i))).toArray 61 (0,0)):=by rw [hW3];exact setRow_heap W2.drew N _ _ 61 (0,0) g2
  refine ⟨⟨zah _,Or.inr ⟨N,G,_,by rw [hlen],by omega,g3,by rw [hlen];exact hGn,hGm,?_,?_⟩⟩,⟨by rw [hW3,hW2,hW1];rfl,by rw [hW3,hW2,hW1];rfl,by rw [hW3,hW2,hW1];rfl,by rw [hW3,hW2,hW1];simp,λ k hk _=>?_⟩,λ k hk=>?_⟩
  ·rw [List.size_toArray,length_splice _ _ _ (by rw [zah,l1];simp;omega),l1]
  ·show (splice _ _ _).take _=_
   rw [hS1,z2w x Z Y (by omega) hZl,List.take_left' (zah _)]
  ·rw [hW3,setRow_other _ N k _ (by omega)]
   exact o2 k (by omega)
  ·have hk':N=k:=by simpa [Value.ownBlock] using hk
   exact Or.inr (by omega)
 have hG63:G<=9223372036854775807:=by simp only [maxLen] at hGm;omega
 clear h hx hold hW1 hW2 hW3 hG hGm hZ hY hZl hYl hti g1 o1 g2 o2 hS1 l1 hinf hs hb hz hglt hvlt hN;generalize hnn:L.length=n at*;have hz2:¬((i:Int)=(n:Int)):=by omega
 have hin:i<=n:=by omega
 have hGi:¬(G=i):=by omega
 have hGim:¬(G=i+1):=by omega
 have hci:¬(cap=i):=by omega
 have hb3:(i:Int)<=(n:Int):=by omega
 have hb6:(i:Int)<=(n:Int)+1:=by omega
 have hz3:(cap:Int)<(n:Int)+1:=by omega
 have hw1:IntKind.i64.wrap ((i:Int)+1)=(i:Int)+1:=by rw [IntKind.wrap_i64];omega
 have hb1:(0:Int)<=(i:Int)+1:=by omega
 have htn:((i:Int)+1).toNat=i+1:=by omega
 have hb5:n+1-(i+1)=n-i:=by omega
 clear hnn hB;go_enter func117,ntmps117;go_wp2_with (at_builtin;refine Lib.wpList_append_run _ rfl _ _ _ _ rfl _ _ rfl rfl _ _ (hrz _) ?_);all_goals clear hrz
 go_region
 go_wp2;go_ret;exact ⟨_,rfl,HD.out⟩
theorem zu9 (B i vb:Nat) (v:Value) (L M:List E) (x:E) (w:World) (h:zad w B 61 v L) (hB:B<=w.heap.size) (hx:w.heap[vb]? =some (.cells (zaq x).toArray 61)) (hne:v.ownBlock≠some vb) (hi:i<=L.length) (hl:L.length<=1000) (hM:M=L.take i++x::L.drop i):
 Calls prog 117 #[v,.int .i64 (i:Int),.slice (some ⟨vb,0,none⟩) 1 1] w λ e w'=>∃v',e= .returned v'/\zad w' B 61 v' M/\w.grownBy w' v.ownBlock/\zbr w v v':=by
 subst hM;rcases Nat.lt_or_eq_of_le hi with hlt | he
 ·rcases h.shape with ⟨_,hL⟩ | ⟨g,cap,rfl,h1,h2,h3,h4⟩
  ·rw [hL] at hlt;simp at hlt
  ·have hne':vb≠g:=λ e=>hne (by simp [Value.ownBlock,e])
   by_cases hr:L.length+1<=cap
   ·exact zpg B i vb g cap L x w h hx hne' hlt hl hr
   ·exact zsp B i vb g cap L x w h hB hx hlt hl h3 (by omega)
 ·have e:L.take i++x::L.drop i=L++[x]:=by rw [he];simp
  rw [e];exact zw4 B i vb v L x w h hB hx he hl
end Go.Proofs.YtebcjaenhiiflaaGreatDoor.G
