import Derived.Test.YtebcjaenhiiflaaGreatDoorQSST
import Derived.Test.YtebcjaenhiiflaaGreatDoorQBIt
import Derived.Maps.RangeWalk
import Derived.Maps.OwnSet
import Derived.Maps.OwnOps
import Derived.Lib.SlKeysI
set_option maxHeartbeats 4000000
set_option maxRecDepth 100000
namespace Go.Proofs.YtebcjaenhiiflaaGreatDoor.S
open Go.Proofs.Tryz
open Go.RowKit Go.WideMaps Go.Maps
def zvg:List Value->Option (DataW Unit × List MemPlace)
 | [.int .i64 a,.int .i64 b]=>some (.agg [.lit (.int .i64 a),.lit (.int .i64 b)],[])
 | _=>none
def zd1:Value->Option (DataW Unit × List MemPlace)
 | .agg cs=>zvg cs.toList
 | _=>none
def zoy (a b:Int):Value:=.agg #[.int .i64 a,.int .i64 b]
def zdq (a b:Int):DataW Unit:=.agg [.lit (.int .i64 a),.lit (.int .i64 b)]
theorem zj7 (a b:Int):zd1 (zoy a b)=some (zdq a b,[]):=rfl
theorem zzq {l:List Value} {y:DataW Unit × List MemPlace} (h:zvg l=some y):∃a b:Int,l=[.int .i64 a,.int .i64 b]/\y=(zdq a b,[]):=by
 unfold zvg at h;split at h
 ·next a b=>cases h;exact ⟨a,b,rfl,rfl⟩
 ·cases h
theorem zoi {v:Value} {y:DataW Unit × List MemPlace} (h:zd1 v=some y):∃c:Int × Int,v=zoy c.1 c.2/\y=(zdq c.1 c.2,[]):=by
 unfold zd1 at h;split at h
 ·next cs=>
  obtain ⟨a,b,h1,h2⟩:=zzq h;exact ⟨(a,b),by rw [zoy,<-Array.toArray_toList (xs:=cs),h1],h2⟩
 ·cases h
theorem zol {a b c d:Int} (h:zdq a b=zdq c d):a=c/\b=d:=by
 simpa [zdq] using h
structure Dis (D:DataW Unit) (B:List (Int × Int × Int)):Prop where
 key:∀x:Int,Maps.has D (.int .i64 x)=true↔∃e∈B,e.1=x
 val:∀e∈B,∀zd,D.atKey (.int .i64 e.1) zd=zdq e.2.1 e.2.2
theorem zdt (x:Int) (h:(Lit.int .i64 x).wf=true):keyOf prog 3 (.int .i64 x)=some (.int .i64 x):=keyOf_int_mk underlying3 h
theorem zbe (x:Int):WideAt.IsKeyLit (.int .i64 x):=trivial
theorem Dis.put {D:DataW Unit} {B:List (Int × Int × Int)} (h:Dis D B) (hD:IsMap D) (f:Int × Int × Int) (hn:∀e∈B,e.1≠f.1):Dis (D.put (.int .i64 f.1) (zdq f.2.1 f.2.2)) (B++[f]):=by
 refine ⟨λ x=>?_,λ e he zd=>?_⟩
 ·by_cases hx:x=f.1
  ·subst hx
   rw [has_put_same hD (zbe _)];exact ⟨λ _=>⟨f,by simp,rfl⟩,λ _=>rfl⟩
  ·rw [has_put_other (by simpa using hx),h.key]
   constructor
   ·rintro ⟨e,he,k⟩;exact ⟨e,by simp [he],k⟩
   ·rintro ⟨e,he,k⟩
    rcases List.mem_append.1 he with he | he
    ·exact ⟨e,he,k⟩
    ·rw [List.mem_singleton.1 he] at k;exact absurd k.symm hx
 ·rcases List.mem_append.1 he with he | he
  ·rw [atKey_put_other (by simpa using hn e he)];exact h.val e he zd
  ·rw [List.mem_singleton.1 he,atKey_put_same hD (zbe _)]
theorem Dis.del {D:DataW Unit} {B B':List (Int × Int × Int)} (h:Dis D B) (f:Int × Int × Int) (hone:∀e∈B,e.1=f.1->e=f) (hB:∀e,e∈B'↔e∈B/\e≠f):Dis (D.del (.int .i64 f.1)) B':=by
 refine ⟨λ x=>?_,λ e he zd=>?_⟩
 ·by_cases hx:x=f.1
  ·subst hx
   rw [has_del_same];refine ⟨λ k=>by simp at k,?_⟩;rintro ⟨e,he,k⟩;exact absurd (hone e ((hB e).1 he).1 k) ((hB e).1 he).2
  ·rw [has_del_other (by simpa using hx),h.key]
   constructor
   ·rintro ⟨e,he,k⟩;exact ⟨e,(hB e).2 ⟨he,λ c=>hx (by rw [<-k,c])⟩,k⟩
   ·rintro ⟨e,he,k⟩;exact ⟨e,((hB e).1 he).1,k⟩
 ·have h1:=(hB e).1 he
  rw [atKey_del_other (by
   intro c;have:e.1=f.1:=by simpa using c
   exact h1.2 (hone e h1.1 this))]
  exact h.val e h1.1 zd
theorem Dis.empty:Dis (.map []) []:=⟨λ x=>by simp [Maps.has],λ e he=>by simp at he⟩
structure BAt (w:World) (p pw bw pt bt m N:Nat) (W T:List Nat) (D:DataW Unit):Prop where
 hp:w.heap[p]? =some (.cells #[.pointer (some ⟨pw,0,none⟩),.pointer (some ⟨pt,0,none⟩),.map (some m)] 178)
 sw:zab w pw bw W
 st:zab w pt bt T
 hm:w.ownsMap prog 3 zd1 m N D
 pp:pw≠pt
 bb:bw≠bt
namespace BAt
open Go.Proofs.Tryz
variable {w w':World} {p pw bw pt bt m N:Nat} {W T:List Nat} {D:DataW Unit}
theorem c0 (h:BAt w p pw bw pt bt m N W T D):w.cell? ⟨p,0,none⟩=some (.pointer (some ⟨pw,0,none⟩)):=by simp [World.cell?,h.hp]
theorem c1 (h:BAt w p pw bw pt bt m N W T D):w.cell? ⟨p,1,none⟩=some (.pointer (some ⟨pt,0,none⟩)):=by simp [World.cell?,h.hp]
theorem c2 (h:BAt w p pw bw pt bt m N W T D):w.cell? ⟨p,2,none⟩=some (.map (some m)):=by simp [World.cell?,h.hp]
theorem plt (h:BAt w p pw bw pt bt m N W T D):p<w.heap.size:=lt_of_some h.hp
theorem below (h:BAt w p pw bw pt bt m N W T D) (hb:Below w.heap.size w w'):BAt w' p pw bw pt bt m N W T D:=
 ⟨by rw [hb.block p h.plt];exact h.hp,h.sw.below hb h.sw.plt h.sw.blt,h.st.below hb h.st.plt h.st.blt,h.hm.kept (row:=none) ⟨hb.os,hb.tape,hb.output,hb.size,λ k hk _=>hb.block k hk⟩ (by simp),h.pp,h.bb⟩
theorem drewN (h:BAt w p pw bw pt bt m N W T D) (n:Nat):BAt (w.drewN n) p pw bw pt bt m N W T D:=⟨h.hp,zep h.sw n,zep h.st n,h.hm,h.pp,h.bb⟩
theorem drew (h:BAt w p pw bw pt bt m N W T D):BAt w.drew p pw bw pt bt m N W T D:=⟨h.hp,zne h.sw,zne h.st,h.hm,h.pp,h.bb⟩
theorem zgz (h:BAt w p pw bw pt bt m N W T D):∃es c,w.heap[m]? =some (.map es c):=by
 obtain ⟨es,c,hb,_⟩:=h.hm;exact ⟨es,c,hb⟩
theorem z3y (h:BAt w p pw bw pt bt m N W T D):m≠p/\m≠pw/\m≠bw/\m≠pt/\m≠bt:=by
 obtain ⟨es,c,hb⟩:=h.zgz;refine ⟨?_,?_,?_,?_,?_⟩ <;> rintro rfl
 ·rw [h.hp] at hb;simp at hb
 ·rw [h.sw.hp] at hb;simp at hb
 ·rw [h.sw.hb] at hb;simp at hb
 ·rw [h.st.hp] at hb;simp at hb
 ·rw [h.st.hb] at hb;simp at hb
theorem yaas (h:BAt w p pw bw pt bt m N W T D):p≠pw/\p≠bw/\p≠pt/\p≠bt:=by
 refine ⟨?_,?_,?_,?_⟩ <;> rintro rfl
 ·have:=h.hp.symm.trans h.sw.hp;simp at this
 ·have:=h.hp.symm.trans h.sw.hb;simp at this
 ·have:=h.hp.symm.trans h.st.hp;simp at this
 ·have:=h.hp.symm.trans h.st.hb;simp at this
theorem z97 (h:BAt w p pw bw pt bt m N W T D):pw≠bt/\pt≠bw:=by
 refine ⟨?_,?_⟩ <;> rintro rfl
 ·have:=h.sw.hp.symm.trans h.st.hb;simp at this
 ·have:=h.st.hp.symm.trans h.sw.hb;simp at this
theorem yabd {W':List Nat} (h:BAt w p pw bw pt bt m N W T D) (hs:zab w' pw bw W') (k:But bw w w'):BAt w' p pw bw pt bt m N W' T D:=by
 refine ⟨by rw [k.block p h.plt h.yaas.2.1];exact h.hp,hs,⟨?_,?_⟩,h.hm.kept (row:=some bw) ⟨k.os,k.tape,k.output,k.size,λ i hi hn=>k.block i hi (λ e=>hn (by rw [e]))⟩ (by simpa using h.z3y.2.2.1),h.pp,h.bb⟩
 ·rw [k.block pt h.st.plt h.z97.2];exact h.st.hp
 ·rw [k.block bt h.st.blt (Ne.symm h.bb)];exact h.st.hb
theorem yabw {T':List Nat} (h:BAt w p pw bw pt bt m N W T D) (hs:zab w' pt bt T') (k:But bt w w'):BAt w' p pw bw pt bt m N W T' D:=by
 refine ⟨by rw [k.block p h.plt h.yaas.2.2.2];exact h.hp,⟨?_,?_⟩,hs,h.hm.kept (row:=some bt) ⟨k.os,k.tape,k.output,k.size,λ i hi hn=>k.block i hi (λ e=>hn (by rw [e]))⟩ (by simpa using h.z3y.2.2.2.2),h.pp,h.bb⟩
 ·rw [k.block pw h.sw.plt h.z97.1];exact h.sw.hp
 ·rw [k.block bw h.sw.blt h.bb];exact h.sw.hb
theorem mapped {D':DataW Unit} {N':Nat} (h:BAt w p pw bw pt bt m N W T D) (hm:w'.ownsMap prog 3 zd1 m N' D') (k:w.grownBy w' (some m)):BAt w' p pw bw pt bt m N' W T D':=by
 obtain ⟨n1,n2,n3,n4,n5⟩:=h.z3y;have hk:∀i,i<w.heap.size->m≠i->w'.heap[i]? =w.heap[i]? :=λ i hi hn=>k.block i hi (λ e=>hn (by injection e with e;exact e.symm))
 exact ⟨by rw [hk p h.plt n1];exact h.hp,⟨by rw [hk pw h.sw.plt n2];exact h.sw.hp,by rw [hk bw h.sw.blt n3];exact h.sw.hb⟩,⟨by rw [hk pt h.st.plt n4];exact h.st.hp,by rw [hk bt h.st.blt n5];exact h.st.hb⟩,hm,h.pp,h.bb⟩
end BAt
end Go.Proofs.YtebcjaenhiiflaaGreatDoor.S
namespace Go.Proofs.YtebcjaenhiiflaaGreatDoor.S
open Go.Proofs.Tryz
open Go.RowKit Go.WideMaps Go.Maps
theorem zj2 (w:World) (o1 o2:Obj):((w.alloc o1).alloc o2).heap[w.heap.size+1]? =some o2:=by
 have:=heap_alloc_new (w.alloc o1) o2
 rwa [World.size_alloc] at this
theorem z9k {w w1 w2:World} {n:Nat} (h1:zab w1 (w.heap.size+1) w.heap.size (List.range n)) (h2:zab w2 (w1.heap.size+1) w1.heap.size (List.range n)) (b2:Below w1.heap.size w1 w2):
 BAt ((w2.alloc (.map #[] 0)).alloc (.cells #[.pointer (some ⟨w.heap.size+1,0,none⟩),.pointer (some ⟨w1.heap.size+1,0,none⟩),.map (some w2.heap.size)] 178)) (w2.heap.size+1) (w.heap.size+1) w.heap.size (w1.heap.size+1) w1.heap.size w2.heap.size 0 (List.range n) (List.range n) (.map []):=by
 have hb:Below w2.heap.size w2 ((w2.alloc (.map #[] 0)).alloc (.cells #[.pointer (some ⟨w.heap.size+1,0,none⟩),.pointer (some ⟨w1.heap.size+1,0,none⟩),.map (some w2.heap.size)] 178)):=za9 _ _ _;have s1:w1.heap.size<=w2.heap.size:=b2.size;have l1:=h1.plt;have l2:=h2.plt;refine ⟨zj2 _ _ _,?_,?_,?_,by omega,by omega⟩
 ·exact (h1.below b2 h1.plt h1.blt).below hb (by omega) (by omega)
 ·exact h2.below hb (by omega) (by omega)
 ·exact (World.ownsMap_made w2 prog 3 zd1).alloc _
theorem z7q (n:Nat) (w:World) (hn:n<=40):
 Calls prog 113 #[.int .i64 (n:Int)] w λ e w'=>∃p pw bw pt bt m,e= .returned (.tuple #[.pointer (some ⟨p,0,none⟩),.nilIface])/\BAt w' p pw bw pt bt m 0 (List.range n) (List.range n) (.map [])/\Below w.heap.size w w'/\w.heap.size<=p/\w.heap.size<=bw/\w.heap.size<=bt/\w.heap.size<=m:=by
 have hmm:=@run_makeMap prog;go_enter func113,ntmps113;go_wp2_with fail;refine (zfk n w hn).mono ?_;rintro e w1 ⟨rfl,h1,b1⟩;have H1:=kd h1;have B1:=kd b1;clear h1 b1;go_wp2_with fail;refine (zfk n w1 hn).mono ?_;rintro e w2 ⟨rfl,h2,b2⟩;have H2:=kd h2;have B2:=kd b2;clear h2 b2;go_wp2;go_ret2;have hh:=z9k H1.out H2.out B2.out;have hs1:=B1.out.size;have hs2:=B2.out.size;refine ⟨_,_,_,_,_,_,rfl,hh,?_,by omega,by omega,by omega,by omega⟩;exact (B1.out.trans (B2.out.mono hs1)).trans ((za9 _ _ _).mono (by omega))
variable {p pw bw pt bt m N n:Nat} {W T:List Nat} {D:DataW Unit}
theorem zko (x y:Nat) (s:Bool) (w:World) (h:BAt w p pw bw pt bt m N W T D) (hx:x<W.length) (hy:y<W.length) (hv:(((W.getD x 0:Nat):Int)==((W.getD y 0:Nat):Int))=s):
 Calls prog 75 #[.pointer (some ⟨p,0,none⟩),.int .i64 (x:Int),.int .i64 (y:Int)] w λ e w'=>e= .returned (.tuple #[.bool s,.nilIface])/\Below w.heap.size w w':=by
 have hc:=h.c0;go_enter func75,ntmps75;go_wp2_with fail;refine (znb x y pw bw W s w h.sw hx hy hv).mono ?_;rintro e w1 ⟨rfl,b1⟩;have B1:=kd b1;clear b1 h hc hv;go_wp2;go_ret2;exact ⟨rfl,B1.out⟩
theorem z1f (x y:Nat) (s:Bool) (w:World) (h:BAt w p pw bw pt bt m N W T D) (hx:x<T.length) (hy:y<T.length) (hv:(((T.getD x 0:Nat):Int)==((T.getD y 0:Nat):Int))=s):
 Calls prog 76 #[.pointer (some ⟨p,0,none⟩),.int .i64 (x:Int),.int .i64 (y:Int)] w λ e w'=>e= .returned (.tuple #[.bool s,.nilIface])/\Below w.heap.size w w':=by
 have hc:=h.c1;go_enter func76,ntmps76;go_wp2_with fail;refine (znb x y pt bt T s w h.st hx hy hv).mono ?_;rintro e w1 ⟨rfl,b1⟩;have B1:=kd b1;clear b1 h hc hv;go_wp2;go_ret2;exact ⟨rfl,B1.out⟩
theorem zel {X:Nat} (x:Nat) (w:World) (h:BAt w p pw bw pt bt m N W T D) (hg:Good n T) (hx:x<n) (hX:T.getD x 0=X):
 Calls prog 231 #[.pointer (some ⟨p,0,none⟩),.int .i64 (x:Int)] w λ e w'=>e= .returned (.int .i64 (X:Int))/\Below w.heap.size w w':=by
 have hc:=h.c1;go_enter func231,ntmps231;go_wp2_with fail;refine (zts x pt bt T w h.st hg hx hX).mono ?_;rintro e w1 ⟨rfl,b1⟩;have B1:=kd b1;clear b1 h hc hX;go_wp2;go_ret;exact ⟨rfl,B1.out⟩
end Go.Proofs.YtebcjaenhiiflaaGreatDoor.S
namespace Go.Proofs.YtebcjaenhiiflaaGreatDoor.S
open Go.Proofs.Tryz
open Go.RowKit Go.WideMaps Go.Maps
variable {p pw bw pt bt m N n:Nat} {W T:List Nat} {D:DataW Unit}
theorem zmr (w:World) (u v:Value):(w.alloc (.cells #[u,v] 180)).cell? ⟨w.heap.size,0,none⟩=some u/\(w.alloc (.cells #[u,v] 180)).cell? ⟨w.heap.size,1,none⟩=some v:=by
 constructor <;> simp
theorem zdz {w w':World} {u v:Value} (h:Below (w.alloc (.cells #[u,v] 180)).heap.size (w.alloc (.cells #[u,v] 180)) w'):w'.cell? ⟨w.heap.size,0,none⟩=some u/\w'.cell? ⟨w.heap.size,1,none⟩=some v:=by
 have hb:=zmr w u v;constructor
 ·rw [h.cell (p:=⟨w.heap.size,0,none⟩) (by simp)];exact hb.1
 ·rw [h.cell (p:=⟨w.heap.size,1,none⟩) (by simp)];exact hb.2
theorem zeb {w w':World} {o:Obj} (h:Below (w.alloc o).heap.size (w.alloc o) w'):Below w.heap.size w w':=
 ((Below.refl _ w).alloc (Nat.le_refl _) o).trans (h.mono (by simp))
theorem zwd (a b X Y:Nat) (w:World) (h:BAt w p pw bw pt bt m N W T D) (hg:Good n T) (ha:a<n) (hb:b<n) (hX:T.getD a 0=X) (hY:T.getD b 0=Y):
 Calls prog 309 #[.pointer (some ⟨p,0,none⟩),.agg #[.int .i64 (a:Int),.int .i64 (b:Int)],.int .i64 (X:Int)] w λ e w'=>e= .returned (.int .i64 (Y:Int))/\Below w.heap.size w w':=by
 have HW:Hid (∀w',Below w.heap.size w w'->BAt w' p pw bw pt bt m N W T D):=λ w' hb=>h.below hb
 clear h;go_enter func309,ntmps309;go_wp2_with fail;refine (zel a _ (HW.out _ ((Below.refl _ w).alloc (Nat.le_refl _) _)) hg ha hX).mono ?_;rintro e w1 ⟨rfl,b1⟩;have c1:=(zdz b1).2;have B1:Hid (Below w.heap.size w w1):=zeb b1;clear b1;go_wp2_with fail;refine (zel b w1 (HW.out _ B1.out) hg hb hY).mono ?_;rintro e w2 ⟨rfl,b2⟩;have B2:Hid (Below w.heap.size w w2):=B1.out.trans (b2.mono B1.out.size);clear b2;go_wp2;go_ret;exact ⟨rfl,B2.out⟩
theorem zu8 (a b X Y:Nat) (w:World) (h:BAt w p pw bw pt bt m N W T D) (hg:Good n T) (ha:a<n) (hb:b<n) (hX:T.getD a 0=X) (hY:T.getD b 0=Y) (hne:Y≠X):
 Calls prog 309 #[.pointer (some ⟨p,0,none⟩),.agg #[.int .i64 (a:Int),.int .i64 (b:Int)],.int .i64 (Y:Int)] w λ e w'=>e= .returned (.int .i64 (X:Int))/\Below w.heap.size w w':=by
 have HW:Hid (∀w',Below w.heap.size w w'->BAt w' p pw bw pt bt m N W T D):=λ w' hb=>h.below hb
 clear h;go_enter func309,ntmps309;go_wp2_with fail;refine (zel a _ (HW.out _ ((Below.refl _ w).alloc (Nat.le_refl _) _)) hg ha hX).mono ?_;rintro e w1 ⟨rfl,b1⟩;have c1:=(zdz b1).2;have c0:=(zdz b1).1;have B1:Hid (Below w.heap.size w w1):=zeb b1;have hl:w.heap.size<w1.heap.size:=by have:=b1.size;simp at this;omega
 clear b1;go_wp2_with fail;refine (zel b w1 (HW.out _ B1.out) hg hb hY).mono ?_;rintro e w2 ⟨rfl,b2⟩;have c2:w2.cell? ⟨w.heap.size,0,none⟩=some (.int .i64 (a:Int)):=(b2.cell (p:=⟨w.heap.size,0,none⟩) hl).trans c0;have B2:Hid (Below w.heap.size w w2):=B1.out.trans (b2.mono B1.out.size);clear b2 c0 c1;go_wp2_with fail;refine (zel a w2 (HW.out _ B2.out) hg ha hX).mono ?_;rintro e w3 ⟨rfl,b3⟩;have B3:Hid (Below w.heap.size w w3):=B2.out.trans (b3.mono B2.out.size);clear b3;go_wp2;go_ret;exact ⟨rfl,B3.out⟩
theorem zsn (a b X Y fr:Nat) (w:World) (h:BAt w p pw bw pt bt m N W T D) (hg:Good n T) (ha:a<n) (hb:b<n) (hX:T.getD a 0=X) (hY:T.getD b 0=Y) (h1:fr≠X) (h2:fr≠Y):
 Calls prog 309 #[.pointer (some ⟨p,0,none⟩),.agg #[.int .i64 (a:Int),.int .i64 (b:Int)],.int .i64 (fr:Int)] w λ e w'=>e= .returned (.int .i64 (-1))/\Below w.heap.size w w':=by
 have HW:Hid (∀w',Below w.heap.size w w'->BAt w' p pw bw pt bt m N W T D):=λ w' hb=>h.below hb
 clear h;go_enter func309,ntmps309;go_wp2_with fail;refine (zel a _ (HW.out _ ((Below.refl _ w).alloc (Nat.le_refl _) _)) hg ha hX).mono ?_;rintro e w1 ⟨rfl,b1⟩;have c1:=(zdz b1).2;have B1:Hid (Below w.heap.size w w1):=zeb b1;clear b1;go_wp2_with fail;refine (zel b w1 (HW.out _ B1.out) hg hb hY).mono ?_;rintro e w2 ⟨rfl,b2⟩;have B2:Hid (Below w.heap.size w w2):=B1.out.trans (b2.mono B1.out.size);clear b2 c1;go_wp2;go_ret;exact ⟨rfl,B2.out⟩
end Go.Proofs.YtebcjaenhiiflaaGreatDoor.S
namespace Go.Proofs.YtebcjaenhiiflaaGreatDoor.S
open Go.Proofs.Tryz
open Go.RowKit Go.WideMaps Go.Maps
variable {p pw bw pt bt m N n:Nat} {R B:List (Int × Int × Int)} {W T:List Nat} {D:DataW Unit}
theorem zv1 (a b fr:Nat) (w:World) (h:BAt w p pw bw pt bt m N W T D) (hg:Good n T) (ha:a<n) (hb:b<n):
 ∃nx:Int,Calls prog 309 #[.pointer (some ⟨p,0,none⟩),.agg #[.int .i64 (a:Int),.int .i64 (b:Int)],.int .i64 (fr:Int)] w (λ e w'=>e= .returned (.int .i64 nx)/\Below w.heap.size w w')/\
  ((nx= -1/\T.getD a 0≠fr/\T.getD b 0≠fr)\/∃u v,((a=u/\b=v)\/(b=u/\a=v))/\T.getD u 0=fr/\nx=(T.getD v 0:Nat)):=by
 by_cases h1:T.getD a 0=fr
 ·exact ⟨_,zwd a b fr _ w h hg ha hb h1 rfl,.inr ⟨a,b,.inl ⟨rfl,rfl⟩,h1,rfl⟩⟩
 ·by_cases h2:T.getD b 0=fr
  ·exact ⟨_,zu8 a b _ fr w h hg ha hb rfl h2 (λ e=>h1 e.symm),.inr ⟨b,a,.inr ⟨rfl,rfl⟩,h2,rfl⟩⟩
  ·exact ⟨_,zsn a b _ _ fr w h hg ha hb rfl rfl (λ e=>h1 e.symm) (λ e=>h2 e.symm),.inl ⟨rfl,h1,h2⟩⟩
def zm9 (R:List (Int × Int × Int)) (T:List Nat) (fr tg:Nat) (back:Int) (e:Int × Int × Int):Prop:=
 ∀u v,Ends e u v->T.getD u 0=fr->((T.getD v 0:Nat):Int)≠back->¬cn ea eb (but (·∈R) e) (T.getD v 0) tg
theorem zp6 (s:St n R W T B) {e:Int × Int × Int} (he:e∈B) {u v u' v':Nat} (h:Ends e u v) (h':Ends e u' v') (hu:T.getD u 0=T.getD u' 0):u=u'/\v=v':=by
 have hbr:=(s.hB e).1 he;have hlt:=s.inn e hbr.1;have hnt:T.getD (ea e) 0≠T.getD (eb e) 0:=λ k=>zij hbr ((s.tw hlt.1 hlt.2).2 k)
 rcases h with ⟨rfl,rfl⟩ | ⟨rfl,rfl⟩ <;> rcases h' with ⟨rfl,rfl⟩ | ⟨rfl,rfl⟩
 ·exact ⟨rfl,rfl⟩
 ·exact absurd hu hnt
 ·exact absurd hu.symm hnt
 ·exact ⟨rfl,rfl⟩
theorem zw8 (s:St n R W T B) (hd:Dis D B) {x c1 c2:Int} {y:DataW Unit × List MemPlace} (hy:y=(zdq c1 c2,[])) (hat:∀zd,D.atKey (.int .i64 x) zd=y.1):∃e∈B,e.1=x/\c1=(ea e:Nat)/\c2=(eb e:Nat):=by
 obtain ⟨e,he,hx⟩:=(hd.key x).1 (has_true_of_atKey hat);refine ⟨e,he,hx,?_⟩;have h1:=hd.val e he .nil;rw [hx,hat,hy] at h1;obtain ⟨h2,h3⟩:=zol h1;have hn:=s.nat e ((s.hB e).1 he).1;exact ⟨h2.trans hn.1,h3.trans hn.2⟩
theorem struck {left:Lit->Bool} {x z:Int} (h:(left (.int .i64 z)&&!(Lit.int .i64 z).sameKey (.int .i64 x))=false) (hne:z≠x):left (.int .i64 z)=false:=by
 rw [sameKey_ne (by simpa using hne)] at h
 simpa using h
def zvd (ds:List (Int × Int × Int)):List Value:=ds.map λ e=>.int .i64 e.1
def zmv (R:List (Int × Int × Int)) (fr tg:Nat) (Z:Int × Int × Int->Prop) (k:Nat) (w:World) (e:Ending) (w':World):Prop:=
 Below w.heap.size w w'/\((cn ea eb Z fr tg/\∃v ds,e= .returned (.tuple #[v,.bool true])/\Way R fr tg ds/\ds.length<=k/\w'.ownsRow w.heap.size 3 1 v ds.length (zvd ds))\/(¬cn ea eb Z fr tg/\e= .returned (.tuple #[.slice none 0 0,.bool false])))
theorem zai {w w':World} (h:Below w.heap.size w w'):w.grownBy w' none:=⟨h.os,h.tape,h.output,h.size,λ k hk _=>h.block k hk⟩
theorem zl4 {w w1 w2:World} {r:Nat} (h:Below w.heap.size w w1) (hr:w.heap.size<=r) (hg:w1.grownBy w2 (some r)):Below w.heap.size w w2:=
 h.grown hg h.size (λ j hj=>by cases hj;exact hr)
theorem z05 (k:Nat)
 (IH:∀k'<k,∀(fr tg:Nat) (back:Int) (Z:Int × Int × Int->Prop) (L:List (Int × Int × Int)) (w:World),BAt w p pw bw pt bt m N W T D->Hop R T fr back Z->Met R fr Z L->L.length<=k'->fr<n->T.getD fr 0=fr->tg<n->T.getD tg 0=tg->
   Calls prog 230 #[.pointer (some ⟨p,0,none⟩),.int .i64 (fr:Int),.int .i64 (tg:Int),.int .i64 back] w (zmv R fr tg Z k' w))
 (s:St n R W T B) (hd:Dis D B) (hk:k<=1000) (fr tg:Nat) (back:Int) (Z:Int × Int × Int->Prop) (L:List (Int × Int × Int)) (w:World) (h:BAt w p pw bw pt bt m N W T D) (hop:Hop R T fr back Z) (hmet:Met R fr Z L) (hL:L.length<=k) (hfr:fr<n) (hrep:T.getD fr 0=fr) (hto:tg<n) (hrept:T.getD tg 0=tg):
 Calls prog 230 #[.pointer (some ⟨p,0,none⟩),.int .i64 (fr:Int),.int .i64 (tg:Int),.int .i64 back] w (zmv R fr tg Z k w):=by
 have hc:=h.c2;have hown:=h.hm;have HW:Hid (∀w',Below w.heap.size w w'->BAt w' p pw bw pt bt m N W T D):=λ w' hb=>h.below hb
 have HS:=kd s;have HD:=kd hd;have HOP:=kd hop;have HMET:=kd hmet;clear h s hd hop hmet;by_cases hft:fr=tg
 ·subst hft
  go_enter func230,ntmps230;go_wp2;go_ret2;exact ⟨Below.refl _ _,.inl ⟨zaw _,_,[],rfl,z81 _,Nat.zero_le _,World.ownsRow_nil _ _ _ _⟩⟩
 ·have HFT:=kd hft
  obtain ⟨i0,hi0,hz0,hz1,hz2⟩:=info_parts Tryz.info3;have hbq:((fr:Int)==(tg:Int))=false:=beq_eq_false_iff_ne.2 (by omega);go_enter func230,ntmps230;go_wp2_with (first
   | (at_range;refine wpList_range_own _ rfl _ 176 rfl 3 180 za6 underlying176 zd1 m N D rfl hown ?_;intro w0 hrg0 hg0 hs0)
   | fail)
  go_frame
  have HR0:=kd hrg0;have HG0:Hid (Below w.heap.size w w0):=⟨hg0.os,hg0.tape,hg0.output,hg0.size,λ k hk=>hg0.block k hk (by simp)⟩;clear hrg0 hg0 hs0 hown hc;go_loopw [10] (λ _ wr=>∃(left:Lit->Bool) (cnt:Nat),wr.ranges prog 3 zd1 m w.heap.size N D left cnt/\(∀e∈B,left (.int .i64 e.1)=false->zm9 R T fr tg back e)/\Below w.heap.size w wr) (λ _ wr=>wr.rangeLeft m w.heap.size)
  case atStart=>
   refine ⟨_,_,HR0.out,λ e he hl=>?_,HG0.out⟩;rw [(HD.out.key e.1).2 ⟨e,he,rfl⟩] at hl;cases hl
  case round=>
   obtain ⟨left,cnt,hrg,hno,hbl⟩:=hrel;have HRG:=kd hrg;have HNO:=kd hno;have HBL:=kd hbl;clear hrg hno hbl HR0 HG0;go_wp2_with (first
    | (at_next;refine wpList_next_ranges _ rfl _ rfl 3 za6 zd1 (Value.int .i64) (λ c:Int × Int=>.agg #[.int .i64 c.1,.int .i64 c.2]) (λ key kl hkey=>by obtain ⟨x,rfl,_⟩:=Maps.keyOf_int_inv underlying3 hkey;exact ⟨x,rfl⟩) (λ v y hv=>by obtain ⟨c,rfl,_⟩:=zoi hv;exact ⟨c,rfl⟩) m w.heap.size N D left cnt rfl HRG.out ?_ ?_)
    | fail)
   ·intro _ hl0
    have HL0:=kd hl0;clear hl0;go_wp2;go_ret2;exact ⟨HBL.out,.inr ⟨z3r HS.out HOP.out hfr hrep hto hrept HFT.out (λ e he=>HNO.out e he (HL0.out _)),rfl⟩⟩
   ·intro x c1 c2 kl y1 y2 w1 cnt1 hkey hlk hRv hat hrg1 hlt hg1 hs1 hen
    obtain ⟨x',hxe,rfl,_⟩:=Maps.keyOf_int_inv underlying3 hkey;obtain rfl:x=x':=by injection hxe
    have hyy:(y1,y2)=(zdq c1 c2,[]):=by
     have:=hRv.symm.trans (zj7 c1 c2);injection this
    obtain ⟨e,he,hex,rfl,rfl⟩:=zw8 HS.out HD.out hyy hat;have hlte:=HS.out.inn e ((HS.out.hB e).1 he).1;have HE:=kd (And.intro he hex);have HB1:Hid (Below w.heap.size w w1):=zl4 HBL.out (Nat.le_refl _) hg1;have HR1:=kd (And.intro hrg1 hlt);clear hkey hlk hRv hat hrg1 hlt hg1 hs1 hxe hyy he hex;obtain ⟨W1,hW1⟩:∃W1,W1=w1.alloc (.cells #[.int .i64 (ea e:Int),.int .i64 (eb e:Int)] 180):=⟨_,rfl⟩;have hbW:Below w1.heap.size w1 W1:=by rw [hW1];exact (Below.refl _ _).alloc (Nat.le_refl _) _
    have HB2:Hid (Below w.heap.size w W1):=HB1.out.trans (hbW.mono HB1.out.size);have HR2:Hid (∀w',Below W1.heap.size W1 w'->w'.ranges prog 3 zd1 m w.heap.size N D (λ z=>left z&&!z.sameKey (.int .i64 x)) cnt1):=λ w' hb=>
     (HR1.out.1.kept (zai hbW) (by simp) (by simp)).kept (zai hb) (by simp) (by simp)
    have HW1:=kd hW1.symm;have p0:W1.cell? ⟨w1.heap.size,0,none⟩=some (.int .i64 (ea e:Int)):=by rw [hW1];exact (zmr w1 _ _).1
    have p1:W1.cell? ⟨w1.heap.size,1,none⟩=some (.int .i64 (eb e:Int)):=by rw [hW1];exact (zmr w1 _ _).2
    clear hbW hW1;obtain ⟨nx,hacr,hnx⟩:=zv1 (ea e) (eb e) fr W1 (HW.out _ HB2.out) HS.out.gt hlte.1 hlte.2;have HNX:=kd hnx;have HAC:Hid _:=hacr;clear hacr hnx hlte;go_wp2_with fail;rw [HW1.out];refine Calls.mono HAC.out ?_;rintro e' w2 ⟨rfl,b2⟩;have HB3:Hid (Below w.heap.size w w2):=HB2.out.trans (b2.mono HB2.out.size);have HR3:Hid (w2.ranges prog 3 zd1 m w.heap.size N D (λ z=>left z&&!z.sameKey (.int .i64 x)) cnt1):=HR2.out w2 b2;clear b2 p0 p1 HR2 hen HAC;have HNN:Hid (zm9 R T fr tg back e->∀d∈B,(left (.int .i64 d.1)&&!(Lit.int .i64 d.1).sameKey (.int .i64 x))=false->zm9 R T fr tg back d):=λ hn d hd hl=>by
     by_cases hdx:d.1=x
     ·have:d=e:=HS.out.one d ((HS.out.hB d).1 hd).1 e ((HS.out.hB e).1 HE.out.1).1 (hdx.trans HE.out.2.symm)
      rw [this];exact hn
     ·exact HNO.out d hd (struck hl hdx)
    by_cases hm1:nx= -1
    ·as_aux_lemma=>
     subst hm1;have HNP:Hid (zm9 R T fr tg back e):=by
      rcases HNX.out with ⟨_,h1,h2⟩ | ⟨u,v,_,_,h3⟩
      ·rintro u v (⟨rfl,rfl⟩ | ⟨rfl,rfl⟩) hu
       ·exact absurd hu h1
       ·exact absurd hu h2
      ·exfalso;omega
     go_wp2_with fail;go_roundw;case rel=>exact ⟨_,cnt1,HR3.out,HNN.out HNP.out,HB3.out⟩
     case measure=>rw [HR3.out.left_eq,HRG.out.left_eq];exact HR1.out.2
    ·obtain ⟨u,v,huv,hu,rfl⟩:∃u v,Ends e u v/\T.getD u 0=fr/\nx=(T.getD v 0:Nat):=by
      rcases HNX.out with ⟨h0,_⟩ | h
      ·exact absurd h0 hm1
      ·exact h
     have HUV:=kd (And.intro huv hu);have HVL:Hid (v<n):=(huv.lt HS.out ((HS.out.hB e).1 HE.out.1).1).2;clear HNX huv hu;by_cases hbk:((T.getD v 0:Nat):Int)=back
     ·as_aux_lemma=>
      have HNP:Hid (zm9 R T fr tg back e):=by
       intro u' v' h' hu' hv';have:=zp6 HS.out HE.out.1 h' HUV.out.1 (hu'.trans HUV.out.2.symm);exact absurd (by rw [this.2];exact hbk) hv'
      generalize T.getD v 0=X at*;have hq1:((X:Int)== -1)=false:=beq_eq_false_iff_ne.2 hm1;have hq2:((X:Int)==back)=true:=beq_iff_eq.2 hbk;clear hbk;go_wp2_with fail;go_roundw;case rel=>exact ⟨_,cnt1,HR3.out,HNN.out HNP.out,HB3.out⟩
      case measure=>rw [HR3.out.left_eq,HRG.out.left_eq];exact HR1.out.2
     ·obtain ⟨n1,n2,n3,n4⟩:=z3d (tg:=tg) HS.out HOP.out HMET.out hfr hrep ((HS.out.hB e).1 HE.out.1) HUV.out.1 HUV.out.2 hbk
      have hlf:(L.filter λ d=>decide (d≠e)).length<L.length:=List.length_filter_lt_length_iff_exists.2 ⟨e,n2,by simp⟩;have hIH:=IH _ (Nat.lt_of_lt_of_le hlf hL) (T.getD v 0) tg fr _ _ w2 (HW.out _ HB3.out) n1 n3 (Nat.le_refl _) (HS.out.lab HVL.out) (HS.out.gt.idem v HVL.out) hto hrept;have HIH:Hid _:=hIH;have HN4:=kd n4;have HLF:Hid ((L.filter λ d=>decide (d≠e)).length<k):=Nat.lt_of_lt_of_le hlf hL;clear hIH n1 n2 n3 n4 hlf;generalize hX:T.getD v 0=X at*;have HX:=kd hX;clear hX;have hq1:((X:Int)== -1)=false:=beq_eq_false_iff_ne.2 hm1;have hq2:((X:Int)==back)=false:=beq_eq_false_iff_ne.2 hbk;go_wp2_with fail;refine Calls.mono HIH.out ?_;rintro e' w3 ⟨b3,hpost⟩;have HB4:Hid (Below w.heap.size w w3):=HB3.out.trans (b3.mono HB3.out.size);have HR4:Hid (w3.ranges prog 3 zd1 m w.heap.size N D (λ z=>left z&&!z.sameKey (.int .i64 x)) cnt1):=HR3.out.kept (zai b3) (by simp) (by simp);have hw23:w.heap.size<=w2.heap.size:=HB3.out.size;clear b3 HIH;rcases hpost with ⟨hcn,v',ds,rfl,hway,hlen,hrow⟩ | ⟨hncn,rfl⟩
      ·as_aux_lemma=>
       have hrow':=ownsRow_base_a hrow hw23;have hsz:=HB4.out.size;have hdl:ds.length<1000:=by have:=HLF.out;omega
       have HCN:Hid (cn ea eb Z fr tg):=HN4.out hcn;have HWY:Hid (Way R fr tg (ds++[e])/\ds.length+1<=k):=⟨z3n HS.out hfr hrep ((HS.out.hB e).1 HE.out.1) HUV.out.1 HUV.out.2 (by rw [HX.out];exact hcn) (by rw [HX.out];exact hway),by have:=HLF.out;omega⟩;have HLT:=hrow'.lt;clear hcn hway hlen hrow HN4 HLF;go_wp2_with (first
        | (at_builtin;refine wpList_append_own_at _ rfl _ _ 48 rfl w.heap.size 3 i0 (.int .i64 0) 1 8 underlying48 hi0 hz0 hz1 hz2 rfl (by decide) v' _ _ rfl (hrow'.alloc _) ⟨w3.heap.size,0,none⟩ 1 1 [.int .i64 x] rfl rfl (cell_one_new _ _ _) (ints_oneCell .i64 [x]) (by unfold maxLen;omega) (by omega) (by simp;omega) ?_;intro v'' w4 hown' hgrow hnil hloc)
        | fail)
       go_ret2;refine ⟨HB4.out.grown ((World.grownBy_alloc w3 _ _).trans hgrow) hsz (λ j hj=>(HLT j hj).1),.inl ⟨HCN.out,v'',ds++[e],rfl,HWY.out.1,by simpa using HWY.out.2,?_⟩⟩;have hex:=HE.out.2;subst hex
       simpa [zvd] using hown'
      ·as_aux_lemma=>
       have HNP:Hid (zm9 R T fr tg back e):=by
        intro u' v' h' hu' _;have:=zp6 HS.out HE.out.1 h' HUV.out.1 (hu'.trans HUV.out.2.symm);rw [this.2,HX.out];exact hncn
       clear hncn;go_wp2_with fail;go_roundw;case rel=>exact ⟨_,cnt1,HR4.out,HNN.out HNP.out,HB4.out⟩
       case measure=>rw [HR4.out.left_eq,HRG.out.left_eq];exact HR1.out.2
theorem z7r (k:Nat) (s:St n R W T B) (hd:Dis D B) (hk:k<=1000):∀(fr tg:Nat) (back:Int) (Z:Int × Int × Int->Prop) (L:List (Int × Int × Int)) (w:World),BAt w p pw bw pt bt m N W T D->Hop R T fr back Z->Met R fr Z L->L.length<=k->fr<n->T.getD fr 0=fr->tg<n->T.getD tg 0=tg->
 Calls prog 230 #[.pointer (some ⟨p,0,none⟩),.int .i64 (fr:Int),.int .i64 (tg:Int),.int .i64 back] w (zmv R fr tg Z k w):=by
 induction k using Nat.strongRecOn with
 | _ k ih=>
   intro fr tg back Z L w h1 h2 h3 h4 h5 h6 h7 h8;exact z05 k (λ k' hk' fr tg back Z L w a b c d e f g i=>ih k' hk' (by omega) fr tg back Z L w a b c d e f g i) s hd hk fr tg back Z L w h1 h2 h3 h4 h5 h6 h7 h8
end Go.Proofs.YtebcjaenhiiflaaGreatDoor.S
namespace Go.Proofs.YtebcjaenhiiflaaGreatDoor.S
open Go.RowKit Go.WideMaps Go.Maps Go.Proofs.Tryz
variable {p pw bw pt bt m N n:Nat} {R B:List (Int × Int × Int)} {W T:List Nat} {D:DataW Unit}
structure Bk (bw bt m:Nat) (w w':World):Prop where
 os:w'.os=w.os
 tape:w'.tape=w.tape
 output:w'.output=w.output
 size:w.heap.size<=w'.heap.size
 block:∀k,k<w.heap.size->k≠bw->k≠bt->k≠m->w'.heap[k]? =w.heap[k]?
theorem Bk.refl (w:World):Bk bw bt m w w:=⟨rfl,rfl,rfl,Nat.le_refl _,λ _ _ _ _ _=>rfl⟩
theorem Bk.of_below {w w':World} (h:Below w.heap.size w w'):Bk bw bt m w w':=⟨h.os,h.tape,h.output,h.size,λ k hk _ _ _=>h.block k hk⟩
theorem Bk.yabb {w w':World} (h:But bw w w'):Bk bw bt m w w':=⟨h.os,h.tape,h.output,h.size,λ k hk h1 _ _=>h.block k hk h1⟩
theorem Bk.yacy {w w':World} (h:But bt w w'):Bk bw bt m w w':=⟨h.os,h.tape,h.output,h.size,λ k hk _ h1 _=>h.block k hk h1⟩
theorem Bk.z2t {w w':World} (h:w.grownBy w' (some m)):Bk bw bt m w w':=⟨h.os,h.tape,h.output,h.size,λ k hk _ _ h1=>h.block k hk (by simpa using h1)⟩
theorem Bk.trans {x y z:World} (h:Bk bw bt m x y) (k:Bk bw bt m y z):Bk bw bt m x z:=
 ⟨k.os.trans h.os,k.tape.trans h.tape,k.output.trans h.output,Nat.le_trans h.size k.size,λ i hi h1 h2 h3=>(k.block i (Nat.lt_of_lt_of_le hi h.size) h1 h2 h3).trans (h.block i hi h1 h2 h3)⟩
theorem Bk.cell {w w':World} (h:Bk bw bt m w w') {g i:Nat} {v:Value} (hg:w.cell? ⟨g,i,none⟩=some v) (h1:g≠bw) (h2:g≠bt) (h3:g≠m):w'.cell? ⟨g,i,none⟩=some v:=by
 have hl:=lt_of_cell hg;simp only [World.cell?] at hg ⊢;rw [h.block g hl h1 h2 h3];exact hg
theorem zf4:∀(a b:List (Int × Int × Int)) (L:List Nat),joins L (a++b)=joins (joins L a) b
 | [],_,_=>rfl
 | x::a,b,L=>by
   show joins (joinL L (ea x) (eb x)) (a++b)=_;rw [zf4 a b];rfl
theorem z5r (w:World):(zeroValue 180).run prog w= .ok (zoy 0 0) w:=by kernel_rfl
theorem zyt {w:World} (h:BAt w p pw bw pt bt m N W T D) (hd:Dis D B) {e:Int × Int × Int} (he:e∈B) (hw:(Lit.int .i64 e.1).wf=true) (hn:e.2.1=(ea e:Int)/\e.2.2=(eb e:Int)):
 (Instr.lookup 176 (.map (some m)) (.int .i64 e.1) false).run prog w= .ok (.agg #[.int .i64 (ea e:Int),.int .i64 (eb e:Int)]) w:=by
 obtain ⟨v,ps,hrun,hR⟩:=h.hm.lookup za6 underlying176 (z5r w) (zj7 0 0) (zdt e.1 hw);rw [hd.val e he] at hR;obtain ⟨c,rfl,hc⟩:=zoi hR;have h1:zdq e.2.1 e.2.2=zdq c.1 c.2:=by injection hc
 obtain ⟨h2,h3⟩:=zol h1;rw [hrun,<-h2,<-h3,hn.1,hn.2];rfl
theorem z3z (a b:Int) (w:World):(Instr.field 180 (.agg #[.int .i64 a,.int .i64 b]) 0).run prog w= .ok (.int .i64 a) w:=by kernel_rfl
theorem z1w (a b:Int) (w:World):(Instr.field 180 (.agg #[.int .i64 a,.int .i64 b]) 1).run prog w= .ok (.int .i64 b) w:=by kernel_rfl
theorem zyx {w:World} {base:Nat} {v:Value} {ds:List (Int × Int × Int)} (h:w.ownsRow base 3 1 v ds.length (zvd ds)):∃a cap,v= .slice a ds.length cap/\(0<ds.length->∃g,a=some ⟨g,0,none⟩/\base<=g/\g<w.heap.size/\∀j e,ds[j]? =some e->w.cell? ⟨g,j,none⟩=some (.int .i64 e.1)):=by
 have h0:=h;rcases h.2 with ⟨rfl,hz⟩ | ⟨g,cap,cur,rfl,hb,hg,_⟩
 ·exact ⟨none,0,by rw [hz],λ k=>by omega⟩
 ·refine ⟨_,cap,rfl,λ _=>⟨g,rfl,hb,lt_of_some hg,λ j e hj=>?_⟩⟩
  rw [h0.cellAt j (by have:=(List.getElem?_eq_some_iff.1 hj).1;omega)];simp [zvd,hj]
theorem zsl {B ds:List (Int × Int × Int)} {j:Nat} {e:Int × Int × Int} (hj:ds[j]? =some e) (d:Int × Int × Int):d∈B.filter (λ d=>decide (d∉ds.take (j+1)))↔d∈B.filter (λ d=>decide (d∉ds.take j))/\d≠e:=by
 have ht:ds.take (j+1)=ds.take j++[e]:=by rw [List.take_add_one,hj];rfl
 simp only [List.mem_filter,decide_eq_true_eq,ht,List.mem_append,List.mem_singleton,not_or];exact ⟨λ h=>⟨⟨h.1,h.2.1⟩,h.2.2⟩,λ h=>⟨h.1.1,h.1.2,h.2⟩⟩
theorem zvl {ds:List (Int × Int × Int)} (h:ds.Nodup) {j:Nat} {e:Int × Int × Int} (hj:ds[j]? =some e):e∉ds.take j:=by
 intro hm;obtain ⟨i,hi,he⟩:=List.mem_iff_getElem.1 hm;obtain ⟨hl,hje⟩:=List.getElem?_eq_some_iff.1 hj;have hi':i<j:=by simp at hi;omega
 rw [List.getElem_take] at he;exact (List.pairwise_iff_getElem.1 h i j (by omega) hl hi') (by rw [he,hje])
theorem zwe (x y:Nat) (w:World) (h:BAt w p pw bw pt bt m N W T D) (s:St n R W T B) (hd:Dis D B) (hB:B.length<=1000) (hn:n<=40) (hx:x<n) (hy:y<n) (hc:cnR R x y) (hid:∀e∈R,(Lit.int .i64 e.1).wf=true):
 Calls prog 118 #[.pointer (some ⟨p,0,none⟩),.int .i64 (x:Int),.int .i64 (y:Int)] w λ e w'=>e= .returned (.tuple #[])/\∃ds D',(∀e,e∈ds↔zhs R x y e)/\BAt w' p pw bw pt bt m N W (joins T ds) D'/\Dis D' (B.filter λ e=>decide (e∉ds))/\Bk bw bt m w w':=by
 have hplt:=h.plt;have hblt:bw<w.heap.size/\bt<w.heap.size/\m<w.heap.size:=⟨h.sw.blt,h.st.blt,h.hm.lt⟩;have HW:Hid (∀w',Below w.heap.size w w'->BAt w' p pw bw pt bt m N W T D):=λ w' hb=>h.below hb
 obtain ⟨X,hX⟩:∃X,T.getD x 0=X:=⟨_,rfl⟩;obtain ⟨Y,hY⟩:∃Y,T.getD y 0=Y:=⟨_,rfl⟩;have hXn:X<n:=by rw [<-hX];exact s.lab hx
 have hYn:Y<n:=by rw [<-hY];exact s.lab hy
 have HX:Hid (T.getD x 0=X/\T.getD X 0=X):=⟨hX,by rw [<-hX];exact s.gt.idem x hx⟩;have HY:Hid (T.getD y 0=Y/\T.getD Y 0=Y):=⟨hY,by rw [<-hY];exact s.gt.idem y hy⟩;have HC:Hid (cnR R X Y):=by
  show cnR R X Y;rw [<-hX,<-hY];exact zaa (zac (s.rep hx).1) (zaa hc (s.rep hy).1)
 have HS:=kd s;have HD:=kd hd;have HID:=kd hid;clear h s hd hX hY hc hid;go_enter func118,ntmps118;go_wp2_with fail;refine (zel x w (HW.out w (Below.refl _ _)) HS.out.gt hx HX.out.1).mono ?_;rintro e w1 ⟨rfl,b1⟩;have B1:=kd b1;clear b1;go_wp2_with fail;refine (zel y w1 (HW.out w1 B1.out) HS.out.gt hy HY.out.1).mono ?_;rintro e w2 ⟨rfl,b2⟩;have B2:Hid (Below w.heap.size w w2):=B1.out.trans (b2.mono B1.out.size);clear b2 B1;go_wp2_with fail;refine (z7r 1000 HS.out HD.out (Nat.le_refl _) X Y (-1) (·∈R) B w2 (HW.out w2 B2.out) (.inl ⟨rfl,rfl⟩) (λ d hd _ _=>(HS.out.hB d).2 hd) hB hXn HX.out.2 hYn HY.out.2).mono ?_;rintro e w3 ⟨b3,hpost⟩;rcases hpost with ⟨_,v,ds,rfl,hway,hlen,hrow⟩ | ⟨hno,_⟩
 case inr=>exact absurd HC.out hno
 obtain ⟨av,cap,rfl,hav⟩:=zyx hrow;have B3:Hid (Below w.heap.size w w3):=B2.out.trans (b3.mono B2.out.size);have hw2:=B2.out.size;have HAV:Hid (0<ds.length->∃g,av=some ⟨g,0,none⟩/\w.heap.size<=g/\g<w3.heap.size/\∀j e,ds[j]? =some e->w3.cell? ⟨g,j,none⟩=some (.int .i64 e.1)):=λ hl=>by
  obtain ⟨g,h1,h2,h3,h4⟩:=hav hl;exact ⟨g,h1,by omega,h3,h4⟩
 have HWY:Hid (ds.Nodup/\∀e,e∈ds↔zhs R x y e):=⟨hway.1,Way.ends HS.out hx hy (by rw [HX.out.1,HY.out.1];exact hway)⟩;have HWB:Hid (∀e∈ds,e∈B):=Way.yabj HS.out HC.out hway;obtain ⟨len,hlen'⟩:∃len,ds.length=len:=⟨_,rfl⟩;have HLEN:=kd hlen';rw [hlen'] at hlen ⊢;clear hav hrow hway b3 B2 hw2 hlen';go_wp2_with fail;go_loopw [9,23] (λ _ s23 wq=>∃j:Nat,j<=len/\s23= .int .i64 j/\∃Dj,BAt wq p pw bw pt bt m N W (joins T (ds.take j)) Dj/\Dis Dj (B.filter λ e=>decide (e∉ds.take j))/\Bk bw bt m w3 wq) (λ _ s23 _=>len-(intOf s23).toNat)
 case atStart=>
  refine ⟨0,Nat.zero_le _,rfl,D,by simpa [joins] using HW.out w3 B3.out,?_,Bk.refl _⟩;have:(B.filter λ e=>decide (e∉ds.take 0))=B:=by simp
  rw [this];exact HD.out
 case round=>
  obtain ⟨j,hj,rfl,Dj,hbj,hdj,hkj⟩:=hrel;by_cases hlt:j<len
  ·obtain ⟨e,he⟩:∃e,ds[j]? =some e:=⟨_,List.getElem?_eq_getElem (by rw [HLEN.out];exact hlt)⟩
   obtain ⟨g,rfl,hg1,hg2,hg3⟩:=HAV.out (by rw [HLEN.out];omega);have hcell:wr.cell? ⟨g,j,none⟩=some (.int .i64 e.1):=hkj.cell (hg3 j e he) (by omega) (by omega) (by omega);have heB:=HWB.out e (List.mem_of_getElem? he);have heR:=((HS.out.hB e).1 heB).1;have hinn:=HS.out.inn e heR;have heF:e∈B.filter λ e=>decide (e∉ds.take j):=List.mem_filter.2 ⟨heB,by simpa using zvl HWY.out.1 he⟩
   have hgood:Good n (joins T (ds.take j)):=zce _ T HS.out.gt (λ d hd=>HS.out.inn d ((HS.out.hB d).1 (HWB.out d (List.mem_of_mem_take hd))).1);have HJ:Hid (joins T (ds.take (j+1))=joinL (joins T (ds.take j)) (ea e) (eb e)):=by
    show joins T (ds.take (j+1))=_;rw [List.take_add_one,he];exact zf4 _ _ _
   have HDD:Hid (Dis (Dj.del (.int .i64 e.1)) (B.filter λ e=>decide (e∉ds.take (j+1)))):=
    hdj.del e (λ d hd hde=>HS.out.one d ((HS.out.hB d).1 (List.mem_filter.1 hd).1).1 e heR hde) (zsl he)
   obtain ⟨J,hJ⟩:∃J,J=joins T (ds.take j):=⟨_,rfl⟩;rw [<-hJ] at hbj hgood;have HJ':Hid (joins T (ds.take (j+1))=joinL J (ea e) (eb e)):=by
    show joins T (ds.take (j+1))=joinL J (ea e) (eb e);rw [hJ];exact HJ.out
   have HLK:Hid (∀{W' T':List Nat} {w':World},BAt w' p pw bw pt bt m N W' T' Dj->(Instr.lookup 176 (.map (some m)) (.int .i64 e.1) false).run prog w'= .ok (.agg #[.int .i64 (ea e:Int),.int .i64 (eb e:Int)]) w'):=λ hb=>zyt hb hdj heF (HID.out e heR) (HS.out.nat e heR)
   have hkey:=zdt e.1 (HID.out e heR);have HKEY:=kd hkey;have HBJ:=kd hbj;have HKJ:=kd hkj;have hlk:=HLK.out hbj.drew;have hc1:wr.drew.cell? ⟨p,1,none⟩=some (.pointer (some ⟨pt,0,none⟩)):=hbj.drew.c1;have hc2:wr.drew.cell? ⟨p,2,none⟩=some (.map (some m)):=hbj.drew.c2;have hA:ea e<J.length:=by rw [hgood.len];exact hinn.1
   have hBn:eb e<J.length:=by rw [hgood.len];exact hinn.2
   have hJl:J.length<=40:=by rw [hgood.len];exact hn
   clear hJ HJ hg3 heB heR hinn heF hgood hbj hdj hkj hkey;generalize e.1=x0 at*;generalize ea e=A at*;generalize eb e=E at*;generalize hok:decide (J.getD A 0≠J.getD E 0)=ok;have HOK:=kd hok;clear hok he;have hfa:=z3z (A:Int) (E:Int);have hfb:=z1w (A:Int) (E:Int);go_upto_region 4 with fail
   go_region_held (λ w'=>w'.cell? ⟨p,1,none⟩=some (.pointer (some ⟨pt,0,none⟩))/\w'.cell? ⟨p,2,none⟩=some (.map (some m))/\(Instr.lookup 176 (.map (some m)) (.int .i64 x0) false).run prog w'= .ok (.agg #[.int .i64 (A:Int),.int .i64 (E:Int)]) w') (exact ⟨by assumption,by assumption,by assumption⟩)
    (first | (go_at_call 119;refine (zms A E pt bt J ok _ (by exact HBJ.out.drew.st) hA hBn hJl HOK.out).mono ?_;rintro e w4 ⟨rfl,hsj,hbt⟩;have hb4:=HBJ.out.drew.yabw hsj hbt;have d1:=hb4.c1;have d2:=hb4.c2;have d3:=HLK.out hb4))
   all_goals
    have hown:=hb4.hm;have HB4:=kd hb4;have HBT:Hid (Bk bw bt m wr w4):=(Bk.of_below ((Below.refl _ _).drew)).trans (Bk.yacy hbt);clear hb4 hbt hsj d3 hlk hfa hfb hc1 hc2 d1;go_wp2_with (first
     | (at_delete;refine wpList_delete_own _ rfl _ _ 176 3 rfl 180 za6 underlying176 _ m N Dj rfl hown _ _ rfl HKEY.out ?_;intro w5 hown5 hturn5;go_frame)
     | fail)
    have hgm:=hturn5.grown;have hb5:=HB4.out.mapped hown5 hgm;rw [<-HJ'.out] at hb5;go_roundw;case rel=>exact ⟨j+1,by omega,by go_num,_,hb5,HDD.out,(HKJ.out.trans HBT.out).trans (Bk.z2t hgm)⟩
    case measure=>simp [intOf];omega
  ·have hje:j=len:=by omega
   subst hje;have HF:Hid (BAt wr p pw bw pt bt m N W (joins T ds) Dj/\Dis Dj (B.filter λ e=>decide (e∉ds))/\Bk bw bt m w wr):=by
    have ht:ds.take j=ds:=by rw [<-HLEN.out];exact List.take_length
    rw [ht] at hbj hdj;exact ⟨hbj,hdj,(Bk.of_below B3.out).trans hkj⟩
   clear hbj hdj hkj;go_wp2_with fail
   go_end0
   exact ⟨rfl,ds,Dj,HWY.out.2,HF.out.1,HF.out.2.1,HF.out.2.2⟩
end Go.Proofs.YtebcjaenhiiflaaGreatDoor.S
namespace Go.Proofs.YtebcjaenhiiflaaGreatDoor.S
open Go.RowKit Go.WideMaps Go.Maps Go.Proofs.Tryz
variable {p pw bw pt bt m N n:Nat} {R B:List (Int × Int × Int)} {W T:List Nat} {D:DataW Unit}
theorem zws (L:List Nat) (x y:Nat):joinL L x y=joinL L y x:=by
 unfold joinL;rw [Nat.min_comm,Nat.max_comm]
def edge (i:Int) (x y:Nat):Int × Int × Int:=(i,((min x y:Nat):Int),((max x y:Nat):Int))
theorem zqg (i:Int) (x y:Nat):(edge i x y).2.1=(ea (edge i x y):Int)/\(edge i x y).2.2=(eb (edge i x y):Int):=by simp [edge,ea,eb]
theorem zi3 (i:Int) (x y:Nat):ea (edge i x y)=min x y/\eb (edge i x y)=max x y:=by
 unfold edge ea eb;exact ⟨by simp,by simp⟩
theorem zjv (i:Int) (x y:Nat):(ea (edge i x y)=x/\eb (edge i x y)=y)\/(ea (edge i x y)=y/\eb (edge i x y)=x):=by
 obtain ⟨h1,h2⟩:=zi3 i x y;rw [h1,h2];omega
theorem z06 {R:List (Int × Int × Int)} {x y:Nat} (e:Int × Int × Int):zhs R x y e↔zhs R y x e:=
 ⟨λ h=>⟨h.1,λ k=>h.2 (zac k)⟩,λ h=>⟨h.1,λ k=>h.2 (zac k)⟩⟩
structure Now (w:World) (p pw bw pt bt m N n:Nat) (R B:List (Int × Int × Int)) (W T:List Nat) (D:DataW Unit):Prop where
 at_:BAt w p pw bw pt bt m N W T D
 st:St n R W T B
 dis:Dis D B
theorem Now.below {w w':World} (h:Now w p pw bw pt bt m N n R B W T D) (hb:Below w.heap.size w w'):Now w' p pw bw pt bt m N n R B W T D:=⟨h.at_.below hb,h.st,h.dis⟩
def zmd (w:World) (p pw bw pt bt m N n:Nat) (R B:List (Int × Int × Int)) (i:Int) (x y:Nat) (e:Ending) (w':World):Prop:=
 ∃ok W' T' D' B' N',e= .returned (.tuple #[.bool ok,.nilIface])/\Now w' p pw bw pt bt m N' n (R++[edge i x y]) B' W' T' D'/\B'.length<=B.length+1/\N'<=N+1/\Bk bw bt m w w'/\(ok=true↔edge i x y∈B')
theorem zxd {w w':World} {D':DataW Unit} {N':Nat} (h:Now w p pw bw pt bt m N n R B W T D) (i:Int) {x y:Nat} (hx:x<n) (hy:y<n) (hone:∀e∈R,e.1≠i) (hne:W.getD x 0≠W.getD y 0)
 (hb:BAt w' p pw bw pt bt m N' (joinL W x y) T D') (hD:D'=D.put (.int .i64 i) (zdq ((min x y:Nat):Int) ((max x y:Nat):Int))):
 Now w' p pw bw pt bt m N' n (R++[edge i x y]) (B++[edge i x y]) (joinL W x y) T D':=by
 obtain ⟨h1,h2⟩:=zi3 i x y;have hmn:min x y<n:=by omega
 have hmx:max x y<n:=by omega
 have hj:joinL W (ea (edge i x y)) (eb (edge i x y))=joinL W x y:=by
  rcases zjv i x y with ⟨a,b⟩ | ⟨a,b⟩ <;> rw [a,b]
  exact zws _ _ _
 have hs:=h.st.apart (edge i x y) (by rw [h1];exact hmn) (by rw [h2];exact hmx) (zqg i x y) hone (by
  rcases zjv i x y with ⟨a,b⟩ | ⟨a,b⟩ <;> rw [a,b]
  ·exact hne
  ·exact hne.symm)
 rw [hj] at hs;refine ⟨hb,hs,?_⟩;rw [hD];exact h.dis.put h.at_.hm.isMap (edge i x y) (λ e he=>hone e ((h.st.hB e).1 he).1)
theorem zwa {w w':World} {D':DataW Unit} {ds:List (Int × Int × Int)} (h:Now w p pw bw pt bt m N n R B W T D) (i:Int) {x y:Nat} (hx:x<n) (hy:y<n) (hone:∀e∈R,e.1≠i) (he:W.getD x 0=W.getD y 0)
 (hds:∀e,e∈ds↔zhs R x y e) (hb:BAt w' p pw bw pt bt m N W (joins T ds) D') (hd:Dis D' (B.filter λ e=>decide (e∉ds))):
 Now w' p pw bw pt bt m N n (R++[edge i x y]) (B.filter λ e=>decide (e∉ds)) W (joins T ds) D':=by
 obtain ⟨h1,h2⟩:=zi3 i x y;refine ⟨hb,h.st.within (edge i x y) (by rw [h1];omega) (by rw [h2];omega) (zqg i x y) hone ?_ ?_ (λ e=>by simp [List.mem_filter]),hd⟩
 ·rcases zjv i x y with ⟨a,b⟩ | ⟨a,b⟩ <;> rw [a,b]
  ·exact he
  ·exact he.symm
 ·intro e
  rw [hds];rcases zjv i x y with ⟨a,b⟩ | ⟨a,b⟩ <;> rw [a,b]
  exact z06 e
theorem zvc (i:Int) (x y:Nat) (w:World) (h:Now w p pw bw pt bt m N n R B W T D) (hx:x<n) (hy:y<n) (hn:n<=40) (hN:N<=1000) (hne:W.getD x 0≠W.getD y 0) (hone:∀e∈R,e.1≠i) (hwf:(Lit.int .i64 i).wf=true):
 Calls prog 57 #[.pointer (some ⟨p,0,none⟩),.int .i64 i,.int .i64 (x:Int),.int .i64 (y:Int)] w (zmd w p pw bw pt bt m N n R B i x y):=by
 have hxy:((x:Int)==(y:Int))=false:=beq_eq_false_iff_ne.2 (λ e=>hne (by rw [Int.ofNat_inj.1 e]));have hWl:=h.st.gw.len;have HH:=kd h;have HNE:=kd hne;have HONE:=kd hone;have HKEY:Hid (keyOf prog 3 (.int .i64 i)=some (.int .i64 i)):=zdt i hwf;have hlt:=h.at_.plt;clear h hne hone;go_enter func57,ntmps57;go_wp2_with fail;refine (zko x y false w HH.out.at_ (by omega) (by omega) (beq_eq_false_iff_ne.2 (λ e=>HNE.out (Int.ofNat_inj.1 e)))).mono ?_;rintro e w1 ⟨rfl,b1⟩;have hb1:=HH.out.at_.below b1;have HB1:=kd hb1;have B1:=kd b1;have hc0:=hb1.c0;clear b1 hb1;go_wp2_with fail;refine (zms x y pw bw W true w1 HB1.out.sw (by omega) (by omega) (by omega) (decide_eq_true HNE.out)).mono ?_;rintro e w2 ⟨rfl,hs2,k2⟩;have hb2:=HB1.out.yabd hs2 k2;have HB2:=kd hb2;have K2:Hid (Bk bw bt m w w2):=(Bk.of_below B1.out).trans (Bk.yabb k2);have hown:=hb2.hm;have hc2:=hb2.c2;clear hb2 hs2 k2 hc0;go_wp2_with (first
  | (at_mapUpdate;refine wpList_mapUpdate_own _ rfl _ _ _ 176 rfl 3 180 za6 underlying176 zd1 m N D rfl hown (by unfold maxLen;omega) _ _ _ rfl rfl HKEY.out _ [] (zj7 _ _) ?_;intro w5 hown5 hgrow5)
  | fail)
 go_ret2;refine ⟨true,_,_,_,_,_,rfl,zxd HH.out i hx hy HONE.out HNE.out (HB2.out.mapped hown5 hgrow5) ?_,by simp,Nat.le_refl _,K2.out.trans (Bk.z2t hgrow5),by simp⟩;have e1:((min x y:Nat):Int)=min (x:Int) (y:Int):=by omega
 have e2:((max x y:Nat):Int)=max (x:Int) (y:Int):=by omega
 rw [e1,e2]
theorem zr5 (i:Int) (x y:Nat) (w:World) (h:Now w p pw bw pt bt m N n R B W T D) (hx:x<n) (hy:y<n) (hxy:x≠y) (hn:n<=40) (hB:B.length<=1000) (he:W.getD x 0=W.getD y 0) (hone:∀e∈R,e.1≠i) (hid:∀e∈R,(Lit.int .i64 e.1).wf=true):
 Calls prog 57 #[.pointer (some ⟨p,0,none⟩),.int .i64 i,.int .i64 (x:Int),.int .i64 (y:Int)] w (zmd w p pw bw pt bt m N n R B i x y):=by
 have hxy':((x:Int)==(y:Int))=false:=beq_eq_false_iff_ne.2 (λ e=>hxy (Int.ofNat_inj.1 e));have hWl:=h.st.gw.len;have HH:=kd h;have HE:=kd he;have HONE:=kd hone;have HID:=kd hid;clear h he hone hid;go_enter func57,ntmps57;go_wp2_with fail;refine (zko x y true w HH.out.at_ (by omega) (by omega) (by rw [HE.out];simp)).mono ?_;rintro e w1 ⟨rfl,b1⟩;have HB1:Hid (BAt w1 p pw bw pt bt m N W T D):=HH.out.at_.below b1;have B1:=kd b1;clear b1;go_wp2_with fail;refine (zwe x y w1 HB1.out HH.out.st HH.out.dis hB hn hx hy ((HH.out.st.hW x y).1 ((Lk.iff hx hy).2 HE.out)) HID.out).mono ?_;rintro e w2 ⟨rfl,ds,D',hds,hb2,hd2,k2⟩;have HX:Hid (Now w2 p pw bw pt bt m N n (R++[edge i x y]) (B.filter λ e=>decide (e∉ds)) W (joins T ds) D'/\Bk bw bt m w w2):=⟨zwa HH.out i hx hy HONE.out HE.out hds hb2 hd2,(Bk.of_below B1.out).trans k2⟩;clear hds hb2 hd2 k2;go_wp2;go_ret2;refine ⟨false,_,_,_,_,_,rfl,HX.out.1,?_,Nat.le_succ _,HX.out.2,?_⟩
 ·have:=List.length_filter_le (λ e=>decide (e∉ds)) B
  omega
 ·refine ⟨λ k=>absurd k (by simp),λ k=>?_⟩
  have h1:=(HH.out.st.hB _).1 (List.mem_filter.1 k).1;exact absurd rfl (HONE.out _ h1.1)
theorem z9a (i:Int) (x y:Nat) (w:World) (h:Now w p pw bw pt bt m N n R B W T D) (hx:x<n) (hy:y<n) (hxy:x≠y) (hn:n<=40) (hN:N<=1000) (hB:B.length<=1000) (hone:∀e∈R,e.1≠i) (hwf:(Lit.int .i64 i).wf=true) (hid:∀e∈R,(Lit.int .i64 e.1).wf=true):
 Calls prog 57 #[.pointer (some ⟨p,0,none⟩),.int .i64 i,.int .i64 (x:Int),.int .i64 (y:Int)] w (zmd w p pw bw pt bt m N n R B i x y):=by
 by_cases he:W.getD x 0=W.getD y 0
 ·exact zr5 i x y w h hx hy hxy hn hB he hone hid
 ·exact zvc i x y w h hx hy hn hN he hone hwf
end Go.Proofs.YtebcjaenhiiflaaGreatDoor.S
namespace Go.Proofs.YtebcjaenhiiflaaGreatDoor.S
open Go.RowKit Go.WideMaps Go.Maps
theorem zla {n:Nat} {A B:List Nat} (ha:A.length=n) (hb:B.length=n) (h:∀i,i<n->A.getD i 0=B.getD i 0):A=B:=by
 apply List.ext_getElem
 ·omega
 ·intro i h1 h2
  have:=h i (by omega)
  simpa [h1,h2] using this
variable {n:Nat} {R B:List (Int × Int × Int)} {W T:List Nat}
theorem zmb {L M:List Nat} (g:Good n L) (h:Good n M) (e:∀u v,Lk n L u v↔Lk n M u v):L=M:=by
 have key:∀{L M:List Nat},Good n L->Good n M->(∀u v,Lk n L u v↔Lk n M u v)->∀i,i<n->M.getD i 0<=L.getD i 0:=by
  intro L M g h e i hi;have hl:L.getD i 0<n:=Nat.lt_of_le_of_lt (g.le i hi) hi;have h1:Lk n L (L.getD i 0) i:=(Lk.iff hl hi).2 (g.idem i hi);have h2:=(Lk.iff hl hi).1 ((e _ _).1 h1);rw [<-h2];exact h.le _ hl
 refine zla g.len h.len (λ i hi=>?_);have h1:=key g h e i hi;have h2:=key h g (λ u v=>(e u v).symm) i hi;omega
def brs (R B:List (Int × Int × Int)):List (Int × Int × Int):=R.filter λ e=>decide (e∈B)
theorem zt2 (s:St n R W T B) (e:Int × Int × Int):e∈brs R B↔brR R e:=by
 unfold brs;rw [List.mem_filter,decide_eq_true_eq,s.hB];exact ⟨λ h=>h.2,λ h=>⟨h.1,h⟩⟩
def Unl (R:List (Int × Int × Int)):Prop:=R.Pairwise λ x y=>x.1≠y.1
theorem zgx (h:Unl R):(zav R B).Nodup:=by
 unfold zav;rw [List.Nodup,List.pairwise_map];exact List.Pairwise.filter _ h
def ups (R B:List (Int × Int × Int)):List Int:=(zav R B).mergeSort λ x y=>decide (x<=y)
theorem zln (R B:List (Int × Int × Int)):(ups R B).length=(zav R B).length:=by
 unfold ups;exact List.length_mergeSort _
theorem zin (s:St n R W T B) (x:Int):x∈zav R B↔∃e,brR R e/\e.1=x:=by
 unfold zav;rw [List.mem_map];constructor
 ·rintro ⟨e,he,rfl⟩;exact ⟨e,(zt2 s e).1 he,rfl⟩
 ·rintro ⟨e,he,rfl⟩;exact ⟨e,(zt2 s e).2 he,rfl⟩
theorem zkq {R' B':List (Int × Int × Int)} {W' T':List Nat} (s:St n R W T B) (s':St n R' W' T' B') (hp:R.Perm R') (h:Unl R):W=W'/\T=T'/\ups R B=ups R' B':=by
 have hm:(λ e=>e∈R)=λ e=>e∈R':=by funext e;exact propext hp.mem_iff
 have h':Unl R':=hp.pairwise h (λ {a b} k=>k.symm);refine ⟨zmb s.gw s'.gw (λ u v=>?_),zmb s.gt s'.gt (λ u v=>?_),?_⟩
 ·rw [s.hW,s'.hW];simp only [cnR];rw [hm]
 ·rw [s.hT,s'.hT];simp only [twR];rw [hm]
 ·unfold ups
  refine mergeSort_of_perm_i ((List.perm_ext_iff_of_nodup (zgx h) (zgx h')).2 λ x=>?_);rw [zin s,zin s'];simp only [brR];rw [hm]
end Go.Proofs.YtebcjaenhiiflaaGreatDoor.S
namespace Go.Proofs.YtebcjaenhiiflaaGreatDoor.S
def tch (e:Int × Int × Int) (x:Nat):Prop:=ea e=x\/eb e=x
instance (e:Int × Int × Int) (x:Nat):Decidable (tch e x):=inferInstanceAs (Decidable (_\/_))
def ot (e:Int × Int × Int) (x:Nat):Nat:=if x=ea e then eb e else ea e
def wo (R:List (Int × Int × Int)) (x:Nat):List (Int × Int × Int):=R.filter λ d=>decide (ea d≠x/\eb d≠x)
def Rx (R:List (Int × Int × Int)) (x i j:Nat):Prop:=∃e f,R[i]? =some e/\R[j]? =some f/\tch e x/\tch f x/\cnR (wo R x) (ot e x) (ot f x)
def Blk (R:List (Int × Int × Int)):Nat->Nat->Prop:=zae λ i j=>∃x,Rx R x i j
section
variable {R:List (Int × Int × Int)} {x y z i j k u v:Nat} {e f:Int × Int × Int}
theorem zdm:e∈wo R x↔e∈R/\ea e≠x/\eb e≠x:=by simp [wo]
theorem zy6 (_:tch e x) (hp:ea e≠eb e):tch e (ot e x)/\ot e x≠x:=by
 unfold tch ot at*;split
 ·next k=>exact ⟨.inr rfl,λ c=>hp (by omega)⟩
 ·next k=>exact ⟨.inl rfl,λ c=>k c.symm⟩
theorem zdn (h:tch e x) (hy:tch e y) (hne:y≠x):ot e x=y:=by
 unfold tch ot at*;split <;> omega
theorem zma (he:e∈R) (hy:tch e y) (hz:tch e z) (hyx:y≠x) (hzx:z≠x):cnR (wo R x) y z:=by
 by_cases hyz:y=z
 ·subst hyz;exact zaw _
 ·unfold tch at hy hz
  rcases hy with hy | hy <;> rcases hz with hz | hz
  ·omega
  ·have:=zaj (a:=ea) (b:=eb) (T:=(·∈wo R x)) (zdm.2 ⟨he,by omega,by omega⟩)
   rw [hy,hz] at this;exact this
  ·have:=zaj (a:=ea) (b:=eb) (T:=(·∈wo R x)) (zdm.2 ⟨he,by omega,by omega⟩)
   rw [hy,hz] at this;exact zac this
  ·omega
theorem alone (h:cnR (wo R x) x y):y=x:=by
 have:(x=x↔y=x):=zae.least (P:=λ u v=>(u=x↔v=x)) h (λ _=>Iff.rfl) (λ _ _ h=>h.symm) (λ _ _ _ h k=>h.trans k) (by
  rintro _ _ ⟨e,he,rfl,rfl⟩;have:=zdm.1 he;constructor <;> intro c <;> omega)
 exact this.1 rfl
theorem Rx.symm (h:Rx R x i j):Rx R x j i:=by
 obtain ⟨e,f,h1,h2,h3,h4,h5⟩:=h;exact ⟨f,e,h2,h1,h4,h3,zac h5⟩
theorem Rx.trans (h:Rx R x i j) (k':Rx R x j k):Rx R x i k:=by
 obtain ⟨e,f,h1,h2,h3,h4,h5⟩:=h;obtain ⟨f',g,k1,k2,k3,k4,k5⟩:=k';rw [h2] at k1;cases k1;exact ⟨e,g,h1,k2,h3,k4,zaa h5 k5⟩
theorem Rx.refl (h:R[i]? =some e) (ht:tch e x):Rx R x i i:=⟨e,e,h,h,ht,ht,zaw _⟩
theorem yabo (hp:∀e∈R,ea e≠eb e) (h:Blk R i j) (hi:R[i]? =some e) (hj:R[j]? =some f) (hy:tch e y) (hz:tch f z) (hyx:y≠x) (hzx:z≠x):cnR (wo R x) y z:=by
 have key:i=j\/∃e f,R[i]? =some e/\R[j]? =some f/\∀y z,tch e y->tch f z->y≠x->z≠x->cnR (wo R x) y z:=by
  refine zae.least (P:=λ i j=>i=j\/∃e f,R[i]? =some e/\R[j]? =some f/\∀y z,tch e y->tch f z->y≠x->z≠x->cnR (wo R x) y z) h (λ _=>.inl rfl) ?_ ?_ ?_
  ·rintro i j (h | ⟨e,f,h1,h2,h3⟩)
   ·exact .inl h.symm
   ·exact .inr ⟨f,e,h2,h1,λ y z hy hz hyx hzx=>zac (h3 z y hz hy hzx hyx)⟩
  ·rintro i j k (rfl | ⟨e,f,h1,h2,h3⟩) (rfl | ⟨f',g,k1,k2,k3⟩)
   ·exact .inl rfl
   ·exact .inr ⟨f',g,k1,k2,k3⟩
   ·exact .inr ⟨e,f,h1,h2,h3⟩
   ·rw [h2] at k1;cases k1
    refine .inr ⟨e,g,h1,k2,λ y z hy hz hyx hzx=>?_⟩;have hpf:=hp f (List.mem_of_getElem? h2);by_cases hc:ea f=x
    ·exact zaa (h3 y (eb f) hy (.inr rfl) hyx (by omega)) (k3 (eb f) z (.inr rfl) hz (by omega) hzx)
    ·exact zaa (h3 y (ea f) hy (.inl rfl) hyx hc) (k3 (ea f) z (.inl rfl) hz hc hzx)
  ·rintro i j ⟨w,e,f,h1,h2,h3,h4,h5⟩
   refine .inr ⟨e,f,h1,h2,λ y z hy hz hyx hzx=>?_⟩;by_cases hw:w=x
   ·subst hw
    rw [zdn h3 hy hyx,zdn h4 hz hzx] at h5;exact h5
   ·exact zaa (zma (List.mem_of_getElem? h1) hy h3 hyx hw) (zma (List.mem_of_getElem? h2) h4 hz hw hzx)
 rcases key with rfl | ⟨e',f',h1,h2,h3⟩
 ·rw [hi] at hj;cases hj
  exact zma (List.mem_of_getElem? hi) hy hz hyx hzx
 ·rw [hi] at h1;rw [hj] at h2;cases h1;cases h2
  exact h3 y z hy hz hyx hzx
theorem getElem?_inj_of {i j:Nat} (hn:R.Pairwise λ a b=>a.1<b.1) (h:R[i]? =some e) (k:R[j]? =some e):i=j:=by
 obtain ⟨hi,h⟩:=List.getElem?_eq_some_iff.1 h;obtain ⟨hj,k⟩:=List.getElem?_eq_some_iff.1 k;rw [List.pairwise_iff_getElem] at hn;rcases Nat.lt_trichotomy i j with c | c | c
 ·have:=hn i j hi hj c;rw [h,k] at this;omega
 ·exact c
 ·have:=hn j i hj hi c;rw [h,k] at this;omega
theorem yaav (hp:∀e∈R,ea e≠eb e) (hn:R.Pairwise λ a b=>a.1<b.1) (hi:R[i]? =some e):brR R e↔∀j,Blk R i j->j=i:=by
 have heR:=List.mem_of_getElem? hi;have hpe:=hp e heR;constructor
 ·rintro ⟨_,hb⟩ j h
  have:(i=i↔j=i):=zae.least (P:=λ u v=>(u=i↔v=i)) h (λ _=>Iff.rfl) (λ _ _ h=>h.symm) (λ _ _ _ h k=>h.trans k) (by
   have key:∀{x v},Rx R x i v->v=i:=by
    rintro x v ⟨e',f,h1,h2,h3,h4,h5⟩;rw [hi] at h1;cases h1;refine Classical.byContradiction λ hv=>hb ?_
    have hef:f≠e:=λ c=>hv (getElem?_inj_of hn h2 (c▸hi))
    have a1:cn ea eb (but (·∈R) e) (ot e x) (ot f x):=za4 h5 (λ d hd=>⟨(zdm.1 hd).1,λ c=>by
     subst c;have:=(zdm.1 hd).2;unfold tch at h3;omega⟩)
    have a2:cn ea eb (but (·∈R) e) (ea f) (eb f):=zaj ⟨List.mem_of_getElem? h2,hef⟩;have hpf:=hp f (List.mem_of_getElem? h2);have a3:cn ea eb (but (·∈R) e) (ot f x) x:=by
     rcases h4 with h4 | h4
     ·rw [zdn (y:=eb f) (.inl h4) (.inr rfl) (by omega)]
      rw [h4] at a2;exact zac a2
     ·rw [zdn (y:=ea f) (.inr h4) (.inl rfl) (by omega)]
      rw [h4] at a2;exact a2
    have a4:=zaa a1 a3;rcases h3 with h3 | h3
    ·rw [zdn (y:=eb e) (.inl h3) (.inr rfl) (by omega)] at a4
     rw [h3];exact zac a4
    ·rw [zdn (y:=ea e) (.inr h3) (.inl rfl) (by omega)] at a4
     rw [h3];exact a4
   rintro u v ⟨x,hr⟩;constructor
   ·intro c;rw [c] at hr;exact key hr
   ·intro c;rw [c] at hr;exact key hr.symm)
  exact this.1 rfl
 ·intro h
  refine ⟨heR,λ hc=>?_⟩;have hno:∀f∈R,f≠e->tch f (ea e)->¬cnR (wo R (ea e)) (eb e) (ot f (ea e)):=by
   intro f hf hfe ht hcn;obtain ⟨j,hj⟩:=List.getElem?_of_mem hf;have:j=i:=h j (zae.base ⟨ea e,e,f,hi,hj,.inl rfl,ht,by rw [zdn (y:=eb e) (.inl rfl) (.inr rfl) hpe.symm];exact hcn⟩);subst this;rw [hi] at hj;cases hj;exact hfe rfl
  have hx:¬cnR (wo R (ea e)) (eb e) (ea e):=λ c=>hpe (alone (zac c)).symm
  have:(cnR (wo R (ea e)) (eb e) (ea e)↔cnR (wo R (ea e)) (eb e) (eb e)):=zae.least (P:=λ u v=>(cnR (wo R (ea e)) (eb e) u↔cnR (wo R (ea e)) (eb e) v)) hc (λ _=>Iff.rfl) (λ _ _ h=>h.symm) (λ _ _ _ h k=>h.trans k) (by
   rintro _ _ ⟨d,⟨hd,hde⟩,rfl,rfl⟩;have hpd:=hp d hd;by_cases ht:tch d (ea e)
   ·have h1:=hno d hd hde ht
    rcases ht with ht | ht
    ·rw [zdn (y:=eb d) (.inl ht) (.inr rfl) (by omega)] at h1
     rw [ht];exact ⟨λ c=>absurd c hx,λ c=>absurd c h1⟩
    ·rw [zdn (y:=ea d) (.inr ht) (.inl rfl) (by omega)] at h1
     rw [ht];exact ⟨λ c=>absurd c h1,λ c=>absurd c hx⟩
   ·have hd':cnR (wo R (ea e)) (ea d) (eb d):=zaj (zdm.2 ⟨hd,λ c=>ht (.inl c),λ c=>ht (.inr c)⟩)
    exact ⟨λ c=>zaa c hd',λ c=>zaa c (zac hd')⟩)
  exact hx (this.2 (zaw _))
theorem z7s (hp:∀e∈R,ea e≠eb e):(∃u v,u≠x/\v≠x/\cnR R u v/\¬cnR (wo R x) u v)↔∃e∈R,∃f∈R,tch e x/\tch f x/\¬cnR (wo R x) (ot e x) (ot f x):=by
 have edge:∀{e},e∈R->tch e x->cnR R (ot e x) x:=by
  intro e he ht;have hpe:=hp e he;have:=zaj (a:=ea) (b:=eb) (T:=(·∈R)) he;rcases ht with h | h
  ·rw [zdn (y:=eb e) (.inl h) (.inr rfl) (by omega)];rw [h] at this;exact zac this
  ·rw [zdn (y:=ea e) (.inr h) (.inl rfl) (by omega)];rw [h] at this;exact this
 constructor
 ·rintro ⟨u,v,hu,hv,h,hn⟩
  refine Classical.byContradiction λ hno=>?_
  have hall:∀e∈R,∀f∈R,tch e x->tch f x->cnR (wo R x) (ot e x) (ot f x):=λ e he f hf h1 h2=>Classical.byContradiction λ c=>hno ⟨e,he,f,hf,h1,h2,c⟩
  have key:=zae.least (P:=λ u v=>((u=x\/∃e∈R,tch e x/\cnR (wo R x) u (ot e x))/\(v=x\/∃e∈R,tch e x/\cnR (wo R x) v (ot e x)))\/cnR (wo R x) u v) h (λ _=>.inr (zaw _)) ?_ ?_ ?_
  ·rcases key with ⟨h1,h2⟩ | h1
   ·rcases h1 with h1 | ⟨e,he,ht,h1⟩
    ·exact hu h1
    ·rcases h2 with h2 | ⟨f,hf,ht',h2⟩
     ·exact hv h2
     ·exact hn (zaa h1 (zaa (hall e he f hf ht ht') (zac h2)))
   ·exact hn h1
  ·rintro u v (⟨h1,h2⟩ | h)
   ·exact .inl ⟨h2,h1⟩
   ·exact .inr (zac h)
  ·have go:∀{v w},(v=x\/∃e∈R,tch e x/\cnR (wo R x) v (ot e x))->cnR (wo R x) v w->(w=x\/∃e∈R,tch e x/\cnR (wo R x) w (ot e x)):=by
    rintro v w (rfl | ⟨e,he,ht,h⟩) hc
    ·exact .inl (alone hc)
    ·exact .inr ⟨e,he,ht,zaa (zac hc) h⟩
   rintro u v w (⟨h1,h2⟩ | h) (⟨k1,k2⟩ | k)
   ·exact .inl ⟨h1,k2⟩
   ·exact .inl ⟨h1,go h2 k⟩
   ·exact .inl ⟨go k1 (zac h),k2⟩
   ·exact .inr (zaa h k)
  ·rintro _ _ ⟨d,hd,rfl,rfl⟩
   have hpd:=hp d hd;by_cases ht:tch d x
   ·refine .inl ?_
    rcases ht with h | h
    ·exact ⟨.inl h,.inr ⟨d,hd,.inl h,by rw [zdn (y:=eb d) (.inl h) (.inr rfl) (by omega)];exact zaw _⟩⟩
    ·exact ⟨.inr ⟨d,hd,.inr h,by rw [zdn (y:=ea d) (.inr h) (.inl rfl) (by omega)];exact zaw _⟩,.inl h⟩
   ·exact .inr (zaj (zdm.2 ⟨hd,λ c=>ht (.inl c),λ c=>ht (.inr c)⟩))
 ·rintro ⟨e,he,f,hf,h1,h2,h3⟩
  exact ⟨ot e x,ot f x,(zy6 h1 (hp e he)).2,(zy6 h2 (hp f hf)).2,zaa (edge he h1) (zac (edge hf h2)),h3⟩
structure Bs (R:List (Int × Int × Int)) (x:Nat) (D L:List Nat):Prop where
 good:Good R.length L
 alike:∀u v,Lk R.length L u v↔zae (λ i j=>(∃y,y<x/\Rx R y i j)\/(i∈D/\j∈D/\Rx R x i j)) u v
variable {D L:List Nat}
theorem z3g (R:List (Int × Int × Int)):Bs R 0 [] (List.range R.length):=by
 refine ⟨zbi _,λ u v=>⟨?_,λ h=>?_⟩⟩
 ·rintro (rfl | ⟨h1,h2,h3⟩)
  ·exact zae.refl _
  ·have e1:(List.range R.length).getD u 0=u:=by simp [h1]
   have e2:(List.range R.length).getD v 0=v:=by simp [h2]
   rw [e1,e2] at h3;subst h3;exact zae.refl _
 ·exact zae.least (P:=Lk R.length (List.range R.length)) h (λ _=>Lk.refl _) (λ _ _ h=>h.symm) (λ _ _ _ h k=>h.trans k) (by
   rintro i j (⟨y,hy,_⟩ | ⟨h,_⟩)
   ·omega
   ·simp at h)
theorem Rx.lt (h:Rx R x i j):i<R.length/\j<R.length:=by
 obtain ⟨e,f,h1,h2,_⟩:=h;exact ⟨(List.getElem?_eq_some_iff.1 h1).1,(List.getElem?_eq_some_iff.1 h2).1⟩
theorem yaa4 (s:Bs R x D L) (hno:∀j∈D,¬Rx R x j i):Bs R x (D++[i]) L:=by
 refine ⟨s.good,λ u v=>?_⟩;rw [s.alike];constructor
 ·intro h
  refine zae.lift h ?_;rintro p q (h | ⟨h1,h2,h3⟩)
  ·exact zae.base (.inl h)
  ·exact zae.base (.inr ⟨List.mem_append_left _ h1,List.mem_append_left _ h2,h3⟩)
 ·intro h
  refine zae.lift h ?_;rintro p q (h | ⟨h1,h2,h3⟩)
  ·exact zae.base (.inl h)
  ·rcases List.mem_append.1 h1 with h1 | h1
   ·rcases List.mem_append.1 h2 with h2 | h2
    ·exact zae.base (.inr ⟨h1,h2,h3⟩)
    ·rw [List.mem_singleton.1 h2] at h3
     exact absurd h3 (hno p h1)
   ·rcases List.mem_append.1 h2 with h2 | h2
    ·rw [List.mem_singleton.1 h1] at h3
     exact absurd h3.symm (hno q h2)
    ·rw [List.mem_singleton.1 h1,List.mem_singleton.1 h2];exact zae.refl _
theorem z6w (s:Bs R x D L) (hj:j∈D) (h:Rx R x j i):Bs R x (D++[i]) (joinL L j i):=by
 have hl:=h.lt;refine ⟨zgl s.good hl.1 hl.2,λ u v=>?_⟩;rw [zei s.good.len hl.1 hl.2];have up:∀{u v},Lk R.length L u v->zae (λ p q=>(∃y,y<x/\Rx R y p q)\/(p∈D++[i]/\q∈D++[i]/\Rx R x p q)) u v:=by
  intro u v h;refine zae.lift ((s.alike u v).1 h) ?_;rintro p q (h | ⟨h1,h2,h3⟩)
  ·exact zae.base (.inl h)
  ·exact zae.base (.inr ⟨List.mem_append_left _ h1,List.mem_append_left _ h2,h3⟩)
 have b:zae (λ p q=>(∃y,y<x/\Rx R y p q)\/(p∈D++[i]/\q∈D++[i]/\Rx R x p q)) j i:=zae.base (.inr ⟨List.mem_append_left _ hj,by simp,h⟩);constructor
 ·rintro (h | ⟨h,k⟩ | ⟨h,k⟩)
  ·exact up h
  ·exact (up h).trans (b.trans (up k))
  ·exact (up h).trans (b.symm.trans (up k))
 ·intro h'
  have key:Lk R.length (joinL L j i) u v:=zae.least (P:=Lk R.length (joinL L j i)) h' (λ _=>Lk.refl _) (λ _ _ h=>h.symm) (λ _ _ _ h k=>h.trans k) (by
   have old:∀{p q},Lk R.length L p q->Lk R.length (joinL L j i) p q:=λ h=>(zei s.good.len hl.1 hl.2).2 (.inl h)
   have ji:Lk R.length (joinL L j i) j i:=(zei s.good.len hl.1 hl.2).2 (.inr (.inl ⟨Lk.refl _,Lk.refl _⟩));rintro p q (h1 | ⟨h1,h2,h3⟩)
   ·exact old ((s.alike p q).2 (zae.base (.inl h1)))
   ·rcases List.mem_append.1 h1 with h1 | h1
    ·rcases List.mem_append.1 h2 with h2 | h2
     ·exact old ((s.alike p q).2 (zae.base (.inr ⟨h1,h2,h3⟩)))
     ·rw [List.mem_singleton.1 h2] at h3 ⊢
      exact (old ((s.alike p j).2 (zae.base (.inr ⟨h1,hj,h3.trans h.symm⟩)))).trans ji
    ·rw [List.mem_singleton.1 h1] at h3 ⊢
     rcases List.mem_append.1 h2 with h2 | h2
     ·exact (ji.symm).trans (old ((s.alike j q).2 (zae.base (.inr ⟨hj,h2,h.trans h3⟩))))
     ·rw [List.mem_singleton.1 h2];exact Lk.refl _)
  exact (zei s.good.len hl.1 hl.2).1 key
theorem z5x (s:Bs R x D L) (hD:∀i e,R[i]? =some e->tch e x->i∈D):Bs R (x+1) [] L:=by
 refine ⟨s.good,λ u v=>?_⟩;rw [s.alike];constructor
 ·intro h
  refine zae.lift h ?_;rintro p q (⟨y,hy,h⟩ | ⟨_,_,h3⟩)
  ·exact zae.base (.inl ⟨y,by omega,h⟩)
  ·exact zae.base (.inl ⟨x,by omega,h3⟩)
 ·intro h
  refine zae.lift h ?_;rintro p q (⟨y,hy,h⟩ | ⟨h,_⟩)
  ·by_cases c:y=x
   ·rw [c] at h
    obtain ⟨e,f,h1,h2,h3,h4,_⟩:=id h;exact zae.base (.inr ⟨hD p e h1 h3,hD q f h2 h4,h⟩)
   ·exact zae.base (.inl ⟨y,by omega,h⟩)
  ·simp at h
def lb (R:List (Int × Int × Int)) (x:Nat) (K:List Nat) (j:Nat):Nat:=K.getD (ot (R.getD j (0,0,0)) x) 0
structure Gth (R:List (Int × Int × Int)) (x:Nat) (K D:List Nat) (ks:List (Nat × Nat)):Prop where
 nd:ks.Pairwise λ p q=>p.1≠q.1
 at_:∀p∈ks,p.2∈D/\lb R x K p.2=p.1
 all:∀j∈D,∃p∈ks,p.1=lb R x K j
theorem zz4 (R:List (Int × Int × Int)) (x:Nat) (K:List Nat):Gth R x K [] []:=⟨.nil,by simp,by simp⟩
theorem z5a {K:List Nat} {ks:List (Nat × Nat)} (g:Gth R x K D ks) (hno:∀p∈ks,p.1≠lb R x K i):Gth R x K (D++[i]) (ks++[(lb R x K i,i)]):=by
 refine ⟨?_,?_,?_⟩
 ·rw [List.pairwise_append]
  exact ⟨g.nd,List.pairwise_singleton _ _,λ p hp q hq=>by rw [List.mem_singleton.1 hq];exact hno p hp⟩
 ·intro p hp
  rcases List.mem_append.1 hp with h | h
  ·exact ⟨List.mem_append_left _ (g.at_ p h).1,(g.at_ p h).2⟩
  ·rw [List.mem_singleton.1 h];exact ⟨by simp,rfl⟩
 ·intro j hj
  rcases List.mem_append.1 hj with h | h
  ·obtain ⟨p,h1,h2⟩:=g.all j h
   exact ⟨p,List.mem_append_left _ h1,h2⟩
  ·rw [List.mem_singleton.1 h];exact ⟨(lb R x K i,i),by simp,rfl⟩
theorem z6s {K:List Nat} {ks:List (Nat × Nat)} (g:Gth R x K D ks) {p:Nat × Nat} (hp:p∈ks) (h:p.1=lb R x K i):Gth R x K (D++[i]) ks:=by
 refine ⟨g.nd,λ p hp=>⟨List.mem_append_left _ (g.at_ p hp).1,(g.at_ p hp).2⟩,?_⟩;intro j hj;rcases List.mem_append.1 hj with h' | h'
 ·exact g.all j h'
 ·rw [List.mem_singleton.1 h'];exact ⟨p,hp,h⟩
theorem zf2 {i:Nat} (h:R[i]? =some e):R.getD i (0,0,0)=e:=by simp [h]
def Kx (n:Nat) (R:List (Int × Int × Int)) (x:Nat) (K:List Nat):Prop:=∀u v,u<n->v<n->(K.getD u 0=K.getD v 0↔cnR (wo R x) u v)
theorem zoz {n:Nat} (hin:∀e∈R,ea e<n/\eb e<n) (he:e∈R):ot e x<n:=by
 have:=hin e he;unfold ot;split <;> omega
theorem z4o {n:Nat} {K:List Nat} (hK:Kx n R x K) (hin:∀e∈R,ea e<n/\eb e<n) (hi:R[i]? =some e) (hj:R[j]? =some f) (he:tch e x) (hf:tch f x):Rx R x i j↔lb R x K i=lb R x K j:=by
 unfold lb;rw [zf2 hi,zf2 hj,hK _ _ (zoz hin (List.mem_of_getElem? hi)) (zoz hin (List.mem_of_getElem? hj))];constructor
 ·rintro ⟨e',f',h1,h2,_,_,h5⟩
  rw [hi] at h1;rw [hj] at h2;cases h1;cases h2;exact h5
 ·exact λ h=>⟨e,f,hi,hj,he,hf,h⟩
theorem z6x {n:Nat} {K:List Nat} {ks:List (Nat × Nat)} (g:Gth R x K D ks) (hK:Kx n R x K) (hin:∀e∈R,ea e<n/\eb e<n) (hD:∀i,i∈D↔∃e,R[i]? =some e/\tch e x):
 1<ks.length↔∃e∈R,∃f∈R,tch e x/\tch f x/\¬cnR (wo R x) (ot e x) (ot f x):=by
 have key:∀{i j e f},R[i]? =some e->R[j]? =some f->(lb R x K i=lb R x K j↔cnR (wo R x) (ot e x) (ot f x)):=by
  intro i j e f hi hj;unfold lb;rw [zf2 hi,zf2 hj,hK _ _ (zoz hin (List.mem_of_getElem? hi)) (zoz hin (List.mem_of_getElem? hj))]
 constructor
 ·intro h
  match ks,g,h with
  | p::q::r,g,_=>
    have h1:=g.at_ p (by simp);have h2:=g.at_ q (by simp);obtain ⟨e,he,ht⟩:=(hD _).1 h1.1;obtain ⟨f,hf,ht'⟩:=(hD _).1 h2.1;refine ⟨e,List.mem_of_getElem? he,f,List.mem_of_getElem? hf,ht,ht',λ c=>?_⟩;rw [<-key he hf,h1.2,h2.2] at c;exact (List.pairwise_cons.1 g.nd).1 q (by simp) c
 ·rintro ⟨e,he,f,hf,ht,ht',h⟩
  obtain ⟨i,hi⟩:=List.getElem?_of_mem he;obtain ⟨j,hj⟩:=List.getElem?_of_mem hf;obtain ⟨p,hp,hp'⟩:=g.all i ((hD i).2 ⟨e,hi,ht⟩);obtain ⟨q,hq,hq'⟩:=g.all j ((hD j).2 ⟨f,hj,ht'⟩);rw [<-key hi hj,<-hp',<-hq'] at h
  match ks,hp,hq with
  | [],hp,_=>simp at hp
  | [r],hp,hq=>
    rw [List.mem_singleton.1 hp,List.mem_singleton.1 hq] at h;exact absurd rfl h
  | _::_::_,_,_=>simp
def Lbs (R:List (Int × Int × Int)) (l:List Nat):Prop:=l.length=R.length/\∀i,i<R.length->l.getD i 0<=i/\Blk R i (l.getD i 0)
theorem zzx (R:List (Int × Int × Int)):Lbs R (List.range R.length):=⟨by simp,λ i hi=>by
 have e:(List.range R.length).getD i 0=i:=by simp [hi]
 rw [e];exact ⟨Nat.le_refl _,zae.refl _⟩⟩
theorem z2q {l:List Nat} (h:Lbs R l) (hr:Rx R x i k) (hlt:l.getD i 0<l.getD k 0):Lbs R (l.set k (l.getD i 0))/\(l.set k (l.getD i 0)).sum<l.sum:=by
 have hl:=hr.lt;refine ⟨⟨by simp [h.1],λ j hj=>?_⟩,?_⟩
 ·by_cases c:k=j
  ·subst c
   have e:(l.set k (l.getD i 0)).getD k 0=l.getD i 0:=by simp [h.1,hl.2]
   rw [e];have h1:=h.2 k hl.2;exact ⟨by omega,(zae.base ⟨x,hr.symm⟩:Blk R k i).trans (h.2 i hl.1).2⟩
  ·have e:(l.set k (l.getD i 0)).getD j 0=l.getD j 0:=by simp [c]
   rw [e];exact h.2 j hj
 ·have:=zjo l k (l.getD i 0) (by rw [h.1];exact hl.2)
  omega
theorem z2h {l:List Nat} (h:Lbs R l) (hd:∀x i k,Rx R x i k->¬l.getD i 0<l.getD k 0):Good R.length l/\∀u v,Lk R.length l u v↔Blk R u v:=by
 have hiff:∀u v,Lk R.length l u v↔Blk R u v:=by
  intro u v;constructor
  ·rintro (rfl | ⟨h1,h2,h3⟩)
   ·exact zae.refl _
   ·have a:=(h.2 u h1).2
    have b:=(h.2 v h2).2;rw [h3] at a;exact zae.trans a (zae.symm b)
  ·intro k
   exact zae.least (P:=Lk R.length l) k (λ _=>Lk.refl _) (λ _ _ h=>h.symm) (λ _ _ _ h k=>h.trans k) (by
    rintro p q ⟨x,hr⟩;have h1:=hd x p q hr;have h2:=hd x q p hr.symm;exact .inr ⟨hr.lt.1,hr.lt.2,by omega⟩)
 refine ⟨⟨h.1,λ i hi=>(h.2 i hi).1,λ i hi=>?_⟩,hiff⟩;have h1:=(hiff i (l.getD i 0)).2 (h.2 i hi).2;rcases h1 with h1 | ⟨_,_,h3⟩
 ·rw [<-h1,<-h1]
 ·exact h3.symm
end
end Go.Proofs.YtebcjaenhiiflaaGreatDoor.S
namespace Go.Proofs.YtebcjaenhiiflaaGreatDoor.S
open Go.RowKit Go.WideMaps Go.Maps Go.Sort Go.Shelf Go.Proofs.Tryz
variable {p pw bw pt bt m N n:Nat} {W T:List Nat} {D:DataW Unit}
theorem zli (k:Nat):AnyZI.SortsIn prog Tryz.sortedA_ren Fence.wide k:=
 ⟨λ blk off cap ss W hH hblk hsz=>callsIn_wide.2 (AnyM.slices_Sort_int Tryz.sortA blk off cap ss W hH hblk hsz),
  λ p cap W=>callsIn_wide.2 (AnyM.slices_Sort_int_none Tryz.sortA p cap W)⟩
theorem z8f (w:World) (h:BAt w p pw bw pt bt m N W T D) (hN:N<=1000):
 Calls prog 78 #[.pointer (some ⟨p,0,none⟩)] w λ e w'=>∃(v:Value) (ss:List Int),e= .returned v/\ss.Perm (intKeys D)/\
  w'.ownsRow w.heap.size 3 1 v ss.length ((ss.mergeSort (λ x y=>decide (x<=y))).map encZ)/\(v= .slice none 0 0↔ss=[])/\Below w.heap.size w w':=by
 refine (callsIn_wide (n:=6)).1 ?_;have hc:=h.c2;have hown:=h.hm;have hmax:Maps.size D<=maxLen:=Nat.le_trans hown.size_le (by unfold maxLen;omega);have hbytes:Maps.size D*8<=140737488355328:=by have:=hown.size_le;omega
 clear h;have hbl:=hown.lt;have hseq:SeqGives Fence.wide 2 prog 244 #[.pointer (some ⟨w.heap.size,0,none⟩)] encZ (λ ss=>ss.Perm (intKeys D)) (Maps.size D) (w.alloc (.cells #[.map (some m)] 176)):=
  AnyZI.keys_gives (ρ:=Tryz.keysA_ren) {Tryz.keysA with} Fence.wide _ trivial rfl (by omega) w.heap.size m N D _ (by simp) (by simp) (by
   obtain ⟨es,clock,hb,Ft,hs,hD⟩:=hown;exact ⟨es,clock,(Below.heap_alloc _ _ m hbl).trans hb,Ft,hs,hD⟩)
 have cK:∀mb W,CallsIn Fence.wide 5 prog 134 #[.map mb] W λ e w'=>e= .returned (.func (.func 244) #[] #[.pointer (some ⟨W.heap.size,0,none⟩)])/\w'=W.alloc (.cells #[.map mb] 176):=λ mb W=>AnyZI.keys_in Tryz.keysA Fence.wide 5 trivial rfl mb W
 have cS:=AnyZI.sorted_in Tryz.sortedA Fence.wide 5 trivial trivial trivial trivial rfl (by omega) (zli _) (enters_of func243 (by kernel_rfl) rfl) 244 #[.pointer (some ⟨w.heap.size,0,none⟩)] trivial (enters_of func244 (by kernel_rfl) rfl) _ _ hmax hbytes _ hseq;change CallsIn _ _ prog 133 _ _ _ at cS
 have hfK:Fence.wide.fn 134:=trivial;have hfS:Fence.wide.fn 133:=trivial;clear hown hseq hmax hbytes hbl;refine callsIn_of_wp func78 rfl trivial ?_ rfl;simp only [ntmps78,List.size_toArray,List.length_cons,List.length_nil,Nat.reduceAdd,Nat.reduceSub,Array.replicate_succ,Array.replicate_zero,List.push_toArray,List.append_toArray,List.nil_append,List.cons_append]
 gi_wp2_with (first
  | (gi_at_call 134;refine (cK _ _).mono ?_;rintro e w' ⟨rfl,rfl⟩)
  | (gi_at_call 133;refine cS.mono ?_;rintro e w' ⟨v,ss,rfl,hS,hrow,hnil,hb⟩))
 go_ret;exact ⟨v,ss,rfl,hS,ownsRow_base_a hrow (by simp),hnil,((Below.refl _ w).alloc (Nat.le_refl _) _).trans (hb.mono (by simp))⟩
end Go.Proofs.YtebcjaenhiiflaaGreatDoor.S
namespace Go.Proofs.YtebcjaenhiiflaaGreatDoor.S
open Go.RowKit Go.WideMaps Go.Maps
end Go.Proofs.YtebcjaenhiiflaaGreatDoor.S
namespace Go.Proofs.YtebcjaenhiiflaaGreatDoor.S.K
open Go.RowKit Go.Proofs.Tryz
theorem zi8 (r1 r2 gl c1 c2:Nat) (G:Nat->Nat) (w:World) (h1:∀j,j<gl->w.cell? ⟨r1,j,none⟩=some (.int .i64 (G j:Int))) (h2:∀j,j<gl->w.cell? ⟨r2,j,none⟩=some (.int .i64 (G j:Int))) (hgl:gl<=1000000):
 Calls prog 32 #[.slice (some ⟨r1,0,none⟩) gl c1,.slice (some ⟨r2,0,none⟩) gl c2] w λ e w'=>e= .returned (.bool true)/\∃n,w'=w.drewN n:=by
 have H1:=(show Hid _ from h1);have H2:=(show Hid _ from h2);clear h1 h2;go_enter func32,ntmps32;go_wp2_with fail;go_loopw [5] (λ s5 wq=>∃j:Nat,j<=gl/\s5= .int .i64 j/\∃q,wq=w.drewN q) (λ s5 _=>gl-(intOf s5).toNat)
 case atStart=>exact ⟨0,Nat.zero_le _,rfl,0,rfl⟩
 case round=>
  obtain ⟨j,hj,rfl,q,hq⟩:=hrel;have HQ:=kd hq;clear hq;by_cases hlt:j<gl
  ·have c1':wr.cell? ⟨r1,j,none⟩=some (.int .i64 (G j:Int)):=by rw [HQ.out];exact H1.out j hlt
   have c2':wr.cell? ⟨r2,j,none⟩=some (.int .i64 (G j:Int)):=by rw [HQ.out];exact H2.out j hlt
   generalize G j=x at*;go_wp2_with fail;go_quiet (fail);go_wp2_with fail;go_roundw;case rel=>exact ⟨j+1,by omega,by go_num,_,by rw [HQ.out];exact drewN_drewN _ _ _⟩
   case measure=>simp [intOf];omega
  ·go_wp2_with fail
   go_ret;exact ⟨rfl,q,HQ.out⟩
def zcf (w:World) (g:Nat) (Gs:List (List Nat)) (c:Nat):Prop:=
 ∀i,i<c->∃r cap,w.cell? ⟨g,i,none⟩=some (.slice (some ⟨r,0,none⟩) (Gs.getD i []).length cap)/\∀j,j<(Gs.getD i []).length->w.cell? ⟨r,j,none⟩=some (.int .i64 (((Gs.getD i []).getD j 0:Nat):Int))
theorem zk8 (a1 a2:Option Addr) (c cap1 cap2:Nat) (Gs:List (List Nat)) (w:World) (h:0<c->∃g1 g2,a1=some ⟨g1,0,none⟩/\a2=some ⟨g2,0,none⟩/\zcf w g1 Gs c/\zcf w g2 Gs c) (hc:c<=1000000) (hgl:∀i,(Gs.getD i []).length<=1000000):
 Calls prog 35 #[.slice a1 c cap1,.slice a2 c cap2] w λ e w'=>e= .returned (.bool true)/\∃n,w'=w.drewN n:=by
 have HH:=(show Hid _ from h);have HL:=(show Hid _ from hgl);clear h hgl;go_enter func35,ntmps35;go_wp2_with fail;go_loopw [5] (λ s5 wq=>∃j:Nat,j<=c/\s5= .int .i64 j/\∃q,wq=w.drewN q) (λ s5 _=>c-(intOf s5).toNat)
 case atStart=>exact ⟨0,Nat.zero_le _,rfl,0,rfl⟩
 case round=>
  obtain ⟨j,hj,rfl,q,hq⟩:=hrel;have HQ:=kd hq;clear hq;by_cases hlt:j<c
  ·obtain ⟨g1,g2,e1,e2,R1,R2⟩:=HH.out (by omega)
   subst e1 e2;obtain ⟨r1,k1,a1',b1⟩:=R1 j hlt;obtain ⟨r2,k2,a2',b2⟩:=R2 j hlt;have hgl:=HL.out j;have HS:Hid (∀Q,Calls prog 32 #[.slice (some ⟨r1,0,none⟩) (Gs.getD j []).length k1,.slice (some ⟨r2,0,none⟩) (Gs.getD j []).length k2] (wr.drewN Q) λ e w'=>e= .returned (.bool true)/\∃n,w'=(wr.drewN Q).drewN n):=λ Q=>
    zi8 r1 r2 (Gs.getD j []).length k1 k2 (λ i=>(Gs.getD j []).getD i 0) (wr.drewN Q) (by rw [HQ.out];exact b1) (by rw [HQ.out];exact b2) hgl
   have d1:wr.cell? ⟨g1,j,none⟩=some (.slice (some ⟨r1,0,none⟩) (Gs.getD j []).length k1):=by rw [HQ.out];exact a1'
   have d2:wr.cell? ⟨g2,j,none⟩=some (.slice (some ⟨r2,0,none⟩) (Gs.getD j []).length k2):=by rw [HQ.out];exact a2'
   clear R1 R2 b1 b2 HH HL a1' a2';generalize (Gs.getD j []).length=gl at*;go_wp2_with fail;go_quiet ((go_at_call 32;go_must (exact Calls.quiet_of (HS.out _))));go_wp2_with fail;go_roundw;case rel=>exact ⟨j+1,by omega,by go_num,_,by rw [HQ.out];exact drewN_drewN _ _ _⟩
   case measure=>simp [intOf];omega
  ·go_wp2_with fail
   go_ret;exact ⟨rfl,q,HQ.out⟩
end Go.Proofs.YtebcjaenhiiflaaGreatDoor.S.K
