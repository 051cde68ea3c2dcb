import Derived.Test.YtebcjaenhiiflaaGreatDoorQSST
import Derived.Test.YtebcjaenhiiflaaGreatDoorQBIt
import Derived.Maps.RangeWalk
import Derived.Maps.OwnSet
import Derived.Maps.OwnOps
import Derived.Lib.SlKeysI
set_option maxHeartbeats 4000000
set_option maxRecDepth 100000
namespace Go.Proofs.YtebcjaenhiiflaaGreatDoor.S
open Go.RowKit Go.WideMaps Go.Maps
def pairL:List Value->Option (DataW Unit × List MemPlace)
 | [.int .i64 a,.int .i64 b]=>some (.agg [.lit (.int .i64 a),.lit (.int .i64 b)],[])
 | _=>none
def pairR:Value->Option (DataW Unit × List MemPlace)
 | .agg cs=>pairL cs.toList
 | _=>none
def pairV (a b:Int):Value:=.agg #[.int .i64 a,.int .i64 b]
def pairD (a b:Int):DataW Unit:=.agg [.lit (.int .i64 a),.lit (.int .i64 b)]
theorem pairR_mk (a b:Int):pairR (pairV a b)=some (pairD a b,[]):=rfl
theorem pairL_inv {l:List Value} {y:DataW Unit × List MemPlace} (h:pairL l=some y):∃a b:Int,l=[.int .i64 a,.int .i64 b]/\y=(pairD a b,[]):=by
 unfold pairL at h;split at h
 ·next a b=>cases h;exact ⟨a,b,rfl,rfl⟩
 ·cases h
theorem pairR_inv {v:Value} {y:DataW Unit × List MemPlace} (h:pairR v=some y):∃c:Int × Int,v=pairV c.1 c.2/\y=(pairD c.1 c.2,[]):=by
 unfold pairR at h;split at h
 ·next cs=>
  obtain ⟨a,b,h1,h2⟩:=pairL_inv h;exact ⟨(a,b),by rw [pairV,<-Array.toArray_toList (xs:=cs),h1],h2⟩
 ·cases h
theorem pairD_inj {a b c d:Int} (h:pairD a b=pairD c d):a=c/\b=d:=by
 simpa [pairD] using h
structure Dis (D:DataW Unit) (B:List (Int × Int × Int)):Prop where
 key:∀x:Int,Maps.has D (.int .i64 x)=true↔∃e∈B,e.1=x
 val:∀e∈B,∀zd,D.atKey (.int .i64 e.1) zd=pairD e.2.1 e.2.2
theorem key3 (x:Int) (h:(Lit.int .i64 x).wf=true):keyOf Tryz.prog 3 (.int .i64 x)=some (.int .i64 x):=keyOf_int_mk Tryz.underlying3 h
theorem isKeyLit (x:Int):WideAt.IsKeyLit (.int .i64 x):=trivial
theorem Dis.put {D:DataW Unit} {B:List (Int × Int × Int)} (h:Dis D B) (hD:IsMap D) (f:Int × Int × Int) (hn:∀e∈B,e.1≠f.1):Dis (D.put (.int .i64 f.1) (pairD f.2.1 f.2.2)) (B++[f]):=by
 refine ⟨λ x=>?_,λ e he zd=>?_⟩
 ·by_cases hx:x=f.1
  ·subst hx
   rw [has_put_same hD (isKeyLit _)];exact ⟨λ _=>⟨f,by simp,rfl⟩,λ _=>rfl⟩
  ·rw [has_put_other (by simpa using hx),h.key]
   constructor
   ·rintro ⟨e,he,k⟩;exact ⟨e,by simp [he],k⟩
   ·rintro ⟨e,he,k⟩
    rcases List.mem_append.1 he with he | he
    ·exact ⟨e,he,k⟩
    ·rw [List.mem_singleton.1 he] at k;exact absurd k.symm hx
 ·rcases List.mem_append.1 he with he | he
  ·rw [atKey_put_other (by simpa using hn e he)];exact h.val e he zd
  ·rw [List.mem_singleton.1 he,atKey_put_same hD (isKeyLit _)]
theorem Dis.del {D:DataW Unit} {B B':List (Int × Int × Int)} (h:Dis D B) (f:Int × Int × Int) (hone:∀e∈B,e.1=f.1->e=f) (hB:∀e,e∈B'↔e∈B/\e≠f):Dis (D.del (.int .i64 f.1)) B':=by
 refine ⟨λ x=>?_,λ e he zd=>?_⟩
 ·by_cases hx:x=f.1
  ·subst hx
   rw [has_del_same];refine ⟨λ k=>by simp at k,?_⟩;rintro ⟨e,he,k⟩;exact absurd (hone e ((hB e).1 he).1 k) ((hB e).1 he).2
  ·rw [has_del_other (by simpa using hx),h.key]
   constructor
   ·rintro ⟨e,he,k⟩;exact ⟨e,(hB e).2 ⟨he,λ c=>hx (by rw [<-k,c])⟩,k⟩
   ·rintro ⟨e,he,k⟩;exact ⟨e,((hB e).1 he).1,k⟩
 ·have h1:=(hB e).1 he
  rw [atKey_del_other (by
   intro c;have:e.1=f.1:=by simpa using c
   exact h1.2 (hone e h1.1 this))]
  exact h.val e h1.1 zd
theorem Dis.empty:Dis (.map []) []:=⟨λ x=>by simp [Maps.has],λ e he=>by simp at he⟩
structure BAt (w:World) (p pw bw pt bt m N:Nat) (W T:List Nat) (D:DataW Unit):Prop where
 hp:w.heap[p]? =some (.cells #[.pointer (some ⟨pw,0,none⟩),.pointer (some ⟨pt,0,none⟩),.map (some m)] 178)
 sw:SetsAt w pw bw W
 st:SetsAt w pt bt T
 hm:w.ownsMap Tryz.prog 3 pairR m N D
 pp:pw≠pt
 bb:bw≠bt
namespace BAt
variable {w w':World} {p pw bw pt bt m N:Nat} {W T:List Nat} {D:DataW Unit}
theorem c0 (h:BAt w p pw bw pt bt m N W T D):w.cell? ⟨p,0,none⟩=some (.pointer (some ⟨pw,0,none⟩)):=by simp [World.cell?,h.hp]
theorem c1 (h:BAt w p pw bw pt bt m N W T D):w.cell? ⟨p,1,none⟩=some (.pointer (some ⟨pt,0,none⟩)):=by simp [World.cell?,h.hp]
theorem c2 (h:BAt w p pw bw pt bt m N W T D):w.cell? ⟨p,2,none⟩=some (.map (some m)):=by simp [World.cell?,h.hp]
theorem plt (h:BAt w p pw bw pt bt m N W T D):p<w.heap.size:=lt_of_some h.hp
theorem below (h:BAt w p pw bw pt bt m N W T D) (hb:Below w.heap.size w w'):BAt w' p pw bw pt bt m N W T D:=
 ⟨by rw [hb.block p h.plt];exact h.hp,h.sw.below hb h.sw.plt h.sw.blt,h.st.below hb h.st.plt h.st.blt,h.hm.kept (row:=none) ⟨hb.os,hb.tape,hb.output,hb.size,λ k hk _=>hb.block k hk⟩ (by simp),h.pp,h.bb⟩
theorem drewN (h:BAt w p pw bw pt bt m N W T D) (n:Nat):BAt (w.drewN n) p pw bw pt bt m N W T D:=⟨h.hp,sets_drewN h.sw n,sets_drewN h.st n,h.hm,h.pp,h.bb⟩
theorem drew (h:BAt w p pw bw pt bt m N W T D):BAt w.drew p pw bw pt bt m N W T D:=⟨h.hp,sets_drew h.sw,sets_drew h.st,h.hm,h.pp,h.bb⟩
theorem mobj (h:BAt w p pw bw pt bt m N W T D):∃es c,w.heap[m]? =some (.map es c):=by
 obtain ⟨es,c,hb,_⟩:=h.hm;exact ⟨es,c,hb⟩
theorem m_ne (h:BAt w p pw bw pt bt m N W T D):m≠p/\m≠pw/\m≠bw/\m≠pt/\m≠bt:=by
 obtain ⟨es,c,hb⟩:=h.mobj;refine ⟨?_,?_,?_,?_,?_⟩ <;> rintro rfl
 ·rw [h.hp] at hb;simp at hb
 ·rw [h.sw.hp] at hb;simp at hb
 ·rw [h.sw.hb] at hb;simp at hb
 ·rw [h.st.hp] at hb;simp at hb
 ·rw [h.st.hb] at hb;simp at hb
theorem p_ne (h:BAt w p pw bw pt bt m N W T D):p≠pw/\p≠bw/\p≠pt/\p≠bt:=by
 refine ⟨?_,?_,?_,?_⟩ <;> rintro rfl
 ·have:=h.hp.symm.trans h.sw.hp;simp at this
 ·have:=h.hp.symm.trans h.sw.hb;simp at this
 ·have:=h.hp.symm.trans h.st.hp;simp at this
 ·have:=h.hp.symm.trans h.st.hb;simp at this
theorem s_ne (h:BAt w p pw bw pt bt m N W T D):pw≠bt/\pt≠bw:=by
 refine ⟨?_,?_⟩ <;> rintro rfl
 ·have:=h.sw.hp.symm.trans h.st.hb;simp at this
 ·have:=h.st.hp.symm.trans h.sw.hb;simp at this
theorem joinW {W':List Nat} (h:BAt w p pw bw pt bt m N W T D) (hs:SetsAt w' pw bw W') (k:But bw w w'):BAt w' p pw bw pt bt m N W' T D:=by
 refine ⟨by rw [k.block p h.plt h.p_ne.2.1];exact h.hp,hs,⟨?_,?_⟩,h.hm.kept (row:=some bw) ⟨k.os,k.tape,k.output,k.size,λ i hi hn=>k.block i hi (λ e=>hn (by rw [e]))⟩ (by simpa using h.m_ne.2.2.1),h.pp,h.bb⟩
 ·rw [k.block pt h.st.plt h.s_ne.2];exact h.st.hp
 ·rw [k.block bt h.st.blt (Ne.symm h.bb)];exact h.st.hb
theorem joinT {T':List Nat} (h:BAt w p pw bw pt bt m N W T D) (hs:SetsAt w' pt bt T') (k:But bt w w'):BAt w' p pw bw pt bt m N W T' D:=by
 refine ⟨by rw [k.block p h.plt h.p_ne.2.2.2];exact h.hp,⟨?_,?_⟩,hs,h.hm.kept (row:=some bt) ⟨k.os,k.tape,k.output,k.size,λ i hi hn=>k.block i hi (λ e=>hn (by rw [e]))⟩ (by simpa using h.m_ne.2.2.2.2),h.pp,h.bb⟩
 ·rw [k.block pw h.sw.plt h.s_ne.1];exact h.sw.hp
 ·rw [k.block bw h.sw.blt h.bb];exact h.sw.hb
theorem mapped {D':DataW Unit} {N':Nat} (h:BAt w p pw bw pt bt m N W T D) (hm:w'.ownsMap Tryz.prog 3 pairR m N' D') (k:w.grownBy w' (some m)):BAt w' p pw bw pt bt m N' W T D':=by
 obtain ⟨n1,n2,n3,n4,n5⟩:=h.m_ne;have hk:∀i,i<w.heap.size->m≠i->w'.heap[i]? =w.heap[i]? :=λ i hi hn=>k.block i hi (λ e=>hn (by injection e with e;exact e.symm))
 exact ⟨by rw [hk p h.plt n1];exact h.hp,⟨by rw [hk pw h.sw.plt n2];exact h.sw.hp,by rw [hk bw h.sw.blt n3];exact h.sw.hb⟩,⟨by rw [hk pt h.st.plt n4];exact h.st.hp,by rw [hk bt h.st.blt n5];exact h.st.hb⟩,hm,h.pp,h.bb⟩
end BAt
end Go.Proofs.YtebcjaenhiiflaaGreatDoor.S
namespace Go.Proofs.YtebcjaenhiiflaaGreatDoor.S
open Go.RowKit Go.WideMaps Go.Maps
theorem heap_allocs (w:World) (o1 o2:Obj):((w.alloc o1).alloc o2).heap[w.heap.size+1]? =some o2:=by
 have:=heap_alloc_new (w.alloc o1) o2
 rwa [World.size_alloc] at this
theorem bnew_at {w w1 w2:World} {n:Nat} (h1:SetsAt w1 (w.heap.size+1) w.heap.size (List.range n)) (h2:SetsAt w2 (w1.heap.size+1) w1.heap.size (List.range n)) (b2:Below w1.heap.size w1 w2):
 BAt ((w2.alloc (.map #[] 0)).alloc (.cells #[.pointer (some ⟨w.heap.size+1,0,none⟩),.pointer (some ⟨w1.heap.size+1,0,none⟩),.map (some w2.heap.size)] 178)) (w2.heap.size+1) (w.heap.size+1) w.heap.size (w1.heap.size+1) w1.heap.size w2.heap.size 0 (List.range n) (List.range n) (.map []):=by
 have hb:Below w2.heap.size w2 ((w2.alloc (.map #[] 0)).alloc (.cells #[.pointer (some ⟨w.heap.size+1,0,none⟩),.pointer (some ⟨w1.heap.size+1,0,none⟩),.map (some w2.heap.size)] 178)):=below_two _ _ _;have s1:w1.heap.size<=w2.heap.size:=b2.size;have l1:=h1.plt;have l2:=h2.plt;refine ⟨heap_allocs _ _ _,?_,?_,?_,by omega,by omega⟩
 ·exact (h1.below b2 h1.plt h1.blt).below hb (by omega) (by omega)
 ·exact h2.below hb (by omega) (by omega)
 ·exact (World.ownsMap_made w2 Tryz.prog 3 pairR).alloc _
theorem bnew_in (n:Nat) (w:World) (hn:n<=40):
 Calls Tryz.prog 113 #[.int .i64 (n:Int)] w λ e w'=>∃p pw bw pt bt m,e= .returned (.tuple #[.pointer (some ⟨p,0,none⟩),.nilIface])/\BAt w' p pw bw pt bt m 0 (List.range n) (List.range n) (.map [])/\Below w.heap.size w w'/\w.heap.size<=p/\w.heap.size<=bw/\w.heap.size<=bt/\w.heap.size<=m:=by
 have hmm:=@run_makeMap Tryz.prog;go_enter Tryz.func113,Tryz.ntmps113;go_wp2_with fail;refine (new_in n w hn).mono ?_;rintro e w1 ⟨rfl,h1,b1⟩;have H1:Hid (SetsAt w1 (w.heap.size+1) w.heap.size (List.range n)):=h1;have B1:Hid (Below w.heap.size w w1):=b1;clear h1 b1;go_wp2_with fail;refine (new_in n w1 hn).mono ?_;rintro e w2 ⟨rfl,h2,b2⟩;have H2:Hid (SetsAt w2 (w1.heap.size+1) w1.heap.size (List.range n)):=h2;have B2:Hid (Below w1.heap.size w1 w2):=b2;clear h2 b2;go_wp2;go_ret2;have hh:=bnew_at H1.out H2.out B2.out;have hs1:=B1.out.size;have hs2:=B2.out.size;refine ⟨_,_,_,_,_,_,rfl,hh,?_,by omega,by omega,by omega,by omega⟩;exact (B1.out.trans (B2.out.mono hs1)).trans ((below_two _ _ _).mono (by omega))
variable {p pw bw pt bt m N n:Nat} {W T:List Nat} {D:DataW Unit}
theorem whole_in (x y:Nat) (s:Bool) (w:World) (h:BAt w p pw bw pt bt m N W T D) (hx:x<W.length) (hy:y<W.length) (hv:(((W.getD x 0:Nat):Int)==((W.getD y 0:Nat):Int))=s):
 Calls Tryz.prog 75 #[.pointer (some ⟨p,0,none⟩),.int .i64 (x:Int),.int .i64 (y:Int)] w λ e w'=>e= .returned (.tuple #[.bool s,.nilIface])/\Below w.heap.size w w':=by
 have hc:=h.c0;go_enter Tryz.func75,Tryz.ntmps75;go_wp2_with fail;refine (same_in x y pw bw W s w h.sw hx hy hv).mono ?_;rintro e w1 ⟨rfl,b1⟩;have B1:Hid (Below w.heap.size w w1):=b1;clear b1 h hc hv;go_wp2;go_ret2;exact ⟨rfl,B1.out⟩
theorem whole_out (x y:Int) (w:World) (h:BAt w p pw bw pt bt m N W T D) (hx:Strange W.length x\/Strange W.length y):
 Calls Tryz.prog 75 #[.pointer (some ⟨p,0,none⟩),.int .i64 x,.int .i64 y] w λ e w'=>e= .returned (.tuple #[.bool false,.iface 23 (.int .i64 2)])/\Below w.heap.size w w':=by
 have hc:=h.c0;have HX:Hid (Strange W.length x\/Strange W.length y):=hx;clear hx;go_enter Tryz.func75,Tryz.ntmps75;go_wp2_with fail;refine (same_out x y pw bw W w h.sw HX.out).mono ?_;rintro e w1 ⟨rfl,b1⟩;have B1:Hid (Below w.heap.size w w1):=b1;clear b1 h hc;go_wp2;go_ret2;exact ⟨rfl,B1.out⟩
theorem twice_in (x y:Nat) (s:Bool) (w:World) (h:BAt w p pw bw pt bt m N W T D) (hx:x<T.length) (hy:y<T.length) (hv:(((T.getD x 0:Nat):Int)==((T.getD y 0:Nat):Int))=s):
 Calls Tryz.prog 76 #[.pointer (some ⟨p,0,none⟩),.int .i64 (x:Int),.int .i64 (y:Int)] w λ e w'=>e= .returned (.tuple #[.bool s,.nilIface])/\Below w.heap.size w w':=by
 have hc:=h.c1;go_enter Tryz.func76,Tryz.ntmps76;go_wp2_with fail;refine (same_in x y pt bt T s w h.st hx hy hv).mono ?_;rintro e w1 ⟨rfl,b1⟩;have B1:Hid (Below w.heap.size w w1):=b1;clear b1 h hc hv;go_wp2;go_ret2;exact ⟨rfl,B1.out⟩
theorem twice_out (x y:Int) (w:World) (h:BAt w p pw bw pt bt m N W T D) (hx:Strange T.length x\/Strange T.length y):
 Calls Tryz.prog 76 #[.pointer (some ⟨p,0,none⟩),.int .i64 x,.int .i64 y] w λ e w'=>e= .returned (.tuple #[.bool false,.iface 23 (.int .i64 2)])/\Below w.heap.size w w':=by
 have hc:=h.c1;have HX:Hid (Strange T.length x\/Strange T.length y):=hx;clear hx;go_enter Tryz.func76,Tryz.ntmps76;go_wp2_with fail;refine (same_out x y pt bt T w h.st HX.out).mono ?_;rintro e w1 ⟨rfl,b1⟩;have B1:Hid (Below w.heap.size w w1):=b1;clear b1 h hc;go_wp2;go_ret2;exact ⟨rfl,B1.out⟩
theorem part_n {X:Nat} (x:Nat) (w:World) (h:BAt w p pw bw pt bt m N W T D) (hg:Good n T) (hx:x<n) (hX:T.getD x 0=X):
 Calls Tryz.prog 231 #[.pointer (some ⟨p,0,none⟩),.int .i64 (x:Int)] w λ e w'=>e= .returned (.int .i64 (X:Int))/\Below w.heap.size w w':=by
 have hc:=h.c1;go_enter Tryz.func231,Tryz.ntmps231;go_wp2_with fail;refine (least_n x pt bt T w h.st hg hx hX).mono ?_;rintro e w1 ⟨rfl,b1⟩;have B1:Hid (Below w.heap.size w w1):=b1;clear b1 h hc hX;go_wp2;go_ret;exact ⟨rfl,B1.out⟩
end Go.Proofs.YtebcjaenhiiflaaGreatDoor.S
namespace Go.Proofs.YtebcjaenhiiflaaGreatDoor.S
open Go.RowKit Go.WideMaps Go.Maps
variable {p pw bw pt bt m N n:Nat} {W T:List Nat} {D:DataW Unit}
theorem box_two (w:World) (u v:Value):(w.alloc (.cells #[u,v] 180)).cell? ⟨w.heap.size,0,none⟩=some u/\(w.alloc (.cells #[u,v] 180)).cell? ⟨w.heap.size,1,none⟩=some v:=by
 constructor <;> simp
theorem box_two_below {w w':World} {u v:Value} (h:Below (w.alloc (.cells #[u,v] 180)).heap.size (w.alloc (.cells #[u,v] 180)) w'):w'.cell? ⟨w.heap.size,0,none⟩=some u/\w'.cell? ⟨w.heap.size,1,none⟩=some v:=by
 have hb:=box_two w u v;constructor
 ·rw [h.cell (p:=⟨w.heap.size,0,none⟩) (by simp)];exact hb.1
 ·rw [h.cell (p:=⟨w.heap.size,1,none⟩) (by simp)];exact hb.2
theorem below_alloc_then {w w':World} {o:Obj} (h:Below (w.alloc o).heap.size (w.alloc o) w'):Below w.heap.size w w':=
 ((Below.refl _ w).alloc (Nat.le_refl _) o).trans (h.mono (by simp))
theorem across_one (a b X Y:Nat) (w:World) (h:BAt w p pw bw pt bt m N W T D) (hg:Good n T) (ha:a<n) (hb:b<n) (hX:T.getD a 0=X) (hY:T.getD b 0=Y):
 Calls Tryz.prog 309 #[.pointer (some ⟨p,0,none⟩),.agg #[.int .i64 (a:Int),.int .i64 (b:Int)],.int .i64 (X:Int)] w λ e w'=>e= .returned (.int .i64 (Y:Int))/\Below w.heap.size w w':=by
 have HW:Hid (∀w',Below w.heap.size w w'->BAt w' p pw bw pt bt m N W T D):=λ w' hb=>h.below hb
 clear h;go_enter Tryz.func309,Tryz.ntmps309;go_wp2_with fail;refine (part_n a _ (HW.out _ ((Below.refl _ w).alloc (Nat.le_refl _) _)) hg ha hX).mono ?_;rintro e w1 ⟨rfl,b1⟩;have c1:=(box_two_below b1).2;have B1:Hid (Below w.heap.size w w1):=below_alloc_then b1;clear b1;go_wp2_with fail;refine (part_n b w1 (HW.out _ B1.out) hg hb hY).mono ?_;rintro e w2 ⟨rfl,b2⟩;have B2:Hid (Below w.heap.size w w2):=B1.out.trans (b2.mono B1.out.size);clear b2;go_wp2;go_ret;exact ⟨rfl,B2.out⟩
theorem across_two (a b X Y:Nat) (w:World) (h:BAt w p pw bw pt bt m N W T D) (hg:Good n T) (ha:a<n) (hb:b<n) (hX:T.getD a 0=X) (hY:T.getD b 0=Y) (hne:Y≠X):
 Calls Tryz.prog 309 #[.pointer (some ⟨p,0,none⟩),.agg #[.int .i64 (a:Int),.int .i64 (b:Int)],.int .i64 (Y:Int)] w λ e w'=>e= .returned (.int .i64 (X:Int))/\Below w.heap.size w w':=by
 have HW:Hid (∀w',Below w.heap.size w w'->BAt w' p pw bw pt bt m N W T D):=λ w' hb=>h.below hb
 clear h;go_enter Tryz.func309,Tryz.ntmps309;go_wp2_with fail;refine (part_n a _ (HW.out _ ((Below.refl _ w).alloc (Nat.le_refl _) _)) hg ha hX).mono ?_;rintro e w1 ⟨rfl,b1⟩;have c1:=(box_two_below b1).2;have c0:=(box_two_below b1).1;have B1:Hid (Below w.heap.size w w1):=below_alloc_then b1;have hl:w.heap.size<w1.heap.size:=by have:=b1.size;simp at this;omega
 clear b1;go_wp2_with fail;refine (part_n b w1 (HW.out _ B1.out) hg hb hY).mono ?_;rintro e w2 ⟨rfl,b2⟩;have c2:w2.cell? ⟨w.heap.size,0,none⟩=some (.int .i64 (a:Int)):=(b2.cell (p:=⟨w.heap.size,0,none⟩) hl).trans c0;have B2:Hid (Below w.heap.size w w2):=B1.out.trans (b2.mono B1.out.size);clear b2 c0 c1;go_wp2_with fail;refine (part_n a w2 (HW.out _ B2.out) hg ha hX).mono ?_;rintro e w3 ⟨rfl,b3⟩;have B3:Hid (Below w.heap.size w w3):=B2.out.trans (b3.mono B2.out.size);clear b3;go_wp2;go_ret;exact ⟨rfl,B3.out⟩
theorem across_none (a b X Y fr:Nat) (w:World) (h:BAt w p pw bw pt bt m N W T D) (hg:Good n T) (ha:a<n) (hb:b<n) (hX:T.getD a 0=X) (hY:T.getD b 0=Y) (h1:fr≠X) (h2:fr≠Y):
 Calls Tryz.prog 309 #[.pointer (some ⟨p,0,none⟩),.agg #[.int .i64 (a:Int),.int .i64 (b:Int)],.int .i64 (fr:Int)] w λ e w'=>e= .returned (.int .i64 (-1))/\Below w.heap.size w w':=by
 have HW:Hid (∀w',Below w.heap.size w w'->BAt w' p pw bw pt bt m N W T D):=λ w' hb=>h.below hb
 clear h;go_enter Tryz.func309,Tryz.ntmps309;go_wp2_with fail;refine (part_n a _ (HW.out _ ((Below.refl _ w).alloc (Nat.le_refl _) _)) hg ha hX).mono ?_;rintro e w1 ⟨rfl,b1⟩;have c1:=(box_two_below b1).2;have B1:Hid (Below w.heap.size w w1):=below_alloc_then b1;clear b1;go_wp2_with fail;refine (part_n b w1 (HW.out _ B1.out) hg hb hY).mono ?_;rintro e w2 ⟨rfl,b2⟩;have B2:Hid (Below w.heap.size w w2):=B1.out.trans (b2.mono B1.out.size);clear b2 c1;go_wp2;go_ret;exact ⟨rfl,B2.out⟩
end Go.Proofs.YtebcjaenhiiflaaGreatDoor.S
namespace Go.Proofs.YtebcjaenhiiflaaGreatDoor.S
open Go.RowKit Go.WideMaps Go.Maps
variable {p pw bw pt bt m N n:Nat} {R B:List (Int × Int × Int)} {W T:List Nat} {D:DataW Unit}
theorem across_any (a b fr:Nat) (w:World) (h:BAt w p pw bw pt bt m N W T D) (hg:Good n T) (ha:a<n) (hb:b<n):
 ∃nx:Int,Calls Tryz.prog 309 #[.pointer (some ⟨p,0,none⟩),.agg #[.int .i64 (a:Int),.int .i64 (b:Int)],.int .i64 (fr:Int)] w (λ e w'=>e= .returned (.int .i64 nx)/\Below w.heap.size w w')/\
  ((nx= -1/\T.getD a 0≠fr/\T.getD b 0≠fr)\/∃u v,((a=u/\b=v)\/(b=u/\a=v))/\T.getD u 0=fr/\nx=(T.getD v 0:Nat)):=by
 by_cases h1:T.getD a 0=fr
 ·exact ⟨_,across_one a b fr _ w h hg ha hb h1 rfl,.inr ⟨a,b,.inl ⟨rfl,rfl⟩,h1,rfl⟩⟩
 ·by_cases h2:T.getD b 0=fr
  ·exact ⟨_,across_two a b _ fr w h hg ha hb rfl h2 (λ e=>h1 e.symm),.inr ⟨b,a,.inr ⟨rfl,rfl⟩,h2,rfl⟩⟩
  ·exact ⟨_,across_none a b _ _ fr w h hg ha hb rfl rfl (λ e=>h1 e.symm) (λ e=>h2 e.symm),.inl ⟨rfl,h1,h2⟩⟩
def Nope (R:List (Int × Int × Int)) (T:List Nat) (fr tg:Nat) (back:Int) (e:Int × Int × Int):Prop:=
 ∀u v,Ends e u v->T.getD u 0=fr->((T.getD v 0:Nat):Int)≠back->¬cn ea eb (but (·∈R) e) (T.getD v 0) tg
theorem ends_one (s:St n R W T B) {e:Int × Int × Int} (he:e∈B) {u v u' v':Nat} (h:Ends e u v) (h':Ends e u' v') (hu:T.getD u 0=T.getD u' 0):u=u'/\v=v':=by
 have hbr:=(s.hB e).1 he;have hlt:=s.inn e hbr.1;have hnt:T.getD (ea e) 0≠T.getD (eb e) 0:=λ k=>br_not_tw hbr ((s.tw hlt.1 hlt.2).2 k)
 rcases h with ⟨rfl,rfl⟩ | ⟨rfl,rfl⟩ <;> rcases h' with ⟨rfl,rfl⟩ | ⟨rfl,rfl⟩
 ·exact ⟨rfl,rfl⟩
 ·exact absurd hu hnt
 ·exact absurd hu.symm hnt
 ·exact ⟨rfl,rfl⟩
theorem entry_edge (s:St n R W T B) (hd:Dis D B) {x c1 c2:Int} {y:DataW Unit × List MemPlace} (hy:y=(pairD c1 c2,[])) (hat:∀zd,D.atKey (.int .i64 x) zd=y.1):∃e∈B,e.1=x/\c1=(ea e:Nat)/\c2=(eb e:Nat):=by
 obtain ⟨e,he,hx⟩:=(hd.key x).1 (has_true_of_atKey hat);refine ⟨e,he,hx,?_⟩;have h1:=hd.val e he .nil;rw [hx,hat,hy] at h1;obtain ⟨h2,h3⟩:=pairD_inj h1;have hn:=s.nat e ((s.hB e).1 he).1;exact ⟨h2.trans hn.1,h3.trans hn.2⟩
theorem struck {left:Lit->Bool} {x z:Int} (h:(left (.int .i64 z)&&!(Lit.int .i64 z).sameKey (.int .i64 x))=false) (hne:z≠x):left (.int .i64 z)=false:=by
 rw [sameKey_ne (by simpa using hne)] at h
 simpa using h
def idsV (ds:List (Int × Int × Int)):List Value:=ds.map λ e=>.int .i64 e.1
def WayPost (R:List (Int × Int × Int)) (fr tg:Nat) (Z:Int × Int × Int->Prop) (k:Nat) (w:World) (e:Ending) (w':World):Prop:=
 Below w.heap.size w w'/\((cn ea eb Z fr tg/\∃v ds,e= .returned (.tuple #[v,.bool true])/\Way R fr tg ds/\ds.length<=k/\w'.ownsRow w.heap.size 3 1 v ds.length (idsV ds))\/(¬cn ea eb Z fr tg/\e= .returned (.tuple #[.slice none 0 0,.bool false])))
theorem grown_below {w w':World} (h:Below w.heap.size w w'):w.grownBy w' none:=⟨h.os,h.tape,h.output,h.size,λ k hk _=>h.block k hk⟩
theorem below_next {w w1 w2:World} {r:Nat} (h:Below w.heap.size w w1) (hr:w.heap.size<=r) (hg:w1.grownBy w2 (some r)):Below w.heap.size w w2:=
 h.grown hg h.size (λ j hj=>by cases hj;exact hr)
theorem way_step (k:Nat)
 (IH:∀k'<k,∀(fr tg:Nat) (back:Int) (Z:Int × Int × Int->Prop) (L:List (Int × Int × Int)) (w:World),BAt w p pw bw pt bt m N W T D->Hop R T fr back Z->Met R fr Z L->L.length<=k'->fr<n->T.getD fr 0=fr->tg<n->T.getD tg 0=tg->
   Calls Tryz.prog 230 #[.pointer (some ⟨p,0,none⟩),.int .i64 (fr:Int),.int .i64 (tg:Int),.int .i64 back] w (WayPost R fr tg Z k' w))
 (s:St n R W T B) (hd:Dis D B) (hk:k<=1000) (fr tg:Nat) (back:Int) (Z:Int × Int × Int->Prop) (L:List (Int × Int × Int)) (w:World) (h:BAt w p pw bw pt bt m N W T D) (hop:Hop R T fr back Z) (hmet:Met R fr Z L) (hL:L.length<=k) (hfr:fr<n) (hrep:T.getD fr 0=fr) (hto:tg<n) (hrept:T.getD tg 0=tg):
 Calls Tryz.prog 230 #[.pointer (some ⟨p,0,none⟩),.int .i64 (fr:Int),.int .i64 (tg:Int),.int .i64 back] w (WayPost R fr tg Z k w):=by
 have hc:=h.c2;have hown:=h.hm;have HW:Hid (∀w',Below w.heap.size w w'->BAt w' p pw bw pt bt m N W T D):=λ w' hb=>h.below hb
 have HS:Hid (St n R W T B):=s;have HD:Hid (Dis D B):=hd;have HOP:Hid (Hop R T fr back Z):=hop;have HMET:Hid (Met R fr Z L):=hmet;clear h s hd hop hmet;by_cases hft:fr=tg
 ·subst hft
  go_enter Tryz.func230,Tryz.ntmps230;go_wp2;go_ret2;exact ⟨Below.refl _ _,.inl ⟨cn_refl _,_,[],rfl,way_nil _,Nat.zero_le _,World.ownsRow_nil _ _ _ _⟩⟩
 ·have HFT:Hid (fr≠tg):=hft
  obtain ⟨i0,hi0,hz0,hz1,hz2⟩:=info_parts Tryz.info3;have hbq:((fr:Int)==(tg:Int))=false:=beq_eq_false_iff_ne.2 (by omega);go_enter Tryz.func230,Tryz.ntmps230;go_wp2_with (first
   | (at_range;refine wpList_range_own _ rfl _ 176 rfl 3 180 law3 Tryz.underlying176 pairR m N D rfl hown ?_;intro w0 hrg0 hg0 hs0)
   | fail)
  go_frame
  have HR0:Hid (w0.ranges Tryz.prog 3 pairR m w.heap.size N D (Maps.has D) (Maps.size D)):=hrg0;have HG0:Hid (Below w.heap.size w w0):=⟨hg0.os,hg0.tape,hg0.output,hg0.size,λ k hk=>hg0.block k hk (by simp)⟩;clear hrg0 hg0 hs0 hown hc;go_loopw [10] (λ _ wr=>∃(left:Lit->Bool) (cnt:Nat),wr.ranges Tryz.prog 3 pairR m w.heap.size N D left cnt/\(∀e∈B,left (.int .i64 e.1)=false->Nope R T fr tg back e)/\Below w.heap.size w wr) (λ _ wr=>wr.rangeLeft m w.heap.size)
  case atStart=>
   refine ⟨_,_,HR0.out,λ e he hl=>?_,HG0.out⟩;rw [(HD.out.key e.1).2 ⟨e,he,rfl⟩] at hl;cases hl
  case round=>
   obtain ⟨left,cnt,hrg,hno,hbl⟩:=hrel;have HRG:Hid (wr.ranges Tryz.prog 3 pairR m w.heap.size N D left cnt):=hrg;have HNO:Hid (∀e∈B,left (.int .i64 e.1)=false->Nope R T fr tg back e):=hno;have HBL:Hid (Below w.heap.size w wr):=hbl;clear hrg hno hbl HR0 HG0;go_wp2_with (first
    | (at_next;refine wpList_next_ranges _ rfl _ rfl 3 law3 pairR (Value.int .i64) (λ c:Int × Int=>.agg #[.int .i64 c.1,.int .i64 c.2]) (λ key kl hkey=>by obtain ⟨x,rfl,_⟩:=Maps.keyOf_int_inv Tryz.underlying3 hkey;exact ⟨x,rfl⟩) (λ v y hv=>by obtain ⟨c,rfl,_⟩:=pairR_inv hv;exact ⟨c,rfl⟩) m w.heap.size N D left cnt rfl HRG.out ?_ ?_)
    | fail)
   ·intro _ hl0
    have HL0:Hid (∀kl,left kl=false):=hl0;clear hl0;go_wp2;go_ret2;exact ⟨HBL.out,.inr ⟨hop_none HS.out HOP.out hfr hrep hto hrept HFT.out (λ e he=>HNO.out e he (HL0.out _)),rfl⟩⟩
   ·intro x c1 c2 kl y1 y2 w1 cnt1 hkey hlk hRv hat hrg1 hlt hg1 hs1 hen
    obtain ⟨x',hxe,rfl,_⟩:=Maps.keyOf_int_inv Tryz.underlying3 hkey;obtain rfl:x=x':=by injection hxe
    have hyy:(y1,y2)=(pairD c1 c2,[]):=by
     have:=hRv.symm.trans (pairR_mk c1 c2);injection this
    obtain ⟨e,he,hex,rfl,rfl⟩:=entry_edge HS.out HD.out hyy hat;have hlte:=HS.out.inn e ((HS.out.hB e).1 he).1;have HE:Hid (e∈B/\e.1=x):=⟨he,hex⟩;have HB1:Hid (Below w.heap.size w w1):=below_next HBL.out (Nat.le_refl _) hg1;have HR1:Hid (w1.ranges Tryz.prog 3 pairR m w.heap.size N D (λ z=>left z&&!z.sameKey (.int .i64 x)) cnt1/\cnt1<cnt):=⟨hrg1,hlt⟩;clear hkey hlk hRv hat hrg1 hlt hg1 hs1 hxe hyy he hex;obtain ⟨W1,hW1⟩:∃W1,W1=w1.alloc (.cells #[.int .i64 (ea e:Int),.int .i64 (eb e:Int)] 180):=⟨_,rfl⟩;have hbW:Below w1.heap.size w1 W1:=by rw [hW1];exact (Below.refl _ _).alloc (Nat.le_refl _) _
    have HB2:Hid (Below w.heap.size w W1):=HB1.out.trans (hbW.mono HB1.out.size);have HR2:Hid (∀w',Below W1.heap.size W1 w'->w'.ranges Tryz.prog 3 pairR m w.heap.size N D (λ z=>left z&&!z.sameKey (.int .i64 x)) cnt1):=λ w' hb=>
     (HR1.out.1.kept (grown_below hbW) (by simp) (by simp)).kept (grown_below hb) (by simp) (by simp)
    have HW1:Hid (w1.alloc (.cells #[.int .i64 (ea e:Int),.int .i64 (eb e:Int)] 180)=W1):=hW1.symm;have p0:W1.cell? ⟨w1.heap.size,0,none⟩=some (.int .i64 (ea e:Int)):=by rw [hW1];exact (box_two w1 _ _).1
    have p1:W1.cell? ⟨w1.heap.size,1,none⟩=some (.int .i64 (eb e:Int)):=by rw [hW1];exact (box_two w1 _ _).2
    clear hbW hW1;obtain ⟨nx,hacr,hnx⟩:=across_any (ea e) (eb e) fr W1 (HW.out _ HB2.out) HS.out.gt hlte.1 hlte.2;have HNX:Hid (nx= -1/\T.getD (ea e) 0≠fr/\T.getD (eb e) 0≠fr\/∃u v,(ea e=u/\eb e=v\/eb e=u/\ea e=v)/\T.getD u 0=fr/\nx=(T.getD v 0:Nat)):=hnx;have HAC:Hid _:=hacr;clear hacr hnx hlte;go_wp2_with fail;rw [HW1.out];refine Calls.mono HAC.out ?_;rintro e' w2 ⟨rfl,b2⟩;have HB3:Hid (Below w.heap.size w w2):=HB2.out.trans (b2.mono HB2.out.size);have HR3:Hid (w2.ranges Tryz.prog 3 pairR m w.heap.size N D (λ z=>left z&&!z.sameKey (.int .i64 x)) cnt1):=HR2.out w2 b2;clear b2 p0 p1 HR2 hen HAC;have HNN:Hid (Nope R T fr tg back e->∀d∈B,(left (.int .i64 d.1)&&!(Lit.int .i64 d.1).sameKey (.int .i64 x))=false->Nope R T fr tg back d):=λ hn d hd hl=>by
     by_cases hdx:d.1=x
     ·have:d=e:=HS.out.one d ((HS.out.hB d).1 hd).1 e ((HS.out.hB e).1 HE.out.1).1 (hdx.trans HE.out.2.symm)
      rw [this];exact hn
     ·exact HNO.out d hd (struck hl hdx)
    by_cases hm1:nx= -1
    ·as_aux_lemma=>
     subst hm1;have HNP:Hid (Nope R T fr tg back e):=by
      rcases HNX.out with ⟨_,h1,h2⟩ | ⟨u,v,_,_,h3⟩
      ·rintro u v (⟨rfl,rfl⟩ | ⟨rfl,rfl⟩) hu
       ·exact absurd hu h1
       ·exact absurd hu h2
      ·exfalso;omega
     go_wp2_with fail;go_roundw;case rel=>exact ⟨_,cnt1,HR3.out,HNN.out HNP.out,HB3.out⟩
     case measure=>rw [HR3.out.left_eq,HRG.out.left_eq];exact HR1.out.2
    ·obtain ⟨u,v,huv,hu,rfl⟩:∃u v,Ends e u v/\T.getD u 0=fr/\nx=(T.getD v 0:Nat):=by
      rcases HNX.out with ⟨h0,_⟩ | h
      ·exact absurd h0 hm1
      ·exact h
     have HUV:Hid (Ends e u v/\T.getD u 0=fr):=⟨huv,hu⟩;have HVL:Hid (v<n):=(huv.lt HS.out ((HS.out.hB e).1 HE.out.1).1).2;clear HNX huv hu;by_cases hbk:((T.getD v 0:Nat):Int)=back
     ·as_aux_lemma=>
      have HNP:Hid (Nope R T fr tg back e):=by
       intro u' v' h' hu' hv';have:=ends_one HS.out HE.out.1 h' HUV.out.1 (hu'.trans HUV.out.2.symm);exact absurd (by rw [this.2];exact hbk) hv'
      generalize T.getD v 0=X at*;have hq1:((X:Int)== -1)=false:=beq_eq_false_iff_ne.2 hm1;have hq2:((X:Int)==back)=true:=beq_iff_eq.2 hbk;clear hbk;go_wp2_with fail;go_roundw;case rel=>exact ⟨_,cnt1,HR3.out,HNN.out HNP.out,HB3.out⟩
      case measure=>rw [HR3.out.left_eq,HRG.out.left_eq];exact HR1.out.2
     ·obtain ⟨n1,n2,n3,n4⟩:=hop_next (tg:=tg) HS.out HOP.out HMET.out hfr hrep ((HS.out.hB e).1 HE.out.1) HUV.out.1 HUV.out.2 hbk
      have hlf:(L.filter λ d=>decide (d≠e)).length<L.length:=List.length_filter_lt_length_iff_exists.2 ⟨e,n2,by simp⟩;have hIH:=IH _ (Nat.lt_of_lt_of_le hlf hL) (T.getD v 0) tg fr _ _ w2 (HW.out _ HB3.out) n1 n3 (Nat.le_refl _) (HS.out.lab HVL.out) (HS.out.gt.idem v HVL.out) hto hrept;have HIH:Hid _:=hIH;have HN4:Hid (cn ea eb (but (·∈R) e) (T.getD v 0) tg->cn ea eb Z fr tg):=n4;have HLF:Hid ((L.filter λ d=>decide (d≠e)).length<k):=Nat.lt_of_lt_of_le hlf hL;clear hIH n1 n2 n3 n4 hlf;generalize hX:T.getD v 0=X at*;have HX:Hid (T.getD v 0=X):=hX;clear hX;have hq1:((X:Int)== -1)=false:=beq_eq_false_iff_ne.2 hm1;have hq2:((X:Int)==back)=false:=beq_eq_false_iff_ne.2 hbk;go_wp2_with fail;refine Calls.mono HIH.out ?_;rintro e' w3 ⟨b3,hpost⟩;have HB4:Hid (Below w.heap.size w w3):=HB3.out.trans (b3.mono HB3.out.size);have HR4:Hid (w3.ranges Tryz.prog 3 pairR m w.heap.size N D (λ z=>left z&&!z.sameKey (.int .i64 x)) cnt1):=HR3.out.kept (grown_below b3) (by simp) (by simp);have hw23:w.heap.size<=w2.heap.size:=HB3.out.size;clear b3 HIH;rcases hpost with ⟨hcn,v',ds,rfl,hway,hlen,hrow⟩ | ⟨hncn,rfl⟩
      ·as_aux_lemma=>
       have hrow':=ownsRow_base_a hrow hw23;have hsz:=HB4.out.size;have hdl:ds.length<1000:=by have:=HLF.out;omega
       have HCN:Hid (cn ea eb Z fr tg):=HN4.out hcn;have HWY:Hid (Way R fr tg (ds++[e])/\ds.length+1<=k):=⟨way_snoc HS.out hfr hrep ((HS.out.hB e).1 HE.out.1) HUV.out.1 HUV.out.2 (by rw [HX.out];exact hcn) (by rw [HX.out];exact hway),by have:=HLF.out;omega⟩;have HLT:=hrow'.lt;clear hcn hway hlen hrow HN4 HLF;go_wp2_with (first
        | (at_builtin;refine wpList_append_own_at _ rfl _ _ 48 rfl w.heap.size 3 i0 (.int .i64 0) 1 8 Tryz.underlying48 hi0 hz0 hz1 hz2 rfl (by decide) v' _ _ rfl (hrow'.alloc _) ⟨w3.heap.size,0,none⟩ 1 1 [.int .i64 x] rfl rfl (cell_one_new _ _ _) (ints_oneCell .i64 [x]) (by unfold maxLen;omega) (by omega) (by simp;omega) ?_;intro v'' w4 hown' hgrow hnil hloc)
        | fail)
       go_ret2;refine ⟨HB4.out.grown ((World.grownBy_alloc w3 _ _).trans hgrow) hsz (λ j hj=>(HLT j hj).1),.inl ⟨HCN.out,v'',ds++[e],rfl,HWY.out.1,by simpa using HWY.out.2,?_⟩⟩;have hex:=HE.out.2;subst hex
       simpa [idsV] using hown'
      ·as_aux_lemma=>
       have HNP:Hid (Nope R T fr tg back e):=by
        intro u' v' h' hu' _;have:=ends_one HS.out HE.out.1 h' HUV.out.1 (hu'.trans HUV.out.2.symm);rw [this.2,HX.out];exact hncn
       clear hncn;go_wp2_with fail;go_roundw;case rel=>exact ⟨_,cnt1,HR4.out,HNN.out HNP.out,HB4.out⟩
       case measure=>rw [HR4.out.left_eq,HRG.out.left_eq];exact HR1.out.2
theorem way_any (k:Nat) (s:St n R W T B) (hd:Dis D B) (hk:k<=1000):∀(fr tg:Nat) (back:Int) (Z:Int × Int × Int->Prop) (L:List (Int × Int × Int)) (w:World),BAt w p pw bw pt bt m N W T D->Hop R T fr back Z->Met R fr Z L->L.length<=k->fr<n->T.getD fr 0=fr->tg<n->T.getD tg 0=tg->
 Calls Tryz.prog 230 #[.pointer (some ⟨p,0,none⟩),.int .i64 (fr:Int),.int .i64 (tg:Int),.int .i64 back] w (WayPost R fr tg Z k w):=by
 induction k using Nat.strongRecOn with
 | _ k ih=>
   intro fr tg back Z L w h1 h2 h3 h4 h5 h6 h7 h8;exact way_step k (λ k' hk' fr tg back Z L w a b c d e f g i=>ih k' hk' (by omega) fr tg back Z L w a b c d e f g i) s hd hk fr tg back Z L w h1 h2 h3 h4 h5 h6 h7 h8
end Go.Proofs.YtebcjaenhiiflaaGreatDoor.S
namespace Go.Proofs.YtebcjaenhiiflaaGreatDoor.S
open Go.RowKit Go.WideMaps Go.Maps
variable {p pw bw pt bt m N n:Nat} {R B:List (Int × Int × Int)} {W T:List Nat} {D:DataW Unit}
structure Bk (bw bt m:Nat) (w w':World):Prop where
 os:w'.os=w.os
 tape:w'.tape=w.tape
 output:w'.output=w.output
 size:w.heap.size<=w'.heap.size
 block:∀k,k<w.heap.size->k≠bw->k≠bt->k≠m->w'.heap[k]? =w.heap[k]?
theorem Bk.refl (w:World):Bk bw bt m w w:=⟨rfl,rfl,rfl,Nat.le_refl _,λ _ _ _ _ _=>rfl⟩
theorem Bk.of_below {w w':World} (h:Below w.heap.size w w'):Bk bw bt m w w':=⟨h.os,h.tape,h.output,h.size,λ k hk _ _ _=>h.block k hk⟩
theorem Bk.of_w {w w':World} (h:But bw w w'):Bk bw bt m w w':=⟨h.os,h.tape,h.output,h.size,λ k hk h1 _ _=>h.block k hk h1⟩
theorem Bk.of_t {w w':World} (h:But bt w w'):Bk bw bt m w w':=⟨h.os,h.tape,h.output,h.size,λ k hk _ h1 _=>h.block k hk h1⟩
theorem Bk.of_m {w w':World} (h:w.grownBy w' (some m)):Bk bw bt m w w':=⟨h.os,h.tape,h.output,h.size,λ k hk _ _ h1=>h.block k hk (by simpa using h1)⟩
theorem Bk.trans {x y z:World} (h:Bk bw bt m x y) (k:Bk bw bt m y z):Bk bw bt m x z:=
 ⟨k.os.trans h.os,k.tape.trans h.tape,k.output.trans h.output,Nat.le_trans h.size k.size,λ i hi h1 h2 h3=>(k.block i (Nat.lt_of_lt_of_le hi h.size) h1 h2 h3).trans (h.block i hi h1 h2 h3)⟩
theorem Bk.cell {w w':World} (h:Bk bw bt m w w') {g i:Nat} {v:Value} (hg:w.cell? ⟨g,i,none⟩=some v) (h1:g≠bw) (h2:g≠bt) (h3:g≠m):w'.cell? ⟨g,i,none⟩=some v:=by
 have hl:=lt_of_cell hg;simp only [World.cell?] at hg ⊢;rw [h.block g hl h1 h2 h3];exact hg
theorem joins_append:∀(a b:List (Int × Int × Int)) (L:List Nat),joins L (a++b)=joins (joins L a) b
 | [],_,_=>rfl
 | x::a,b,L=>by
   show joins (joinL L (ea x) (eb x)) (a++b)=_;rw [joins_append a b];rfl
theorem zero180 (w:World):(zeroValue 180).run Tryz.prog w= .ok (pairV 0 0) w:=by kernel_rfl
theorem look_pair {w:World} (h:BAt w p pw bw pt bt m N W T D) (hd:Dis D B) {e:Int × Int × Int} (he:e∈B) (hw:(Lit.int .i64 e.1).wf=true) (hn:e.2.1=(ea e:Int)/\e.2.2=(eb e:Int)):
 (Instr.lookup 176 (.map (some m)) (.int .i64 e.1) false).run Tryz.prog w= .ok (.agg #[.int .i64 (ea e:Int),.int .i64 (eb e:Int)]) w:=by
 obtain ⟨v,ps,hrun,hR⟩:=h.hm.lookup law3 Tryz.underlying176 (zero180 w) (pairR_mk 0 0) (key3 e.1 hw);rw [hd.val e he] at hR;obtain ⟨c,rfl,hc⟩:=pairR_inv hR;have h1:pairD e.2.1 e.2.2=pairD c.1 c.2:=by injection hc
 obtain ⟨h2,h3⟩:=pairD_inj h1;rw [hrun,<-h2,<-h3,hn.1,hn.2];rfl
theorem field35a (a b:Int) (w:World):(Instr.field 180 (.agg #[.int .i64 a,.int .i64 b]) 0).run Tryz.prog w= .ok (.int .i64 a) w:=by kernel_rfl
theorem field35b (a b:Int) (w:World):(Instr.field 180 (.agg #[.int .i64 a,.int .i64 b]) 1).run Tryz.prog w= .ok (.int .i64 b) w:=by kernel_rfl
theorem ids_shape {w:World} {base:Nat} {v:Value} {ds:List (Int × Int × Int)} (h:w.ownsRow base 3 1 v ds.length (idsV ds)):∃a cap,v= .slice a ds.length cap/\(0<ds.length->∃g,a=some ⟨g,0,none⟩/\base<=g/\g<w.heap.size/\∀j e,ds[j]? =some e->w.cell? ⟨g,j,none⟩=some (.int .i64 e.1)):=by
 have h0:=h;rcases h.2 with ⟨rfl,hz⟩ | ⟨g,cap,cur,rfl,hb,hg,_⟩
 ·exact ⟨none,0,by rw [hz],λ k=>by omega⟩
 ·refine ⟨_,cap,rfl,λ _=>⟨g,rfl,hb,lt_of_some hg,λ j e hj=>?_⟩⟩
  rw [h0.cellAt j (by have:=(List.getElem?_eq_some_iff.1 hj).1;omega)];simp [idsV,hj]
theorem filter_step {B ds:List (Int × Int × Int)} {j:Nat} {e:Int × Int × Int} (hj:ds[j]? =some e) (d:Int × Int × Int):d∈B.filter (λ d=>decide (d∉ds.take (j+1)))↔d∈B.filter (λ d=>decide (d∉ds.take j))/\d≠e:=by
 have ht:ds.take (j+1)=ds.take j++[e]:=by rw [List.take_add_one,hj];rfl
 simp only [List.mem_filter,decide_eq_true_eq,ht,List.mem_append,List.mem_singleton,not_or];exact ⟨λ h=>⟨⟨h.1,h.2.1⟩,h.2.2⟩,λ h=>⟨h.1.1,h.1.2,h.2⟩⟩
theorem nodup_take {ds:List (Int × Int × Int)} (h:ds.Nodup) {j:Nat} {e:Int × Int × Int} (hj:ds[j]? =some e):e∉ds.take j:=by
 intro hm;obtain ⟨i,hi,he⟩:=List.mem_iff_getElem.1 hm;obtain ⟨hl,hje⟩:=List.getElem?_eq_some_iff.1 hj;have hi':i<j:=by simp at hi;omega
 rw [List.getElem_take] at he;exact (List.pairwise_iff_getElem.1 h i j (by omega) hl hi') (by rw [he,hje])
theorem close_ring (x y:Nat) (w:World) (h:BAt w p pw bw pt bt m N W T D) (s:St n R W T B) (hd:Dis D B) (hB:B.length<=1000) (hn:n<=40) (hx:x<n) (hy:y<n) (hc:cnR R x y) (hid:∀e∈R,(Lit.int .i64 e.1).wf=true):
 Calls Tryz.prog 118 #[.pointer (some ⟨p,0,none⟩),.int .i64 (x:Int),.int .i64 (y:Int)] w λ e w'=>e= .returned (.tuple #[])/\∃ds D',(∀e,e∈ds↔sepR R x y e)/\BAt w' p pw bw pt bt m N W (joins T ds) D'/\Dis D' (B.filter λ e=>decide (e∉ds))/\Bk bw bt m w w':=by
 have hplt:=h.plt;have hblt:bw<w.heap.size/\bt<w.heap.size/\m<w.heap.size:=⟨h.sw.blt,h.st.blt,h.hm.lt⟩;have HW:Hid (∀w',Below w.heap.size w w'->BAt w' p pw bw pt bt m N W T D):=λ w' hb=>h.below hb
 obtain ⟨X,hX⟩:∃X,T.getD x 0=X:=⟨_,rfl⟩;obtain ⟨Y,hY⟩:∃Y,T.getD y 0=Y:=⟨_,rfl⟩;have hXn:X<n:=by rw [<-hX];exact s.lab hx
 have hYn:Y<n:=by rw [<-hY];exact s.lab hy
 have HX:Hid (T.getD x 0=X/\T.getD X 0=X):=⟨hX,by rw [<-hX];exact s.gt.idem x hx⟩;have HY:Hid (T.getD y 0=Y/\T.getD Y 0=Y):=⟨hY,by rw [<-hY];exact s.gt.idem y hy⟩;have HC:Hid (cnR R X Y):=by
  show cnR R X Y;rw [<-hX,<-hY];exact cn_trans (cn_symm (s.rep hx).1) (cn_trans hc (s.rep hy).1)
 have HS:Hid (St n R W T B):=s;have HD:Hid (Dis D B):=hd;have HID:Hid (∀e∈R,(Lit.int .i64 e.1).wf=true):=hid;clear h s hd hX hY hc hid;go_enter Tryz.func118,Tryz.ntmps118;go_wp2_with fail;refine (part_n x w (HW.out w (Below.refl _ _)) HS.out.gt hx HX.out.1).mono ?_;rintro e w1 ⟨rfl,b1⟩;have B1:Hid (Below w.heap.size w w1):=b1;clear b1;go_wp2_with fail;refine (part_n y w1 (HW.out w1 B1.out) HS.out.gt hy HY.out.1).mono ?_;rintro e w2 ⟨rfl,b2⟩;have B2:Hid (Below w.heap.size w w2):=B1.out.trans (b2.mono B1.out.size);clear b2 B1;go_wp2_with fail;refine (way_any 1000 HS.out HD.out (Nat.le_refl _) X Y (-1) (·∈R) B w2 (HW.out w2 B2.out) (.inl ⟨rfl,rfl⟩) (λ d hd _ _=>(HS.out.hB d).2 hd) hB hXn HX.out.2 hYn HY.out.2).mono ?_;rintro e w3 ⟨b3,hpost⟩;rcases hpost with ⟨_,v,ds,rfl,hway,hlen,hrow⟩ | ⟨hno,_⟩
 case inr=>exact absurd HC.out hno
 obtain ⟨av,cap,rfl,hav⟩:=ids_shape hrow;have B3:Hid (Below w.heap.size w w3):=B2.out.trans (b3.mono B2.out.size);have hw2:=B2.out.size;have HAV:Hid (0<ds.length->∃g,av=some ⟨g,0,none⟩/\w.heap.size<=g/\g<w3.heap.size/\∀j e,ds[j]? =some e->w3.cell? ⟨g,j,none⟩=some (.int .i64 e.1)):=λ hl=>by
  obtain ⟨g,h1,h2,h3,h4⟩:=hav hl;exact ⟨g,h1,by omega,h3,h4⟩
 have HWY:Hid (ds.Nodup/\∀e,e∈ds↔sepR R x y e):=⟨hway.1,Way.ends HS.out hx hy (by rw [HX.out.1,HY.out.1];exact hway)⟩;have HWB:Hid (∀e∈ds,e∈B):=Way.mem_B HS.out HC.out hway;obtain ⟨len,hlen'⟩:∃len,ds.length=len:=⟨_,rfl⟩;have HLEN:Hid (ds.length=len):=hlen';rw [hlen'] at hlen ⊢;clear hav hrow hway b3 B2 hw2 hlen';go_wp2_with fail;go_loopw [9,23] (λ _ s23 wq=>∃j:Nat,j<=len/\s23= .int .i64 j/\∃Dj,BAt wq p pw bw pt bt m N W (joins T (ds.take j)) Dj/\Dis Dj (B.filter λ e=>decide (e∉ds.take j))/\Bk bw bt m w3 wq) (λ _ s23 _=>len-(intOf s23).toNat)
 case atStart=>
  refine ⟨0,Nat.zero_le _,rfl,D,by simpa [joins] using HW.out w3 B3.out,?_,Bk.refl _⟩;have:(B.filter λ e=>decide (e∉ds.take 0))=B:=by simp
  rw [this];exact HD.out
 case round=>
  obtain ⟨j,hj,rfl,Dj,hbj,hdj,hkj⟩:=hrel;by_cases hlt:j<len
  ·obtain ⟨e,he⟩:∃e,ds[j]? =some e:=⟨_,List.getElem?_eq_getElem (by rw [HLEN.out];exact hlt)⟩
   obtain ⟨g,rfl,hg1,hg2,hg3⟩:=HAV.out (by rw [HLEN.out];omega);have hcell:wr.cell? ⟨g,j,none⟩=some (.int .i64 e.1):=hkj.cell (hg3 j e he) (by omega) (by omega) (by omega);have heB:=HWB.out e (List.mem_of_getElem? he);have heR:=((HS.out.hB e).1 heB).1;have hinn:=HS.out.inn e heR;have heF:e∈B.filter λ e=>decide (e∉ds.take j):=List.mem_filter.2 ⟨heB,by simpa using nodup_take HWY.out.1 he⟩
   have hgood:Good n (joins T (ds.take j)):=good_joins _ T HS.out.gt (λ d hd=>HS.out.inn d ((HS.out.hB d).1 (HWB.out d (List.mem_of_mem_take hd))).1);have HJ:Hid (joins T (ds.take (j+1))=joinL (joins T (ds.take j)) (ea e) (eb e)):=by
    show joins T (ds.take (j+1))=_;rw [List.take_add_one,he];exact joins_append _ _ _
   have HDD:Hid (Dis (Dj.del (.int .i64 e.1)) (B.filter λ e=>decide (e∉ds.take (j+1)))):=
    hdj.del e (λ d hd hde=>HS.out.one d ((HS.out.hB d).1 (List.mem_filter.1 hd).1).1 e heR hde) (filter_step he)
   obtain ⟨J,hJ⟩:∃J,J=joins T (ds.take j):=⟨_,rfl⟩;rw [<-hJ] at hbj hgood;have HJ':Hid (joins T (ds.take (j+1))=joinL J (ea e) (eb e)):=by
    show joins T (ds.take (j+1))=joinL J (ea e) (eb e);rw [hJ];exact HJ.out
   have HLK:Hid (∀{W' T':List Nat} {w':World},BAt w' p pw bw pt bt m N W' T' Dj->(Instr.lookup 176 (.map (some m)) (.int .i64 e.1) false).run Tryz.prog w'= .ok (.agg #[.int .i64 (ea e:Int),.int .i64 (eb e:Int)]) w'):=λ hb=>look_pair hb hdj heF (HID.out e heR) (HS.out.nat e heR)
   have hkey:=key3 e.1 (HID.out e heR);have HKEY:Hid (keyOf Tryz.prog 3 (.int .i64 e.1)=some (.int .i64 e.1)):=hkey;have HBJ:Hid (BAt wr p pw bw pt bt m N W J Dj):=hbj;have HKJ:Hid (Bk bw bt m w3 wr):=hkj;have hlk:=HLK.out hbj.drew;have hc1:wr.drew.cell? ⟨p,1,none⟩=some (.pointer (some ⟨pt,0,none⟩)):=hbj.drew.c1;have hc2:wr.drew.cell? ⟨p,2,none⟩=some (.map (some m)):=hbj.drew.c2;have hA:ea e<J.length:=by rw [hgood.len];exact hinn.1
   have hBn:eb e<J.length:=by rw [hgood.len];exact hinn.2
   have hJl:J.length<=40:=by rw [hgood.len];exact hn
   clear hJ HJ hg3 heB heR hinn heF hgood hbj hdj hkj hkey;generalize e.1=x0 at*;generalize ea e=A at*;generalize eb e=E at*;generalize hok:decide (J.getD A 0≠J.getD E 0)=ok;have HOK:Hid (decide (J.getD A 0≠J.getD E 0)=ok):=hok;clear hok he;have hfa:=field35a (A:Int) (E:Int);have hfb:=field35b (A:Int) (E:Int);go_upto_region 4 with fail
   go_region_held (λ w'=>w'.cell? ⟨p,1,none⟩=some (.pointer (some ⟨pt,0,none⟩))/\w'.cell? ⟨p,2,none⟩=some (.map (some m))/\(Instr.lookup 176 (.map (some m)) (.int .i64 x0) false).run Tryz.prog w'= .ok (.agg #[.int .i64 (A:Int),.int .i64 (E:Int)]) w') (exact ⟨by assumption,by assumption,by assumption⟩)
    (first | (go_at_call 119;refine (join_nm A E pt bt J ok _ (by exact HBJ.out.drew.st) hA hBn hJl HOK.out).mono ?_;rintro e w4 ⟨rfl,hsj,hbt⟩;have hb4:=HBJ.out.drew.joinT hsj hbt;have d1:=hb4.c1;have d2:=hb4.c2;have d3:=HLK.out hb4))
   all_goals
    have hown:=hb4.hm;have HB4:Hid (BAt w4 p pw bw pt bt m N W (joinL J A E) Dj):=hb4;have HBT:Hid (Bk bw bt m wr w4):=(Bk.of_below ((Below.refl _ _).drew)).trans (Bk.of_t hbt);clear hb4 hbt hsj d3 hlk hfa hfb hc1 hc2 d1;go_wp2_with (first
     | (at_delete;refine wpList_delete_own _ rfl _ _ 176 3 rfl 180 law3 Tryz.underlying176 _ m N Dj rfl hown _ _ rfl HKEY.out ?_;intro w5 hown5 hturn5;go_frame)
     | fail)
    have hgm:=hturn5.grown;have hb5:=HB4.out.mapped hown5 hgm;rw [<-HJ'.out] at hb5;go_roundw;case rel=>exact ⟨j+1,by omega,by go_num,_,hb5,HDD.out,(HKJ.out.trans HBT.out).trans (Bk.of_m hgm)⟩
    case measure=>simp [intOf];omega
  ·have hje:j=len:=by omega
   subst hje;have HF:Hid (BAt wr p pw bw pt bt m N W (joins T ds) Dj/\Dis Dj (B.filter λ e=>decide (e∉ds))/\Bk bw bt m w wr):=by
    have ht:ds.take j=ds:=by rw [<-HLEN.out];exact List.take_length
    rw [ht] at hbj hdj;exact ⟨hbj,hdj,(Bk.of_below B3.out).trans hkj⟩
   clear hbj hdj hkj;go_wp2_with fail
   go_end0
   exact ⟨rfl,ds,Dj,HWY.out.2,HF.out.1,HF.out.2.1,HF.out.2.2⟩
end Go.Proofs.YtebcjaenhiiflaaGreatDoor.S
namespace Go.Proofs.YtebcjaenhiiflaaGreatDoor.S
open Go.RowKit Go.WideMaps Go.Maps
variable {p pw bw pt bt m N n:Nat} {R B:List (Int × Int × Int)} {W T:List Nat} {D:DataW Unit}
theorem joinL_comm (L:List Nat) (x y:Nat):joinL L x y=joinL L y x:=by
 unfold joinL;rw [Nat.min_comm,Nat.max_comm]
def edge (i:Int) (x y:Nat):Int × Int × Int:=(i,((min x y:Nat):Int),((max x y:Nat):Int))
theorem edge_nat (i:Int) (x y:Nat):(edge i x y).2.1=(ea (edge i x y):Int)/\(edge i x y).2.2=(eb (edge i x y):Int):=by simp [edge,ea,eb]
theorem edge_ends (i:Int) (x y:Nat):ea (edge i x y)=min x y/\eb (edge i x y)=max x y:=by
 unfold edge ea eb;exact ⟨by simp,by simp⟩
theorem edge_or (i:Int) (x y:Nat):(ea (edge i x y)=x/\eb (edge i x y)=y)\/(ea (edge i x y)=y/\eb (edge i x y)=x):=by
 obtain ⟨h1,h2⟩:=edge_ends i x y;rw [h1,h2];omega
theorem sep_comm {R:List (Int × Int × Int)} {x y:Nat} (e:Int × Int × Int):sepR R x y e↔sepR R y x e:=
 ⟨λ h=>⟨h.1,λ k=>h.2 (cn_symm k)⟩,λ h=>⟨h.1,λ k=>h.2 (cn_symm k)⟩⟩
structure Now (w:World) (p pw bw pt bt m N n:Nat) (R B:List (Int × Int × Int)) (W T:List Nat) (D:DataW Unit):Prop where
 at_:BAt w p pw bw pt bt m N W T D
 st:St n R W T B
 dis:Dis D B
theorem Now.below {w w':World} (h:Now w p pw bw pt bt m N n R B W T D) (hb:Below w.heap.size w w'):Now w' p pw bw pt bt m N n R B W T D:=⟨h.at_.below hb,h.st,h.dis⟩
def AddPost (w:World) (p pw bw pt bt m N n:Nat) (R B:List (Int × Int × Int)) (i:Int) (x y:Nat) (e:Ending) (w':World):Prop:=
 ∃ok W' T' D' B' N',e= .returned (.tuple #[.bool ok,.nilIface])/\Now w' p pw bw pt bt m N' n (R++[edge i x y]) B' W' T' D'/\B'.length<=B.length+1/\N'<=N+1/\Bk bw bt m w w'/\(ok=true↔edge i x y∈B')
theorem apart_now {w w':World} {D':DataW Unit} {N':Nat} (h:Now w p pw bw pt bt m N n R B W T D) (i:Int) {x y:Nat} (hx:x<n) (hy:y<n) (hone:∀e∈R,e.1≠i) (hne:W.getD x 0≠W.getD y 0)
 (hb:BAt w' p pw bw pt bt m N' (joinL W x y) T D') (hD:D'=D.put (.int .i64 i) (pairD ((min x y:Nat):Int) ((max x y:Nat):Int))):
 Now w' p pw bw pt bt m N' n (R++[edge i x y]) (B++[edge i x y]) (joinL W x y) T D':=by
 obtain ⟨h1,h2⟩:=edge_ends i x y;have hmn:min x y<n:=by omega
 have hmx:max x y<n:=by omega
 have hj:joinL W (ea (edge i x y)) (eb (edge i x y))=joinL W x y:=by
  rcases edge_or i x y with ⟨a,b⟩ | ⟨a,b⟩ <;> rw [a,b]
  exact joinL_comm _ _ _
 have hs:=h.st.apart (edge i x y) (by rw [h1];exact hmn) (by rw [h2];exact hmx) (edge_nat i x y) hone (by
  rcases edge_or i x y with ⟨a,b⟩ | ⟨a,b⟩ <;> rw [a,b]
  ·exact hne
  ·exact hne.symm)
 rw [hj] at hs;refine ⟨hb,hs,?_⟩;rw [hD];exact h.dis.put h.at_.hm.isMap (edge i x y) (λ e he=>hone e ((h.st.hB e).1 he).1)
theorem within_now {w w':World} {D':DataW Unit} {ds:List (Int × Int × Int)} (h:Now w p pw bw pt bt m N n R B W T D) (i:Int) {x y:Nat} (hx:x<n) (hy:y<n) (hone:∀e∈R,e.1≠i) (he:W.getD x 0=W.getD y 0)
 (hds:∀e,e∈ds↔sepR R x y e) (hb:BAt w' p pw bw pt bt m N W (joins T ds) D') (hd:Dis D' (B.filter λ e=>decide (e∉ds))):
 Now w' p pw bw pt bt m N n (R++[edge i x y]) (B.filter λ e=>decide (e∉ds)) W (joins T ds) D':=by
 obtain ⟨h1,h2⟩:=edge_ends i x y;refine ⟨hb,h.st.within (edge i x y) (by rw [h1];omega) (by rw [h2];omega) (edge_nat i x y) hone ?_ ?_ (λ e=>by simp [List.mem_filter]),hd⟩
 ·rcases edge_or i x y with ⟨a,b⟩ | ⟨a,b⟩ <;> rw [a,b]
  ·exact he
  ·exact he.symm
 ·intro e
  rw [hds];rcases edge_or i x y with ⟨a,b⟩ | ⟨a,b⟩ <;> rw [a,b]
  exact sep_comm e
theorem badd_apart (i:Int) (x y:Nat) (w:World) (h:Now w p pw bw pt bt m N n R B W T D) (hx:x<n) (hy:y<n) (hn:n<=40) (hN:N<=1000) (hne:W.getD x 0≠W.getD y 0) (hone:∀e∈R,e.1≠i) (hwf:(Lit.int .i64 i).wf=true):
 Calls Tryz.prog 57 #[.pointer (some ⟨p,0,none⟩),.int .i64 i,.int .i64 (x:Int),.int .i64 (y:Int)] w (AddPost w p pw bw pt bt m N n R B i x y):=by
 have hxy:((x:Int)==(y:Int))=false:=beq_eq_false_iff_ne.2 (λ e=>hne (by rw [Int.ofNat_inj.1 e]));have hWl:=h.st.gw.len;have HH:Hid (Now w p pw bw pt bt m N n R B W T D):=h;have HNE:Hid (W.getD x 0≠W.getD y 0):=hne;have HONE:Hid (∀e∈R,e.1≠i):=hone;have HKEY:Hid (keyOf Tryz.prog 3 (.int .i64 i)=some (.int .i64 i)):=key3 i hwf;have hlt:=h.at_.plt;clear h hne hone;go_enter Tryz.func57,Tryz.ntmps57;go_wp2_with fail;refine (whole_in x y false w HH.out.at_ (by omega) (by omega) (beq_eq_false_iff_ne.2 (λ e=>HNE.out (Int.ofNat_inj.1 e)))).mono ?_;rintro e w1 ⟨rfl,b1⟩;have hb1:=HH.out.at_.below b1;have HB1:Hid (BAt w1 p pw bw pt bt m N W T D):=hb1;have B1:Hid (Below w.heap.size w w1):=b1;have hc0:=hb1.c0;clear b1 hb1;go_wp2_with fail;refine (join_nm x y pw bw W true w1 HB1.out.sw (by omega) (by omega) (by omega) (decide_eq_true HNE.out)).mono ?_;rintro e w2 ⟨rfl,hs2,k2⟩;have hb2:=HB1.out.joinW hs2 k2;have HB2:Hid (BAt w2 p pw bw pt bt m N (joinL W x y) T D):=hb2;have K2:Hid (Bk bw bt m w w2):=(Bk.of_below B1.out).trans (Bk.of_w k2);have hown:=hb2.hm;have hc2:=hb2.c2;clear hb2 hs2 k2 hc0;go_wp2_with (first
  | (at_mapUpdate;refine wpList_mapUpdate_own _ rfl _ _ _ 176 rfl 3 180 law3 Tryz.underlying176 pairR m N D rfl hown (by unfold maxLen;omega) _ _ _ rfl rfl HKEY.out _ [] (pairR_mk _ _) ?_;intro w5 hown5 hgrow5)
  | fail)
 go_ret2;refine ⟨true,_,_,_,_,_,rfl,apart_now HH.out i hx hy HONE.out HNE.out (HB2.out.mapped hown5 hgrow5) ?_,by simp,Nat.le_refl _,K2.out.trans (Bk.of_m hgrow5),by simp⟩;have e1:((min x y:Nat):Int)=min (x:Int) (y:Int):=by omega
 have e2:((max x y:Nat):Int)=max (x:Int) (y:Int):=by omega
 rw [e1,e2]
theorem badd_within (i:Int) (x y:Nat) (w:World) (h:Now w p pw bw pt bt m N n R B W T D) (hx:x<n) (hy:y<n) (hxy:x≠y) (hn:n<=40) (hB:B.length<=1000) (he:W.getD x 0=W.getD y 0) (hone:∀e∈R,e.1≠i) (hid:∀e∈R,(Lit.int .i64 e.1).wf=true):
 Calls Tryz.prog 57 #[.pointer (some ⟨p,0,none⟩),.int .i64 i,.int .i64 (x:Int),.int .i64 (y:Int)] w (AddPost w p pw bw pt bt m N n R B i x y):=by
 have hxy':((x:Int)==(y:Int))=false:=beq_eq_false_iff_ne.2 (λ e=>hxy (Int.ofNat_inj.1 e));have hWl:=h.st.gw.len;have HH:Hid (Now w p pw bw pt bt m N n R B W T D):=h;have HE:Hid (W.getD x 0=W.getD y 0):=he;have HONE:Hid (∀e∈R,e.1≠i):=hone;have HID:Hid (∀e∈R,(Lit.int .i64 e.1).wf=true):=hid;clear h he hone hid;go_enter Tryz.func57,Tryz.ntmps57;go_wp2_with fail;refine (whole_in x y true w HH.out.at_ (by omega) (by omega) (by rw [HE.out];simp)).mono ?_;rintro e w1 ⟨rfl,b1⟩;have HB1:Hid (BAt w1 p pw bw pt bt m N W T D):=HH.out.at_.below b1;have B1:Hid (Below w.heap.size w w1):=b1;clear b1;go_wp2_with fail;refine (close_ring x y w1 HB1.out HH.out.st HH.out.dis hB hn hx hy ((HH.out.st.hW x y).1 ((Lk.iff hx hy).2 HE.out)) HID.out).mono ?_;rintro e w2 ⟨rfl,ds,D',hds,hb2,hd2,k2⟩;have HX:Hid (Now w2 p pw bw pt bt m N n (R++[edge i x y]) (B.filter λ e=>decide (e∉ds)) W (joins T ds) D'/\Bk bw bt m w w2):=⟨within_now HH.out i hx hy HONE.out HE.out hds hb2 hd2,(Bk.of_below B1.out).trans k2⟩;clear hds hb2 hd2 k2;go_wp2;go_ret2;refine ⟨false,_,_,_,_,_,rfl,HX.out.1,?_,Nat.le_succ _,HX.out.2,?_⟩
 ·have:=List.length_filter_le (λ e=>decide (e∉ds)) B
  omega
 ·refine ⟨λ k=>absurd k (by simp),λ k=>?_⟩
  have h1:=(HH.out.st.hB _).1 (List.mem_filter.1 k).1;exact absurd rfl (HONE.out _ h1.1)
theorem badd_in (i:Int) (x y:Nat) (w:World) (h:Now w p pw bw pt bt m N n R B W T D) (hx:x<n) (hy:y<n) (hxy:x≠y) (hn:n<=40) (hN:N<=1000) (hB:B.length<=1000) (hone:∀e∈R,e.1≠i) (hwf:(Lit.int .i64 i).wf=true) (hid:∀e∈R,(Lit.int .i64 e.1).wf=true):
 Calls Tryz.prog 57 #[.pointer (some ⟨p,0,none⟩),.int .i64 i,.int .i64 (x:Int),.int .i64 (y:Int)] w (AddPost w p pw bw pt bt m N n R B i x y):=by
 by_cases he:W.getD x 0=W.getD y 0
 ·exact badd_within i x y w h hx hy hxy hn hB he hone hid
 ·exact badd_apart i x y w h hx hy hn hN he hone hwf
end Go.Proofs.YtebcjaenhiiflaaGreatDoor.S
namespace Go.Proofs.YtebcjaenhiiflaaGreatDoor.S
open Go.RowKit Go.WideMaps Go.Maps
theorem list_eq_of_getD {n:Nat} {A B:List Nat} (ha:A.length=n) (hb:B.length=n) (h:∀i,i<n->A.getD i 0=B.getD i 0):A=B:=by
 apply List.ext_getElem
 ·omega
 ·intro i h1 h2
  have:=h i (by omega)
  simpa [h1,h2] using this
variable {n:Nat} {R B:List (Int × Int × Int)} {W T:List Nat}
theorem good_eq {L M:List Nat} (g:Good n L) (h:Good n M) (e:∀u v,Lk n L u v↔Lk n M u v):L=M:=by
 have key:∀{L M:List Nat},Good n L->Good n M->(∀u v,Lk n L u v↔Lk n M u v)->∀i,i<n->M.getD i 0<=L.getD i 0:=by
  intro L M g h e i hi;have hl:L.getD i 0<n:=Nat.lt_of_le_of_lt (g.le i hi) hi;have h1:Lk n L (L.getD i 0) i:=(Lk.iff hl hi).2 (g.idem i hi);have h2:=(Lk.iff hl hi).1 ((e _ _).1 h1);rw [<-h2];exact h.le _ hl
 refine list_eq_of_getD g.len h.len (λ i hi=>?_);have h1:=key g h e i hi;have h2:=key h g (λ u v=>(e u v).symm) i hi;omega
def brs (R B:List (Int × Int × Int)):List (Int × Int × Int):=R.filter λ e=>decide (e∈B)
theorem mem_brs (s:St n R W T B) (e:Int × Int × Int):e∈brs R B↔brR R e:=by
 unfold brs;rw [List.mem_filter,decide_eq_true_eq,s.hB];exact ⟨λ h=>h.2,λ h=>⟨h.1,h⟩⟩
def Unl (R:List (Int × Int × Int)):Prop:=R.Pairwise λ x y=>x.1≠y.1
theorem idsOf_nodup (h:Unl R):(idsOf R B).Nodup:=by
 unfold idsOf;rw [List.Nodup,List.pairwise_map];exact List.Pairwise.filter _ h
def ups (R B:List (Int × Int × Int)):List Int:=(idsOf R B).mergeSort λ x y=>decide (x<=y)
theorem ups_length (R B:List (Int × Int × Int)):(ups R B).length=(idsOf R B).length:=by
 unfold ups;exact List.length_mergeSort _
theorem mem_idsOf (s:St n R W T B) (x:Int):x∈idsOf R B↔∃e,brR R e/\e.1=x:=by
 unfold idsOf;rw [List.mem_map];constructor
 ·rintro ⟨e,he,rfl⟩;exact ⟨e,(mem_brs s e).1 he,rfl⟩
 ·rintro ⟨e,he,rfl⟩;exact ⟨e,(mem_brs s e).2 he,rfl⟩
theorem same_all {R' B':List (Int × Int × Int)} {W' T':List Nat} (s:St n R W T B) (s':St n R' W' T' B') (hp:R.Perm R') (h:Unl R):W=W'/\T=T'/\ups R B=ups R' B':=by
 have hm:(λ e=>e∈R)=λ e=>e∈R':=by funext e;exact propext hp.mem_iff
 have h':Unl R':=hp.pairwise h (λ {a b} k=>k.symm);refine ⟨good_eq s.gw s'.gw (λ u v=>?_),good_eq s.gt s'.gt (λ u v=>?_),?_⟩
 ·rw [s.hW,s'.hW];simp only [cnR];rw [hm]
 ·rw [s.hT,s'.hT];simp only [twR];rw [hm]
 ·unfold ups
  refine mergeSort_of_perm_i ((List.perm_ext_iff_of_nodup (idsOf_nodup h) (idsOf_nodup h')).2 λ x=>?_);rw [mem_idsOf s,mem_idsOf s'];simp only [brR];rw [hm]
end Go.Proofs.YtebcjaenhiiflaaGreatDoor.S
namespace Go.Proofs.YtebcjaenhiiflaaGreatDoor.S
open Go.RowKit Go.WideMaps Go.Maps Go.Sort Go.Shelf
variable {p pw bw pt bt m N n:Nat} {W T:List Nat} {D:DataW Unit}
theorem sortsA (k:Nat):AnyZI.SortsIn Tryz.prog Tryz.sortedA_ren Fence.wide k:=
 ⟨λ blk off cap ss W hH hblk hsz=>callsIn_wide.2 (AnyM.slices_Sort_int Tryz.sortA blk off cap ss W hH hblk hsz),
  λ p cap W=>callsIn_wide.2 (AnyM.slices_Sort_int_none Tryz.sortA p cap W)⟩
theorem ids_row (w:World) (h:BAt w p pw bw pt bt m N W T D) (hN:N<=1000):
 Calls Tryz.prog 78 #[.pointer (some ⟨p,0,none⟩)] w λ e w'=>∃(v:Value) (ss:List Int),e= .returned v/\ss.Perm (intKeys D)/\
  w'.ownsRow w.heap.size 3 1 v ss.length ((ss.mergeSort (λ x y=>decide (x<=y))).map encZ)/\(v= .slice none 0 0↔ss=[])/\Below w.heap.size w w':=by
 refine (callsIn_wide (n:=6)).1 ?_;have hc:=h.c2;have hown:=h.hm;have hmax:Maps.size D<=maxLen:=Nat.le_trans hown.size_le (by unfold maxLen;omega);have hbytes:Maps.size D*8<=140737488355328:=by have:=hown.size_le;omega
 clear h;have hbl:=hown.lt;have hseq:SeqGives Fence.wide 2 Tryz.prog 244 #[.pointer (some ⟨w.heap.size,0,none⟩)] encZ (λ ss=>ss.Perm (intKeys D)) (Maps.size D) (w.alloc (.cells #[.map (some m)] 176)):=
  AnyZI.keys_gives (ρ:=Tryz.keysA_ren) {Tryz.keysA with} Fence.wide _ trivial rfl (by omega) w.heap.size m N D _ (by simp) (by simp) (by
   obtain ⟨es,clock,hb,Ft,hs,hD⟩:=hown;exact ⟨es,clock,(Below.heap_alloc _ _ m hbl).trans hb,Ft,hs,hD⟩)
 have cK:∀mb W,CallsIn Fence.wide 5 Tryz.prog 134 #[.map mb] W λ e w'=>e= .returned (.func (.func 244) #[] #[.pointer (some ⟨W.heap.size,0,none⟩)])/\w'=W.alloc (.cells #[.map mb] 176):=λ mb W=>AnyZI.keys_in Tryz.keysA Fence.wide 5 trivial rfl mb W
 have cS:=AnyZI.sorted_in Tryz.sortedA Fence.wide 5 trivial trivial trivial trivial rfl (by omega) (sortsA _) (enters_of Tryz.func243 (by kernel_rfl) rfl) 244 #[.pointer (some ⟨w.heap.size,0,none⟩)] trivial (enters_of Tryz.func244 (by kernel_rfl) rfl) _ _ hmax hbytes _ hseq;change CallsIn _ _ Tryz.prog 133 _ _ _ at cS
 have hfK:Fence.wide.fn 134:=trivial;have hfS:Fence.wide.fn 133:=trivial;clear hown hseq hmax hbytes hbl;refine callsIn_of_wp Tryz.func78 rfl trivial ?_ rfl;simp only [Tryz.ntmps78,List.size_toArray,List.length_cons,List.length_nil,Nat.reduceAdd,Nat.reduceSub,Array.replicate_succ,Array.replicate_zero,List.push_toArray,List.append_toArray,List.nil_append,List.cons_append]
 gi_wp2_with (first
  | (gi_at_call 134;refine (cK _ _).mono ?_;rintro e w' ⟨rfl,rfl⟩)
  | (gi_at_call 133;refine cS.mono ?_;rintro e w' ⟨v,ss,rfl,hS,hrow,hnil,hb⟩))
 go_ret;exact ⟨v,ss,rfl,hS,ownsRow_base_a hrow (by simp),hnil,((Below.refl _ w).alloc (Nat.le_refl _) _).trans (hb.mono (by simp))⟩
end Go.Proofs.YtebcjaenhiiflaaGreatDoor.S
namespace Go.Proofs.YtebcjaenhiiflaaGreatDoor.S
def tch (e:Int × Int × Int) (x:Nat):Prop:=ea e=x\/eb e=x
instance (e:Int × Int × Int) (x:Nat):Decidable (tch e x):=inferInstanceAs (Decidable (_\/_))
def ot (e:Int × Int × Int) (x:Nat):Nat:=if x=ea e then eb e else ea e
def wo (R:List (Int × Int × Int)) (x:Nat):List (Int × Int × Int):=R.filter λ d=>decide (ea d≠x/\eb d≠x)
def Rx (R:List (Int × Int × Int)) (x i j:Nat):Prop:=∃e f,R[i]? =some e/\R[j]? =some f/\tch e x/\tch f x/\cnR (wo R x) (ot e x) (ot f x)
section
variable {R:List (Int × Int × Int)} {x y z i j k u v:Nat} {e f:Int × Int × Int}
theorem mem_wo:e∈wo R x↔e∈R/\ea e≠x/\eb e≠x:=by simp [wo]
theorem Rx.symm (h:Rx R x i j):Rx R x j i:=by
 obtain ⟨e,f,h1,h2,h3,h4,h5⟩:=h;exact ⟨f,e,h2,h1,h4,h3,cn_symm h5⟩
theorem Rx.trans (h:Rx R x i j) (k':Rx R x j k):Rx R x i k:=by
 obtain ⟨e,f,h1,h2,h3,h4,h5⟩:=h;obtain ⟨f',g,k1,k2,k3,k4,k5⟩:=k';rw [h2] at k1;cases k1;exact ⟨e,g,h1,k2,h3,k4,cn_trans h5 k5⟩
theorem Rx.refl (h:R[i]? =some e) (ht:tch e x):Rx R x i i:=⟨e,e,h,h,ht,ht,cn_refl _⟩
structure Bs (R:List (Int × Int × Int)) (x:Nat) (D L:List Nat):Prop where
 good:Good R.length L
 alike:∀u v,Lk R.length L u v↔Conn (λ i j=>(∃y,y<x/\Rx R y i j)\/(i∈D/\j∈D/\Rx R x i j)) u v
variable {D L:List Nat}
theorem bs_start (R:List (Int × Int × Int)):Bs R 0 [] (List.range R.length):=by
 refine ⟨good_range _,λ u v=>⟨?_,λ h=>?_⟩⟩
 ·rintro (rfl | ⟨h1,h2,h3⟩)
  ·exact Conn.refl _
  ·have e1:(List.range R.length).getD u 0=u:=by simp [h1]
   have e2:(List.range R.length).getD v 0=v:=by simp [h2]
   rw [e1,e2] at h3;subst h3;exact Conn.refl _
 ·exact Conn.least (P:=Lk R.length (List.range R.length)) h (λ _=>Lk.refl _) (λ _ _ h=>h.symm) (λ _ _ _ h k=>h.trans k) (by
   rintro i j (⟨y,hy,_⟩ | ⟨h,_⟩)
   ·omega
   ·simp at h)
theorem Rx.lt (h:Rx R x i j):i<R.length/\j<R.length:=by
 obtain ⟨e,f,h1,h2,_⟩:=h;exact ⟨(List.getElem?_eq_some_iff.1 h1).1,(List.getElem?_eq_some_iff.1 h2).1⟩
theorem bs_new (s:Bs R x D L) (hno:∀j∈D,¬Rx R x j i):Bs R x (D++[i]) L:=by
 refine ⟨s.good,λ u v=>?_⟩;rw [s.alike];constructor
 ·intro h
  refine Conn.lift h ?_;rintro p q (h | ⟨h1,h2,h3⟩)
  ·exact Conn.base (.inl h)
  ·exact Conn.base (.inr ⟨List.mem_append_left _ h1,List.mem_append_left _ h2,h3⟩)
 ·intro h
  refine Conn.lift h ?_;rintro p q (h | ⟨h1,h2,h3⟩)
  ·exact Conn.base (.inl h)
  ·rcases List.mem_append.1 h1 with h1 | h1
   ·rcases List.mem_append.1 h2 with h2 | h2
    ·exact Conn.base (.inr ⟨h1,h2,h3⟩)
    ·rw [List.mem_singleton.1 h2] at h3
     exact absurd h3 (hno p h1)
   ·rcases List.mem_append.1 h2 with h2 | h2
    ·rw [List.mem_singleton.1 h1] at h3
     exact absurd h3.symm (hno q h2)
    ·rw [List.mem_singleton.1 h1,List.mem_singleton.1 h2];exact Conn.refl _
theorem bs_join (s:Bs R x D L) (hj:j∈D) (h:Rx R x j i):Bs R x (D++[i]) (joinL L j i):=by
 have hl:=h.lt;refine ⟨good_join s.good hl.1 hl.2,λ u v=>?_⟩;rw [Lk_join s.good.len hl.1 hl.2];have up:∀{u v},Lk R.length L u v->Conn (λ p q=>(∃y,y<x/\Rx R y p q)\/(p∈D++[i]/\q∈D++[i]/\Rx R x p q)) u v:=by
  intro u v h;refine Conn.lift ((s.alike u v).1 h) ?_;rintro p q (h | ⟨h1,h2,h3⟩)
  ·exact Conn.base (.inl h)
  ·exact Conn.base (.inr ⟨List.mem_append_left _ h1,List.mem_append_left _ h2,h3⟩)
 have b:Conn (λ p q=>(∃y,y<x/\Rx R y p q)\/(p∈D++[i]/\q∈D++[i]/\Rx R x p q)) j i:=Conn.base (.inr ⟨List.mem_append_left _ hj,by simp,h⟩);constructor
 ·rintro (h | ⟨h,k⟩ | ⟨h,k⟩)
  ·exact up h
  ·exact (up h).trans (b.trans (up k))
  ·exact (up h).trans (b.symm.trans (up k))
 ·intro h'
  have key:Lk R.length (joinL L j i) u v:=Conn.least (P:=Lk R.length (joinL L j i)) h' (λ _=>Lk.refl _) (λ _ _ h=>h.symm) (λ _ _ _ h k=>h.trans k) (by
   have old:∀{p q},Lk R.length L p q->Lk R.length (joinL L j i) p q:=λ h=>(Lk_join s.good.len hl.1 hl.2).2 (.inl h)
   have ji:Lk R.length (joinL L j i) j i:=(Lk_join s.good.len hl.1 hl.2).2 (.inr (.inl ⟨Lk.refl _,Lk.refl _⟩));rintro p q (h1 | ⟨h1,h2,h3⟩)
   ·exact old ((s.alike p q).2 (Conn.base (.inl h1)))
   ·rcases List.mem_append.1 h1 with h1 | h1
    ·rcases List.mem_append.1 h2 with h2 | h2
     ·exact old ((s.alike p q).2 (Conn.base (.inr ⟨h1,h2,h3⟩)))
     ·rw [List.mem_singleton.1 h2] at h3 ⊢
      exact (old ((s.alike p j).2 (Conn.base (.inr ⟨h1,hj,h3.trans h.symm⟩)))).trans ji
    ·rw [List.mem_singleton.1 h1] at h3 ⊢
     rcases List.mem_append.1 h2 with h2 | h2
     ·exact (ji.symm).trans (old ((s.alike j q).2 (Conn.base (.inr ⟨hj,h2,h.trans h3⟩))))
     ·rw [List.mem_singleton.1 h2];exact Lk.refl _)
  exact (Lk_join s.good.len hl.1 hl.2).1 key
theorem bs_next (s:Bs R x D L) (hD:∀i e,R[i]? =some e->tch e x->i∈D):Bs R (x+1) [] L:=by
 refine ⟨s.good,λ u v=>?_⟩;rw [s.alike];constructor
 ·intro h
  refine Conn.lift h ?_;rintro p q (⟨y,hy,h⟩ | ⟨_,_,h3⟩)
  ·exact Conn.base (.inl ⟨y,by omega,h⟩)
  ·exact Conn.base (.inl ⟨x,by omega,h3⟩)
 ·intro h
  refine Conn.lift h ?_;rintro p q (⟨y,hy,h⟩ | ⟨h,_⟩)
  ·by_cases c:y=x
   ·rw [c] at h
    obtain ⟨e,f,h1,h2,h3,h4,_⟩:=id h;exact Conn.base (.inr ⟨hD p e h1 h3,hD q f h2 h4,h⟩)
   ·exact Conn.base (.inl ⟨y,by omega,h⟩)
  ·simp at h
def lb (R:List (Int × Int × Int)) (x:Nat) (K:List Nat) (j:Nat):Nat:=K.getD (ot (R.getD j (0,0,0)) x) 0
structure Gth (R:List (Int × Int × Int)) (x:Nat) (K D:List Nat) (ks:List (Nat × Nat)):Prop where
 nd:ks.Pairwise λ p q=>p.1≠q.1
 at_:∀p∈ks,p.2∈D/\lb R x K p.2=p.1
 all:∀j∈D,∃p∈ks,p.1=lb R x K j
theorem gth_start (R:List (Int × Int × Int)) (x:Nat) (K:List Nat):Gth R x K [] []:=⟨.nil,by simp,by simp⟩
theorem gth_new {K:List Nat} {ks:List (Nat × Nat)} (g:Gth R x K D ks) (hno:∀p∈ks,p.1≠lb R x K i):Gth R x K (D++[i]) (ks++[(lb R x K i,i)]):=by
 refine ⟨?_,?_,?_⟩
 ·rw [List.pairwise_append]
  exact ⟨g.nd,List.pairwise_singleton _ _,λ p hp q hq=>by rw [List.mem_singleton.1 hq];exact hno p hp⟩
 ·intro p hp
  rcases List.mem_append.1 hp with h | h
  ·exact ⟨List.mem_append_left _ (g.at_ p h).1,(g.at_ p h).2⟩
  ·rw [List.mem_singleton.1 h];exact ⟨by simp,rfl⟩
 ·intro j hj
  rcases List.mem_append.1 hj with h | h
  ·obtain ⟨p,h1,h2⟩:=g.all j h
   exact ⟨p,List.mem_append_left _ h1,h2⟩
  ·rw [List.mem_singleton.1 h];exact ⟨(lb R x K i,i),by simp,rfl⟩
theorem gth_old {K:List Nat} {ks:List (Nat × Nat)} (g:Gth R x K D ks) {p:Nat × Nat} (hp:p∈ks) (h:p.1=lb R x K i):Gth R x K (D++[i]) ks:=by
 refine ⟨g.nd,λ p hp=>⟨List.mem_append_left _ (g.at_ p hp).1,(g.at_ p hp).2⟩,?_⟩;intro j hj;rcases List.mem_append.1 hj with h' | h'
 ·exact g.all j h'
 ·rw [List.mem_singleton.1 h'];exact ⟨p,hp,h⟩
theorem getD_of {i:Nat} (h:R[i]? =some e):R.getD i (0,0,0)=e:=by simp [h]
def Kx (n:Nat) (R:List (Int × Int × Int)) (x:Nat) (K:List Nat):Prop:=∀u v,u<n->v<n->(K.getD u 0=K.getD v 0↔cnR (wo R x) u v)
theorem ot_lt {n:Nat} (hin:∀e∈R,ea e<n/\eb e<n) (he:e∈R):ot e x<n:=by
 have:=hin e he;unfold ot;split <;> omega
theorem Rx_lb {n:Nat} {K:List Nat} (hK:Kx n R x K) (hin:∀e∈R,ea e<n/\eb e<n) (hi:R[i]? =some e) (hj:R[j]? =some f) (he:tch e x) (hf:tch f x):Rx R x i j↔lb R x K i=lb R x K j:=by
 unfold lb;rw [getD_of hi,getD_of hj,hK _ _ (ot_lt hin (List.mem_of_getElem? hi)) (ot_lt hin (List.mem_of_getElem? hj))];constructor
 ·rintro ⟨e',f',h1,h2,_,_,h5⟩
  rw [hi] at h1;rw [hj] at h2;cases h1;cases h2;exact h5
 ·exact λ h=>⟨e,f,hi,hj,he,hf,h⟩
theorem gth_cut {n:Nat} {K:List Nat} {ks:List (Nat × Nat)} (g:Gth R x K D ks) (hK:Kx n R x K) (hin:∀e∈R,ea e<n/\eb e<n) (hD:∀i,i∈D↔∃e,R[i]? =some e/\tch e x):
 1<ks.length↔∃e∈R,∃f∈R,tch e x/\tch f x/\¬cnR (wo R x) (ot e x) (ot f x):=by
 have key:∀{i j e f},R[i]? =some e->R[j]? =some f->(lb R x K i=lb R x K j↔cnR (wo R x) (ot e x) (ot f x)):=by
  intro i j e f hi hj;unfold lb;rw [getD_of hi,getD_of hj,hK _ _ (ot_lt hin (List.mem_of_getElem? hi)) (ot_lt hin (List.mem_of_getElem? hj))]
 constructor
 ·intro h
  match ks,g,h with
  | p::q::r,g,_=>
    have h1:=g.at_ p (by simp);have h2:=g.at_ q (by simp);obtain ⟨e,he,ht⟩:=(hD _).1 h1.1;obtain ⟨f,hf,ht'⟩:=(hD _).1 h2.1;refine ⟨e,List.mem_of_getElem? he,f,List.mem_of_getElem? hf,ht,ht',λ c=>?_⟩;rw [<-key he hf,h1.2,h2.2] at c;exact (List.pairwise_cons.1 g.nd).1 q (by simp) c
 ·rintro ⟨e,he,f,hf,ht,ht',h⟩
  obtain ⟨i,hi⟩:=List.getElem?_of_mem he;obtain ⟨j,hj⟩:=List.getElem?_of_mem hf;obtain ⟨p,hp,hp'⟩:=g.all i ((hD i).2 ⟨e,hi,ht⟩);obtain ⟨q,hq,hq'⟩:=g.all j ((hD j).2 ⟨f,hj,ht'⟩);rw [<-key hi hj,<-hp',<-hq'] at h
  match ks,hp,hq with
  | [],hp,_=>simp at hp
  | [r],hp,hq=>
    rw [List.mem_singleton.1 hp,List.mem_singleton.1 hq] at h;exact absurd rfl h
  | _::_::_,_,_=>simp
end
end Go.Proofs.YtebcjaenhiiflaaGreatDoor.S
