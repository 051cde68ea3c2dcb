import Derived.Test.YtebcjaenhiiflaaGreatDoorQSST
import Derived.Test.YtebcjaenhiiflaaGreatDoorQBIt
import Derived.Maps.RangeWalk
import Derived.Maps.OwnSet
import Derived.Maps.OwnOps
import Derived.Lib.SlKeysI
set_option maxHeartbeats 4000000
set_option maxRecDepth 100000
namespace Go.Proofs.Y.S
open Go.Proofs.Tryz
open Go.RowKit Go.WideMaps Go.Maps
def ze1:List Value->Option (DataW Unit × List MemPlace)
 |[.int .i64 a,.int .i64 b]=>some (.agg [.lit a,.lit b],[])
 |_=>none
def Ho:Value->Option (DataW Unit × List MemPlace)
 | .agg cs=>ze1 cs.toList
 |_=>none
def Zx (a b:Int):Value:=.agg #[a,b]
def Hl (a b:Int):DataW Unit:=.agg [.lit a,.lit b]
theorem Tj (a b:Int):Ho (Zx a b)=some (Hl a b,[]):=rfl
theorem zhb {l:List Value}{y:DataW Unit × List MemPlace}(h:ze1 l=some y):∃a b:Int,l=[.int .i64 a,.int .i64 b]/\y=(Hl a b,[]):=by
 unfold ze1 at h;split at h
 ·next a b=>cases h;exact⟨a,b,rfl,rfl⟩
 ·cases h
theorem Yn {v:Value}{y:DataW Unit × List MemPlace}(h:Ho v=some y):∃c:Int × Int,v=Zx c.1 c.2/\y=(Hl c.1 c.2,[]):=by
 unfold Ho at h;split at h
 ·next cs=>
  obtain⟨a,b,h1,h2⟩:=zhb h;exact⟨(a,b),by rw[Zx,<-iD (xs:=cs),h1],h2⟩
 ·cases h
theorem Yo {a b c d:Int}(h:Hl a b=Hl c d):a=c/\b=d:=by
 simpa[Hl] using h
structure Dis (D:DataW Unit) (B:List (Int × Int × Int)):Prop where
 key:∀x:Int,Maps.has D x=true↔∃e∈B,e.1=x
 val:∀e∈B,∀zd,D.atKey e.1 zd=Hl e.2.1 e.2.2
theorem H6 (x:Int)(h:(Lit.int .i64 x).wf=true):keyOf prog 3 x=x:=keyOf_int_mk underlying3 h
theorem Cr (x:Int):WideAt.IsKeyLit x:=trivial
theorem Dis.put {D:DataW Unit}{B:List (Int × Int × Int)}(h:Dis D B)(hD:IsMap D)(f:Int × Int × Int)(hn:∀e∈B,e.1≠f.1):Dis (D.put f.1 (Hl f.2.1 f.2.2)) (B++[f]):=by
 refine⟨λ x=>?_,λ e he zd=>?_⟩
 ·by_cases hx:x=f.1
  ·subst hx
   rw[has_put_same hD (Cr _)];exact⟨λ _=>⟨f,by simp,rfl⟩,λ _=>rfl⟩
  ·rw[has_put_other (by simpa using hx),h.key]
   constructor
   ·rintro⟨e,he,k⟩;exact⟨e,by simp[he],k⟩
   ·rintro⟨e,he,k⟩
    rcases aK.1 he with he|he
    ·exact⟨e,he,k⟩
    ·rw[aJ.1 he] at k;exact absurd k.symm hx
 ·rcases aK.1 he with he|he
  ·rw[atKey_put_other (by simpa using hn e he)];exact h.val e he zd
  ·rw[aJ.1 he,atKey_put_same hD (Cr _)]
theorem Dis.del {D:DataW Unit}{B B':List (Int × Int × Int)}(h:Dis D B)(f:Int × Int × Int)(AB:∀e∈B,e.1=f.1->e=f)(hB:∀e,e∈B'↔e∈B/\e≠f):Dis (D.del f.1) B':=by
 refine⟨λ x=>?_,λ e he zd=>?_⟩
 ·by_cases hx:x=f.1
  ·subst hx
   rw[has_del_same];refine⟨λ k=>by simp at k,?_⟩;rintro⟨e,he,k⟩;exact absurd (AB e ((hB e).1 he).1 k) ((hB e).1 he).2
  ·rw[has_del_other (by simpa using hx),h.key]
   constructor
   ·rintro⟨e,he,k⟩;exact⟨e,(hB e).2 ⟨he,λ c=>hx (by rw[<-k,c])⟩,k⟩
   ·rintro⟨e,he,k⟩;exact⟨e,((hB e).1 he).1,k⟩
 ·have h1:=(hB e).1 he
  rw[atKey_del_other (by
   intro c;have:e.1=f.1:=by simpa using c
   exact h1.2 (AB e h1.1 this))]
  exact h.val e h1.1 zd
theorem Dis.empty:Dis (.map []) []:=⟨λ x=>by simp[Maps.has],λ e he=>by simp at he⟩
structure BAt (w:World) (p pw bw pt bt m N:Nat) (W T:List Nat) (D:DataW Unit):Prop where
 hp:w.heap[p]? =some (.cells #[.pointer pw,.pointer pt,.map m] 178)
 sw:Aa w pw bw W
 st:Aa w pt bt T
 hm:w.ownsMap prog 3 Ho m N D
 pp:pw≠pt
 bb:bw≠bt
namespace BAt
open Go.Proofs.Tryz
variable {w w':World} {p pw bw pt bt m N:Nat} {W T:List Nat} {D:DataW Unit}
theorem c0 (h:BAt w p pw bw pt bt m N W T D):w.cell? p=some (.pointer pw):=by simp[World.cell?,h.hp]
theorem c1 (h:BAt w p pw bw pt bt m N W T D):w.cell? (p,1)=some (.pointer pt):=by simp[World.cell?,h.hp]
theorem c2 (h:BAt w p pw bw pt bt m N W T D):w.cell? (p,2)=some (.map m):=by simp[World.cell?,h.hp]
theorem plt (h:BAt w p pw bw pt bt m N W T D):p<w:=lt_of_some h.hp
theorem below (h:BAt w p pw bw pt bt m N W T D)(hb:Below w w w'):BAt w' p pw bw pt bt m N W T D:=
 ⟨by rw[hb.block p h.plt];exact h.hp,h.sw.below hb h.sw.plt h.sw.blt,h.st.below hb h.st.plt h.st.blt,h.hm.kept (row:=none) ⟨hb.os,hb.tape,hb.output,hb.size,λ k hk _=>hb.block k hk⟩ (by simp),h.pp,h.bb⟩
theorem drewN (h:BAt w p pw bw pt bt m N W T D)(n:Nat):BAt (w.drewN n) p pw bw pt bt m N W T D:=⟨h.hp,Jj h.sw n,Jj h.st n,h.hm,h.pp,h.bb⟩
theorem drew (h:BAt w p pw bw pt bt m N W T D):BAt w.drew p pw bw pt bt m N W T D:=⟨h.hp,Yg h.sw,Yg h.st,h.hm,h.pp,h.bb⟩
theorem Mc (h:BAt w p pw bw pt bt m N W T D):∃es c,w.heap[m]? =some (.map es c):=by
 obtain⟨es,c,hb,_⟩:=h.hm;exact⟨es,c,hb⟩
theorem zmn (h:BAt w p pw bw pt bt m N W T D):m≠p/\m≠pw/\m≠bw/\m≠pt/\m≠bt:=by
 obtain⟨es,c,hb⟩:=h.Mc;refine⟨?_,?_,?_,?_,?_⟩ <;> rintro rfl
 ·rw[h.hp] at hb;simp at hb
 ·rw[h.sw.hp] at hb;simp at hb
 ·rw[h.sw.hb] at hb;simp at hb
 ·rw[h.st.hp] at hb;simp at hb
 ·rw[h.st.hb] at hb;simp at hb
theorem zsd (h:BAt w p pw bw pt bt m N W T D):p≠pw/\p≠bw/\p≠pt/\p≠bt:=by
 refine⟨?_,?_,?_,?_⟩ <;> rintro rfl
 ·have:=h.hp.symm.trans h.sw.hp;simp at this
 ·have:=h.hp.symm.trans h.sw.hb;simp at this
 ·have:=h.hp.symm.trans h.st.hp;simp at this
 ·have:=h.hp.symm.trans h.st.hb;simp at this
theorem zsb (h:BAt w p pw bw pt bt m N W T D):pw≠bt/\pt≠bw:=by
 refine⟨?_,?_⟩ <;> rintro rfl
 ·have:=h.sw.hp.symm.trans h.st.hb;simp at this
 ·have:=h.st.hp.symm.trans h.sw.hb;simp at this
theorem zun {W':List Nat}(h:BAt w p pw bw pt bt m N W T D)(hs:Aa w' pw bw W')(k:But bw w w'):BAt w' p pw bw pt bt m N W' T D:=by
 refine⟨by rw[k.block p h.plt h.zsd.2.1];exact h.hp,hs,⟨?_,?_⟩,h.hm.kept (row:=some bw) ⟨k.os,k.tape,k.output,k.size,λ i hi hn=>k.block i hi (λ e=>hn (by rw[e]))⟩ (by simpa using h.zmn.2.2.1),h.pp,h.bb⟩
 ·rw[k.block pt h.st.plt h.zsb.2];exact h.st.hp
 ·rw[k.block bt h.st.blt (Ne.symm h.bb)];exact h.st.hb
theorem zuo {T':List Nat}(h:BAt w p pw bw pt bt m N W T D)(hs:Aa w' pt bt T')(k:But bt w w'):BAt w' p pw bw pt bt m N W T' D:=by
 refine⟨by rw[k.block p h.plt h.zsd.2.2.2];exact h.hp,⟨?_,?_⟩,hs,h.hm.kept (row:=some bt) ⟨k.os,k.tape,k.output,k.size,λ i hi hn=>k.block i hi (λ e=>hn (by rw[e]))⟩ (by simpa using h.zmn.2.2.2.2),h.pp,h.bb⟩
 ·rw[k.block pw h.sw.plt h.zsb.1];exact h.sw.hp
 ·rw[k.block bw h.sw.blt h.bb];exact h.sw.hb
theorem mapped {D':DataW Unit}{N':Nat}(h:BAt w p pw bw pt bt m N W T D)(hm:w'.ownsMap prog 3 Ho m N' D')(k:w.grownBy w' (some m)):BAt w' p pw bw pt bt m N' W T D':=by
 obtain⟨n1,n2,n3,n4,n5⟩:=h.zmn;have hk:∀i,i<w.heap.size->m≠i->w'.heap[i]? =w.heap[i]? :=λ i hi hn=>k.block i hi (λ e=>hn (by injection e with e;exact e.symm))
 exact⟨by rw[hk p h.plt n1];exact h.hp,⟨by rw[hk pw h.sw.plt n2];exact h.sw.hp,by rw[hk bw h.sw.blt n3];exact h.sw.hb⟩,⟨by rw[hk pt h.st.plt n4];exact h.st.hp,by rw[hk bt h.st.blt n5];exact h.st.hb⟩,hm,h.pp,h.bb⟩
end BAt
end Go.Proofs.Y.S
namespace Go.Proofs.Y.S
open Go.Proofs.Tryz
open Go.RowKit Go.WideMaps Go.Maps
theorem Sc (w:World)(o1 o2:Obj):((w.alloc o1).alloc o2).heap[w.heap.size+1]? =some o2:=by
 have:=aQ (w.alloc o1) o2
 rwa[aT] at this
theorem zon {w w1 w2:World}{n:Nat}(h1:Aa w1 (w+1) w (List.range n))(h2:Aa w2 (w1+1) w1 (List.range n))(b2:Below w1 w1 w2):
 BAt ((w2.alloc (.map #[] 0)).alloc (.cells #[.pointer (w.heap.size+1:Nat),.pointer (w1.heap.size+1:Nat),.map w2] 178)) (w2+1) (w.heap.size+1) w (w1+1) w1 w2 0 (List.range n) (List.range n) (.map []):=by
 have hb:Below w2 w2 ((w2.alloc (.map #[] 0)).alloc (.cells #[.pointer (w.heap.size+1:Nat),.pointer (w1.heap.size+1:Nat),.map w2] 178)):=Bt _ _ _;have s1:w1.heap.size<=w2.heap.size:=b2.size;have l1:=h1.plt;have l2:=h2.plt;refine⟨Sc _ _ _,?_,?_,?_,by omega,by omega⟩
 ·exact(h1.below b2 h1.plt h1.blt).below hb (by omega) (by omega)
 ·exact h2.below hb (by omega) (by omega)
 ·exact(World.ownsMap_made w2 prog 3 Ho).alloc _
theorem zqs (n:Nat)(w:World)(hn:n<=40):
 Calls prog 113 #[n] w λ e w'=>∃p pw bw pt bt m,e=Value.tuple #[.pointer (some ⟨p,0,none⟩),.nilIface]/\BAt w' p pw bw pt bt m 0 (List.range n) (List.range n) (.map [])/\Below w w w'/\w.heap.size<=p/\w.heap.size<=bw/\w.heap.size<=bt/\w.heap.size<=m:=by
 have FC:=@run_makeMap prog;go_enter func113,ntmps113;go_wp2_with fail;refine(Kk n w hn).mono ?_;rintro e w1 ⟨rfl,h1,b1⟩;have H1:=kd h1;have B1:=kd b1;clear h1 b1;go_wp2_with fail;refine(Kk n w1 hn).mono ?_;rintro e w2 ⟨rfl,h2,b2⟩;have H2:=kd h2;have B2:=kd b2;clear h2 b2;go_wp2;go_ret2;have hh:=zon H1.o H2.o B2.o;have EK:=B1.o.size;have DJ:=B2.o.size;refine⟨_,_,_,_,_,_,rfl,hh,?_,by omega,by omega,by omega,by omega⟩;exact(B1.o.trans (B2.o.mono EK)).trans ((Bt _ _ _).mono (by omega))
variable {p pw bw pt bt m N n:Nat} {W T:List Nat} {D:DataW Unit}
theorem Sr (x y:Nat)(s:Bool)(w:World)(h:BAt w p pw bw pt bt m N W T D)(hx:x<W.length)(hy:y<W.length)(hv:(((W.getD x 0:Nat):Int)==((W.getD y 0:Nat):Int))=s):
 Calls prog 75 #[.pointer p,x,y] w λ e w'=>e=Value.tuple #[s,.nilIface]/\Below w w w':=by
 have hc:=h.c0;go_enter func75,ntmps75;go_wp2_with fail;refine(V6 x y pw bw W s w h.sw hx hy hv).mono ?_;rintro e w1 ⟨rfl,b1⟩;have B1:=kd b1;clear b1 h hc hv;go_wp2;go_ret2;exact⟨rfl,B1.o⟩
theorem zf9 (x y:Int)(w:World)(h:BAt w p pw bw pt bt m N W T D)(hx:Bw W.length x\/Bw W.length y):
 Calls prog 75 #[.pointer p,x,y] w λ e w'=>e=Value.tuple #[false,.iface 23 (2:Int)]/\Below w w w':=by
 have hc:=h.c0;have HX:=kd hx;clear hx;go_enter func75,ntmps75;go_wp2_with fail;refine(qw x y pw bw W w h.sw HX.o).mono ?_;rintro e w1 ⟨rfl,b1⟩;have B1:=kd b1;clear b1 h hc;go_wp2;go_ret2;exact⟨rfl,B1.o⟩
theorem zmm (x y:Nat)(s:Bool)(w:World)(h:BAt w p pw bw pt bt m N W T D)(hx:x<T.length)(hy:y<T.length)(hv:(((T.getD x 0:Nat):Int)==((T.getD y 0:Nat):Int))=s):
 Calls prog 76 #[.pointer p,x,y] w λ e w'=>e=Value.tuple #[s,.nilIface]/\Below w w w':=by
 have hc:=h.c1;go_enter func76,ntmps76;go_wp2_with fail;refine(V6 x y pt bt T s w h.st hx hy hv).mono ?_;rintro e w1 ⟨rfl,b1⟩;have B1:=kd b1;clear b1 h hc hv;go_wp2;go_ret2;exact⟨rfl,B1.o⟩
theorem zi0 (x y:Int)(w:World)(h:BAt w p pw bw pt bt m N W T D)(hx:Bw T.length x\/Bw T.length y):
 Calls prog 76 #[.pointer p,x,y] w λ e w'=>e=Value.tuple #[false,.iface 23 (2:Int)]/\Below w w w':=by
 have hc:=h.c1;have HX:=kd hx;clear hx;go_enter func76,ntmps76;go_wp2_with fail;refine(qw x y pt bt T w h.st HX.o).mono ?_;rintro e w1 ⟨rfl,b1⟩;have B1:=kd b1;clear b1 h hc;go_wp2;go_ret2;exact⟨rfl,B1.o⟩
theorem Jg {X:Nat}(x:Nat)(w:World)(h:BAt w p pw bw pt bt m N W T D)(hg:Good n T)(hx:x<n)(hX:T.getD x 0=X):
 Calls prog 231 #[.pointer p,x] w λ e w'=>e=X/\Below w w w':=by
 have hc:=h.c1;go_enter func231,ntmps231;go_wp2_with fail;refine(zcd x pt bt T w h.st hg hx hX).mono ?_;rintro e w1 ⟨rfl,b1⟩;have B1:=kd b1;clear b1 h hc hX;go_wp2;go_ret;exact⟨rfl,B1.o⟩
end Go.Proofs.Y.S
namespace Go.Proofs.Y.S
open Go.Proofs.Tryz
open Go.RowKit Go.WideMaps Go.Maps
variable {p pw bw pt bt m N n:Nat} {W T:List Nat} {D:DataW Unit}
theorem Vt (w:World)(u v:Value):(w.alloc (.cells #[u,v] 180)).cell? w=some u/\(w.alloc (.cells #[u,v] 180)).cell? (w,1)=some v:=by
 constructor <;> simp
theorem Ii {w w':World}{u v:Value}(h:Below (w.alloc (.cells #[u,v] 180)).heap.size (w.alloc (.cells #[u,v] 180)) w'):w'.cell? w=some u/\w'.cell? (w,1)=some v:=by
 have hb:=Vt w u v;constructor
 ·rw[h.cell (p:=w) (by simp)];exact hb.1
 ·rw[h.cell (p:=⟨w.heap.size,1,none⟩) (by simp)];exact hb.2
theorem Io {w w':World}{o:Obj}(h:Below (w.alloc o).heap.size (w.alloc o) w'):Below w w w':=
 ((aI _ w).alloc (aF _) o).trans (h.mono (by simp))
theorem zdk (a b X Y:Nat)(w:World)(h:BAt w p pw bw pt bt m N W T D)(hg:Good n T)(ha:a<n)(hb:b<n)(hX:T.getD a 0=X)(hY:T.getD b 0=Y):
 Calls prog 309 #[.pointer p,.agg #[a,b],X] w λ e w'=>e=Y/\Below w w w':=by
 have HW:Hid (∀w',Below w w w'->BAt w' p pw bw pt bt m N W T D):=λ w' hb=>h.below hb
 clear h;go_enter func309,ntmps309;go_wp2_with fail;refine(Jg a _ (HW.o _ (b_)) hg ha hX).mono ?_;rintro e w1 ⟨rfl,b1⟩;have c1:=(Ii b1).2;have B1:Hid (Below w w w1):=Io b1;clear b1;go_wp2_with fail;refine(Jg b w1 (HW.o _ B1.o) hg hb hY).mono ?_;rintro e w2 ⟨rfl,b2⟩;have B2:Hid (Below w w w2):=B1.o.tr b2;clear b2;go_wp2;go_ret;exact⟨rfl,B2.o⟩
theorem zet (a b X Y:Nat)(w:World)(h:BAt w p pw bw pt bt m N W T D)(hg:Good n T)(ha:a<n)(hb:b<n)(hX:T.getD a 0=X)(hY:T.getD b 0=Y)(l9:Y≠X):
 Calls prog 309 #[.pointer p,.agg #[a,b],Y] w λ e w'=>e=X/\Below w w w':=by
 have HW:Hid (∀w',Below w w w'->BAt w' p pw bw pt bt m N W T D):=λ w' hb=>h.below hb
 clear h;go_enter func309,ntmps309;go_wp2_with fail;refine(Jg a _ (HW.o _ (b_)) hg ha hX).mono ?_;rintro e w1 ⟨rfl,b1⟩;have c1:=(Ii b1).2;have c0:=(Ii b1).1;have B1:Hid (Below w w w1):=Io b1;have hl:w.heap.size<w1.heap.size:=by have:=b1.size;simp at this;omega
 clear b1;go_wp2_with fail;refine(Jg b w1 (HW.o _ B1.o) hg hb hY).mono ?_;rintro e w2 ⟨rfl,b2⟩;have c2:w2.cell? w=a:=(b2.cell (p:=w) hl).trans c0;have B2:Hid (Below w w w2):=B1.o.tr b2;clear b2 c0 c1;go_wp2_with fail;refine(Jg a w2 (HW.o _ B2.o) hg ha hX).mono ?_;rintro e w3 ⟨rfl,b3⟩;have B3:Hid (Below w w w3):=B2.o.tr b3;clear b3;go_wp2;go_ret;exact⟨rfl,B3.o⟩
theorem za4 (a b X Y fr:Nat)(w:World)(h:BAt w p pw bw pt bt m N W T D)(hg:Good n T)(ha:a<n)(hb:b<n)(hX:T.getD a 0=X)(hY:T.getD b 0=Y)(h1:fr≠X)(h2:fr≠Y):
 Calls prog 309 #[.pointer p,.agg #[a,b],fr] w λ e w'=>e=(-1:Int)/\Below w w w':=by
 have HW:Hid (∀w',Below w w w'->BAt w' p pw bw pt bt m N W T D):=λ w' hb=>h.below hb
 clear h;go_enter func309,ntmps309;go_wp2_with fail;refine(Jg a _ (HW.o _ (b_)) hg ha hX).mono ?_;rintro e w1 ⟨rfl,b1⟩;have c1:=(Ii b1).2;have B1:Hid (Below w w w1):=Io b1;clear b1;go_wp2_with fail;refine(Jg b w1 (HW.o _ B1.o) hg hb hY).mono ?_;rintro e w2 ⟨rfl,b2⟩;have B2:Hid (Below w w w2):=B1.o.tr b2;clear b2 c1;go_wp2;go_ret;exact⟨rfl,B2.o⟩
end Go.Proofs.Y.S
namespace Go.Proofs.Y.S
open Go.Proofs.Tryz
open Go.RowKit Go.WideMaps Go.Maps
variable {p pw bw pt bt m N n:Nat} {R B:List (Int × Int × Int)} {W T:List Nat} {D:DataW Unit}
theorem zfn (a b fr:Nat)(w:World)(h:BAt w p pw bw pt bt m N W T D)(hg:Good n T)(ha:a<n)(hb:b<n):
 ∃nx:Int,Calls prog 309 #[.pointer p,.agg #[a,b],fr] w (λ e w'=>e=nx/\Below w w w')/\
  ((nx= -1/\T.getD a 0≠fr/\T.getD b 0≠fr)\/∃u v,((a=u/\b=v)\/(b=u/\a=v))/\T.getD u 0=fr/\nx=(T.getD v 0:Nat)):=by
 by_cases h1:T.getD a 0=fr
 ·exact⟨_,zdk a b fr _ w h hg ha hb h1 rfl,.inr ⟨a,b,.inl ⟨rfl,rfl⟩,h1,rfl⟩⟩
 ·by_cases h2:T.getD b 0=fr
  ·exact⟨_,zet a b _ fr w h hg ha hb rfl h2 (λ e=>h1 e.symm),.inr ⟨b,a,.inr ⟨rfl,rfl⟩,h2,rfl⟩⟩
  ·exact⟨_,za4 a b _ _ fr w h hg ha hb rfl rfl (λ e=>h1 e.symm) (λ e=>h2 e.symm),.inl ⟨rfl,h1,h2⟩⟩
def V7 (R:List (Int × Int × Int))(T:List Nat)(fr tg:Nat)(back:Int)(e:Int × Int × Int):Prop:=
 ∀u v,Ends e u v->T.getD u 0=fr->((T.getD v 0:Nat):Int)≠back->¬cn ea eb (but (·∈R) e) (T.getD v 0) tg
theorem ag (s:St n R W T B){e:Int × Int × Int}(he:e∈B){u v u' v':Nat}(h:Ends e u v)(h':Ends e u' v')(hu:T.getD u 0=T.getD u' 0):u=u'/\v=v':=by
 have JB:=(s.hB e).1 he;have j6:=s.inn e JB.1;have hnt:T.getD (ea e) 0≠T.getD (eb e) 0:=λ k=>Qk JB ((s.tw j6.1 j6.2).2 k)
 rcases h with⟨rfl,rfl⟩|⟨rfl,rfl⟩ <;> rcases h' with⟨rfl,rfl⟩|⟨rfl,rfl⟩
 ·exact⟨rfl,rfl⟩
 ·exact absurd hu hnt
 ·exact absurd hu.symm hnt
 ·exact⟨rfl,rfl⟩
theorem zen (s:St n R W T B)(hd:Dis D B){x c1 c2:Int}{y:DataW Unit × List MemPlace}(hy:y=(Hl c1 c2,[]))(q9:∀zd,D.atKey x zd=y.1):∃e∈B,e.1=x/\c1=(ea e:Nat)/\c2=(eb e:Nat):=by
 obtain⟨e,he,hx⟩:=(hd.key x).1 (has_true_of_atKey q9);refine⟨e,he,hx,?_⟩;have h1:=hd.val e he .nil;rw[hx,q9,hy] at h1;obtain⟨h2,h3⟩:=Yo h1;have hn:=s.nat e ((s.hB e).1 he).1;exact⟨h2.trans hn.1,h3.trans hn.2⟩
theorem struck {left:Lit->Bool}{x z:Int}(h:(left z&&!(Lit.int .i64 z).sameKey x)=false)(l9:z≠x):left z=false:=by
 rw[sameKey_ne (by simpa using l9)] at h
 simpa using h
def zfq (ds:List (Int × Int × Int)):List Value:=ds.map λ e=>.int .i64 e.1
def Wy (R:List (Int × Int × Int))(fr tg:Nat)(Z:Int × Int × Int->Prop)(k:Nat)(w:World)(e:Ending)(w':World):Prop:=
 Below w w w'/\((cn ea eb Z fr tg/\∃v ds,e=Value.tuple #[v,true]/\Way R fr tg ds/\ds.length<=k/\w'.ownsRow w 3 1 v ds.length (zfq ds))\/(¬cn ea eb Z fr tg/\e=Value.tuple #[.slice none 0 0,false]))
theorem Ai {w w':World}(h:Below w w w'):w.grownBy w' none:=⟨h.os,h.tape,h.output,h.size,λ k hk _=>h.block k hk⟩
theorem Us {w w1 w2:World}{r:Nat}(h:Below w w w1)(hr:w<=r)(hg:w1.grownBy w2 (some r)):Below w w w2:=
 h.grown hg h.size (λ j hj=>by cases hj;exact hr)
theorem zl1 (k:Nat)
 (IH:∀k'<k,∀(fr tg:Nat) (back:Int) (Z:Int × Int × Int->Prop) (L:List (Int × Int × Int)) (w:World),BAt w p pw bw pt bt m N W T D->Hop R T fr back Z->Met R fr Z L->L.length<=k'->fr<n->T.getD fr 0=fr->tg<n->T.getD tg 0=tg->
   Calls prog 230 #[.pointer p,fr,tg,back] w (Wy R fr tg Z k' w))
 (s:St n R W T B) (hd:Dis D B) (hk:k<=1000) (fr tg:Nat) (back:Int) (Z:Int × Int × Int->Prop) (L:List (Int × Int × Int)) (w:World) (h:BAt w p pw bw pt bt m N W T D) (WU:Hop R T fr back Z) (hmet:Met R fr Z L) (hL:L.length<=k) (OG:fr<n) (JG:T.getD fr 0=fr) (hto:tg<n) (QB:T.getD tg 0=tg):
 Calls prog 230 #[.pointer p,fr,tg,back] w (Wy R fr tg Z k w):=by
 have hc:=h.c2;have o8:=h.hm;have HW:Hid (∀w',Below w w w'->BAt w' p pw bw pt bt m N W T D):=λ w' hb=>h.below hb
 have HS:=kd s;have HD:=kd hd;have HOP:=kd WU;have HMET:=kd hmet;clear h s hd WU hmet;by_cases hft:fr=tg
 ·subst hft
  go_enter func230,ntmps230;go_wp2;go_ret2;exact⟨aI _ _,.inl ⟨Bc _,_,[],rfl,zq0 _,aN _,aX _ _ _ _⟩⟩
 ·have HFT:=kd hft
  obtain⟨i0,GJ,BR,BU,BM⟩:=info_parts Tryz.info3;have UN:((fr:Int)==(tg:Int))=false:=aH.2 (by omega);go_enter func230,ntmps230;go_wp2_with (first
   |(at_range;refine wpList_range_own _ rfl _ 176 rfl 3 180 Bp underlying176 Ho m N D rfl o8 ?_;intro w0 JZ ET ZN)
   |fail)
  go_frame
  have FU:=kd JZ;have LZ:Hid (Below w w w0):=⟨ET.os,ET.tape,ET.output,ET.size,λ k hk=>ET.block k hk (by simp)⟩;clear JZ ET ZN o8 hc;go_loopw [10] (λ _ wr=>∃(left:Lit->Bool) (cnt:Nat),wr.ranges prog 3 Ho m w N D left cnt/\(∀e∈B,left e.1=false->V7 R T fr tg back e)/\Below w w wr) (λ _ wr=>wr.rangeLeft m w)
  case atStart=>
   refine⟨_,_,FU.o,λ e he hl=>?_,LZ.o⟩;rw[(HD.o.key e.1).2 ⟨e,he,rfl⟩] at hl;cases hl
  case round=>
   obtain⟨left,cnt,RQ,AA,BH⟩:=hrel;have MB:=kd RQ;have DZ:=kd AA;have JI:=kd BH;clear RQ AA BH FU LZ;go_wp2_with (first
    |(at_next;refine wpList_next_ranges _ rfl _ rfl 3 Bp Ho (Value.int .i64) (λ c:Int × Int=>.agg #[c.1,c.2]) (λ key kl o9=>by obtain⟨x,rfl,_⟩:=Maps.keyOf_int_inv underlying3 o9;exact⟨x,rfl⟩) (λ v y hv=>by obtain⟨c,rfl,_⟩:=Yn hv;exact⟨c,rfl⟩) m w.heap.size N D left cnt rfl MB.o ?_ ?_)
    |fail)
   ·intro _ JU
    have UO:=kd JU;clear JU;go_wp2;go_ret2;exact⟨JI.o,.inr ⟨zl4 HS.o HOP.o OG JG hto QB HFT.o (λ e he=>DZ.o e he (UO.o _)),rfl⟩⟩
   ·intro x c1 c2 kl y1 y2 w1 cnt1 o9 IY ZO q9 EC j6 AX EK UQ
    obtain⟨x',DK,rfl,_⟩:=Maps.keyOf_int_inv underlying3 o9;obtain rfl:x=x':=by injection DK
    have hyy:(y1,y2)=(Hl c1 c2,[]):=by
     have:=ZO.symm.trans (Tj c1 c2);injection this
    obtain⟨e,he,hex,rfl,rfl⟩:=zen HS.o HD.o hyy q9;have hlte:=HS.o.inn e ((HS.o.hB e).1 he).1;have HE:=kd (And.intro he hex);have x8:Hid (Below w w w1):=Us JI.o (aF _) AX;have BZ:=kd (And.intro EC j6);clear o9 IY ZO q9 EC j6 AX EK DK hyy he hex;obtain⟨W1,AJ⟩:∃W1,W1=w1.alloc (.cells #[(ea e:Int),(eb e:Int)] 180):=⟨_,rfl⟩;have BK:Below w1 w1 W1:=by rw[AJ];exact b_
    have y5:Hid (Below w w W1):=x8.o.tr BK;have CB:Hid (∀w',Below W1 W1 w'->w'.ranges prog 3 Ho m w N D (λ z=>left z&&!z.sameKey x) cnt1):=λ w' hb=>
     (BZ.o.1.kept (Ai BK) (by simp) (by simp)).kept (Ai hb) (by simp) (by simp)
    have BQ:=kd AJ.symm;have p0:W1.cell? w1=(ea e:Int):=by rw[AJ];exact(Vt w1 _ _).1
    have p1:W1.cell? (w1,1)=(eb e:Int):=by rw[AJ];exact(Vt w1 _ _).2
    clear BK AJ;obtain⟨nx,hacr,WY⟩:=zfn (ea e) (eb e) fr W1 (HW.o _ y5.o) HS.o.gt hlte.1 hlte.2;have GK:=kd WY;have HAC:Hid _:=hacr;clear hacr WY hlte;go_wp2_with fail;rw[BQ.o];refine aA HAC.o ?_;rintro e' w2 ⟨rfl,b2⟩;have AZ:Hid (Below w w w2):=y5.o.tr b2;have DR:Hid (w2.ranges prog 3 Ho m w N D (λ z=>left z&&!z.sameKey x) cnt1):=CB.o w2 b2;clear b2 p0 p1 CB UQ HAC;have ZP:Hid (V7 R T fr tg back e->∀d∈B,(left d.1&&!(Lit.int .i64 d.1).sameKey x)=false->V7 R T fr tg back d):=λ hn d hd hl=>by
     by_cases hdx:d.1=x
     ·have:d=e:=HS.o.one d ((HS.o.hB d).1 hd).1 e ((HS.o.hB e).1 HE.o.1).1 (hdx.trans HE.o.2.symm)
      rw[this];exact hn
     ·exact DZ.o d hd (struck hl hdx)
    by_cases IE:nx= -1
    ·as_aux_lemma=>
     subst IE;have HNP:Hid (V7 R T fr tg back e):=by
      rcases GK.o with⟨_,h1,h2⟩|⟨u,v,_,_,h3⟩
      ·rintro u v (⟨rfl,rfl⟩|⟨rfl,rfl⟩) hu
       ·exact absurd hu h1
       ·exact absurd hu h2
      ·exfalso;omega
     go_wp2_with fail;go_roundw;case rel=>exact⟨_,cnt1,DR.o,ZP.o HNP.o,AZ.o⟩
     case measure=>rw[DR.o.left_eq,MB.o.left_eq];exact BZ.o.2
    ·obtain⟨u,v,FD,hu,rfl⟩:∃u v,Ends e u v/\T.getD u 0=fr/\nx=(T.getD v 0:Nat):=by
      rcases GK.o with⟨h0,_⟩|h
      ·exact absurd h0 IE
      ·exact h
     have ZQ:=kd (And.intro FD hu);have HVL:Hid (v<n):=(FD.lt HS.o ((HS.o.hB e).1 HE.o.1).1).2;clear GK FD hu;by_cases CG:((T.getD v 0:Nat):Int)=back
     ·as_aux_lemma=>
      have HNP:Hid (V7 R T fr tg back e):=by
       intro u' v' h' hu' hv';have:=ag HS.o HE.o.1 h' ZQ.o.1 (hu'.trans ZQ.o.2.symm);exact absurd (by rw[this.2];exact CG) hv'
      generalize T.getD v 0=X at*;have hq1:((X:Int)== -1)=false:=aH.2 IE;have hq2:((X:Int)==back)=true:=bX.2 CG;clear CG;go_wp2_with fail;go_roundw;case rel=>exact⟨_,cnt1,DR.o,ZP.o HNP.o,AZ.o⟩
      case measure=>rw[DR.o.left_eq,MB.o.left_eq];exact BZ.o.2
     ·obtain⟨n1,n2,n3,n4⟩:=zl6 (tg:=tg) HS.o HOP.o HMET.o OG JG ((HS.o.hB e).1 HE.o.1) ZQ.o.1 ZQ.o.2 CG
      have NT:(L.filter λ d=>decide (d≠e)).length<L.length:=List.length_filter_lt_length_iff_exists.2 ⟨e,n2,by simp⟩;have hIH:=IH _ (aR NT hL) (T.getD v 0) tg fr _ _ w2 (HW.o _ AZ.o) n1 n3 (aF _) (HS.o.lab HVL.o) (HS.o.gt.idem v HVL.o) hto QB;have HIH:Hid _:=hIH;have HN4:=kd n4;have HLF:Hid ((L.filter λ d=>decide (d≠e)).length<k):=aR NT hL;clear hIH n1 n2 n3 n4 NT;generalize hX:T.getD v 0=X at*;have HX:=kd hX;clear hX;have hq1:((X:Int)== -1)=false:=aH.2 IE;have hq2:((X:Int)==back)=false:=aH.2 CG;go_wp2_with fail;refine aA HIH.o ?_;rintro e' w3 ⟨b3,UR⟩;have EP:Hid (Below w w w3):=AZ.o.tr b3;have LC:Hid (w3.ranges prog 3 Ho m w N D (λ z=>left z&&!z.sameKey x) cnt1):=DR.o.kept (Ai b3) (by simp) (by simp);have hw23:w.heap.size<=w2.heap.size:=AZ.o.size;clear b3 HIH;rcases UR with⟨LX,v',ds,rfl,OL,hlen,o7⟩|⟨hncn,rfl⟩
      ·as_aux_lemma=>
       have hrow':=ownsRow_base_a o7 hw23;have BS:=EP.o.size;have hdl:ds.length<1000:=by have:=HLF.o;omega
       have UT:Hid (cn ea eb Z fr tg):=HN4.o LX;have HWY:Hid (Way R fr tg (ds++[e])/\ds.length+1<=k):=⟨zkx HS.o OG JG ((HS.o.hB e).1 HE.o.1) ZQ.o.1 ZQ.o.2 (by rw[HX.o];exact LX) (by rw[HX.o];exact OL),by have:=HLF.o;omega⟩;have TJ:=hrow'.lt;clear LX OL hlen o7 HN4 HLF;go_wp2_with (first
        |(at_builtin;refine wpList_append_own_at _ rfl _ _ 48 rfl w.heap.size 3 i0 (0:Int) 1 8 underlying48 GJ BR BU BM rfl (by decide) v' _ _ rfl (hrow'.alloc _) w3 1 1 [x] rfl rfl (cell_one_new _ _ _) (ints_oneCell .i64 [x]) (by unfold maxLen;omega) (by omega) (by simp;omega) ?_;intro v'' w4 hown' AY IJ ES)
        |fail)
       go_ret2;refine⟨EP.o.grown ((bR w3 _ _).trans AY) BS (λ j hj=>(TJ j hj).1),.inl ⟨UT.o,v'',ds++[e],rfl,HWY.o.1,by simpa using HWY.o.2,?_⟩⟩;have hex:=HE.o.2;subst hex
       simpa[zfq] using hown'
      ·as_aux_lemma=>
       have HNP:Hid (V7 R T fr tg back e):=by
        intro u' v' h' hu' _;have:=ag HS.o HE.o.1 h' ZQ.o.1 (hu'.trans ZQ.o.2.symm);rw[this.2,HX.o];exact hncn
       clear hncn;go_wp2_with fail;go_roundw;case rel=>exact⟨_,cnt1,LC.o,ZP.o HNP.o,EP.o⟩
       case measure=>rw[LC.o.left_eq,MB.o.left_eq];exact BZ.o.2
theorem zrl (k:Nat)(s:St n R W T B)(hd:Dis D B)(hk:k<=1000):∀(fr tg:Nat) (back:Int) (Z:Int × Int × Int->Prop) (L:List (Int × Int × Int)) (w:World),BAt w p pw bw pt bt m N W T D->Hop R T fr back Z->Met R fr Z L->L.length<=k->fr<n->T.getD fr 0=fr->tg<n->T.getD tg 0=tg->
 Calls prog 230 #[.pointer p,fr,tg,back] w (Wy R fr tg Z k w):=by
 induction k using Nat.strongRecOn with
 |_ k ih=>
  intro fr tg back Z L w h1 h2 h3 h4 h5 h6 h7 h8;exact zl1 k (λ k' hk' fr tg back Z L w a b c d e f g i=>ih k' hk' (by omega) fr tg back Z L w a b c d e f g i) s hd hk fr tg back Z L w h1 h2 h3 h4 h5 h6 h7 h8
end Go.Proofs.Y.S
namespace Go.Proofs.Y.S
open Go.RowKit Go.WideMaps Go.Maps Go.Proofs.Tryz
variable {p pw bw pt bt m N n:Nat} {R B:List (Int × Int × Int)} {W T:List Nat} {D:DataW Unit}
structure Bk (bw bt m:Nat) (w w':World):Prop where
 os:w'.os=w.os
 tape:w'.tape=w.tape
 output:w'.output=w.output
 size:w.heap.size<=w'.heap.size
 block:∀k,k<w.heap.size->k≠bw->k≠bt->k≠m->w'.heap[k]? =w.heap[k]?
theorem Bk.refl (w:World):Bk bw bt m w w:=⟨rfl,rfl,rfl,aF _,λ _ _ _ _ _=>rfl⟩
theorem Bk.of_below {w w':World}(h:Below w w w'):Bk bw bt m w w':=⟨h.os,h.tape,h.output,h.size,λ k hk _ _ _=>h.block k hk⟩
theorem Bk.zsj {w w':World}(h:But bw w w'):Bk bw bt m w w':=⟨h.os,h.tape,h.output,h.size,λ k hk h1 _ _=>h.block k hk h1⟩
theorem Bk.zvp {w w':World}(h:But bt w w'):Bk bw bt m w w':=⟨h.os,h.tape,h.output,h.size,λ k hk _ h1 _=>h.block k hk h1⟩
theorem Bk.zlu {w w':World}(h:w.grownBy w' (some m)):Bk bw bt m w w':=⟨h.os,h.tape,h.output,h.size,λ k hk _ _ h1=>h.block k hk (by simpa using h1)⟩
theorem Bk.trans {x y z:World}(h:Bk bw bt m x y)(k:Bk bw bt m y z):Bk bw bt m x z:=
 ⟨k.os.trans h.os,k.tape.trans h.tape,k.output.trans h.output,aD h.size k.size,λ i hi h1 h2 h3=>(k.block i (aR hi h.size) h1 h2 h3).trans (h.block i hi h1 h2 h3)⟩
theorem Bk.cell {w w':World}(h:Bk bw bt m w w'){g i:Nat}{v:Value}(hg:w.cell? (g,i)=some v)(h1:g≠bw)(h2:g≠bt)(h3:g≠m):w'.cell? (g,i)=some v:=by
 have hl:=lt_of_cell hg;simp only[World.cell?] at hg ⊢;rw[h.block g hl h1 h2 h3];exact hg
theorem Mg:∀(a b:List (Int × Int × Int)) (L:List Nat),joins L (a++b)=joins (joins L a) b
 |[],_,_=>rfl
 |x::a,b,L=>by
  show joins (joinL L (ea x) (eb x)) (a++b)=_;rw[Mg a b];rfl
theorem zot (w:World):(zeroValue 180).run prog w= .ok (Zx 0 0) w:=by kernel_rfl
theorem zjr {w:World}(h:BAt w p pw bw pt bt m N W T D)(hd:Dis D B){e:Int × Int × Int}(he:e∈B)(hw:(Lit.int .i64 e.1).wf=true)(hn:e.2.1=(ea e:Int)/\e.2.2=(eb e:Int)):
 (Instr.lookup 176 (.map m) e.1 false).run prog w= .ok (.agg #[(ea e:Int),(eb e:Int)]) w:=by
 obtain⟨v,ps,AQ,hR⟩:=h.hm.lookup Bp underlying176 (zot w) (Tj 0 0) (H6 e.1 hw);rw[hd.val e he] at hR;obtain⟨c,rfl,hc⟩:=Yn hR;have h1:Hl e.2.1 e.2.2=Hl c.1 c.2:=by injection hc
 obtain⟨h2,h3⟩:=Yo h1;rw[AQ,<-h2,<-h3,hn.1,hn.2];rfl
theorem zlk (a b:Int)(w:World):(Instr.field 180 (.agg #[a,b]) 0).run prog w= .ok a w:=by kernel_rfl
theorem zlz (a b:Int)(w:World):(Instr.field 180 (.agg #[a,b]) 1).run prog w= .ok b w:=by kernel_rfl
theorem zjv {w:World}{base:Nat}{v:Value}{ds:List (Int × Int × Int)}(h:w.ownsRow base 3 1 v ds.length (zfq ds)):∃a cap,v= .slice a ds.length cap/\(0<ds.length->∃g,a=some ⟨g,0,none⟩/\base<=g/\g<w.heap.size/\∀j e,ds[j]? =some e->w.cell? ⟨g,j,none⟩=some (.int .i64 e.1)):=by
 have h0:=h;rcases h.2 with⟨rfl,hz⟩|⟨g,cap,cur,rfl,hb,hg,_⟩
 ·exact⟨none,0,by rw[hz],λ k=>by omega⟩
 ·refine⟨_,cap,rfl,λ _=>⟨g,rfl,hb,lt_of_some hg,λ j e hj=>?_⟩⟩
  rw[h0.cellAt j (by have:=(aC.1 hj).1;omega)];simp[zfq,hj]
theorem zx {B ds:List (Int × Int × Int)}{j:Nat}{e:Int × Int × Int}(hj:ds[j]? =some e)(d:Int × Int × Int):d∈B.filter (λ d=>decide (d∉ds.take (j+1)))↔d∈B.filter (λ d=>decide (d∉ds.take j))/\d≠e:=by
 have ht:ds.take (j+1)=ds.take j++[e]:=by rw[bL,hj];rfl
 simp only[aO,dO,ht,aK,aJ,not_or];exact⟨λ h=>⟨⟨h.1,h.2.1⟩,h.2.2⟩,λ h=>⟨h.1.1,h.1.2,h.2⟩⟩
theorem zd9 {ds:List (Int × Int × Int)}(h:ds.Nodup){j:Nat}{e:Int × Int × Int}(hj:ds[j]? =some e):e∉ds.take j:=by
 intro hm;obtain⟨i,hi,he⟩:=dD.1 hm;obtain⟨hl,CE⟩:=aC.1 hj;have hi':i<j:=by simp at hi;omega
 rw[gP] at he;exact(dM.1 h i j (by omega) hl hi') (by rw[he,CE])
theorem zew (x y:Nat)(w:World)(h:BAt w p pw bw pt bt m N W T D)(s:St n R W T B)(hd:Dis D B)(hB:B.length<=1000)(hn:n<=40)(hx:x<n)(hy:y<n)(hc:cnR R x y)(DD:∀e∈R,(Lit.int .i64 e.1).wf=true):
 Calls prog 118 #[.pointer p,x,y] w λ e w'=>e=Value.tuple #[]/\∃ds D',(∀e,e∈ds↔Pg R x y e)/\BAt w' p pw bw pt bt m N W (joins T ds) D'/\Dis D' (B.filter λ e=>decide (e∉ds))/\Bk bw bt m w w':=by
 have hplt:=h.plt;have hblt:bw<w/\bt<w/\m<w:=⟨h.sw.blt,h.st.blt,h.hm.lt⟩;have HW:Hid (∀w',Below w w w'->BAt w' p pw bw pt bt m N W T D):=λ w' hb=>h.below hb
 obtain⟨X,hX⟩:∃X,T.getD x 0=X:=⟨_,rfl⟩;obtain⟨Y,hY⟩:∃Y,T.getD y 0=Y:=⟨_,rfl⟩;have hXn:X<n:=by rw[<-hX];exact s.lab hx
 have hYn:Y<n:=by rw[<-hY];exact s.lab hy
 have HX:Hid (T.getD x 0=X/\T.getD X 0=X):=⟨hX,by rw[<-hX];exact s.gt.idem x hx⟩;have HY:Hid (T.getD y 0=Y/\T.getD Y 0=Y):=⟨hY,by rw[<-hY];exact s.gt.idem y hy⟩;have HC:Hid (cnR R X Y):=by
  show cnR R X Y;rw[<-hX,<-hY];exact Ab (Ac (s.rep hx).1) (Ab hc (s.rep hy).1)
 have HS:=kd s;have HD:=kd hd;have HID:=kd DD;clear h s hd hX hY hc DD;go_enter func118,ntmps118;go_wp2_with fail;refine(Jg x w (HW.o w (aI _ _)) HS.o.gt hx HX.o.1).mono ?_;rintro e w1 ⟨rfl,b1⟩;have B1:=kd b1;clear b1;go_wp2_with fail;refine(Jg y w1 (HW.o w1 B1.o) HS.o.gt hy HY.o.1).mono ?_;rintro e w2 ⟨rfl,b2⟩;have B2:Hid (Below w w w2):=B1.o.tr b2;clear b2 B1;go_wp2_with fail;refine(zrl 1000 HS.o HD.o (aF _) X Y (-1) (·∈R) B w2 (HW.o w2 B2.o) (.inl ⟨rfl,rfl⟩) (λ d hd _ _=>(HS.o.hB d).2 hd) hB hXn HX.o.2 hYn HY.o.2).mono ?_;rintro e w3 ⟨b3,UR⟩;rcases UR with⟨_,v,ds,rfl,OL,hlen,o7⟩|⟨AA,_⟩
 case inr=>exact absurd HC.o AA
 obtain⟨av,cap,rfl,hav⟩:=zjv o7;have B3:Hid (Below w w w3):=B2.o.tr b3;have BL:=B2.o.size;have HAV:Hid (0<ds.length->∃g,av=some ⟨g,0,none⟩/\w.heap.size<=g/\g<w3.heap.size/\∀j e,ds[j]? =some e->w3.cell? ⟨g,j,none⟩=some (.int .i64 e.1)):=λ hl=>by
  obtain⟨g,h1,h2,h3,h4⟩:=hav hl;exact⟨g,h1,by omega,h3,h4⟩
 have HWY:Hid (ds.Nodup/\∀e,e∈ds↔Pg R x y e):=⟨OL.1,Way.ends HS.o hx hy (by rw[HX.o.1,HY.o.1];exact OL)⟩;have HWB:Hid (∀e∈ds,e∈B):=Way.zt0 HS.o HC.o OL;obtain⟨len,hlen'⟩:∃len,ds.length=len:=⟨_,rfl⟩;have EU:=kd hlen';rw[hlen'] at hlen ⊢;clear hav o7 OL b3 B2 BL hlen';go_wp2_with fail;go_loopw [9,23] (λ _ s23 wq=>∃j:Nat,j<=len/\s23=j/\∃Dj,BAt wq p pw bw pt bt m N W (joins T (ds.take j)) Dj/\Dis Dj (B.filter λ e=>decide (e∉ds.take j))/\Bk bw bt m w3 wq) (λ _ s23 _=>len-(intOf s23).toNat)
 case atStart=>
  refine⟨0,aN _,rfl,D,by simpa[joins] using HW.o w3 B3.o,?_,Bk.refl _⟩;have:(B.filter λ e=>decide (e∉ds.take 0))=B:=by simp
  rw[this];exact HD.o
 case round=>
  obtain⟨j,hj,rfl,Dj,XV,hdj,XP⟩:=hrel;by_cases j6:j<len
  ·obtain⟨e,he⟩:∃e,ds[j]? =some e:=⟨_,aB (by rw[EU.o];exact j6)⟩
   obtain⟨g,rfl,AX,AU,FL⟩:=HAV.o (by rw[EU.o];omega);have AO:wr.cell? (g,j)=e.1:=XP.cell (FL j e he) (by omega) (by omega) (by omega);have heB:=HWB.o e (aG he);have XW:=((HS.o.hB e).1 heB).1;have hinn:=HS.o.inn e XW;have heF:e∈B.filter λ e=>decide (e∉ds.take j):=aO.2 ⟨heB,by simpa using zd9 HWY.o.1 he⟩
   have MW:Good n (joins T (ds.take j)):=Ew _ T HS.o.gt (λ d hd=>HS.o.inn d ((HS.o.hB d).1 (HWB.o d (dB hd))).1);have HJ:Hid (joins T (ds.take (j+1))=joinL (joins T (ds.take j)) (ea e) (eb e)):=by
    show joins T (ds.take (j+1))=_;rw[bL,he];exact Mg _ _ _
   have HDD:Hid (Dis (Dj.del e.1) (B.filter λ e=>decide (e∉ds.take (j+1)))):=
    hdj.del e (λ d hd LA=>HS.o.one d ((HS.o.hB d).1 (aO.1 hd).1).1 e XW LA) (zx he)
   obtain⟨J,hJ⟩:∃J,J=joins T (ds.take j):=⟨_,rfl⟩;rw[<-hJ] at XV MW;have HJ':Hid (joins T (ds.take (j+1))=joinL J (ea e) (eb e)):=by
    show joins T (ds.take (j+1))=joinL J (ea e) (eb e);rw[hJ];exact HJ.o
   have HLK:Hid (∀{W' T':List Nat} {w':World},BAt w' p pw bw pt bt m N W' T' Dj->(Instr.lookup 176 (.map m) e.1 false).run prog w'= .ok (.agg #[(ea e:Int),(eb e:Int)]) w'):=λ hb=>zjr hb hdj heF (HID.o e XW) (HS.o.nat e XW)
   have o9:=H6 e.1 (HID.o e XW);have HKEY:=kd o9;have HBJ:=kd XV;have HKJ:=kd XP;have IY:=HLK.o XV.drew;have BV:wr.drew.cell? (p,1)=some (.pointer pt):=XV.drew.c1;have IZ:wr.drew.cell? (p,2)=some (.map m):=XV.drew.c2;have hA:ea e<J.length:=by rw[MW.len];exact hinn.1
   have hBn:eb e<J.length:=by rw[MW.len];exact hinn.2
   have hJl:J.length<=40:=by rw[MW.len];exact hn
   clear hJ HJ FL heB XW hinn heF MW XV hdj XP o9;generalize e.1=x0 at*;generalize ea e=A at*;generalize eb e=E at*;generalize p8:decide (J.getD A 0≠J.getD E 0)=ok;have II:=kd p8;clear p8 he;have hfa:=zlk (A:Int) (E:Int);have hfb:=zlz (A:Int) (E:Int);go_upto_region 4 with fail
   go_region_held (λ w'=>w'.cell? (p,1)=some (.pointer pt)/\w'.cell? (p,2)=some (.map m)/\(Instr.lookup 176 (.map m) x0 false).run prog w'= .ok (.agg #[A,E]) w') (exact⟨by assumption,by assumption,by assumption⟩)
    (first|(go_at_call 119;refine(Xg A E pt bt J ok _ (by exact HBJ.o.drew.st) hA hBn hJl II.o).mono ?_;rintro e w4 ⟨rfl,XB,hbt⟩;have BB:=HBJ.o.drew.zuo XB hbt;have d1:=BB.c1;have d2:=BB.c2;have d3:=HLK.o BB))
   all_goals
    have o8:=BB.hm;have EP:=kd BB;have EW:Hid (Bk bw bt m wr w4):=(Bk.of_below ((aI _ _).drew)).trans (Bk.zvp hbt);clear BB hbt XB d3 IY hfa hfb BV IZ d1;go_wp2_with (first
     |(at_delete;refine wpList_delete_own _ rfl _ _ 176 3 rfl 180 Bp underlying176 _ m N Dj rfl o8 _ _ rfl HKEY.o ?_;intro w5 BA hturn5;go_frame)
     |fail)
    have hgm:=hturn5.grown;have CV:=EP.o.mapped BA hgm;rw[<-HJ'.o] at CV;go_roundw;case rel=>exact⟨j+1,by omega,by go_num,_,CV,HDD.o,(HKJ.o.trans EW.o).trans (Bk.zlu hgm)⟩
    case measure=>simp[intOf];omega
  ·have CE:j=len:=by omega
   subst CE;have HF:Hid (BAt wr p pw bw pt bt m N W (joins T ds) Dj/\Dis Dj (B.filter λ e=>decide (e∉ds))/\Bk bw bt m w wr):=by
    have ht:ds.take j=ds:=by rw[<-EU.o];exact bK
    rw[ht] at XV hdj;exact⟨XV,hdj,(Bk.of_below B3.o).trans XP⟩
   clear XV hdj XP;go_wp2_with fail
   go_end0
   exact⟨rfl,ds,Dj,HWY.o.2,HF.o.1,HF.o.2.1,HF.o.2.2⟩
end Go.Proofs.Y.S
namespace Go.Proofs.Y.S
open Go.RowKit Go.WideMaps Go.Maps Go.Proofs.Tryz
variable {p pw bw pt bt m N n:Nat} {R B:List (Int × Int × Int)} {W T:List Nat} {D:DataW Unit}
theorem zda (L:List Nat)(x y:Nat):joinL L x y=joinL L y x:=by
 unfold joinL;rw[Nat.min_comm,Nat.max_comm]
def edge (i:Int)(x y:Nat):Int × Int × Int:=(i,((min x y:Nat):Int),((max x y:Nat):Int))
theorem jc (i:Int)(x y:Nat):(edge i x y).2.1=(ea (edge i x y):Int)/\(edge i x y).2.2=(eb (edge i x y):Int):=by simp[edge,ea,eb]
theorem Q3 (i:Int)(x y:Nat):ea (edge i x y)=min x y/\eb (edge i x y)=max x y:=by
 unfold edge ea eb;exact⟨by simp,by simp⟩
theorem Rv (i:Int)(x y:Nat):(ea (edge i x y)=x/\eb (edge i x y)=y)\/(ea (edge i x y)=y/\eb (edge i x y)=x):=by
 obtain⟨h1,h2⟩:=Q3 i x y;rw[h1,h2];omega
theorem zk9 {R:List (Int × Int × Int)}{x y:Nat}(e:Int × Int × Int):Pg R x y e↔Pg R y x e:=
 ⟨λ h=>⟨h.1,λ k=>h.2 (Ac k)⟩,λ h=>⟨h.1,λ k=>h.2 (Ac k)⟩⟩
structure Now (w:World) (p pw bw pt bt m N n:Nat) (R B:List (Int × Int × Int)) (W T:List Nat) (D:DataW Unit):Prop where
 at_:BAt w p pw bw pt bt m N W T D
 st:St n R W T B
 dis:Dis D B
theorem Now.below {w w':World}(h:Now w p pw bw pt bt m N n R B W T D)(hb:Below w w w'):Now w' p pw bw pt bt m N n R B W T D:=⟨h.at_.below hb,h.st,h.dis⟩
def Xn (w:World)(p pw bw pt bt m N n:Nat)(R B:List (Int × Int × Int))(i:Int)(x y:Nat)(e:Ending)(w':World):Prop:=
 ∃ok W' T' D' B' N',e=Value.tuple #[.bool ok,.nilIface]/\Now w' p pw bw pt bt m N' n (R++[edge i x y]) B' W' T' D'/\B'.length<=B.length+1/\N'<=N+1/\Bk bw bt m w w'/\(ok=true↔edge i x y∈B')
theorem zhf {w w':World}{D':DataW Unit}{N':Nat}(h:Now w p pw bw pt bt m N n R B W T D)(i:Int){x y:Nat}(hx:x<n)(hy:y<n)(AB:∀e∈R,e.1≠i)(l9:W.getD x 0≠W.getD y 0)
 (hb:BAt w' p pw bw pt bt m N' (joinL W x y) T D') (hD:D'=D.put i (Hl ((min x y:Nat):Int) ((max x y:Nat):Int))):
 Now w' p pw bw pt bt m N' n (R++[edge i x y]) (B++[edge i x y]) (joinL W x y) T D':=by
 obtain⟨h1,h2⟩:=Q3 i x y;have RS:min x y<n:=by omega
 have hmx:max x y<n:=by omega
 have hj:joinL W (ea (edge i x y)) (eb (edge i x y))=joinL W x y:=by
  rcases Rv i x y with⟨a,b⟩|⟨a,b⟩ <;> rw[a,b]
  exact zda _ _ _
 have hs:=h.st.apart (edge i x y) (by rw[h1];exact RS) (by rw[h2];exact hmx) (jc i x y) AB (by
  rcases Rv i x y with⟨a,b⟩|⟨a,b⟩ <;> rw[a,b]
  ·exact l9
  ·exact l9.symm)
 rw[hj] at hs;refine⟨hb,hs,?_⟩;rw[hD];exact h.dis.put h.at_.hm.isMap (edge i x y) (λ e he=>AB e ((h.st.hB e).1 he).1)
theorem zfe {w w':World}{D':DataW Unit}{ds:List (Int × Int × Int)}(h:Now w p pw bw pt bt m N n R B W T D)(i:Int){x y:Nat}(hx:x<n)(hy:y<n)(AB:∀e∈R,e.1≠i)(he:W.getD x 0=W.getD y 0)
 (UL:∀e,e∈ds↔Pg R x y e) (hb:BAt w' p pw bw pt bt m N W (joins T ds) D') (hd:Dis D' (B.filter λ e=>decide (e∉ds))):
 Now w' p pw bw pt bt m N n (R++[edge i x y]) (B.filter λ e=>decide (e∉ds)) W (joins T ds) D':=by
 obtain⟨h1,h2⟩:=Q3 i x y;refine⟨hb,h.st.within (edge i x y) (by rw[h1];omega) (by rw[h2];omega) (jc i x y) AB ?_ ?_ (λ e=>by simp[List.mem_filter]),hd⟩
 ·rcases Rv i x y with⟨a,b⟩|⟨a,b⟩ <;> rw[a,b]
  ·exact he
  ·exact he.symm
 ·intro e
  rw[UL];rcases Rv i x y with⟨a,b⟩|⟨a,b⟩ <;> rw[a,b]
  exact zk9 e
theorem zez (i:Int)(x y:Nat)(w:World)(h:Now w p pw bw pt bt m N n R B W T D)(hx:x<n)(hy:y<n)(hn:n<=40)(hN:N<=1000)(l9:W.getD x 0≠W.getD y 0)(AB:∀e∈R,e.1≠i)(GL:(Lit.int .i64 i).wf=true):
 Calls prog 57 #[.pointer p,i,x,y] w (Xn w p pw bw pt bt m N n R B i x y):=by
 have BO:((x:Int)==(y:Int))=false:=aH.2 (λ e=>l9 (by rw[iU.1 e]));have hWl:=h.st.gw.len;have HH:=kd h;have NS:=kd l9;have RU:=kd AB;have HKEY:Hid (keyOf prog 3 i=i):=H6 i GL;have j6:=h.at_.plt;clear h l9 AB;go_enter func57,ntmps57;go_wp2_with fail;refine(Sr x y false w HH.o.at_ (by omega) (by omega) (aH.2 (λ e=>NS.o (iU.1 e)))).mono ?_;rintro e w1 ⟨rfl,b1⟩;have j4:=HH.o.at_.below b1;have x8:=kd j4;have B1:=kd b1;have FZ:=j4.c0;clear b1 j4;go_wp2_with fail;refine(Xg x y pw bw W true w1 x8.o.sw (by omega) (by omega) (by omega) (bI NS.o)).mono ?_;rintro e w2 ⟨rfl,DJ,k2⟩;have j5:=x8.o.zun DJ k2;have y5:=kd j5;have K2:Hid (Bk bw bt m w w2):=(Bk.of_below B1.o).trans (Bk.zsj k2);have o8:=j5.hm;have IZ:=j5.c2;clear j5 DJ k2 FZ;go_wp2_with (first
  |(at_mapUpdate;refine wpList_mapUpdate_own _ rfl _ _ _ 176 rfl 3 180 Bp underlying176 Ho m N D rfl o8 (by unfold maxLen;omega) _ _ _ rfl rfl HKEY.o _ [] (Tj _ _) ?_;intro w5 BA AL)
  |fail)
 go_ret2;refine⟨true,_,_,_,_,_,rfl,zhf HH.o i hx hy RU.o NS.o (y5.o.mapped BA AL) ?_,by simp,aF _,K2.o.trans (Bk.zlu AL),by simp⟩;have e1:((min x y:Nat):Int)=min (x:Int) (y:Int):=by omega
 have e2:((max x y:Nat):Int)=max (x:Int) (y:Int):=by omega
 rw[e1,e2]
theorem za0 (i:Int)(x y:Nat)(w:World)(h:Now w p pw bw pt bt m N n R B W T D)(hx:x<n)(hy:y<n)(BO:x≠y)(hn:n<=40)(hB:B.length<=1000)(he:W.getD x 0=W.getD y 0)(AB:∀e∈R,e.1≠i)(DD:∀e∈R,(Lit.int .i64 e.1).wf=true):
 Calls prog 57 #[.pointer p,i,x,y] w (Xn w p pw bw pt bt m N n R B i x y):=by
 have hxy':((x:Int)==(y:Int))=false:=aH.2 (λ e=>BO (iU.1 e));have hWl:=h.st.gw.len;have HH:=kd h;have HE:=kd he;have RU:=kd AB;have HID:=kd DD;clear h he AB DD;go_enter func57,ntmps57;go_wp2_with fail;refine(Sr x y true w HH.o.at_ (by omega) (by omega) (by rw[HE.o];simp)).mono ?_;rintro e w1 ⟨rfl,b1⟩;have x8:Hid (BAt w1 p pw bw pt bt m N W T D):=HH.o.at_.below b1;have B1:=kd b1;clear b1;go_wp2_with fail;refine(zew x y w1 x8.o HH.o.st HH.o.dis hB hn hx hy ((HH.o.st.hW x y).1 ((Lk.iff hx hy).2 HE.o)) HID.o).mono ?_;rintro e w2 ⟨rfl,ds,D',UL,j5,MC,k2⟩;have HX:Hid (Now w2 p pw bw pt bt m N n (R++[edge i x y]) (B.filter λ e=>decide (e∉ds)) W (joins T ds) D'/\Bk bw bt m w w2):=⟨zfe HH.o i hx hy RU.o HE.o UL j5 MC,(Bk.of_below B1.o).trans k2⟩;clear UL j5 MC k2;go_wp2;go_ret2;refine⟨false,_,_,_,_,_,rfl,HX.o.1,?_,iE _,HX.o.2,?_⟩
 ·have:=aW (λ e=>decide (e∉ds)) B
  omega
 ·refine⟨λ k=>absurd k (by simp),λ k=>?_⟩
  have h1:=(HH.o.st.hB _).1 (aO.1 k).1;exact absurd rfl (RU.o _ h1.1)
theorem zq2 (i:Int)(x y:Nat)(w:World)(h:Now w p pw bw pt bt m N n R B W T D)(hx:x<n)(hy:y<n)(BO:x≠y)(hn:n<=40)(hN:N<=1000)(hB:B.length<=1000)(AB:∀e∈R,e.1≠i)(GL:(Lit.int .i64 i).wf=true)(DD:∀e∈R,(Lit.int .i64 e.1).wf=true):
 Calls prog 57 #[.pointer p,i,x,y] w (Xn w p pw bw pt bt m N n R B i x y):=by
 by_cases he:W.getD x 0=W.getD y 0
 ·exact za0 i x y w h hx hy BO hn hB he AB DD
 ·exact zez i x y w h hx hy hn hN he AB GL
end Go.Proofs.Y.S
namespace Go.Proofs.Y.S
open Go.RowKit Go.WideMaps Go.Maps
theorem U9 {n:Nat}{A B:List Nat}(ha:A.length=n)(hb:B.length=n)(h:∀i,i<n->A.getD i 0=B.getD i 0):A=B:=by
 apply eB
 ·omega
 ·intro i h1 h2
  have:=h i (by omega)
  simpa[h1,h2] using this
variable {n:Nat} {R B:List (Int × Int × Int)} {W T:List Nat}
theorem Wp {L M:List Nat}(g:Good n L)(h:Good n M)(e:∀u v,Lk n L u v↔Lk n M u v):L=M:=by
 have key:∀{L M:List Nat},Good n L->Good n M->(∀u v,Lk n L u v↔Lk n M u v)->∀i,i<n->M.getD i 0<=L.getD i 0:=by
  intro L M g h e i hi;have hl:L.getD i 0<n:=dS (g.le i hi) hi;have h1:Lk n L (L.getD i 0) i:=(Lk.iff hl hi).2 (g.idem i hi);have h2:=(Lk.iff hl hi).1 ((e _ _).1 h1);rw[<-h2];exact h.le _ hl
 refine U9 g.len h.len (λ i hi=>?_);have h1:=key g h e i hi;have h2:=key h g (λ u v=>(e u v).symm) i hi;omega
def brs (R B:List (Int × Int × Int)):List (Int × Int × Int):=R.filter λ e=>decide (e∈B)
theorem zbg (s:St n R W T B)(e:Int × Int × Int):e∈brs R B↔brR R e:=by
 unfold brs;rw[aO,dO,s.hB];exact⟨λ h=>h.2,λ h=>⟨h.1,h⟩⟩
def Unl (R:List (Int × Int × Int)):Prop:=R.Pairwise λ x y=>x.1≠y.1
theorem Nj (h:Unl R):(Az R B).Nodup:=by
 unfold Az;rw[List.Nodup,iB];exact eG _ h
def ups (R B:List (Int × Int × Int)):List Int:=(Az R B).mergeSort λ x y=>decide (x<=y)
theorem ze3 (R B:List (Int × Int × Int)):(ups R B).length=(Az R B).length:=by
 unfold ups;exact List.length_mergeSort _
theorem Qx (s:St n R W T B)(x:Int):x∈Az R B↔∃e,brR R e/\e.1=x:=by
 unfold Az;rw[aY];constructor
 ·rintro⟨e,he,rfl⟩;exact⟨e,(zbg s e).1 he,rfl⟩
 ·rintro⟨e,he,rfl⟩;exact⟨e,(zbg s e).2 he,rfl⟩
theorem Ov {R' B':List (Int × Int × Int)}{W' T':List Nat}(s:St n R W T B)(s':St n R' W' T' B')(hp:R.Perm R')(h:Unl R):W=W'/\T=T'/\ups R B=ups R' B':=by
 have hm:(λ e=>e∈R)=λ e=>e∈R':=by funext e;exact propext hp.mem_iff
 have h':Unl R':=hp.pairwise h (λ {a b} k=>k.symm);refine⟨Wp s.gw s'.gw (λ u v=>?_),Wp s.gt s'.gt (λ u v=>?_),?_⟩
 ·rw[s.hW,s'.hW];simp only[cnR];rw[hm]
 ·rw[s.hT,s'.hT];simp only[twR];rw[hm]
 ·unfold ups
  refine mergeSort_of_perm_i ((List.perm_ext_iff_of_nodup (Nj h) (Nj h')).2 λ x=>?_);rw[Qx s,Qx s'];simp only[brR];rw[hm]
end Go.Proofs.Y.S
namespace Go.Proofs.Y.S
open Go.RowKit Go.WideMaps Go.Maps Go.Sort Go.Shelf Go.Proofs.Tryz
variable {p pw bw pt bt m N n:Nat} {W T:List Nat} {D:DataW Unit}
theorem Uy (k:Nat):AnyZI.SortsIn prog Tryz.sortedA_ren Fence.wide k:=
 ⟨λ blk off cap ss W hH UY BS=>callsIn_wide.2 (AnyM.slices_Sort_int Tryz.sortA blk off cap ss W hH UY BS),
  λ p cap W=>callsIn_wide.2 (AnyM.slices_Sort_int_none Tryz.sortA p cap W)⟩
theorem zpl (w:World)(h:BAt w p pw bw pt bt m N W T D)(hN:N<=1000):
 Calls prog 78 #[.pointer p] w λ e w'=>∃(v:Value) (ss:List Int),e=v/\ss.Perm (intKeys D)/\
  w'.ownsRow w 3 1 v ss.length ((ss.mergeSort (λ x y=>decide (x<=y))).map encZ)/\(v= .slice none 0 0↔ss=[])/\Below w w w':=by
 refine(callsIn_wide (n:=6)).1 ?_;have hc:=h.c2;have o8:=h.hm;have GM:Maps.size D<=maxLen:=aD o8.size_le (by unfold maxLen;omega);have DC:Maps.size D*8<=140737488355328:=by have:=o8.size_le;omega
 clear h;have BH:=o8.lt;have IP:SeqGives Fence.wide 2 prog 244 #[.pointer w] encZ (λ ss=>ss.Perm (intKeys D)) (Maps.size D) (w.alloc (.cells #[.map m] 176)):=
  AnyZI.keys_gives (ρ:=Tryz.keysA_ren) {Tryz.keysA with} Fence.wide _ trivial rfl (by omega) w m N D _ (by simp) (by simp) (by
   obtain⟨es,clock,hb,Ft,hs,hD⟩:=o8;exact⟨es,clock,(bG _ _ m BH).trans hb,Ft,hs,hD⟩)
 have cK:∀mb W,CallsIn Fence.wide 5 prog 134 #[.map mb] W λ e w'=>e= .returned (.func (.func 244) #[] #[.pointer (some ⟨W.heap.size,0,none⟩)])/\w'=W.alloc (.cells #[.map mb] 176):=λ mb W=>AnyZI.keys_in Tryz.keysA Fence.wide 5 trivial rfl mb W
 have cS:=AnyZI.sorted_in Tryz.sortedA Fence.wide 5 trivial trivial trivial trivial rfl (by omega) (Uy _) (enters_of func243 (by kernel_rfl) rfl) 244 #[.pointer w] trivial (enters_of func244 (by kernel_rfl) rfl) _ _ GM DC _ IP;change CallsIn _ _ prog 133 _ _ _ at cS
 have hfK:Fence.wide.fn 134:=trivial;have hfS:Fence.wide.fn 133:=trivial;clear o8 IP GM DC BH;refine callsIn_of_wp func78 rfl trivial ?_ rfl;simp only[ntmps78,bZ,bD,dU,Nat.reduceAdd,Nat.reduceSub,fE,fF,fZ,fI,dX,dZ]
 gi_wp2_with (first
  |(gi_at_call 134;refine(cK _ _).mono ?_;rintro e w' ⟨rfl,rfl⟩)
  |(gi_at_call 133;refine cS.mono ?_;rintro e w' ⟨v,ss,rfl,hS,o7,IJ,hb⟩))
 go_ret;exact⟨v,ss,rfl,hS,ownsRow_base_a o7 (by simp),IJ,(b_).trans (hb.mono (by simp))⟩
end Go.Proofs.Y.S
namespace Go.Proofs.Y.S
def tch (e:Int × Int × Int)(x:Nat):Prop:=ea e=x\/eb e=x
instance (e:Int × Int × Int) (x:Nat):Decidable (tch e x):=inferInstanceAs (Decidable (_\/_))
def ot (e:Int × Int × Int)(x:Nat):Nat:=if x=ea e then eb e else ea e
def wo (R:List (Int × Int × Int))(x:Nat):List (Int × Int × Int):=R.filter λ d=>decide (ea d≠x/\eb d≠x)
def Rx (R:List (Int × Int × Int))(x i j:Nat):Prop:=∃e f,R[i]? =some e/\R[j]? =some f/\tch e x/\tch f x/\cnR (wo R x) (ot e x) (ot f x)
def Blk (R:List (Int × Int × Int)):Nat->Nat->Prop:=Ag λ i j=>∃x,Rx R x i j
section
variable {R:List (Int × Int × Int)} {x y z i j k u v:Nat} {e f:Int × Int × Int}
theorem Ob:e∈wo R x↔e∈R/\ea e≠x/\eb e≠x:=by simp[wo]
theorem zf1 (_:tch e x)(hp:ea e≠eb e):tch e (ot e x)/\ot e x≠x:=by
 unfold tch ot at*;split
 ·next k=>exact⟨.inr rfl,λ c=>hp (by omega)⟩
 ·next k=>exact⟨.inl rfl,λ c=>k c.symm⟩
theorem Zt (h:tch e x)(hy:tch e y)(l9:y≠x):ot e x=y:=by
 unfold tch ot at*;split <;> omega
theorem alone (h:cnR (wo R x) x y):y=x:=by
 have:(x=x↔y=x):=Ag.least (P:=λ u v=>(u=x↔v=x)) h (λ _=>Iff.rfl) (λ _ _ h=>h.symm) (λ _ _ _ h k=>h.trans k) (by
  rintro _ _ ⟨e,he,rfl,rfl⟩;have:=Ob.1 he;constructor <;> intro c <;> omega)
 exact this.1 rfl
theorem Rx.symm (h:Rx R x i j):Rx R x j i:=by
 obtain⟨e,f,h1,h2,h3,h4,h5⟩:=h;exact⟨f,e,h2,h1,h4,h3,Ac h5⟩
theorem Rx.trans (h:Rx R x i j)(k':Rx R x j k):Rx R x i k:=by
 obtain⟨e,f,h1,h2,h3,h4,h5⟩:=h;obtain⟨f',g,k1,k2,k3,k4,k5⟩:=k';rw[h2] at k1;cases k1;exact⟨e,g,h1,k2,h3,k4,Ab h5 k5⟩
theorem Rx.refl (h:R[i]? =some e)(ht:tch e x):Rx R x i i:=⟨e,e,h,h,ht,ht,Bc _⟩
theorem zqk (hp:∀e∈R,ea e≠eb e):(∃u v,u≠x/\v≠x/\cnR R u v/\¬cnR (wo R x) u v)↔∃e∈R,∃f∈R,tch e x/\tch f x/\¬cnR (wo R x) (ot e x) (ot f x):=by
 have edge:∀{e},e∈R->tch e x->cnR R (ot e x) x:=by
  intro e he ht;have hpe:=hp e he;have:=Ao (a:=ea) (b:=eb) (T:=(·∈R)) he;rcases ht with h|h
  ·rw[Zt (y:=eb e) (.inl h) (.inr rfl) (by omega)];rw[h] at this;exact Ac this
  ·rw[Zt (y:=ea e) (.inr h) (.inl rfl) (by omega)];rw[h] at this;exact this
 constructor
 ·rintro⟨u,v,hu,hv,h,hn⟩
  refine bU λ AA=>?_
  have y7:∀e∈R,∀f∈R,tch e x->tch f x->cnR (wo R x) (ot e x) (ot f x):=λ e he f hf h1 h2=>bU λ c=>AA ⟨e,he,f,hf,h1,h2,c⟩
  have key:=Ag.least (P:=λ u v=>((u=x\/∃e∈R,tch e x/\cnR (wo R x) u (ot e x))/\(v=x\/∃e∈R,tch e x/\cnR (wo R x) v (ot e x)))\/cnR (wo R x) u v) h (λ _=>.inr (Bc _)) ?_ ?_ ?_
  ·rcases key with⟨h1,h2⟩|h1
   ·rcases h1 with h1|⟨e,he,ht,h1⟩
    ·exact hu h1
    ·rcases h2 with h2|⟨f,hf,ht',h2⟩
     ·exact hv h2
     ·exact hn (Ab h1 (Ab (y7 e he f hf ht ht') (Ac h2)))
   ·exact hn h1
  ·rintro u v (⟨h1,h2⟩|h)
   ·exact .inl ⟨h2,h1⟩
   ·exact .inr (Ac h)
  ·have go:∀{v w},(v=x\/∃e∈R,tch e x/\cnR (wo R x) v (ot e x))->cnR (wo R x) v w->(w=x\/∃e∈R,tch e x/\cnR (wo R x) w (ot e x)):=by
    rintro v w (rfl|⟨e,he,ht,h⟩) hc
    ·exact .inl (alone hc)
    ·exact .inr ⟨e,he,ht,Ab (Ac hc) h⟩
   rintro u v w (⟨h1,h2⟩|h) (⟨k1,k2⟩|k)
   ·exact .inl ⟨h1,k2⟩
   ·exact .inl ⟨h1,go h2 k⟩
   ·exact .inl ⟨go k1 (Ac h),k2⟩
   ·exact .inr (Ab h k)
  ·rintro _ _ ⟨d,hd,rfl,rfl⟩
   have hpd:=hp d hd;by_cases ht:tch d x
   ·refine .inl ?_
    rcases ht with h|h
    ·exact⟨.inl h,.inr ⟨d,hd,.inl h,by rw[Zt (y:=eb d) (.inl h) (.inr rfl) (by omega)];exact Bc _⟩⟩
    ·exact⟨.inr ⟨d,hd,.inr h,by rw[Zt (y:=ea d) (.inr h) (.inl rfl) (by omega)];exact Bc _⟩,.inl h⟩
   ·exact .inr (Ao (Ob.2 ⟨hd,λ c=>ht (.inl c),λ c=>ht (.inr c)⟩))
 ·rintro⟨e,he,f,hf,h1,h2,h3⟩
  exact⟨ot e x,ot f x,(zf1 h1 (hp e he)).2,(zf1 h2 (hp f hf)).2,Ab (edge he h1) (Ac (edge hf h2)),h3⟩
structure Bs (R:List (Int × Int × Int)) (x:Nat) (D L:List Nat):Prop where
 good:Good R.length L
 alike:∀u v,Lk R.length L u v↔Ag (λ i j=>(∃y,y<x/\Rx R y i j)\/(i∈D/\j∈D/\Rx R x i j)) u v
variable {D L:List Nat}
theorem zkh (R:List (Int × Int × Int)):Bs R 0 [] (List.range R.length):=by
 refine⟨Dg _,λ u v=>⟨?_,λ h=>?_⟩⟩
 ·rintro(rfl|⟨h1,h2,h3⟩)
  ·exact Ag.refl _
  ·have e1:(List.range R.length).getD u 0=u:=by simp[h1]
   have e2:(List.range R.length).getD v 0=v:=by simp[h2]
   rw[e1,e2] at h3;subst h3;exact Ag.refl _
 ·exact Ag.least (P:=Lk R.length (List.range R.length)) h (λ _=>Lk.refl _) (λ _ _ h=>h.symm) (λ _ _ _ h k=>h.trans k) (by
   rintro i j (⟨y,hy,_⟩|⟨h,_⟩)
   ·omega
   ·simp at h)
theorem Rx.lt (h:Rx R x i j):i<R.length/\j<R.length:=by
 obtain⟨e,f,h1,h2,_⟩:=h;exact⟨(aC.1 h1).1,(aC.1 h2).1⟩
theorem zsi (s:Bs R x D L)(AA:∀j∈D,¬Rx R x j i):Bs R x (D++[i]) L:=by
 refine⟨s.good,λ u v=>?_⟩;rw[s.alike];constructor
 ·intro h
  refine Ag.lift h ?_;rintro p q (h|⟨h1,h2,h3⟩)
  ·exact Ag.base (.inl h)
  ·exact Ag.base (.inr ⟨bE _ h1,bE _ h2,h3⟩)
 ·intro h
  refine Ag.lift h ?_;rintro p q (h|⟨h1,h2,h3⟩)
  ·exact Ag.base (.inl h)
  ·rcases aK.1 h1 with h1|h1
   ·rcases aK.1 h2 with h2|h2
    ·exact Ag.base (.inr ⟨h1,h2,h3⟩)
    ·rw[aJ.1 h2] at h3
     exact absurd h3 (AA p h1)
   ·rcases aK.1 h2 with h2|h2
    ·rw[aJ.1 h1] at h3
     exact absurd h3.symm (AA q h2)
    ·rw[aJ.1 h1,aJ.1 h2];exact Ag.refl _
theorem zpu (s:Bs R x D L)(hj:j∈D)(h:Rx R x j i):Bs R x (D++[i]) (joinL L j i):=by
 have hl:=h.lt;refine⟨Nf s.good hl.1 hl.2,λ u v=>?_⟩;rw[Iz s.good.len hl.1 hl.2];have up:∀{u v},Lk R.length L u v->Ag (λ p q=>(∃y,y<x/\Rx R y p q)\/(p∈D++[i]/\q∈D++[i]/\Rx R x p q)) u v:=by
  intro u v h;refine Ag.lift ((s.alike u v).1 h) ?_;rintro p q (h|⟨h1,h2,h3⟩)
  ·exact Ag.base (.inl h)
  ·exact Ag.base (.inr ⟨bE _ h1,bE _ h2,h3⟩)
 have b:Ag (λ p q=>(∃y,y<x/\Rx R y p q)\/(p∈D++[i]/\q∈D++[i]/\Rx R x p q)) j i:=Ag.base (.inr ⟨bE _ hj,by simp,h⟩);constructor
 ·rintro(h|⟨h,k⟩|⟨h,k⟩)
  ·exact up h
  ·exact(up h).trans (b.trans (up k))
  ·exact(up h).trans (b.symm.trans (up k))
 ·intro h'
  have key:Lk R.length (joinL L j i) u v:=Ag.least (P:=Lk R.length (joinL L j i)) h' (λ _=>Lk.refl _) (λ _ _ h=>h.symm) (λ _ _ _ h k=>h.trans k) (by
   have old:∀{p q},Lk R.length L p q->Lk R.length (joinL L j i) p q:=λ h=>(Iz s.good.len hl.1 hl.2).2 (.inl h)
   have ji:Lk R.length (joinL L j i) j i:=(Iz s.good.len hl.1 hl.2).2 (.inr (.inl ⟨Lk.refl _,Lk.refl _⟩));rintro p q (h1|⟨h1,h2,h3⟩)
   ·exact old ((s.alike p q).2 (Ag.base (.inl h1)))
   ·rcases aK.1 h1 with h1|h1
    ·rcases aK.1 h2 with h2|h2
     ·exact old ((s.alike p q).2 (Ag.base (.inr ⟨h1,h2,h3⟩)))
     ·rw[aJ.1 h2] at h3 ⊢
      exact(old ((s.alike p j).2 (Ag.base (.inr ⟨h1,hj,h3.trans h.symm⟩)))).trans ji
    ·rw[aJ.1 h1] at h3 ⊢
     rcases aK.1 h2 with h2|h2
     ·exact(ji.symm).trans (old ((s.alike j q).2 (Ag.base (.inr ⟨hj,h2,h.trans h3⟩))))
     ·rw[aJ.1 h2];exact Lk.refl _)
  exact(Iz s.good.len hl.1 hl.2).1 key
theorem zrb (s:Bs R x D L)(hD:∀i e,R[i]? =some e->tch e x->i∈D):Bs R (x+1) [] L:=by
 refine⟨s.good,λ u v=>?_⟩;rw[s.alike];constructor
 ·intro h
  refine Ag.lift h ?_;rintro p q (⟨y,hy,h⟩|⟨_,_,h3⟩)
  ·exact Ag.base (.inl ⟨y,by omega,h⟩)
  ·exact Ag.base (.inl ⟨x,by omega,h3⟩)
 ·intro h
  refine Ag.lift h ?_;rintro p q (⟨y,hy,h⟩|⟨h,_⟩)
  ·by_cases c:y=x
   ·rw[c] at h
    obtain⟨e,f,h1,h2,h3,h4,_⟩:=id h;exact Ag.base (.inr ⟨hD p e h1 h3,hD q f h2 h4,h⟩)
   ·exact Ag.base (.inl ⟨y,by omega,h⟩)
  ·simp at h
def lb (R:List (Int × Int × Int))(x:Nat)(K:List Nat)(j:Nat):Nat:=K.getD (ot (R.getD j (0,0,0)) x) 0
structure Gth (R:List (Int × Int × Int)) (x:Nat) (K D:List Nat) (ks:List (Nat × Nat)):Prop where
 nd:ks.Pairwise λ p q=>p.1≠q.1
 at_:∀p∈ks,p.2∈D/\lb R x K p.2=p.1
 all:∀j∈D,∃p∈ks,p.1=lb R x K j
theorem zgc (R:List (Int × Int × Int))(x:Nat)(K:List Nat):Gth R x K [] []:=⟨.nil,by simp,by simp⟩
theorem zqa {K:List Nat}{ks:List (Nat × Nat)}(g:Gth R x K D ks)(AA:∀p∈ks,p.1≠lb R x K i):Gth R x K (D++[i]) (ks++[(lb R x K i,i)]):=by
 refine⟨?_,?_,?_⟩
 ·rw[iZ]
  exact⟨g.nd,gV _ _,λ p hp q hq=>by rw[aJ.1 hq];exact AA p hp⟩
 ·intro p hp
  rcases aK.1 hp with h|h
  ·exact⟨bE _ (g.at_ p h).1,(g.at_ p h).2⟩
  ·rw[aJ.1 h];exact⟨by simp,rfl⟩
 ·intro j hj
  rcases aK.1 hj with h|h
  ·obtain⟨p,h1,h2⟩:=g.all j h
   exact⟨p,bE _ h1,h2⟩
  ·rw[aJ.1 h];exact⟨(lb R x K i,i),by simp,rfl⟩
theorem zpc {K:List Nat}{ks:List (Nat × Nat)}(g:Gth R x K D ks){p:Nat × Nat}(hp:p∈ks)(h:p.1=lb R x K i):Gth R x K (D++[i]) ks:=by
 refine⟨g.nd,λ p hp=>⟨bE _ (g.at_ p hp).1,(g.at_ p hp).2⟩,?_⟩;intro j hj;rcases aK.1 hj with h'|h'
 ·exact g.all j h'
 ·rw[aJ.1 h'];exact⟨p,hp,h⟩
theorem Lf {i:Nat}(h:R[i]? =some e):R.getD i (0,0,0)=e:=by simp[h]
def Kx (n:Nat)(R:List (Int × Int × Int))(x:Nat)(K:List Nat):Prop:=∀u v,u<n->v<n->(K.getD u 0=K.getD v 0↔cnR (wo R x) u v)
theorem Zy {n:Nat}(p9:∀e∈R,ea e<n/\eb e<n)(he:e∈R):ot e x<n:=by
 have:=p9 e he;unfold ot;split <;> omega
theorem zoa {n:Nat}{K:List Nat}(hK:Kx n R x K)(p9:∀e∈R,ea e<n/\eb e<n)(hi:R[i]? =some e)(hj:R[j]? =some f)(he:tch e x)(hf:tch f x):Rx R x i j↔lb R x K i=lb R x K j:=by
 unfold lb;rw[Lf hi,Lf hj,hK _ _ (Zy p9 (aG hi)) (Zy p9 (aG hj))];constructor
 ·rintro⟨e',f',h1,h2,_,_,h5⟩
  rw[hi] at h1;rw[hj] at h2;cases h1;cases h2;exact h5
 ·exact λ h=>⟨e,f,hi,hj,he,hf,h⟩
theorem zoy {n:Nat}{K:List Nat}{ks:List (Nat × Nat)}(g:Gth R x K D ks)(hK:Kx n R x K)(p9:∀e∈R,ea e<n/\eb e<n)(hD:∀i,i∈D↔∃e,R[i]? =some e/\tch e x):
 1<ks.length↔∃e∈R,∃f∈R,tch e x/\tch f x/\¬cnR (wo R x) (ot e x) (ot f x):=by
 have key:∀{i j e f},R[i]? =some e->R[j]? =some f->(lb R x K i=lb R x K j↔cnR (wo R x) (ot e x) (ot f x)):=by
  intro i j e f hi hj;unfold lb;rw[Lf hi,Lf hj,hK _ _ (Zy p9 (aG hi)) (Zy p9 (aG hj))]
 constructor
 ·intro h
  match ks,g,h with
  |p::q::r,g,_=>
   have h1:=g.at_ p (by simp);have h2:=g.at_ q (by simp);obtain⟨e,he,ht⟩:=(hD _).1 h1.1;obtain⟨f,hf,ht'⟩:=(hD _).1 h2.1;refine⟨e,aG he,f,aG hf,ht,ht',λ c=>?_⟩;rw[<-key he hf,h1.2,h2.2] at c;exact(iJ.1 g.nd).1 q (by simp) c
 ·rintro⟨e,he,f,hf,ht,ht',h⟩
  obtain⟨i,hi⟩:=bY he;obtain⟨j,hj⟩:=bY hf;obtain⟨p,hp,hp'⟩:=g.all i ((hD i).2 ⟨e,hi,ht⟩);obtain⟨q,hq,hq'⟩:=g.all j ((hD j).2 ⟨f,hj,ht'⟩);rw[<-key hi hj,<-hp',<-hq'] at h
  match ks,hp,hq with
  |[],hp,_=>simp at hp
  |[r],hp,hq=>
   rw[aJ.1 hp,aJ.1 hq] at h;exact absurd rfl h
  |_::_::_,_,_=>simp
def Lbs (R:List (Int × Int × Int))(l:List Nat):Prop:=l.length=R.length/\∀i,i<R.length->l.getD i 0<=i/\Blk R i (l.getD i 0)
theorem ziy (R:List (Int × Int × Int)):Lbs R (List.range R.length):=⟨by simp,λ i hi=>by
 have e:(List.range R.length).getD i 0=i:=by simp[hi]
 rw[e];exact⟨aF _,Ag.refl _⟩⟩
theorem znl {l:List Nat}(h:Lbs R l)(hr:Rx R x i k)(j6:l.getD i 0<l.getD k 0):Lbs R (l.set k (l.getD i 0))/\(l.set k (l.getD i 0)).sum<l.sum:=by
 have hl:=hr.lt;refine⟨⟨by simp[h.1],λ j hj=>?_⟩,?_⟩
 ·by_cases c:k=j
  ·subst c
   have e:(l.set k (l.getD i 0)).getD k 0=l.getD i 0:=by simp[h.1,hl.2]
   rw[e];have h1:=h.2 k hl.2;exact⟨by omega,(Ag.base ⟨x,hr.symm⟩:Blk R k i).trans (h.2 i hl.1).2⟩
  ·have e:(l.set k (l.getD i 0)).getD j 0=l.getD j 0:=by simp[c]
   rw[e];exact h.2 j hj
 ·have:=Rj l k (l.getD i 0) (by rw[h.1];exact hl.2)
  omega
theorem zna {l:List Nat}(h:Lbs R l)(hd:∀x i k,Rx R x i k->¬l.getD i 0<l.getD k 0):Good R.length l/\∀u v,Lk R.length l u v↔Blk R u v:=by
 have hiff:∀u v,Lk R.length l u v↔Blk R u v:=by
  intro u v;constructor
  ·rintro(rfl|⟨h1,h2,h3⟩)
   ·exact Ag.refl _
   ·have a:=(h.2 u h1).2
    have b:=(h.2 v h2).2;rw[h3] at a;exact Ag.trans a (Ag.symm b)
  ·intro k
   exact Ag.least (P:=Lk R.length l) k (λ _=>Lk.refl _) (λ _ _ h=>h.symm) (λ _ _ _ h k=>h.trans k) (by
    rintro p q ⟨x,hr⟩;have h1:=hd x p q hr;have h2:=hd x q p hr.symm;exact .inr ⟨hr.lt.1,hr.lt.2,by omega⟩)
 refine⟨⟨h.1,λ i hi=>(h.2 i hi).1,λ i hi=>?_⟩,hiff⟩;have h1:=(hiff i (l.getD i 0)).2 (h.2 i hi).2;rcases h1 with h1|⟨_,_,h3⟩
 ·rw[<-h1,<-h1]
 ·exact h3.symm
end
end Go.Proofs.Y.S
