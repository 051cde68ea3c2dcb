import Derived.Test.YtebcjaenhiiflaaGreatDoorQHi
import Derived.Test.YtebcjaenhiiflaaGreatDoorProg
import Derived.RowKit
import Derived.WalkKit
import Derived.WalkSpells
import Derived.WalkLawsBesides
import Derived.Recover
import Derived.Deep.QuietTactic
import Derived.BigQuiet
import Derived.Deep.OwnRows
import Derived.Maps.OwnRows
import Derived.Maps.Views
set_option maxHeartbeats 1000000
set_option maxRecDepth 100000
namespace Go.Proofs.Y.S
open Go.RowKit
def vals (L:List Nat):Array Value:=(L.map λ x:Nat=>Value.int .i64 (x:Int)).toArray
structure Aa (w:World) (p b:Nat) (L:List Nat):Prop where
 hp:w.heap[p]? =some (.cells #[.slice b L.length L.length] 268)
 hb:w.heap[b]? =some (.cells (vals L) 3)
theorem Aa.K7 {w:World}{p b:Nat}{L:List Nat}(h:Aa w p b L):w.cell? p=some (.slice b L.length L.length):=by
 simp[World.cell?,h.hp]
theorem Aa.La {w:World}{p b:Nat}{L:List Nat}(h:Aa w p b L)(i:Nat)(hi:i<L.length):w.cell? (b,i)=((L.getD i 0:Nat):Int):=by
 simp[World.cell?,h.hb,vals,hi]
theorem Aa.Wx {w:World}{p b:Nat}{L:List Nat}(h:Aa w p b L)(i:Nat):w.frozen? (b,i)=false:=by
 simp[World.frozen?,h.hb]
theorem lt_of_some {w:World}{k:Nat}{o:Obj}(h:w.heap[k]? =some o):k<w:=by
 rcases eH k w.heap.size with h'|h'
 ·exact h'
 ·simp[Array.getElem?_eq_none h'] at h
theorem Aa.plt {w:World}{p b:Nat}{L:List Nat}(h:Aa w p b L):p<w:=lt_of_some h.hp
theorem Aa.blt {w:World}{p b:Nat}{L:List Nat}(h:Aa w p b L):b<w:=lt_of_some h.hb
theorem Aa.ne {w:World}{p b:Nat}{L:List Nat}(h:Aa w p b L):p≠b:=by
 intro e;have h1:=h.hp;rw[e,h.hb] at h1;injection h1 with h1
 injection h1 with _ h2
 exact absurd h2 (by decide)
theorem Aa.below {w w':World}{p b B:Nat}{L:List Nat}(h:Aa w p b L)(k:Below B w w')(hp:p<B)(hb:b<B):Aa w' p b L:=
 ⟨by rw[k.block p hp];exact h.hp,by rw[k.block b hb];exact h.hb⟩
structure But (b:Nat) (w w':World):Prop where
 os:w'.os=w.os
 tape:w'.tape=w.tape
 output:w'.output=w.output
 size:w.heap.size<=w'.heap.size
 block:∀k,k<w.heap.size->k≠b->w'.heap[k]? =w.heap[k]?
theorem But.of_below {b:Nat}{w w':World}(h:Below w w w'):But b w w':=⟨h.os,h.tape,h.output,h.size,λ k hk _=>h.block k hk⟩
theorem But.refl (b:Nat)(w:World):But b w w:=⟨rfl,rfl,rfl,aF _,λ _ _ _=>rfl⟩
theorem But.trans {b:Nat}{x y z:World}(h:But b x y)(k:But b y z):But b x z:=
 ⟨k.os.trans h.os,k.tape.trans h.tape,k.output.trans h.output,aD h.size k.size,λ i hi hn=>(k.block i (aR hi h.size) hn).trans (h.block i hi hn)⟩
theorem But.below {b B:Nat}{w w':World}(h:But b w w')(hB:B<=b)(hb:B<=w):Below B w w':=
 ⟨h.os,h.tape,h.output,h.size,λ k hk=>h.block k (by omega) (by omega)⟩
theorem jq (L:List Nat)(k v:Nat):(vals L).setIfInBounds k v=vals (L.set k v):=by
 apply Array.ext';simp[vals,List.map_set]
theorem Aa.set {w:World}{p b:Nat}{L:List Nat}(h:Aa w p b L)(k v:Nat):Aa (w.setCell (b,k) v) p b (L.set k v):=by
 refine⟨?_,?_⟩
 ·rw[aV _ _ _ _ h.ne,h.hp];simp
 ·simp only[World.setCell,dC,h.hb]
  simp[jq]
theorem But.setCell {b:Nat}{w w':World}(h:But b w w')(k:Nat)(v:Value):But b w (w'.setCell (b,k) v):=
 h.trans ⟨rfl,rfl,rfl,by simp,λ i _ hn=>aV _ _ _ _ hn⟩
theorem But.alloc {b:Nat}{w w':World}(h:But b w w')(o:Obj):But b w (w'.alloc o):=
 h.trans (But.of_below ((aI _ _).alloc (aF _) o))
def fill (n k:Nat):List Nat:=(List.range n).map λ i=>if i<k then i else 0
theorem H8 (n k:Nat):(fill n k).length=n:=by simp[fill]
theorem Q5 (n k:Nat):(fill n k).set k k=fill n (k+1):=by
 apply eB
 ·simp[fill]
 ·intro i h1 h2
  simp only[fill,iV,jV,List.getElem_range];by_cases e:k=i
  ·subst e;simp
  ·have:(i<k)=(i<k+1):=by apply propext;omega
   simp[e,this]
theorem zgj (n:Nat):fill n 0=List.replicate n 0:=by
 apply eB
 ·simp[fill]
 ·intro i h1 h2
  simp[fill]
theorem Tz (n:Nat):fill n n=List.range n:=by
 apply eB
 ·simp[fill]
 ·intro i h1 h2
  simp[fill] at h1 ⊢;intro h;omega
theorem Za (n:Nat):madeCells #[Value.int .i64 0] n=vals (fill n 0):=by
 rw[zgj];apply kE
 ·simp[madeCells,vals]
 ·intro i h1 h2
  simp[madeCells,vals,Nat.mod_one]
open Go.Proofs.Tryz
theorem U2 (x:Int)(p b c:Nat)(L:List Nat)(w:World)(hs:Aa w p b L)(hc:w.cell? c=some (.pointer p))(ER:0<=x)(hx:x<(L.length:Int)):
 Calls prog 310 #[x,.pointer c] w λ e w'=>e=false/\w'=w:=by
 have hp:=hs.K7;have h0:¬(x<0):=by omega
 have h1:¬((L.length:Int)<=x):=by omega
 clear hs;go_enter func310,ntmps310;go_wp2;go_ret;exact⟨rfl,rfl⟩
theorem za8 (x:Int)(p b c:Nat)(L:List Nat)(w:World)(hs:Aa w p b L)(hc:w.cell? c=some (.pointer p))(hx:x<0\/(L.length:Int)<=x):
 Calls prog 310 #[x,.pointer c] w λ e w'=>e=true/\w'=w:=by
 have hp:=hs.K7;clear hs;rcases hx with h|h
 ·go_enter func310,ntmps310
  go_wp2;go_ret;exact⟨rfl,rfl⟩
 ·have h0:¬(x<0):=by omega
  go_enter func310,ntmps310;go_wp2;go_ret;exact⟨rfl,rfl⟩
theorem zk5 (N:List Int)(s p b c cap:Nat)(L:List Nat)(w:World)(hs:Aa w p b L)(hc:w.cell? c=some (.pointer p))
 (o7:∀i,i<N.length->w.cell? ⟨s,i,none⟩=(N.getD i 0:Int)) (hl:N.length<=2) (y7:∀i,i<N.length->0<=N.getD i 0/\N.getD i 0<(L.length:Int)):
 Calls prog 260 #[.slice s N.length cap,.func (.func 310) #[] #[.pointer c]] w λ e w'=>e=(-1:Int)/\w'=w:=by
 go_enter func260,ntmps260;go_wp2_with fail;go_loop [5,8] (λ _ i=>∃k:Nat,k<=N.length/\i=k) (λ _ i=>N.length-(intOf i).toNat)
 case atStart=>exact⟨0,aN _,rfl⟩
 case round=>
  obtain⟨k,hk,rfl⟩:=hrel;by_cases j6:k<N.length
  ·have AO:=o7 k j6
   have ha:=y7 k j6;generalize N.getD k 0=x at AO ha;clear o7 y7;go_wp2_with fail;refine(U2 x p b c L _ hs hc ha.1 ha.2).mono ?_;rintro e w' ⟨rfl,rfl⟩;go_wp2
   go_round
   case rel=>exact⟨k+1,by omega,by go_num⟩
   case measure=>simp[intOf];omega
  ·go_wp2
   go_ret;exact⟨rfl,rfl⟩
theorem zgv (N:List Int)(s p b c cap:Nat)(L:List Nat)(w:World)(hs:Aa w p b L)(hc:w.cell? c=some (.pointer p))
 (o7:∀i,i<N.length->w.cell? ⟨s,i,none⟩=(N.getD i 0:Int)) (hl:N.length<=2) (j:Nat) (hj:j<N.length) (MV:N.getD j 0<0\/(L.length:Int)<=N.getD j 0):
 Calls prog 260 #[.slice s N.length cap,.func (.func 310) #[] #[.pointer c]] w λ e w'=>(∃k:Nat,e=k)/\w'=w:=by
 go_enter func260,ntmps260;go_wp2_with fail;go_loop [5,8] (λ _ i=>∃k:Nat,k<=j/\i=k) (λ _ i=>N.length-(intOf i).toNat)
 case atStart=>exact⟨0,aN _,rfl⟩
 case round=>
  obtain⟨k,hk,rfl⟩:=hrel;have j6:k<N.length:=by omega
  have AO:=o7 k j6;by_cases ha:0<=N.getD k 0/\N.getD k 0<(L.length:Int)
  ·have XP:k≠j:=by rintro rfl;omega
   have hkj':k<j:=by omega
   clear MV o7 XP;generalize N.getD k 0=x at AO ha;go_wp2_with fail;refine(U2 x p b c L _ hs hc ha.1 ha.2).mono ?_;rintro e w' ⟨rfl,rfl⟩;go_wp2
   go_round
   case rel=>exact⟨k+1,by omega,by go_num⟩
   case measure=>simp[intOf];omega
  ·clear MV o7
   generalize N.getD k 0=x at AO ha;have hx:x<0\/(L.length:Int)<=x:=by omega
   clear ha;go_wp2_with fail;refine(za8 x p b c L _ hs hc hx).mono ?_;rintro e w' ⟨rfl,rfl⟩;go_wp2;go_ret;exact⟨⟨k,rfl⟩,rfl⟩
theorem za7 (N:List Int)(s p b c cap:Nat)(L:List Nat)(w:World)(hs:Aa w p b L)(hc:w.cell? c=some (.pointer p))
 (o7:∀i,i<N.length->w.cell? ⟨s,i,none⟩=(N.getD i 0:Int)) (hl:N.length<=2) (y7:∀i,i<N.length->0<=N.getD i 0/\N.getD i 0<(L.length:Int)):
 Calls prog 311 #[.slice s N.length cap,.func (.func 310) #[] #[.pointer c]] w λ e w'=>e=false/\w'=w:=by
 go_enter func311,ntmps311;go_wp2_with fail;refine(zk5 N s p b c cap L _ hs hc o7 hl y7).mono ?_;rintro e w' ⟨rfl,rfl⟩;clear hs hc o7 y7;go_wp2;go_ret;exact⟨rfl,rfl⟩
theorem nu (N:List Int)(s p b c cap:Nat)(L:List Nat)(w:World)(hs:Aa w p b L)(hc:w.cell? c=some (.pointer p))
 (o7:∀i,i<N.length->w.cell? ⟨s,i,none⟩=(N.getD i 0:Int)) (hl:N.length<=2) (j:Nat) (hj:j<N.length) (MV:N.getD j 0<0\/(L.length:Int)<=N.getD j 0):
 Calls prog 311 #[.slice s N.length cap,.func (.func 310) #[] #[.pointer c]] w λ e w'=>e=true/\w'=w:=by
 go_enter func311,ntmps311;go_wp2_with fail;refine(zgv N s p b c cap L _ hs hc o7 hl j hj MV).mono ?_;rintro e w' ⟨⟨k,rfl⟩,rfl⟩;clear hs hc o7 MV;have hk:(0:Int)<=(k:Int):=by omega
 go_wp2;go_ret;exact⟨rfl,rfl⟩
end Go.Proofs.Y.S
namespace Go.Proofs.Y.S
open Go.Proofs.Tryz
open Go.RowKit
theorem hmf (fn:Fn)(first cap:Array Value)(w:World):(Instr.makeFunc fn first cap).run prog w= .ok (.func fn first cap) w:=rfl
theorem Cn {w:World}{p b:Nat}{L:List Nat}(h:Aa w p b L)(o:Obj):Aa (w.alloc o) p b L:=
 h.below ((aI w w).alloc (aF _) o) h.plt h.blt
theorem fu (N:List Int)(s p b cap:Nat)(L:List Nat)(w:World)(hs:Aa w p b L)
 (o7:∀i,i<N.length->w.cell? ⟨s,i,none⟩=(N.getD i 0:Int)) (RO:s<w) (hl:N.length<=2) (y7:∀i,i<N.length->0<=N.getD i 0/\N.getD i 0<(L.length:Int)):
 Calls prog 232 #[.pointer p,.slice s N.length cap] w λ e w'=>e= .returned .nilIface/\w'=w.alloc (.cells #[.pointer p] 175):=by
 have hmf':=hmf;go_enter func232,ntmps232;go_wp2_with fail;refine(za7 N s p b w cap L _ (Cn hs _) (by simp) (λ i hi=>?_) hl y7).mono ?_
 ·rw[dA _ _ _ RO];exact o7 i hi
 ·rintro e w' ⟨rfl,rfl⟩
  clear hs o7 y7;go_wp2;go_ret;exact⟨rfl,rfl⟩
theorem Yv (N:List Int)(s p b cap:Nat)(L:List Nat)(w:World)(hs:Aa w p b L)
 (o7:∀i,i<N.length->w.cell? ⟨s,i,none⟩=(N.getD i 0:Int)) (RO:s<w) (hl:N.length<=2) (j:Nat) (hj:j<N.length) (MV:N.getD j 0<0\/(L.length:Int)<=N.getD j 0):
 Calls prog 232 #[.pointer p,.slice s N.length cap] w λ e w'=>e=Value.iface 23 (2:Int)/\w'=w.alloc (.cells #[.pointer p] 175):=by
 have hmf':=hmf;go_enter func232,ntmps232;go_wp2_with fail;refine(nu N s p b w cap L _ (Cn hs _) (by simp) (λ i hi=>?_) hl j hj MV).mono ?_
 ·rw[dA _ _ _ RO];exact o7 i hi
 ·rintro e w' ⟨rfl,rfl⟩
  clear hs o7 MV;go_wp2;go_ret;exact⟨rfl,rfl⟩
theorem Bt (w:World)(o o':Obj):Below w w ((w.alloc o).alloc o'):=
 (b_).alloc (by simp) _
theorem zfz (x:Int)(s p b cap:Nat)(L:List Nat)(w:World)(hs:Aa w p b L)
 (h0:w.cell? s=x) (RO:s<w) (ER:0<=x) (hx:x<(L.length:Int)):
 Calls prog 232 #[.pointer p,.slice s 1 cap] w λ e w'=>e= .returned .nilIface/\w'=w.alloc (.cells #[.pointer p] 175):=by
 refine fu [x] s p b cap L w hs (λ i hi=>?_) RO (by simp) (λ i hi=>?_)
 ·have:i=0:=by simpa using hi
  subst this;simpa using h0
 ·have:i=0:=by simpa using hi
  subst this;exact⟨ER,hx⟩
theorem Xu (x y:Int)(s p b cap:Nat)(L:List Nat)(w:World)(hs:Aa w p b L)
 (h0:w.cell? s=x) (h1:w.cell? (s,1)=y) (RO:s<w) (ER:0<=x) (hx:x<(L.length:Int)) (LV:0<=y) (hy:y<(L.length:Int)):
 Calls prog 232 #[.pointer p,.slice s 2 cap] w λ e w'=>e= .returned .nilIface/\w'=w.alloc (.cells #[.pointer p] 175):=by
 refine fu [x,y] s p b cap L w hs (λ i hi=>?_) RO (by simp) (λ i hi=>?_)
 ·have:i=0\/i=1:=by simp at hi;omega
  rcases this with rfl|rfl
  ·simpa using h0
  ·simpa using h1
 ·have:i=0\/i=1:=by simp at hi;omega
  rcases this with rfl|rfl
  ·exact⟨ER,hx⟩
  ·exact⟨LV,hy⟩
theorem zdw (x y:Int)(s p b cap:Nat)(L:List Nat)(w:World)(hs:Aa w p b L)
 (h0:w.cell? s=x) (h1:w.cell? (s,1)=y) (RO:s<w) (hx:(x<0\/(L.length:Int)<=x)\/(y<0\/(L.length:Int)<=y)):
 Calls prog 232 #[.pointer p,.slice s 2 cap] w λ e w'=>e=Value.iface 23 (2:Int)/\w'=w.alloc (.cells #[.pointer p] 175):=by
 have o7:∀i,i<[x,y].length->w.cell? ⟨s,i,none⟩=([x,y].getD i 0:Int):=by
  intro i hi;have:i=0\/i=1:=by simp at hi;omega
  rcases this with rfl|rfl
  ·simpa using h0
  ·simpa using h1
 rcases hx with hx|hx
 ·exact Yv [x,y] s p b cap L w hs o7 RO (by simp) 0 (by simp) hx
 ·exact Yv [x,y] s p b cap L w hs o7 RO (by simp) 1 (by simp) hx
theorem yw (x:Int)(p b:Nat)(L:List Nat)(w:World)(hs:Aa w p b L)(ER:0<=x)(hx:x<(L.length:Int)):
 Calls prog 247 #[.pointer p,x] w λ e w'=>e=Value.tuple #[((L.getD x.toNat 0:Nat):Int),.nilIface]/\Below w w w':=by
 obtain⟨x,rfl⟩:=dE ER;rw[jN];go_enter func247,ntmps247;go_wp2_with fail;refine(zfz (x:Int) w p b 1 L _ (Cn hs _) (by simp) (by simp) ER hx).mono ?_;rintro e w' ⟨rfl,rfl⟩;have DJ:=Cn (Cn hs (Obj.cells #[Value.int IntKind.i64 ↑x] 3)) (Obj.cells #[Value.pointer (some {block:=p,off:=0})] 175);have hb:=Bt w (Obj.cells #[Value.int IntKind.i64 ↑x] 3) (Obj.cells #[Value.pointer (some {block:=p,off:=0})] 175);generalize (w.alloc (Obj.cells #[Value.int IntKind.i64 ↑x] 3)).alloc (Obj.cells #[Value.pointer (some {block:=p,off:=0})] 175)=W at DJ hb ⊢;have hp:=DJ.K7;have hc:=DJ.La x (by omega);have HB:=kd hb;clear hs DJ hb;generalize hy:L.getD x 0=y at hc;have HY:=kd hy;clear hy;go_wp2;go_ret2;exact⟨by rw[HY.o];rfl,HB.o⟩
end Go.Proofs.Y.S
namespace Go.Proofs.Y.S
open Go.Proofs.Tryz
open Go.RowKit
theorem Jj {w:World}{p b:Nat}{L:List Nat}(h:Aa w p b L)(n:Nat):Aa (w.drewN n) p b L:=⟨h.hp,h.hb⟩
theorem drewN_drewN (w:World)(n m:Nat):(w.drewN n).drewN m=w.drewN (n+m):=by simp[World.drewN,Nat.add_assoc]
def cnt (f:Nat->Bool):Nat->Nat
 |0=>0
 |k+1=>cnt f k+if f k then 1 else 0
theorem Q7 (f:Nat->Bool):∀k,cnt f k<=k
 |0=>aF _
 |k+1=>by have:=Q7 f k;simp only[cnt];split <;> omega
end Go.Proofs.Y.S
namespace Go.Proofs.Y.S
open Go.Proofs.Tryz
open Go.RowKit
theorem Tryz.info3:(prog.info? 3).map (λ i=>(i.zero,i.size,i.bytes))=some (some (.int .i64 0),1,8):=by kernel_rfl
theorem aQ (w:World)(o:Obj):(w.alloc o).heap[w.heap.size]? =some o:=by
 show(w.heap.push o)[w.heap.size]? =_;rw[Array.getElem?_push,aP rfl]
theorem zg9 (w:World)(n:Nat):Aa ((w.alloc (.cells (madeCells #[(0:Int)] n) 3)).alloc (.cells #[.slice w n n] 268)) (w+1) w (fill n 0):=by
 refine⟨?_,?_⟩
 ·have:=aQ (w.alloc (.cells (madeCells #[(0:Int)] n) 3)) (.cells #[.slice w n n] 268)
  rw[aT] at this;rw[this,H8]
 ·rw[bG _ _ _ (by simp),aQ,Za]
theorem Kk (n:Nat)(w:World)(hn:n<=40):
 Calls prog 224 #[n] w λ e w'=>e=Value.tuple #[.pointer (w.heap.size+1:Nat),.nilIface]/\Aa w' (w+1) w (List.range n)/\Below w w w':=by
 have MR:=λ W=>run_make_row' (P:=prog) 48 3 (0:Int) 8 underlying48 Tryz.info3 rfl .i64 .i64 n (by omega) (by omega) W
 have h0:¬((n:Int)<0):=by omega
 have h1:¬((40:Int)<(n:Int)):=by omega
 go_enter func224,ntmps224;go_wp2_with fail;go_loopw [5,22] (λ _ i wr=>∃k:Nat,k<=n/\i=k/\Aa wr (w+1) w (fill n k)/\Below w w wr) (λ _ i _=>n-(intOf i).toNat)
 case atStart=>exact⟨0,aN _,rfl,zg9 w n,Bt w _ _⟩
 case round=>
  obtain⟨k,hk,rfl,hs,hb⟩:=hrel;clear MR;by_cases j6:k<n
  ·have hp:=hs.K7
   have hc:=hs.La k (by rw[H8];exact j6);have hf:=hs.Wx k;have hs':=hs.set k k;rw[Q5] at hs';have HS:=kd hs';have HB:Hid (Below w w (wr.setCell (w,k) k)):=hb.setCell (aF _) _;rw[H8] at hp;clear hs hs' hb;generalize (fill n k).getD k 0=z at hc;go_wp2;go_roundw;case rel=>exact⟨k+1,by omega,by go_num,HS.o,HB.o⟩
   case measure=>simp[intOf];omega
  ·have CF:k=n:=by omega
   subst CF;rw[Tz] at hs;have HS:=kd hs;have HB:=kd hb;clear hs hb;go_wp2;go_ret2;exact⟨rfl,HS.o,HB.o⟩
end Go.Proofs.Y.S
namespace Go.Proofs.Y.S
open Go.Proofs.Tryz
open Go.RowKit
def named (lo hi l:Nat):Nat:=if l=hi then lo else l
def part (L:List Nat)(lo hi k:Nat):List Nat:=((L.take k).map (named lo hi))++L.drop k
def joinL (L:List Nat)(x y:Nat):List Nat:=L.map (named (min (L.getD x 0) (L.getD y 0)) (max (L.getD x 0) (L.getD y 0)))
theorem Kh (L:List Nat)(lo hi k:Nat):(part L lo hi k).length=L.length:=by simp[part];omega
theorem X6 (L:List Nat)(lo hi:Nat):part L lo hi 0=L:=by simp[part]
theorem yl (L:List Nat)(lo hi:Nat):part L lo hi L.length=L.map (named lo hi):=by simp[part]
theorem Xc (L:List Nat)(lo hi k:Nat)(h:k<L.length):(part L lo hi k).getD k 0=L.getD k 0:=by
 simp[part,List.getD_eq_getElem?_getD,List.getElem?_append_right,Nat.min_eq_left (Nat.le_of_lt h)]
theorem Zd (L:List Nat)(lo hi k:Nat)(h:k<L.length):part L lo hi (k+1)=(part L lo hi k).set k (named lo hi (L.getD k 0)):=by
 have e:L.drop k=L.getD k 0::L.drop (k+1):=by
  rw[eU h];simp[h]
 unfold part;rw[cB h,e,List.set_append_right _ _ (by simp;omega)];rw[dL,dW]
 congr 1
 have e2:k-(List.map (named lo hi) (List.take k L)).length=0:=by simp;omega
 have e3:L.getD k 0=L[k]:=by simp[h]
 rw[e2,e3];rfl
theorem ni (L:List Nat)(lo hi k:Nat)(h:k<L.length)(e:L.getD k 0=hi):part L lo hi (k+1)=(part L lo hi k).set k lo:=by
 rw[Zd L lo hi k h,named,aP e]
theorem Yw (L:List Nat)(lo hi k:Nat)(h:k<L.length)(e:L.getD k 0≠hi):part L lo hi (k+1)=part L lo hi k:=by
 rw[Zd L lo hi k h,named,aL e,<-Xc L lo hi k h];apply eB
 ·simp
 ·intro i h1 h2
  rw[iV];split
  ·next e=>subst e;simp[h2]
  ·rfl
theorem Vd (L:List Nat)(x y:Nat)(e:L.getD x 0=L.getD y 0):joinL L x y=L:=by
 unfold joinL;rw[<-e,kY,Nat.max_self];conv=>rhs;rw[<-kI L]
 apply fH;intro l _;simp[named];intro h;exact h.symm
theorem Nw (x y p b:Nat)(L:List Nat)(w:World)(hs:Aa w p b L)(hx:x<L.length)(hy:y<L.length)(hlen:L.length<=40):
 Calls prog 119 #[.pointer p,x,y] w λ e w'=>e=Value.tuple #[(decide (L.getD x 0≠L.getD y 0)),.nilIface]/\Aa w' p b (joinL L x y)/\But b w w':=by
 go_enter func119,ntmps119;go_wp2_with fail;refine(Xu (x:Int) (y:Int) w p b 2 L _ (Cn hs _) ?c1 ?c2 ?c3 (by omega) (by omega) (by omega) (by omega)).mono ?_;case c1=>simp
 case c2=>simp
 case c3=>simp
 rintro e w' ⟨rfl,rfl⟩;have DJ:=Cn (Cn hs (Obj.cells #[Value.int IntKind.i64 ↑x,Value.int IntKind.i64 ↑y] 3)) (Obj.cells #[Value.pointer (some {block:=p,off:=0})] 175);have hb:=Bt w (Obj.cells #[Value.int IntKind.i64 ↑x,Value.int IntKind.i64 ↑y] 3) (Obj.cells #[Value.pointer (some {block:=p,off:=0})] 175);generalize (w.alloc (Obj.cells #[Value.int IntKind.i64 ↑x,Value.int IntKind.i64 ↑y] 3)).alloc (Obj.cells #[Value.pointer (some {block:=p,off:=0})] 175)=W at DJ hb ⊢;have HB:Hid (But b w W):=But.of_below hb;clear hb hs;have hp:=DJ.K7;have JA:=DJ.La x hx;have NR:=DJ.La y hy;have HX:=(show Hid (∃X,L.getD x 0=X) from⟨_,rfl⟩);generalize hX:L.getD x 0=X at JA;generalize hY:L.getD y 0=Y at NR;have HX:=kd hX;have HY:=kd hY;clear hX hY;have HS:=kd DJ;clear DJ;rcases eP X Y with j6|heq|hgt
 ·have h1:(X:Int)<(Y:Int):=by omega
  have l9:((Y:Int)==(X:Int))=false:=aH.2 (by omega);have hne':((X:Int)==(Y:Int))=false:=aH.2 (by omega);have HJ:Hid (joinL L x y=L.map (named X Y)):=by
   show joinL L x y=_;unfold joinL;rw[HX.o,HY.o,gJ (by omega),lJ (by omega)]
  have HN:Hid (L.getD x 0≠L.getD y 0):=by
   show L.getD x 0≠L.getD y 0;rw[HX.o,HY.o];omega
  clear HX HY;go_wp2_with fail;go_quiet (fail);clear JA NR;go_wp2_with fail;have y5:Hid (But b w (W.drewN nq)):=HB.o.trans (But.of_below (below_drewN (aI _ _) nq));have LP:Hid (Aa (W.drewN nq) p b L):=Jj HS.o nq;clear HB HS;generalize W.drewN nq=V at*;clear hp;go_loopw [11,12,59] (λ _ _ i wr=>∃k:Nat,k<=L.length/\i=k/\Aa wr p b (part L X Y k)/\But b w wr) (λ _ _ i _=>L.length-(intOf i).toNat)
  case atStart=>exact⟨0,aN _,rfl,by rw[X6];exact LP.o,y5.o⟩
  case round=>
   obtain⟨k,hk,rfl,hs,hb⟩:=hrel;by_cases j6:k<L.length
   ·have hp:=hs.K7
    have hc:=hs.La k (by rw[Kh];exact j6);have hf:=hs.Wx k;rw[Kh] at hp;rw[Xc _ _ _ _ j6] at hc;by_cases hz:L.getD k 0=Y
    ·have HS:Hid (Aa (wr.setCell (b,k) X) p b (part L X Y (k+1))):=by
      have:=hs.set k X;rw[<-ni L X Y k j6 hz] at this;exact this
     have HB:Hid (But b w (wr.setCell (b,k) X)):=hb.setCell _ _;rw[hz] at hc;clear hs hb hz;go_wp2;go_roundw;case rel=>exact⟨k+1,by omega,by go_num,HS.o,HB.o⟩
     case measure=>simp[intOf];omega
    ·have HS:Hid (Aa wr p b (part L X Y (k+1))):=by
      show Aa wr p b (part L X Y (k+1));rw[Yw L X Y k j6 hz];exact hs
     have HB:=kd hb;generalize L.getD k 0=z at hc hz;have hzb:((z:Int)==(Y:Int))=false:=aH.2 (by omega);clear hs hb hz;go_wp2;go_roundw;case rel=>exact⟨k+1,by omega,by go_num,HS.o,HB.o⟩
     case measure=>simp[intOf];omega
   ·have CF:k=L.length:=by omega
    subst CF;rw[yl,<-HJ.o] at hs;have HS:=kd hs;have HB:=kd hb;clear hs hb;go_wp2;go_ret2;exact⟨by rw[bI HN.o];rfl,HS.o,HB.o⟩
 ·subst heq
  have HJ:Hid (joinL L x y=L):=Vd L x y (HX.o.trans HY.o.symm);have HN:Hid (L.getD x 0=L.getD y 0):=HX.o.trans HY.o.symm;clear HX HY;go_wp2_with fail;go_quiet (fail);clear JA NR;go_wp2_with fail;go_ret2;exact⟨by rw[HN.o];simp,by rw[HJ.o];exact Jj HS.o nq,HB.o.trans (But.of_below (below_drewN (aI _ _) nq))⟩
 ·have h1:(Y:Int)<(X:Int):=by omega
  have l9:((X:Int)==(Y:Int))=false:=aH.2 (by omega);have hne':((Y:Int)==(X:Int))=false:=aH.2 (by omega);have HJ:Hid (joinL L x y=L.map (named Y X)):=by
   show joinL L x y=_;unfold joinL;rw[HX.o,HY.o,gQ (by omega),lN (by omega)]
  have HN:Hid (L.getD x 0≠L.getD y 0):=by
   show L.getD x 0≠L.getD y 0;rw[HX.o,HY.o];omega
  clear HX HY;go_wp2_with fail;go_quiet (fail);clear JA NR;go_wp2_with fail;have y5:Hid (But b w (W.drewN nq)):=HB.o.trans (But.of_below (below_drewN (aI _ _) nq));have LP:Hid (Aa (W.drewN nq) p b L):=Jj HS.o nq;clear HB HS;generalize W.drewN nq=V at*;clear hp;go_loopw [11,12,59] (λ _ _ i wr=>∃k:Nat,k<=L.length/\i=k/\Aa wr p b (part L Y X k)/\But b w wr) (λ _ _ i _=>L.length-(intOf i).toNat)
  case atStart=>exact⟨0,aN _,rfl,by rw[X6];exact LP.o,y5.o⟩
  case round=>
   obtain⟨k,hk,rfl,hs,hb⟩:=hrel;by_cases j6:k<L.length
   ·have hp:=hs.K7
    have hc:=hs.La k (by rw[Kh];exact j6);have hf:=hs.Wx k;rw[Kh] at hp;rw[Xc _ _ _ _ j6] at hc;by_cases hz:L.getD k 0=X
    ·have HS:Hid (Aa (wr.setCell (b,k) Y) p b (part L Y X (k+1))):=by
      have:=hs.set k Y;rw[<-ni L Y X k j6 hz] at this;exact this
     have HB:Hid (But b w (wr.setCell (b,k) Y)):=hb.setCell _ _;rw[hz] at hc;clear hs hb hz;go_wp2;go_roundw;case rel=>exact⟨k+1,by omega,by go_num,HS.o,HB.o⟩
     case measure=>simp[intOf];omega
    ·have HS:Hid (Aa wr p b (part L Y X (k+1))):=by
      show Aa wr p b (part L Y X (k+1));rw[Yw L Y X k j6 hz];exact hs
     have HB:=kd hb;generalize L.getD k 0=z at hc hz;have hzb:((z:Int)==(X:Int))=false:=aH.2 (by omega);clear hs hb hz;go_wp2;go_roundw;case rel=>exact⟨k+1,by omega,by go_num,HS.o,HB.o⟩
     case measure=>simp[intOf];omega
   ·have CF:k=L.length:=by omega
    subst CF;rw[yl,<-HJ.o] at hs;have HS:=kd hs;have HB:=kd hb;clear hs hb;go_wp2;go_ret2;exact⟨by rw[bI HN.o];rfl,HS.o,HB.o⟩
end Go.Proofs.Y.S
namespace Go.Proofs.Y.S
open Go.Proofs.Tryz
open Go.RowKit Go.WideMaps Go.Maps
open Go.ChangeShapes (lits)
def ints (l:List Nat):List Int:=l.map λ i:Nat=>(i:Int)
theorem J8 (a b:List Nat):ints (a++b)=ints a++ints b:=by simp[ints]
theorem Ci (a:List Nat):(ints a).length=a.length:=by simp[ints]
def grp (L:List Nat)(k y:Nat):List Nat:=(List.range k).filter λ i=>L.getD i 0==y
theorem Kv (L:List Nat)(k:Nat):grp L (k+1) (L.getD k 0)=grp L k (L.getD k 0)++[k]:=by
 simp[grp,List.range_succ]
theorem Js (L:List Nat)(k y:Nat)(h:L.getD k 0≠y):grp L (k+1) y=grp L k y:=by
 have hb:(L.getD k 0==y)=false:=aH.2 h;unfold grp;rw[dN,bP,bT,hb];simp
def Tg (L:List Nat)(k:Nat)(D:DataW Unit):Prop:=
 IsMap D/\∀(y:Nat) (zd:DataW Unit),D.atKey y zd=if grp L k y=[] then zd else .slice (lits .i64 (ints (grp L k y))) []
theorem Pe {a b:List Int}(h:(lits .i64 a:List (DataW Unit))=lits .i64 b):a=b:=by
 unfold lits at h;exact(List.map_inj_right (λ x y BO=>by cases BO;rfl)).1 h
theorem zee (L:List Nat):Tg L 0 (.map []):=⟨isMap_empty,λ y zd=>by simp[grp];rfl⟩
theorem Uo {L:List Nat}{k y:Nat}{D:DataW Unit}(h:Tg L k D){w:World}{base:Nat}{e:TypeId}{v:Value}{zs:List Int}(ho:w.ownsInts base e .i64 v zs)
 (q9:D.atKey y .nil=rowDatum .i64 v zs):zs=ints (grp L k y):=by
 rw[h.2] at q9;split at q9
 ·next hg=>
  rw[hg];rcases ho.datum (H:=Unit) with⟨_,h2⟩|h2
  ·exact h2
  ·rw[h2] at q9;cases q9
 ·next hg=>
  rcases ho.datum (H:=Unit) with⟨h1,_⟩|h2
  ·rw[h1] at q9;cases q9
  ·rw[h2] at q9
   injection q9 with h3 _
   exact(Pe h3).symm
theorem zfy {L:List Nat}{k:Nat}{D:DataW Unit}(h:Tg L k D){w w1:World}{base:Nat}{e:TypeId}{v v':Value}{zs:List Int}(ho:w.ownsInts base e .i64 v zs)
 (q9:D.atKey ((L.getD k 0:Nat):Int) .nil=rowDatum .i64 v zs) (ho':w1.ownsInts base e .i64 v' (zs++[(k:Int)])):
 Tg L (k+1) (D.put ((L.getD k 0:Nat):Int) (rowDatum .i64 v' (zs++[(k:Int)]))):=by
 have hz:=Uo h ho q9;refine⟨h.1.put _ _,λ y zd=>?_⟩;by_cases e:L.getD k 0=y
 ·subst e
  rw[atKey_put_same h.1 (by trivial),Kv,aL (by simp),ho'.datum_pos (by simp),hz,J8];rfl
 ·have l9:Lit.int .i64 (y:Int)≠Lit.int .i64 ((L.getD k 0:Nat):Int):=λ h=>e (by injection h with _ h2;omega)
  rw[atKey_put_other l9,h.2,Js L k y e]
theorem Ul {P:Program}{wl wr:World}{t k E base e b n:Nat}{D:DataW Unit}{key:Value}{kl:Lit}(hg:wl.ownsGroups P k base e .i64 b n D)(hb:Below wl wl wr)
 (K:Keyed P k) (ht:P.underlying t=some (.map k E)) (hz:(zeroValue E).run P wr= .ok (.slice none 0 0) wr) (o9:keyOf P k key=some kl):
 ((Instr.lookup t (.map b) key true).run P wr= .ok (.tuple #[.slice none 0 0,false]) wr/\∀zd,D.atKey kl zd=zd)\/
 ∃v zs,(Instr.lookup t (.map b) key true).run P wr= .ok (.tuple #[v,true]) wr/\wl.ownsInts base e .i64 v zs/\∀zd,D.atKey kl zd=rowDatum .i64 v zs:=by
 obtain⟨es,clock,hh,F,hs,rfl,EN,hlen,UF⟩:=hg;have hh':wr.heap[b]? =some (.map es clock):=(hb.block b (lt_of_some hh)).trans hh;rcases Maps.fit_look true K ht hz hh' F o9 with⟨AQ,_,q9⟩|⟨e0,y,XQ,h3,AQ,hR,q9,_⟩
 ·exact Or.inl ⟨by simpa using AQ,q9⟩
 ·obtain⟨zs,ho,rfl⟩:=rowElem_inv hR
  exact Or.inr ⟨e0.val,zs,by simpa using AQ,ho,q9⟩
theorem zhc {P:Program}{wl wr:World}{t k E base e b n m y:Nat}{L:List Nat}{D:DataW Unit}(hg:wl.ownsGroups P k base e .i64 b n D)(hD:Tg L m D)(hb:Below wl wl wr)
 (K:Keyed P k) (ht:P.underlying t=some (.map k E)) (hz:(zeroValue E).run P wr= .ok (.slice none 0 0) wr) (o9:keyOf P k y=y) (hy:grp L m y=[]):
 (Instr.lookup t (.map b) y true).run P wr= .ok (.tuple #[.slice none 0 0,false]) wr:=by
 rcases Ul hg hb K ht hz o9 with⟨AQ,_⟩|⟨v,zs,_,_,q9⟩
 ·exact AQ
 ·have h1:=q9 .nil
  have h2:=q9 (.map []);rw[hD.2,aP hy] at h1 h2;rw[<-h1] at h2;cases h2
theorem zf7 {P:Program}{wl wr:World}{t k E base e b n m y:Nat}{L:List Nat}{D:DataW Unit}(hg:wl.ownsGroups P k base e .i64 b n D)(hD:Tg L m D)(hb:Below wl wl wr)
 (K:Keyed P k) (ht:P.underlying t=some (.map k E)) (hz:(zeroValue E).run P wr= .ok (.slice none 0 0) wr) (o9:keyOf P k y=y) (hy:grp L m y≠[]):
 ∃r c,(Instr.lookup t (.map b) y true).run P wr= .ok (.tuple #[.slice (some ⟨r,0,none⟩) (grp L m y).length c,true]) wr/\wl.ownsInts base e .i64 (.slice (some ⟨r,0,none⟩) (grp L m y).length c) (ints (grp L m y)):=by
 rcases Ul hg hb K ht hz o9 with⟨_,q9⟩|⟨v,zs,AQ,ho,q9⟩
 ·have h1:=q9 .nil
  rw[hD.2,aL hy] at h1;cases h1
 ·have hzs:=Uo hD ho (q9 .nil)
  subst hzs;rcases ho.1.2 with⟨_,h0⟩|⟨g,cap,cur,rfl,_⟩
  ·rw[Ci] at h0
   exact absurd (bW.1 h0) hy
  ·rw[Ci] at AQ ho
   exact⟨g,cap,AQ,ho⟩
def Ar (L:List Nat)(k:Nat):List (List Nat):=((List.range k).map (grp L L.length)).filter λ l=>!l.isEmpty
theorem Wt (L:List Nat)(k:Nat)(h:grp L L.length k=[]):Ar L (k+1)=Ar L k:=by
 simp[Ar,List.range_succ,h]
theorem Xr (L:List Nat)(k:Nat)(h:grp L L.length k≠[]):Ar L (k+1)=Ar L k++[grp L L.length k]:=by
 simp[Ar,List.range_succ,h]
theorem Wi (L:List Nat)(k:Nat):(Ar L k).length<=k:=by
 unfold Ar;refine aD (aW _ _) ?_;simp
def Ep (wl:World)(base:Nat)(vs:List Value)(Gs:List (List Nat)):Prop:=
 vs.length=Gs.length/\∀i,i<Gs.length->∃r c,vs[i]? =some (.slice (some ⟨r,0,none⟩) (Gs.getD i []).length c)/\wl.ownsInts base 3 .i64 (.slice (some ⟨r,0,none⟩) (Gs.getD i []).length c) (ints (Gs.getD i []))
theorem Qe {wl:World}{base:Nat}{vs:List Value}{Gs:List (List Nat)}(h:Ep wl base vs Gs){r c:Nat}{G:List Nat}(ho:wl.ownsInts base 3 .i64 (.slice r G.length c) (ints G)):
 Ep wl base (vs++[.slice r G.length c]) (Gs++[G]):=by
 have hl:=h.1;refine⟨by simp[hl],λ i hi=>?_⟩;by_cases e:i<Gs.length
 ·obtain⟨r',c',h1,h2⟩:=h.2 i e
  have e1:(Gs++[G]).getD i []=Gs.getD i []:=by simp[List.getElem?_append_left e]
  rw[e1];exact⟨r',c',by rw[dR (by omega)];exact h1,h2⟩
 ·have e2:i=Gs.length:=by simp at hi;omega
  subst e2;have e1:(Gs++[G]).getD Gs.length []=G:=by simp
  rw[e1];exact⟨r,c,by rw[fK (by omega),h.1];simp,ho⟩
def Hf (w:World)(v:Value)(Gs:List (List Nat)):Prop:=
 ∃g cap,v= .slice (some ⟨g,0,none⟩) Gs.length cap/\∀i,i<Gs.length->∃r c,w.cell? ⟨g,i,none⟩=some (.slice (some ⟨r,0,none⟩) (Gs.getD i []).length c)/\∀j,j<(Gs.getD i []).length->w.cell? ⟨r,j,none⟩=(((Gs.getD i []).getD j 0:Nat):Int)
theorem lt_of_cell {w:World}{k i:Nat}{v:Value}(h:w.cell? (k,i)=some v):k<w:=by
 rcases eH k w.heap.size with h'|h'
 ·exact h'
 ·simp[World.cell?,Array.getElem?_eq_none h'] at h
theorem Hf.below {w w':World}{v:Value}{Gs:List (List Nat)}(h:Hf w v Gs)(hb:Below w w w'):Hf w' v Gs:=by
 obtain⟨g,cap,hv,h⟩:=h;refine⟨g,cap,hv,λ i hi=>?_⟩;obtain⟨r,c,h1,h2⟩:=h i hi;refine⟨r,c,(hb.cell (p:=⟨g,i,none⟩) (lt_of_cell h1)).trans h1,λ j hj=>(hb.cell (p:=⟨r,j,none⟩) (lt_of_cell (h2 j hj))).trans (h2 j hj)⟩
theorem di {wl wr:World}{base M:Nat}{v:Value}{vs:List Value}{Gs:List (List Nat)}(hr:Ep wl base vs Gs)(ho:wr.ownsRow M 48 1 v vs.length vs)(hv:v≠ .slice none 0 0)(hb:Below wl wl wr):Hf wr v Gs:=by
 rcases ho.2 with⟨h0,_⟩|⟨g,cap,cur,rfl,_⟩
 ·exact absurd h0 hv
 ·refine⟨g,cap,by rw[hr.1],λ i hi=>?_⟩
  obtain⟨r,c,h1,h2⟩:=hr.2 i hi;refine⟨r,c,?_,λ j hj=>?_⟩
  ·rw[ho.cellAt i (by rw[hr.1];omega)];exact h1
  ·have j6:=(h2.1.lt r rfl).2
   have h3:=h2.1;rw[Ci] at h3;rw[hb.cell (p:=⟨r,j,none⟩) j6,h3.cellAt j (by omega)];clear h1 h2 h3;generalize Gs.getD i []=G at*;simp[ints,hj]
end Go.Proofs.Y.S
namespace Go.Proofs.Y.S
open Go.Proofs.Tryz
open Go.RowKit Go.WideMaps Go.Maps
theorem L6 (w:World):(zeroValue 48).run prog w= .ok (.slice none 0 0) w:=by kernel_rfl
theorem Bp:Keyed prog 3:=int_keyed underlying3
theorem Tryz.info48:(prog.info? 48).map (λ i=>(i.zero,i.size,i.bytes))=some (some (.slice none 0 0),1,24):=by kernel_rfl
theorem Mx (y:Nat)(h:y<=1000000):keyOf prog 3 y=y:=keyOf_int_mk underlying3 (WalkArith.wf_i64 (by omega))
theorem U0 {w:World}{t k E base e b n:Nat}{D:DataW Unit}(h:w.ownsGroups prog k base e .i64 b n D)(ht:prog.underlying t=some (.map k E)):∃m:Nat,m<=n/\∀ty,(Builtin.len_ #[t] ty #[.map b]).run prog w= .ok m w:=by
 obtain⟨es,clock,hb,F,hs,rfl,_⟩:=h;exact⟨es.size,hs,λ ty=>by simp[Builtin.len_,run_underlying ht,MapKept.run_getObj_map hb,goInt,Result.andThen]⟩
theorem Fv (a:Option Addr)(n c:Nat):∀u∈[Value.slice a n c],u.oneCell'=true:=by
 intro u hu;simp at hu;subst hu;rfl
theorem zre (p b:Nat)(L:List Nat)(w:World)(hs:Aa w p b L)(hlen:L.length<=40)(hL:∀i,i<L.length->L.getD i 0<=1000000):
 Calls prog 143 #[.pointer p] w λ e w'=>∃v,e= .returned v/\Hf w' v (Ar L L.length)/\Below w w w':=by
 have FC:=@run_makeMap prog;obtain⟨i0,hi,BR,BU,BM⟩:=info_parts Tryz.info3;have hp:=hs.K7;have LW:=hs.plt;have hp':(w.alloc (.map #[] 0)).cell? p=some (.slice b L.length L.length):=by rw[dA _ _ _ LW];exact hp
 go_enter func143,ntmps143;go_wp2_with fail;go_loopw [4,5,16] (λ _ _ i wr=>∃k:Nat,k<=L.length/\i=k/\(∃D:DataW Unit,Tg L k D/\wr.ownsGroups prog 3 (w+1) 3 .i64 w k D)/\Below w w wr/\w.heap.size+1<=wr.heap.size)
  (λ _ _ i _=>L.length-(intOf i).toNat)
 case atStart=>exact⟨0,aN _,rfl,⟨.map [],zee L,World.ownsGroups_made _ _ _ _ _⟩,b_,by simp⟩
 case round=>
  obtain⟨k,hk,rfl,⟨D,hD,o8⟩,WY,OD⟩:=hrel;clear hp' FC;by_cases j6:k<L.length
  ·have JA:wr.cell? (b,k)=((L.getD k 0:Nat):Int):=(WY.cell (p:=⟨b,k,none⟩) hs.blt).trans (hs.La k j6)
   have o9:=Mx (L.getD k 0) (hL k j6);have HD:=kd hD;have HS:=kd hs;clear hD hs hL hp;generalize hy:L.getD k 0=y at JA o9;have HY:=kd hy;clear hy;go_wp2_with (first
    |(at_lookup;refine wpList_lookup_groups _ rfl _ _ 199 rfl 3 48 3 .i64 Bp underlying199 (L6 _) (w.heap.size+1) w.heap.size k _ rfl o8 (by unfold maxLen;omega) _ _ rfl o9 ?_;intro v zs q9 EB TG DL)
    |(at_builtin;refine wpList_append_own_at _ rfl _ _ 48 rfl (w+1) 3 i0 (0:Int) 1 8 underlying48 hi BR BU BM rfl (by decide) _ _ _ rfl (EB.1.alloc _) wr 1 1 [k] rfl rfl (cell_one_new _ _ _) (ints_oneCell .i64 [(k:Int)]) (by unfold maxLen;omega) (by omega) (by simp;omega) ?_;intro v' w1 hown' AY IJ ES)
    |(at_mapUpdate;refine wpList_mapUpdate_back _ rfl _ _ _ 199 rfl DL rfl rfl rfl ((bR _ _ _).trans AY) (EB.appended hown' (WalkArith.wf_i64 (by omega))) (by simp;omega) (ES.imp id (λ h=>⟨_,h,by simp⟩)) ?_;intro w2 z8 UG)
    |go_in)
   have y7:=(bR wr _ _).trans AY;have ho':=EB.appended hown' (WalkArith.wf_i64 (by omega));rw[<-HY.o] at q9 z8;go_roundw;case rel=>exact⟨k+1,by omega,by go_num,⟨_,zfy HD.o EB q9 ho',z8⟩,WY.groups EB y7 UG WY.size (iE _) (aF _),aD OD (aD y7.size UG.size)⟩
   case measure=>simp[intOf];omega
  ·have CF:k=L.length:=by omega
   subst CF;rename World=>wl
   obtain⟨m,hm,UH⟩:=U0 o8 underlying199;obtain⟨j0,hj,JE,hj1,hj2⟩:=info_parts Tryz.info48;have EG:wl.cell? p=some (.slice b L.length L.length):=(WY.cell (p:=p) LW).trans hp;have HD:=kd hD;have HO:=kd o8;have HN:=kd WY;have hprlt:p<wl:=aR LW WY.size;clear hD hs hL hp o8 WY hi BR BU BM;go_wp2_with (first
    |(at_make;refine wpList_make_own _ rfl _ _ 51 rfl wl.heap.size 48 j0 (.slice none 0 0) 1 underlying51 hj JE hj1 .i64 .i64 _ m rfl rfl rfl (by rw[hj2];omega) (by unfold maxLen;omega) (aF _) ?_;intro w1 EA OE;have WZ:w1.cell? p=some (.slice b L.length L.length):=by rw[fD (w:=wl) (OE.block p hprlt (by simp))];exact EG)
    |fail)
   have x8:Hid (Below wl wl w1):=(aI _ _).grown OE (aF _) (by simp);clear EG OE UH hm;go_loopw [6,7,8,9,38] (λ t _ _ _ i wq=>∃k:Nat,k<=L.length/\i=k/\(∃vs,Ep wl (w+1) vs (Ar L k)/\wq.ownsRow wl.heap.size 48 1 t vs.length vs)/\t≠ .slice none 0 0/\Below wl wl wq)
    (λ _ _ _ _ i _=>L.length-(intOf i).toNat)
   case atStart=>exact⟨0,aN _,rfl,⟨[],⟨rfl,by simp[Ar]⟩,EA⟩,by simp,x8.o⟩
   case round=>
    obtain⟨k,hk,rfl,⟨vs,CP,JY⟩,KZ,CG⟩:=hrel;clear EA WZ;have hvl:=CP.1;have IK:=Wi L k;by_cases j6:k<L.length
    ·by_cases hg:grp L L.length k=[]
     ·have AQ:=zhc HO.o HD.o CG Bp underlying199 (L6 wr) (Mx k (by omega)) hg
      have HR:Hid (Ep wl (w+1) vs (Ar L (k+1))):=by
       show Ep wl (w+1) vs (Ar L (k+1));rw[Wt L k hg];exact CP
      have HK:=kd JY;clear CP JY hg;go_wp2;go_roundw;case rel=>exact⟨k+1,by omega,by go_num,⟨vs,HR.o,HK.o⟩,KZ,CG⟩
      case measure=>simp[intOf];omega
     ·obtain⟨r,c,AQ,EB⟩:=zf7 HO.o HD.o CG Bp underlying199 (L6 wr) (Mx k (by omega)) hg
      have HR:Hid (Ep wl (w+1) (vs++[.slice r (grp L L.length k).length c]) (Ar L (k+1))):=by
       show Ep wl (w+1) _ (Ar L (k+1));rw[Xr L k hg];exact Qe CP EB
      clear CP EB hg;generalize (grp L L.length k).length=gl at*;go_wp2_with (first
       |(at_builtin;refine wpList_append_own_at _ rfl _ _ 51 rfl wl.heap.size 48 j0 (.slice none 0 0) 1 24 underlying51 hj JE hj1 hj2 rfl (by decide) u6 vs.length vs rfl (JY.alloc _) wr 1 1 [.slice r gl c] rfl rfl (cell_one_new _ _ _) (Fv _ _ _) (by unfold maxLen;omega) (by omega) (by have:=CG.size;simp;omega) ?_;intro v' w1 hown' AY IJ ES)
       |fail)
      have y7:=(bR wr _ _).trans AY;go_roundw;case rel=>exact⟨k+1,by omega,by go_num,⟨_,HR.o,by simpa using hown'⟩,λ h=>KZ (IJ.1 h).1,CG.grown y7 CG.size (λ j hj=>(JY.lt j hj).1)⟩
      case measure=>simp[intOf];omega
    ·have CF:k=L.length:=by omega
     subst CF;have HA:Hid (Hf wr u6 (Ar L L.length)):=di CP JY KZ CG;go_wp2;go_ret;exact⟨_,rfl,HA.o,HN.o.tr CG⟩
structure Good (n:Nat) (L:List Nat):Prop where
 len:L.length=n
 le:∀i,i<n->L.getD i 0<=i
 idem:∀i,i<n->L.getD (L.getD i 0) 0=L.getD i 0
theorem Dg (n:Nat):Good n (List.range n):=
 ⟨by simp,λ i hi=>by simp[hi],λ i hi=>by simp[hi]⟩
theorem mq (L:List Nat)(x y:Nat):(joinL L x y).length=L.length:=by simp[joinL]
theorem Hd (L:List Nat)(x y i:Nat)(h:i<L.length):(joinL L x y).getD i 0=named (min (L.getD x 0) (L.getD y 0)) (max (L.getD x 0) (L.getD y 0)) (L.getD i 0):=by
 simp[joinL,h]
theorem gm {lo hi l:Nat}(h:lo<=hi):named lo hi l<=l:=by
 unfold named;split <;> omega
theorem Nf {n:Nat}{L:List Nat}(g:Good n L){x y:Nat}(hx:x<n)(hy:y<n):Good n (joinL L x y):=by
 have hlen:=g.len;have FC:min (L.getD x 0) (L.getD y 0)<=max (L.getD x 0) (L.getD y 0):=by omega
 have KX:L.getD (min (L.getD x 0) (L.getD y 0)) 0=min (L.getD x 0) (L.getD y 0):=by
  rcases kZ (L.getD x 0) (L.getD y 0) with h|h
  ·rw[gJ h];exact g.idem x hx
  ·rw[gQ h];exact g.idem y hy
 refine⟨by rw[mq];exact hlen,λ i hi=>?_,λ i hi=>?_⟩
 ·rw[Hd _ _ _ _ (by omega)]
  exact aD (gm FC) (g.le i hi)
 ·have h1:(joinL L x y).getD i 0<n:=by
   rw[Hd _ _ _ _ (by omega)];have:=gm (l:=L.getD i 0) FC;have:=g.le i hi;omega
  rw[Hd _ _ _ _ (by rw[hlen];exact h1)];rw[Hd _ _ _ i (by omega)];generalize hlo':min (L.getD x 0) (L.getD y 0)=lo at*;generalize max (L.getD x 0) (L.getD y 0)=hi' at*;by_cases e:L.getD i 0=hi'
  ·have:named lo hi' (L.getD i 0)=lo:=by unfold named;rw[aP e]
   rw[this,KX];unfold named;split <;> rfl
  ·have:named lo hi' (L.getD i 0)=L.getD i 0:=by unfold named;rw[aL e]
   rw[this,g.idem i hi,this]
theorem zjj (f:Nat->Bool):∀n,((List.range n).filter f).length=cnt f n
 |0=>rfl
 |k+1=>by
  rw[dN,bP,aM,zjj f k,bT];simp only[cnt];cases f k <;> simp
theorem Iw {L:List Nat}{n x i:Nat}:i∈grp L n x↔i<n/\L.getD i 0=x:=by
 unfold grp;rw[aO,bF,bX]
theorem O4 (L:List Nat)(n x:Nat):(grp L n x).length=cnt (λ i=>L.getD i 0==x) n:=zjj _ n
theorem yc {n:Nat}{L:List Nat}(g:Good n L){x:Nat}(hx:x<n):grp L n x≠[]↔L.getD x 0=x:=by
 constructor
 ·intro h
  obtain⟨i,hi⟩:=List.exists_mem_of_ne_nil _ h;obtain⟨h1,h2⟩:=Iw.1 hi;have:=g.idem i h1;rw[h2] at this;exact this
 ·intro h e
  have:x∈grp L n x:=Iw.2 ⟨hx,h⟩;rw[e] at this;cases this
theorem zcw {n:Nat}{L:List Nat}(g:Good n L)(i:Nat)(hi:i<(Ar L n).length):∃x,x<n/\L.getD x 0=x/\(Ar L n).getD i []=grp L n x:=by
 have hm:(Ar L n).getD i []∈Ar L n:=by
  have:(Ar L n).getD i []=(Ar L n)[i]:=by simp[hi]
  rw[this];exact dF hi
 generalize (Ar L n).getD i []=G at hm;unfold Ar at hm;rw[aO,aY] at hm;obtain⟨⟨x,hx,e⟩,l9⟩:=hm;rw[g.len] at e;rw[bF] at hx;refine⟨x,hx,(yc g hx).1 (λ h=>?_),e.symm⟩;rw[<-e,h] at l9;simp at l9
def Ag {α:Type}(S:α->α->Prop)(x y:α):Prop:=
 ∀P:α->α->Prop,(∀x,P x x)->(∀x y,P x y->P y x)->(∀x y z,P x y->P y z->P x z)->(∀x y,S x y->P x y)->P x y
namespace Ag
variable {α:Type} {S S':α->α->Prop} {x y z:α}
theorem refl (x:α):Ag S x x:=λ _ h _ _ _=>h x
theorem symm (h:Ag S x y):Ag S y x:=λ P a b c d=>b _ _ (h P a b c d)
theorem trans (h:Ag S x y)(k:Ag S y z):Ag S x z:=λ P a b c d=>c _ _ _ (h P a b c d) (k P a b c d)
theorem base (h:S x y):Ag S x y:=λ _ _ _ _ d=>d _ _ h
theorem least {P:α->α->Prop}(h:Ag S x y)(a:∀x,P x x)(b:∀x y,P x y->P y x)(c:∀x y z,P x y->P y z->P x z)(d:∀x y,S x y->P x y):P x y:=h P a b c d
theorem lift (h:Ag S x y)(d:∀x y,S x y->Ag S' x y):Ag S' x y:=h.least refl (λ _ _=>symm) (λ _ _ _=>trans) d
end Ag
section
variable {α ι:Type} (a b:ι->α)
def cn (T:ι->Prop):α->α->Prop:=Ag λ x y=>∃e,T e/\a e=x/\b e=y
def but (T:ι->Prop)(f:ι):ι->Prop:=λ e=>T e/\e≠f
def more (T:ι->Prop)(f:ι):ι->Prop:=λ e=>T e\/e=f
def br (T:ι->Prop)(e:ι):Prop:=T e/\¬cn a b (but T e) (a e) (b e)
def tw (T:ι->Prop)(x y:α):Prop:=cn a b T x y/\∀e,T e->cn a b (but T e) x y
variable {a b} {T T':ι->Prop} {x y z u v:α} {e f:ι}
theorem Ao (h:T e):cn a b T (a e) (b e):=Ag.base ⟨e,h,rfl,rfl⟩
theorem Jq (h:cn a b T x y)(d:∀e,T e->cn a b T' (a e) (b e)):cn a b T' x y:=
 Ag.lift h (by rintro _ _ ⟨e,he,rfl,rfl⟩;exact d e he)
theorem Bi (h:cn a b T x y)(d:∀e,T e->T' e):cn a b T' x y:=Jq h λ e he=>Ao (d e he)
theorem Ei (h:cn a b (but T f) x y):cn a b T x y:=Bi h λ _ he=>he.1
theorem Bc (x:α):cn a b T x x:=Ag.refl x
theorem Ac (h:cn a b T x y):cn a b T y x:=Ag.symm h
theorem Ab (h:cn a b T x y)(k:cn a b T y z):cn a b T x z:=Ag.trans h k
theorem F6 (f:ι)(h:cn a b T u v):cn a b (but T f) u v\/(cn a b (but T f) u (a f)/\cn a b (but T f) (b f) v)\/(cn a b (but T f) u (b f)/\cn a b (but T f) (a f) v):=by
 refine Ag.least (P:=λ u v=>cn a b (but T f) u v\/(cn a b (but T f) u (a f)/\cn a b (but T f) (b f) v)\/(cn a b (but T f) u (b f)/\cn a b (but T f) (a f) v)) h (λ x=>.inl (Bc x)) ?_ ?_ ?_
 ·rintro x y (h|⟨h,k⟩|⟨h,k⟩)
  ·exact .inl (Ac h)
  ·exact .inr (.inr ⟨Ac k,Ac h⟩)
  ·exact .inr (.inl ⟨Ac k,Ac h⟩)
 ·rintro x y z (h|⟨h,k⟩|⟨h,k⟩) (h'|⟨h',k'⟩|⟨h',k'⟩)
  ·exact .inl (Ab h h')
  ·exact .inr (.inl ⟨Ab h h',k'⟩)
  ·exact .inr (.inr ⟨Ab h h',k'⟩)
  ·exact .inr (.inl ⟨h,Ab k h'⟩)
  ·exact .inr (.inl ⟨h,k'⟩)
  ·exact .inl (Ab h k')
  ·exact .inr (.inr ⟨h,Ab k h'⟩)
  ·exact .inl (Ab h k')
  ·exact .inr (.inr ⟨h,k'⟩)
 ·rintro _ _ ⟨e,he,rfl,rfl⟩
  by_cases hf:e=f
  ·subst hf;exact .inr (.inl ⟨Bc _,Bc _⟩)
  ·exact .inl (Ao ⟨he,hf⟩)
theorem Jw (hf:¬T f):but (more T f) f=T:=by
 funext e;apply propext
 exact⟨λ h=>h.1.elim id (λ k=>absurd k h.2),λ h=>⟨.inl h,λ k=>hf (k▸h)⟩⟩
theorem Gg (l9:e≠f):but (more T f) e=more (but T e) f:=by
 funext d;apply propext
 constructor
 ·rintro⟨h|h,k⟩
  ·exact .inl ⟨h,k⟩
  ·exact .inr h
 ·rintro(h|h)
  ·exact⟨.inl h.1,h.2⟩
  ·subst h;exact⟨.inr rfl,l9.symm⟩
theorem Bd (h:cn a b T x y):cn a b (more T f) x y:=Bi h λ _=>.inl
theorem Kw (hf:¬T f)(h:cn a b (more T f) u v):cn a b T u v\/(cn a b T u (a f)/\cn a b T (b f) v)\/(cn a b T u (b f)/\cn a b T (a f) v):=by
 have:=F6 f h;rwa[Jw hf] at this
theorem I8:cn a b (more T f) (a f) (b f):=Ao (.inr rfl)
theorem za2 (hf:¬T f):cn a b (more T f) u v↔cn a b T u v\/(cn a b T u (a f)/\cn a b T (b f) v)\/(cn a b T u (b f)/\cn a b T (a f) v):=by
 refine⟨Kw hf,?_⟩;rintro(h|⟨h,k⟩|⟨h,k⟩)
 ·exact Bd h
 ·exact Ab (Bd h) (Ab I8 (Bd k))
 ·exact Ab (Bd h) (Ab (Ac I8) (Bd k))
theorem Ji (h:cn a b T (a f) (b f)):cn a b (more T f) u v↔cn a b T u v:=
 ⟨λ k=>Jq k (by rintro e (he|rfl);exact Ao he;exact h),Bd⟩
theorem ry (hf:¬T f)(h:¬cn a b T (a f) (b f)):br a b (more T f) e↔br a b T e\/e=f:=by
 by_cases l9:e=f
 ·subst l9
  refine⟨λ _=>.inr rfl,λ _=>⟨.inr rfl,?_⟩⟩;rw[Jw hf];exact h
 ·have hf':¬but T e f:=λ k=>hf k.1
  unfold br;rw[Gg l9];constructor
  ·rintro⟨h1|h1,h2⟩
   ·exact .inl ⟨h1,λ k=>h2 (Bd k)⟩
   ·exact absurd h1 l9
  ·rintro(⟨h1,h2⟩|h1)
   ·refine⟨.inl h1,λ k=>?_⟩
    rcases Kw hf' k with k|⟨k1,k2⟩|⟨k1,k2⟩
    ·exact h2 k
    ·exact h (Ab (Ac (Ei k1)) (Ab (Ao h1) (Ac (Ei k2))))
    ·exact h (Ab (Ei k2) (Ab (Ac (Ao h1)) (Ei k1)))
   ·exact absurd h1 l9
theorem zks (hf:¬T f)(h:¬cn a b T (a f) (b f)):tw a b (more T f) u v↔tw a b T u v:=by
 constructor
 ·rintro⟨h1,h2⟩
  have h3:cn a b T u v:=by have:=h2 f (.inr rfl);rwa[Jw hf] at this
  refine⟨h3,λ e he=>?_⟩;have l9:e≠f:=λ k=>hf (k▸he)
  have h4:=h2 e (.inl he);rw[Gg l9] at h4;rcases Kw (λ k=>hf k.1) h4 with k|⟨k1,k2⟩|⟨k1,k2⟩
  ·exact k
  ·exact absurd (Ab (Ac (Ei k1)) (Ab h3 (Ac (Ei k2)))) h
  ·exact absurd (Ab (Ei k2) (Ab (Ac h3) (Ei k1))) h
 ·rintro⟨h1,h2⟩
  refine⟨Bd h1,?_⟩;rintro e (he|rfl)
  ·have l9:e≠f:=λ k=>hf (k▸he)
   rw[Gg l9];exact Bd (h2 e he)
  ·rw[Jw hf];exact h1
def sep (T:ι->Prop)(a b:ι->α)(x y:α)(e:ι):Prop:=T e/\¬cn a b (but T e) x y
theorem zsn (h:cn a b T x y)(s:sep T a b x y e):br a b T e:=
 ⟨s.1,λ k=>s.2 (Jq h λ d hd=>by
   by_cases LA:d=e
   ·subst LA;exact k
   ·exact Ao ⟨hd,LA⟩)⟩
theorem heal (h:cn a b T (a f) (b f))(s:¬cn a b (but T e) (a f) (b f)):cn a b (more (but T e) f) (a e) (b e):=by
 rcases F6 e h with k|⟨k1,k2⟩|⟨k1,k2⟩
 ·exact absurd k s
 ·exact Ab (Ac (Bd k1)) (Ab I8 (Ac (Bd k2)))
 ·exact Ab (Bd k2) (Ab (Ac I8) (Bd k1))
theorem zj2 (hf:¬T f)(h:cn a b T (a f) (b f)):br a b (more T f) e↔br a b T e/\¬sep T a b (a f) (b f) e:=by
 by_cases l9:e=f
 ·subst l9
  constructor
  ·rintro⟨_,k⟩;rw[Jw hf] at k;exact absurd h k
  ·rintro⟨k,_⟩;exact absurd k.1 hf
 ·unfold br sep
  rw[Gg l9];constructor
  ·rintro⟨h1|h1,h2⟩
   ·exact⟨⟨h1,λ k=>h2 (Bd k)⟩,λ s=>h2 (heal h s.2)⟩
   ·exact absurd h1 l9
  ·rintro⟨⟨h1,h2⟩,h3⟩
   refine⟨.inl h1,λ k=>?_⟩;have h4:cn a b (but T e) (a f) (b f):=bU λ k'=>h3 ⟨h1,k'⟩
   exact h2 ((Ji h4).1 k)
theorem zjd (hf:¬T f)(h:cn a b T (a f) (b f)):tw a b (more T f) u v↔cn a b T u v/\∀e,T e->cn a b (but T e) (a f) (b f)->cn a b (but T e) u v:=by
 constructor
 ·rintro⟨h1,h2⟩
  refine⟨(Ji h).1 h1,λ e he k=>?_⟩;have l9:e≠f:=λ k=>hf (k▸he)
  have h4:=h2 e (.inl he);rw[Gg l9] at h4;exact(Ji k).1 h4
 ·rintro⟨h1,h2⟩
  refine⟨Bd h1,?_⟩;rintro e (he|rfl)
  ·have l9:e≠f:=λ k=>hf (k▸he)
   rw[Gg l9];by_cases k:cn a b (but T e) (a f) (b f)
   ·exact Bd (h2 e he k)
   ·refine Jq h1 λ d hd=>?_
    by_cases LA:d=e
    ·subst LA;exact heal h k
    ·exact Ao (.inl ⟨hd,LA⟩)
  ·rw[Jw hf];exact h1
theorem zb7 (x:α):tw a b T x x:=⟨Bc x,λ _ _=>Bc x⟩
theorem zbo (h:tw a b T x y):tw a b T y x:=⟨Ac h.1,λ e he=>Ac (h.2 e he)⟩
theorem bg (h:tw a b T x y)(k:tw a b T y z):tw a b T x z:=⟨Ab h.1 k.1,λ e he=>Ab (h.2 e he) (k.2 e he)⟩
theorem zn2 (he:T e):br a b T e\/tw a b T (a e) (b e):=by
 by_cases h:cn a b (but T e) (a e) (b e)
 ·refine .inr ⟨Ao he,λ d hd=>?_⟩
  by_cases LA:e=d
  ·subst LA;exact h
  ·exact Ao ⟨he,LA⟩
 ·exact .inl ⟨he,h⟩
theorem Qk (h:br a b T e):¬tw a b T (a e) (b e):=λ k=>h.2 (k.2 e h.1)
theorem Wz (N:List ι):(∀e∈N,br a b T e/\cn a b (but T e) x y)->cn a b T x y->cn a b (λ e=>T e/\e∉N) x y:=by
 induction N with
 |nil=>intro _ h;exact Bi h λ e he=>⟨he,by simp⟩
 |cons d N ih=>
  intro hN h;have h1:=ih (λ e he=>hN e (bS _ he)) h;have hd:=hN d fQ;have e1:but (λ e=>T e/\e∉N) d=λ e=>T e/\e∉d::N:=by
   funext e;apply propext;simp only[but,cO,not_or];exact⟨λ h=>⟨h.1.1,h.2,h.1.2⟩,λ h=>⟨⟨h.1,h.2.2⟩,h.2.1⟩⟩
  have up:∀{p q:α},cn a b (λ e=>T e/\e∉d::N) p q->cn a b (but T d) p q:=λ k=>Bi k λ e he=>⟨he.1,λ k=>he.2 (k▸fQ)⟩
  rcases F6 d h1 with k|⟨k1,k2⟩|⟨k1,k2⟩
  ·rwa[e1] at k
  ·rw[e1] at k1 k2
   exact absurd (Ab (Ac (up k1)) (Ab hd.2 (Ac (up k2)))) hd.1.2
  ·rw[e1] at k1 k2
   exact absurd (Ab (up k2) (Ab (Ac hd.2) (up k1))) hd.1.2
theorem zh5 (B:List ι)(hB:∀e,e∈B↔br a b T e)(hf:¬T f)(h:cn a b T (a f) (b f)):
 tw a b (more T f) u v↔Ag (λ x y=>tw a b T x y\/∃e,sep T a b (a f) (b f) e/\a e=x/\b e=y) u v:=by
 rw[zjd hf h];constructor
 ·rintro⟨h1,h2⟩
  have hdec:∃N:List ι,∀e,e∈N↔e∈B/\cn a b (but T e) u v:=by
   clear h2 h1 hf h hB;induction B with
   |nil=>exact⟨[],by simp⟩
   |cons d B ih=>
    obtain⟨N,hN⟩:=ih;by_cases hd:cn a b (but T d) u v
    ·exact⟨d::N,λ e=>by
      simp only[cO,hN];constructor
      ·rintro(rfl|h)
       ·exact⟨.inl rfl,hd⟩
       ·exact⟨.inr h.1,h.2⟩
      ·rintro⟨rfl|h,k⟩
       ·exact .inl rfl
       ·exact .inr ⟨h,k⟩⟩
    ·exact⟨N,λ e=>by
      simp only[cO,hN];constructor
      ·rintro h;exact⟨.inr h.1,h.2⟩
      ·rintro⟨rfl|h,k⟩
       ·exact absurd k hd
       ·exact⟨h,k⟩⟩
  obtain⟨N,hN⟩:=hdec;have h3:=Wz N (λ e he=>⟨(hB e).1 ((hN e).1 he).1,((hN e).1 he).2⟩) h1;refine Ag.lift h3 ?_;rintro _ _ ⟨e,⟨he,hn⟩,rfl,rfl⟩;rcases zn2 he with k|k
  ·have UI:¬cn a b (but T e) u v:=λ c=>hn ((hN e).2 ⟨(hB e).2 k,c⟩)
   exact Ag.base (.inr ⟨e,⟨he,λ c=>UI (h2 e he c)⟩,rfl,rfl⟩)
  ·exact Ag.base (.inl k)
 ·intro k
  refine Ag.least (P:=λ u v=>cn a b T u v/\∀e,T e->cn a b (but T e) (a f) (b f)->cn a b (but T e) u v) k (λ x=>⟨Bc x,λ _ _ _=>Bc x⟩) (λ x y h=>⟨Ac h.1,λ e he k=>Ac (h.2 e he k)⟩) (λ x y z h h'=>⟨Ab h.1 h'.1,λ e he k=>Ab (h.2 e he k) (h'.2 e he k)⟩) ?_;rintro _ _ (h1|⟨e,he,rfl,rfl⟩)
  ·exact⟨h1.1,λ e he _=>h1.2 e he⟩
  ·refine⟨Ao he.1,λ d hd k=>?_⟩
   exact Ao ⟨he.1,λ c=>he.2 (c▸k)⟩
theorem zfk (f0:ι->Prop)(hf0:∀e,f0 e->T e)(h:cn a b f0 x y):
 tw a b T x y\/∃e u v,br a b T e/\f0 e/\((a e=u/\b e=v)\/(b e=u/\a e=v))/\tw a b T x u/\cn a b (but T e) v y:=by
 refine(Ag.least (P:=λ p q=>(tw a b T x p\/∃e u v,br a b T e/\f0 e/\((a e=u/\b e=v)\/(b e=u/\a e=v))/\tw a b T x u/\cn a b (but T e) v p)↔(tw a b T x q\/∃e u v,br a b T e/\f0 e/\((a e=u/\b e=v)\/(b e=u/\a e=v))/\tw a b T x u/\cn a b (but T e) v q)) h (λ _=>Iff.rfl) (λ _ _ h=>h.symm) (λ _ _ _ h k=>h.trans k) ?_).1 (.inl (zb7 x));have step:∀(d:ι) (p q:α),f0 d->((a d=p/\b d=q)\/(b d=p/\a d=q))->
  (tw a b T x p\/∃e u v,br a b T e/\f0 e/\((a e=u/\b e=v)\/(b e=u/\a e=v))/\tw a b T x u/\cn a b (but T e) v p)->
  (tw a b T x q\/∃e u v,br a b T e/\f0 e/\((a e=u/\b e=v)\/(b e=u/\a e=v))/\tw a b T x u/\cn a b (but T e) v q):=by
  intro d p q hd EO hp;have hT:=hf0 d hd;have LX:∀e,e≠d->cn a b (but T e) p q:=by
   intro e l9;rcases EO with⟨rfl,rfl⟩|⟨rfl,rfl⟩
   ·exact Ao ⟨hT,λ k=>l9 k.symm⟩
   ·exact Ac (Ao ⟨hT,λ k=>l9 k.symm⟩)
  rcases hp with hp|⟨e,u,v,JB,UJ,FD,hxu,hvp⟩
  ·rcases zn2 (a:=a) (b:=b) hT with k|k
   ·exact .inr ⟨d,p,q,k,hd,EO,hp,Bc q⟩
   ·refine .inl (bg hp ?_)
    rcases EO with⟨rfl,rfl⟩|⟨rfl,rfl⟩
    ·exact k
    ·exact zbo k
  ·by_cases AV:e=d
   ·subst AV
    have huv':¬cn a b (but T e) u v:=by
     rcases FD with⟨rfl,rfl⟩|⟨rfl,rfl⟩
     ·exact JB.2
     ·exact λ k=>JB.2 (Ac k)
    have hqu:q=u:=by
     rcases FD with⟨rfl,rfl⟩|⟨rfl,rfl⟩ <;> rcases EO with⟨rfl,rfl⟩|⟨rfl,rfl⟩
     ·exact absurd (Ac hvp) huv'
     ·rfl
     ·rfl
     ·exact absurd (Ac hvp) huv'
    subst hqu;exact .inl hxu
   ·exact .inr ⟨e,u,v,JB,UJ,FD,hxu,Ab hvp (LX e AV)⟩
 rintro _ _ ⟨d,hd,rfl,rfl⟩;exact⟨step d _ _ hd (.inl ⟨rfl,rfl⟩),step d _ _ hd (.inr ⟨rfl,rfl⟩)⟩
theorem narrower {e0 e1:ι}{p q r s t:α}(h0:br a b T e0)(h1:br a b T e1)(l9:e0≠e1)
 (h0e:(a e0=p/\b e0=q)\/(b e0=p/\a e0=q)) (h1e:(a e1=r/\b e1=s)\/(b e1=r/\a e1=s)) (hqr:tw a b T q r)
 (hc:cn a b (but T e1) t s):t≠a e0/\cn a b (but T e0) t r:=by
 have k0:cn a b (but T e1) p q:=by
  rcases h0e with⟨rfl,rfl⟩|⟨rfl,rfl⟩
  ·exact Ao ⟨h0.1,l9⟩
  ·exact Ac (Ao ⟨h0.1,l9⟩)
 have k1:¬cn a b (but T e1) r s:=by
  rcases h1e with⟨rfl,rfl⟩|⟨rfl,rfl⟩
  ·exact h1.2
  ·exact λ k=>h1.2 (Ac k)
 have kq:cn a b (but T e1) q r:=hqr.2 e1 h1.1;have nq:∀t,cn a b (but T e1) t s->(t=p\/t=q)->False:=by
  rintro t ht (rfl|rfl)
  ·exact k1 (Ab (Ac kq) (Ab (Ac k0) ht))
  ·exact k1 (Ab (Ac kq) ht)
 have UK:(a e0=p\/a e0=q)/\(b e0=p\/b e0=q):=by
  rcases h0e with⟨h,k⟩|⟨h,k⟩
  ·exact⟨.inl h,.inr k⟩
  ·exact⟨.inr k,.inl h⟩
 refine⟨?_,?_⟩
 ·rintro rfl
  exact nq _ hc UK.1
 ·have k2:cn a b (but T e0) s r:=by
   rcases h1e with⟨rfl,rfl⟩|⟨rfl,rfl⟩
   ·exact Ac (Ao ⟨h1.1,λ k=>l9 k.symm⟩)
   ·exact Ao ⟨h1.1,λ k=>l9 k.symm⟩
  have sub:∀{p q:α},cn a b (but (but T e1) e0) p q->cn a b (but T e0) p q:=λ k=>Bi k λ e he=>⟨he.1.1,he.2⟩
  rcases F6 e0 hc with k|⟨_,k⟩|⟨_,k⟩
  ·exact Ab (sub k) k2
  ·exact absurd (Ei k) (λ k=>nq _ k UK.2)
  ·exact absurd (Ei k) (λ k=>nq _ k UK.1)
theorem zjq {x' y':α}(hx:tw a b T x x')(hy:tw a b T y y')(e:ι):sep T a b x y e↔sep T a b x' y' e:=
 ⟨λ h=>⟨h.1,λ k=>h.2 (Ab (hx.2 e h.1) (Ab k (Ac (hy.2 e h.1))))⟩,λ h=>⟨h.1,λ k=>h.2 (Ab (Ac (hx.2 e h.1)) (Ab k (hy.2 e h.1)))⟩⟩
theorem znr {r s:α}(h1:br a b T e)(he:(a e=r/\b e=s)\/(b e=r/\a e=s))(UD:tw a b T x r)(hs:tw a b T s z)(hy:cn a b (but T e) s y)(d:ι):
 sep T a b x y d↔d=e\/sep T a b z y d:=by
 have k1:¬cn a b (but T e) r s:=by
  rcases he with⟨rfl,rfl⟩|⟨rfl,rfl⟩
  ·exact h1.2
  ·exact λ k=>h1.2 (Ac k)
 by_cases LA:d=e
 ·subst LA
  refine⟨λ _=>.inl rfl,λ _=>⟨h1.1,λ k=>k1 ?_⟩⟩;exact Ab (Ac (UD.2 d h1.1)) (Ab k (Ac hy))
 ·have k2:cn a b (but T d) r s:=by
   rcases he with⟨rfl,rfl⟩|⟨rfl,rfl⟩
   ·exact Ao ⟨h1.1,λ k=>LA k.symm⟩
   ·exact Ac (Ao ⟨h1.1,λ k=>LA k.symm⟩)
  constructor
  ·rintro⟨h2,h3⟩
   exact .inr ⟨h2,λ k=>h3 (Ab (Ab (UD.2 d h2) k2) (Ab (hs.2 d h2) k))⟩
  ·rintro(h2|⟨h2,h3⟩)
   ·exact absurd h2 LA
   ·exact⟨h2,λ k=>h3 (Ab (Ac (hs.2 d h2)) (Ab (Ac k2) (Ab (Ac (UD.2 d h2)) k)))⟩
end
end Go.Proofs.Y.S
namespace Go.Proofs.Y.S
def Lk (n:Nat)(L:List Nat)(u v:Nat):Prop:=u=v\/(u<n/\v<n/\L.getD u 0=L.getD v 0)
theorem Lk.refl {n:Nat}{L:List Nat}(u:Nat):Lk n L u u:=.inl rfl
theorem Lk.symm {n:Nat}{L:List Nat}{u v:Nat}(h:Lk n L u v):Lk n L v u:=by
 rcases h with h|⟨h1,h2,h3⟩
 ·exact .inl h.symm
 ·exact .inr ⟨h2,h1,h3.symm⟩
theorem Lk.trans {n:Nat}{L:List Nat}{u v z:Nat}(h:Lk n L u v)(k:Lk n L v z):Lk n L u z:=by
 rcases h with rfl|⟨h1,h2,h3⟩
 ·exact k
 ·rcases k with rfl|⟨k1,k2,k3⟩
  ·exact .inr ⟨h1,h2,h3⟩
  ·exact .inr ⟨h1,k2,h3.trans k3⟩
theorem Lk.lt {n:Nat}{L:List Nat}{u v:Nat}(h:Lk n L u v)(hu:u<n):v<n:=by
 rcases h with rfl|h
 ·exact hu
 ·exact h.2.1
theorem Lk.iff {n:Nat}{L:List Nat}{u v:Nat}(hu:u<n)(hv:v<n):Lk n L u v↔L.getD u 0=L.getD v 0:=by
 constructor
 ·rintro(rfl|h)
  ·rfl
  ·exact h.2.2
 ·exact λ h=>.inr ⟨hu,hv,h⟩
theorem zh {lo hi p q:Nat}:named lo hi p=named lo hi q↔p=q\/(p=lo/\q=hi)\/(p=hi/\q=lo):=by
 unfold named;split <;> split <;> omega
theorem M5 {n:Nat}{L:List Nat}(hl:L.length=n){x y u v:Nat}(hu:u<n)(hv:v<n):
 (joinL L x y).getD u 0=(joinL L x y).getD v 0↔L.getD u 0=L.getD v 0\/(L.getD u 0=L.getD x 0/\L.getD y 0=L.getD v 0)\/(L.getD u 0=L.getD y 0/\L.getD x 0=L.getD v 0):=by
 rw[Hd _ _ _ _ (by omega),Hd _ _ _ _ (by omega),zh];omega
theorem Iz {n:Nat}{L:List Nat}(hl:L.length=n){x y u v:Nat}(hx:x<n)(hy:y<n):
 Lk n (joinL L x y) u v↔Lk n L u v\/(Lk n L u x/\Lk n L y v)\/(Lk n L u y/\Lk n L x v):=by
 constructor
 ·rintro(rfl|⟨hu,hv,h⟩)
  ·exact .inl (Lk.refl _)
  ·rw[M5 hl hu hv] at h
   rw[Lk.iff hu hv,Lk.iff hu hx,Lk.iff hy hv,Lk.iff hu hy,Lk.iff hx hv];exact h
 ·rintro(h|⟨h,k⟩|⟨h,k⟩)
  ·rcases h with rfl|⟨hu,hv,h⟩
   ·exact Lk.refl _
   ·rw[Lk.iff hu hv,M5 hl hu hv];exact .inl h
  ·have hu:=h.symm.lt hx
   have hv:=k.lt hy;rw[Lk.iff hu hx] at h;rw[Lk.iff hy hv] at k;rw[Lk.iff hu hv,M5 hl hu hv];exact .inr (.inl ⟨h,k⟩)
  ·have hu:=h.symm.lt hy
   have hv:=k.lt hx;rw[Lk.iff hu hy] at h;rw[Lk.iff hx hv] at k;rw[Lk.iff hu hv,M5 hl hu hv];exact .inr (.inr ⟨h,k⟩)
def ea (e:Int × Int × Int):Nat:=e.2.1.toNat
def eb (e:Int × Int × Int):Nat:=e.2.2.toNat
def joins (L:List Nat):List (Int × Int × Int)->List Nat
 |[]=>L
 |d::ds=>joins (joinL L (ea d) (eb d)) ds
theorem Ew {n:Nat}:∀(ds:List (Int × Int × Int)) (L:List Nat),Good n L->(∀d∈ds,ea d<n/\eb d<n)->Good n (joins L ds)
 |[],_,g,_=>g
 |d::ds,_,g,h=>Ew ds _ (Nf g (h d fQ).1 (h d fQ).2) (λ e he=>h e (bS _ he))
theorem Lh {n:Nat}:∀(ds:List (Int × Int × Int)) (L:List Nat) {u v:Nat},Good n L->(∀d∈ds,ea d<n/\eb d<n)->
 (Lk n (joins L ds) u v↔Ag (λ x y=>Lk n L x y\/∃e,e∈ds/\ea e=x/\eb e=y) u v)
 |[],L,u,v,_,_=>by
  constructor
  ·exact λ h=>Ag.base (.inl h)
  ·exact λ h=>Ag.least (P:=Lk n L) h (λ _=>Lk.refl _) (λ _ _ h=>h.symm) (λ _ _ _ h k=>h.trans k) (by
    rintro x y (h|⟨e,he,_⟩)
    ·exact h
    ·simp at he)
 |d::ds,L,u,v,g,UL=>by
  have hd:=UL d fQ;have hds':∀e∈ds,ea e<n/\eb e<n:=λ e he=>UL e (bS _ he)
  show Lk n (joins (joinL L (ea d) (eb d)) ds) u v↔_;rw[Lh ds _ (Nf g hd.1 hd.2) hds'];have bd:Ag (λ x y=>Lk n L x y\/∃e,e∈d::ds/\ea e=x/\eb e=y) (ea d) (eb d):=Ag.base (.inr ⟨d,fQ,rfl,rfl⟩);constructor
  ·intro h
   refine Ag.lift h ?_;rintro x y (h|⟨e,he,h1,h2⟩)
   ·rw[Iz g.len hd.1 hd.2] at h
    rcases h with h|⟨h,k⟩|⟨h,k⟩
    ·exact Ag.base (.inl h)
    ·exact(Ag.base (.inl h)).trans (bd.trans (Ag.base (.inl k)))
    ·exact(Ag.base (.inl h)).trans (bd.symm.trans (Ag.base (.inl k)))
   ·exact Ag.base (.inr ⟨e,bS _ he,h1,h2⟩)
  ·intro h
   refine Ag.lift h ?_;rintro x y (h|⟨e,he,h1,h2⟩)
   ·exact Ag.base (.inl ((Iz g.len hd.1 hd.2).2 (.inl h)))
   ·rcases cO.1 he with rfl|he
    ·subst h1 h2
     exact Ag.base (.inl ((Iz g.len hd.1 hd.2).2 (.inr (.inl ⟨Lk.refl _,Lk.refl _⟩))))
    ·exact Ag.base (.inr ⟨e,he,h1,h2⟩)
abbrev cnR (R:List (Int × Int × Int)):Nat->Nat->Prop:=cn ea eb (·∈R)
abbrev twR (R:List (Int × Int × Int)):Nat->Nat->Prop:=tw ea eb (·∈R)
abbrev brR (R:List (Int × Int × Int)):Int × Int × Int->Prop:=br ea eb (·∈R)
abbrev Pg (R:List (Int × Int × Int))(x y:Nat):Int × Int × Int->Prop:=sep (·∈R) ea eb x y
structure St (n:Nat) (R:List (Int × Int × Int)) (W T:List Nat) (B:List (Int × Int × Int)):Prop where
 gw:Good n W
 gt:Good n T
 inn:∀e∈R,ea e<n/\eb e<n
 nat:∀e∈R,e.2.1=(ea e:Int)/\e.2.2=(eb e:Int)
 one:∀e∈R,∀d∈R,e.1=d.1->e=d
 hW:∀u v,Lk n W u v↔cnR R u v
 hT:∀u v,Lk n T u v↔twR R u v
 hB:∀e,e∈B↔brR R e
theorem Iu (R:List (Int × Int × Int))(f:Int × Int × Int):(·∈R++[f])=more (·∈R) f:=by
 funext e;apply propext;simp[more]
theorem St.start (n:Nat):St n [] (List.range n) (List.range n) []:=by
 have h:∀u v,Lk n (List.range n) u v↔u=v:=by
  intro u v;constructor
  ·rintro(h|⟨h1,h2,h3⟩)
   ·exact h
   ·simpa[h1,h2] using h3
  ·exact λ h=>.inl h
 have hc:∀u v,cnR [] u v↔u=v:=by
  intro u v;constructor
  ·exact λ h=>Ag.least (P:=λ u v=>u=v) h (λ _=>rfl) (λ _ _ h=>h.symm) (λ _ _ _ h k=>h.trans k) (by rintro x y ⟨e,he,_⟩;simp at he)
  ·rintro rfl;exact Bc _
 refine⟨Dg n,Dg n,by simp,by simp,by simp,λ u v=>by rw[h,hc],λ u v=>?_,λ e=>?_⟩
 ·rw[h]
  constructor
  ·rintro rfl;exact zb7 _
  ·exact λ k=>(hc u v).1 k.1
 ·simp[brR,br]
theorem St.apart {n:Nat}{R:List (Int × Int × Int)}{W T:List Nat}{B:List (Int × Int × Int)}(s:St n R W T B)(f:Int × Int × Int)(ha:ea f<n)(hb:eb f<n)(hn:f.2.1=(ea f:Int)/\f.2.2=(eb f:Int))(AB:∀e∈R,e.1≠f.1)
 (h:W.getD (ea f) 0≠W.getD (eb f) 0):St n (R++[f]) (joinL W (ea f) (eb f)) T (B++[f]):=by
 have hf:¬(λ x=>x∈R) f:=λ k=>AB f k rfl
 have hc:¬cn ea eb (·∈R) (ea f) (eb f):=λ k=>h ((Lk.iff ha hb).1 ((s.hW _ _).2 k))
 refine⟨Nf s.gw ha hb,s.gt,?_,?_,?_,λ u v=>?_,λ u v=>?_,λ e=>?_⟩
 ·intro e he
  rcases aK.1 he with he|he
  ·exact s.inn e he
  ·rw[aJ.1 he];exact⟨ha,hb⟩
 ·intro e he
  rcases aK.1 he with he|he
  ·exact s.nat e he
  ·rw[aJ.1 he];exact hn
 ·intro e he d hd AV
  rcases aK.1 he with he|he <;> rcases aK.1 hd with hd|hd
  ·exact s.one e he d hd AV
  ·rw[aJ.1 hd] at AV;exact absurd AV (AB e he)
  ·rw[aJ.1 he] at AV;exact absurd AV.symm (AB d hd)
  ·rw[aJ.1 hd,aJ.1 he]
 ·rw[Iz s.gw.len ha hb]
  simp only[s.hW,cnR];rw[Iu,za2 hf]
 ·simp only[twR]
  rw[Iu,zks hf hc];exact s.hT u v
 ·simp only[brR]
  rw[Iu,ry hf hc,aK,aJ,s.hB]
theorem St.within {n:Nat}{R:List (Int × Int × Int)}{W T:List Nat}{B B' ds:List (Int × Int × Int)}(s:St n R W T B)(f:Int × Int × Int)(ha:ea f<n)(hb:eb f<n)(hn:f.2.1=(ea f:Int)/\f.2.2=(eb f:Int))(AB:∀e∈R,e.1≠f.1)
 (h:W.getD (ea f) 0=W.getD (eb f) 0) (UL:∀e,e∈ds↔Pg R (ea f) (eb f) e) (hB':∀e,e∈B'↔e∈B/\e∉ds):St n (R++[f]) W (joins T ds) B':=by
 have hf:¬(λ x=>x∈R) f:=λ k=>AB f k rfl
 have hc:cn ea eb (·∈R) (ea f) (eb f):=(s.hW _ _).1 ((Lk.iff ha hb).2 h);have p9:∀d∈ds,ea d<n/\eb d<n:=λ d hd=>s.inn d ((UL d).1 hd).1
 refine⟨s.gw,Ew ds T s.gt p9,?_,?_,?_,λ u v=>?_,λ u v=>?_,λ e=>?_⟩
 ·intro e he
  rcases aK.1 he with he|he
  ·exact s.inn e he
  ·rw[aJ.1 he];exact⟨ha,hb⟩
 ·intro e he
  rcases aK.1 he with he|he
  ·exact s.nat e he
  ·rw[aJ.1 he];exact hn
 ·intro e he d hd AV
  rcases aK.1 he with he|he <;> rcases aK.1 hd with hd|hd
  ·exact s.one e he d hd AV
  ·rw[aJ.1 hd] at AV;exact absurd AV (AB e he)
  ·rw[aJ.1 he] at AV;exact absurd AV.symm (AB d hd)
  ·rw[aJ.1 hd,aJ.1 he]
 ·simp only[cnR]
  rw[Iu,Ji hc];exact s.hW u v
 ·rw[Lh ds T s.gt p9]
  simp only[twR];rw[Iu,zh5 B s.hB hf hc];have:(λ x y=>Lk n T x y\/∃e,e∈ds/\ea e=x/\eb e=y)=(λ x y=>tw ea eb (·∈R) x y\/∃e,sep (·∈R) ea eb (ea f) (eb f) e/\ea e=x/\eb e=y):=by
   funext x y;apply propext
   rw[s.hT];simp only[UL]
  rw[this]
 ·simp only[brR]
  rw[Iu,zj2 hf hc,hB',s.hB,UL]
end Go.Proofs.Y.S
namespace Go.Proofs.Y.S
def Ends (e:Int × Int × Int)(u v:Nat):Prop:=(ea e=u/\eb e=v)\/(eb e=u/\ea e=v)
def Hop (R:List (Int × Int × Int))(T:List Nat)(fr:Nat)(back:Int)(Z:Int × Int × Int->Prop):Prop:=
 (back= -1/\Z=(·∈R))\/∃e0 p q,brR R e0/\Ends e0 p q/\back=(T.getD p 0:Nat)/\T.getD q 0=fr/\Z=but (·∈R) e0
def Met (R:List (Int × Int × Int))(fr:Nat)(Z:Int × Int × Int->Prop)(D:List (Int × Int × Int)):Prop:=
 ∀d,brR R d->Z d->cn ea eb Z (ea d) fr->d∈D
variable {n:Nat} {R:List (Int × Int × Int)} {W T:List Nat} {B:List (Int × Int × Int)}
theorem Ends.lt (s:St n R W T B){e:Int × Int × Int}(he:e∈R){u v:Nat}(h:Ends e u v):u<n/\v<n:=by
 have:=s.inn e he;rcases h with⟨rfl,rfl⟩|⟨rfl,rfl⟩
 ·exact this
 ·exact⟨this.2,this.1⟩
theorem St.rep (s:St n R W T B){u:Nat}(hu:u<n):twR R u (T.getD u 0):=
 (s.hT _ _).1 ((Lk.iff hu (dS (s.gt.le u hu) hu)).2 (s.gt.idem u hu).symm)
theorem St.tw (s:St n R W T B){u v:Nat}(hu:u<n)(hv:v<n):twR R u v↔T.getD u 0=T.getD v 0:=by
 rw[<-s.hT,Lk.iff hu hv]
theorem St.lab (s:St n R W T B){u:Nat}(hu:u<n):T.getD u 0<n:=dS (s.gt.le u hu) hu
theorem zl6 (s:St n R W T B){fr tg u v:Nat}{back:Int}{Z:Int × Int × Int->Prop}{D:List (Int × Int × Int)}(h:Hop R T fr back Z)(hD:Met R fr Z D)(OG:fr<n)(JG:T.getD fr 0=fr)
 {e:Int × Int × Int} (he:brR R e) (FD:Ends e u v) (hu:T.getD u 0=fr) (hv:((T.getD v 0:Nat):Int)≠back):
 Hop R T (T.getD v 0) fr (but (·∈R) e)/\e∈D/\Met R (T.getD v 0) (but (·∈R) e) (D.filter λ d=>decide (d≠e))/\(cn ea eb (but (·∈R) e) (T.getD v 0) tg->cn ea eb Z fr tg):=by
 have j6:=FD.lt s he.1;have TH:twR R fr u:=(s.tw OG j6.1).2 (by rw[JG,hu]);have XR:=s.rep j6.2;have hEdge:∀d,d≠e->cn ea eb (but (·∈R) d) u v:=by
  intro d hd;rcases FD with⟨rfl,rfl⟩|⟨rfl,rfl⟩
  ·exact Ao ⟨he.1,λ k=>hd k.symm⟩
  ·exact Ac (Ao ⟨he.1,λ k=>hd k.symm⟩)
 have OH:cnR R u v:=by
  rcases FD with⟨rfl,rfl⟩|⟨rfl,rfl⟩
  ·exact Ao he.1
  ·exact Ac (Ao he.1)
 refine⟨.inr ⟨e,u,v,he,FD,by rw[hu],rfl,rfl⟩,?_⟩;rcases h with⟨_,rfl⟩|⟨e0,p,q,h0,EO,CG,hq,rfl⟩
 ·refine⟨?_,?_,?_⟩
  ·refine hD e he he.1 ?_
   rcases FD with⟨rfl,rfl⟩|⟨rfl,rfl⟩
   ·exact Ac TH.1
   ·exact Ab (Ac OH) (Ac TH.1)
  ·intro d hd hz hc
   refine aO.2 ⟨hD d hd hd.1 ?_,by simpa using hz.2⟩;exact Ab (Ei hc) (Ab (Ac XR.1) (Ab (Ac OH) (Ac TH.1)))
  ·intro hc
   exact Ab TH.1 (Ab OH (Ab XR.1 (Ei hc)))
 ·have XT:=EO.lt s h0.1
  have hqf:twR R q fr:=(s.tw XT.2 OG).2 (by rw[JG,hq]);have l9:e0≠e:=by
   rintro rfl;have hnt:T.getD u 0≠T.getD v 0:=by
    intro k;have:=(s.tw j6.1 j6.2).2 k;rcases FD with⟨rfl,rfl⟩|⟨rfl,rfl⟩
    ·exact Qk he this
    ·exact Qk he (zbo this)
   rcases FD with⟨rfl,rfl⟩|⟨rfl,rfl⟩ <;> rcases EO with⟨rfl,rfl⟩|⟨rfl,rfl⟩
   ·exact hnt (by rw[hu,hq])
   ·exact hv CG.symm
   ·exact hv CG.symm
   ·exact hnt (by rw[hu,hq])
  have hqu:twR R q u:=bg hqf TH;refine⟨?_,?_,?_⟩
  ·refine hD e he ⟨he.1,λ k=>l9 k.symm⟩ ?_
   have hfu0:=TH.2 e0 h0.1;have AV:=hEdge e0 l9;rcases FD with⟨rfl,rfl⟩|⟨rfl,rfl⟩
   ·exact Ac hfu0
   ·exact Ab (Ac AV) (Ac hfu0)
  ·intro d hd hz hc
   have hc':cn ea eb (but (·∈R) e) (ea d) v:=Ab hc (Ac (XR.2 e he.1));have XU:=narrower h0 he l9 EO FD hqu hc';refine aO.2 ⟨hD d hd ⟨hd.1,λ k=>XU.1 (by rw[k])⟩ ?_,by simpa using hz.2⟩;exact Ab XU.2 (Ac (TH.2 e0 h0.1))
  ·intro hc
   have hc':cn ea eb (but (·∈R) e) tg v:=Ab (Ac hc) (Ac (XR.2 e he.1));have XU:=narrower h0 he l9 EO FD hqu hc';exact Ab (TH.2 e0 h0.1) (Ac XU.2)
theorem zl4 (s:St n R W T B){fr tg:Nat}{back:Int}{Z:Int × Int × Int->Prop}(h:Hop R T fr back Z)(OG:fr<n)(JG:T.getD fr 0=fr)(hto:tg<n)(QB:T.getD tg 0=tg)(l9:fr≠tg)
 (AA:∀e∈B,∀u v,Ends e u v->T.getD u 0=fr->((T.getD v 0:Nat):Int)≠back->¬cn ea eb (but (·∈R) e) (T.getD v 0) tg):¬cn ea eb Z fr tg:=by
 intro hc;have hZ:∀e,Z e->e∈R:=by
  rcases h with⟨_,rfl⟩|⟨e0,p,q,h0,EO,CG,hq,rfl⟩
  ·exact λ _ h=>h
  ·exact λ _ h=>h.1
 rcases zfk (T:=(·∈R)) Z hZ hc with h1|⟨e,u,v,he,hz,FD,TH,hvt⟩
 ·exact l9 (by rw[<-JG,<-QB];exact(s.tw OG hto).1 h1)
 ·have j6:=Ends.lt s he.1 FD
  have hu:T.getD u 0=fr:=by rw[<-(s.tw OG j6.1).1 TH,JG]
  have XR:=s.rep j6.2;refine AA e ((s.hB e).2 he) u v FD hu ?_ (Ab (Ac (XR.2 e he.1)) hvt);rcases h with⟨CG,rfl⟩|⟨e0,p,q,h0,EO,CG,hq,rfl⟩
  ·rw[CG];omega
  ·intro k
   have XT:=Ends.lt s h0.1 EO;have hpv:twR R p v:=(s.tw XT.1 j6.2).2 (by rw[CG] at k;omega);have hqu:twR R q u:=(s.tw XT.2 j6.1).2 (by rw[hq,hu]);have huv':cn ea eb (but (·∈R) e0) u v:=by
    rcases FD with⟨rfl,rfl⟩|⟨rfl,rfl⟩
    ·exact Ao hz
    ·exact Ac (Ao hz)
   have hpq':cn ea eb (but (·∈R) e0) p q:=Ab (hpv.2 e0 h0.1) (Ab (Ac huv') (Ac (hqu.2 e0 h0.1)));rcases EO with⟨rfl,rfl⟩|⟨rfl,rfl⟩
   ·exact h0.2 hpq'
   ·exact h0.2 (Ac hpq')
def Way (R:List (Int × Int × Int))(x y:Nat)(ds:List (Int × Int × Int)):Prop:=ds.Nodup/\∀e,e∈ds↔Pg R x y e
theorem zq0 (x:Nat):Way R x x []:=⟨List.nodup_nil,λ e=>by simp[sep,Bc]⟩
theorem zkx (s:St n R W T B){fr tg u v:Nat}(OG:fr<n)(JG:T.getD fr 0=fr){e:Int × Int × Int}(he:brR R e)(FD:Ends e u v)(hu:T.getD u 0=fr)
 (hc:cn ea eb (but (·∈R) e) (T.getD v 0) tg) {ds:List (Int × Int × Int)} (hw:Way R (T.getD v 0) tg ds):Way R fr tg (ds++[e]):=by
 have j6:=FD.lt s he.1;have TH:twR R fr u:=(s.tw OG j6.1).2 (by rw[JG,hu]);have XR:=s.rep j6.2;refine⟨?_,λ d=>?_⟩
 ·rw[jO]
  refine⟨hw.1,by simp,?_⟩;intro x hx y hy;rw[aJ.1 hy];rintro rfl;exact((hw.2 x).1 hx).2 hc
 ·have:=znr (T:=(·∈R)) he FD TH XR (Ab (XR.2 e he.1) hc) d
  rw[aK,aJ,hw.2];simp only[Pg];rw[this];exact or_comm
theorem Way.zt0 (s:St n R W T B){x y:Nat}(h:cnR R x y){ds:List (Int × Int × Int)}(hw:Way R x y ds):∀e∈ds,e∈B:=λ e he=>(s.hB e).2 (zsn h ((hw.2 e).1 he))
theorem Way.ends (s:St n R W T B){x y:Nat}(hx:x<n)(hy:y<n){ds:List (Int × Int × Int)}(hw:Way R (T.getD x 0) (T.getD y 0) ds):∀e,e∈ds↔Pg R x y e:=λ e=>by
 rw[hw.2];exact(zjq (s.rep hx) (s.rep hy) e).symm
end Go.Proofs.Y.S
namespace Go.Proofs.Y.S
def Lab (n:Nat)(R:List (Int × Int × Int))(l:List Nat):Prop:=l.length=n/\∀x,x<n->l.getD x 0<=x/\cnR R x (l.getD x 0)
theorem zi3 (n:Nat)(R:List (Int × Int × Int)):Lab n R (List.range n):=⟨by simp,λ x hx=>by simp[hx,Bc]⟩
def told (l:List Nat)(u v:Nat):List Nat:=(l.set u (min (l.getD u 0) (l.getD v 0))).set v (min (l.getD u 0) (l.getD v 0))
theorem zae (l:List Nat)(u v:Nat):(told l u v).length=l.length:=by simp[told]
theorem zrm {l:List Nat}{u v x:Nat}(hx:x<l.length):(told l u v).getD x 0=if x=u\/x=v then min (l.getD u 0) (l.getD v 0) else l.getD x 0:=by
 unfold told;by_cases h1:v=x
 ·subst h1;simp[hx]
 ·by_cases h2:u=x
  ·subst h2;simp[hx,h1]
  ·have:¬(x=u\/x=v):=by omega
   simp[hx,h1,h2,this]
theorem znt {n:Nat}{R:List (Int × Int × Int)}{l:List Nat}(h:Lab n R l){e:Int × Int × Int}(he:e∈R)(ha:ea e<n)(hb:eb e<n):Lab n R (told l (ea e) (eb e)):=by
 refine⟨by rw[zae];exact h.1,λ x hx=>?_⟩;rw[zrm (by rw[h.1];exact hx)];have hA:=h.2 _ ha;have hB:=h.2 _ hb;have hc:cnR R (ea e) (eb e):=Ao he;have key:∀{x},x=ea e\/x=eb e->cnR R x (min (l.getD (ea e) 0) (l.getD (eb e) 0)):=by
  rintro x (rfl|rfl)
  ·rcases kZ (l.getD (ea e) 0) (l.getD (eb e) 0) with k|k
   ·rw[gJ k];exact hA.2
   ·rw[gQ k];exact Ab hc hB.2
  ·rcases kZ (l.getD (ea e) 0) (l.getD (eb e) 0) with k|k
   ·rw[gJ k];exact Ab (Ac hc) hA.2
   ·rw[gQ k];exact hB.2
 split
 ·next hk=>
  refine⟨?_,key hk⟩;rcases hk with rfl|rfl
  ·have:=hA.1;omega
  ·have:=hB.1;omega
 ·exact h.2 x hx
theorem Rj:∀(l:List Nat) (u k:Nat),u<l.length->(l.set u k).sum+l.getD u 0=l.sum+k
 |[],u,k,h=>by simp at h
 |x::l,0,k,_=>by simp;omega
 |x::l,u+1,k,h=>by
  have:=Rj l u k (by simpa using h);simp at this ⊢;omega
theorem za {l:List Nat}{u v:Nat}(hu:u<l.length)(hv:v<l.length)(l9:l.getD u 0≠l.getD v 0):(told l u v).sum<l.sum:=by
 unfold told;have FD:u≠v:=λ k=>l9 (by rw[k])
 have h1:=Rj l u (min (l.getD u 0) (l.getD v 0)) hu;have h2:=Rj (l.set u (min (l.getD u 0) (l.getD v 0))) v (min (l.getD u 0) (l.getD v 0)) (by simpa using hv);have h3:(l.set u (min (l.getD u 0) (l.getD v 0))).getD v 0=l.getD v 0:=by simp[FD]
 rw[h3] at h2;omega
theorem jm {n:Nat}{R:List (Int × Int × Int)}{l:List Nat}(h:Lab n R l)(p9:∀e∈R,ea e<n/\eb e<n)(hd:∀e∈R,l.getD (ea e) 0=l.getD (eb e) 0){u v:Nat}(hu:u<n)(hv:v<n):l.getD u 0=l.getD v 0↔cnR R u v:=by
 constructor
 ·intro k
  have h1:=(h.2 u hu).2;have h2:=(h.2 v hv).2;rw[k] at h1;exact Ab h1 (Ac h2)
 ·intro k
  have:Lk n l u v:=Ag.least (P:=Lk n l) k (λ _=>Lk.refl _) (λ _ _ h=>h.symm) (λ _ _ _ h k=>h.trans k) (by
   rintro _ _ ⟨e,he,rfl,rfl⟩;exact .inr ⟨(p9 e he).1,(p9 e he).2,hd e he⟩)
  exact(Lk.iff hu hv).1 this
def rest (R:List (Int × Int × Int))(e:Int × Int × Int):List (Int × Int × Int):=R.filter λ d=>decide (d.1≠e.1)
theorem Im {R:List (Int × Int × Int)}(h1:∀e∈R,∀d∈R,e.1=d.1->e=d){e:Int × Int × Int}(he:e∈R):(·∈rest R e)=but (·∈R) e:=by
 funext d;apply propext
 simp only[rest,aO,dO,but];constructor
 ·rintro⟨h,k⟩;exact⟨h,λ c=>k (by rw[c])⟩
 ·rintro⟨h,k⟩;exact⟨h,λ c=>k (h1 d h e he c)⟩
theorem St.bridge {n:Nat}{R:List (Int × Int × Int)}{W T:List Nat}{B:List (Int × Int × Int)}(s:St n R W T B){e:Int × Int × Int}(he:e∈R):e∈B↔¬cnR (rest R e) (ea e) (eb e):=by
 rw[s.hB];simp only[cnR];rw[Im s.one he];exact⟨λ h=>h.2,λ h=>⟨he,h⟩⟩
theorem St.zvo {n:Nat}{R:List (Int × Int × Int)}{W T:List Nat}{B:List (Int × Int × Int)}(s:St n R W T B){u v:Nat}(hu:u<n)(hv:v<n):T.getD u 0=T.getD v 0↔cnR R u v/\∀e∈R,cnR (rest R e) u v:=by
 rw[<-s.tw hu hv];constructor
 ·rintro⟨h,k⟩
  refine⟨h,λ e he=>?_⟩;simp only[cnR];rw[Im s.one he];exact k e he
 ·rintro⟨h,k⟩
  refine⟨h,λ e he=>?_⟩;have:=k e he;simp only[cnR] at this;rwa[Im s.one he] at this
def Az (R B:List (Int × Int × Int)):List Int:=(R.filter λ e=>decide (e∈B)).map (·.1)
theorem znk {R B:List (Int × Int × Int)}(h:R.Pairwise λ x y=>x.1<y.1):(Az R B).Pairwise (·<·):=by
 unfold Az;rw[iB];exact eG _ h
theorem zrr {R B:List (Int × Int × Int)}(hBR:∀e∈B,e∈R)(x:Int):x∈Az R B↔∃e∈B,e.1=x:=by
 simp only[Az,aY,aO,dO];exact⟨λ⟨e,h,k⟩=>⟨e,h.2,k⟩,λ⟨e,h,k⟩=>⟨e,⟨hBR e h,h⟩,k⟩⟩
end Go.Proofs.Y.S
namespace Go.Proofs.Y.S
open Go.RowKit Go.Proofs.Tryz
def Bw (n:Nat)(x:Int):Prop:=x<0\/(n:Int)<=x
theorem qw (x y:Int)(p b:Nat)(L:List Nat)(w:World)(hs:Aa w p b L)(hx:Bw L.length x\/Bw L.length y):
 Calls prog 130 #[.pointer p,x,y] w λ e w'=>e=Value.tuple #[false,.iface 23 (2:Int)]/\Below w w w':=by
 have HX:=kd hx;clear hx;go_enter func130,ntmps130;go_wp2_with fail;refine(zdw x y w p b 2 L _ (Cn hs _) (by simp) (by simp) (by simp) HX.o).mono ?_;rintro e w' ⟨rfl,rfl⟩;clear hs;go_wp2;go_ret2;exact⟨rfl,Bt _ _ _⟩
theorem V6 (x y p b:Nat)(L:List Nat)(s:Bool)(w:World)(hs:Aa w p b L)(hx:x<L.length)(hy:y<L.length)(hv:(((L.getD x 0:Nat):Int)==((L.getD y 0:Nat):Int))=s):
 Calls prog 130 #[.pointer p,x,y] w λ e w'=>e=Value.tuple #[s,.nilIface]/\Below w w w':=by
 go_enter func130,ntmps130;go_wp2_with fail;refine(Xu (x:Int) (y:Int) w p b 2 L _ (Cn hs _) ?c1 ?c2 ?c3 (by omega) (by omega) (by omega) (by omega)).mono ?_;case c1=>simp
 case c2=>simp
 case c3=>simp
 rintro e w' ⟨rfl,rfl⟩;have DJ:=Cn (Cn hs (Obj.cells #[Value.int IntKind.i64 ↑x,Value.int IntKind.i64 ↑y] 3)) (Obj.cells #[Value.pointer (some {block:=p,off:=0})] 175);have hb:=Bt w (Obj.cells #[Value.int IntKind.i64 ↑x,Value.int IntKind.i64 ↑y] 3) (Obj.cells #[Value.pointer (some {block:=p,off:=0})] 175);generalize (w.alloc (Obj.cells #[Value.int IntKind.i64 ↑x,Value.int IntKind.i64 ↑y] 3)).alloc (Obj.cells #[Value.pointer (some {block:=p,off:=0})] 175)=W at DJ hb ⊢;have HB:=kd hb;clear hb hs;have hp:=DJ.K7;have JA:=DJ.La x hx;have NR:=DJ.La y hy;clear DJ;generalize L.getD x 0=X at*;generalize L.getD y 0=Y at*;go_wp2_with fail;go_quiet (fail);clear JA NR hp;go_wp2_with fail;go_ret2;exact⟨by simp,below_drewN HB.o _⟩
def lst (L:List Nat)(x:Nat):List Nat:=(List.range x).filter λ y=>L.getD y 0==y
def pgr (L:List Nat)(x:Nat):List (List Nat):=(lst L x).map (grp L x)
theorem Fj {L:List Nat}{x y:Nat}:y∈lst L x↔y<x/\L.getD y 0=y:=by
 unfold lst;rw[aO,bF,bX]
theorem K5 (L:List Nat)(x:Nat):(pgr L x).length=(lst L x).length:=by simp[pgr]
theorem zhg (L:List Nat)(x i:Nat)(h:i<(lst L x).length):(pgr L x).getD i []=grp L x ((lst L x).getD i 0):=by
 simp[pgr,h]
theorem zhd {L:List Nat}{x i:Nat}(h:i<(lst L x).length):(lst L x).getD i 0<x/\L.getD ((lst L x).getD i 0) 0=(lst L x).getD i 0:=by
 have hm:(lst L x).getD i 0∈lst L x:=by
  have:(lst L x).getD i 0=(lst L x)[i]:=by simp[h]
  rw[this];exact dF h
 exact Fj.1 hm
theorem grp_head' {n x:Nat}{L:List Nat}(g:Good n L)(hx:x<=n){y:Nat}(hy:y<x)(h:L.getD y 0=y):(grp L x y).getD 0 0=y:=by
 have KL:y∈grp L x y:=Iw.2 ⟨hy,h⟩;have hp:(grp L x y).Pairwise (·<·):=by
  unfold grp;exact eG _ iA
 have hle:∀i∈grp L x y,y<=i:=λ i hi=>by
  obtain⟨h1,h2⟩:=Iw.1 hi;have:=g.le i (by omega);omega
 cases hg:grp L x y with
 |nil=>rw[hg] at KL;cases KL
 |cons a r=>
  rw[hg] at KL hp hle;show a=y;have h1:=hle a (by simp);rcases cO.1 KL with h2|h2
  ·exact h2.symm
  ·have:=(iJ.1 hp).1 y h2
   omega
theorem zp0 {x y:Nat}{L:List Nat}(hy:y<x)(h:L.getD y 0=y):0<(grp L x y).length:=
 List.length_pos_iff.2 (λ e=>by
  have:y∈grp L x y:=Iw.2 ⟨hy,h⟩;rw[e] at this;cases this)
theorem N8 {L:List Nat}{x:Nat}(h:L.getD x 0=x):lst L (x+1)=lst L x++[x]:=by
 have hb:(L.getD x 0==x)=true:=bX.2 h;unfold lst;rw[dN,bP,bT,hb];simp
theorem N7 {L:List Nat}{x:Nat}(h:L.getD x 0≠x):lst L (x+1)=lst L x:=by
 have hb:(L.getD x 0==x)=false:=aH.2 h;unfold lst;rw[dN,bP,bT,hb];simp
theorem zo9 (L:List Nat)(x i j:Nat)(hi:i<(lst L x).length)(hj:j<(lst L x).length)(e:(lst L x)[i]=(lst L x)[j]):i=j:=by
 have hp:(lst L x).Pairwise (·<·):=by
  unfold lst;exact eG _ iA
 rw[dM] at hp;rcases eP i j with h|h|h
 ·have:=hp i j hi hj h
  omega
 ·exact h
 ·have:=hp j i hj hi h
  omega
theorem Yc {x i:Nat}{L:List Nat}(hi:i<(lst L x).length)(h:(lst L x).getD i 0=L.getD x 0):pgr L (x+1)=(pgr L x).set i (grp L x ((lst L x).getD i 0)++[x]):=by
 have hl:=zhd hi;have l9:L.getD x 0≠x:=by omega
 unfold pgr;rw[N7 l9];apply eB
 ·simp
 ·intro j h1 h2
  rw[iV];simp only[jV];have hj:j<(lst L x).length:=by simpa using h1
  by_cases e:i=j
  ·subst e
   have e1:(lst L x)[i]=(lst L x).getD i 0:=by simp[hi]
   rw[aP rfl,e1,h,Kv]
  ·rw[aL e]
   have e1:(lst L x)[i]=(lst L x).getD i 0:=by simp[hi]
   have hn:(lst L x)[j]≠L.getD x 0:=by
    rw[<-h,<-e1];intro e2;exact e (zo9 L x i j hi hj e2.symm)
   rw[Js L x _ (λ e3=>hn e3.symm)]
theorem wu {n x:Nat}{L:List Nat}(g:Good n L)(hx:x<n)(h:∀i,i<(lst L x).length->(lst L x).getD i 0≠L.getD x 0):pgr L (x+1)=pgr L x++[[x]]:=by
 have hLx:L.getD x 0=x:=by
  have h1:=g.le x hx;have h2:=g.idem x hx;rcases eH (L.getD x 0) x with h3|h3
  ·have hm:L.getD x 0∈lst L x:=Fj.2 ⟨h3,h2⟩
   obtain⟨i,hi,e⟩:=kU hm;exact absurd (by rw[<-e];simp[hi]) (h i hi)
  ·omega
 unfold pgr;rw[N8 hLx,dL]
 congr 1
 ·apply fH
  intro y hy;exact Js L x y (by have:=(Fj.1 hy).1;omega)
 ·have e:grp L (x+1) x=grp L x x++[x]:=by
   have:=Kv L x;rw[hLx] at this;exact this
  have e2:grp L x x=[]:=by
   cases hg:grp L x x with
   |nil=>rfl
   |cons a r=>
    have:a∈grp L x x:=by rw[hg];simp
    obtain⟨h1,h2⟩:=Iw.1 this;have:=g.le a (by omega);omega
  simp[e,e2]
theorem zo8 {n:Nat}{L:List Nat}(g:Good n L):pgr L n=Ar L n:=by
 unfold pgr Ar;rw[g.len];rw[lQ]
 congr 1
 unfold lst;apply dP;intro y hy;have hy':=bF.1 hy;have hs:=yc g hy';rw[dV,bX];simp only[Function.comp,eF,List.isEmpty_eq_false_iff];exact hs.symm
end Go.Proofs.Y.S
namespace Go.Proofs.Y.S
open Go.RowKit
def Bq (Gs:List (List Nat))(r c:Nat->Nat):List Value:=(List.range Gs.length).map λ i=>.slice (r i:Nat) (Gs.getD i []).length (c i)
theorem qx (Gs:List (List Nat))(r c:Nat->Nat)(i:Nat)(h:i<Gs.length):(Bq Gs r c)[i]? =some (.slice (r i:Nat) (Gs.getD i []).length (c i)):=by
 simp[Bq,h]
structure Bg (w:World) (base:Nat) (t:Value) (Gs:List (List Nat)) (r c:Nat->Nat):Prop where
 own:w.ownsRow base 48 1 t Gs.length (Bq Gs r c)
 each:∀i,i<Gs.length->w.ownsInts base 3 .i64 (.slice (some ⟨r i,0,none⟩) (Gs.getD i []).length (c i)) (ints (Gs.getD i []))
 apart:∀i j,i<Gs.length->j<Gs.length->i≠j->r i≠r j
theorem Un (w:World)(base:Nat)(r c:Nat->Nat):Bg w base (.slice none 0 0) [] r c:=
 ⟨aX _ _ _ _,λ i hi=>absurd hi (by simp),λ i j hi=>absurd hi (by simp)⟩
theorem Ug {w:World}{base:Nat}{t:Value}{Gs:List (List Nat)}{r c:Nat->Nat}(h:Bg w base t Gs r c)(n:Nat):Bg (w.drewN n) base t Gs r c:=⟨h.own,h.each,h.apart⟩
theorem Bg.ne {w:World}{base:Nat}{t:Value}{Gs:List (List Nat)}{r c:Nat->Nat}(h:Bg w base t Gs r c)(i:Nat)(hi:i<Gs.length):t.ownBlock≠some (r i):=by
 intro e;have h2:=(h.each i hi).1.2;rcases h.own.2 with⟨rfl,_⟩|⟨g,cap,cur,rfl,_,hg,_⟩
 ·simp[Value.ownBlock] at e
 ·simp only[Value.ownBlock,jP] at e
  rcases h2 with⟨h3,_⟩|⟨g',cap',cur',h3,_,hg',_⟩
  ·cases h3
  ·simp only[Value.slice.injEq,jP,Addr.mk.injEq] at h3
   rw[<-h3.1.1,<-e,hg] at hg';injection hg' with h4
   injection h4 with _ h5
   exact absurd h5 (by decide)
theorem Bg.head {w:World}{base:Nat}{t:Value}{Gs:List (List Nat)}{r c:Nat->Nat}(h:Bg w base t Gs r c)(i:Nat)(hi:i<Gs.length)(hp:0<(Gs.getD i []).length):w.cell? (r i:Nat)=(((Gs.getD i []).getD 0 0:Nat):Int):=by
 have h1:=(h.each i hi).1;rw[Ci] at h1;rw[h1.cellAt 0 (by omega)];generalize Gs.getD i []=G at*;simp[ints,hp]
theorem Bg.Xa {w:World}{base g m cap:Nat}{Gs:List (List Nat)}{r c:Nat->Nat}(h:Bg w base (.slice g m cap) Gs r c)(hm:m=Gs.length)(i:Nat)(hi:i<Gs.length):w.cell? (g,i)=some (.slice (r i:Nat) (Gs.getD i []).length (c i)):=by
 subst hm;rw[h.own.cellAt i (by omega),qx _ _ _ _ hi]
theorem Bg.shape {w:World}{base:Nat}{t:Value}{Gs:List (List Nat)}{r c:Nat->Nat}(h:Bg w base t Gs r c):∃a cap,t= .slice a Gs.length cap/\(0<Gs.length->∃g,a=some ⟨g,0,none⟩):=by
 rcases h.own.2 with⟨rfl,h0⟩|⟨g,cap,cur,rfl,_⟩
 ·exact⟨none,0,by rw[h0],λ h=>absurd h (by omega)⟩
 ·exact⟨_,cap,rfl,λ _=>⟨g,rfl⟩⟩
theorem Jb {Gs:List (List Nat)}{G:List Nat}{i:Nat}(h:i<Gs.length):(Gs++[G]).getD i []=Gs.getD i []:=by simp[List.getElem?_append_left h]
theorem Qn {Gs:List (List Nat)}{G:List Nat}:(Gs++[G]).getD Gs.length []=G:=by simp
theorem Bg.snoc {w w1:World}{base:Nat}{t v':Value}{Gs:List (List Nat)}{r c:Nat->Nat}(h:Bg w base t Gs r c)(ZK:base<=w)(x:Nat)(o:Obj)
 (o8:w1.ownsRow base 48 1 v' (Gs.length+1) (Bq Gs r c++[.slice w 1 1])) (hg:((w.alloc (.cells #[x] 3)).alloc o).grownBy w1 t.ownBlock) (hx:x<=1000000):
 ∃r' c',Bg w1 base v' (Gs++[[x]]) r' c':=by
 refine⟨λ i=>if i=Gs.length then w.heap.size else r i,λ i=>if i=Gs.length then 1 else c i,?_,?_,?_⟩
 ·have e:Bq (Gs++[[x]]) (λ i=>if i=Gs.length then w.heap.size else r i) (λ i=>if i=Gs.length then 1 else c i)=Bq Gs r c++[.slice w 1 1]:=by
   unfold Bq;rw[aM];show List.map _ (List.range (Gs.length+1))=_;rw[dN,dL]
   congr 1
   ·apply fH
    intro i hi;have hi':=bF.1 hi;have l9:i≠Gs.length:=by omega
    simp only[aL l9];rw[Jb hi']
   ·simp
  rw[e,aM];exact o8
 ·intro i hi
  rw[aM] at hi;have hi:i<Gs.length+1:=hi;by_cases e:i=Gs.length
  ·subst e
   simp only[aP];rw[Qn];have h1:(w.alloc (.cells #[x] 3)).ownsRow base 3 1 (.slice w 1 1) 1 [x]:=World.ownsRow_lit w #[x] 1 ZK (by decide) rfl;refine⟨?_,λ z hz=>?_⟩
   ·refine(h1.alloc o).kept hg (Or.inr ?_)
    intro e2;have:=(h.own.lt w e2.symm).2;omega
   ·simp[ints] at hz
    subst hz;exact WalkArith.wf_i64 (by omega)
  ·simp only[aL e]
   have hi':i<Gs.length:=by omega
   rw[Jb hi'];have h1:=h.each i hi';exact((h1.alloc _).alloc o).kept hg (Or.inr (λ e2=>h.ne i hi' e2.symm))
 ·intro i j hi hj l9
  rw[aM] at hi hj;have hi:i<Gs.length+1:=hi;have hj:j<Gs.length+1:=hj;by_cases e1:i=Gs.length
  ·by_cases e2:j=Gs.length
   ·omega
   ·simp only[aP e1,aL e2]
    have:=((h.each j (by omega)).1.lt (r j) rfl).2;omega
  ·by_cases e2:j=Gs.length
   ·simp only[aL e1,aP e2]
    have:=((h.each i (by omega)).1.lt (r i) rfl).2;omega
   ·simp only[aL e1,aL e2]
    exact h.apart i j (by omega) (by omega) l9
theorem Bg.grow {w w1:World}{base g m cap k ρ κ:Nat}{Gs:List (List Nat)}{r c:Nat->Nat}(h:Bg w base (.slice g m cap) Gs r c)(hm:m=Gs.length)(hk:k<Gs.length)(x:Nat)(o:Obj)
 (o8:w1.ownsInts base 3 .i64 (.slice ρ ((Gs.getD k []).length+1) κ) (ints (Gs.getD k []++[x]))) (hg:(w.alloc o).grownBy w1 (some (r k)))
 (ES:ρ=r k\/ρ=w.heap.size+1):
 Bg (w1.setCell (g,k) (.slice ρ ((Gs.getD k []).length+1) κ)) base (.slice g m cap) (Gs.set k (Gs.getD k []++[x])) (λ i=>if i=k then ρ else r i) (λ i=>if i=k then κ else c i):=by
 subst hm;have hgk:g≠r k:=λ e=>h.ne k hk (by rw[<-e];rfl)
 have ht1:w1.ownsRow base 48 1 (.slice g Gs.length cap) Gs.length (Bq Gs r c):=(h.own.alloc o).kept hg (Or.inr (λ e=>h.ne k hk e));have TI:=ht1.stored k (.slice ρ ((Gs.getD k []).length+1) κ);have BN:∀i,i<Gs.length->(Gs.set k (Gs.getD k []++[x])).getD i []=if i=k then Gs.getD k []++[x] else Gs.getD i []:=by
  intro i hi;by_cases e:i=k
  ·subst e;simp[hi]
  ·rw[aL e]
   have this:∀G:List Nat,(Gs.set k G).getD i []=Gs.getD i []:=by
    intro G;rw[bH,jQ,aL (λ e2=>e e2.symm),<-bH]
   exact this _
 have hglt:g<w:=(h.own.lt g rfl).2;have hρ:∀i,i<Gs.length->i≠k->r i≠ρ:=by
  intro i hi hn e;rcases ES with e2|e2
  ·exact h.apart i k hi hk hn (e.trans e2)
  ·have:=((h.each i hi).1.lt (r i) rfl).2
   omega
 have hgρ:ρ≠g:=by
  rcases ES with e|e
  ·rw[e];exact λ e2=>hgk e2.symm
  ·omega
 refine⟨?_,?_,?_⟩
 ·have e:Bq (Gs.set k (Gs.getD k []++[x])) (λ i=>if i=k then ρ else r i) (λ i=>if i=k then κ else c i)=(Bq Gs r c).set k (.slice ρ ((Gs.getD k []).length+1) κ):=by
   apply eB
   ·simp[Bq]
   ·intro i h1 h2
    have hi:i<Gs.length:=by simpa[Bq] using h1
    rw[iV];simp only[Bq,jV,List.getElem_range];rw[BN i hi];by_cases e:i=k
    ·rw[aP e,aP e,aP e,aP e.symm,aM];rfl
    ·rw[aL e,aL e,aL e,aL (λ e2=>e e2.symm)]
  rw[e,gX];exact TI.1
 ·intro i hi
  rw[gX] at hi;rw[BN i hi];by_cases e:i=k
  ·simp only[aP e,aM]
   exact o8.kept TI.2 (Or.inr (λ e2=>hgρ (by simpa[Value.ownBlock] using e2)))
  ·simp only[aL e]
   have h1:=(h.each i hi).alloc o;refine(h1.kept hg (Or.inr (λ e2=>h.apart i k hi hk e (by simpa[Value.ownBlock] using e2)))).kept TI.2 (Or.inr (λ e2=>h.ne i hi (by simpa[Value.ownBlock] using e2.symm)))
 ·intro i j hi hj l9
  rw[gX] at hi hj;by_cases e1:i=k
  ·by_cases e2:j=k
   ·omega
   ·simp only[aP e1,aL e2]
    exact λ e=>hρ j hj e2 e.symm
  ·by_cases e2:j=k
   ·simp only[aL e1,aP e2]
    exact hρ i hi e1
   ·simp only[aL e1,aL e2]
    exact h.apart i j hi hj l9
open Go.RowKit Go.WideMaps Go.Maps Go.Proofs.Tryz
def Alike (f:Nat)(w:World)(n cw:Nat)(L:List Nat):Prop:=
 ∀W',Below w w W'->∀(x y:Nat) (s:Bool),x<n->y<n->(((L.getD x 0:Nat):Int)==((L.getD y 0:Nat):Int))=s->Calls prog f #[x,y,.pointer cw] W' λ e w'=>e=s/\∃n,w'=W'.drewN n
theorem zu (w:World)(o:Obj)(v:Value)(t:TypeId):∀j u,[v][j]? =some u->((w.alloc o).alloc (.cells #[v] t)).cell? ((⟨w.heap.size+1,0,none⟩:Addr).add j)=some u:=by
 have:=cell_one_new (w.alloc o) v t;rw[aT] at this;exact this
theorem Vb {w w1:World}{base g m cap k:Nat}{v':Value}{Gs:List (List Nat)}{r c:Nat->Nat}{o:Obj}{x:Nat}(h:Bg w base (.slice g m cap) Gs r c)(hm:m=Gs.length)(hk:k<Gs.length)
 (o8:w1.ownsRow base 3 1 v' ((ints (Gs.getD k [])).length+1) ((ints (Gs.getD k [])).map (Value.int .i64)++[.int .i64 (x:Int)])) (hg:(w.alloc o).grownBy w1 (some (r k))):
 (∃ρ κ,v'= .slice (some ⟨ρ,0,none⟩) ((Gs.getD k []).length+1) κ)/\w1.cell? (g,k)=some (.slice (r k:Nat) (Gs.getD k []).length (c k))/\w1.frozen? (g,k)=false:=by
 subst hm;have ht1:w1.ownsRow base 48 1 (.slice g Gs.length cap) Gs.length (Bq Gs r c):=(h.own.alloc o).kept hg (Or.inr (λ e=>h.ne k hk e));refine⟨?_,?_,ht1.frozenAt k⟩
 ·rcases o8.2 with⟨_,h0⟩|⟨ρ,κ,cur,hv,_⟩
  ·omega
  ·exact⟨ρ,κ,by rw[hv,Ci]⟩
 ·rw[ht1.cellAt k (by omega),qx _ _ _ _ hk]
theorem P7 (f n cw:Nat)(L:List Nat)(w:World)(hf:f=73\/f=74\/f=124)(KM:Alike f w n cw L)(JH:Good n L)(hn:n<=40):
 Calls prog 72 #[n,.func (.func f) #[] #[.pointer cw]] w λ e w'=>∃t r c,e= .returned t/\Bg w' w t (Ar L n) r c/\Below w w w':=by
 rcases hf with rfl|rfl|rfl
 all_goals
  obtain⟨i0,GJ,BR,BU,BM⟩:=info_parts Tryz.info3;obtain⟨j0,JE,LV,OB,WV⟩:=info_parts Tryz.info48;have ZL:=kd KM;have HG:=kd JH;clear KM JH;go_enter func72,ntmps72;go_wp2_with fail;go_loopw [5,6,7,8,9,11] (λ s5 _ _ _ _ s11 wq=>∃x:Nat,x<=n/\s11=x/\(∃r c,Bg wq w s5 (pgr L x) r c)/\Below w w wq) (λ _ _ _ _ _ s11 _=>n-(intOf s11).toNat)
  case atStart=>exact⟨0,aN _,rfl,⟨λ _=>0,λ _=>0,Un _ _ _ _⟩,aI _ _⟩
  case round=>
   obtain⟨x,hx,rfl,⟨r,c,hP⟩,BF⟩:=hrel;by_cases j6:x<n
   ·obtain⟨a,cap,rfl,ha⟩:=hP.shape
    have ZM:(pgr L x).length<=40:=by
     have:=aW (λ y=>L.getD y 0==y) (List.range x);rw[gM] at this;rw[K5];unfold lst;omega
    have HP:=kd hP;have HA:=kd ha;have HM:Hid ((pgr L x).length=(lst L x).length):=K5 L x;have CX:=kd BF;generalize hm:(pgr L x).length=m at*;have HML:=kd hm;clear hP ha BF hm;rename World=>wo
    go_wp2_with fail;go_loopw [7,8,9,16] (λ s7 _ _ s16 wq=>∃i:Nat,i<=m/\s16=i/\s7=(-1:Int)/\(∀j,j<i->(lst L x).getD j 0≠L.getD x 0)/\∃q,wq=wo.drewN q) (λ _ _ _ s16 _=>m-(intOf s16).toNat)
    case atStart=>exact⟨0,aN _,rfl,rfl,λ j hj=>absurd hj (by omega),0,rfl⟩
    case round=>
     obtain⟨i,him,rfl,rfl,AA,q,hq⟩:=hrel;have hPq:=Ug HP.o q;have hBq:=below_drewN CX.o q;rw[<-hq] at hPq hBq;have HQ:=kd hq;clear hq;have RP:=kd hPq;have OI:=kd hBq;have DZ:=kd AA;clear hPq hBq AA;by_cases LY:i<m
     ·obtain⟨g,hag⟩:=HA.o (by omega)
      subst hag;have hil':i<(pgr L x).length:=by rw[HML.o];exact LY
      have hil2:i<(lst L x).length:=by rw[<-K5];exact hil'
      obtain⟨hyx,hyy⟩:=zhd hil2;have hGi:=zhg L x i hil2;have hhd:=grp_head' HG.o hx hyx hyy;have XA:=zp0 hyx hyy;rw[<-hGi] at hhd XA;have c1:=RP.o.Xa HML.o.symm i hil';have c2:=RP.o.head i hil' XA;rw[hhd] at c2;have HGi:=kd hGi;have hLl:=HG.o.len;have HYL:=kd hyy;generalize hyd:(lst L x).getD i 0=y at*;have HYD:=kd hyd;clear hGi hhd hyy hyd hLl;generalize IK:((pgr L x).getD i []).length=gl at*;have UM:=kd IK;have hgp:(0:Int)<(gl:Int):=by omega
      clear IK XA;go_wp2_with fail;by_cases he:y=L.getD x 0
      ·have hv:(((L.getD y 0:Nat):Int)==((L.getD x 0:Nat):Int))=true:=by rw[HYL.o,<-he];simp
       refine(ZL.o _ OI.o y x true (by omega) j6 hv).mono ?_;rintro e w' ⟨rfl,q',hq'⟩;have GU:Hid (Bg w' w (.slice g m cap) (pgr L x) r c):=by rw[hq'];exact Ug RP.o q'
       have HBV:Hid (Below w w w'):=by rw[hq'];exact below_drewN OI.o q'
       have c1':w'.cell? (g,i)=some (.slice (r i:Nat) gl (c i)):=by rw[hq'];exact c1
       have EB:=GU.o.each i hil';rw[UM.o] at EB;have hle:(ints ((pgr L x).getD i [])).length<=40:=by
        rw[Ci,HGi.o,O4];have:=Q7 (λ i=>L.getD i 0==y) x;omega
       have OD:=HBV.o.size;have HE:=kd he;clear hv hq' c1 c2 he;go_wp2_with (first
        |(at_builtin;refine wpList_append_own_at _ rfl _ _ 48 rfl w.heap.size 3 i0 (0:Int) 1 8 underlying48 GJ BR BU BM rfl (by decide) (.slice (r i:Nat) gl (c i)) _ _ rfl (EB.1.alloc _) w' 1 1 [x] rfl rfl (cell_one_new _ _ _) (ints_oneCell .i64 [(x:Int)]) (by unfold maxLen;omega) (by omega) (by simp;omega) ?_;intro v' w1 hown' AY IJ ES;obtain⟨⟨ρ,κ,hv'⟩,c3,f3⟩:=Vb GU.o HML.o.symm hil' hown' AY;rw[UM.o] at hv' c3;rw[hv'])
        |fail)
       have LB:=EB.appended hown' (WalkArith.wf_i64 (by omega));have hio:w.heap.size<=r i:=(EB.1.lt (r i) rfl).1;have hgo:w<=g:=(GU.o.own.lt g rfl).1;rw[hv'] at LB ES;rw[<-UM.o] at LB;have hloc':ρ=r i\/ρ=w'.heap.size+1:=by simpa[Value.ownBlock] using ES
       have WW:w1.ownsInts w 3 .i64 (.slice ρ (((pgr L x).getD i []).length+1) κ) (ints ((pgr L x).getD i []++[x])):=by
        rw[J8];exact LB
       have KN:=GU.o.grow HML.o.symm hil' x _ WW AY hloc';rw[UM.o] at KN;have UC:=Yc hil2 (HYD.o.trans HE.o);rw[HYD.o,<-HGi.o] at UC;rw[<-UC] at KN;have hbw:Below w w (w1.setCell (g,i) (.slice ρ (gl+1) κ)):=(HBV.o.grown ((bR w' _ _).trans AY) OD (λ j hj=>(EB.1.lt j hj).1)).setCell hgo _;go_roundw;case rel=>exact⟨x+1,by omega,by go_num,⟨_,_,KN⟩,hbw⟩
       case measure=>simp[intOf];omega
      ·have hv:(((L.getD y 0:Nat):Int)==((L.getD x 0:Nat):Int))=false:=by rw[HYL.o];exact aH.2 (by omega)
       refine(ZL.o _ OI.o y x false (by omega) j6 hv).mono ?_;rintro e w' ⟨rfl,q',hq'⟩;have NS:=kd he;have HQ':=kd hq';clear hv hq' he;go_wp2_with fail;go_roundw;case rel=>exact⟨i+1,by omega,by go_num,rfl,λ j hj=>if e:j=i then by rw[e,HYD.o];exact NS.o else DZ.o j (by omega),q+q',by rw[HQ'.o,HQ.o,drewN_drewN]⟩
       case measure=>simp[intOf];omega
     ·have CR:i=m:=by omega
      subst CR;have howt:=RP.o.own;rw[HML.o] at howt;have OD:=OI.o.size;go_wp2_with (first
       |(at_builtin;refine wpList_append_own_at _ rfl _ _ 51 rfl w.heap.size 48 j0 (.slice none 0 0) 1 24 underlying51 JE LV OB WV rfl (by decide) (.slice a i cap) _ _ rfl ((howt.alloc _).alloc _) (wr.heap.size+1:Nat) 1 1 [.slice wr 1 1] rfl rfl (zu _ _ _ _) (Fv _ _ _) (by unfold maxLen;omega) (by omega) (by simp;omega) ?_;intro v' w1 hown' AY IJ ES)
       |fail)
      have z8:w1.ownsRow w 48 1 v' ((pgr L x).length+1) (Bq (pgr L x) r c++[.slice wr 1 1]):=by
       rw[HML.o];exact hown'
      obtain⟨r',c',OJ⟩:=RP.o.snoc OD x _ z8 AY (by omega);rw[<-wu HG.o j6 (by rw[<-HM.o];exact DZ.o)] at OJ;have hbw:Below w w w1:=OI.o.grown (((bR wr _ _).trans (bR _ _ _)).trans AY) OD (λ j hj=>(RP.o.own.lt j hj).1);go_roundw;case rel=>exact⟨x+1,by omega,by go_num,⟨r',c',OJ⟩,hbw⟩
      case measure=>simp[intOf];omega
   ·have DK:x=n:=by omega
    subst DK;have HP:Hid (∃r c,Bg wr w u5 (Ar L x) r c):=by
     rw[<-zo8 HG.o];exact⟨r,c,hP⟩
    have CX:=kd BF;clear hP BF;go_wp2_with fail;go_ret;obtain⟨r',c',hP'⟩:=HP.o;exact⟨_,r',c',rfl,hP',CX.o⟩
theorem za6 (n cw:Nat)(L:List Nat)(w:World)(KM:Alike 73 w n cw L)(JH:Good n L)(hn:n<=40):
 Calls prog 72 #[n,.func (.func 73) #[] #[.pointer cw]] w λ e w'=>∃t r c,e= .returned t/\Bg w' w t (Ar L n) r c/\Below w w w':=P7 73 n cw L w (.inl rfl) KM JH hn
theorem zbb (n cw:Nat)(L:List Nat)(w:World)(KM:Alike 74 w n cw L)(JH:Good n L)(hn:n<=40):
 Calls prog 72 #[n,.func (.func 74) #[] #[.pointer cw]] w λ e w'=>∃t r c,e= .returned t/\Bg w' w t (Ar L n) r c/\Below w w w':=P7 74 n cw L w (.inr (.inl rfl)) KM JH hn
theorem zw (n cw:Nat)(L:List Nat)(w:World)(KM:Alike 124 w n cw L)(JH:Good n L)(hn:n<=40):
 Calls prog 72 #[n,.func (.func 124) #[] #[.pointer cw]] w λ e w'=>∃t r c,e= .returned t/\Bg w' w t (Ar L n) r c/\Below w w w':=P7 124 n cw L w (.inr (.inr rfl)) KM JH hn
end Go.Proofs.Y.S
