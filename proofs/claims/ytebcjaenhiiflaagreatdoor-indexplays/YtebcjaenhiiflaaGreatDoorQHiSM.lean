import Derived.Below
import Derived.RowKit
import Derived.KernelRfl
import Derived.WalkKit
import Derived.WalkSpells
import Derived.WalkLawsBesides
import Derived.Recover
import Derived.Deep.QuietTactic
import Derived.BigQuiet
import Derived.Deep.OwnRows
import Derived.Maps.OwnRows
import Derived.Maps.Views
import Derived.Test.YtebcjaenhiiflaaGreatDoorProg
set_option maxHeartbeats 400000
set_option maxRecDepth 100000
namespace Go.Proofs.YtebcjaenhiiflaaGreatDoor
theorem kd {p:Prop} (h:p):Go.RowKit.Hid p:=h
end Go.Proofs.YtebcjaenhiiflaaGreatDoor
namespace Go.Proofs.YtebcjaenhiiflaaGreatDoor.S
open Go.RowKit
def vals (L:List Nat):Array Value:=(L.map λ x:Nat=>Value.int .i64 (x:Int)).toArray
structure zab (w:World) (p b:Nat) (L:List Nat):Prop where
 hp:w.heap[p]? =some (.cells #[.slice (some ⟨b,0,none⟩) L.length L.length] 268)
 hb:w.heap[b]? =some (.cells (vals L) 3)
theorem zab.zgs {w:World} {p b:Nat} {L:List Nat} (h:zab w p b L):w.cell? ⟨p,0,none⟩=some (.slice (some ⟨b,0,none⟩) L.length L.length):=by
 simp [World.cell?,h.hp]
theorem zab.zft {w:World} {p b:Nat} {L:List Nat} (h:zab w p b L) (i:Nat) (hi:i<L.length):w.cell? ⟨b,i,none⟩=some (.int .i64 ((L.getD i 0:Nat):Int)):=by
 simp [World.cell?,h.hb,vals,hi]
theorem zab.zme {w:World} {p b:Nat} {L:List Nat} (h:zab w p b L) (i:Nat):w.frozen? ⟨b,i,none⟩=false:=by
 simp [World.frozen?,h.hb]
theorem lt_of_some {w:World} {k:Nat} {o:Obj} (h:w.heap[k]? =some o):k<w.heap.size:=by
 rcases Nat.lt_or_ge k w.heap.size with h' | h'
 ·exact h'
 ·simp [Array.getElem?_eq_none h'] at h
theorem zab.plt {w:World} {p b:Nat} {L:List Nat} (h:zab w p b L):p<w.heap.size:=lt_of_some h.hp
theorem zab.blt {w:World} {p b:Nat} {L:List Nat} (h:zab w p b L):b<w.heap.size:=lt_of_some h.hb
theorem zab.ne {w:World} {p b:Nat} {L:List Nat} (h:zab w p b L):p≠b:=by
 intro e;have h1:=h.hp;rw [e,h.hb] at h1;injection h1 with h1
 injection h1 with _ h2
 exact absurd h2 (by decide)
theorem zab.below {w w':World} {p b B:Nat} {L:List Nat} (h:zab w p b L) (k:Below B w w') (hp:p<B) (hb:b<B):zab w' p b L:=
 ⟨by rw [k.block p hp];exact h.hp,by rw [k.block b hb];exact h.hb⟩
structure But (b:Nat) (w w':World):Prop where
 os:w'.os=w.os
 tape:w'.tape=w.tape
 output:w'.output=w.output
 size:w.heap.size<=w'.heap.size
 block:∀k,k<w.heap.size->k≠b->w'.heap[k]? =w.heap[k]?
theorem But.of_below {b:Nat} {w w':World} (h:Below w.heap.size w w'):But b w w':=⟨h.os,h.tape,h.output,h.size,λ k hk _=>h.block k hk⟩
theorem But.refl (b:Nat) (w:World):But b w w:=⟨rfl,rfl,rfl,Nat.le_refl _,λ _ _ _=>rfl⟩
theorem But.trans {b:Nat} {x y z:World} (h:But b x y) (k:But b y z):But b x z:=
 ⟨k.os.trans h.os,k.tape.trans h.tape,k.output.trans h.output,Nat.le_trans h.size k.size,λ i hi hn=>(k.block i (Nat.lt_of_lt_of_le hi h.size) hn).trans (h.block i hi hn)⟩
theorem But.below {b B:Nat} {w w':World} (h:But b w w') (hB:B<=b) (hb:B<=w.heap.size):Below B w w':=
 ⟨h.os,h.tape,h.output,h.size,λ k hk=>h.block k (by omega) (by omega)⟩
theorem zpc (L:List Nat) (k v:Nat):(vals L).setIfInBounds k (.int .i64 (v:Int))=vals (L.set k v):=by
 apply Array.ext';simp [vals,List.map_set]
theorem zab.set {w:World} {p b:Nat} {L:List Nat} (h:zab w p b L) (k v:Nat):zab (w.setCell ⟨b,k,none⟩ (.int .i64 (v:Int))) p b (L.set k v):=by
 refine ⟨?_,?_⟩
 ·rw [Below.heap_setCell _ _ _ _ h.ne,h.hp];simp
 ·simp only [World.setCell,Array.getElem?_modify,h.hb]
  simp [zpc]
theorem But.setCell {b:Nat} {w w':World} (h:But b w w') (k:Nat) (v:Value):But b w (w'.setCell ⟨b,k,none⟩ v):=
 h.trans ⟨rfl,rfl,rfl,by simp,λ i _ hn=>Below.heap_setCell _ _ _ _ hn⟩
theorem But.alloc {b:Nat} {w w':World} (h:But b w w') (o:Obj):But b w (w'.alloc o):=
 h.trans (But.of_below ((Below.refl _ _).alloc (Nat.le_refl _) o))
def fill (n k:Nat):List Nat:=(List.range n).map λ i=>if i<k then i else 0
theorem zdv (n k:Nat):(fill n k).length=n:=by simp [fill]
theorem zi9 (n k:Nat):(fill n k).set k k=fill n (k+1):=by
 apply List.ext_getElem
 ·simp [fill]
 ·intro i h1 h2
  simp only [fill,List.getElem_set,List.getElem_map,List.getElem_range];by_cases e:k=i
  ·subst e;simp
  ·have:(i<k)=(i<k+1):=by apply propext;omega
   simp [e,this]
theorem z0a (n:Nat):fill n 0=List.replicate n 0:=by
 apply List.ext_getElem
 ·simp [fill]
 ·intro i h1 h2
  simp [fill]
theorem zkl (n:Nat):fill n n=List.range n:=by
 apply List.ext_getElem
 ·simp [fill]
 ·intro i h1 h2
  simp [fill] at h1 ⊢;intro h;omega
theorem zof (n:Nat):madeCells #[Value.int .i64 0] n=vals (fill n 0):=by
 rw [z0a];apply Array.ext
 ·simp [madeCells,vals]
 ·intro i h1 h2
  simp [madeCells,vals,Nat.mod_one]
open Go.Proofs.Tryz
theorem zv7 (x:Int) (p b c:Nat) (L:List Nat) (w:World) (hs:zab w p b L) (hc:w.cell? ⟨c,0,none⟩=some (.pointer (some ⟨p,0,none⟩))) (hx0:0<=x) (hx:x<(L.length:Int)):
 Calls prog 310 #[.int .i64 x,.pointer (some ⟨c,0,none⟩)] w λ e w'=>e= .returned (.bool false)/\w'=w:=by
 have hp:=hs.zgs;have h0:¬(x<0):=by omega
 have h1:¬((L.length:Int)<=x):=by omega
 clear hs;go_enter func310,ntmps310;go_wp2;go_ret;exact ⟨rfl,rfl⟩
theorem z2g (N:List Int) (s p b c cap:Nat) (L:List Nat) (w:World) (hs:zab w p b L) (hc:w.cell? ⟨c,0,none⟩=some (.pointer (some ⟨p,0,none⟩)))
 (hrow:∀i,i<N.length->w.cell? ⟨s,i,none⟩=some (.int .i64 (N.getD i 0))) (hl:N.length<=2) (hall:∀i,i<N.length->0<=N.getD i 0/\N.getD i 0<(L.length:Int)):
 Calls prog 260 #[.slice (some ⟨s,0,none⟩) N.length cap,.func (.func 310) #[] #[.pointer (some ⟨c,0,none⟩)]] w λ e w'=>e= .returned (.int .i64 (-1))/\w'=w:=by
 go_enter func260,ntmps260;go_wp2_with fail;go_loop [5,8] (λ _ i=>∃k:Nat,k<=N.length/\i= .int .i64 k) (λ _ i=>N.length-(intOf i).toNat)
 case atStart=>exact ⟨0,Nat.zero_le _,rfl⟩
 case round=>
  obtain ⟨k,hk,rfl⟩:=hrel;by_cases hlt:k<N.length
  ·have hcell:=hrow k hlt
   have ha:=hall k hlt;generalize N.getD k 0=x at hcell ha;clear hrow hall;go_wp2_with fail;refine (zv7 x p b c L _ hs hc ha.1 ha.2).mono ?_;rintro e w' ⟨rfl,rfl⟩;go_wp2
   go_round
   case rel=>exact ⟨k+1,by omega,by go_num⟩
   case measure=>simp [intOf];omega
  ·go_wp2
   go_ret;exact ⟨rfl,rfl⟩
theorem zsz (N:List Int) (s p b c cap:Nat) (L:List Nat) (w:World) (hs:zab w p b L) (hc:w.cell? ⟨c,0,none⟩=some (.pointer (some ⟨p,0,none⟩)))
 (hrow:∀i,i<N.length->w.cell? ⟨s,i,none⟩=some (.int .i64 (N.getD i 0))) (hl:N.length<=2) (hall:∀i,i<N.length->0<=N.getD i 0/\N.getD i 0<(L.length:Int)):
 Calls prog 311 #[.slice (some ⟨s,0,none⟩) N.length cap,.func (.func 310) #[] #[.pointer (some ⟨c,0,none⟩)]] w λ e w'=>e= .returned (.bool false)/\w'=w:=by
 go_enter func311,ntmps311;go_wp2_with fail;refine (z2g N s p b c cap L _ hs hc hrow hl hall).mono ?_;rintro e w' ⟨rfl,rfl⟩;clear hs hc hrow hall;go_wp2;go_ret;exact ⟨rfl,rfl⟩
end Go.Proofs.YtebcjaenhiiflaaGreatDoor.S
namespace Go.Proofs.YtebcjaenhiiflaaGreatDoor.S
open Go.Proofs.Tryz
open Go.RowKit
theorem hmf (fn:Fn) (first cap:Array Value) (w:World):(Instr.makeFunc fn first cap).run prog w= .ok (.func fn first cap) w:=rfl
theorem zbs {w:World} {p b:Nat} {L:List Nat} (h:zab w p b L) (o:Obj):zab (w.alloc o) p b L:=
 h.below ((Below.refl w.heap.size w).alloc (Nat.le_refl _) o) h.plt h.blt
theorem zrp (N:List Int) (s p b cap:Nat) (L:List Nat) (w:World) (hs:zab w p b L)
 (hrow:∀i,i<N.length->w.cell? ⟨s,i,none⟩=some (.int .i64 (N.getD i 0))) (hsl:s<w.heap.size) (hl:N.length<=2) (hall:∀i,i<N.length->0<=N.getD i 0/\N.getD i 0<(L.length:Int)):
 Calls prog 232 #[.pointer (some ⟨p,0,none⟩),.slice (some ⟨s,0,none⟩) N.length cap] w λ e w'=>e= .returned .nilIface/\w'=w.alloc (.cells #[.pointer (some ⟨p,0,none⟩)] 175):=by
 have hmf':=hmf;go_enter func232,ntmps232;go_wp2_with fail;refine (zsz N s p b w.heap.size cap L _ (zbs hs _) (by simp) (λ i hi=>?_) hl hall).mono ?_
 ·rw [World.cell?_alloc_lt _ _ _ hsl];exact hrow i hi
 ·rintro e w' ⟨rfl,rfl⟩
  clear hs hrow hall;go_wp2;go_ret;exact ⟨rfl,rfl⟩
theorem za9 (w:World) (o o':Obj):Below w.heap.size w ((w.alloc o).alloc o'):=
 ((Below.refl _ _).alloc (Nat.le_refl _) _).alloc (by simp) _
theorem zxg (x:Int) (s p b cap:Nat) (L:List Nat) (w:World) (hs:zab w p b L)
 (h0:w.cell? ⟨s,0,none⟩=some (.int .i64 x)) (hsl:s<w.heap.size) (hx0:0<=x) (hx:x<(L.length:Int)):
 Calls prog 232 #[.pointer (some ⟨p,0,none⟩),.slice (some ⟨s,0,none⟩) 1 cap] w λ e w'=>e= .returned .nilIface/\w'=w.alloc (.cells #[.pointer (some ⟨p,0,none⟩)] 175):=by
 refine zrp [x] s p b cap L w hs (λ i hi=>?_) hsl (by simp) (λ i hi=>?_)
 ·have:i=0:=by simpa using hi
  subst this;simpa using h0
 ·have:i=0:=by simpa using hi
  subst this;exact ⟨hx0,hx⟩
theorem zns (x y:Int) (s p b cap:Nat) (L:List Nat) (w:World) (hs:zab w p b L)
 (h0:w.cell? ⟨s,0,none⟩=some (.int .i64 x)) (h1:w.cell? ⟨s,1,none⟩=some (.int .i64 y)) (hsl:s<w.heap.size) (hx0:0<=x) (hx:x<(L.length:Int)) (hy0:0<=y) (hy:y<(L.length:Int)):
 Calls prog 232 #[.pointer (some ⟨p,0,none⟩),.slice (some ⟨s,0,none⟩) 2 cap] w λ e w'=>e= .returned .nilIface/\w'=w.alloc (.cells #[.pointer (some ⟨p,0,none⟩)] 175):=by
 refine zrp [x,y] s p b cap L w hs (λ i hi=>?_) hsl (by simp) (λ i hi=>?_)
 ·have:i=0\/i=1:=by simp at hi;omega
  rcases this with rfl | rfl
  ·simpa using h0
  ·simpa using h1
 ·have:i=0\/i=1:=by simp at hi;omega
  rcases this with rfl | rfl
  ·exact ⟨hx0,hx⟩
  ·exact ⟨hy0,hy⟩
theorem zo4 (x:Int) (p b:Nat) (L:List Nat) (w:World) (hs:zab w p b L) (hx0:0<=x) (hx:x<(L.length:Int)):
 Calls prog 247 #[.pointer (some ⟨p,0,none⟩),.int .i64 x] w λ e w'=>e= .returned (.tuple #[.int .i64 ((L.getD x.toNat 0:Nat):Int),.nilIface])/\Below w.heap.size w w':=by
 obtain ⟨x,rfl⟩:=Int.eq_ofNat_of_zero_le hx0;rw [Int.toNat_natCast];go_enter func247,ntmps247;go_wp2_with fail;refine (zxg (x:Int) w.heap.size p b 1 L _ (zbs hs _) (by simp) (by simp) hx0 hx).mono ?_;rintro e w' ⟨rfl,rfl⟩;have hs2:=zbs (zbs hs (Obj.cells #[Value.int IntKind.i64 ↑x] 3)) (Obj.cells #[Value.pointer (some {block:=p,off:=0})] 175);have hb:=za9 w (Obj.cells #[Value.int IntKind.i64 ↑x] 3) (Obj.cells #[Value.pointer (some {block:=p,off:=0})] 175);generalize (w.alloc (Obj.cells #[Value.int IntKind.i64 ↑x] 3)).alloc (Obj.cells #[Value.pointer (some {block:=p,off:=0})] 175)=W at hs2 hb ⊢;have hp:=hs2.zgs;have hc:=hs2.zft x (by omega);have HB:=kd hb;clear hs hs2 hb;generalize hy:L.getD x 0=y at hc;have HY:=kd hy;clear hy;go_wp2;go_ret2;exact ⟨by rw [HY.out];rfl,HB.out⟩
end Go.Proofs.YtebcjaenhiiflaaGreatDoor.S
namespace Go.Proofs.YtebcjaenhiiflaaGreatDoor.S
open Go.Proofs.Tryz
open Go.RowKit
theorem zep {w:World} {p b:Nat} {L:List Nat} (h:zab w p b L) (n:Nat):zab (w.drewN n) p b L:=⟨h.hp,h.hb⟩
theorem drewN_drewN (w:World) (n m:Nat):(w.drewN n).drewN m=w.drewN (n+m):=by simp [World.drewN,Nat.add_assoc]
def cnt (f:Nat->Bool):Nat->Nat
 | 0=>0
 | k+1=>cnt f k+if f k then 1 else 0
theorem zi6 (f:Nat->Bool):∀k,cnt f k<=k
 | 0=>Nat.le_refl _
 | k+1=>by have:=zi6 f k;simp only [cnt];split <;> omega
end Go.Proofs.YtebcjaenhiiflaaGreatDoor.S
namespace Go.Proofs.YtebcjaenhiiflaaGreatDoor.S
open Go.Proofs.Tryz
open Go.RowKit
theorem Tryz.info3:(prog.info? 3).map (λ i=>(i.zero,i.size,i.bytes))=some (some (.int .i64 0),1,8):=by kernel_rfl
theorem heap_alloc_new (w:World) (o:Obj):(w.alloc o).heap[w.heap.size]? =some o:=by
 show (w.heap.push o)[w.heap.size]? =_;rw [Array.getElem?_push,if_pos rfl]
theorem zy4 (w:World) (n:Nat):zab ((w.alloc (.cells (madeCells #[.int .i64 0] n) 3)).alloc (.cells #[.slice (some ⟨w.heap.size,0,none⟩) n n] 268)) (w.heap.size+1) w.heap.size (fill n 0):=by
 refine ⟨?_,?_⟩
 ·have:=heap_alloc_new (w.alloc (.cells (madeCells #[.int .i64 0] n) 3)) (.cells #[.slice (some ⟨w.heap.size,0,none⟩) n n] 268)
  rw [World.size_alloc] at this;rw [this,zdv]
 ·rw [Below.heap_alloc _ _ _ (by simp),heap_alloc_new,zof]
theorem zfk (n:Nat) (w:World) (hn:n<=40):
 Calls prog 224 #[.int .i64 (n:Int)] w λ e w'=>e= .returned (.tuple #[.pointer (some ⟨w.heap.size+1,0,none⟩),.nilIface])/\zab w' (w.heap.size+1) w.heap.size (List.range n)/\Below w.heap.size w w':=by
 have hmk:=λ W=>run_make_row' (P:=prog) 48 3 (.int .i64 0) 8 underlying48 Tryz.info3 rfl .i64 .i64 n (by omega) (by omega) W
 have h0:¬((n:Int)<0):=by omega
 have h1:¬((40:Int)<(n:Int)):=by omega
 go_enter func224,ntmps224;go_wp2_with fail;go_loopw [5,22] (λ _ i wr=>∃k:Nat,k<=n/\i= .int .i64 k/\zab wr (w.heap.size+1) w.heap.size (fill n k)/\Below w.heap.size w wr) (λ _ i _=>n-(intOf i).toNat)
 case atStart=>exact ⟨0,Nat.zero_le _,rfl,zy4 w n,za9 w _ _⟩
 case round=>
  obtain ⟨k,hk,rfl,hs,hb⟩:=hrel;clear hmk;by_cases hlt:k<n
  ·have hp:=hs.zgs
   have hc:=hs.zft k (by rw [zdv];exact hlt);have hf:=hs.zme k;have hs':=hs.set k k;rw [zi9] at hs';have HS:=kd hs';have HB:Hid (Below w.heap.size w (wr.setCell ⟨w.heap.size,k,none⟩ (.int .i64 (k:Int)))):=hb.setCell (Nat.le_refl _) _;rw [zdv] at hp;clear hs hs' hb;generalize (fill n k).getD k 0=z at hc;go_wp2;go_roundw;case rel=>exact ⟨k+1,by omega,by go_num,HS.out,HB.out⟩
   case measure=>simp [intOf];omega
  ·have hke:k=n:=by omega
   subst hke;rw [zkl] at hs;have HS:=kd hs;have HB:=kd hb;clear hs hb;go_wp2;go_ret2;exact ⟨rfl,HS.out,HB.out⟩
theorem zht (w:World) (o1 o2 o3 o4:Obj):Below w.heap.size w ((((w.alloc o1).alloc o2).alloc o3).alloc o4):=
 ((za9 w o1 o2).alloc (by simp;omega) _).alloc (by simp;omega) _
end Go.Proofs.YtebcjaenhiiflaaGreatDoor.S
namespace Go.Proofs.YtebcjaenhiiflaaGreatDoor.S
open Go.Proofs.Tryz
open Go.RowKit
def named (lo hi l:Nat):Nat:=if l=hi then lo else l
def part (L:List Nat) (lo hi k:Nat):List Nat:=((L.take k).map (named lo hi))++L.drop k
def joinL (L:List Nat) (x y:Nat):List Nat:=L.map (named (min (L.getD x 0) (L.getD y 0)) (max (L.getD x 0) (L.getD y 0)))
theorem zfe (L:List Nat) (lo hi k:Nat):(part L lo hi k).length=L.length:=by simp [part];omega
theorem zoc (L:List Nat) (lo hi:Nat):part L lo hi 0=L:=by simp [part]
theorem zqn (L:List Nat) (lo hi:Nat):part L lo hi L.length=L.map (named lo hi):=by simp [part]
theorem zmj (L:List Nat) (lo hi k:Nat) (h:k<L.length):(part L lo hi k).getD k 0=L.getD k 0:=by
 simp [part,List.getD_eq_getElem?_getD,List.getElem?_append_right,Nat.min_eq_left (Nat.le_of_lt h)]
theorem zn6 (L:List Nat) (lo hi k:Nat) (h:k<L.length):part L lo hi (k+1)=(part L lo hi k).set k (named lo hi (L.getD k 0)):=by
 have e:L.drop k=L.getD k 0::L.drop (k+1):=by
  rw [List.drop_eq_getElem_cons h];simp [h]
 unfold part;rw [List.take_succ_eq_append_getElem h,e,List.set_append_right _ _ (by simp;omega)];rw [List.map_append,List.append_assoc]
 congr 1
 have e2:k-(List.map (named lo hi) (List.take k L)).length=0:=by simp;omega
 have e3:L.getD k 0=L[k]:=by simp [h]
 rw [e2,e3];rfl
theorem zqx (L:List Nat) (lo hi k:Nat) (h:k<L.length) (e:L.getD k 0=hi):part L lo hi (k+1)=(part L lo hi k).set k lo:=by
 rw [zn6 L lo hi k h,named,if_pos e]
theorem znt (L:List Nat) (lo hi k:Nat) (h:k<L.length) (e:L.getD k 0≠hi):part L lo hi (k+1)=part L lo hi k:=by
 rw [zn6 L lo hi k h,named,if_neg e,<-zmj L lo hi k h];apply List.ext_getElem
 ·simp
 ·intro i h1 h2
  rw [List.getElem_set];split
  ·next e=>subst e;simp [h2]
  ·rfl
theorem zlh (L:List Nat) (x y:Nat) (e:L.getD x 0=L.getD y 0):joinL L x y=L:=by
 unfold joinL;rw [<-e,Nat.min_self,Nat.max_self];conv=>rhs;rw [<-List.map_id L]
 apply List.map_congr_left;intro l _;simp [named];intro h;exact h.symm
theorem zhc (x y p b:Nat) (L:List Nat) (w:World) (hs:zab w p b L) (hx:x<L.length) (hy:y<L.length) (hlen:L.length<=40):
 Calls prog 119 #[.pointer (some ⟨p,0,none⟩),.int .i64 (x:Int),.int .i64 (y:Int)] w λ e w'=>e= .returned (.tuple #[.bool (decide (L.getD x 0≠L.getD y 0)),.nilIface])/\zab w' p b (joinL L x y)/\But b w w':=by
 go_enter func119,ntmps119;go_wp2_with fail;refine (zns (x:Int) (y:Int) w.heap.size p b 2 L _ (zbs hs _) ?c1 ?c2 ?c3 (by omega) (by omega) (by omega) (by omega)).mono ?_;case c1=>simp
 case c2=>simp
 case c3=>simp
 rintro e w' ⟨rfl,rfl⟩;have hs2:=zbs (zbs hs (Obj.cells #[Value.int IntKind.i64 ↑x,Value.int IntKind.i64 ↑y] 3)) (Obj.cells #[Value.pointer (some {block:=p,off:=0})] 175);have hb:=za9 w (Obj.cells #[Value.int IntKind.i64 ↑x,Value.int IntKind.i64 ↑y] 3) (Obj.cells #[Value.pointer (some {block:=p,off:=0})] 175);generalize (w.alloc (Obj.cells #[Value.int IntKind.i64 ↑x,Value.int IntKind.i64 ↑y] 3)).alloc (Obj.cells #[Value.pointer (some {block:=p,off:=0})] 175)=W at hs2 hb ⊢;have HB:Hid (But b w W):=But.of_below hb;clear hb hs;have hp:=hs2.zgs;have hcx:=hs2.zft x hx;have hcy:=hs2.zft y hy;have HX:=(show Hid (∃X,L.getD x 0=X) from ⟨_,rfl⟩);generalize hX:L.getD x 0=X at hcx;generalize hY:L.getD y 0=Y at hcy;have HX:=kd hX;have HY:=kd hY;clear hX hY;have HS:=kd hs2;clear hs2;rcases Nat.lt_trichotomy X Y with hlt | heq | hgt
 ·have h1:(X:Int)<(Y:Int):=by omega
  have hne:((Y:Int)==(X:Int))=false:=beq_eq_false_iff_ne.2 (by omega);have hne':((X:Int)==(Y:Int))=false:=beq_eq_false_iff_ne.2 (by omega);have HJ:Hid (joinL L x y=L.map (named X Y)):=by
   show joinL L x y=_;unfold joinL;rw [HX.out,HY.out,Nat.min_eq_left (by omega),Nat.max_eq_right (by omega)]
  have HN:Hid (L.getD x 0≠L.getD y 0):=by
   show L.getD x 0≠L.getD y 0;rw [HX.out,HY.out];omega
  clear HX HY;go_wp2_with fail;go_quiet (fail);clear hcx hcy;go_wp2_with fail;have HB2:Hid (But b w (W.drewN nq)):=HB.out.trans (But.of_below (below_drewN (Below.refl _ _) nq));have HS2:Hid (zab (W.drewN nq) p b L):=zep HS.out nq;clear HB HS;generalize W.drewN nq=V at*;clear hp;go_loopw [11,12,59] (λ _ _ i wr=>∃k:Nat,k<=L.length/\i= .int .i64 k/\zab wr p b (part L X Y k)/\But b w wr) (λ _ _ i _=>L.length-(intOf i).toNat)
  case atStart=>exact ⟨0,Nat.zero_le _,rfl,by rw [zoc];exact HS2.out,HB2.out⟩
  case round=>
   obtain ⟨k,hk,rfl,hs,hb⟩:=hrel;by_cases hlt:k<L.length
   ·have hp:=hs.zgs
    have hc:=hs.zft k (by rw [zfe];exact hlt);have hf:=hs.zme k;rw [zfe] at hp;rw [zmj _ _ _ _ hlt] at hc;by_cases hz:L.getD k 0=Y
    ·have HS:Hid (zab (wr.setCell ⟨b,k,none⟩ (.int .i64 (X:Int))) p b (part L X Y (k+1))):=by
      have:=hs.set k X;rw [<-zqx L X Y k hlt hz] at this;exact this
     have HB:Hid (But b w (wr.setCell ⟨b,k,none⟩ (.int .i64 (X:Int)))):=hb.setCell _ _;rw [hz] at hc;clear hs hb hz;go_wp2;go_roundw;case rel=>exact ⟨k+1,by omega,by go_num,HS.out,HB.out⟩
     case measure=>simp [intOf];omega
    ·have HS:Hid (zab wr p b (part L X Y (k+1))):=by
      show zab wr p b (part L X Y (k+1));rw [znt L X Y k hlt hz];exact hs
     have HB:=kd hb;generalize L.getD k 0=z at hc hz;have hzb:((z:Int)==(Y:Int))=false:=beq_eq_false_iff_ne.2 (by omega);clear hs hb hz;go_wp2;go_roundw;case rel=>exact ⟨k+1,by omega,by go_num,HS.out,HB.out⟩
     case measure=>simp [intOf];omega
   ·have hke:k=L.length:=by omega
    subst hke;rw [zqn,<-HJ.out] at hs;have HS:=kd hs;have HB:=kd hb;clear hs hb;go_wp2;go_ret2;exact ⟨by rw [decide_eq_true HN.out];rfl,HS.out,HB.out⟩
 ·subst heq
  have HJ:Hid (joinL L x y=L):=zlh L x y (HX.out.trans HY.out.symm);have HN:Hid (L.getD x 0=L.getD y 0):=HX.out.trans HY.out.symm;clear HX HY;go_wp2_with fail;go_quiet (fail);clear hcx hcy;go_wp2_with fail;go_ret2;exact ⟨by rw [HN.out];simp,by rw [HJ.out];exact zep HS.out nq,HB.out.trans (But.of_below (below_drewN (Below.refl _ _) nq))⟩
 ·have h1:(Y:Int)<(X:Int):=by omega
  have hne:((X:Int)==(Y:Int))=false:=beq_eq_false_iff_ne.2 (by omega);have hne':((Y:Int)==(X:Int))=false:=beq_eq_false_iff_ne.2 (by omega);have HJ:Hid (joinL L x y=L.map (named Y X)):=by
   show joinL L x y=_;unfold joinL;rw [HX.out,HY.out,Nat.min_eq_right (by omega),Nat.max_eq_left (by omega)]
  have HN:Hid (L.getD x 0≠L.getD y 0):=by
   show L.getD x 0≠L.getD y 0;rw [HX.out,HY.out];omega
  clear HX HY;go_wp2_with fail;go_quiet (fail);clear hcx hcy;go_wp2_with fail;have HB2:Hid (But b w (W.drewN nq)):=HB.out.trans (But.of_below (below_drewN (Below.refl _ _) nq));have HS2:Hid (zab (W.drewN nq) p b L):=zep HS.out nq;clear HB HS;generalize W.drewN nq=V at*;clear hp;go_loopw [11,12,59] (λ _ _ i wr=>∃k:Nat,k<=L.length/\i= .int .i64 k/\zab wr p b (part L Y X k)/\But b w wr) (λ _ _ i _=>L.length-(intOf i).toNat)
  case atStart=>exact ⟨0,Nat.zero_le _,rfl,by rw [zoc];exact HS2.out,HB2.out⟩
  case round=>
   obtain ⟨k,hk,rfl,hs,hb⟩:=hrel;by_cases hlt:k<L.length
   ·have hp:=hs.zgs
    have hc:=hs.zft k (by rw [zfe];exact hlt);have hf:=hs.zme k;rw [zfe] at hp;rw [zmj _ _ _ _ hlt] at hc;by_cases hz:L.getD k 0=X
    ·have HS:Hid (zab (wr.setCell ⟨b,k,none⟩ (.int .i64 (Y:Int))) p b (part L Y X (k+1))):=by
      have:=hs.set k Y;rw [<-zqx L Y X k hlt hz] at this;exact this
     have HB:Hid (But b w (wr.setCell ⟨b,k,none⟩ (.int .i64 (Y:Int)))):=hb.setCell _ _;rw [hz] at hc;clear hs hb hz;go_wp2;go_roundw;case rel=>exact ⟨k+1,by omega,by go_num,HS.out,HB.out⟩
     case measure=>simp [intOf];omega
    ·have HS:Hid (zab wr p b (part L Y X (k+1))):=by
      show zab wr p b (part L Y X (k+1));rw [znt L Y X k hlt hz];exact hs
     have HB:=kd hb;generalize L.getD k 0=z at hc hz;have hzb:((z:Int)==(X:Int))=false:=beq_eq_false_iff_ne.2 (by omega);clear hs hb hz;go_wp2;go_roundw;case rel=>exact ⟨k+1,by omega,by go_num,HS.out,HB.out⟩
     case measure=>simp [intOf];omega
   ·have hke:k=L.length:=by omega
    subst hke;rw [zqn,<-HJ.out] at hs;have HS:=kd hs;have HB:=kd hb;clear hs hb;go_wp2;go_ret2;exact ⟨by rw [decide_eq_true HN.out];rfl,HS.out,HB.out⟩
end Go.Proofs.YtebcjaenhiiflaaGreatDoor.S
namespace Go.Proofs.YtebcjaenhiiflaaGreatDoor.S
open Go.Proofs.Tryz
open Go.RowKit Go.WideMaps Go.Maps
open Go.ChangeShapes (lits)
def ints (l:List Nat):List Int:=l.map λ i:Nat=>(i:Int)
theorem zfd (a b:List Nat):ints (a++b)=ints a++ints b:=by simp [ints]
theorem zbc (a:List Nat):(ints a).length=a.length:=by simp [ints]
def grp (L:List Nat) (k y:Nat):List Nat:=(List.range k).filter λ i=>L.getD i 0==y
theorem zfp (L:List Nat) (k:Nat):grp L (k+1) (L.getD k 0)=grp L k (L.getD k 0)++[k]:=by
 simp [grp,List.range_succ]
theorem ze0 (L:List Nat) (k y:Nat) (h:L.getD k 0≠y):grp L (k+1) y=grp L k y:=by
 have hb:(L.getD k 0==y)=false:=beq_eq_false_iff_ne.2 h;unfold grp;rw [List.range_succ,List.filter_append,List.filter_cons,hb];simp
def zku (L:List Nat) (k:Nat) (D:DataW Unit):Prop:=
 IsMap D/\∀(y:Nat) (zd:DataW Unit),D.atKey (.int .i64 (y:Int)) zd=if grp L k y=[] then zd else .slice (lits .i64 (ints (grp L k y))) []
theorem zh0 {a b:List Int} (h:(lits .i64 a:List (DataW Unit))=lits .i64 b):a=b:=by
 unfold lits at h;exact (List.map_inj_right (λ x y hxy=>by cases hxy;rfl)).1 h
theorem zuw (L:List Nat):zku L 0 (.map []):=⟨isMap_empty,λ y zd=>by simp [grp];rfl⟩
theorem zkw {L:List Nat} {k y:Nat} {D:DataW Unit} (h:zku L k D) {w:World} {base:Nat} {e:TypeId} {v:Value} {zs:List Int} (ho:w.ownsInts base e .i64 v zs)
 (hat:D.atKey (.int .i64 (y:Int)) .nil=rowDatum .i64 v zs):zs=ints (grp L k y):=by
 rw [h.2] at hat;split at hat
 ·next hg=>
  rw [hg];rcases ho.datum (H:=Unit) with ⟨_,h2⟩ | h2
  ·exact h2
  ·rw [h2] at hat;cases hat
 ·next hg=>
  rcases ho.datum (H:=Unit) with ⟨h1,_⟩ | h2
  ·rw [h1] at hat;cases hat
  ·rw [h2] at hat
   injection hat with h3 _
   exact (zh0 h3).symm
theorem zy2 {L:List Nat} {k:Nat} {D:DataW Unit} (h:zku L k D) {w w1:World} {base:Nat} {e:TypeId} {v v':Value} {zs:List Int} (ho:w.ownsInts base e .i64 v zs)
 (hat:D.atKey (.int .i64 ((L.getD k 0:Nat):Int)) .nil=rowDatum .i64 v zs) (ho':w1.ownsInts base e .i64 v' (zs++[(k:Int)])):
 zku L (k+1) (D.put (.int .i64 ((L.getD k 0:Nat):Int)) (rowDatum .i64 v' (zs++[(k:Int)]))):=by
 have hz:=zkw h ho hat;refine ⟨h.1.put _ _,λ y zd=>?_⟩;by_cases e:L.getD k 0=y
 ·subst e
  rw [atKey_put_same h.1 (by trivial),zfp,if_neg (by simp),ho'.datum_pos (by simp),hz,zfd];rfl
 ·have hne:Lit.int .i64 (y:Int)≠Lit.int .i64 ((L.getD k 0:Nat):Int):=λ h=>e (by injection h with _ h2;omega)
  rw [atKey_put_other hne,h.2,ze0 L k y e]
theorem zk2 {P:Program} {wl wr:World} {t k E base e b n:Nat} {D:DataW Unit} {key:Value} {kl:Lit} (hg:wl.ownsGroups P k base e .i64 b n D) (hb:Below wl.heap.size wl wr)
 (K:Keyed P k) (ht:P.underlying t=some (.map k E)) (hz:(zeroValue E).run P wr= .ok (.slice none 0 0) wr) (hkey:keyOf P k key=some kl):
 ((Instr.lookup t (.map (some b)) key true).run P wr= .ok (.tuple #[.slice none 0 0,.bool false]) wr/\∀zd,D.atKey kl zd=zd)\/
 ∃v zs,(Instr.lookup t (.map (some b)) key true).run P wr= .ok (.tuple #[v,.bool true]) wr/\wl.ownsInts base e .i64 v zs/\∀zd,D.atKey kl zd=rowDatum .i64 v zs:=by
 obtain ⟨es,clock,hh,F,hs,rfl,hbb,hlen,hap⟩:=hg;have hh':wr.heap[b]? =some (.map es clock):=(hb.block b (lt_of_some hh)).trans hh;rcases Maps.fit_look true K ht hz hh' F hkey with ⟨hrun,_,hat⟩ | ⟨e0,y,hm0,h3,hrun,hR,hat,_⟩
 ·exact Or.inl ⟨by simpa using hrun,hat⟩
 ·obtain ⟨zs,ho,rfl⟩:=rowElem_inv hR
  exact Or.inr ⟨e0.val,zs,by simpa using hrun,ho,hat⟩
theorem zz2 {P:Program} {wl wr:World} {t k E base e b n m y:Nat} {L:List Nat} {D:DataW Unit} (hg:wl.ownsGroups P k base e .i64 b n D) (hD:zku L m D) (hb:Below wl.heap.size wl wr)
 (K:Keyed P k) (ht:P.underlying t=some (.map k E)) (hz:(zeroValue E).run P wr= .ok (.slice none 0 0) wr) (hkey:keyOf P k (.int .i64 (y:Int))=some (.int .i64 (y:Int))) (hy:grp L m y=[]):
 (Instr.lookup t (.map (some b)) (.int .i64 (y:Int)) true).run P wr= .ok (.tuple #[.slice none 0 0,.bool false]) wr:=by
 rcases zk2 hg hb K ht hz hkey with ⟨hrun,_⟩ | ⟨v,zs,_,_,hat⟩
 ·exact hrun
 ·have h1:=hat .nil
  have h2:=hat (.map []);rw [hD.2,if_pos hy] at h1 h2;rw [<-h1] at h2;cases h2
theorem zyi {P:Program} {wl wr:World} {t k E base e b n m y:Nat} {L:List Nat} {D:DataW Unit} (hg:wl.ownsGroups P k base e .i64 b n D) (hD:zku L m D) (hb:Below wl.heap.size wl wr)
 (K:Keyed P k) (ht:P.underlying t=some (.map k E)) (hz:(zeroValue E).run P wr= .ok (.slice none 0 0) wr) (hkey:keyOf P k (.int .i64 (y:Int))=some (.int .i64 (y:Int))) (hy:grp L m y≠[]):
 ∃r c,(Instr.lookup t (.map (some b)) (.int .i64 (y:Int)) true).run P wr= .ok (.tuple #[.slice (some ⟨r,0,none⟩) (grp L m y).length c,.bool true]) wr/\wl.ownsInts base e .i64 (.slice (some ⟨r,0,none⟩) (grp L m y).length c) (ints (grp L m y)):=by
 rcases zk2 hg hb K ht hz hkey with ⟨_,hat⟩ | ⟨v,zs,hrun,ho,hat⟩
 ·have h1:=hat .nil
  rw [hD.2,if_neg hy] at h1;cases h1
 ·have hzs:=zkw hD ho (hat .nil)
  subst hzs;rcases ho.1.2 with ⟨_,h0⟩ | ⟨g,cap,cur,rfl,_⟩
  ·rw [zbc] at h0
   exact absurd (List.length_eq_zero_iff.1 h0) hy
  ·rw [zbc] at hrun ho
   exact ⟨g,cap,hrun,ho⟩
def zao (L:List Nat) (k:Nat):List (List Nat):=((List.range k).map (grp L L.length)).filter λ l=>!l.isEmpty
theorem zmn (L:List Nat) (k:Nat) (h:grp L L.length k=[]):zao L (k+1)=zao L k:=by
 simp [zao,List.range_succ,h]
theorem zm3 (L:List Nat) (k:Nat) (h:grp L L.length k≠[]):zao L (k+1)=zao L k++[grp L L.length k]:=by
 simp [zao,List.range_succ,h]
theorem ztu (L:List Nat) (k:Nat):(zao L k).length<=k:=by
 unfold zao;refine Nat.le_trans (List.length_filter_le _ _) ?_;simp
def zcq (wl:World) (base:Nat) (vs:List Value) (Gs:List (List Nat)):Prop:=
 vs.length=Gs.length/\∀i,i<Gs.length->∃r c,vs[i]? =some (.slice (some ⟨r,0,none⟩) (Gs.getD i []).length c)/\wl.ownsInts base 3 .i64 (.slice (some ⟨r,0,none⟩) (Gs.getD i []).length c) (ints (Gs.getD i []))
theorem ziw {wl:World} {base:Nat} {vs:List Value} {Gs:List (List Nat)} (h:zcq wl base vs Gs) {r c:Nat} {G:List Nat} (ho:wl.ownsInts base 3 .i64 (.slice (some ⟨r,0,none⟩) G.length c) (ints G)):
 zcq wl base (vs++[.slice (some ⟨r,0,none⟩) G.length c]) (Gs++[G]):=by
 have hl:=h.1;refine ⟨by simp [hl],λ i hi=>?_⟩;by_cases e:i<Gs.length
 ·obtain ⟨r',c',h1,h2⟩:=h.2 i e
  have e1:(Gs++[G]).getD i []=Gs.getD i []:=by simp [List.getElem?_append_left e]
  rw [e1];exact ⟨r',c',by rw [List.getElem?_append_left (by omega)];exact h1,h2⟩
 ·have e2:i=Gs.length:=by simp at hi;omega
  subst e2;have e1:(Gs++[G]).getD Gs.length []=G:=by simp
  rw [e1];exact ⟨r,c,by rw [List.getElem?_append_right (by omega),h.1];simp,ho⟩
def zdd (w:World) (v:Value) (Gs:List (List Nat)):Prop:=
 ∃g cap,v= .slice (some ⟨g,0,none⟩) Gs.length cap/\∀i,i<Gs.length->∃r c,w.cell? ⟨g,i,none⟩=some (.slice (some ⟨r,0,none⟩) (Gs.getD i []).length c)/\∀j,j<(Gs.getD i []).length->w.cell? ⟨r,j,none⟩=some (.int .i64 (((Gs.getD i []).getD j 0:Nat):Int))
theorem lt_of_cell {w:World} {k i:Nat} {v:Value} (h:w.cell? ⟨k,i,none⟩=some v):k<w.heap.size:=by
 rcases Nat.lt_or_ge k w.heap.size with h' | h'
 ·exact h'
 ·simp [World.cell?,Array.getElem?_eq_none h'] at h
theorem zdd.below {w w':World} {v:Value} {Gs:List (List Nat)} (h:zdd w v Gs) (hb:Below w.heap.size w w'):zdd w' v Gs:=by
 obtain ⟨g,cap,hv,h⟩:=h;refine ⟨g,cap,hv,λ i hi=>?_⟩;obtain ⟨r,c,h1,h2⟩:=h i hi;refine ⟨r,c,(hb.cell (p:=⟨g,i,none⟩) (lt_of_cell h1)).trans h1,λ j hj=>(hb.cell (p:=⟨r,j,none⟩) (lt_of_cell (h2 j hj))).trans (h2 j hj)⟩
theorem zrh {wl wr:World} {base M:Nat} {v:Value} {vs:List Value} {Gs:List (List Nat)} (hr:zcq wl base vs Gs) (ho:wr.ownsRow M 48 1 v vs.length vs) (hv:v≠ .slice none 0 0) (hb:Below wl.heap.size wl wr):zdd wr v Gs:=by
 rcases ho.2 with ⟨h0,_⟩ | ⟨g,cap,cur,rfl,_⟩
 ·exact absurd h0 hv
 ·refine ⟨g,cap,by rw [hr.1],λ i hi=>?_⟩
  obtain ⟨r,c,h1,h2⟩:=hr.2 i hi;refine ⟨r,c,?_,λ j hj=>?_⟩
  ·rw [ho.cellAt i (by rw [hr.1];omega)];exact h1
  ·have hlt:=(h2.1.lt r rfl).2
   have h3:=h2.1;rw [zbc] at h3;rw [hb.cell (p:=⟨r,j,none⟩) hlt,h3.cellAt j (by omega)];clear h1 h2 h3;generalize Gs.getD i []=G at*;simp [ints,hj]
end Go.Proofs.YtebcjaenhiiflaaGreatDoor.S
namespace Go.Proofs.YtebcjaenhiiflaaGreatDoor.S
open Go.Proofs.Tryz
open Go.RowKit Go.WideMaps Go.Maps
theorem zf9 (w:World):(zeroValue 48).run prog w= .ok (.slice none 0 0) w:=by kernel_rfl
theorem za6:Keyed prog 3:=int_keyed underlying3
theorem Tryz.info48:(prog.info? 48).map (λ i=>(i.zero,i.size,i.bytes))=some (some (.slice none 0 0),1,24):=by kernel_rfl
theorem zgr (y:Nat) (h:y<=1000000):keyOf prog 3 (.int .i64 (y:Int))=some (.int .i64 (y:Int)):=keyOf_int_mk underlying3 (WalkArith.wf_i64 (by omega))
theorem zlj {w:World} {t k E base e b n:Nat} {D:DataW Unit} (h:w.ownsGroups prog k base e .i64 b n D) (ht:prog.underlying t=some (.map k E)):∃m:Nat,m<=n/\∀ty,(Builtin.len_ #[t] ty #[.map (some b)]).run prog w= .ok (.int .i64 (m:Int)) w:=by
 obtain ⟨es,clock,hb,F,hs,rfl,_⟩:=h;exact ⟨es.size,hs,λ ty=>by simp [Builtin.len_,run_underlying ht,MapKept.run_getObj_map hb,goInt,Result.andThen]⟩
theorem zcu (a:Option Addr) (n c:Nat):∀u∈[Value.slice a n c],u.oneCell'=true:=by
 intro u hu;simp at hu;subst hu;rfl
theorem z7p (p b:Nat) (L:List Nat) (w:World) (hs:zab w p b L) (hlen:L.length<=40) (hL:∀i,i<L.length->L.getD i 0<=1000000):
 Calls prog 143 #[.pointer (some ⟨p,0,none⟩)] w λ e w'=>∃v,e= .returned v/\zdd w' v (zao L L.length)/\Below w.heap.size w w':=by
 have hmm:=@run_makeMap prog;obtain ⟨i0,hi,hz0,hz1,hz2⟩:=info_parts Tryz.info3;have hp:=hs.zgs;have hpl:=hs.plt;have hp':(w.alloc (.map #[] 0)).cell? ⟨p,0,none⟩=some (.slice (some ⟨b,0,none⟩) L.length L.length):=by rw [World.cell?_alloc_lt _ _ _ hpl];exact hp
 go_enter func143,ntmps143;go_wp2_with fail;go_loopw [4,5,16] (λ _ _ i wr=>∃k:Nat,k<=L.length/\i= .int .i64 k/\(∃D:DataW Unit,zku L k D/\wr.ownsGroups prog 3 (w.heap.size+1) 3 .i64 w.heap.size k D)/\Below w.heap.size w wr/\w.heap.size+1<=wr.heap.size)
  (λ _ _ i _=>L.length-(intOf i).toNat)
 case atStart=>exact ⟨0,Nat.zero_le _,rfl,⟨.map [],zuw L,World.ownsGroups_made _ _ _ _ _⟩,(Below.refl _ _).alloc (Nat.le_refl _) _,by simp⟩
 case round=>
  obtain ⟨k,hk,rfl,⟨D,hD,hown⟩,hnx,hws⟩:=hrel;clear hp' hmm;by_cases hlt:k<L.length
  ·have hcx:wr.cell? ⟨b,k,none⟩=some (.int .i64 ((L.getD k 0:Nat):Int)):=(hnx.cell (p:=⟨b,k,none⟩) hs.blt).trans (hs.zft k hlt)
   have hkey:=zgr (L.getD k 0) (hL k hlt);have HD:=kd hD;have HS:=kd hs;clear hD hs hL hp;generalize hy:L.getD k 0=y at hcx hkey;have HY:=kd hy;clear hy;go_wp2_with (first
    | (at_lookup;refine wpList_lookup_groups _ rfl _ _ 199 rfl 3 48 3 .i64 za6 underlying199 (zf9 _) (w.heap.size+1) w.heap.size k _ rfl hown (by unfold maxLen;omega) _ _ rfl hkey ?_;intro v zs hat hoi hzl hback)
    | (at_builtin;refine wpList_append_own_at _ rfl _ _ 48 rfl (w.heap.size+1) 3 i0 (.int .i64 0) 1 8 underlying48 hi hz0 hz1 hz2 rfl (by decide) _ _ _ rfl (hoi.1.alloc _) ⟨wr.heap.size,0,none⟩ 1 1 [.int .i64 k] rfl rfl (cell_one_new _ _ _) (ints_oneCell .i64 [(k:Int)]) (by unfold maxLen;omega) (by omega) (by simp;omega) ?_;intro v' w1 hown' hgrow hnil hloc)
    | (at_mapUpdate;refine wpList_mapUpdate_back _ rfl _ _ _ 199 rfl hback rfl rfl rfl ((World.grownBy_alloc _ _ _).trans hgrow) (hoi.appended hown' (WalkArith.wf_i64 (by omega))) (by simp;omega) (hloc.imp id (λ h=>⟨_,h,by simp⟩)) ?_;intro w2 hown2 hgrow2)
    | go_in)
   have hall:=(World.grownBy_alloc wr _ _).trans hgrow;have ho':=hoi.appended hown' (WalkArith.wf_i64 (by omega));rw [<-HY.out] at hat hown2;go_roundw;case rel=>exact ⟨k+1,by omega,by go_num,⟨_,zy2 HD.out hoi hat ho',hown2⟩,hnx.groups hoi hall hgrow2 hnx.size (Nat.le_succ _) (Nat.le_refl _),Nat.le_trans hws (Nat.le_trans hall.size hgrow2.size)⟩
   case measure=>simp [intOf];omega
  ·have hke:k=L.length:=by omega
   subst hke;rename World=>wl
   obtain ⟨m,hm,hlenm⟩:=zlj hown underlying199;obtain ⟨j0,hj,hj0,hj1,hj2⟩:=info_parts Tryz.info48;have hpr:wl.cell? ⟨p,0,none⟩=some (.slice (some ⟨b,0,none⟩) L.length L.length):=(hnx.cell (p:=⟨p,0,none⟩) hpl).trans hp;have HD:=kd hD;have HO:=kd hown;have HN:=kd hnx;have hprlt:p<wl.heap.size:=Nat.lt_of_lt_of_le hpl hnx.size;clear hD hs hL hp hown hnx hi hz0 hz1 hz2;go_wp2_with (first
    | (at_make;refine wpList_make_own _ rfl _ _ 51 rfl wl.heap.size 48 j0 (.slice none 0 0) 1 underlying51 hj hj0 hj1 .i64 .i64 _ m rfl rfl rfl (by rw [hj2];omega) (by unfold maxLen;omega) (Nat.le_refl _) ?_;intro w1 hown1 hgrow1;have hp1:w1.cell? ⟨p,0,none⟩=some (.slice (some ⟨b,0,none⟩) L.length L.length):=by rw [World.cell?_of_block (w:=wl) (hgrow1.block p hprlt (by simp))];exact hpr)
    | fail)
   have HB1:Hid (Below wl.heap.size wl w1):=(Below.refl _ _).grown hgrow1 (Nat.le_refl _) (by simp);clear hpr hgrow1 hlenm hm;go_loopw [6,7,8,9,38] (λ t _ _ _ i wq=>∃k:Nat,k<=L.length/\i= .int .i64 k/\(∃vs,zcq wl (w.heap.size+1) vs (zao L k)/\wq.ownsRow wl.heap.size 48 1 t vs.length vs)/\t≠ .slice none 0 0/\Below wl.heap.size wl wq)
    (λ _ _ _ _ i _=>L.length-(intOf i).toNat)
   case atStart=>exact ⟨0,Nat.zero_le _,rfl,⟨[],⟨rfl,by simp [zao]⟩,hown1⟩,by simp,HB1.out⟩
   case round=>
    obtain ⟨k,hk,rfl,⟨vs,hrows,howk⟩,htn,hbk⟩:=hrel;clear hown1 hp1;have hvl:=hrows.1;have hgl:=ztu L k;by_cases hlt:k<L.length
    ·by_cases hg:grp L L.length k=[]
     ·have hrun:=zz2 HO.out HD.out hbk za6 underlying199 (zf9 wr) (zgr k (by omega)) hg
      have HR:Hid (zcq wl (w.heap.size+1) vs (zao L (k+1))):=by
       show zcq wl (w.heap.size+1) vs (zao L (k+1));rw [zmn L k hg];exact hrows
      have HK:=kd howk;clear hrows howk hg;go_wp2;go_roundw;case rel=>exact ⟨k+1,by omega,by go_num,⟨vs,HR.out,HK.out⟩,htn,hbk⟩
      case measure=>simp [intOf];omega
     ·obtain ⟨r,c,hrun,hoi⟩:=zyi HO.out HD.out hbk za6 underlying199 (zf9 wr) (zgr k (by omega)) hg
      have HR:Hid (zcq wl (w.heap.size+1) (vs++[.slice (some ⟨r,0,none⟩) (grp L L.length k).length c]) (zao L (k+1))):=by
       show zcq wl (w.heap.size+1) _ (zao L (k+1));rw [zm3 L k hg];exact ziw hrows hoi
      clear hrows hoi hg;generalize (grp L L.length k).length=gl at*;go_wp2_with (first
       | (at_builtin;refine wpList_append_own_at _ rfl _ _ 51 rfl wl.heap.size 48 j0 (.slice none 0 0) 1 24 underlying51 hj hj0 hj1 hj2 rfl (by decide) u6 vs.length vs rfl (howk.alloc _) ⟨wr.heap.size,0,none⟩ 1 1 [.slice (some ⟨r,0,none⟩) gl c] rfl rfl (cell_one_new _ _ _) (zcu _ _ _) (by unfold maxLen;omega) (by omega) (by have:=hbk.size;simp;omega) ?_;intro v' w1 hown' hgrow hnil hloc)
       | fail)
      have hall:=(World.grownBy_alloc wr _ _).trans hgrow;go_roundw;case rel=>exact ⟨k+1,by omega,by go_num,⟨_,HR.out,by simpa using hown'⟩,λ h=>htn (hnil.1 h).1,hbk.grown hall hbk.size (λ j hj=>(howk.lt j hj).1)⟩
      case measure=>simp [intOf];omega
    ·have hke:k=L.length:=by omega
     subst hke;have HA:Hid (zdd wr u6 (zao L L.length)):=zrh hrows howk htn hbk;go_wp2;go_ret;exact ⟨_,rfl,HA.out,HN.out.trans (hbk.mono HN.out.size)⟩
structure Good (n:Nat) (L:List Nat):Prop where
 len:L.length=n
 le:∀i,i<n->L.getD i 0<=i
 idem:∀i,i<n->L.getD (L.getD i 0) 0=L.getD i 0
theorem zbi (n:Nat):Good n (List.range n):=
 ⟨by simp,λ i hi=>by simp [hi],λ i hi=>by simp [hi]⟩
theorem zqy (L:List Nat) (x y:Nat):(joinL L x y).length=L.length:=by simp [joinL]
theorem zdi (L:List Nat) (x y i:Nat) (h:i<L.length):(joinL L x y).getD i 0=named (min (L.getD x 0) (L.getD y 0)) (max (L.getD x 0) (L.getD y 0)) (L.getD i 0):=by
 simp [joinL,h]
theorem zph {lo hi l:Nat} (h:lo<=hi):named lo hi l<=l:=by
 unfold named;split <;> omega
theorem zgl {n:Nat} {L:List Nat} (g:Good n L) {x y:Nat} (hx:x<n) (hy:y<n):Good n (joinL L x y):=by
 have hlen:=g.len;have hmm:min (L.getD x 0) (L.getD y 0)<=max (L.getD x 0) (L.getD y 0):=by omega
 have hlo:L.getD (min (L.getD x 0) (L.getD y 0)) 0=min (L.getD x 0) (L.getD y 0):=by
  rcases Nat.le_total (L.getD x 0) (L.getD y 0) with h | h
  ·rw [Nat.min_eq_left h];exact g.idem x hx
  ·rw [Nat.min_eq_right h];exact g.idem y hy
 refine ⟨by rw [zqy];exact hlen,λ i hi=>?_,λ i hi=>?_⟩
 ·rw [zdi _ _ _ _ (by omega)]
  exact Nat.le_trans (zph hmm) (g.le i hi)
 ·have h1:(joinL L x y).getD i 0<n:=by
   rw [zdi _ _ _ _ (by omega)];have:=zph (l:=L.getD i 0) hmm;have:=g.le i hi;omega
  rw [zdi _ _ _ _ (by rw [hlen];exact h1)];rw [zdi _ _ _ i (by omega)];generalize hlo':min (L.getD x 0) (L.getD y 0)=lo at*;generalize max (L.getD x 0) (L.getD y 0)=hi' at*;by_cases e:L.getD i 0=hi'
  ·have:named lo hi' (L.getD i 0)=lo:=by unfold named;rw [if_pos e]
   rw [this,hlo];unfold named;split <;> rfl
  ·have:named lo hi' (L.getD i 0)=L.getD i 0:=by unfold named;rw [if_neg e]
   rw [this,g.idem i hi,this]
theorem zyf (f:Nat->Bool):∀n,((List.range n).filter f).length=cnt f n
 | 0=>rfl
 | k+1=>by
   rw [List.range_succ,List.filter_append,List.length_append,zyf f k,List.filter_cons];simp only [cnt];cases f k <;> simp
theorem zek {L:List Nat} {n x i:Nat}:i∈grp L n x↔i<n/\L.getD i 0=x:=by
 unfold grp;rw [List.mem_filter,List.mem_range,beq_iff_eq]
theorem zhn (L:List Nat) (n x:Nat):(grp L n x).length=cnt (λ i=>L.getD i 0==x) n:=zyf _ n
theorem zp8 {n:Nat} {L:List Nat} (g:Good n L) {x:Nat} (hx:x<n):grp L n x≠[]↔L.getD x 0=x:=by
 constructor
 ·intro h
  obtain ⟨i,hi⟩:=List.exists_mem_of_ne_nil _ h;obtain ⟨h1,h2⟩:=zek.1 hi;have:=g.idem i h1;rw [h2] at this;exact this
 ·intro h e
  have:x∈grp L n x:=zek.2 ⟨hx,h⟩;rw [e] at this;cases this
theorem ztk {n:Nat} {L:List Nat} (g:Good n L) (i:Nat) (hi:i<(zao L n).length):∃x,x<n/\L.getD x 0=x/\(zao L n).getD i []=grp L n x:=by
 have hm:(zao L n).getD i []∈zao L n:=by
  have:(zao L n).getD i []=(zao L n)[i]:=by simp [hi]
  rw [this];exact List.getElem_mem hi
 generalize (zao L n).getD i []=G at hm;unfold zao at hm;rw [List.mem_filter,List.mem_map] at hm;obtain ⟨⟨x,hx,e⟩,hne⟩:=hm;rw [g.len] at e;rw [List.mem_range] at hx;refine ⟨x,hx,(zp8 g hx).1 (λ h=>?_),e.symm⟩;rw [<-e,h] at hne;simp at hne
end Go.Proofs.YtebcjaenhiiflaaGreatDoor.S
