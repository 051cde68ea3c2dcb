import Derived.Test.YtebcjaenhiiflaaGreatDoorQHi
import Derived.Test.YtebcjaenhiiflaaGreatDoorProg
import Derived.RowKit
import Derived.KernelRfl
import Derived.WalkKit
import Derived.WalkSpells
import Derived.WalkLawsBesides
import Derived.Recover
import Derived.Deep.QuietTactic
import Derived.BigQuiet
import Derived.Deep.OwnRows
import Derived.Maps.OwnRows
import Derived.Maps.Views
set_option maxHeartbeats 400000
set_option maxRecDepth 100000
namespace Go.Proofs.YtebcjaenhiiflaaGreatDoor.S
open Go.RowKit
def vals (L:List Nat):Array Value:=(L.map λ x:Nat=>Value.int .i64 (x:Int)).toArray
structure SetsAt (w:World) (p b:Nat) (L:List Nat):Prop where
 hp:w.heap[p]? =some (.cells #[.slice (some ⟨b,0,none⟩) L.length L.length] 268)
 hb:w.heap[b]? =some (.cells (vals L) 3)
theorem SetsAt.pcell {w:World} {p b:Nat} {L:List Nat} (h:SetsAt w p b L):w.cell? ⟨p,0,none⟩=some (.slice (some ⟨b,0,none⟩) L.length L.length):=by
 simp [World.cell?,h.hp]
theorem SetsAt.bcell {w:World} {p b:Nat} {L:List Nat} (h:SetsAt w p b L) (i:Nat) (hi:i<L.length):w.cell? ⟨b,i,none⟩=some (.int .i64 ((L.getD i 0:Nat):Int)):=by
 simp [World.cell?,h.hb,vals,hi]
theorem SetsAt.bfrozen {w:World} {p b:Nat} {L:List Nat} (h:SetsAt w p b L) (i:Nat):w.frozen? ⟨b,i,none⟩=false:=by
 simp [World.frozen?,h.hb]
theorem lt_of_some {w:World} {k:Nat} {o:Obj} (h:w.heap[k]? =some o):k<w.heap.size:=by
 rcases Nat.lt_or_ge k w.heap.size with h' | h'
 ·exact h'
 ·simp [Array.getElem?_eq_none h'] at h
theorem SetsAt.plt {w:World} {p b:Nat} {L:List Nat} (h:SetsAt w p b L):p<w.heap.size:=lt_of_some h.hp
theorem SetsAt.blt {w:World} {p b:Nat} {L:List Nat} (h:SetsAt w p b L):b<w.heap.size:=lt_of_some h.hb
theorem SetsAt.ne {w:World} {p b:Nat} {L:List Nat} (h:SetsAt w p b L):p≠b:=by
 intro e;have h1:=h.hp;rw [e,h.hb] at h1;injection h1 with h1
 injection h1 with _ h2
 exact absurd h2 (by decide)
theorem SetsAt.below {w w':World} {p b B:Nat} {L:List Nat} (h:SetsAt w p b L) (k:Below B w w') (hp:p<B) (hb:b<B):SetsAt w' p b L:=
 ⟨by rw [k.block p hp];exact h.hp,by rw [k.block b hb];exact h.hb⟩
structure But (b:Nat) (w w':World):Prop where
 os:w'.os=w.os
 tape:w'.tape=w.tape
 output:w'.output=w.output
 size:w.heap.size<=w'.heap.size
 block:∀k,k<w.heap.size->k≠b->w'.heap[k]? =w.heap[k]?
theorem But.of_below {b:Nat} {w w':World} (h:Below w.heap.size w w'):But b w w':=⟨h.os,h.tape,h.output,h.size,λ k hk _=>h.block k hk⟩
theorem But.refl (b:Nat) (w:World):But b w w:=⟨rfl,rfl,rfl,Nat.le_refl _,λ _ _ _=>rfl⟩
theorem But.trans {b:Nat} {x y z:World} (h:But b x y) (k:But b y z):But b x z:=
 ⟨k.os.trans h.os,k.tape.trans h.tape,k.output.trans h.output,Nat.le_trans h.size k.size,λ i hi hn=>(k.block i (Nat.lt_of_lt_of_le hi h.size) hn).trans (h.block i hi hn)⟩
theorem But.below {b B:Nat} {w w':World} (h:But b w w') (hB:B<=b) (hb:B<=w.heap.size):Below B w w':=
 ⟨h.os,h.tape,h.output,h.size,λ k hk=>h.block k (by omega) (by omega)⟩
theorem vals_set (L:List Nat) (k v:Nat):(vals L).setIfInBounds k (.int .i64 (v:Int))=vals (L.set k v):=by
 apply Array.ext';simp [vals,List.map_set]
theorem SetsAt.set {w:World} {p b:Nat} {L:List Nat} (h:SetsAt w p b L) (k v:Nat):SetsAt (w.setCell ⟨b,k,none⟩ (.int .i64 (v:Int))) p b (L.set k v):=by
 refine ⟨?_,?_⟩
 ·rw [Below.heap_setCell _ _ _ _ h.ne,h.hp];simp
 ·simp only [World.setCell,Array.getElem?_modify,h.hb]
  simp [vals_set]
theorem But.setCell {b:Nat} {w w':World} (h:But b w w') (k:Nat) (v:Value):But b w (w'.setCell ⟨b,k,none⟩ v):=
 h.trans ⟨rfl,rfl,rfl,by simp,λ i _ hn=>Below.heap_setCell _ _ _ _ hn⟩
theorem But.alloc {b:Nat} {w w':World} (h:But b w w') (o:Obj):But b w (w'.alloc o):=
 h.trans (But.of_below ((Below.refl _ _).alloc (Nat.le_refl _) o))
def fill (n k:Nat):List Nat:=(List.range n).map λ i=>if i<k then i else 0
theorem fill_length (n k:Nat):(fill n k).length=n:=by simp [fill]
theorem fill_succ (n k:Nat):(fill n k).set k k=fill n (k+1):=by
 apply List.ext_getElem
 ·simp [fill]
 ·intro i h1 h2
  simp only [fill,List.getElem_set,List.getElem_map,List.getElem_range];by_cases e:k=i
  ·subst e;simp
  ·have:(i<k)=(i<k+1):=by apply propext;omega
   simp [e,this]
theorem fill_zero (n:Nat):fill n 0=List.replicate n 0:=by
 apply List.ext_getElem
 ·simp [fill]
 ·intro i h1 h2
  simp [fill]
theorem fill_all (n:Nat):fill n n=List.range n:=by
 apply List.ext_getElem
 ·simp [fill]
 ·intro i h1 h2
  simp [fill] at h1 ⊢;intro h;omega
theorem made_vals (n:Nat):madeCells #[Value.int .i64 0] n=vals (fill n 0):=by
 rw [fill_zero];apply Array.ext
 ·simp [madeCells,vals]
 ·intro i h1 h2
  simp [madeCells,vals,Nat.mod_one]
theorem strange_in (x:Int) (p b c:Nat) (L:List Nat) (w:World) (hs:SetsAt w p b L) (hc:w.cell? ⟨c,0,none⟩=some (.pointer (some ⟨p,0,none⟩))) (hx0:0<=x) (hx:x<(L.length:Int)):
 Calls Tryz.prog 310 #[.int .i64 x,.pointer (some ⟨c,0,none⟩)] w λ e w'=>e= .returned (.bool false)/\w'=w:=by
 have hp:=hs.pcell;have h0:¬(x<0):=by omega
 have h1:¬((L.length:Int)<=x):=by omega
 clear hs;go_enter Tryz.func310,Tryz.ntmps310;go_wp2;go_ret;exact ⟨rfl,rfl⟩
theorem strange_out (x:Int) (p b c:Nat) (L:List Nat) (w:World) (hs:SetsAt w p b L) (hc:w.cell? ⟨c,0,none⟩=some (.pointer (some ⟨p,0,none⟩))) (hx:x<0\/(L.length:Int)<=x):
 Calls Tryz.prog 310 #[.int .i64 x,.pointer (some ⟨c,0,none⟩)] w λ e w'=>e= .returned (.bool true)/\w'=w:=by
 have hp:=hs.pcell;clear hs;rcases hx with h | h
 ·go_enter Tryz.func310,Tryz.ntmps310
  go_wp2;go_ret;exact ⟨rfl,rfl⟩
 ·have h0:¬(x<0):=by omega
  go_enter Tryz.func310,Tryz.ntmps310;go_wp2;go_ret;exact ⟨rfl,rfl⟩
theorem index_in (N:List Int) (s p b c cap:Nat) (L:List Nat) (w:World) (hs:SetsAt w p b L) (hc:w.cell? ⟨c,0,none⟩=some (.pointer (some ⟨p,0,none⟩)))
 (hrow:∀i,i<N.length->w.cell? ⟨s,i,none⟩=some (.int .i64 (N.getD i 0))) (hl:N.length<=2) (hall:∀i,i<N.length->0<=N.getD i 0/\N.getD i 0<(L.length:Int)):
 Calls Tryz.prog 260 #[.slice (some ⟨s,0,none⟩) N.length cap,.func (.func 310) #[] #[.pointer (some ⟨c,0,none⟩)]] w λ e w'=>e= .returned (.int .i64 (-1))/\w'=w:=by
 go_enter Tryz.func260,Tryz.ntmps260;go_wp2_with fail;go_loop [5,8] (λ _ i=>∃k:Nat,k<=N.length/\i= .int .i64 k) (λ _ i=>N.length-(intOf i).toNat)
 case atStart=>exact ⟨0,Nat.zero_le _,rfl⟩
 case round=>
  obtain ⟨k,hk,rfl⟩:=hrel;by_cases hlt:k<N.length
  ·have hcell:=hrow k hlt
   have ha:=hall k hlt;generalize N.getD k 0=x at hcell ha;clear hrow hall;go_wp2_with fail;refine (strange_in x p b c L _ hs hc ha.1 ha.2).mono ?_;rintro e w' ⟨rfl,rfl⟩;go_wp2
   go_round
   case rel=>exact ⟨k+1,by omega,by go_num⟩
   case measure=>simp [intOf];omega
  ·go_wp2
   go_ret;exact ⟨rfl,rfl⟩
theorem index_out (N:List Int) (s p b c cap:Nat) (L:List Nat) (w:World) (hs:SetsAt w p b L) (hc:w.cell? ⟨c,0,none⟩=some (.pointer (some ⟨p,0,none⟩)))
 (hrow:∀i,i<N.length->w.cell? ⟨s,i,none⟩=some (.int .i64 (N.getD i 0))) (hl:N.length<=2) (j:Nat) (hj:j<N.length) (hstr:N.getD j 0<0\/(L.length:Int)<=N.getD j 0):
 Calls Tryz.prog 260 #[.slice (some ⟨s,0,none⟩) N.length cap,.func (.func 310) #[] #[.pointer (some ⟨c,0,none⟩)]] w λ e w'=>(∃k:Nat,e= .returned (.int .i64 (k:Int)))/\w'=w:=by
 go_enter Tryz.func260,Tryz.ntmps260;go_wp2_with fail;go_loop [5,8] (λ _ i=>∃k:Nat,k<=j/\i= .int .i64 k) (λ _ i=>N.length-(intOf i).toNat)
 case atStart=>exact ⟨0,Nat.zero_le _,rfl⟩
 case round=>
  obtain ⟨k,hk,rfl⟩:=hrel;have hlt:k<N.length:=by omega
  have hcell:=hrow k hlt;by_cases ha:0<=N.getD k 0/\N.getD k 0<(L.length:Int)
  ·have hkj:k≠j:=by rintro rfl;omega
   have hkj':k<j:=by omega
   clear hstr hrow hkj;generalize N.getD k 0=x at hcell ha;go_wp2_with fail;refine (strange_in x p b c L _ hs hc ha.1 ha.2).mono ?_;rintro e w' ⟨rfl,rfl⟩;go_wp2
   go_round
   case rel=>exact ⟨k+1,by omega,by go_num⟩
   case measure=>simp [intOf];omega
  ·clear hstr hrow
   generalize N.getD k 0=x at hcell ha;have hx:x<0\/(L.length:Int)<=x:=by omega
   clear ha;go_wp2_with fail;refine (strange_out x p b c L _ hs hc hx).mono ?_;rintro e w' ⟨rfl,rfl⟩;go_wp2;go_ret;exact ⟨⟨k,rfl⟩,rfl⟩
theorem contains_in (N:List Int) (s p b c cap:Nat) (L:List Nat) (w:World) (hs:SetsAt w p b L) (hc:w.cell? ⟨c,0,none⟩=some (.pointer (some ⟨p,0,none⟩)))
 (hrow:∀i,i<N.length->w.cell? ⟨s,i,none⟩=some (.int .i64 (N.getD i 0))) (hl:N.length<=2) (hall:∀i,i<N.length->0<=N.getD i 0/\N.getD i 0<(L.length:Int)):
 Calls Tryz.prog 311 #[.slice (some ⟨s,0,none⟩) N.length cap,.func (.func 310) #[] #[.pointer (some ⟨c,0,none⟩)]] w λ e w'=>e= .returned (.bool false)/\w'=w:=by
 go_enter Tryz.func311,Tryz.ntmps311;go_wp2_with fail;refine (index_in N s p b c cap L _ hs hc hrow hl hall).mono ?_;rintro e w' ⟨rfl,rfl⟩;clear hs hc hrow hall;go_wp2;go_ret;exact ⟨rfl,rfl⟩
theorem contains_out (N:List Int) (s p b c cap:Nat) (L:List Nat) (w:World) (hs:SetsAt w p b L) (hc:w.cell? ⟨c,0,none⟩=some (.pointer (some ⟨p,0,none⟩)))
 (hrow:∀i,i<N.length->w.cell? ⟨s,i,none⟩=some (.int .i64 (N.getD i 0))) (hl:N.length<=2) (j:Nat) (hj:j<N.length) (hstr:N.getD j 0<0\/(L.length:Int)<=N.getD j 0):
 Calls Tryz.prog 311 #[.slice (some ⟨s,0,none⟩) N.length cap,.func (.func 310) #[] #[.pointer (some ⟨c,0,none⟩)]] w λ e w'=>e= .returned (.bool true)/\w'=w:=by
 go_enter Tryz.func311,Tryz.ntmps311;go_wp2_with fail;refine (index_out N s p b c cap L _ hs hc hrow hl j hj hstr).mono ?_;rintro e w' ⟨⟨k,rfl⟩,rfl⟩;clear hs hc hrow hstr;have hk:(0:Int)<=(k:Int):=by omega
 go_wp2;go_ret;exact ⟨rfl,rfl⟩
end Go.Proofs.YtebcjaenhiiflaaGreatDoor.S
namespace Go.Proofs.YtebcjaenhiiflaaGreatDoor.S
open Go.RowKit
theorem hmf (fn:Fn) (first cap:Array Value) (w:World):(Instr.makeFunc fn first cap).run Tryz.prog w= .ok (.func fn first cap) w:=rfl
theorem sets_alloc {w:World} {p b:Nat} {L:List Nat} (h:SetsAt w p b L) (o:Obj):SetsAt (w.alloc o) p b L:=
 h.below ((Below.refl w.heap.size w).alloc (Nat.le_refl _) o) h.plt h.blt
theorem check_in (N:List Int) (s p b cap:Nat) (L:List Nat) (w:World) (hs:SetsAt w p b L)
 (hrow:∀i,i<N.length->w.cell? ⟨s,i,none⟩=some (.int .i64 (N.getD i 0))) (hsl:s<w.heap.size) (hl:N.length<=2) (hall:∀i,i<N.length->0<=N.getD i 0/\N.getD i 0<(L.length:Int)):
 Calls Tryz.prog 232 #[.pointer (some ⟨p,0,none⟩),.slice (some ⟨s,0,none⟩) N.length cap] w λ e w'=>e= .returned .nilIface/\w'=w.alloc (.cells #[.pointer (some ⟨p,0,none⟩)] 175):=by
 have hmf':=hmf;go_enter Tryz.func232,Tryz.ntmps232;go_wp2_with fail;refine (contains_in N s p b w.heap.size cap L _ (sets_alloc hs _) (by simp) (λ i hi=>?_) hl hall).mono ?_
 ·rw [World.cell?_alloc_lt _ _ _ hsl];exact hrow i hi
 ·rintro e w' ⟨rfl,rfl⟩
  clear hs hrow hall;go_wp2;go_ret;exact ⟨rfl,rfl⟩
theorem check_out (N:List Int) (s p b cap:Nat) (L:List Nat) (w:World) (hs:SetsAt w p b L)
 (hrow:∀i,i<N.length->w.cell? ⟨s,i,none⟩=some (.int .i64 (N.getD i 0))) (hsl:s<w.heap.size) (hl:N.length<=2) (j:Nat) (hj:j<N.length) (hstr:N.getD j 0<0\/(L.length:Int)<=N.getD j 0):
 Calls Tryz.prog 232 #[.pointer (some ⟨p,0,none⟩),.slice (some ⟨s,0,none⟩) N.length cap] w λ e w'=>e= .returned (.iface 23 (.int .i64 2))/\w'=w.alloc (.cells #[.pointer (some ⟨p,0,none⟩)] 175):=by
 have hmf':=hmf;go_enter Tryz.func232,Tryz.ntmps232;go_wp2_with fail;refine (contains_out N s p b w.heap.size cap L _ (sets_alloc hs _) (by simp) (λ i hi=>?_) hl j hj hstr).mono ?_
 ·rw [World.cell?_alloc_lt _ _ _ hsl];exact hrow i hi
 ·rintro e w' ⟨rfl,rfl⟩
  clear hs hrow hstr;go_wp2;go_ret;exact ⟨rfl,rfl⟩
theorem below_two (w:World) (o o':Obj):Below w.heap.size w ((w.alloc o).alloc o'):=
 ((Below.refl _ _).alloc (Nat.le_refl _) _).alloc (by simp) _
theorem check1_in (x:Int) (s p b cap:Nat) (L:List Nat) (w:World) (hs:SetsAt w p b L)
 (h0:w.cell? ⟨s,0,none⟩=some (.int .i64 x)) (hsl:s<w.heap.size) (hx0:0<=x) (hx:x<(L.length:Int)):
 Calls Tryz.prog 232 #[.pointer (some ⟨p,0,none⟩),.slice (some ⟨s,0,none⟩) 1 cap] w λ e w'=>e= .returned .nilIface/\w'=w.alloc (.cells #[.pointer (some ⟨p,0,none⟩)] 175):=by
 refine check_in [x] s p b cap L w hs (λ i hi=>?_) hsl (by simp) (λ i hi=>?_)
 ·have:i=0:=by simpa using hi
  subst this;simpa using h0
 ·have:i=0:=by simpa using hi
  subst this;exact ⟨hx0,hx⟩
theorem check2_in (x y:Int) (s p b cap:Nat) (L:List Nat) (w:World) (hs:SetsAt w p b L)
 (h0:w.cell? ⟨s,0,none⟩=some (.int .i64 x)) (h1:w.cell? ⟨s,1,none⟩=some (.int .i64 y)) (hsl:s<w.heap.size) (hx0:0<=x) (hx:x<(L.length:Int)) (hy0:0<=y) (hy:y<(L.length:Int)):
 Calls Tryz.prog 232 #[.pointer (some ⟨p,0,none⟩),.slice (some ⟨s,0,none⟩) 2 cap] w λ e w'=>e= .returned .nilIface/\w'=w.alloc (.cells #[.pointer (some ⟨p,0,none⟩)] 175):=by
 refine check_in [x,y] s p b cap L w hs (λ i hi=>?_) hsl (by simp) (λ i hi=>?_)
 ·have:i=0\/i=1:=by simp at hi;omega
  rcases this with rfl | rfl
  ·simpa using h0
  ·simpa using h1
 ·have:i=0\/i=1:=by simp at hi;omega
  rcases this with rfl | rfl
  ·exact ⟨hx0,hx⟩
  ·exact ⟨hy0,hy⟩
theorem check2_out (x y:Int) (s p b cap:Nat) (L:List Nat) (w:World) (hs:SetsAt w p b L)
 (h0:w.cell? ⟨s,0,none⟩=some (.int .i64 x)) (h1:w.cell? ⟨s,1,none⟩=some (.int .i64 y)) (hsl:s<w.heap.size) (hx:(x<0\/(L.length:Int)<=x)\/(y<0\/(L.length:Int)<=y)):
 Calls Tryz.prog 232 #[.pointer (some ⟨p,0,none⟩),.slice (some ⟨s,0,none⟩) 2 cap] w λ e w'=>e= .returned (.iface 23 (.int .i64 2))/\w'=w.alloc (.cells #[.pointer (some ⟨p,0,none⟩)] 175):=by
 have hrow:∀i,i<[x,y].length->w.cell? ⟨s,i,none⟩=some (.int .i64 ([x,y].getD i 0)):=by
  intro i hi;have:i=0\/i=1:=by simp at hi;omega
  rcases this with rfl | rfl
  ·simpa using h0
  ·simpa using h1
 rcases hx with hx | hx
 ·exact check_out [x,y] s p b cap L w hs hrow hsl (by simp) 0 (by simp) hx
 ·exact check_out [x,y] s p b cap L w hs hrow hsl (by simp) 1 (by simp) hx
theorem least_in (x:Int) (p b:Nat) (L:List Nat) (w:World) (hs:SetsAt w p b L) (hx0:0<=x) (hx:x<(L.length:Int)):
 Calls Tryz.prog 247 #[.pointer (some ⟨p,0,none⟩),.int .i64 x] w λ e w'=>e= .returned (.tuple #[.int .i64 ((L.getD x.toNat 0:Nat):Int),.nilIface])/\Below w.heap.size w w':=by
 obtain ⟨x,rfl⟩:=Int.eq_ofNat_of_zero_le hx0;rw [Int.toNat_natCast];go_enter Tryz.func247,Tryz.ntmps247;go_wp2_with fail;refine (check1_in (x:Int) w.heap.size p b 1 L _ (sets_alloc hs _) (by simp) (by simp) hx0 hx).mono ?_;rintro e w' ⟨rfl,rfl⟩;have hs2:=sets_alloc (sets_alloc hs (Obj.cells #[Value.int IntKind.i64 ↑x] 3)) (Obj.cells #[Value.pointer (some {block:=p,off:=0})] 175);have hb:=below_two w (Obj.cells #[Value.int IntKind.i64 ↑x] 3) (Obj.cells #[Value.pointer (some {block:=p,off:=0})] 175);generalize (w.alloc (Obj.cells #[Value.int IntKind.i64 ↑x] 3)).alloc (Obj.cells #[Value.pointer (some {block:=p,off:=0})] 175)=W at hs2 hb ⊢;have hp:=hs2.pcell;have hc:=hs2.bcell x (by omega);have HB:Hid (Below w.heap.size w W):=hb;clear hs hs2 hb;generalize hy:L.getD x 0=y at hc;have HY:Hid (L.getD x 0=y):=hy;clear hy;go_wp2;go_ret2;exact ⟨by rw [HY.out];rfl,HB.out⟩
end Go.Proofs.YtebcjaenhiiflaaGreatDoor.S
namespace Go.Proofs.YtebcjaenhiiflaaGreatDoor.S
open Go.RowKit
theorem sets_drewN {w:World} {p b:Nat} {L:List Nat} (h:SetsAt w p b L) (n:Nat):SetsAt (w.drewN n) p b L:=⟨h.hp,h.hb⟩
theorem drewN_drewN (w:World) (n m:Nat):(w.drewN n).drewN m=w.drewN (n+m):=by simp [World.drewN,Nat.add_assoc]
def cnt (f:Nat->Bool):Nat->Nat
 | 0=>0
 | k+1=>cnt f k+if f k then 1 else 0
theorem cnt_le (f:Nat->Bool):∀k,cnt f k<=k
 | 0=>Nat.le_refl _
 | k+1=>by have:=cnt_le f k;simp only [cnt];split <;> omega
end Go.Proofs.YtebcjaenhiiflaaGreatDoor.S
namespace Go.Proofs.YtebcjaenhiiflaaGreatDoor.S
open Go.RowKit
theorem Tryz.info3:(Tryz.prog.info? 3).map (λ i=>(i.zero,i.size,i.bytes))=some (some (.int .i64 0),1,8):=by kernel_rfl
theorem heap_alloc_new (w:World) (o:Obj):(w.alloc o).heap[w.heap.size]? =some o:=by
 show (w.heap.push o)[w.heap.size]? =_;rw [Array.getElem?_push,if_pos rfl]
theorem new_start (w:World) (n:Nat):SetsAt ((w.alloc (.cells (madeCells #[.int .i64 0] n) 3)).alloc (.cells #[.slice (some ⟨w.heap.size,0,none⟩) n n] 268)) (w.heap.size+1) w.heap.size (fill n 0):=by
 refine ⟨?_,?_⟩
 ·have:=heap_alloc_new (w.alloc (.cells (madeCells #[.int .i64 0] n) 3)) (.cells #[.slice (some ⟨w.heap.size,0,none⟩) n n] 268)
  rw [World.size_alloc] at this;rw [this,fill_length]
 ·rw [Below.heap_alloc _ _ _ (by simp),heap_alloc_new,made_vals]
theorem new_in (n:Nat) (w:World) (hn:n<=40):
 Calls Tryz.prog 224 #[.int .i64 (n:Int)] w λ e w'=>e= .returned (.tuple #[.pointer (some ⟨w.heap.size+1,0,none⟩),.nilIface])/\SetsAt w' (w.heap.size+1) w.heap.size (List.range n)/\Below w.heap.size w w':=by
 have hmk:=λ W=>run_make_row' (P:=Tryz.prog) 48 3 (.int .i64 0) 8 Tryz.underlying48 Tryz.info3 rfl .i64 .i64 n (by omega) (by omega) W
 have h0:¬((n:Int)<0):=by omega
 have h1:¬((40:Int)<(n:Int)):=by omega
 go_enter Tryz.func224,Tryz.ntmps224;go_wp2_with fail;go_loopw [5,22] (λ _ i wr=>∃k:Nat,k<=n/\i= .int .i64 k/\SetsAt wr (w.heap.size+1) w.heap.size (fill n k)/\Below w.heap.size w wr) (λ _ i _=>n-(intOf i).toNat)
 case atStart=>exact ⟨0,Nat.zero_le _,rfl,new_start w n,below_two w _ _⟩
 case round=>
  obtain ⟨k,hk,rfl,hs,hb⟩:=hrel;clear hmk;by_cases hlt:k<n
  ·have hp:=hs.pcell
   have hc:=hs.bcell k (by rw [fill_length];exact hlt);have hf:=hs.bfrozen k;have hs':=hs.set k k;rw [fill_succ] at hs';have HS:Hid (SetsAt (wr.setCell ⟨w.heap.size,k,none⟩ (.int .i64 (k:Int))) (w.heap.size+1) w.heap.size (fill n (k+1))):=hs';have HB:Hid (Below w.heap.size w (wr.setCell ⟨w.heap.size,k,none⟩ (.int .i64 (k:Int)))):=hb.setCell (Nat.le_refl _) _;rw [fill_length] at hp;clear hs hs' hb;generalize (fill n k).getD k 0=z at hc;go_wp2;go_roundw;case rel=>exact ⟨k+1,by omega,by go_num,HS.out,HB.out⟩
   case measure=>simp [intOf];omega
  ·have hke:k=n:=by omega
   subst hke;rw [fill_all] at hs;have HS:Hid (SetsAt wr (w.heap.size+1) w.heap.size (List.range k)):=hs;have HB:Hid (Below w.heap.size w wr):=hb;clear hs hb;go_wp2;go_ret2;exact ⟨rfl,HS.out,HB.out⟩
end Go.Proofs.YtebcjaenhiiflaaGreatDoor.S
namespace Go.Proofs.YtebcjaenhiiflaaGreatDoor.S
open Go.RowKit
def named (lo hi l:Nat):Nat:=if l=hi then lo else l
def part (L:List Nat) (lo hi k:Nat):List Nat:=((L.take k).map (named lo hi))++L.drop k
def joinL (L:List Nat) (x y:Nat):List Nat:=L.map (named (min (L.getD x 0) (L.getD y 0)) (max (L.getD x 0) (L.getD y 0)))
theorem part_length (L:List Nat) (lo hi k:Nat):(part L lo hi k).length=L.length:=by simp [part];omega
theorem part_zero (L:List Nat) (lo hi:Nat):part L lo hi 0=L:=by simp [part]
theorem part_all (L:List Nat) (lo hi:Nat):part L lo hi L.length=L.map (named lo hi):=by simp [part]
theorem part_at (L:List Nat) (lo hi k:Nat) (h:k<L.length):(part L lo hi k).getD k 0=L.getD k 0:=by
 simp [part,List.getD_eq_getElem?_getD,List.getElem?_append_right,Nat.min_eq_left (Nat.le_of_lt h)]
theorem part_succ (L:List Nat) (lo hi k:Nat) (h:k<L.length):part L lo hi (k+1)=(part L lo hi k).set k (named lo hi (L.getD k 0)):=by
 have e:L.drop k=L.getD k 0::L.drop (k+1):=by
  rw [List.drop_eq_getElem_cons h];simp [h]
 unfold part;rw [List.take_succ_eq_append_getElem h,e,List.set_append_right _ _ (by simp;omega)];rw [List.map_append,List.append_assoc]
 congr 1
 have e2:k-(List.map (named lo hi) (List.take k L)).length=0:=by simp;omega
 have e3:L.getD k 0=L[k]:=by simp [h]
 rw [e2,e3];rfl
theorem part_hit (L:List Nat) (lo hi k:Nat) (h:k<L.length) (e:L.getD k 0=hi):part L lo hi (k+1)=(part L lo hi k).set k lo:=by
 rw [part_succ L lo hi k h,named,if_pos e]
theorem part_miss (L:List Nat) (lo hi k:Nat) (h:k<L.length) (e:L.getD k 0≠hi):part L lo hi (k+1)=part L lo hi k:=by
 rw [part_succ L lo hi k h,named,if_neg e,<-part_at L lo hi k h];apply List.ext_getElem
 ·simp
 ·intro i h1 h2
  rw [List.getElem_set];split
  ·next e=>subst e;simp [h2]
  ·rfl
theorem joinL_same (L:List Nat) (x y:Nat) (e:L.getD x 0=L.getD y 0):joinL L x y=L:=by
 unfold joinL;rw [<-e,Nat.min_self,Nat.max_self];conv=>rhs;rw [<-List.map_id L]
 apply List.map_congr_left;intro l _;simp [named];intro h;exact h.symm
theorem join_in (x y p b:Nat) (L:List Nat) (w:World) (hs:SetsAt w p b L) (hx:x<L.length) (hy:y<L.length) (hlen:L.length<=40):
 Calls Tryz.prog 119 #[.pointer (some ⟨p,0,none⟩),.int .i64 (x:Int),.int .i64 (y:Int)] w λ e w'=>e= .returned (.tuple #[.bool (decide (L.getD x 0≠L.getD y 0)),.nilIface])/\SetsAt w' p b (joinL L x y)/\But b w w':=by
 go_enter Tryz.func119,Tryz.ntmps119;go_wp2_with fail;refine (check2_in (x:Int) (y:Int) w.heap.size p b 2 L _ (sets_alloc hs _) ?c1 ?c2 ?c3 (by omega) (by omega) (by omega) (by omega)).mono ?_;case c1=>simp
 case c2=>simp
 case c3=>simp
 rintro e w' ⟨rfl,rfl⟩;have hs2:=sets_alloc (sets_alloc hs (Obj.cells #[Value.int IntKind.i64 ↑x,Value.int IntKind.i64 ↑y] 3)) (Obj.cells #[Value.pointer (some {block:=p,off:=0})] 175);have hb:=below_two w (Obj.cells #[Value.int IntKind.i64 ↑x,Value.int IntKind.i64 ↑y] 3) (Obj.cells #[Value.pointer (some {block:=p,off:=0})] 175);generalize (w.alloc (Obj.cells #[Value.int IntKind.i64 ↑x,Value.int IntKind.i64 ↑y] 3)).alloc (Obj.cells #[Value.pointer (some {block:=p,off:=0})] 175)=W at hs2 hb ⊢;have HB:Hid (But b w W):=But.of_below hb;clear hb hs;have hp:=hs2.pcell;have hcx:=hs2.bcell x hx;have hcy:=hs2.bcell y hy;have HX:=(show Hid (∃X,L.getD x 0=X) from ⟨_,rfl⟩);generalize hX:L.getD x 0=X at hcx;generalize hY:L.getD y 0=Y at hcy;have HX:Hid (L.getD x 0=X):=hX;have HY:Hid (L.getD y 0=Y):=hY;clear hX hY;have HS:Hid (SetsAt W p b L):=hs2;clear hs2;rcases Nat.lt_trichotomy X Y with hlt | heq | hgt
 ·have h1:(X:Int)<(Y:Int):=by omega
  have hne:((Y:Int)==(X:Int))=false:=beq_eq_false_iff_ne.2 (by omega);have hne':((X:Int)==(Y:Int))=false:=beq_eq_false_iff_ne.2 (by omega);have HJ:Hid (joinL L x y=L.map (named X Y)):=by
   show joinL L x y=_;unfold joinL;rw [HX.out,HY.out,Nat.min_eq_left (by omega),Nat.max_eq_right (by omega)]
  have HN:Hid (L.getD x 0≠L.getD y 0):=by
   show L.getD x 0≠L.getD y 0;rw [HX.out,HY.out];omega
  clear HX HY;go_wp2_with fail;go_quiet (fail);clear hcx hcy;go_wp2_with fail;have HB2:Hid (But b w (W.drewN nq)):=HB.out.trans (But.of_below (below_drewN (Below.refl _ _) nq));have HS2:Hid (SetsAt (W.drewN nq) p b L):=sets_drewN HS.out nq;clear HB HS;generalize W.drewN nq=V at*;clear hp;go_loopw [11,12,59] (λ _ _ i wr=>∃k:Nat,k<=L.length/\i= .int .i64 k/\SetsAt wr p b (part L X Y k)/\But b w wr) (λ _ _ i _=>L.length-(intOf i).toNat)
  case atStart=>exact ⟨0,Nat.zero_le _,rfl,by rw [part_zero];exact HS2.out,HB2.out⟩
  case round=>
   obtain ⟨k,hk,rfl,hs,hb⟩:=hrel;by_cases hlt:k<L.length
   ·have hp:=hs.pcell
    have hc:=hs.bcell k (by rw [part_length];exact hlt);have hf:=hs.bfrozen k;rw [part_length] at hp;rw [part_at _ _ _ _ hlt] at hc;by_cases hz:L.getD k 0=Y
    ·have HS:Hid (SetsAt (wr.setCell ⟨b,k,none⟩ (.int .i64 (X:Int))) p b (part L X Y (k+1))):=by
      have:=hs.set k X;rw [<-part_hit L X Y k hlt hz] at this;exact this
     have HB:Hid (But b w (wr.setCell ⟨b,k,none⟩ (.int .i64 (X:Int)))):=hb.setCell _ _;rw [hz] at hc;clear hs hb hz;go_wp2;go_roundw;case rel=>exact ⟨k+1,by omega,by go_num,HS.out,HB.out⟩
     case measure=>simp [intOf];omega
    ·have HS:Hid (SetsAt wr p b (part L X Y (k+1))):=by
      show SetsAt wr p b (part L X Y (k+1));rw [part_miss L X Y k hlt hz];exact hs
     have HB:Hid (But b w wr):=hb;generalize L.getD k 0=z at hc hz;have hzb:((z:Int)==(Y:Int))=false:=beq_eq_false_iff_ne.2 (by omega);clear hs hb hz;go_wp2;go_roundw;case rel=>exact ⟨k+1,by omega,by go_num,HS.out,HB.out⟩
     case measure=>simp [intOf];omega
   ·have hke:k=L.length:=by omega
    subst hke;rw [part_all,<-HJ.out] at hs;have HS:Hid (SetsAt wr p b (joinL L x y)):=hs;have HB:Hid (But b w wr):=hb;clear hs hb;go_wp2;go_ret2;exact ⟨by rw [decide_eq_true HN.out];rfl,HS.out,HB.out⟩
 ·subst heq
  have HJ:Hid (joinL L x y=L):=joinL_same L x y (HX.out.trans HY.out.symm);have HN:Hid (L.getD x 0=L.getD y 0):=HX.out.trans HY.out.symm;clear HX HY;go_wp2_with fail;go_quiet (fail);clear hcx hcy;go_wp2_with fail;go_ret2;exact ⟨by rw [HN.out];simp,by rw [HJ.out];exact sets_drewN HS.out nq,HB.out.trans (But.of_below (below_drewN (Below.refl _ _) nq))⟩
 ·have h1:(Y:Int)<(X:Int):=by omega
  have hne:((X:Int)==(Y:Int))=false:=beq_eq_false_iff_ne.2 (by omega);have hne':((Y:Int)==(X:Int))=false:=beq_eq_false_iff_ne.2 (by omega);have HJ:Hid (joinL L x y=L.map (named Y X)):=by
   show joinL L x y=_;unfold joinL;rw [HX.out,HY.out,Nat.min_eq_right (by omega),Nat.max_eq_left (by omega)]
  have HN:Hid (L.getD x 0≠L.getD y 0):=by
   show L.getD x 0≠L.getD y 0;rw [HX.out,HY.out];omega
  clear HX HY;go_wp2_with fail;go_quiet (fail);clear hcx hcy;go_wp2_with fail;have HB2:Hid (But b w (W.drewN nq)):=HB.out.trans (But.of_below (below_drewN (Below.refl _ _) nq));have HS2:Hid (SetsAt (W.drewN nq) p b L):=sets_drewN HS.out nq;clear HB HS;generalize W.drewN nq=V at*;clear hp;go_loopw [11,12,59] (λ _ _ i wr=>∃k:Nat,k<=L.length/\i= .int .i64 k/\SetsAt wr p b (part L Y X k)/\But b w wr) (λ _ _ i _=>L.length-(intOf i).toNat)
  case atStart=>exact ⟨0,Nat.zero_le _,rfl,by rw [part_zero];exact HS2.out,HB2.out⟩
  case round=>
   obtain ⟨k,hk,rfl,hs,hb⟩:=hrel;by_cases hlt:k<L.length
   ·have hp:=hs.pcell
    have hc:=hs.bcell k (by rw [part_length];exact hlt);have hf:=hs.bfrozen k;rw [part_length] at hp;rw [part_at _ _ _ _ hlt] at hc;by_cases hz:L.getD k 0=X
    ·have HS:Hid (SetsAt (wr.setCell ⟨b,k,none⟩ (.int .i64 (Y:Int))) p b (part L Y X (k+1))):=by
      have:=hs.set k Y;rw [<-part_hit L Y X k hlt hz] at this;exact this
     have HB:Hid (But b w (wr.setCell ⟨b,k,none⟩ (.int .i64 (Y:Int)))):=hb.setCell _ _;rw [hz] at hc;clear hs hb hz;go_wp2;go_roundw;case rel=>exact ⟨k+1,by omega,by go_num,HS.out,HB.out⟩
     case measure=>simp [intOf];omega
    ·have HS:Hid (SetsAt wr p b (part L Y X (k+1))):=by
      show SetsAt wr p b (part L Y X (k+1));rw [part_miss L Y X k hlt hz];exact hs
     have HB:Hid (But b w wr):=hb;generalize L.getD k 0=z at hc hz;have hzb:((z:Int)==(X:Int))=false:=beq_eq_false_iff_ne.2 (by omega);clear hs hb hz;go_wp2;go_roundw;case rel=>exact ⟨k+1,by omega,by go_num,HS.out,HB.out⟩
     case measure=>simp [intOf];omega
   ·have hke:k=L.length:=by omega
    subst hke;rw [part_all,<-HJ.out] at hs;have HS:Hid (SetsAt wr p b (joinL L x y)):=hs;have HB:Hid (But b w wr):=hb;clear hs hb;go_wp2;go_ret2;exact ⟨by rw [decide_eq_true HN.out];rfl,HS.out,HB.out⟩
end Go.Proofs.YtebcjaenhiiflaaGreatDoor.S
namespace Go.Proofs.YtebcjaenhiiflaaGreatDoor.S
open Go.RowKit Go.WideMaps Go.Maps
open Go.ChangeShapes (lits)
def ints (l:List Nat):List Int:=l.map λ i:Nat=>(i:Int)
theorem ints_append (a b:List Nat):ints (a++b)=ints a++ints b:=by simp [ints]
theorem ints_length (a:List Nat):(ints a).length=a.length:=by simp [ints]
def grp (L:List Nat) (k y:Nat):List Nat:=(List.range k).filter λ i=>L.getD i 0==y
theorem grp_succ_same (L:List Nat) (k:Nat):grp L (k+1) (L.getD k 0)=grp L k (L.getD k 0)++[k]:=by
 simp [grp,List.range_succ]
theorem grp_succ_other (L:List Nat) (k y:Nat) (h:L.getD k 0≠y):grp L (k+1) y=grp L k y:=by
 have hb:(L.getD k 0==y)=false:=beq_eq_false_iff_ne.2 h;unfold grp;rw [List.range_succ,List.filter_append,List.filter_cons,hb];simp
def gInv (L:List Nat) (k:Nat) (D:DataW Unit):Prop:=
 IsMap D/\∀(y:Nat) (zd:DataW Unit),D.atKey (.int .i64 (y:Int)) zd=if grp L k y=[] then zd else .slice (lits .i64 (ints (grp L k y))) []
theorem lits_inj {a b:List Int} (h:(lits .i64 a:List (DataW Unit))=lits .i64 b):a=b:=by
 unfold lits at h;exact (List.map_inj_right (λ x y hxy=>by cases hxy;rfl)).1 h
theorem gInv_start (L:List Nat):gInv L 0 (.map []):=⟨isMap_empty,λ y zd=>by simp [grp];rfl⟩
theorem gInv_found {L:List Nat} {k y:Nat} {D:DataW Unit} (h:gInv L k D) {w:World} {base:Nat} {e:TypeId} {v:Value} {zs:List Int} (ho:w.ownsInts base e .i64 v zs)
 (hat:D.atKey (.int .i64 (y:Int)) .nil=rowDatum .i64 v zs):zs=ints (grp L k y):=by
 rw [h.2] at hat;split at hat
 ·next hg=>
  rw [hg];rcases ho.datum (H:=Unit) with ⟨_,h2⟩ | h2
  ·exact h2
  ·rw [h2] at hat;cases hat
 ·next hg=>
  rcases ho.datum (H:=Unit) with ⟨h1,_⟩ | h2
  ·rw [h1] at hat;cases hat
  ·rw [h2] at hat
   injection hat with h3 _
   exact (lits_inj h3).symm
theorem gInv_step {L:List Nat} {k:Nat} {D:DataW Unit} (h:gInv L k D) {w w1:World} {base:Nat} {e:TypeId} {v v':Value} {zs:List Int} (ho:w.ownsInts base e .i64 v zs)
 (hat:D.atKey (.int .i64 ((L.getD k 0:Nat):Int)) .nil=rowDatum .i64 v zs) (ho':w1.ownsInts base e .i64 v' (zs++[(k:Int)])):
 gInv L (k+1) (D.put (.int .i64 ((L.getD k 0:Nat):Int)) (rowDatum .i64 v' (zs++[(k:Int)]))):=by
 have hz:=gInv_found h ho hat;refine ⟨h.1.put _ _,λ y zd=>?_⟩;by_cases e:L.getD k 0=y
 ·subst e
  rw [atKey_put_same h.1 (by trivial),grp_succ_same,if_neg (by simp),ho'.datum_pos (by simp),hz,ints_append];rfl
 ·have hne:Lit.int .i64 (y:Int)≠Lit.int .i64 ((L.getD k 0:Nat):Int):=λ h=>e (by injection h with _ h2;omega)
  rw [atKey_put_other hne,h.2,grp_succ_other L k y e]
theorem look_later {P:Program} {wl wr:World} {t k E base e b n:Nat} {D:DataW Unit} {key:Value} {kl:Lit} (hg:wl.ownsGroups P k base e .i64 b n D) (hb:Below wl.heap.size wl wr)
 (K:Keyed P k) (ht:P.underlying t=some (.map k E)) (hz:(zeroValue E).run P wr= .ok (.slice none 0 0) wr) (hkey:keyOf P k key=some kl):
 ((Instr.lookup t (.map (some b)) key true).run P wr= .ok (.tuple #[.slice none 0 0,.bool false]) wr/\∀zd,D.atKey kl zd=zd)\/
 ∃v zs,(Instr.lookup t (.map (some b)) key true).run P wr= .ok (.tuple #[v,.bool true]) wr/\wl.ownsInts base e .i64 v zs/\∀zd,D.atKey kl zd=rowDatum .i64 v zs:=by
 obtain ⟨es,clock,hh,F,hs,rfl,hbb,hlen,hap⟩:=hg;have hh':wr.heap[b]? =some (.map es clock):=(hb.block b (lt_of_some hh)).trans hh;rcases Maps.fit_look true K ht hz hh' F hkey with ⟨hrun,_,hat⟩ | ⟨e0,y,hm0,h3,hrun,hR,hat,_⟩
 ·exact Or.inl ⟨by simpa using hrun,hat⟩
 ·obtain ⟨zs,ho,rfl⟩:=rowElem_inv hR
  exact Or.inr ⟨e0.val,zs,by simpa using hrun,ho,hat⟩
theorem look_none {P:Program} {wl wr:World} {t k E base e b n m y:Nat} {L:List Nat} {D:DataW Unit} (hg:wl.ownsGroups P k base e .i64 b n D) (hD:gInv L m D) (hb:Below wl.heap.size wl wr)
 (K:Keyed P k) (ht:P.underlying t=some (.map k E)) (hz:(zeroValue E).run P wr= .ok (.slice none 0 0) wr) (hkey:keyOf P k (.int .i64 (y:Int))=some (.int .i64 (y:Int))) (hy:grp L m y=[]):
 (Instr.lookup t (.map (some b)) (.int .i64 (y:Int)) true).run P wr= .ok (.tuple #[.slice none 0 0,.bool false]) wr:=by
 rcases look_later hg hb K ht hz hkey with ⟨hrun,_⟩ | ⟨v,zs,_,_,hat⟩
 ·exact hrun
 ·have h1:=hat .nil
  have h2:=hat (.map []);rw [hD.2,if_pos hy] at h1 h2;rw [<-h1] at h2;cases h2
theorem look_some {P:Program} {wl wr:World} {t k E base e b n m y:Nat} {L:List Nat} {D:DataW Unit} (hg:wl.ownsGroups P k base e .i64 b n D) (hD:gInv L m D) (hb:Below wl.heap.size wl wr)
 (K:Keyed P k) (ht:P.underlying t=some (.map k E)) (hz:(zeroValue E).run P wr= .ok (.slice none 0 0) wr) (hkey:keyOf P k (.int .i64 (y:Int))=some (.int .i64 (y:Int))) (hy:grp L m y≠[]):
 ∃r c,(Instr.lookup t (.map (some b)) (.int .i64 (y:Int)) true).run P wr= .ok (.tuple #[.slice (some ⟨r,0,none⟩) (grp L m y).length c,.bool true]) wr/\wl.ownsInts base e .i64 (.slice (some ⟨r,0,none⟩) (grp L m y).length c) (ints (grp L m y)):=by
 rcases look_later hg hb K ht hz hkey with ⟨_,hat⟩ | ⟨v,zs,hrun,ho,hat⟩
 ·have h1:=hat .nil
  rw [hD.2,if_neg hy] at h1;cases h1
 ·have hzs:=gInv_found hD ho (hat .nil)
  subst hzs;rcases ho.1.2 with ⟨_,h0⟩ | ⟨g,cap,cur,rfl,_⟩
  ·rw [ints_length] at h0
   exact absurd (List.length_eq_zero_iff.1 h0) hy
  ·rw [ints_length] at hrun ho
   exact ⟨g,cap,hrun,ho⟩
def grps (L:List Nat) (k:Nat):List (List Nat):=((List.range k).map (grp L L.length)).filter λ l=>!l.isEmpty
theorem grps_succ_none (L:List Nat) (k:Nat) (h:grp L L.length k=[]):grps L (k+1)=grps L k:=by
 simp [grps,List.range_succ,h]
theorem grps_succ_some (L:List Nat) (k:Nat) (h:grp L L.length k≠[]):grps L (k+1)=grps L k++[grp L L.length k]:=by
 simp [grps,List.range_succ,h]
theorem grps_le (L:List Nat) (k:Nat):(grps L k).length<=k:=by
 unfold grps;refine Nat.le_trans (List.length_filter_le _ _) ?_;simp
def rowsAre (wl:World) (base:Nat) (vs:List Value) (Gs:List (List Nat)):Prop:=
 vs.length=Gs.length/\∀i,i<Gs.length->∃r c,vs[i]? =some (.slice (some ⟨r,0,none⟩) (Gs.getD i []).length c)/\wl.ownsInts base 3 .i64 (.slice (some ⟨r,0,none⟩) (Gs.getD i []).length c) (ints (Gs.getD i []))
theorem rowsAre_snoc {wl:World} {base:Nat} {vs:List Value} {Gs:List (List Nat)} (h:rowsAre wl base vs Gs) {r c:Nat} {G:List Nat} (ho:wl.ownsInts base 3 .i64 (.slice (some ⟨r,0,none⟩) G.length c) (ints G)):
 rowsAre wl base (vs++[.slice (some ⟨r,0,none⟩) G.length c]) (Gs++[G]):=by
 have hl:=h.1;refine ⟨by simp [hl],λ i hi=>?_⟩;by_cases e:i<Gs.length
 ·obtain ⟨r',c',h1,h2⟩:=h.2 i e
  have e1:(Gs++[G]).getD i []=Gs.getD i []:=by simp [List.getElem?_append_left e]
  rw [e1];exact ⟨r',c',by rw [List.getElem?_append_left (by omega)];exact h1,h2⟩
 ·have e2:i=Gs.length:=by simp at hi;omega
  subst e2;have e1:(Gs++[G]).getD Gs.length []=G:=by simp
  rw [e1];exact ⟨r,c,by rw [List.getElem?_append_right (by omega),h.1];simp,ho⟩
def AllAt (w:World) (v:Value) (Gs:List (List Nat)):Prop:=
 ∃g cap,v= .slice (some ⟨g,0,none⟩) Gs.length cap/\∀i,i<Gs.length->∃r c,w.cell? ⟨g,i,none⟩=some (.slice (some ⟨r,0,none⟩) (Gs.getD i []).length c)/\∀j,j<(Gs.getD i []).length->w.cell? ⟨r,j,none⟩=some (.int .i64 (((Gs.getD i []).getD j 0:Nat):Int))
theorem lt_of_cell {w:World} {k i:Nat} {v:Value} (h:w.cell? ⟨k,i,none⟩=some v):k<w.heap.size:=by
 rcases Nat.lt_or_ge k w.heap.size with h' | h'
 ·exact h'
 ·simp [World.cell?,Array.getElem?_eq_none h'] at h
theorem AllAt.below {w w':World} {v:Value} {Gs:List (List Nat)} (h:AllAt w v Gs) (hb:Below w.heap.size w w'):AllAt w' v Gs:=by
 obtain ⟨g,cap,hv,h⟩:=h;refine ⟨g,cap,hv,λ i hi=>?_⟩;obtain ⟨r,c,h1,h2⟩:=h i hi;refine ⟨r,c,(hb.cell (p:=⟨g,i,none⟩) (lt_of_cell h1)).trans h1,λ j hj=>(hb.cell (p:=⟨r,j,none⟩) (lt_of_cell (h2 j hj))).trans (h2 j hj)⟩
theorem allAt_of {wl wr:World} {base M:Nat} {v:Value} {vs:List Value} {Gs:List (List Nat)} (hr:rowsAre wl base vs Gs) (ho:wr.ownsRow M 48 1 v vs.length vs) (hv:v≠ .slice none 0 0) (hb:Below wl.heap.size wl wr):AllAt wr v Gs:=by
 rcases ho.2 with ⟨h0,_⟩ | ⟨g,cap,cur,rfl,_⟩
 ·exact absurd h0 hv
 ·refine ⟨g,cap,by rw [hr.1],λ i hi=>?_⟩
  obtain ⟨r,c,h1,h2⟩:=hr.2 i hi;refine ⟨r,c,?_,λ j hj=>?_⟩
  ·rw [ho.cellAt i (by rw [hr.1];omega)];exact h1
  ·have hlt:=(h2.1.lt r rfl).2
   have h3:=h2.1;rw [ints_length] at h3;rw [hb.cell (p:=⟨r,j,none⟩) hlt,h3.cellAt j (by omega)];clear h1 h2 h3;generalize Gs.getD i []=G at*;simp [ints,hj]
end Go.Proofs.YtebcjaenhiiflaaGreatDoor.S
namespace Go.Proofs.YtebcjaenhiiflaaGreatDoor.S
open Go.RowKit Go.WideMaps Go.Maps
theorem zero48 (w:World):(zeroValue 48).run Tryz.prog w= .ok (.slice none 0 0) w:=by kernel_rfl
theorem law3:Keyed Tryz.prog 3:=int_keyed Tryz.underlying3
theorem Tryz.info48:(Tryz.prog.info? 48).map (λ i=>(i.zero,i.size,i.bytes))=some (some (.slice none 0 0),1,24):=by kernel_rfl
theorem key_small (y:Nat) (h:y<=1000000):keyOf Tryz.prog 3 (.int .i64 (y:Int))=some (.int .i64 (y:Int)):=keyOf_int_mk Tryz.underlying3 (WalkArith.wf_i64 (by omega))
theorem len_groups {w:World} {t k E base e b n:Nat} {D:DataW Unit} (h:w.ownsGroups Tryz.prog k base e .i64 b n D) (ht:Tryz.prog.underlying t=some (.map k E)):∃m:Nat,m<=n/\∀ty,(Builtin.len_ #[t] ty #[.map (some b)]).run Tryz.prog w= .ok (.int .i64 (m:Int)) w:=by
 obtain ⟨es,clock,hb,F,hs,rfl,_⟩:=h;exact ⟨es.size,hs,λ ty=>by simp [Builtin.len_,run_underlying ht,MapKept.run_getObj_map hb,goInt,Result.andThen]⟩
theorem one_slice (a:Option Addr) (n c:Nat):∀u∈[Value.slice a n c],u.oneCell'=true:=by
 intro u hu;simp at hu;subst hu;rfl
theorem all_any (p b:Nat) (L:List Nat) (w:World) (hs:SetsAt w p b L) (hlen:L.length<=40) (hL:∀i,i<L.length->L.getD i 0<=1000000):
 Calls Tryz.prog 143 #[.pointer (some ⟨p,0,none⟩)] w λ e w'=>∃v,e= .returned v/\AllAt w' v (grps L L.length)/\Below w.heap.size w w':=by
 have hmm:=@run_makeMap Tryz.prog;obtain ⟨i0,hi,hz0,hz1,hz2⟩:=info_parts Tryz.info3;have hp:=hs.pcell;have hpl:=hs.plt;have hp':(w.alloc (.map #[] 0)).cell? ⟨p,0,none⟩=some (.slice (some ⟨b,0,none⟩) L.length L.length):=by rw [World.cell?_alloc_lt _ _ _ hpl];exact hp
 go_enter Tryz.func143,Tryz.ntmps143;go_wp2_with fail;go_loopw [4,5,16] (λ _ _ i wr=>∃k:Nat,k<=L.length/\i= .int .i64 k/\(∃D:DataW Unit,gInv L k D/\wr.ownsGroups Tryz.prog 3 (w.heap.size+1) 3 .i64 w.heap.size k D)/\Below w.heap.size w wr/\w.heap.size+1<=wr.heap.size)
  (λ _ _ i _=>L.length-(intOf i).toNat)
 case atStart=>exact ⟨0,Nat.zero_le _,rfl,⟨.map [],gInv_start L,World.ownsGroups_made _ _ _ _ _⟩,(Below.refl _ _).alloc (Nat.le_refl _) _,by simp⟩
 case round=>
  obtain ⟨k,hk,rfl,⟨D,hD,hown⟩,hnx,hws⟩:=hrel;clear hp' hmm;by_cases hlt:k<L.length
  ·have hcx:wr.cell? ⟨b,k,none⟩=some (.int .i64 ((L.getD k 0:Nat):Int)):=(hnx.cell (p:=⟨b,k,none⟩) hs.blt).trans (hs.bcell k hlt)
   have hkey:=key_small (L.getD k 0) (hL k hlt);have HD:Hid (gInv L k D):=hD;have HS:Hid (SetsAt w p b L):=hs;clear hD hs hL hp;generalize hy:L.getD k 0=y at hcx hkey;have HY:Hid (L.getD k 0=y):=hy;clear hy;go_wp2_with (first
    | (at_lookup;refine wpList_lookup_groups _ rfl _ _ 199 rfl 3 48 3 .i64 law3 Tryz.underlying199 (zero48 _) (w.heap.size+1) w.heap.size k _ rfl hown (by unfold maxLen;omega) _ _ rfl hkey ?_;intro v zs hat hoi hzl hback)
    | (at_builtin;refine wpList_append_own_at _ rfl _ _ 48 rfl (w.heap.size+1) 3 i0 (.int .i64 0) 1 8 Tryz.underlying48 hi hz0 hz1 hz2 rfl (by decide) _ _ _ rfl (hoi.1.alloc _) ⟨wr.heap.size,0,none⟩ 1 1 [.int .i64 k] rfl rfl (cell_one_new _ _ _) (ints_oneCell .i64 [(k:Int)]) (by unfold maxLen;omega) (by omega) (by simp;omega) ?_;intro v' w1 hown' hgrow hnil hloc)
    | (at_mapUpdate;refine wpList_mapUpdate_back _ rfl _ _ _ 199 rfl hback rfl rfl rfl ((World.grownBy_alloc _ _ _).trans hgrow) (hoi.appended hown' (WalkArith.wf_i64 (by omega))) (by simp;omega) (hloc.imp id (λ h=>⟨_,h,by simp⟩)) ?_;intro w2 hown2 hgrow2)
    | go_in)
   have hall:=(World.grownBy_alloc wr _ _).trans hgrow;have ho':=hoi.appended hown' (WalkArith.wf_i64 (by omega));rw [<-HY.out] at hat hown2;go_roundw;case rel=>exact ⟨k+1,by omega,by go_num,⟨_,gInv_step HD.out hoi hat ho',hown2⟩,hnx.groups hoi hall hgrow2 hnx.size (Nat.le_succ _) (Nat.le_refl _),Nat.le_trans hws (Nat.le_trans hall.size hgrow2.size)⟩
   case measure=>simp [intOf];omega
  ·have hke:k=L.length:=by omega
   subst hke;rename World=>wl
   obtain ⟨m,hm,hlenm⟩:=len_groups hown Tryz.underlying199;obtain ⟨j0,hj,hj0,hj1,hj2⟩:=info_parts Tryz.info48;have hpr:wl.cell? ⟨p,0,none⟩=some (.slice (some ⟨b,0,none⟩) L.length L.length):=(hnx.cell (p:=⟨p,0,none⟩) hpl).trans hp;have HD:Hid (gInv L L.length D):=hD;have HO:Hid (wl.ownsGroups Tryz.prog 3 (w.heap.size+1) 3 .i64 w.heap.size L.length D):=hown;have HN:Hid (Below w.heap.size w wl):=hnx;have hprlt:p<wl.heap.size:=Nat.lt_of_lt_of_le hpl hnx.size;clear hD hs hL hp hown hnx hi hz0 hz1 hz2;go_wp2_with (first
    | (at_make;refine wpList_make_own _ rfl _ _ 51 rfl wl.heap.size 48 j0 (.slice none 0 0) 1 Tryz.underlying51 hj hj0 hj1 .i64 .i64 _ m rfl rfl rfl (by rw [hj2];omega) (by unfold maxLen;omega) (Nat.le_refl _) ?_;intro w1 hown1 hgrow1;have hp1:w1.cell? ⟨p,0,none⟩=some (.slice (some ⟨b,0,none⟩) L.length L.length):=by rw [World.cell?_of_block (w:=wl) (hgrow1.block p hprlt (by simp))];exact hpr)
    | fail)
   have HB1:Hid (Below wl.heap.size wl w1):=(Below.refl _ _).grown hgrow1 (Nat.le_refl _) (by simp);clear hpr hgrow1 hlenm hm;go_loopw [6,7,8,9,38] (λ t _ _ _ i wq=>∃k:Nat,k<=L.length/\i= .int .i64 k/\(∃vs,rowsAre wl (w.heap.size+1) vs (grps L k)/\wq.ownsRow wl.heap.size 48 1 t vs.length vs)/\t≠ .slice none 0 0/\Below wl.heap.size wl wq)
    (λ _ _ _ _ i _=>L.length-(intOf i).toNat)
   case atStart=>exact ⟨0,Nat.zero_le _,rfl,⟨[],⟨rfl,by simp [grps]⟩,hown1⟩,by simp,HB1.out⟩
   case round=>
    obtain ⟨k,hk,rfl,⟨vs,hrows,howk⟩,htn,hbk⟩:=hrel;clear hown1 hp1;have hvl:=hrows.1;have hgl:=grps_le L k;by_cases hlt:k<L.length
    ·by_cases hg:grp L L.length k=[]
     ·have hrun:=look_none HO.out HD.out hbk law3 Tryz.underlying199 (zero48 wr) (key_small k (by omega)) hg
      have HR:Hid (rowsAre wl (w.heap.size+1) vs (grps L (k+1))):=by
       show rowsAre wl (w.heap.size+1) vs (grps L (k+1));rw [grps_succ_none L k hg];exact hrows
      have HK:Hid (wr.ownsRow wl.heap.size 48 1 u6 vs.length vs):=howk;clear hrows howk hg;go_wp2;go_roundw;case rel=>exact ⟨k+1,by omega,by go_num,⟨vs,HR.out,HK.out⟩,htn,hbk⟩
      case measure=>simp [intOf];omega
     ·obtain ⟨r,c,hrun,hoi⟩:=look_some HO.out HD.out hbk law3 Tryz.underlying199 (zero48 wr) (key_small k (by omega)) hg
      have HR:Hid (rowsAre wl (w.heap.size+1) (vs++[.slice (some ⟨r,0,none⟩) (grp L L.length k).length c]) (grps L (k+1))):=by
       show rowsAre wl (w.heap.size+1) _ (grps L (k+1));rw [grps_succ_some L k hg];exact rowsAre_snoc hrows hoi
      clear hrows hoi hg;generalize (grp L L.length k).length=gl at*;go_wp2_with (first
       | (at_builtin;refine wpList_append_own_at _ rfl _ _ 51 rfl wl.heap.size 48 j0 (.slice none 0 0) 1 24 Tryz.underlying51 hj hj0 hj1 hj2 rfl (by decide) u6 vs.length vs rfl (howk.alloc _) ⟨wr.heap.size,0,none⟩ 1 1 [.slice (some ⟨r,0,none⟩) gl c] rfl rfl (cell_one_new _ _ _) (one_slice _ _ _) (by unfold maxLen;omega) (by omega) (by have:=hbk.size;simp;omega) ?_;intro v' w1 hown' hgrow hnil hloc)
       | fail)
      have hall:=(World.grownBy_alloc wr _ _).trans hgrow;go_roundw;case rel=>exact ⟨k+1,by omega,by go_num,⟨_,HR.out,by simpa using hown'⟩,λ h=>htn (hnil.1 h).1,hbk.grown hall hbk.size (λ j hj=>(howk.lt j hj).1)⟩
      case measure=>simp [intOf];omega
    ·have hke:k=L.length:=by omega
     subst hke;have HA:Hid (AllAt wr u6 (grps L L.length)):=allAt_of hrows howk htn hbk;go_wp2;go_ret;exact ⟨_,rfl,HA.out,HN.out.trans (hbk.mono HN.out.size)⟩
structure Good (n:Nat) (L:List Nat):Prop where
 len:L.length=n
 le:∀i,i<n->L.getD i 0<=i
 idem:∀i,i<n->L.getD (L.getD i 0) 0=L.getD i 0
theorem good_range (n:Nat):Good n (List.range n):=
 ⟨by simp,λ i hi=>by simp [hi],λ i hi=>by simp [hi]⟩
theorem joinL_length (L:List Nat) (x y:Nat):(joinL L x y).length=L.length:=by simp [joinL]
theorem joinL_at (L:List Nat) (x y i:Nat) (h:i<L.length):(joinL L x y).getD i 0=named (min (L.getD x 0) (L.getD y 0)) (max (L.getD x 0) (L.getD y 0)) (L.getD i 0):=by
 simp [joinL,h]
theorem named_le {lo hi l:Nat} (h:lo<=hi):named lo hi l<=l:=by
 unfold named;split <;> omega
theorem good_join {n:Nat} {L:List Nat} (g:Good n L) {x y:Nat} (hx:x<n) (hy:y<n):Good n (joinL L x y):=by
 have hlen:=g.len;have hmm:min (L.getD x 0) (L.getD y 0)<=max (L.getD x 0) (L.getD y 0):=by omega
 have hlo:L.getD (min (L.getD x 0) (L.getD y 0)) 0=min (L.getD x 0) (L.getD y 0):=by
  rcases Nat.le_total (L.getD x 0) (L.getD y 0) with h | h
  ·rw [Nat.min_eq_left h];exact g.idem x hx
  ·rw [Nat.min_eq_right h];exact g.idem y hy
 refine ⟨by rw [joinL_length];exact hlen,λ i hi=>?_,λ i hi=>?_⟩
 ·rw [joinL_at _ _ _ _ (by omega)]
  exact Nat.le_trans (named_le hmm) (g.le i hi)
 ·have h1:(joinL L x y).getD i 0<n:=by
   rw [joinL_at _ _ _ _ (by omega)];have:=named_le (l:=L.getD i 0) hmm;have:=g.le i hi;omega
  rw [joinL_at _ _ _ _ (by rw [hlen];exact h1)];rw [joinL_at _ _ _ i (by omega)];generalize hlo':min (L.getD x 0) (L.getD y 0)=lo at*;generalize max (L.getD x 0) (L.getD y 0)=hi' at*;by_cases e:L.getD i 0=hi'
  ·have:named lo hi' (L.getD i 0)=lo:=by unfold named;rw [if_pos e]
   rw [this,hlo];unfold named;split <;> rfl
  ·have:named lo hi' (L.getD i 0)=L.getD i 0:=by unfold named;rw [if_neg e]
   rw [this,g.idem i hi,this]
theorem cnt_eq (f:Nat->Bool):∀n,((List.range n).filter f).length=cnt f n
 | 0=>rfl
 | k+1=>by
   rw [List.range_succ,List.filter_append,List.length_append,cnt_eq f k,List.filter_cons];simp only [cnt];cases f k <;> simp
theorem mem_grp {L:List Nat} {n x i:Nat}:i∈grp L n x↔i<n/\L.getD i 0=x:=by
 unfold grp;rw [List.mem_filter,List.mem_range,beq_iff_eq]
theorem grp_length (L:List Nat) (n x:Nat):(grp L n x).length=cnt (λ i=>L.getD i 0==x) n:=cnt_eq _ n
theorem grp_some {n:Nat} {L:List Nat} (g:Good n L) {x:Nat} (hx:x<n):grp L n x≠[]↔L.getD x 0=x:=by
 constructor
 ·intro h
  obtain ⟨i,hi⟩:=List.exists_mem_of_ne_nil _ h;obtain ⟨h1,h2⟩:=mem_grp.1 hi;have:=g.idem i h1;rw [h2] at this;exact this
 ·intro h e
  have:x∈grp L n x:=mem_grp.2 ⟨hx,h⟩;rw [e] at this;cases this
def Conn {α:Type} (S:α->α->Prop) (x y:α):Prop:=
 ∀P:α->α->Prop,(∀x,P x x)->(∀x y,P x y->P y x)->(∀x y z,P x y->P y z->P x z)->(∀x y,S x y->P x y)->P x y
namespace Conn
variable {α:Type} {S S':α->α->Prop} {x y z:α}
theorem refl (x:α):Conn S x x:=λ _ h _ _ _=>h x
theorem symm (h:Conn S x y):Conn S y x:=λ P a b c d=>b _ _ (h P a b c d)
theorem trans (h:Conn S x y) (k:Conn S y z):Conn S x z:=λ P a b c d=>c _ _ _ (h P a b c d) (k P a b c d)
theorem base (h:S x y):Conn S x y:=λ _ _ _ _ d=>d _ _ h
theorem least {P:α->α->Prop} (h:Conn S x y) (a:∀x,P x x) (b:∀x y,P x y->P y x) (c:∀x y z,P x y->P y z->P x z) (d:∀x y,S x y->P x y):P x y:=h P a b c d
theorem lift (h:Conn S x y) (d:∀x y,S x y->Conn S' x y):Conn S' x y:=h.least refl (λ _ _=>symm) (λ _ _ _=>trans) d
end Conn
section
variable {α ι:Type} (a b:ι->α)
def cn (T:ι->Prop):α->α->Prop:=Conn λ x y=>∃e,T e/\a e=x/\b e=y
def but (T:ι->Prop) (f:ι):ι->Prop:=λ e=>T e/\e≠f
def more (T:ι->Prop) (f:ι):ι->Prop:=λ e=>T e\/e=f
def br (T:ι->Prop) (e:ι):Prop:=T e/\¬cn a b (but T e) (a e) (b e)
def tw (T:ι->Prop) (x y:α):Prop:=cn a b T x y/\∀e,T e->cn a b (but T e) x y
variable {a b} {T T':ι->Prop} {x y z u v:α} {e f:ι}
theorem cn_edge (h:T e):cn a b T (a e) (b e):=Conn.base ⟨e,h,rfl,rfl⟩
theorem cn_lift (h:cn a b T x y) (d:∀e,T e->cn a b T' (a e) (b e)):cn a b T' x y:=
 Conn.lift h (by rintro _ _ ⟨e,he,rfl,rfl⟩;exact d e he)
theorem cn_mono (h:cn a b T x y) (d:∀e,T e->T' e):cn a b T' x y:=cn_lift h λ e he=>cn_edge (d e he)
theorem cn_but (h:cn a b (but T f) x y):cn a b T x y:=cn_mono h λ _ he=>he.1
theorem cn_refl (x:α):cn a b T x x:=Conn.refl x
theorem cn_symm (h:cn a b T x y):cn a b T y x:=Conn.symm h
theorem cn_trans (h:cn a b T x y) (k:cn a b T y z):cn a b T x z:=Conn.trans h k
theorem cn_parts (f:ι) (h:cn a b T u v):cn a b (but T f) u v\/(cn a b (but T f) u (a f)/\cn a b (but T f) (b f) v)\/(cn a b (but T f) u (b f)/\cn a b (but T f) (a f) v):=by
 refine Conn.least (P:=λ u v=>cn a b (but T f) u v\/(cn a b (but T f) u (a f)/\cn a b (but T f) (b f) v)\/(cn a b (but T f) u (b f)/\cn a b (but T f) (a f) v)) h (λ x=>.inl (cn_refl x)) ?_ ?_ ?_
 ·rintro x y (h | ⟨h,k⟩ | ⟨h,k⟩)
  ·exact .inl (cn_symm h)
  ·exact .inr (.inr ⟨cn_symm k,cn_symm h⟩)
  ·exact .inr (.inl ⟨cn_symm k,cn_symm h⟩)
 ·rintro x y z (h | ⟨h,k⟩ | ⟨h,k⟩) (h' | ⟨h',k'⟩ | ⟨h',k'⟩)
  ·exact .inl (cn_trans h h')
  ·exact .inr (.inl ⟨cn_trans h h',k'⟩)
  ·exact .inr (.inr ⟨cn_trans h h',k'⟩)
  ·exact .inr (.inl ⟨h,cn_trans k h'⟩)
  ·exact .inr (.inl ⟨h,k'⟩)
  ·exact .inl (cn_trans h k')
  ·exact .inr (.inr ⟨h,cn_trans k h'⟩)
  ·exact .inl (cn_trans h k')
  ·exact .inr (.inr ⟨h,k'⟩)
 ·rintro _ _ ⟨e,he,rfl,rfl⟩
  by_cases hf:e=f
  ·subst hf;exact .inr (.inl ⟨cn_refl _,cn_refl _⟩)
  ·exact .inl (cn_edge ⟨he,hf⟩)
theorem but_more (hf:¬T f):but (more T f) f=T:=by
 funext e;apply propext
 exact ⟨λ h=>h.1.elim id (λ k=>absurd k h.2),λ h=>⟨.inl h,λ k=>hf (k▸h)⟩⟩
theorem but_more_ne (hne:e≠f):but (more T f) e=more (but T e) f:=by
 funext d;apply propext
 constructor
 ·rintro ⟨h | h,k⟩
  ·exact .inl ⟨h,k⟩
  ·exact .inr h
 ·rintro (h | h)
  ·exact ⟨.inl h.1,h.2⟩
  ·subst h;exact ⟨.inr rfl,hne.symm⟩
theorem cn_more_of (h:cn a b T x y):cn a b (more T f) x y:=cn_mono h λ _=>.inl
theorem cn_more_parts (hf:¬T f) (h:cn a b (more T f) u v):cn a b T u v\/(cn a b T u (a f)/\cn a b T (b f) v)\/(cn a b T u (b f)/\cn a b T (a f) v):=by
 have:=cn_parts f h;rwa [but_more hf] at this
theorem cn_more_edge:cn a b (more T f) (a f) (b f):=cn_edge (.inr rfl)
theorem cn_more_iff (hf:¬T f):cn a b (more T f) u v↔cn a b T u v\/(cn a b T u (a f)/\cn a b T (b f) v)\/(cn a b T u (b f)/\cn a b T (a f) v):=by
 refine ⟨cn_more_parts hf,?_⟩;rintro (h | ⟨h,k⟩ | ⟨h,k⟩)
 ·exact cn_more_of h
 ·exact cn_trans (cn_more_of h) (cn_trans cn_more_edge (cn_more_of k))
 ·exact cn_trans (cn_more_of h) (cn_trans (cn_symm cn_more_edge) (cn_more_of k))
theorem cn_more_same (h:cn a b T (a f) (b f)):cn a b (more T f) u v↔cn a b T u v:=
 ⟨λ k=>cn_lift k (by rintro e (he | rfl);exact cn_edge he;exact h),cn_more_of⟩
theorem br_apart (hf:¬T f) (h:¬cn a b T (a f) (b f)):br a b (more T f) e↔br a b T e\/e=f:=by
 by_cases hne:e=f
 ·subst hne
  refine ⟨λ _=>.inr rfl,λ _=>⟨.inr rfl,?_⟩⟩;rw [but_more hf];exact h
 ·have hf':¬but T e f:=λ k=>hf k.1
  unfold br;rw [but_more_ne hne];constructor
  ·rintro ⟨h1 | h1,h2⟩
   ·exact .inl ⟨h1,λ k=>h2 (cn_more_of k)⟩
   ·exact absurd h1 hne
  ·rintro (⟨h1,h2⟩ | h1)
   ·refine ⟨.inl h1,λ k=>?_⟩
    rcases cn_more_parts hf' k with k | ⟨k1,k2⟩ | ⟨k1,k2⟩
    ·exact h2 k
    ·exact h (cn_trans (cn_symm (cn_but k1)) (cn_trans (cn_edge h1) (cn_symm (cn_but k2))))
    ·exact h (cn_trans (cn_but k2) (cn_trans (cn_symm (cn_edge h1)) (cn_but k1)))
   ·exact absurd h1 hne
theorem tw_apart (hf:¬T f) (h:¬cn a b T (a f) (b f)):tw a b (more T f) u v↔tw a b T u v:=by
 constructor
 ·rintro ⟨h1,h2⟩
  have h3:cn a b T u v:=by have:=h2 f (.inr rfl);rwa [but_more hf] at this
  refine ⟨h3,λ e he=>?_⟩;have hne:e≠f:=λ k=>hf (k▸he)
  have h4:=h2 e (.inl he);rw [but_more_ne hne] at h4;rcases cn_more_parts (λ k=>hf k.1) h4 with k | ⟨k1,k2⟩ | ⟨k1,k2⟩
  ·exact k
  ·exact absurd (cn_trans (cn_symm (cn_but k1)) (cn_trans h3 (cn_symm (cn_but k2)))) h
  ·exact absurd (cn_trans (cn_but k2) (cn_trans (cn_symm h3) (cn_but k1))) h
 ·rintro ⟨h1,h2⟩
  refine ⟨cn_more_of h1,?_⟩;rintro e (he | rfl)
  ·have hne:e≠f:=λ k=>hf (k▸he)
   rw [but_more_ne hne];exact cn_more_of (h2 e he)
  ·rw [but_more hf];exact h1
def sep (T:ι->Prop) (a b:ι->α) (x y:α) (e:ι):Prop:=T e/\¬cn a b (but T e) x y
theorem sep_br (h:cn a b T x y) (s:sep T a b x y e):br a b T e:=
 ⟨s.1,λ k=>s.2 (cn_lift h λ d hd=>by
   by_cases hde:d=e
   ·subst hde;exact k
   ·exact cn_edge ⟨hd,hde⟩)⟩
theorem heal (h:cn a b T (a f) (b f)) (s:¬cn a b (but T e) (a f) (b f)):cn a b (more (but T e) f) (a e) (b e):=by
 rcases cn_parts e h with k | ⟨k1,k2⟩ | ⟨k1,k2⟩
 ·exact absurd k s
 ·exact cn_trans (cn_symm (cn_more_of k1)) (cn_trans cn_more_edge (cn_symm (cn_more_of k2)))
 ·exact cn_trans (cn_more_of k2) (cn_trans (cn_symm cn_more_edge) (cn_more_of k1))
theorem br_within (hf:¬T f) (h:cn a b T (a f) (b f)):br a b (more T f) e↔br a b T e/\¬sep T a b (a f) (b f) e:=by
 by_cases hne:e=f
 ·subst hne
  constructor
  ·rintro ⟨_,k⟩;rw [but_more hf] at k;exact absurd h k
  ·rintro ⟨k,_⟩;exact absurd k.1 hf
 ·unfold br sep
  rw [but_more_ne hne];constructor
  ·rintro ⟨h1 | h1,h2⟩
   ·exact ⟨⟨h1,λ k=>h2 (cn_more_of k)⟩,λ s=>h2 (heal h s.2)⟩
   ·exact absurd h1 hne
  ·rintro ⟨⟨h1,h2⟩,h3⟩
   refine ⟨.inl h1,λ k=>?_⟩;have h4:cn a b (but T e) (a f) (b f):=Classical.byContradiction λ k'=>h3 ⟨h1,k'⟩
   exact h2 ((cn_more_same h4).1 k)
theorem tw_within (hf:¬T f) (h:cn a b T (a f) (b f)):tw a b (more T f) u v↔cn a b T u v/\∀e,T e->cn a b (but T e) (a f) (b f)->cn a b (but T e) u v:=by
 constructor
 ·rintro ⟨h1,h2⟩
  refine ⟨(cn_more_same h).1 h1,λ e he k=>?_⟩;have hne:e≠f:=λ k=>hf (k▸he)
  have h4:=h2 e (.inl he);rw [but_more_ne hne] at h4;exact (cn_more_same k).1 h4
 ·rintro ⟨h1,h2⟩
  refine ⟨cn_more_of h1,?_⟩;rintro e (he | rfl)
  ·have hne:e≠f:=λ k=>hf (k▸he)
   rw [but_more_ne hne];by_cases k:cn a b (but T e) (a f) (b f)
   ·exact cn_more_of (h2 e he k)
   ·refine cn_lift h1 λ d hd=>?_
    by_cases hde:d=e
    ·subst hde;exact heal h k
    ·exact cn_edge (.inl ⟨hd,hde⟩)
  ·rw [but_more hf];exact h1
theorem tw_refl (x:α):tw a b T x x:=⟨cn_refl x,λ _ _=>cn_refl x⟩
theorem tw_symm (h:tw a b T x y):tw a b T y x:=⟨cn_symm h.1,λ e he=>cn_symm (h.2 e he)⟩
theorem tw_trans (h:tw a b T x y) (k:tw a b T y z):tw a b T x z:=⟨cn_trans h.1 k.1,λ e he=>cn_trans (h.2 e he) (k.2 e he)⟩
theorem br_or (he:T e):br a b T e\/tw a b T (a e) (b e):=by
 by_cases h:cn a b (but T e) (a e) (b e)
 ·refine .inr ⟨cn_edge he,λ d hd=>?_⟩
  by_cases hde:e=d
  ·subst hde;exact h
  ·exact cn_edge ⟨he,hde⟩
 ·exact .inl ⟨he,h⟩
theorem br_not_tw (h:br a b T e):¬tw a b T (a e) (b e):=λ k=>h.2 (k.2 e h.1)
theorem cn_seps (N:List ι):(∀e∈N,br a b T e/\cn a b (but T e) x y)->cn a b T x y->cn a b (λ e=>T e/\e∉N) x y:=by
 induction N with
 | nil=>intro _ h;exact cn_mono h λ e he=>⟨he,by simp⟩
 | cons d N ih=>
   intro hN h;have h1:=ih (λ e he=>hN e (List.mem_cons_of_mem _ he)) h;have hd:=hN d List.mem_cons_self;have e1:but (λ e=>T e/\e∉N) d=λ e=>T e/\e∉d::N:=by
    funext e;apply propext;simp only [but,List.mem_cons,not_or];exact ⟨λ h=>⟨h.1.1,h.2,h.1.2⟩,λ h=>⟨⟨h.1,h.2.2⟩,h.2.1⟩⟩
   have up:∀{p q:α},cn a b (λ e=>T e/\e∉d::N) p q->cn a b (but T d) p q:=λ k=>cn_mono k λ e he=>⟨he.1,λ k=>he.2 (k▸List.mem_cons_self)⟩
   rcases cn_parts d h1 with k | ⟨k1,k2⟩ | ⟨k1,k2⟩
   ·rwa [e1] at k
   ·rw [e1] at k1 k2
    exact absurd (cn_trans (cn_symm (up k1)) (cn_trans hd.2 (cn_symm (up k2)))) hd.1.2
   ·rw [e1] at k1 k2
    exact absurd (cn_trans (up k2) (cn_trans (cn_symm hd.2) (up k1))) hd.1.2
theorem tw_closed (B:List ι) (hB:∀e,e∈B↔br a b T e) (hf:¬T f) (h:cn a b T (a f) (b f)):
 tw a b (more T f) u v↔Conn (λ x y=>tw a b T x y\/∃e,sep T a b (a f) (b f) e/\a e=x/\b e=y) u v:=by
 rw [tw_within hf h];constructor
 ·rintro ⟨h1,h2⟩
  have hdec:∃N:List ι,∀e,e∈N↔e∈B/\cn a b (but T e) u v:=by
   clear h2 h1 hf h hB;induction B with
   | nil=>exact ⟨[],by simp⟩
   | cons d B ih=>
     obtain ⟨N,hN⟩:=ih;by_cases hd:cn a b (but T d) u v
     ·exact ⟨d::N,λ e=>by
       simp only [List.mem_cons,hN];constructor
       ·rintro (rfl | h)
        ·exact ⟨.inl rfl,hd⟩
        ·exact ⟨.inr h.1,h.2⟩
       ·rintro ⟨rfl | h,k⟩
        ·exact .inl rfl
        ·exact .inr ⟨h,k⟩⟩
     ·exact ⟨N,λ e=>by
       simp only [List.mem_cons,hN];constructor
       ·rintro h;exact ⟨.inr h.1,h.2⟩
       ·rintro ⟨rfl | h,k⟩
        ·exact absurd k hd
        ·exact ⟨h,k⟩⟩
  obtain ⟨N,hN⟩:=hdec;have h3:=cn_seps N (λ e he=>⟨(hB e).1 ((hN e).1 he).1,((hN e).1 he).2⟩) h1;refine Conn.lift h3 ?_;rintro _ _ ⟨e,⟨he,hn⟩,rfl,rfl⟩;rcases br_or he with k | k
  ·have hns:¬cn a b (but T e) u v:=λ c=>hn ((hN e).2 ⟨(hB e).2 k,c⟩)
   exact Conn.base (.inr ⟨e,⟨he,λ c=>hns (h2 e he c)⟩,rfl,rfl⟩)
  ·exact Conn.base (.inl k)
 ·intro k
  refine Conn.least (P:=λ u v=>cn a b T u v/\∀e,T e->cn a b (but T e) (a f) (b f)->cn a b (but T e) u v) k (λ x=>⟨cn_refl x,λ _ _ _=>cn_refl x⟩) (λ x y h=>⟨cn_symm h.1,λ e he k=>cn_symm (h.2 e he k)⟩) (λ x y z h h'=>⟨cn_trans h.1 h'.1,λ e he k=>cn_trans (h.2 e he k) (h'.2 e he k)⟩) ?_;rintro _ _ (h1 | ⟨e,he,rfl,rfl⟩)
  ·exact ⟨h1.1,λ e he _=>h1.2 e he⟩
  ·refine ⟨cn_edge he.1,λ d hd k=>?_⟩
   exact cn_edge ⟨he.1,λ c=>he.2 (c▸k)⟩
theorem first_step (f0:ι->Prop) (hf0:∀e,f0 e->T e) (h:cn a b f0 x y):
 tw a b T x y\/∃e u v,br a b T e/\f0 e/\((a e=u/\b e=v)\/(b e=u/\a e=v))/\tw a b T x u/\cn a b (but T e) v y:=by
 refine (Conn.least (P:=λ p q=>(tw a b T x p\/∃e u v,br a b T e/\f0 e/\((a e=u/\b e=v)\/(b e=u/\a e=v))/\tw a b T x u/\cn a b (but T e) v p)↔(tw a b T x q\/∃e u v,br a b T e/\f0 e/\((a e=u/\b e=v)\/(b e=u/\a e=v))/\tw a b T x u/\cn a b (but T e) v q)) h (λ _=>Iff.rfl) (λ _ _ h=>h.symm) (λ _ _ _ h k=>h.trans k) ?_).1 (.inl (tw_refl x));have step:∀(d:ι) (p q:α),f0 d->((a d=p/\b d=q)\/(b d=p/\a d=q))->
  (tw a b T x p\/∃e u v,br a b T e/\f0 e/\((a e=u/\b e=v)\/(b e=u/\a e=v))/\tw a b T x u/\cn a b (but T e) v p)->
  (tw a b T x q\/∃e u v,br a b T e/\f0 e/\((a e=u/\b e=v)\/(b e=u/\a e=v))/\tw a b T x u/\cn a b (but T e) v q):=by
  intro d p q hd hpq hp;have hT:=hf0 d hd;have hcn:∀e,e≠d->cn a b (but T e) p q:=by
   intro e hne;rcases hpq with ⟨rfl,rfl⟩ | ⟨rfl,rfl⟩
   ·exact cn_edge ⟨hT,λ k=>hne k.symm⟩
   ·exact cn_symm (cn_edge ⟨hT,λ k=>hne k.symm⟩)
  rcases hp with hp | ⟨e,u,v,hbr,hfe,huv,hxu,hvp⟩
  ·rcases br_or (a:=a) (b:=b) hT with k | k
   ·exact .inr ⟨d,p,q,k,hd,hpq,hp,cn_refl q⟩
   ·refine .inl (tw_trans hp ?_)
    rcases hpq with ⟨rfl,rfl⟩ | ⟨rfl,rfl⟩
    ·exact k
    ·exact tw_symm k
  ·by_cases hed:e=d
   ·subst hed
    have huv':¬cn a b (but T e) u v:=by
     rcases huv with ⟨rfl,rfl⟩ | ⟨rfl,rfl⟩
     ·exact hbr.2
     ·exact λ k=>hbr.2 (cn_symm k)
    have hqu:q=u:=by
     rcases huv with ⟨rfl,rfl⟩ | ⟨rfl,rfl⟩ <;> rcases hpq with ⟨rfl,rfl⟩ | ⟨rfl,rfl⟩
     ·exact absurd (cn_symm hvp) huv'
     ·rfl
     ·rfl
     ·exact absurd (cn_symm hvp) huv'
    subst hqu;exact .inl hxu
   ·exact .inr ⟨e,u,v,hbr,hfe,huv,hxu,cn_trans hvp (hcn e hed)⟩
 rintro _ _ ⟨d,hd,rfl,rfl⟩;exact ⟨step d _ _ hd (.inl ⟨rfl,rfl⟩),step d _ _ hd (.inr ⟨rfl,rfl⟩)⟩
theorem narrower {e0 e1:ι} {p q r s t:α} (h0:br a b T e0) (h1:br a b T e1) (hne:e0≠e1)
 (h0e:(a e0=p/\b e0=q)\/(b e0=p/\a e0=q)) (h1e:(a e1=r/\b e1=s)\/(b e1=r/\a e1=s)) (hqr:tw a b T q r)
 (hc:cn a b (but T e1) t s):t≠a e0/\cn a b (but T e0) t r:=by
 have k0:cn a b (but T e1) p q:=by
  rcases h0e with ⟨rfl,rfl⟩ | ⟨rfl,rfl⟩
  ·exact cn_edge ⟨h0.1,hne⟩
  ·exact cn_symm (cn_edge ⟨h0.1,hne⟩)
 have k1:¬cn a b (but T e1) r s:=by
  rcases h1e with ⟨rfl,rfl⟩ | ⟨rfl,rfl⟩
  ·exact h1.2
  ·exact λ k=>h1.2 (cn_symm k)
 have kq:cn a b (but T e1) q r:=hqr.2 e1 h1.1;have nq:∀t,cn a b (but T e1) t s->(t=p\/t=q)->False:=by
  rintro t ht (rfl | rfl)
  ·exact k1 (cn_trans (cn_symm kq) (cn_trans (cn_symm k0) ht))
  ·exact k1 (cn_trans (cn_symm kq) ht)
 have hends:(a e0=p\/a e0=q)/\(b e0=p\/b e0=q):=by
  rcases h0e with ⟨h,k⟩ | ⟨h,k⟩
  ·exact ⟨.inl h,.inr k⟩
  ·exact ⟨.inr k,.inl h⟩
 refine ⟨?_,?_⟩
 ·rintro rfl
  exact nq _ hc hends.1
 ·have k2:cn a b (but T e0) s r:=by
   rcases h1e with ⟨rfl,rfl⟩ | ⟨rfl,rfl⟩
   ·exact cn_symm (cn_edge ⟨h1.1,λ k=>hne k.symm⟩)
   ·exact cn_edge ⟨h1.1,λ k=>hne k.symm⟩
  have sub:∀{p q:α},cn a b (but (but T e1) e0) p q->cn a b (but T e0) p q:=λ k=>cn_mono k λ e he=>⟨he.1.1,he.2⟩
  rcases cn_parts e0 hc with k | ⟨_,k⟩ | ⟨_,k⟩
  ·exact cn_trans (sub k) k2
  ·exact absurd (cn_but k) (λ k=>nq _ k hends.2)
  ·exact absurd (cn_but k) (λ k=>nq _ k hends.1)
theorem sep_congr {x' y':α} (hx:tw a b T x x') (hy:tw a b T y y') (e:ι):sep T a b x y e↔sep T a b x' y' e:=
 ⟨λ h=>⟨h.1,λ k=>h.2 (cn_trans (hx.2 e h.1) (cn_trans k (cn_symm (hy.2 e h.1))))⟩,λ h=>⟨h.1,λ k=>h.2 (cn_trans (cn_symm (hx.2 e h.1)) (cn_trans k (hy.2 e h.1)))⟩⟩
theorem sep_step {r s:α} (h1:br a b T e) (he:(a e=r/\b e=s)\/(b e=r/\a e=s)) (hxr:tw a b T x r) (hs:tw a b T s z) (hy:cn a b (but T e) s y) (d:ι):
 sep T a b x y d↔d=e\/sep T a b z y d:=by
 have k1:¬cn a b (but T e) r s:=by
  rcases he with ⟨rfl,rfl⟩ | ⟨rfl,rfl⟩
  ·exact h1.2
  ·exact λ k=>h1.2 (cn_symm k)
 by_cases hde:d=e
 ·subst hde
  refine ⟨λ _=>.inl rfl,λ _=>⟨h1.1,λ k=>k1 ?_⟩⟩;exact cn_trans (cn_symm (hxr.2 d h1.1)) (cn_trans k (cn_symm hy))
 ·have k2:cn a b (but T d) r s:=by
   rcases he with ⟨rfl,rfl⟩ | ⟨rfl,rfl⟩
   ·exact cn_edge ⟨h1.1,λ k=>hde k.symm⟩
   ·exact cn_symm (cn_edge ⟨h1.1,λ k=>hde k.symm⟩)
  constructor
  ·rintro ⟨h2,h3⟩
   exact .inr ⟨h2,λ k=>h3 (cn_trans (cn_trans (hxr.2 d h2) k2) (cn_trans (hs.2 d h2) k))⟩
  ·rintro (h2 | ⟨h2,h3⟩)
   ·exact absurd h2 hde
   ·exact ⟨h2,λ k=>h3 (cn_trans (cn_symm (hs.2 d h2)) (cn_trans (cn_symm k2) (cn_trans (cn_symm (hxr.2 d h2)) k)))⟩
end
end Go.Proofs.YtebcjaenhiiflaaGreatDoor.S
namespace Go.Proofs.YtebcjaenhiiflaaGreatDoor.S
def Lk (n:Nat) (L:List Nat) (u v:Nat):Prop:=u=v\/(u<n/\v<n/\L.getD u 0=L.getD v 0)
theorem Lk.refl {n:Nat} {L:List Nat} (u:Nat):Lk n L u u:=.inl rfl
theorem Lk.symm {n:Nat} {L:List Nat} {u v:Nat} (h:Lk n L u v):Lk n L v u:=by
 rcases h with h | ⟨h1,h2,h3⟩
 ·exact .inl h.symm
 ·exact .inr ⟨h2,h1,h3.symm⟩
theorem Lk.trans {n:Nat} {L:List Nat} {u v z:Nat} (h:Lk n L u v) (k:Lk n L v z):Lk n L u z:=by
 rcases h with rfl | ⟨h1,h2,h3⟩
 ·exact k
 ·rcases k with rfl | ⟨k1,k2,k3⟩
  ·exact .inr ⟨h1,h2,h3⟩
  ·exact .inr ⟨h1,k2,h3.trans k3⟩
theorem Lk.lt {n:Nat} {L:List Nat} {u v:Nat} (h:Lk n L u v) (hu:u<n):v<n:=by
 rcases h with rfl | h
 ·exact hu
 ·exact h.2.1
theorem Lk.iff {n:Nat} {L:List Nat} {u v:Nat} (hu:u<n) (hv:v<n):Lk n L u v↔L.getD u 0=L.getD v 0:=by
 constructor
 ·rintro (rfl | h)
  ·rfl
  ·exact h.2.2
 ·exact λ h=>.inr ⟨hu,hv,h⟩
theorem named_eq_iff {lo hi p q:Nat}:named lo hi p=named lo hi q↔p=q\/(p=lo/\q=hi)\/(p=hi/\q=lo):=by
 unfold named;split <;> split <;> omega
theorem joinL_iff {n:Nat} {L:List Nat} (hl:L.length=n) {x y u v:Nat} (hu:u<n) (hv:v<n):
 (joinL L x y).getD u 0=(joinL L x y).getD v 0↔L.getD u 0=L.getD v 0\/(L.getD u 0=L.getD x 0/\L.getD y 0=L.getD v 0)\/(L.getD u 0=L.getD y 0/\L.getD x 0=L.getD v 0):=by
 rw [joinL_at _ _ _ _ (by omega),joinL_at _ _ _ _ (by omega),named_eq_iff];omega
theorem Lk_join {n:Nat} {L:List Nat} (hl:L.length=n) {x y u v:Nat} (hx:x<n) (hy:y<n):
 Lk n (joinL L x y) u v↔Lk n L u v\/(Lk n L u x/\Lk n L y v)\/(Lk n L u y/\Lk n L x v):=by
 constructor
 ·rintro (rfl | ⟨hu,hv,h⟩)
  ·exact .inl (Lk.refl _)
  ·rw [joinL_iff hl hu hv] at h
   rw [Lk.iff hu hv,Lk.iff hu hx,Lk.iff hy hv,Lk.iff hu hy,Lk.iff hx hv];exact h
 ·rintro (h | ⟨h,k⟩ | ⟨h,k⟩)
  ·rcases h with rfl | ⟨hu,hv,h⟩
   ·exact Lk.refl _
   ·rw [Lk.iff hu hv,joinL_iff hl hu hv];exact .inl h
  ·have hu:=h.symm.lt hx
   have hv:=k.lt hy;rw [Lk.iff hu hx] at h;rw [Lk.iff hy hv] at k;rw [Lk.iff hu hv,joinL_iff hl hu hv];exact .inr (.inl ⟨h,k⟩)
  ·have hu:=h.symm.lt hy
   have hv:=k.lt hx;rw [Lk.iff hu hy] at h;rw [Lk.iff hx hv] at k;rw [Lk.iff hu hv,joinL_iff hl hu hv];exact .inr (.inr ⟨h,k⟩)
def ea (e:Int × Int × Int):Nat:=e.2.1.toNat
def eb (e:Int × Int × Int):Nat:=e.2.2.toNat
def joins (L:List Nat):List (Int × Int × Int)->List Nat
 | []=>L
 | d::ds=>joins (joinL L (ea d) (eb d)) ds
theorem good_joins {n:Nat}:∀(ds:List (Int × Int × Int)) (L:List Nat),Good n L->(∀d∈ds,ea d<n/\eb d<n)->Good n (joins L ds)
 | [],_,g,_=>g
 | d::ds,_,g,h=>good_joins ds _ (good_join g (h d List.mem_cons_self).1 (h d List.mem_cons_self).2) (λ e he=>h e (List.mem_cons_of_mem _ he))
theorem Lk_joins {n:Nat}:∀(ds:List (Int × Int × Int)) (L:List Nat) {u v:Nat},Good n L->(∀d∈ds,ea d<n/\eb d<n)->
 (Lk n (joins L ds) u v↔Conn (λ x y=>Lk n L x y\/∃e,e∈ds/\ea e=x/\eb e=y) u v)
 | [],L,u,v,_,_=>by
   constructor
   ·exact λ h=>Conn.base (.inl h)
   ·exact λ h=>Conn.least (P:=Lk n L) h (λ _=>Lk.refl _) (λ _ _ h=>h.symm) (λ _ _ _ h k=>h.trans k) (by
     rintro x y (h | ⟨e,he,_⟩)
     ·exact h
     ·simp at he)
 | d::ds,L,u,v,g,hds=>by
   have hd:=hds d List.mem_cons_self;have hds':∀e∈ds,ea e<n/\eb e<n:=λ e he=>hds e (List.mem_cons_of_mem _ he)
   show Lk n (joins (joinL L (ea d) (eb d)) ds) u v↔_;rw [Lk_joins ds _ (good_join g hd.1 hd.2) hds'];have bd:Conn (λ x y=>Lk n L x y\/∃e,e∈d::ds/\ea e=x/\eb e=y) (ea d) (eb d):=Conn.base (.inr ⟨d,List.mem_cons_self,rfl,rfl⟩);constructor
   ·intro h
    refine Conn.lift h ?_;rintro x y (h | ⟨e,he,h1,h2⟩)
    ·rw [Lk_join g.len hd.1 hd.2] at h
     rcases h with h | ⟨h,k⟩ | ⟨h,k⟩
     ·exact Conn.base (.inl h)
     ·exact (Conn.base (.inl h)).trans (bd.trans (Conn.base (.inl k)))
     ·exact (Conn.base (.inl h)).trans (bd.symm.trans (Conn.base (.inl k)))
    ·exact Conn.base (.inr ⟨e,List.mem_cons_of_mem _ he,h1,h2⟩)
   ·intro h
    refine Conn.lift h ?_;rintro x y (h | ⟨e,he,h1,h2⟩)
    ·exact Conn.base (.inl ((Lk_join g.len hd.1 hd.2).2 (.inl h)))
    ·rcases List.mem_cons.1 he with rfl | he
     ·subst h1 h2
      exact Conn.base (.inl ((Lk_join g.len hd.1 hd.2).2 (.inr (.inl ⟨Lk.refl _,Lk.refl _⟩))))
     ·exact Conn.base (.inr ⟨e,he,h1,h2⟩)
abbrev cnR (R:List (Int × Int × Int)):Nat->Nat->Prop:=cn ea eb (·∈R)
abbrev twR (R:List (Int × Int × Int)):Nat->Nat->Prop:=tw ea eb (·∈R)
abbrev brR (R:List (Int × Int × Int)):Int × Int × Int->Prop:=br ea eb (·∈R)
abbrev sepR (R:List (Int × Int × Int)) (x y:Nat):Int × Int × Int->Prop:=sep (·∈R) ea eb x y
structure St (n:Nat) (R:List (Int × Int × Int)) (W T:List Nat) (B:List (Int × Int × Int)):Prop where
 gw:Good n W
 gt:Good n T
 inn:∀e∈R,ea e<n/\eb e<n
 nat:∀e∈R,e.2.1=(ea e:Int)/\e.2.2=(eb e:Int)
 one:∀e∈R,∀d∈R,e.1=d.1->e=d
 hW:∀u v,Lk n W u v↔cnR R u v
 hT:∀u v,Lk n T u v↔twR R u v
 hB:∀e,e∈B↔brR R e
theorem more_snoc (R:List (Int × Int × Int)) (f:Int × Int × Int):(·∈R++[f])=more (·∈R) f:=by
 funext e;apply propext;simp [more]
theorem St.start (n:Nat):St n [] (List.range n) (List.range n) []:=by
 have h:∀u v,Lk n (List.range n) u v↔u=v:=by
  intro u v;constructor
  ·rintro (h | ⟨h1,h2,h3⟩)
   ·exact h
   ·simpa [h1,h2] using h3
  ·exact λ h=>.inl h
 have hc:∀u v,cnR [] u v↔u=v:=by
  intro u v;constructor
  ·exact λ h=>Conn.least (P:=λ u v=>u=v) h (λ _=>rfl) (λ _ _ h=>h.symm) (λ _ _ _ h k=>h.trans k) (by rintro x y ⟨e,he,_⟩;simp at he)
  ·rintro rfl;exact cn_refl _
 refine ⟨good_range n,good_range n,by simp,by simp,by simp,λ u v=>by rw [h,hc],λ u v=>?_,λ e=>?_⟩
 ·rw [h]
  constructor
  ·rintro rfl;exact tw_refl _
  ·exact λ k=>(hc u v).1 k.1
 ·simp [brR,br]
theorem St.apart {n:Nat} {R:List (Int × Int × Int)} {W T:List Nat} {B:List (Int × Int × Int)} (s:St n R W T B) (f:Int × Int × Int) (ha:ea f<n) (hb:eb f<n) (hn:f.2.1=(ea f:Int)/\f.2.2=(eb f:Int)) (hone:∀e∈R,e.1≠f.1)
 (h:W.getD (ea f) 0≠W.getD (eb f) 0):St n (R++[f]) (joinL W (ea f) (eb f)) T (B++[f]):=by
 have hf:¬(λ x=>x∈R) f:=λ k=>hone f k rfl
 have hc:¬cn ea eb (·∈R) (ea f) (eb f):=λ k=>h ((Lk.iff ha hb).1 ((s.hW _ _).2 k))
 refine ⟨good_join s.gw ha hb,s.gt,?_,?_,?_,λ u v=>?_,λ u v=>?_,λ e=>?_⟩
 ·intro e he
  rcases List.mem_append.1 he with he | he
  ·exact s.inn e he
  ·rw [List.mem_singleton.1 he];exact ⟨ha,hb⟩
 ·intro e he
  rcases List.mem_append.1 he with he | he
  ·exact s.nat e he
  ·rw [List.mem_singleton.1 he];exact hn
 ·intro e he d hd hed
  rcases List.mem_append.1 he with he | he <;> rcases List.mem_append.1 hd with hd | hd
  ·exact s.one e he d hd hed
  ·rw [List.mem_singleton.1 hd] at hed;exact absurd hed (hone e he)
  ·rw [List.mem_singleton.1 he] at hed;exact absurd hed.symm (hone d hd)
  ·rw [List.mem_singleton.1 hd,List.mem_singleton.1 he]
 ·rw [Lk_join s.gw.len ha hb]
  simp only [s.hW,cnR];rw [more_snoc,cn_more_iff hf]
 ·simp only [twR]
  rw [more_snoc,tw_apart hf hc];exact s.hT u v
 ·simp only [brR]
  rw [more_snoc,br_apart hf hc,List.mem_append,List.mem_singleton,s.hB]
theorem St.within {n:Nat} {R:List (Int × Int × Int)} {W T:List Nat} {B B' ds:List (Int × Int × Int)} (s:St n R W T B) (f:Int × Int × Int) (ha:ea f<n) (hb:eb f<n) (hn:f.2.1=(ea f:Int)/\f.2.2=(eb f:Int)) (hone:∀e∈R,e.1≠f.1)
 (h:W.getD (ea f) 0=W.getD (eb f) 0) (hds:∀e,e∈ds↔sepR R (ea f) (eb f) e) (hB':∀e,e∈B'↔e∈B/\e∉ds):St n (R++[f]) W (joins T ds) B':=by
 have hf:¬(λ x=>x∈R) f:=λ k=>hone f k rfl
 have hc:cn ea eb (·∈R) (ea f) (eb f):=(s.hW _ _).1 ((Lk.iff ha hb).2 h);have hin:∀d∈ds,ea d<n/\eb d<n:=λ d hd=>s.inn d ((hds d).1 hd).1
 refine ⟨s.gw,good_joins ds T s.gt hin,?_,?_,?_,λ u v=>?_,λ u v=>?_,λ e=>?_⟩
 ·intro e he
  rcases List.mem_append.1 he with he | he
  ·exact s.inn e he
  ·rw [List.mem_singleton.1 he];exact ⟨ha,hb⟩
 ·intro e he
  rcases List.mem_append.1 he with he | he
  ·exact s.nat e he
  ·rw [List.mem_singleton.1 he];exact hn
 ·intro e he d hd hed
  rcases List.mem_append.1 he with he | he <;> rcases List.mem_append.1 hd with hd | hd
  ·exact s.one e he d hd hed
  ·rw [List.mem_singleton.1 hd] at hed;exact absurd hed (hone e he)
  ·rw [List.mem_singleton.1 he] at hed;exact absurd hed.symm (hone d hd)
  ·rw [List.mem_singleton.1 hd,List.mem_singleton.1 he]
 ·simp only [cnR]
  rw [more_snoc,cn_more_same hc];exact s.hW u v
 ·rw [Lk_joins ds T s.gt hin]
  simp only [twR];rw [more_snoc,tw_closed B s.hB hf hc];have:(λ x y=>Lk n T x y\/∃e,e∈ds/\ea e=x/\eb e=y)=(λ x y=>tw ea eb (·∈R) x y\/∃e,sep (·∈R) ea eb (ea f) (eb f) e/\ea e=x/\eb e=y):=by
   funext x y;apply propext
   rw [s.hT];simp only [hds]
  rw [this]
 ·simp only [brR]
  rw [more_snoc,br_within hf hc,hB',s.hB,hds]
end Go.Proofs.YtebcjaenhiiflaaGreatDoor.S
namespace Go.Proofs.YtebcjaenhiiflaaGreatDoor.S
def Ends (e:Int × Int × Int) (u v:Nat):Prop:=(ea e=u/\eb e=v)\/(eb e=u/\ea e=v)
def Hop (R:List (Int × Int × Int)) (T:List Nat) (fr:Nat) (back:Int) (Z:Int × Int × Int->Prop):Prop:=
 (back= -1/\Z=(·∈R))\/∃e0 p q,brR R e0/\Ends e0 p q/\back=(T.getD p 0:Nat)/\T.getD q 0=fr/\Z=but (·∈R) e0
def Met (R:List (Int × Int × Int)) (fr:Nat) (Z:Int × Int × Int->Prop) (D:List (Int × Int × Int)):Prop:=
 ∀d,brR R d->Z d->cn ea eb Z (ea d) fr->d∈D
variable {n:Nat} {R:List (Int × Int × Int)} {W T:List Nat} {B:List (Int × Int × Int)}
theorem Ends.lt (s:St n R W T B) {e:Int × Int × Int} (he:e∈R) {u v:Nat} (h:Ends e u v):u<n/\v<n:=by
 have:=s.inn e he;rcases h with ⟨rfl,rfl⟩ | ⟨rfl,rfl⟩
 ·exact this
 ·exact ⟨this.2,this.1⟩
theorem St.rep (s:St n R W T B) {u:Nat} (hu:u<n):twR R u (T.getD u 0):=
 (s.hT _ _).1 ((Lk.iff hu (Nat.lt_of_le_of_lt (s.gt.le u hu) hu)).2 (s.gt.idem u hu).symm)
theorem St.tw (s:St n R W T B) {u v:Nat} (hu:u<n) (hv:v<n):twR R u v↔T.getD u 0=T.getD v 0:=by
 rw [<-s.hT,Lk.iff hu hv]
theorem St.lab (s:St n R W T B) {u:Nat} (hu:u<n):T.getD u 0<n:=Nat.lt_of_le_of_lt (s.gt.le u hu) hu
theorem hop_next (s:St n R W T B) {fr tg u v:Nat} {back:Int} {Z:Int × Int × Int->Prop} {D:List (Int × Int × Int)} (h:Hop R T fr back Z) (hD:Met R fr Z D) (hfr:fr<n) (hrep:T.getD fr 0=fr)
 {e:Int × Int × Int} (he:brR R e) (huv:Ends e u v) (hu:T.getD u 0=fr) (hv:((T.getD v 0:Nat):Int)≠back):
 Hop R T (T.getD v 0) fr (but (·∈R) e)/\e∈D/\Met R (T.getD v 0) (but (·∈R) e) (D.filter λ d=>decide (d≠e))/\(cn ea eb (but (·∈R) e) (T.getD v 0) tg->cn ea eb Z fr tg):=by
 have hlt:=huv.lt s he.1;have hfu:twR R fr u:=(s.tw hfr hlt.1).2 (by rw [hrep,hu]);have hvr:=s.rep hlt.2;have hEdge:∀d,d≠e->cn ea eb (but (·∈R) d) u v:=by
  intro d hd;rcases huv with ⟨rfl,rfl⟩ | ⟨rfl,rfl⟩
  ·exact cn_edge ⟨he.1,λ k=>hd k.symm⟩
  ·exact cn_symm (cn_edge ⟨he.1,λ k=>hd k.symm⟩)
 have hEdgeR:cnR R u v:=by
  rcases huv with ⟨rfl,rfl⟩ | ⟨rfl,rfl⟩
  ·exact cn_edge he.1
  ·exact cn_symm (cn_edge he.1)
 refine ⟨.inr ⟨e,u,v,he,huv,by rw [hu],rfl,rfl⟩,?_⟩;rcases h with ⟨_,rfl⟩ | ⟨e0,p,q,h0,hpq,hbk,hq,rfl⟩
 ·refine ⟨?_,?_,?_⟩
  ·refine hD e he he.1 ?_
   rcases huv with ⟨rfl,rfl⟩ | ⟨rfl,rfl⟩
   ·exact cn_symm hfu.1
   ·exact cn_trans (cn_symm hEdgeR) (cn_symm hfu.1)
  ·intro d hd hz hc
   refine List.mem_filter.2 ⟨hD d hd hd.1 ?_,by simpa using hz.2⟩;exact cn_trans (cn_but hc) (cn_trans (cn_symm hvr.1) (cn_trans (cn_symm hEdgeR) (cn_symm hfu.1)))
  ·intro hc
   exact cn_trans hfu.1 (cn_trans hEdgeR (cn_trans hvr.1 (cn_but hc)))
 ·have hlt0:=hpq.lt s h0.1
  have hqf:twR R q fr:=(s.tw hlt0.2 hfr).2 (by rw [hrep,hq]);have hne:e0≠e:=by
   rintro rfl;have hnt:T.getD u 0≠T.getD v 0:=by
    intro k;have:=(s.tw hlt.1 hlt.2).2 k;rcases huv with ⟨rfl,rfl⟩ | ⟨rfl,rfl⟩
    ·exact br_not_tw he this
    ·exact br_not_tw he (tw_symm this)
   rcases huv with ⟨rfl,rfl⟩ | ⟨rfl,rfl⟩ <;> rcases hpq with ⟨rfl,rfl⟩ | ⟨rfl,rfl⟩
   ·exact hnt (by rw [hu,hq])
   ·exact hv hbk.symm
   ·exact hv hbk.symm
   ·exact hnt (by rw [hu,hq])
  have hqu:twR R q u:=tw_trans hqf hfu;refine ⟨?_,?_,?_⟩
  ·refine hD e he ⟨he.1,λ k=>hne k.symm⟩ ?_
   have hfu0:=hfu.2 e0 h0.1;have hed:=hEdge e0 hne;rcases huv with ⟨rfl,rfl⟩ | ⟨rfl,rfl⟩
   ·exact cn_symm hfu0
   ·exact cn_trans (cn_symm hed) (cn_symm hfu0)
  ·intro d hd hz hc
   have hc':cn ea eb (but (·∈R) e) (ea d) v:=cn_trans hc (cn_symm (hvr.2 e he.1));have hnar:=narrower h0 he hne hpq huv hqu hc';refine List.mem_filter.2 ⟨hD d hd ⟨hd.1,λ k=>hnar.1 (by rw [k])⟩ ?_,by simpa using hz.2⟩;exact cn_trans hnar.2 (cn_symm (hfu.2 e0 h0.1))
  ·intro hc
   have hc':cn ea eb (but (·∈R) e) tg v:=cn_trans (cn_symm hc) (cn_symm (hvr.2 e he.1));have hnar:=narrower h0 he hne hpq huv hqu hc';exact cn_trans (hfu.2 e0 h0.1) (cn_symm hnar.2)
theorem hop_none (s:St n R W T B) {fr tg:Nat} {back:Int} {Z:Int × Int × Int->Prop} (h:Hop R T fr back Z) (hfr:fr<n) (hrep:T.getD fr 0=fr) (hto:tg<n) (hrept:T.getD tg 0=tg) (hne:fr≠tg)
 (hno:∀e∈B,∀u v,Ends e u v->T.getD u 0=fr->((T.getD v 0:Nat):Int)≠back->¬cn ea eb (but (·∈R) e) (T.getD v 0) tg):¬cn ea eb Z fr tg:=by
 intro hc;have hZ:∀e,Z e->e∈R:=by
  rcases h with ⟨_,rfl⟩ | ⟨e0,p,q,h0,hpq,hbk,hq,rfl⟩
  ·exact λ _ h=>h
  ·exact λ _ h=>h.1
 rcases first_step (T:=(·∈R)) Z hZ hc with h1 | ⟨e,u,v,he,hz,huv,hfu,hvt⟩
 ·exact hne (by rw [<-hrep,<-hrept];exact (s.tw hfr hto).1 h1)
 ·have hlt:=Ends.lt s he.1 huv
  have hu:T.getD u 0=fr:=by rw [<-(s.tw hfr hlt.1).1 hfu,hrep]
  have hvr:=s.rep hlt.2;refine hno e ((s.hB e).2 he) u v huv hu ?_ (cn_trans (cn_symm (hvr.2 e he.1)) hvt);rcases h with ⟨hbk,rfl⟩ | ⟨e0,p,q,h0,hpq,hbk,hq,rfl⟩
  ·rw [hbk];omega
  ·intro k
   have hlt0:=Ends.lt s h0.1 hpq;have hpv:twR R p v:=(s.tw hlt0.1 hlt.2).2 (by rw [hbk] at k;omega);have hqu:twR R q u:=(s.tw hlt0.2 hlt.1).2 (by rw [hq,hu]);have huv':cn ea eb (but (·∈R) e0) u v:=by
    rcases huv with ⟨rfl,rfl⟩ | ⟨rfl,rfl⟩
    ·exact cn_edge hz
    ·exact cn_symm (cn_edge hz)
   have hpq':cn ea eb (but (·∈R) e0) p q:=cn_trans (hpv.2 e0 h0.1) (cn_trans (cn_symm huv') (cn_symm (hqu.2 e0 h0.1)));rcases hpq with ⟨rfl,rfl⟩ | ⟨rfl,rfl⟩
   ·exact h0.2 hpq'
   ·exact h0.2 (cn_symm hpq')
def Way (R:List (Int × Int × Int)) (x y:Nat) (ds:List (Int × Int × Int)):Prop:=ds.Nodup/\∀e,e∈ds↔sepR R x y e
theorem way_nil (x:Nat):Way R x x []:=⟨List.nodup_nil,λ e=>by simp [sep,cn_refl]⟩
theorem way_snoc (s:St n R W T B) {fr tg u v:Nat} (hfr:fr<n) (hrep:T.getD fr 0=fr) {e:Int × Int × Int} (he:brR R e) (huv:Ends e u v) (hu:T.getD u 0=fr)
 (hc:cn ea eb (but (·∈R) e) (T.getD v 0) tg) {ds:List (Int × Int × Int)} (hw:Way R (T.getD v 0) tg ds):Way R fr tg (ds++[e]):=by
 have hlt:=huv.lt s he.1;have hfu:twR R fr u:=(s.tw hfr hlt.1).2 (by rw [hrep,hu]);have hvr:=s.rep hlt.2;refine ⟨?_,λ d=>?_⟩
 ·rw [List.nodup_append]
  refine ⟨hw.1,by simp,?_⟩;intro x hx y hy;rw [List.mem_singleton.1 hy];rintro rfl;exact ((hw.2 x).1 hx).2 hc
 ·have:=sep_step (T:=(·∈R)) he huv hfu hvr (cn_trans (hvr.2 e he.1) hc) d
  rw [List.mem_append,List.mem_singleton,hw.2];simp only [sepR];rw [this];exact or_comm
theorem Way.mem_B (s:St n R W T B) {x y:Nat} (h:cnR R x y) {ds:List (Int × Int × Int)} (hw:Way R x y ds):∀e∈ds,e∈B:=λ e he=>(s.hB e).2 (sep_br h ((hw.2 e).1 he))
theorem Way.ends (s:St n R W T B) {x y:Nat} (hx:x<n) (hy:y<n) {ds:List (Int × Int × Int)} (hw:Way R (T.getD x 0) (T.getD y 0) ds):∀e,e∈ds↔sepR R x y e:=λ e=>by
 rw [hw.2];exact (sep_congr (s.rep hx) (s.rep hy) e).symm
end Go.Proofs.YtebcjaenhiiflaaGreatDoor.S
namespace Go.Proofs.YtebcjaenhiiflaaGreatDoor.S
def Lab (n:Nat) (R:List (Int × Int × Int)) (l:List Nat):Prop:=l.length=n/\∀x,x<n->l.getD x 0<=x/\cnR R x (l.getD x 0)
theorem lab_start (n:Nat) (R:List (Int × Int × Int)):Lab n R (List.range n):=⟨by simp,λ x hx=>by simp [hx,cn_refl]⟩
def told (l:List Nat) (u v:Nat):List Nat:=(l.set u (min (l.getD u 0) (l.getD v 0))).set v (min (l.getD u 0) (l.getD v 0))
theorem told_length (l:List Nat) (u v:Nat):(told l u v).length=l.length:=by simp [told]
theorem told_at {l:List Nat} {u v x:Nat} (hx:x<l.length):(told l u v).getD x 0=if x=u\/x=v then min (l.getD u 0) (l.getD v 0) else l.getD x 0:=by
 unfold told;by_cases h1:v=x
 ·subst h1;simp [hx]
 ·by_cases h2:u=x
  ·subst h2;simp [hx,h1]
  ·have:¬(x=u\/x=v):=by omega
   simp [hx,h1,h2,this]
theorem lab_step {n:Nat} {R:List (Int × Int × Int)} {l:List Nat} (h:Lab n R l) {e:Int × Int × Int} (he:e∈R) (ha:ea e<n) (hb:eb e<n):Lab n R (told l (ea e) (eb e)):=by
 refine ⟨by rw [told_length];exact h.1,λ x hx=>?_⟩;rw [told_at (by rw [h.1];exact hx)];have hA:=h.2 _ ha;have hB:=h.2 _ hb;have hc:cnR R (ea e) (eb e):=cn_edge he;have key:∀{x},x=ea e\/x=eb e->cnR R x (min (l.getD (ea e) 0) (l.getD (eb e) 0)):=by
  rintro x (rfl | rfl)
  ·rcases Nat.le_total (l.getD (ea e) 0) (l.getD (eb e) 0) with k | k
   ·rw [Nat.min_eq_left k];exact hA.2
   ·rw [Nat.min_eq_right k];exact cn_trans hc hB.2
  ·rcases Nat.le_total (l.getD (ea e) 0) (l.getD (eb e) 0) with k | k
   ·rw [Nat.min_eq_left k];exact cn_trans (cn_symm hc) hA.2
   ·rw [Nat.min_eq_right k];exact hB.2
 split
 ·next hk=>
  refine ⟨?_,key hk⟩;rcases hk with rfl | rfl
  ·have:=hA.1;omega
  ·have:=hB.1;omega
 ·exact h.2 x hx
theorem sum_set:∀(l:List Nat) (u k:Nat),u<l.length->(l.set u k).sum+l.getD u 0=l.sum+k
 | [],u,k,h=>by simp at h
 | x::l,0,k,_=>by simp;omega
 | x::l,u+1,k,h=>by
   have:=sum_set l u k (by simpa using h);simp at this ⊢;omega
theorem told_sum {l:List Nat} {u v:Nat} (hu:u<l.length) (hv:v<l.length) (hne:l.getD u 0≠l.getD v 0):(told l u v).sum<l.sum:=by
 unfold told;have huv:u≠v:=λ k=>hne (by rw [k])
 have h1:=sum_set l u (min (l.getD u 0) (l.getD v 0)) hu;have h2:=sum_set (l.set u (min (l.getD u 0) (l.getD v 0))) v (min (l.getD u 0) (l.getD v 0)) (by simpa using hv);have h3:(l.set u (min (l.getD u 0) (l.getD v 0))).getD v 0=l.getD v 0:=by simp [huv]
 rw [h3] at h2;omega
theorem lab_done {n:Nat} {R:List (Int × Int × Int)} {l:List Nat} (h:Lab n R l) (hin:∀e∈R,ea e<n/\eb e<n) (hd:∀e∈R,l.getD (ea e) 0=l.getD (eb e) 0) {u v:Nat} (hu:u<n) (hv:v<n):l.getD u 0=l.getD v 0↔cnR R u v:=by
 constructor
 ·intro k
  have h1:=(h.2 u hu).2;have h2:=(h.2 v hv).2;rw [k] at h1;exact cn_trans h1 (cn_symm h2)
 ·intro k
  have:Lk n l u v:=Conn.least (P:=Lk n l) k (λ _=>Lk.refl _) (λ _ _ h=>h.symm) (λ _ _ _ h k=>h.trans k) (by
   rintro _ _ ⟨e,he,rfl,rfl⟩;exact .inr ⟨(hin e he).1,(hin e he).2,hd e he⟩)
  exact (Lk.iff hu hv).1 this
def rest (R:List (Int × Int × Int)) (e:Int × Int × Int):List (Int × Int × Int):=R.filter λ d=>decide (d.1≠e.1)
theorem mem_rest {R:List (Int × Int × Int)} (h1:∀e∈R,∀d∈R,e.1=d.1->e=d) {e:Int × Int × Int} (he:e∈R):(·∈rest R e)=but (·∈R) e:=by
 funext d;apply propext
 simp only [rest,List.mem_filter,decide_eq_true_eq,but];constructor
 ·rintro ⟨h,k⟩;exact ⟨h,λ c=>k (by rw [c])⟩
 ·rintro ⟨h,k⟩;exact ⟨h,λ c=>k (h1 d h e he c)⟩
def idsOf (R B:List (Int × Int × Int)):List Int:=(R.filter λ e=>decide (e∈B)).map (·.1)
theorem ids_rise {R B:List (Int × Int × Int)} (h:R.Pairwise λ x y=>x.1<y.1):(idsOf R B).Pairwise (·<·):=by
 unfold idsOf;rw [List.pairwise_map];exact List.Pairwise.filter _ h
theorem mem_ids {R B:List (Int × Int × Int)} (hBR:∀e∈B,e∈R) (x:Int):x∈idsOf R B↔∃e∈B,e.1=x:=by
 simp only [idsOf,List.mem_map,List.mem_filter,decide_eq_true_eq];exact ⟨λ ⟨e,h,k⟩=>⟨e,h.2,k⟩,λ ⟨e,h,k⟩=>⟨e,⟨hBR e h,h⟩,k⟩⟩
end Go.Proofs.YtebcjaenhiiflaaGreatDoor.S
namespace Go.Proofs.YtebcjaenhiiflaaGreatDoor.S
open Go.RowKit
def Strange (n:Nat) (x:Int):Prop:=x<0\/(n:Int)<=x
theorem same_out (x y:Int) (p b:Nat) (L:List Nat) (w:World) (hs:SetsAt w p b L) (hx:Strange L.length x\/Strange L.length y):
 Calls Tryz.prog 130 #[.pointer (some ⟨p,0,none⟩),.int .i64 x,.int .i64 y] w λ e w'=>e= .returned (.tuple #[.bool false,.iface 23 (.int .i64 2)])/\Below w.heap.size w w':=by
 have HX:Hid (Strange L.length x\/Strange L.length y):=hx;clear hx;go_enter Tryz.func130,Tryz.ntmps130;go_wp2_with fail;refine (check2_out x y w.heap.size p b 2 L _ (sets_alloc hs _) (by simp) (by simp) (by simp) HX.out).mono ?_;rintro e w' ⟨rfl,rfl⟩;clear hs;go_wp2;go_ret2;exact ⟨rfl,below_two _ _ _⟩
theorem same_in (x y p b:Nat) (L:List Nat) (s:Bool) (w:World) (hs:SetsAt w p b L) (hx:x<L.length) (hy:y<L.length) (hv:(((L.getD x 0:Nat):Int)==((L.getD y 0:Nat):Int))=s):
 Calls Tryz.prog 130 #[.pointer (some ⟨p,0,none⟩),.int .i64 (x:Int),.int .i64 (y:Int)] w λ e w'=>e= .returned (.tuple #[.bool s,.nilIface])/\Below w.heap.size w w':=by
 go_enter Tryz.func130,Tryz.ntmps130;go_wp2_with fail;refine (check2_in (x:Int) (y:Int) w.heap.size p b 2 L _ (sets_alloc hs _) ?c1 ?c2 ?c3 (by omega) (by omega) (by omega) (by omega)).mono ?_;case c1=>simp
 case c2=>simp
 case c3=>simp
 rintro e w' ⟨rfl,rfl⟩;have hs2:=sets_alloc (sets_alloc hs (Obj.cells #[Value.int IntKind.i64 ↑x,Value.int IntKind.i64 ↑y] 3)) (Obj.cells #[Value.pointer (some {block:=p,off:=0})] 175);have hb:=below_two w (Obj.cells #[Value.int IntKind.i64 ↑x,Value.int IntKind.i64 ↑y] 3) (Obj.cells #[Value.pointer (some {block:=p,off:=0})] 175);generalize (w.alloc (Obj.cells #[Value.int IntKind.i64 ↑x,Value.int IntKind.i64 ↑y] 3)).alloc (Obj.cells #[Value.pointer (some {block:=p,off:=0})] 175)=W at hs2 hb ⊢;have HB:Hid (Below w.heap.size w W):=hb;clear hb hs;have hp:=hs2.pcell;have hcx:=hs2.bcell x hx;have hcy:=hs2.bcell y hy;clear hs2;generalize L.getD x 0=X at*;generalize L.getD y 0=Y at*;go_wp2_with fail;go_quiet (fail);clear hcx hcy hp;go_wp2_with fail;go_ret2;exact ⟨by simp,below_drewN HB.out _⟩
def lst (L:List Nat) (x:Nat):List Nat:=(List.range x).filter λ y=>L.getD y 0==y
def pgr (L:List Nat) (x:Nat):List (List Nat):=(lst L x).map (grp L x)
theorem mem_lst {L:List Nat} {x y:Nat}:y∈lst L x↔y<x/\L.getD y 0=y:=by
 unfold lst;rw [List.mem_filter,List.mem_range,beq_iff_eq]
theorem pgr_length (L:List Nat) (x:Nat):(pgr L x).length=(lst L x).length:=by simp [pgr]
theorem pgr_at (L:List Nat) (x i:Nat) (h:i<(lst L x).length):(pgr L x).getD i []=grp L x ((lst L x).getD i 0):=by
 simp [pgr,h]
theorem lst_at {L:List Nat} {x i:Nat} (h:i<(lst L x).length):(lst L x).getD i 0<x/\L.getD ((lst L x).getD i 0) 0=(lst L x).getD i 0:=by
 have hm:(lst L x).getD i 0∈lst L x:=by
  have:(lst L x).getD i 0=(lst L x)[i]:=by simp [h]
  rw [this];exact List.getElem_mem h
 exact mem_lst.1 hm
theorem grp_head' {n x:Nat} {L:List Nat} (g:Good n L) (hx:x<=n) {y:Nat} (hy:y<x) (h:L.getD y 0=y):(grp L x y).getD 0 0=y:=by
 have hxm:y∈grp L x y:=mem_grp.2 ⟨hy,h⟩;have hp:(grp L x y).Pairwise (·<·):=by
  unfold grp;exact List.Pairwise.filter _ List.pairwise_lt_range
 have hle:∀i∈grp L x y,y<=i:=λ i hi=>by
  obtain ⟨h1,h2⟩:=mem_grp.1 hi;have:=g.le i (by omega);omega
 cases hg:grp L x y with
 | nil=>rw [hg] at hxm;cases hxm
 | cons a r=>
   rw [hg] at hxm hp hle;show a=y;have h1:=hle a (by simp);rcases List.mem_cons.1 hxm with h2 | h2
   ·exact h2.symm
   ·have:=(List.pairwise_cons.1 hp).1 y h2
    omega
theorem grp_pos {x y:Nat} {L:List Nat} (hy:y<x) (h:L.getD y 0=y):0<(grp L x y).length:=
 List.length_pos_iff.2 (λ e=>by
  have:y∈grp L x y:=mem_grp.2 ⟨hy,h⟩;rw [e] at this;cases this)
theorem lst_succ_least {L:List Nat} {x:Nat} (h:L.getD x 0=x):lst L (x+1)=lst L x++[x]:=by
 have hb:(L.getD x 0==x)=true:=beq_iff_eq.2 h;unfold lst;rw [List.range_succ,List.filter_append,List.filter_cons,hb];simp
theorem lst_succ_other {L:List Nat} {x:Nat} (h:L.getD x 0≠x):lst L (x+1)=lst L x:=by
 have hb:(L.getD x 0==x)=false:=beq_eq_false_iff_ne.2 h;unfold lst;rw [List.range_succ,List.filter_append,List.filter_cons,hb];simp
theorem lst_inj (L:List Nat) (x i j:Nat) (hi:i<(lst L x).length) (hj:j<(lst L x).length) (e:(lst L x)[i]=(lst L x)[j]):i=j:=by
 have hp:(lst L x).Pairwise (·<·):=by
  unfold lst;exact List.Pairwise.filter _ List.pairwise_lt_range
 rw [List.pairwise_iff_getElem] at hp;rcases Nat.lt_trichotomy i j with h | h | h
 ·have:=hp i j hi hj h
  omega
 ·exact h
 ·have:=hp j i hj hi h
  omega
theorem pgr_found {x i:Nat} {L:List Nat} (hi:i<(lst L x).length) (h:(lst L x).getD i 0=L.getD x 0):pgr L (x+1)=(pgr L x).set i (grp L x ((lst L x).getD i 0)++[x]):=by
 have hl:=lst_at hi;have hne:L.getD x 0≠x:=by omega
 unfold pgr;rw [lst_succ_other hne];apply List.ext_getElem
 ·simp
 ·intro j h1 h2
  rw [List.getElem_set];simp only [List.getElem_map];have hj:j<(lst L x).length:=by simpa using h1
  by_cases e:i=j
  ·subst e
   have e1:(lst L x)[i]=(lst L x).getD i 0:=by simp [hi]
   rw [if_pos rfl,e1,h,grp_succ_same]
  ·rw [if_neg e]
   have e1:(lst L x)[i]=(lst L x).getD i 0:=by simp [hi]
   have hn:(lst L x)[j]≠L.getD x 0:=by
    rw [<-h,<-e1];intro e2;exact e (lst_inj L x i j hi hj e2.symm)
   rw [grp_succ_other L x _ (λ e3=>hn e3.symm)]
theorem pgr_none {n x:Nat} {L:List Nat} (g:Good n L) (hx:x<n) (h:∀i,i<(lst L x).length->(lst L x).getD i 0≠L.getD x 0):pgr L (x+1)=pgr L x++[[x]]:=by
 have hLx:L.getD x 0=x:=by
  have h1:=g.le x hx;have h2:=g.idem x hx;rcases Nat.lt_or_ge (L.getD x 0) x with h3 | h3
  ·have hm:L.getD x 0∈lst L x:=mem_lst.2 ⟨h3,h2⟩
   obtain ⟨i,hi,e⟩:=List.getElem_of_mem hm;exact absurd (by rw [<-e];simp [hi]) (h i hi)
  ·omega
 unfold pgr;rw [lst_succ_least hLx,List.map_append]
 congr 1
 ·apply List.map_congr_left
  intro y hy;exact grp_succ_other L x y (by have:=(mem_lst.1 hy).1;omega)
 ·have e:grp L (x+1) x=grp L x x++[x]:=by
   have:=grp_succ_same L x;rw [hLx] at this;exact this
  have e2:grp L x x=[]:=by
   cases hg:grp L x x with
   | nil=>rfl
   | cons a r=>
     have:a∈grp L x x:=by rw [hg];simp
     obtain ⟨h1,h2⟩:=mem_grp.1 this;have:=g.le a (by omega);omega
  simp [e,e2]
theorem pgr_all {n:Nat} {L:List Nat} (g:Good n L):pgr L n=grps L n:=by
 unfold pgr grps;rw [g.len];rw [List.filter_map]
 congr 1
 unfold lst;apply List.filter_congr;intro y hy;have hy':=List.mem_range.1 hy;have hs:=grp_some g hy';rw [Bool.eq_iff_iff,beq_iff_eq];simp only [Function.comp,Bool.not_eq_true',List.isEmpty_eq_false_iff];exact hs.symm
end Go.Proofs.YtebcjaenhiiflaaGreatDoor.S
namespace Go.Proofs.YtebcjaenhiiflaaGreatDoor.S
open Go.RowKit
def rvals (Gs:List (List Nat)) (r c:Nat->Nat):List Value:=(List.range Gs.length).map λ i=>.slice (some ⟨r i,0,none⟩) (Gs.getD i []).length (c i)
theorem rvals_at (Gs:List (List Nat)) (r c:Nat->Nat) (i:Nat) (h:i<Gs.length):(rvals Gs r c)[i]? =some (.slice (some ⟨r i,0,none⟩) (Gs.getD i []).length (c i)):=by
 simp [rvals,h]
structure POut (w:World) (base:Nat) (t:Value) (Gs:List (List Nat)) (r c:Nat->Nat):Prop where
 own:w.ownsRow base 48 1 t Gs.length (rvals Gs r c)
 each:∀i,i<Gs.length->w.ownsInts base 3 .i64 (.slice (some ⟨r i,0,none⟩) (Gs.getD i []).length (c i)) (ints (Gs.getD i []))
 apart:∀i j,i<Gs.length->j<Gs.length->i≠j->r i≠r j
theorem pout_start (w:World) (base:Nat) (r c:Nat->Nat):POut w base (.slice none 0 0) [] r c:=
 ⟨World.ownsRow_nil _ _ _ _,λ i hi=>absurd hi (by simp),λ i j hi=>absurd hi (by simp)⟩
theorem pout_drewN {w:World} {base:Nat} {t:Value} {Gs:List (List Nat)} {r c:Nat->Nat} (h:POut w base t Gs r c) (n:Nat):POut (w.drewN n) base t Gs r c:=⟨h.own,h.each,h.apart⟩
theorem POut.ne {w:World} {base:Nat} {t:Value} {Gs:List (List Nat)} {r c:Nat->Nat} (h:POut w base t Gs r c) (i:Nat) (hi:i<Gs.length):t.ownBlock≠some (r i):=by
 intro e;have h2:=(h.each i hi).1.2;rcases h.own.2 with ⟨rfl,_⟩ | ⟨g,cap,cur,rfl,_,hg,_⟩
 ·simp [Value.ownBlock] at e
 ·simp only [Value.ownBlock,Option.some.injEq] at e
  rcases h2 with ⟨h3,_⟩ | ⟨g',cap',cur',h3,_,hg',_⟩
  ·cases h3
  ·simp only [Value.slice.injEq,Option.some.injEq,Addr.mk.injEq] at h3
   rw [<-h3.1.1,<-e,hg] at hg';injection hg' with h4
   injection h4 with _ h5
   exact absurd h5 (by decide)
theorem POut.head {w:World} {base:Nat} {t:Value} {Gs:List (List Nat)} {r c:Nat->Nat} (h:POut w base t Gs r c) (i:Nat) (hi:i<Gs.length) (hp:0<(Gs.getD i []).length):w.cell? ⟨r i,0,none⟩=some (.int .i64 (((Gs.getD i []).getD 0 0:Nat):Int)):=by
 have h1:=(h.each i hi).1;rw [ints_length] at h1;rw [h1.cellAt 0 (by omega)];generalize Gs.getD i []=G at*;simp [ints,hp]
theorem POut.outcell {w:World} {base g m cap:Nat} {Gs:List (List Nat)} {r c:Nat->Nat} (h:POut w base (.slice (some ⟨g,0,none⟩) m cap) Gs r c) (hm:m=Gs.length) (i:Nat) (hi:i<Gs.length):w.cell? ⟨g,i,none⟩=some (.slice (some ⟨r i,0,none⟩) (Gs.getD i []).length (c i)):=by
 subst hm;rw [h.own.cellAt i (by omega),rvals_at _ _ _ _ hi]
theorem POut.shape {w:World} {base:Nat} {t:Value} {Gs:List (List Nat)} {r c:Nat->Nat} (h:POut w base t Gs r c):∃a cap,t= .slice a Gs.length cap/\(0<Gs.length->∃g,a=some ⟨g,0,none⟩):=by
 rcases h.own.2 with ⟨rfl,h0⟩ | ⟨g,cap,cur,rfl,_⟩
 ·exact ⟨none,0,by rw [h0],λ h=>absurd h (by omega)⟩
 ·exact ⟨_,cap,rfl,λ _=>⟨g,rfl⟩⟩
theorem getD_snoc_lt {Gs:List (List Nat)} {G:List Nat} {i:Nat} (h:i<Gs.length):(Gs++[G]).getD i []=Gs.getD i []:=by simp [List.getElem?_append_left h]
theorem getD_snoc_eq {Gs:List (List Nat)} {G:List Nat}:(Gs++[G]).getD Gs.length []=G:=by simp
theorem POut.snoc {w w1:World} {base:Nat} {t v':Value} {Gs:List (List Nat)} {r c:Nat->Nat} (h:POut w base t Gs r c) (hbase:base<=w.heap.size) (x:Nat) (o:Obj)
 (hown:w1.ownsRow base 48 1 v' (Gs.length+1) (rvals Gs r c++[.slice (some ⟨w.heap.size,0,none⟩) 1 1])) (hg:((w.alloc (.cells #[.int .i64 (x:Int)] 3)).alloc o).grownBy w1 t.ownBlock) (hx:x<=1000000):
 ∃r' c',POut w1 base v' (Gs++[[x]]) r' c':=by
 refine ⟨λ i=>if i=Gs.length then w.heap.size else r i,λ i=>if i=Gs.length then 1 else c i,?_,?_,?_⟩
 ·have e:rvals (Gs++[[x]]) (λ i=>if i=Gs.length then w.heap.size else r i) (λ i=>if i=Gs.length then 1 else c i)=rvals Gs r c++[.slice (some ⟨w.heap.size,0,none⟩) 1 1]:=by
   unfold rvals;rw [List.length_append];show List.map _ (List.range (Gs.length+1))=_;rw [List.range_succ,List.map_append]
   congr 1
   ·apply List.map_congr_left
    intro i hi;have hi':=List.mem_range.1 hi;have hne:i≠Gs.length:=by omega
    simp only [if_neg hne];rw [getD_snoc_lt hi']
   ·simp
  rw [e,List.length_append];exact hown
 ·intro i hi
  rw [List.length_append] at hi;have hi:i<Gs.length+1:=hi;by_cases e:i=Gs.length
  ·subst e
   simp only [if_pos];rw [getD_snoc_eq];have h1:(w.alloc (.cells #[.int .i64 (x:Int)] 3)).ownsRow base 3 1 (.slice (some ⟨w.heap.size,0,none⟩) 1 1) 1 [.int .i64 (x:Int)]:=World.ownsRow_lit w #[.int .i64 (x:Int)] 1 hbase (by decide) rfl;refine ⟨?_,λ z hz=>?_⟩
   ·refine (h1.alloc o).kept hg (Or.inr ?_)
    intro e2;have:=(h.own.lt w.heap.size e2.symm).2;omega
   ·simp [ints] at hz
    subst hz;exact WalkArith.wf_i64 (by omega)
  ·simp only [if_neg e]
   have hi':i<Gs.length:=by omega
   rw [getD_snoc_lt hi'];have h1:=h.each i hi';exact ((h1.alloc _).alloc o).kept hg (Or.inr (λ e2=>h.ne i hi' e2.symm))
 ·intro i j hi hj hne
  rw [List.length_append] at hi hj;have hi:i<Gs.length+1:=hi;have hj:j<Gs.length+1:=hj;by_cases e1:i=Gs.length
  ·by_cases e2:j=Gs.length
   ·omega
   ·simp only [if_pos e1,if_neg e2]
    have:=((h.each j (by omega)).1.lt (r j) rfl).2;omega
  ·by_cases e2:j=Gs.length
   ·simp only [if_neg e1,if_pos e2]
    have:=((h.each i (by omega)).1.lt (r i) rfl).2;omega
   ·simp only [if_neg e1,if_neg e2]
    exact h.apart i j (by omega) (by omega) hne
theorem POut.grow {w w1:World} {base g m cap k ρ κ:Nat} {Gs:List (List Nat)} {r c:Nat->Nat} (h:POut w base (.slice (some ⟨g,0,none⟩) m cap) Gs r c) (hm:m=Gs.length) (hk:k<Gs.length) (x:Nat) (o:Obj)
 (hown:w1.ownsInts base 3 .i64 (.slice (some ⟨ρ,0,none⟩) ((Gs.getD k []).length+1) κ) (ints (Gs.getD k []++[x]))) (hg:(w.alloc o).grownBy w1 (some (r k)))
 (hloc:ρ=r k\/ρ=w.heap.size+1):
 POut (w1.setCell ⟨g,k,none⟩ (.slice (some ⟨ρ,0,none⟩) ((Gs.getD k []).length+1) κ)) base (.slice (some ⟨g,0,none⟩) m cap) (Gs.set k (Gs.getD k []++[x])) (λ i=>if i=k then ρ else r i) (λ i=>if i=k then κ else c i):=by
 subst hm;have hgk:g≠r k:=λ e=>h.ne k hk (by rw [<-e];rfl)
 have ht1:w1.ownsRow base 48 1 (.slice (some ⟨g,0,none⟩) Gs.length cap) Gs.length (rvals Gs r c):=(h.own.alloc o).kept hg (Or.inr (λ e=>h.ne k hk e));have ht2:=ht1.stored k (.slice (some ⟨ρ,0,none⟩) ((Gs.getD k []).length+1) κ);have hset:∀i,i<Gs.length->(Gs.set k (Gs.getD k []++[x])).getD i []=if i=k then Gs.getD k []++[x] else Gs.getD i []:=by
  intro i hi;by_cases e:i=k
  ·subst e;simp [hi]
  ·rw [if_neg e]
   have this:∀G:List Nat,(Gs.set k G).getD i []=Gs.getD i []:=by
    intro G;rw [List.getD_eq_getElem?_getD,List.getElem?_set,if_neg (λ e2=>e e2.symm),<-List.getD_eq_getElem?_getD]
   exact this _
 have hglt:g<w.heap.size:=(h.own.lt g rfl).2;have hρ:∀i,i<Gs.length->i≠k->r i≠ρ:=by
  intro i hi hn e;rcases hloc with e2 | e2
  ·exact h.apart i k hi hk hn (e.trans e2)
  ·have:=((h.each i hi).1.lt (r i) rfl).2
   omega
 have hgρ:ρ≠g:=by
  rcases hloc with e | e
  ·rw [e];exact λ e2=>hgk e2.symm
  ·omega
 refine ⟨?_,?_,?_⟩
 ·have e:rvals (Gs.set k (Gs.getD k []++[x])) (λ i=>if i=k then ρ else r i) (λ i=>if i=k then κ else c i)=(rvals Gs r c).set k (.slice (some ⟨ρ,0,none⟩) ((Gs.getD k []).length+1) κ):=by
   apply List.ext_getElem
   ·simp [rvals]
   ·intro i h1 h2
    have hi:i<Gs.length:=by simpa [rvals] using h1
    rw [List.getElem_set];simp only [rvals,List.getElem_map,List.getElem_range];rw [hset i hi];by_cases e:i=k
    ·rw [if_pos e,if_pos e,if_pos e,if_pos e.symm,List.length_append];rfl
    ·rw [if_neg e,if_neg e,if_neg e,if_neg (λ e2=>e e2.symm)]
  rw [e,List.length_set];exact ht2.1
 ·intro i hi
  rw [List.length_set] at hi;rw [hset i hi];by_cases e:i=k
  ·simp only [if_pos e,List.length_append]
   exact hown.kept ht2.2 (Or.inr (λ e2=>hgρ (by simpa [Value.ownBlock] using e2)))
  ·simp only [if_neg e]
   have h1:=(h.each i hi).alloc o;refine (h1.kept hg (Or.inr (λ e2=>h.apart i k hi hk e (by simpa [Value.ownBlock] using e2)))).kept ht2.2 (Or.inr (λ e2=>h.ne i hi (by simpa [Value.ownBlock] using e2.symm)))
 ·intro i j hi hj hne
  rw [List.length_set] at hi hj;by_cases e1:i=k
  ·by_cases e2:j=k
   ·omega
   ·simp only [if_pos e1,if_neg e2]
    exact λ e=>hρ j hj e2 e.symm
  ·by_cases e2:j=k
   ·simp only [if_neg e1,if_pos e2]
    exact hρ i hi e1
   ·simp only [if_neg e1,if_neg e2]
    exact h.apart i j hi hj hne
end Go.Proofs.YtebcjaenhiiflaaGreatDoor.S
