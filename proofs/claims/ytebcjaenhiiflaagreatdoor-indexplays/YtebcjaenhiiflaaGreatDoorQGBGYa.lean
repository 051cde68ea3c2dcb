import Derived.WalkKit
import Derived.WalkSpells
import Derived.WalkLawsBesides
import Derived.Laws.AppendOwn
import Derived.Laws.IdiomCopy
import Derived.Deep.DeepAppendWide
import Derived.Laws.CopyOwn
import Derived.Laws.CopyRow
import Derived.Lib.AppendZerosOnto
import Derived.BigQuiet
import Derived.Sort.AtCall
import Derived.Deep.LoopGhost
import Derived.Laws.Shifts
import Derived.Lib.Overlaps
import Derived.Lib.AppendZeros
import Derived.Deep.RegionLaw
import Derived.Laws.ResultCell
import Derived.Deep.RegionHeld
import Derived.Deep.RegionHeldLaw
import Derived.Test.YtebcjaenhiiflaaGreatDoorQHi
import Derived.Test.YtebcjaenhiiflaaGreatDoorProg
import Derived.RowKit
import Derived.KernelRfl
import Derived.Test.YtebcjaenhiiflaaGreatDoorQGMFm
set_option maxHeartbeats 4000000
set_option maxRecDepth 100000
namespace Go.Proofs.YtebcjaenhiiflaaGreatDoor.G
open Go.RowKit Go.Proofs.Tryz
def zaq (x:E):List Value:=[.int .i64 x.1,.int .i64 x.2.1,.int .i64 x.2.2]
def zaf (L:List E):List Value:=L.flatMap zaq
theorem zbu (x:E) (L:List E):zaf (x::L)=zaq x++zaf L:=rfl
theorem zc8 (L M:List E):zaf (L++M)=zaf L++zaf M:=by simp [zaf]
theorem zah:∀L:List E,(zaf L).length=L.length*3
 | []=>rfl
 | x::L=>by rw [zbu,List.length_append,zah L];simp [zaq];omega
theorem zcj:∀(L:List E),∀u∈zaf L,u.oneCell'=true
 | [],u,h=>by simp [zaf] at h
 | x::L,u,h=>by
   rw [zbu] at h;rcases List.mem_append.1 h with h | h
   ·simp [zaq] at h
    rcases h with rfl | rfl | rfl <;> rfl
   ·exact zcj L u h
theorem znn (L:List E) (k:Nat):(zaf L).drop (k*3)=zaf (L.drop k):=by
 induction L generalizing k with
 | nil=>simp [zaf]
 | cons x L ih=>
   rcases k with _ | k
   ·simp
   ·rw [zbu,List.drop_succ_cons,<-ih]
    rw [show (k+1)*3=(zaq x).length+k*3 by simp [zaq];omega,List.drop_length_add_append]
theorem zjn (L:List E) (i:Nat) (x:E) (h:L[i]? =some x):(zaf L)[i*3]? =some (.int .i64 x.1)/\(zaf L)[i*3+1]? =some (.int .i64 x.2.1)/\(zaf L)[i*3+2]? =some (.int .i64 x.2.2):=by
 have hd:=znn L i;obtain ⟨hlt,he⟩:=List.getElem?_eq_some_iff.1 h;rw [List.drop_eq_getElem_cons hlt,zbu,he] at hd;have h0:∀j,(zaf L)[i*3+j]? =(zaq x++zaf (L.drop (i+1)))[j]? :=by
  intro j;rw [<-hd,List.getElem?_drop]
 exact ⟨by have:=h0 0;simpa [zaq] using this,by have:=h0 1;simpa [zaq] using this,by have:=h0 2;simpa [zaq] using this⟩
theorem lt_of_some {w:World} {k:Nat} {o:Obj} (h:w.heap[k]? =some o):k<w.heap.size:=by
 rcases Nat.lt_or_ge k w.heap.size with h' | h'
 ·exact h'
 ·simp [Array.getElem?_eq_none h'] at h
theorem lt_of_cell {w:World} {b o:Nat} {v:Value} (h:w.cell? ⟨b,o,none⟩=some v):b<w.heap.size:=by
 rcases Nat.lt_or_ge b w.heap.size with h' | h'
 ·exact h'
 ·simp [World.cell?,Array.getElem?_eq_none h'] at h
abbrev zad (w:World) (B eT:Nat) (v:Value) (L:List E):Prop:=w.ownsRow B eT 3 v L.length (zaf L)
theorem zad.shape {w:World} {B eT:Nat} {v:Value} {L:List E} (h:zad w B eT v L):(v= .slice none 0 0/\L=[])\/∃g cap,v= .slice (some ⟨g,0,none⟩) L.length cap/\B<=g/\g<w.heap.size/\L.length<=cap/\cap<=maxLen:=by
 rcases h.2 with ⟨h1,h2⟩ | ⟨g,cap,cur,h1,h2,h3,h4,h5,_,_⟩
 ·exact Or.inl ⟨h1,List.eq_nil_of_length_eq_zero h2⟩
 ·exact Or.inr ⟨g,cap,h1,h2,lt_of_some h3,h4,h5⟩
theorem zad.at {w:World} {B eT g:Nat} {v:Value} {L:List E} (h:zad w B eT v L) (hg:v.ownBlock=some g) {i:Nat} {x:E} (hx:L[i]? =some x):
 w.cell? ⟨g,i*3,none⟩=some (.int .i64 x.1)/\w.cell? ⟨g,i*3+1,none⟩=some (.int .i64 x.2.1)/\w.cell? ⟨g,i*3+2,none⟩=some (.int .i64 x.2.2):=by
 have hc:=World.ownsRow.cells h hg;obtain ⟨a,b,c⟩:=zjn L i x hx;have hadd:∀j,(⟨g,0,none⟩:Addr).add j=⟨g,j,none⟩:=λ j=>by unfold Addr.add;split <;> simp_all
 exact ⟨by rw [<-hadd];exact hc _ _ a,by rw [<-hadd];exact hc _ _ b,by rw [<-hadd];exact hc _ _ c⟩
theorem zf8 {w w':World} {B:Nat} (h:Below B w w') (hB:w.heap.size<=B) (o:Option Nat):w.grownBy w' o:=⟨h.os,h.tape,h.output,h.size,λ k hk _=>h.block k (by omega)⟩
theorem zad.below {w w':World} {B eT:Nat} {v:Value} {L:List E} (h:zad w B eT v L) (hb:Below w.heap.size w w'):zad w' B eT v L:=
 World.ownsRow.kept h (zf8 hb (Nat.le_refl _) none) (by cases hv:v.ownBlock <;> simp)
theorem zad.mono {w:World} {B B' eT:Nat} {v:Value} {L:List E} (h:zad w B eT v L) (hB:B'<=B):zad w B' eT v L:=by
 refine ⟨h.1,?_⟩;rcases h.2 with h' | ⟨g,cap,cur,h1,h2,h3⟩
 ·exact Or.inl h'
 ·exact Or.inr ⟨g,cap,cur,h1,Nat.le_trans hB h2,h3⟩
structure Kept (p:Nat) (o:Option Nat) (w w':World):Prop where
 os:w'.os=w.os
 tape:w'.tape=w.tape
 output:w'.output=w.output
 size:w.heap.size<=w'.heap.size
 block:∀k,k<w.heap.size->k≠p->some k≠o->w'.heap[k]? =w.heap[k]?
theorem Kept.of_below {p:Nat} {o:Option Nat} {w w':World} (h:Below w.heap.size w w'):Kept p o w w':=⟨h.os,h.tape,h.output,h.size,λ k hk _ _=>h.block k hk⟩
theorem Kept.trans {p:Nat} {o:Option Nat} {x y z:World} (h:Kept p o x y) (k:Kept p o y z):Kept p o x z:=
 ⟨k.os.trans h.os,k.tape.trans h.tape,k.output.trans h.output,Nat.le_trans h.size k.size,λ i hi h1 h2=>(k.block i (Nat.lt_of_lt_of_le hi h.size) h1 h2).trans (h.block i hi h1 h2)⟩
theorem Kept.setCell {p:Nat} {o:Option Nat} {w w':World} (h:Kept p o w w') (k:Nat) (v:Value):Kept p o w (w'.setCell ⟨p,k,none⟩ v):=
 h.trans ⟨rfl,rfl,rfl,by simp,λ i _ hn _=>Below.heap_setCell _ _ _ _ hn⟩
structure GAt (w:World) (B gT eT p:Nat) (n:Int) (v:Value) (L:List E):Prop where
 hp:w.heap[p]? =some (.cells #[.int .i64 n,v] gT)
 row:zad w B eT v L
 ne:v.ownBlock≠some p
theorem GAt.plt {w:World} {B gT eT p:Nat} {n:Int} {v:Value} {L:List E} (h:GAt w B gT eT p n v L):p<w.heap.size:=lt_of_some h.hp
theorem GAt.c0 {w:World} {B gT eT p:Nat} {n:Int} {v:Value} {L:List E} (h:GAt w B gT eT p n v L):w.cell? ⟨p,0,none⟩=some (.int .i64 n):=by simp [World.cell?,h.hp]
theorem GAt.c1 {w:World} {B gT eT p:Nat} {n:Int} {v:Value} {L:List E} (h:GAt w B gT eT p n v L):w.cell? ⟨p,1,none⟩=some v:=by simp [World.cell?,h.hp]
theorem GAt.f1 {w:World} {B gT eT p:Nat} {n:Int} {v:Value} {L:List E} (h:GAt w B gT eT p n v L) (i:Nat):w.frozen? ⟨p,i,none⟩=false:=by simp [World.frozen?,h.hp]
theorem GAt.below {w w':World} {B gT eT p:Nat} {n:Int} {v:Value} {L:List E} (h:GAt w B gT eT p n v L) (hb:Below w.heap.size w w'):GAt w' B gT eT p n v L:=
 ⟨by rw [hb.block p h.plt];exact h.hp,h.row.below hb,h.ne⟩
theorem GAt.lt {w:World} {B gT eT p k:Nat} {n:Int} {v:Value} {L:List E} (h:GAt w B gT eT p n v L) (hk:v.ownBlock=some k):B<=k/\k<w.heap.size:=World.ownsRow.lt h.row k hk
theorem GAt.kept {w w':World} {B gT eT p p':Nat} {n:Int} {v:Value} {L:List E} {o:Option Nat} (h:GAt w B gT eT p n v L) (k:Kept p' o w w') (hp:p≠p') (hpo:some p≠o) (hv1:v.ownBlock≠some p') (hv2:v.ownBlock=none\/v.ownBlock≠o):GAt w' B gT eT p n v L:=by
 refine ⟨by rw [k.block p h.plt hp hpo];exact h.hp,⟨h.row.1,?_⟩,h.ne⟩;rcases h.row.2 with hn | ⟨g,cap,cur,rfl,hb,hgg,rest⟩
 ·exact .inl hn
 ·refine .inr ⟨g,cap,cur,rfl,hb,?_,rest⟩
  rw [k.block g (lt_of_some hgg) (λ e=>hv1 (by simp [Value.ownBlock,e])) (by simpa [Value.ownBlock] using hv2)];exact hgg
theorem GAt.store {w w':World} {B gT eT p:Nat} {n:Int} {v u:Value} {L M:List E} (h:GAt w B gT eT p n v L) (hg:w.grownBy w' v.ownBlock) (hr:zad w' B eT u M) (hu:u.ownBlock≠some p):GAt (w'.setCell ⟨p,1,none⟩ u) B gT eT p n u M:=by
 have hp:w'.heap[p]? =some (.cells #[.int .i64 n,v] gT):=by rw [hg.block p h.plt (λ e=>h.ne e.symm)];exact h.hp
 refine ⟨?_,⟨hr.1,?_⟩,hu⟩
 ·simp only [World.setCell,Array.getElem?_modify,hp]
  simp
 ·rcases hr.2 with hn | ⟨g,cap,cur,rfl,hb,hgg,rest⟩
  ·exact .inl hn
  ·refine .inr ⟨g,cap,cur,rfl,hb,?_,rest⟩
   rw [Below.heap_setCell _ _ _ _ (λ e=>hu (by simp [Value.ownBlock,e]))];exact hgg
def zbr (w:World) (v v':Value):Prop:=∀k,v'.ownBlock=some k->v.ownBlock=some k\/w.heap.size<=k
def zE:Value:=.agg #[.int .i64 0,.int .i64 0,.int .i64 0]
theorem zlf:∃i,prog.info? 61=some i/\i.size=3/\i.bytes=24/\i.zero=some zE:=
 ⟨(prog.info? 61).get (by kernel_rfl),by kernel_rfl,by kernel_rfl,by kernel_rfl,by kernel_rfl⟩
theorem zgd:zE.cells=#[.int .i64 0,.int .i64 0,.int .i64 0]:=by kernel_rfl
theorem zhk (ty:TypeId) (w:World) (B:Nat) (v:Value) (L M:List E) (h:zad w B 61 v L) (hB:B<=w.heap.size) (a:Addr) (m c:Nat) (hm:m=M.length) (hM:∀j u,(zaf M)[j]? =some u->w.cell? (a.add j)=some u) (hl:L.length+M.length<=100000):
 ∃v' w',(Builtin.append_ #[33,33] ty #[v,.slice (some a) m c]).run prog w= .ok v' w'/\zad w' B 61 v' (L++M)/\w.grownBy w' v.ownBlock/\zbr w v v':=by
 subst hm;obtain ⟨i,hi,hs,hb,hz⟩:=zlf;have own:∀B',zad w B' 61 v L->B'<=w.heap.size->∃v' w',(Builtin.append_ #[33,33] ty #[v,.slice (some a) M.length c]).run prog w= .ok v' w'/\zad w' B' 61 v' (L++M)/\w.grownBy w' v.ownBlock:=by
  intro B' h' hB';obtain ⟨v',w',h1,h2,h3,_⟩:=run_append_own (P:=prog) w B' 33 ty 61 i zE 3 24 underlying33 hi hz hs hb (by rw [zgd];rfl) (by omega) v L.length (zaf L) h' a M.length c (zaf M) (zah M) hM (zcj M) (by simp only [maxLen];omega) (by omega) hB';refine ⟨v',w',h1,?_,h3⟩;show w'.ownsRow B' 61 3 v' (L++M).length (zaf (L++M));rw [List.length_append,zc8];exact h2
 rcases h.2 with ⟨rfl,h0⟩ | ⟨g,cap,cur,rfl,h1,h2,h3,h4,h5,h6⟩
 ·have hL:L=[]:=List.eq_nil_of_length_eq_zero h0
  subst hL;obtain ⟨v',w',e1,e2,e3⟩:=own w.heap.size (World.ownsRow_nil w _ 61 3) (Nat.le_refl _);exact ⟨v',w',e1,e2.mono hB,e3,λ k hk=>Or.inr (World.ownsRow.lt e2 k hk).1⟩
 ·obtain ⟨v',w',e1,e2,e3⟩:=own B h hB
  refine ⟨v',w',e1,e2,e3,?_⟩;by_cases hroom:L.length+M.length<=cap
  ·have hr:=run_append_room (P:=prog) w 33 ty 61 i underlying33 hi g L.length cap cur h2 a M.length c (zaf M) (by rw [hs];exact zah M) hM (zcj M) hroom (by rw [hs,h5,zah];omega)
   rw [hr] at e1;injection e1 with e1 _
   subst e1;intro k hk;exact Or.inl hk
  ·have hr:=run_append_grow (P:=prog) w 33 ty 61 i zE underlying33 hi hz ⟨g,0,none⟩ L.length cap (zaf L) (by rw [hs];exact zah L) (World.ownsRow.cells h rfl) a M.length c (zaf M) (by rw [hs];exact zah M) hM (by omega) (by omega) (growslice_fits (by omega) (by rw [hb];omega))
   rw [hr] at e1;injection e1 with e1 _
   subst e1;intro k hk;have hk':w.heap.size=k:=by simpa [Value.ownBlock] using hk
   exact Or.inr (by omega)
theorem zau {P:Program} {ops:Array Oper} {o:Oper} {a:Act} {w:World} {K:Act->World->Prop} {Q:Exit->Act->World->Prop} {E:Prop}
 (hg:o.guard=none) (d x:Operand) (dT sT:TypeId) (hop:o.op=Op.call {callee:=Callee.builtin Builtin.append,args:=#[d,x],argTypes:=#[dT,sT]})
 (v u:Value) (hd:a.eval d=v) (hx:a.eval x=u) {v':Value} {w':World} (hr:(Builtin.append_ #[dT,sT] o.type #[v,u]).run P w= .ok v' w') (hK:K (a.put o.dst v') w'):
 if Region.wanted o (yielded ops a.tmps)=true then Oper.wp P o a w K Q else E:=by
 have hw:Region.wanted o (yielded ops a.tmps)=true:=by simp [Region.wanted,hg]
 rw [if_pos hw];unfold Oper.wp;simp [execOp,hop,resolve,invoke,builtin,hd,hx,hr,Result.andThen];exact hK
theorem zbm (b n:Nat):(⟨b,0,none⟩:Addr).add n=⟨b,n,none⟩:=by
 unfold Addr.add;split <;> simp_all
theorem cells_of_block {w:World} {b:Nat} {x:E} (h:w.heap[b]? =some (.cells (zaq x).toArray 61)):∀j u,(zaf [x])[j]? =some u->w.cell? ((⟨b,0,none⟩:Addr).add j)=some u:=by
 intro j u hu;rw [zbm];have e:zaf [x]=zaq x:=by simp [zaf]
 rw [e] at hu;simp [World.cell?,h,hu]
theorem zhb {w w':World} {B gT p:Nat} {n:Int} {v:Value} {L:List E} (h:GAt w B gT 61 p n v L) (hg:w.grownBy w' v.ownBlock):w'.cell? ⟨p,1,none⟩=some v/\w'.frozen? ⟨p,1,none⟩=false:=by
 have hp:w'.heap[p]? =some (.cells #[.int .i64 n,v] gT):=by rw [hg.block p h.plt (λ e=>h.ne e.symm)];exact h.hp
 exact ⟨by simp [World.cell?,hp],by simp [World.frozen?,hp]⟩
theorem zad.slice {w:World} {B eT:Nat} {v:Value} {L:List E} (h:zad w B eT v L):∃a m c,v= .slice a m c:=by
 rcases h.shape with ⟨e,_⟩ | ⟨_,_,e,_⟩
 ·exact ⟨_,_,_,e⟩
 ·exact ⟨_,_,_,e⟩
theorem zad.zal {w:World} {B eT:Nat} {v:Value} {L:List E} (h:zad w B eT v L):∃a c,v= .slice a L.length c:=by
 rcases h.shape with ⟨e,e2⟩ | ⟨_,_,e,_⟩
 ·exact ⟨none,0,by rw [e,e2];rfl⟩
 ·exact ⟨_,_,e⟩
def zfx (w w':World) (B gT p:Nat) (n:Int) (v:Value) (L:List E):Prop:=∃v',GAt w' B gT 61 p n v' L/\Kept p v.ownBlock w w'/\zbr w v v'
def zb4 (id a b n:Int):Prop:=(0<=id/\id<=1099511627776)/\(0<=a/\a<n)/\(0<=b/\b<n)
structure Ints (w:World) (a:Option Addr) (m:Nat) (F:Nat->Int):Prop where
 some_:0<m->∃bl off,a=some ⟨bl,off,none⟩/\(∀t,t<m->w.cell? ⟨bl,off+t,none⟩=some (.int .i64 (F t)))
theorem Ints.below {w w':World} {a:Option Addr} {m:Nat} {F:Nat->Int} (h:Ints w a m F) (hb:Below w.heap.size w w'):Ints w' a m F:=by
 refine ⟨λ h0=>?_⟩;obtain ⟨bl,off,e,hc⟩:=h.some_ h0;exact ⟨bl,off,e,λ t ht=>(hb.cell (p:=⟨bl,off+t,none⟩) (lt_of_cell (hc t ht))).trans (hc t ht)⟩
def among (F:Nat->Int) (m:Nat) (x:Int):Bool:=(List.range m).any λ t=>F t==x
theorem zi2 {F:Nat->Int} {m t:Nat} {x:Int} (ht:t<m) (h:F t=x):among F m x=true:=by
 simp only [among,List.any_eq_true,List.mem_range];exact ⟨t,ht,by simp [h]⟩
theorem zh2 {F:Nat->Int} {m:Nat} {x:Int} (h:∀t,t<m->F t≠x):among F m x=false:=by
 simp only [among,List.any_eq_false,List.mem_range];intro t ht
 simpa using h t ht
theorem zc2 (a:Option Addr) (m cap:Nat) (F:Nat->Int) (x:Int) (ok:Bool) (w:World) (h:Ints w a m F) (hm:m<=1000) (hok:among F m x=ok):
 Calls prog 120 #[.slice a m cap,.int .i64 x] w λ e w'=>e= .returned (.bool ok)/\w'=w:=by
 have HI:=kd h;have HO:=kd hok;clear h hok;go_enter func120,ntmps120;go_wp2_with fail;go_loopg [6,9] m (λ r _ s9 wq=>∃k:Nat,s9= .int .i64 k/\k+r=m/\(∀t,t<k->F t≠x)/\wq=w)
 case atStart=>exact ⟨0,rfl,by omega,λ t ht=>by omega,rfl⟩
 case round=>
  obtain ⟨k,rfl,hk,hno,rfl⟩:=hrel;by_cases hlt:k<m
  ·obtain ⟨bl,off,ha,hc⟩:=HI.out.some_ (by omega)
   have c:=hc k hlt;subst ha;clear hc;by_cases hy:x=F k
   ·as_aux_lemma=>
    have HA:Hid (ok=true):=by
     show ok=true;rw [<-HO.out,zi2 hlt hy.symm]
    clear hno;generalize F k=y at*;subst hy;go_wp2_with fail;go_ret;exact ⟨by rw [HA.out];rfl,rfl⟩
   ·as_aux_lemma=>
    have HN:Hid (∀t,t<k+1->F t≠x):=by
     intro t ht;rcases Nat.lt_succ_iff_lt_or_eq.1 ht with h | h
     ·exact hno t h
     ·subst h;exact λ e=>hy e.symm
    clear hno;generalize F k=y at*;have hyb:(x==y)=false:=beq_eq_false_iff_ne.2 hy;clear hy;go_wp2_with fail;go_roundg (gk-1);case measure=>omega
    case rel=>exact ⟨k+1,by go_num,by omega,HN.out,rfl⟩
  ·have HA:Hid (ok=false):=by
    show ok=false;rw [<-HO.out,zh2 (λ t ht=>hno t (by omega))]
   clear hno;go_wp2_with fail;go_ret;exact ⟨by rw [HA.out];rfl,rfl⟩
theorem zat (w:World) (o:Obj):Below w.heap.size w (w.alloc o):=(Below.refl _ _).alloc (Nat.le_refl _) _
theorem zg4 (ty:TypeId) (W:World) (B:Nat) (u:Value) (M:List E) (x0 x1 x2:Int) (h:zad W B 61 u M) (hB:B<=W.heap.size) (hl:M.length<=1000):
 ∃v' w',(Builtin.append_ #[33,33] ty #[u,.slice (some ⟨W.heap.size,0,none⟩) 1 1]).run prog (W.alloc (.cells #[.int .i64 x0,.int .i64 x1,.int .i64 x2] 61))= .ok v' w'/\zad w' B 61 v' (M++[(x0,x1,x2)])/\Below B W w'/\zbr W u v'/\W.grownBy w' u.ownBlock:=by
 have h':zad (W.alloc (.cells #[.int .i64 x0,.int .i64 x1,.int .i64 x2] 61)) B 61 u M:=h.below (zat W _);obtain ⟨v',w',h1,h2,h3,h4⟩:=zhk ty _ B u M [(x0,x1,x2)] h' (Nat.le_trans hB (by simp)) ⟨W.heap.size,0,none⟩ 1 1 rfl (cells_of_block (heap_alloc_new W _)) (by simp;omega);have hg:W.grownBy w' u.ownBlock:=by
  have hb:=zat W (.cells #[.int .i64 x0,.int .i64 x1,.int .i64 x2] 61);exact ⟨h3.os.trans hb.os,h3.tape.trans hb.tape,h3.output.trans hb.output,Nat.le_trans hb.size h3.size,λ k hk hn=>(h3.block k (Nat.lt_of_lt_of_le hk hb.size) hn).trans (hb.block k hk)⟩
 refine ⟨v',w',h1,h2,⟨hg.os,hg.tape,hg.output,hg.size,λ k hk=>hg.block k (by omega) (λ e=>?_)⟩,λ k hk=>?_,hg⟩
 ·have:=(World.ownsRow.lt h k e.symm).1
  omega
 ·rcases h4 k hk with h5 | h5
  ·exact Or.inl h5
  ·exact Or.inr (Nat.le_trans (by simp) h5)
theorem zb3 {L:List E} {k:Nat} {x:E} (pf:E->Bool) (h:L[k]? =some x):(L.take (k+1)).filter pf=(L.take k).filter pf++(if pf x then [x] else []):=by
 obtain ⟨hlt,he⟩:=List.getElem?_eq_some_iff.1 h;rw [List.take_succ_eq_append_getElem hlt,List.filter_append,he];simp [List.filter_cons]
theorem zlr (L:List E) (k:Nat) (pf:E->Bool):((L.take k).filter pf).length<=L.length:=Nat.le_trans (List.length_filter_le _ _) (by simp;omega)
def stays (Fe Fn:Nat->Int) (me mn:Nat):E->Bool:=λ e=>!among Fe me e.1&&!among Fn mn e.2.1&&!among Fn mn e.2.2
theorem zss (ty:TypeId) (w:World) (g c n:Nat) (hn:n<=c):
 (Builtin.append_ #[33,33] ty #[.slice (some ⟨g,0,none⟩) n c,.slice none 0 0]).run prog w= .ok (.slice (some ⟨g,0,none⟩) n c) w:=by
 obtain ⟨i,hi,hs,hb,hz⟩:=zlf;simp [Builtin.append_,run_underlying underlying33,sizeOf,typeInfo,hi,Builtin.lenOf,hn,Builtin.firstCells,storeCells]
theorem z8g (ty:TypeId) (W:World) (B B2:Nat) (g c:Nat) (u:Value) (L M:List E) (h:zad W B 61 (.slice (some ⟨g,0,none⟩) L.length c) L) (hu:zad W B2 61 u M) (hB:B<=W.heap.size) (hl:L.length+M.length<=100000):
 ∃v' w',(Builtin.append_ #[33,33] ty #[.slice (some ⟨g,0,none⟩) L.length c,u]).run prog W= .ok v' w'/\zad w' B 61 v' (L++M)/\Below B W w':=by
 rcases hu.shape with ⟨rfl,hM⟩ | ⟨gu,cu,rfl,_,_,_,_⟩
 ·subst hM
  have hc:L.length<=c:=by
   rcases h.shape with ⟨e,_⟩ | ⟨_,_,e,_,_,h3,_⟩
   ·simp at e
   ·injection e with _ _ e;omega
  exact ⟨_,_,zss ty W g c _ hc,by simpa using h,Below.refl _ _⟩
 ·obtain ⟨v',w',h1,h2,h3,_⟩:=zhk ty W B _ L M h hB ⟨gu,0,none⟩ M.length cu rfl (World.ownsRow.cells hu rfl) hl
  refine ⟨v',w',h1,h2,⟨h3.os,h3.tape,h3.output,h3.size,λ k hk=>h3.block k (by omega) (λ e=>?_)⟩⟩;have:=(World.ownsRow.lt h k e.symm).1;omega
theorem zhu (W:World):zad (W.alloc (.cells #[] 61)) W.heap.size 61 (.slice (some ⟨W.heap.size,0,none⟩) 0 0) []:=
 World.ownsRow_made W #[] 0 (Nat.le_refl _) (by simp [maxLen]) (by simp)
theorem zj8 (ty:TypeId) (W:World) (B2:Nat) (u:Value) (M:List E) (hu:zad W B2 61 u M) (hl:M.length<=1000):
 ∃a m c w',(Builtin.append_ #[33,33] ty #[.slice (some ⟨W.heap.size,0,none⟩) 0 0,u]).run prog (W.alloc (.cells #[] 61))= .ok (.slice a m c) w'/\zad w' W.heap.size 61 (.slice a m c) M/\Below W.heap.size W w':=by
 obtain ⟨v',w',h1,h2,h3⟩:=z8g ty (W.alloc (.cells #[] 61)) W.heap.size B2 W.heap.size 0 u [] M (zhu W) (hu.below (zat W _)) (by simp) (by simp;omega);obtain ⟨a,m,c,rfl⟩:=h2.slice;exact ⟨a,m,c,w',h1,h2,(zat W _).trans h3⟩
theorem z2u (ty:TypeId) (W:World) (B2:Nat) (u:Value) (M:List E) (x0 x1 x2:Int) (hu:zad W B2 61 u M) (hl:M.length<=1000):
 ∃a m c w2 a' m' c' w3,(Builtin.append_ #[33,33] ty #[.slice (some ⟨W.heap.size,0,none⟩) 0 0,u]).run prog (W.alloc (.cells #[] 61))= .ok (.slice a m c) w2/\
  (Builtin.append_ #[33,33] ty #[.slice a m c,.slice (some ⟨w2.heap.size,0,none⟩) 1 1]).run prog (w2.alloc (.cells #[.int .i64 x0,.int .i64 x1,.int .i64 x2] 61))= .ok (.slice a' m' c') w3/\
  zad w3 W.heap.size 61 (.slice a' m' c') (M++[(x0,x1,x2)])/\Below W.heap.size W w3:=by
 obtain ⟨a,m,c,w2,h1,h2,h3⟩:=zj8 ty W B2 u M hu hl;obtain ⟨v',w3,h4,h5,h6,_,_⟩:=zg4 ty w2 W.heap.size _ M x0 x1 x2 h2 h3.size hl;obtain ⟨a',m',c',rfl⟩:=h5.slice;exact ⟨a,m,c,w2,a',m',c',w3,h1,h4,h5,h3.trans h6⟩
theorem zja {w w1 w3:World} {B gT p:Nat} {n:Int} {v u:Value} {L M:List E} (h:GAt w B gT 61 p n v L) (hB:B<=w.heap.size) (hb:Below w.heap.size w w1) (hr:zad w3 w1.heap.size 61 u M) (hb3:Below w1.heap.size w1 w3):
 zfx w (w3.setCell ⟨p,1,none⟩ u) B gT p n v M/\w3.cell? ⟨p,1,none⟩=some v/\w3.frozen? ⟨p,1,none⟩=false:=by
 have hb':Below w.heap.size w w3:=hb.trans (hb3.mono hb.size);have h3:=h.below hb';have hg:w3.grownBy w3 v.ownBlock:=⟨rfl,rfl,rfl,Nat.le_refl _,λ _ _ _=>rfl⟩;have hlt:∀k,u.ownBlock=some k->w.heap.size<=k:=λ k hk=>Nat.le_trans hb.size (World.ownsRow.lt hr k hk).1
 have hup:u.ownBlock≠some p:=λ e=>by have:=hlt p e;have:=h.plt;omega
 exact ⟨⟨u,h3.store hg (hr.mono (Nat.le_trans hB hb.size)) hup,(Kept.of_below hb').setCell 1 u,λ k hk=>Or.inr (hlt k hk)⟩,h3.c1,h3.f1 1⟩
theorem zy9 (x lo hi:Int) (ok:Bool) (w:World) (hok:decide (lo<=x/\x<=hi)=ok):
 Calls prog 45 #[.int .i64 x,.int .i64 lo,.int .i64 hi] w λ e w'=>e= .returned (.bool ok)/\w'=w:=by
 by_cases h1:lo<=x
 ·by_cases h2:x<=hi
  ·have HO:Hid (ok=true):=by
    show ok=true;rw [<-hok];exact decide_eq_true ⟨h1,h2⟩
   clear hok;go_enter func45,ntmps45;go_wp2;go_ret;exact ⟨by rw [HO.out];rfl,rfl⟩
  ·have HO:Hid (ok=false):=by
    show ok=false;rw [<-hok];exact decide_eq_false (λ h=>h2 h.2)
   clear hok;go_enter func45,ntmps45;go_wp2;go_ret;exact ⟨by rw [HO.out];rfl,rfl⟩
 ·have HO:Hid (ok=false):=by
   show ok=false;rw [<-hok];exact decide_eq_false (λ h=>h1 h.1)
  clear hok;go_enter func45,ntmps45;go_wp2;go_ret;exact ⟨by rw [HO.out];rfl,rfl⟩
theorem zen (x lo hi:Int) (w:World) (h:lo<=x/\x<=hi):Calls prog 45 #[.int .i64 x,.int .i64 lo,.int .i64 hi] w λ e w'=>e= .returned (.bool true)/\w'=w:=zy9 x lo hi true w (decide_eq_true h)
theorem zm6 (x lo hi:Int) (w:World) (h:¬(lo<=x/\x<=hi)):Calls prog 45 #[.int .i64 x,.int .i64 lo,.int .i64 hi] w λ e w'=>e= .returned (.bool false)/\w'=w:=zy9 x lo hi false w (decide_eq_false h)
theorem zva (id a b n:Int) (B q:Nat) (u:Value) (R:List E) (w:World) (h:GAt w B 40 61 q n u R) (h0:0<=n) (h40:n<=40) (hr:¬zb4 id a b n):
 Calls prog 20 #[.pointer (some ⟨q,0,none⟩),.int .i64 id,.int .i64 a,.int .i64 b] w λ e w'=>e= .returned (.int .i64 2)/\Below w.heap.size w w':=by
 have hc:=h.c0;clear h;by_cases h1:0<=id/\id<=1099511627776
 ·have H1:=kd h1
  by_cases h2:0<=a/\a<=n-1
  ·have H2:=kd h2
   have H3:Hid (¬(0<=b/\b<=n-1)):=λ h3=>hr ⟨h1,⟨h2.1,by omega⟩,⟨h3.1,by omega⟩⟩
   clear hr h1 h2;go_enter func20,ntmps20;go_wp2_with fail;refine (zen id 0 1099511627776 w H1.out).mono ?_;rintro e w1 ⟨rfl,rfl⟩;go_wp2_with fail;refine (zen a 0 (n-1) _ H2.out).mono ?_;rintro e w2 ⟨rfl,rfl⟩;go_wp2_with fail;refine (zm6 b 0 (n-1) _ H3.out).mono ?_;rintro e w3 ⟨rfl,rfl⟩;go_wp2_with fail;go_ret;exact ⟨rfl,Below.refl _ _⟩
  ·have H2:=kd h2
   clear hr h1 h2;go_enter func20,ntmps20;go_wp2_with fail;refine (zen id 0 1099511627776 w H1.out).mono ?_;rintro e w1 ⟨rfl,rfl⟩;go_wp2_with fail;refine (zm6 a 0 (n-1) _ H2.out).mono ?_;rintro e w2 ⟨rfl,rfl⟩;go_wp2_with fail;go_ret;exact ⟨rfl,Below.refl _ _⟩
 ·have H1:=kd h1
  clear hr h1;go_enter func20,ntmps20;go_wp2_with fail;refine (zm6 id 0 1099511627776 w H1.out).mono ?_;rintro e w1 ⟨rfl,rfl⟩;go_wp2_with fail;go_ret;exact ⟨rfl,Below.refl _ _⟩
theorem z1v (id a n:Int) (B q:Nat) (u:Value) (R:List E) (w:World) (h:GAt w B 40 61 q n u R) (h0:0<=n) (h40:n<=40) (hr:zb4 id a a n):
 Calls prog 20 #[.pointer (some ⟨q,0,none⟩),.int .i64 id,.int .i64 a,.int .i64 a] w λ e w'=>e= .returned (.int .i64 1)/\Below w.heap.size w w':=by
 have hc:=h.c0;have H1:=kd hr.1;have H2:Hid (0<=a/\a<=n-1):=⟨hr.2.1.1,by have:=hr.2.1.2;omega⟩;clear hr h;go_enter func20,ntmps20;go_wp2_with fail;refine (zen id 0 1099511627776 w H1.out).mono ?_;rintro e w1 ⟨rfl,rfl⟩;go_wp2_with fail;refine (zen a 0 (n-1) _ H2.out).mono ?_;rintro e w2 ⟨rfl,rfl⟩;go_wp2_with fail;refine (zen a 0 (n-1) _ H2.out).mono ?_;rintro e w3 ⟨rfl,rfl⟩;go_wp2_with fail;go_ret;exact ⟨rfl,Below.refl _ _⟩
def z1d (w:World) (B q:Nat) (n:Int) (u:Value) (R:List E) (id lo hi:Int) (e:Ending) (w':World):Prop:=
 ((∃x∈R,x.1=id)/\e= .returned (.int .i64 9)/\Below w.heap.size w w')\/
 ((∀x∈R,x.1≠id)/\120<=R.length/\e= .returned (.int .i64 12)/\Below w.heap.size w w')\/
 ((∀x∈R,x.1≠id)/\R.length<120/\e= .returned (.int .i64 0)/\zfx w w' B 40 q n u (R++[(id,lo,hi)]))
theorem z7t (id a b n lo hi:Int) (B q:Nat) (u:Value) (R:List E) (w:World) (h:GAt w B 40 61 q n u R) (hB:B<=w.heap.size) (hl:R.length<=120) (h0:0<=n) (h40:n<=40) (hr:zb4 id a b n) (hab:a≠b) (hlo:lo=min a b) (hhi:hi=max a b):
 Calls prog 20 #[.pointer (some ⟨q,0,none⟩),.int .i64 id,.int .i64 a,.int .i64 b] w λ e w'=>z1d w B q n u R id lo hi e w':=by
 have hc:=h.c0;have hu1:=h.c1;have H1:=kd hr.1;have H2:Hid (0<=a/\a<=n-1):=⟨hr.2.1.1,by have:=hr.2.1.2;omega⟩;have H3:Hid (0<=b/\b<=n-1):=⟨hr.2.2.1,by have:=hr.2.2.2;omega⟩;have HG:=kd h;have HB:=kd hB;have hqlt:=h.plt;obtain ⟨m,hm⟩:∃m,m=R.length:=⟨_,rfl⟩;have HM:=kd hm;obtain ⟨ua,uc,hv⟩:=h.row.zal;rw [<-hm] at hv hl;have HV:=kd hv;rw [hv] at hu1;have h5:(a==b)=false:=beq_eq_false_iff_ne.2 hab;clear hr h hB hv hm;go_enter func20,ntmps20;go_wp2_with fail;refine (zen id 0 1099511627776 w H1.out).mono ?_;rintro e w1 ⟨rfl,rfl⟩;go_wp2_with fail;refine (zen a 0 (n-1) _ H2.out).mono ?_;rintro e w2 ⟨rfl,rfl⟩;go_wp2_with fail;refine (zen b 0 (n-1) _ H3.out).mono ?_;rintro e w ⟨rfl,rfl⟩;go_wp2_with fail;go_loopg [10,42] m (λ r _ s42 wq=>∃k:Nat,s42= .int .i64 k/\k+r=m/\(∀x∈R.take k,x.1≠id)/\Below w.heap.size w wq)
 case atStart=>exact ⟨0,rfl,by omega,λ x hx=>by simp at hx,Below.refl _ _⟩
 case round=>
  obtain ⟨k,rfl,hk,hno,hb⟩:=hrel;have HNO:=kd hno;have HBW:=kd hb;clear hno hb;by_cases hlt:k<m
  ·obtain ⟨x0,x1,x2,hx⟩:∃x0 x1 x2,R[k]? =some (x0,x1,x2):=⟨_,_,_,List.getElem?_eq_getElem (by rw [<-HM.out];exact hlt)⟩
   have HX:=kd hx;obtain ⟨g,hua⟩:∃g,ua=some ⟨g,0,none⟩:=by
    rcases HG.out.row.shape with ⟨_,e⟩ | ⟨g,cap,e,_⟩
    ·rw [e] at hx;simp at hx
    ·rw [HV.out] at e
     injection e with e1 _ _
     exact ⟨g,e1⟩
   obtain ⟨r0,r1,r2⟩:=(HG.out.below HBW.out).row.at (g:=g) (by rw [HV.out,hua];rfl) hx;have r0':wr.cell? ⟨g,k*3,none⟩=some (.int .i64 x0):=r0;have r1':wr.cell? ⟨g,k*3+1,none⟩=some (.int .i64 x1):=r1;have r2':wr.cell? ⟨g,k*3+2,none⟩=some (.int .i64 x2):=r2;have HB1:Hid (∀o,Below w.heap.size w (wr.alloc o)):=λ o=>HBW.out.alloc HBW.out.size _
   clear r0 r1 r2 hx;subst hua;by_cases hid:x0=id
   ·as_aux_lemma=>
    have HH:Hid (∃x∈R,x.1=id):=⟨_,List.mem_of_getElem? HX.out,hid⟩;subst hid;go_wp2_with fail;go_ret;exact Or.inl ⟨HH.out,rfl,HB1.out _⟩
   ·as_aux_lemma=>
    have HN:Hid (∀x∈R.take (k+1),x.1≠id):=by
     intro x hx;obtain ⟨hlt',he⟩:=List.getElem?_eq_some_iff.1 HX.out;rw [List.take_succ_eq_append_getElem hlt',he] at hx;rcases List.mem_append.1 hx with h | h
     ·exact HNO.out x h
     ·rw [List.mem_singleton.1 h];exact hid
    have hib:(x0==id)=false:=beq_eq_false_iff_ne.2 hid;clear hid;go_wp2_with fail;go_roundg (gk-1);case measure=>omega
    case rel=>exact ⟨k+1,by go_num,by omega,HN.out,HB1.out _⟩
  ·have HN:Hid (∀x∈R,x.1≠id):=by
    have e:R.take k=R:=List.take_of_length_le (by rw [<-HM.out];omega);have:=HNO.out;rw [e] at this;exact this
   have hg:=HG.out.below HBW.out;have hu2:=hg.c1;have hq2:=hg.plt;rw [HV.out] at hu2;clear HNO;by_cases hf:120<=m
   ·as_aux_lemma=>
    have hf':(120:Int)<=(m:Int):=by omega
    have HF:Hid (120<=R.length):=by rw [<-HM.out];exact hf
    clear hg;go_wp2_with fail;go_ret;exact Or.inr (Or.inl ⟨HN.out,HF.out,rfl,HBW.out⟩)
   ·have hf':¬((120:Int)<=(m:Int)):=by omega
    have HF:Hid (R.length<120):=by
     show R.length<120;rw [<-HM.out];omega
    obtain ⟨a1,m1,c1,wa,a2,m2,c2,wb,e1,e2,e3,e4⟩:=z2u 33 wr B u R id lo hi hg.row (by have:=HF.out;omega);obtain ⟨s1,s2,s3⟩:=zja HG.out HB.out HBW.out e3 e4;rw [HV.out] at e1 s2;have HE1:=kd e1;have HE2:=kd e2;have HS:=kd s1;clear hg e1 e2 e3 e4 s1;rcases Int.lt_or_gt_of_ne hab with hlt2 | hgt2
    ·as_aux_lemma=>
     obtain rfl:lo=a:=by rw [hlo];omega
     obtain rfl:hi=b:=by rw [hhi];omega
     clear hlo hhi hab;have hn:¬(hi<lo):=by omega
     go_wp2_with (first
      | (at_builtin;refine Lib.wpList_append_run _ rfl _ _ _ _ rfl _ _ rfl rfl _ _ HE1.out ?_;clear HE1)
      | (at_builtin;refine Lib.wpList_append_run _ rfl _ _ _ _ rfl _ _ rfl rfl _ _ HE2.out ?_))
     go_ret;exact Or.inr (Or.inr ⟨HN.out,HF.out,rfl,HS.out⟩)
    ·as_aux_lemma=>
     obtain rfl:lo=b:=by rw [hlo];omega
     obtain rfl:hi=a:=by rw [hhi];omega
     clear hlo hhi hab;have hn:lo<hi:=by omega
     go_wp2_with (first
      | (at_builtin;refine Lib.wpList_append_run _ rfl _ _ _ _ rfl _ _ rfl rfl _ _ HE1.out ?_;clear HE1)
      | (at_builtin;refine Lib.wpList_append_run _ rfl _ _ _ _ rfl _ _ rfl rfl _ _ HE2.out ?_))
     go_ret;exact Or.inr (Or.inr ⟨HN.out,HF.out,rfl,HS.out⟩)
end Go.Proofs.YtebcjaenhiiflaaGreatDoor.G
