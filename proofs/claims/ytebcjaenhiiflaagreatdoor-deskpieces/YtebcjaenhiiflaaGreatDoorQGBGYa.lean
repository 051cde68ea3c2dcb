import Derived.WalkKit
import Derived.WalkSpells
import Derived.WalkLawsBesides
import Derived.Laws.AppendOwn
import Derived.Laws.IdiomCopy
import Derived.Deep.DeepAppendWide
import Derived.Laws.CopyOwn
import Derived.Laws.CopyRow
import Derived.Lib.AppendZerosOnto
import Derived.BigQuiet
import Derived.Sort.AtCall
import Derived.Deep.LoopGhost
import Derived.Laws.Shifts
import Derived.Lib.Overlaps
import Derived.Lib.AppendZeros
import Derived.Deep.RegionLaw
import Derived.Laws.ResultCell
import Derived.Deep.RegionHeld
import Derived.Deep.RegionHeldLaw
import Derived.Test.YtebcjaenhiiflaaGreatDoorQHi
import Derived.Test.YtebcjaenhiiflaaGreatDoorProg
import Derived.RowKit
import Derived.KernelRfl
import Derived.Test.YtebcjaenhiiflaaGreatDoorQGMFm
namespace Go.Proofs.YtebcjaenhiiflaaGreatDoor.G
open Go.RowKit
def encE (x:E):List Value:=[.int .i64 x.1,.int .i64 x.2.1,.int .i64 x.2.2]
def rowV (L:List E):List Value:=L.flatMap encE
theorem rowV_cons (x:E) (L:List E):rowV (x::L)=encE x++rowV L:=rfl
theorem rowV_append (L M:List E):rowV (L++M)=rowV L++rowV M:=by simp [rowV]
theorem rowV_length:∀L:List E,(rowV L).length=L.length*3
 | []=>rfl
 | x::L=>by rw [rowV_cons,List.length_append,rowV_length L];simp [encE];omega
theorem rowV_one:∀(L:List E),∀u∈rowV L,u.oneCell'=true
 | [],u,h=>by simp [rowV] at h
 | x::L,u,h=>by
   rw [rowV_cons] at h;rcases List.mem_append.1 h with h | h
   ·simp [encE] at h
    rcases h with rfl | rfl | rfl <;> rfl
   ·exact rowV_one L u h
theorem rowV_drop (L:List E) (k:Nat):(rowV L).drop (k*3)=rowV (L.drop k):=by
 induction L generalizing k with
 | nil=>simp [rowV]
 | cons x L ih=>
   rcases k with _ | k
   ·simp
   ·rw [rowV_cons,List.drop_succ_cons,<-ih]
    rw [show (k+1)*3=(encE x).length+k*3 by simp [encE];omega,List.drop_length_add_append]
theorem rowV_at (L:List E) (i:Nat) (x:E) (h:L[i]? =some x):(rowV L)[i*3]? =some (.int .i64 x.1)/\(rowV L)[i*3+1]? =some (.int .i64 x.2.1)/\(rowV L)[i*3+2]? =some (.int .i64 x.2.2):=by
 have hd:=rowV_drop L i;obtain ⟨hlt,he⟩:=List.getElem?_eq_some_iff.1 h;rw [List.drop_eq_getElem_cons hlt,rowV_cons,he] at hd;have h0:∀j,(rowV L)[i*3+j]? =(encE x++rowV (L.drop (i+1)))[j]? :=by
  intro j;rw [<-hd,List.getElem?_drop]
 exact ⟨by have:=h0 0;simpa [encE] using this,by have:=h0 1;simpa [encE] using this,by have:=h0 2;simpa [encE] using this⟩
theorem lt_of_some {w:World} {k:Nat} {o:Obj} (h:w.heap[k]? =some o):k<w.heap.size:=by
 rcases Nat.lt_or_ge k w.heap.size with h' | h'
 ·exact h'
 ·simp [Array.getElem?_eq_none h'] at h
theorem lt_of_cell {w:World} {b o:Nat} {v:Value} (h:w.cell? ⟨b,o,none⟩=some v):b<w.heap.size:=by
 rcases Nat.lt_or_ge b w.heap.size with h' | h'
 ·exact h'
 ·simp [World.cell?,Array.getElem?_eq_none h'] at h
abbrev Owns (w:World) (B eT:Nat) (v:Value) (L:List E):Prop:=w.ownsRow B eT 3 v L.length (rowV L)
theorem Owns.shape {w:World} {B eT:Nat} {v:Value} {L:List E} (h:Owns w B eT v L):(v= .slice none 0 0/\L=[])\/∃g cap,v= .slice (some ⟨g,0,none⟩) L.length cap/\B<=g/\g<w.heap.size/\L.length<=cap/\cap<=maxLen:=by
 rcases h.2 with ⟨h1,h2⟩ | ⟨g,cap,cur,h1,h2,h3,h4,h5,_,_⟩
 ·exact Or.inl ⟨h1,List.eq_nil_of_length_eq_zero h2⟩
 ·exact Or.inr ⟨g,cap,h1,h2,lt_of_some h3,h4,h5⟩
theorem Owns.at {w:World} {B eT g:Nat} {v:Value} {L:List E} (h:Owns w B eT v L) (hg:v.ownBlock=some g) {i:Nat} {x:E} (hx:L[i]? =some x):
 w.cell? ⟨g,i*3,none⟩=some (.int .i64 x.1)/\w.cell? ⟨g,i*3+1,none⟩=some (.int .i64 x.2.1)/\w.cell? ⟨g,i*3+2,none⟩=some (.int .i64 x.2.2):=by
 have hc:=World.ownsRow.cells h hg;obtain ⟨a,b,c⟩:=rowV_at L i x hx;have hadd:∀j,(⟨g,0,none⟩:Addr).add j=⟨g,j,none⟩:=λ j=>by unfold Addr.add;split <;> simp_all
 exact ⟨by rw [<-hadd];exact hc _ _ a,by rw [<-hadd];exact hc _ _ b,by rw [<-hadd];exact hc _ _ c⟩
theorem grownBy_of_below {w w':World} {B:Nat} (h:Below B w w') (hB:w.heap.size<=B) (o:Option Nat):w.grownBy w' o:=⟨h.os,h.tape,h.output,h.size,λ k hk _=>h.block k (by omega)⟩
theorem Owns.below {w w':World} {B eT:Nat} {v:Value} {L:List E} (h:Owns w B eT v L) (hb:Below w.heap.size w w'):Owns w' B eT v L:=
 World.ownsRow.kept h (grownBy_of_below hb (Nat.le_refl _) none) (by cases hv:v.ownBlock <;> simp)
theorem Owns.mono {w:World} {B B' eT:Nat} {v:Value} {L:List E} (h:Owns w B eT v L) (hB:B'<=B):Owns w B' eT v L:=by
 refine ⟨h.1,?_⟩;rcases h.2 with h' | ⟨g,cap,cur,h1,h2,h3⟩
 ·exact Or.inl h'
 ·exact Or.inr ⟨g,cap,cur,h1,Nat.le_trans hB h2,h3⟩
structure Kept (p:Nat) (o:Option Nat) (w w':World):Prop where
 os:w'.os=w.os
 tape:w'.tape=w.tape
 output:w'.output=w.output
 size:w.heap.size<=w'.heap.size
 block:∀k,k<w.heap.size->k≠p->some k≠o->w'.heap[k]? =w.heap[k]?
theorem Kept.of_below {p:Nat} {o:Option Nat} {w w':World} (h:Below w.heap.size w w'):Kept p o w w':=⟨h.os,h.tape,h.output,h.size,λ k hk _ _=>h.block k hk⟩
theorem Kept.trans {p:Nat} {o:Option Nat} {x y z:World} (h:Kept p o x y) (k:Kept p o y z):Kept p o x z:=
 ⟨k.os.trans h.os,k.tape.trans h.tape,k.output.trans h.output,Nat.le_trans h.size k.size,λ i hi h1 h2=>(k.block i (Nat.lt_of_lt_of_le hi h.size) h1 h2).trans (h.block i hi h1 h2)⟩
theorem Kept.setCell {p:Nat} {o:Option Nat} {w w':World} (h:Kept p o w w') (k:Nat) (v:Value):Kept p o w (w'.setCell ⟨p,k,none⟩ v):=
 h.trans ⟨rfl,rfl,rfl,by simp,λ i _ hn _=>Below.heap_setCell _ _ _ _ hn⟩
structure GAt (w:World) (B gT eT p:Nat) (n:Int) (v:Value) (L:List E):Prop where
 hp:w.heap[p]? =some (.cells #[.int .i64 n,v] gT)
 row:Owns w B eT v L
 ne:v.ownBlock≠some p
theorem GAt.plt {w:World} {B gT eT p:Nat} {n:Int} {v:Value} {L:List E} (h:GAt w B gT eT p n v L):p<w.heap.size:=lt_of_some h.hp
theorem GAt.c0 {w:World} {B gT eT p:Nat} {n:Int} {v:Value} {L:List E} (h:GAt w B gT eT p n v L):w.cell? ⟨p,0,none⟩=some (.int .i64 n):=by simp [World.cell?,h.hp]
theorem GAt.c1 {w:World} {B gT eT p:Nat} {n:Int} {v:Value} {L:List E} (h:GAt w B gT eT p n v L):w.cell? ⟨p,1,none⟩=some v:=by simp [World.cell?,h.hp]
theorem GAt.f1 {w:World} {B gT eT p:Nat} {n:Int} {v:Value} {L:List E} (h:GAt w B gT eT p n v L) (i:Nat):w.frozen? ⟨p,i,none⟩=false:=by simp [World.frozen?,h.hp]
theorem GAt.below {w w':World} {B gT eT p:Nat} {n:Int} {v:Value} {L:List E} (h:GAt w B gT eT p n v L) (hb:Below w.heap.size w w'):GAt w' B gT eT p n v L:=
 ⟨by rw [hb.block p h.plt];exact h.hp,h.row.below hb,h.ne⟩
theorem GAt.lt {w:World} {B gT eT p k:Nat} {n:Int} {v:Value} {L:List E} (h:GAt w B gT eT p n v L) (hk:v.ownBlock=some k):B<=k/\k<w.heap.size:=World.ownsRow.lt h.row k hk
theorem GAt.kept {w w':World} {B gT eT p p':Nat} {n:Int} {v:Value} {L:List E} {o:Option Nat} (h:GAt w B gT eT p n v L) (k:Kept p' o w w') (hp:p≠p') (hpo:some p≠o) (hv1:v.ownBlock≠some p') (hv2:v.ownBlock=none\/v.ownBlock≠o):GAt w' B gT eT p n v L:=by
 refine ⟨by rw [k.block p h.plt hp hpo];exact h.hp,⟨h.row.1,?_⟩,h.ne⟩;rcases h.row.2 with hn | ⟨g,cap,cur,rfl,hb,hgg,rest⟩
 ·exact .inl hn
 ·refine .inr ⟨g,cap,cur,rfl,hb,?_,rest⟩
  rw [k.block g (lt_of_some hgg) (λ e=>hv1 (by simp [Value.ownBlock,e])) (by simpa [Value.ownBlock] using hv2)];exact hgg
theorem GAt.store {w w':World} {B gT eT p:Nat} {n:Int} {v u:Value} {L M:List E} (h:GAt w B gT eT p n v L) (hg:w.grownBy w' v.ownBlock) (hr:Owns w' B eT u M) (hu:u.ownBlock≠some p):GAt (w'.setCell ⟨p,1,none⟩ u) B gT eT p n u M:=by
 have hp:w'.heap[p]? =some (.cells #[.int .i64 n,v] gT):=by rw [hg.block p h.plt (λ e=>h.ne e.symm)];exact h.hp
 refine ⟨?_,⟨hr.1,?_⟩,hu⟩
 ·simp only [World.setCell,Array.getElem?_modify,hp]
  simp
 ·rcases hr.2 with hn | ⟨g,cap,cur,rfl,hb,hgg,rest⟩
  ·exact .inl hn
  ·refine .inr ⟨g,cap,cur,rfl,hb,?_,rest⟩
   rw [Below.heap_setCell _ _ _ _ (λ e=>hu (by simp [Value.ownBlock,e]))];exact hgg
def Fresh (w:World) (v v':Value):Prop:=∀k,v'.ownBlock=some k->v.ownBlock=some k\/w.heap.size<=k
def zE:Value:=.agg #[.int .i64 0,.int .i64 0,.int .i64 0]
theorem info61:∃i,Tryz.prog.info? 61=some i/\i.size=3/\i.bytes=24/\i.zero=some zE:=
 ⟨(Tryz.prog.info? 61).get (by kernel_rfl),by kernel_rfl,by kernel_rfl,by kernel_rfl,by kernel_rfl⟩
theorem zE_cells:zE.cells=#[.int .i64 0,.int .i64 0,.int .i64 0]:=by kernel_rfl
theorem append_E (ty:TypeId) (w:World) (B:Nat) (v:Value) (L M:List E) (h:Owns w B 61 v L) (hB:B<=w.heap.size) (a:Addr) (m c:Nat) (hm:m=M.length) (hM:∀j u,(rowV M)[j]? =some u->w.cell? (a.add j)=some u) (hl:L.length+M.length<=100000):
 ∃v' w',(Builtin.append_ #[33,33] ty #[v,.slice (some a) m c]).run Tryz.prog w= .ok v' w'/\Owns w' B 61 v' (L++M)/\w.grownBy w' v.ownBlock/\Fresh w v v':=by
 subst hm;obtain ⟨i,hi,hs,hb,hz⟩:=info61;have own:∀B',Owns w B' 61 v L->B'<=w.heap.size->∃v' w',(Builtin.append_ #[33,33] ty #[v,.slice (some a) M.length c]).run Tryz.prog w= .ok v' w'/\Owns w' B' 61 v' (L++M)/\w.grownBy w' v.ownBlock:=by
  intro B' h' hB';obtain ⟨v',w',h1,h2,h3,_⟩:=run_append_own (P:=Tryz.prog) w B' 33 ty 61 i zE 3 24 Tryz.underlying33 hi hz hs hb (by rw [zE_cells];rfl) (by omega) v L.length (rowV L) h' a M.length c (rowV M) (rowV_length M) hM (rowV_one M) (by simp only [maxLen];omega) (by omega) hB';refine ⟨v',w',h1,?_,h3⟩;show w'.ownsRow B' 61 3 v' (L++M).length (rowV (L++M));rw [List.length_append,rowV_append];exact h2
 rcases h.2 with ⟨rfl,h0⟩ | ⟨g,cap,cur,rfl,h1,h2,h3,h4,h5,h6⟩
 ·have hL:L=[]:=List.eq_nil_of_length_eq_zero h0
  subst hL;obtain ⟨v',w',e1,e2,e3⟩:=own w.heap.size (World.ownsRow_nil w _ 61 3) (Nat.le_refl _);exact ⟨v',w',e1,e2.mono hB,e3,λ k hk=>Or.inr (World.ownsRow.lt e2 k hk).1⟩
 ·obtain ⟨v',w',e1,e2,e3⟩:=own B h hB
  refine ⟨v',w',e1,e2,e3,?_⟩;by_cases hroom:L.length+M.length<=cap
  ·have hr:=run_append_room (P:=Tryz.prog) w 33 ty 61 i Tryz.underlying33 hi g L.length cap cur h2 a M.length c (rowV M) (by rw [hs];exact rowV_length M) hM (rowV_one M) hroom (by rw [hs,h5,rowV_length];omega)
   rw [hr] at e1;injection e1 with e1 _
   subst e1;intro k hk;exact Or.inl hk
  ·have hr:=run_append_grow (P:=Tryz.prog) w 33 ty 61 i zE Tryz.underlying33 hi hz ⟨g,0,none⟩ L.length cap (rowV L) (by rw [hs];exact rowV_length L) (World.ownsRow.cells h rfl) a M.length c (rowV M) (by rw [hs];exact rowV_length M) hM (by omega) (by omega) (growslice_fits (by omega) (by rw [hb];omega))
   rw [hr] at e1;injection e1 with e1 _
   subst e1;intro k hk;have hk':w.heap.size=k:=by simpa [Value.ownBlock] using hk
   exact Or.inr (by omega)
theorem step_append_runK {P:Program} {ops:Array Oper} {o:Oper} {a:Act} {w:World} {K:Act->World->Prop} {Q:Exit->Act->World->Prop} {E:Prop}
 (hg:o.guard=none) (d x:Operand) (dT sT:TypeId) (hop:o.op=Op.call {callee:=Callee.builtin Builtin.append,args:=#[d,x],argTypes:=#[dT,sT]})
 (v u:Value) (hd:a.eval d=v) (hx:a.eval x=u) {v':Value} {w':World} (hr:(Builtin.append_ #[dT,sT] o.type #[v,u]).run P w= .ok v' w') (hK:K (a.put o.dst v') w'):
 if Region.wanted o (yielded ops a.tmps)=true then Oper.wp P o a w K Q else E:=by
 have hw:Region.wanted o (yielded ops a.tmps)=true:=by simp [Region.wanted,hg]
 rw [if_pos hw];unfold Oper.wp;simp [execOp,hop,resolve,invoke,builtin,hd,hx,hr,Result.andThen];exact hK
theorem addr0_add (b n:Nat):(⟨b,0,none⟩:Addr).add n=⟨b,n,none⟩:=by
 unfold Addr.add;split <;> simp_all
theorem cells_of_block {w:World} {b:Nat} {x:E} (h:w.heap[b]? =some (.cells (encE x).toArray 61)):∀j u,(rowV [x])[j]? =some u->w.cell? ((⟨b,0,none⟩:Addr).add j)=some u:=by
 intro j u hu;rw [addr0_add];have e:rowV [x]=encE x:=by simp [rowV]
 rw [e] at hu;simp [World.cell?,h,hu]
theorem cell_p {w w':World} {B gT p:Nat} {n:Int} {v:Value} {L:List E} (h:GAt w B gT 61 p n v L) (hg:w.grownBy w' v.ownBlock):w'.cell? ⟨p,1,none⟩=some v/\w'.frozen? ⟨p,1,none⟩=false:=by
 have hp:w'.heap[p]? =some (.cells #[.int .i64 n,v] gT):=by rw [hg.block p h.plt (λ e=>h.ne e.symm)];exact h.hp
 exact ⟨by simp [World.cell?,hp],by simp [World.frozen?,hp]⟩
theorem Owns.slice {w:World} {B eT:Nat} {v:Value} {L:List E} (h:Owns w B eT v L):∃a m c,v= .slice a m c:=by
 rcases h.shape with ⟨e,_⟩ | ⟨_,_,e,_⟩
 ·exact ⟨_,_,_,e⟩
 ·exact ⟨_,_,_,e⟩
theorem Owns.slice_len {w:World} {B eT:Nat} {v:Value} {L:List E} (h:Owns w B eT v L):∃a c,v= .slice a L.length c:=by
 rcases h.shape with ⟨e,e2⟩ | ⟨_,_,e,_⟩
 ·exact ⟨none,0,by rw [e,e2];rfl⟩
 ·exact ⟨_,_,e⟩
def Step1 (w w':World) (B gT p:Nat) (n:Int) (v:Value) (L:List E):Prop:=∃v',GAt w' B gT 61 p n v' L/\Kept p v.ownBlock w w'/\Fresh w v v'
def InRange (id a b n:Int):Prop:=(0<=id/\id<=1099511627776)/\(0<=a/\a<n)/\(0<=b/\b<n)
structure Ints (w:World) (a:Option Addr) (m:Nat) (F:Nat->Int):Prop where
 some_:0<m->∃bl off,a=some ⟨bl,off,none⟩/\(∀t,t<m->w.cell? ⟨bl,off+t,none⟩=some (.int .i64 (F t)))
theorem Ints.below {w w':World} {a:Option Addr} {m:Nat} {F:Nat->Int} (h:Ints w a m F) (hb:Below w.heap.size w w'):Ints w' a m F:=by
 refine ⟨λ h0=>?_⟩;obtain ⟨bl,off,e,hc⟩:=h.some_ h0;exact ⟨bl,off,e,λ t ht=>(hb.cell (p:=⟨bl,off+t,none⟩) (lt_of_cell (hc t ht))).trans (hc t ht)⟩
def among (F:Nat->Int) (m:Nat) (x:Int):Bool:=(List.range m).any λ t=>F t==x
theorem among_hit {F:Nat->Int} {m t:Nat} {x:Int} (ht:t<m) (h:F t=x):among F m x=true:=by
 simp only [among,List.any_eq_true,List.mem_range];exact ⟨t,ht,by simp [h]⟩
theorem among_miss {F:Nat->Int} {m:Nat} {x:Int} (h:∀t,t<m->F t≠x):among F m x=false:=by
 simp only [among,List.any_eq_false,List.mem_range];intro t ht
 simpa using h t ht
theorem below_box (w:World) (o:Obj):Below w.heap.size w (w.alloc o):=(Below.refl _ _).alloc (Nat.le_refl _) _
theorem app_one (ty:TypeId) (W:World) (B:Nat) (u:Value) (M:List E) (x0 x1 x2:Int) (h:Owns W B 61 u M) (hB:B<=W.heap.size) (hl:M.length<=1000):
 ∃v' w',(Builtin.append_ #[33,33] ty #[u,.slice (some ⟨W.heap.size,0,none⟩) 1 1]).run Tryz.prog (W.alloc (.cells #[.int .i64 x0,.int .i64 x1,.int .i64 x2] 61))= .ok v' w'/\Owns w' B 61 v' (M++[(x0,x1,x2)])/\Below B W w'/\Fresh W u v'/\W.grownBy w' u.ownBlock:=by
 have h':Owns (W.alloc (.cells #[.int .i64 x0,.int .i64 x1,.int .i64 x2] 61)) B 61 u M:=h.below (below_box W _);obtain ⟨v',w',h1,h2,h3,h4⟩:=append_E ty _ B u M [(x0,x1,x2)] h' (Nat.le_trans hB (by simp)) ⟨W.heap.size,0,none⟩ 1 1 rfl (cells_of_block (heap_alloc_new W _)) (by simp;omega);have hg:W.grownBy w' u.ownBlock:=by
  have hb:=below_box W (.cells #[.int .i64 x0,.int .i64 x1,.int .i64 x2] 61);exact ⟨h3.os.trans hb.os,h3.tape.trans hb.tape,h3.output.trans hb.output,Nat.le_trans hb.size h3.size,λ k hk hn=>(h3.block k (Nat.lt_of_lt_of_le hk hb.size) hn).trans (hb.block k hk)⟩
 refine ⟨v',w',h1,h2,⟨hg.os,hg.tape,hg.output,hg.size,λ k hk=>hg.block k (by omega) (λ e=>?_)⟩,λ k hk=>?_,hg⟩
 ·have:=(World.ownsRow.lt h k e.symm).1
  omega
 ·rcases h4 k hk with h5 | h5
  ·exact Or.inl h5
  ·exact Or.inr (Nat.le_trans (by simp) h5)
theorem take_filter {L:List E} {k:Nat} {x:E} (pf:E->Bool) (h:L[k]? =some x):(L.take (k+1)).filter pf=(L.take k).filter pf++(if pf x then [x] else []):=by
 obtain ⟨hlt,he⟩:=List.getElem?_eq_some_iff.1 h;rw [List.take_succ_eq_append_getElem hlt,List.filter_append,he];simp [List.filter_cons]
theorem filter_len (L:List E) (k:Nat) (pf:E->Bool):((L.take k).filter pf).length<=L.length:=Nat.le_trans (List.length_filter_le _ _) (by simp;omega)
def stays (Fe Fn:Nat->Int) (me mn:Nat):E->Bool:=λ e=>!among Fe me e.1&&!among Fn mn e.2.1&&!among Fn mn e.2.2
theorem append_none (ty:TypeId) (w:World) (g c n:Nat) (hn:n<=c):
 (Builtin.append_ #[33,33] ty #[.slice (some ⟨g,0,none⟩) n c,.slice none 0 0]).run Tryz.prog w= .ok (.slice (some ⟨g,0,none⟩) n c) w:=by
 obtain ⟨i,hi,hs,hb,hz⟩:=info61;simp [Builtin.append_,run_underlying Tryz.underlying33,sizeOf,typeInfo,hi,Builtin.lenOf,hn,Builtin.firstCells,storeCells]
theorem app_row (ty:TypeId) (W:World) (B B2:Nat) (g c:Nat) (u:Value) (L M:List E) (h:Owns W B 61 (.slice (some ⟨g,0,none⟩) L.length c) L) (hu:Owns W B2 61 u M) (hB:B<=W.heap.size) (hl:L.length+M.length<=100000):
 ∃v' w',(Builtin.append_ #[33,33] ty #[.slice (some ⟨g,0,none⟩) L.length c,u]).run Tryz.prog W= .ok v' w'/\Owns w' B 61 v' (L++M)/\Below B W w':=by
 rcases hu.shape with ⟨rfl,hM⟩ | ⟨gu,cu,rfl,_,_,_,_⟩
 ·subst hM
  have hc:L.length<=c:=by
   rcases h.shape with ⟨e,_⟩ | ⟨_,_,e,_,_,h3,_⟩
   ·simp at e
   ·injection e with _ _ e;omega
  exact ⟨_,_,append_none ty W g c _ hc,by simpa using h,Below.refl _ _⟩
 ·obtain ⟨v',w',h1,h2,h3,_⟩:=append_E ty W B _ L M h hB ⟨gu,0,none⟩ M.length cu rfl (World.ownsRow.cells hu rfl) hl
  refine ⟨v',w',h1,h2,⟨h3.os,h3.tape,h3.output,h3.size,λ k hk=>h3.block k (by omega) (λ e=>?_)⟩⟩;have:=(World.ownsRow.lt h k e.symm).1;omega
theorem owns_empty (W:World):Owns (W.alloc (.cells #[] 61)) W.heap.size 61 (.slice (some ⟨W.heap.size,0,none⟩) 0 0) []:=
 World.ownsRow_made W #[] 0 (Nat.le_refl _) (by simp [maxLen]) (by simp)
theorem copy_row (ty:TypeId) (W:World) (B2:Nat) (u:Value) (M:List E) (hu:Owns W B2 61 u M) (hl:M.length<=1000):
 ∃a m c w',(Builtin.append_ #[33,33] ty #[.slice (some ⟨W.heap.size,0,none⟩) 0 0,u]).run Tryz.prog (W.alloc (.cells #[] 61))= .ok (.slice a m c) w'/\Owns w' W.heap.size 61 (.slice a m c) M/\Below W.heap.size W w':=by
 obtain ⟨v',w',h1,h2,h3⟩:=app_row ty (W.alloc (.cells #[] 61)) W.heap.size B2 W.heap.size 0 u [] M (owns_empty W) (hu.below (below_box W _)) (by simp) (by simp;omega);obtain ⟨a,m,c,rfl⟩:=h2.slice;exact ⟨a,m,c,w',h1,h2,(below_box W _).trans h3⟩
end Go.Proofs.YtebcjaenhiiflaaGreatDoor.G
