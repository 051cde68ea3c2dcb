import Derived.WalkKit
import Derived.WalkSpells
import Derived.WalkLawsBesides
import Derived.Laws.AppendOwn
import Derived.Laws.IdiomCopy
import Derived.Deep.DeepAppendWide
import Derived.Laws.CopyOwn
import Derived.Laws.CopyRow
import Derived.Lib.AppendZerosOnto
import Derived.BigQuiet
import Derived.Sort.AtCall
import Derived.Deep.LoopGhost
import Derived.Laws.Shifts
import Derived.Lib.Overlaps
import Derived.Lib.AppendZeros
import Derived.Deep.RegionLaw
import Derived.Laws.ResultCell
import Derived.Deep.RegionHeld
import Derived.Deep.RegionHeldLaw
import Derived.Test.YtebcjaenhiiflaaGreatDoorQHi
import Derived.Test.YtebcjaenhiiflaaGreatDoorProg
import Derived.RowKit
import Derived.Test.YtebcjaenhiiflaaGreatDoorQGMFm
set_option maxHeartbeats 4000000
set_option maxRecDepth 100000
namespace Go.Proofs.Y.G
open Go.RowKit Go.Proofs.Tryz
def Au (x:E):List Value:=[.int .i64 x.1,.int .i64 x.2.1,.int .i64 x.2.2]
def Af (L:List E):List Value:=L.flatMap Au
theorem Dr (x:E)(L:List E):Af (x::L)=Au x++Af L:=rfl
theorem Gj (L M:List E):Af (L++M)=Af L++Af M:=by simp[Af]
theorem Ae:∀L:List E,(Af L).length=L.length*3
 |[]=>rfl
 |x::L=>by rw[Dr,aM,Ae L];simp[Au];omega
theorem Fa:∀(L:List E),∀u∈Af L,u.oneCell'=true
 |[],u,h=>by simp[Af] at h
 |x::L,u,h=>by
  rw[Dr] at h;rcases aK.1 h with h|h
  ·simp[Au] at h
   rcases h with rfl|rfl|rfl <;> rfl
  ·exact Fa L u h
theorem Zg (L:List E)(k:Nat):(Af L).drop (k*3)=Af (L.drop k):=by
 induction L generalizing k with
 |nil=>simp[Af]
 |cons x L ih=>
  rcases k with _|k
  ·simp
  ·rw[Dr,List.drop_succ_cons,<-ih]
   rw[show(k+1)*3=(Au x).length+k*3 by simp[Au];omega,List.drop_length_add_append]
theorem R7 (L:List E)(i:Nat)(x:E)(h:L[i]? =some x):(Af L)[i*3]? =some (.int .i64 x.1)/\(Af L)[i*3+1]? =some (.int .i64 x.2.1)/\(Af L)[i*3+2]? =some (.int .i64 x.2.2):=by
 have hd:=Zg L i;obtain⟨j6,he⟩:=aC.1 h;rw[eU j6,Dr,he] at hd;have h0:∀j,(Af L)[i*3+j]? =(Au x++Af (L.drop (i+1)))[j]? :=by
  intro j;rw[<-hd,fA]
 exact⟨by have:=h0 0;simpa[Au] using this,by have:=h0 1;simpa[Au] using this,by have:=h0 2;simpa[Au] using this⟩
theorem lt_of_some {w:World}{k:Nat}{o:Obj}(h:w.heap[k]? =some o):k<w:=by
 rcases eH k w.heap.size with h'|h'
 ·exact h'
 ·simp[Array.getElem?_eq_none h'] at h
theorem lt_of_cell {w:World}{b o:Nat}{v:Value}(h:w.cell? (b,o)=some v):b<w:=by
 rcases eH b w.heap.size with h'|h'
 ·exact h'
 ·simp[World.cell?,Array.getElem?_eq_none h'] at h
abbrev Ad (w:World)(B eT:Nat)(v:Value)(L:List E):Prop:=w.ownsRow B eT 3 v L.length (Af L)
theorem Ad.shape {w:World}{B eT:Nat}{v:Value}{L:List E}(h:Ad w B eT v L):(v= .slice none 0 0/\L=[])\/∃g cap,v= .slice (some ⟨g,0,none⟩) L.length cap/\B<=g/\g<w.heap.size/\L.length<=cap/\cap<=maxLen:=by
 rcases h.2 with⟨h1,h2⟩|⟨g,cap,cur,h1,h2,h3,h4,h5,_,_⟩
 ·exact Or.inl ⟨h1,bV h2⟩
 ·exact Or.inr ⟨g,cap,h1,h2,lt_of_some h3,h4,h5⟩
theorem Ad.at {w:World}{B eT g:Nat}{v:Value}{L:List E}(h:Ad w B eT v L)(hg:v.ownBlock=some g){i:Nat}{x:E}(hx:L[i]? =some x):
 w.cell? (g,i*3)=x.1/\w.cell? (g,i*3+1)=x.2.1/\w.cell? (g,i*3+2)=x.2.2:=by
 have hc:=bQ h hg;obtain⟨a,b,c⟩:=R7 L i x hx;have hadd:∀j,(⟨g,0,none⟩:Addr).add j=⟨g,j,none⟩:=λ j=>by unfold Addr.add;split <;> simp_all
 exact⟨by rw[<-hadd];exact hc _ _ a,by rw[<-hadd];exact hc _ _ b,by rw[<-hadd];exact hc _ _ c⟩
theorem Ml {w w':World}{B:Nat}(h:Below B w w')(hB:w<=B)(o:Option Nat):w.grownBy w' o:=⟨h.os,h.tape,h.output,h.size,λ k hk _=>h.block k (by omega)⟩
theorem Ad.below {w w':World}{B eT:Nat}{v:Value}{L:List E}(h:Ad w B eT v L)(hb:Below w w w'):Ad w' B eT v L:=
 dI h (Ml hb (aF _) none) (by cases hv:v.ownBlock <;> simp)
theorem Ad.mono {w:World}{B B' eT:Nat}{v:Value}{L:List E}(h:Ad w B eT v L)(hB:B'<=B):Ad w B' eT v L:=by
 refine⟨h.1,?_⟩;rcases h.2 with h'|⟨g,cap,cur,h1,h2,h3⟩
 ·exact Or.inl h'
 ·exact Or.inr ⟨g,cap,cur,h1,aD hB h2,h3⟩
structure Kept (p:Nat) (o:Option Nat) (w w':World):Prop where
 os:w'.os=w.os
 tape:w'.tape=w.tape
 output:w'.output=w.output
 size:w.heap.size<=w'.heap.size
 block:∀k,k<w.heap.size->k≠p->some k≠o->w'.heap[k]? =w.heap[k]?
theorem Kept.of_below {p:Nat}{o:Option Nat}{w w':World}(h:Below w w w'):Kept p o w w':=⟨h.os,h.tape,h.output,h.size,λ k hk _ _=>h.block k hk⟩
theorem Kept.trans {p:Nat}{o:Option Nat}{x y z:World}(h:Kept p o x y)(k:Kept p o y z):Kept p o x z:=
 ⟨k.os.trans h.os,k.tape.trans h.tape,k.output.trans h.output,aD h.size k.size,λ i hi h1 h2=>(k.block i (aR hi h.size) h1 h2).trans (h.block i hi h1 h2)⟩
theorem Kept.setCell {p:Nat}{o:Option Nat}{w w':World}(h:Kept p o w w')(k:Nat)(v:Value):Kept p o w (w'.setCell (p,k) v):=
 h.trans ⟨rfl,rfl,rfl,by simp,λ i _ hn _=>aV _ _ _ _ hn⟩
structure GAt (w:World) (B gT eT p:Nat) (n:Int) (v:Value) (L:List E):Prop where
 hp:w.heap[p]? =some (.cells #[n,v] gT)
 row:Ad w B eT v L
 ne:v.ownBlock≠some p
theorem GAt.plt {w:World}{B gT eT p:Nat}{n:Int}{v:Value}{L:List E}(h:GAt w B gT eT p n v L):p<w:=lt_of_some h.hp
theorem GAt.c0 {w:World}{B gT eT p:Nat}{n:Int}{v:Value}{L:List E}(h:GAt w B gT eT p n v L):w.cell? p=n:=by simp[World.cell?,h.hp]
theorem GAt.c1 {w:World}{B gT eT p:Nat}{n:Int}{v:Value}{L:List E}(h:GAt w B gT eT p n v L):w.cell? (p,1)=some v:=by simp[World.cell?,h.hp]
theorem GAt.f1 {w:World}{B gT eT p:Nat}{n:Int}{v:Value}{L:List E}(h:GAt w B gT eT p n v L)(i:Nat):w.frozen? (p,i)=false:=by simp[World.frozen?,h.hp]
theorem GAt.below {w w':World}{B gT eT p:Nat}{n:Int}{v:Value}{L:List E}(h:GAt w B gT eT p n v L)(hb:Below w w w'):GAt w' B gT eT p n v L:=
 ⟨by rw[hb.block p h.plt];exact h.hp,h.row.below hb,h.ne⟩
theorem GAt.lt {w:World}{B gT eT p k:Nat}{n:Int}{v:Value}{L:List E}(h:GAt w B gT eT p n v L)(hk:v.ownBlock=some k):B<=k/\k<w:=aU h.row k hk
theorem GAt.kept {w w':World}{B gT eT p p':Nat}{n:Int}{v:Value}{L:List E}{o:Option Nat}(h:GAt w B gT eT p n v L)(k:Kept p' o w w')(hp:p≠p')(RH:some p≠o)(XK:v.ownBlock≠some p')(ZH:v.ownBlock=none\/v.ownBlock≠o):GAt w' B gT eT p n v L:=by
 refine⟨by rw[k.block p h.plt hp RH];exact h.hp,⟨h.row.1,?_⟩,h.ne⟩;rcases h.row.2 with hn|⟨g,cap,cur,rfl,hb,hgg,rest⟩
 ·exact .inl hn
 ·refine .inr ⟨g,cap,cur,rfl,hb,?_,rest⟩
  rw[k.block g (lt_of_some hgg) (λ e=>XK (by simp[Value.ownBlock,e])) (by simpa[Value.ownBlock] using ZH)];exact hgg
theorem GAt.store {w w':World}{B gT eT p:Nat}{n:Int}{v u:Value}{L M:List E}(h:GAt w B gT eT p n v L)(hg:w.grownBy w' v.ownBlock)(hr:Ad w' B eT u M)(hu:u.ownBlock≠some p):GAt (w'.setCell (p,1) u) B gT eT p n u M:=by
 have hp:w'.heap[p]? =some (.cells #[n,v] gT):=by rw[hg.block p h.plt (λ e=>h.ne e.symm)];exact h.hp
 refine⟨?_,⟨hr.1,?_⟩,hu⟩
 ·simp only[World.setCell,dC,hp]
  simp
 ·rcases hr.2 with hn|⟨g,cap,cur,rfl,hb,hgg,rest⟩
  ·exact .inl hn
  ·refine .inr ⟨g,cap,cur,rfl,hb,?_,rest⟩
   rw[aV _ _ _ _ (λ e=>hu (by simp[Value.ownBlock,e]))];exact hgg
def Dm (w:World)(v v':Value):Prop:=∀k,v'.ownBlock=some k->v.ownBlock=some k\/w.heap.size<=k
def zE:Value:=.agg #[(0:Int),(0:Int),(0:Int)]
theorem Va:∃i,prog.info? 61=some i/\i.size=3/\i.bytes=24/\i.zero=some zE:=
 ⟨(prog.info? 61).get (by kernel_rfl),by kernel_rfl,by kernel_rfl,by kernel_rfl,by kernel_rfl⟩
theorem Me:zE.cells=#[.int .i64 0,.int .i64 0,.int .i64 0]:=by kernel_rfl
theorem Pf (ty:TypeId)(w:World)(B:Nat)(v:Value)(L M:List E)(h:Ad w B 61 v L)(hB:B<=w)(a:Addr)(m c:Nat)(hm:m=M.length)(hM:∀j u,(Af M)[j]? =some u->w.cell? (a.add j)=some u)(hl:L.length+M.length<=100000):
 ∃v' w',(Builtin.append_ #[33,33] ty #[v,.slice (some a) m c]).run prog w= .ok v' w'/\Ad w' B 61 v' (L++M)/\w.grownBy w' v.ownBlock/\Dm w v v':=by
 subst hm;obtain⟨i,hi,hs,hb,hz⟩:=Va;have own:∀B',Ad w B' 61 v L->B'<=w.heap.size->∃v' w',(Builtin.append_ #[33,33] ty #[v,.slice (some a) M.length c]).run prog w= .ok v' w'/\Ad w' B' 61 v' (L++M)/\w.grownBy w' v.ownBlock:=by
  intro B' h' hB';obtain⟨v',w',h1,h2,h3,_⟩:=kJ (P:=prog) w B' 33 ty 61 i zE 3 24 underlying33 hi hz hs hb (by rw[Me];rfl) (by omega) v L.length (Af L) h' a M.length c (Af M) (Ae M) hM (Fa M) (by simp only[maxLen];omega) (by omega) hB';refine⟨v',w',h1,?_,h3⟩;show w'.ownsRow B' 61 3 v' (L++M).length (Af (L++M));rw[aM,Gj];exact h2
 rcases h.2 with⟨rfl,h0⟩|⟨g,cap,cur,rfl,h1,h2,h3,h4,h5,h6⟩
 ·have hL:L=[]:=bV h0
  subst hL;obtain⟨v',w',e1,e2,e3⟩:=own w (aX w _ 61 3) (aF _);exact⟨v',w',e1,e2.mono hB,e3,λ k hk=>Or.inr (aU e2 k hk).1⟩
 ·obtain⟨v',w',e1,e2,e3⟩:=own B h hB
  refine⟨v',w',e1,e2,e3,?_⟩;by_cases FB:L.length+M.length<=cap
  ·have hr:=iX (P:=prog) w 33 ty 61 i underlying33 hi g L.length cap cur h2 a M.length c (Af M) (by rw[hs];exact Ae M) hM (Fa M) FB (by rw[hs,h5,Ae];omega)
   rw[hr] at e1;injection e1 with e1 _
   subst e1;intro k hk;exact Or.inl hk
  ·have hr:=kD (P:=prog) w 33 ty 61 i zE underlying33 hi hz g L.length cap (Af L) (by rw[hs];exact Ae L) (bQ h rfl) a M.length c (Af M) (by rw[hs];exact Ae M) hM (by omega) (by omega) (jG (by omega) (by rw[hb];omega))
   rw[hr] at e1;injection e1 with e1 _
   subst e1;intro k hk;have hk':w.heap.size=k:=by simpa[Value.ownBlock] using hk
   exact Or.inr (by omega)
theorem A7 {P:Program}{ops:Array Oper}{o:Oper}{a:Act}{w:World}{K:Act->World->Prop}{Q:Exit->Act->World->Prop}{E:Prop}
 (hg:o.guard=none) (d x:Operand) (dT sT:TypeId) (WU:o.op=Op.call {callee:=Callee.builtin Builtin.append,args:=#[d,x],argTypes:=#[dT,sT]})
 (v u:Value) (hd:a.eval d=v) (hx:a.eval x=u) {v':Value} {w':World} (hr:(Builtin.append_ #[dT,sT] o.type #[v,u]).run P w= .ok v' w') (hK:K (a.put o.dst v') w'):
 if Region.wanted o (yielded ops a.tmps)=true then Oper.wp P o a w K Q else E:=by
 have hw:Region.wanted o (yielded ops a.tmps)=true:=by simp[Region.wanted,hg]
 rw[aP hw];unfold Oper.wp;simp[execOp,WU,resolve,invoke,builtin,hd,hx,hr,Result.andThen];exact hK
theorem Bh (b n:Nat):(⟨b,0,none⟩:Addr).add n=⟨b,n,none⟩:=by
 unfold Addr.add;split <;> simp_all
theorem cells_of_block {w:World}{b:Nat}{x:E}(h:w.heap[b]? =some (.cells (Au x).toArray 61)):∀j u,(Af [x])[j]? =some u->w.cell? ((⟨b,0,none⟩:Addr).add j)=some u:=by
 intro j u hu;rw[Bh];have e:Af [x]=Au x:=by simp[Af]
 rw[e] at hu;simp[World.cell?,h,hu]
theorem Ny {w w':World}{B gT p:Nat}{n:Int}{v:Value}{L:List E}(h:GAt w B gT 61 p n v L)(hg:w.grownBy w' v.ownBlock):w'.cell? (p,1)=some v/\w'.frozen? (p,1)=false:=by
 have hp:w'.heap[p]? =some (.cells #[n,v] gT):=by rw[hg.block p h.plt (λ e=>h.ne e.symm)];exact h.hp
 exact⟨by simp[World.cell?,hp],by simp[World.frozen?,hp]⟩
theorem Ad.slice {w:World}{B eT:Nat}{v:Value}{L:List E}(h:Ad w B eT v L):∃a m c,v= .slice a m c:=by
 rcases h.shape with⟨e,_⟩|⟨_,_,e,_⟩
 ·exact⟨_,_,_,e⟩
 ·exact⟨_,_,_,e⟩
theorem Ad.Ap {w:World}{B eT:Nat}{v:Value}{L:List E}(h:Ad w B eT v L):∃a c,v= .slice a L.length c:=by
 rcases h.shape with⟨e,e2⟩|⟨_,_,e,_⟩
 ·exact⟨none,0,by rw[e,e2];rfl⟩
 ·exact⟨_,_,e⟩
def Jd (w w':World)(B gT p:Nat)(n:Int)(v:Value)(L:List E):Prop:=∃v',GAt w' B gT 61 p n v' L/\Kept p v.ownBlock w w'/\Dm w v v'
def Ec (id a b n:Int):Prop:=(0<=id/\id<=1099511627776)/\(0<=a/\a<n)/\(0<=b/\b<n)
structure Ints (w:World) (a:Option Addr) (m:Nat) (F:Nat->Int):Prop where
 some_:0<m->∃bl off,a=some ⟨bl,off,none⟩/\(∀t,t<m->w.cell? ⟨bl,off+t,none⟩=(F t:Int))
theorem Ints.below {w w':World}{a:Option Addr}{m:Nat}{F:Nat->Int}(h:Ints w a m F)(hb:Below w w w'):Ints w' a m F:=by
 refine⟨λ h0=>?_⟩;obtain⟨bl,off,e,hc⟩:=h.some_ h0;exact⟨bl,off,e,λ t ht=>(hb.cell (p:=⟨bl,off+t,none⟩) (lt_of_cell (hc t ht))).trans (hc t ht)⟩
def among (F:Nat->Int)(m:Nat)(x:Int):Bool:=(List.range m).any λ t=>F t==x
theorem Qo {F:Nat->Int}{m t:Nat}{x:Int}(ht:t<m)(h:F t=x):among F m x=true:=by
 simp only[among,fM,bF];exact⟨t,ht,by simp[h]⟩
theorem Ol {F:Nat->Int}{m:Nat}{x:Int}(h:∀t,t<m->F t≠x):among F m x=false:=by
 simp only[among,List.any_eq_false,bF];intro t ht
 simpa using h t ht
theorem F4 (a:Option Addr)(m cap:Nat)(F:Nat->Int)(x:Int)(ok:Bool)(w:World)(h:Ints w a m F)(hm:m<=1000)(p8:among F m x=ok):
 Calls prog 120 #[.slice a m cap,x] w λ e w'=>e=ok/\w'=w:=by
 have HI:=kd h;have HO:=kd p8;clear h p8;go_enter func120,ntmps120;go_wp2_with fail;go_loopg [6,9] m (λ r _ s9 wq=>∃k:Nat,s9=k/\k+r=m/\(∀t,t<k->F t≠x)/\wq=w)
 case atStart=>exact⟨0,rfl,by omega,λ t ht=>by omega,rfl⟩
 case round=>
  obtain⟨k,rfl,hk,AA,rfl⟩:=hrel;by_cases j6:k<m
  ·obtain⟨bl,off,ha,hc⟩:=HI.o.some_ (by omega)
   have c:=hc k j6;subst ha;clear hc;by_cases hy:x=F k
   ·as_aux_lemma=>
    have HA:Hid (ok=true):=by
     show ok=true;rw[<-HO.o,Qo j6 hy.symm]
    clear AA;generalize F k=y at*;subst hy;go_wp2_with fail;go_ret;exact⟨by rw[HA.o];rfl,rfl⟩
   ·as_aux_lemma=>
    have HN:Hid (∀t,t<k+1->F t≠x):=by
     intro t ht;rcases Nat.lt_succ_iff_lt_or_eq.1 ht with h|h
     ·exact AA t h
     ·subst h;exact λ e=>hy e.symm
    clear AA;generalize F k=y at*;have hyb:(x==y)=false:=aH.2 hy;clear hy;go_wp2_with fail;go_roundg (gk-1);case measure=>omega
    case rel=>exact⟨k+1,by go_num,by omega,HN.o,rfl⟩
  ·have HA:Hid (ok=false):=by
    show ok=false;rw[<-HO.o,Ol (λ t ht=>AA t (by omega))]
   clear AA;go_wp2_with fail;go_ret;exact⟨by rw[HA.o];rfl,rfl⟩
theorem Aw (w:World)(o:Obj):Below w w (w.alloc o):=b_
theorem Oa (ty:TypeId)(W:World)(B:Nat)(u:Value)(M:List E)(x0 x1 x2:Int)(h:Ad W B 61 u M)(hB:B<=W)(hl:M.length<=1000):
 ∃v' w',(Builtin.append_ #[33,33] ty #[u,.slice W 1 1]).run prog (W.alloc (.cells #[x0,x1,x2] 61))= .ok v' w'/\Ad w' B 61 v' (M++[(x0,x1,x2)])/\Below B W w'/\Dm W u v'/\W.grownBy w' u.ownBlock:=by
 have h':Ad (W.alloc (.cells #[x0,x1,x2] 61)) B 61 u M:=h.below (Aw W _);obtain⟨v',w',h1,h2,h3,h4⟩:=Pf ty _ B u M [(x0,x1,x2)] h' (aD hB (by simp)) W 1 1 rfl (cells_of_block (aQ W _)) (by simp;omega);have hg:W.grownBy w' u.ownBlock:=by
  have hb:=Aw W (.cells #[x0,x1,x2] 61);exact⟨h3.os.trans hb.os,h3.tape.trans hb.tape,h3.output.trans hb.output,aD hb.size h3.size,λ k hk hn=>(h3.block k (aR hk hb.size) hn).trans (hb.block k hk)⟩
 refine⟨v',w',h1,h2,⟨hg.os,hg.tape,hg.output,hg.size,λ k hk=>hg.block k (by omega) (λ e=>?_)⟩,λ k hk=>?_,hg⟩
 ·have:=(aU h k e.symm).1
  omega
 ·rcases h4 k hk with h5|h5
  ·exact Or.inl h5
  ·exact Or.inr (aD (by simp) h5)
theorem Eb {L:List E}{k:Nat}{x:E}(pf:E->Bool)(h:L[k]? =some x):(L.take (k+1)).filter pf=(L.take k).filter pf++(if pf x then [x] else []):=by
 obtain⟨j6,he⟩:=aC.1 h;rw[cB j6,bP,he];simp[List.filter_cons]
theorem Uz (L:List E)(k:Nat)(pf:E->Bool):((L.take k).filter pf).length<=L.length:=aD (aW _ _) (by simp;omega)
def stays (Fe Fn:Nat->Int)(me mn:Nat):E->Bool:=λ e=>!among Fe me e.1&&!among Fn mn e.2.1&&!among Fn mn e.2.2
theorem zah (ty:TypeId)(w:World)(g c n:Nat)(hn:n<=c):
 (Builtin.append_ #[33,33] ty #[.slice g n c,.slice none 0 0]).run prog w= .ok (.slice g n c) w:=by
 obtain⟨i,hi,hs,hb,hz⟩:=Va;simp[Builtin.append_,run_underlying underlying33,sizeOf,typeInfo,hi,Builtin.lenOf,hn,Builtin.firstCells,storeCells]
theorem zrs (ty:TypeId)(W:World)(B B2:Nat)(g c:Nat)(u:Value)(L M:List E)(h:Ad W B 61 (.slice g L.length c) L)(hu:Ad W B2 61 u M)(hB:B<=W)(hl:L.length+M.length<=100000):
 ∃v' w',(Builtin.append_ #[33,33] ty #[.slice g L.length c,u]).run prog W= .ok v' w'/\Ad w' B 61 v' (L++M)/\Below B W w':=by
 rcases hu.shape with⟨rfl,hM⟩|⟨gu,cu,rfl,_,_,_,_⟩
 ·subst hM
  have hc:L.length<=c:=by
   rcases h.shape with⟨e,_⟩|⟨_,_,e,_,_,h3,_⟩
   ·simp at e
   ·injection e with _ _ e;omega
  exact⟨_,_,zah ty W g c _ hc,by simpa using h,aI _ _⟩
 ·obtain⟨v',w',h1,h2,h3,_⟩:=Pf ty W B _ L M h hB gu M.length cu rfl (bQ hu rfl) hl
  refine⟨v',w',h1,h2,⟨h3.os,h3.tape,h3.output,h3.size,λ k hk=>h3.block k (by omega) (λ e=>?_)⟩⟩;have:=(aU h k e.symm).1;omega
theorem Pd (W:World):Ad (W.alloc (.cells #[] 61)) W 61 (.slice W 0 0) []:=
 World.ownsRow_made W #[] 0 (aF _) (by simp[maxLen]) (by simp)
theorem Tc (ty:TypeId)(W:World)(B2:Nat)(u:Value)(M:List E)(hu:Ad W B2 61 u M)(hl:M.length<=1000):
 ∃a m c w',(Builtin.append_ #[33,33] ty #[.slice W 0 0,u]).run prog (W.alloc (.cells #[] 61))= .ok (.slice a m c) w'/\Ad w' W 61 (.slice a m c) M/\Below W W w':=by
 obtain⟨v',w',h1,h2,h3⟩:=zrs ty (W.alloc (.cells #[] 61)) W B2 W 0 u [] M (Pd W) (hu.below (Aw W _)) (by simp) (by simp;omega);obtain⟨a,m,c,rfl⟩:=h2.slice;exact⟨a,m,c,w',h1,h2,(Aw W _).trans h3⟩
theorem zm6 (ty:TypeId)(W:World)(B2:Nat)(u:Value)(M:List E)(x0 x1 x2:Int)(hu:Ad W B2 61 u M)(hl:M.length<=1000):
 ∃a m c w2 a' m' c' w3,(Builtin.append_ #[33,33] ty #[.slice W 0 0,u]).run prog (W.alloc (.cells #[] 61))= .ok (.slice a m c) w2/\
  (Builtin.append_ #[33,33] ty #[.slice a m c,.slice (some ⟨w2.heap.size,0,none⟩) 1 1]).run prog (w2.alloc (.cells #[x0,x1,x2] 61))= .ok (.slice a' m' c') w3/\
  Ad w3 W 61 (.slice a' m' c') (M++[(x0,x1,x2)])/\Below W W w3:=by
 obtain⟨a,m,c,w2,h1,h2,h3⟩:=Tc ty W B2 u M hu hl;obtain⟨v',w3,h4,h5,h6,_,_⟩:=Oa ty w2 W _ M x0 x1 x2 h2 h3.size hl;obtain⟨a',m',c',rfl⟩:=h5.slice;exact⟨a,m,c,w2,a',m',c',w3,h1,h4,h5,h3.trans h6⟩
theorem Qu {w w1 w3:World}{B gT p:Nat}{n:Int}{v u:Value}{L M:List E}(h:GAt w B gT 61 p n v L)(hB:B<=w)(hb:Below w w w1)(hr:Ad w3 w1 61 u M)(y8:Below w1 w1 w3):
 Jd w (w3.setCell (p,1) u) B gT p n v M/\w3.cell? (p,1)=some v/\w3.frozen? (p,1)=false:=by
 have hb':Below w w w3:=hb.tr y8;have h3:=h.below hb';have hg:w3.grownBy w3 v.ownBlock:=⟨rfl,rfl,rfl,aF _,λ _ _ _=>rfl⟩;have j6:∀k,u.ownBlock=some k->w.heap.size<=k:=λ k hk=>aD hb.size (aU hr k hk).1
 have JD:u.ownBlock≠some p:=λ e=>by have:=j6 p e;have:=h.plt;omega
 exact⟨⟨u,h3.store hg (hr.mono (aD hB hb.size)) JD,(Kept.of_below hb').setCell 1 u,λ k hk=>Or.inr (j6 k hk)⟩,h3.c1,h3.f1 1⟩
theorem zj0 (x lo hi:Int)(ok:Bool)(w:World)(p8:decide (lo<=x/\x<=hi)=ok):
 Calls prog 45 #[x,lo,hi] w λ e w'=>e=ok/\w'=w:=by
 by_cases h1:lo<=x
 ·by_cases h2:x<=hi
  ·have HO:Hid (ok=true):=by
    show ok=true;rw[<-p8];exact bI ⟨h1,h2⟩
   clear p8;go_enter func45,ntmps45;go_wp2;go_ret;exact⟨by rw[HO.o];rfl,rfl⟩
  ·have HO:Hid (ok=false):=by
    show ok=false;rw[<-p8];exact bM (λ h=>h2 h.2)
   clear p8;go_enter func45,ntmps45;go_wp2;go_ret;exact⟨by rw[HO.o];rfl,rfl⟩
 ·have HO:Hid (ok=false):=by
   show ok=false;rw[<-p8];exact bM (λ h=>h1 h.1)
  clear p8;go_enter func45,ntmps45;go_wp2;go_ret;exact⟨by rw[HO.o];rfl,rfl⟩
theorem E5 (x lo hi:Int)(w:World)(h:lo<=x/\x<=hi):Calls prog 45 #[x,lo,hi] w λ e w'=>e=true/\w'=w:=zj0 x lo hi true w (bI h)
theorem Mh (x lo hi:Int)(w:World)(h:¬(lo<=x/\x<=hi)):Calls prog 45 #[x,lo,hi] w λ e w'=>e=false/\w'=w:=zj0 x lo hi false w (bM h)
theorem zdj (id a b n:Int)(B q:Nat)(u:Value)(R:List E)(w:World)(h:GAt w B 40 61 q n u R)(h0:0<=n)(h40:n<=40)(hr:¬Ec id a b n):
 Calls prog 20 #[.pointer q,id,a,b] w λ e w'=>e=(2:Int)/\Below w w w':=by
 have hc:=h.c0;clear h;by_cases h1:0<=id/\id<=1099511627776
 ·have H1:=kd h1
  by_cases h2:0<=a/\a<=n-1
  ·have H2:=kd h2
   have H3:Hid (¬(0<=b/\b<=n-1)):=λ h3=>hr ⟨h1,⟨h2.1,by omega⟩,⟨h3.1,by omega⟩⟩
   clear hr h1 h2;go_enter func20,ntmps20;go_wp2_with fail;refine(E5 id 0 1099511627776 w H1.o).mono ?_;rintro e w1 ⟨rfl,rfl⟩;go_wp2_with fail;refine(E5 a 0 (n-1) _ H2.o).mono ?_;rintro e w2 ⟨rfl,rfl⟩;go_wp2_with fail;refine(Mh b 0 (n-1) _ H3.o).mono ?_;rintro e w3 ⟨rfl,rfl⟩;go_wp2_with fail;go_ret;exact⟨rfl,aI _ _⟩
  ·have H2:=kd h2
   clear hr h1 h2;go_enter func20,ntmps20;go_wp2_with fail;refine(E5 id 0 1099511627776 w H1.o).mono ?_;rintro e w1 ⟨rfl,rfl⟩;go_wp2_with fail;refine(Mh a 0 (n-1) _ H2.o).mono ?_;rintro e w2 ⟨rfl,rfl⟩;go_wp2_with fail;go_ret;exact⟨rfl,aI _ _⟩
 ·have H1:=kd h1
  clear hr h1;go_enter func20,ntmps20;go_wp2_with fail;refine(Mh id 0 1099511627776 w H1.o).mono ?_;rintro e w1 ⟨rfl,rfl⟩;go_wp2_with fail;go_ret;exact⟨rfl,aI _ _⟩
theorem znf (id a n:Int)(B q:Nat)(u:Value)(R:List E)(w:World)(h:GAt w B 40 61 q n u R)(h0:0<=n)(h40:n<=40)(hr:Ec id a a n):
 Calls prog 20 #[.pointer q,id,a,a] w λ e w'=>e=(1:Int)/\Below w w w':=by
 have hc:=h.c0;have H1:=kd hr.1;have H2:Hid (0<=a/\a<=n-1):=⟨hr.2.1.1,by have:=hr.2.1.2;omega⟩;clear hr h;go_enter func20,ntmps20;go_wp2_with fail;refine(E5 id 0 1099511627776 w H1.o).mono ?_;rintro e w1 ⟨rfl,rfl⟩;go_wp2_with fail;refine(E5 a 0 (n-1) _ H2.o).mono ?_;rintro e w2 ⟨rfl,rfl⟩;go_wp2_with fail;refine(E5 a 0 (n-1) _ H2.o).mono ?_;rintro e w3 ⟨rfl,rfl⟩;go_wp2_with fail;go_ret;exact⟨rfl,aI _ _⟩
def zl2 (w:World)(B q:Nat)(n:Int)(u:Value)(R:List E)(id lo hi:Int)(e:Ending)(w':World):Prop:=
 ((∃x∈R,x.1=id)/\e=(9:Int)/\Below w w w')\/
 ((∀x∈R,x.1≠id)/\120<=R.length/\e=(12:Int)/\Below w w w')\/
 ((∀x∈R,x.1≠id)/\R.length<120/\e=(0:Int)/\Jd w w' B 40 q n u (R++[(id,lo,hi)]))
theorem zpx (id a b n lo hi:Int)(B q:Nat)(u:Value)(R:List E)(w:World)(h:GAt w B 40 61 q n u R)(hB:B<=w)(hl:R.length<=120)(h0:0<=n)(h40:n<=40)(hr:Ec id a b n)(BJ:a≠b)(KX:lo=min a b)(RJ:hi=max a b):
 Calls prog 20 #[.pointer q,id,a,b] w λ e w'=>zl2 w B q n u R id lo hi e w':=by
 have hc:=h.c0;have TF:=h.c1;have H1:=kd hr.1;have H2:Hid (0<=a/\a<=n-1):=⟨hr.2.1.1,by have:=hr.2.1.2;omega⟩;have H3:Hid (0<=b/\b<=n-1):=⟨hr.2.2.1,by have:=hr.2.2.2;omega⟩;have HG:=kd h;have HB:=kd hB;have hqlt:=h.plt;obtain⟨m,hm⟩:∃m,m=R.length:=⟨_,rfl⟩;have HM:=kd hm;obtain⟨ua,uc,hv⟩:=h.row.Ap;rw[<-hm] at hv hl;have HV:=kd hv;rw[hv] at TF;have h5:(a==b)=false:=aH.2 BJ;clear hr h hB hv hm;go_enter func20,ntmps20;go_wp2_with fail;refine(E5 id 0 1099511627776 w H1.o).mono ?_;rintro e w1 ⟨rfl,rfl⟩;go_wp2_with fail;refine(E5 a 0 (n-1) _ H2.o).mono ?_;rintro e w2 ⟨rfl,rfl⟩;go_wp2_with fail;refine(E5 b 0 (n-1) _ H3.o).mono ?_;rintro e w ⟨rfl,rfl⟩;go_wp2_with fail;go_loopg [10,42] m (λ r _ s42 wq=>∃k:Nat,s42=k/\k+r=m/\(∀x∈R.take k,x.1≠id)/\Below w w wq)
 case atStart=>exact⟨0,rfl,by omega,λ x hx=>by simp at hx,aI _ _⟩
 case round=>
  obtain⟨k,rfl,hk,AA,hb⟩:=hrel;have DZ:=kd AA;have CQ:=kd hb;clear AA hb;by_cases j6:k<m
  ·obtain⟨x0,x1,x2,hx⟩:∃x0 x1 x2,R[k]? =some (x0,x1,x2):=⟨_,_,_,aB (by rw[<-HM.o];exact j6)⟩
   have HX:=kd hx;obtain⟨g,MQ⟩:∃g,ua=some ⟨g,0,none⟩:=by
    rcases HG.o.row.shape with⟨_,e⟩|⟨g,cap,e,_⟩
    ·rw[e] at hx;simp at hx
    ·rw[HV.o] at e
     injection e with e1 _ _
     exact⟨g,e1⟩
   obtain⟨r0,r1,r2⟩:=(HG.o.below CQ.o).row.at (g:=g) (by rw[HV.o,MQ];rfl) hx;have r0':wr.cell? (g,k*3)=x0:=r0;have r1':wr.cell? (g,k*3+1)=x1:=r1;have r2':wr.cell? (g,k*3+2)=x2:=r2;have x8:Hid (∀o,Below w w (wr.alloc o)):=λ o=>CQ.o.alloc CQ.o.size _
   clear r0 r1 r2 hx;subst MQ;by_cases DD:x0=id
   ·as_aux_lemma=>
    have HH:Hid (∃x∈R,x.1=id):=⟨_,aG HX.o,DD⟩;subst DD;go_wp2_with fail;go_ret;exact Or.inl ⟨HH.o,rfl,x8.o _⟩
   ·as_aux_lemma=>
    have HN:Hid (∀x∈R.take (k+1),x.1≠id):=by
     intro x hx;obtain⟨hlt',he⟩:=aC.1 HX.o;rw[cB hlt',he] at hx;rcases aK.1 hx with h|h
     ·exact DZ.o x h
     ·rw[aJ.1 h];exact DD
    have hib:(x0==id)=false:=aH.2 DD;clear DD;go_wp2_with fail;go_roundg (gk-1);case measure=>omega
    case rel=>exact⟨k+1,by go_num,by omega,HN.o,x8.o _⟩
  ·have HN:Hid (∀x∈R,x.1≠id):=by
    have e:R.take k=R:=aZ (by rw[<-HM.o];omega);have:=DZ.o;rw[e] at this;exact this
   have hg:=HG.o.below CQ.o;have hu2:=hg.c1;have hq2:=hg.plt;rw[HV.o] at hu2;clear DZ;by_cases hf:120<=m
   ·as_aux_lemma=>
    have hf':(120:Int)<=(m:Int):=by omega
    have HF:Hid (120<=R.length):=by rw[<-HM.o];exact hf
    clear hg;go_wp2_with fail;go_ret;exact Or.inr (Or.inl ⟨HN.o,HF.o,rfl,CQ.o⟩)
   ·have hf':¬((120:Int)<=(m:Int)):=by omega
    have HF:Hid (R.length<120):=by
     show R.length<120;rw[<-HM.o];omega
    obtain⟨a1,m1,c1,wa,a2,m2,c2,wb,e1,e2,e3,e4⟩:=zm6 33 wr B u R id lo hi hg.row (by have:=HF.o;omega);obtain⟨s1,s2,s3⟩:=Qu HG.o HB.o CQ.o e3 e4;rw[HV.o] at e1 s2;have HE1:=kd e1;have HE2:=kd e2;have HS:=kd s1;clear hg e1 e2 e3 e4 s1;rcases jK BJ with XL|hgt2
    ·as_aux_lemma=>
     obtain rfl:lo=a:=by rw[KX];omega
     obtain rfl:hi=b:=by rw[RJ];omega
     clear KX RJ BJ;have hn:¬(hi<lo):=by omega
     go_wp2_with (first
      |(at_builtin;refine Lib.wpList_append_run _ rfl _ _ _ _ rfl _ _ rfl rfl _ _ HE1.o ?_;clear HE1)
      |(at_builtin;refine Lib.wpList_append_run _ rfl _ _ _ _ rfl _ _ rfl rfl _ _ HE2.o ?_))
     go_ret;exact Or.inr (Or.inr ⟨HN.o,HF.o,rfl,HS.o⟩)
    ·as_aux_lemma=>
     obtain rfl:lo=b:=by rw[KX];omega
     obtain rfl:hi=a:=by rw[RJ];omega
     clear KX RJ BJ;have hn:lo<hi:=by omega
     go_wp2_with (first
      |(at_builtin;refine Lib.wpList_append_run _ rfl _ _ _ _ rfl _ _ rfl rfl _ _ HE1.o ?_;clear HE1)
      |(at_builtin;refine Lib.wpList_append_run _ rfl _ _ _ _ rfl _ _ rfl rfl _ _ HE2.o ?_))
     go_ret;exact Or.inr (Or.inr ⟨HN.o,HF.o,rfl,HS.o⟩)
theorem zh0 (ty:TypeId)(W:World)(B o:Nat)(n:Int)(v:Value)(M:List E)(x0 x1 x2:Int)(h:GAt W B 40 61 o n v M)(hB:B<=W)(ho:B<=o)(hl:M.length<=1000):
 ∃a m c w2,(Builtin.append_ #[33,33] ty #[v,.slice W 1 1]).run prog (W.alloc (.cells #[x0,x1,x2] 61))= .ok (.slice a m c) w2/\w2.cell? (o,1)=some v/\w2.frozen? (o,1)=false/\
  GAt (w2.setCell (o,1) (.slice a m c)) B 40 61 o n (.slice a m c) (M++[(x0,x1,x2)])/\Below B W (w2.setCell (o,1) (.slice a m c)):=by
 obtain⟨v',w2,h1,h2,h3,h4,h5⟩:=Oa ty W B v M x0 x1 x2 h.row hB hl;obtain⟨a,m,c,rfl⟩:=h2.slice;have hu:(Value.slice a m c).ownBlock≠some o:=by
  intro e;rcases h4 o e with h6|h6
  ·exact h.ne h6
  ·have:=h.plt;omega
 exact⟨a,m,c,w2,h1,(Ny h h5).1,(Ny h h5).2,h.store h5 h2 hu,h3.setCell ho _⟩
theorem Du (n:Int)(B q:Nat)(u:Value)(R:List E)(ae an:Option Addr)(me mn ce cn:Nat)(Fe Fn:Nat->Int)(w:World)(h:GAt w B 40 61 q n u R)(hl:R.length<=120)(CR:Ints w ae me Fe)(p9:Ints w an mn Fn)(TR:me<=1000)(RS:mn<=1000):
 Calls prog 58 #[.pointer q,.slice ae me ce,.slice an mn cn] w λ e w'=>∃q' v',e=Value.pointer (some ⟨q',0,none⟩)/\GAt w' w 40 61 q' n v' (R.filter (stays Fe Fn me mn))/\Below w w w':=by
 have hc:=h.c0;have TF:=h.c1;have hqlt:=h.plt;have HG:=kd h;have VJ:Hid (∀W,Below w w W->Ints W ae me Fe):=λ W hW=>CR.below hW
 have BG:Hid (∀W,Below w w W->Ints W an mn Fn):=λ W hW=>p9.below hW
 obtain⟨m,hm⟩:∃m,m=R.length:=⟨_,rfl⟩;have HM:=kd hm;obtain⟨ua,uc,hv⟩:=h.row.Ap;rw[<-hm] at hv hl;have HV:=kd hv;rw[hv] at TF;obtain⟨pf,UC⟩:∃pf,pf=stays Fe Fn me mn:=⟨_,rfl⟩;rw[<-UC];have HPF:Hid (∀x0 x1 x2,pf (x0,x1,x2)=(!among Fe me x0&&!among Fn mn x1&&!among Fn mn x2)):=λ x0 x1 x2=>by rw[UC];rfl
 have JF:Hid (GAt (w.alloc (.cells #[n,.slice none 0 0] 40)) w 40 61 w n (.slice none 0 0) []/\Below w w (w.alloc (.cells #[n,.slice none 0 0] 40))):=by
  refine⟨⟨?_,aX _ _ _ _,λ e=>by cases e⟩,Aw w _⟩;exact aQ w _
 clear h CR p9 hv hm UC;go_enter func58,ntmps58;go_wp2_with fail;go_loopg [10,22] m (λ r _ s22 wq=>∃k:Nat,s22=k/\k+r=m/\∃a' m' c',GAt wq w 40 61 w n (.slice a' m' c') ((R.take k).filter pf)/\Below w w wq)
 case atStart=>exact⟨0,rfl,by omega,_,_,_,JF.o⟩
 case round=>
  obtain⟨k,rfl,hk,a',m',c',hg,hb⟩:=hrel;have HGO:=kd hg;have CQ:=kd hb;clear hg hb JF;by_cases j6:k<m
  ·obtain⟨x0,x1,x2,hx⟩:∃x0 x1 x2,R[k]? =some (x0,x1,x2):=⟨_,_,_,aB (by rw[<-HM.o];exact j6)⟩
   have HX:=kd hx;obtain⟨g,MQ⟩:∃g,ua=some ⟨g,0,none⟩:=by
    rcases HG.o.row.shape with⟨_,e⟩|⟨g,cap,e,_⟩
    ·rw[e] at hx;simp at hx
    ·rw[HV.o] at e
     injection e with e1 _ _
     exact⟨g,e1⟩
   obtain⟨r0,r1,r2⟩:=(HG.o.below CQ.o).row.at (g:=g) (by rw[HV.o,MQ];rfl) hx;have r0':wr.cell? (g,k*3)=x0:=r0;have r1':wr.cell? (g,k*3+1)=x1:=r1;have r2':wr.cell? (g,k*3+2)=x2:=r2;clear r0 r1 r2 hx;subst MQ;obtain⟨W1,AJ⟩:∃W1,W1=wr.alloc (.cells #[x0,x1,x2] 61):=⟨_,rfl⟩;have BK:Below wr wr W1:=by rw[AJ];exact Aw wr _
   have x8:Hid (Below w w W1):=CQ.o.tr BK;have FH:Hid (GAt W1 w 40 61 w n (.slice a' m' c') ((R.take k).filter pf)):=HGO.o.below BK;have hh:W1.heap[wr.heap.size]? =some (.cells #[x0,x1,x2] 61):=by rw[AJ];exact aQ wr _
   have p0:W1.cell? wr=x0:=by simp[World.cell?,hh]
   have p1:W1.cell? (wr,1)=x1:=by simp[World.cell?,hh]
   have p2:W1.cell? (wr,2)=x2:=by simp[World.cell?,hh]
   have plt:wr.heap.size<W1.heap.size:=lt_of_some hh;have olt:w.heap.size<W1.heap.size:=FH.o.plt;have oc:=FH.o.c1;have BQ:=kd AJ.symm;have MK:=HPF.o x0 x1 x2;clear hh BK AJ HGO;generalize j4:among Fe me x0=b1 at MK;generalize j5:among Fn mn x1=b2 at MK;generalize y8:among Fn mn x2=b3 at MK;have HA1:=kd j4;have MN:=kd j5;have QV:=kd y8;clear j4 j5 y8;have QW:Hid (pf (x0,x1,x2)=false->((R.take (k+1)).filter pf)=((R.take k).filter pf)):=by
    intro hf;rw[Eb pf HX.o,hf];simp
   cases b1 with
   |true=>
    as_aux_lemma=>
    have HF:Hid (GAt W1 w 40 61 w n (.slice a' m' c') ((R.take (k+1)).filter pf)):=by
     show GAt W1 w.heap.size 40 61 w.heap.size n (.slice a' m' c') ((R.take (k+1)).filter pf);rw[QW.o MK];exact FH.o
    clear MK QW;go_wp2_with fail;rw[BQ.o];refine(F4 ae me ce Fe x0 true W1 (VJ.o _ x8.o) TR HA1.o).mono ?_;rintro e w2 ⟨rfl,rfl⟩;go_wp2_with fail;go_roundg (gk-1);case measure=>omega
    case rel=>exact⟨k+1,by go_num,by omega,a',m',c',HF.o,x8.o⟩
   |false=>
    cases b2 with
    |true=>
     as_aux_lemma=>
     have HF:Hid (GAt W1 w 40 61 w n (.slice a' m' c') ((R.take (k+1)).filter pf)):=by
      show GAt W1 w.heap.size 40 61 w.heap.size n (.slice a' m' c') ((R.take (k+1)).filter pf);rw[QW.o MK];exact FH.o
     clear MK QW;go_wp2_with fail;rw[BQ.o];refine(F4 ae me ce Fe x0 false W1 (VJ.o _ x8.o) TR HA1.o).mono ?_;rintro e w2 ⟨rfl,rfl⟩;go_wp2_with fail;refine(F4 an mn cn Fn x1 true w2 (BG.o _ x8.o) RS MN.o).mono ?_;rintro e w3 ⟨rfl,rfl⟩;go_wp2_with fail;go_roundg (gk-1);case measure=>omega
     case rel=>exact⟨k+1,by go_num,by omega,a',m',c',HF.o,x8.o⟩
    |false=>
     cases b3 with
     |true=>
      as_aux_lemma=>
      have HF:Hid (GAt W1 w 40 61 w n (.slice a' m' c') ((R.take (k+1)).filter pf)):=by
       show GAt W1 w.heap.size 40 61 w.heap.size n (.slice a' m' c') ((R.take (k+1)).filter pf);rw[QW.o MK];exact FH.o
      clear MK QW;go_wp2_with fail;rw[BQ.o];refine(F4 ae me ce Fe x0 false W1 (VJ.o _ x8.o) TR HA1.o).mono ?_;rintro e w2 ⟨rfl,rfl⟩;go_wp2_with fail;refine(F4 an mn cn Fn x1 false w2 (BG.o _ x8.o) RS MN.o).mono ?_;rintro e w3 ⟨rfl,rfl⟩;go_wp2_with fail;refine(F4 an mn cn Fn x2 true w3 (BG.o _ x8.o) RS QV.o).mono ?_;rintro e w4 ⟨rfl,rfl⟩;go_wp2_with fail;go_roundg (gk-1);case measure=>omega
      case rel=>exact⟨k+1,by go_num,by omega,a',m',c',HF.o,x8.o⟩
     |false=>
      as_aux_lemma=>
      have DW:Below W1 W1 W1.drew:=⟨rfl,rfl,rfl,aF _,λ _ _=>rfl⟩;obtain⟨a2,m2,c2,w5,e1,e2,e3,e4,e5⟩:=zh0 33 W1.drew w w n _ _ x0 x1 x2 (FH.o.below DW) (aD x8.o.size DW.size) (aF _) (by have:=Uz R k pf;rw[<-HM.o] at this;omega);have HE:=kd e1;have HF:Hid (GAt (w5.setCell (w,1) (.slice a2 m2 c2)) w 40 61 w n (.slice a2 m2 c2) ((R.take (k+1)).filter pf)/\Below w w (w5.setCell (w,1) (.slice a2 m2 c2))):=by
       have hb':Below w w (w5.setCell (w,1) (.slice a2 m2 c2)):=(x8.o.tr DW).trans e5;refine⟨?_,hb'⟩;rw[Eb pf HX.o,MK];exact e4
      clear e1 e4 e5 DW MK QW;go_wp2_with fail;rw[BQ.o];refine(F4 ae me ce Fe x0 false W1 (VJ.o _ x8.o) TR HA1.o).mono ?_;rintro e w2 ⟨rfl,BL⟩;subst BL;go_wp2_with fail;refine(F4 an mn cn Fn x1 false w2 (BG.o _ x8.o) RS MN.o).mono ?_;rintro e w3 ⟨rfl,EX⟩;subst EX;go_wp2_with fail;refine(F4 an mn cn Fn x2 false w3 (BG.o _ x8.o) RS QV.o).mono ?_;rintro e w4 ⟨rfl,NG⟩;subst NG;go_wp2_with fail
      go_region_law (refine A7 rfl (.tmp 52) (.tmp 54) 33 33 rfl (.slice a' m' c') (.slice w4 1 1) (by first|rfl|(simp[Act.eval];done)|(simp[Act.eval,Act.put];done)) (by first|rfl|(simp[Act.eval];done)|(simp[Act.eval,Act.put];done)) HE.o ?_)
      all_goals
       go_wp2_with fail;go_roundg (gk-1);case measure=>omega
       case rel=>exact⟨k+1,by go_num,by omega,a2,m2,c2,HF.o⟩
  ·have e:R.take k=R:=aZ (by rw[<-HM.o];omega)
   have HF:Hid (GAt wr w 40 61 w n (.slice a' m' c') (R.filter pf)):=by
    have:=HGO.o;rw[e] at this;exact this
   clear e HGO;go_wp2_with fail;go_ret;exact⟨_,_,rfl,HF.o,CQ.o⟩
end Go.Proofs.Y.G
