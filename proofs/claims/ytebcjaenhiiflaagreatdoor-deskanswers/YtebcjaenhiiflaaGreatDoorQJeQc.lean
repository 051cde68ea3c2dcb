import Derived.Test.YtebcjaenhiiflaaGreatDoorQJcJd
import Derived.Test.YtebcjaenhiiflaaGreatDoorQRr
import Derived.RangeFuncNested
import Derived.RangeFuncBound
import Derived.RangeFuncLeaves
import Derived.Shelf.Abstract
import Derived.Shelf.RegionOpen
import Derived.OwnWalkIn
import Derived.TacticsInMore
import Derived.LoopNIn
import Derived.LoopIn
import Derived.Test.YtebcjaenhiiflaaGreatDoorQHj
import Derived.Laws.Strings
import Derived.WideShapes
set_option maxHeartbeats 4000000
set_option maxRecDepth 100000
namespace Go.Proofs.Y.I
open Go.RowKit Go.Shelf Go.Proofs.Tryz
attribute [local go_sem] Oper.semAt_some
def Gt (s:List (List UInt8) × List UInt8)(c:UInt8):List (List UInt8) × List UInt8:=if c=32\/c=10 then(s.1++[s.2],[]) else(s.1,s.2++[c])
def wst (l:List UInt8):List (List UInt8) × List UInt8:=l.foldl Gt ([],[])
theorem yz (l:List UInt8)(c:UInt8):wst (l++[c])=Gt (wst l) c:=by
 unfold wst;rw[iQ];rfl
theorem O8:∀(l:List UInt8) (out:List (List UInt8)) (acc:List UInt8),(l.foldl Gt (out,acc)).1=out++wds acc l
 |[],out,acc=>by simp[wds]
 |c::l,out,acc=>by
  rw[lS];by_cases h:c=32\/c=10
  ·have e:Gt (out,acc) c=(out++[acc],[]):=by unfold Gt;rw[aP h]
   rw[e,O8 l,wds,aP h];simp
  ·have e:Gt (out,acc) c=(out,acc++[c]):=by unfold Gt;rw[aL h]
   rw[e,O8 l,wds,aL h]
theorem zco (l:List UInt8):(wst l).1=wds [] l:=by
 unfold wst;rw[O8];rfl
theorem zq1 (l:List UInt8)(k:Nat)(hk:k<=l.length):(wst (l.take k)).2.length<=k/\(wst (l.take k)).2=(l.take k).drop (k-(wst (l.take k)).2.length):=by
 induction k with
 |zero=>simp[wst]
 |succ k ih=>
  obtain⟨h1,h2⟩:=ih (by omega);have hx:l[k]? =some l[k]:=aB (by omega);have e:l.take (k+1)=l.take k++[l[k]]:=by rw[bL,hx];rfl
  rw[e,yz];unfold Gt;split
  ·refine⟨by simp,?_⟩
   simp
  ·simp only[aM,fO]
   refine⟨by omega,?_⟩;have e2:k+1-((wst (l.take k)).2.length+1)=k-(wst (l.take k)).2.length:=by omega
   rw[e2,jC (by simp;omega),<-h2]
theorem zqr (l:List UInt8):(wst l).1.length<=l.length:=by
 have key:∀(l:List UInt8) (s:List (List UInt8) × List UInt8),(l.foldl Gt s).1.length<=s.1.length+l.length:=by
  intro l;induction l with
  |nil=>intro s;simp
  |cons c l ih=>
   intro s;rw[lS,bD];refine aD (ih _) ?_;unfold Gt;split <;> simp <;> omega
 have:=key l ([],[]);unfold wst
 simpa using this
def KpB (Bs:Nat)(W W':World):Prop:=W'.heap[Bs]? =W.heap[Bs]?
theorem zoo {s:ByteArray}{k fr:Nat}(hk:k<=s.size)(BS:s.size<=100000)(h:(wst (s.data.toList.take k)).2.length<=k/\(wst (s.data.toList.take k)).2=(s.data.toList.take k).drop fr):
 s.extract fr k=⟨(((wst (s.data.toList.take k)).2).take 100000).toArray⟩:=by
 rw[aZ (by omega)];apply ByteArray.ext;apply Array.toList_inj.1;rw[Lib.extract_data];show _=(wst (s.data.toList.take k)).2;rw[h.2,List.drop_take]
theorem zfu (n:Nat)(hn:1<=n)(l Bs:Nat)(s:ByteArray)(BS:s.size<=100000)(J Jx:List (List UInt8)->World->Prop)
 (hY:∀pre x W,J pre W->pre.length<s.size+1->YieldAt Fence.wide (n-1) prog l #[.string ⟨(x.take 100000).toArray⟩] W λ e W'=>(e=true/\J (pre++[x]) W'/\KpB Bs W W')\/(e=false/\Jx (pre++[x]) W'))
 (W:World) (TM:W.heap[Bs]? =some (.cells #[.string s] 9)) (h0:J [] W):
 CallsIn Fence.wide n prog 202 #[.func (.yield l) #[] #[],.pointer Bs] W λ e W'=>(∃v,e= .returned v)/\
  ((∃ys,ys=wds [] s.data.toList/\J ys W')\/(∃pre,(∃k,pre=(wst (s.data.toList.take k)).1)/\Jx pre W')):=by
 have XC:Fence.wide.round=none:=rfl;have HY:Hid _:=hY;have HB:=kd TM;have hc:W.cell? Bs=some (.string s):=by simp[World.cell?,TM]
 clear hY TM;refine callsIn_of_wp func202 rfl trivial ?_ XC;simp only[ntmps202,bZ,bD,dU,Nat.reduceAdd,Nat.reduceSub,fE,fF,fZ,fI,dX,dZ]
 gi_wp2
 gi_loopw [3,7] (λ s3 s7 wr=>∃k:Nat,k<=s.size/\s7=k/\s3=((k-(wst (s.data.toList.take k)).2.length:Nat):Int)/\J (wst (s.data.toList.take k)).1 wr/\wr.heap[Bs]? =some (.cells #[.string s] 9))
  (λ _ i _=>s.size-(RowKit.intOf i).toNat)
 case atStart=>exact⟨0,aN _,rfl,rfl,h0,HB.o⟩
 case round=>
  obtain⟨k,hk,rfl,rfl,hJ,BF⟩:=hrel;have HJ:=kd hJ;have HX:=kd BF;have JA:wr.cell? Bs=some (.string s):=by simp[World.cell?,BF]
  have HW:Hid _:=zq1 s.data.toList k (by simpa using hk);generalize OG:k-(wst (s.data.toList.take k)).2.length=fr at*;have HFR:=kd OG;have hfk:fr<=k:=by omega
  clear hJ BF OG;by_cases j6:k<s.size
  ·have hlt':k<s.data.toList.length:=by simpa using j6
   have hx:s.data.toList[k]? =some (s[k]'j6):=by rw[aB hlt'];rfl
   have HT:Hid (s.data.toList.take (k+1)=s.data.toList.take k++[s[k]'j6]):=by
    show _=_;rw[bL,hx];rfl
   clear hx hlt';have HS:Hid _:=yz (s.data.toList.take k) s[k];by_cases OM:s[k]=32\/s[k]=10
   ·have HSP:=kd OM
    have hex:s.extract fr k=⟨(((wst (s.data.toList.take k)).2).take 100000).toArray⟩:=zoo hk BS HW.o;obtain⟨fn,tmps,assign,body,hy,hR⟩:=HY.o _ (wst (s.data.toList.take k)).2 wr HJ.o (by have:=zqr (s.data.toList.take k);simp at this;omega);rw[<-hex] at hy;have HR:Hid _:=hR;clear hR hex;have HN:Hid (∀W3,J ((wst (s.data.toList.take k)).1++[(wst (s.data.toList.take k)).2]) W3->J (wst (s.data.toList.take (k+1))).1 W3):=λ W3 h=>by
     rw[HT.o,HS.o];unfold Gt;rw[aP HSP.o];exact h
    have HN2:Hid ((wst (s.data.toList.take (k+1))).1=(wst (s.data.toList.take k)).1++[(wst (s.data.toList.take k)).2]):=by
     show _=_;rw[HT.o,HS.o];unfold Gt;rw[aP HSP.o]
    have HE:Hid (k+1-(wst (s.data.toList.take (k+1))).2.length=k+1):=by
     show _=_;rw[HT.o,HS.o];unfold Gt;rw[aP HSP.o];simp
    clear HT HS HW;have hb:(((s[k]).toNat:Int) != 32)=true/\(((s[k]).toNat:Int) != 10)=false\/(((s[k]).toNat:Int) != 32)=false:=by
     rcases OM with e|e
     ·exact .inr (by rw[e];decide)
     ·exact .inl ⟨by rw[e];decide,by rw[e];decide⟩
    clear OM;rcases hb with⟨j4,j5⟩|j4
    ·gi_wp2
     refine RoundIn.mono HR.o ?_;rintro e W3 (⟨rfl,ZR,UW⟩|⟨rfl,hJx3⟩)
     ·have HJ3:Hid (J (wst (s.data.toList.take (k+1))).1 W3):=HN.o _ ZR
      have HX3:Hid (W3.heap[Bs]? =some (.cells #[.string s] 9)):=UW.trans HX.o;clear ZR UW
      gi_wp2
      go_roundw;case rel=>exact⟨k+1,by omega,by go_num,by rw[HE.o];go_num,HJ3.o,HX3.o⟩
      case measure=>simp[RowKit.intOf];omega
     ·gi_wp2
      refine gH (iK rfl _ _ _) rfl ?_;exact⟨⟨_,rfl⟩,.inr ⟨_,⟨k+1,HN2.o.symm⟩,hJx3⟩⟩
    ·gi_wp2
     refine RoundIn.mono HR.o ?_;rintro e W3 (⟨rfl,ZR,UW⟩|⟨rfl,hJx3⟩)
     ·have HJ3:Hid (J (wst (s.data.toList.take (k+1))).1 W3):=HN.o _ ZR
      have HX3:Hid (W3.heap[Bs]? =some (.cells #[.string s] 9)):=UW.trans HX.o;clear ZR UW
      gi_wp2
      go_roundw;case rel=>exact⟨k+1,by omega,by go_num,by rw[HE.o];go_num,HJ3.o,HX3.o⟩
      case measure=>simp[RowKit.intOf];omega
     ·gi_wp2
      refine gH (iK rfl _ _ _) rfl ?_;exact⟨⟨_,rfl⟩,.inr ⟨_,⟨k+1,HN2.o.symm⟩,hJx3⟩⟩
   ·have h32:(((s[k]).toNat:Int) != 32)=true:=by
     rw[iO];intro e;exact OM (.inl (UInt8.toNat_inj.1 (by simpa using iU.1 e)))
    have h10:(((s[k]).toNat:Int) != 10)=true:=by
     rw[iO];intro e;exact OM (.inr (UInt8.toNat_inj.1 (by simpa using iU.1 e)))
    have HE:Hid (wst (s.data.toList.take (k+1))=((wst (s.data.toList.take k)).1,(wst (s.data.toList.take k)).2++[s[k]])):=by
     show _=_;rw[HT.o,HS.o];unfold Gt;rw[aL OM]
    clear OM
    gi_wp2
    go_roundw;case rel=>exact⟨k+1,by omega,by go_num,by rw[HE.o];simp;have:=HFR.o;omega,by rw[HE.o];exact HJ.o,HX.o⟩
    case measure=>simp[RowKit.intOf];omega
  ·obtain rfl:k=s.size:=by omega
   gi_wp2
   go_end0
   refine⟨⟨_,rfl⟩,.inl ⟨_,(zco _),?_⟩⟩;have:=HJ.o
   rwa[aZ (by simp)] at this
end Go.Proofs.Y.I
namespace Go.Proofs.Y.I
open Go.RowKit Go.Shelf Go.WideMaps Go.Maps Go.Proofs.Tryz
attribute [local go_sem] Oper.semAt_some
def rdS (s:List UInt8):Option (Nat × List Int × List G.E):=
 match Lib.atoiAll (Lib.cut s [10]).1 with
 | .ok m=>if 0<=m/\m<=40 then(rdP m.toNat (wds [] (Lib.cut s [10]).2.1)).map λ a=>(m.toNat,a) else none
 |_=>none
theorem zav (n:Nat)(hn:1<=n)(Bs:Nat)(s:ByteArray)(BS:s.size<=100000)(w:World)(TM:w.heap[Bs]? =some (.cells #[.string s] 9)):
 SeqStopsK Fence.wide n prog 202 #[.pointer Bs] (λ x:List UInt8=>#[Value.string ⟨(x.take 100000).toArray⟩]) (KpB Bs) (λ ys=>ys=wds [] s.data.toList) (λ pre=>∃k,pre=(wst (s.data.toList.take k)).1) (s.size+1) w:=λ l J Jx W hW _ _ hY h0=>
 zfu n hn l Bs s BS J Jx hY W ((hW.block Bs (G.lt_of_some TM)).trans TM) h0
theorem zk3 (s:ByteArray)(w:World):
 Calls prog 103 #[.string s] w λ e w'=>e= .returned (.func (.func 202) #[] #[.pointer w])/\w'=w.alloc (.cells #[.string s] 9):=by
 go_enter func103,ntmps103;go_wp2_with fail;go_ret;exact⟨rfl,rfl⟩
def zmc (w:World)(s:ByteArray)(e:Ending)(w':World):Prop:=
 (∃n acc L,rdS s.data.toList=some (n,acc,L)/\∃x p q v R B W T D pw bw pt bt mp N,e=Value.tuple #[.pointer (some ⟨x,0,none⟩),.nilIface]/\IAt w w' x p q n v L R B W T D pw bw pt bt mp N)\/
 (rdS s.data.toList=none/\(∃t p,e=Value.tuple #[.pointer none,.iface t p])/\Below w w w')
theorem IAt.base {w0 w1 w:World}{x p q n:Nat}{v:Value}{L R B:List G.E}{W T:List Nat}{D:DataW Unit}{pw bw pt bt mp N:Nat}(h:IAt w1 w x p q n v L R B W T D pw bw pt bt mp N)(hb:Below w0 w0 w1):IAt w0 w x p q n v L R B W T D pw bw pt bt mp N:=by
 have hs:=hb.size;have h1:=h.hx;have h2:=h.hp;have h3:=h.rn.hb;exact {h with gra:=⟨h.gra.hp,G.Ad.mono h.gra.row hs,h.gra.ne⟩,rn:={h.rn with below:=hb.trans (h.rn.below.mono hs),hb:=⟨by omega,by omega,by omega⟩},hx:=by omega,hp:=by omega}
structure Kc (B mp:Nat) (X Y:World):Prop where
 os:Y.os=X.os
 tape:Y.tape=X.tape
 output:Y.output=X.output
 size:X.heap.size<=Y.heap.size
 cells:∀(k:Nat) (c:Array Value) (t:TypeId) (f:Nat × Nat),X.heap[k]? =some (.cells c t f)->Y.heap[k]? =some (.cells c t f)
 low:∀k,k<B->k<X.heap.size->Y.heap[k]? =X.heap[k]?
 map:mp<B
theorem Kc.of {B mp:Nat}{X Y:World}{row:Option Nat}(hg:X.grownBy Y row)(hr:∀r,row=some r->B<=r/\∃o:Obj,X.heap[r]? =some o/\o.isCells=false)(hm:mp<B):Kc B mp X Y:=by
 refine⟨hg.os,hg.tape,hg.output,hg.size,λ k c t f hk=>?_,λ k hk CK=>hg.block k CK (λ e=>?_),hm⟩
 ·rw[hg.block k (G.lt_of_some hk) (λ e=>?_)]
  ·exact hk
  ·obtain⟨_,o,ho,hc⟩:=hr k e.symm
   rw[hk] at ho;injection ho with ho
   subst ho;cases hc
 ·have:=(hr k e.symm).1
  omega
theorem Kc.boxed {B mp b t:Nat}{X Y:World}{v:Value}(k:Kc B mp X Y)(h:Boxed X b t v):Boxed Y b t v:=k.cells _ _ _ _ h
theorem Kc.row {B mp base e s n:Nat}{X Y:World}{v:Value}{xs:List Value}(k:Kc B mp X Y)(h:X.ownsRow base e s v n xs):Y.ownsRow base e s v n xs:=by
 refine⟨h.1,?_⟩;rcases h.2 with h2|⟨g,cap,cur,a,b,c,d⟩
 ·exact .inl h2
 ·exact .inr ⟨g,cap,cur,a,b,k.cells _ _ _ _ c,d⟩
theorem IAt.kc {w0 X Y:World}{x p q n C:Nat}{v:Value}{L R B:List G.E}{W T:List Nat}{D:DataW Unit}{pw bw pt bt mp N:Nat}(h:IAt w0 X x p q n v L R B W T D pw bw pt bt mp N)(k:Kc C mp X Y)(hC:w0<=C):IAt w0 Y x p q n v L R B W T D pw bw pt bt mp N:=by
 obtain⟨es,c,hm,F,hs,hD⟩:=h.rn.now.at_.hm;have hb:=h.rn.below;refine {h with ix:=k.cells _ _ _ _ h.ix,gra:=⟨k.cells _ _ _ _ h.gra.hp,k.row h.gra.row,h.gra.ne⟩,rn:={h.rn with now:=⟨⟨k.cells _ _ _ _ h.rn.now.at_.hp,⟨k.cells _ _ _ _ h.rn.now.at_.sw.hp,k.cells _ _ _ _ h.rn.now.at_.sw.hb⟩,⟨k.cells _ _ _ _ h.rn.now.at_.st.hp,k.cells _ _ _ _ h.rn.now.at_.st.hb⟩,⟨es,c,?_,F,hs,hD⟩,h.rn.now.at_.pp,h.rn.now.at_.bb⟩,h.rn.now.st,h.rn.now.dis⟩,below:=?_}}
 ·rw[k.low mp k.map (G.lt_of_some hm)];exact hm
 ·exact⟨k.os.trans hb.os,k.tape.trans hb.tape,k.output.trans hb.output,aD hb.size k.size,λ j hj=>(k.low j (by omega) (aR hj hb.size)).trans (hb.block j hj)⟩
end Go.Proofs.Y.I
namespace Go.Proofs.Y.I
open Go.RowKit Go.Shelf Go.WideMaps Go.Maps
theorem Ba {w w':World}{b t:Nat}{v:Value}(h:Boxed w b t v)(hb:Below w w w'):Boxed w' b t v:=(hb.block b h.lt).trans h
abbrev short (pre:List (List UInt8)):List (List UInt8):=pre.map (·.take 100000)
structure Fix (w w4 w5 w6:World) (n x p q pw bw pt bt mp:Nat):Prop where
 b4:Below w w w4
 s4:w.heap.size+2<=w4.heap.size
 s5:w4.heap.size<=w5.heap.size
 s6:w5.heap.size+3=w6.heap.size
 hbw:bw<w5
 hbt:bt<w5
 hmp:mp<w5
 hn:n<=40
structure RI1 (w w4 w5 w6 W:World) (n x p q pw bw pt bt mp:Nat) (acc:List Int) (L:List G.E) (v:Value) (R B:List G.E) (Wl T:List Nat) (D:DataW Unit) (N:Nat) (u:Value):Prop where
 at_:IAt w4 W x p q n v L R B Wl T D pw bw pt bt mp N
 x2:Boxed W w 26 (.pointer none)
 x3:Boxed W (w+1) 28 .nilIface
 x9:Boxed W w5 26 (.pointer x)
 x10:Boxed W (w5+1) 48 u
 xb:∃s,Boxed W (w5+2) 9 s
 row:W.ownsRow w5 3 1 u acc.length (acc.map (Value.int .i64))
 size:w6.heap.size<=W.heap.size
 al:acc.length<=2
def RI (w w4 w5 w6:World)(n x p q pw bw pt bt mp:Nat)(pre:List (List UInt8))(W:World):Prop:=
 ∃acc L v R B Wl T D N u,rdP n (short pre)=some (acc,L)/\RI1 w w4 w5 w6 W n x p q pw bw pt bt mp acc L v R B Wl T D N u
def RX (w:World)(n:Nat)(c:Code)(pre:List (List UInt8))(W:World):Prop:=
 c= .ret/\rdP n (short pre)=none/\Boxed W w 26 (.pointer none)/\(∃t p,Boxed W (w+1) 28 (.iface t p))/\Below w w W
variable {w w4 w5 w6 W W':World} {n x p q pw bw pt bt mp:Nat} {acc:List Int} {L R B:List G.E} {v u:Value} {Wl T:List Nat} {D:DataW Unit} {N:Nat} {pre:List (List UInt8)}
theorem RI1.kc (f:Fix w w4 w5 w6 n x p q pw bw pt bt mp)(h:RI1 w w4 w5 w6 W n x p q pw bw pt bt mp acc L v R B Wl T D N u)(k:Kc w6 mp W W'):RI1 w w4 w5 w6 W' n x p q pw bw pt bt mp acc L v R B Wl T D N u:=
 ⟨h.at_.kc k (by have:=f.s5;have:=f.s6;omega),k.boxed h.x2,k.boxed h.x3,k.boxed h.x9,k.boxed h.x10,(let ⟨s,hs⟩:=h.xb;⟨s,k.boxed hs⟩),k.row h.row,aD h.size k.size,h.al⟩
theorem RI1.below' (h:RI1 w w4 w5 w6 W n x p q pw bw pt bt mp acc L v R B Wl T D N u)(hb:Below W W W'):RI1 w w4 w5 w6 W' n x p q pw bw pt bt mp acc L v R B Wl T D N u:=
 ⟨h.at_.below' hb,Ba h.x2 hb,Ba h.x3 hb,Ba h.x9 hb,Ba h.x10 hb,(let ⟨s,hs⟩:=h.xb;⟨s,Ba hs hb⟩),Cz h.row hb,aD h.size hb.size,h.al⟩
theorem RI1.low (f:Fix w w4 w5 w6 n x p q pw bw pt bt mp)(h:RI1 w w4 w5 w6 W n x p q pw bw pt bt mp acc L v R B Wl T D N u):Below w w W:=
 f.b4.tr h.at_.rn.below
theorem zsa (f:Fix w w4 w5 w6 n x p q pw bw pt bt mp):OwnFrom w6 (RI w w4 w5 w6 n x p q pw bw pt bt mp):=by
 rintro pre X Y row ⟨acc,L,v,R,B,Wl,T,D,N,u,h1,h2⟩ hg hr;exact⟨acc,L,v,R,B,Wl,T,D,N,u,h1,h2.kc f (Kc.of hg hr (by have:=f.hmp;have:=f.s6;omega))⟩
theorem zrw (f:Fix w w4 w5 w6 n x p q pw bw pt bt mp)(c:Code):OwnFrom w6 (RX w n c):=by
 rintro pre X Y row ⟨h1,h2,h3,⟨t,pp,h4⟩,h5⟩ hg hr;have k:Kc w6 0 X Y:=Kc.of hg hr (by have:=f.s6;omega);have h6:=f.s4;have h7:=f.s5;have h8:=f.s6;exact⟨h1,h2,k.boxed h3,⟨t,pp,k.boxed h4⟩,⟨k.os.trans h5.os,k.tape.trans h5.tape,k.output.trans h5.output,aD h5.size k.size,λ j hj=>(k.low j (by omega) (aR hj h5.size)).trans (h5.block j hj)⟩⟩
theorem Gh (hb:Below W W W'):KeepsOthers W W':=⟨hb.size,λ k _ hk _=>(hb.block k (G.lt_of_some hk)).trans hk⟩
theorem K4 (pre:List (List UInt8))(y:List UInt8):short (pre++[y])=short pre++[y.take 100000]:=by simp[short]
theorem Ns {w1:World}{b:Nat}{v1 v2:Value}(u1 u2:Value)(h1:Boxed w1 b 26 v1)(h2:Boxed w1 (b+1) 28 v2):Boxed ((w1.setCell b u1).setCell (b+1:Nat) u2) b 26 u1/\Boxed ((w1.setCell b u1).setCell (b+1:Nat) u2) (b+1) 28 u2:=
 ⟨(h1.set u1).other (by omega) u2,(h2.other (by omega) u1).set u2⟩
theorem Bt {w w1:World}(h:Below w w w1)(u1 u2:Value):Below w w ((w1.setCell w u1).setCell (w.heap.size+1:Nat) u2):=
 (h.setCell (p:=w) (aF _) u1).setCell (p:=(w.heap.size+1:Nat)) (iE _) u2
theorem zjn {s:Option (List Int × List G.E)}{y:List UInt8}(h:∀m,Lib.atoiAll y≠ .ok m):Je n s y=none:=by
 unfold Je;split
 ·next he=>exact absurd he (h _)
 ·next he=>exact absurd he (h _)
 ·next he=>exact absurd he (h _)
 ·rfl
theorem ztv (f:Fix w w4 w5 w6 n x p q pw bw pt bt mp)(h:RI1 w w4 w5 w6 W n x p q pw bw pt bt mp acc L v R B Wl T D N u){y:List UInt8}(hb:Below W W W')(AA:∀m,Lib.atoiAll (y.take 100000)≠ .ok m)(t:TypeId)(pp:Value):
 KeepsFrom w6 W ((W'.setCell w (.pointer none)).setCell (w.heap.size+1:Nat) (.iface t pp))/\RX w n .ret (pre++[y]) ((W'.setCell w (.pointer none)).setCell (w.heap.size+1:Nat) (.iface t pp)):=by
 have h':=h.below' hb;have QC:=Ns (.pointer none) (.iface t pp) h'.x2 h'.x3;refine⟨(((Gh hb).trans (KeepsOthers.setCell _ _ _)).trans (KeepsOthers.setCell _ _ _)).from _,rfl,?_,QC.1,⟨_,_,QC.2⟩,Bt (h'.low f) _ _⟩;rw[K4,Ij];exact zjn AA
theorem zu4 {i a m:Int}(hr:rdP n (short pre)=some ([i,a],L))(h2:Boxed W w 26 (.pointer none))(h3:Boxed W (w+1) 28 .nilIface)(hl:Below w w W){y:List UInt8}(hy:Lib.atoiAll (y.take 100000)= .ok m)(AA:¬Fits n L i a m)(t:TypeId)(pp:Value):
 RX w n .ret (pre++[y]) ((W.setCell w (.pointer none)).setCell (w.heap.size+1:Nat) (.iface t pp)):=by
 have QC:=Ns (.pointer none) (.iface t pp) h2 h3;refine⟨rfl,?_,QC.1,⟨_,_,QC.2⟩,Bt hl _ _⟩;rw[K4,Ij,hr];unfold Je;rw[hy];dsimp only;rw[aL AA]
theorem IAt.same {w0 X Y:World}(h:IAt w0 X x p q n v L R B Wl T D pw bw pt bt mp N)(hb:Below w0 w0 Y)(hk:∀k,k=x\/k=p\/v.ownBlock=some k\/k=q\/k=pw\/k=bw\/k=pt\/k=bt\/k=mp->Y.heap[k]? =X.heap[k]?):IAt w0 Y x p q n v L R B Wl T D pw bw pt bt mp N:=by
 obtain⟨es,c,hm,F,hs,hD⟩:=h.rn.now.at_.hm;have a:=h.rn.now.at_;refine {h with ix:=(hk x (by simp)).trans h.ix,gra:=⟨(hk p (by simp)).trans h.gra.hp,⟨h.gra.row.1,?_⟩,h.gra.ne⟩,rn:={h.rn with now:=⟨⟨(hk q (by simp)).trans a.hp,⟨(hk pw (by simp)).trans a.sw.hp,(hk bw (by simp)).trans a.sw.hb⟩,⟨(hk pt (by simp)).trans a.st.hp,(hk bt (by simp)).trans a.st.hb⟩,⟨es,c,(hk mp (by simp)).trans hm,F,hs,hD⟩,a.pp,a.bb⟩,h.rn.now.st,h.rn.now.dis⟩,below:=hb}};rcases h.gra.row.2 with h2|⟨g,cap,cur,e,b,c2,d⟩
 ·exact .inl h2
 ·refine .inr ⟨g,cap,cur,e,b,(hk g ?_).trans c2,d⟩
  rw[e];simp[Value.ownBlock]
theorem Jk (f:Fix w w4 w5 w6 n x p q pw bw pt bt mp)(h:RI1 w w4 w5 w6 W n x p q pw bw pt bt mp acc L v R B Wl T D N u){W1:World}{o:Obj}{m:Int}{u':Value}(o8:W1.ownsRow w5 3 1 u' (acc.length+1) (acc.map (Value.int .i64)++[.int .i64 m]))(hg:(W.alloc o).grownBy W1 u.ownBlock):
 Boxed W1 (w5+1) 48 u/\KeepsFrom w6 W (W1.setCell (w5.heap.size+1:Nat) u')/\KpB (w5+2) W (W1.setCell (w5.heap.size+1:Nat) u')/\
 IAt w4 (W1.setCell (w5.heap.size+1:Nat) u') x p q n v L R B Wl T D pw bw pt bt mp N/\Boxed (W1.setCell (w5.heap.size+1:Nat) u') w 26 (.pointer none)/\Boxed (W1.setCell (w5.heap.size+1:Nat) u') (w.heap.size+1) 28 .nilIface/\Boxed (W1.setCell (w5.heap.size+1:Nat) u') w5 26 (.pointer x)/\
 Boxed (W1.setCell (w5.heap.size+1:Nat) u') (w5.heap.size+1) 48 u'/\(W1.setCell (w5.heap.size+1:Nat) u').ownsRow w5 3 1 u' (acc++[m]).length ((acc++[m]).map (Value.int .i64))/\w6.heap.size<=(W1.setCell (w5.heap.size+1:Nat) u').heap.size/\Below w5 W (W1.setCell (w5.heap.size+1:Nat) u'):=by
 have f4:=f.s4;have f5:=f.s5;have f6:=f.s6;obtain⟨h1,h2,h3,h4,h5⟩:=h.x10.appended (by decide) h.row (by have:=h.size;omega) (by omega) o8 hg;have EL:∀k,k<W.heap.size->k≠w5.heap.size+1->(∀cur,W.heap[k]? ≠some (.cells cur 3))\/k<w5.heap.size->(W1.setCell (w5.heap.size+1:Nat) u').heap[k]? =W.heap[k]? :=by
  intro k hk l9 hc;rcases hc with hc|hc
  ·rw[aV _ _ _ k (λ e=>l9 e),hg.block k (by simp;omega) ?_,bG _ _ _ hk]
   intro e;rcases h.row.2 with⟨rfl,_⟩|⟨g,cap,cur,rfl,_,hgb,_⟩
   ·simp[Value.ownBlock] at e
   ·simp[Value.ownBlock] at e
    subst e;exact hc _ hgb
  ·exact h5.block k hc
 have BF:∀{b t:Nat} {vv:Value},Boxed W b t vv->b≠w5.heap.size+1->t≠3->Boxed (W1.setCell (w5.heap.size+1:Nat) u') b t vv:=by
  intro b t vv hb l9 ht;refine(EL b hb.lt l9 (.inl λ cur e=>?_)).trans hb;have:=(show W.heap[b]? =_ from hb).symm.trans e;simp at this;exact ht this.2
 obtain⟨s9,RV⟩:=h.xb;have ha:=h.at_.rn.now.at_;obtain⟨es,mc,hm⟩:=ha.Mc;have AO:∀{k t:Nat} {c:Array Value},W.heap[k]? =some (.cells c t)->t≠3->∀cur,W.heap[k]? ≠some (.cells cur 3):=by
  intro k t c hk ht cur e;have:=hk.symm.trans e;simp at this;exact ht this.2
 have XD:∀{k t:Nat} {c:Array Value},W.heap[k]? =some (.cells c t)->t≠48->k≠w5.heap.size+1:=by
  rintro k t c hk ht rfl;have:=hk.symm.trans h.x10;simp at this;exact ht this.2
 have BV:∀{k t:Nat} {c:Array Value},W.heap[k]? =some (.cells c t)->t≠3->t≠48->(W1.setCell (w5.heap.size+1:Nat) u').heap[k]? =W.heap[k]? :=λ hk h3 h4=>EL _ (G.lt_of_some hk) (XD hk h4) (.inl (AO hk h3))
 refine⟨h1,h4.from _,EL _ RV.lt (by omega) (.inl (AO RV (by decide))),h.at_.same ?_ ?_,BF h.x2 (by omega) (by decide),BF h.x3 (by omega) (by decide),BF h.x9 (by omega) (by decide),h2,by simpa using h3,?_,h5⟩
 ·exact h.at_.rn.below.trans (h5.mono f5)
 ·rintro k (rfl|rfl|hk|rfl|rfl|rfl|rfl|rfl|rfl)
  ·exact BV h.at_.ix (by decide) (by decide)
  ·exact BV h.at_.gra.hp (by decide) (by decide)
  ·obtain⟨cur,EM⟩:=Hz h.at_.gra.row hk
   exact BV EM (by decide) (by decide)
  ·exact BV ha.hp (by decide) (by decide)
  ·exact BV ha.sw.hp (by decide) (by decide)
  ·have:=f.hbw
   exact EL _ ha.sw.blt (by omega) (.inr f.hbw)
  ·exact BV ha.st.hp (by decide) (by decide)
  ·have:=f.hbt
   exact EL _ ha.st.blt (by omega) (.inr f.hbt)
  ·have:=f.hmp
   exact EL _ (G.lt_of_some hm) (by omega) (.inr f.hmp)
 ·exact aD h.size h5.size
theorem zn3 (f:Fix w w4 w5 w6 n x p q pw bw pt bt mp)(hr:rdP n (short pre)=some (acc,L))(h:RI1 w w4 w5 w6 W n x p q pw bw pt bt mp acc L v R B Wl T D N u){W1:World}{o:Obj}{m:Int}{u':Value}{y:List UInt8}(hy:Lib.atoiAll (y.take 100000)= .ok m)(hacc:acc.length<2)
 (o8:W1.ownsRow w5 3 1 u' (acc.length+1) (acc.map (Value.int .i64)++[.int .i64 m])) (hg:(W.alloc o).grownBy W1 u.ownBlock):
 RI w w4 w5 w6 n x p q pw bw pt bt mp (pre++[y]) (W1.setCell (w5.heap.size+1:Nat) u'):=by
 obtain⟨_,_,hk,h1,h2,h3,h4,h5,h6,h7,_⟩:=Jk f h o8 hg;refine⟨acc++[m],L,v,R,B,Wl,T,D,N,u',?_,⟨h1,h2,h3,h4,h5,?_,h6,h7,by simp;omega⟩⟩
 ·rw[K4,Ij,hr]
  unfold Je;rw[hy]
  match acc,hacc with
  |[],_=>rfl
  |[i],_=>rfl
 ·obtain⟨s9,RV⟩:=h.xb
  exact⟨s9,hk.trans RV⟩
theorem G6 {w0:World}(h:IAt w0 W x p q n v L R B Wl T D pw bw pt bt mp N)(k:Ikp p v.ownBlock bw bt mp W W'){b t:Nat}{c:Array Value}(hb:W.heap[b]? =some (.cells c t))(h1:t≠168)(h2:t≠61)(h3:t≠3):W'.heap[b]? =some (.cells c t):=by
 have a:=h.rn.now.at_;obtain⟨es,mc,hm⟩:=a.Mc;rw[k.block b (G.lt_of_some hb) ?_ ?_ ?_ ?_ ?_]
 ·exact hb
 ·rintro rfl
  have:=hb.symm.trans h.gra.hp;simp at this;exact h1 this.2
 ·intro e
  obtain⟨cur,hc⟩:=Hz h.gra.row e.symm;have:=hb.symm.trans hc;simp at this;exact h2 this.2
 ·rintro rfl
  have:=hb.symm.trans a.sw.hb;simp at this;exact h3 this.2
 ·rintro rfl
  have:=hb.symm.trans a.st.hb;simp at this;exact h3 this.2
 ·rintro rfl
  have:=hb.symm.trans hm;simp at this
theorem zlh (f:Fix w w4 w5 w6 n x p q pw bw pt bt mp){w0:World}(h:IAt w0 W x p q n v L R B Wl T D pw bw pt bt mp N)(k:Ikp p v.ownBlock bw bt mp W W'):KeepsFrom w6 W W':=by
 have a:=h.rn.now.at_;have f6:=f.s6;refine⟨k.size,λ b o hB hb ho=>?_⟩;rw[k.block b (G.lt_of_some hb) ?_ ?_ ?_ ?_ ?_]
 ·exact hb
 ·rintro rfl
  have:=hb.symm.trans h.gra.hp;injection this with this;subst this;cases ho
 ·intro e
  obtain⟨cur,hc⟩:=Hz h.gra.row e.symm;have:=hb.symm.trans hc;injection this with this;subst this;cases ho
 ·have:=f.hbw;omega
 ·have:=f.hbt;omega
 ·have:=f.hmp;omega
theorem zsw (f:Fix w w4 w5 w6 n x p q pw bw pt bt mp){i a m:Int}(hr:rdP n (short pre)=some ([i,a],L)){y:List UInt8}(hy:Lib.atoiAll (y.take 100000)= .ok m)(hf:Fits n L i a m){V:World}{L' R' B':List G.E}{W2 T2:List Nat}{D2:DataW Unit}{N2:Nat}{v2 u' s9:Value}
 (h:IAt w4 W x p q n v L R B Wl T D pw bw pt bt mp N) (hL:L'=G.Ej L (edg i a m)) (h2:IAt w4 V x p q n v2 L' R' B' W2 T2 D2 pw bw pt bt mp N2) (k:Ikp p v.ownBlock bw bt mp W V)
 (x2:Boxed W w 26 (.pointer none)) (x3:Boxed W (w+1) 28 .nilIface) (x9:Boxed W w5 26 (.pointer x)) (x10:Boxed W (w5+1) 48 u') (xb:Boxed W (w5+2) 9 s9) (hs:w6.heap.size<=W.heap.size):
 RI w w4 w5 w6 n x p q pw bw pt bt mp (pre++[y]) (V.setCell (w5.heap.size+1:Nat) (.slice none 0 0))/\KeepsFrom w6 W (V.setCell (w5.heap.size+1:Nat) (.slice none 0 0))/\KpB (w5+2) W (V.setCell (w5.heap.size+1:Nat) (.slice none 0 0)):=by
 have f4:=f.s4;have f5:=f.s5;have f6:=f.s6;have y2:Boxed V w 26 (.pointer none):=G6 h k x2 (by decide) (by decide) (by decide);have y3:Boxed V (w+1) 28 .nilIface:=G6 h k x3 (by decide) (by decide) (by decide);have y9:Boxed V w5 26 (.pointer x):=G6 h k x9 (by decide) (by decide) (by decide);have y10:Boxed V (w5+1) 48 u':=G6 h k x10 (by decide) (by decide) (by decide);have yb:Boxed V (w5+2) 9 s9:=G6 h k xb (by decide) (by decide) (by decide);have BN:∀b,b≠w5.heap.size+1->(V.setCell (w5.heap.size+1:Nat) (.slice none 0 0)).heap[b]? =V.heap[b]? :=λ b hb=>aV _ _ _ b (λ e=>hb e)
 have ha:=h2.rn.now.at_;obtain⟨es,mc,hm⟩:=ha.Mc;have XD:∀{b t:Nat} {c:Array Value},V.heap[b]? =some (.cells c t)->t≠48->b≠w5.heap.size+1:=by
  rintro b t c hb ht rfl;have:=hb.symm.trans y10;simp at this;exact ht this.2
 refine⟨⟨[],L',v2,R',B',W2,T2,D2,N2,.slice none 0 0,?_,⟨h2.same ?_ ?_,?_,?_,?_,y10.set _,⟨s9,?_⟩,aX _ _ _ _,?_,by simp⟩⟩,(zlh f h k).trans ((KeepsOthers.setCell _ _ _).from _),?_⟩
 ·rw[K4,Ij,hr]
  unfold Je;rw[hy];dsimp only;rw[aP hf,hL]
 ·exact h2.rn.below.setCell (p:=(w5.heap.size+1:Nat)) (by show w4.heap.size<=w5.heap.size+1;omega) _
 ·rintro b (rfl|rfl|hk|rfl|rfl|rfl|rfl|rfl|rfl)
  ·exact BN _ (XD h2.ix (by decide))
  ·exact BN _ (XD h2.gra.hp (by decide))
  ·obtain⟨cur,EM⟩:=Hz h2.gra.row hk
   exact BN _ (XD EM (by decide))
  ·exact BN _ (XD ha.hp (by decide))
  ·exact BN _ (XD ha.sw.hp (by decide))
  ·exact BN _ (XD ha.sw.hb (by decide))
  ·exact BN _ (XD ha.st.hp (by decide))
  ·exact BN _ (XD ha.st.hb (by decide))
  ·have:=f.hmp
   exact BN _ (by omega)
 ·exact y2.other (by omega) _
 ·exact y3.other (by omega) _
 ·exact y9.other (by omega) _
 ·exact yb.other (by omega) _
 ·exact aD hs (aD k.size (KeepsOthers.setCell V (w5.heap.size+1:Nat) (.slice none 0 0)).size)
 ·exact(BN _ (by omega)).trans (yb.trans xb.symm)
end Go.Proofs.Y.I
namespace Go.Proofs.Y.I
open Go.RowKit Go.Shelf Go.WideMaps Go.Maps Go.Proofs.Tryz
attribute [local go_sem] Oper.semAt_some
theorem zif {l hd rs:List UInt8}{mr:Bool}(h:Lib.cut l [10]=(hd,rs,mr))(hl:l.length<=100000):hd.length<=100000/\rs.length<=100000:=by
 unfold Lib.cut at h;split at h <;> injection h with h1 h2 <;> injection h2 with h2 h3 <;> subst h1 <;> subst h2 <;> simp <;> omega
theorem Zr {W:World}{b:Nat}{u1 u2:Value}(c1:W.cell? b=some u1)(c2:W.cell? (b+1:Nat)=some u2){tmps:Array Value}(e2:tmps[2]? =some (.pointer b))(e3:tmps[3]? =some (.pointer (b+1:Nat))):
 (results Tryz.f46 tmps).run prog W= .ok (.tuple #[u1,u2]) W:=by
 simp[results,Tryz.f46,go_sem,c1,c2,e2,e3]
def zpi (ops:Array Oper):Bool:=ops.toList.all λ o=>match o.op with| .defer _=>false|_=>true
theorem Qp {ops:Array Oper}(h:zpi ops=true)(i:Nat)(o:Oper)(ho:ops[i]? =some o):∀c,o.op≠ .defer c:=by
 intro c e;have:=iW.1 h o (by rw[<-Array.mem_def];exact Array.mem_of_getElem? ho);rw[e] at this;cases this
theorem Qf {bs:Nat}{X Y Z:World}(hb:Below X X Y)(j6:bs<X)(h:KpB bs Y Z):KpB bs X Z:=Eq.trans h (hb.block bs j6)
theorem Kb {X Y:World}{a:Addr}{v:Value}(hb:Below X X Y)(h:X.cell? a=some v):Y.cell? a=some v:=(hb.cell (World.block_lt_of_cell? X a h)).trans h
theorem info3:(prog.info? 3).map (λ i=>(i.zero,i.size,i.bytes))=some (some (.int .i64 0),1,8):=by kernel_rfl
theorem Wo:∀{l acc y:List UInt8},y∈wds acc l->y.length<=acc.length+l.length
 |[],_,_,h=>by simp[wds] at h
 |c::l,acc,y,h=>by
  rw[wds] at h;split at h
  ·rcases cO.1 h with rfl|h
   ·rw[bD];omega
   ·have:=Wo h
    rw[dU] at this;rw[bD];omega
  ·have:=Wo h
   rw[aM,fO] at this;rw[bD];omega
theorem Sj {rs:List UInt8}(h:rs.length<=100000):short (wds [] rs)=wds [] rs:=by
 unfold short;conv=>rhs;rw[<-kI (wds [] rs)]
 refine fH (λ y hy=>?_);have:=Wo hy;exact aZ (by simp at this;omega)
theorem zno {n k:Nat}{rs:List UInt8}(h:rs.length<=100000)(hn:rdP n (short (wst (rs.take k)).1)=none):rdP n (wds [] rs)=none:=by
 have e1:wds [] rs=(wst (rs.take k)).1++wds (wst (rs.take k)).2 (rs.drop k):=by
  rw[<-zco,<-O8];unfold wst;rw[<-iQ,fP]
 rw[<-Sj h,e1];unfold short at hn ⊢;rw[dL];unfold rdP at hn ⊢;rw[iQ,hn];exact iy _
theorem zsc {w w4 w5 w6 W:World}{n x p q pw bw pt bt mp:Nat}{acc:List Int}{L R B:List G.E}{v u:Value}{Wl T:List Nat}{D:DataW Unit}{N D9:Nat}(f:Fix w w4 w5 w6 n x p q pw bw pt bt mp)(h:RI1 w w4 w5 w6 W n x p q pw bw pt bt mp acc L v R B Wl T D N u){u1 u2:Value}
 (hK:((W.setCell w u1).setCell (w.heap.size+1:Nat) u2).heap[D9]? =some (.deferred (some []))) (hD:w6<=D9):
 IAt w (((W.setCell w u1).setCell (w.heap.size+1:Nat) u2).putObj D9 (.deferred none)) x p q n v L R B Wl T D pw bw pt bt mp N:=by
 have f4:=f.s4;have f5:=f.s5;have f6:=f.s6;have hb:=Bt (h.low f) u1 u2;have ha:=h.at_.rn.now.at_;obtain⟨es,mc,hm⟩:=ha.Mc;have BN:∀{b t:Nat} {c:Array Value},W.heap[b]? =some (.cells c t)->t≠26->t≠28->(((W.setCell w u1).setCell (w.heap.size+1:Nat) u2).putObj D9 (.deferred none)).heap[b]? =W.heap[b]? :=by
  intro b t c hc h1 h2;have n1:b≠w.heap.size:=by
   rintro rfl;have:=hc.symm.trans h.x2;simp at this;exact h1 this.2
  have n2:b≠w.heap.size+1:=by
   rintro rfl;have:=hc.symm.trans h.x3;simp at this;exact h2 this.2
  have e:((W.setCell w u1).setCell (w.heap.size+1:Nat) u2).heap[b]? =W.heap[b]? :=(aV _ _ _ b (λ e=>n2 e)).trans (aV _ _ _ b (λ e=>n1 e));rw[World.putObj_heap_other (λ e'=>?_)]
  ·exact e
  ·subst e'
   rw[hK] at e;have:=e.trans hc;simp at this
 refine(h.at_.base f.b4).same ?_ ?_
 ·exact hb.grown (grownBy_putObj' _ D9 (.deferred none)) hb.size (λ j e=>by cases e;omega)
 ·rintro b (rfl|rfl|hk|rfl|rfl|rfl|rfl|rfl|rfl)
  ·exact BN h.at_.ix (by decide) (by decide)
  ·exact BN h.at_.gra.hp (by decide) (by decide)
  ·obtain⟨cur,EM⟩:=Hz h.at_.gra.row hk
   exact BN EM (by decide) (by decide)
  ·exact BN ha.hp (by decide) (by decide)
  ·exact BN ha.sw.hp (by decide) (by decide)
  ·exact BN ha.sw.hb (by decide) (by decide)
  ·exact BN ha.st.hp (by decide) (by decide)
  ·exact BN ha.st.hb (by decide) (by decide)
  ·have h1:=f.hmp
   have h2:=h.at_.rn.hb.2.2;rw[World.putObj_heap_other (by omega),aV _ _ _ b (λ e=>?_),aV _ _ _ b (λ e=>?_)]
   ·have e':b=w.heap.size:=e
    omega
   ·have e':b=w.heap.size+1:=e
    omega
theorem zlv (s:ByteArray)(w:World)(hs:s.size<=100000)(hv:Vars w):Calls prog 46 #[.string s] w (zmc w s):=by
 have HV:=kd hv;have XC:Fence.wide.round=none:=rfl;refine(callsIn_wide (n:=5)).1 ?_;refine callsIn_of_wp_marks func46 rfl trivial ?_ XC;simp only[ntmps46,bZ,bD,dU,Nat.reduceAdd,Nat.reduceSub,fE,fF,fZ,fI,dX,dZ];obtain⟨w2,BL⟩:∃w2,(w.alloc (.cells #[.pointer none] 26)).alloc (.cells #[.nilIface] 28)=w2:=⟨_,rfl⟩;have EE:=kd BL;have y5:Hid (Below w w w2):=by rw[<-BL];exact(b_).alloc (by simp) _
 have OO:Hid (Boxed w2 w 26 (.pointer none)/\Boxed w2 (w+1) 28 .nilIface):=by
  rw[<-BL];exact⟨(Boxed.new w 26 _).alloc _,by have:=Boxed.new (w.alloc (.cells #[.pointer none] 26)) 28 .nilIface;rwa[aT] at this⟩
 clear BL hv;obtain⟨hd,rs,mr,hcut⟩:∃hd rs mr,Lib.cut s.data.toList [10]=(hd,rs,mr):=⟨_,_,_,rfl⟩;have ZT:=kd hcut;have HCU:Hid (Calls prog 101 #[.string s,.string ⟨#[10]⟩] w2 λ e w'=>e=Value.tuple #[.string ⟨hd.toArray⟩,.string ⟨rs.toArray⟩,mr]/\Below w2 w2 w'):=by
  have:=zb8 s ⟨#[10]⟩ w2 hs (HV.o.below y5.o);rw[show((⟨#[10]⟩:ByteArray).data.toList)=[10] from rfl,hcut] at this;exact this
 have hlen:hd.length<=100000/\rs.length<=100000:=zif hcut (by simpa using hs);have QD:=kd hlen;clear hcut hlen
 gi_wp2_with fail
 refine⟨trivial,?_⟩;rw[EE.o];refine CallsIn.mono (callsIn_wide.2 HCU.o) ?_;rintro e w3 ⟨rfl,y8⟩;have AZ:Hid (Below w w w3):=y5.o.tr y8;have HX3:Hid (Boxed w3 w 26 (.pointer none)/\Boxed w3 (w+1) 28 .nilIface):=⟨Ba OO.o.1 y8,Ba OO.o.2 y8⟩;have FV:Hid _:=oz ⟨hd.toArray⟩ w3 QD.o.1 (HV.o.below AZ.o);clear y8 HCU EE y5 OO
 gi_wp2_with fail
 refine⟨trivial,?_⟩;refine CallsIn.mono (callsIn_wide.2 FV.o) ?_;rintro e w4 ⟨q9,BB⟩;have EP:Hid (Below w w w4):=AZ.o.tr BB;have MH:Hid (Boxed w4 w 26 (.pointer none)/\Boxed w4 (w+1) 28 .nilIface):=⟨Ba HX3.o.1 BB,Ba HX3.o.2 BB⟩;clear BB FV AZ HX3;rcases q9 with⟨m,hm,rfl⟩|⟨AA,v,t,pp,rfl⟩
 ·have HM:=kd hm
  clear hm;by_cases hr:0<=m/\m<=40
  ·obtain⟨n,rfl⟩:=dE hr.1
   have ZP:Hid (n<=40):=by show n<=40;omega
   have HN:Hid _:=V5 n w4 ZP.o;clear hr
   gi_wp2_with fail
   refine⟨trivial,?_⟩;refine CallsIn.mono (callsIn_wide.2 HN.o) ?_;rintro e w5 ⟨x,p,q,v,B,Wl,Tl,D,pw,bw,pt,bt,mp,N,rfl,hI5⟩;have HI5:=kd hI5;clear hI5 HN
   gi_wp2_with fail
   refine⟨trivial,?_⟩;refine CallsIn.mono (callsIn_wide.2 (zk3 _ _)) ?_;rintro e w6 ⟨rfl,hw6⟩;rw[aT,aT];have RY:=kd hw6;clear hw6;have JJ:Hid (Fix w w4 w5 w6 n x p q pw bw pt bt mp):=by
    have h1:=HI5.o.rn.now.at_;obtain⟨es,mc,hm⟩:=h1.Mc;exact⟨EP.o,by have:=MH.o.2.lt;omega,HI5.o.rn.below.size,by rw[RY.o];simp,h1.sw.blt,h1.st.blt,G.lt_of_some hm,ZP.o⟩
   have HI6:Hid (RI w w4 w5 w6 n x p q pw bw pt bt mp [] w6/\Boxed w6 (w5.heap.size+1+1) 9 (.string ⟨rs.toArray⟩)):=by
    have CV:Below w5 w5 w6:=by rw[RY.o];exact((b_).alloc (by simp) _).alloc (by simp;omega) _
    have y2:Boxed w5 w 26 (.pointer none):=Ba MH.o.1 HI5.o.rn.below;have y3:Boxed w5 (w+1) 28 .nilIface:=Ba MH.o.2 HI5.o.rn.below;have z9:Boxed w6 w5 26 (.pointer x):=by rw[RY.o];exact((Boxed.new w5 26 _).alloc _).alloc _
    have z10:Boxed w6 (w5+1) 48 (.slice none 0 0):=by
     rw[RY.o];have:=Boxed.new (w5.alloc (.cells #[.pointer x] 26)) 48 (.slice none 0 0);rw[aT] at this;exact this.alloc _
    have zb:Boxed w6 (w5.heap.size+1+1) 9 (.string ⟨rs.toArray⟩):=by
     rw[RY.o];have:=Boxed.new ((w5.alloc (.cells #[.pointer x] 26)).alloc (.cells #[.slice none 0 0] 48)) 9 (.string ⟨rs.toArray⟩);rw[aT,aT] at this;exact this
    exact⟨⟨[],[],v,[],B,Wl,Tl,D,N,.slice none 0 0,rfl,⟨HI5.o.below' CV,Ba y2 CV,Ba y3 CV,z9,z10,⟨_,zb⟩,aX _ _ _ _,aF _,by simp⟩⟩,zb⟩
   clear HI5 MH RY
   gi_wp2_with fail
   refine wpIn_rangeFunc_ownG XC (by decide) (gf:=202) (lb:=#[.pointer (w5.heap.size+1+1:Nat)]) rfl trivial (enters_of func202 (by kernel_rfl) rfl)
    (zav 4 (by decide) (w5.heap.size+1+1) ⟨rs.toArray⟩ QD.o.2 w6 HI6.o.2) (λ h k=>k.trans h) ?hKb (aI _ _) (λ _=>rfl)
    (RI w w4 w5 w6 n x p q pw bw pt bt mp) (RX w n) (zsa JJ.o) (zrw JJ.o) HI6.o.1
    (λ y=>{tmps:=#[.string s,undef,.pointer w,.pointer (w.heap.size+1:Nat),.string ⟨hd.toArray⟩,.string ⟨rs.toArray⟩,.bool mr,.int .i64 (n:Int),.nilIface,.pointer w5,.pointer (w5.heap.size+1:Nat),.string ⟨(y.take 100000).toArray⟩,undef,undef,undef,undef,
      .tuple #[.string ⟨hd.toArray⟩,.string ⟨rs.toArray⟩,mr],.string s,.tuple #[.string ⟨hd.toArray⟩,.string ⟨rs.toArray⟩,mr],.string ⟨hd.toArray⟩,.string ⟨rs.toArray⟩,.bool mr,.tuple #[n,.nilIface],.string ⟨hd.toArray⟩,.tuple #[n,.nilIface],.int .i64 (n:Int),.nilIface,.nilIface,.bool false,undef,
      .tuple #[.pointer x,.nilIface],.int .i64 (n:Int),.tuple #[.pointer x,.nilIface],.pointer x,.nilIface,.nilIface,.bool false,undef,.string ⟨rs.toArray⟩,.func (.func 202) #[] #[.pointer (w5.heap.size+1+1:Nat)],.string ⟨(y.take 100000).toArray⟩,
      undef,undef,undef,undef,undef,undef,undef,undef,undef,undef,undef,undef,undef,undef,undef,undef,undef,undef,undef,undef,undef,undef,undef,undef,undef,undef,undef,undef,undef,undef,undef,undef,undef],defers:=[]}) ?assign ?body ?done ?stop
   case hKb=>
    intro W1 l o o' hl h0 _ _;exact World.putObj_heap_other (by have:=JJ.o.s6;omega)
   case assign=>
    intro l y W1 K hK
    gi_wp2
    exact hK
   case body=>
    rintro l pre y W1 ⟨acc,L,v1,R1,B1,Wl1,T1,D1,N1,u1,KO,QE⟩ _;have KP:=kd QE;have TN:=kd KO;have FV:Hid _:=oz ⟨(y.take 100000).toArray⟩ W1 (by show(y.take 100000).length<=100000;rw[bN];omega) (HV.o.below (QE.low JJ.o));clear KO QE
    gi_wp2_with fail
    refine⟨trivial,?_⟩;refine CallsIn.mono (CallsIn.inRound l (callsIn_wide.2 FV.o)) ?_;rintro e W2 ⟨q9,j5⟩;have y5:=kd j5;clear j5 FV;rcases q9 with⟨m,hm,rfl⟩|⟨AA,v9,t,pp,rfl⟩
    ·have HY:=kd hm
     clear hm;have CB:Hid (RI1 w w4 w5 w6 W2 n x p q pw bw pt bt mp acc L v1 R1 B1 Wl1 T1 D1 N1 u1):=KP.o.below' y5.o;have c10:=CB.o.x10.cell;have f10:=CB.o.x10.frozen;obtain⟨i0,hi,BR,BU,BM⟩:=info_parts info3;have o7:=CB.o.row;have KM:=CB.o.al;have BS:=CB.o.size;have hs6:=JJ.o.s6
     match acc,KM,CB,TN,o7 with
     |[],_,CB,TN,o7=>
      gi_wp2_with (gi_at_builtin;refine wpListIn_append_own _ rfl _ _ 48 rfl w5.heap.size 3 i0 (0:Int) 1 8 underlying48 hi BR BU BM rfl (by decide) _ _ _ rfl (o7.alloc _) W2 1 1 [m] rfl rfl (cell_one_new _ _ _) (by simp[Value.oneCell']) (by unfold maxLen;omega) (by omega) (by simp;omega) ?_;intro u2 W3 o8 AY _;obtain⟨g2,cap2,rfl⟩:=ownsRow_succ o8;have MI:=(Jk JJ.o CB.o o8 AY).1;have UX:=MI.cell;have hf3:=MI.frozen)
      have hm:=Jk JJ.o CB.o o8 AY;exact⟨((Gh y5.o).from _).trans hm.2.1,Qf y5.o (by have:=KP.o.size;omega) hm.2.2.1,zn3 JJ.o TN.o CB.o HY.o (by simp) o8 AY⟩
     |[i],_,CB,TN,o7=>
      gi_wp2_with (gi_at_builtin;refine wpListIn_append_own _ rfl _ _ 48 rfl w5.heap.size 3 i0 (0:Int) 1 8 underlying48 hi BR BU BM rfl (by decide) _ _ _ rfl (o7.alloc _) W2 1 1 [m] rfl rfl (cell_one_new _ _ _) (by simp[Value.oneCell']) (by unfold maxLen;omega) (by omega) (by simp;omega) ?_;intro u2 W3 o8 AY _;obtain⟨g2,cap2,rfl⟩:=ownsRow_succ o8;have MI:=(Jk JJ.o CB.o o8 AY).1;have UX:=MI.cell;have hf3:=MI.frozen)
      have hm:=Jk JJ.o CB.o o8 AY;exact⟨((Gh y5.o).from _).trans hm.2.1,Qf y5.o (by have:=KP.o.size;omega) hm.2.2.1,zn3 JJ.o TN.o CB.o HY.o (by simp) o8 AY⟩
     |[i,a],_,CB,TN,o7=>
      gi_wp2_with (gi_at_builtin;refine wpListIn_append_own _ rfl _ _ 48 rfl w5.heap.size 3 i0 (0:Int) 1 8 underlying48 hi BR BU BM rfl (by decide) _ _ _ rfl (o7.alloc _) W2 1 1 [m] rfl rfl (cell_one_new _ _ _) (by simp[Value.oneCell']) (by unfold maxLen;omega) (by omega) (by simp;omega) ?_;intro u2 W3 o8 AY _;obtain⟨g2,cap2,rfl⟩:=ownsRow_succ o8;have MI:=(Jk JJ.o CB.o o8 AY).1;have UX:=MI.cell;have hf3:=MI.frozen)
      have JV:Hid _:=Jk JJ.o CB.o o8 AY;generalize W3.setCell (w5.heap.size+1:Nat) (.slice g2 ([i,a].length+1) cap2)=V at JV ⊢;have hV:=JV.o;have FQ:Hid (V.drew.cell? w5=some (.pointer x)/\V.drew.cell? (w5.heap.size+1:Nat)=some (.slice g2 3 cap2)/\V.drew.cell? g2=i/\V.drew.cell? (g2,1)=a/\V.drew.cell? (g2,2)=m):=by
       have hr:=hV.2.2.2.2.2.2.2.2.1;have e0:=bQ hr rfl 0 _ rfl;have e1:=bQ hr rfl 1 _ rfl;have e2:=bQ hr rfl 2 _ rfl;rw[G.Bh] at e0 e1 e2;exact⟨hV.2.2.2.2.2.2.1.cell,hV.2.2.2.2.2.2.2.1.cell,e0,e1,e2⟩
      clear hV;have hgb:w5<=g2:=(aU JV.o.2.2.2.2.2.2.2.2.1 g2 rfl).1;by_cases hF:Fits n L i a m
      ·obtain⟨a,rfl⟩:=dE hF.2.1.1
       obtain⟨m,rfl⟩:=dE hF.2.2.1.1;have HAD:Hid _:=zbp i a m V.drew (JV.o.2.2.2.1.below' (aI _ _).drew) hF;refine Qi (S:=(λ w'=>w'.cell? w5=some (.pointer x)/\w'.cell? (w5.heap.size+1:Nat)=some (.slice g2 3 cap2)/\w'.cell? g2=i/\w'.cell? (g2,1)=a/\w'.cell? (g2,2)=m)) (by kernel_rfl) (Qp (by kernel_rfl)) (λ⟨_,_,h⟩=>h) ?_ (λ hHeld=>?_)
       ·exact FQ.o
       refine tk 0 ?_;refine tk 1 ?_;refine tk 2 ?_;refine tk 3 ?_;refine tk 4 ?_;refine tk 5 ?_;refine tk 6 ?_;refine tk 7 ?_;refine tk 8 ?_;refine tk 9 ?_;refine rd 10 (λ K hK=>?_);go_simp;go_wp2_with (go_at_call 21;refine aA HAD.o ?_;rintro e V2 ⟨ok,v2,B2,Wl2,T2,D2,N2,rfl,hat2,_,LQ,_⟩);have HAT2:Hid _:=hat2;have HIK:=kd LQ;have HVA:Hid (IAt w4 V.drew x p q n v1 L R1 B1 Wl1 T1 D1 pw bw pt bt mp N1):=JV.o.2.2.2.1.below' (aI _ _).drew;clear hat2 LQ HAD;have y9:Boxed V2 w5 26 (.pointer x):=G6 HVA.o HIK.o JV.o.2.2.2.2.2.2.1 (by decide) (by decide) (by decide);have y10:Boxed V2 (w5+1) 48 (.slice g2 3 cap2):=G6 HVA.o HIK.o JV.o.2.2.2.2.2.2.2.1 (by decide) (by decide) (by decide);have HG:Hid (V2.cell? g2=i/\V2.cell? (g2,1)=a/\V2.cell? (g2,2)=m):=by
        have h0:=JV.o.2.2.2.2.2.2.2.2.1;rcases h0.2 with⟨k,_⟩|⟨g',cap',cur,k,_,hgc,_⟩
        ·injection k with k;cases k
        ·injection k with k _ _
         injection k with k
         injection k with k
         subst k;have hb9:=JJ.o.hbw;have hb8:=JJ.o.hbt;have e:V2.heap[g2]? =V.drew.heap[g2]? :=HIK.o.block g2 (G.lt_of_some hgc) (by rintro rfl;have:=hgc.symm.trans HVA.o.gra.hp;simp at this) (by
          intro e';obtain⟨c',hc'⟩:=Hz HVA.o.gra.row e'.symm;have:=hgc.symm.trans hc';simp at this) (by omega) (by omega) (by have:=JJ.o.hmp;omega)
         exact⟨(fD (a:=⟨g2,0,none⟩) e).trans FQ.o.2.2.1,(fD (a:=⟨g2,1,none⟩) e).trans FQ.o.2.2.2.1,(fD (a:=⟨g2,2,none⟩) e).trans FQ.o.2.2.2.2⟩
       refine hK.out _ _ ?_ (λ hHeld=>?_)
       ·exact⟨y9.cell,y10.cell,HG.o.1,HG.o.2.1,HG.o.2.2⟩
       clear hK K;refine tk 11 ?_;refine tk 12 ?_;refine tk 13 ?_;refine tk 14 ?_;refine tk 15 ?_;refine wpAnyH_done (by kernel_rfl) ?_ _;have c10':=y10.cell;have f10':=y10.frozen
       gi_wp2_with fail
       obtain⟨s9,RV⟩:=CB.o.xb;have OP:=zsw JJ.o TN.o HY.o hF HVA.o rfl HAT2.o HIK.o JV.o.2.2.2.2.1 JV.o.2.2.2.2.2.1 JV.o.2.2.2.2.2.2.1 JV.o.2.2.2.2.2.2.2.1 (show Boxed V.drew (w5+2) 9 s9 from JV.o.2.2.1.trans RV) JV.o.2.2.2.2.2.2.2.2.2.1;exact⟨(((Gh y5.o).from _).trans JV.o.2.1).trans (((KeepsOthers.drew V).from _).trans OP.2.1),Qf y5.o (by have:=KP.o.size;omega) (OP.2.2.trans JV.o.2.2.1),OP.1⟩
      ·have HAD:Hid _:=zch i a m V.drew (JV.o.2.2.2.1.below' (aI _ _).drew) (λ e=>hF ((Ra JV.o.2.2.2.1.ok i a m).1 e))
       generalize Bn n L i a m=cd at HAD;refine Qi (S:=(λ w'=>w'.cell? w5=some (.pointer x)/\w'.cell? (w5.heap.size+1:Nat)=some (.slice g2 3 cap2)/\w'.cell? g2=i/\w'.cell? (g2,1)=a/\w'.cell? (g2,2)=m)) (by kernel_rfl) (Qp (by kernel_rfl)) (λ⟨_,_,h⟩=>h) ?_ (λ hHeld=>?_)
       ·exact FQ.o
       refine tk 0 ?_;refine tk 1 ?_;refine tk 2 ?_;refine tk 3 ?_;refine tk 4 ?_;refine tk 5 ?_;refine tk 6 ?_;refine tk 7 ?_;refine tk 8 ?_;refine tk 9 ?_;refine rd 10 (λ K hK=>?_);go_simp;go_wp2_with (go_at_call 21;refine aA HAD.o ?_;rintro e V2 ⟨rfl,j5⟩);have AZ:=kd j5;clear j5 HAD;refine hK.out _ _ ?_ (λ hHeld=>?_)
       ·exact⟨Kb AZ.o FQ.o.1,Kb AZ.o FQ.o.2.1,Kb AZ.o FQ.o.2.2.1,Kb AZ.o FQ.o.2.2.2.1,Kb AZ.o FQ.o.2.2.2.2⟩
       clear hK K;refine tk 11 ?_;refine tk 12 ?_;refine tk 13 ?_;refine tk 14 ?_;refine tk 15 ?_;refine wpAnyH_done (by kernel_rfl) ?_ _;have OO:Hid (Boxed V2 w 26 (.pointer none)/\Boxed V2 (w+1) 28 .nilIface):=⟨Ba (w:=V.drew) JV.o.2.2.2.2.1 AZ.o,Ba (w:=V.drew) JV.o.2.2.2.2.2.1 AZ.o⟩;have c2:=OO.o.1.cell;have f2:=OO.o.1.frozen;have c3:=OO.o.2.cell;have f3:=OO.o.2.frozen
       gi_wp2_with fail
       refine⟨(((Gh y5.o).from _).trans JV.o.2.1).trans (((((KeepsOthers.drew V).trans (Gh AZ.o)).trans (KeepsOthers.setCell _ _ _)).trans (KeepsOthers.setCell _ _ _)).from _),zu4 TN.o OO.o.1 OO.o.2 ?_ HY.o hF 23 _⟩;have h1:=JJ.o.b4.tr JV.o.2.2.2.1.rn.below;exact h1.drew.trans ((AZ.o).mono h1.size)
    ·have c2:=(KP.o.below' y5.o).x2.cell
     have f2:=(KP.o.below' y5.o).x2.frozen;have c3:=(KP.o.below' y5.o).x3.cell;have f3:=(KP.o.below' y5.o).x3.frozen
     gi_wp2_with fail
     exact ztv JJ.o KP.o y5.o AA t pp
   case done=>
    rintro D9 ys W1 hD hys ⟨acc,L,v1,R1,B1,Wl1,T1,D1,N1,u1,KO,QE⟩ hK;have KP:=kd QE;have TN:=kd KO;have HYS:=kd hys;have HK:=kd hK;have c9:=QE.x9.cell;have c2:=QE.x2.cell;have f2:=QE.x2.frozen;have c3:=QE.x3.cell;have f3:=QE.x3.frozen;clear KO QE hys hK
    gi_wp2
    have QC:=Ns (.pointer x) .nilIface KP.o.x2 KP.o.x3;have hK':=((KeepsOthers.setCell W1 w (.pointer x)).trans (KeepsOthers.setCell _ (w.heap.size+1:Nat) .nilIface)).same D9 _ HK.o rfl;refine⟨by simp,.inl ⟨_,_,rfl,run_takeDeferred hK',?_⟩⟩;refine⟨_,Zr (cell_kept QC.1.cell (grownBy_putObj' _ D9 (.deferred none)) (λ r e=>by cases e;exact⟨_,hK',rfl⟩)) (cell_kept QC.2.cell (grownBy_putObj' _ D9 (.deferred none)) (λ r e=>by cases e;exact⟨_,hK',rfl⟩)) (by rfl) (by rfl),.inl ⟨n,acc,L,?_,?_⟩⟩
    ·unfold rdS
     rw[ZT.o];dsimp only;rw[HM.o];dsimp only;rw[aP (by have:=ZP.o;omega)];have e1:short ys=wds [] rs:=by rw[HYS.o];exact Sj QD.o.2
     have:=TN.o;rw[e1] at this;simp[this]
    ·exact⟨x,p,q,v1,R1,B1,Wl1,T1,D1,pw,bw,pt,bt,mp,N1,rfl,zsc JJ.o KP.o hK' hD⟩
   case stop=>
    rintro D9 c pre W1 hD ⟨k,hk⟩ ⟨rfl,AA,h2,⟨t,pp,h3⟩,hb⟩ hK;have HK:=kd hK;have HH:Hid (rdP n (short pre)=none/\Boxed W1 w 26 (.pointer none)/\Boxed W1 (w+1) 28 (.iface t pp)/\Below w w W1):=⟨AA,h2,h3,hb⟩;have EH:=kd hk;clear AA h2 h3 hb hK hk
    gi_wp2
    refine⟨by simp,.inl ⟨_,_,rfl,run_takeDeferred HK.o,?_⟩⟩;refine⟨_,Zr (cell_kept HH.o.2.1.cell (grownBy_putObj' _ D9 (.deferred none)) (λ r e=>by cases e;exact⟨_,HK.o,rfl⟩)) (cell_kept HH.o.2.2.1.cell (grownBy_putObj' _ D9 (.deferred none)) (λ r e=>by cases e;exact⟨_,HK.o,rfl⟩)) (by rfl) (by rfl),.inr ⟨?_,⟨_,_,rfl⟩,?_⟩⟩
    ·unfold rdS
     rw[ZT.o];dsimp only;rw[HM.o];dsimp only;rw[aP (by have:=ZP.o;omega)];have e1:=zno (n:=n) (k:=k) QD.o.2 (by rw[<-EH.o];exact HH.o.1);simp[e1]
    ·have h4:=JJ.o.s4;have h5:=JJ.o.s5;have h6:=JJ.o.s6
     exact HH.o.2.2.2.grown (grownBy_putObj' W1 D9 (.deferred none)) HH.o.2.2.2.size (λ j e=>by cases e;omega)
  ·have HN:Hid _:=nk m w4 (by omega)
   have c2:=MH.o.1.cell;have f2:=MH.o.1.frozen;have c3:=MH.o.2.cell;have f3:=MH.o.2.frozen
   gi_wp2_with fail
   refine⟨trivial,?_⟩;refine CallsIn.mono (callsIn_wide.2 HN.o) ?_;rintro e w5 ⟨rfl,ZU⟩;subst w5;have XL:=MH.o.1.lt;have hlt3:=MH.o.2.lt
   gi_wp2_with fail
   have QC:=Ns (.pointer none) (.iface 23 (2:Int)) MH.o.1 MH.o.2;refine⟨_,Zr (QC.1.alloc _).cell (QC.2.alloc _).cell (by rfl) (by rfl),.inr ⟨?_,⟨_,_,rfl⟩,?_⟩⟩
   ·unfold rdS
    rw[ZT.o];dsimp only;rw[HM.o];dsimp only;rw[aL hr]
   ·have h9:=Bt EP.o (.pointer none) (.iface 23 (2:Int))
    exact h9.alloc h9.size _
 ·have c2:=MH.o.1.cell
  have f2:=MH.o.1.frozen;have c3:=MH.o.2.cell;have f3:=MH.o.2.frozen
  gi_wp2_with fail
  have QC:=Ns (.pointer none) (.iface t pp) MH.o.1 MH.o.2;refine⟨_,Zr QC.1.cell QC.2.cell (by rfl) (by rfl),.inr ⟨?_,⟨_,_,rfl⟩,?_⟩⟩
  ·unfold rdS
   rw[ZT.o];dsimp only;cases hq:Lib.atoiAll hd with
   |ok m=>exact absurd hq (AA m)
   |_=>rfl
  ·exact Bt EP.o _ _
end Go.Proofs.Y.I
namespace Go.Proofs.Y.I
open Go.RowKit Go.WideMaps Go.Maps Go.Proofs.Tryz
def Ut (s:List UInt8)(n:Nat)(L:List G.E):Prop:=Ok n L/\s=svE n L
theorem Y7 {s:List UInt8}{n:Nat}{L:List G.E}(h:Ut s n L):rdS s=some (n,[],L):=by
 obtain⟨p8,rfl⟩:=h;obtain⟨rest,h1,h2⟩:=Ph p8;unfold rdS;have h40:=p8.n40;rw[h1];dsimp only;rw[J4 (v:=(n:Int)) (by omega) (by omega)];dsimp only;rw[aP (by omega)];simp[h2]
def zj7 (w:World)(s:ByteArray)(e:Ending)(w':World):Prop:=
 (∃n L,Ut s.data.toList n L/\∃x p q v R B W T D pw bw pt bt mp N,e=Value.tuple #[.pointer (some ⟨x,0,none⟩),.nilIface]/\IAt w w' x p q n v L R B W T D pw bw pt bt mp N)\/
 ((∀n L,¬Ut s.data.toList n L)/\e=Value.tuple #[.pointer none,.iface 23 (3:Int)]/\Below w w w')
theorem zj8 (s:ByteArray)(w:World)(hs:s.size<=100000)(hv:Vars w):Calls prog 11 #[.string s] w (zj7 w s):=by
 have HV:=kd hv;have HR:Hid _:=zlv s w hs hv;clear hv;go_enter func11,ntmps11;go_wp2_with fail;refine aA HR.o ?_;rintro e w1 (⟨n,acc,L,KO,x,p,q,v,R,B,W,T,D,pw,bw,pt,bt,mp,N,rfl,q9⟩|⟨AA,⟨t,pp,rfl⟩,hb⟩)
 ·have FV:=kd q9
  have TN:=kd KO;have HSV:Hid _:=Y6 x p q n w v L w1 q9.ix q9.gra q9.ok (HV.o.on q9.rn.below HV.o.big);clear q9 KO HR;have HTE:Hid (svI n L=s.data.toList↔∃n' L',Ut s.data.toList n' L'):=by
   have p8:=FV.o.ok;constructor
   ·intro e
    exact⟨n,L,p8,by rw[P9 p8,e]⟩
   ·rintro⟨n',L',ht⟩
    have h1:=Y7 ht;rw[TN.o] at h1;simp at h1;obtain⟨rfl,_,rfl⟩:=h1;rw[ht.2,P9 p8]
  obtain⟨tx,htx⟩:∃tx:ByteArray,tx=⟨(svI n L).toArray⟩:=⟨_,rfl⟩;have ZV:Hid (tx=s↔svI n L=s.data.toList):=by
   rw[htx];constructor
   ·intro e;rw[<-e]
   ·intro e;rw[e]
  rw[<-htx] at HSV;clear htx;by_cases he:tx=s
  ·subst he
   go_wp2_with (go_at_call 16;refine aA HSV.o ?_;rintro e w2 ⟨rfl,j5⟩);go_ret2;refine .inl ⟨n,L,⟨FV.o.ok,?_⟩,x,p,q,v,R,B,W,T,D,pw,bw,pt,bt,mp,N,rfl,FV.o.below' j5⟩;rw[P9 FV.o.ok];exact(ZV.o.1 trivial).symm
  ·have he':(tx.toList==s.toList)=false:=by
    rw[aH,ByteArray.toList_eq,ByteArray.toList_eq];exact λ e=>he (iY e)
   go_wp2_with (go_at_call 16;refine aA HSV.o ?_;rintro e w2 ⟨rfl,j5⟩);go_ret2;exact .inr ⟨λ n' L' ht=>he (ZV.o.2 (HTE.o.2 ⟨n',L',ht⟩)),rfl,FV.o.rn.below.tr j5⟩
 ·have HB:=kd hb
  have DZ:=kd AA;clear hb AA HR;go_wp2_with fail;go_ret2;refine .inr ⟨λ n L ht=>?_,rfl,HB.o⟩;have:=Y7 ht;rw[DZ.o] at this;cases this
open Go.RowKit Go.WideMaps Go.Maps Go.Lib Go.Proofs.Tryz
structure IVx (w:World) (a b x n:Nat) (L:List G.E) (p q:Nat) (v:Value) (R B:List G.E) (W T:List Nat) (D:DataW Unit) (pw bw pt bt mp N g:Nat):Prop where
 ix:Ix w x p q
 gra:G.GAt w g 168 61 p (n:Int) v L
 now:S.Now w q pw bw pt bt mp N n R B W T D
 ok:Ok n L
 perm:R.Perm L
 nl:N<=120
 ip:a<=p/\p<b
 iw:a<=bw/\bw<b
 it:a<=bt/\bt<b
 im:a<=mp/\mp<b
 iv:∀k,v.ownBlock=some k->a<=k/\k<b
def IV (w:World)(a b x n:Nat)(L:List G.E):Prop:=
 ∃p q v R B W T D pw bw pt bt mp N g,IVx w a b x n L p q v R B W T D pw bw pt bt mp N g
variable {w0 w w':World} {a b x p q n:Nat} {v:Value} {L R B:List G.E} {W T:List Nat} {D:DataW Unit} {pw bw pt bt mp N g:Nat}
theorem Ok.unl (h:Ok n L):S.Unl L:=by
 unfold S.Unl;have hu:L.Pairwise (λ x y=>x.1<y.1):=h.up;exact hu.imp (λ {x y} (k:x.1<y.1)=>by omega)
theorem IVx.unl (h:IVx w a b x n L p q v R B W T D pw bw pt bt mp N g):S.Unl R:=
 h.perm.symm.pairwise h.ok.unl (λ {_ _} k=>k.symm)
theorem IV.ok (h:IV w a b x n L):Ok n L:=by
 obtain⟨p,q,v,R,B,W,T,D,pw,bw,pt,bt,mp,N,g,h⟩:=h;exact h.ok
theorem IVx.below (h:IVx w a b x n L p q v R B W T D pw bw pt bt mp N g)(hb:Below w w w'):IVx w' a b x n L p q v R B W T D pw bw pt bt mp N g:=
 {h with ix:=h.ix.below hb h.ix.lt,gra:=h.gra.below hb,now:=h.now.below hb}
theorem IV.below (h:IV w a b x n L)(hb:Below w w w'):IV w' a b x n L:=by
 obtain⟨p,q,v,R,B,W,T,D,pw,bw,pt,bt,mp,N,g,h⟩:=h;exact⟨p,q,v,R,B,W,T,D,pw,bw,pt,bt,mp,N,g,h.below hb⟩
theorem map_lt {w:World}{p pw bw pt bt m N:Nat}{W T:List Nat}{D:DataW Unit}(h:S.BAt w p pw bw pt bt m N W T D):m<w:=by
 obtain⟨es,c,hm⟩:=h.Mc;exact G.lt_of_some hm
theorem IAt.iv (h:IAt w0 w x p q n v L R B W T D pw bw pt bt mp N)(hb:w<=b)(ha:a<=w0):IV w a b x n L:=by
 have h1:=h.rn.now.at_.sw.blt;have h2:=h.rn.now.at_.st.blt;have h3:=map_lt h.rn.now.at_;have h4:=h.gra.plt;have h5:=h.rn.hb;have h6:=h.hp;refine⟨p,q,v,R,B,W,T,D,pw,bw,pt,bt,mp,N,w0.heap.size,h.ix,h.gra,h.rn.now,h.ok,h.perm,by have:=h.rn.nl;have:=h.rn.rl;omega,⟨by omega,by omega⟩,⟨by omega,by omega⟩,⟨by omega,by omega⟩,⟨by omega,by omega⟩,λ k hk=>?_⟩;have:=h.gra.lt hk;omega
theorem IV.other {y p' q' n':Nat}{v':Value}{L' R' B':List G.E}{W' T':List Nat}{D':DataW Unit}{pw' bw' pt' bt' mp' N':Nat}(h:IV w a b x n L)
 (hy:IAt w0 w y p' q' n' v' L' R' B' W' T' D' pw' bw' pt' bt' mp' N') (k:Ikp p' v'.ownBlock bw' bt' mp' w w')
 (op:p'<a\/b<=p') (ow:bw'<a\/b<=bw') (ot:bt'<a\/b<=bt') (om:mp'<a\/b<=mp') (ov:∀j,v'.ownBlock=some j->j<a\/b<=j):IV w' a b x n L:=by
 obtain⟨p,q,v,R,B,W,T,D,pw,bw,pt,bt,mp,N,g,h⟩:=h;have kind:∀(j t:Nat) (cur:Array Value),w.heap[j]? =some (.cells cur t)->t≠168->t≠61->t≠3->w'.heap[j]? =some (.cells cur t):=by
  intro j t cur hj h1 h2 h3;obtain⟨es,c,hm⟩:=hy.rn.now.at_.Mc;rw[k.block j (G.lt_of_some hj) ?_ ?_ ?_ ?_ ?_]
  ·exact hj
  ·rintro rfl
   have:=hj.symm.trans hy.gra.hp;simp at this;exact h1 this.2
  ·intro e
   obtain⟨cur',hc⟩:=Hz hy.gra.row e.symm;have:=hj.symm.trans hc;simp at this;exact h2 this.2
  ·rintro rfl
   have:=hj.symm.trans hy.rn.now.at_.sw.hb;simp at this;exact h3 this.2
  ·rintro rfl
   have:=hj.symm.trans hy.rn.now.at_.st.hb;simp at this;exact h3 this.2
  ·rintro rfl
   have:=hj.symm.trans hm;simp at this
 have mid:∀j,j<w.heap.size->a<=j->j<b->w'.heap[j]? =w.heap[j]? :=λ j hj h1 h2=>
  k.block j hj (by omega) (λ e=>by have:=ov j e.symm;omega) (by omega) (by omega) (by omega)
 have KA:=h.now.at_;refine⟨p,q,v,R,B,W,T,D,pw,bw,pt,bt,mp,N,g,kind _ _ _ h.ix (by decide) (by decide) (by decide),⟨?_,⟨h.gra.row.1,?_⟩,h.gra.ne⟩,⟨?_,h.now.st,h.now.dis⟩,h.ok,h.perm,h.nl,h.ip,h.iw,h.it,h.im,h.iv⟩
 ·rw[mid p h.gra.plt h.ip.1 h.ip.2];exact h.gra.hp
 ·rcases h.gra.row.2 with hn|⟨j,cap,cur,rfl,hB,hg,rest⟩
  ·exact .inl hn
  ·refine .inr ⟨j,cap,cur,rfl,hB,?_,rest⟩
   have:=h.iv j rfl;rw[mid j (G.lt_of_some hg) this.1 this.2];exact hg
 ·obtain⟨es,c,hm,F,hs,hD⟩:=KA.hm
  refine⟨kind _ _ _ KA.hp (by decide) (by decide) (by decide),⟨kind _ _ _ KA.sw.hp (by decide) (by decide) (by decide),?_⟩,⟨kind _ _ _ KA.st.hp (by decide) (by decide) (by decide),?_⟩,⟨es,c,?_,F,hs,hD⟩,KA.pp,KA.bb⟩
  ·rw[mid bw KA.sw.blt h.iw.1 h.iw.2];exact KA.sw.hb
  ·rw[mid bt KA.st.blt h.it.1 h.it.2];exact KA.st.hb
  ·rw[mid mp (G.lt_of_some hm) h.im.1 h.im.2];exact hm
noncomputable def brz (n:Nat)(L:List G.E):List Int:=
 open Classical in if h:∃RB:List G.E × List G.E,(∃W T,S.St n RB.1 W T RB.2)/\RB.1.Perm L then S.ups h.choose.1 h.choose.2 else []
noncomputable def twz (n:Nat)(L:List G.E):List Nat:=
 open Classical in if h:∃T:List Nat,∃R B W,S.St n R W T B/\R.Perm L then h.choose else []
theorem zib {R B:List G.E}(s:S.St n R W T B)(hp:R.Perm L)(hL:S.Unl L):S.ups R B=brz n L:=by
 have hu:S.Unl R:=hp.symm.pairwise hL (λ {_ _} k=>k.symm);have h:∃RB:List G.E × List G.E,(∃W T,S.St n RB.1 W T RB.2)/\RB.1.Perm L:=⟨(R,B),⟨W,T,s⟩,hp⟩;unfold brz;rw[kL h];obtain⟨⟨W',T',s'⟩,hp'⟩:=h.choose_spec;exact(S.Ov s s' (hp.trans hp'.symm) hu).2.2
theorem zih {R B:List G.E}(s:S.St n R W T B)(hp:R.Perm L)(hL:S.Unl L):T=twz n L:=by
 have hu:S.Unl R:=hp.symm.pairwise hL (λ {_ _} k=>k.symm);have h:∃T:List Nat,∃R B W,S.St n R W T B/\R.Perm L:=⟨T,R,B,W,s,hp⟩;unfold twz;rw[kL h];obtain⟨R',B',W',s',hp'⟩:=h.choose_spec;exact(S.Ov s s' (hp.trans hp'.symm) hu).2.1
theorem K9 {base:Nat}{v:Value}{K:List Int}(h:w.ownsRow base 3 1 v K.length (K.map (Value.int .i64))):∃a cap,v= .slice a K.length cap/\(0<K.length->∃g,a=some ⟨g,0,none⟩/\∀j,j<K.length->w.cell? ⟨g,j,none⟩=(K.getD j 0:Int)):=by
 have h0:=h;rcases h.2 with⟨rfl,hz⟩|⟨g,cap,cur,rfl,hb,hg,_⟩
 ·exact⟨none,0,by rw[hz],λ k=>by omega⟩
 ·refine⟨_,cap,rfl,λ _=>⟨g,rfl,λ j hj=>?_⟩⟩
  rw[h0.cellAt j (by omega)];simp[hj]
def Zs (w:World)(a:Option Addr)(K:List Int):Prop:=0<K.length->∃g,a=some ⟨g,0,none⟩/\∀j,j<K.length->w.cell? ⟨g,j,none⟩=(K.getD j 0:Int)
theorem Zs.below {a:Option Addr}{K:List Int}(h:Zs w a K)(hb:Below w w w'):Zs w' a K:=by
 intro hk;obtain⟨g,e,hc⟩:=h hk;exact⟨g,e,λ j hj=>S.cell_below (hc j hj) hb⟩
theorem zs7 (h:IV w a b x n L)(hv:Vars w):
 Calls prog 16 #[.pointer x] w λ e w'=>e=Value.string ⟨(svI n L).toArray⟩/\Below w w w':=by
 obtain⟨p,q,v,R,B,W,T,D,pw,bw,pt,bt,mp,N,g,h⟩:=h;exact Y6 x p q n g v L w h.ix h.gra h.ok hv
theorem zls (h:IVx w a b x n L p q v R B W T D pw bw pt bt mp N g):
 Calls prog 78 #[.pointer q] w λ e w'=>∃a c,e=Value.slice a (brz n L).length c/\Zs w' a (brz n L)/\Below w w w':=by
 refine(S.zpl w h.now.at_ (by have:=h.nl;omega)).mono ?_;rintro e w' ⟨v',ss,rfl,hp,o7,_,hb⟩;have hunl:=h.unl;have hc:CollectedI D (λ _=>false) (S.Az R B):=by
  refine⟨S.Nj hunl,λ x=>?_⟩;rw[h.now.dis.key x,S.Qx h.now.st];constructor
  ·rintro⟨e,he,k⟩;exact⟨⟨e,(h.now.st.hB e).2 he,k⟩,rfl⟩
  ·rintro⟨⟨e,he,k⟩,_⟩;exact⟨e,(h.now.st.hB e).1 he,k⟩
 have hp':ss.Perm (S.Az R B):=hp.trans (hc.perm h.now.at_.hm S.Bp underlying3 (λ _=>rfl)).symm;have e1:(ss.mergeSort λ x y=>decide (x<=y))=S.ups R B:=mergeSort_of_perm_i hp';rw[e1,hp'.length_eq,<-S.ze3 R B,zib h.now.st h.perm h.ok.unl] at o7;obtain⟨a',c,rfl,hs⟩:=K9 (K:=brz n L) o7;exact⟨a',c,rfl,hs,hb⟩
theorem zlx (h:IV w a b x n L):
 Calls prog 33 #[.pointer x] w λ e w'=>∃a c,e=Value.slice a (brz n L).length c/\Zs w' a (brz n L)/\Below w w w':=by
 obtain⟨p,q,v,R,B,W,T,D,pw,bw,pt,bt,mp,N,g,h⟩:=h;have HI:Hid _:=zls h;have hc:=h.ix.c1;clear h;go_enter func33,ntmps33;go_wp2_with (go_at_call 78;refine aA HI.o ?_;rintro e w1 ⟨a',c,rfl,hz,hb⟩);go_ret;exact⟨a',c,rfl,hz,hb⟩
theorem zsl (h:IV w a b x n L)(i j:Nat)(hi:i<n)(hj:j<n):
 Calls prog 27 #[.pointer x,i,j] w λ e w'=>e=Value.tuple #[((((twz n L).getD i 0:Nat):Int)==(((twz n L).getD j 0:Nat):Int)),.nilIface]/\Below w w w':=by
 obtain⟨p,q,v,R,B,W,T,D,pw,bw,pt,bt,mp,N,g,h⟩:=h;have hT:=zih h.now.st h.perm h.ok.unl;have hl:=h.now.st.gt.len;have HI:Hid _:=S.zmm i j _ w h.now.at_ (by rw[hl];exact hi) (by rw[hl];exact hj) rfl;have hc:=h.ix.c1;rw[<-hT];clear h hT hl;go_enter func27,ntmps27;go_wp2_with (go_at_call 76;refine aA HI.o ?_;rintro e w1 ⟨rfl,hb⟩);go_ret2;exact⟨rfl,hb⟩
end Go.Proofs.Y.I
namespace Go.Proofs.Y.I
open Go.RowKit Go.WideMaps Go.Maps Go.Lib Go.Proofs.Tryz
variable {w0 w w':World} {x p q n:Nat} {v:Value} {L R B:List G.E} {W T:List Nat} {D:DataW Unit} {pw bw pt bt mp N:Nat}
theorem Ok.sub {M:List G.E}(h:Ok n L)(hs:M.Sublist L):Ok n M:=
 ⟨h.n40,List.Pairwise.sublist hs h.up,aD hs.length_le h.len,λ e he=>h.ed e (hs.subset he)⟩
theorem zbf (L:List G.E)(k:Nat):(L.take k++L.drop (k+1)).Sublist L:=by
 rw[<-List.eraseIdx_eq_take_drop_succ];exact List.eraseIdx_sublist L k
theorem Fs {y i g:Nat}{u:Value}{o:Obj}{cs:Array Value}(hy:w.heap[y]? =some (.cells cs 85))(hg:w.heap[g]? =some o)(ho:∀cur,o≠ .cells cur 85):(w.setCell (y,i) u).heap[g]? =some o:=by
 rw[aV _ _ _ _ (show g≠y from λ e=>by subst e;exact ho cs (dG (hg.symm.trans hy)))];exact hg
theorem zod {y i:Nat}{u:Value}{cs:Array Value}(hy:w.heap[y]? =some (.cells cs 85))(hb:S.BAt w q pw bw pt bt mp N W T D):S.BAt (w.setCell (y,i) u) q pw bw pt bt mp N W T D:=by
 obtain⟨es,c,hm,F,hs,hD⟩:=hb.hm;exact⟨Fs hy hb.hp (by simp),⟨Fs hy hb.sw.hp (by simp),Fs hy hb.sw.hb (by simp)⟩,⟨Fs hy hb.st.hp (by simp),Fs hy hb.st.hb (by simp)⟩,⟨es,c,Fs hy hm (by simp),F,hs,hD⟩,hb.pp,hb.bb⟩
theorem zrt {y i B' p':Nat}{m:Int}{u:Value}{cs:Array Value}(hy:w.heap[y]? =some (.cells cs 85))(h:G.GAt w B' 168 61 p' m v L):G.GAt (w.setCell (y,i) u) B' 168 61 p' m v L:=by
 refine⟨Fs hy h.hp (by simp),⟨h.row.1,?_⟩,h.ne⟩;rcases h.row.2 with hn|⟨g,cap,cur,rfl,hB,hg,rest⟩
 ·exact .inl hn
 ·exact .inr ⟨g,cap,cur,rfl,hB,Fs hy hg (by simp),rest⟩
theorem zb2 {w1:World}(h:S.Rn w1 w q pw bw pt bt mp n R B W T D N)(hb:Below w0 w0 w1):S.Rn w0 w q pw bw pt bt mp n R B W T D N:=
 {h with below:=hb.tr h.below,hb:=⟨aD hb.size h.hb.1,aD hb.size h.hb.2.1,aD hb.size h.hb.2.2⟩}
theorem zm4 (id:Int)(w:World)(h:IAt w0 w x p q n v L R B W T D pw bw pt bt mp N)(hs:G.seen L id=none):
 Calls prog 18 #[.pointer x,id] w λ e w'=>e=Value.iface 23 (7:Int)/\Below w w w':=by
 have HA:Hid _:=G.zjy id (n:Int) w0 p v L w h.gra h.ok.up h.ok.len hs;have c0:=h.ix.c0;clear h;go_enter func18,ntmps18;go_wp2_with (go_at_call 55;refine aA HA.o ?_;rintro e w1 ⟨rfl,hb⟩);go_ret;exact⟨rfl,hb⟩
end Go.Proofs.Y.I
