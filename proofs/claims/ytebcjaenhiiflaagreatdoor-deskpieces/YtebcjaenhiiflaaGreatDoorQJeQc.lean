import Derived.Test.YtebcjaenhiiflaaGreatDoorQJcJd
import Derived.Test.YtebcjaenhiiflaaGreatDoorQRr
import Derived.RangeFuncNested
import Derived.RangeFuncBound
import Derived.RangeFuncLeaves
import Derived.Shelf.Abstract
import Derived.Shelf.RegionOpen
import Derived.OwnWalkIn
import Derived.TacticsInMore
import Derived.LoopNIn
import Derived.LoopIn
import Derived.Laws.Strings
import Derived.WideShapes
set_option maxHeartbeats 4000000
set_option maxRecDepth 100000
namespace Go.Proofs.YtebcjaenhiiflaaGreatDoor.I
open Go.RowKit Go.Shelf
attribute [local go_sem] Oper.semAt_some
def wstep (s:List (List UInt8) × List UInt8) (c:UInt8):List (List UInt8) × List UInt8:=if c=32\/c=10 then (s.1++[s.2],[]) else (s.1,s.2++[c])
def wst (l:List UInt8):List (List UInt8) × List UInt8:=l.foldl wstep ([],[])
theorem wst_snoc (l:List UInt8) (c:UInt8):wst (l++[c])=wstep (wst l) c:=by
 unfold wst;rw [List.foldl_append];rfl
theorem wst_fold:∀(l:List UInt8) (out:List (List UInt8)) (acc:List UInt8),(l.foldl wstep (out,acc)).1=out++wds acc l
 | [],out,acc=>by simp [wds]
 | c::l,out,acc=>by
   rw [List.foldl_cons];by_cases h:c=32\/c=10
   ·have e:wstep (out,acc) c=(out++[acc],[]):=by unfold wstep;rw [if_pos h]
    rw [e,wst_fold l,wds,if_pos h];simp
   ·have e:wstep (out,acc) c=(out,acc++[c]):=by unfold wstep;rw [if_neg h]
    rw [e,wst_fold l,wds,if_neg h]
theorem wst_wds (l:List UInt8):(wst l).1=wds [] l:=by
 unfold wst;rw [wst_fold];rfl
theorem wst_end (l:List UInt8) (k:Nat) (hk:k<=l.length):(wst (l.take k)).2.length<=k/\(wst (l.take k)).2=(l.take k).drop (k-(wst (l.take k)).2.length):=by
 induction k with
 | zero=>simp [wst]
 | succ k ih=>
   obtain ⟨h1,h2⟩:=ih (by omega);have hx:l[k]? =some l[k]:=List.getElem?_eq_getElem (by omega);have e:l.take (k+1)=l.take k++[l[k]]:=by rw [List.take_add_one,hx];rfl
   rw [e,wst_snoc];unfold wstep;split
   ·refine ⟨by simp,?_⟩
    simp
   ·simp only [List.length_append,List.length_singleton]
    refine ⟨by omega,?_⟩;have e2:k+1-((wst (l.take k)).2.length+1)=k-(wst (l.take k)).2.length:=by omega
    rw [e2,List.drop_append_of_le_length (by simp;omega),<-h2]
theorem wst_few (l:List UInt8):(wst l).1.length<=l.length:=by
 have key:∀(l:List UInt8) (s:List (List UInt8) × List UInt8),(l.foldl wstep s).1.length<=s.1.length+l.length:=by
  intro l;induction l with
  | nil=>intro s;simp
  | cons c l ih=>
    intro s;rw [List.foldl_cons,List.length_cons];refine Nat.le_trans (ih _) ?_;unfold wstep;split <;> simp <;> omega
 have:=key l ([],[]);unfold wst
 simpa using this
def KpB (Bs:Nat) (W W':World):Prop:=W'.heap[Bs]? =W.heap[Bs]?
theorem word_eq {s:ByteArray} {k fr:Nat} (hk:k<=s.size) (hsz:s.size<=100000) (h:(wst (s.data.toList.take k)).2.length<=k/\(wst (s.data.toList.take k)).2=(s.data.toList.take k).drop fr):
 s.extract fr k=⟨(((wst (s.data.toList.take k)).2).take 100000).toArray⟩:=by
 rw [List.take_of_length_le (by omega)];apply ByteArray.ext;apply Array.toList_inj.1;rw [Lib.extract_data];show _=(wst (s.data.toList.take k)).2;rw [h.2,List.drop_take]
theorem words1_in (n:Nat) (hn:1<=n) (l Bs:Nat) (s:ByteArray) (hsz:s.size<=100000) (J Jx:List (List UInt8)->World->Prop)
 (hY:∀pre x W,J pre W->pre.length<s.size+1->YieldAt Fence.wide (n-1) Tryz.prog l #[.string ⟨(x.take 100000).toArray⟩] W λ e W'=>(e= .returned (.bool true)/\J (pre++[x]) W'/\KpB Bs W W')\/(e= .returned (.bool false)/\Jx (pre++[x]) W'))
 (W:World) (hBs:W.heap[Bs]? =some (.cells #[.string s] 9)) (h0:J [] W):
 CallsIn Fence.wide n Tryz.prog 202 #[.func (.yield l) #[] #[],.pointer (some ⟨Bs,0,none⟩)] W λ e W'=>(∃v,e= .returned v)/\
  ((∃ys,ys=wds [] s.data.toList/\J ys W')\/(∃pre,(∃k,pre=(wst (s.data.toList.take k)).1)/\Jx pre W')):=by
 have hro:Fence.wide.round=none:=rfl;have HY:Hid _:=hY;have HB:Hid (W.heap[Bs]? =some (.cells #[.string s] 9)):=hBs;have hc:W.cell? ⟨Bs,0,none⟩=some (.string s):=by simp [World.cell?,hBs]
 clear hY hBs;refine callsIn_of_wp Tryz.func202 rfl trivial ?_ hro;simp only [Tryz.ntmps202,List.size_toArray,List.length_cons,List.length_nil,Nat.reduceAdd,Nat.reduceSub,Array.replicate_succ,Array.replicate_zero,List.push_toArray,List.append_toArray,List.nil_append,List.cons_append]
 gi_wp2
 gi_loopw [3,7] (λ s3 s7 wr=>∃k:Nat,k<=s.size/\s7= .int .i64 k/\s3= .int .i64 ((k-(wst (s.data.toList.take k)).2.length:Nat):Int)/\J (wst (s.data.toList.take k)).1 wr/\wr.heap[Bs]? =some (.cells #[.string s] 9))
  (λ _ i _=>s.size-(RowKit.intOf i).toNat)
 case atStart=>exact ⟨0,Nat.zero_le _,rfl,rfl,h0,HB.out⟩
 case round=>
  obtain ⟨k,hk,rfl,rfl,hJ,hbx⟩:=hrel;have HJ:Hid (J (wst (s.data.toList.take k)).1 wr):=hJ;have HX:Hid (wr.heap[Bs]? =some (.cells #[.string s] 9)):=hbx;have hcx:wr.cell? ⟨Bs,0,none⟩=some (.string s):=by simp [World.cell?,hbx]
  have HW:Hid _:=wst_end s.data.toList k (by simpa using hk);generalize hfr:k-(wst (s.data.toList.take k)).2.length=fr at*;have HFR:Hid (k-(wst (s.data.toList.take k)).2.length=fr):=hfr;have hfk:fr<=k:=by omega
  clear hJ hbx hfr;by_cases hlt:k<s.size
  ·have hlt':k<s.data.toList.length:=by simpa using hlt
   have hx:s.data.toList[k]? =some (s[k]'hlt):=by rw [List.getElem?_eq_getElem hlt'];rfl
   have HT:Hid (s.data.toList.take (k+1)=s.data.toList.take k++[s[k]'hlt]):=by
    show _=_;rw [List.take_add_one,hx];rfl
   clear hx hlt';have HS:Hid _:=wst_snoc (s.data.toList.take k) s[k];by_cases hsep:s[k]=32\/s[k]=10
   ·have HSP:Hid (s[k]=32\/s[k]=10):=hsep
    have hex:s.extract fr k=⟨(((wst (s.data.toList.take k)).2).take 100000).toArray⟩:=word_eq hk hsz HW.out;obtain ⟨fn,tmps,assign,body,hy,hR⟩:=HY.out _ (wst (s.data.toList.take k)).2 wr HJ.out (by have:=wst_few (s.data.toList.take k);simp at this;omega);rw [<-hex] at hy;have HR:Hid _:=hR;clear hR hex;have HN:Hid (∀W3,J ((wst (s.data.toList.take k)).1++[(wst (s.data.toList.take k)).2]) W3->J (wst (s.data.toList.take (k+1))).1 W3):=λ W3 h=>by
     rw [HT.out,HS.out];unfold wstep;rw [if_pos HSP.out];exact h
    have HN2:Hid ((wst (s.data.toList.take (k+1))).1=(wst (s.data.toList.take k)).1++[(wst (s.data.toList.take k)).2]):=by
     show _=_;rw [HT.out,HS.out];unfold wstep;rw [if_pos HSP.out]
    have HE:Hid (k+1-(wst (s.data.toList.take (k+1))).2.length=k+1):=by
     show _=_;rw [HT.out,HS.out];unfold wstep;rw [if_pos HSP.out];simp
    clear HT HS HW;have hb:(((s[k]).toNat:Int) != 32)=true/\(((s[k]).toNat:Int) != 10)=false\/(((s[k]).toNat:Int) != 32)=false:=by
     rcases hsep with e | e
     ·exact .inr (by rw [e];decide)
     ·exact .inl ⟨by rw [e];decide,by rw [e];decide⟩
    clear hsep;rcases hb with ⟨hb1,hb2⟩ | hb1
    ·gi_wp2
     refine RoundIn.mono HR.out ?_;rintro e W3 (⟨rfl,hJ3,hk3⟩ | ⟨rfl,hJx3⟩)
     ·have HJ3:Hid (J (wst (s.data.toList.take (k+1))).1 W3):=HN.out _ hJ3
      have HX3:Hid (W3.heap[Bs]? =some (.cells #[.string s] 9)):=hk3.trans HX.out;clear hJ3 hk3
      gi_wp2
      go_roundw;case rel=>exact ⟨k+1,by omega,by go_num,by rw [HE.out];go_num,HJ3.out,HX3.out⟩
      case measure=>simp [RowKit.intOf];omega
     ·gi_wp2
      refine bodyPost_ret (results_none rfl _ _ _) rfl ?_;exact ⟨⟨_,rfl⟩,.inr ⟨_,⟨k+1,HN2.out.symm⟩,hJx3⟩⟩
    ·gi_wp2
     refine RoundIn.mono HR.out ?_;rintro e W3 (⟨rfl,hJ3,hk3⟩ | ⟨rfl,hJx3⟩)
     ·have HJ3:Hid (J (wst (s.data.toList.take (k+1))).1 W3):=HN.out _ hJ3
      have HX3:Hid (W3.heap[Bs]? =some (.cells #[.string s] 9)):=hk3.trans HX.out;clear hJ3 hk3
      gi_wp2
      go_roundw;case rel=>exact ⟨k+1,by omega,by go_num,by rw [HE.out];go_num,HJ3.out,HX3.out⟩
      case measure=>simp [RowKit.intOf];omega
     ·gi_wp2
      refine bodyPost_ret (results_none rfl _ _ _) rfl ?_;exact ⟨⟨_,rfl⟩,.inr ⟨_,⟨k+1,HN2.out.symm⟩,hJx3⟩⟩
   ·have h32:(((s[k]).toNat:Int) != 32)=true:=by
     rw [bne_iff_ne];intro e;exact hsep (.inl (UInt8.toNat_inj.1 (by simpa using Int.ofNat_inj.1 e)))
    have h10:(((s[k]).toNat:Int) != 10)=true:=by
     rw [bne_iff_ne];intro e;exact hsep (.inr (UInt8.toNat_inj.1 (by simpa using Int.ofNat_inj.1 e)))
    have HE:Hid (wst (s.data.toList.take (k+1))=((wst (s.data.toList.take k)).1,(wst (s.data.toList.take k)).2++[s[k]])):=by
     show _=_;rw [HT.out,HS.out];unfold wstep;rw [if_neg hsep]
    clear hsep
    gi_wp2
    go_roundw;case rel=>exact ⟨k+1,by omega,by go_num,by rw [HE.out];simp;have:=HFR.out;omega,by rw [HE.out];exact HJ.out,HX.out⟩
    case measure=>simp [RowKit.intOf];omega
  ·obtain rfl:k=s.size:=by omega
   gi_wp2
   go_end0
   refine ⟨⟨_,rfl⟩,.inl ⟨_,(wst_wds _),?_⟩⟩;have:=HJ.out
   rwa [List.take_of_length_le (by simp)] at this
end Go.Proofs.YtebcjaenhiiflaaGreatDoor.I
namespace Go.Proofs.YtebcjaenhiiflaaGreatDoor.I
open Go.RowKit Go.Shelf Go.WideMaps Go.Maps
attribute [local go_sem] Oper.semAt_some
def rdS (s:List UInt8):Option (Nat × List Int × List G.E):=
 match Lib.atoiAll (Lib.cut s [10]).1 with
 | .ok m=>if 0<=m/\m<=40 then (rdP m.toNat (wds [] (Lib.cut s [10]).2.1)).map λ a=>(m.toNat,a) else none
 | _=>none
theorem words_stops (n:Nat) (hn:1<=n) (Bs:Nat) (s:ByteArray) (hsz:s.size<=100000) (w:World) (hBs:w.heap[Bs]? =some (.cells #[.string s] 9)):
 SeqStopsK Fence.wide n Tryz.prog 202 #[.pointer (some ⟨Bs,0,none⟩)] (λ x:List UInt8=>#[Value.string ⟨(x.take 100000).toArray⟩]) (KpB Bs) (λ ys=>ys=wds [] s.data.toList) (λ pre=>∃k,pre=(wst (s.data.toList.take k)).1) (s.size+1) w:=λ l J Jx W hW _ _ hY h0=>
 words1_in n hn l Bs s hsz J Jx hY W ((hW.block Bs (G.lt_of_some hBs)).trans hBs) h0
theorem words_in (s:ByteArray) (w:World):
 Calls Tryz.prog 103 #[.string s] w λ e w'=>e= .returned (.func (.func 202) #[] #[.pointer (some ⟨w.heap.size,0,none⟩)])/\w'=w.alloc (.cells #[.string s] 9):=by
 go_enter Tryz.func103,Tryz.ntmps103;go_wp2_with fail;go_ret;exact ⟨rfl,rfl⟩
def ReadPost (w:World) (s:ByteArray) (e:Ending) (w':World):Prop:=
 (∃n acc L,rdS s.data.toList=some (n,acc,L)/\∃x p q v R B W T D pw bw pt bt mp N,e= .returned (.tuple #[.pointer (some ⟨x,0,none⟩),.nilIface])/\IAt w w' x p q n v L R B W T D pw bw pt bt mp N)\/
 (rdS s.data.toList=none/\(∃t p,e= .returned (.tuple #[.pointer none,.iface t p]))/\Below w.heap.size w w')
theorem IAt.base {w0 w1 w:World} {x p q n:Nat} {v:Value} {L R B:List G.E} {W T:List Nat} {D:DataW Unit} {pw bw pt bt mp N:Nat} (h:IAt w1 w x p q n v L R B W T D pw bw pt bt mp N) (hb:Below w0.heap.size w0 w1):IAt w0 w x p q n v L R B W T D pw bw pt bt mp N:=by
 have hs:=hb.size;have h1:=h.hx;have h2:=h.hp;have h3:=h.rn.hb;exact {h with gra:=⟨h.gra.hp,G.Owns.mono h.gra.row hs,h.gra.ne⟩,rn:={h.rn with below:=hb.trans (h.rn.below.mono hs),hb:=⟨by omega,by omega,by omega⟩},hx:=by omega,hp:=by omega}
structure Kc (B mp:Nat) (X Y:World):Prop where
 os:Y.os=X.os
 tape:Y.tape=X.tape
 output:Y.output=X.output
 size:X.heap.size<=Y.heap.size
 cells:∀(k:Nat) (c:Array Value) (t:TypeId) (f:Nat × Nat),X.heap[k]? =some (.cells c t f)->Y.heap[k]? =some (.cells c t f)
 low:∀k,k<B->k<X.heap.size->Y.heap[k]? =X.heap[k]?
 map:mp<B
theorem Kc.of {B mp:Nat} {X Y:World} {row:Option Nat} (hg:X.grownBy Y row) (hr:∀r,row=some r->B<=r/\∃o:Obj,X.heap[r]? =some o/\o.isCells=false) (hm:mp<B):Kc B mp X Y:=by
 refine ⟨hg.os,hg.tape,hg.output,hg.size,λ k c t f hk=>?_,λ k hk hk2=>hg.block k hk2 (λ e=>?_),hm⟩
 ·rw [hg.block k (G.lt_of_some hk) (λ e=>?_)]
  ·exact hk
  ·obtain ⟨_,o,ho,hc⟩:=hr k e.symm
   rw [hk] at ho;injection ho with ho
   subst ho;cases hc
 ·have:=(hr k e.symm).1
  omega
theorem Kc.boxed {B mp b t:Nat} {X Y:World} {v:Value} (k:Kc B mp X Y) (h:Boxed X b t v):Boxed Y b t v:=k.cells _ _ _ _ h
theorem Kc.row {B mp base e s n:Nat} {X Y:World} {v:Value} {xs:List Value} (k:Kc B mp X Y) (h:X.ownsRow base e s v n xs):Y.ownsRow base e s v n xs:=by
 refine ⟨h.1,?_⟩;rcases h.2 with h2 | ⟨g,cap,cur,a,b,c,d⟩
 ·exact .inl h2
 ·exact .inr ⟨g,cap,cur,a,b,k.cells _ _ _ _ c,d⟩
theorem IAt.kc {w0 X Y:World} {x p q n C:Nat} {v:Value} {L R B:List G.E} {W T:List Nat} {D:DataW Unit} {pw bw pt bt mp N:Nat} (h:IAt w0 X x p q n v L R B W T D pw bw pt bt mp N) (k:Kc C mp X Y) (hC:w0.heap.size<=C):IAt w0 Y x p q n v L R B W T D pw bw pt bt mp N:=by
 obtain ⟨es,c,hm,F,hs,hD⟩:=h.rn.now.at_.hm;have hb:=h.rn.below;refine {h with ix:=k.cells _ _ _ _ h.ix,gra:=⟨k.cells _ _ _ _ h.gra.hp,k.row h.gra.row,h.gra.ne⟩,rn:={h.rn with now:=⟨⟨k.cells _ _ _ _ h.rn.now.at_.hp,⟨k.cells _ _ _ _ h.rn.now.at_.sw.hp,k.cells _ _ _ _ h.rn.now.at_.sw.hb⟩,⟨k.cells _ _ _ _ h.rn.now.at_.st.hp,k.cells _ _ _ _ h.rn.now.at_.st.hb⟩,⟨es,c,?_,F,hs,hD⟩,h.rn.now.at_.pp,h.rn.now.at_.bb⟩,h.rn.now.st,h.rn.now.dis⟩,below:=?_}}
 ·rw [k.low mp k.map (G.lt_of_some hm)];exact hm
 ·exact ⟨k.os.trans hb.os,k.tape.trans hb.tape,k.output.trans hb.output,Nat.le_trans hb.size k.size,λ j hj=>(k.low j (by omega) (Nat.lt_of_lt_of_le hj hb.size)).trans (hb.block j hj)⟩
end Go.Proofs.YtebcjaenhiiflaaGreatDoor.I
namespace Go.Proofs.YtebcjaenhiiflaaGreatDoor.I
open Go.RowKit Go.Shelf Go.WideMaps Go.Maps
theorem boxed_below {w w':World} {b t:Nat} {v:Value} (h:Boxed w b t v) (hb:Below w.heap.size w w'):Boxed w' b t v:=(hb.block b h.lt).trans h
abbrev short (pre:List (List UInt8)):List (List UInt8):=pre.map (·.take 100000)
structure Fix (w w4 w5 w6:World) (n x p q pw bw pt bt mp:Nat):Prop where
 b4:Below w.heap.size w w4
 s4:w.heap.size+2<=w4.heap.size
 s5:w4.heap.size<=w5.heap.size
 s6:w5.heap.size+3=w6.heap.size
 hbw:bw<w5.heap.size
 hbt:bt<w5.heap.size
 hmp:mp<w5.heap.size
 hn:n<=40
structure RI1 (w w4 w5 w6 W:World) (n x p q pw bw pt bt mp:Nat) (acc:List Int) (L:List G.E) (v:Value) (R B:List G.E) (Wl T:List Nat) (D:DataW Unit) (N:Nat) (u:Value):Prop where
 at_:IAt w4 W x p q n v L R B Wl T D pw bw pt bt mp N
 x2:Boxed W w.heap.size 26 (.pointer none)
 x3:Boxed W (w.heap.size+1) 28 .nilIface
 x9:Boxed W w5.heap.size 26 (.pointer (some ⟨x,0,none⟩))
 x10:Boxed W (w5.heap.size+1) 48 u
 xb:∃s,Boxed W (w5.heap.size+2) 9 s
 row:W.ownsRow w5.heap.size 3 1 u acc.length (acc.map (Value.int .i64))
 size:w6.heap.size<=W.heap.size
 al:acc.length<=2
def RI (w w4 w5 w6:World) (n x p q pw bw pt bt mp:Nat) (pre:List (List UInt8)) (W:World):Prop:=
 ∃acc L v R B Wl T D N u,rdP n (short pre)=some (acc,L)/\RI1 w w4 w5 w6 W n x p q pw bw pt bt mp acc L v R B Wl T D N u
def RX (w:World) (n:Nat) (c:Code) (pre:List (List UInt8)) (W:World):Prop:=
 c= .ret/\rdP n (short pre)=none/\Boxed W w.heap.size 26 (.pointer none)/\(∃t p,Boxed W (w.heap.size+1) 28 (.iface t p))/\Below w.heap.size w W
variable {w w4 w5 w6 W W':World} {n x p q pw bw pt bt mp:Nat} {acc:List Int} {L R B:List G.E} {v u:Value} {Wl T:List Nat} {D:DataW Unit} {N:Nat} {pre:List (List UInt8)}
theorem RI1.kc (f:Fix w w4 w5 w6 n x p q pw bw pt bt mp) (h:RI1 w w4 w5 w6 W n x p q pw bw pt bt mp acc L v R B Wl T D N u) (k:Kc w6.heap.size mp W W'):RI1 w w4 w5 w6 W' n x p q pw bw pt bt mp acc L v R B Wl T D N u:=
 ⟨h.at_.kc k (by have:=f.s5;have:=f.s6;omega),k.boxed h.x2,k.boxed h.x3,k.boxed h.x9,k.boxed h.x10,(let ⟨s,hs⟩:=h.xb;⟨s,k.boxed hs⟩),k.row h.row,Nat.le_trans h.size k.size,h.al⟩
theorem RI1.below' (h:RI1 w w4 w5 w6 W n x p q pw bw pt bt mp acc L v R B Wl T D N u) (hb:Below W.heap.size W W'):RI1 w w4 w5 w6 W' n x p q pw bw pt bt mp acc L v R B Wl T D N u:=
 ⟨h.at_.below' hb,boxed_below h.x2 hb,boxed_below h.x3 hb,boxed_below h.x9 hb,boxed_below h.x10 hb,(let ⟨s,hs⟩:=h.xb;⟨s,boxed_below hs hb⟩),row_keep h.row hb,Nat.le_trans h.size hb.size,h.al⟩
theorem RI1.low (f:Fix w w4 w5 w6 n x p q pw bw pt bt mp) (h:RI1 w w4 w5 w6 W n x p q pw bw pt bt mp acc L v R B Wl T D N u):Below w.heap.size w W:=
 f.b4.trans (h.at_.rn.below.mono f.b4.size)
theorem ri_own (f:Fix w w4 w5 w6 n x p q pw bw pt bt mp):OwnFrom w6.heap.size (RI w w4 w5 w6 n x p q pw bw pt bt mp):=by
 rintro pre X Y row ⟨acc,L,v,R,B,Wl,T,D,N,u,h1,h2⟩ hg hr;exact ⟨acc,L,v,R,B,Wl,T,D,N,u,h1,h2.kc f (Kc.of hg hr (by have:=f.hmp;have:=f.s6;omega))⟩
theorem rx_own (f:Fix w w4 w5 w6 n x p q pw bw pt bt mp) (c:Code):OwnFrom w6.heap.size (RX w n c):=by
 rintro pre X Y row ⟨h1,h2,h3,⟨t,pp,h4⟩,h5⟩ hg hr;have k:Kc w6.heap.size 0 X Y:=Kc.of hg hr (by have:=f.s6;omega);have h6:=f.s4;have h7:=f.s5;have h8:=f.s6;exact ⟨h1,h2,k.boxed h3,⟨t,pp,k.boxed h4⟩,⟨k.os.trans h5.os,k.tape.trans h5.tape,k.output.trans h5.output,Nat.le_trans h5.size k.size,λ j hj=>(k.low j (by omega) (Nat.lt_of_lt_of_le hj h5.size)).trans (h5.block j hj)⟩⟩
theorem keeps_below (hb:Below W.heap.size W W'):KeepsOthers W W':=⟨hb.size,λ k _ hk _=>(hb.block k (G.lt_of_some hk)).trans hk⟩
theorem short_snoc (pre:List (List UInt8)) (y:List UInt8):short (pre++[y])=short pre++[y.take 100000]:=by simp [short]
theorem two_set {w1:World} {b:Nat} {v1 v2:Value} (u1 u2:Value) (h1:Boxed w1 b 26 v1) (h2:Boxed w1 (b+1) 28 v2):Boxed ((w1.setCell ⟨b,0,none⟩ u1).setCell ⟨b+1,0,none⟩ u2) b 26 u1/\Boxed ((w1.setCell ⟨b,0,none⟩ u1).setCell ⟨b+1,0,none⟩ u2) (b+1) 28 u2:=
 ⟨(h1.set u1).other (by omega) u2,(h2.other (by omega) u1).set u2⟩
theorem below_two {w w1:World} (h:Below w.heap.size w w1) (u1 u2:Value):Below w.heap.size w ((w1.setCell ⟨w.heap.size,0,none⟩ u1).setCell ⟨w.heap.size+1,0,none⟩ u2):=
 (h.setCell (p:=⟨w.heap.size,0,none⟩) (Nat.le_refl _) u1).setCell (p:=⟨w.heap.size+1,0,none⟩) (Nat.le_succ _) u2
theorem stepP_bad {s:Option (List Int × List G.E)} {y:List UInt8} (h:∀m,Lib.atoiAll y≠ .ok m):stepP n s y=none:=by
 unfold stepP;split
 ·next he=>exact absurd he (h _)
 ·next he=>exact absurd he (h _)
 ·next he=>exact absurd he (h _)
 ·rfl
theorem ri_bad (f:Fix w w4 w5 w6 n x p q pw bw pt bt mp) (h:RI1 w w4 w5 w6 W n x p q pw bw pt bt mp acc L v R B Wl T D N u) {y:List UInt8} (hb:Below W.heap.size W W') (hno:∀m,Lib.atoiAll (y.take 100000)≠ .ok m) (t:TypeId) (pp:Value):
 KeepsFrom w6.heap.size W ((W'.setCell ⟨w.heap.size,0,none⟩ (.pointer none)).setCell ⟨w.heap.size+1,0,none⟩ (.iface t pp))/\RX w n .ret (pre++[y]) ((W'.setCell ⟨w.heap.size,0,none⟩ (.pointer none)).setCell ⟨w.heap.size+1,0,none⟩ (.iface t pp)):=by
 have h':=h.below' hb;have htw:=two_set (.pointer none) (.iface t pp) h'.x2 h'.x3;refine ⟨(((keeps_below hb).trans (KeepsOthers.setCell _ _ _)).trans (KeepsOthers.setCell _ _ _)).from _,rfl,?_,htw.1,⟨_,_,htw.2⟩,below_two (h'.low f) _ _⟩;rw [short_snoc,rdP_snoc];exact stepP_bad hno
theorem ri_no {i a m:Int} (hr:rdP n (short pre)=some ([i,a],L)) (h2:Boxed W w.heap.size 26 (.pointer none)) (h3:Boxed W (w.heap.size+1) 28 .nilIface) (hl:Below w.heap.size w W) {y:List UInt8} (hy:Lib.atoiAll (y.take 100000)= .ok m) (hno:¬Fits n L i a m) (t:TypeId) (pp:Value):
 RX w n .ret (pre++[y]) ((W.setCell ⟨w.heap.size,0,none⟩ (.pointer none)).setCell ⟨w.heap.size+1,0,none⟩ (.iface t pp)):=by
 have htw:=two_set (.pointer none) (.iface t pp) h2 h3;refine ⟨rfl,?_,htw.1,⟨_,_,htw.2⟩,below_two hl _ _⟩;rw [short_snoc,rdP_snoc,hr];unfold stepP;rw [hy];dsimp only;rw [if_neg hno]
theorem IAt.same {w0 X Y:World} (h:IAt w0 X x p q n v L R B Wl T D pw bw pt bt mp N) (hb:Below w0.heap.size w0 Y) (hk:∀k,k=x\/k=p\/v.ownBlock=some k\/k=q\/k=pw\/k=bw\/k=pt\/k=bt\/k=mp->Y.heap[k]? =X.heap[k]?):IAt w0 Y x p q n v L R B Wl T D pw bw pt bt mp N:=by
 obtain ⟨es,c,hm,F,hs,hD⟩:=h.rn.now.at_.hm;have a:=h.rn.now.at_;refine {h with ix:=(hk x (by simp)).trans h.ix,gra:=⟨(hk p (by simp)).trans h.gra.hp,⟨h.gra.row.1,?_⟩,h.gra.ne⟩,rn:={h.rn with now:=⟨⟨(hk q (by simp)).trans a.hp,⟨(hk pw (by simp)).trans a.sw.hp,(hk bw (by simp)).trans a.sw.hb⟩,⟨(hk pt (by simp)).trans a.st.hp,(hk bt (by simp)).trans a.st.hb⟩,⟨es,c,(hk mp (by simp)).trans hm,F,hs,hD⟩,a.pp,a.bb⟩,h.rn.now.st,h.rn.now.dis⟩,below:=hb}};rcases h.gra.row.2 with h2 | ⟨g,cap,cur,e,b,c2,d⟩
 ·exact .inl h2
 ·refine .inr ⟨g,cap,cur,e,b,(hk g ?_).trans c2,d⟩
  rw [e];simp [Value.ownBlock]
theorem ri_more (f:Fix w w4 w5 w6 n x p q pw bw pt bt mp) (h:RI1 w w4 w5 w6 W n x p q pw bw pt bt mp acc L v R B Wl T D N u) {W1:World} {o:Obj} {m:Int} {u':Value} (hown:W1.ownsRow w5.heap.size 3 1 u' (acc.length+1) (acc.map (Value.int .i64)++[.int .i64 m])) (hg:(W.alloc o).grownBy W1 u.ownBlock):
 Boxed W1 (w5.heap.size+1) 48 u/\KeepsFrom w6.heap.size W (W1.setCell ⟨w5.heap.size+1,0,none⟩ u')/\KpB (w5.heap.size+2) W (W1.setCell ⟨w5.heap.size+1,0,none⟩ u')/\
 IAt w4 (W1.setCell ⟨w5.heap.size+1,0,none⟩ u') x p q n v L R B Wl T D pw bw pt bt mp N/\Boxed (W1.setCell ⟨w5.heap.size+1,0,none⟩ u') w.heap.size 26 (.pointer none)/\Boxed (W1.setCell ⟨w5.heap.size+1,0,none⟩ u') (w.heap.size+1) 28 .nilIface/\Boxed (W1.setCell ⟨w5.heap.size+1,0,none⟩ u') w5.heap.size 26 (.pointer (some ⟨x,0,none⟩))/\
 Boxed (W1.setCell ⟨w5.heap.size+1,0,none⟩ u') (w5.heap.size+1) 48 u'/\(W1.setCell ⟨w5.heap.size+1,0,none⟩ u').ownsRow w5.heap.size 3 1 u' (acc++[m]).length ((acc++[m]).map (Value.int .i64))/\w6.heap.size<=(W1.setCell ⟨w5.heap.size+1,0,none⟩ u').heap.size/\Below w5.heap.size W (W1.setCell ⟨w5.heap.size+1,0,none⟩ u'):=by
 have f4:=f.s4;have f5:=f.s5;have f6:=f.s6;obtain ⟨h1,h2,h3,h4,h5⟩:=h.x10.appended (by decide) h.row (by have:=h.size;omega) (by omega) hown hg;have hkeep:∀k,k<W.heap.size->k≠w5.heap.size+1->(∀cur,W.heap[k]? ≠some (.cells cur 3))\/k<w5.heap.size->(W1.setCell ⟨w5.heap.size+1,0,none⟩ u').heap[k]? =W.heap[k]? :=by
  intro k hk hne hc;rcases hc with hc | hc
  ·rw [Below.heap_setCell _ _ _ k (λ e=>hne e),hg.block k (by simp;omega) ?_,Below.heap_alloc _ _ _ hk]
   intro e;rcases h.row.2 with ⟨rfl,_⟩ | ⟨g,cap,cur,rfl,_,hgb,_⟩
   ·simp [Value.ownBlock] at e
   ·simp [Value.ownBlock] at e
    subst e;exact hc _ hgb
  ·exact h5.block k hc
 have hbx:∀{b t:Nat} {vv:Value},Boxed W b t vv->b≠w5.heap.size+1->t≠3->Boxed (W1.setCell ⟨w5.heap.size+1,0,none⟩ u') b t vv:=by
  intro b t vv hb hne ht;refine (hkeep b hb.lt hne (.inl λ cur e=>?_)).trans hb;have:=(show W.heap[b]? =_ from hb).symm.trans e;simp at this;exact ht this.2
 obtain ⟨s9,hs9⟩:=h.xb;have ha:=h.at_.rn.now.at_;obtain ⟨es,mc,hm⟩:=ha.mobj;have hcell:∀{k t:Nat} {c:Array Value},W.heap[k]? =some (.cells c t)->t≠3->∀cur,W.heap[k]? ≠some (.cells cur 3):=by
  intro k t c hk ht cur e;have:=hk.symm.trans e;simp at this;exact ht this.2
 have h48:∀{k t:Nat} {c:Array Value},W.heap[k]? =some (.cells c t)->t≠48->k≠w5.heap.size+1:=by
  rintro k t c hk ht rfl;have:=hk.symm.trans h.x10;simp at this;exact ht this.2
 have hc1:∀{k t:Nat} {c:Array Value},W.heap[k]? =some (.cells c t)->t≠3->t≠48->(W1.setCell ⟨w5.heap.size+1,0,none⟩ u').heap[k]? =W.heap[k]? :=λ hk h3 h4=>hkeep _ (G.lt_of_some hk) (h48 hk h4) (.inl (hcell hk h3))
 refine ⟨h1,h4.from _,hkeep _ hs9.lt (by omega) (.inl (hcell hs9 (by decide))),h.at_.same ?_ ?_,hbx h.x2 (by omega) (by decide),hbx h.x3 (by omega) (by decide),hbx h.x9 (by omega) (by decide),h2,by simpa using h3,?_,h5⟩
 ·exact h.at_.rn.below.trans (h5.mono f5)
 ·rintro k (rfl | rfl | hk | rfl | rfl | rfl | rfl | rfl | rfl)
  ·exact hc1 h.at_.ix (by decide) (by decide)
  ·exact hc1 h.at_.gra.hp (by decide) (by decide)
  ·obtain ⟨cur,hcur⟩:=own61 h.at_.gra.row hk
   exact hc1 hcur (by decide) (by decide)
  ·exact hc1 ha.hp (by decide) (by decide)
  ·exact hc1 ha.sw.hp (by decide) (by decide)
  ·have:=f.hbw
   exact hkeep _ ha.sw.blt (by omega) (.inr f.hbw)
  ·exact hc1 ha.st.hp (by decide) (by decide)
  ·have:=f.hbt
   exact hkeep _ ha.st.blt (by omega) (.inr f.hbt)
  ·have:=f.hmp
   exact hkeep _ (G.lt_of_some hm) (by omega) (.inr f.hmp)
 ·exact Nat.le_trans h.size h5.size
theorem ri_on (f:Fix w w4 w5 w6 n x p q pw bw pt bt mp) (hr:rdP n (short pre)=some (acc,L)) (h:RI1 w w4 w5 w6 W n x p q pw bw pt bt mp acc L v R B Wl T D N u) {W1:World} {o:Obj} {m:Int} {u':Value} {y:List UInt8} (hy:Lib.atoiAll (y.take 100000)= .ok m) (hacc:acc.length<2)
 (hown:W1.ownsRow w5.heap.size 3 1 u' (acc.length+1) (acc.map (Value.int .i64)++[.int .i64 m])) (hg:(W.alloc o).grownBy W1 u.ownBlock):
 RI w w4 w5 w6 n x p q pw bw pt bt mp (pre++[y]) (W1.setCell ⟨w5.heap.size+1,0,none⟩ u'):=by
 obtain ⟨_,_,hk,h1,h2,h3,h4,h5,h6,h7,_⟩:=ri_more f h hown hg;refine ⟨acc++[m],L,v,R,B,Wl,T,D,N,u',?_,⟨h1,h2,h3,h4,h5,?_,h6,h7,by simp;omega⟩⟩
 ·rw [short_snoc,rdP_snoc,hr]
  unfold stepP;rw [hy]
  match acc,hacc with
  | [],_=>rfl
  | [i],_=>rfl
 ·obtain ⟨s9,hs9⟩:=h.xb
  exact ⟨s9,hk.trans hs9⟩
theorem ik_cells {w0:World} (h:IAt w0 W x p q n v L R B Wl T D pw bw pt bt mp N) (k:Ikp p v.ownBlock bw bt mp W W') {b t:Nat} {c:Array Value} (hb:W.heap[b]? =some (.cells c t)) (h1:t≠168) (h2:t≠61) (h3:t≠3):W'.heap[b]? =some (.cells c t):=by
 have a:=h.rn.now.at_;obtain ⟨es,mc,hm⟩:=a.mobj;rw [k.block b (G.lt_of_some hb) ?_ ?_ ?_ ?_ ?_]
 ·exact hb
 ·rintro rfl
  have:=hb.symm.trans h.gra.hp;simp at this;exact h1 this.2
 ·intro e
  obtain ⟨cur,hc⟩:=own61 h.gra.row e.symm;have:=hb.symm.trans hc;simp at this;exact h2 this.2
 ·rintro rfl
  have:=hb.symm.trans a.sw.hb;simp at this;exact h3 this.2
 ·rintro rfl
  have:=hb.symm.trans a.st.hb;simp at this;exact h3 this.2
 ·rintro rfl
  have:=hb.symm.trans hm;simp at this
theorem ik_keeps (f:Fix w w4 w5 w6 n x p q pw bw pt bt mp) {w0:World} (h:IAt w0 W x p q n v L R B Wl T D pw bw pt bt mp N) (k:Ikp p v.ownBlock bw bt mp W W'):KeepsFrom w6.heap.size W W':=by
 have a:=h.rn.now.at_;have f6:=f.s6;refine ⟨k.size,λ b o hB hb ho=>?_⟩;rw [k.block b (G.lt_of_some hb) ?_ ?_ ?_ ?_ ?_]
 ·exact hb
 ·rintro rfl
  have:=hb.symm.trans h.gra.hp;injection this with this;subst this;cases ho
 ·intro e
  obtain ⟨cur,hc⟩:=own61 h.gra.row e.symm;have:=hb.symm.trans hc;injection this with this;subst this;cases ho
 ·have:=f.hbw;omega
 ·have:=f.hbt;omega
 ·have:=f.hmp;omega
theorem ri_put (f:Fix w w4 w5 w6 n x p q pw bw pt bt mp) {i a m:Int} (hr:rdP n (short pre)=some ([i,a],L)) {y:List UInt8} (hy:Lib.atoiAll (y.take 100000)= .ok m) (hf:Fits n L i a m) {V:World} {L' R' B':List G.E} {W2 T2:List Nat} {D2:DataW Unit} {N2:Nat} {v2 u' s9:Value}
 (h:IAt w4 W x p q n v L R B Wl T D pw bw pt bt mp N) (hL:L'=G.putE L (edg i a m)) (h2:IAt w4 V x p q n v2 L' R' B' W2 T2 D2 pw bw pt bt mp N2) (k:Ikp p v.ownBlock bw bt mp W V)
 (x2:Boxed W w.heap.size 26 (.pointer none)) (x3:Boxed W (w.heap.size+1) 28 .nilIface) (x9:Boxed W w5.heap.size 26 (.pointer (some ⟨x,0,none⟩))) (x10:Boxed W (w5.heap.size+1) 48 u') (xb:Boxed W (w5.heap.size+2) 9 s9) (hs:w6.heap.size<=W.heap.size):
 RI w w4 w5 w6 n x p q pw bw pt bt mp (pre++[y]) (V.setCell ⟨w5.heap.size+1,0,none⟩ (.slice none 0 0))/\KeepsFrom w6.heap.size W (V.setCell ⟨w5.heap.size+1,0,none⟩ (.slice none 0 0))/\KpB (w5.heap.size+2) W (V.setCell ⟨w5.heap.size+1,0,none⟩ (.slice none 0 0)):=by
 have f4:=f.s4;have f5:=f.s5;have f6:=f.s6;have y2:Boxed V w.heap.size 26 (.pointer none):=ik_cells h k x2 (by decide) (by decide) (by decide);have y3:Boxed V (w.heap.size+1) 28 .nilIface:=ik_cells h k x3 (by decide) (by decide) (by decide);have y9:Boxed V w5.heap.size 26 (.pointer (some ⟨x,0,none⟩)):=ik_cells h k x9 (by decide) (by decide) (by decide);have y10:Boxed V (w5.heap.size+1) 48 u':=ik_cells h k x10 (by decide) (by decide) (by decide);have yb:Boxed V (w5.heap.size+2) 9 s9:=ik_cells h k xb (by decide) (by decide) (by decide);have hset:∀b,b≠w5.heap.size+1->(V.setCell ⟨w5.heap.size+1,0,none⟩ (.slice none 0 0)).heap[b]? =V.heap[b]? :=λ b hb=>Below.heap_setCell _ _ _ b (λ e=>hb e)
 have ha:=h2.rn.now.at_;obtain ⟨es,mc,hm⟩:=ha.mobj;have h48:∀{b t:Nat} {c:Array Value},V.heap[b]? =some (.cells c t)->t≠48->b≠w5.heap.size+1:=by
  rintro b t c hb ht rfl;have:=hb.symm.trans y10;simp at this;exact ht this.2
 refine ⟨⟨[],L',v2,R',B',W2,T2,D2,N2,.slice none 0 0,?_,⟨h2.same ?_ ?_,?_,?_,?_,y10.set _,⟨s9,?_⟩,World.ownsRow_nil _ _ _ _,?_,by simp⟩⟩,(ik_keeps f h k).trans ((KeepsOthers.setCell _ _ _).from _),?_⟩
 ·rw [short_snoc,rdP_snoc,hr]
  unfold stepP;rw [hy];dsimp only;rw [if_pos hf,hL]
 ·exact h2.rn.below.setCell (p:=⟨w5.heap.size+1,0,none⟩) (by show w4.heap.size<=w5.heap.size+1;omega) _
 ·rintro b (rfl | rfl | hk | rfl | rfl | rfl | rfl | rfl | rfl)
  ·exact hset _ (h48 h2.ix (by decide))
  ·exact hset _ (h48 h2.gra.hp (by decide))
  ·obtain ⟨cur,hcur⟩:=own61 h2.gra.row hk
   exact hset _ (h48 hcur (by decide))
  ·exact hset _ (h48 ha.hp (by decide))
  ·exact hset _ (h48 ha.sw.hp (by decide))
  ·exact hset _ (h48 ha.sw.hb (by decide))
  ·exact hset _ (h48 ha.st.hp (by decide))
  ·exact hset _ (h48 ha.st.hb (by decide))
  ·have:=f.hmp
   exact hset _ (by omega)
 ·exact y2.other (by omega) _
 ·exact y3.other (by omega) _
 ·exact y9.other (by omega) _
 ·exact yb.other (by omega) _
 ·exact Nat.le_trans hs (Nat.le_trans k.size (KeepsOthers.setCell V ⟨w5.heap.size+1,0,none⟩ (.slice none 0 0)).size)
 ·exact (hset _ (by omega)).trans (yb.trans xb.symm)
end Go.Proofs.YtebcjaenhiiflaaGreatDoor.I
namespace Go.Proofs.YtebcjaenhiiflaaGreatDoor.I
open Go.RowKit Go.Shelf Go.WideMaps Go.Maps
attribute [local go_sem] Oper.semAt_some
theorem cut_small {l hd rs:List UInt8} {mr:Bool} (h:Lib.cut l [10]=(hd,rs,mr)) (hl:l.length<=100000):hd.length<=100000/\rs.length<=100000:=by
 unfold Lib.cut at h;split at h <;> injection h with h1 h2 <;> injection h2 with h2 h3 <;> subst h1 <;> subst h2 <;> simp <;> omega
theorem res46 {W:World} {b:Nat} {u1 u2:Value} (c1:W.cell? ⟨b,0,none⟩=some u1) (c2:W.cell? ⟨b+1,0,none⟩=some u2) {tmps:Array Value} (e2:tmps[2]? =some (.pointer (some ⟨b,0,none⟩))) (e3:tmps[3]? =some (.pointer (some ⟨b+1,0,none⟩))):
 (results Tryz.f46 tmps).run Tryz.prog W= .ok (.tuple #[u1,u2]) W:=by
 simp [results,Tryz.f46,go_sem,c1,c2,e2,e3]
def noDefer (ops:Array Oper):Bool:=ops.toList.all λ o=>match o.op with | .defer _=>false | _=>true
theorem noDefer_spec {ops:Array Oper} (h:noDefer ops=true) (i:Nat) (o:Oper) (ho:ops[i]? =some o):∀c,o.op≠ .defer c:=by
 intro c e;have:=List.all_eq_true.1 h o (by rw [<-Array.mem_def];exact Array.mem_of_getElem? ho);rw [e] at this;cases this
theorem kpb_below {bs:Nat} {X Y Z:World} (hb:Below X.heap.size X Y) (hlt:bs<X.heap.size) (h:KpB bs Y Z):KpB bs X Z:=Eq.trans h (hb.block bs hlt)
theorem cellb {X Y:World} {a:Addr} {v:Value} (hb:Below X.heap.size X Y) (h:X.cell? a=some v):Y.cell? a=some v:=(hb.cell (World.block_lt_of_cell? X a h)).trans h
theorem info3:(Tryz.prog.info? 3).map (λ i=>(i.zero,i.size,i.bytes))=some (some (.int .i64 0),1,8):=by kernel_rfl
theorem wds_len:∀{l acc y:List UInt8},y∈wds acc l->y.length<=acc.length+l.length
 | [],_,_,h=>by simp [wds] at h
 | c::l,acc,y,h=>by
   rw [wds] at h;split at h
   ·rcases List.mem_cons.1 h with rfl | h
    ·rw [List.length_cons];omega
    ·have:=wds_len h
     rw [List.length_nil] at this;rw [List.length_cons];omega
   ·have:=wds_len h
    rw [List.length_append,List.length_singleton] at this;rw [List.length_cons];omega
theorem short_words {rs:List UInt8} (h:rs.length<=100000):short (wds [] rs)=wds [] rs:=by
 unfold short;conv=>rhs;rw [<-List.map_id (wds [] rs)]
 refine List.map_congr_left (λ y hy=>?_);have:=wds_len hy;exact List.take_of_length_le (by simp at this;omega)
theorem rdP_stop {n k:Nat} {rs:List UInt8} (h:rs.length<=100000) (hn:rdP n (short (wst (rs.take k)).1)=none):rdP n (wds [] rs)=none:=by
 have e1:wds [] rs=(wst (rs.take k)).1++wds (wst (rs.take k)).2 (rs.drop k):=by
  rw [<-wst_wds,<-wst_fold];unfold wst;rw [<-List.foldl_append,List.take_append_drop]
 rw [<-short_words h,e1];unfold short at hn ⊢;rw [List.map_append];unfold rdP at hn ⊢;rw [List.foldl_append,hn];exact rdP_none _
theorem ri_end {w w4 w5 w6 W:World} {n x p q pw bw pt bt mp:Nat} {acc:List Int} {L R B:List G.E} {v u:Value} {Wl T:List Nat} {D:DataW Unit} {N D9:Nat} (f:Fix w w4 w5 w6 n x p q pw bw pt bt mp) (h:RI1 w w4 w5 w6 W n x p q pw bw pt bt mp acc L v R B Wl T D N u) {u1 u2:Value}
 (hK:((W.setCell ⟨w.heap.size,0,none⟩ u1).setCell ⟨w.heap.size+1,0,none⟩ u2).heap[D9]? =some (.deferred (some []))) (hD:w6.heap.size<=D9):
 IAt w (((W.setCell ⟨w.heap.size,0,none⟩ u1).setCell ⟨w.heap.size+1,0,none⟩ u2).putObj D9 (.deferred none)) x p q n v L R B Wl T D pw bw pt bt mp N:=by
 have f4:=f.s4;have f5:=f.s5;have f6:=f.s6;have hb:=below_two (h.low f) u1 u2;have ha:=h.at_.rn.now.at_;obtain ⟨es,mc,hm⟩:=ha.mobj;have hset:∀{b t:Nat} {c:Array Value},W.heap[b]? =some (.cells c t)->t≠26->t≠28->(((W.setCell ⟨w.heap.size,0,none⟩ u1).setCell ⟨w.heap.size+1,0,none⟩ u2).putObj D9 (.deferred none)).heap[b]? =W.heap[b]? :=by
  intro b t c hc h1 h2;have n1:b≠w.heap.size:=by
   rintro rfl;have:=hc.symm.trans h.x2;simp at this;exact h1 this.2
  have n2:b≠w.heap.size+1:=by
   rintro rfl;have:=hc.symm.trans h.x3;simp at this;exact h2 this.2
  have e:((W.setCell ⟨w.heap.size,0,none⟩ u1).setCell ⟨w.heap.size+1,0,none⟩ u2).heap[b]? =W.heap[b]? :=(Below.heap_setCell _ _ _ b (λ e=>n2 e)).trans (Below.heap_setCell _ _ _ b (λ e=>n1 e));rw [World.putObj_heap_other (λ e'=>?_)]
  ·exact e
  ·subst e'
   rw [hK] at e;have:=e.trans hc;simp at this
 refine (h.at_.base f.b4).same ?_ ?_
 ·exact hb.grown (grownBy_putObj' _ D9 (.deferred none)) hb.size (λ j e=>by cases e;omega)
 ·rintro b (rfl | rfl | hk | rfl | rfl | rfl | rfl | rfl | rfl)
  ·exact hset h.at_.ix (by decide) (by decide)
  ·exact hset h.at_.gra.hp (by decide) (by decide)
  ·obtain ⟨cur,hcur⟩:=own61 h.at_.gra.row hk
   exact hset hcur (by decide) (by decide)
  ·exact hset ha.hp (by decide) (by decide)
  ·exact hset ha.sw.hp (by decide) (by decide)
  ·exact hset ha.sw.hb (by decide) (by decide)
  ·exact hset ha.st.hp (by decide) (by decide)
  ·exact hset ha.st.hb (by decide) (by decide)
  ·have h1:=f.hmp
   have h2:=h.at_.rn.hb.2.2;rw [World.putObj_heap_other (by omega),Below.heap_setCell _ _ _ b (λ e=>?_),Below.heap_setCell _ _ _ b (λ e=>?_)]
   ·have e':b=w.heap.size:=e
    omega
   ·have e':b=w.heap.size+1:=e
    omega
theorem read_any (s:ByteArray) (w:World) (hs:s.size<=100000) (hv:Vars w):Calls Tryz.prog 46 #[.string s] w (ReadPost w s):=by
 have HV:Hid (Vars w):=hv;have hro:Fence.wide.round=none:=rfl;refine (callsIn_wide (n:=5)).1 ?_;refine callsIn_of_wp_marks Tryz.func46 rfl trivial ?_ hro;simp only [Tryz.ntmps46,List.size_toArray,List.length_cons,List.length_nil,Nat.reduceAdd,Nat.reduceSub,Array.replicate_succ,Array.replicate_zero,List.push_toArray,List.append_toArray,List.nil_append,List.cons_append];obtain ⟨w2,hw2⟩:∃w2,(w.alloc (.cells #[.pointer none] 26)).alloc (.cells #[.nilIface] 28)=w2:=⟨_,rfl⟩;have HW2:Hid ((w.alloc (.cells #[.pointer none] 26)).alloc (.cells #[.nilIface] 28)=w2):=hw2;have HB2:Hid (Below w.heap.size w w2):=by rw [<-hw2];exact ((Below.refl _ w).alloc (Nat.le_refl _) _).alloc (by simp) _
 have HX2:Hid (Boxed w2 w.heap.size 26 (.pointer none)/\Boxed w2 (w.heap.size+1) 28 .nilIface):=by
  rw [<-hw2];exact ⟨(Boxed.new w 26 _).alloc _,by have:=Boxed.new (w.alloc (.cells #[.pointer none] 26)) 28 .nilIface;rwa [World.size_alloc] at this⟩
 clear hw2 hv;obtain ⟨hd,rs,mr,hcut⟩:∃hd rs mr,Lib.cut s.data.toList [10]=(hd,rs,mr):=⟨_,_,_,rfl⟩;have HCE:Hid (Lib.cut s.data.toList [10]=(hd,rs,mr)):=hcut;have HCU:Hid (Calls Tryz.prog 101 #[.string s,.string ⟨#[10]⟩] w2 λ e w'=>e= .returned (.tuple #[.string ⟨hd.toArray⟩,.string ⟨rs.toArray⟩,.bool mr])/\Below w2.heap.size w2 w'):=by
  have:=cut_any s ⟨#[10]⟩ w2 hs (HV.out.below HB2.out);rw [show ((⟨#[10]⟩:ByteArray).data.toList)=[10] from rfl,hcut] at this;exact this
 have hlen:hd.length<=100000/\rs.length<=100000:=cut_small hcut (by simpa using hs);have HLN:Hid (hd.length<=100000/\rs.length<=100000):=hlen;clear hcut hlen
 gi_wp2_with fail
 refine ⟨trivial,?_⟩;rw [HW2.out];refine CallsIn.mono (callsIn_wide.2 HCU.out) ?_;rintro e w3 ⟨rfl,hb3⟩;have HB3:Hid (Below w.heap.size w w3):=HB2.out.trans (hb3.mono HB2.out.size);have HX3:Hid (Boxed w3 w.heap.size 26 (.pointer none)/\Boxed w3 (w.heap.size+1) 28 .nilIface):=⟨boxed_below HX2.out.1 hb3,boxed_below HX2.out.2 hb3⟩;have HAT:Hid _:=atoi_any ⟨hd.toArray⟩ w3 HLN.out.1 (HV.out.below HB3.out);clear hb3 HCU HW2 HB2 HX2
 gi_wp2_with fail
 refine ⟨trivial,?_⟩;refine CallsIn.mono (callsIn_wide.2 HAT.out) ?_;rintro e w4 ⟨hat,hb4⟩;have HB4:Hid (Below w.heap.size w w4):=HB3.out.trans (hb4.mono HB3.out.size);have HX4:Hid (Boxed w4 w.heap.size 26 (.pointer none)/\Boxed w4 (w.heap.size+1) 28 .nilIface):=⟨boxed_below HX3.out.1 hb4,boxed_below HX3.out.2 hb4⟩;clear hb4 HAT HB3 HX3;rcases hat with ⟨m,hm,rfl⟩ | ⟨hno,v,t,pp,rfl⟩
 ·have HM:Hid (Lib.atoiAll hd= .ok m):=hm
  clear hm;by_cases hr:0<=m/\m<=40
  ·obtain ⟨n,rfl⟩:=Int.eq_ofNat_of_zero_le hr.1
   have HNN:Hid (n<=40):=by show n<=40;omega
   have HN:Hid _:=inew_in n w4 HNN.out;clear hr
   gi_wp2_with fail
   refine ⟨trivial,?_⟩;refine CallsIn.mono (callsIn_wide.2 HN.out) ?_;rintro e w5 ⟨x,p,q,v,B,Wl,Tl,D,pw,bw,pt,bt,mp,N,rfl,hI5⟩;have HI5:Hid (IAt w4 w5 x p q n v [] [] B Wl Tl D pw bw pt bt mp N):=hI5;clear hI5 HN
   gi_wp2_with fail
   refine ⟨trivial,?_⟩;refine CallsIn.mono (callsIn_wide.2 (words_in _ _)) ?_;rintro e w6 ⟨rfl,hw6⟩;rw [World.size_alloc,World.size_alloc];have HW6:Hid (w6=((w5.alloc (.cells #[.pointer (some ⟨x,0,none⟩)] 26)).alloc (.cells #[.slice none 0 0] 48)).alloc (.cells #[.string ⟨rs.toArray⟩] 9)):=hw6;clear hw6;have HFX:Hid (Fix w w4 w5 w6 n x p q pw bw pt bt mp):=by
    have h1:=HI5.out.rn.now.at_;obtain ⟨es,mc,hm⟩:=h1.mobj;exact ⟨HB4.out,by have:=HX4.out.2.lt;omega,HI5.out.rn.below.size,by rw [HW6.out];simp,h1.sw.blt,h1.st.blt,G.lt_of_some hm,HNN.out⟩
   have HI6:Hid (RI w w4 w5 w6 n x p q pw bw pt bt mp [] w6/\Boxed w6 (w5.heap.size+1+1) 9 (.string ⟨rs.toArray⟩)):=by
    have hb5:Below w5.heap.size w5 w6:=by rw [HW6.out];exact (((Below.refl _ w5).alloc (Nat.le_refl _) _).alloc (by simp) _).alloc (by simp;omega) _
    have y2:Boxed w5 w.heap.size 26 (.pointer none):=boxed_below HX4.out.1 HI5.out.rn.below;have y3:Boxed w5 (w.heap.size+1) 28 .nilIface:=boxed_below HX4.out.2 HI5.out.rn.below;have z9:Boxed w6 w5.heap.size 26 (.pointer (some ⟨x,0,none⟩)):=by rw [HW6.out];exact ((Boxed.new w5 26 _).alloc _).alloc _
    have z10:Boxed w6 (w5.heap.size+1) 48 (.slice none 0 0):=by
     rw [HW6.out];have:=Boxed.new (w5.alloc (.cells #[.pointer (some ⟨x,0,none⟩)] 26)) 48 (.slice none 0 0);rw [World.size_alloc] at this;exact this.alloc _
    have zb:Boxed w6 (w5.heap.size+1+1) 9 (.string ⟨rs.toArray⟩):=by
     rw [HW6.out];have:=Boxed.new ((w5.alloc (.cells #[.pointer (some ⟨x,0,none⟩)] 26)).alloc (.cells #[.slice none 0 0] 48)) 9 (.string ⟨rs.toArray⟩);rw [World.size_alloc,World.size_alloc] at this;exact this
    exact ⟨⟨[],[],v,[],B,Wl,Tl,D,N,.slice none 0 0,rfl,⟨HI5.out.below' hb5,boxed_below y2 hb5,boxed_below y3 hb5,z9,z10,⟨_,zb⟩,World.ownsRow_nil _ _ _ _,Nat.le_refl _,by simp⟩⟩,zb⟩
   clear HI5 HX4 HW6
   gi_wp2_with fail
   refine wpIn_rangeFunc_ownG hro (by decide) (gf:=202) (lb:=#[.pointer (some ⟨w5.heap.size+1+1,0,none⟩)]) rfl trivial (enters_of Tryz.func202 (by kernel_rfl) rfl)
    (words_stops 4 (by decide) (w5.heap.size+1+1) ⟨rs.toArray⟩ HLN.out.2 w6 HI6.out.2) (λ h k=>k.trans h) ?hKb (Below.refl _ _) (λ _=>rfl)
    (RI w w4 w5 w6 n x p q pw bw pt bt mp) (RX w n) (ri_own HFX.out) (rx_own HFX.out) HI6.out.1
    (λ y=>{tmps:=#[.string s,undef,.pointer (some ⟨w.heap.size,0,none⟩),.pointer (some ⟨w.heap.size+1,0,none⟩),.string ⟨hd.toArray⟩,.string ⟨rs.toArray⟩,.bool mr,.int .i64 (n:Int),.nilIface,.pointer (some ⟨w5.heap.size,0,none⟩),.pointer (some ⟨w5.heap.size+1,0,none⟩),.string ⟨(y.take 100000).toArray⟩,undef,undef,undef,undef,
      .tuple #[.string ⟨hd.toArray⟩,.string ⟨rs.toArray⟩,.bool mr],.string s,.tuple #[.string ⟨hd.toArray⟩,.string ⟨rs.toArray⟩,.bool mr],.string ⟨hd.toArray⟩,.string ⟨rs.toArray⟩,.bool mr,.tuple #[.int .i64 (n:Int),.nilIface],.string ⟨hd.toArray⟩,.tuple #[.int .i64 (n:Int),.nilIface],.int .i64 (n:Int),.nilIface,.nilIface,.bool false,undef,
      .tuple #[.pointer (some ⟨x,0,none⟩),.nilIface],.int .i64 (n:Int),.tuple #[.pointer (some ⟨x,0,none⟩),.nilIface],.pointer (some ⟨x,0,none⟩),.nilIface,.nilIface,.bool false,undef,.string ⟨rs.toArray⟩,.func (.func 202) #[] #[.pointer (some ⟨w5.heap.size+1+1,0,none⟩)],.string ⟨(y.take 100000).toArray⟩,
      undef,undef,undef,undef,undef,undef,undef,undef,undef,undef,undef,undef,undef,undef,undef,undef,undef,undef,undef,undef,undef,undef,undef,undef,undef,undef,undef,undef,undef,undef,undef,undef,undef],defers:=[]}) ?assign ?body ?done ?stop
   case hKb=>
    intro W1 l o o' hl h0 _ _;exact World.putObj_heap_other (by have:=HFX.out.s6;omega)
   case assign=>
    intro l y W1 K hK
    gi_wp2
    exact hK
   case body=>
    rintro l pre y W1 ⟨acc,L,v1,R1,B1,Wl1,T1,D1,N1,u1,hrd,hri⟩ _;have HRI:Hid (RI1 w w4 w5 w6 W1 n x p q pw bw pt bt mp acc L v1 R1 B1 Wl1 T1 D1 N1 u1):=hri;have HRD:Hid (rdP n (short pre)=some (acc,L)):=hrd;have HAT:Hid _:=atoi_any ⟨(y.take 100000).toArray⟩ W1 (by show (y.take 100000).length<=100000;rw [List.length_take];omega) (HV.out.below (hri.low HFX.out));clear hrd hri
    gi_wp2_with fail
    refine ⟨trivial,?_⟩;refine CallsIn.mono (CallsIn.inRound l (callsIn_wide.2 HAT.out)) ?_;rintro e W2 ⟨hat,hb2⟩;have HB2:Hid (Below W1.heap.size W1 W2):=hb2;clear hb2 HAT;rcases hat with ⟨m,hm,rfl⟩ | ⟨hno,v9,t,pp,rfl⟩
    ·have HY:Hid (Lib.atoiAll (y.take 100000)= .ok m):=hm
     clear hm;have HR2:Hid (RI1 w w4 w5 w6 W2 n x p q pw bw pt bt mp acc L v1 R1 B1 Wl1 T1 D1 N1 u1):=HRI.out.below' HB2.out;have c10:=HR2.out.x10.cell;have f10:=HR2.out.x10.frozen;obtain ⟨i0,hi,hz0,hz1,hz2⟩:=info_parts info3;have hrow:=HR2.out.row;have hal:=HR2.out.al;have hsz:=HR2.out.size;have hs6:=HFX.out.s6
     match acc,hal,HR2,HRD,hrow with
     | [],_,HR2,HRD,hrow=>
       gi_wp2_with (gi_at_builtin;refine wpListIn_append_own _ rfl _ _ 48 rfl w5.heap.size 3 i0 (.int .i64 0) 1 8 Tryz.underlying48 hi hz0 hz1 hz2 rfl (by decide) _ _ _ rfl (hrow.alloc _) ⟨W2.heap.size,0,none⟩ 1 1 [.int .i64 m] rfl rfl (cell_one_new _ _ _) (by simp [Value.oneCell']) (by unfold maxLen;omega) (by omega) (by simp;omega) ?_;intro u2 W3 hown hgrow _;obtain ⟨g2,cap2,rfl⟩:=ownsRow_succ hown;have hmo:=(ri_more HFX.out HR2.out hown hgrow).1;have hc3:=hmo.cell;have hf3:=hmo.frozen)
       have hm:=ri_more HFX.out HR2.out hown hgrow;exact ⟨((keeps_below HB2.out).from _).trans hm.2.1,kpb_below HB2.out (by have:=HRI.out.size;omega) hm.2.2.1,ri_on HFX.out HRD.out HR2.out HY.out (by simp) hown hgrow⟩
     | [i],_,HR2,HRD,hrow=>
       gi_wp2_with (gi_at_builtin;refine wpListIn_append_own _ rfl _ _ 48 rfl w5.heap.size 3 i0 (.int .i64 0) 1 8 Tryz.underlying48 hi hz0 hz1 hz2 rfl (by decide) _ _ _ rfl (hrow.alloc _) ⟨W2.heap.size,0,none⟩ 1 1 [.int .i64 m] rfl rfl (cell_one_new _ _ _) (by simp [Value.oneCell']) (by unfold maxLen;omega) (by omega) (by simp;omega) ?_;intro u2 W3 hown hgrow _;obtain ⟨g2,cap2,rfl⟩:=ownsRow_succ hown;have hmo:=(ri_more HFX.out HR2.out hown hgrow).1;have hc3:=hmo.cell;have hf3:=hmo.frozen)
       have hm:=ri_more HFX.out HR2.out hown hgrow;exact ⟨((keeps_below HB2.out).from _).trans hm.2.1,kpb_below HB2.out (by have:=HRI.out.size;omega) hm.2.2.1,ri_on HFX.out HRD.out HR2.out HY.out (by simp) hown hgrow⟩
     | [i,a],_,HR2,HRD,hrow=>
       gi_wp2_with (gi_at_builtin;refine wpListIn_append_own _ rfl _ _ 48 rfl w5.heap.size 3 i0 (.int .i64 0) 1 8 Tryz.underlying48 hi hz0 hz1 hz2 rfl (by decide) _ _ _ rfl (hrow.alloc _) ⟨W2.heap.size,0,none⟩ 1 1 [.int .i64 m] rfl rfl (cell_one_new _ _ _) (by simp [Value.oneCell']) (by unfold maxLen;omega) (by omega) (by simp;omega) ?_;intro u2 W3 hown hgrow _;obtain ⟨g2,cap2,rfl⟩:=ownsRow_succ hown;have hmo:=(ri_more HFX.out HR2.out hown hgrow).1;have hc3:=hmo.cell;have hf3:=hmo.frozen)
       have HMO:Hid _:=ri_more HFX.out HR2.out hown hgrow;generalize W3.setCell ⟨w5.heap.size+1,0,none⟩ (.slice (some ⟨g2,0,none⟩) ([i,a].length+1) cap2)=V at HMO ⊢;have hV:=HMO.out;have HS0:Hid (V.drew.cell? ⟨w5.heap.size,0,none⟩=some (.pointer (some ⟨x,0,none⟩))/\V.drew.cell? ⟨w5.heap.size+1,0,none⟩=some (.slice (some ⟨g2,0,none⟩) 3 cap2)/\V.drew.cell? ⟨g2,0,none⟩=some (.int .i64 i)/\V.drew.cell? ⟨g2,1,none⟩=some (.int .i64 a)/\V.drew.cell? ⟨g2,2,none⟩=some (.int .i64 m)):=by
        have hr:=hV.2.2.2.2.2.2.2.2.1;have e0:=World.ownsRow.cells hr rfl 0 _ rfl;have e1:=World.ownsRow.cells hr rfl 1 _ rfl;have e2:=World.ownsRow.cells hr rfl 2 _ rfl;rw [G.addr0_add] at e0 e1 e2;exact ⟨hV.2.2.2.2.2.2.1.cell,hV.2.2.2.2.2.2.2.1.cell,e0,e1,e2⟩
       clear hV;have hgb:w5.heap.size<=g2:=(World.ownsRow.lt HMO.out.2.2.2.2.2.2.2.2.1 g2 rfl).1;by_cases hF:Fits n L i a m
       ·obtain ⟨a,rfl⟩:=Int.eq_ofNat_of_zero_le hF.2.1.1
        obtain ⟨m,rfl⟩:=Int.eq_ofNat_of_zero_le hF.2.2.1.1;have HAD:Hid _:=iadd_ok i a m V.drew (HMO.out.2.2.2.1.below' (Below.refl _ _).drew) hF;refine region_round (S:=(λ w'=>w'.cell? ⟨w5.heap.size,0,none⟩=some (.pointer (some ⟨x,0,none⟩))/\w'.cell? ⟨w5.heap.size+1,0,none⟩=some (.slice (some ⟨g2,0,none⟩) 3 cap2)/\w'.cell? ⟨g2,0,none⟩=some (.int .i64 i)/\w'.cell? ⟨g2,1,none⟩=some (.int .i64 (a:Int))/\w'.cell? ⟨g2,2,none⟩=some (.int .i64 (m:Int)))) (by kernel_rfl) (noDefer_spec (by kernel_rfl)) (λ ⟨_,_,h⟩=>h) ?_ (λ hHeld=>?_)
        ·exact HS0.out
        refine wpAnyH_take (i:=0) (v:=?_) rfl (by kernel_rfl) (by kernel_rfl) (by kernel_rfl) (λ _ _ _ h=>h) (Or.inl ⟨by rfl,?_⟩) (by assumption) ?_;rotate_left
        ·intro w hSw
         try dsimp only at hSw
         first | (go_simp;done) | (go_simp;with_reducible rfl)
        try simp only [Act.put]
        refine wpAnyH_take (i:=1) (v:=?_) rfl (by kernel_rfl) (by kernel_rfl) (by kernel_rfl) (λ _ _ _ h=>h) (Or.inl ⟨by rfl,?_⟩) (by assumption) ?_;rotate_left
        ·intro w hSw
         try dsimp only at hSw
         first | (go_simp;done) | (go_simp;with_reducible rfl)
        try simp only [Act.put]
        refine wpAnyH_take (i:=2) (v:=?_) rfl (by kernel_rfl) (by kernel_rfl) (by kernel_rfl) (λ _ _ _ h=>h) (Or.inl ⟨by rfl,?_⟩) (by assumption) ?_;rotate_left
        ·intro w hSw
         try dsimp only at hSw
         first | (go_simp;done) | (go_simp;with_reducible rfl)
        try simp only [Act.put]
        refine wpAnyH_take (i:=3) (v:=?_) rfl (by kernel_rfl) (by kernel_rfl) (by kernel_rfl) (λ _ _ _ h=>h) (Or.inl ⟨by rfl,?_⟩) (by assumption) ?_;rotate_left
        ·intro w hSw
         try dsimp only at hSw
         first | (go_simp;done) | (go_simp;with_reducible rfl)
        try simp only [Act.put]
        refine wpAnyH_take (i:=4) (v:=?_) rfl (by kernel_rfl) (by kernel_rfl) (by kernel_rfl) (λ _ _ _ h=>h) (Or.inl ⟨by rfl,?_⟩) (by assumption) ?_;rotate_left
        ·intro w hSw
         try dsimp only at hSw
         first | (go_simp;done) | (go_simp;with_reducible rfl)
        try simp only [Act.put]
        refine wpAnyH_take (i:=5) (v:=?_) rfl (by kernel_rfl) (by kernel_rfl) (by kernel_rfl) (λ _ _ _ h=>h) (Or.inl ⟨by rfl,?_⟩) (by assumption) ?_;rotate_left
        ·intro w hSw
         try dsimp only at hSw
         first | (go_simp;done) | (go_simp;with_reducible rfl)
        try simp only [Act.put]
        refine wpAnyH_take (i:=6) (v:=?_) rfl (by kernel_rfl) (by kernel_rfl) (by kernel_rfl) (λ _ _ _ h=>h) (Or.inl ⟨by rfl,?_⟩) (by assumption) ?_;rotate_left
        ·intro w hSw
         try dsimp only at hSw
         first | (go_simp;done) | (go_simp;with_reducible rfl)
        try simp only [Act.put]
        refine wpAnyH_take (i:=7) (v:=?_) rfl (by kernel_rfl) (by kernel_rfl) (by kernel_rfl) (λ _ _ _ h=>h) (Or.inl ⟨by rfl,?_⟩) (by assumption) ?_;rotate_left
        ·intro w hSw
         try dsimp only at hSw
         first | (go_simp;done) | (go_simp;with_reducible rfl)
        try simp only [Act.put]
        refine wpAnyH_take (i:=8) (v:=?_) rfl (by kernel_rfl) (by kernel_rfl) (by kernel_rfl) (λ _ _ _ h=>h) (Or.inl ⟨by rfl,?_⟩) (by assumption) ?_;rotate_left
        ·intro w hSw
         try dsimp only at hSw
         first | (go_simp;done) | (go_simp;with_reducible rfl)
        try simp only [Act.put]
        refine wpAnyH_take (i:=9) (v:=?_) rfl (by kernel_rfl) (by kernel_rfl) (by kernel_rfl) (λ _ _ _ h=>h) (Or.inl ⟨by rfl,?_⟩) (by assumption) ?_;rotate_left
        ·intro w hSw
         try dsimp only at hSw
         first | (go_simp;done) | (go_simp;with_reducible rfl)
        try simp only [Act.put]
        refine wpAnyH_ready (rs:=[10]) (by kernel_rfl) (by simp) ?_;refine AllReadyH.cons rfl (λ K hK=>?_) AllReadyH.nil;go_simp;go_wp2_with (go_at_call 21;refine Calls.mono HAD.out ?_;rintro e V2 ⟨ok,v2,B2,Wl2,T2,D2,N2,rfl,hat2,_,hik,_⟩);have HAT2:Hid _:=hat2;have HIK:Hid (Ikp p v1.ownBlock bw bt mp V.drew V2):=hik;have HVA:Hid (IAt w4 V.drew x p q n v1 L R1 B1 Wl1 T1 D1 pw bw pt bt mp N1):=HMO.out.2.2.2.1.below' (Below.refl _ _).drew;clear hat2 hik HAD;have y9:Boxed V2 w5.heap.size 26 (.pointer (some ⟨x,0,none⟩)):=ik_cells HVA.out HIK.out HMO.out.2.2.2.2.2.2.1 (by decide) (by decide) (by decide);have y10:Boxed V2 (w5.heap.size+1) 48 (.slice (some ⟨g2,0,none⟩) 3 cap2):=ik_cells HVA.out HIK.out HMO.out.2.2.2.2.2.2.2.1 (by decide) (by decide) (by decide);have HG:Hid (V2.cell? ⟨g2,0,none⟩=some (.int .i64 i)/\V2.cell? ⟨g2,1,none⟩=some (.int .i64 (a:Int))/\V2.cell? ⟨g2,2,none⟩=some (.int .i64 (m:Int))):=by
         have h0:=HMO.out.2.2.2.2.2.2.2.2.1;rcases h0.2 with ⟨k,_⟩ | ⟨g',cap',cur,k,_,hgc,_⟩
         ·injection k with k;cases k
         ·injection k with k _ _
          injection k with k
          injection k with k
          subst k;have hb9:=HFX.out.hbw;have hb8:=HFX.out.hbt;have e:V2.heap[g2]? =V.drew.heap[g2]? :=HIK.out.block g2 (G.lt_of_some hgc) (by rintro rfl;have:=hgc.symm.trans HVA.out.gra.hp;simp at this) (by
           intro e';obtain ⟨c',hc'⟩:=own61 HVA.out.gra.row e'.symm;have:=hgc.symm.trans hc';simp at this) (by omega) (by omega) (by have:=HFX.out.hmp;omega)
          exact ⟨(World.cell?_of_block (a:=⟨g2,0,none⟩) e).trans HS0.out.2.2.1,(World.cell?_of_block (a:=⟨g2,1,none⟩) e).trans HS0.out.2.2.2.1,(World.cell?_of_block (a:=⟨g2,2,none⟩) e).trans HS0.out.2.2.2.2⟩
        refine hK.out _ _ ?_ (λ hHeld=>?_)
        ·exact ⟨y9.cell,y10.cell,HG.out.1,HG.out.2.1,HG.out.2.2⟩
        clear hK K;refine wpAnyH_take (i:=11) (v:=?_) rfl (by kernel_rfl) (by kernel_rfl) (by kernel_rfl) (λ _ _ _ h=>h) (Or.inl ⟨by rfl,?_⟩) (by assumption) ?_;rotate_left
        ·intro w hSw
         try dsimp only at hSw
         first | (go_simp;done) | (go_simp;with_reducible rfl)
        try simp only [Act.put]
        refine wpAnyH_take (i:=12) (v:=?_) rfl (by kernel_rfl) (by kernel_rfl) (by kernel_rfl) (λ _ _ _ h=>h) (Or.inl ⟨by rfl,?_⟩) (by assumption) ?_;rotate_left
        ·intro w hSw
         try dsimp only at hSw
         first | (go_simp;done) | (go_simp;with_reducible rfl)
        try simp only [Act.put]
        refine wpAnyH_take (i:=13) (v:=?_) rfl (by kernel_rfl) (by kernel_rfl) (by kernel_rfl) (λ _ _ _ h=>h) (Or.inl ⟨by rfl,?_⟩) (by assumption) ?_;rotate_left
        ·intro w hSw
         try dsimp only at hSw
         first | (go_simp;done) | (go_simp;with_reducible rfl)
        try simp only [Act.put]
        refine wpAnyH_take (i:=14) (v:=?_) rfl (by kernel_rfl) (by kernel_rfl) (by kernel_rfl) (λ _ _ _ h=>h) (Or.inl ⟨by rfl,?_⟩) (by assumption) ?_;rotate_left
        ·intro w hSw
         try dsimp only at hSw
         first | (go_simp;done) | (go_simp;with_reducible rfl)
        try simp only [Act.put]
        refine wpAnyH_take (i:=15) (v:=?_) rfl (by kernel_rfl) (by kernel_rfl) (by kernel_rfl) (λ _ _ _ h=>h) (Or.inl ⟨by rfl,?_⟩) (by assumption) ?_;rotate_left
        ·intro w hSw
         try dsimp only at hSw
         first | (go_simp;done) | (go_simp;with_reducible rfl)
        try simp only [Act.put]
        refine wpAnyH_done (by kernel_rfl) ?_ _;have c10':=y10.cell;have f10':=y10.frozen
        gi_wp2_with fail
        obtain ⟨s9,hs9⟩:=HR2.out.xb;have hfin:=ri_put HFX.out HRD.out HY.out hF HVA.out rfl HAT2.out HIK.out HMO.out.2.2.2.2.1 HMO.out.2.2.2.2.2.1 HMO.out.2.2.2.2.2.2.1 HMO.out.2.2.2.2.2.2.2.1 (show Boxed V.drew (w5.heap.size+2) 9 s9 from HMO.out.2.2.1.trans hs9) HMO.out.2.2.2.2.2.2.2.2.2.1;exact ⟨(((keeps_below HB2.out).from _).trans HMO.out.2.1).trans (((KeepsOthers.drew V).from _).trans hfin.2.1),kpb_below HB2.out (by have:=HRI.out.size;omega) (hfin.2.2.trans HMO.out.2.2.1),hfin.1⟩
       ·have HAD:Hid _:=iadd_no i a m V.drew (HMO.out.2.2.2.1.below' (Below.refl _ _).drew) (λ e=>hF ((addC_zero HMO.out.2.2.2.1.ok i a m).1 e))
        generalize addC n L i a m=cd at HAD;refine region_round (S:=(λ w'=>w'.cell? ⟨w5.heap.size,0,none⟩=some (.pointer (some ⟨x,0,none⟩))/\w'.cell? ⟨w5.heap.size+1,0,none⟩=some (.slice (some ⟨g2,0,none⟩) 3 cap2)/\w'.cell? ⟨g2,0,none⟩=some (.int .i64 i)/\w'.cell? ⟨g2,1,none⟩=some (.int .i64 a)/\w'.cell? ⟨g2,2,none⟩=some (.int .i64 m))) (by kernel_rfl) (noDefer_spec (by kernel_rfl)) (λ ⟨_,_,h⟩=>h) ?_ (λ hHeld=>?_)
        ·exact HS0.out
        refine wpAnyH_take (i:=0) (v:=?_) rfl (by kernel_rfl) (by kernel_rfl) (by kernel_rfl) (λ _ _ _ h=>h) (Or.inl ⟨by rfl,?_⟩) (by assumption) ?_;rotate_left
        ·intro w hSw
         try dsimp only at hSw
         first | (go_simp;done) | (go_simp;with_reducible rfl)
        try simp only [Act.put]
        refine wpAnyH_take (i:=1) (v:=?_) rfl (by kernel_rfl) (by kernel_rfl) (by kernel_rfl) (λ _ _ _ h=>h) (Or.inl ⟨by rfl,?_⟩) (by assumption) ?_;rotate_left
        ·intro w hSw
         try dsimp only at hSw
         first | (go_simp;done) | (go_simp;with_reducible rfl)
        try simp only [Act.put]
        refine wpAnyH_take (i:=2) (v:=?_) rfl (by kernel_rfl) (by kernel_rfl) (by kernel_rfl) (λ _ _ _ h=>h) (Or.inl ⟨by rfl,?_⟩) (by assumption) ?_;rotate_left
        ·intro w hSw
         try dsimp only at hSw
         first | (go_simp;done) | (go_simp;with_reducible rfl)
        try simp only [Act.put]
        refine wpAnyH_take (i:=3) (v:=?_) rfl (by kernel_rfl) (by kernel_rfl) (by kernel_rfl) (λ _ _ _ h=>h) (Or.inl ⟨by rfl,?_⟩) (by assumption) ?_;rotate_left
        ·intro w hSw
         try dsimp only at hSw
         first | (go_simp;done) | (go_simp;with_reducible rfl)
        try simp only [Act.put]
        refine wpAnyH_take (i:=4) (v:=?_) rfl (by kernel_rfl) (by kernel_rfl) (by kernel_rfl) (λ _ _ _ h=>h) (Or.inl ⟨by rfl,?_⟩) (by assumption) ?_;rotate_left
        ·intro w hSw
         try dsimp only at hSw
         first | (go_simp;done) | (go_simp;with_reducible rfl)
        try simp only [Act.put]
        refine wpAnyH_take (i:=5) (v:=?_) rfl (by kernel_rfl) (by kernel_rfl) (by kernel_rfl) (λ _ _ _ h=>h) (Or.inl ⟨by rfl,?_⟩) (by assumption) ?_;rotate_left
        ·intro w hSw
         try dsimp only at hSw
         first | (go_simp;done) | (go_simp;with_reducible rfl)
        try simp only [Act.put]
        refine wpAnyH_take (i:=6) (v:=?_) rfl (by kernel_rfl) (by kernel_rfl) (by kernel_rfl) (λ _ _ _ h=>h) (Or.inl ⟨by rfl,?_⟩) (by assumption) ?_;rotate_left
        ·intro w hSw
         try dsimp only at hSw
         first | (go_simp;done) | (go_simp;with_reducible rfl)
        try simp only [Act.put]
        refine wpAnyH_take (i:=7) (v:=?_) rfl (by kernel_rfl) (by kernel_rfl) (by kernel_rfl) (λ _ _ _ h=>h) (Or.inl ⟨by rfl,?_⟩) (by assumption) ?_;rotate_left
        ·intro w hSw
         try dsimp only at hSw
         first | (go_simp;done) | (go_simp;with_reducible rfl)
        try simp only [Act.put]
        refine wpAnyH_take (i:=8) (v:=?_) rfl (by kernel_rfl) (by kernel_rfl) (by kernel_rfl) (λ _ _ _ h=>h) (Or.inl ⟨by rfl,?_⟩) (by assumption) ?_;rotate_left
        ·intro w hSw
         try dsimp only at hSw
         first | (go_simp;done) | (go_simp;with_reducible rfl)
        try simp only [Act.put]
        refine wpAnyH_take (i:=9) (v:=?_) rfl (by kernel_rfl) (by kernel_rfl) (by kernel_rfl) (λ _ _ _ h=>h) (Or.inl ⟨by rfl,?_⟩) (by assumption) ?_;rotate_left
        ·intro w hSw
         try dsimp only at hSw
         first | (go_simp;done) | (go_simp;with_reducible rfl)
        try simp only [Act.put]
        refine wpAnyH_ready (rs:=[10]) (by kernel_rfl) (by simp) ?_;refine AllReadyH.cons rfl (λ K hK=>?_) AllReadyH.nil;go_simp;go_wp2_with (go_at_call 21;refine Calls.mono HAD.out ?_;rintro e V2 ⟨rfl,hb2⟩);have HB3:Hid (Below V.drew.heap.size V.drew V2):=hb2;clear hb2 HAD;refine hK.out _ _ ?_ (λ hHeld=>?_)
        ·exact ⟨cellb HB3.out HS0.out.1,cellb HB3.out HS0.out.2.1,cellb HB3.out HS0.out.2.2.1,cellb HB3.out HS0.out.2.2.2.1,cellb HB3.out HS0.out.2.2.2.2⟩
        clear hK K;refine wpAnyH_take (i:=11) (v:=?_) rfl (by kernel_rfl) (by kernel_rfl) (by kernel_rfl) (λ _ _ _ h=>h) (Or.inl ⟨by rfl,?_⟩) (by assumption) ?_;rotate_left
        ·intro w hSw
         try dsimp only at hSw
         first | (go_simp;done) | (go_simp;with_reducible rfl)
        try simp only [Act.put]
        refine wpAnyH_take (i:=12) (v:=?_) rfl (by kernel_rfl) (by kernel_rfl) (by kernel_rfl) (λ _ _ _ h=>h) (Or.inl ⟨by rfl,?_⟩) (by assumption) ?_;rotate_left
        ·intro w hSw
         try dsimp only at hSw
         first | (go_simp;done) | (go_simp;with_reducible rfl)
        try simp only [Act.put]
        refine wpAnyH_take (i:=13) (v:=?_) rfl (by kernel_rfl) (by kernel_rfl) (by kernel_rfl) (λ _ _ _ h=>h) (Or.inl ⟨by rfl,?_⟩) (by assumption) ?_;rotate_left
        ·intro w hSw
         try dsimp only at hSw
         first | (go_simp;done) | (go_simp;with_reducible rfl)
        try simp only [Act.put]
        refine wpAnyH_take (i:=14) (v:=?_) rfl (by kernel_rfl) (by kernel_rfl) (by kernel_rfl) (λ _ _ _ h=>h) (Or.inl ⟨by rfl,?_⟩) (by assumption) ?_;rotate_left
        ·intro w hSw
         try dsimp only at hSw
         first | (go_simp;done) | (go_simp;with_reducible rfl)
        try simp only [Act.put]
        refine wpAnyH_take (i:=15) (v:=?_) rfl (by kernel_rfl) (by kernel_rfl) (by kernel_rfl) (λ _ _ _ h=>h) (Or.inl ⟨by rfl,?_⟩) (by assumption) ?_;rotate_left
        ·intro w hSw
         try dsimp only at hSw
         first | (go_simp;done) | (go_simp;with_reducible rfl)
        try simp only [Act.put]
        refine wpAnyH_done (by kernel_rfl) ?_ _;have HX2:Hid (Boxed V2 w.heap.size 26 (.pointer none)/\Boxed V2 (w.heap.size+1) 28 .nilIface):=⟨boxed_below (w:=V.drew) HMO.out.2.2.2.2.1 HB3.out,boxed_below (w:=V.drew) HMO.out.2.2.2.2.2.1 HB3.out⟩;have c2:=HX2.out.1.cell;have f2:=HX2.out.1.frozen;have c3:=HX2.out.2.cell;have f3:=HX2.out.2.frozen
        gi_wp2_with fail
        refine ⟨(((keeps_below HB2.out).from _).trans HMO.out.2.1).trans (((((KeepsOthers.drew V).trans (keeps_below HB3.out)).trans (KeepsOthers.setCell _ _ _)).trans (KeepsOthers.setCell _ _ _)).from _),ri_no HRD.out HX2.out.1 HX2.out.2 ?_ HY.out hF 23 _⟩;have h1:=HFX.out.b4.trans (HMO.out.2.2.2.1.rn.below.mono HFX.out.b4.size);exact h1.drew.trans ((HB3.out).mono h1.size)
    ·have c2:=(HRI.out.below' HB2.out).x2.cell
     have f2:=(HRI.out.below' HB2.out).x2.frozen;have c3:=(HRI.out.below' HB2.out).x3.cell;have f3:=(HRI.out.below' HB2.out).x3.frozen
     gi_wp2_with fail
     exact ri_bad HFX.out HRI.out HB2.out hno t pp
   case done=>
    rintro D9 ys W1 hD hys ⟨acc,L,v1,R1,B1,Wl1,T1,D1,N1,u1,hrd,hri⟩ hK;have HRI:Hid (RI1 w w4 w5 w6 W1 n x p q pw bw pt bt mp acc L v1 R1 B1 Wl1 T1 D1 N1 u1):=hri;have HRD:Hid (rdP n (short ys)=some (acc,L)):=hrd;have HYS:Hid (ys=wds [] rs):=hys;have HK:Hid (W1.heap[D9]? =some (.deferred (some []))):=hK;have c9:=hri.x9.cell;have c2:=hri.x2.cell;have f2:=hri.x2.frozen;have c3:=hri.x3.cell;have f3:=hri.x3.frozen;clear hrd hri hys hK
    gi_wp2
    have htw:=two_set (.pointer (some ⟨x,0,none⟩)) .nilIface HRI.out.x2 HRI.out.x3;have hK':=((KeepsOthers.setCell W1 ⟨w.heap.size,0,none⟩ (.pointer (some ⟨x,0,none⟩))).trans (KeepsOthers.setCell _ ⟨w.heap.size+1,0,none⟩ .nilIface)).same D9 _ HK.out rfl;refine ⟨by simp,.inl ⟨_,_,rfl,run_takeDeferred hK',?_⟩⟩;refine ⟨_,res46 (cell_kept htw.1.cell (grownBy_putObj' _ D9 (.deferred none)) (λ r e=>by cases e;exact ⟨_,hK',rfl⟩)) (cell_kept htw.2.cell (grownBy_putObj' _ D9 (.deferred none)) (λ r e=>by cases e;exact ⟨_,hK',rfl⟩)) (by rfl) (by rfl),.inl ⟨n,acc,L,?_,?_⟩⟩
    ·unfold rdS
     rw [HCE.out];dsimp only;rw [HM.out];dsimp only;rw [if_pos (by have:=HNN.out;omega)];have e1:short ys=wds [] rs:=by rw [HYS.out];exact short_words HLN.out.2
     have:=HRD.out;rw [e1] at this;simp [this]
    ·exact ⟨x,p,q,v1,R1,B1,Wl1,T1,D1,pw,bw,pt,bt,mp,N1,rfl,ri_end HFX.out HRI.out hK' hD⟩
   case stop=>
    rintro D9 c pre W1 hD ⟨k,hk⟩ ⟨rfl,hno,h2,⟨t,pp,h3⟩,hb⟩ hK;have HK:Hid (W1.heap[D9]? =some (.deferred (some []))):=hK;have HH:Hid (rdP n (short pre)=none/\Boxed W1 w.heap.size 26 (.pointer none)/\Boxed W1 (w.heap.size+1) 28 (.iface t pp)/\Below w.heap.size w W1):=⟨hno,h2,h3,hb⟩;have HPK:Hid (pre=(wst (rs.take k)).1):=hk;clear hno h2 h3 hb hK hk
    gi_wp2
    refine ⟨by simp,.inl ⟨_,_,rfl,run_takeDeferred HK.out,?_⟩⟩;refine ⟨_,res46 (cell_kept HH.out.2.1.cell (grownBy_putObj' _ D9 (.deferred none)) (λ r e=>by cases e;exact ⟨_,HK.out,rfl⟩)) (cell_kept HH.out.2.2.1.cell (grownBy_putObj' _ D9 (.deferred none)) (λ r e=>by cases e;exact ⟨_,HK.out,rfl⟩)) (by rfl) (by rfl),.inr ⟨?_,⟨_,_,rfl⟩,?_⟩⟩
    ·unfold rdS
     rw [HCE.out];dsimp only;rw [HM.out];dsimp only;rw [if_pos (by have:=HNN.out;omega)];have e1:=rdP_stop (n:=n) (k:=k) HLN.out.2 (by rw [<-HPK.out];exact HH.out.1);simp [e1]
    ·have h4:=HFX.out.s4;have h5:=HFX.out.s5;have h6:=HFX.out.s6
     exact HH.out.2.2.2.grown (grownBy_putObj' W1 D9 (.deferred none)) HH.out.2.2.2.size (λ j e=>by cases e;omega)
  ·have HN:Hid _:=inew_out m w4 (by omega)
   have c2:=HX4.out.1.cell;have f2:=HX4.out.1.frozen;have c3:=HX4.out.2.cell;have f3:=HX4.out.2.frozen
   gi_wp2_with fail
   refine ⟨trivial,?_⟩;refine CallsIn.mono (callsIn_wide.2 HN.out) ?_;rintro e w5 ⟨rfl,hw5⟩;subst w5;have hlt2:=HX4.out.1.lt;have hlt3:=HX4.out.2.lt
   gi_wp2_with fail
   have htw:=two_set (.pointer none) (.iface 23 (.int .i64 2)) HX4.out.1 HX4.out.2;refine ⟨_,res46 (htw.1.alloc _).cell (htw.2.alloc _).cell (by rfl) (by rfl),.inr ⟨?_,⟨_,_,rfl⟩,?_⟩⟩
   ·unfold rdS
    rw [HCE.out];dsimp only;rw [HM.out];dsimp only;rw [if_neg hr]
   ·have h9:=below_two HB4.out (.pointer none) (.iface 23 (.int .i64 2))
    exact h9.alloc h9.size _
 ·have c2:=HX4.out.1.cell
  have f2:=HX4.out.1.frozen;have c3:=HX4.out.2.cell;have f3:=HX4.out.2.frozen
  gi_wp2_with fail
  have htw:=two_set (.pointer none) (.iface t pp) HX4.out.1 HX4.out.2;refine ⟨_,res46 htw.1.cell htw.2.cell (by rfl) (by rfl),.inr ⟨?_,⟨_,_,rfl⟩,?_⟩⟩
  ·unfold rdS
   rw [HCE.out];dsimp only;cases hq:Lib.atoiAll hd with
   | ok m=>exact absurd hq (hno m)
   | _=>rfl
  ·exact below_two HB4.out _ _
end Go.Proofs.YtebcjaenhiiflaaGreatDoor.I
namespace Go.Proofs.YtebcjaenhiiflaaGreatDoor.I
open Go.RowKit Go.WideMaps Go.Maps
def Tells (s:List UInt8) (n:Nat) (L:List G.E):Prop:=Ok n L/\s=svE n L
theorem rdS_tells {s:List UInt8} {n:Nat} {L:List G.E} (h:Tells s n L):rdS s=some (n,[],L):=by
 obtain ⟨hok,rfl⟩:=h;obtain ⟨rest,h1,h2⟩:=prog_reads hok;unfold rdS;have h40:=hok.n40;rw [h1];dsimp only;rw [atoi_int (v:=(n:Int)) (by omega) (by omega)];dsimp only;rw [if_pos (by omega)];simp [h2]
def LoadPost (w:World) (s:ByteArray) (e:Ending) (w':World):Prop:=
 (∃n L,Tells s.data.toList n L/\∃x p q v R B W T D pw bw pt bt mp N,e= .returned (.tuple #[.pointer (some ⟨x,0,none⟩),.nilIface])/\IAt w w' x p q n v L R B W T D pw bw pt bt mp N)\/
 ((∀n L,¬Tells s.data.toList n L)/\e= .returned (.tuple #[.pointer none,.iface 23 (.int .i64 3)])/\Below w.heap.size w w')
theorem load_any (s:ByteArray) (w:World) (hs:s.size<=100000) (hv:Vars w):Calls Tryz.prog 11 #[.string s] w (LoadPost w s):=by
 have HV:Hid (Vars w):=hv;have HR:Hid _:=read_any s w hs hv;clear hv;go_enter Tryz.func11,Tryz.ntmps11;go_wp2_with fail;refine Calls.mono HR.out ?_;rintro e w1 (⟨n,acc,L,hrd,x,p,q,v,R,B,W,T,D,pw,bw,pt,bt,mp,N,rfl,hat⟩ | ⟨hno,⟨t,pp,rfl⟩,hb⟩)
 ·have HAT:Hid (IAt w w1 x p q n v L R B W T D pw bw pt bt mp N):=hat
  have HRD:Hid (rdS s.data.toList=some (n,acc,L)):=hrd;have HSV:Hid _:=saved_any x p q n w.heap.size v L w1 hat.ix hat.gra hat.ok (HV.out.on hat.rn.below HV.out.big);clear hat hrd HR;have HTE:Hid (svI n L=s.data.toList↔∃n' L',Tells s.data.toList n' L'):=by
   have hok:=HAT.out.ok;constructor
   ·intro e
    exact ⟨n,L,hok,by rw [svE_ok hok,e]⟩
   ·rintro ⟨n',L',ht⟩
    have h1:=rdS_tells ht;rw [HRD.out] at h1;simp at h1;obtain ⟨rfl,_,rfl⟩:=h1;rw [ht.2,svE_ok hok]
  obtain ⟨tx,htx⟩:∃tx:ByteArray,tx=⟨(svI n L).toArray⟩:=⟨_,rfl⟩;have HTX:Hid (tx=s↔svI n L=s.data.toList):=by
   rw [htx];constructor
   ·intro e;rw [<-e]
   ·intro e;rw [e]
  rw [<-htx] at HSV;clear htx;by_cases he:tx=s
  ·subst he
   go_wp2_with (go_at_call 16;refine Calls.mono HSV.out ?_;rintro e w2 ⟨rfl,hb2⟩);go_ret2;refine .inl ⟨n,L,⟨HAT.out.ok,?_⟩,x,p,q,v,R,B,W,T,D,pw,bw,pt,bt,mp,N,rfl,HAT.out.below' hb2⟩;rw [svE_ok HAT.out.ok];exact (HTX.out.1 trivial).symm
  ·have he':(tx.toList==s.toList)=false:=by
    rw [beq_eq_false_iff_ne,ByteArray.toList_eq,ByteArray.toList_eq];exact λ e=>he (WideShapes.bytes_inj e)
   go_wp2_with (go_at_call 16;refine Calls.mono HSV.out ?_;rintro e w2 ⟨rfl,hb2⟩);go_ret2;exact .inr ⟨λ n' L' ht=>he (HTX.out.2 (HTE.out.2 ⟨n',L',ht⟩)),rfl,HAT.out.rn.below.trans (hb2.mono HAT.out.rn.below.size)⟩
 ·have HB:Hid (Below w.heap.size w w1):=hb
  have HNO:Hid (rdS s.data.toList=none):=hno;clear hb hno HR;go_wp2_with fail;go_ret2;refine .inr ⟨λ n L ht=>?_,rfl,HB.out⟩;have:=rdS_tells ht;rw [HNO.out] at this;cases this
open Go.RowKit Go.WideMaps Go.Maps Go.Lib
structure IVx (w:World) (a b x n:Nat) (L:List G.E) (p q:Nat) (v:Value) (R B:List G.E) (W T:List Nat) (D:DataW Unit) (pw bw pt bt mp N g:Nat):Prop where
 ix:Ix w x p q
 gra:G.GAt w g 168 61 p (n:Int) v L
 now:S.Now w q pw bw pt bt mp N n R B W T D
 ok:Ok n L
 perm:R.Perm L
 nl:N<=120
 ip:a<=p/\p<b
 iw:a<=bw/\bw<b
 it:a<=bt/\bt<b
 im:a<=mp/\mp<b
 iv:∀k,v.ownBlock=some k->a<=k/\k<b
def IV (w:World) (a b x n:Nat) (L:List G.E):Prop:=
 ∃p q v R B W T D pw bw pt bt mp N g,IVx w a b x n L p q v R B W T D pw bw pt bt mp N g
variable {w0 w w':World} {a b x p q n:Nat} {v:Value} {L R B:List G.E} {W T:List Nat} {D:DataW Unit} {pw bw pt bt mp N g:Nat}
theorem Ok.unl (h:Ok n L):S.Unl L:=by
 unfold S.Unl;have hu:L.Pairwise (λ x y=>x.1<y.1):=h.up;exact hu.imp (λ {x y} (k:x.1<y.1)=>by omega)
theorem IVx.unl (h:IVx w a b x n L p q v R B W T D pw bw pt bt mp N g):S.Unl R:=
 h.perm.symm.pairwise h.ok.unl (λ {_ _} k=>k.symm)
theorem IV.ok (h:IV w a b x n L):Ok n L:=by
 obtain ⟨p,q,v,R,B,W,T,D,pw,bw,pt,bt,mp,N,g,h⟩:=h;exact h.ok
theorem IVx.below (h:IVx w a b x n L p q v R B W T D pw bw pt bt mp N g) (hb:Below w.heap.size w w'):IVx w' a b x n L p q v R B W T D pw bw pt bt mp N g:=
 {h with ix:=h.ix.below hb h.ix.lt,gra:=h.gra.below hb,now:=h.now.below hb}
theorem IV.below (h:IV w a b x n L) (hb:Below w.heap.size w w'):IV w' a b x n L:=by
 obtain ⟨p,q,v,R,B,W,T,D,pw,bw,pt,bt,mp,N,g,h⟩:=h;exact ⟨p,q,v,R,B,W,T,D,pw,bw,pt,bt,mp,N,g,h.below hb⟩
theorem map_lt {w:World} {p pw bw pt bt m N:Nat} {W T:List Nat} {D:DataW Unit} (h:S.BAt w p pw bw pt bt m N W T D):m<w.heap.size:=by
 obtain ⟨es,c,hm⟩:=h.mobj;exact G.lt_of_some hm
theorem IAt.iv (h:IAt w0 w x p q n v L R B W T D pw bw pt bt mp N) (hb:w.heap.size<=b) (ha:a<=w0.heap.size):IV w a b x n L:=by
 have h1:=h.rn.now.at_.sw.blt;have h2:=h.rn.now.at_.st.blt;have h3:=map_lt h.rn.now.at_;have h4:=h.gra.plt;have h5:=h.rn.hb;have h6:=h.hp;refine ⟨p,q,v,R,B,W,T,D,pw,bw,pt,bt,mp,N,w0.heap.size,h.ix,h.gra,h.rn.now,h.ok,h.perm,by have:=h.rn.nl;have:=h.rn.rl;omega,⟨by omega,by omega⟩,⟨by omega,by omega⟩,⟨by omega,by omega⟩,⟨by omega,by omega⟩,λ k hk=>?_⟩;have:=h.gra.lt hk;omega
theorem IV.other {y p' q' n':Nat} {v':Value} {L' R' B':List G.E} {W' T':List Nat} {D':DataW Unit} {pw' bw' pt' bt' mp' N':Nat} (h:IV w a b x n L)
 (hy:IAt w0 w y p' q' n' v' L' R' B' W' T' D' pw' bw' pt' bt' mp' N') (k:Ikp p' v'.ownBlock bw' bt' mp' w w')
 (op:p'<a\/b<=p') (ow:bw'<a\/b<=bw') (ot:bt'<a\/b<=bt') (om:mp'<a\/b<=mp') (ov:∀j,v'.ownBlock=some j->j<a\/b<=j):IV w' a b x n L:=by
 obtain ⟨p,q,v,R,B,W,T,D,pw,bw,pt,bt,mp,N,g,h⟩:=h;have kind:∀(j t:Nat) (cur:Array Value),w.heap[j]? =some (.cells cur t)->t≠168->t≠61->t≠3->w'.heap[j]? =some (.cells cur t):=by
  intro j t cur hj h1 h2 h3;obtain ⟨es,c,hm⟩:=hy.rn.now.at_.mobj;rw [k.block j (G.lt_of_some hj) ?_ ?_ ?_ ?_ ?_]
  ·exact hj
  ·rintro rfl
   have:=hj.symm.trans hy.gra.hp;simp at this;exact h1 this.2
  ·intro e
   obtain ⟨cur',hc⟩:=own61 hy.gra.row e.symm;have:=hj.symm.trans hc;simp at this;exact h2 this.2
  ·rintro rfl
   have:=hj.symm.trans hy.rn.now.at_.sw.hb;simp at this;exact h3 this.2
  ·rintro rfl
   have:=hj.symm.trans hy.rn.now.at_.st.hb;simp at this;exact h3 this.2
  ·rintro rfl
   have:=hj.symm.trans hm;simp at this
 have mid:∀j,j<w.heap.size->a<=j->j<b->w'.heap[j]? =w.heap[j]? :=λ j hj h1 h2=>
  k.block j hj (by omega) (λ e=>by have:=ov j e.symm;omega) (by omega) (by omega) (by omega)
 have hbat:=h.now.at_;refine ⟨p,q,v,R,B,W,T,D,pw,bw,pt,bt,mp,N,g,kind _ _ _ h.ix (by decide) (by decide) (by decide),⟨?_,⟨h.gra.row.1,?_⟩,h.gra.ne⟩,⟨?_,h.now.st,h.now.dis⟩,h.ok,h.perm,h.nl,h.ip,h.iw,h.it,h.im,h.iv⟩
 ·rw [mid p h.gra.plt h.ip.1 h.ip.2];exact h.gra.hp
 ·rcases h.gra.row.2 with hn | ⟨j,cap,cur,rfl,hB,hg,rest⟩
  ·exact .inl hn
  ·refine .inr ⟨j,cap,cur,rfl,hB,?_,rest⟩
   have:=h.iv j rfl;rw [mid j (G.lt_of_some hg) this.1 this.2];exact hg
 ·obtain ⟨es,c,hm,F,hs,hD⟩:=hbat.hm
  refine ⟨kind _ _ _ hbat.hp (by decide) (by decide) (by decide),⟨kind _ _ _ hbat.sw.hp (by decide) (by decide) (by decide),?_⟩,⟨kind _ _ _ hbat.st.hp (by decide) (by decide) (by decide),?_⟩,⟨es,c,?_,F,hs,hD⟩,hbat.pp,hbat.bb⟩
  ·rw [mid bw hbat.sw.blt h.iw.1 h.iw.2];exact hbat.sw.hb
  ·rw [mid bt hbat.st.blt h.it.1 h.it.2];exact hbat.st.hb
  ·rw [mid mp (G.lt_of_some hm) h.im.1 h.im.2];exact hm
noncomputable def brz (n:Nat) (L:List G.E):List Int:=
 open Classical in if h:∃RB:List G.E × List G.E,(∃W T,S.St n RB.1 W T RB.2)/\RB.1.Perm L then S.ups h.choose.1 h.choose.2 else []
noncomputable def twz (n:Nat) (L:List G.E):List Nat:=
 open Classical in if h:∃T:List Nat,∃R B W,S.St n R W T B/\R.Perm L then h.choose else []
theorem brz_eq {R B:List G.E} (s:S.St n R W T B) (hp:R.Perm L) (hL:S.Unl L):S.ups R B=brz n L:=by
 have hu:S.Unl R:=hp.symm.pairwise hL (λ {_ _} k=>k.symm);have h:∃RB:List G.E × List G.E,(∃W T,S.St n RB.1 W T RB.2)/\RB.1.Perm L:=⟨(R,B),⟨W,T,s⟩,hp⟩;unfold brz;rw [dif_pos h];obtain ⟨⟨W',T',s'⟩,hp'⟩:=h.choose_spec;exact (S.same_all s s' (hp.trans hp'.symm) hu).2.2
theorem twz_eq {R B:List G.E} (s:S.St n R W T B) (hp:R.Perm L) (hL:S.Unl L):T=twz n L:=by
 have hu:S.Unl R:=hp.symm.pairwise hL (λ {_ _} k=>k.symm);have h:∃T:List Nat,∃R B W,S.St n R W T B/\R.Perm L:=⟨T,R,B,W,s,hp⟩;unfold twz;rw [dif_pos h];obtain ⟨R',B',W',s',hp'⟩:=h.choose_spec;exact (S.same_all s s' (hp.trans hp'.symm) hu).2.1
theorem ints_shape {base:Nat} {v:Value} {K:List Int} (h:w.ownsRow base 3 1 v K.length (K.map (Value.int .i64))):∃a cap,v= .slice a K.length cap/\(0<K.length->∃g,a=some ⟨g,0,none⟩/\∀j,j<K.length->w.cell? ⟨g,j,none⟩=some (.int .i64 (K.getD j 0))):=by
 have h0:=h;rcases h.2 with ⟨rfl,hz⟩ | ⟨g,cap,cur,rfl,hb,hg,_⟩
 ·exact ⟨none,0,by rw [hz],λ k=>by omega⟩
 ·refine ⟨_,cap,rfl,λ _=>⟨g,rfl,λ j hj=>?_⟩⟩
  rw [h0.cellAt j (by omega)];simp [hj]
def Zs (w:World) (a:Option Addr) (K:List Int):Prop:=0<K.length->∃g,a=some ⟨g,0,none⟩/\∀j,j<K.length->w.cell? ⟨g,j,none⟩=some (.int .i64 (K.getD j 0))
theorem Zs.below {a:Option Addr} {K:List Int} (h:Zs w a K) (hb:Below w.heap.size w w'):Zs w' a K:=by
 intro hk;obtain ⟨g,e,hc⟩:=h hk;exact ⟨g,e,λ j hj=>S.cell_below (hc j hj) hb⟩
theorem isaved (h:IV w a b x n L) (hv:Vars w):
 Calls Tryz.prog 16 #[.pointer (some ⟨x,0,none⟩)] w λ e w'=>e= .returned (.string ⟨(svI n L).toArray⟩)/\Below w.heap.size w w':=by
 obtain ⟨p,q,v,R,B,W,T,D,pw,bw,pt,bt,mp,N,g,h⟩:=h;exact saved_any x p q n g v L w h.ix h.gra h.ok hv
theorem bids_any (h:IVx w a b x n L p q v R B W T D pw bw pt bt mp N g):
 Calls Tryz.prog 78 #[.pointer (some ⟨q,0,none⟩)] w λ e w'=>∃a c,e= .returned (.slice a (brz n L).length c)/\Zs w' a (brz n L)/\Below w.heap.size w w':=by
 refine (S.ids_row w h.now.at_ (by have:=h.nl;omega)).mono ?_;rintro e w' ⟨v',ss,rfl,hp,hrow,_,hb⟩;have hunl:=h.unl;have hc:CollectedI D (λ _=>false) (S.idsOf R B):=by
  refine ⟨S.idsOf_nodup hunl,λ x=>?_⟩;rw [h.now.dis.key x,S.mem_idsOf h.now.st];constructor
  ·rintro ⟨e,he,k⟩;exact ⟨⟨e,(h.now.st.hB e).2 he,k⟩,rfl⟩
  ·rintro ⟨⟨e,he,k⟩,_⟩;exact ⟨e,(h.now.st.hB e).1 he,k⟩
 have hp':ss.Perm (S.idsOf R B):=hp.trans (hc.perm h.now.at_.hm S.law3 Tryz.underlying3 (λ _=>rfl)).symm;have e1:(ss.mergeSort λ x y=>decide (x<=y))=S.ups R B:=mergeSort_of_perm_i hp';rw [e1,hp'.length_eq,<-S.ups_length R B,brz_eq h.now.st h.perm h.ok.unl] at hrow;obtain ⟨a',c,rfl,hs⟩:=ints_shape (K:=brz n L) hrow;exact ⟨a',c,rfl,hs,hb⟩
theorem ibridges (h:IV w a b x n L):
 Calls Tryz.prog 33 #[.pointer (some ⟨x,0,none⟩)] w λ e w'=>∃a c,e= .returned (.slice a (brz n L).length c)/\Zs w' a (brz n L)/\Below w.heap.size w w':=by
 obtain ⟨p,q,v,R,B,W,T,D,pw,bw,pt,bt,mp,N,g,h⟩:=h;have HI:Hid _:=bids_any h;have hc:=h.ix.c1;clear h;go_enter Tryz.func33,Tryz.ntmps33;go_wp2_with (go_at_call 78;refine Calls.mono HI.out ?_;rintro e w1 ⟨a',c,rfl,hz,hb⟩);go_ret;exact ⟨a',c,rfl,hz,hb⟩
theorem itwice (h:IV w a b x n L) (i j:Nat) (hi:i<n) (hj:j<n):
 Calls Tryz.prog 27 #[.pointer (some ⟨x,0,none⟩),.int .i64 (i:Int),.int .i64 (j:Int)] w λ e w'=>e= .returned (.tuple #[.bool ((((twz n L).getD i 0:Nat):Int)==(((twz n L).getD j 0:Nat):Int)),.nilIface])/\Below w.heap.size w w':=by
 obtain ⟨p,q,v,R,B,W,T,D,pw,bw,pt,bt,mp,N,g,h⟩:=h;have hT:=twz_eq h.now.st h.perm h.ok.unl;have hl:=h.now.st.gt.len;have HI:Hid _:=S.twice_in i j _ w h.now.at_ (by rw [hl];exact hi) (by rw [hl];exact hj) rfl;have hc:=h.ix.c1;rw [<-hT];clear h hT hl;go_enter Tryz.func27,Tryz.ntmps27;go_wp2_with (go_at_call 76;refine Calls.mono HI.out ?_;rintro e w1 ⟨rfl,hb⟩);go_ret2;exact ⟨rfl,hb⟩
end Go.Proofs.YtebcjaenhiiflaaGreatDoor.I
namespace Go.Proofs.YtebcjaenhiiflaaGreatDoor.I
open Go.RowKit Go.WideMaps Go.Maps Go.Lib
variable {w0 w w':World} {x p q n:Nat} {v:Value} {L R B:List G.E} {W T:List Nat} {D:DataW Unit} {pw bw pt bt mp N:Nat}
theorem Ok.sub {M:List G.E} (h:Ok n L) (hs:M.Sublist L):Ok n M:=
 ⟨h.n40,List.Pairwise.sublist hs h.up,Nat.le_trans hs.length_le h.len,λ e he=>h.ed e (hs.subset he)⟩
theorem out_sub (L:List G.E) (k:Nat):(L.take k++L.drop (k+1)).Sublist L:=by
 rw [<-List.eraseIdx_eq_take_drop_succ];exact List.eraseIdx_sublist L k
theorem set_other {y i g:Nat} {u:Value} {o:Obj} {cs:Array Value} (hy:w.heap[y]? =some (.cells cs 85)) (hg:w.heap[g]? =some o) (ho:∀cur,o≠ .cells cur 85):(w.setCell ⟨y,i,none⟩ u).heap[g]? =some o:=by
 rw [Below.heap_setCell _ _ _ _ (show g≠y from λ e=>by subst e;exact ho cs (Option.some.inj (hg.symm.trans hy)))];exact hg
theorem bat_set {y i:Nat} {u:Value} {cs:Array Value} (hy:w.heap[y]? =some (.cells cs 85)) (hb:S.BAt w q pw bw pt bt mp N W T D):S.BAt (w.setCell ⟨y,i,none⟩ u) q pw bw pt bt mp N W T D:=by
 obtain ⟨es,c,hm,F,hs,hD⟩:=hb.hm;exact ⟨set_other hy hb.hp (by simp),⟨set_other hy hb.sw.hp (by simp),set_other hy hb.sw.hb (by simp)⟩,⟨set_other hy hb.st.hp (by simp),set_other hy hb.st.hb (by simp)⟩,⟨es,c,set_other hy hm (by simp),F,hs,hD⟩,hb.pp,hb.bb⟩
theorem gat_set {y i B' p':Nat} {m:Int} {u:Value} {cs:Array Value} (hy:w.heap[y]? =some (.cells cs 85)) (h:G.GAt w B' 168 61 p' m v L):G.GAt (w.setCell ⟨y,i,none⟩ u) B' 168 61 p' m v L:=by
 refine ⟨set_other hy h.hp (by simp),⟨h.row.1,?_⟩,h.ne⟩;rcases h.row.2 with hn | ⟨g,cap,cur,rfl,hB,hg,rest⟩
 ·exact .inl hn
 ·exact .inr ⟨g,cap,cur,rfl,hB,set_other hy hg (by simp),rest⟩
theorem Rn_base {w1:World} (h:S.Rn w1 w q pw bw pt bt mp n R B W T D N) (hb:Below w0.heap.size w0 w1):S.Rn w0 w q pw bw pt bt mp n R B W T D N:=
 {h with below:=hb.trans (h.below.mono hb.size),hb:=⟨Nat.le_trans hb.size h.hb.1,Nat.le_trans hb.size h.hb.2.1,Nat.le_trans hb.size h.hb.2.2⟩}
theorem idrop_no (id:Int) (w:World) (h:IAt w0 w x p q n v L R B W T D pw bw pt bt mp N) (hs:G.seen L id=none):
 Calls Tryz.prog 18 #[.pointer (some ⟨x,0,none⟩),.int .i64 id] w λ e w'=>e= .returned (.iface 23 (.int .i64 7))/\Below w.heap.size w w':=by
 have HA:Hid _:=G.drop_miss id (n:Int) w0.heap.size p v L w h.gra h.ok.up h.ok.len hs;have c0:=h.ix.c0;clear h;go_enter Tryz.func18,Tryz.ntmps18;go_wp2_with (go_at_call 55;refine Calls.mono HA.out ?_;rintro e w1 ⟨rfl,hb⟩);go_ret;exact ⟨rfl,hb⟩
end Go.Proofs.YtebcjaenhiiflaaGreatDoor.I
