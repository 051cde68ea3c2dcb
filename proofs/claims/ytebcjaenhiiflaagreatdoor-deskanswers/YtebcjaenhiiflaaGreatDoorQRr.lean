import Derived.Deep.RegionHeld
import Derived.TacticsIn
import Derived.RangeFuncCalls
namespace Go.Proofs.Y.I
open Go.RowKit
theorem zfj {n l:Nat}{P:Program}{row:String}{args:Array Value}{w:World}{R:Value->World->Prop}(h:Rows P row args w R):RowsIn (Fence.wide.inRound l) n P row args w R:=by
 intro c cs hr;obtain⟨v,w',r,s⟩:=h c cs;exact⟨v,w',r,stepsIn_wide.2 s⟩
theorem Fw {n l:Nat}{P:Program}{ops:Array Oper}{Q:Exit->Act->World->Prop}(hd:∀(i:Nat) (o:Oper),ops[i]? =some o->∀c,o.op≠ .defer c)(hQ:¬LetsOut Q):
 ∀(idx:List Nat) (a:Act) (w:World),wpOps P ops Q idx a w->wpOpsIn (Fence.wide.inRound l) n P ops Q idx a w
 |[],_,_,h=>h
 |i::rest,a,w,h=>by
  unfold wpOps at h;unfold wpOpsIn;cases ho:ops[i]? with
  |none=>
   simp only[ho] at h;exact Fw hd hQ rest a w h
  |some o=>
   simp only[ho] at h ⊢;split
   ·next hw=>
    rw[if_pos hw] at h;refine⟨λ _ _=>trivial,?_⟩;rcases h with h|h
    ·have e:(Oper.semAt (Fence.wide.inRound l).round a.eval o)=execOp a.eval o:=Oper.semAt_some l _ _ (hd i o ho)
     rw[e];unfold Oper.wp at h;generalize (execOp a.eval o).run P w=r at h ⊢;cases r with
     |ok x w'=>
      cases x with
      |value v=>exact Fw hd hQ rest _ _ h
      |skip=>exact Fw hd hQ rest _ _ h
      |defer d=>exact Fw hd hQ rest _ _ h
      |enter f args=>
       refine⟨λ k=>(by cases k),CallsIn.inRound l (callsIn_wide.2 (Calls.mono h ?_))⟩;intro e w'' he;cases e with
       |returned v=>exact Fw hd hQ rest _ _ he
       |panicked ch=>exact he
       |outgrown=>exact he
      |row row args=>exact⟨λ k=>(by cases k),zfj (Rows.mono h λ v w'' he=>Fw hd hQ rest _ _ he)⟩
      |round l' f tmps assign body=>exact h.elim
      |_=>exact h.elim
     |halt x w'=>
      cases x with
      |panic v=>exact h
      |_=>exact h.elim
    ·exact absurd h.2 hQ
   ·next hw=>
    rw[if_neg hw] at h;exact⟨λ _ _=>trivial,Fw hd hQ rest _ _ h⟩
theorem Qi {n l id:Nat}{P:Program}{ops:Array Oper}{Q:Exit->Act->World->Prop}{S:World->Prop}{a:Act}{w:World}(hm:P.follows .mixedOrders=true)(hd:∀(i:Nat) (o:Oper),ops[i]? =some o->∀c,o.op≠ .defer c)(hQ:¬LetsOut Q)(hS:S w.drew)
 (h:S w.drew->wpAnyH P .any ops Q S ops.size (Array.replicate ops.size false) a w.drew):(Code.region id ops true).wpIn (Fence.wide.inRound l) n P Q a w:=
 wpIn_region_draw λ t=>Fw hd hQ _ _ _ (by
  simp only[Region.schedule,hm,Bool.true_or,if_true];exact wpAny_sound ops.size t _ a _ (wpAny_of_held _ _ _ _ (h hS)))
end Go.Proofs.Y.I
