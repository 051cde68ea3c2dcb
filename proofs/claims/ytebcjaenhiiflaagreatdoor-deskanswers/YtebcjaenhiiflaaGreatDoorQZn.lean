import Derived.Test.YtebcjaenhiiflaaGreatDoorQKVwFg
import Derived.Test.YtebcjaenhiiflaaGreatDoorQZaZc
import Derived.StringKeys
set_option maxHeartbeats 2000000
set_option maxRecDepth 100000
namespace Go.Proofs.Y.I
open Go Go.ChangeMaps Go.MapKept Go.WideShapes Go.Proofs.Tryz
open Go.RowKit Go.WideMaps Go.Maps Go.Lib
def Bb:List (List UInt8 × Int × Nat):=[([97,100,100],3,151),([98,108,111,99,107,115],0,152),([98,114,105,100,103,101,115],0,153),([99,117,116,115],0,154),([100,114,111,112],1,155),([101,100,103,101,115],0,156),([104,101,108,112],0,157),([110,111,100,101,115],1,158),([112,97,105,114,115],0,159),([114,101,108,111,97,100],0,160),([115,112,108,105,116,115],0,161),([116,104,114,105,99,101],0,162),([116,119,105,99,101],2,163),([119,97,121,115],2,164),([119,104,111,108,101],2,165)]
def Jc (d:Nat)(t:List UInt8 × Int × Nat):Value:=.agg #[t.2.1,.func (.func t.2.2) #[.pointer d] #[]]
def fill (d:Nat):DataW Value->List (List UInt8 × Int × Nat)->DataW Value
 |D,[]=>D
 |D,t::r=>fill d (D.put (.string t.1) (.held (Jc d t))) r
theorem zex:Keyed prog 9:=string_keyed underlying9
theorem zfi (l:List UInt8)(h:l.length<=1000000):keyOf prog 9 (.string ⟨l.toArray⟩)=some (.string l):=
 keyOf_string_mk underlying9 (by show l.toArray.size<=maxLen;rw[bZ];unfold maxLen;omega)
theorem ql (d mb B:Nat)(X:World)(hBm:B<=mb):∀(l:List (List UInt8 × Int × Nat)) (W:World) (N:Nat) (D:DataW Value),W.ownsMap prog 9 S.hold mb N D->N+l.length<=1000->(∀t∈l,t.1.length<=1000000)->Below B X W->B<=W->
 ∃Ws:Nat->World,Ws 0=W/\(∀j t,l[j]? =some t->(Instr.mapUpdate 110 (.map mb) (.string ⟨t.1.toArray⟩) (Jc d t)).run prog (Ws j)= .ok () (Ws (j+1)))/\(Ws l.length).ownsMap prog 9 S.hold mb (N+l.length) (fill d D l)/\Below B X (Ws l.length)
 |[],W,N,D,h,_,_,hb,_=>⟨λ _=>W,rfl,λ j t ht=>(by simp at ht),h,hb⟩
 |t::r,W,N,D,h,hN,ht,hb,hB=>by
  simp only[bD] at hN;obtain⟨w1,r1,m1,g1⟩:=h.update zex underlying110 (by unfold maxLen;omega) (zfi t.1 (ht t (by simp))) (val:=Jc d t) (d:=.held (Jc d t)) (ps:=[]) rfl;obtain⟨Ws,e0,hr,hm,EN⟩:=ql d mb B X hBm r w1 (N+1) _ m1 (by omega) (λ t k=>ht t (bS _ k)) (hb.grown g1 hB (λ k e=>by cases e;exact hBm)) (aD hB g1.size);refine⟨λ j=>match j with|0=>W|k+1=>Ws k,rfl,λ j u hu=>?_,?_,EN⟩
  ·cases j with
   |zero=>
    simp at hu;subst hu;show _=Result.ok () (Ws 0);rw[e0];exact r1
   |succ k=>exact hr k u (by simpa using hu)
  ·have e:N+(t::r).length=N+1+r.length:=by simp;omega
   rw[e];exact hm
theorem Yk (d:Nat)(w:World):Calls prog 87 #[.pointer d] w λ e w'=>e=Value.map w/\w'.ownsMap prog 9 S.hold w 15 (fill d (.map []) Bb)/\Below w w w':=by
 obtain⟨Ws,e0,hr,hm,hb⟩:=ql d w w w (aF _) Bb (w.alloc (.map #[] 0)) 0 (.map []) (World.ownsMap_made w prog 9 S.hold) (by decide) (by decide) (b_) (by simp);have DF:(Ws 15).ownsMap prog 9 S.hold w 15 (fill d (.map []) Bb):=hm;have j5:Below w w (Ws 15):=hb;have r0:(Instr.mapUpdate 110 (.map w) (.string ⟨#[97,100,100]⟩) (.agg #[(3:Int),.func (.func 151) #[.pointer d] #[]])).run prog (Ws 0)= .ok () (Ws 1):=hr 0 _ rfl;have r1:(Instr.mapUpdate 110 (.map w) (.string ⟨#[98,108,111,99,107,115]⟩) (.agg #[(0:Int),.func (.func 152) #[.pointer d] #[]])).run prog (Ws 1)= .ok () (Ws 2):=hr 1 _ rfl;have r2:(Instr.mapUpdate 110 (.map w) (.string ⟨#[98,114,105,100,103,101,115]⟩) (.agg #[(0:Int),.func (.func 153) #[.pointer d] #[]])).run prog (Ws 2)= .ok () (Ws 3):=hr 2 _ rfl;have r3:(Instr.mapUpdate 110 (.map w) (.string ⟨#[99,117,116,115]⟩) (.agg #[(0:Int),.func (.func 154) #[.pointer d] #[]])).run prog (Ws 3)= .ok () (Ws 4):=hr 3 _ rfl;have r4:(Instr.mapUpdate 110 (.map w) (.string ⟨#[100,114,111,112]⟩) (.agg #[(1:Int),.func (.func 155) #[.pointer d] #[]])).run prog (Ws 4)= .ok () (Ws 5):=hr 4 _ rfl;have r5:(Instr.mapUpdate 110 (.map w) (.string ⟨#[101,100,103,101,115]⟩) (.agg #[(0:Int),.func (.func 156) #[.pointer d] #[]])).run prog (Ws 5)= .ok () (Ws 6):=hr 5 _ rfl;have r6:(Instr.mapUpdate 110 (.map w) (.string ⟨#[104,101,108,112]⟩) (.agg #[(0:Int),.func (.func 157) #[.pointer d] #[]])).run prog (Ws 6)= .ok () (Ws 7):=hr 6 _ rfl;have r7:(Instr.mapUpdate 110 (.map w) (.string ⟨#[110,111,100,101,115]⟩) (.agg #[(1:Int),.func (.func 158) #[.pointer d] #[]])).run prog (Ws 7)= .ok () (Ws 8):=hr 7 _ rfl;have r8:(Instr.mapUpdate 110 (.map w) (.string ⟨#[112,97,105,114,115]⟩) (.agg #[(0:Int),.func (.func 159) #[.pointer d] #[]])).run prog (Ws 8)= .ok () (Ws 9):=hr 8 _ rfl;have r9:(Instr.mapUpdate 110 (.map w) (.string ⟨#[114,101,108,111,97,100]⟩) (.agg #[(0:Int),.func (.func 160) #[.pointer d] #[]])).run prog (Ws 9)= .ok () (Ws 10):=hr 9 _ rfl;have r10:(Instr.mapUpdate 110 (.map w) (.string ⟨#[115,112,108,105,116,115]⟩) (.agg #[(0:Int),.func (.func 161) #[.pointer d] #[]])).run prog (Ws 10)= .ok () (Ws 11):=hr 10 _ rfl;have r11:(Instr.mapUpdate 110 (.map w) (.string ⟨#[116,104,114,105,99,101]⟩) (.agg #[(0:Int),.func (.func 162) #[.pointer d] #[]])).run prog (Ws 11)= .ok () (Ws 12):=hr 11 _ rfl;have r12:(Instr.mapUpdate 110 (.map w) (.string ⟨#[116,119,105,99,101]⟩) (.agg #[(2:Int),.func (.func 163) #[.pointer d] #[]])).run prog (Ws 12)= .ok () (Ws 13):=hr 12 _ rfl;have r13:(Instr.mapUpdate 110 (.map w) (.string ⟨#[119,97,121,115]⟩) (.agg #[(2:Int),.func (.func 164) #[.pointer d] #[]])).run prog (Ws 13)= .ok () (Ws 14):=hr 13 _ rfl;have r14:(Instr.mapUpdate 110 (.map w) (.string ⟨#[119,104,111,108,101]⟩) (.agg #[(2:Int),.func (.func 165) #[.pointer d] #[]])).run prog (Ws 14)= .ok () (Ws 15):=hr 14 _ rfl;rw[e0] at r0;clear hr hm hb e0;generalize Ws 1=W1 at*;generalize Ws 2=W2 at*;generalize Ws 3=W3 at*;generalize Ws 4=W4 at*;generalize Ws 5=W5 at*;generalize Ws 6=W6 at*;generalize Ws 7=W7 at*;generalize Ws 8=W8 at*;generalize Ws 9=W9 at*;generalize Ws 10=W10 at*;generalize Ws 11=W11 at*;generalize Ws 12=W12 at*;generalize Ws 13=W13 at*;generalize Ws 14=W14 at*;generalize Ws 15=W15 at*;have HM:=kd DF;have HB:=kd j5;clear DF j5;have FC:=@run_makeMap prog;have hmf:∀(fn:Fn) (first cap:Array Value) (w:World),(Instr.makeFunc fn first cap).run prog w= .ok (.func fn first cap) w:=λ _ _ _ _=>rfl
 go_enter func87,ntmps87;go_wp2_with fail;go_ret;exact⟨rfl,HM.o,HB.o⟩
theorem zbm (d:Nat)(s:List UInt8)(z:DataW Value):∀(l:List (List UInt8 × Int × Nat)) (D:DataW Value),Tidy D->(l.map (·.1)).Nodup->
 Tidy (fill d D l)/\(fill d D l).atKey (.string s) z=match l.find? (λ t=>t.1==s) with|some t=>.held (Jc d t)|none=>D.atKey (.string s) z
 |[],D,h,_=>⟨h,rfl⟩
 |t::r,D,h,hn=>by
  rw[gW,gK] at hn;obtain⟨h1,h2⟩:=zbm d s z r (D.put (.string t.1) (.held (Jc d t))) (h.put (show WideAt.IsKeyLit (.string t.1) from trivial) _) hn.2;refine⟨h1,?_⟩;show(fill d (D.put (.string t.1) (.held (Jc d t))) r).atKey (.string s) z=_;rw[h2,List.find?_cons];by_cases e:t.1=s
  ·have:r.find? (λ t=>t.1==s)=none:=by
    rw[List.find?_eq_none];intro u hu k;exact hn.1 (aY.2 ⟨u,hu,by rw[e];simpa using k⟩)
   rw[this];simp only[e,beq_self_eq_true];rw[<-e,atKey_put_same h.isMap (show WideAt.IsKeyLit (.string t.1) from trivial)]
  ·have:(t.1==s)=false:=by simpa using e
   rw[this];simp only;cases r.find? (λ t=>t.1==s) with
   |some u=>rfl
   |none=>
    have l9:Lit.string s≠Lit.string t.1:=λ k=>e (by injection k with k;exact k.symm)
    exact atKey_put_other l9 _ _
def Ck (s:List UInt8):Option (List UInt8 × Int × Nat):=Bb.find? λ t=>t.1==s
theorem zok (w:World):(zeroValue 217).run prog w= .ok (.agg #[(0:Int),.nilFunc]) w:=by kernel_rfl
theorem qz {a b:Value}(h:DataW.held a= .held b):a=b:=by injection h
theorem zdd {w:World}{d dm N:Nat}(h:w.ownsMap prog 9 S.hold dm N (fill d (.map []) Bb))(s:List UInt8)(hs:s.length<=1000000):
 (Instr.lookup 110 (.map dm) (.string ⟨s.toArray⟩) true).run prog w= .ok (match Ck s with|some t=>.tuple #[Jc d t,true]|none=>.tuple #[.agg #[(0:Int),.nilFunc],false]) w:=by
 have q9:∀z,(fill d (.map []) Bb).atKey (.string s) z=match Ck s with|some t=>.held (Jc d t)|none=>z:=λ z=>by
  rw[(zbm d s z Bb (.map []) tidy_empty (by decide)).2];unfold Ck;cases Bb.find? λ t=>t.1==s <;> rfl
 obtain⟨es,clock,hb,F,_,hD⟩:=h;rw[hD] at q9;rcases Maps.fit_look true zex underlying110 (zok w) hb F (zfi s hs) with⟨AQ,_,hz⟩|⟨e0,y,_,_,AQ,hR,hz,_⟩
 ·rw[AQ]
  cases hq:Ck s with
  |none=>rfl
  |some t=>
   have h1:=q9 (.held .nilIface);rw[hz,hq] at h1;cases h1
 ·rw[AQ]
  cases hq:Ck s with
  |none=>
   have h1:=q9 (.held .nilIface);have h2:=q9 (.held (.bool true));rw[hz,hq] at h1 h2;rw[h1] at h2;cases h2
  |some t=>
   have h1:=q9 (.held .nilIface);rw[hz,hq] at h1;have h4:y=(.held e0.val,[]):=(dG hR).symm;have h3:e0.val=Jc d t:=qz ((congrArg Prod.fst h4).symm.trans h1);rw[h3];rfl
end Go.Proofs.Y.I
