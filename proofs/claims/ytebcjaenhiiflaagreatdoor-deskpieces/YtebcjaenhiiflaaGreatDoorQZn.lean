import Derived.Test.YtebcjaenhiiflaaGreatDoorQKVwFe
import Derived.Test.YtebcjaenhiiflaaGreatDoorQZaZc
import Derived.StringKeys
set_option maxHeartbeats 2000000
set_option maxRecDepth 100000
namespace Go.Proofs.YtebcjaenhiiflaaGreatDoor.I
open Go Go.ChangeMaps Go.MapKept Go.WideShapes
open Go.RowKit Go.WideMaps Go.Maps Go.Lib
def deedsT:List (List UInt8 × Int × Nat):=[([97,100,100],3,151),([98,108,111,99,107,115],0,152),([98,114,105,100,103,101,115],0,153),([99,117,116,115],0,154),([100,114,111,112],1,155),([101,100,103,101,115],0,156),([104,101,108,112],0,157),([110,111,100,101,115],1,158),([112,97,105,114,115],0,159),([114,101,108,111,97,100],0,160),([115,112,108,105,116,115],0,161),([116,104,114,105,99,101],0,162),([116,119,105,99,101],2,163),([119,97,121,115],2,164),([119,104,111,108,101],2,165)]
def deedV (d:Nat) (t:List UInt8 × Int × Nat):Value:=.agg #[.int .i64 t.2.1,.func (.func t.2.2) #[.pointer (some ⟨d,0,none⟩)] #[]]
def fill (d:Nat):DataW Value->List (List UInt8 × Int × Nat)->DataW Value
 | D,[]=>D
 | D,t::r=>fill d (D.put (.string t.1) (.held (deedV d t))) r
theorem law9:Keyed Tryz.prog 9:=string_keyed Tryz.underlying9
theorem key9 (l:List UInt8) (h:l.length<=1000000):keyOf Tryz.prog 9 (.string ⟨l.toArray⟩)=some (.string l):=
 keyOf_string_mk Tryz.underlying9 (by show l.toArray.size<=maxLen;rw [List.size_toArray];unfold maxLen;omega)
theorem fill_run (d mb B:Nat) (X:World) (hBm:B<=mb):∀(l:List (List UInt8 × Int × Nat)) (W:World) (N:Nat) (D:DataW Value),W.ownsMap Tryz.prog 9 S.hold mb N D->N+l.length<=1000->(∀t∈l,t.1.length<=1000000)->Below B X W->B<=W.heap.size->
 ∃Ws:Nat->World,Ws 0=W/\(∀j t,l[j]? =some t->(Instr.mapUpdate 110 (.map (some mb)) (.string ⟨t.1.toArray⟩) (deedV d t)).run Tryz.prog (Ws j)= .ok () (Ws (j+1)))/\(Ws l.length).ownsMap Tryz.prog 9 S.hold mb (N+l.length) (fill d D l)/\Below B X (Ws l.length)
 | [],W,N,D,h,_,_,hb,_=>⟨λ _=>W,rfl,λ j t ht=>(by simp at ht),h,hb⟩
 | t::r,W,N,D,h,hN,ht,hb,hB=>by
   simp only [List.length_cons] at hN;obtain ⟨w1,r1,m1,g1⟩:=h.update law9 Tryz.underlying110 (by unfold maxLen;omega) (key9 t.1 (ht t (by simp))) (val:=deedV d t) (d:=.held (deedV d t)) (ps:=[]) rfl;obtain ⟨Ws,e0,hr,hm,hbb⟩:=fill_run d mb B X hBm r w1 (N+1) _ m1 (by omega) (λ t k=>ht t (List.mem_cons_of_mem _ k)) (hb.grown g1 hB (λ k e=>by cases e;exact hBm)) (Nat.le_trans hB g1.size);refine ⟨λ j=>match j with | 0=>W | k+1=>Ws k,rfl,λ j u hu=>?_,?_,hbb⟩
   ·cases j with
    | zero=>
      simp at hu;subst hu;show _=Result.ok () (Ws 0);rw [e0];exact r1
    | succ k=>exact hr k u (by simpa using hu)
   ·have e:N+(t::r).length=N+1+r.length:=by simp;omega
    rw [e];exact hm
theorem deeds_any (d:Nat) (w:World):Calls Tryz.prog 87 #[.pointer (some ⟨d,0,none⟩)] w λ e w'=>e= .returned (.map (some w.heap.size))/\w'.ownsMap Tryz.prog 9 S.hold w.heap.size 15 (fill d (.map []) deedsT)/\Below w.heap.size w w':=by
 obtain ⟨Ws,e0,hr,hm,hb⟩:=fill_run d w.heap.size w.heap.size w (Nat.le_refl _) deedsT (w.alloc (.map #[] 0)) 0 (.map []) (World.ownsMap_made w Tryz.prog 9 S.hold) (by decide) (by decide) ((Below.refl _ _).alloc (Nat.le_refl _) _) (by simp);have hm2:(Ws 15).ownsMap Tryz.prog 9 S.hold w.heap.size 15 (fill d (.map []) deedsT):=hm;have hb2:Below w.heap.size w (Ws 15):=hb;have r0:(Instr.mapUpdate 110 (.map (some w.heap.size)) (.string ⟨#[97,100,100]⟩) (.agg #[.int .i64 3,.func (.func 151) #[.pointer (some ⟨d,0,none⟩)] #[]])).run Tryz.prog (Ws 0)= .ok () (Ws 1):=hr 0 _ rfl;have r1:(Instr.mapUpdate 110 (.map (some w.heap.size)) (.string ⟨#[98,108,111,99,107,115]⟩) (.agg #[.int .i64 0,.func (.func 152) #[.pointer (some ⟨d,0,none⟩)] #[]])).run Tryz.prog (Ws 1)= .ok () (Ws 2):=hr 1 _ rfl;have r2:(Instr.mapUpdate 110 (.map (some w.heap.size)) (.string ⟨#[98,114,105,100,103,101,115]⟩) (.agg #[.int .i64 0,.func (.func 153) #[.pointer (some ⟨d,0,none⟩)] #[]])).run Tryz.prog (Ws 2)= .ok () (Ws 3):=hr 2 _ rfl;have r3:(Instr.mapUpdate 110 (.map (some w.heap.size)) (.string ⟨#[99,117,116,115]⟩) (.agg #[.int .i64 0,.func (.func 154) #[.pointer (some ⟨d,0,none⟩)] #[]])).run Tryz.prog (Ws 3)= .ok () (Ws 4):=hr 3 _ rfl;have r4:(Instr.mapUpdate 110 (.map (some w.heap.size)) (.string ⟨#[100,114,111,112]⟩) (.agg #[.int .i64 1,.func (.func 155) #[.pointer (some ⟨d,0,none⟩)] #[]])).run Tryz.prog (Ws 4)= .ok () (Ws 5):=hr 4 _ rfl;have r5:(Instr.mapUpdate 110 (.map (some w.heap.size)) (.string ⟨#[101,100,103,101,115]⟩) (.agg #[.int .i64 0,.func (.func 156) #[.pointer (some ⟨d,0,none⟩)] #[]])).run Tryz.prog (Ws 5)= .ok () (Ws 6):=hr 5 _ rfl;have r6:(Instr.mapUpdate 110 (.map (some w.heap.size)) (.string ⟨#[104,101,108,112]⟩) (.agg #[.int .i64 0,.func (.func 157) #[.pointer (some ⟨d,0,none⟩)] #[]])).run Tryz.prog (Ws 6)= .ok () (Ws 7):=hr 6 _ rfl;have r7:(Instr.mapUpdate 110 (.map (some w.heap.size)) (.string ⟨#[110,111,100,101,115]⟩) (.agg #[.int .i64 1,.func (.func 158) #[.pointer (some ⟨d,0,none⟩)] #[]])).run Tryz.prog (Ws 7)= .ok () (Ws 8):=hr 7 _ rfl;have r8:(Instr.mapUpdate 110 (.map (some w.heap.size)) (.string ⟨#[112,97,105,114,115]⟩) (.agg #[.int .i64 0,.func (.func 159) #[.pointer (some ⟨d,0,none⟩)] #[]])).run Tryz.prog (Ws 8)= .ok () (Ws 9):=hr 8 _ rfl;have r9:(Instr.mapUpdate 110 (.map (some w.heap.size)) (.string ⟨#[114,101,108,111,97,100]⟩) (.agg #[.int .i64 0,.func (.func 160) #[.pointer (some ⟨d,0,none⟩)] #[]])).run Tryz.prog (Ws 9)= .ok () (Ws 10):=hr 9 _ rfl;have r10:(Instr.mapUpdate 110 (.map (some w.heap.size)) (.string ⟨#[115,112,108,105,116,115]⟩) (.agg #[.int .i64 0,.func (.func 161) #[.pointer (some ⟨d,0,none⟩)] #[]])).run Tryz.prog (Ws 10)= .ok () (Ws 11):=hr 10 _ rfl;have r11:(Instr.mapUpdate 110 (.map (some w.heap.size)) (.string ⟨#[116,104,114,105,99,101]⟩) (.agg #[.int .i64 0,.func (.func 162) #[.pointer (some ⟨d,0,none⟩)] #[]])).run Tryz.prog (Ws 11)= .ok () (Ws 12):=hr 11 _ rfl;have r12:(Instr.mapUpdate 110 (.map (some w.heap.size)) (.string ⟨#[116,119,105,99,101]⟩) (.agg #[.int .i64 2,.func (.func 163) #[.pointer (some ⟨d,0,none⟩)] #[]])).run Tryz.prog (Ws 12)= .ok () (Ws 13):=hr 12 _ rfl;have r13:(Instr.mapUpdate 110 (.map (some w.heap.size)) (.string ⟨#[119,97,121,115]⟩) (.agg #[.int .i64 2,.func (.func 164) #[.pointer (some ⟨d,0,none⟩)] #[]])).run Tryz.prog (Ws 13)= .ok () (Ws 14):=hr 13 _ rfl;have r14:(Instr.mapUpdate 110 (.map (some w.heap.size)) (.string ⟨#[119,104,111,108,101]⟩) (.agg #[.int .i64 2,.func (.func 165) #[.pointer (some ⟨d,0,none⟩)] #[]])).run Tryz.prog (Ws 14)= .ok () (Ws 15):=hr 14 _ rfl;rw [e0] at r0;clear hr hm hb e0;generalize Ws 1=W1 at*;generalize Ws 2=W2 at*;generalize Ws 3=W3 at*;generalize Ws 4=W4 at*;generalize Ws 5=W5 at*;generalize Ws 6=W6 at*;generalize Ws 7=W7 at*;generalize Ws 8=W8 at*;generalize Ws 9=W9 at*;generalize Ws 10=W10 at*;generalize Ws 11=W11 at*;generalize Ws 12=W12 at*;generalize Ws 13=W13 at*;generalize Ws 14=W14 at*;generalize Ws 15=W15 at*;have HM:=kd hm2;have HB:=kd hb2;clear hm2 hb2;have hmm:=@run_makeMap Tryz.prog;have hmf:∀(fn:Fn) (first cap:Array Value) (w:World),(Instr.makeFunc fn first cap).run Tryz.prog w= .ok (.func fn first cap) w:=λ _ _ _ _=>rfl
 go_enter Tryz.func87,Tryz.ntmps87;go_wp2_with fail;go_ret;exact ⟨rfl,HM.out,HB.out⟩
theorem fill_at (d:Nat) (s:List UInt8) (z:DataW Value):∀(l:List (List UInt8 × Int × Nat)) (D:DataW Value),Tidy D->(l.map (·.1)).Nodup->
 Tidy (fill d D l)/\(fill d D l).atKey (.string s) z=match l.find? (λ t=>t.1==s) with | some t=>.held (deedV d t) | none=>D.atKey (.string s) z
 | [],D,h,_=>⟨h,rfl⟩
 | t::r,D,h,hn=>by
   rw [List.map_cons,List.nodup_cons] at hn;obtain ⟨h1,h2⟩:=fill_at d s z r (D.put (.string t.1) (.held (deedV d t))) (h.put (show WideAt.IsKeyLit (.string t.1) from trivial) _) hn.2;refine ⟨h1,?_⟩;show (fill d (D.put (.string t.1) (.held (deedV d t))) r).atKey (.string s) z=_;rw [h2,List.find?_cons];by_cases e:t.1=s
   ·have:r.find? (λ t=>t.1==s)=none:=by
     rw [List.find?_eq_none];intro u hu k;exact hn.1 (List.mem_map.2 ⟨u,hu,by rw [e];simpa using k⟩)
    rw [this];simp only [e,beq_self_eq_true];rw [<-e,atKey_put_same h.isMap (show WideAt.IsKeyLit (.string t.1) from trivial)]
   ·have:(t.1==s)=false:=by simpa using e
    rw [this];simp only;cases r.find? (λ t=>t.1==s) with
    | some u=>rfl
    | none=>
      have hne:Lit.string s≠Lit.string t.1:=λ k=>e (by injection k with k;exact k.symm)
      exact atKey_put_other hne _ _
def deedOf (s:List UInt8):Option (List UInt8 × Int × Nat):=deedsT.find? λ t=>t.1==s
theorem zero217 (w:World):(zeroValue 217).run Tryz.prog w= .ok (.agg #[.int .i64 0,.nilFunc]) w:=by kernel_rfl
theorem held_inj {a b:Value} (h:DataW.held a= .held b):a=b:=by injection h
theorem deeds_look {w:World} {d dm N:Nat} (h:w.ownsMap Tryz.prog 9 S.hold dm N (fill d (.map []) deedsT)) (s:List UInt8) (hs:s.length<=1000000):
 (Instr.lookup 110 (.map (some dm)) (.string ⟨s.toArray⟩) true).run Tryz.prog w= .ok (match deedOf s with | some t=>.tuple #[deedV d t,.bool true] | none=>.tuple #[.agg #[.int .i64 0,.nilFunc],.bool false]) w:=by
 have hat:∀z,(fill d (.map []) deedsT).atKey (.string s) z=match deedOf s with | some t=>.held (deedV d t) | none=>z:=λ z=>by
  rw [(fill_at d s z deedsT (.map []) tidy_empty (by decide)).2];unfold deedOf;cases deedsT.find? λ t=>t.1==s <;> rfl
 obtain ⟨es,clock,hb,F,_,hD⟩:=h;rw [hD] at hat;rcases Maps.fit_look true law9 Tryz.underlying110 (zero217 w) hb F (key9 s hs) with ⟨hrun,_,hz⟩ | ⟨e0,y,_,_,hrun,hR,hz,_⟩
 ·rw [hrun]
  cases hq:deedOf s with
  | none=>rfl
  | some t=>
    have h1:=hat (.held .nilIface);rw [hz,hq] at h1;cases h1
 ·rw [hrun]
  cases hq:deedOf s with
  | none=>
    have h1:=hat (.held .nilIface);have h2:=hat (.held (.bool true));rw [hz,hq] at h1 h2;rw [h1] at h2;cases h2
  | some t=>
    have h1:=hat (.held .nilIface);rw [hz,hq] at h1;have h4:y=(.held e0.val,[]):=(Option.some.inj hR).symm;have h3:e0.val=deedV d t:=held_inj ((congrArg Prod.fst h4).symm.trans h1);rw [h3];rfl
end Go.Proofs.YtebcjaenhiiflaaGreatDoor.I
