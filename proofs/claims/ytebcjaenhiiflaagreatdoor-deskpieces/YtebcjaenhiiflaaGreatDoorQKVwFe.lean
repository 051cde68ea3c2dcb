import Derived.Test.YtebcjaenhiiflaaGreatDoorQKVpFDe
import Derived.DeepKeys4
import Derived.Deep.DeepFit
import Derived.Maps.AppendAt
set_option maxHeartbeats 4000000
set_option maxRecDepth 100000
namespace Go.Proofs.YtebcjaenhiiflaaGreatDoor.S
open Go.RowKit Go.WideMaps Go.Maps Go.ChangeShapes
theorem laid101:laidOutB Tryz.prog=true:=by kernel_rfl
theorem row101:208<Tryz.prog.types.size:=of_decide_eq_true (by kernel_rfl)
theorem wide101:(match Tryz.prog.underlying 208 with | some (.array _ _) | some (.struct _)=>true | _=>false)=true:=by kernel_rfl
theorem law208:Keyed Tryz.prog 208:=Keyed.of_law (deep_law_laid laid101 (m:=2) (by omega) row101 (by kernel_rfl) wide101)
theorem kt101:Tryz.prog.keyType 208=true:=by kernel_rfl
theorem fm101 (p q:Int):(Value.agg #[.int .u64 p,.int .u64 q]).formed Tryz.prog 208=true:=by kernel_rfl
theorem co101:Tryz.prog.cellsOf 208=2:=by kernel_rfl
theorem co99:Tryz.prog.cellsOf 132=1:=by kernel_rfl
theorem ts101:∃m,Tryz.prog.types.size=m+1:=⟨Tryz.prog.types.size-1,by have:=row101;omega⟩
theorem wf_u64 {x:Nat} (h:x<18446744073709551616):(Lit.int .u64 (x:Int)).wf=true:=by
 simp only [Lit.wf,IntKind.min,IntKind.max,IntKind.signed,IntKind.bits];simp;omega
theorem arr_key_of {P:Program} {k t m:Nat} (hu:P.underlying k=some (.array 2 t)) (ht:P.underlying t=some (.int .u64)) (ck:P.cellsOf k=2) (ct:P.cellsOf t=1) (hs:P.types.size=m+1) (hkt:P.keyType k=true)
 {p q:Int} (hf:(Value.agg #[.int .u64 p,.int .u64 q]).formed P k=true) (hp:(Lit.int .u64 p).wf=true) (hq:(Lit.int .u64 q).wf=true):keyOf P k (.agg #[.int .u64 p,.int .u64 q])=some (.string (keyBytes [.int .u64 p,.int .u64 q])):=by
 unfold keyOf;rw [hu];simp only [hkt,hf,Bool.and_self,if_true,hs];have e1:∀x:Int,(Lit.int .u64 x).wf=true->P.keyLits (m+1) t [.int .u64 x]=some [.int .u64 x]:=λ x hx=>by simp [Program.keyLits,ht,hx]
 have:P.keyLits (m+1+1) k (Value.agg #[.int .u64 p,.int .u64 q]).cells.toList=some [.int .u64 p,.int .u64 q]:=by
  unfold Program.keyLits;rw [hu];simp [Value.cells,ck,ct,e1 p hp,e1 q hq,List.range_succ]
 rw [this];rfl
def rk (x:Nat):Lit:=.string (keyBytes [.int .u64 (lo64 x:Int),.int .u64 (hi64 x:Int)])
theorem rk_key {x:Nat} (h:x<340282366920938463463374607431768211456):keyOf Tryz.prog 208 (.agg #[.int .u64 (lo64 x:Int),.int .u64 (hi64 x:Int)])=some (rk x):=by
 obtain ⟨m,hm⟩:=ts101;exact arr_key_of Tryz.underlying208 Tryz.underlying132 co101 co99 hm kt101 (fm101 _ _) (wf_u64 (lo_lt x)) (wf_u64 (hi_lt h))
theorem rk_inj {x y:Nat} (hx:x<340282366920938463463374607431768211456) (hy:y<340282366920938463463374607431768211456) (h:rk x=rk y):x=y:=by
 have:=law208.inj (rk_key hx) (h▸rk_key hy);simp only [Value.agg.injEq,Array.mk.injEq,List.cons.injEq,Value.int.injEq,true_and,and_true] at this;exact lohi (by omega) (by omega)
theorem rk_lit (x:Nat):WideAt.IsKeyLit (rk x):=trivial
structure Ga (D:DataW Unit) (Dn:Edg->Prop) (f:Edg->Nat):Prop where
 yes:∀y,(∃e,Dn e/\f e=y)->∃zs,D.atKey (rk y) .nil= .slice (lits .i64 zs) []/\∀x,x∈zs↔∃d,Dn d/\f d=y/\d.1=x
 no:∀y,y<340282366920938463463374607431768211456->(¬∃e,Dn e/\f e=y)->D.atKey (rk y) .nil= .nil
 key:∀kl,Maps.has D kl=true↔∃e,Dn e/\kl=rk (f e)
 tidy:Tidy D
theorem Ga.start (f:Edg->Nat):Ga (.map []) (λ _=>False) f:=
 ⟨λ y ⟨_,h,_⟩=>h.elim,λ y _ _=>rfl,λ kl=>by simp [Maps.has],tidy_empty⟩
theorem Ga.congr {D:DataW Unit} {Dn Dn':Edg->Prop} {f:Edg->Nat} (h:Ga D Dn f) (e:∀d,Dn d↔Dn' d):Ga D Dn' f:=by
 have:Dn=Dn':=funext λ d=>propext (e d)
 rw [<-this];exact h
theorem Ga.more {D:DataW Unit} {Dn:Edg->Prop} {f:Edg->Nat} (h:Ga D Dn f) (hs:∀d,f d<340282366920938463463374607431768211456) (e:Edg) {v v':Value} {zs:List Int} {w:World} {base:Nat} (hat:D.atKey (rk (f e)) .nil=rowDatum .i64 v zs) (ho:w.ownsInts base 3 .i64 v zs) (hv':∀n c,v'≠ .slice none n c):
 Ga (D.put (rk (f e)) (rowDatum .i64 v' (zs++[e.1]))) (λ d=>Dn d\/d=e) f:=by
 have hrd:(rowDatum .i64 v' (zs++[e.1]):DataW Unit)= .slice (lits .i64 (zs++[e.1])) []:=by
  unfold rowDatum;split
  ·next n c=>exact absurd rfl (hv' n c)
  ·rfl
 have hold:∀x,x∈zs↔∃d,Dn d/\f d=f e/\d.1=x:=by
  by_cases hex:∃d,Dn d/\f d=f e
  ·obtain ⟨ys,h1,h2⟩:=h.yes (f e) hex
   rw [h1] at hat;unfold rowDatum at hat;split at hat
   ·cases hat
   ·injection hat with hat _
    rw [<-lits_inj hat];exact h2
  ·have h1:=h.no (f e) (hs e) hex
   rw [h1] at hat;have hz:zs=[]:=by
    unfold rowDatum at hat;split at hat
    ·rcases ho.1.2 with ⟨_,h0⟩ | ⟨g,cap,cur,hh,_⟩
     ·exact List.eq_nil_of_length_eq_zero h0
     ·cases hh
    ·cases hat
   intro x;rw [hz];constructor
   ·intro hx;simp at hx
   ·rintro ⟨d,h2,h3,_⟩;exact absurd ⟨d,h2,h3⟩ hex
 rw [hrd];refine ⟨λ y hy=>?_,λ y hyl hy=>?_,λ kl=>?_,h.tidy.put (rk_lit _) _⟩
 ·by_cases hye:y=f e
  ·rw [hye,atKey_put_same h.tidy.isMap (rk_lit _)]
   refine ⟨_,rfl,λ x=>?_⟩;rw [List.mem_append,hold,List.mem_singleton];constructor
   ·rintro (⟨d,h1,h2,h3⟩ | rfl)
    ·exact ⟨d,.inl h1,h2,h3⟩
    ·exact ⟨e,.inr rfl,rfl,rfl⟩
   ·rintro ⟨d,h1 | rfl,h2,h3⟩
    ·exact .inl ⟨d,h1,h2,h3⟩
    ·exact .inr h3.symm
  ·obtain ⟨d,hd,hdy⟩:=hy
   have hdn:Dn d:=hd.resolve_right (λ k=>hye (by rw [<-hdy,k]));have hyl:y<340282366920938463463374607431768211456:=by rw [<-hdy];exact hs d
   rw [atKey_put_other (λ k=>hye (rk_inj hyl (hs e) k))];obtain ⟨ys,h1,h2⟩:=h.yes y ⟨d,hdn,hdy⟩;refine ⟨ys,h1,λ x=>?_⟩;rw [h2];constructor
   ·rintro ⟨d,k1,k2,k3⟩;exact ⟨d,.inl k1,k2,k3⟩
   ·rintro ⟨d,k1 | rfl,k2,k3⟩
    ·exact ⟨d,k1,k2,k3⟩
    ·exact absurd k2.symm hye
 ·have hye:y≠f e:=λ k=>hy ⟨e,.inr rfl,k.symm⟩
  rw [atKey_put_other (λ k=>hye (rk_inj hyl (hs e) k))];exact h.no y hyl (λ ⟨d,k1,k2⟩=>hy ⟨d,.inl k1,k2⟩)
 ·by_cases hk:kl=rk (f e)
  ·rw [hk,has_put_same h.tidy.isMap (rk_lit _)]
   exact ⟨λ _=>⟨e,.inr rfl,rfl⟩,λ _=>rfl⟩
  ·rw [has_put_other hk,h.key]
   constructor
   ·rintro ⟨d,k1,k2⟩;exact ⟨d,.inl k1,k2⟩
   ·rintro ⟨d,k1 | rfl,k2⟩
    ·exact ⟨d,k1,k2⟩
    ·exact absurd k2 hk
end Go.Proofs.YtebcjaenhiiflaaGreatDoor.S
namespace Go.Proofs.YtebcjaenhiiflaaGreatDoor.S.X
open Go.RowKit Go.WideMaps Go.Maps
def TogPost (w:World) (n:Nat) (R:List (Int × Int × Int)) (inn:Nat->Bool) (e:Ending) (w':World):Prop:=
 ∃p b,e= .returned (.pointer (some ⟨p,0,none⟩))/\SetsAt w' p b (joins (List.range n) (R.filter (kp inn)))/\w.heap.size<=p/\w.heap.size<=b/\Below w.heap.size w w'
theorem take_kp {R:List (Int × Int × Int)} {k:Nat} {x:Int × Int × Int} (pf:Int × Int × Int->Bool) (h:R[k]? =some x):(R.take (k+1)).filter pf=(R.take k).filter pf++(if pf x then [x] else []):=G.take_filter pf h
theorem good_take {n:Nat} {R:List (Int × Int × Int)} (hin:Inn n R) (k:Nat) (inn:Nat->Bool):Good n (joins (List.range n) ((R.take k).filter (kp inn))):=
 good_joins _ _ (good_range n) (λ d hd=>by
  have:=hin d (List.mem_of_mem_take (List.mem_filter.1 hd).1);exact ⟨this.1,this.2.1⟩)
theorem in1_any (x:Nat) (c a:Nat) (w:World) (hc:w.cell? ⟨c,0,none⟩=some (.int .i64 (a:Int))):
 Calls Tryz.prog 148 #[.int .i64 (x:Int),.pointer (some ⟨c,0,none⟩)] w λ e w'=>e= .returned (.bool (decide (x≠a)))/\w'=w:=by
 by_cases hxa:x=a
 ·subst hxa
  have hb:((x:Int) != (x:Int))=false:=by simp
  go_enter Tryz.func148,Tryz.ntmps148;go_wp2_with fail;go_ret;exact ⟨by simp,rfl⟩
 ·have hb:((x:Int)==(a:Int))=false:=beq_eq_false_iff_ne.2 (by omega)
  go_enter Tryz.func148,Tryz.ntmps148;go_wp2_with fail;go_ret;exact ⟨by simp [hxa];omega,rfl⟩
theorem in2_any (x:Nat) (c d a b:Nat) (w:World) (hc:w.cell? ⟨c,0,none⟩=some (.int .i64 (a:Int))) (hd:w.cell? ⟨d,0,none⟩=some (.int .i64 (b:Int))):
 Calls Tryz.prog 149 #[.int .i64 (x:Int),.pointer (some ⟨c,0,none⟩),.pointer (some ⟨d,0,none⟩)] w λ e w'=>e= .returned (.bool (decide (x≠a/\x≠b)))/\w'=w:=by
 by_cases hxa:x=a
 ·subst hxa
  have hb:((x:Int)==(x:Int))=true:=by simp
  go_enter Tryz.func149,Tryz.ntmps149;go_wp2_with fail;go_ret;exact ⟨by simp,rfl⟩
 ·have hb:((x:Int)==(a:Int))=false:=beq_eq_false_iff_ne.2 (by omega)
  by_cases hxb:x=b
  ·subst hxb
   have hb2:((x:Int)==(x:Int))=true:=by simp
   go_enter Tryz.func149,Tryz.ntmps149;go_wp2_with fail;go_ret;exact ⟨by simp,rfl⟩
  ·have hb2:((x:Int)==(b:Int))=false:=beq_eq_false_iff_ne.2 (by omega)
   go_enter Tryz.func149,Tryz.ntmps149;go_wp2_with fail;go_ret;exact ⟨by simp [hxa,hxb];omega,rfl⟩
theorem together_any (n B0 f:Nat) (bs:List Value) (hfb:(∃c1,f=148/\bs=[.pointer (some ⟨c1,0,none⟩)])\/∃c1 c2,f=149/\bs=[.pointer (some ⟨c1,0,none⟩),.pointer (some ⟨c2,0,none⟩)]) (inn:Nat->Bool) (u:Value) (R:List (Int × Int × Int)) (w:World) (hR:G.Owns w B0 61 u R) (hn:n<=40) (hin:Inn n R) (hl:R.length<=120)
 (hf:∀W (x:Nat),Below w.heap.size w W->Calls Tryz.prog f (.int .i64 (x:Int)::bs).toArray W λ e w'=>e= .returned (.bool (inn x))/\w'=W):
 Calls Tryz.prog 147 #[.int .i64 (n:Int),u,.func (.func f) #[] bs.toArray] w (TogPost w n R inn):=by
 rcases hfb with ⟨c1,rfl,rfl⟩ | ⟨c1,c2,rfl,rfl⟩
 all_goals
  have HF:=kd hf;have HR:Hid (G.Owns w B0 61 u R/\Inn n R):=⟨hR,hin⟩;obtain ⟨m,hm⟩:∃m,R.length=m:=⟨_,rfl⟩;have HM:Hid (R.length=m):=hm;obtain ⟨va,vc,hv⟩:=hR.slice_len;rw [hm] at hv hl;subst hv;clear hf hR hm hin;go_enter Tryz.func147,Tryz.ntmps147;go_wp2_with fail;refine (new_in n w hn).mono ?_;rintro e w1 ⟨rfl,hs1,hb1⟩;have HS1:Hid (SetsAt w1 (w.heap.size+1) w.heap.size (List.range n)/\Below w.heap.size w w1):=⟨hs1,hb1⟩;clear hs1 hb1;go_wp2_with fail;go_loopw [18] (λ s18 wq=>∃k:Nat,k<=m/\s18= .int .i64 k/\SetsAt wq (w.heap.size+1) w.heap.size (joins (List.range n) ((R.take k).filter (kp inn)))/\Below w.heap.size w wq) (λ s18 _=>m-(intOf s18).toNat)
  case atStart=>exact ⟨0,Nat.zero_le _,rfl,HS1.out.1,HS1.out.2⟩
  case round=>
   clear HS1;obtain ⟨k,hk,rfl,hs,hb⟩:=hrel;have HS:Hid (SetsAt wr (w.heap.size+1) w.heap.size (joins (List.range n) ((R.take k).filter (kp inn)))):=hs;have HB:Hid (Below w.heap.size w wr):=hb;clear hs hb;by_cases hlt:k<m
   ·obtain ⟨x0,x1,x2,hx⟩:∃x0 x1 x2,R[k]? =some (x0,x1,x2):=⟨_,_,_,List.getElem?_eq_getElem (by rw [HM.out];exact hlt)⟩
    have HX:Hid (R[k]? =some (x0,x1,x2)):=hx;obtain ⟨g,hva⟩:∃g,va=some ⟨g,0,none⟩:=by
     rcases HR.out.1.shape with ⟨_,e⟩ | ⟨g,cap,e,_⟩
     ·rw [e] at hx;simp at hx
     ·injection e with e1 _ _
      exact ⟨g,e1⟩
    obtain ⟨r0,r1,r2⟩:=(HR.out.1.below HB.out).at (g:=g) (by rw [hva];rfl) hx;have hnat:=HR.out.2 _ (List.mem_of_getElem? hx);obtain ⟨xa,hxa⟩:∃xa,ea (x0,x1,x2)=xa:=⟨_,rfl⟩;obtain ⟨xb,hxb⟩:∃xb,eb (x0,x1,x2)=xb:=⟨_,rfl⟩;rw [hxa,hxb] at hnat;obtain ⟨han,hbn,h1,h2⟩:=hnat;simp only at h1 h2;subst h1;subst h2;have HE:Hid (ea (x0,(xa:Int),(xb:Int))=xa/\eb (x0,(xa:Int),(xb:Int))=xb):=⟨hxa,hxb⟩;have r0':wr.cell? ⟨g,k*3,none⟩=some (.int .i64 x0):=r0;have r1':wr.cell? ⟨g,k*3+1,none⟩=some (.int .i64 (xa:Int)):=r1;have r2':wr.cell? ⟨g,k*3+2,none⟩=some (.int .i64 (xb:Int)):=r2;clear r0 r1 r2 hx hxa hxb;subst hva;have hb1:Below wr.heap.size wr (wr.alloc (.cells #[.int .i64 x0,.int .i64 (xa:Int),.int .i64 (xb:Int)] 61)):=(Below.refl _ _).alloc (Nat.le_refl _) _;have HB1:Hid (Below w.heap.size w (wr.alloc (.cells #[.int .i64 x0,.int .i64 (xa:Int),.int .i64 (xb:Int)] 61))):=HB.out.trans (hb1.mono HB.out.size);have HSW:Hid (SetsAt (wr.alloc (.cells #[.int .i64 x0,.int .i64 (xa:Int),.int .i64 (xb:Int)] 61)) (w.heap.size+1) w.heap.size (joins (List.range n) ((R.take k).filter (kp inn)))):=HS.out.below hb1 HS.out.plt HS.out.blt;have hc1:(wr.alloc (.cells #[.int .i64 x0,.int .i64 (xa:Int),.int .i64 (xb:Int)] 61)).cell? ⟨wr.heap.size,1,none⟩=some (.int .i64 (xa:Int)):=by simp
    have hc2:(wr.alloc (.cells #[.int .i64 x0,.int .i64 (xa:Int),.int .i64 (xb:Int)] 61)).cell? ⟨wr.heap.size,2,none⟩=some (.int .i64 (xb:Int)):=by simp
    clear hb1;cases hia:inn xa with
    | true=>
      cases hib:inn xb with
      | true=>
        as_aux_lemma=>
        have HK:Hid (kp inn (x0,(xa:Int),(xb:Int))=true):=by
         show kp inn (x0,(xa:Int),(xb:Int))=true;unfold kp;rw [HE.out.1,HE.out.2,hia,hib];rfl
        go_wp2_with fail;refine (HF.out _ xa HB1.out).mono ?_;rintro e w2 ⟨rfl,rfl⟩;rw [hia];go_wp2_with fail;refine (HF.out _ xb HB1.out).mono ?_;rintro e w2 ⟨rfl,rfl⟩;rw [hib];go_wp2_with fail;have g:=good_take HR.out.2 k inn;refine (join_in xa xb (w.heap.size+1) w.heap.size _ _ HSW.out (by rw [g.len];exact han) (by rw [g.len];exact hbn) (by rw [g.len];exact hn)).mono ?_;rintro e w3 ⟨rfl,hs3,hb3⟩;have HF3:Hid (SetsAt w3 (w.heap.size+1) w.heap.size (joins (List.range n) ((R.take (k+1)).filter (kp inn)))/\Below w.heap.size w w3):=by
         refine ⟨?_,HB1.out.trans (hb3.below (Nat.le_refl _) HB1.out.size)⟩;rw [take_kp (kp inn) HX.out,HK.out,if_pos rfl,joins_snoc,HE.out.1,HE.out.2];exact hs3
        clear hs3 hb3 g HSW HS HB HB1 hc1 hc2 hia hib r0' r1' r2';go_wp2_with fail;go_roundw;case rel=>exact ⟨k+1,by omega,by go_num,HF3.out.1,HF3.out.2⟩
        case measure=>simp [intOf];omega
      | false=>
        as_aux_lemma=>
        have HK:Hid (SetsAt (wr.alloc (.cells #[.int .i64 x0,.int .i64 (xa:Int),.int .i64 (xb:Int)] 61)) (w.heap.size+1) w.heap.size (joins (List.range n) ((R.take (k+1)).filter (kp inn)))):=by
         have:kp inn (x0,(xa:Int),(xb:Int))=false:=by unfold kp;rw [HE.out.1,HE.out.2,hia,hib];rfl
         have h2:=HSW.out;show SetsAt _ _ _ _;rw [take_kp (kp inn) HX.out,this]
         simpa using h2
        go_wp2_with fail;refine (HF.out _ xa HB1.out).mono ?_;rintro e w2 ⟨rfl,rfl⟩;rw [hia];go_wp2_with fail;refine (HF.out _ xb HB1.out).mono ?_;rintro e w2 ⟨rfl,rfl⟩;rw [hib];clear hia hib;go_wp2_with fail;go_roundw;case rel=>exact ⟨k+1,by omega,by go_num,HK.out,HB1.out⟩
        case measure=>simp [intOf];omega
    | false=>
      as_aux_lemma=>
      have HK:Hid (SetsAt (wr.alloc (.cells #[.int .i64 x0,.int .i64 (xa:Int),.int .i64 (xb:Int)] 61)) (w.heap.size+1) w.heap.size (joins (List.range n) ((R.take (k+1)).filter (kp inn)))):=by
       have:kp inn (x0,(xa:Int),(xb:Int))=false:=by unfold kp;rw [HE.out.1,HE.out.2,hia];rfl
       have h2:=HSW.out;show SetsAt _ _ _ _;rw [take_kp (kp inn) HX.out,this]
       simpa using h2
      go_wp2_with fail;refine (HF.out _ xa HB1.out).mono ?_;rintro e w2 ⟨rfl,rfl⟩;rw [hia];clear hia;go_wp2_with fail;go_roundw;case rel=>exact ⟨k+1,by omega,by go_num,HK.out,HB1.out⟩
      case measure=>simp [intOf];omega
   ·have hke:k=m:=by omega
    have HF3:Hid (SetsAt wr (w.heap.size+1) w.heap.size (joins (List.range n) (R.filter (kp inn)))):=by
     have h2:=HS.out;rw [hke,<-HM.out,List.take_length] at h2;exact h2
    clear hke HS;go_wp2_with fail;go_ret;exact ⟨_,_,rfl,HF3.out,by omega,by omega,HB.out⟩
theorem together_one (n B0 c1:Nat) (inn:Nat->Bool) (u:Value) (R:List (Int × Int × Int)) (w:World) (hR:G.Owns w B0 61 u R) (hn:n<=40) (hin:Inn n R) (hl:R.length<=120)
 (hf:∀W (x:Nat),Below w.heap.size w W->Calls Tryz.prog 148 #[.int .i64 (x:Int),.pointer (some ⟨c1,0,none⟩)] W λ e w'=>e= .returned (.bool (inn x))/\w'=W):
 Calls Tryz.prog 147 #[.int .i64 (n:Int),u,.func (.func 148) #[] #[.pointer (some ⟨c1,0,none⟩)]] w (TogPost w n R inn):=together_any n B0 148 _ (.inl ⟨c1,rfl,rfl⟩) inn u R w hR hn hin hl hf
theorem together_two (n B0 c1 c2:Nat) (inn:Nat->Bool) (u:Value) (R:List (Int × Int × Int)) (w:World) (hR:G.Owns w B0 61 u R) (hn:n<=40) (hin:Inn n R) (hl:R.length<=120)
 (hf:∀W (x:Nat),Below w.heap.size w W->Calls Tryz.prog 149 #[.int .i64 (x:Int),.pointer (some ⟨c1,0,none⟩),.pointer (some ⟨c2,0,none⟩)] W λ e w'=>e= .returned (.bool (inn x))/\w'=W):
 Calls Tryz.prog 147 #[.int .i64 (n:Int),u,.func (.func 149) #[] #[.pointer (some ⟨c1,0,none⟩),.pointer (some ⟨c2,0,none⟩)]] w (TogPost w n R inn):=together_any n B0 149 _ (.inr ⟨c1,c2,rfl,rfl⟩) inn u R w hR hn hin hl hf
theorem w_laid:laidOutB Tryz.prog=true:=by kernel_rfl
theorem row130:292<Tryz.prog.types.size:=of_decide_eq_true (by kernel_rfl)
theorem wide130:(match Tryz.prog.underlying 292 with | some (.array _ _) | some (.struct _)=>true | _=>false)=true:=by kernel_rfl
theorem law292:Keyed Tryz.prog 292:=Keyed.of_law (deep_law_laid w_laid (m:=2) (by omega) row130 (by kernel_rfl) wide130)
theorem kt130:Tryz.prog.keyType 292=true:=by kernel_rfl
theorem fm130 (p q:Int):(Value.agg #[.int .i64 p,.int .i64 q]).formed Tryz.prog 292=true:=by kernel_rfl
theorem co130:Tryz.prog.cellsOf 292=2:=by kernel_rfl
theorem w_co3:Tryz.prog.cellsOf 3=1:=by kernel_rfl
theorem w_ts:∃m,Tryz.prog.types.size=m+1:=⟨Tryz.prog.types.size-1,by have:=row130;omega⟩
theorem w_wf {x:Int} (h0:0<=x) (h1:x<=1000000):(Lit.int .i64 x).wf=true:=WalkArith.wf_i64 (by omega)
theorem w_zero3 (w:World):(zeroValue 3).run Tryz.prog w= .ok (.int .i64 0) w:=by kernel_rfl
theorem two_key_of {P:Program} {k t m:Nat} {f1 f2:Field} (hu:P.underlying k=some (.struct #[f1,f2])) (h1:f1.type=t) (h2:f2.type=t) (o1:f1.offset=0) (o2:f2.offset=1) (n1:(f1.name != "_")=true) (n2:(f2.name != "_")=true) (ht:P.underlying t=some (.int .i64)) (ck:P.cellsOf k=2) (ct:P.cellsOf t=1) (hs:P.types.size=m+1) (hkt:P.keyType k=true)
 {p q:Int} (hf:(Value.agg #[.int .i64 p,.int .i64 q]).formed P k=true) (hp:(Lit.int .i64 p).wf=true) (hq:(Lit.int .i64 q).wf=true):keyOf P k (.agg #[.int .i64 p,.int .i64 q])=some (.string (keyBytes [.int .i64 p,.int .i64 q])):=by
 unfold keyOf;rw [hu];simp only [hkt,hf,Bool.and_self,if_true,hs];have e1:∀x:Int,(Lit.int .i64 x).wf=true->P.keyLits (m+1) t [.int .i64 x]=some [.int .i64 x]:=λ x hx=>by simp [Program.keyLits,ht,hx]
 have:P.keyLits (m+1+1) k (Value.agg #[.int .i64 p,.int .i64 q]).cells.toList=some [.int .i64 p,.int .i64 q]:=by
  unfold Program.keyLits;rw [hu];simp [Value.cells,ck,n1,n2,h1,h2,o1,o2,ct,e1 p hp,e1 q hq]
 rw [this];rfl
def wk (p q:Nat):Lit:=.string (keyBytes [.int .i64 (p:Int),.int .i64 (q:Int)])
theorem wk_key (p q:Nat) (hp:p<=1000) (hq:q<=1000):keyOf Tryz.prog 292 (.agg #[.int .i64 (p:Int),.int .i64 (q:Int)])=some (wk p q):=by
 obtain ⟨m,hm⟩:=w_ts;exact two_key_of Tryz.underlying292 rfl rfl rfl rfl rfl rfl Tryz.underlying3 co130 w_co3 hm kt130 (fm130 p q) (w_wf (by omega) (by omega)) (w_wf (by omega) (by omega))
theorem wk_inj {p q p' q':Nat} (hp:p<=1000) (hq:q<=1000) (hp':p'<=1000) (hq':q'<=1000) (h:wk p q=wk p' q'):p=p'/\q=q':=by
 have:=law292.inj (wk_key p q hp hq) (h▸wk_key p' q' hp' hq');simp at this;omega
theorem wk_lit (p q:Nat):WideAt.IsKeyLit (wk p q):=trivial
structure Wm (l1 l2 l3:List Nat) (x:Nat) (D:DataW Unit):Prop where
 key:∀kl,Maps.has D kl=true↔∃i,i<x/\kl=wk (l1.getD i 0) (l2.getD i 0)
 val:∀i,i<x->∀zd,D.atKey (wk (l1.getD i 0) (l2.getD i 0)) zd= .lit (.int .i64 ((l3.getD i 0:Nat):Int))
 tidy:Tidy D
 same:∀i j,i<x->j<x->l1.getD i 0=l1.getD j 0->l2.getD i 0=l2.getD j 0->l3.getD i 0=l3.getD j 0
section
variable {l1 l2 l3:List Nat} {x:Nat} {D:DataW Unit}
theorem Wm.start (l1 l2 l3:List Nat):Wm l1 l2 l3 0 (.map []):=⟨λ kl=>by simp [Maps.has],λ i hi=>by omega,tidy_empty,λ i j hi=>by omega⟩
theorem Wm.put (h:Wm l1 l2 l3 x D) (sm:∀i,i<=x->l1.getD i 0<=1000/\l2.getD i 0<=1000) (hs:∀i,i<x->l1.getD i 0=l1.getD x 0->l2.getD i 0=l2.getD x 0->l3.getD i 0=l3.getD x 0):
 Wm l1 l2 l3 (x+1) (D.put (wk (l1.getD x 0) (l2.getD x 0)) (.lit (.int .i64 ((l3.getD x 0:Nat):Int)))):=by
 refine ⟨λ kl=>?_,λ i hi zd=>?_,h.tidy.put (wk_lit _ _) _,λ i j hi hj e1 e2=>?_⟩
 ·by_cases e:kl=wk (l1.getD x 0) (l2.getD x 0)
  ·rw [e,has_put_same h.tidy.isMap (wk_lit _ _)]
   exact ⟨λ _=>⟨x,by omega,rfl⟩,λ _=>rfl⟩
  ·rw [has_put_other e,h.key]
   constructor
   ·rintro ⟨i,hi,k⟩;exact ⟨i,by omega,k⟩
   ·rintro ⟨i,hi,k⟩
    refine ⟨i,?_,k⟩;have:i≠x:=λ e'=>e (by rw [k,e'])
    omega
 ·by_cases e:wk (l1.getD i 0) (l2.getD i 0)=wk (l1.getD x 0) (l2.getD x 0)
  ·have sx:=sm x (by omega)
   have si:=sm i (by omega);obtain ⟨e1,e2⟩:=wk_inj si.1 si.2 sx.1 sx.2 e;rw [e,atKey_put_same h.tidy.isMap (wk_lit _ _)];by_cases hix:i=x
   ·rw [hix]
   ·rw [hs i (by omega) e1 e2]
  ·have hix:i≠x:=λ e'=>e (by rw [e'])
   rw [atKey_put_other e];exact h.val i (by omega) zd
 ·by_cases hi':i=x
  ·by_cases hj':j=x
   ·rw [hi',hj']
   ·subst hi'
    exact (hs j (by omega) e1.symm e2.symm).symm
  ·by_cases hj':j=x
   ·subst hj'
    exact hs i (by omega) e1 e2
   ·exact h.same i j (by omega) (by omega) e1 e2
end
theorem grown_set (w:World) (b i:Nat) (v:Value):w.grownBy (w.setCell ⟨b,i,none⟩ v) (some b):=
 ⟨rfl,rfl,rfl,by simp,λ k _ hne=>Below.heap_setCell _ _ _ _ (λ e=>hne (by rw [e]))⟩
theorem least_k (x p b:Nat) (L:List Nat) (w:World) (hs:SetsAt w p b L) (hx:x<L.length):
 Calls Tryz.prog 247 #[.pointer (some ⟨p,0,none⟩),.int .i64 (x:Int)] w λ e w'=>e= .returned (.tuple #[.int .i64 ((L.getD x 0:Nat):Int),.nilIface])/\Below w.heap.size w w':=by
 have:=least_in (x:Int) p b L w hs (by omega) (by omega)
 simpa using this
theorem set_first {W:World} {bx t:Nat} {x y:Value} (h:W.heap[bx]? =some (.cells #[x,y] t)) (v:Value):(W.setCell ⟨bx,0,none⟩ v).heap[bx]? =some (.cells #[v,y] t):=by
 simp only [World.setCell,Array.getElem?_modify,h];simp
theorem set_second {W:World} {bx t:Nat} {x y:Value} (h:W.heap[bx]? =some (.cells #[x,y] t)) (v:Value):(W.setCell ⟨bx,1,none⟩ v).heap[bx]? =some (.cells #[x,v] t):=by
 simp only [World.setCell,Array.getElem?_modify,h];simp
structure Pt (w0 W:World) (p1 b1 p2 b2 p3 b3 m N:Nat) (l1 l2 l3:List Nat) (D:DataW Unit):Prop where
 s1:SetsAt W p1 b1 l1
 s2:SetsAt W p2 b2 l2
 s3:SetsAt W p3 b3 l3
 lt:p1<w0.heap.size/\b1<w0.heap.size/\p2<w0.heap.size/\b2<w0.heap.size/\p3<w0.heap.size/\b3<w0.heap.size
 own:W.ownsMap Tryz.prog 292 (plainElem Tryz.prog 3) m N D
 below:Below w0.heap.size w0 W
section
variable {w0 W W':World} {p1 b1 p2 b2 p3 b3 m N:Nat} {l1 l2 l3:List Nat} {D:DataW Unit}
theorem Pt.below' (h:Pt w0 W p1 b1 p2 b2 p3 b3 m N l1 l2 l3 D) (hb:Below W.heap.size W W'):Pt w0 W' p1 b1 p2 b2 p3 b3 m N l1 l2 l3 D:=
 ⟨h.s1.below hb h.s1.plt h.s1.blt,h.s2.below hb h.s2.plt h.s2.blt,h.s3.below hb h.s3.plt h.s3.blt,h.lt,h.own.kept (grown_below hb) (by simp),h.below.trans (hb.mono h.below.size)⟩
theorem Pt.set (h:Pt w0 W p1 b1 p2 b2 p3 b3 m N l1 l2 l3 D) {bx:Nat} (hx:w0.heap.size<=bx) (hm:bx≠m) (i:Nat) (v:Value):Pt w0 (W.setCell ⟨bx,i,none⟩ v) p1 b1 p2 b2 p3 b3 m N l1 l2 l3 D:=by
 have hlt:=h.lt;have hb:Below w0.heap.size W (W.setCell ⟨bx,i,none⟩ v):=⟨rfl,rfl,rfl,by simp,λ k hk=>Below.heap_setCell _ _ _ _ (show k≠bx by omega)⟩;exact ⟨h.s1.below hb hlt.1 hlt.2.1,h.s2.below hb hlt.2.2.1 hlt.2.2.2.1,h.s3.below hb hlt.2.2.2.2.1 hlt.2.2.2.2.2,h.lt,h.own.kept (grown_set W bx i v) (by simp;omega),h.below.trans hb⟩
theorem Pt.upd (h:Pt w0 W p1 b1 p2 b2 p3 b3 w0.heap.size N l1 l2 l3 D) {N':Nat} {D':DataW Unit} (ho:W'.ownsMap Tryz.prog 292 (plainElem Tryz.prog 3) w0.heap.size N' D') (hg:W.grownBy W' (some w0.heap.size)):Pt w0 W' p1 b1 p2 b2 p3 b3 w0.heap.size N' l1 l2 l3 D':=by
 have hlt:=h.lt;have hb:Below w0.heap.size W W':=⟨hg.os,hg.tape,hg.output,hg.size,λ k hk=>hg.block k (Nat.lt_of_lt_of_le hk h.below.size) (by simp;omega)⟩;exact ⟨h.s1.below hb hlt.1 hlt.2.1,h.s2.below hb hlt.2.2.1 hlt.2.2.2.1,h.s3.below hb hlt.2.2.2.2.1 hlt.2.2.2.2.2,h.lt,ho,h.below.trans hb⟩
end
theorem part_any (n p1 b1 p2 b2 p3 b3:Nat) (l1 l2 l3:List Nat) (ok:Bool) (w:World) (h1:SetsAt w p1 b1 l1) (h2:SetsAt w p2 b2 l2) (h3:SetsAt w p3 b3 l3) (hn:n<=40) (g1:Good n l1) (g2:Good n l2) (g3:Good n l3)
 (hok:ok=true↔∃x y,x<n/\y<n/\l1.getD x 0=l1.getD y 0/\l2.getD x 0=l2.getD y 0/\l3.getD x 0≠l3.getD y 0):
 Calls Tryz.prog 150 #[.int .i64 (n:Int),.pointer (some ⟨p1,0,none⟩),.pointer (some ⟨p2,0,none⟩),.pointer (some ⟨p3,0,none⟩)] w λ e w'=>e= .returned (.bool ok)/\Below w.heap.size w w':=by
 have HOK:Hid (ok=true↔∃x y,x<n/\y<n/\l1.getD x 0=l1.getD y 0/\l2.getD x 0=l2.getD y 0/\l3.getD x 0≠l3.getD y 0):=hok;have HG:Hid (Good n l1/\Good n l2/\Good n l3):=⟨g1,g2,g3⟩;have HS:Hid (Pt w (w.alloc (.map #[] 0)) p1 b1 p2 b2 p3 b3 w.heap.size 0 l1 l2 l3 (.map [])):=by
  have hb:Below w.heap.size w (w.alloc (.map #[] 0)):=(Below.refl _ _).alloc (Nat.le_refl _) _;exact ⟨h1.below hb h1.plt h1.blt,h2.below hb h2.plt h2.blt,h3.below hb h3.plt h3.blt,⟨h1.plt,h1.blt,h2.plt,h2.blt,h3.plt,h3.blt⟩,World.ownsMap_made w _ _ _,hb⟩
 have hmm:=@run_makeMap Tryz.prog;clear h1 h2 h3 g1 g2 g3 hok;go_enter Tryz.func150,Tryz.ntmps150;go_wp2_with fail;clear hmm;go_loopw [18] (λ s18 wq=>∃(x:Nat) (D:DataW Unit),x<=n/\s18= .int .i64 x/\Pt w wq p1 b1 p2 b2 p3 b3 w.heap.size x l1 l2 l3 D/\Wm l1 l2 l3 x D) (λ s18 _=>n-(intOf s18).toNat)
 case atStart=>exact ⟨0,_,Nat.zero_le _,rfl,HS.out,Wm.start l1 l2 l3⟩
 case round=>
  clear HS;obtain ⟨x,D,hx,rfl,hpt,hwm⟩:=hrel;have HP:Hid (Pt w wr p1 b1 p2 b2 p3 b3 w.heap.size x l1 l2 l3 D):=hpt;have HW:Hid (Wm l1 l2 l3 x D):=hwm;clear hpt hwm;by_cases hlt:x<n
  ·have hmw:w.heap.size<wr.heap.size:=by
    obtain ⟨es,clock,hb,_⟩:=HP.out.own;exact lt_of_some hb
   have HP1:Hid (Pt w (wr.alloc (.cells #[.int .i64 0,.int .i64 0] 292)) p1 b1 p2 b2 p3 b3 w.heap.size x l1 l2 l3 D):=HP.out.below' ((Below.refl _ _).alloc (Nat.le_refl _) _);obtain ⟨k1,hk1⟩:∃k1,l1.getD x 0=k1:=⟨_,rfl⟩;obtain ⟨k2,hk2⟩:∃k2,l2.getD x 0=k2:=⟨_,rfl⟩;obtain ⟨k3,hk3⟩:∃k3,l3.getD x 0=k3:=⟨_,rfl⟩;have HK:Hid (l1.getD x 0=k1/\l2.getD x 0=k2/\l3.getD x 0=k3):=⟨hk1,hk2,hk3⟩;have hk1l:k1<=x:=by rw [<-hk1];exact HG.out.1.le x hlt
   have hk2l:k2<=x:=by rw [<-hk2];exact HG.out.2.1.le x hlt
   have hk3l:k3<=x:=by rw [<-hk3];exact HG.out.2.2.le x hlt
   obtain ⟨bx,hbx⟩:∃bx,wr.heap.size=bx:=⟨_,rfl⟩;obtain ⟨W1,hW1⟩:∃W1,wr.alloc (.cells #[.int .i64 0,.int .i64 0] 292)=W1:=⟨_,rfl⟩;have c1:W1.heap[bx]? =some (.cells #[.int .i64 0,.int .i64 0] 292):=by rw [<-hW1,<-hbx];exact heap_alloc_new wr _
   rw [hW1] at HP1;rw [hbx] at hmw;go_upto_region 6 with fail
   try rw [hW1,hbx]
   have HBX:Hid (wr.heap.size=bx):=hbx;clear hbx hW1;go_wp2_with fail;refine (least_k x p1 b1 l1 _ HP1.out.s1 (by rw [HG.out.1.len];exact hlt)).mono ?_;rintro e W2 ⟨rfl,hb2⟩;rw [HK.out.1];have HP2:Hid (Pt w W2 p1 b1 p2 b2 p3 b3 w.heap.size x l1 l2 l3 D):=HP1.out.below' hb2;have c2:W2.heap[bx]? =some (.cells #[.int .i64 0,.int .i64 0] 292):=(hb2.block bx (lt_of_some c1)).trans c1;have q0:W2.cell? ⟨bx,0,none⟩=some (.int .i64 0):=by simp [World.cell?,c2]
   have f0:W2.frozen? ⟨bx,0,none⟩=false:=by simp [World.frozen?,c2]
   obtain ⟨W3,hW3⟩:∃W3,W2.setCell ⟨bx,0,none⟩ (.int .i64 (k1:Int))=W3:=⟨_,rfl⟩;have HP3:Hid (Pt w W3 p1 b1 p2 b2 p3 b3 w.heap.size x l1 l2 l3 D):=by rw [<-hW3];exact HP2.out.set (by omega) (by omega) 0 _
   have c3:W3.heap[bx]? =some (.cells #[.int .i64 (k1:Int),.int .i64 0] 292):=by
    rw [<-hW3];exact set_first c2 _
   clear HP1 HP2 hb2 c1 c2;go_upto_region 7 with fail
   try rw [hW3]
   clear hW3 q0 f0;go_wp2_with fail;refine (least_k x p2 b2 l2 _ HP3.out.s2 (by rw [HG.out.2.1.len];exact hlt)).mono ?_;rintro e W4 ⟨rfl,hb4⟩;rw [HK.out.2.1];have HP4:Hid (Pt w W4 p1 b1 p2 b2 p3 b3 w.heap.size x l1 l2 l3 D):=HP3.out.below' hb4;have c4:W4.heap[bx]? =some (.cells #[.int .i64 (k1:Int),.int .i64 0] 292):=(hb4.block bx (lt_of_some c3)).trans c3;have q0:W4.cell? ⟨bx,1,none⟩=some (.int .i64 0):=by simp [World.cell?,c4]
   have f0:W4.frozen? ⟨bx,1,none⟩=false:=by simp [World.frozen?,c4]
   obtain ⟨W5,hW5⟩:∃W5,W4.setCell ⟨bx,1,none⟩ (.int .i64 (k2:Int))=W5:=⟨_,rfl⟩;have HP5:Hid (Pt w W5 p1 b1 p2 b2 p3 b3 w.heap.size x l1 l2 l3 D):=by rw [<-hW5];exact HP4.out.set (by omega) (by omega) 1 _
   have c5:W5.heap[bx]? =some (.cells #[.int .i64 (k1:Int),.int .i64 (k2:Int)] 292):=by
    rw [<-hW5];exact set_second c4 _
   clear HP3 HP4 hb4 c3 c4;go_upto_region 8 with fail
   try rw [hW5]
   clear hW5 q0 f0;go_wp2_with fail;refine (least_k x p3 b3 l3 _ HP5.out.s3 (by rw [HG.out.2.2.len];exact hlt)).mono ?_;rintro e W6 ⟨rfl,hb6⟩;rw [HK.out.2.2];have HP6:Hid (Pt w W6 p1 b1 p2 b2 p3 b3 w.heap.size x l1 l2 l3 D):=HP5.out.below' hb6;have c6:W6.heap[bx]? =some (.cells #[.int .i64 (k1:Int),.int .i64 (k2:Int)] 292):=(hb6.block bx (lt_of_some c5)).trans c5;have q0:W6.cell? ⟨bx,0,none⟩=some (.int .i64 (k1:Int)):=by simp [World.cell?,c6]
   have q1:W6.cell? ⟨bx,1,none⟩=some (.int .i64 (k2:Int)):=by simp [World.cell?,c6]
   have hown:=HP6.out.own;have hkey:=wk_key k1 k2 (by omega) (by omega);have SM:Hid (∀i,i<=x->l1.getD i 0<=1000/\l2.getD i 0<=1000):=λ i hi=>by
    have e1:=HG.out.1.le i (by omega);have e2:=HG.out.2.1.le i (by omega);omega
   clear HP5 hb6 c5 c6 hk1 hk2 hk3;cases hh:Maps.has D (wk k1 k2) with
   | false=>
     as_aux_lemma=>
     have HN:Hid (Wm l1 l2 l3 (x+1) (D.put (wk k1 k2) (.lit (.int .i64 (k3:Int))))):=by
      have:=HW.out.put SM.out (λ i hi e1 e2=>by
       have:Maps.has D (wk k1 k2)=true:=(HW.out.key _).2 ⟨i,hi,by rw [e1,e2,HK.out.1,HK.out.2.1]⟩;rw [hh] at this;cases this)
      rw [HK.out.1,HK.out.2.1,HK.out.2.2] at this;exact this
     go_wp2_with (first
      | (at_lookup;refine wpList_lookup_own_ok_int _ rfl _ _ 290 rfl 292 3 .i64 law292 Tryz.underlying290 Tryz.underlying3 (w_zero3 _) w.heap.size x D rfl hown _ _ rfl hkey ?_;intro c hat hwc;rw [hh];clear hat hwc)
      | (at_mapUpdate;refine wpList_mapUpdate_own _ rfl _ _ _ 290 rfl 292 3 law292 Tryz.underlying290 (plainElem Tryz.prog 3) w.heap.size x D rfl hown (by unfold maxLen;omega) _ _ _ rfl rfl hkey _ [] (plainElem_int Tryz.underlying3 (a:=(k3:Int)) (w_wf (by omega) (by omega))) ?_;intro w8 hown8 hgrow8)
      | fail)
     have HP8:Hid (Pt w w8 p1 b1 p2 b2 p3 b3 w.heap.size (x+1) l1 l2 l3 (D.put (wk k1 k2) (.lit (.int .i64 (k3:Int))))):=HP6.out.upd hown8 hgrow8;clear hown8 hgrow8;go_wp2_with fail;go_roundw;case rel=>exact ⟨x+1,_,by omega,by go_num,HP8.out,HN.out⟩
     case measure=>simp [intOf];omega
   | true=>
     obtain ⟨i,hi,hki⟩:=(HW.out.key _).1 hh;obtain ⟨e1,e2⟩:=wk_inj (by omega) (by omega) (SM.out i (by omega)).1 (SM.out i (by omega)).2 hki;have HV:Hid (∀c:Int,D.atKey (wk k1 k2) (.lit (.int .i64 0))= .lit (.int .i64 c)->c=((l3.getD i 0:Nat):Int)):=λ c hc=>by
      have:=HW.out.val i hi (.lit (.int .i64 0));rw [<-hki,hc] at this;exact (Lit.int.inj (DataW.lit.inj this)).2
     have HI:Hid (l1.getD i 0=k1/\l2.getD i 0=k2):=⟨e1.symm,e2.symm⟩;obtain ⟨j3,hj3⟩:∃j3,l3.getD i 0=j3:=⟨_,rfl⟩;have HJ:Hid (l3.getD i 0=j3):=hj3;rw [hj3] at HV;clear hki e1 e2 hj3;by_cases h3:j3=k3
     ·as_aux_lemma=>
      subst h3;have hb3:((j3:Int)==(j3:Int))=true:=by simp
      have HN:Hid (Wm l1 l2 l3 (x+1) (D.put (wk k1 k2) (.lit (.int .i64 (j3:Int))))):=by
       have:=HW.out.put SM.out (λ i' hi' e1 e2=>by
        rw [HK.out.2.2,HW.out.same i' i hi' hi (by rw [e1,HK.out.1,HI.out.1]) (by rw [e2,HK.out.2.1,HI.out.2])];exact HJ.out)
       rw [HK.out.1,HK.out.2.1,HK.out.2.2] at this;exact this
      go_wp2_with (first
       | (at_lookup;refine wpList_lookup_own_ok_int _ rfl _ _ 290 rfl 292 3 .i64 law292 Tryz.underlying290 Tryz.underlying3 (w_zero3 _) w.heap.size x D rfl hown _ _ rfl hkey ?_;intro c hat hwc;obtain rfl:=HV.out c hat;rw [hh];clear hat hwc)
       | (at_mapUpdate;refine wpList_mapUpdate_own _ rfl _ _ _ 290 rfl 292 3 law292 Tryz.underlying290 (plainElem Tryz.prog 3) w.heap.size x D rfl hown (by unfold maxLen;omega) _ _ _ rfl rfl hkey _ [] (plainElem_int Tryz.underlying3 (a:=(j3:Int)) (w_wf (by omega) (by omega))) ?_;intro w8 hown8 hgrow8)
       | fail)
      have HP8:Hid (Pt w w8 p1 b1 p2 b2 p3 b3 w.heap.size (x+1) l1 l2 l3 (D.put (wk k1 k2) (.lit (.int .i64 (j3:Int))))):=HP6.out.upd hown8 hgrow8;clear hown8 hgrow8;go_wp2_with fail;go_roundw;case rel=>exact ⟨x+1,_,by omega,by go_num,HP8.out,HN.out⟩
      case measure=>simp [intOf];omega
     ·as_aux_lemma=>
      have hb3:((j3:Int)==(k3:Int))=false:=beq_eq_false_iff_ne.2 (by omega);have HO:Hid (ok=true):=HOK.out.2 ⟨i,x,by omega,hlt,by rw [HI.out.1,HK.out.1],by rw [HI.out.2,HK.out.2.1],by rw [HJ.out,HK.out.2.2];exact h3⟩;go_wp2_with (first
       | (at_lookup;refine wpList_lookup_own_ok_int _ rfl _ _ 290 rfl 292 3 .i64 law292 Tryz.underlying290 Tryz.underlying3 (w_zero3 _) w.heap.size x D rfl hown _ _ rfl hkey ?_;intro c hat hwc;obtain rfl:=HV.out c hat;rw [hh];clear hat hwc)
       | fail)
      go_ret;exact ⟨by rw [HO.out];rfl,HP6.out.below⟩
  ·have hxe:x=n:=by omega
   have HO:Hid (ok=false):=by
    rw [Bool.eq_false_iff];intro hc;obtain ⟨x',y',hx',hy',e1,e2,e3⟩:=HOK.out.1 hc;exact e3 (HW.out.same x' y' (by omega) (by omega) e1 e2)
   clear hxe;go_wp2_with fail;go_ret;exact ⟨by rw [HO.out];rfl,HP.out.below⟩
end Go.Proofs.YtebcjaenhiiflaaGreatDoor.S.X
namespace Go.Proofs.YtebcjaenhiiflaaGreatDoor.S.X
open Go.RowKit Go.WideMaps Go.Maps
theorem OwnsP.mono {w:World} {B B':Nat} {v:Value} {L:List (Nat × Nat)} (h:OwnsP w B v L) (hB:B'<=B):OwnsP w B' v L:=by
 refine ⟨h.1,?_⟩;rcases h.2 with hh | ⟨g,cap,cur,h1,h2,h3,h4⟩
 ·exact Or.inl hh
 ·exact Or.inr ⟨g,cap,cur,h1,by omega,h3,h4⟩
theorem append_P (ty:TypeId) (w:World) (B:Nat) (v:Value) (L M:List (Nat × Nat)) (h:OwnsP w B v L) (hB:B<=w.heap.size) (a:Addr) (m c:Nat) (hm:m=M.length) (hM:∀j u,(rowP M)[j]? =some u->w.cell? (a.add j)=some u) (hl:L.length+M.length<=100000):
 ∃v' w',(Builtin.append_ #[65,65] ty #[v,.slice (some a) m c]).run Tryz.prog w= .ok v' w'/\OwnsP w' B v' (L++M)/\w.grownBy w' v.ownBlock/\G.Fresh w v v':=by
 subst hm;obtain ⟨i,hi,hs,hb,hz⟩:=info180;have own:∀B',OwnsP w B' v L->B'<=w.heap.size->∃v' w',(Builtin.append_ #[65,65] ty #[v,.slice (some a) M.length c]).run Tryz.prog w= .ok v' w'/\OwnsP w' B' v' (L++M)/\w.grownBy w' v.ownBlock:=by
  intro B' h' hB';obtain ⟨v',w',h1,h2,h3,_⟩:=run_append_own (P:=Tryz.prog) w B' 65 ty 180 i zP 2 16 Tryz.underlying65 hi hz hs hb (by rw [zP_cells];rfl) (by omega) v L.length (rowP L) h' a M.length c (rowP M) (rowP_length M) hM (rowP_one M) (by simp only [maxLen];omega) (by omega) hB';refine ⟨v',w',h1,?_,h3⟩;show w'.ownsRow B' 180 2 v' (L++M).length (rowP (L++M));rw [List.length_append,rowP_append];exact h2
 rcases h.2 with ⟨rfl,h0⟩ | ⟨g,cap,cur,rfl,h1,h2,h3,h4,h5,h6⟩
 ·have hL:L=[]:=List.eq_nil_of_length_eq_zero h0
  subst hL;obtain ⟨v',w',e1,e2,e3⟩:=own w.heap.size (World.ownsRow_nil w _ 180 2) (Nat.le_refl _);exact ⟨v',w',e1,e2.mono hB,e3,λ k hk=>Or.inr (World.ownsRow.lt e2 k hk).1⟩
 ·obtain ⟨v',w',e1,e2,e3⟩:=own B h hB
  refine ⟨v',w',e1,e2,e3,?_⟩;by_cases hroom:L.length+M.length<=cap
  ·have hr:=run_append_room (P:=Tryz.prog) w 65 ty 180 i Tryz.underlying65 hi g L.length cap cur h2 a M.length c (rowP M) (by rw [hs];exact rowP_length M) hM (rowP_one M) hroom (by rw [hs,h5,rowP_length];omega)
   rw [hr] at e1;injection e1 with e1 _
   subst e1;intro k hk;exact Or.inl hk
  ·have hr:=run_append_grow (P:=Tryz.prog) w 65 ty 180 i zP Tryz.underlying65 hi hz ⟨g,0,none⟩ L.length cap (rowP L) (by rw [hs];exact rowP_length L) (World.ownsRow.cells h rfl) a M.length c (rowP M) (by rw [hs];exact rowP_length M) hM (by omega) (by omega) (growslice_fits (by omega) (by rw [hb];omega))
   rw [hr] at e1;injection e1 with e1 _
   subst e1;intro k hk;have hk':w.heap.size=k:=by simpa [Value.ownBlock] using hk
   exact Or.inr (by omega)
theorem more_pair (ty:TypeId) (W:World) (B:Nat) (u:Value) (M:List (Nat × Nat)) (x y:Nat) (h:OwnsP W B u M) (hB:B<=W.heap.size) (hl:M.length<=10000):
 ∃v' w',(Builtin.append_ #[65,65] ty #[u,.slice (some ⟨W.heap.size,0,none⟩) 1 1]).run Tryz.prog (W.alloc (.cells #[.int .i64 (x:Int),.int .i64 (y:Int)] 180))= .ok v' w'/\OwnsP w' B v' (M++[(x,y)])/\W.grownBy w' u.ownBlock/\G.Fresh W u v':=by
 have hbx:Below W.heap.size W (W.alloc (.cells #[.int .i64 (x:Int),.int .i64 (y:Int)] 180)):=(Below.refl _ _).alloc (Nat.le_refl _) _;obtain ⟨v',w',h1,h2,h3,h4⟩:=append_P ty _ B u M [(x,y)] (h.below hbx) (Nat.le_trans hB (by simp)) ⟨W.heap.size,0,none⟩ 1 1 rfl (pair_cells W x y) (by simp;omega);refine ⟨v',w',h1,h2,⟨h3.os.trans hbx.os,h3.tape.trans hbx.tape,h3.output.trans hbx.output,Nat.le_trans hbx.size h3.size,λ k hk hn=>(h3.block k (Nat.lt_of_lt_of_le hk hbx.size) hn).trans (hbx.block k hk)⟩,λ k hk=>?_⟩;rcases h4 k hk with h5 | h5
 ·exact Or.inl h5
 ·exact Or.inr (Nat.le_trans (by simp) h5)
def lab1 (n:Nat) (R:List (Int × Int × Int)) (i:Nat):List Nat:=joins (List.range n) (R.filter (kp λ x=>decide (x≠i)))
def lab2 (n:Nat) (R:List (Int × Int × Int)) (i j:Nat):List Nat:=joins (List.range n) (R.filter (kp λ x=>decide (x≠i/\x≠j)))
section
variable {n:Nat} {R:List (Int × Int × Int)}
theorem lw1 (hin:Inn n R) (i:Nat):Lw n R [i] (lab1 n R i):=lw_joins hin _ (λ z=>by simp)
theorem lw2 (hin:Inn n R) (i j:Nat):Lw n R [i,j] (lab2 n R i j):=lw_joins hin _ (λ z=>by simp)
theorem part_labels (hin:Inn n R) (a b:Nat):PartP R n a b↔∃x y,x<n/\y<n/\(lab1 n R a).getD x 0=(lab1 n R a).getD y 0/\(lab1 n R b).getD x 0=(lab1 n R b).getD y 0/\(lab2 n R a b).getD x 0≠(lab2 n R a b).getD y 0:=by
 constructor
 ·rintro ⟨x,y,hx,hy,h1,h2,h3⟩
  exact ⟨x,y,hx,hy,((lw1 hin a).iff x y hx hy).2 h1,((lw1 hin b).iff x y hx hy).2 h2,λ k=>h3 (((lw2 hin a b).iff x y hx hy).1 k)⟩
 ·rintro ⟨x,y,hx,hy,h1,h2,h3⟩
  exact ⟨x,y,hx,hy,((lw1 hin a).iff x y hx hy).1 h1,((lw1 hin b).iff x y hx hy).1 h2,λ k=>h3 (((lw2 hin a b).iff x y hx hy).2 k)⟩
end
structure Al (w0 w:World) (A n k:Nat) (R:List (Int × Int × Int)):Prop where
 cell:∀i,i<k->∃p b,w.cell? ⟨A,i,none⟩=some (.pointer (some ⟨p,0,none⟩))/\SetsAt w p b (lab1 n R i)/\p≠A/\b≠A
 rest:∀i,k<=i->i<n->w.cell? ⟨A,i,none⟩=some (.pointer none)
 fz:∀i,w.frozen? ⟨A,i,none⟩=false
 lt:A<w.heap.size
 ge:w0.heap.size<=A
 below:Below w0.heap.size w0 w
section
variable {w0 w w':World} {A n k:Nat} {R:List (Int × Int × Int)}
theorem Al.below' (h:Al w0 w A n k R) (hb:Below w.heap.size w w'):Al w0 w' A n k R:=by
 refine ⟨λ i hi=>?_,λ i h1 h2=>cell_below (h.rest i h1 h2) hb,λ i=>?_,Nat.lt_of_lt_of_le h.lt hb.size,h.ge,h.below.trans (hb.mono h.below.size)⟩
 ·obtain ⟨p,b,h1,h2,h3,h4⟩:=h.cell i hi
  exact ⟨p,b,cell_below h1 hb,h2.below hb h2.plt h2.blt,h3,h4⟩
 ·have:=h.fz i
  simp only [World.frozen?] at this ⊢;rw [hb.block _ h.lt];exact this
theorem Al.step (h:Al w0 w A n k R) (hk:k<n) {p b:Nat} (hs:SetsAt w p b (lab1 n R k)) (hp:p≠A) (hb:b≠A):Al w0 (w.setCell ⟨A,k,none⟩ (.pointer (some ⟨p,0,none⟩))) A n (k+1) R:=by
 have hold:=h.rest k (Nat.le_refl _) hk;have keep':∀{v p b l},SetsAt w p b l->p≠A->b≠A->SetsAt (w.setCell ⟨A,k,none⟩ v) p b l:=λ {v p b l} h h1 h2=>⟨by rw [Below.heap_setCell _ _ _ _ h1];exact h.hp,by rw [Below.heap_setCell _ _ _ _ h2];exact h.hb⟩
 refine ⟨λ i hi=>?_,λ i h1 h2=>?_,λ i=>?_,by simpa using h.lt,h.ge,h.below.trans ⟨rfl,rfl,rfl,by simp,λ j hj=>Below.heap_setCell _ _ _ _ (show j≠A by have:=h.ge;omega)⟩⟩
 ·by_cases e:i=k
  ·subst e
   exact ⟨p,b,World.cell?_setCell_same _ _ _ hold,keep' hs hp hb,hp,hb⟩
  ·obtain ⟨p',b',h1,h2,h3,h4⟩:=h.cell i (by omega)
   exact ⟨p',b',(World.cell?_setCell_other _ _ _ _ (λ c=>e (by injection c with _ c _;omega))).trans h1,keep' h2 h3 h4,h3,h4⟩
 ·exact (World.cell?_setCell_other _ _ _ _ (λ c=>by injection c with _ c _;omega)).trans (h.rest i (by omega) h2)
 ·rw [World.frozen?_setCell];exact h.fz i
end
theorem info175:(Tryz.prog.info? 175).map (λ i=>(i.zero,i.size,i.bytes))=some (some (.pointer none),1,8):=by kernel_rfl
theorem al_start (w0 W:World) (n:Nat) (R:List (Int × Int × Int)) (hb:Below w0.heap.size w0 W):Al w0 (W.alloc (.cells (madeCells #[.pointer none] n) 175)) W.heap.size n 0 R:=by
 have hh:=heap_alloc_new W (.cells (madeCells #[.pointer none] n) 175);refine ⟨λ i hi=>by omega,λ i _ hi=>?_,λ i=>?_,by simp,hb.size,hb.alloc hb.size _⟩
 ·simp only [World.cell?,hh]
  simp [madeCells,hi,Nat.mod_one]
 ·simp only [World.frozen?,hh];rfl
structure Pr (W1 w:World) (u:Value) (M:List (Nat × Nat)):Prop where
 own:OwnsP w W1.heap.size u M
 below:Below W1.heap.size W1 w
theorem Pr.below' {W1 w w':World} {u:Value} {M:List (Nat × Nat)} (h:Pr W1 w u M) (hb:Below w.heap.size w w'):Pr W1 w' u M:=⟨h.own.below hb,h.below.trans (hb.mono h.below.size)⟩
structure B3 (W1 w:World) (ba bb a b:Nat) (u:Value) (M:List (Nat × Nat)):Prop where
 pr:Pr W1 w u M
 ca:w.heap[ba]? =some (.cells #[.int .i64 (a:Int)] 3)
 cb:w.heap[bb]? =some (.cells #[.int .i64 (b:Int)] 3)
 na:u.ownBlock≠some ba
 nb:u.ownBlock≠some bb
 ne:ba≠bb
 ga:W1.heap.size<=ba
 gb:W1.heap.size<=bb
section
variable {W1 w w':World} {ba bb a b:Nat} {u u':Value} {M:List (Nat × Nat)}
theorem B3.cella (h:B3 W1 w ba bb a b u M):w.cell? ⟨ba,0,none⟩=some (.int .i64 (a:Int)):=by simp [World.cell?,h.ca]
theorem B3.cellb (h:B3 W1 w ba bb a b u M):w.cell? ⟨bb,0,none⟩=some (.int .i64 (b:Int)):=by simp [World.cell?,h.cb]
theorem B3.below' (h:B3 W1 w ba bb a b u M) (hb:Below w.heap.size w w'):B3 W1 w' ba bb a b u M:=
 {h with pr:=h.pr.below' hb,ca:=(hb.block _ (lt_of_some h.ca)).trans h.ca,cb:=(hb.block _ (lt_of_some h.cb)).trans h.cb}
theorem B3.start {M:List (Nat × Nat)} (h:Pr W1 w u M) (a:Nat):B3 W1 ((w.alloc (.cells #[.int .i64 (a:Int)] 3)).alloc (.cells #[.int .i64 ((a+1:Nat):Int)] 3)) w.heap.size (w.heap.size+1) a (a+1) u M:=by
 have h1:Below w.heap.size w (w.alloc (.cells #[.int .i64 (a:Int)] 3)):=(Below.refl _ _).alloc (Nat.le_refl _) _;have h2:Below (w.alloc (.cells #[.int .i64 (a:Int)] 3)).heap.size (w.alloc (.cells #[.int .i64 (a:Int)] 3)) ((w.alloc (.cells #[.int .i64 (a:Int)] 3)).alloc (.cells #[.int .i64 ((a+1:Nat):Int)] 3)):=(Below.refl _ _).alloc (Nat.le_refl _) _;have hc:=heap_alloc_new w (.cells #[.int .i64 (a:Int)] 3);have hd:=heap_alloc_new (w.alloc (.cells #[.int .i64 (a:Int)] 3)) (.cells #[.int .i64 ((a+1:Nat):Int)] 3);rw [World.size_alloc] at hd;have hsz:=h.below.size;have hlt:∀j,u.ownBlock=some j->j<w.heap.size:=λ j hj=>(World.ownsRow.lt h.own j hj).2
 exact ⟨(h.below' h1).below' h2,(h2.block _ (lt_of_some hc)).trans hc,hd,λ e=>by have:=hlt _ e;omega,λ e=>by have:=hlt _ e;omega,by omega,by omega,by omega⟩
theorem B3.next (h:B3 W1 w ba bb a b u M):B3 W1 (w.alloc (.cells #[.int .i64 ((b+1:Nat):Int)] 3)) ba w.heap.size a (b+1) u M:=by
 have h1:Below w.heap.size w (w.alloc (.cells #[.int .i64 ((b+1:Nat):Int)] 3)):=(Below.refl _ _).alloc (Nat.le_refl _) _;have hl:=lt_of_some h.ca;exact ⟨h.pr.below' h1,(h1.block _ hl).trans h.ca,heap_alloc_new w _,h.na,λ e=>by have:=(World.ownsRow.lt h.pr.own _ e).2;omega,by omega,h.ga,h.pr.below.size⟩
theorem B3.more (h:B3 W1 w ba bb a b u M) (ho:OwnsP w' W1.heap.size u' (M++[(a,b)])) (hg:w.grownBy w' u.ownBlock) (hf:G.Fresh w u u'):B3 W1 w' ba bb a b u' (M++[(a,b)]):=by
 have hla:=lt_of_some h.ca;have hlb:=lt_of_some h.cb;refine ⟨⟨ho,h.pr.below.grown hg h.pr.below.size (λ j hj=>(World.ownsRow.lt h.pr.own j hj).1)⟩,(hg.block _ hla (λ e=>h.na e.symm)).trans h.ca,(hg.block _ hlb (λ e=>h.nb e.symm)).trans h.cb,λ e=>?_,λ e=>?_,h.ne,h.ga,h.gb⟩
 ·rcases hf _ e with h1 | h1
  ·exact h.na h1
  ·omega
 ·rcases hf _ e with h1 | h1
  ·exact h.nb h1
  ·omega
end
end Go.Proofs.YtebcjaenhiiflaaGreatDoor.S.X
namespace Go.Proofs.YtebcjaenhiiflaaGreatDoor.S
open Go.RowKit Go.WideMaps Go.Maps F
theorem laid146:laidOutB Tryz.prog=true:=by kernel_rfl
theorem row146:346<Tryz.prog.types.size:=of_decide_eq_true (by kernel_rfl)
theorem wide146:(match Tryz.prog.underlying 346 with | some (.array _ _) | some (.struct _)=>true | _=>false)=true:=by kernel_rfl
theorem law346:Keyed Tryz.prog 346:=Keyed.of_law (deep_law_laid laid146 (m:=3) (by omega) row146 (by kernel_rfl) wide146)
theorem kt146:Tryz.prog.keyType 346=true:=by kernel_rfl
theorem fm146 (x y z:Int):(Value.agg #[.int .i64 x,.int .i64 y,.int .i64 z]).formed Tryz.prog 346=true:=by kernel_rfl
theorem co146:Tryz.prog.cellsOf 346=3:=by kernel_rfl
theorem co3':Tryz.prog.cellsOf 3=1:=by kernel_rfl
theorem ts146:∃m,Tryz.prog.types.size=m+1:=⟨Tryz.prog.types.size-1,by have:=row146;omega⟩
theorem triple_key_of {P:Program} {k t m:Nat} {f1 f2 f3:Field} (hu:P.underlying k=some (.struct #[f1,f2,f3])) (h1:f1.type=t) (h2:f2.type=t) (h3:f3.type=t) (o1:f1.offset=0) (o2:f2.offset=1) (o3:f3.offset=2) (n1:(f1.name != "_")=true) (n2:(f2.name != "_")=true) (n3:(f3.name != "_")=true) (ht:P.underlying t=some (.int .i64)) (ck:P.cellsOf k=3) (ct:P.cellsOf t=1) (hs:P.types.size=m+1) (hkt:P.keyType k=true)
 {x y z:Int} (hf:(Value.agg #[.int .i64 x,.int .i64 y,.int .i64 z]).formed P k=true) (hx:(Lit.int .i64 x).wf=true) (hy:(Lit.int .i64 y).wf=true) (hz:(Lit.int .i64 z).wf=true):keyOf P k (.agg #[.int .i64 x,.int .i64 y,.int .i64 z])=some (.string (keyBytes [.int .i64 x,.int .i64 y,.int .i64 z])):=by
 unfold keyOf;rw [hu];simp only [hkt,hf,Bool.and_self,if_true,hs];have e1:∀x:Int,(Lit.int .i64 x).wf=true->P.keyLits (m+1) t [.int .i64 x]=some [.int .i64 x]:=λ x hx=>by simp [Program.keyLits,ht,hx]
 have:P.keyLits (m+1+1) k (Value.agg #[.int .i64 x,.int .i64 y,.int .i64 z]).cells.toList=some [.int .i64 x,.int .i64 y,.int .i64 z]:=by
  unfold Program.keyLits;rw [hu];simp [Value.cells,ck,n1,n2,n3,h1,h2,h3,o1,o2,o3,ct,e1 x hx,e1 y hy,e1 z hz]
 rw [this];rfl
def vS (s:Stp):Value:=.agg #[.int .i64 s.1,.int .i64 s.2.1,.int .i64 s.2.2]
def sk (s:Stp):Lit:=.string (keyBytes [.int .i64 s.1,.int .i64 s.2.1,.int .i64 s.2.2])
def wfS (s:Stp):Prop:=(Lit.int .i64 s.1).wf=true/\(Lit.int .i64 s.2.1).wf=true/\(Lit.int .i64 s.2.2).wf=true
theorem wfS.bk {s:Stp} (h:wfS s):wfS (bk s):=⟨h.1,h.2.2,h.2.1⟩
theorem sk_key {s:Stp} (h:wfS s):keyOf Tryz.prog 346 (vS s)=some (sk s):=by
 obtain ⟨m,hm⟩:=ts146;exact triple_key_of Tryz.underlying346 rfl rfl rfl rfl rfl rfl rfl rfl rfl Tryz.underlying3 co146 co3' hm kt146 (fm146 _ _ _) h.1 h.2.1 h.2.2
theorem sk_inj {s t:Stp} (hs:wfS s) (ht:wfS t) (h:sk s=sk t):s=t:=by
 have h1:=law346.inj (sk_key hs) (h▸sk_key ht);unfold vS at h1;simp at h1;exact Prod.ext h1.1 (Prod.ext h1.2.1 h1.2.2)
theorem sk_lit (s:Stp):WideAt.IsKeyLit (sk s):=trivial
structure Room (M:DataW Unit) (D:List Stp) (r:Stp->Int):Prop where
 key:∀kl,Maps.has M kl=true↔∃s,s∈D/\0<r s/\kl=sk s
 val:∀s,s∈D->0<r s->∀zd,M.atKey (sk s) zd= .lit (.int .i64 (r s))
 tidy:Tidy M
 wf:∀s,s∈D->wfS s
 pos:∀s,0<=r s
 small:∀s,r s<=1000000
section
variable {M:DataW Unit} {D:List Stp} {r:Stp->Int}
theorem Room.has (h:Room M D r) {s:Stp} (hs:s∈D):Maps.has M (sk s)=decide (0<r s):=by
 rw [Bool.eq_iff_iff,h.key,decide_eq_true_iff];constructor
 ·rintro ⟨t,ht,h1,h2⟩
  rw [sk_inj (h.wf s hs) (h.wf t ht) h2];exact h1
 ·intro h1;exact ⟨s,hs,h1,rfl⟩
theorem Room.at_ (h:Room M D r) {s:Stp} (hs:s∈D):M.atKey (sk s) (.lit (.int .i64 0))= .lit (.int .i64 (r s)):=by
 by_cases h1:0<r s
 ·exact h.val s hs h1 _
 ·have h2:Maps.has M (sk s)=false:=by rw [h.has hs];exact decide_eq_false h1
  rw [atKey_of_not_has h2];have:=h.pos s;have h3:r s=0:=by omega
  rw [h3]
theorem Room.look (h:Room M D r) {s:Stp} (hs:s∈D) {w:World} {rm N:Nat} (hm:w.ownsMap Tryz.prog 346 (plainElem Tryz.prog 3) rm N M):
 (Instr.lookup 377 (.map (some rm)) (vS s) true).run Tryz.prog w= .ok (.tuple #[.int .i64 (r s),.bool (decide (0<r s))]) w/\(Instr.lookup 377 (.map (some rm)) (vS s) false).run Tryz.prog w= .ok (.int .i64 (r s)) w:=by
 have hw0:(Lit.int .i64 0).wf=true:=by decide
 obtain ⟨v,ps,h1,h2⟩:=hm.look_ok law346 Tryz.underlying377 (zero3 w) (plainElem_int Tryz.underlying3 hw0) (sk_key (h.wf s hs));rw [h.at_ hs] at h2;obtain ⟨c,rfl,hc,_⟩:=plainElem_int_inv Tryz.underlying3 h2;obtain ⟨c',h3,h4,_⟩:=hm.lookup_int law346 Tryz.underlying377 Tryz.underlying3 (zero3 w) (sk_key (h.wf s hs));rw [h.at_ hs] at h4;simp at hc h4;rw [h1,h3,h.has hs,<-hc.1,<-h4];exact ⟨rfl,rfl⟩
theorem Room.put (h:Room M D r) {s:Stp} (hs:s∈D) {c:Int} (h0:0<c) (hc:c<=1000000):Room (M.put (sk s) (.lit (.int .i64 c))) D (λ x=>if x=s then c else r x):=by
 refine ⟨λ kl=>?_,λ t ht hp zd=>?_,h.tidy.put (sk_lit _) _,h.wf,λ t=>?_,λ t=>?_⟩
 ·by_cases hk:kl=sk s
  ·rw [hk,has_put_same h.tidy.isMap (sk_lit _)]
   exact ⟨λ _=>⟨s,hs,by rw [if_pos rfl];exact h0,rfl⟩,λ _=>rfl⟩
  ·rw [has_put_other hk,h.key]
   constructor
   ·rintro ⟨t,ht,h1,h2⟩
    have:t≠s:=λ e=>hk (by rw [h2,e])
    exact ⟨t,ht,by rw [if_neg this];exact h1,h2⟩
   ·rintro ⟨t,ht,h1,h2⟩
    have:t≠s:=λ e=>hk (by rw [h2,e])
    rw [if_neg this] at h1;exact ⟨t,ht,h1,h2⟩
 ·by_cases e:t=s
  ·rw [e,if_pos rfl,atKey_put_same h.tidy.isMap (sk_lit _)]
  ·rw [if_neg e] at hp ⊢
   rw [atKey_put_other (λ k=>e (sk_inj (h.wf t ht) (h.wf s hs) k))];exact h.val t ht hp zd
 ·show 0<=(if t=s then c else r t)
  split
  ·omega
  ·exact h.pos t
 ·show (if t=s then c else r t)<=1000000
  split
  ·exact hc
  ·exact h.small t
theorem Room.del (h:Room M D r) {s:Stp} (hs:s∈D) (d:DataW Unit):Room ((M.put (sk s) d).del (sk s)) D (λ x=>if x=s then 0 else r x):=by
 refine ⟨λ kl=>?_,λ t ht hp zd=>?_,(h.tidy.put (sk_lit _) _).del _,h.wf,λ t=>?_,λ t=>?_⟩
 ·by_cases hk:kl=sk s
  ·rw [hk,has_del_same]
   refine ⟨λ k=>by simp at k,?_⟩;rintro ⟨t,ht,h1,h2⟩;rw [if_pos (sk_inj (h.wf s hs) (h.wf t ht) h2).symm] at h1;omega
  ·rw [has_del_other hk,has_put_other hk,h.key]
   constructor
   ·rintro ⟨t,ht,h1,h2⟩
    have:t≠s:=λ e=>hk (by rw [h2,e])
    exact ⟨t,ht,by rw [if_neg this];exact h1,h2⟩
   ·rintro ⟨t,ht,h1,h2⟩
    have:t≠s:=λ e=>hk (by rw [h2,e])
    rw [if_neg this] at h1;exact ⟨t,ht,h1,h2⟩
 ·by_cases e:t=s
  ·rw [if_pos e] at hp;omega
  ·rw [if_neg e] at hp ⊢
   have hne:sk t≠sk s:=λ k=>e (sk_inj (h.wf t ht) (h.wf s hs) k)
   rw [atKey_del_other hne,atKey_put_other hne];exact h.val t ht hp zd
 ·show 0<=(if t=s then 0 else r t)
  split
  ·omega
  ·exact h.pos t
 ·show (if t=s then 0 else r t)<=1000000
  split
  ·omega
  ·exact h.small t
end
theorem back_any (s:Stp) (w:World):Calls Tryz.prog 349 #[vS s] w λ e w'=>e= .returned (vS (bk s))/\Below w.heap.size w w':=by
 obtain ⟨x,y,z⟩:=s;unfold vS bk;go_enter Tryz.func349,Tryz.ntmps349;go_wp2_with fail;refine bodyPost_ret (v:=.agg #[.int .i64 x,.int .i64 z,.int .i64 y]) (by simp [results,Tryz.results349,go_sem]) rfl ⟨rfl,?_⟩;exact ((Below.refl _ _).alloc (Nat.le_refl _) _).alloc (by simp) _
structure NetR (w:World) (p lm rm N:Nat) (M:DataW Unit) (D:List Stp) (r:Stp->Int):Prop where
 hp:w.heap[p]? =some (.cells #[.map (some lm),.map (some rm)] 379)
 mp:w.ownsMap Tryz.prog 346 (plainElem Tryz.prog 3) rm N M
 rom:Room M D r
theorem NetR.below {w w':World} {p lm rm N:Nat} {M:DataW Unit} {D:List Stp} {r:Stp->Int} (h:NetR w p lm rm N M D r) (hb:Below w.heap.size w w'):NetR w' p lm rm N M D r:=
 ⟨(hb.block p (lt_of_some h.hp)).trans h.hp,h.mp.kept (grown_below hb) (by simp),h.rom⟩
theorem NetR.ne {w:World} {p lm rm N:Nat} {M:DataW Unit} {D:List Stp} {r:Stp->Int} (h:NetR w p lm rm N M D r):p≠rm:=λ e=>by
 obtain ⟨es,clock,hb,_⟩:=h.mp;rw [<-e,h.hp] at hb;simp at hb
theorem free_any (p lm rm N:Nat) (M:DataW Unit) (D:List Stp) (r:Stp->Int) (s:Stp) (w:World) (h:NetR w p lm rm N M D r) (hs:s∈D):
 Calls Tryz.prog 316 #[.pointer (some ⟨p,0,none⟩),vS s] w λ e w'=>e= .returned (.bool (decide (0<r s)))/\Below w.heap.size w w':=by
 have hbA:Below w.heap.size w (w.alloc (.cells #[.int .i64 s.1,.int .i64 s.2.1,.int .i64 s.2.2] 346)):=(Below.refl _ _).alloc (Nat.le_refl _) _;have hA:=h.below hbA;have lk:=λ n=>((hA.below (below_drewN (Below.refl _ _) n)).rom.look hs (hA.below (below_drewN (Below.refl _ _) n)).mp).1
 have c1:(w.alloc (.cells #[.int .i64 s.1,.int .i64 s.2.1,.int .i64 s.2.2] 346)).cell? ⟨p,1,none⟩=some (.map (some rm)):=by simp [World.cell?,hA.hp]
 have HB:Hid (Below w.heap.size w (w.alloc (.cells #[.int .i64 s.1,.int .i64 s.2.1,.int .i64 s.2.2] 346))):=hbA;obtain ⟨b,hb⟩:∃b,decide (0<r s)=b:=⟨_,rfl⟩;obtain ⟨k,hk⟩:∃k,r s=k:=⟨_,rfl⟩;rw [hb,hk] at lk;rw [hb];unfold vS at lk ⊢;obtain ⟨x,y,z⟩:=s;simp only at lk c1 HB ⊢;clear h hbA hA hb hk hs;go_enter Tryz.func316,Tryz.ntmps316;go_wp2_with fail;go_quiet (fail);go_wp2_with fail;go_ret;exact ⟨rfl,below_drewN HB.out nq⟩
end Go.Proofs.YtebcjaenhiiflaaGreatDoor.S
namespace Go.Proofs.YtebcjaenhiiflaaGreatDoor.S
open Go Go.ChangeMaps Go.MapKept Go.WideShapes
open Go.RowKit Go.WideMaps Go.Maps F
theorem step_delete_run {P:Program} {ops:Array Oper} {o:Oper} {a:Act} {w:World} {K:Act->World->Prop} {Q:Exit->Act->World->Prop} {E:Prop}
 (hg:o.guard=none) (d x:Operand) (dT sT:TypeId) (hop:o.op=Op.call {callee:=Callee.builtin Builtin.delete,args:=#[d,x],argTypes:=#[dT,sT]})
 (v u:Value) (hd:a.eval d=v) (hx:a.eval x=u) {v':Value} {w':World} (hr:(Builtin.delete_ #[dT,sT] o.type #[v,u]).run P w= .ok v' w') (hK:K (a.put o.dst v') w'):
 if Region.wanted o (yielded ops a.tmps)=true then Oper.wp P o a w K Q else E:=by
 have hw:Region.wanted o (yielded ops a.tmps)=true:=by simp [Region.wanted,hg]
 rw [if_pos hw];unfold Oper.wp;simp [execOp,hop,resolve,invoke,builtin,hd,hx,hr,Result.andThen];exact hK
section
variable {H:Type} {P:Program} {k:TypeId} {R:Value->Option (DataW H × List MemPlace)} {w:World} {b n:Nat} {D:DataW H}
theorem entry_fresh {t e:TypeId} (h:w.ownsMap P k R b n D) (K:Keyed P k) (ht:P.underlying t=some (.map k e)) (hn:n<maxLen) {z:Value} (hz:(zeroValue e).run P w= .ok z w) {key:Value} {kl:Lit} (hkey:keyOf P k key=some kl) {zd:DataW H} {zp:List MemPlace} (hzd:R z=some (zd,zp)) (hno:Maps.has D kl=false):
 ∃st w1,(Instr.mapEntry t (.map (some b)) key).run P w= .ok (.tuple #[z,.int .i64 st]) w1/\w1.ownsMap P k R b (n+1) (D.put kl zd)/\w.grownBy w1 (some b)/\
  ∀val d ps,R val=some (d,ps)->∃w2,(Instr.entryStore t (.map (some b)) (.int .i64 st) val).run P w1= .ok () w2/\w2.ownsMap P k R b (n+1) (D.put kl d)/\w.grownBy w2 (some b):=by
 have h0:=h;obtain ⟨v,st,w1,r1,g1,s1,hst⟩:=entry_pair h0 K ht hn hz hkey;obtain ⟨es,clock,hb,F,hs,rfl⟩:=h;have hno2:∀x∈es.toList,x.key≠key:=by
  rcases Maps.fit_look false K ht hz hb F hkey with ⟨_,h2,_⟩ | ⟨e0,y,_,_,_,_,hat,_⟩
  ·exact h2
  ·rw [has_true_of_atKey hat] at hno;cases hno
 rcases K.find w hkey es.toList F.keys with ⟨h1,h2⟩ | ⟨j,e0,h1,h2,h3⟩
 ·have hr:(Instr.mapEntry t (.map (some b)) key).run P w= .ok (.tuple #[z,.int .i64 clock]) (setBlock w b (.map (es.push ⟨key,z,clock⟩) (clock+1))):=by
   simp [Instr.mapEntry,run_underlying ht,MapKept.run_getObj_map hb,K.check w false hkey,h1,hz,MapKept.run_setObj_map _ hb,Result.andThen,setBlock,goInt]
  have hu:(Instr.mapUpdate t (.map (some b)) key z).run P w= .ok () (setBlock w b (.map (es.push ⟨key,z,clock⟩) (clock+1))):=by
   simp [Instr.mapUpdate,run_underlying ht,MapKept.run_getObj_map hb,K.check w false hkey,h1,MapKept.run_setObj_map _ hb,Result.andThen,setBlock]
  obtain ⟨w',hrun,hown,hgr⟩:=h0.update K ht hn hkey hzd;rw [hu] at hrun;injection hrun with _ hw
  rw [hr] at r1;injection r1 with e1 e2
  subst hw;subst e2;injection e1 with e1
  have e3:st=(clock:Int):=by
   have:=congrArg (λ a=>a[1]?) e1;simp at this;exact this.symm
  subst e3;exact ⟨_,_,hr,hown,g1,hst⟩
 ·exact absurd h3 (hno2 e0 (List.mem_of_getElem? h2))
theorem entry_stay {t e:TypeId} (h:w.ownsMap P k R b n D) (K:Keyed P k) (ht:P.underlying t=some (.map k e)) (hn:n<maxLen) {z:Value} (hz:(zeroValue e).run P w= .ok z w) {key:Value} {kl:Lit} (hkey:keyOf P k key=some kl) (hno:Maps.has D kl=true):
 ∃v st,(Instr.mapEntry t (.map (some b)) key).run P w= .ok (.tuple #[v,.int .i64 st]) w/\
  ∀val d ps,R val=some (d,ps)->∃w2,(Instr.entryStore t (.map (some b)) (.int .i64 st) val).run P w= .ok () w2/\w2.ownsMap P k R b (n+1) (D.put kl d)/\w.grownBy w2 (some b):=by
 have h0:=h;obtain ⟨v,st,w1,r1,g1,s1,hst⟩:=entry_pair h0 K ht hn hz hkey
 suffices hw:w1=w by subst hw;exact ⟨v,st,r1,hst⟩
 obtain ⟨es,clock,hb,F,hs,rfl⟩:=h;rcases K.find w hkey es.toList F.keys with ⟨h1,h2⟩ | ⟨j,e0,h1,h2,h3⟩
 ·exfalso
  rcases Maps.fit_look false K ht hz hb F hkey with ⟨_,_,h4⟩ | ⟨e0,y,hm0,h3,_,_,_,_⟩
  ·rw [has_false_of_atKey h4] at hno;cases hno
  ·exact h2 e0 hm0 h3
 ·have hj:es[j]? =some e0:=by simpa using h2
  have hm:(es.modify j λ e=>{e with key:=key})=es:=by
   apply Array.ext
   ·simp
   ·intro i h4 h5
    rw [Array.getElem_modify];split
    ·next hij=>
     subst hij;have:es[j]=e0:=(Array.getElem?_eq_some_iff.1 hj).2;rw [this,<-h3]
    ·rfl
  have hw:setBlock w b (.map es clock)=w:=by
   have hl:=lt_of_some hb;have:w.heap.setIfInBounds b (.map es clock)=w.heap:=by
    apply Array.ext
    ·simp
    ·intro i h4 h5
     rw [Array.getElem_setIfInBounds];split
     ·next hij=>subst hij;exact (Array.getElem?_eq_some_iff.1 hb).2.symm
     ·rfl
   unfold setBlock;rw [this]
  have hr:(Instr.mapEntry t (.map (some b)) key).run P w= .ok (.tuple #[e0.val,.int .i64 e0.born]) (setBlock w b (.map (es.modify j λ e=>{e with key:=key}) clock)):=by
   simp [Instr.mapEntry,run_underlying ht,MapKept.run_getObj_map hb,K.check w false hkey,h1,hj,h3,K.stays w hkey,MapKept.run_setObj_map _ hb,Result.andThen,setBlock,goInt]
  rw [hr,hm,hw] at r1;injection r1 with _ e2
  exact e2.symm
end
theorem room_entry {M:DataW Unit} {D:List Stp} {r:Stp->Int} {w:World} {rm N:Nat} (h:Room M D r) (hm:w.ownsMap Tryz.prog 346 (plainElem Tryz.prog 3) rm N M) (hN:N<=1000000) {s:Stp} (hs:s∈D) {c:Int} (hc:(Lit.int .i64 c).wf=true):
 ∃v st w1 w2,(Instr.lookup 377 (.map (some rm)) (vS s) false).run Tryz.prog w= .ok (.int .i64 (r s)) w/\(Instr.mapEntry 377 (.map (some rm)) (vS s)).run Tryz.prog w= .ok (.tuple #[v,.int .i64 st]) w1/\(Instr.lookup 377 (.map (some rm)) (vS s) false).run Tryz.prog w1= .ok (.int .i64 (r s)) w1/\(Instr.entryStore 377 (.map (some rm)) (.int .i64 st) (.int .i64 c)).run Tryz.prog w1= .ok () w2/\w2.ownsMap Tryz.prog 346 (plainElem Tryz.prog 3) rm (N+1) (M.put (sk s) (.lit (.int .i64 c)))/\w.grownBy w1 (some rm)/\w.grownBy w2 (some rm):=by
 have hl:=(h.look hs hm).2;have hwf:=h.wf s hs;have hml:N<maxLen:=by unfold maxLen;omega
 by_cases h1:0<r s
 ·obtain ⟨v,st,e1,e2⟩:=entry_stay hm law346 Tryz.underlying377 hml (zero3 w) (sk_key hwf) (by rw [h.has hs];exact decide_eq_true h1)
  obtain ⟨w2,h5,h6,h7⟩:=e2 (.int .i64 c) _ _ (plainElem_int Tryz.underlying3 hc);exact ⟨v,st,w,w2,hl,e1,hl,h5,h6,⟨rfl,rfl,rfl,Nat.le_refl _,λ _ _ _=>rfl⟩,h7⟩
 ·have h0:r s=0:=by have:=h.pos s;omega
  obtain ⟨st,w1,e1,hm1,g1,e2⟩:=entry_fresh hm law346 Tryz.underlying377 hml (zero3 w) (sk_key hwf) (plainElem_int Tryz.underlying3 (a:=0) (by decide)) (by rw [h.has hs];exact decide_eq_false h1);obtain ⟨w2,h5,h6,h7⟩:=e2 (.int .i64 c) _ _ (plainElem_int Tryz.underlying3 hc);refine ⟨_,st,w1,w2,hl,e1,?_,h5,h6,g1,h7⟩;obtain ⟨c',k1,k2,_⟩:=hm1.lookup_int law346 Tryz.underlying377 Tryz.underlying3 (zero3 w1) (sk_key hwf);rw [atKey_put_same h.tidy.isMap (sk_lit s)] at k2;rw [k1,<-(Lit.int.inj (DataW.lit.inj k2)).2,h0]
theorem keep_cell {w w':World} {b o rm:Nat} {v:Value} (hg:w.grownBy w' (some rm)) (hne:b≠rm) (h:w.cell? ⟨b,o,none⟩=some v):w'.cell? ⟨b,o,none⟩=some v:=by
 have hl:=lt_of_cell h;simp only [World.cell?] at h ⊢;rw [hg.block b hl (λ e=>hne (by injection e))];exact h
theorem map_ne_cells {w:World} {b rm N:Nat} {M:DataW Unit} {cs:Array Value} {t:TypeId} (hm:w.ownsMap Tryz.prog 346 (plainElem Tryz.prog 3) rm N M) (h:w.heap[b]? =some (.cells cs t)):b≠rm:=λ e=>by
 obtain ⟨es,clock,hb,_⟩:=hm;rw [<-e,h] at hb;simp at hb
theorem But.of_grown {w w':World} {rm:Nat} (hg:w.grownBy w' (some rm)):But rm w w':=⟨hg.os,hg.tape,hg.output,hg.size,λ k hk hn=>hg.block k hk (λ e=>hn (by injection e))⟩
abbrev Cs (w':World) (p rm bx:Nat) (x y z:Int):Prop:=w'.cell? ⟨p,1,none⟩=some (.map (some rm))/\w'.cell? ⟨bx,0,none⟩=some (.int .i64 x)/\w'.cell? ⟨bx,1,none⟩=some (.int .i64 y)/\w'.cell? ⟨bx,2,none⟩=some (.int .i64 z)
theorem Cs.grown {w w':World} {p rm bx:Nat} {x y z:Int} (hp:p≠rm) (hb:bx≠rm) (hg:w.grownBy w' (some rm)) (h:Cs w p rm bx x y z):Cs w' p rm bx x y z:=⟨keep_cell hg hp h.1,keep_cell hg hb h.2.1,keep_cell hg hb h.2.2.1,keep_cell hg hb h.2.2.2⟩
theorem Cs.below {w w':World} {p rm bx:Nat} {x y z:Int} (hg:Below w.heap.size w w') (h:Cs w p rm bx x y z):Cs w' p rm bx x y z:=⟨cell_below h.1 hg,cell_below h.2.1 hg,cell_below h.2.2.1 hg,cell_below h.2.2.2 hg⟩
theorem NetR.stored {w w':World} {p lm rm N N':Nat} {M M':DataW Unit} {D:List Stp} {r r':Stp->Int} (h:NetR w p lm rm N M D r) (hg:w.grownBy w' (some rm)) (hm:w'.ownsMap Tryz.prog 346 (plainElem Tryz.prog 3) rm N' M') (hr:Room M' D r'):NetR w' p lm rm N' M' D r':=
 ⟨(hg.block p (lt_of_some h.hp) (λ e=>h.ne (by injection e))).trans h.hp,hm,hr⟩
def TakePost (w:World) (p lm rm N:Nat) (D:List Stp) (r:Stp->Int) (e:Ending) (w':World):Prop:=
 e= .returned (.tuple #[])/\∃M' N',NetR w' p lm rm N' M' D r/\N'<=N+2/\But rm w w'
theorem take_back {w wr:World} {p lm rm N bx:Nat} {M:DataW Unit} {D:List Stp} {r:Stp->Int} {x y z b1:Int} (h:NetR wr p lm rm N M D r) (hc:Cs wr p rm bx x y z) (hbr:bx≠rm) (hs:(x,z,y)∈D) (hN:N<=950000) (hsm:r (x,z,y)<=1000) (hb1:r (x,z,y)=b1) (hb:But rm w wr):
 Calls Tryz.prog 349 #[.agg #[.int .i64 x,.int .i64 y,.int .i64 z]] wr λ e w'=>e= .returned (.agg #[.int .i64 x,.int .i64 z,.int .i64 y])/\Cs w' p rm bx x y z/\∃v st w1 w2,
  (Instr.lookup 377 (.map (some rm)) (.agg #[.int .i64 x,.int .i64 z,.int .i64 y]) false).run Tryz.prog w'= .ok (.int .i64 b1) w'/\
  (Instr.mapEntry 377 (.map (some rm)) (.agg #[.int .i64 x,.int .i64 z,.int .i64 y])).run Tryz.prog w'= .ok (.tuple #[v,.int .i64 st]) w1/\
  (Instr.lookup 377 (.map (some rm)) (.agg #[.int .i64 x,.int .i64 z,.int .i64 y]) false).run Tryz.prog w1= .ok (.int .i64 b1) w1/\
  (Instr.entryStore 377 (.map (some rm)) (.int .i64 st) (.int .i64 (IntKind.i64.wrap (b1+1)))).run Tryz.prog w1= .ok () w2/\
  Cs w1 p rm bx x y z/\Cs w2 p rm bx x y z/\Hid (∃M' N',NetR w2 p lm rm N' M' D (λ q=>if q=(x,z,y) then b1+1 else r q)/\N'<=N+1/\But rm w w2):=by
 refine (back_any (x,y,z) wr).mono ?_;rintro e w' ⟨rfl,hb'⟩;have h':=h.below hb';have hc':=hc.below hb';have h0:=h.rom.pos (x,z,y);rw [hb1] at h0 hsm;have hw:IntKind.i64.wrap (b1+1)=b1+1:=by rw [IntKind.wrap_i64];omega
 obtain ⟨v,st,w1,w2,e1,e2,e3,e4,hm2,hg1,hg2⟩:=room_entry h'.rom h'.mp (by omega) hs (c:=b1+1) (wf_small (by omega) (by omega));rw [hb1] at e1 e3;refine ⟨rfl,hc',v,st,w1,w2,e1,e2,e3,by rw [hw];exact e4,hc'.grown h.ne hbr hg1,hc'.grown h.ne hbr hg2,_,_,h'.stored hg2 hm2 (h'.rom.put hs (by omega) (by omega)),Nat.le_refl _,?_⟩;exact (hb.trans (But.of_below hb')).trans (But.of_grown hg2)
theorem take_any (p lm rm N:Nat) (M:DataW Unit) (D:List Stp) (r:Stp->Int) (s:Stp) (w:World) (h:NetR w p lm rm N M D r) (hs:s∈D) (hD:Net D) (h1:1<=r s) (hN:N<=900000) (hsm:∀x,r x<=1000):
 Calls Tryz.prog 317 #[.pointer (some ⟨p,0,none⟩),vS s] w (TakePost w p lm rm N D (tk r s)):=by
 have hwf:=h.rom.wf s hs;have hbk:=hD.back s hs;have hne:=hD.ne s hs;obtain ⟨W,hW⟩:∃W,w.alloc (.cells #[.int .i64 s.1,.int .i64 s.2.1,.int .i64 s.2.2] 346)=W:=⟨_,rfl⟩;have hbA:Below w.heap.size w W:=by rw [<-hW];exact (Below.refl _ _).alloc (Nat.le_refl _) _
 have hbx:W.heap[w.heap.size]? =some (.cells #[.int .i64 s.1,.int .i64 s.2.1,.int .i64 s.2.2] 346):=by rw [<-hW];exact heap_alloc_new w _
 have hA:=h.below hbA;have hAd:NetR W.drew p lm rm N M D r:=hA.below (Below.refl _ _).drew;have hr1:(Lit.int .i64 (r s-1)).wf=true:=wf_small (by omega) (by have:=hsm s;omega);obtain ⟨v1,st1,w1,w2,e1,e2,e3,e4,hm2,hg1,hg2⟩:=room_entry hAd.rom hAd.mp (by omega) hs hr1;obtain ⟨k,hk⟩:∃k,r s=k:=⟨_,rfl⟩;obtain ⟨bx,hbxe⟩:∃bx,w.heap.size=bx:=⟨_,rfl⟩;have hpr:=hAd.ne;have hbr:bx≠rm:=by rw [<-hbxe];exact map_ne_cells hAd.mp hbx
 rw [hbxe] at hbx;have hS0:Cs W.drew p rm bx s.1 s.2.1 s.2.2:=by
  refine ⟨by simp [World.cell?,hAd.hp],?_,?_,?_⟩ <;> simp [World.cell?,show W.drew.heap[bx]? =_ from hbx]
 have hS1:=hS0.grown hpr hbr hg1;have hS2:=hS0.grown hpr hbr hg2;have hsk:=hsm s;rw [hk] at e1 e3 e4 hm2 h1 hsk;have hwk:IntKind.i64.wrap (k-1)=k-1:=by rw [IntKind.wrap_i64];omega
 have lk2:∀n,(Instr.lookup 377 (.map (some rm)) (vS s) false).run Tryz.prog (w2.drewN n)= .ok (.int .i64 (k-1)) (w2.drewN n):=λ n=>by
  have hm3:(w2.drewN n).ownsMap Tryz.prog 346 (plainElem Tryz.prog 3) rm (N+1) _:=hm2.kept (grown_below (below_drewN (Below.refl _ _) n)) (by simp);obtain ⟨c',k1,k2,_⟩:=hm3.lookup_int law346 Tryz.underlying377 Tryz.underlying3 (zero3 _) (sk_key hwf);rw [atKey_put_same hAd.rom.tidy.isMap (sk_lit s)] at k2;rw [k1,<-(Lit.int.inj (DataW.lit.inj k2)).2]
 have HEnd:Hid (∀wr M' r',(∀q,r' q=if q=s then k-1 else r q)->NetR wr p lm rm (N+1) M' D r'->Cs wr p rm bx s.1 s.2.1 s.2.2->But rm w2 wr->Calls Tryz.prog 349 #[vS s] wr.drew λ e w'=>e= .returned (vS (bk s))/\Cs w' p rm bx s.1 s.2.1 s.2.2/\∃v st b1 w1 w2,
  (Instr.lookup 377 (.map (some rm)) (vS (bk s)) false).run Tryz.prog w'= .ok (.int .i64 b1) w'/\
  (Instr.mapEntry 377 (.map (some rm)) (vS (bk s))).run Tryz.prog w'= .ok (.tuple #[v,.int .i64 st]) w1/\
  (Instr.lookup 377 (.map (some rm)) (vS (bk s)) false).run Tryz.prog w1= .ok (.int .i64 b1) w1/\
  (Instr.entryStore 377 (.map (some rm)) (.int .i64 st) (.int .i64 (IntKind.i64.wrap (b1+1)))).run Tryz.prog w1= .ok () w2/\
  Cs w1 p rm bx s.1 s.2.1 s.2.2/\Cs w2 p rm bx s.1 s.2.1 s.2.2/\Hid (TakePost w p lm rm N D (tk r s) (.returned (.tuple #[])) w2)):=by
  intro wr M' r' hr' hn hc hb;have hbs:bk s≠s:=bk_ne hne;have hrb:r' (bk s)=r (bk s):=by rw [hr',if_neg hbs]
  have hbw:But rm w wr:=((But.of_below (hbA.trans (Below.refl _ _).drew)).trans (But.of_grown hg2)).trans hb;have hnd:NetR wr.drew p lm rm (N+1) M' D r':=hn.below (Below.refl _ _).drew;refine (take_back (w:=w) (b1:=r (bk s)) hnd (hc.below (Below.refl _ _).drew) hbr hbk (by omega) (by have:=hsm (bk s);show r' (bk s)<=1000;omega) hrb (hbw.trans (But.of_below (Below.refl _ _).drew))).mono ?_;rintro e w' ⟨rfl,k1,v,st,w1,w2,k2,k3,k4,k5,k6,k7,M4,N4,k8,k9,k10⟩;refine ⟨rfl,k1,v,st,r (bk s),w1,w2,k2,k3,k4,k5,k6,k7,rfl,M4,N4,?_,by omega,k10⟩;have:(λ q=>if q=(s.1,s.2.2,s.2.1) then r (bk s)+1 else r' q)=tk r s:=by
   funext q
   rw [tk_at r hne,hr'];show (if q=bk s then _ else _)=_;by_cases h1:q=bk s
   ·rw [if_pos h1,if_neg (by rw [h1];exact hbs),if_pos h1,h1]
   ·rw [if_neg h1,if_neg h1,hk]
  rw [this] at k8;exact k8
 have HPut:Hid (k≠1->∀n,NetR (w2.drewN n) p lm rm (N+1) (M.put (sk s) (.lit (.int .i64 (k-1)))) D (λ q=>if q=s then k-1 else r q)):=λ h2 n=>
  (hAd.stored hg2 hm2 (hAd.rom.put hs (by omega) (by omega))).below (below_drewN (Below.refl _ _) n)
 have HDel:Hid (k=1->∀n,∃w3,(Builtin.delete_ #[377,346] 0 #[.map (some rm),vS s]).run Tryz.prog (w2.drewN n).drew= .ok (.tuple #[]) w3/\NetR w3 p lm rm (N+1) ((M.put (sk s) (.lit (.int .i64 (k-1)))).del (sk s)) D (λ q=>if q=s then k-1 else r q)/\Cs w3 p rm bx s.1 s.2.1 s.2.2/\But rm w2 w3):=λ h2 n=>by
  have hbn:Below w2.heap.size w2 (w2.drewN n).drew:=(below_drewN (Below.refl _ _) n).drew;have hm3:(w2.drewN n).drew.ownsMap Tryz.prog 346 (plainElem Tryz.prog 3) rm (N+1) _:=hm2.kept (grown_below hbn) (by simp);obtain ⟨w3,r3,o3,t3⟩:=hm3.drop law346 Tryz.underlying377 (sk_key hwf) 0;have hg3:=t3.grown;have hd:=hAd.rom.del hs (.lit (.int .i64 (k-1)));have hk0:k-1=0:=by omega
  refine ⟨w3,r3,?_,(hS2.below hbn).grown hpr hbr hg3,(But.of_below hbn).trans (But.of_grown hg3)⟩;have hp2:(w2.drewN n).drew.heap[p]? =some (.cells #[.map (some lm),.map (some rm)] 379):=(hbn.block p (by have:=lt_of_some hAd.hp;have:=hg2.size;omega)).trans ((hg2.block p (lt_of_some hAd.hp) (λ e=>hpr (by injection e))).trans hAd.hp);refine ⟨(hg3.block p (lt_of_some hp2) (λ e=>hpr (by injection e))).trans hp2,o3,?_⟩;rw [hk0] at hd ⊢;exact hd
 unfold vS at e1 e2 e3 lk2 ⊢;have HW:Hid (w.alloc (.cells #[.int .i64 s.1,.int .i64 s.2.1,.int .i64 s.2.2] 346)=W):=hW;have HBX:Hid (w.heap.size=bx):=hbxe;obtain ⟨x,y,z⟩:=s;unfold vS bk at HEnd;unfold vS at HDel;unfold Cs at hS0 hS1 hS2 HEnd HDel;simp only at e1 e2 e3 e4 hS0 hS1 hS2 HW lk2 HEnd HPut HDel ⊢;clear h hs hD hN hsm hwf hbk hne hW hbA hbx hA hAd hr1 hm2 hg1 hg2 hk hbxe hpr hbr;go_enter Tryz.func317,Tryz.ntmps317;go_upto_region 1 with fail
 rw [HW.out,HBX.out];go_region_held (λ w'=>(w'.cell? ⟨p,1,none⟩=some (.map (some rm))/\w'.cell? ⟨bx,0,none⟩=some (.int .i64 x)/\w'.cell? ⟨bx,1,none⟩=some (.int .i64 y)/\w'.cell? ⟨bx,2,none⟩=some (.int .i64 z))) (with_reducible assumption) (fail)
 all_goals
  clear e1 e2 e3 e4 hS0 hS1 HW HBX;by_cases hk1:k=1
  ·have hl0:∀n,(Instr.lookup 377 (.map (some rm)) (.agg #[.int .i64 x,.int .i64 y,.int .i64 z]) false).run Tryz.prog (w2.drewN n)= .ok (.int .i64 0) (w2.drewN n):=λ n=>by rw [lk2 n,hk1];rfl
   have HD2:Hid _:=HDel.out hk1;clear lk2 hwk HPut HDel;go_wp2_with fail;go_quiet (fail);go_upto_region 3 with fail
   obtain ⟨w3,r3,hn3,hS3,hb3⟩:=HD2.out nq
   go_region_law (refine step_delete_run rfl (.tmp 23) (.tmp 24) 377 346 rfl (.map (some rm)) (.agg #[.int .i64 x,.int .i64 y,.int .i64 z]) (by first | rfl | (simp [Act.eval];done) | (simp [Act.eval,Act.put];done)) (by first | rfl | (simp [Act.eval];done) | (simp [Act.eval,Act.put];done)) r3 ?_)
   all_goals
    have HCall:Hid _:=HEnd.out w3 _ _ (λ q=>rfl) hn3 hS3 hb3;have hS3d:(w3.drew.cell? ⟨p,1,none⟩=some (.map (some rm))/\w3.drew.cell? ⟨bx,0,none⟩=some (.int .i64 x)/\w3.drew.cell? ⟨bx,1,none⟩=some (.int .i64 y)/\w3.drew.cell? ⟨bx,2,none⟩=some (.int .i64 z)):=hS3;clear hl0 hn3 HEnd HD2 hS2 hS3 hb3 r3;go_upto_region 4 with fail
    go_region_held (λ w'=>(w'.cell? ⟨p,1,none⟩=some (.map (some rm))/\w'.cell? ⟨bx,0,none⟩=some (.int .i64 x)/\w'.cell? ⟨bx,1,none⟩=some (.int .i64 y)/\w'.cell? ⟨bx,2,none⟩=some (.int .i64 z))) (with_reducible assumption)
     (first | (go_at_call 349;go_loud (refine Calls.mono HCall.out ?_;rintro e w' ⟨rfl,hS4,v2,st2,b1,w4,w5,q1,q2,q3,q4,hS5,hS6,HP⟩)))
    all_goals
     go_wp2_with fail;refine bodyPost_ret (v:=.tuple #[]) (by simp [results,Tryz.results317,go_sem]) rfl ?_;exact HP.out
  ·have hk2:¬k-1=0:=by omega
   have hn3:=λ n=>HPut.out hk1 n
   obtain ⟨k',hk'⟩:∃k',k-1=k':=⟨_,rfl⟩;have HK:Hid (k-1=k'):=hk';rw [hk'] at lk2 hk2;clear HPut HDel hk' hwk;go_wp2_with fail;go_quiet (fail);go_upto_region 4 with fail
   have HCall:Hid _:=HEnd.out (w2.drewN nq) _ _ (λ q=>rfl) (hn3 nq) hS2 (But.of_below (below_drewN (Below.refl _ _) nq));have hS3d:((w2.drewN nq).drew.cell? ⟨p,1,none⟩=some (.map (some rm))/\(w2.drewN nq).drew.cell? ⟨bx,0,none⟩=some (.int .i64 x)/\(w2.drewN nq).drew.cell? ⟨bx,1,none⟩=some (.int .i64 y)/\(w2.drewN nq).drew.cell? ⟨bx,2,none⟩=some (.int .i64 z)):=hS2;clear lk2 hn3 HEnd hS2;obtain ⟨wr,hwr⟩:∃wr,w2.drewN nq=wr:=⟨_,rfl⟩;rw [hwr] at HCall hS3d ⊢;clear hwr;go_region_held (λ w'=>(w'.cell? ⟨p,1,none⟩=some (.map (some rm))/\w'.cell? ⟨bx,0,none⟩=some (.int .i64 x)/\w'.cell? ⟨bx,1,none⟩=some (.int .i64 y)/\w'.cell? ⟨bx,2,none⟩=some (.int .i64 z))) (with_reducible assumption)
    (first | (go_at_call 349;go_loud (refine Calls.mono HCall.out ?_;rintro e w' ⟨rfl,hS4,v2,st2,b1,w4,w5,q1,q2,q3,q4,hS5,hS6,HP⟩)))
   all_goals
    go_wp2_with fail;refine bodyPost_ret (v:=.tuple #[]) (by simp [results,Tryz.results317,go_sem]) rfl ?_;exact HP.out
end Go.Proofs.YtebcjaenhiiflaaGreatDoor.S
namespace Go.Proofs.YtebcjaenhiiflaaGreatDoor.S
open Go Go.ChangeMaps Go.MapKept Go.WideShapes
open Go.RowKit Go.WideMaps Go.Maps F
theorem info346:∃i,Tryz.prog.info? 346=some i/\i.size=3/\i.bytes=24/\i.zero=some G.zE:=
 ⟨(Tryz.prog.info? 346).get (by kernel_rfl),by kernel_rfl,by kernel_rfl,by kernel_rfl,by kernel_rfl⟩
theorem append_S (ty:TypeId) (w:World) (B:Nat) (v:Value) (L M:List Stp) (h:G.Owns w B 346 v L) (hB:B<=w.heap.size) (a:Addr) (m c:Nat) (hm:m=M.length) (hM:∀j u,(G.rowV M)[j]? =some u->w.cell? (a.add j)=some u) (hl:L.length+M.length<=100000):
 ∃v' w',(Builtin.append_ #[347,347] ty #[v,.slice (some a) m c]).run Tryz.prog w= .ok v' w'/\G.Owns w' B 346 v' (L++M)/\w.grownBy w' v.ownBlock/\(v'.ownBlock=v.ownBlock\/v'.ownBlock=some w.heap.size):=by
 subst hm;obtain ⟨i,hi,hs,hb,hz⟩:=info346;obtain ⟨v',w',h1,h2,h3,_,h5⟩:=run_append_own_at (P:=Tryz.prog) w B 347 ty 346 i G.zE 3 24 Tryz.underlying347 hi hz hs hb (by rw [G.zE_cells];rfl) (by omega) v L.length (G.rowV L) h a M.length c (G.rowV M) (G.rowV_length M) hM (G.rowV_one M) (by simp only [maxLen];omega) (by omega) hB;refine ⟨v',w',h1,?_,h3,h5⟩;show w'.ownsRow B 346 3 v' (L++M).length (G.rowV (L++M));rw [List.length_append,G.rowV_append];exact h2
def hold:Value->Option (DataW Value × List MemPlace):=λ v=>some (.held v,[])
theorem zero347 (w:World):(zeroValue 347).run Tryz.prog w= .ok (.slice none 0 0) w:=by kernel_rfl
theorem ik (x:Int):WideAt.IsKeyLit (.int .i64 x):=trivial
structure Lv (w:World) (lm N B:Nat) (L:DataW Value) (f:Int->Value) (g:Int->List Stp):Prop where
 mp:w.ownsMap Tryz.prog 3 hold lm N L
 tidy:Tidy L
 at_:∀x,L.atKey (.int .i64 x) (.held (.slice none 0 0))= .held (f x)
 row:∀x,G.Owns w B 346 (f x) (g x)
 apart:∀x y k,x≠y->(f x).ownBlock=some k->(f y).ownBlock≠some k
 lt:lm<B
 le:B<=w.heap.size
section
variable {w w':World} {lm N B:Nat} {L:DataW Value} {f:Int->Value} {g:Int->List Stp}
theorem Lv.below (h:Lv w lm N B L f g) (hb:Below w.heap.size w w'):Lv w' lm N B L f g:=
 {h with mp:=h.mp.kept (grown_below hb) (by simp),row:=λ x=>(h.row x).below hb,le:=Nat.le_trans h.le hb.size}
theorem Lv.off (h:Lv w lm N B L f g) {x:Int} {k:Nat} (hk:(f x).ownBlock=some k):B<=k/\k<w.heap.size:=World.ownsRow.lt (h.row x) k hk
theorem Lv.grown (h:Lv w lm N B L f g) {k:Nat} (hg:w.grownBy w' (some k)) (h1:k≠lm) (h2:k<B):Lv w' lm N B L f g:=
 {h with mp:=h.mp.kept hg (λ e=>h1 (by injection e with e;exact e.symm)),le:=Nat.le_trans h.le hg.size,row:=λ x=>World.ownsRow.kept (h.row x) hg (by
    cases hf:(f x).ownBlock with
    | none=>exact .inl rfl
    | some j=>
      refine .inr (λ e=>?_);injection e with e
      have:=(h.off hf).1;omega)}
theorem Lv.look (h:Lv w lm N B L f g) {x:Int} (hx:(Lit.int .i64 x).wf=true):(Instr.lookup 376 (.map (some lm)) (.int .i64 x) false).run Tryz.prog w= .ok (f x) w:=by
 obtain ⟨v,ps,h1,h2⟩:=h.mp.lookup law3 Tryz.underlying376 (zero347 w) (zd:=.held (.slice none 0 0)) (zp:=[]) rfl (key3 x hx);rw [h.at_ x] at h2;simp [hold] at h2;rw [h1,h2.1]
theorem Lv.more (h:Lv w lm N B L f g) (ty:TypeId) {x:Int} (hx:(Lit.int .i64 x).wf=true) {s:Stp} {b:Nat} (hb:w.heap[b]? =some (.cells (G.encE s).toArray 346)) (hl:(g x).length<=1000) (hN:N<=1000000):
 ∃v' w1 w2 L',(Builtin.append_ #[347,347] ty #[f x,.slice (some ⟨b,0,none⟩) 1 1]).run Tryz.prog w= .ok v' w1/\(Instr.mapUpdate 376 (.map (some lm)) (.int .i64 x) v').run Tryz.prog w1= .ok () w2/\
  Lv w2 lm (N+1) B L' (λ y=>if y=x then v' else f y) (λ y=>if y=x then g x++[s] else g y)/\w.grownBy w1 (f x).ownBlock/\w1.grownBy w2 (some lm)/\(v'.ownBlock=(f x).ownBlock\/v'.ownBlock=some w.heap.size):=by
 have hM:∀j u,(G.rowV [s])[j]? =some u->w.cell? ((⟨b,0,none⟩:Addr).add j)=some u:=by
  intro j u hu;rw [G.addr0_add];have e:G.rowV [s]=G.encE s:=by simp [G.rowV]
  rw [e] at hu;simp [World.cell?,hb,hu]
 obtain ⟨v',w1,r1,o1,g1,f1⟩:=append_S ty w B (f x) (g x) [s] (h.row x) h.le ⟨b,0,none⟩ 1 1 rfl hM (by simp;omega);have hlm:(f x).ownBlock≠some lm:=λ e=>by have:=(h.off e).1;have:=h.lt;omega
 have m1:w1.ownsMap Tryz.prog 3 hold lm N L:=h.mp.kept g1 (λ e=>hlm e.symm);obtain ⟨w2,r2,m2,g2⟩:=m1.update law3 Tryz.underlying376 (by unfold maxLen;omega) (key3 x hx) (val:=v') (d:=.held v') (ps:=[]) rfl;refine ⟨v',w1,w2,_,r1,r2,⟨m2,h.tidy.put (ik x) _,λ y=>?_,λ y=>?_,λ y z k hyz hk=>?_,h.lt,Nat.le_trans h.le (Nat.le_trans g1.size g2.size)⟩,g1,g2,f1⟩
 ·by_cases e:y=x
  ·rw [e,if_pos rfl,atKey_put_same h.tidy.isMap (ik x)]
  ·rw [if_neg e,atKey_put_other (λ k=>e (by injection k))]
   exact h.at_ y
 ·have stay:∀{v:Value} {l:List Stp},G.Owns w1 B 346 v l->G.Owns w2 B 346 v l:=λ {v l} ho=>World.ownsRow.kept ho g2 (by
   cases hv:v.ownBlock with
   | none=>exact .inl rfl
   | some j=>
     refine .inr (λ e=>?_);injection e with e
     have:=(World.ownsRow.lt ho j hv).1;have:=h.lt;omega)
  by_cases e:y=x
  ·simp only [if_pos e];exact stay o1
  ·simp only [if_neg e]
   refine stay (World.ownsRow.kept (h.row y) g1 ?_);cases hv:(f y).ownBlock with
   | none=>exact .inl rfl
   | some j=>exact .inr (λ k=>h.apart y x j e hv k.symm)
 ·have new:∀{u:Int} {k:Nat},u≠x->v'.ownBlock=some k->(f u).ownBlock≠some k:=λ {u k} hu hk hf=>by
   rcases f1 with f1 | f1
   ·rw [hk] at f1
    exact h.apart u x k hu hf f1.symm
   ·rw [hk] at f1
    injection f1 with f1
    have:=(h.off hf).2;omega
  by_cases e1:y=x
  ·rw [if_pos e1] at hk
   rw [if_neg (λ e2=>hyz (e1.trans e2.symm))];exact new (λ e2=>hyz (e1.trans e2.symm)) hk
  ·rw [if_neg e1] at hk
   by_cases e2:z=x
   ·rw [if_pos e2];exact λ k2=>new e1 k2 hk
   ·rw [if_neg e2];exact h.apart y z k hyz hk
end
end Go.Proofs.YtebcjaenhiiflaaGreatDoor.S
namespace Go.Proofs.YtebcjaenhiiflaaGreatDoor.S
open Go Go.ChangeMaps Go.MapKept Go.WideShapes
open Go.RowKit Go.WideMaps Go.Maps F
def NoRow (f:Int->Value) (k:Nat):Prop:=∀x,(f x).ownBlock≠some k
structure Ro (f:Int->Value) (lm:Nat) (w w':World):Prop where
 os:w'.os=w.os
 tape:w'.tape=w.tape
 output:w'.output=w.output
 size:w.heap.size<=w'.heap.size
 block:∀k,k<w.heap.size->k≠lm->NoRow f k->w'.heap[k]? =w.heap[k]?
section
variable {w w':World} {lm N B:Nat} {L:DataW Value} {f:Int->Value} {g:Int->List Stp}
theorem Lv.lay (h:Lv w lm N B L f g) (ty:TypeId) {x:Int} (hx:(Lit.int .i64 x).wf=true) (s:Stp) (hl:(g x).length<=1000) (hN:N<=1000000):
 ∃v' w1 w2 L',(Instr.lookup 376 (.map (some lm)) (.int .i64 x) false).run Tryz.prog w= .ok (f x) w/\(Instr.lookup 376 (.map (some lm)) (.int .i64 x) false).run Tryz.prog (w.alloc (.cells #[.int .i64 s.1,.int .i64 s.2.1,.int .i64 s.2.2] 346))= .ok (f x) (w.alloc (.cells #[.int .i64 s.1,.int .i64 s.2.1,.int .i64 s.2.2] 346))/\
  (Builtin.append_ #[347,347] ty #[f x,.slice (some ⟨w.heap.size,0,none⟩) 1 1]).run Tryz.prog (w.alloc (.cells #[.int .i64 s.1,.int .i64 s.2.1,.int .i64 s.2.2] 346))= .ok v' w1/\(Instr.mapUpdate 376 (.map (some lm)) (.int .i64 x) v').run Tryz.prog w1= .ok () w2/\
  Lv w2 lm (N+1) B L' (λ y=>if y=x then v' else f y) (λ y=>if y=x then g x++[s] else g y)/\Ro f lm w w1/\Ro f lm w w2/\(∀k,k<w.heap.size->NoRow f k->NoRow (λ y=>if y=x then v' else f y) k):=by
 have hb:Below w.heap.size w (w.alloc (.cells #[.int .i64 s.1,.int .i64 s.2.1,.int .i64 s.2.2] 346)):=(Below.refl _ _).alloc (Nat.le_refl _) _;have ha:=h.below hb;have hn:=heap_alloc_new w (.cells #[.int .i64 s.1,.int .i64 s.2.1,.int .i64 s.2.2] 346);obtain ⟨v',w1,w2,L',r1,r2,l2,g1,g2,f1⟩:=ha.more ty hx (s:=s) (b:=w.heap.size) hn hl hN;have ro1:Ro f lm w w1:=⟨g1.os.trans hb.os,g1.tape.trans hb.tape,g1.output.trans hb.output,Nat.le_trans hb.size g1.size,λ k hk _ hr=>(g1.block k (Nat.lt_of_lt_of_le hk hb.size) (λ e=>hr x e.symm)).trans (hb.block k hk)⟩;refine ⟨v',w1,w2,L',h.look hx,ha.look hx,r1,r2,l2,ro1,⟨g2.os.trans ro1.os,g2.tape.trans ro1.tape,g2.output.trans ro1.output,Nat.le_trans ro1.size g2.size,λ k hk hne hr=>(g2.block k (Nat.lt_of_lt_of_le hk ro1.size) (λ e=>hne (by injection e))).trans (ro1.block k hk hne hr)⟩,λ k hk hr y=>?_⟩;show (if y=x then v' else f y).ownBlock≠some k;by_cases e:y=x
 ·rw [if_pos e]
  intro e2;rcases f1 with f1 | f1
  ·exact hr x (f1.symm.trans e2)
  ·rw [f1] at e2
   injection e2 with e2
   rw [World.size_alloc] at e2;omega
 ·rw [if_neg e];exact hr y
end
theorem Room.wider {M:DataW Unit} {D D':List Stp} {r:Stp->Int} (h:Room M D r) (hd:∀t∈D,t∈D') (h0:∀t∈D',t∉D->r t=0) (hw:∀t∈D',wfS t):Room M D' r:=by
 have back:∀t∈D',0<r t->t∈D:=λ t ht hp=>by
  by_cases h1:t∈D
  ·exact h1
  ·have:=h0 t ht h1;omega
 refine ⟨λ kl=>?_,λ t ht hp=>h.val t (back t ht hp) hp,h.tidy,hw,h.pos,h.small⟩;rw [h.key];constructor
 ·rintro ⟨t,h1,h2,h3⟩;exact ⟨t,hd t h1,h2,h3⟩
 ·rintro ⟨t,h1,h2,h3⟩;exact ⟨t,back t h1 h2,h2,h3⟩
structure NetA (w:World) (p lm rm N B:Nat) (M:DataW Unit) (L:DataW Value) (D:List Stp) (r:Stp->Int) (f:Int->Value) (g:Int->List Stp):Prop where
 net:NetR w p lm rm N M D r
 lv:Lv w lm N B L f g
 pb:p<B
 rb:rm<B
 ne:lm≠rm
theorem NetA.below {w w':World} {p lm rm N B:Nat} {M:DataW Unit} {L:DataW Value} {D:List Stp} {r:Stp->Int} {f:Int->Value} {g:Int->List Stp} (h:NetA w p lm rm N B M L D r f g) (hb:Below w.heap.size w w'):NetA w' p lm rm N B M L D r f g:=
 {h with net:=h.net.below hb,lv:=h.lv.below hb}
theorem newNet_any (w:World):Calls Tryz.prog 313 #[] w λ e w'=>∃p lm rm,e= .returned (.pointer (some ⟨p,0,none⟩))/\NetA w' p lm rm 0 w'.heap.size (.map []) (.map []) [] (λ _=>0) (λ _=>.slice none 0 0) (λ _=>[])/\w.heap.size<=p/\w.heap.size<=lm/\w.heap.size<=rm/\Below w.heap.size w w':=by
 have hmm:=@run_makeMap Tryz.prog;go_enter Tryz.func313,Tryz.ntmps313;go_wp2_with fail;go_ret;obtain ⟨W1,hW1⟩:∃W1,w.alloc (.map #[] 0)=W1:=⟨_,rfl⟩;obtain ⟨W2,hW2⟩:∃W2,W1.alloc (.map #[] 0)=W2:=⟨_,rfl⟩;have z1:W1.heap.size=w.heap.size+1:=by rw [<-hW1];simp
 have z2:W2.heap.size=w.heap.size+2:=by rw [<-hW2];simp [z1]
 have m1:W1.ownsMap Tryz.prog 3 hold w.heap.size 0 (.map []):=by rw [<-hW1];exact World.ownsMap_made w _ _ _
 have m2:W2.ownsMap Tryz.prog 346 (plainElem (H:=Unit) Tryz.prog 3) (w.heap.size+1) 0 (.map []):=by rw [<-hW2,<-z1];exact World.ownsMap_made W1 _ _ _
 refine ⟨w.heap.size+2,w.heap.size,w.heap.size+1,rfl,⟨⟨?_,?_,?_⟩,⟨?_,tidy_empty,λ x=>rfl,λ x=>World.ownsRow_nil _ _ 346 3,λ x y k _ hk=>by simp [Value.ownBlock] at hk,?_,Nat.le_refl _⟩,?_,?_,by omega⟩,by omega,by omega,by omega,?_⟩
 ·rw [hW1,hW2]
  have:=heap_alloc_new W2 (.cells #[.map (some w.heap.size),.map (some (w.heap.size+1))] 379);rw [z2] at this;exact this
 ·rw [hW1,hW2];exact m2.alloc _
 ·exact ⟨λ kl=>⟨λ h=>(by cases h),λ ⟨t,h,_⟩=>(by simp at h)⟩,λ s hs=>(by simp at hs),tidy_empty,λ s hs=>(by simp at hs),λ _=>Int.le_refl _,λ _=>by omega⟩
 ·rw [hW1];exact (m1.alloc _).alloc _
 ·simp only [World.size_alloc];omega
 ·simp only [World.size_alloc];omega
 ·simp only [World.size_alloc];omega
 ·exact (((Below.refl _ _).alloc (Nat.le_refl _) _).alloc (by simp) _).alloc (by simp;omega) _
structure Out (lm rm:Nat) (f0 f:Int->Value) (w w':World):Prop where
 os:w'.os=w.os
 tape:w'.tape=w.tape
 output:w'.output=w.output
 size:w.heap.size<=w'.heap.size
 block:∀k,k<w.heap.size->k≠lm->k≠rm->NoRow f0 k->w'.heap[k]? =w.heap[k]?
 norow:∀k,k<w.heap.size->NoRow f0 k->NoRow f k
def C5 (w:World) (p lm rm bx:Nat) (s:Stp):Prop:=w.cell? ⟨p,0,none⟩=some (.map (some lm))/\w.cell? ⟨p,1,none⟩=some (.map (some rm))/\w.cell? ⟨bx,0,none⟩=some (.int .i64 s.1)/\w.cell? ⟨bx,1,none⟩=some (.int .i64 s.2.1)/\w.cell? ⟨bx,2,none⟩=some (.int .i64 s.2.2)
structure MidF (w0:World) (f0:Int->Value) (w:World) (p lm rm bx N B:Nat) (M:DataW Unit) (D:List Stp) (r:Stp->Int) (f:Int->Value) (g:Int->List Stp) (s:Stp):Prop where
 net:NetR w p lm rm N M D r
 lv:∃L,Lv w lm N B L f g
 pb:p<B
 rb:rm<B
 ne:lm≠rm
 box:w.heap[bx]? =some (.cells #[.int .i64 s.1,.int .i64 s.2.1,.int .i64 s.2.2] 346)
 norow:NoRow f bx
 fr:Out lm rm f0 f w0 w
 bb:B<=bx
 b0:B<=w0.heap.size
section
variable {w0 w w':World} {p lm rm bx N B:Nat} {M:DataW Unit} {D:List Stp} {r:Stp->Int} {f0 f:Int->Value} {g:Int->List Stp} {s:Stp}
theorem MidF.c5 (h:MidF w0 f0 w p lm rm bx N B M D r f g s):C5 w p lm rm bx s:=by
 refine ⟨?_,?_,?_,?_,?_⟩ <;> simp [World.cell?,h.net.hp,h.box]
theorem MidF.plm (h:MidF w0 f0 w p lm rm bx N B M D r f g s):p≠lm:=λ e=>by
 obtain ⟨L,hl⟩:=h.lv;obtain ⟨es,clock,hb,_⟩:=hl.mp;rw [<-e,h.net.hp] at hb;simp at hb
theorem MidF.bxlm (h:MidF w0 f0 w p lm rm bx N B M D r f g s):bx≠lm:=λ e=>by
 obtain ⟨L,hl⟩:=h.lv;have:=hl.lt;have:=h.bb;omega
theorem MidF.low (h:MidF w0 f0 w p lm rm bx N B M D r f g s) {k:Nat} (hk:k<B):NoRow f k:=λ x e=>by
 obtain ⟨L,hl⟩:=h.lv;have:=(hl.off e).1;omega
theorem MidF.below (h:MidF w0 f0 w p lm rm bx N B M D r f g s) (hb:Below w.heap.size w w'):MidF w0 f0 w' p lm rm bx N B M D r f g s:=by
 obtain ⟨L,hl⟩:=h.lv;exact {h with net:=h.net.below hb,lv:=⟨L,hl.below hb⟩,box:=(hb.block bx (lt_of_some h.box)).trans h.box,fr:=⟨hb.os.trans h.fr.os,hb.tape.trans h.fr.tape,hb.output.trans h.fr.output,Nat.le_trans h.fr.size hb.size,λ k h1 h2 h3 h4=>(hb.block k (Nat.lt_of_lt_of_le h1 h.fr.size)).trans (h.fr.block k h1 h2 h3 h4),h.fr.norow⟩}
theorem MidF.ro (h:MidF w0 f0 w p lm rm bx N B M D r f g s) (ro:Ro f lm w w'):C5 w' p lm rm bx s:=by
 have h1:=(ro.block p (lt_of_some h.net.hp) h.plm (h.low h.pb)).trans h.net.hp;have h2:=(ro.block bx (lt_of_some h.box) h.bxlm h.norow).trans h.box;refine ⟨?_,?_,?_,?_,?_⟩ <;> simp [World.cell?,h1,h2]
theorem MidF.lay (h:MidF w0 f0 w p lm rm bx N B M D r f g s) (ty:TypeId) {x:Int} (hx:(Lit.int .i64 x).wf=true) (t:Stp) (hl:(g x).length<=1000) (hN:N<=1000000):
 ∃v' w1 w2,(Instr.lookup 376 (.map (some lm)) (.int .i64 x) false).run Tryz.prog w= .ok (f x) w/\(Instr.lookup 376 (.map (some lm)) (.int .i64 x) false).run Tryz.prog (w.alloc (.cells #[.int .i64 t.1,.int .i64 t.2.1,.int .i64 t.2.2] 346))= .ok (f x) (w.alloc (.cells #[.int .i64 t.1,.int .i64 t.2.1,.int .i64 t.2.2] 346))/\
  (Builtin.append_ #[347,347] ty #[f x,.slice (some ⟨w.heap.size,0,none⟩) 1 1]).run Tryz.prog (w.alloc (.cells #[.int .i64 t.1,.int .i64 t.2.1,.int .i64 t.2.2] 346))= .ok v' w1/\(Instr.mapUpdate 376 (.map (some lm)) (.int .i64 x) v').run Tryz.prog w1= .ok () w2/\
  C5 w p lm rm bx s/\C5 (w.alloc (.cells #[.int .i64 t.1,.int .i64 t.2.1,.int .i64 t.2.2] 346)) p lm rm bx s/\C5 w1 p lm rm bx s/\C5 w2 p lm rm bx s/\
  MidF w0 f0 w2 p lm rm bx (N+1) B M D r (λ y=>if y=x then v' else f y) (λ y=>if y=x then g x++[t] else g y) s:=by
 obtain ⟨L,hv⟩:=h.lv;obtain ⟨v',w1,w2,L',e1,e2,e3,e4,l2,ro1,ro2,nr⟩:=hv.lay ty hx t hl hN;refine ⟨v',w1,w2,e1,e2,e3,e4,h.c5,(h.below ((Below.refl _ _).alloc (Nat.le_refl _) _)).c5,h.ro ro1,h.ro ro2,⟨⟨(ro2.block p (lt_of_some h.net.hp) h.plm (h.low h.pb)).trans h.net.hp,?_,h.net.rom⟩,⟨L',l2⟩,h.pb,h.rb,h.ne,(ro2.block bx (lt_of_some h.box) h.bxlm h.norow).trans h.box,nr bx (lt_of_some h.box) h.norow,⟨ro2.os.trans h.fr.os,ro2.tape.trans h.fr.tape,ro2.output.trans h.fr.output,Nat.le_trans h.fr.size ro2.size,λ k h1 h2 h3 h4=>(ro2.block k (Nat.lt_of_lt_of_le h1 h.fr.size) h2 (h.fr.norow k h1 h4)).trans (h.fr.block k h1 h2 h3 h4),λ k h1 h4=>nr k (Nat.lt_of_lt_of_le h1 h.fr.size) (h.fr.norow k h1 h4)⟩,h.bb,h.b0⟩⟩;obtain ⟨es,clock,hb,rest⟩:=h.net.mp.mono (Nat.le_succ N);exact ⟨es,clock,(ro2.block rm (lt_of_some hb) h.ne.symm (h.low h.rb)).trans hb,rest⟩
theorem MidF.wider {D':List Stp} (h:MidF w0 f0 w p lm rm bx N B M D r f g s) (hd:∀t∈D,t∈D') (h0:∀t∈D',t∉D->r t=0) (hw:∀t∈D',wfS t):MidF w0 f0 w p lm rm bx N B M D' r f g s:=
 {h with net:=⟨h.net.hp,h.net.mp,h.net.rom.wider hd h0 hw⟩}
theorem MidF.room (h:MidF w0 f0 w p lm rm bx N B M D r f g s) {t:Stp} (ht:t∈D) {c:Int} (h0:0<c) (hc:c<=1000) (hN:N<=1000000):
 ∃w2,(Instr.mapUpdate 377 (.map (some rm)) (vS t) (.int .i64 c)).run Tryz.prog w= .ok () w2/\C5 w2 p lm rm bx s/\∃M',MidF w0 f0 w2 p lm rm bx (N+1) B M' D (λ q=>if q=t then c else r q) f g s:=by
 obtain ⟨w2,r2,m2,g2⟩:=h.net.mp.update law346 Tryz.underlying377 (by unfold maxLen;omega) (sk_key (h.net.rom.wf t ht)) (val:=.int .i64 c) (plainElem_int Tryz.underlying3 (wf_small (by omega) (by omega)));have hbr:bx≠rm:=λ e=>by have:=h.rb;have:=h.bb;omega
 obtain ⟨L,hl⟩:=h.lv;have hl2:=hl.grown g2 h.ne.symm h.rb;have hm:MidF w0 f0 w2 p lm rm bx (N+1) B _ D (λ q=>if q=t then c else r q) f g s:=
  ⟨h.net.stored g2 m2 (h.net.rom.put ht h0 (by omega)),⟨L,{hl2 with mp:=hl2.mp.mono (Nat.le_succ N)}⟩,h.pb,h.rb,h.ne,(g2.block bx (lt_of_some h.box) (λ e=>hbr (by injection e))).trans h.box,h.norow,⟨g2.os.trans h.fr.os,g2.tape.trans h.fr.tape,g2.output.trans h.fr.output,Nat.le_trans h.fr.size g2.size,λ k h1 h2 h3 h4=>(g2.block k (Nat.lt_of_lt_of_le h1 h.fr.size) (λ e=>h3 (by injection e))).trans (h.fr.block k h1 h2 h3 h4),h.fr.norow⟩,h.bb,h.b0⟩
 exact ⟨w2,r2,hm.c5,_,hm⟩
end
end Go.Proofs.YtebcjaenhiiflaaGreatDoor.S
namespace Go.Proofs.YtebcjaenhiiflaaGreatDoor.S
open Go Go.ChangeMaps Go.MapKept Go.WideShapes
open Go.RowKit Go.WideMaps Go.Maps F
def gput (g:Int->List Stp) (s:Stp):Int->List Stp:=λ y=>if y=fr s then g (fr s)++[s] else g y
def LayPost (w:World) (p lm rm N B:Nat) (D:List Stp) (r:Stp->Int) (f:Int->Value) (g:Int->List Stp) (s:Stp) (c:Int) (e:Ending) (w':World):Prop:=
 e= .returned (.tuple #[])/\∃M' L' f',NetA w' p lm rm (N+4) B M' L' (D++[s,bk s]) (λ q=>if q=bk s then c else if q=s then 1 else r q) f' (gput (gput g s) (bk s))/\Out lm rm f f' w w'
theorem MidF.post {w0 w:World} {p lm rm bx N N' B:Nat} {M:DataW Unit} {D D':List Stp} {r r':Stp->Int} {f0 f:Int->Value} {g g':Int->List Stp} {s:Stp} {c:Int} (h:MidF w0 f0 w p lm rm bx N B M D' r' f g' s) (hN:N<=N'+4) (hD:D'=D++[s,bk s]) (hr:∀q,r' q=if q=bk s then c else if q=s then 1 else r q) (hg:g'=gput (gput g s) (bk s)):LayPost w0 p lm rm N' B D r f0 g s c (.returned (.tuple #[])) w:=by
 obtain ⟨L,hl⟩:=h.lv;have e:r'=λ q=>if q=bk s then c else if q=s then 1 else r q:=funext hr
 subst e;subst hD;subst hg;exact ⟨rfl,M,L,f,⟨⟨h.net.hp,h.net.mp.mono hN,h.net.rom⟩,{hl with mp:=hl.mp.mono hN},h.pb,h.rb,h.ne⟩,h.fr⟩
theorem lay_other {w0 w:World} {p lm rm bx N B:Nat} {M:DataW Unit} {D:List Stp} {r:Stp->Int} {f0 f:Int->Value} {g:Int->List Stp} {s:Stp} (h:MidF w0 f0 w p lm rm bx N B M D r f g s) (hs:wfS s) (hl:(g (tt s)).length<=1000) (hN:N<=900000):
 (Instr.lookup 376 (.map (some lm)) (.int .i64 s.2.2) false).run Tryz.prog w= .ok (f s.2.2) w/\
 Calls Tryz.prog 349 #[vS s] w λ e w'=>e= .returned (vS (bk s))/\C5 w' p lm rm bx s/\∃v' w1 w2,
  (Instr.lookup 376 (.map (some lm)) (.int .i64 s.2.2) false).run Tryz.prog w'= .ok (f s.2.2) w'/\(Instr.lookup 376 (.map (some lm)) (.int .i64 s.2.2) false).run Tryz.prog (w'.alloc (.cells #[.int .i64 s.1,.int .i64 s.2.2,.int .i64 s.2.1] 346))= .ok (f s.2.2) (w'.alloc (.cells #[.int .i64 s.1,.int .i64 s.2.2,.int .i64 s.2.1] 346))/\
  Hid ((Builtin.append_ #[347,347] 347 #[f s.2.2,.slice (some ⟨w'.heap.size,0,none⟩) 1 1]).run Tryz.prog (w'.alloc (.cells #[.int .i64 s.1,.int .i64 s.2.2,.int .i64 s.2.1] 346))= .ok v' w1)/\(Instr.mapUpdate 376 (.map (some lm)) (.int .i64 s.2.2) v').run Tryz.prog w1= .ok () w2/\
  C5 (w'.alloc (.cells #[.int .i64 s.1,.int .i64 s.2.2,.int .i64 s.2.1] 346)) p lm rm bx s/\C5 w1 p lm rm bx s/\C5 w2 p lm rm bx s/\Hid (∃f',MidF w0 f0 w2 p lm rm bx (N+1) B M D r f' (gput g (bk s)) s):=by
 obtain ⟨L,hv⟩:=h.lv;refine ⟨hv.look hs.2.2,(back_any s w).mono ?_⟩;rintro e w' ⟨rfl,hb⟩;have h':=h.below hb;obtain ⟨v',w1,w2,e1,e2,e3,e4,c1,c2,c3,c4,hm⟩:=h'.lay 347 hs.2.2 (bk s) hl (by omega);exact ⟨rfl,c1,v',w1,w2,e1,e2,e3,e4,c2,c3,c4,_,hm⟩
theorem lay_room {w0 w:World} {p lm rm bx N B:Nat} {M:DataW Unit} {D:List Stp} {r:Stp->Int} {f0 f:Int->Value} {g:Int->List Stp} {s:Stp} {c:Int} (h:MidF w0 f0 w p lm rm bx N B M D r f g s) (hs:bk s∈D) (h0:0<c) (hc:c<=1000) (hN:N<=900000):
 Calls Tryz.prog 349 #[vS s] w λ e w'=>e= .returned (vS (bk s))/\C5 w' p lm rm bx s/\∃w2,(Instr.mapUpdate 377 (.map (some rm)) (vS (bk s)) (.int .i64 c)).run Tryz.prog w'= .ok () w2/\C5 w2 p lm rm bx s/\Hid (∃M',MidF w0 f0 w2 p lm rm bx (N+1) B M' D (λ q=>if q=bk s then c else r q) f g s):=by
 refine (back_any s w).mono ?_;rintro e w' ⟨rfl,hb⟩;have h':=h.below hb;obtain ⟨w2,e1,c1,hm⟩:=h'.room hs h0 hc (by omega);exact ⟨rfl,h'.c5,w2,e1,c1,hm⟩
theorem lay_any (p lm rm N B:Nat) (M:DataW Unit) (L:DataW Value) (D:List Stp) (r:Stp->Int) (f:Int->Value) (g:Int->List Stp) (s:Stp) (c:Int) (w:World) (h:NetA w p lm rm N B M L D r f g) (hs:wfS s) (hne:fr s≠tt s) (hc0:0<=c) (hc:c<=1000) (hN:N<=100000) (hl:∀x,(g x).length<=900) (hr0:r s=0) (hr1:r (bk s)=0):
 Calls Tryz.prog 314 #[.pointer (some ⟨p,0,none⟩),vS s,.int .i64 c] w (LayPost w p lm rm N B D r f g s c):=by
 obtain ⟨W,hW⟩:∃W,w.alloc (.cells #[.int .i64 s.1,.int .i64 s.2.1,.int .i64 s.2.2] 346)=W:=⟨_,rfl⟩;obtain ⟨bx,hbxe⟩:∃bx,w.heap.size=bx:=⟨_,rfl⟩;have hbA:Below w.heap.size w W:=by rw [<-hW];exact (Below.refl _ _).alloc (Nat.le_refl _) _
 have hA:=h.below hbA;obtain ⟨D',hD'⟩:∃D',D++[s,bk s]=D':=⟨_,rfl⟩;have hsD:s∈D':=by rw [<-hD'];simp
 have hbD:bk s∈D':=by rw [<-hD'];simp
 have hM0:MidF w f W.drew p lm rm bx N B M D' r f g s:=by
  have:MidF w f W p lm rm bx N B M D r f g s:=⟨hA.net,⟨L,hA.lv⟩,h.pb,h.rb,h.ne,by rw [<-hbxe,<-hW];exact heap_alloc_new w _,λ x e=>by have:=(h.lv.off e).2;omega,⟨hbA.os,hbA.tape,hbA.output,hbA.size,λ k h1 _ _ _=>hbA.block k h1,λ k _ h=>h⟩,by rw [<-hbxe];exact h.lv.le,h.lv.le⟩;refine (this.wider (D':=D') (λ t ht=>by rw [<-hD'];simp [ht]) (λ t ht hn=>?_) (λ t ht=>?_)).below (Below.refl _ _).drew
  ·rw [<-hD'] at ht
   rcases List.mem_append.1 ht with ht | ht
   ·exact absurd ht hn
   ·simp at ht
    rcases ht with rfl | rfl
    ·exact hr0
    ·exact hr1
  ·rw [<-hD'] at ht
   rcases List.mem_append.1 ht with ht | ht
   ·exact h.net.rom.wf t ht
   ·simp at ht
    rcases ht with rfl | rfl
    ·exact hs
    ·exact hs.bk
 obtain ⟨v1,wa,wb,e1,e2,e3,e4,c1,c2,c3,c4,hM1⟩:=hM0.lay 347 hs.2.1 s (by have:=hl s.2.1;omega) (by omega);have hg1:∀x,(gput g s x).length<=901:=λ x=>by
  unfold gput;split
  ·have:=hl (fr s);simp;omega
  ·have:=hl x;omega
 have hM1d:=hM1.below (Below.refl _ _).drew;obtain ⟨k1,k2⟩:=lay_other hM1d hs (by have:=hg1 (tt s);exact Nat.le_trans this (by omega)) (by omega);have hC2:=hM1d.c5;obtain ⟨v0,hv0⟩:∃v0,f s.2.1=v0:=⟨_,rfl⟩;obtain ⟨f2,hf2⟩:∃f2,(if s.2.2=s.2.1 then v1 else f s.2.2)=f2:=⟨_,rfl⟩;simp only [hf2] at k1 k2;rw [hv0] at e1 e2 e3;have HT:Hid _:=k2;have HAP:Hid ((Builtin.append_ #[347,347] 347 #[v0,.slice (some ⟨W.heap.size,0,none⟩) 1 1]).run Tryz.prog _= .ok v1 wa):=e3;have HRest:Hid (∀w2 f',MidF w f w2 p lm rm bx (N+2) B M D' r f' (gput (gput g s) (bk s)) s->C5 w2.drew p lm rm bx s/\∃w3,(Instr.mapUpdate 377 (.map (some rm)) (vS s) (.int .i64 1)).run Tryz.prog w2.drew= .ok () w3/\C5 w3 p lm rm bx s/\C5 w3.drew p lm rm bx s/\Hid ((c=0->∀n,LayPost w p lm rm N B D r f g s c (.returned (.tuple #[])) (w3.drewN n))/\
  (0<c->Calls Tryz.prog 349 #[vS s] w3.drew λ e w'=>e= .returned (vS (bk s))/\C5 w' p lm rm bx s/\∃w4,(Instr.mapUpdate 377 (.map (some rm)) (vS (bk s)) (.int .i64 c)).run Tryz.prog w'= .ok () w4/\C5 w4 p lm rm bx s/\Hid (∀n,LayPost w p lm rm N B D r f g s c (.returned (.tuple #[])) (w4.drewN n))))):=by
  intro w2 f' hm;have hmd:=hm.below (Below.refl _ _).drew;obtain ⟨w3,q1,q2,M3,hm3⟩:=hmd.room hsD (c:=1) (by omega) (by omega) (by omega);have hm3d:=hm3.below (Below.refl _ _).drew;refine ⟨hmd.c5,w3,q1,q2,hm3d.c5,λ h0 n=>?_,λ h0=>?_⟩
  ·refine (hm3.below (below_drewN (Below.refl _ _) n)).post (by omega) hD'.symm (λ q=>?_) rfl
   by_cases e:q=bk s
   ·rw [if_pos e,if_neg (by rw [e];exact bk_ne hne),e,hr1,h0]
   ·rw [if_neg e]
  ·refine (lay_room hm3d hbD h0 hc (by omega)).mono ?_
   rintro e w' ⟨rfl,u1,w4,u2,u3,M4,u4⟩;refine ⟨rfl,u1,w4,u2,u3,λ n=>?_⟩;exact (u4.below (below_drewN (Below.refl _ _) n)).post (by omega) hD'.symm (λ q=>rfl) rfl
 have HW:Hid (w.alloc (.cells #[.int .i64 s.1,.int .i64 s.2.1,.int .i64 s.2.2] 346)=W):=hW;have HBX:Hid (w.heap.size=bx):=hbxe;obtain ⟨x,y,z⟩:=s;unfold vS bk C5 at HT;unfold vS bk C5 at HRest;unfold C5 at c1 c2 c3 c4 hC2;unfold vS;simp only at HT HRest HW HAP e1 e2 e4 c1 c2 c3 c4 hC2 k1 ⊢;clear h hs hne hN hl hr0 hr1 hW hbxe hbA hA hD' hsD hbD hM0 hM1 hM1d hg1 hf2 hv0 e3 k2;rw [show W.drew.alloc (.cells #[.int .i64 x,.int .i64 y,.int .i64 z] 346)=(W.alloc (.cells #[.int .i64 x,.int .i64 y,.int .i64 z] 346)).drew from rfl] at c2 e2 HAP;go_enter Tryz.func314,Tryz.ntmps314;go_upto_region 1 with fail
 rw [HW.out,HBX.out];clear HW HBX
 go_region_held_law (λ w'=>(w'.cell? ⟨p,0,none⟩=some (.map (some lm))/\w'.cell? ⟨p,1,none⟩=some (.map (some rm))/\w'.cell? ⟨bx,0,none⟩=some (.int .i64 x)/\w'.cell? ⟨bx,1,none⟩=some (.int .i64 y)/\w'.cell? ⟨bx,2,none⟩=some (.int .i64 z))) (with_reducible assumption)
  (refine G.step_append_runK rfl (.tmp 18) (.tmp 20) 347 347 rfl v0 (.slice (some ⟨W.heap.size,0,none⟩) 1 1) (by first | rfl | (simp [Act.eval];done) | (simp [Act.eval,Act.put];done)) (by first | rfl | (simp [Act.eval];done) | (simp [Act.eval,Act.put];done)) HAP.out ?_)
 all_goals
  clear e1 e2 e4 c1 c2 c3 c4 HAP;go_upto_region 2 with fail
  go_region_held_law (λ w'=>(w'.cell? ⟨p,0,none⟩=some (.map (some lm))/\w'.cell? ⟨p,1,none⟩=some (.map (some rm))/\w'.cell? ⟨bx,0,none⟩=some (.int .i64 x)/\w'.cell? ⟨bx,1,none⟩=some (.int .i64 y)/\w'.cell? ⟨bx,2,none⟩=some (.int .i64 z))) (with_reducible assumption)
   (first
   | (go_at_call 349;refine Calls.mono HT.out ?_;rintro e w' ⟨rfl,d1,v2,w1,w2,l1,l2,HA2,u2,d2,d3,d4,HM2⟩)
   | (refine G.step_append_runK rfl (.tmp 34) (.tmp 37) 347 347 rfl f2 (.slice (some ⟨_,0,none⟩) 1 1) (by first | rfl | (simp [Act.eval];done)) (by first | rfl | (simp [Act.eval];done)) HA2.out ?_))
  all_goals
   obtain ⟨f',hm2⟩:=HM2.out;obtain ⟨i1,w3,i2,i3,i4,HR⟩:=HRest.out w2 f' hm2;clear hm2 HM2 HRest HT l1 l2 u2 d1 d2 d3 d4 HA2 k1 hC2;go_upto_region 3 with fail
   go_region_held (λ w'=>(w'.cell? ⟨p,0,none⟩=some (.map (some lm))/\w'.cell? ⟨p,1,none⟩=some (.map (some rm))/\w'.cell? ⟨bx,0,none⟩=some (.int .i64 x)/\w'.cell? ⟨bx,1,none⟩=some (.int .i64 y)/\w'.cell? ⟨bx,2,none⟩=some (.int .i64 z))) (with_reducible assumption) (fail)
   all_goals
    clear i1 i2;by_cases hc1:c=0
    ·have HF:=HR.out.1 hc1 0
     subst hc1;go_wp2_with fail;refine bodyPost_ret (v:=.tuple #[]) (by simp [results,Tryz.results314,go_sem]) rfl ?_;exact HF
    ·have hc2:0<c:=by omega
     have HC:Hid _:=HR.out.2 hc2;clear HR;go_upto_region 5 with fail
     go_region_held (λ w'=>(w'.cell? ⟨p,0,none⟩=some (.map (some lm))/\w'.cell? ⟨p,1,none⟩=some (.map (some rm))/\w'.cell? ⟨bx,0,none⟩=some (.int .i64 x)/\w'.cell? ⟨bx,1,none⟩=some (.int .i64 y)/\w'.cell? ⟨bx,2,none⟩=some (.int .i64 z))) (with_reducible assumption)
      (first | (go_at_call 349;refine Calls.mono HC.out ?_;rintro e w' ⟨rfl,j1,w4,j2,j3,HF⟩))
     all_goals
      go_wp2_with fail;refine bodyPost_ret (v:=.tuple #[]) (by simp [results,Tryz.results314,go_sem]) rfl ?_;exact HF.out 0
end Go.Proofs.YtebcjaenhiiflaaGreatDoor.S
