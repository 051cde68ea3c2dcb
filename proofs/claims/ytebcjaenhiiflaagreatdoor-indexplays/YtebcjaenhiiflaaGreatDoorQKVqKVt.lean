import Derived.Test.YtebcjaenhiiflaaGreatDoorQKcKVp
set_option maxHeartbeats 4000000
set_option maxRecDepth 100000
namespace Go.Proofs.YtebcjaenhiiflaaGreatDoor.S
open Go.RowKit Go.WideMaps Go.Maps Go.Proofs.Tryz
structure Cb (w:World) (bx c mb rest:Nat) (S:List Edg) (f:Edg->Nat):Prop where
 bx:w.heap[bx]? =some (.cells #[.pointer (some ⟨c,0,none⟩)] 106)
 co:Co w c mb rest S f
def zdj (K:List Int):List Value:=K.map λ x=>.int .i64 x
section
variable {w w':World} {bx c mb rest g:Nat} {S:List Edg} {f:Edg->Nat}
theorem Cb.below (h:Cb w bx c mb rest S f) (hb:Below w.heap.size w w'):Cb w' bx c mb rest S f:=⟨(hb.block bx (lt_of_some h.bx)).trans h.bx,h.co.below hb⟩
theorem Cb.grown (h:Cb w bx c mb rest S f) (hg:w.grownBy w' (some g)) (h1:bx≠g) (h2:c≠g) (h3:mb≠g):Cb w' bx c mb rest S f:=by
 obtain ⟨v,hv⟩:=h.co.st;obtain ⟨D,N,k1,k2⟩:=h.co.mp;exact ⟨(hg.block bx (lt_of_some h.bx) (by simp;exact h1)).trans h.bx,⟨v,(hg.block c (lt_of_some hv) (by simp;exact h2)).trans hv⟩,D,N,k1.kept hg (by simp;exact h3),k2⟩
end
theorem z0t (w:World):(Instr.build 208 #[]).run prog w= .ok (.agg #[.int .u64 0,.int .u64 0]) w:=by kernel_rfl
theorem z5h (bx c mb rest:Nat) (S:List Edg) (f:Edg->Nat) (e:Edg) (w:World) (h:Cb w bx c mb rest S f) (he:e∈S) (hw:(Lit.int .i64 e.1).wf=true):
 Calls prog 146 #[.int .i64 e.1,.pointer (some ⟨bx,0,none⟩)] w λ en w'=>en= .returned (.bool (decide (f e=0)))/\w'=w:=by
 have h0:w.cell? ⟨bx,0,none⟩=some (.pointer (some ⟨c,0,none⟩)):=by simp [World.cell?,h.bx]
 have h1:=h.co.cell1;have lk:=(h.co.zmm he hw).2;unfold zdp at lk;have hbd:=z0t;have heq:=z4t;obtain ⟨x,hx⟩:∃x,zbh (f e)=x:=⟨_,rfl⟩;obtain ⟨y,hy⟩:∃y,hi64 (f e)=y:=⟨_,rfl⟩;have HX:Hid (f e=0↔x=0/\y=0):=by
  show _↔_;rw [<-hx,<-hy];exact ⟨λ k=>by rw [k];exact ⟨rfl,rfl⟩,λ k=>z4b (y:=0) k.1 k.2⟩
 rw [hx,hy] at lk;obtain ⟨X,hX⟩:∃X,e.1=X:=⟨_,rfl⟩;rw [hX] at lk ⊢;clear h he hw hx hy hX;by_cases hx0:x=0
 ·subst hx0
  by_cases hy0:y=0
  ·subst hy0
   have HZ:Hid (f e=0):=HX.out.2 ⟨rfl,rfl⟩;have hb:(((0:Nat):Int)==0)=true:=rfl;go_enter func146,ntmps146;go_wp2_with fail;go_ret;exact ⟨by rw [decide_eq_true HZ.out];simp,rfl⟩
  ·have HZ:Hid (¬f e=0):=λ k=>hy0 (HX.out.1 k).2
   have hb1:(((0:Nat):Int)==0)=true:=rfl;have hb:((y:Int)==0)=false:=beq_eq_false_iff_ne.2 (by omega);go_enter func146,ntmps146;go_wp2_with fail;go_ret;exact ⟨by rw [decide_eq_false HZ.out];simp,rfl⟩
 ·have HZ:Hid (¬f e=0):=λ k=>hx0 (HX.out.1 k).1
  have hb:((x:Int)==0)=false:=beq_eq_false_iff_ne.2 (by omega);go_enter func146,ntmps146;go_wp2_with fail;go_ret;exact ⟨by rw [decide_eq_false HZ.out];simp,rfl⟩
structure Dz (w0 w:World) (B g m cap i j:Nat) (pf:Int->Bool) (M X:List Int):Prop where
 own:w.ownsRow B 3 1 (.slice (some ⟨g,0,none⟩) m cap) m (zdj X)
 len:X.length=m
 fst:X.take i=(M.take j).filter λ x=>!pf x
 snd:X.drop j=M.drop j
 hij:i<j
 hjm:j<=m
 kept:w0.grownBy w (some g)
theorem zmu {L:List Int} {k:Nat} {x:Int} (pf:Int->Bool) (h:L[k]? =some x):(L.take (k+1)).filter pf=(L.take k).filter pf++(if pf x then [x] else []):=by
 obtain ⟨hlt,he⟩:=List.getElem?_eq_some_iff.1 h;rw [List.take_succ_eq_append_getElem hlt,List.filter_append,he]
 congr 1
 cases hp:pf x <;> simp [hp]
section
variable {w0 w w':World} {B g m cap i j:Nat} {x:Int} {pf:Int->Bool} {M X:List Int}
theorem Dz.at_ (h:Dz w0 w B g m cap i j pf M X) (hj:j<m) (hm:M.length=m):X[j]? =M[j]? /\∃x,M[j]? =some x:=by
 refine ⟨?_,_,List.getElem?_eq_getElem (by omega)⟩;have:=congrArg (λ l=>l[0]?) h.snd
 simpa using this
theorem Dz.cell (h:Dz w0 w B g m cap i j pf M X) {k:Nat} (hk:X[k]? =some x):w.cell? ⟨g,k,none⟩=some (.int .i64 x):=by
 have hkl:=(List.getElem?_eq_some_iff.1 hk).1;have hlen:=h.len;rw [h.own.cellAt k (by omega)];simp [zdj,hk]
theorem Dz.fz (h:Dz w0 w B g m cap i j pf M X) (k:Nat):w.frozen? ⟨g,k,none⟩=false:=by
 rcases h.own.2 with ⟨h1,_⟩ | ⟨g',cap',cur,h1,_,h3,_⟩
 ·cases h1
 ·injection h1 with h1 _ _
  injection h1 with h1
  injection h1 with h1 _ _
  subst h1;simp [World.frozen?,h3]
theorem Dz.skip (h:Dz w0 w B g m cap i j pf M X) (hj:j<m) (hx:M[j]? =some x) (hp:pf x=true):Dz w0 w B g m cap i (j+1) pf M X:=by
 refine {h with fst:=?_,snd:=?_,hij:=by have:=h.hij;omega,hjm:=by omega}
 ·rw [h.fst,zmu _ hx];simp [hp]
 ·have:=congrArg (List.drop 1) h.snd
  simpa [List.drop_drop,Nat.add_comm] using this
theorem Dz.store (h:Dz w0 w B g m cap i j pf M X) (hj:j<m) (hx:M[j]? =some x) (hp:pf x=false):Dz w0 (w.setCell ⟨g,i,none⟩ (.int .i64 x)) B g m cap (i+1) (j+1) pf M (X.set i x):=by
 have hij:=h.hij;have hlen:=h.len;have hset:w.grownBy (w.setCell ⟨g,i,none⟩ (.int .i64 x)) (some g):=⟨rfl,rfl,rfl,by simp,λ k _ hn=>Below.heap_setCell _ _ _ _ (λ e=>hn (by rw [e]))⟩;refine ⟨?_,by simpa using hlen,?_,?_,by omega,by omega,⟨hset.os.trans h.kept.os,hset.tape.trans h.kept.tape,hset.output.trans h.kept.output,Nat.le_trans h.kept.size hset.size,λ k hk hn=>(hset.block k (Nat.lt_of_lt_of_le hk h.kept.size) hn).trans (h.kept.block k hk hn)⟩⟩
 ·rcases h.own.2 with ⟨h1,_⟩ | ⟨g',cap',cur,h1,h2,h3,h4,h5,h6,h7⟩
  ·cases h1
  ·injection h1 with h1a h1b h1c
   injection h1a with h1a
   injection h1a with h1a _ _
   subst h1a;subst h1c;refine ⟨by simp [zdj,hlen],Or.inr ⟨g,cap,cur.setIfInBounds i (.int .i64 x),rfl,h2,?_,h4,h5,by simpa using h6,?_⟩⟩
   ·simp only [World.setCell,Array.getElem?_modify,h3]
    simp
   ·have e1:zdj (X.set i x)=(zdj X).set i (.int .i64 x):=by simp [zdj,List.map_set]
    rw [e1,<-h7];simp [List.take_set]
 ·rw [zmu _ hx,<-h.fst]
  have hi:i<X.length:=by omega
  rw [if_pos (by simp [hp]),List.take_succ_eq_append_getElem (by simpa using hi)]
  congr 1
  ·rw [List.take_set_of_le (Nat.le_refl _)]
  ·simp
 ·have:=congrArg (List.drop 1) h.snd
  rw [List.drop_set_of_lt (by omega)]
  simpa [List.drop_drop,Nat.add_comm] using this
theorem zyy (n:Nat):∀u∈(Builtin.zeroCells (Value.int .i64 0).cells n).toList,u.oneCell'=true:=by
 intro u hu;have hc:(Value.int .i64 0).cells=#[.int .i64 0]:=rfl;rw [hc] at hu;simp only [Builtin.zeroCells,Array.toList_map,List.mem_map] at hu;obtain ⟨a,_,rfl⟩:=hu;have:a%1=0:=Nat.mod_one a;show (#[Value.int .i64 0][a%1]!).oneCell'=true;rw [this];rfl
theorem zq3 (n:Nat):(Builtin.zeroCells (Value.int .i64 0).cells n).toList.length=n:=by
 have hc:(Value.int .i64 0).cells=#[.int .i64 0]:=rfl;rw [hc];simp [Builtin.zeroCells]
theorem Dz.done (h:Dz w0 w B g m cap i m pf M X) (hm:M.length=m):∃W2,(∀ty sc,(Builtin.clear_ #[48] ty #[.slice (some ⟨g,i,none⟩) (m-i) sc]).run prog w= .ok (.tuple #[]) W2)/\m<=cap/\cap<=maxLen/\W2.ownsRow B 3 1 (.slice (some ⟨g,0,none⟩) i cap) (M.filter λ x=>!pf x).length (zdj (M.filter λ x=>!pf x))/\w0.grownBy W2 (some g):=by
 have hij:=h.hij;have hlen:=h.len;rcases h.own.2 with ⟨h1,_⟩ | ⟨g',cap',cur,h1,h2,h3,h4,h5,h6,h7⟩
 ·cases h1
 ·injection h1 with h1a h1b h1c
  injection h1a with h1a
  injection h1a with h1a _ _
  subst h1a;subst h1c;have hfst:=h.fst;rw [<-hm,List.take_length] at hfst;have hcl:cur.toList.length=cap:=by simpa using h6
  have hzl:=zq3 (m-i);refine ⟨w.setRow g (splice cur.toList i (Builtin.zeroCells (Value.int .i64 0).cells (m-i)).toList).toArray,λ ty sc=>zhf w 48 3 ty (.int .i64 0) underlying48 zdy g i (m-i) sc (by omega) cur.toList 3 (by simpa using h3) (by rw [hzl,hcl];omega) (zyy _),by omega,h5,?_,?_⟩
  ·rw [<-hfst]
   have hl2:(X.take i).length=i:=by rw [List.length_take];omega
   refine ⟨by simp [zdj],Or.inr ⟨g,cap,_,by rw [hl2],h2,setRow_heap w g cur _ 3 (0,0) h3,by rw [hl2];omega,h5,?_,?_⟩⟩
   ·rw [List.size_toArray,length_splice _ _ _ (by rw [hzl,hcl];omega),hcl];omega
   ·rw [hl2]
    show (splice _ _ _).take _=_;have h8:(cur.toList.take i).length=i:=by rw [List.length_take,hcl];omega
    unfold splice;rw [Nat.mul_one,List.take_append_of_le_length (by omega),List.take_of_length_le (by omega)];have h9:=congrArg (List.take i) h7;rw [List.take_take,show min i (m*1)=i by omega] at h9;rw [h9];simp [zdj,List.map_take]
  ·exact ⟨h.kept.os,h.kept.tape,h.kept.output,Nat.le_trans h.kept.size (by simp),λ k hk hn=>(setRow_other w g k _ (λ e=>hn (by rw [e]))).trans (h.kept.block k hk hn)⟩
end
theorem z1q (pf:Int->Bool) (bx g m cap B:Nat) (M:List Int) (w:World) (h:w.ownsRow B 3 1 (.slice (some ⟨g,0,none⟩) m cap) m (zdj M)) (hl:M.length<=1000) (hm:M.length=m)
 (hf:∀x∈M,Calls prog 146 #[.int .i64 x,.pointer (some ⟨bx,0,none⟩)] w λ e w'=>e= .returned (.bool (pf x))/\w'=w):
 Calls prog 260 #[.slice (some ⟨g,0,none⟩) m cap,.func (.func 146) #[] #[.pointer (some ⟨bx,0,none⟩)]] w λ e w'=>((∃i x,i<m/\e= .returned (.int .i64 (i:Int))/\M[i]? =some x/\pf x=true/\∀j y,j<i->M[j]? =some y->pf y=false)\/(e= .returned (.int .i64 (-1))/\∀j y,j<m->M[j]? =some y->pf y=false))/\w'=w:=by
 have HO:=kd (And.intro h hm);have HF:=kd hf;rw [hm] at hl;clear h hm hf;go_enter func260,ntmps260;go_wp2_with fail;go_loopw [8] (λ s8 wq=>∃k:Nat,k<=m/\s8= .int .i64 k/\(∀j y,j<k->M[j]? =some y->pf y=false)/\wq=w) (λ s8 _=>m-(intOf s8).toNat)
 case atStart=>exact ⟨0,Nat.zero_le _,rfl,λ j y hj=>by omega,rfl⟩
 case round=>
  obtain ⟨k,hk,rfl,hno,rfl⟩:=hrel;have HB:=kd hno;clear hno;by_cases hlt:k<m
  ·obtain ⟨x,hx⟩:∃x,M[k]? =some x:=⟨_,List.getElem?_eq_getElem (by rw [HO.out.2];exact hlt)⟩
   have r0:wr.cell? ⟨g,k,none⟩=some (.int .i64 x):=by
    rw [HO.out.1.cellAt k (by omega)];simp [zdj,hx]
   have HX:=kd hx;have HC:Hid _:=HF.out x (List.mem_of_getElem? hx);clear hx;cases hp:pf x with
   | true=>
     as_aux_lemma=>
     rw [hp] at HC;go_wp2_with fail;refine Calls.mono HC.out ?_;rintro e w2 ⟨rfl,hw2⟩;subst hw2;go_wp2_with fail;go_ret;exact ⟨.inl ⟨k,x,hlt,rfl,HX.out,hp,HB.out⟩,rfl⟩
   | false=>
     as_aux_lemma=>
     rw [hp] at HC;go_wp2_with fail;refine Calls.mono HC.out ?_;rintro e w2 ⟨rfl,hw2⟩;subst hw2;have HB2:Hid (∀j y,j<k+1->M[j]? =some y->pf y=false):=λ j y hj hy=>by
      by_cases e:j=k
      ·rw [e,HX.out] at hy;rw [<-Option.some.inj hy];exact hp
      ·exact HB.out j y (by omega) hy
     go_wp2_with fail;go_roundw;case rel=>exact ⟨k+1,by omega,by go_num,HB2.out,by trivial⟩
     case measure=>simp [intOf];omega
  ·as_aux_lemma=>
   have hke:k=m:=by omega
   have HB2:Hid (∀j y,j<m->M[j]? =some y->pf y=false):=λ j y hj hy=>HB.out j y (by omega) hy
   clear hke;go_wp2_with fail;go_ret;exact ⟨.inr ⟨rfl,HB2.out⟩,rfl⟩
theorem z0e (pf:Int->Bool) (bx g m cap B:Nat) (M:List Int) (w:World) (h:w.ownsRow B 3 1 (.slice (some ⟨g,0,none⟩) m cap) m (zdj M)) (hl:M.length<=1000) (hm:M.length=m)
 (hf:∀W,w.grownBy W (some g)->∀x∈M,Calls prog 146 #[.int .i64 x,.pointer (some ⟨bx,0,none⟩)] W λ e w'=>e= .returned (.bool (pf x))/\w'=W):
 Calls prog 144 #[.slice (some ⟨g,0,none⟩) m cap,.func (.func 146) #[] #[.pointer (some ⟨bx,0,none⟩)]] w λ e w'=>∃v',e= .returned v'/\w'.ownsRow B 3 1 v' (M.filter λ x=>!pf x).length (zdj (M.filter λ x=>!pf x))/\w.grownBy w' (some g):=by
 have hrefl:w.grownBy w (some g):=⟨rfl,rfl,rfl,Nat.le_refl _,λ _ _ _=>rfl⟩;have HO:=kd (And.intro h hm);have HF:=kd hf;have HI:Hid _:=z1q pf bx g m cap B M w h hl hm (hf w hrefl);rw [hm] at hl;clear h hm hf;go_enter func144,ntmps144;go_wp2_with fail;refine Calls.mono HI.out ?_;rintro e w1 ⟨⟨i,x,hi,rfl,hix,hpx,hno⟩ | ⟨rfl,hno⟩,hw1⟩
 ·subst hw1
  have HD0:Hid (Dz w1 w1 B g m cap i (i+1) pf M M):=by
   refine ⟨HO.out.1,HO.out.2,?_,rfl,by omega,by omega,hrefl⟩;rw [zmu _ hix];have:((M.take i).filter λ x=>!pf x)=M.take i:=by
    rw [List.filter_eq_self];intro y hy;obtain ⟨k,hk⟩:=List.getElem?_of_mem hy;have hki:=(List.getElem?_eq_some_iff.1 hk).1;rw [List.length_take] at hki;rw [List.getElem?_take_of_lt (by omega)] at hk;rw [hno k y (by omega) hk];rfl
   rw [this];simp [hpx]
  have hne:((i:Int)== -1)=false:=beq_eq_false_iff_ne.2 (by omega);clear hix hpx hno HI hrefl;go_wp2_with fail;go_loopw [5,6] (λ s5 s6 wq=>∃(i j:Nat) (X:List Int),s5= .int .i64 i/\s6= .int .i64 j/\Dz w1 wq B g m cap i j pf M X) (λ _ s6 _=>m-(intOf s6).toNat)
  case atStart=>exact ⟨i,i+1,M,rfl,by go_num,HD0.out⟩
  case round=>
   clear HD0 hi hne;obtain ⟨i,j,X,rfl,rfl,hdf⟩:=hrel;have HD:=kd hdf;have hij:=hdf.hij;have hjm:=hdf.hjm;clear hdf;by_cases hlt:j<m
   ·obtain ⟨hxj,x,hx⟩:=HD.out.at_ hlt HO.out.2
    rw [hx] at hxj;have r0:=HD.out.cell hxj;have HX:=kd hx;have HC:Hid _:=HF.out wr HD.out.kept x (List.mem_of_getElem? hx);clear hx hxj;cases hp:pf x with
    | true=>
      as_aux_lemma=>
      rw [hp] at HC;go_wp2_with fail;refine Calls.mono HC.out ?_;rintro e w2 ⟨rfl,hw2⟩;subst hw2;have HD2:Hid (Dz w1 w2 B g m cap i (j+1) pf M X):=HD.out.skip hlt HX.out hp;go_wp2_with fail;go_roundw;case rel=>exact ⟨i,j+1,X,rfl,by go_num,HD2.out⟩
      case measure=>simp [intOf];omega
    | false=>
      as_aux_lemma=>
      rw [hp] at HC;go_wp2_with fail;refine Calls.mono HC.out ?_;rintro e w2 ⟨rfl,hw2⟩;subst hw2;obtain ⟨y,hy⟩:∃y,X[i]? =some y:=⟨_,List.getElem?_eq_getElem (by rw [HD.out.len];omega)⟩;have s0:=HD.out.cell hy;have fz0:=HD.out.fz i;have HD3:Hid (Dz w1 (w2.setCell ⟨g,i,none⟩ (.int .i64 x)) B g m cap (i+1) (j+1) pf M (X.set i x)):=HD.out.store hlt HX.out hp;clear hy;go_wp2_with fail;go_roundw;case rel=>exact ⟨i+1,j+1,_,by go_num,by go_num,HD3.out⟩
      case measure=>simp [intOf];omega
   ·as_aux_lemma=>
    have hje:j=m:=by omega
    subst hje;obtain ⟨W2,hcl,hcap,hcm,ho2,hg2⟩:=HD.out.done HO.out.2;have HFi:=kd (And.intro ho2 hg2);simp only [maxLen] at hcm;have hic:¬(cap=i):=by omega
    have hi1:(i:Int)<=(j:Int):=by omega
    have hi2:(i:Int)<=(cap:Int):=by omega
    have hi3:(j:Int)<=(cap:Int):=by omega
    clear ho2 hg2 HD;go_wp2_with fail;go_ret;exact ⟨_,rfl,HFi.out.1,HFi.out.2⟩
 ·subst hw1
  as_aux_lemma=>
  have HFi:Hid (w1.ownsRow B 3 1 (.slice (some ⟨g,0,none⟩) m cap) (M.filter λ x=>!pf x).length (zdj (M.filter λ x=>!pf x))/\w1.grownBy w1 (some g)):=by
   refine ⟨?_,hrefl⟩;have:(M.filter λ x=>!pf x)=M:=by
    rw [List.filter_eq_self];intro y hy;obtain ⟨k,hk⟩:=List.getElem?_of_mem hy;have hki:=(List.getElem?_eq_some_iff.1 hk).1;rw [hno k y (by rw [<-HO.out.2];exact hki) hk];rfl
   rw [this,HO.out.2];exact HO.out.1
  clear hno HI hrefl;go_wp2_with fail;go_ret;exact ⟨_,rfl,HFi.out.1,HFi.out.2⟩
end Go.Proofs.YtebcjaenhiiflaaGreatDoor.S
namespace Go.Proofs.YtebcjaenhiiflaaGreatDoor.S
open Go.RowKit Go.WideMaps Go.Maps Go.Proofs.Tryz
structure Cx (w:World) (c mb rest:Nat) (S R:List Edg) (f:Edg->Nat):Prop where
 co:Co w c mb rest S f
 mem:∀e,e∈S↔e∈R
 up:(R.map (·.1)).Pairwise (·<·)
 wf:∀e∈R,(Lit.int .i64 e.1).wf=true
 len:R.length<=120
 small:∀D N,w.ownsMap prog 3 zb1 mb N D->Rm D S f->w.ownsMap prog 3 zb1 mb 1000 D
theorem Cx.below {w w':World} {c mb rest:Nat} {S R:List Edg} {f:Edg->Nat} (h:Cx w c mb rest S R f) (hb:Below w.heap.size w w'):Cx w' c mb rest S R f:=by
 refine {h with co:=h.co.below hb,small:=λ D N ho hm=>?_};obtain ⟨D0,N0,k1,k2⟩:=h.co.mp;have k3:=h.small D0 N0 k1 k2;have k4:=k3.kept (zai hb) (by simp:some mb≠none);obtain ⟨es,clock,hb1,F1,hs1,rfl⟩:=k4;obtain ⟨es',clock',hb2,F2,hs2,rfl⟩:=ho;rw [hb1] at hb2;cases hb2;exact ⟨es,clock,hb1,F2,hs1,rfl⟩
theorem zwf (R:List Edg) (g:Edg->Bool) (pf:Int->Bool) (h:∀e∈R,pf e.1=g e):(R.map (·.1)).filter (λ x=>!pf x)=(R.filter λ e=>!g e).map (·.1):=by
 induction R with
 | nil=>rfl
 | cons e R ih=>
   have h1:=h e (by simp);have h2:=ih (λ d hd=>h d (by simp [hd]));simp only [List.map_cons,List.filter_cons,h1];cases hg:g e <;> simp [h2]
theorem zm1 (bx:Nat) (w:World):
 Calls prog 144 #[.slice none 0 0,.func (.func 146) #[] #[.pointer (some ⟨bx,0,none⟩)]] w λ e w'=>e= .returned (.slice none 0 0)/\w'=w:=by
 have HI:Hid (Calls prog 260 #[.slice none 0 0,.func (.func 146) #[] #[.pointer (some ⟨bx,0,none⟩)]] w λ e w'=>e= .returned (.int .i64 (-1))/\w'=w):=by
  show Calls _ _ _ _ _;go_enter func260,ntmps260;go_wp2_with fail;go_loopw [8] (λ s8 wq=>s8= .int .i64 0/\wq=w) (λ _ _=>0)
  case atStart=>exact ⟨rfl,rfl⟩
  case round=>
   obtain ⟨rfl,rfl⟩:=hrel;go_wp2_with fail;go_ret;exact ⟨rfl,rfl⟩
 go_enter func144,ntmps144;go_wp2_with fail;refine Calls.mono HI.out ?_;rintro e w1 ⟨rfl,hw1⟩;subst hw1;go_wp2_with fail;go_ret;exact ⟨rfl,rfl⟩
def z3w (R:List Edg) (g:Edg->Bool) (x:Int):Bool:=R.any λ e=>e.1==x&&g e
theorem zmf {R:List Edg} (h:(R.map (·.1)).Pairwise (·<·)):∀d∈R,∀e∈R,d.1=e.1->d=e:=by
 induction R with
 | nil=>intro d hd;simp at hd
 | cons a R ih=>
   rw [List.map_cons,List.pairwise_cons] at h;intro d hd e he hde;rcases List.mem_cons.1 hd with rfl | hd'
   ·rcases List.mem_cons.1 he with rfl | he'
    ·rfl
    ·have:=h.1 e.1 (List.mem_map.2 ⟨e,he',rfl⟩);omega
   ·rcases List.mem_cons.1 he with rfl | he'
    ·have:=h.1 d.1 (List.mem_map.2 ⟨d,hd',rfl⟩);omega
    ·exact ih h.2 d hd' e he' hde
theorem zuh {R:List Edg} (h:(R.map (·.1)).Pairwise (·<·)) (g:Edg->Bool) {e:Edg} (he:e∈R):z3w R g e.1=g e:=by
 unfold z3w;cases hg:g e with
 | true=>
   rw [List.any_eq_true];exact ⟨e,he,by simp [hg]⟩
 | false=>
   rw [List.any_eq_false];intro d hd k;simp only [Bool.and_eq_true,beq_iff_eq] at k;rw [zmf h d hd e he k.1,hg] at k;cases k.2
theorem zrj (R:List Edg):zdj (R.map (·.1))=idV R:=by simp [zdj,idV]
theorem z04 {w:World} {B B' e s n:Nat} {v:Value} {xs:List Value} (h:w.ownsRow B e s v n xs) (hB:B'<=B):w.ownsRow B' e s v n xs:=by
 refine ⟨h.1,?_⟩;rcases h.2 with hh | ⟨g,cap,cur,h1,h2,h3,h4⟩
 ·exact Or.inl hh
 ·exact Or.inr ⟨g,cap,cur,h1,by omega,h3,h4⟩
def zd8 (x:Int × Int):List Value:=[.int .i64 (x.1),.int .i64 (x.2)]
def rowP (L:List (Int × Int)):List Value:=L.flatMap zd8
theorem zcg (x:Int × Int) (L:List (Int × Int)):rowP (x::L)=zd8 x++rowP L:=rfl
theorem rowP_append (L M:List (Int × Int)):rowP (L++M)=rowP L++rowP M:=by simp [rowP]
theorem za1:∀L:List (Int × Int),(rowP L).length=L.length*2
 | []=>rfl
 | x::L=>by rw [zcg,List.length_append,za1 L];simp [zd8];omega
theorem zd5:∀(L:List (Int × Int)),∀u∈rowP L,u.oneCell'=true
 | [],u,h=>by simp [rowP] at h
 | x::L,u,h=>by
   rw [zcg,List.mem_append] at h;rcases h with h | h
   ·simp [zd8] at h
    rcases h with rfl | rfl <;> rfl
   ·exact zd5 L u h
theorem zg6:∀(L:List (Int × Int)) (i:Nat) (x:Int × Int),L[i]? =some x->(rowP L)[i*2]? =some (.int .i64 (x.1))/\(rowP L)[i*2+1]? =some (.int .i64 (x.2))
 | [],i,x,h=>by simp at h
 | y::L,0,x,h=>by
   simp at h;subst h;simp [zcg,zd8]
 | y::L,i+1,x,h=>by
   simp at h;have:=zg6 L i x h;rw [zcg];have e1:(i+1)*2=(i*2)+2:=by omega
   rw [e1]
   simpa [zd8] using this
def zan (w:World) (B:Nat) (v:Value) (L:List (Int × Int)):Prop:=w.ownsRow B 180 2 v L.length (rowP L)
theorem zan.below {w w':World} {B:Nat} {v:Value} {L:List (Int × Int)} (h:zan w B v L) (hb:Below w.heap.size w w'):zan w' B v L:=World.ownsRow.kept h (zai hb) (Classical.em _)
theorem zan.shape {w:World} {B:Nat} {v:Value} {L:List (Int × Int)} (h:zan w B v L):∃a cap,v= .slice a L.length cap/\(0<L.length->∃g,a=some ⟨g,0,none⟩/\∀j x,L[j]? =some x->w.cell? ⟨g,j*2,none⟩=some (.int .i64 (x.1))/\w.cell? ⟨g,j*2+1,none⟩=some (.int .i64 (x.2))):=by
 have h0:=h;unfold zan at h0;rcases h.2 with ⟨rfl,hz⟩ | ⟨g,cap,cur,rfl,hb,hg,_⟩
 ·exact ⟨none,0,by rw [hz],λ k=>by omega⟩
 ·refine ⟨_,cap,rfl,λ _=>⟨g,rfl,λ j x hx=>?_⟩⟩
  obtain ⟨r0,r1⟩:=zg6 L j x hx;have hj:=(List.getElem?_eq_some_iff.1 hx).1;have hl:=za1 L;refine ⟨?_,?_⟩
  ·rw [h0.cellAt (j*2) (by omega)]
   exact r0
  ·rw [h0.cellAt (j*2+1) (by omega)]
   exact r1
def zP:Value:=.agg #[.int .i64 0,.int .i64 0]
theorem z6i:∃i,prog.info? 180=some i/\i.size=2/\i.bytes=16/\i.zero=some zP:=
 ⟨(prog.info? 180).get (by kernel_rfl),by kernel_rfl,by kernel_rfl,by kernel_rfl,by kernel_rfl⟩
theorem zkr:zP.cells=#[.int .i64 0,.int .i64 0]:=by kernel_rfl
theorem pair_cells (W:World) (x y:Int) (j:Nat) (u:Value) (h:(rowP [(x,y)])[j]? =some u):(W.alloc (.cells #[.int .i64 x,.int .i64 y] 180)).cell? ((⟨W.heap.size,0,none⟩:Addr).add j)=some u:=by
 rw [G.zbm];have hh:=heap_alloc_new W (.cells #[.int .i64 x,.int .i64 y] 180);simp only [World.cell?,hh]
 simpa [rowP,zd8] using h
theorem zan.mono {w:World} {B B':Nat} {v:Value} {L:List (Int × Int)} (h:zan w B v L) (hB:B'<=B):zan w B' v L:=by
 refine ⟨h.1,?_⟩;rcases h.2 with hh | ⟨g,cap,cur,h1,h2,h3,h4⟩
 ·exact Or.inl hh
 ·exact Or.inr ⟨g,cap,cur,h1,by omega,h3,h4⟩
theorem zkk (ty:TypeId) (w:World) (B:Nat) (v:Value) (L M:List (Int × Int)) (h:zan w B v L) (hB:B<=w.heap.size) (a:Addr) (m c:Nat) (hm:m=M.length) (hM:∀j u,(rowP M)[j]? =some u->w.cell? (a.add j)=some u) (hl:L.length+M.length<=1000000):
 ∃v' w',(Builtin.append_ #[65,65] ty #[v,.slice (some a) m c]).run prog w= .ok v' w'/\zan w' B v' (L++M)/\w.grownBy w' v.ownBlock/\G.zbr w v v':=by
 subst hm;obtain ⟨i,hi,hs,hb,hz⟩:=z6i;have own:∀B',zan w B' v L->B'<=w.heap.size->∃v' w',(Builtin.append_ #[65,65] ty #[v,.slice (some a) M.length c]).run prog w= .ok v' w'/\zan w' B' v' (L++M)/\w.grownBy w' v.ownBlock:=by
  intro B' h' hB';obtain ⟨v',w',h1,h2,h3,_⟩:=run_append_own (P:=prog) w B' 65 ty 180 i zP 2 16 underlying65 hi hz hs hb (by rw [zkr];rfl) (by omega) v L.length (rowP L) h' a M.length c (rowP M) (za1 M) hM (zd5 M) (by simp only [maxLen];omega) (by omega) hB';refine ⟨v',w',h1,?_,h3⟩;show w'.ownsRow B' 180 2 v' (L++M).length (rowP (L++M));rw [List.length_append,rowP_append];exact h2
 rcases h.2 with ⟨rfl,h0⟩ | ⟨g,cap,cur,rfl,h1,h2,h3,h4,h5,h6⟩
 ·have hL:L=[]:=List.eq_nil_of_length_eq_zero h0
  subst hL;obtain ⟨v',w',e1,e2,e3⟩:=own w.heap.size (World.ownsRow_nil w _ 180 2) (Nat.le_refl _);exact ⟨v',w',e1,e2.mono hB,e3,λ k hk=>Or.inr (World.ownsRow.lt e2 k hk).1⟩
 ·obtain ⟨v',w',e1,e2,e3⟩:=own B h hB
  refine ⟨v',w',e1,e2,e3,?_⟩;by_cases hroom:L.length+M.length<=cap
  ·have hr:=run_append_room (P:=prog) w 65 ty 180 i underlying65 hi g L.length cap cur h2 a M.length c (rowP M) (by rw [hs];exact za1 M) hM (zd5 M) hroom (by rw [hs,h5,za1];omega)
   rw [hr] at e1;injection e1 with e1 _
   subst e1;intro k hk;exact Or.inl hk
  ·have hr:=run_append_grow (P:=prog) w 65 ty 180 i zP underlying65 hi hz ⟨g,0,none⟩ L.length cap (rowP L) (by rw [hs];exact za1 L) (World.ownsRow.cells h rfl) a M.length c (rowP M) (by rw [hs];exact za1 M) hM (by omega) (by omega) (growslice_fits (by omega) (by rw [hb];omega))
   rw [hr] at e1;injection e1 with e1 _
   subst e1;intro k hk;have hk':w.heap.size=k:=by simpa [Value.ownBlock] using hk
   exact Or.inr (by omega)
theorem zfi (ty:TypeId) (W:World) (B:Nat) (u:Value) (M:List (Int × Int)) (x y:Int) (h:zan W B u M) (hB:B<=W.heap.size) (hl:M.length<=100000):
 ∃v' w',(Builtin.append_ #[65,65] ty #[u,.slice (some ⟨W.heap.size,0,none⟩) 1 1]).run prog (W.alloc (.cells #[.int .i64 x,.int .i64 y] 180))= .ok v' w'/\zan w' B v' (M++[(x,y)])/\W.grownBy w' u.ownBlock/\G.zbr W u v':=by
 have hbx:Below W.heap.size W (W.alloc (.cells #[.int .i64 x,.int .i64 y] 180)):=(Below.refl _ _).alloc (Nat.le_refl _) _;obtain ⟨v',w',h1,h2,h3,h4⟩:=zkk ty _ B u M [(x,y)] (h.below hbx) (Nat.le_trans hB (by simp)) ⟨W.heap.size,0,none⟩ 1 1 rfl (pair_cells W x y) (by simp;omega);refine ⟨v',w',h1,h2,⟨h3.os.trans hbx.os,h3.tape.trans hbx.tape,h3.output.trans hbx.output,Nat.le_trans hbx.size h3.size,λ k hk hn=>(h3.block k (Nat.lt_of_lt_of_le hk hbx.size) hn).trans (hbx.block k hk)⟩,λ k hk=>?_⟩;rcases h4 k hk with h5 | h5
 ·exact Or.inl h5
 ·exact Or.inr (Nat.le_trans (by simp) h5)
def zam:List Edg->(Edg->Edg->Bool)->List (Int × Int)
 | [],_=>[]
 | e::R,q=>((R.filter (q e)).map λ d=>(e.1,d.1))++zam R q
theorem zhg (p:Edg->Bool) (q:Edg->Edg->Bool):∀R,zam (R.filter p) q=zam R λ e d=>p e&&p d&&q e d
 | []=>rfl
 | e::R=>by
   have ih:=zhg p q R;rw [List.filter_cons];cases hp:p e with
   | true=>
     simp only [if_true,zam,ih,hp,List.filter_filter,Bool.true_and]
     congr 2
     apply List.filter_congr;intro d _;cases p d <;> simp
   | false=>
     simp only [Bool.false_eq_true,if_false,zam,ih,hp,Bool.false_and];simp
theorem zfb (q:Edg->Edg->Bool):∀R:List Edg,(zam R q).length<=R.length*R.length
 | []=>by simp [zam]
 | e::R=>by
   have ih:=zfb q R;have h1:=List.length_filter_le (q e) R;have h3:(R.length+1)*(R.length+1)=R.length*R.length+2*R.length+1:=by
    rw [Nat.add_mul,Nat.mul_add];omega
   simp only [zam,List.length_append,List.length_map,List.length_cons];omega
theorem z0l {w:World} {B:Nat} {v:Value} {L:List Edg} (h:w.ownsRow B 3 1 v L.length (idV L)):∃a cap,v= .slice a L.length cap/\L.length<=cap/\cap<=maxLen/\(0<L.length->∃g,a=some ⟨g,0,none⟩/\g<w.heap.size/\∀j e,L[j]? =some e->w.cell? ⟨g,j,none⟩=some (.int .i64 e.1)):=by
 have h0:=h;rcases h.2 with ⟨rfl,hz⟩ | ⟨g,cap,cur,rfl,hb,hg,h4,h5,_⟩
 ·exact ⟨none,0,by rw [hz],by omega,by simp [maxLen],λ k=>by omega⟩
 ·refine ⟨_,cap,rfl,h4,h5,λ _=>⟨g,rfl,lt_of_some hg,λ j e he=>?_⟩⟩
  have hj:=(List.getElem?_eq_some_iff.1 he).1;rw [h0.cellAt j (by omega)];simp [idV,he]
theorem drop_at {L:List Edg} {i:Nat} {e:Edg} (h:L[i]? =some e):L.drop i=e::L.drop (i+1):=by
 obtain ⟨hlt,he⟩:=List.getElem?_eq_some_iff.1 h;rw [List.drop_eq_getElem_cons hlt,he]
structure Pq (W3 w:World) (u:Value) (M:List (Int × Int)):Prop where
 own:zan w W3.heap.size u M
 below:Below W3.heap.size W3 w
theorem Pq.drewN {W3 w:World} {u:Value} {M:List (Int × Int)} (h:Pq W3 w u M) (k:Nat):Pq W3 (w.drewN k) u M:=⟨h.own.below (below_drewN (Below.refl _ _) k),below_drewN h.below k⟩
theorem zw3 (c mb rest:Nat) (S R:List Edg) (f:Edg->Nat) (w:World) (h:Cx w c mb rest S R f):
 Calls prog 84 #[.pointer (some ⟨c,0,none⟩)] w λ e w'=>∃v,e= .returned v/\zan w' w.heap.size v (zam (R.filter λ e=>decide (f e≠0)) λ e d=>decide (f e=f d))/\Below w.heap.size w w':=by
 have hb1:Below w.heap.size w (w.alloc (.cells #[.pointer (some ⟨c,0,none⟩)] 106)):=(Below.refl _ _).alloc (Nat.le_refl _) _;have HX:Hid (Cx w c mb rest S R f/\Cb (w.alloc (.cells #[.pointer (some ⟨c,0,none⟩)] 106)) w.heap.size c mb rest S f/\Cx (w.alloc (.cells #[.pointer (some ⟨c,0,none⟩)] 106)) c mb rest S R f):=⟨h,⟨heap_alloc_new w _,h.co.below hb1⟩,h.below hb1⟩;have HI:Hid _:=z3x c mb rest S R f (w.alloc (.cells #[.pointer (some ⟨c,0,none⟩)] 106)) HX.out.2.2.co h.mem h.up HX.out.2.2.small;have hmf':=hmf;clear h hb1;go_enter func84,ntmps84;go_wp2_with fail;refine Calls.mono HI.out ?_;rintro e w2 ⟨v2,rfl,hrow2,hb2⟩;have HW:Hid (w2.ownsRow (w.heap.size+1) 3 1 v2 R.length (idV R)/\Below (w.alloc (.cells #[.pointer (some ⟨c,0,none⟩)] 106)).heap.size (w.alloc (.cells #[.pointer (some ⟨c,0,none⟩)] 106)) w2):=⟨by simpa using hrow2,hb2⟩;have HD:Hid (Calls prog 144 #[v2,.func (.func 146) #[] #[.pointer (some ⟨w.heap.size,0,none⟩)]] w2 λ e w'=>∃v,e= .returned v/\w'.ownsRow w.heap.size 3 1 v (R.filter λ e=>decide (f e≠0)).length (idV (R.filter λ e=>decide (f e≠0)))/\Below w.heap.size w w'/\Cb w' w.heap.size c mb rest S f):=by
  have HB2:Below w.heap.size w w2:=((Below.refl _ _).alloc (Nat.le_refl _) _).trans (HW.out.2.mono (by simp));rcases HW.out.1.2 with ⟨hv,hz⟩ | ⟨g,cap,cur,hv,hbg,_⟩
  ·subst hv
   have hR:R=[]:=List.eq_nil_of_length_eq_zero hz;refine (zm1 w.heap.size w2).mono ?_;rintro e w' ⟨rfl,hw'⟩;subst hw';refine ⟨_,rfl,?_,HB2,HX.out.2.1.below HW.out.2⟩;rw [hR];exact World.ownsRow_nil _ _ _ _
  ·subst hv
   have hbw:=HX.out.2.1;obtain ⟨u,hu⟩:=hbw.co.st;obtain ⟨D0,N0,k1,k2⟩:=hbw.co.mp;have hlb:=lt_of_some hbw.bx;have hlc:=lt_of_some hu;have hlm:=k1.lt;simp at hlb hlc hlm;have hrw:w2.ownsRow (w.heap.size+1) 3 1 (.slice (some ⟨g,0,none⟩) R.length cap) R.length (zdj (R.map (·.1))):=by rw [zrj];exact HW.out.1
   refine (z0e (z3w R λ e=>decide (f e=0)) w.heap.size g R.length cap (w.heap.size+1) (R.map (·.1)) w2 hrw (by rw [List.length_map];have:=HX.out.1.len;omega) (by simp) (λ W hW x hx=>?_)).mono ?_
   ·obtain ⟨e,he,rfl⟩:=List.mem_map.1 hx
    rw [zuh HX.out.1.up _ he];have hcb:Cb W w.heap.size c mb rest S f:=(HX.out.2.1.below HW.out.2).grown hW (by omega) (by omega) (by omega);exact z5h w.heap.size c mb rest S f e W hcb ((HX.out.1.mem e).2 he) (HX.out.1.wf e he)
   ·rintro e w' ⟨v',rfl,hrow',hg'⟩
    refine ⟨v',rfl,?_,?_,(HX.out.2.1.below HW.out.2).grown hg' (by omega) (by omega) (by omega)⟩
    ·rw [zwf R (λ e=>decide (f e=0)) _ (λ e he=>zuh HX.out.1.up _ he),zrj,List.length_map] at hrow'
     have e1:(R.filter λ e=>!decide (f e=0))=R.filter λ e=>decide (f e≠0):=by
      apply List.filter_congr;intro e _;by_cases h0:f e=0 <;> simp [h0]
     rw [e1] at hrow';exact z04 hrow' (by omega)
    ·exact HB2.grown hg' HB2.size (λ j hj=>by injection hj with hj;omega)
 clear hrow2 hb2 HI;go_wp2_with fail;refine Calls.mono HD.out ?_;rintro e w3 ⟨v3,rfl,hrow3,hb3,hcb3⟩;obtain ⟨L,hL⟩:∃L,(R.filter λ e=>decide (f e≠0))=L:=⟨_,rfl⟩;rw [hL] at hrow3;have HL:=kd hL;obtain ⟨T,hT⟩:∃T,(zam L λ e d=>decide (f e=f d))=T:=⟨_,rfl⟩;have HT:=kd hT;have hTl:T.length<=14400:=by
  rw [<-hT];have h1:=zfb (λ e d=>decide (f e=f d)) L;have h2:L.length<=120:=by rw [<-hL];exact Nat.le_trans (List.length_filter_le _ _) HX.out.1.len
  have h3:=Nat.mul_le_mul h2 h2;omega
 obtain ⟨a3,cap,rfl,hcap,hcm,hc3⟩:=z0l hrow3;obtain ⟨m,hm⟩:∃m,L.length=m:=⟨_,rfl⟩;have HM:=kd hm;rw [hm] at hcap hc3 ⊢;have hm60:m<=120:=by rw [<-hm,<-hL];exact Nat.le_trans (List.length_filter_le _ _) HX.out.1.len
 have HC:Hid ((0<m->∃g,a3=some ⟨g,0,none⟩/\g<w3.heap.size/\∀j e,L[j]? =some e->w3.cell? ⟨g,j,none⟩=some (.int .i64 e.1))/\Cb w3 w.heap.size c mb rest S f/\Below w.heap.size w w3):=⟨hc3,hcb3,hb3⟩;have HP0:Hid (∃M,Pq w3 w3 (.slice none 0 0) M/\M++(zam (L.drop 0) λ e d=>decide (f e=f d))=T):=⟨[],⟨World.ownsRow_nil _ _ _ _,Below.refl _ _⟩,by simpa using hT⟩;simp only [maxLen] at hcm;clear hrow3 hb3 hcb3 hc3 hm hL hT HD HW;go_wp2_with fail;go_loopw [4,15] (λ s4 s15 wq=>∃i:Nat,i<=m/\s15= .int .i64 i/\∃M,Pq w3 wq s4 M/\M++(zam (L.drop i) λ e d=>decide (f e=f d))=T) (λ _ s15 _=>m-(intOf s15).toNat)
 case atStart=>exact ⟨0,Nat.zero_le _,rfl,HP0.out⟩
 case round=>
  clear HP0;obtain ⟨i,hi,rfl,M,hpq,hMT⟩:=hrel;have HP:=kd (And.intro hpq hMT);clear hpq hMT;by_cases hlt:i<m
  ·obtain ⟨e,he⟩:∃e,L[i]? =some e:=⟨_,List.getElem?_eq_getElem (by rw [HM.out];exact hlt)⟩
   obtain ⟨g,rfl,hgl,hcell⟩:=HC.out.1 (by omega);have hce:wr.cell? ⟨g,i,none⟩=some (.int .i64 e.1):=(HP.out.1.below.cell (p:=⟨g,i,none⟩) hgl).trans (hcell i e he);have HE:=kd (And.intro he hcell);have HI0:Hid (∃M,Pq w3 wr u4 M/\M++((((L.drop (i+1)).drop 0).filter λ d=>decide (f e=f d)).map (λ d=>(e.1,d.1))++zam (L.drop (i+1)) λ e d=>decide (f e=f d))=T):=⟨M,HP.out.1,by
    have:=HP.out.2;rw [drop_at he] at this;exact this⟩
   obtain ⟨E,hE⟩:∃E,e.1=E:=⟨_,rfl⟩;have HEE:=kd hE;rw [hE] at hce;clear he hcell hE;have hw1:IntKind.i64.wrap ((i:Int)+1)=(i:Int)+1:=by rw [IntKind.wrap_i64];omega
   have hb2:(i:Int)+1<=(m:Int):=by omega
   have hb3:(0:Int)<=(i:Int)+1:=by omega
   have hb4:(i:Int)+1<=(cap:Int):=by omega
   have hb5:(m:Int)<=(cap:Int):=by omega
   have htn:((i:Int)+1).toNat=i+1:=by omega
   by_cases hcj:cap=i+1
   ·go_wp2_with fail
    clear hw1 hb2 hb3 hb4 hb5 htn hce;obtain ⟨r,hr⟩:∃r,m-(i+1)=r:=⟨_,rfl⟩;have HR:=kd hr;rw [hr];go_loopw [4,25] (λ s4 s25 wq=>∃j:Nat,j<=r/\s25= .int .i64 j/\∃M,Pq w3 wq s4 M/\M++((((L.drop (i+1)).drop j).filter λ d=>decide (f e=f d)).map (λ d=>(e.1,d.1))++zam (L.drop (i+1)) λ e d=>decide (f e=f d))=T) (λ _ s25 _=>r-(intOf s25).toNat)
    case atStart=>exact ⟨0,Nat.zero_le _,rfl,HI0.out⟩
    case round=>
     clear HI0 HP;obtain ⟨j,hj,rfl,M,hpq,hMT⟩:=hrel;have HP:=kd (And.intro hpq hMT);clear hpq hMT;by_cases hltj:j<r
     ·exact absurd hltj (by omega)
     ·as_aux_lemma=>
      have HF:Hid (M++(zam (L.drop (i+1)) λ e d=>decide (f e=f d))=T):=by
       have h1:=HP.out.2;have h2:(L.drop (i+1)).drop j=[]:=List.drop_eq_nil_of_le (by rw [List.length_drop,HM.out];omega);rw [h2] at h1;exact h1
      clear hr;go_wp2_with fail;go_roundw;case rel=>exact ⟨i+1,by omega,by go_num,M,HP.out.1,HF.out⟩
      case measure=>simp [intOf];omega
   ·go_wp2_with fail
    clear hw1 hb2 hb3 hb4 hb5 htn hce;obtain ⟨r,hr⟩:∃r,m-(i+1)=r:=⟨_,rfl⟩;have HR:=kd hr;rw [hr];go_loopw [4,25] (λ s4 s25 wq=>∃j:Nat,j<=r/\s25= .int .i64 j/\∃M,Pq w3 wq s4 M/\M++((((L.drop (i+1)).drop j).filter λ d=>decide (f e=f d)).map (λ d=>(e.1,d.1))++zam (L.drop (i+1)) λ e d=>decide (f e=f d))=T) (λ _ s25 _=>r-(intOf s25).toNat)
    case atStart=>exact ⟨0,Nat.zero_le _,rfl,HI0.out⟩
    case round=>
     clear HI0 HP;obtain ⟨j,hj,rfl,M,hpq,hMT⟩:=hrel;have HP:=kd (And.intro hpq hMT);clear hpq hMT;by_cases hltj:j<r
     ·obtain ⟨d,hd⟩:∃d,L[i+1+j]? =some d:=⟨_,List.getElem?_eq_getElem (by rw [HM.out];omega)⟩
      have hcd:wr.cell? ⟨g,i+1+j,none⟩=some (.int .i64 d.1):=(HP.out.1.below.cell (p:=⟨g,i+1+j,none⟩) hgl).trans (HE.out.2 _ d hd);have hdr:(L.drop (i+1)).drop j=d::(L.drop (i+1)).drop (j+1):=drop_at (by rw [List.getElem?_drop];exact hd);have hcb:=HC.out.2.1.below HP.out.1.below;have hb0:wr.cell? ⟨w.heap.size,0,none⟩=some (.pointer (some ⟨c,0,none⟩)):=by simp [World.cell?,hcb.bx]
      have hb1:=hcb.co.cell1;have inL:∀{k:Nat} {x:Edg},L[k]? =some x->x∈R:=λ {k x} hk=>by
       have:=List.mem_of_getElem? hk;rw [<-HL.out] at this;exact (List.mem_filter.1 this).1
      have lk1:=λ n=>((hcb.below (below_drewN (Below.refl _ _) n)).co.zmm ((HX.out.1.mem e).2 (inL HE.out.1)) (HX.out.1.wf e (inL HE.out.1))).2
      have lk2:=λ n=>((hcb.below (below_drewN (Below.refl _ _) n)).co.zmm ((HX.out.1.mem d).2 (inL hd)) (HX.out.1.wf d (inL hd))).2
      unfold zdp at lk1 lk2;have HMl:Hid (M.length<=14400):=by
       have:=congrArg List.length HP.out.2;rw [List.length_append] at this;show M.length<=14400;omega
      have HN:Hid (∀M',(if f e=f d then M'=M++[(e.1,d.1)] else M'=M)->M'++((((L.drop (i+1)).drop (j+1)).filter λ d=>decide (f e=f d)).map (λ d=>(e.1,d.1))++zam (L.drop (i+1)) λ e d=>decide (f e=f d))=T):=λ M' hM'=>by
       have h1:=HP.out.2;rw [hdr,List.filter_cons] at h1;by_cases hfe:f e=f d
       ·rw [if_pos hfe] at hM'
        rw [if_pos (by simpa using hfe)] at h1;rw [hM',<-h1];simp
       ·rw [if_neg hfe] at hM'
        rw [if_neg (by simpa using hfe)] at h1;rw [hM',<-h1]
      obtain ⟨Y,hY⟩:∃Y,d.1=Y:=⟨_,rfl⟩;obtain ⟨x,hx⟩:∃x,f e=x:=⟨_,rfl⟩;obtain ⟨y,hy⟩:∃y,f d=y:=⟨_,rfl⟩;rw [HEE.out,hx] at lk1;rw [hY,hy] at lk2;rw [hY] at hcd;rw [hx,hy,HEE.out,hY] at HN;obtain ⟨x0,hx0⟩:∃x0,zbh x=x0:=⟨_,rfl⟩;obtain ⟨x1,hx1⟩:∃x1,hi64 x=x1:=⟨_,rfl⟩;obtain ⟨y0,hy0⟩:∃y0,zbh y=y0:=⟨_,rfl⟩;obtain ⟨y1,hy1⟩:∃y1,hi64 y=y1:=⟨_,rfl⟩;rw [hx0,hx1] at lk1;rw [hy0,hy1] at lk2;have HXY:Hid (x=y↔x0=y0/\x1=y1):=by
       show _↔_;rw [<-hx0,<-hx1,<-hy0,<-hy1];exact ⟨λ k=>by rw [k];exact ⟨rfl,rfl⟩,λ k=>z4b k.1 k.2⟩
      clear hx0 hx1 hy0 hy1;have heq:=z4t;clear hcb hd hdr inL hY hy;by_cases hxy:x=y
      ·as_aux_lemma=>
       have HNO:Hid _:=HN.out (M++[(E,Y)]) (by rw [if_pos hxy]);obtain ⟨hz0,hz1⟩:=HXY.out.1 hxy;subst hz0;subst hz1;go_upto_region 9 with fail
       go_quiet (fail);have HPQ:=HP.out.1.drewN nq;obtain ⟨v',w4,hrn,ho4,hg4,hf4⟩:=zfi 65 (wr.drewN nq) w3.heap.size u4 M E Y HPQ.own HPQ.below.size (by have:=HMl.out;omega);have HRN:=kd hrn;have HP4:Hid (Pq w3 w4 v' (M++[(E,Y)])):=⟨ho4,HPQ.below.grown hg4 HPQ.below.size (λ k hk=>(World.ownsRow.lt HPQ.own k hk).1)⟩;clear hrn ho4 hg4 hf4 HPQ;go_wp2_with (at_builtin;refine Lib.wpList_append_run _ rfl _ _ _ _ rfl _ _ rfl rfl _ _ HRN.out ?_);go_roundw;case rel=>
        refine ⟨j+1,by omega,by go_num,M++[(E,Y)],HP4.out,?_⟩;have:=HNO.out;rw [hx,HEE.out];exact this
       case measure=>simp [intOf];omega
      ·by_cases hz0:x0=y0
       ·as_aux_lemma=>
        have hz1:¬x1=y1:=λ k=>hxy (HXY.out.2 ⟨hz0,k⟩)
        subst hz0;have hbe:((x1:Int)==(y1:Int))=false:=beq_eq_false_iff_ne.2 (by omega);have HNO:Hid _:=HN.out M (by rw [if_neg hxy]);go_upto_region 9 with fail
        go_quiet (fail);go_wp2_with fail;go_roundw;case rel=>
         refine ⟨j+1,by omega,by go_num,M,HP.out.1.drewN _,?_⟩;have:=HNO.out;rw [hx,HEE.out];exact this
        case measure=>simp [intOf];omega
       ·as_aux_lemma=>
        have hbe:((x0:Int)==(y0:Int))=false:=beq_eq_false_iff_ne.2 (by omega);have HNO:Hid _:=HN.out M (by rw [if_neg hxy]);go_upto_region 9 with fail
        go_quiet (fail);go_wp2_with fail;go_roundw;case rel=>
         refine ⟨j+1,by omega,by go_num,M,HP.out.1.drewN _,?_⟩;have:=HNO.out;rw [hx,HEE.out];exact this
        case measure=>simp [intOf];omega
     ·as_aux_lemma=>
      have HF:Hid (M++(zam (L.drop (i+1)) λ e d=>decide (f e=f d))=T):=by
       have h1:=HP.out.2;have h2:(L.drop (i+1)).drop j=[]:=List.drop_eq_nil_of_le (by rw [List.length_drop,HM.out];omega);rw [h2] at h1;exact h1
      clear hr;go_wp2_with fail;go_roundw;case rel=>exact ⟨i+1,by omega,by go_num,M,HP.out.1,HF.out⟩
      case measure=>simp [intOf];omega
  ·as_aux_lemma=>
   have HF:Hid (zan wr w.heap.size u4 (zam L λ e d=>decide (f e=f d))/\Below w.heap.size w wr):=by
    have hie:i=m:=by omega
    have h1:=HP.out.2;rw [hie,<-HM.out,List.drop_length] at h1;simp only [zam,List.append_nil] at h1;have hb:=HC.out.2.2;have h2:=HP.out.1;rw [h1,<-HT.out] at h2;exact ⟨h2.own.mono hb.size,hb.trans (h2.below.mono hb.size)⟩
   go_wp2_with fail;go_ret;refine ⟨_,rfl,?_,HF.out.2⟩;rw [HL.out];exact HF.out.1
end Go.Proofs.YtebcjaenhiiflaaGreatDoor.S
