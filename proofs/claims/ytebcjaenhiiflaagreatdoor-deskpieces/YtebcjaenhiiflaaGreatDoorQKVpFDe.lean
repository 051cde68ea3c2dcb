import Derived.Test.YtebcjaenhiiflaaGreatDoorQKVkKe
import Derived.Test.YtebcjaenhiiflaaGreatDoorQFDa
set_option maxHeartbeats 4000000
set_option maxRecDepth 100000
namespace Go.Proofs
open Go.Shelf
def Tryz.keysR_ren:Go.Shelf.Ren:=⟨λ | 7=>261 | 10=>326 | n=>n,λ | 23=>204 | 26=>3 | 3=>208 | 28=>193 | 0=>0 | 27=>192 | 33=>173 | 4=>4 | n=>n,λ | n=>n⟩
theorem Tryz.keysR:Go.Proofs.SlLaysZI.n7 Tryz.prog Tryz.keysR_ren:={
 mixed:=by kernel_rfl
 f7:=⟨Tryz.f261.name,by decide,Tryz.func261.trans (congrArg some (by kernel_rfl))⟩
 f10:=⟨Tryz.f326.name,by decide,Tryz.func326.trans (congrArg some (by kernel_rfl))⟩
 t0:=Tryz.underlying0
 a0:=Tryz.isAgg0
 z0:=Tryz.sizeOf0
 v0:=Tryz.zeroValue0
 t4:=Tryz.underlying4
 a4:=Tryz.isAgg4
 z4:=Tryz.sizeOf4
 v4:=Tryz.zeroValue4
 t23:=Tryz.underlying204
 a23:=Tryz.isAgg204
 z23:=Tryz.sizeOf204
 v23:=Tryz.zeroValue204
 t26:=Tryz.underlying3
 a26:=Tryz.isAgg3
 z26:=Tryz.sizeOf3
 v26:=Tryz.zeroValue3
 t27:=Tryz.underlying192
 a27:=Tryz.isAgg192
 z27:=Tryz.sizeOf192
 v27:=Tryz.zeroValue192
 t28:=Tryz.underlying193
 a28:=Tryz.isAgg193
 z28:=Tryz.sizeOf193
 v28:=Tryz.zeroValue193
 t33:=Tryz.underlying173
 a33:=Tryz.isAgg173
 z33:=Tryz.sizeOf173
 v33:=Tryz.zeroValue173}
end Go.Proofs
namespace Go.Proofs.YtebcjaenhiiflaaGreatDoor.S
open Go.RowKit Go.WideMaps Go.Maps Go.Shelf
theorem keysR_any (mb:Option Nat) (W:World):Calls Tryz.prog 261 #[.map mb] W λ e w'=>e= .returned (.func (.func 326) #[] #[.pointer (some ⟨W.heap.size,0,none⟩)])/\w'=W.alloc (.cells #[.map mb] 204):=
 (callsIn_wide (n:=5)).1 (AnyZI.keys_in Tryz.keysR Fence.wide 5 trivial rfl mb W)
theorem keysR_sorted (R:Value->Option (DataW Unit × List MemPlace)) (m N:Nat) (D:DataW Unit) (w:World) (hown:w.ownsMap Tryz.prog 3 R m N D) (hN:N<=1000):
 Calls Tryz.prog 133 #[.func (.func 326) #[] #[.pointer (some ⟨w.heap.size,0,none⟩)]] (w.alloc (.cells #[.map (some m)] 204)) λ e w'=>∃(v:Value) (ss:List Int),e= .returned v/\ss.Perm (intKeys D)/\
  w'.ownsRow w.heap.size 3 1 v ss.length ((ss.mergeSort (λ x y=>decide (x<=y))).map encZ)/\Below w.heap.size w w':=by
 have hmax:Maps.size D<=maxLen:=Nat.le_trans hown.size_le (by unfold maxLen;omega);have hbytes:Maps.size D*8<=140737488355328:=by have:=hown.size_le;omega
 have hbl:=hown.lt;have hseq:SeqGives Fence.wide 2 Tryz.prog 326 #[.pointer (some ⟨w.heap.size,0,none⟩)] encZ (λ ss=>ss.Perm (intKeys D)) (Maps.size D) (w.alloc (.cells #[.map (some m)] 204)):=
  AnyZI.keys_gives (ρ:=Tryz.keysR_ren) {Tryz.keysR with} Fence.wide _ trivial rfl (by omega) w.heap.size m N D _ (by simp) (by simp) (by
   obtain ⟨es,clock,hb,Ft,hs,hD⟩:=hown;exact ⟨es,clock,(Below.heap_alloc _ _ m hbl).trans hb,Ft,hs,hD⟩)
 have cS:=AnyZI.sorted_in Tryz.sortedA Fence.wide 5 trivial trivial trivial trivial rfl (by omega) (sortsA _) (enters_of Tryz.func243 (by kernel_rfl) rfl) 326 #[.pointer (some ⟨w.heap.size,0,none⟩)] trivial (enters_of Tryz.func326 (by kernel_rfl) rfl) _ _ hmax hbytes _ hseq;change CallsIn _ _ Tryz.prog 133 _ _ _ at cS
 refine (callsIn_wide.1 cS).mono ?_;rintro e w' ⟨v,ss,rfl,hS,hrow,hnil,hb⟩;exact ⟨v,ss,rfl,hS,ownsRow_base_a hrow (by simp),((Below.refl _ w).alloc (Nat.le_refl _) _).trans (hb.mono (by simp))⟩
def idV (R:List Edg):List Value:=R.map λ e=>.int .i64 e.1
theorem cids_any (c mb rest:Nat) (S R:List Edg) (f:Edg->Nat) (w:World) (h:Co w c mb rest S f) (hS:∀e,e∈S↔e∈R) (hR:(R.map (·.1)).Pairwise (·<·)) (hl:∀D N,w.ownsMap Tryz.prog 3 ringR mb N D->Rm D S f->w.ownsMap Tryz.prog 3 ringR mb 1000 D):
 Calls Tryz.prog 145 #[.pointer (some ⟨c,0,none⟩)] w λ e w'=>∃v,e= .returned v/\w'.ownsRow w.heap.size 3 1 v R.length (idV R)/\Below w.heap.size w w':=by
 have h1:=h.cell1;obtain ⟨D,N,ho,hm⟩:=h.mp;have ho':=hl D N ho hm;have hk:∀x:Int,Maps.has D (.int .i64 x)=true↔x∈R.map (·.1):=λ x=>by
  rw [hm.key,List.mem_map];constructor
  ·rintro ⟨e,he,h2⟩;injection h2 with _ h2;exact ⟨e,(hS e).1 he,h2.symm⟩
  ·rintro ⟨e,he,rfl⟩;exact ⟨e,(hS e).2 he,rfl⟩
 have HS:Hid _:=keysR_sorted ringR mb 1000 D w ho' (Nat.le_refl _);have HK:Hid (∀ss:List Int,ss.Perm (intKeys D)->(ss.mergeSort λ x y=>decide (x<=y))=R.map (·.1)/\ss.length=(R.map (·.1)).length):=λ ss hp=>keys_up ho' hR hk hp
 clear h ho ho' hm hl hk hR hS;go_enter Tryz.func145,Tryz.ntmps145;go_wp2_with fail;refine (keysR_any (some mb) w).mono ?_;rintro e w1 ⟨rfl,hw1⟩;subst hw1;go_wp2_with fail;refine Calls.mono HS.out ?_;rintro e w2 ⟨v,ss,rfl,hp,hrow,hb⟩;have HF:Hid (w2.ownsRow w.heap.size 3 1 v R.length (idV R)/\Below w.heap.size w w2):=by
  refine ⟨?_,hb⟩;obtain ⟨h3,h4⟩:=HK.out ss hp;rw [h3,h4,List.length_map,List.map_map] at hrow;exact hrow
 clear hp hrow hb;go_wp2_with fail;go_ret;exact ⟨_,rfl,HF.out.1,HF.out.2⟩
open Go.RowKit Go.WideMaps Go.Maps
structure Cb (w:World) (bx c mb rest:Nat) (S:List Edg) (f:Edg->Nat):Prop where
 bx:w.heap[bx]? =some (.cells #[.pointer (some ⟨c,0,none⟩)] 106)
 co:Co w c mb rest S f
def rowZ (K:List Int):List Value:=K.map λ x=>.int .i64 x
section
variable {w w':World} {bx c mb rest g:Nat} {S:List Edg} {f:Edg->Nat}
theorem Cb.below (h:Cb w bx c mb rest S f) (hb:Below w.heap.size w w'):Cb w' bx c mb rest S f:=⟨(hb.block bx (lt_of_some h.bx)).trans h.bx,h.co.below hb⟩
theorem Cb.grown (h:Cb w bx c mb rest S f) (hg:w.grownBy w' (some g)) (h1:bx≠g) (h2:c≠g) (h3:mb≠g):Cb w' bx c mb rest S f:=by
 obtain ⟨v,hv⟩:=h.co.st;obtain ⟨D,N,k1,k2⟩:=h.co.mp;exact ⟨(hg.block bx (lt_of_some h.bx) (by simp;exact h1)).trans h.bx,⟨v,(hg.block c (lt_of_some hv) (by simp;exact h2)).trans hv⟩,D,N,k1.kept hg (by simp;exact h3),k2⟩
end
theorem build101 (w:World):(Instr.build 208 #[]).run Tryz.prog w= .ok (.agg #[.int .u64 0,.int .u64 0]) w:=by kernel_rfl
theorem pr1_any (bx c mb rest:Nat) (S:List Edg) (f:Edg->Nat) (e:Edg) (w:World) (h:Cb w bx c mb rest S f) (he:e∈S) (hw:(Lit.int .i64 e.1).wf=true):
 Calls Tryz.prog 146 #[.int .i64 e.1,.pointer (some ⟨bx,0,none⟩)] w λ en w'=>en= .returned (.bool (decide (f e=0)))/\w'=w:=by
 have h0:w.cell? ⟨bx,0,none⟩=some (.pointer (some ⟨c,0,none⟩)):=by simp [World.cell?,h.bx]
 have h1:=h.co.cell1;have lk:=(h.co.look_in he hw).2;unfold ringV at lk;have hbd:=build101;have heq:=eq101;obtain ⟨x,hx⟩:∃x,lo64 (f e)=x:=⟨_,rfl⟩;obtain ⟨y,hy⟩:∃y,hi64 (f e)=y:=⟨_,rfl⟩;have HX:Hid (f e=0↔x=0/\y=0):=by
  show _↔_;rw [<-hx,<-hy];exact ⟨λ k=>by rw [k];exact ⟨rfl,rfl⟩,λ k=>lohi (y:=0) k.1 k.2⟩
 rw [hx,hy] at lk;obtain ⟨X,hX⟩:∃X,e.1=X:=⟨_,rfl⟩;rw [hX] at lk ⊢;clear h he hw hx hy hX;by_cases hx0:x=0
 ·subst hx0
  by_cases hy0:y=0
  ·subst hy0
   have HZ:Hid (f e=0):=HX.out.2 ⟨rfl,rfl⟩;have hb:(((0:Nat):Int)==0)=true:=rfl;go_enter Tryz.func146,Tryz.ntmps146;go_wp2_with fail;go_ret;exact ⟨by rw [decide_eq_true HZ.out];simp,rfl⟩
  ·have HZ:Hid (¬f e=0):=λ k=>hy0 (HX.out.1 k).2
   have hb1:(((0:Nat):Int)==0)=true:=rfl;have hb:((y:Int)==0)=false:=beq_eq_false_iff_ne.2 (by omega);go_enter Tryz.func146,Tryz.ntmps146;go_wp2_with fail;go_ret;exact ⟨by rw [decide_eq_false HZ.out];simp,rfl⟩
 ·have HZ:Hid (¬f e=0):=λ k=>hx0 (HX.out.1 k).1
  have hb:((x:Int)==0)=false:=beq_eq_false_iff_ne.2 (by omega);go_enter Tryz.func146,Tryz.ntmps146;go_wp2_with fail;go_ret;exact ⟨by rw [decide_eq_false HZ.out];simp,rfl⟩
structure Dz (w0 w:World) (B g m cap i j:Nat) (pf:Int->Bool) (M X:List Int):Prop where
 own:w.ownsRow B 3 1 (.slice (some ⟨g,0,none⟩) m cap) m (rowZ X)
 len:X.length=m
 fst:X.take i=(M.take j).filter λ x=>!pf x
 snd:X.drop j=M.drop j
 hij:i<j
 hjm:j<=m
 kept:w0.grownBy w (some g)
theorem take_fz {L:List Int} {k:Nat} {x:Int} (pf:Int->Bool) (h:L[k]? =some x):(L.take (k+1)).filter pf=(L.take k).filter pf++(if pf x then [x] else []):=by
 obtain ⟨hlt,he⟩:=List.getElem?_eq_some_iff.1 h;rw [List.take_succ_eq_append_getElem hlt,List.filter_append,he]
 congr 1
 cases hp:pf x <;> simp [hp]
section
variable {w0 w w':World} {B g m cap i j:Nat} {x:Int} {pf:Int->Bool} {M X:List Int}
theorem Dz.at_ (h:Dz w0 w B g m cap i j pf M X) (hj:j<m) (hm:M.length=m):X[j]? =M[j]? /\∃x,M[j]? =some x:=by
 refine ⟨?_,_,List.getElem?_eq_getElem (by omega)⟩;have:=congrArg (λ l=>l[0]?) h.snd
 simpa using this
theorem Dz.cell (h:Dz w0 w B g m cap i j pf M X) {k:Nat} (hk:X[k]? =some x):w.cell? ⟨g,k,none⟩=some (.int .i64 x):=by
 have hkl:=(List.getElem?_eq_some_iff.1 hk).1;have hlen:=h.len;rw [h.own.cellAt k (by omega)];simp [rowZ,hk]
theorem Dz.fz (h:Dz w0 w B g m cap i j pf M X) (k:Nat):w.frozen? ⟨g,k,none⟩=false:=by
 rcases h.own.2 with ⟨h1,_⟩ | ⟨g',cap',cur,h1,_,h3,_⟩
 ·cases h1
 ·injection h1 with h1 _ _
  injection h1 with h1
  injection h1 with h1 _ _
  subst h1;simp [World.frozen?,h3]
theorem Dz.skip (h:Dz w0 w B g m cap i j pf M X) (hj:j<m) (hx:M[j]? =some x) (hp:pf x=true):Dz w0 w B g m cap i (j+1) pf M X:=by
 refine {h with fst:=?_,snd:=?_,hij:=by have:=h.hij;omega,hjm:=by omega}
 ·rw [h.fst,take_fz _ hx];simp [hp]
 ·have:=congrArg (List.drop 1) h.snd
  simpa [List.drop_drop,Nat.add_comm] using this
theorem Dz.store (h:Dz w0 w B g m cap i j pf M X) (hj:j<m) (hx:M[j]? =some x) (hp:pf x=false):Dz w0 (w.setCell ⟨g,i,none⟩ (.int .i64 x)) B g m cap (i+1) (j+1) pf M (X.set i x):=by
 have hij:=h.hij;have hlen:=h.len;have hset:w.grownBy (w.setCell ⟨g,i,none⟩ (.int .i64 x)) (some g):=⟨rfl,rfl,rfl,by simp,λ k _ hn=>Below.heap_setCell _ _ _ _ (λ e=>hn (by rw [e]))⟩;refine ⟨?_,by simpa using hlen,?_,?_,by omega,by omega,⟨hset.os.trans h.kept.os,hset.tape.trans h.kept.tape,hset.output.trans h.kept.output,Nat.le_trans h.kept.size hset.size,λ k hk hn=>(hset.block k (Nat.lt_of_lt_of_le hk h.kept.size) hn).trans (h.kept.block k hk hn)⟩⟩
 ·rcases h.own.2 with ⟨h1,_⟩ | ⟨g',cap',cur,h1,h2,h3,h4,h5,h6,h7⟩
  ·cases h1
  ·injection h1 with h1a h1b h1c
   injection h1a with h1a
   injection h1a with h1a _ _
   subst h1a;subst h1c;refine ⟨by simp [rowZ,hlen],Or.inr ⟨g,cap,cur.setIfInBounds i (.int .i64 x),rfl,h2,?_,h4,h5,by simpa using h6,?_⟩⟩
   ·simp only [World.setCell,Array.getElem?_modify,h3]
    simp
   ·have e1:rowZ (X.set i x)=(rowZ X).set i (.int .i64 x):=by simp [rowZ,List.map_set]
    rw [e1,<-h7];simp [List.take_set]
 ·rw [take_fz _ hx,<-h.fst]
  have hi:i<X.length:=by omega
  rw [if_pos (by simp [hp]),List.take_succ_eq_append_getElem (by simpa using hi)]
  congr 1
  ·rw [List.take_set_of_le (Nat.le_refl _)]
  ·simp
 ·have:=congrArg (List.drop 1) h.snd
  rw [List.drop_set_of_lt (by omega)]
  simpa [List.drop_drop,Nat.add_comm] using this
theorem zeroZ_one (n:Nat):∀u∈(Builtin.zeroCells (Value.int .i64 0).cells n).toList,u.oneCell'=true:=by
 intro u hu;have hc:(Value.int .i64 0).cells=#[.int .i64 0]:=rfl;rw [hc] at hu;simp only [Builtin.zeroCells,Array.toList_map,List.mem_map] at hu;obtain ⟨a,_,rfl⟩:=hu;have:a%1=0:=Nat.mod_one a;show (#[Value.int .i64 0][a%1]!).oneCell'=true;rw [this];rfl
theorem zeroZ_length (n:Nat):(Builtin.zeroCells (Value.int .i64 0).cells n).toList.length=n:=by
 have hc:(Value.int .i64 0).cells=#[.int .i64 0]:=rfl;rw [hc];simp [Builtin.zeroCells]
theorem Dz.done (h:Dz w0 w B g m cap i m pf M X) (hm:M.length=m):∃W2,(∀ty sc,(Builtin.clear_ #[48] ty #[.slice (some ⟨g,i,none⟩) (m-i) sc]).run Tryz.prog w= .ok (.tuple #[]) W2)/\m<=cap/\cap<=maxLen/\W2.ownsRow B 3 1 (.slice (some ⟨g,0,none⟩) i cap) (M.filter λ x=>!pf x).length (rowZ (M.filter λ x=>!pf x))/\w0.grownBy W2 (some g):=by
 have hij:=h.hij;have hlen:=h.len;rcases h.own.2 with ⟨h1,_⟩ | ⟨g',cap',cur,h1,h2,h3,h4,h5,h6,h7⟩
 ·cases h1
 ·injection h1 with h1a h1b h1c
  injection h1a with h1a
  injection h1a with h1a _ _
  subst h1a;subst h1c;have hfst:=h.fst;rw [<-hm,List.take_length] at hfst;have hcl:cur.toList.length=cap:=by simpa using h6
  have hzl:=zeroZ_length (m-i);refine ⟨w.setRow g (splice cur.toList i (Builtin.zeroCells (Value.int .i64 0).cells (m-i)).toList).toArray,λ ty sc=>run_clear_rows w 48 3 ty (.int .i64 0) Tryz.underlying48 zero3 g i (m-i) sc (by omega) cur.toList 3 (by simpa using h3) (by rw [hzl,hcl];omega) (zeroZ_one _),by omega,h5,?_,?_⟩
  ·rw [<-hfst]
   have hl2:(X.take i).length=i:=by rw [List.length_take];omega
   refine ⟨by simp [rowZ],Or.inr ⟨g,cap,_,by rw [hl2],h2,setRow_heap w g cur _ 3 (0,0) h3,by rw [hl2];omega,h5,?_,?_⟩⟩
   ·rw [List.size_toArray,length_splice _ _ _ (by rw [hzl,hcl];omega),hcl];omega
   ·rw [hl2]
    show (splice _ _ _).take _=_;have h8:(cur.toList.take i).length=i:=by rw [List.length_take,hcl];omega
    unfold splice;rw [Nat.mul_one,List.take_append_of_le_length (by omega),List.take_of_length_le (by omega)];have h9:=congrArg (List.take i) h7;rw [List.take_take,show min i (m*1)=i by omega] at h9;rw [h9];simp [rowZ,List.map_take]
  ·exact ⟨h.kept.os,h.kept.tape,h.kept.output,Nat.le_trans h.kept.size (by simp),λ k hk hn=>(setRow_other w g k _ (λ e=>hn (by rw [e]))).trans (h.kept.block k hk hn)⟩
end
theorem index_pr (pf:Int->Bool) (bx g m cap B:Nat) (M:List Int) (w:World) (h:w.ownsRow B 3 1 (.slice (some ⟨g,0,none⟩) m cap) m (rowZ M)) (hl:M.length<=1000) (hm:M.length=m)
 (hf:∀x∈M,Calls Tryz.prog 146 #[.int .i64 x,.pointer (some ⟨bx,0,none⟩)] w λ e w'=>e= .returned (.bool (pf x))/\w'=w):
 Calls Tryz.prog 260 #[.slice (some ⟨g,0,none⟩) m cap,.func (.func 146) #[] #[.pointer (some ⟨bx,0,none⟩)]] w λ e w'=>((∃i x,i<m/\e= .returned (.int .i64 (i:Int))/\M[i]? =some x/\pf x=true/\∀j y,j<i->M[j]? =some y->pf y=false)\/(e= .returned (.int .i64 (-1))/\∀j y,j<m->M[j]? =some y->pf y=false))/\w'=w:=by
 have HO:Hid (w.ownsRow B 3 1 (.slice (some ⟨g,0,none⟩) m cap) m (rowZ M)/\M.length=m):=⟨h,hm⟩;have HF:Hid (∀x∈M,Calls Tryz.prog 146 #[.int .i64 x,.pointer (some ⟨bx,0,none⟩)] w λ e w'=>e= .returned (.bool (pf x))/\w'=w):=hf;rw [hm] at hl;clear h hm hf;go_enter Tryz.func260,Tryz.ntmps260;go_wp2_with fail;go_loopw [8] (λ s8 wq=>∃k:Nat,k<=m/\s8= .int .i64 k/\(∀j y,j<k->M[j]? =some y->pf y=false)/\wq=w) (λ s8 _=>m-(intOf s8).toNat)
 case atStart=>exact ⟨0,Nat.zero_le _,rfl,λ j y hj=>by omega,rfl⟩
 case round=>
  obtain ⟨k,hk,rfl,hno,rfl⟩:=hrel;have HB:Hid (∀j y,j<k->M[j]? =some y->pf y=false):=hno;clear hno;by_cases hlt:k<m
  ·obtain ⟨x,hx⟩:∃x,M[k]? =some x:=⟨_,List.getElem?_eq_getElem (by rw [HO.out.2];exact hlt)⟩
   have r0:wr.cell? ⟨g,k,none⟩=some (.int .i64 x):=by
    rw [HO.out.1.cellAt k (by omega)];simp [rowZ,hx]
   have HX:Hid (M[k]? =some x):=hx;have HC:Hid _:=HF.out x (List.mem_of_getElem? hx);clear hx;cases hp:pf x with
   | true=>
     as_aux_lemma=>
     rw [hp] at HC;go_wp2_with fail;refine Calls.mono HC.out ?_;rintro e w2 ⟨rfl,hw2⟩;subst hw2;go_wp2_with fail;go_ret;exact ⟨.inl ⟨k,x,hlt,rfl,HX.out,hp,HB.out⟩,rfl⟩
   | false=>
     as_aux_lemma=>
     rw [hp] at HC;go_wp2_with fail;refine Calls.mono HC.out ?_;rintro e w2 ⟨rfl,hw2⟩;subst hw2;have HB2:Hid (∀j y,j<k+1->M[j]? =some y->pf y=false):=λ j y hj hy=>by
      by_cases e:j=k
      ·rw [e,HX.out] at hy;rw [<-Option.some.inj hy];exact hp
      ·exact HB.out j y (by omega) hy
     go_wp2_with fail;go_roundw;case rel=>exact ⟨k+1,by omega,by go_num,HB2.out,by trivial⟩
     case measure=>simp [intOf];omega
  ·as_aux_lemma=>
   have hke:k=m:=by omega
   have HB2:Hid (∀j y,j<m->M[j]? =some y->pf y=false):=λ j y hj hy=>HB.out j y (by omega) hy
   clear hke;go_wp2_with fail;go_ret;exact ⟨.inr ⟨rfl,HB2.out⟩,rfl⟩
theorem delete_pr (pf:Int->Bool) (bx g m cap B:Nat) (M:List Int) (w:World) (h:w.ownsRow B 3 1 (.slice (some ⟨g,0,none⟩) m cap) m (rowZ M)) (hl:M.length<=1000) (hm:M.length=m)
 (hf:∀W,w.grownBy W (some g)->∀x∈M,Calls Tryz.prog 146 #[.int .i64 x,.pointer (some ⟨bx,0,none⟩)] W λ e w'=>e= .returned (.bool (pf x))/\w'=W):
 Calls Tryz.prog 144 #[.slice (some ⟨g,0,none⟩) m cap,.func (.func 146) #[] #[.pointer (some ⟨bx,0,none⟩)]] w λ e w'=>∃v',e= .returned v'/\w'.ownsRow B 3 1 v' (M.filter λ x=>!pf x).length (rowZ (M.filter λ x=>!pf x))/\w.grownBy w' (some g):=by
 have hrefl:w.grownBy w (some g):=⟨rfl,rfl,rfl,Nat.le_refl _,λ _ _ _=>rfl⟩;have HO:Hid (w.ownsRow B 3 1 (.slice (some ⟨g,0,none⟩) m cap) m (rowZ M)/\M.length=m):=⟨h,hm⟩;have HF:Hid (∀W,w.grownBy W (some g)->∀x∈M,Calls Tryz.prog 146 #[.int .i64 x,.pointer (some ⟨bx,0,none⟩)] W λ e w'=>e= .returned (.bool (pf x))/\w'=W):=hf;have HI:Hid _:=index_pr pf bx g m cap B M w h hl hm (hf w hrefl);rw [hm] at hl;clear h hm hf;go_enter Tryz.func144,Tryz.ntmps144;go_wp2_with fail;refine Calls.mono HI.out ?_;rintro e w1 ⟨⟨i,x,hi,rfl,hix,hpx,hno⟩ | ⟨rfl,hno⟩,hw1⟩
 ·subst hw1
  have HD0:Hid (Dz w1 w1 B g m cap i (i+1) pf M M):=by
   refine ⟨HO.out.1,HO.out.2,?_,rfl,by omega,by omega,hrefl⟩;rw [take_fz _ hix];have:((M.take i).filter λ x=>!pf x)=M.take i:=by
    rw [List.filter_eq_self];intro y hy;obtain ⟨k,hk⟩:=List.getElem?_of_mem hy;have hki:=(List.getElem?_eq_some_iff.1 hk).1;rw [List.length_take] at hki;rw [List.getElem?_take_of_lt (by omega)] at hk;rw [hno k y (by omega) hk];rfl
   rw [this];simp [hpx]
  have hne:((i:Int)== -1)=false:=beq_eq_false_iff_ne.2 (by omega);clear hix hpx hno HI hrefl;go_wp2_with fail;go_loopw [5,6] (λ s5 s6 wq=>∃(i j:Nat) (X:List Int),s5= .int .i64 i/\s6= .int .i64 j/\Dz w1 wq B g m cap i j pf M X) (λ _ s6 _=>m-(intOf s6).toNat)
  case atStart=>exact ⟨i,i+1,M,rfl,by go_num,HD0.out⟩
  case round=>
   clear HD0 hi hne;obtain ⟨i,j,X,rfl,rfl,hdf⟩:=hrel;have HD:Hid (Dz w1 wr B g m cap i j pf M X):=hdf;have hij:=hdf.hij;have hjm:=hdf.hjm;clear hdf;by_cases hlt:j<m
   ·obtain ⟨hxj,x,hx⟩:=HD.out.at_ hlt HO.out.2
    rw [hx] at hxj;have r0:=HD.out.cell hxj;have HX:Hid (M[j]? =some x):=hx;have HC:Hid _:=HF.out wr HD.out.kept x (List.mem_of_getElem? hx);clear hx hxj;cases hp:pf x with
    | true=>
      as_aux_lemma=>
      rw [hp] at HC;go_wp2_with fail;refine Calls.mono HC.out ?_;rintro e w2 ⟨rfl,hw2⟩;subst hw2;have HD2:Hid (Dz w1 w2 B g m cap i (j+1) pf M X):=HD.out.skip hlt HX.out hp;go_wp2_with fail;go_roundw;case rel=>exact ⟨i,j+1,X,rfl,by go_num,HD2.out⟩
      case measure=>simp [intOf];omega
    | false=>
      as_aux_lemma=>
      rw [hp] at HC;go_wp2_with fail;refine Calls.mono HC.out ?_;rintro e w2 ⟨rfl,hw2⟩;subst hw2;obtain ⟨y,hy⟩:∃y,X[i]? =some y:=⟨_,List.getElem?_eq_getElem (by rw [HD.out.len];omega)⟩;have s0:=HD.out.cell hy;have fz0:=HD.out.fz i;have HD3:Hid (Dz w1 (w2.setCell ⟨g,i,none⟩ (.int .i64 x)) B g m cap (i+1) (j+1) pf M (X.set i x)):=HD.out.store hlt HX.out hp;clear hy;go_wp2_with fail;go_roundw;case rel=>exact ⟨i+1,j+1,_,by go_num,by go_num,HD3.out⟩
      case measure=>simp [intOf];omega
   ·as_aux_lemma=>
    have hje:j=m:=by omega
    subst hje;obtain ⟨W2,hcl,hcap,hcm,ho2,hg2⟩:=HD.out.done HO.out.2;have HFi:Hid (W2.ownsRow B 3 1 (.slice (some ⟨g,0,none⟩) i cap) (M.filter λ x=>!pf x).length (rowZ (M.filter λ x=>!pf x))/\w1.grownBy W2 (some g)):=⟨ho2,hg2⟩;simp only [maxLen] at hcm;have hic:¬(cap=i):=by omega
    have hi1:(i:Int)<=(j:Int):=by omega
    have hi2:(i:Int)<=(cap:Int):=by omega
    have hi3:(j:Int)<=(cap:Int):=by omega
    clear ho2 hg2 HD;go_wp2_with fail;go_ret;exact ⟨_,rfl,HFi.out.1,HFi.out.2⟩
 ·subst hw1
  as_aux_lemma=>
  have HFi:Hid (w1.ownsRow B 3 1 (.slice (some ⟨g,0,none⟩) m cap) (M.filter λ x=>!pf x).length (rowZ (M.filter λ x=>!pf x))/\w1.grownBy w1 (some g)):=by
   refine ⟨?_,hrefl⟩;have:(M.filter λ x=>!pf x)=M:=by
    rw [List.filter_eq_self];intro y hy;obtain ⟨k,hk⟩:=List.getElem?_of_mem hy;have hki:=(List.getElem?_eq_some_iff.1 hk).1;rw [hno k y (by rw [<-HO.out.2];exact hki) hk];rfl
   rw [this,HO.out.2];exact HO.out.1
  clear hno HI hrefl;go_wp2_with fail;go_ret;exact ⟨_,rfl,HFi.out.1,HFi.out.2⟩
end Go.Proofs.YtebcjaenhiiflaaGreatDoor.S
namespace Go.Proofs.YtebcjaenhiiflaaGreatDoor.S
open Go.RowKit Go.WideMaps Go.Maps
structure Cx (w:World) (c mb rest:Nat) (S R:List Edg) (f:Edg->Nat):Prop where
 co:Co w c mb rest S f
 mem:∀e,e∈S↔e∈R
 up:(R.map (·.1)).Pairwise (·<·)
 wf:∀e∈R,(Lit.int .i64 e.1).wf=true
 len:R.length<=120
 small:∀D N,w.ownsMap Tryz.prog 3 ringR mb N D->Rm D S f->w.ownsMap Tryz.prog 3 ringR mb 1000 D
theorem Cx.below {w w':World} {c mb rest:Nat} {S R:List Edg} {f:Edg->Nat} (h:Cx w c mb rest S R f) (hb:Below w.heap.size w w'):Cx w' c mb rest S R f:=by
 refine {h with co:=h.co.below hb,small:=λ D N ho hm=>?_};obtain ⟨D0,N0,k1,k2⟩:=h.co.mp;have k3:=h.small D0 N0 k1 k2;have k4:=k3.kept (grown_below hb) (by simp:some mb≠none);obtain ⟨es,clock,hb1,F1,hs1,rfl⟩:=k4;obtain ⟨es',clock',hb2,F2,hs2,rfl⟩:=ho;rw [hb1] at hb2;cases hb2;exact ⟨es,clock,hb1,F2,hs1,rfl⟩
theorem filter_ids (R:List Edg) (g:Edg->Bool) (pf:Int->Bool) (h:∀e∈R,pf e.1=g e):(R.map (·.1)).filter (λ x=>!pf x)=(R.filter λ e=>!g e).map (·.1):=by
 induction R with
 | nil=>rfl
 | cons e R ih=>
   have h1:=h e (by simp);have h2:=ih (λ d hd=>h d (by simp [hd]));simp only [List.map_cons,List.filter_cons,h1];cases hg:g e <;> simp [h2]
theorem delete_none_pr (bx:Nat) (w:World):
 Calls Tryz.prog 144 #[.slice none 0 0,.func (.func 146) #[] #[.pointer (some ⟨bx,0,none⟩)]] w λ e w'=>e= .returned (.slice none 0 0)/\w'=w:=by
 have HI:Hid (Calls Tryz.prog 260 #[.slice none 0 0,.func (.func 146) #[] #[.pointer (some ⟨bx,0,none⟩)]] w λ e w'=>e= .returned (.int .i64 (-1))/\w'=w):=by
  show Calls _ _ _ _ _;go_enter Tryz.func260,Tryz.ntmps260;go_wp2_with fail;go_loopw [8] (λ s8 wq=>s8= .int .i64 0/\wq=w) (λ _ _=>0)
  case atStart=>exact ⟨rfl,rfl⟩
  case round=>
   obtain ⟨rfl,rfl⟩:=hrel;go_wp2_with fail;go_ret;exact ⟨rfl,rfl⟩
 go_enter Tryz.func144,Tryz.ntmps144;go_wp2_with fail;refine Calls.mono HI.out ?_;rintro e w1 ⟨rfl,hw1⟩;subst hw1;go_wp2_with fail;go_ret;exact ⟨rfl,rfl⟩
def pfOf (R:List Edg) (g:Edg->Bool) (x:Int):Bool:=R.any λ e=>e.1==x&&g e
theorem ids_one {R:List Edg} (h:(R.map (·.1)).Pairwise (·<·)):∀d∈R,∀e∈R,d.1=e.1->d=e:=by
 induction R with
 | nil=>intro d hd;simp at hd
 | cons a R ih=>
   rw [List.map_cons,List.pairwise_cons] at h;intro d hd e he hde;rcases List.mem_cons.1 hd with rfl | hd'
   ·rcases List.mem_cons.1 he with rfl | he'
    ·rfl
    ·have:=h.1 e.1 (List.mem_map.2 ⟨e,he',rfl⟩);omega
   ·rcases List.mem_cons.1 he with rfl | he'
    ·have:=h.1 d.1 (List.mem_map.2 ⟨d,hd',rfl⟩);omega
    ·exact ih h.2 d hd' e he' hde
theorem pfOf_at {R:List Edg} (h:(R.map (·.1)).Pairwise (·<·)) (g:Edg->Bool) {e:Edg} (he:e∈R):pfOf R g e.1=g e:=by
 unfold pfOf;cases hg:g e with
 | true=>
   rw [List.any_eq_true];exact ⟨e,he,by simp [hg]⟩
 | false=>
   rw [List.any_eq_false];intro d hd k;simp only [Bool.and_eq_true,beq_iff_eq] at k;rw [ids_one h d hd e he k.1,hg] at k;cases k.2
theorem rowZ_ids (R:List Edg):rowZ (R.map (·.1))=idV R:=by simp [rowZ,idV]
theorem row_mono {w:World} {B B' e s n:Nat} {v:Value} {xs:List Value} (h:w.ownsRow B e s v n xs) (hB:B'<=B):w.ownsRow B' e s v n xs:=by
 refine ⟨h.1,?_⟩;rcases h.2 with hh | ⟨g,cap,cur,h1,h2,h3,h4⟩
 ·exact Or.inl hh
 ·exact Or.inr ⟨g,cap,cur,h1,by omega,h3,h4⟩
def encP (x:Int × Int):List Value:=[.int .i64 (x.1),.int .i64 (x.2)]
def rowP (L:List (Int × Int)):List Value:=L.flatMap encP
theorem rowP_cons (x:Int × Int) (L:List (Int × Int)):rowP (x::L)=encP x++rowP L:=rfl
theorem rowP_append (L M:List (Int × Int)):rowP (L++M)=rowP L++rowP M:=by simp [rowP]
theorem rowP_length:∀L:List (Int × Int),(rowP L).length=L.length*2
 | []=>rfl
 | x::L=>by rw [rowP_cons,List.length_append,rowP_length L];simp [encP];omega
theorem rowP_one:∀(L:List (Int × Int)),∀u∈rowP L,u.oneCell'=true
 | [],u,h=>by simp [rowP] at h
 | x::L,u,h=>by
   rw [rowP_cons,List.mem_append] at h;rcases h with h | h
   ·simp [encP] at h
    rcases h with rfl | rfl <;> rfl
   ·exact rowP_one L u h
theorem rowP_at:∀(L:List (Int × Int)) (i:Nat) (x:Int × Int),L[i]? =some x->(rowP L)[i*2]? =some (.int .i64 (x.1))/\(rowP L)[i*2+1]? =some (.int .i64 (x.2))
 | [],i,x,h=>by simp at h
 | y::L,0,x,h=>by
   simp at h;subst h;simp [rowP_cons,encP]
 | y::L,i+1,x,h=>by
   simp at h;have:=rowP_at L i x h;rw [rowP_cons];have e1:(i+1)*2=(i*2)+2:=by omega
   rw [e1]
   simpa [encP] using this
def OwnsP (w:World) (B:Nat) (v:Value) (L:List (Int × Int)):Prop:=w.ownsRow B 180 2 v L.length (rowP L)
theorem OwnsP.below {w w':World} {B:Nat} {v:Value} {L:List (Int × Int)} (h:OwnsP w B v L) (hb:Below w.heap.size w w'):OwnsP w' B v L:=World.ownsRow.kept h (grown_below hb) (Classical.em _)
theorem OwnsP.shape {w:World} {B:Nat} {v:Value} {L:List (Int × Int)} (h:OwnsP w B v L):∃a cap,v= .slice a L.length cap/\(0<L.length->∃g,a=some ⟨g,0,none⟩/\∀j x,L[j]? =some x->w.cell? ⟨g,j*2,none⟩=some (.int .i64 (x.1))/\w.cell? ⟨g,j*2+1,none⟩=some (.int .i64 (x.2))):=by
 have h0:=h;unfold OwnsP at h0;rcases h.2 with ⟨rfl,hz⟩ | ⟨g,cap,cur,rfl,hb,hg,_⟩
 ·exact ⟨none,0,by rw [hz],λ k=>by omega⟩
 ·refine ⟨_,cap,rfl,λ _=>⟨g,rfl,λ j x hx=>?_⟩⟩
  obtain ⟨r0,r1⟩:=rowP_at L j x hx;have hj:=(List.getElem?_eq_some_iff.1 hx).1;have hl:=rowP_length L;refine ⟨?_,?_⟩
  ·rw [h0.cellAt (j*2) (by omega)]
   exact r0
  ·rw [h0.cellAt (j*2+1) (by omega)]
   exact r1
def zP:Value:=.agg #[.int .i64 0,.int .i64 0]
theorem info35q:∃i,Tryz.prog.info? 180=some i/\i.size=2/\i.bytes=16/\i.zero=some zP:=
 ⟨(Tryz.prog.info? 180).get (by kernel_rfl),by kernel_rfl,by kernel_rfl,by kernel_rfl,by kernel_rfl⟩
theorem zP_cells:zP.cells=#[.int .i64 0,.int .i64 0]:=by kernel_rfl
theorem pair_cells (W:World) (x y:Int) (j:Nat) (u:Value) (h:(rowP [(x,y)])[j]? =some u):(W.alloc (.cells #[.int .i64 x,.int .i64 y] 180)).cell? ((⟨W.heap.size,0,none⟩:Addr).add j)=some u:=by
 rw [G.addr0_add];have hh:=heap_alloc_new W (.cells #[.int .i64 x,.int .i64 y] 180);simp only [World.cell?,hh]
 simpa [rowP,encP] using h
theorem OwnsP.mono {w:World} {B B':Nat} {v:Value} {L:List (Int × Int)} (h:OwnsP w B v L) (hB:B'<=B):OwnsP w B' v L:=by
 refine ⟨h.1,?_⟩;rcases h.2 with hh | ⟨g,cap,cur,h1,h2,h3,h4⟩
 ·exact Or.inl hh
 ·exact Or.inr ⟨g,cap,cur,h1,by omega,h3,h4⟩
theorem append_P (ty:TypeId) (w:World) (B:Nat) (v:Value) (L M:List (Int × Int)) (h:OwnsP w B v L) (hB:B<=w.heap.size) (a:Addr) (m c:Nat) (hm:m=M.length) (hM:∀j u,(rowP M)[j]? =some u->w.cell? (a.add j)=some u) (hl:L.length+M.length<=1000000):
 ∃v' w',(Builtin.append_ #[65,65] ty #[v,.slice (some a) m c]).run Tryz.prog w= .ok v' w'/\OwnsP w' B v' (L++M)/\w.grownBy w' v.ownBlock/\G.Fresh w v v':=by
 subst hm;obtain ⟨i,hi,hs,hb,hz⟩:=info35q;have own:∀B',OwnsP w B' v L->B'<=w.heap.size->∃v' w',(Builtin.append_ #[65,65] ty #[v,.slice (some a) M.length c]).run Tryz.prog w= .ok v' w'/\OwnsP w' B' v' (L++M)/\w.grownBy w' v.ownBlock:=by
  intro B' h' hB';obtain ⟨v',w',h1,h2,h3,_⟩:=run_append_own (P:=Tryz.prog) w B' 65 ty 180 i zP 2 16 Tryz.underlying65 hi hz hs hb (by rw [zP_cells];rfl) (by omega) v L.length (rowP L) h' a M.length c (rowP M) (rowP_length M) hM (rowP_one M) (by simp only [maxLen];omega) (by omega) hB';refine ⟨v',w',h1,?_,h3⟩;show w'.ownsRow B' 180 2 v' (L++M).length (rowP (L++M));rw [List.length_append,rowP_append];exact h2
 rcases h.2 with ⟨rfl,h0⟩ | ⟨g,cap,cur,rfl,h1,h2,h3,h4,h5,h6⟩
 ·have hL:L=[]:=List.eq_nil_of_length_eq_zero h0
  subst hL;obtain ⟨v',w',e1,e2,e3⟩:=own w.heap.size (World.ownsRow_nil w _ 180 2) (Nat.le_refl _);exact ⟨v',w',e1,e2.mono hB,e3,λ k hk=>Or.inr (World.ownsRow.lt e2 k hk).1⟩
 ·obtain ⟨v',w',e1,e2,e3⟩:=own B h hB
  refine ⟨v',w',e1,e2,e3,?_⟩;by_cases hroom:L.length+M.length<=cap
  ·have hr:=run_append_room (P:=Tryz.prog) w 65 ty 180 i Tryz.underlying65 hi g L.length cap cur h2 a M.length c (rowP M) (by rw [hs];exact rowP_length M) hM (rowP_one M) hroom (by rw [hs,h5,rowP_length];omega)
   rw [hr] at e1;injection e1 with e1 _
   subst e1;intro k hk;exact Or.inl hk
  ·have hr:=run_append_grow (P:=Tryz.prog) w 65 ty 180 i zP Tryz.underlying65 hi hz ⟨g,0,none⟩ L.length cap (rowP L) (by rw [hs];exact rowP_length L) (World.ownsRow.cells h rfl) a M.length c (rowP M) (by rw [hs];exact rowP_length M) hM (by omega) (by omega) (growslice_fits (by omega) (by rw [hb];omega))
   rw [hr] at e1;injection e1 with e1 _
   subst e1;intro k hk;have hk':w.heap.size=k:=by simpa [Value.ownBlock] using hk
   exact Or.inr (by omega)
theorem more_pair (ty:TypeId) (W:World) (B:Nat) (u:Value) (M:List (Int × Int)) (x y:Int) (h:OwnsP W B u M) (hB:B<=W.heap.size) (hl:M.length<=100000):
 ∃v' w',(Builtin.append_ #[65,65] ty #[u,.slice (some ⟨W.heap.size,0,none⟩) 1 1]).run Tryz.prog (W.alloc (.cells #[.int .i64 x,.int .i64 y] 180))= .ok v' w'/\OwnsP w' B v' (M++[(x,y)])/\W.grownBy w' u.ownBlock/\G.Fresh W u v':=by
 have hbx:Below W.heap.size W (W.alloc (.cells #[.int .i64 x,.int .i64 y] 180)):=(Below.refl _ _).alloc (Nat.le_refl _) _;obtain ⟨v',w',h1,h2,h3,h4⟩:=append_P ty _ B u M [(x,y)] (h.below hbx) (Nat.le_trans hB (by simp)) ⟨W.heap.size,0,none⟩ 1 1 rfl (pair_cells W x y) (by simp;omega);refine ⟨v',w',h1,h2,⟨h3.os.trans hbx.os,h3.tape.trans hbx.tape,h3.output.trans hbx.output,Nat.le_trans hbx.size h3.size,λ k hk hn=>(h3.block k (Nat.lt_of_lt_of_le hk hbx.size) hn).trans (hbx.block k hk)⟩,λ k hk=>?_⟩;rcases h4 k hk with h5 | h5
 ·exact Or.inl h5
 ·exact Or.inr (Nat.le_trans (by simp) h5)
def pairsOf:List Edg->(Edg->Edg->Bool)->List (Int × Int)
 | [],_=>[]
 | e::R,q=>((R.filter (q e)).map λ d=>(e.1,d.1))++pairsOf R q
theorem pairsOf_filter (p:Edg->Bool) (q:Edg->Edg->Bool):∀R,pairsOf (R.filter p) q=pairsOf R λ e d=>p e&&p d&&q e d
 | []=>rfl
 | e::R=>by
   have ih:=pairsOf_filter p q R;rw [List.filter_cons];cases hp:p e with
   | true=>
     simp only [if_true,pairsOf,ih,hp,List.filter_filter,Bool.true_and]
     congr 2
     apply List.filter_congr;intro d _;cases p d <;> simp
   | false=>
     simp only [Bool.false_eq_true,if_false,pairsOf,ih,hp,Bool.false_and];simp
theorem pairsOf_len (q:Edg->Edg->Bool):∀R:List Edg,(pairsOf R q).length<=R.length*R.length
 | []=>by simp [pairsOf]
 | e::R=>by
   have ih:=pairsOf_len q R;have h1:=List.length_filter_le (q e) R;have h3:(R.length+1)*(R.length+1)=R.length*R.length+2*R.length+1:=by
    rw [Nat.add_mul,Nat.mul_add];omega
   simp only [pairsOf,List.length_append,List.length_map,List.length_cons];omega
open Go.RowKit Go.WideMaps Go.Maps Go.Shelf
open Go.ChangeShapes (lits)
theorem key_big (y:Nat) (h:y<=1099511627776):keyOf Tryz.prog 3 (.int .i64 (y:Int))=some (.int .i64 (y:Int)):=keyOf_int_mk Tryz.underlying3 (WalkArith.wf_i64 (by omega))
def idN (R:List (Int × Int × Int)) (j:Nat):Nat:=(idAt R j).toNat
theorem idN_cast {R:List (Int × Int × Int)} (h:∀e∈R,0<=e.1/\e.1<=1099511627776) {j:Nat} (hj:j<R.length):((idN R j:Nat):Int)=idAt R j/\idN R j<=1099511627776:=by
 have h1:=idAt_of (List.getElem?_eq_getElem hj);have h2:=h _ (List.getElem_mem hj);unfold idN;rw [h1];omega
theorem idN_inj {R:List (Int × Int × Int)} (hu:G.Up R) (h:∀e∈R,0<=e.1/\e.1<=1099511627776) {i j:Nat} (hi:i<R.length) (hj:j<R.length) (he:idN R i=idN R j):i=j:=by
 have h1:=idN_cast h hi;have h2:=idN_cast h hj;exact idAt_inj hu hi hj (by omega)
def gN (R:List (Int × Int × Int)) (L:List Nat) (k y:Nat):List Nat:=((List.range k).filter λ i=>idN R (L.getD i 0)==y).map (idN R)
theorem gN_succ_same (R:List (Int × Int × Int)) (L:List Nat) (k:Nat):gN R L (k+1) (idN R (L.getD k 0))=gN R L k (idN R (L.getD k 0))++[idN R k]:=by
 simp [gN,List.range_succ]
theorem gN_succ_other (R:List (Int × Int × Int)) (L:List Nat) (k y:Nat) (h:idN R (L.getD k 0)≠y):gN R L (k+1) y=gN R L k y:=by
 have hb:(idN R (L.getD k 0)==y)=false:=beq_eq_false_iff_ne.2 h;unfold gN;rw [List.range_succ,List.filter_append,List.filter_cons,hb];simp
structure gI (R:List (Int × Int × Int)) (L:List Nat) (k:Nat) (D:DataW Unit):Prop where
 map:IsMap D
 at_:∀(y:Nat) (zd:DataW Unit),D.atKey (.int .i64 (y:Int)) zd=if gN R L k y=[] then zd else .slice (lits .i64 (ints (gN R L k y))) []
 neg:∀(x:Int),x<0->∀zd:DataW Unit,D.atKey (.int .i64 x) zd=zd
theorem gI_start (R:List (Int × Int × Int)) (L:List Nat):gI R L 0 (.map []):=⟨isMap_empty,λ y zd=>by simp [gN];rfl,λ x _ zd=>rfl⟩
theorem gI_found {R:List (Int × Int × Int)} {L:List Nat} {k y:Nat} {D:DataW Unit} (h:gI R L k D) {w:World} {base:Nat} {e:TypeId} {v:Value} {zs:List Int} (ho:w.ownsInts base e .i64 v zs)
 (hat:D.atKey (.int .i64 (y:Int)) .nil=rowDatum .i64 v zs):zs=ints (gN R L k y):=by
 rw [h.at_] at hat;split at hat
 ·next hg=>
  rw [hg];rcases ho.datum (H:=Unit) with ⟨_,h2⟩ | h2
  ·exact h2
  ·rw [h2] at hat;cases hat
 ·next hg=>
  rcases ho.datum (H:=Unit) with ⟨h1,_⟩ | h2
  ·rw [h1] at hat;cases hat
  ·rw [h2] at hat
   injection hat with h3 _
   exact (lits_inj h3).symm
theorem gI_step {R:List (Int × Int × Int)} {L:List Nat} {k:Nat} {D:DataW Unit} (h:gI R L k D) {w w1:World} {base:Nat} {e:TypeId} {v v':Value} {zs:List Int} (ho:w.ownsInts base e .i64 v zs)
 (hat:D.atKey (.int .i64 ((idN R (L.getD k 0):Nat):Int)) .nil=rowDatum .i64 v zs) (ho':w1.ownsInts base e .i64 v' (zs++[((idN R k:Nat):Int)])):
 gI R L (k+1) (D.put (.int .i64 ((idN R (L.getD k 0):Nat):Int)) (rowDatum .i64 v' (zs++[((idN R k:Nat):Int)]))):=by
 have hz:=gI_found h ho hat;refine ⟨h.map.put _ _,λ y zd=>?_,λ x hx zd=>?_⟩
 ·by_cases e:idN R (L.getD k 0)=y
  ·subst e
   rw [atKey_put_same h.map (by trivial),gN_succ_same,if_neg (by simp),ho'.datum_pos (by simp),hz,ints_append];rfl
  ·have hne:Lit.int .i64 (y:Int)≠Lit.int .i64 ((idN R (L.getD k 0):Nat):Int):=λ h=>e (by injection h with _ h2;omega)
   rw [atKey_put_other hne,h.at_,gN_succ_other R L k y e]
 ·have hne:Lit.int .i64 x≠Lit.int .i64 ((idN R (L.getD k 0):Nat):Int):=λ h=>by injection h with _ h2;omega
  rw [atKey_put_other hne];exact h.neg x hx zd
def blks (R:List (Int × Int × Int)) (L:List Nat):List (List Nat):=(lst L R.length).map λ r=>(grp L R.length r).map (idN R)
theorem gN_grp {R:List (Int × Int × Int)} {L:List Nat} (hu:G.Up R) (hid:∀e∈R,0<=e.1/\e.1<=1099511627776) (g:Good R.length L) {r:Nat} (hr:r<R.length):gN R L R.length (idN R r)=(grp L R.length r).map (idN R):=by
 unfold gN grp
 congr 1
 apply List.filter_congr;intro i hi;have hi':=List.mem_range.1 hi;have:=g.le i hi';rw [Bool.eq_iff_iff,beq_iff_eq,beq_iff_eq];exact ⟨λ h=>idN_inj hu hid (by omega) hr h,λ h=>by rw [h]⟩
theorem gI_keys {R:List (Int × Int × Int)} {L:List Nat} {D:DataW Unit} (hu:G.Up R) (hid:∀e∈R,0<=e.1/\e.1<=1099511627776) (g:Good R.length L) (h:gI R L R.length D) (x:Int):Maps.has D (.int .i64 x)=true↔x∈(lst L R.length).map (idAt R):=by
 by_cases hx:x<0
 ·rw [has_false_of_atKey (h.neg x hx)]
  simp only [Bool.false_eq_true,false_iff,List.mem_map,not_exists,not_and];intro r hr c;have:=idN_cast hid (mem_lst.1 hr).1;omega
 ·obtain ⟨y,rfl⟩:=Int.eq_ofNat_of_zero_le (show 0<=x by omega)
  by_cases hg:gN R L R.length y=[]
  ·have hf:Maps.has D (.int .i64 (y:Int))=false:=has_false_of_atKey (λ z=>by rw [h.at_,if_pos hg])
   rw [hf];simp only [Bool.false_eq_true,false_iff,List.mem_map,not_exists,not_and];intro r hr c;obtain ⟨hrl,hrr⟩:=mem_lst.1 hr;have h1:=idN_cast hid hrl;obtain rfl:idN R r=y:=by omega
   rw [gN_grp hu hid g hrl] at hg;have:r∈grp L R.length r:=mem_grp.2 ⟨hrl,hrr⟩;rw [List.map_eq_nil_iff] at hg;rw [hg] at this;cases this
  ·have ht:Maps.has D (.int .i64 (y:Int))=true:=has_true_of_atKey (λ z=>by rw [h.at_,if_neg hg])
   rw [ht];simp only [true_iff,List.mem_map];obtain ⟨z,hz⟩:=List.exists_mem_of_ne_nil _ hg;unfold gN at hz;obtain ⟨i,hi,rfl⟩:=List.mem_map.1 hz;rw [List.mem_filter,List.mem_range,beq_iff_eq] at hi;have hl:=Nat.lt_of_le_of_lt (g.le i hi.1) hi.1;refine ⟨L.getD i 0,mem_lst.2 ⟨hl,g.idem i hi.1⟩,?_⟩;have:=idN_cast hid hl;omega
theorem lst_up (L:List Nat) (n:Nat):(lst L n).Pairwise (·<·):=by
 unfold lst;exact List.Pairwise.filter _ List.pairwise_lt_range
theorem ids_up {R:List (Int × Int × Int)} (hu:G.Up R):(R.map (·.1)).Pairwise (·<·):=by
 rw [List.pairwise_map];exact hu
theorem lst_ids_up {R:List (Int × Int × Int)} (hu:G.Up R) (L:List Nat):((lst L R.length).map (idAt R)).Pairwise (·<·):=by
 rw [List.pairwise_map];refine List.Pairwise.imp_of_mem ?_ (lst_up L R.length);intro a b _ hb hab;exact idAt_lt hu hab (mem_lst.1 hb).1
theorem blks_at {R:List (Int × Int × Int)} {L:List Nat} {t r:Nat} (h:(lst L R.length)[t]? =some r):(blks R L)[t]? =some ((grp L R.length r).map (idN R)):=by
 unfold blks;rw [List.getElem?_map,h];rfl
theorem look_row {P:Program} {wl wr:World} {t k E base e b n y:Nat} {R:List (Int × Int × Int)} {L:List Nat} {m:Nat} {D:DataW Unit} (hg:wl.ownsGroups P k base e .i64 b n D) (hD:gI R L m D) (hb:Below wl.heap.size wl wr)
 (K:Keyed P k) (ht:P.underlying t=some (.map k E)) (hz:(zeroValue E).run P wr= .ok (.slice none 0 0) wr) (hkey:keyOf P k (.int .i64 (y:Int))=some (.int .i64 (y:Int))) (hy:gN R L m y≠[]):
 ∃r c,(Instr.lookup t (.map (some b)) (.int .i64 (y:Int)) false).run P wr= .ok (.slice (some ⟨r,0,none⟩) (gN R L m y).length c) wr/\wl.ownsInts base e .i64 (.slice (some ⟨r,0,none⟩) (gN R L m y).length c) (ints (gN R L m y)):=by
 obtain ⟨es,clock,hh,F,hs,rfl,hbb,hlen,hap⟩:=hg;have hh':wr.heap[b]? =some (.map es clock):=(hb.block b (lt_of_some hh)).trans hh;rcases Maps.fit_look false K ht hz hh' F hkey with ⟨hrun,_,hat⟩ | ⟨e0,y0,hm0,h3,hrun,hR,hat,_⟩
 ·have h1:=hat .nil
  rw [hD.at_,if_neg hy] at h1;cases h1
 ·obtain ⟨zs,ho,rfl⟩:=rowElem_inv hR
  have hzs:=gI_found hD ho (hat .nil);subst hzs;rcases ho.1.2 with ⟨_,h0⟩ | ⟨g,cap,cur,hv,_⟩
  ·rw [ints_length] at h0
   exact absurd (List.length_eq_zero_iff.1 h0) hy
  ·rw [ints_length] at hv
   simp only [Bool.false_eq_true,if_false] at hrun;rw [hv] at hrun ho;exact ⟨g,cap,hrun,ho⟩
end Go.Proofs.YtebcjaenhiiflaaGreatDoor.S
namespace Go.Proofs.YtebcjaenhiiflaaGreatDoor.S
open Go.RowKit Go.WideMaps Go.Maps Go.Shelf
theorem row_cellZ {w:World} {base:Nat} {v:Value} {K:List Int} (h:w.ownsRow base 3 1 v K.length (K.map encZ)):∃a cap,v= .slice a K.length cap/\∀t x,K[t]? =some x->∃g,a=some ⟨g,0,none⟩/\base<=g/\g<w.heap.size/\w.cell? ⟨g,t,none⟩=some (.int .i64 x):=by
 have h0:=h;rcases h.2 with ⟨rfl,hz⟩ | ⟨g,cap,cur,rfl,hb,hg,_⟩
 ·refine ⟨none,0,by rw [hz],λ t x ht=>?_⟩
  have:=(List.getElem?_eq_some_iff.1 ht).1;omega
 ·refine ⟨_,cap,rfl,λ t x ht=>⟨g,rfl,hb,lt_of_some hg,?_⟩⟩
  have hl:=(List.getElem?_eq_some_iff.1 ht).1;rw [h0.cellAt t (by omega),List.getElem?_map,ht];rfl
theorem rowsAre_take {wl:World} {base:Nat} {vs:List Value} {Gs:List (List Nat)} {t:Nat} {G:List Nat} {r c:Nat} (h:rowsAre wl base vs (Gs.take t)) (hG:Gs[t]? =some G) (ho:wl.ownsInts base 3 .i64 (.slice (some ⟨r,0,none⟩) G.length c) (ints G)):
 rowsAre wl base (vs++[.slice (some ⟨r,0,none⟩) G.length c]) (Gs.take (t+1)):=by
 have e:Gs.take (t+1)=Gs.take t++[G]:=by rw [List.take_add_one,hG];rfl
 rw [e];exact rowsAre_snoc h ho
theorem bparts_any {R:List (Int × Int × Int)} {L:List Nat} (p m N:Nat) (D:DataW Unit) (v:Value) (w:World) (h:BlAt w p m N D v) (hl:Lm D R L) (g:Good R.length L) (hu:G.Up R) (hid:∀e∈R,0<=e.1/\e.1<=1099511627776) (hR:R.length<=120) (hN:N<=1000):
 Calls Tryz.prog 81 #[.pointer (some ⟨p,0,none⟩)] w λ e w'=>∃v',e= .returned v'/\AllAt w' v' (blks R L)/\Below w.heap.size w w':=by
 have HB:Hid (∀w',Below w.heap.size w w'->BlAt w' p m N D v):=λ w' hb=>h.below hb
 have HL:Hid (Lm D R L/\Good R.length L/\G.Up R/\∀e∈R,0<=e.1/\e.1<=1099511627776):=⟨hl,g,hu,hid⟩;have hmm:=@run_makeMap Tryz.prog;have hp0:=h.plt;obtain ⟨w1,hw1⟩:∃w1,w1=w.alloc (.map #[] 0):=⟨_,rfl⟩;have hb1:Below w.heap.size w w1:=by rw [hw1];exact (Below.refl _ _).alloc (Nat.le_refl _) _
 have hm1:w1.heap[w.heap.size]? =some (.map #[] 0):=by rw [hw1];exact heap_alloc_new w _
 have HW1:Hid (w.alloc (.map #[] 0)=w1):=hw1.symm;have HB1:Hid (Below w.heap.size w w1/\w1.heap[w.heap.size]? =some (.map #[] 0)):=⟨hb1,hm1⟩;have hc0:(w.alloc (.map #[] 0)).cell? ⟨p,0,none⟩=some (.map (some m)):=by rw [World.cell?_alloc_lt _ _ _ hp0];exact h.c0
 obtain ⟨i0,hi0,hz0,hz1,hz2⟩:=info_parts Tryz.info3;clear h hl g hu hid hw1 hb1 hm1;go_enter Tryz.func81,Tryz.ntmps81;go_wp2_with fail;rw [HW1.out];refine (keysL_any (some m) w1).mono ?_;rintro e w2 ⟨rfl,rfl⟩;clear hc0 hmm;go_wp2_with fail;refine (keysL_sorted (plainElem Tryz.prog 3) m N D w1 (HB.out w1 HB1.out.1).hm hN).mono ?_;rintro e w3 ⟨v3,ss,rfl,hperm,hrow3,hb3⟩;obtain ⟨e1,e2⟩:=keys_up (K:=R.map (·.1)) (HB.out w1 HB1.out.1).hm (ids_up HL.out.2.2.1) (λ x=>by rw [HL.out.1.key x];simp) hperm;rw [e1,e2] at hrow3;obtain ⟨va,vc,rfl,hcell3⟩:=row_cellZ hrow3;rw [List.length_map];obtain ⟨len,hlen⟩:∃len,R.length=len:=⟨_,rfl⟩;rw [hlen] at hR ⊢;have HLEN:Hid (R.length=len):=hlen;have HC3:Hid (∀t,t<len->∃g,va=some ⟨g,0,none⟩/\w1.heap.size<=g/\g<w3.heap.size/\w3.cell? ⟨g,t,none⟩=some (.int .i64 ((idN R t:Nat):Int))):=λ t ht=>by
  have htl:t<R.length:=by rw [hlen];exact ht
  obtain ⟨g,h1,h2,h3,h4⟩:=hcell3 t (idAt R t) (by rw [List.getElem?_map,List.getElem?_eq_getElem htl];simp [idAt,htl]);exact ⟨g,h1,h2,h3,by rw [(idN_cast HL.out.2.2.2 htl).1];exact h4⟩
 have hw1s:w.heap.size<w1.heap.size:=lt_of_some HB1.out.2;have hm3:w3.heap[w.heap.size]? =some (.map #[] 0):=(hb3.block _ hw1s).trans HB1.out.2;have HB3:Hid (Below w.heap.size w w3/\w3.ownsGroups (H:=Unit) Tryz.prog 3 w3.heap.size 3 .i64 w.heap.size 0 (.map [])):=
  ⟨HB1.out.1.trans (hb3.mono HB1.out.1.size),#[],0,hm3,⟨by simp,Go.MapKept.stamped_empty 0,by simp⟩,Nat.le_refl _,rfl,lt_of_some hm3,by simp,by simp⟩
 have hw3s:=hb3.size;clear hperm hrow3 hcell3 e1 e2 hb3 hm3 hlen HB1 HW1;go_wp2_with fail;go_loopw [18] (λ s18 wr=>∃(t:Nat) (Dt:DataW Unit),t<=len/\s18= .int .i64 t/\gI R L t Dt/\wr.ownsGroups Tryz.prog 3 w3.heap.size 3 .i64 w.heap.size t Dt/\But w.heap.size w3 wr) (λ s18 _=>len-(intOf s18).toNat)
 case atStart=>exact ⟨0,.map [],Nat.zero_le _,rfl,gI_start R L,HB3.out.2,But.refl _ _⟩
 case round=>
  obtain ⟨t,Dt,ht,rfl,hgi,hown,hbt⟩:=hrel;have HGI:Hid (gI R L t Dt):=hgi;have HBT:Hid (But w.heap.size w3 wr):=hbt;have hbw:Below w.heap.size w wr:=HB3.out.1.trans (hbt.below (Nat.le_refl _) HB3.out.1.size);have HBW:Hid (Below w.heap.size w wr):=hbw;have hwrs:=hbt.size;clear hgi hbt;by_cases hlt:t<len
  ·obtain ⟨g,rfl,hg1,hg2,hg3⟩:=HC3.out t hlt
   have htl:t<R.length:=by rw [HLEN.out];exact hlt
   have hc:wr.cell? ⟨g,t,none⟩=some (.int .i64 ((idN R t:Nat):Int)):=HBT.out.cell hg3 (by omega);have hLt:=Nat.lt_of_le_of_lt (HL.out.2.1.le t htl) htl;have i1:=idN_cast HL.out.2.2.2 htl;have i2:=idN_cast HL.out.2.2.2 hLt;have hbl:=HB.out wr hbw;have hc0:=hbl.c0;have hlk:=look_least hbl.hm HL.out.1 (List.getElem?_eq_getElem htl) (wf_small (HL.out.2.2.2 _ (List.getElem_mem htl)).1 (HL.out.2.2.2 _ (List.getElem_mem htl)).2);rw [<-idAt_of (List.getElem?_eq_getElem htl),<-i1.1,<-i2.1] at hlk;have hkey:=key_big (idN R (L.getD t 0)) i2.2;have hwk:(Lit.int .i64 ((idN R t:Nat):Int)).wf=true:=wf_small (by omega) (by omega);obtain ⟨X,hX⟩:∃X,idN R t=X:=⟨_,rfl⟩;obtain ⟨Y,hY⟩:∃Y,idN R (L.getD t 0)=Y:=⟨_,rfl⟩;rw [hX] at hc hlk hwk;rw [hY] at hlk hkey;have HXY:Hid (idN R t=X/\idN R (L.getD t 0)=Y):=⟨hX,hY⟩;clear hg3 hLt i1 i2 hbl hX hY htl hbw;go_upto_region 6 with fail
   go_wp2_with (first
    | (at_lookup;refine wpList_lookup_groups _ rfl _ _ 199 rfl 3 48 3 .i64 law3 Tryz.underlying199 (zero48 _) w3.heap.size w.heap.size t _ rfl hown (by unfold maxLen;omega) _ _ rfl hkey ?_;intro v6 zs hat hoi hzl hback)
    | (at_builtin;refine wpList_append_own_at _ rfl _ _ 48 rfl w3.heap.size 3 i0 (.int .i64 0) 1 8 Tryz.underlying48 hi0 hz0 hz1 hz2 rfl (by decide) _ _ _ rfl (hoi.1.alloc _) ⟨wr.heap.size,0,none⟩ 1 1 [.int .i64 (X:Int)] rfl rfl (cell_one_new _ _ _) (ints_oneCell .i64 [(X:Int)]) (by unfold maxLen;omega) (by omega) (by simp;omega) ?_;intro v' w5 hown' hgrow hnil hloc)
    | (at_mapUpdate;refine wpList_mapUpdate_back _ rfl _ _ _ 199 rfl hback rfl rfl rfl ((World.grownBy_alloc _ _ _).trans hgrow) (hoi.appended hown' hwk) (by simp;omega) (hloc.imp id (λ h=>⟨_,h,by simp⟩)) ?_;intro w6 hown6 hgrow6)
    | fail)
   have hall:=(World.grownBy_alloc wr _ _).trans hgrow;have ho':=hoi.appended hown' hwk;rw [<-HXY.out.2] at hat hown6;rw [<-HXY.out.1] at ho' hown6;have hst:=gI_step HGI.out hoi hat ho';have hbt6:But w.heap.size w3 w6:=by
    refine ⟨hgrow6.os.trans (hall.os.trans HBT.out.os),hgrow6.tape.trans (hall.tape.trans HBT.out.tape),hgrow6.output.trans (hall.output.trans HBT.out.output),Nat.le_trans HBT.out.size (Nat.le_trans hall.size hgrow6.size),λ k hk hne=>?_⟩;have hkr:k<wr.heap.size:=Nat.lt_of_lt_of_le hk HBT.out.size;rw [hgrow6.block k (Nat.lt_of_lt_of_le hkr hall.size) (by simpa using hne),hall.block k hkr (λ c=>by have:=(hoi.1.lt k c.symm).1;omega)];exact HBT.out.block k hk hne
   go_roundw;case rel=>exact ⟨t+1,_,by omega,by go_num,hst,hown6,hbt6⟩
   case measure=>simp [intOf];omega
  ·have hte:t=len:=by omega
   subst hte;obtain ⟨km,hkm,hlenm⟩:=len_groups hown Tryz.underlying199;obtain ⟨j0,hj,hj0,hj1,hj2⟩:=info_parts Tryz.info48;have HG:Hid (gI R L R.length Dt):=by
    show gI R L R.length Dt;rw [HLEN.out];exact HGI.out
   have HO:Hid (wr.ownsGroups Tryz.prog 3 w3.heap.size 3 .i64 w.heap.size t Dt):=hown;have hmlt:w.heap.size<wr.heap.size:=by omega
   rename World=>wl
   clear HGI HC3 HB HBT hown hi0 hz0 hz1 hz2;go_wp2_with (first
    | (at_make;refine wpList_make_own _ rfl _ _ 51 rfl wl.heap.size 48 j0 (.slice none 0 0) 1 Tryz.underlying51 hj hj0 hj1 .i64 .i64 _ km rfl rfl rfl (by rw [hj2];omega) (by unfold maxLen;omega) (Nat.le_refl _) ?_;intro w5 hown5 hgrow5)
    | fail)
   have HB5:Hid (Below wl.heap.size wl w5):=(Below.refl _ _).grown hgrow5 (Nat.le_refl _) (by simp);have HO5:Hid (w5.ownsRow wl.heap.size 48 1 (.slice (some ⟨wl.heap.size,0,none⟩) 0 km) 0 []):=hown5;clear hgrow5 hlenm hown5;have HM5:Hid (w5.ownsMap Tryz.prog 3 (rowElem (H:=Unit) wl w3.heap.size 3 .i64) w.heap.size t Dt):=by
    obtain ⟨es,clock,hb,F,hs,hD,_⟩:=HO.out;exact ⟨es,clock,(HB5.out.block _ hmlt).trans hb,F,hs,hD⟩
   go_wp2_with fail;refine (keysG_any (some w.heap.size) w5).mono ?_;rintro e w6 ⟨rfl,rfl⟩;go_wp2_with fail;refine (keysG_sorted _ w.heap.size t Dt w5 HM5.out (by omega)).mono ?_;rintro e w7 ⟨v7,ss7,rfl,hperm7,hrow7,hb7⟩;obtain ⟨f1,f2⟩:=keys_up (K:=(lst L R.length).map (idAt R)) HM5.out (lst_ids_up HL.out.2.2.1 L) (gI_keys HL.out.2.2.1 HL.out.2.2.2 HL.out.2.1 HG.out) hperm7;rw [f1,f2] at hrow7;obtain ⟨vb,vd,rfl,hcell7⟩:=row_cellZ hrow7;rw [List.length_map];obtain ⟨k2,hk2⟩:∃k2,(lst L R.length).length=k2:=⟨_,rfl⟩;rw [hk2];have HK2:Hid ((lst L R.length).length=k2):=hk2;have hk2l:k2<=120:=by
    rw [<-hk2];have:(lst L R.length).length<=R.length:=by unfold lst;exact Nat.le_trans (List.length_filter_le _ _) (by simp)
    have:=HLEN.out;omega
   have HC7:Hid (∀t',t'<k2->∃g r,vb=some ⟨g,0,none⟩/\(lst L R.length)[t']? =some r/\w5.heap.size<=g/\w7.cell? ⟨g,t',none⟩=some (.int .i64 ((idN R r:Nat):Int))):=λ t' ht'=>by
    have htl:t'<(lst L R.length).length:=by rw [hk2];exact ht'
    have hr:=List.getElem?_eq_getElem htl;obtain ⟨g,h1,h2,_,h4⟩:=hcell7 t' (idAt R (lst L R.length)[t']) (by rw [List.getElem?_map,hr];rfl);exact ⟨g,_,h1,hr,h2,by rw [(idN_cast HL.out.2.2.2 (mem_lst.1 (List.getElem_mem htl)).1).1];exact h4⟩
   have HB7:Hid (Below wl.heap.size wl w7/\Below w5.heap.size w5 w7):=⟨HB5.out.trans (hb7.mono HB5.out.size),hb7⟩;have HO7:Hid (w7.ownsRow wl.heap.size 48 1 (.slice (some ⟨wl.heap.size,0,none⟩) 0 km) 0 []):=HO5.out.kept (row:=none) ⟨hb7.os,hb7.tape,hb7.output,hb7.size,λ k hk _=>hb7.block k hk⟩ (.inr (by simp [Value.ownBlock]));have hw7s:=HB7.out.1.size;have hw5s:wl.heap.size<w5.heap.size:=(World.ownsRow.lt HO5.out wl.heap.size rfl).2;clear hperm7 hrow7 hcell7 hb7 f1 f2 hk2 HM5 HO5;go_wp2_with fail;go_loopw [7,44] (λ s7 s44 wq=>∃(t':Nat) (vs:List Value),t'<=k2/\s44= .int .i64 t'/\rowsAre wl w3.heap.size vs ((blks R L).take t')/\wq.ownsRow wl.heap.size 48 1 s7 vs.length vs/\s7≠ .slice none 0 0/\(s7.ownBlock=some wl.heap.size\/∃g,s7.ownBlock=some g/\w7.heap.size<=g)/\Below wl.heap.size wl wq/\But wl.heap.size w7 wq) (λ _ s44 _=>k2-(intOf s44).toNat)
   case atStart=>exact ⟨0,[],Nat.zero_le _,rfl,⟨rfl,by simp⟩,HO7.out,by simp,.inl rfl,HB7.out.1,But.refl _ _⟩
   case round=>
    obtain ⟨t',vs,ht',rfl,hrows,howk,htn,hob,hbk,hbt'⟩:=hrel;have hvl:=hrows.1;have hbl:(blks R L).length=k2:=by unfold blks;rw [List.length_map,HK2.out]
    have hvl2:vs.length<=120:=by rw [hvl];simp;omega
    clear HO7;by_cases hlt:t'<k2
    ·obtain ⟨g,r,rfl,hr,hg1,hg2⟩:=HC7.out t' hlt
     obtain ⟨hrl,hrr⟩:=mem_lst.1 (List.mem_of_getElem? hr);have hc:wr.cell? ⟨g,t',none⟩=some (.int .i64 ((idN R r:Nat):Int)):=hbt'.cell hg2 (by omega);have hgn:=gN_grp HL.out.2.2.1 HL.out.2.2.2 HL.out.2.1 hrl;have hne:gN R L R.length (idN R r)≠[]:=by
      rw [hgn];intro c;rw [List.map_eq_nil_iff] at c;have:r∈grp L R.length r:=mem_grp.2 ⟨hrl,hrr⟩;rw [c] at this;cases this
     obtain ⟨rr,cc,hrun,hoi⟩:=look_row HO.out HG.out hbk law3 Tryz.underlying199 (zero48 wr) (key_big (idN R r) (idN_cast HL.out.2.2.2 hrl).2) hne;rw [hgn] at hrun hoi;have HR:Hid (rowsAre wl w3.heap.size (vs++[.slice (some ⟨rr,0,none⟩) ((grp L R.length r).map (idN R)).length cc]) ((blks R L).take (t'+1))):=rowsAre_take hrows (blks_at hr) hoi;have HBT:Hid (But wl.heap.size w7 wr/\Below wl.heap.size wl wr):=⟨hbt',hbk⟩;have HOB:Hid (u7.ownBlock=some wl.heap.size\/∃g,u7.ownBlock=some g/\w7.heap.size<=g):=hob;have hbks:=hbk.size;have hbts:=hbt'.size;generalize idN R r=X at*;generalize ((grp L R.length r).map (idN R)).length=gl at*;clear hrows hoi hgn hne hr hrl hrr hg2 hob hbk hbt';go_wp2_with (first
      | (at_builtin;refine wpList_append_own_at _ rfl _ _ 51 rfl wl.heap.size 48 j0 (.slice none 0 0) 1 24 Tryz.underlying51 hj hj0 hj1 hj2 rfl (by decide) u7 vs.length vs rfl (howk.alloc _) ⟨wr.heap.size,0,none⟩ 1 1 [.slice (some ⟨rr,0,none⟩) gl cc] rfl rfl (cell_one_new _ _ _) (one_slice _ _ _) (by unfold maxLen;omega) (by omega) (by simp;omega) ?_;intro v9 w9 hown9 hgrow9 hnil9 hloc9)
      | fail)
     have hall:=(World.grownBy_alloc wr _ _).trans hgrow9;have hbt9:But wl.heap.size w7 w9:=by
      refine ⟨hall.os.trans HBT.out.1.os,hall.tape.trans HBT.out.1.tape,hall.output.trans HBT.out.1.output,Nat.le_trans HBT.out.1.size hall.size,λ k hk hne=>?_⟩;rw [hall.block k (by omega) (λ c=>?_)]
      ·exact HBT.out.1.block k hk hne
      ·rcases HOB.out with c1 | ⟨g',c1,c2⟩
       ·rw [c1] at c;injection c with c;exact hne c
       ·rw [c1] at c;injection c with c;omega
     have hob9:v9.ownBlock=some wl.heap.size\/∃g,v9.ownBlock=some g/\w7.heap.size<=g:=by
      rcases hloc9 with c | c
      ·rw [c];exact HOB.out
      ·exact .inr ⟨_,c,by simp;omega⟩
     go_roundw;case rel=>exact ⟨t'+1,_,by omega,by go_num,HR.out,by simpa using hown9,λ h=>htn (hnil9.1 h).1,hob9,HBT.out.2.grown hall HBT.out.2.size (λ j hj=>(howk.lt j hj).1),hbt9⟩
     case measure=>simp [intOf];omega
    ·have hke:t'=k2:=by omega
     subst hke;have HA:Hid (AllAt wr u7 (blks R L)):=by
      have htk:(blks R L).take t'=blks R L:=List.take_of_length_le (by omega);rw [htk] at hrows;exact allAt_of hrows howk htn hbk
     have HBF:Hid (Below w.heap.size w wr):=HBW.out.trans (hbk.mono HBW.out.size);clear hrows howk hbk hbt' hob;go_wp2;go_ret;exact ⟨_,rfl,HA.out,HBF.out⟩
end Go.Proofs.YtebcjaenhiiflaaGreatDoor.S
namespace Go.Proofs.YtebcjaenhiiflaaGreatDoor.S
open Go.RowKit Go.WideMaps Go.Maps
theorem nats_one (cs:List Nat):∀u∈natsV cs,u.oneCell'=true:=by
 intro u hu;unfold natsV at hu;obtain ⟨x,_,rfl⟩:=List.mem_map.1 hu;rfl
theorem empty_row (w:World):(w.alloc (.cells #[] 3)).ownsRow w.heap.size 3 1 (.slice (some ⟨w.heap.size,0,none⟩) 0 0) 0 []:=
 ⟨rfl,.inr ⟨w.heap.size,0,#[],rfl,Nat.le_refl _,heap_alloc_new w _,Nat.le_refl _,by unfold maxLen;omega,rfl,rfl⟩⟩
theorem clone_any (v:Value) (B0:Nat) (cs:List Nat) (w:World) (h:w.ownsRow B0 3 1 v cs.length (natsV cs)) (hcs:cs.length<=1000):
 Calls Tryz.prog 136 #[v] w λ e w'=>∃v',e= .returned v'/\w'.ownsRow w.heap.size 3 1 v' cs.length (natsV cs)/\Below w.heap.size w w':=by
 have h0:=h;have hq:=λ (a:Option Addr) (n c:Nat) (W:World)=>Lib.run_eql_slice_nil (P:=Tryz.prog) W 48 3 a n c 0 0 Tryz.underlying48
 rcases h.2 with ⟨rfl,hz⟩ | ⟨g,cap,cur,rfl,hB,hg,_⟩
 ·have HN:Hid (cs=[]):=List.eq_nil_of_length_eq_zero hz
  clear h h0 hz;go_enter Tryz.func136,Tryz.ntmps136;go_wp2;go_ret;exact ⟨_,rfl,by rw [HN.out];exact World.ownsRow_nil _ _ _ _,Below.refl _ _⟩
 ·obtain ⟨i0,hi0,hz0,hz1,hz2⟩:=info_parts Tryz.info3
  have hlt:=lt_of_some hg;have hcells:∀j u,(natsV cs)[j]? =some u->(w.alloc (.cells #[] 3)).cell? ((⟨g,0,none⟩:Addr).add j)=some u:=λ j u hj=>World.ownsRow.cells (h0.alloc _) rfl j u hj
  have hnl:(natsV cs).length=cs.length*1:=by simp [natsV]
  clear h h0 hg hB;go_enter Tryz.func136,Tryz.ntmps136;go_wp2_with (first
   | (at_builtin;refine wpList_append_own_at _ rfl _ _ 48 rfl w.heap.size 3 i0 (.int .i64 0) 1 8 Tryz.underlying48 hi0 hz0 hz1 hz2 rfl (by decide) (.slice (some ⟨w.heap.size,0,none⟩) 0 0) 0 [] rfl (empty_row w) ⟨g,0,none⟩ cs.length cap (natsV cs) rfl hnl hcells (nats_one cs) (by unfold maxLen;omega) (by omega) (by simp) ?_;intro v5 w5 hown5 hgrow5 hnil5 hloc5)
   | fail)
  go_ret;refine ⟨_,rfl,by simpa using hown5,?_⟩;exact ((Below.refl _ w).alloc (Nat.le_refl _) _).grown hgrow5 (by simp) (λ j hj=>by simp [Value.ownBlock] at hj;omega)
theorem bcuts_any (p m N B0:Nat) (D:DataW Unit) (v:Value) (cs:List Nat) (w:World) (h:BlAt w p m N D v) (hr:w.ownsRow B0 3 1 v cs.length (natsV cs)) (hcs:cs.length<=1000):
 Calls Tryz.prog 80 #[.pointer (some ⟨p,0,none⟩)] w λ e w'=>∃v',e= .returned v'/\w'.ownsRow w.heap.size 3 1 v' cs.length (natsV cs)/\Below w.heap.size w w':=by
 have hc1:=h.c1;have HC:Hid _:=clone_any v B0 cs w hr hcs;clear h hr;go_enter Tryz.func80,Tryz.ntmps80;go_wp2_with fail;refine Calls.mono HC.out ?_;rintro e w1 ⟨v',rfl,ho,hb⟩;have HR:Hid (w1.ownsRow w.heap.size 3 1 v' cs.length (natsV cs)/\Below w.heap.size w w1):=⟨ho,hb⟩;clear ho hb HC hc1;go_wp2_with fail;go_ret;exact ⟨_,rfl,HR.out⟩
theorem idv_shape {w:World} {B:Nat} {v:Value} {L:List Edg} (h:w.ownsRow B 3 1 v L.length (idV L)):∃a cap,v= .slice a L.length cap/\L.length<=cap/\cap<=maxLen/\(0<L.length->∃g,a=some ⟨g,0,none⟩/\g<w.heap.size/\∀j e,L[j]? =some e->w.cell? ⟨g,j,none⟩=some (.int .i64 e.1)):=by
 have h0:=h;rcases h.2 with ⟨rfl,hz⟩ | ⟨g,cap,cur,rfl,hb,hg,h4,h5,_⟩
 ·exact ⟨none,0,by rw [hz],by omega,by simp [maxLen],λ k=>by omega⟩
 ·refine ⟨_,cap,rfl,h4,h5,λ _=>⟨g,rfl,lt_of_some hg,λ j e he=>?_⟩⟩
  have hj:=(List.getElem?_eq_some_iff.1 he).1;rw [h0.cellAt j (by omega)];simp [idV,he]
theorem drop_at {L:List Edg} {i:Nat} {e:Edg} (h:L[i]? =some e):L.drop i=e::L.drop (i+1):=by
 obtain ⟨hlt,he⟩:=List.getElem?_eq_some_iff.1 h;rw [List.drop_eq_getElem_cons hlt,he]
structure Pq (W3 w:World) (u:Value) (M:List (Int × Int)):Prop where
 own:OwnsP w W3.heap.size u M
 below:Below W3.heap.size W3 w
theorem Pq.drewN {W3 w:World} {u:Value} {M:List (Int × Int)} (h:Pq W3 w u M) (k:Nat):Pq W3 (w.drewN k) u M:=⟨h.own.below (below_drewN (Below.refl _ _) k),below_drewN h.below k⟩
theorem cpairs_any (c mb rest:Nat) (S R:List Edg) (f:Edg->Nat) (w:World) (h:Cx w c mb rest S R f):
 Calls Tryz.prog 84 #[.pointer (some ⟨c,0,none⟩)] w λ e w'=>∃v,e= .returned v/\OwnsP w' w.heap.size v (pairsOf (R.filter λ e=>decide (f e≠0)) λ e d=>decide (f e=f d))/\Below w.heap.size w w':=by
 have hb1:Below w.heap.size w (w.alloc (.cells #[.pointer (some ⟨c,0,none⟩)] 106)):=(Below.refl _ _).alloc (Nat.le_refl _) _;have HX:Hid (Cx w c mb rest S R f/\Cb (w.alloc (.cells #[.pointer (some ⟨c,0,none⟩)] 106)) w.heap.size c mb rest S f/\Cx (w.alloc (.cells #[.pointer (some ⟨c,0,none⟩)] 106)) c mb rest S R f):=⟨h,⟨heap_alloc_new w _,h.co.below hb1⟩,h.below hb1⟩;have HI:Hid _:=cids_any c mb rest S R f (w.alloc (.cells #[.pointer (some ⟨c,0,none⟩)] 106)) HX.out.2.2.co h.mem h.up HX.out.2.2.small;have hmf':=hmf;clear h hb1;go_enter Tryz.func84,Tryz.ntmps84;go_wp2_with fail;refine Calls.mono HI.out ?_;rintro e w2 ⟨v2,rfl,hrow2,hb2⟩;have HW:Hid (w2.ownsRow (w.heap.size+1) 3 1 v2 R.length (idV R)/\Below (w.alloc (.cells #[.pointer (some ⟨c,0,none⟩)] 106)).heap.size (w.alloc (.cells #[.pointer (some ⟨c,0,none⟩)] 106)) w2):=⟨by simpa using hrow2,hb2⟩;have HD:Hid (Calls Tryz.prog 144 #[v2,.func (.func 146) #[] #[.pointer (some ⟨w.heap.size,0,none⟩)]] w2 λ e w'=>∃v,e= .returned v/\w'.ownsRow w.heap.size 3 1 v (R.filter λ e=>decide (f e≠0)).length (idV (R.filter λ e=>decide (f e≠0)))/\Below w.heap.size w w'/\Cb w' w.heap.size c mb rest S f):=by
  have HB2:Below w.heap.size w w2:=((Below.refl _ _).alloc (Nat.le_refl _) _).trans (HW.out.2.mono (by simp));rcases HW.out.1.2 with ⟨hv,hz⟩ | ⟨g,cap,cur,hv,hbg,_⟩
  ·subst hv
   have hR:R=[]:=List.eq_nil_of_length_eq_zero hz;refine (delete_none_pr w.heap.size w2).mono ?_;rintro e w' ⟨rfl,hw'⟩;subst hw';refine ⟨_,rfl,?_,HB2,HX.out.2.1.below HW.out.2⟩;rw [hR];exact World.ownsRow_nil _ _ _ _
  ·subst hv
   have hbw:=HX.out.2.1;obtain ⟨u,hu⟩:=hbw.co.st;obtain ⟨D0,N0,k1,k2⟩:=hbw.co.mp;have hlb:=lt_of_some hbw.bx;have hlc:=lt_of_some hu;have hlm:=k1.lt;simp at hlb hlc hlm;have hrw:w2.ownsRow (w.heap.size+1) 3 1 (.slice (some ⟨g,0,none⟩) R.length cap) R.length (rowZ (R.map (·.1))):=by rw [rowZ_ids];exact HW.out.1
   refine (delete_pr (pfOf R λ e=>decide (f e=0)) w.heap.size g R.length cap (w.heap.size+1) (R.map (·.1)) w2 hrw (by rw [List.length_map];have:=HX.out.1.len;omega) (by simp) (λ W hW x hx=>?_)).mono ?_
   ·obtain ⟨e,he,rfl⟩:=List.mem_map.1 hx
    rw [pfOf_at HX.out.1.up _ he];have hcb:Cb W w.heap.size c mb rest S f:=(HX.out.2.1.below HW.out.2).grown hW (by omega) (by omega) (by omega);exact pr1_any w.heap.size c mb rest S f e W hcb ((HX.out.1.mem e).2 he) (HX.out.1.wf e he)
   ·rintro e w' ⟨v',rfl,hrow',hg'⟩
    refine ⟨v',rfl,?_,?_,(HX.out.2.1.below HW.out.2).grown hg' (by omega) (by omega) (by omega)⟩
    ·rw [filter_ids R (λ e=>decide (f e=0)) _ (λ e he=>pfOf_at HX.out.1.up _ he),rowZ_ids,List.length_map] at hrow'
     have e1:(R.filter λ e=>!decide (f e=0))=R.filter λ e=>decide (f e≠0):=by
      apply List.filter_congr;intro e _;by_cases h0:f e=0 <;> simp [h0]
     rw [e1] at hrow';exact row_mono hrow' (by omega)
    ·exact HB2.grown hg' HB2.size (λ j hj=>by injection hj with hj;omega)
 clear hrow2 hb2 HI;go_wp2_with fail;refine Calls.mono HD.out ?_;rintro e w3 ⟨v3,rfl,hrow3,hb3,hcb3⟩;obtain ⟨L,hL⟩:∃L,(R.filter λ e=>decide (f e≠0))=L:=⟨_,rfl⟩;rw [hL] at hrow3;have HL:Hid ((R.filter λ e=>decide (f e≠0))=L):=hL;obtain ⟨T,hT⟩:∃T,(pairsOf L λ e d=>decide (f e=f d))=T:=⟨_,rfl⟩;have HT:Hid ((pairsOf L λ e d=>decide (f e=f d))=T):=hT;have hTl:T.length<=14400:=by
  rw [<-hT];have h1:=pairsOf_len (λ e d=>decide (f e=f d)) L;have h2:L.length<=120:=by rw [<-hL];exact Nat.le_trans (List.length_filter_le _ _) HX.out.1.len
  have h3:=Nat.mul_le_mul h2 h2;omega
 obtain ⟨a3,cap,rfl,hcap,hcm,hc3⟩:=idv_shape hrow3;obtain ⟨m,hm⟩:∃m,L.length=m:=⟨_,rfl⟩;have HM:Hid (L.length=m):=hm;rw [hm] at hcap hc3 ⊢;have hm60:m<=120:=by rw [<-hm,<-hL];exact Nat.le_trans (List.length_filter_le _ _) HX.out.1.len
 have HC:Hid ((0<m->∃g,a3=some ⟨g,0,none⟩/\g<w3.heap.size/\∀j e,L[j]? =some e->w3.cell? ⟨g,j,none⟩=some (.int .i64 e.1))/\Cb w3 w.heap.size c mb rest S f/\Below w.heap.size w w3):=⟨hc3,hcb3,hb3⟩;have HP0:Hid (∃M,Pq w3 w3 (.slice none 0 0) M/\M++(pairsOf (L.drop 0) λ e d=>decide (f e=f d))=T):=⟨[],⟨World.ownsRow_nil _ _ _ _,Below.refl _ _⟩,by simpa using hT⟩;simp only [maxLen] at hcm;clear hrow3 hb3 hcb3 hc3 hm hL hT HD HW;go_wp2_with fail;go_loopw [4,15] (λ s4 s15 wq=>∃i:Nat,i<=m/\s15= .int .i64 i/\∃M,Pq w3 wq s4 M/\M++(pairsOf (L.drop i) λ e d=>decide (f e=f d))=T) (λ _ s15 _=>m-(intOf s15).toNat)
 case atStart=>exact ⟨0,Nat.zero_le _,rfl,HP0.out⟩
 case round=>
  clear HP0;obtain ⟨i,hi,rfl,M,hpq,hMT⟩:=hrel;have HP:Hid (Pq w3 wr u4 M/\M++(pairsOf (L.drop i) λ e d=>decide (f e=f d))=T):=⟨hpq,hMT⟩;clear hpq hMT;by_cases hlt:i<m
  ·obtain ⟨e,he⟩:∃e,L[i]? =some e:=⟨_,List.getElem?_eq_getElem (by rw [HM.out];exact hlt)⟩
   obtain ⟨g,rfl,hgl,hcell⟩:=HC.out.1 (by omega);have hce:wr.cell? ⟨g,i,none⟩=some (.int .i64 e.1):=(HP.out.1.below.cell (p:=⟨g,i,none⟩) hgl).trans (hcell i e he);have HE:Hid (L[i]? =some e/\∀j d,L[j]? =some d->w3.cell? ⟨g,j,none⟩=some (.int .i64 d.1)):=⟨he,hcell⟩;have HI0:Hid (∃M,Pq w3 wr u4 M/\M++((((L.drop (i+1)).drop 0).filter λ d=>decide (f e=f d)).map (λ d=>(e.1,d.1))++pairsOf (L.drop (i+1)) λ e d=>decide (f e=f d))=T):=⟨M,HP.out.1,by
    have:=HP.out.2;rw [drop_at he] at this;exact this⟩
   obtain ⟨E,hE⟩:∃E,e.1=E:=⟨_,rfl⟩;have HEE:Hid (e.1=E):=hE;rw [hE] at hce;clear he hcell hE;have hw1:IntKind.i64.wrap ((i:Int)+1)=(i:Int)+1:=by rw [IntKind.wrap_i64];omega
   have hb2:(i:Int)+1<=(m:Int):=by omega
   have hb3:(0:Int)<=(i:Int)+1:=by omega
   have hb4:(i:Int)+1<=(cap:Int):=by omega
   have hb5:(m:Int)<=(cap:Int):=by omega
   have htn:((i:Int)+1).toNat=i+1:=by omega
   by_cases hcj:cap=i+1
   ·go_wp2_with fail
    clear hw1 hb2 hb3 hb4 hb5 htn hce;obtain ⟨r,hr⟩:∃r,m-(i+1)=r:=⟨_,rfl⟩;have HR:Hid (m-(i+1)=r):=hr;rw [hr];go_loopw [4,25] (λ s4 s25 wq=>∃j:Nat,j<=r/\s25= .int .i64 j/\∃M,Pq w3 wq s4 M/\M++((((L.drop (i+1)).drop j).filter λ d=>decide (f e=f d)).map (λ d=>(e.1,d.1))++pairsOf (L.drop (i+1)) λ e d=>decide (f e=f d))=T) (λ _ s25 _=>r-(intOf s25).toNat)
    case atStart=>exact ⟨0,Nat.zero_le _,rfl,HI0.out⟩
    case round=>
     clear HI0 HP;obtain ⟨j,hj,rfl,M,hpq,hMT⟩:=hrel;have HP:Hid (Pq w3 wr u4 M/\M++((((L.drop (i+1)).drop j).filter λ d=>decide (f e=f d)).map (λ d=>(e.1,d.1))++pairsOf (L.drop (i+1)) λ e d=>decide (f e=f d))=T):=⟨hpq,hMT⟩;clear hpq hMT;by_cases hltj:j<r
     ·exact absurd hltj (by omega)
     ·as_aux_lemma=>
      have HF:Hid (M++(pairsOf (L.drop (i+1)) λ e d=>decide (f e=f d))=T):=by
       have h1:=HP.out.2;have h2:(L.drop (i+1)).drop j=[]:=List.drop_eq_nil_of_le (by rw [List.length_drop,HM.out];omega);rw [h2] at h1;exact h1
      clear hr;go_wp2_with fail;go_roundw;case rel=>exact ⟨i+1,by omega,by go_num,M,HP.out.1,HF.out⟩
      case measure=>simp [intOf];omega
   ·go_wp2_with fail
    clear hw1 hb2 hb3 hb4 hb5 htn hce;obtain ⟨r,hr⟩:∃r,m-(i+1)=r:=⟨_,rfl⟩;have HR:Hid (m-(i+1)=r):=hr;rw [hr];go_loopw [4,25] (λ s4 s25 wq=>∃j:Nat,j<=r/\s25= .int .i64 j/\∃M,Pq w3 wq s4 M/\M++((((L.drop (i+1)).drop j).filter λ d=>decide (f e=f d)).map (λ d=>(e.1,d.1))++pairsOf (L.drop (i+1)) λ e d=>decide (f e=f d))=T) (λ _ s25 _=>r-(intOf s25).toNat)
    case atStart=>exact ⟨0,Nat.zero_le _,rfl,HI0.out⟩
    case round=>
     clear HI0 HP;obtain ⟨j,hj,rfl,M,hpq,hMT⟩:=hrel;have HP:Hid (Pq w3 wr u4 M/\M++((((L.drop (i+1)).drop j).filter λ d=>decide (f e=f d)).map (λ d=>(e.1,d.1))++pairsOf (L.drop (i+1)) λ e d=>decide (f e=f d))=T):=⟨hpq,hMT⟩;clear hpq hMT;by_cases hltj:j<r
     ·obtain ⟨d,hd⟩:∃d,L[i+1+j]? =some d:=⟨_,List.getElem?_eq_getElem (by rw [HM.out];omega)⟩
      have hcd:wr.cell? ⟨g,i+1+j,none⟩=some (.int .i64 d.1):=(HP.out.1.below.cell (p:=⟨g,i+1+j,none⟩) hgl).trans (HE.out.2 _ d hd);have hdr:(L.drop (i+1)).drop j=d::(L.drop (i+1)).drop (j+1):=drop_at (by rw [List.getElem?_drop];exact hd);have hcb:=HC.out.2.1.below HP.out.1.below;have hb0:wr.cell? ⟨w.heap.size,0,none⟩=some (.pointer (some ⟨c,0,none⟩)):=by simp [World.cell?,hcb.bx]
      have hb1:=hcb.co.cell1;have inL:∀{k:Nat} {x:Edg},L[k]? =some x->x∈R:=λ {k x} hk=>by
       have:=List.mem_of_getElem? hk;rw [<-HL.out] at this;exact (List.mem_filter.1 this).1
      have lk1:=λ n=>((hcb.below (below_drewN (Below.refl _ _) n)).co.look_in ((HX.out.1.mem e).2 (inL HE.out.1)) (HX.out.1.wf e (inL HE.out.1))).2
      have lk2:=λ n=>((hcb.below (below_drewN (Below.refl _ _) n)).co.look_in ((HX.out.1.mem d).2 (inL hd)) (HX.out.1.wf d (inL hd))).2
      unfold ringV at lk1 lk2;have HMl:Hid (M.length<=14400):=by
       have:=congrArg List.length HP.out.2;rw [List.length_append] at this;show M.length<=14400;omega
      have HN:Hid (∀M',(if f e=f d then M'=M++[(e.1,d.1)] else M'=M)->M'++((((L.drop (i+1)).drop (j+1)).filter λ d=>decide (f e=f d)).map (λ d=>(e.1,d.1))++pairsOf (L.drop (i+1)) λ e d=>decide (f e=f d))=T):=λ M' hM'=>by
       have h1:=HP.out.2;rw [hdr,List.filter_cons] at h1;by_cases hfe:f e=f d
       ·rw [if_pos hfe] at hM'
        rw [if_pos (by simpa using hfe)] at h1;rw [hM',<-h1];simp
       ·rw [if_neg hfe] at hM'
        rw [if_neg (by simpa using hfe)] at h1;rw [hM',<-h1]
      obtain ⟨Y,hY⟩:∃Y,d.1=Y:=⟨_,rfl⟩;obtain ⟨x,hx⟩:∃x,f e=x:=⟨_,rfl⟩;obtain ⟨y,hy⟩:∃y,f d=y:=⟨_,rfl⟩;rw [HEE.out,hx] at lk1;rw [hY,hy] at lk2;rw [hY] at hcd;rw [hx,hy,HEE.out,hY] at HN;obtain ⟨x0,hx0⟩:∃x0,lo64 x=x0:=⟨_,rfl⟩;obtain ⟨x1,hx1⟩:∃x1,hi64 x=x1:=⟨_,rfl⟩;obtain ⟨y0,hy0⟩:∃y0,lo64 y=y0:=⟨_,rfl⟩;obtain ⟨y1,hy1⟩:∃y1,hi64 y=y1:=⟨_,rfl⟩;rw [hx0,hx1] at lk1;rw [hy0,hy1] at lk2;have HXY:Hid (x=y↔x0=y0/\x1=y1):=by
       show _↔_;rw [<-hx0,<-hx1,<-hy0,<-hy1];exact ⟨λ k=>by rw [k];exact ⟨rfl,rfl⟩,λ k=>lohi k.1 k.2⟩
      clear hx0 hx1 hy0 hy1;have heq:=eq101;clear hcb hd hdr inL hY hy;by_cases hxy:x=y
      ·as_aux_lemma=>
       have HNO:Hid _:=HN.out (M++[(E,Y)]) (by rw [if_pos hxy]);obtain ⟨hz0,hz1⟩:=HXY.out.1 hxy;subst hz0;subst hz1;go_upto_region 9 with fail
       go_quiet (fail);have HPQ:=HP.out.1.drewN nq;obtain ⟨v',w4,hrn,ho4,hg4,hf4⟩:=more_pair 65 (wr.drewN nq) w3.heap.size u4 M E Y HPQ.own HPQ.below.size (by have:=HMl.out;omega);have HRN:Hid (_=_):=hrn;have HP4:Hid (Pq w3 w4 v' (M++[(E,Y)])):=⟨ho4,HPQ.below.grown hg4 HPQ.below.size (λ k hk=>(World.ownsRow.lt HPQ.own k hk).1)⟩;clear hrn ho4 hg4 hf4 HPQ;go_wp2_with (at_builtin;refine Lib.wpList_append_run _ rfl _ _ _ _ rfl _ _ rfl rfl _ _ HRN.out ?_);go_roundw;case rel=>
        refine ⟨j+1,by omega,by go_num,M++[(E,Y)],HP4.out,?_⟩;have:=HNO.out;rw [hx,HEE.out];exact this
       case measure=>simp [intOf];omega
      ·by_cases hz0:x0=y0
       ·as_aux_lemma=>
        have hz1:¬x1=y1:=λ k=>hxy (HXY.out.2 ⟨hz0,k⟩)
        subst hz0;have hbe:((x1:Int)==(y1:Int))=false:=beq_eq_false_iff_ne.2 (by omega);have HNO:Hid _:=HN.out M (by rw [if_neg hxy]);go_upto_region 9 with fail
        go_quiet (fail);go_wp2_with fail;go_roundw;case rel=>
         refine ⟨j+1,by omega,by go_num,M,HP.out.1.drewN _,?_⟩;have:=HNO.out;rw [hx,HEE.out];exact this
        case measure=>simp [intOf];omega
       ·as_aux_lemma=>
        have hbe:((x0:Int)==(y0:Int))=false:=beq_eq_false_iff_ne.2 (by omega);have HNO:Hid _:=HN.out M (by rw [if_neg hxy]);go_upto_region 9 with fail
        go_quiet (fail);go_wp2_with fail;go_roundw;case rel=>
         refine ⟨j+1,by omega,by go_num,M,HP.out.1.drewN _,?_⟩;have:=HNO.out;rw [hx,HEE.out];exact this
        case measure=>simp [intOf];omega
     ·as_aux_lemma=>
      have HF:Hid (M++(pairsOf (L.drop (i+1)) λ e d=>decide (f e=f d))=T):=by
       have h1:=HP.out.2;have h2:(L.drop (i+1)).drop j=[]:=List.drop_eq_nil_of_le (by rw [List.length_drop,HM.out];omega);rw [h2] at h1;exact h1
      clear hr;go_wp2_with fail;go_roundw;case rel=>exact ⟨i+1,by omega,by go_num,M,HP.out.1,HF.out⟩
      case measure=>simp [intOf];omega
  ·as_aux_lemma=>
   have HF:Hid (OwnsP wr w.heap.size u4 (pairsOf L λ e d=>decide (f e=f d))/\Below w.heap.size w wr):=by
    have hie:i=m:=by omega
    have h1:=HP.out.2;rw [hie,<-HM.out,List.drop_length] at h1;simp only [pairsOf,List.append_nil] at h1;have hb:=HC.out.2.2;have h2:=HP.out.1;rw [h1,<-HT.out] at h2;exact ⟨h2.own.mono hb.size,hb.trans (h2.below.mono hb.size)⟩
   go_wp2_with fail;go_ret;refine ⟨_,rfl,?_,HF.out.2⟩;rw [HL.out];exact HF.out.1
open Go Go.ChangeMaps Go.MapKept Go.WideShapes
open Go.WideElems (Fit rd rg pl rd_key rd_val rg_of rd_mk other_key)
open Go.Maps (Keyed)
theorem find_stamp {es:Array MapEntry} {j c:Nat} {e0:MapEntry} (h:es.toList[j]? =some e0) (hc:e0.born=c) (hu:∀i x,es.toList[i]? =some x->x.born=c->i=j):es.findIdx? (λ e=>((e.born:Int)==(c:Int)))=some j:=by
 rw [Array.findIdx?_eq_some_iff_getElem];obtain ⟨hj,he⟩:=List.getElem?_eq_some_iff.1 h;refine ⟨by simpa using hj,?_,λ i hi=>?_⟩
 ·have:es[j]'(by simpa using hj)=e0:=by simpa using he
  rw [this,hc];simp
 ·have hil:i<es.toList.length:=Nat.lt_trans hi hj
  intro hp;have:=hu i es.toList[i] (List.getElem?_eq_getElem hil) (by have h5:=beq_iff_eq.1 hp;simp;omega);omega
theorem setBlock_two (w:World) (b:Nat) (o o':Obj):setBlock (setBlock w b o) b o'=setBlock w b o':=by
 simp [setBlock]
section
variable {H:Type} {P:Program} {k:TypeId} {w:World} {base b n:Nat} {D:DataW H}
theorem entry_groups {t E e:TypeId} {q:IntKind} (h:w.ownsGroups P k base e q b n D) (K:Keyed P k) (ht:P.underlying t=some (.map k E)) (hz:(zeroValue E).run P w= .ok (.slice none 0 0) w) (hn:n<maxLen) {key:Value} {kl:Lit} (hkey:keyOf P k key=some kl):
 ∃v zs st w1,(Instr.mapEntry t (.map (some b)) key).run P w= .ok (.tuple #[v,.int .i64 st]) w1/\D.atKey kl .nil=rowDatum q v zs/\w1.ownsInts base e q v zs/\zs.length<=n/\w.grownBy w1 (some b)/\w1.heap.size=w.heap.size/\
  ∀(w2:World) (v':Value) (zs':List Int),w1.grownBy w2 v.ownBlock->w2.ownsInts base e q v' zs'->zs'.length<=n+1->(v'.ownBlock=v.ownBlock\/∃g,v'.ownBlock=some g/\w1.heap.size<=g)->
   ∃w3,(Instr.entryStore t (.map (some b)) (.int .i64 st) v').run P w2= .ok () w3/\w3.ownsGroups P k base e q b (n+1) (D.put kl (rowDatum q v' zs'))/\w2.grownBy w3 (some b):=by
 obtain ⟨v,zs,hlk,hat,hoi,hzl,hback⟩:=h.at K ht hz hn hkey;obtain ⟨es,clock,hb,F,hs,hD,hbb,_,_⟩:=h;have hst:=(stamped_iff es clock).1 F.stamped;have notb:∀{W:World} {u:Value} {ys:List Int},W.ownsInts base e q u ys->u.ownBlock≠some b:=λ ho hu=>by
  have:=(World.ownsRow.lt ho.1 b hu).1;omega
 have core:∀(es1:Array MapEntry) (clock1 st:Nat) (w1:World),w1=setBlock w b (.map es1 clock1)->
  (∀(w2:World) (v':Value),w2.heap[b]? =some (.map es1 clock1)->∀w3,(Instr.mapUpdate t (.map (some b)) key v').run P (setBlock w2 b (.map es clock))= .ok () w3->(Instr.entryStore t (.map (some b)) (.int .i64 st) v').run P w2= .ok () w3)->
  (Instr.mapEntry t (.map (some b)) key).run P w= .ok (.tuple #[v,.int .i64 st]) w1->
  ∃v zs st w1,(Instr.mapEntry t (.map (some b)) key).run P w= .ok (.tuple #[v,.int .i64 st]) w1/\D.atKey kl .nil=rowDatum q v zs/\w1.ownsInts base e q v zs/\zs.length<=n/\w.grownBy w1 (some b)/\w1.heap.size=w.heap.size/\
  ∀(w2:World) (v':Value) (zs':List Int),w1.grownBy w2 v.ownBlock->w2.ownsInts base e q v' zs'->zs'.length<=n+1->(v'.ownBlock=v.ownBlock\/∃g,v'.ownBlock=some g/\w1.heap.size<=g)->
   ∃w3,(Instr.entryStore t (.map (some b)) (.int .i64 st) v').run P w2= .ok () w3/\w3.ownsGroups P k base e q b (n+1) (D.put kl (rowDatum q v' zs'))/\w2.grownBy w3 (some b):=by
  intro es1 clock1 st w1 hw1 hsame hrun;have hg1:w.grownBy w1 (some b):=by rw [hw1];exact ⟨rfl,rfl,rfl,by simp [setBlock],λ i _ hi=>heap_setBlock_other hb _ (λ e=>hi (by rw [e]))⟩
  have hs1:w1.heap.size=w.heap.size:=by rw [hw1];simp [setBlock]
  have hb1:w1.heap[b]? =some (.map es1 clock1):=by rw [hw1];exact heap_setBlock_same hb _
  refine ⟨v,zs,st,w1,hrun,hat,hoi.kept hg1 (.inr (notb hoi)),hzl,hg1,hs1,λ w2 v' zs' hg2 ho2 hl2 hloc=>?_⟩;have hb2:w2.heap[b]? =some (.map es1 clock1):=by
   rw [hg2.block b (lt_of_some hb1) (λ e=>notb hoi e.symm)];exact hb1
  have hg2':w2.grownBy (setBlock w2 b (.map es clock)) (some b):=⟨rfl,rfl,rfl,by simp [setBlock],λ i _ hi=>heap_setBlock_other hb2 _ (λ e=>hi (by rw [e]))⟩;have hgw:w.grownBy (setBlock w2 b (.map es clock)) v.ownBlock:=by
   refine ⟨hg2.os.trans hg1.os,hg2.tape.trans hg1.tape,hg2.output.trans hg1.output,?_,λ i hi hne=>?_⟩
   ·have:=hg2.size
    simp [setBlock];omega
   ·by_cases e:i=b
    ·rw [e,heap_setBlock_same hb2];exact hb.symm
    ·rw [heap_setBlock_other hb2 _ e,hg2.block i (by omega) hne,hg1.block i hi (by simpa using e)]
  obtain ⟨w3,r1,r2,r3⟩:=hback _ v' zs' hgw (ho2.kept hg2' (.inr (notb ho2))) hl2 (by rw [hs1] at hloc;exact hloc);refine ⟨w3,hsame w2 v' hb2 w3 r1,r2,⟨r3.os,r3.tape,r3.output,?_,λ i hi hne=>?_⟩⟩
  ·have:=r3.size
   simp [setBlock] at this;exact this
  ·rw [r3.block i (by simp [setBlock];exact hi) hne,hg2'.block i hi hne]
 rcases K.find w hkey es.toList F.keys with ⟨h1,h2⟩ | ⟨j,e0,h1,h2,h3⟩
 ·have hvz:v= .slice none 0 0:=by
   rcases Maps.fit_look false K ht hz hb F hkey with ⟨hrun,_,_⟩ | ⟨e0,y,hm0,h3,_⟩
   ·rw [hrun] at hlk;injection hlk with hlk;exact hlk.symm
   ·exact absurd h3 (h2 e0 hm0)
  refine core (es.push ⟨key,.slice none 0 0,clock⟩) (clock+1) clock _ rfl (λ w2 v' hb2 w3 hup=>?_) ?_
  ·obtain ⟨W,hW⟩:∃W,setBlock w2 b (.map es clock)=W:=⟨_,rfl⟩
   rw [hW] at hup;have hbs:W.heap[b]? =some (.map es clock):=by rw [<-hW];exact heap_setBlock_same hb2 _
   rcases K.find W hkey es.toList F.keys with ⟨g1,g2⟩ | ⟨j,e0,g1,g2,g3⟩
   ·have hup2:(Instr.mapUpdate t (.map (some b)) key v').run P W= .ok () (setBlock W b (.map (es.push ⟨key,v',clock⟩) (clock+1))):=by
     simp [Instr.mapUpdate,run_underlying ht,MapKept.run_getObj_map hbs,K.check W false hkey,g1,MapKept.run_setObj_map _ hbs,Result.andThen,setBlock]
    rw [hup] at hup2;injection hup2 with _ hw
    rw [<-hW,setBlock_two] at hw;subst hw;have hf:(es.push ⟨key,.slice none 0 0,clock⟩).findIdx? (λ e=>((e.born:Int)==(clock:Int)))=some es.size:=by
     refine find_stamp (e0:=⟨key,.slice none 0 0,clock⟩) (by simp) rfl (λ i x hx hxb=>?_);simp only [Array.toList_push] at hx;rcases Nat.lt_or_ge i es.toList.length with hi | hi
     ·rw [List.getElem?_append_left hi] at hx
      have:=F.stamped.1 x (List.mem_of_getElem? hx);omega
     ·have:=(List.getElem?_eq_some_iff.1 hx).1
      simp at this hi;omega
    have hmod:(es.push ⟨key,.slice none 0 0,clock⟩).modify es.size (λ e=>{e with val:=v'})=es.push ⟨key,v',clock⟩:=by
     apply Array.ext
     ·simp
     ·intro i h1 h2
      simp only [Array.getElem_modify,Array.getElem_push];split <;> split <;> simp_all <;> omega
    simp [Instr.entryStore,MapKept.run_getObj_map hb2,asInt,asIntOf,hf,hmod,MapKept.run_setObj_map _ hb2,Result.andThen];simp [setBlock]
   ·exact absurd g3 (h2 e0 (List.mem_of_getElem? g2))
  ·rw [hvz]
   simp [Instr.mapEntry,run_underlying ht,MapKept.run_getObj_map hb,K.check w false hkey,h1,hz,MapKept.run_setObj_map _ hb,Result.andThen,setBlock,goInt]
 ·have hj:es[j]? =some e0:=by simpa using h2
  have hjl:j<es.size:=(Array.getElem?_eq_some_iff.1 hj).1;have hje:es[j]=e0:=(Array.getElem?_eq_some_iff.1 hj).2;have hvz:v=e0.val:=by
   have:(Instr.lookup t (.map (some b)) key false).run P w= .ok e0.val w:=by
    simp [Instr.lookup,run_underlying ht,MapKept.run_getObj_map hb,K.check w _ hkey,h1,Result.andThen]
   rw [this] at hlk;injection hlk with hlk;exact hlk.symm
  refine core (es.modify j λ e=>{e with key:=key}) clock e0.born _ rfl (λ w2 v' hb2 w3 hup=>?_) ?_
  ·obtain ⟨W,hW⟩:∃W,setBlock w2 b (.map es clock)=W:=⟨_,rfl⟩
   rw [hW] at hup;have hbs:W.heap[b]? =some (.map es clock):=by rw [<-hW];exact heap_setBlock_same hb2 _
   rcases K.find W hkey es.toList F.keys with ⟨g1,g2⟩ | ⟨j',e0',g1,g2,g3⟩
   ·exact absurd h3 (g2 e0 (List.mem_of_getElem? h2))
   ·have hjj:j'=j:=by
     by_cases hij:j'=j
     ·exact hij
     ·have h5:=other_key F h2 g2 hij
      rw [g3,h3] at h5;exact absurd rfl h5
    subst hjj;have hee:e0'=e0:=by rw [h2] at g2;exact (Option.some.inj g2).symm
    subst hee;have hup2:(Instr.mapUpdate t (.map (some b)) key v').run P W= .ok () (setBlock W b (.map (es.modify j' λ e=>{e with key:=key,val:=v'}) clock)):=by
     simp [Instr.mapUpdate,run_underlying ht,MapKept.run_getObj_map hbs,K.check W false hkey,g1,hj,h3,K.stays W hkey,MapKept.run_setObj_map _ hbs,Result.andThen,setBlock]
    rw [hup] at hup2;injection hup2 with _ hw
    rw [<-hW,setBlock_two] at hw;subst hw;have hf:(es.modify j' λ e=>{e with key:=key}).findIdx? (λ e=>((e.born:Int)==(e0'.born:Int)))=some j':=by
     refine find_stamp (e0:={e0' with key:=key}) ?_ rfl (λ i x hx hxb=>?_)
     ·rw [Array.toList_modify,modify_eq_set _ _ _ _ h2,List.getElem?_set]
      simp [hjl]
     ·rw [Array.toList_modify,modify_eq_set _ _ _ _ h2,List.getElem?_set] at hx
      split at hx
      ·next hij=>exact hij.symm
      ·have hxm:=List.mem_of_getElem? hx
       have hem:e0'∈es.toList:=List.mem_of_getElem? h2;obtain rfl:=born_inj hst.2.1 hxm hem hxb;by_cases hij:i=j'
       ·exact hij
       ·exact absurd rfl (other_key F h2 hx hij)
    have hmod:(es.modify j' λ e=>{e with key:=key}).modify j' (λ e=>{e with val:=v'})=es.modify j' λ e=>{e with key:=key,val:=v'}:=by
     apply Array.ext
     ·simp
     ·intro i h1 h2
      simp only [Array.getElem_modify];split <;> simp_all
    simp [Instr.entryStore,MapKept.run_getObj_map hb2,asInt,asIntOf,hf,hmod,MapKept.run_setObj_map _ hb2,Result.andThen];simp [setBlock]
  ·rw [hvz]
   simp [Instr.mapEntry,run_underlying ht,MapKept.run_getObj_map hb,K.check w false hkey,h1,hj,h3,K.stays w hkey,MapKept.run_setObj_map _ hb,Result.andThen,setBlock,goInt]
end
end Go.Proofs.YtebcjaenhiiflaaGreatDoor.S
namespace Go.Proofs.YtebcjaenhiiflaaGreatDoor.S.X
open Go.RowKit
def Inn (n:Nat) (R:List (Int × Int × Int)):Prop:=∀e∈R,ea e<n/\eb e<n/\e.2.1=(ea e:Int)/\e.2.2=(eb e:Int)
def cnw (R:List (Int × Int × Int)) (S:List Nat):Nat->Nat->Prop:=cn ea eb (λ e=>e∈R/\ea e∉S/\eb e∉S)
section
variable {R R':List (Int × Int × Int)} {S S':List Nat} {x y a b n:Nat}
def PartP (R:List (Int × Int × Int)) (n a b:Nat):Prop:=∃x y,x<n/\y<n/\cnw R [a] x y/\cnw R [b] x y/\¬cnw R [a,b] x y
structure Lw (n:Nat) (R:List (Int × Int × Int)) (S:List Nat) (l:List Nat):Prop where
 len:l.length=n
 iff:∀u v,u<n->v<n->(l.getD u 0=l.getD v 0↔cnw R S u v)
def kp (inn:Nat->Bool) (e:Int × Int × Int):Bool:=inn (ea e)&&inn (eb e)
theorem joins_snoc (L:List Nat) (ds:List (Int × Int × Int)) (d:Int × Int × Int):joins L (ds++[d])=joinL (joins L ds) (ea d) (eb d):=by
 induction ds generalizing L with
 | nil=>rfl
 | cons c ds ih=>exact ih _
theorem Lk_range (n u v:Nat):Lk n (List.range n) u v↔u=v:=by
 constructor
 ·rintro (h | ⟨h1,h2,h3⟩)
  ·exact h
  ·simpa [h1,h2] using h3
 ·exact .inl
theorem inn_filter (hin:Inn n R) (p:Int × Int × Int->Bool):∀d∈R.filter p,ea d<n/\eb d<n:=λ d hd=>by
 have:=hin d (List.mem_filter.1 hd).1;exact ⟨this.1,this.2.1⟩
theorem good_kept (hin:Inn n R) (inn:Nat->Bool):Good n (joins (List.range n) (R.filter (kp inn))):=good_joins _ _ (good_range n) (inn_filter hin _)
theorem lw_joins (hin:Inn n R) (inn:Nat->Bool) (hS:∀z,inn z=true↔z∉S):Lw n R S (joins (List.range n) (R.filter (kp inn))):=by
 have g:=good_kept hin inn;refine ⟨g.len,λ u v hu hv=>?_⟩;rw [<-Lk.iff hu hv,Lk_joins _ _ (good_range n) (inn_filter hin _)];constructor
 ·intro h
  refine Conn.lift h ?_;rintro x y (h | ⟨e,he,rfl,rfl⟩)
  ·rw [(Lk_range n x y).1 h];exact Conn.refl y
  ·obtain ⟨h1,h2⟩:=List.mem_filter.1 he
   simp only [kp,Bool.and_eq_true,hS] at h2;exact Conn.base ⟨e,⟨h1,h2⟩,rfl,rfl⟩
 ·intro h
  refine Conn.lift h ?_;rintro x y ⟨e,⟨h1,h2,h3⟩,rfl,rfl⟩;exact Conn.base (.inr ⟨e,List.mem_filter.2 ⟨h1,by simp only [kp,Bool.and_eq_true,hS];exact ⟨h2,h3⟩⟩,rfl,rfl⟩)
end
def rowK (P:Nat->Nat->Bool) (a k:Nat):List (Nat × Nat):=((List.range k).filter λ b=>decide (a<b)&&P a b).map λ b=>(a,b)
def allK (P:Nat->Nat->Bool) (n a:Nat):List (Nat × Nat):=(List.range a).flatMap λ a=>rowK P a n
section
variable (P:Nat->Nat->Bool) {a b n:Nat}
theorem rowK_start:rowK P a (a+1)=[]:=by
 unfold rowK;rw [List.map_eq_nil_iff,List.filter_eq_nil_iff];intro b hb;have:=List.mem_range.1 hb;simp;intro h;omega
theorem rowK_yes (hab:a<b) (h:P a b=true):rowK P a (b+1)=rowK P a b++[(a,b)]:=by
 simp [rowK,List.range_succ,List.filter_append,hab,h]
theorem rowK_no (h:P a b=false):rowK P a (b+1)=rowK P a b:=by
 simp [rowK,List.range_succ,List.filter_append,h]
theorem rowK_len:(rowK P a b).length<=b:=by
 simp only [rowK,List.length_map];exact Nat.le_trans (List.length_filter_le _ _) (by simp)
theorem allK_succ:allK P n (a+1)=allK P n a++rowK P a n:=by simp [allK,List.range_succ]
theorem allK_len:(allK P n a).length<=a*n:=by
 induction a with
 | zero=>simp [allK]
 | succ a ih=>
   rw [allK_succ,List.length_append,Nat.succ_mul];have:=rowK_len P (a:=a) (b:=n);omega
end
def encP (x:Nat × Nat):List Value:=[.int .i64 (x.1:Int),.int .i64 (x.2:Int)]
def rowP (L:List (Nat × Nat)):List Value:=L.flatMap encP
theorem rowP_cons (x:Nat × Nat) (L:List (Nat × Nat)):rowP (x::L)=encP x++rowP L:=rfl
theorem rowP_append (L M:List (Nat × Nat)):rowP (L++M)=rowP L++rowP M:=by simp [rowP]
theorem rowP_length:∀L:List (Nat × Nat),(rowP L).length=L.length*2
 | []=>rfl
 | x::L=>by rw [rowP_cons,List.length_append,rowP_length L];simp [encP];omega
theorem rowP_one:∀(L:List (Nat × Nat)),∀u∈rowP L,u.oneCell'=true
 | [],u,h=>by simp [rowP] at h
 | x::L,u,h=>by
   rw [rowP_cons,List.mem_append] at h;rcases h with h | h
   ·simp [encP] at h
    rcases h with rfl | rfl <;> rfl
   ·exact rowP_one L u h
theorem rowP_at:∀(L:List (Nat × Nat)) (i:Nat) (x:Nat × Nat),L[i]? =some x->(rowP L)[i*2]? =some (.int .i64 (x.1:Int))/\(rowP L)[i*2+1]? =some (.int .i64 (x.2:Int))
 | [],i,x,h=>by simp at h
 | y::L,0,x,h=>by
   simp at h;subst h;simp [rowP_cons,encP]
 | y::L,i+1,x,h=>by
   simp at h;have:=rowP_at L i x h;rw [rowP_cons];have e1:(i+1)*2=(i*2)+2:=by omega
   rw [e1]
   simpa [encP] using this
def OwnsP (w:World) (B:Nat) (v:Value) (L:List (Nat × Nat)):Prop:=w.ownsRow B 180 2 v L.length (rowP L)
theorem OwnsP.below {w w':World} {B:Nat} {v:Value} {L:List (Nat × Nat)} (h:OwnsP w B v L) (hb:Below w.heap.size w w'):OwnsP w' B v L:=World.ownsRow.kept h (grown_below hb) (Classical.em _)
theorem OwnsP.shape {w:World} {B:Nat} {v:Value} {L:List (Nat × Nat)} (h:OwnsP w B v L):∃a cap,v= .slice a L.length cap/\(0<L.length->∃g,a=some ⟨g,0,none⟩/\∀j x,L[j]? =some x->w.cell? ⟨g,j*2,none⟩=some (.int .i64 (x.1:Int))/\w.cell? ⟨g,j*2+1,none⟩=some (.int .i64 (x.2:Int))):=by
 have h0:=h;unfold OwnsP at h0;rcases h.2 with ⟨rfl,hz⟩ | ⟨g,cap,cur,rfl,hb,hg,_⟩
 ·exact ⟨none,0,by rw [hz],λ k=>by omega⟩
 ·refine ⟨_,cap,rfl,λ _=>⟨g,rfl,λ j x hx=>?_⟩⟩
  obtain ⟨r0,r1⟩:=rowP_at L j x hx;have hj:=(List.getElem?_eq_some_iff.1 hx).1;have hl:=rowP_length L;refine ⟨?_,?_⟩
  ·rw [h0.cellAt (j*2) (by omega)]
   exact r0
  ·rw [h0.cellAt (j*2+1) (by omega)]
   exact r1
def zP:Value:=.agg #[.int .i64 0,.int .i64 0]
theorem info180:∃i,Tryz.prog.info? 180=some i/\i.size=2/\i.bytes=16/\i.zero=some zP:=
 ⟨(Tryz.prog.info? 180).get (by kernel_rfl),by kernel_rfl,by kernel_rfl,by kernel_rfl,by kernel_rfl⟩
theorem zP_cells:zP.cells=#[.int .i64 0,.int .i64 0]:=by kernel_rfl
theorem pair_cells (W:World) (x y:Nat) (j:Nat) (u:Value) (h:(rowP [(x,y)])[j]? =some u):(W.alloc (.cells #[.int .i64 (x:Int),.int .i64 (y:Int)] 180)).cell? ((⟨W.heap.size,0,none⟩:Addr).add j)=some u:=by
 rw [G.addr0_add];have hh:=heap_alloc_new W (.cells #[.int .i64 (x:Int),.int .i64 (y:Int)] 180);simp only [World.cell?,hh]
 simpa [rowP,encP] using h
end Go.Proofs.YtebcjaenhiiflaaGreatDoor.S.X
namespace Go.Proofs.YtebcjaenhiiflaaGreatDoor.S
open Go Go.ChangeMaps Go.MapKept Go.WideShapes
open Go.RowKit Go.WideMaps Go.Maps F
structure Mat (w:World) (g:Nat) (b:Nat->Nat) (N:Nat) (M:Nat->Nat->Int):Prop where
 out:∀i,i<N->w.cell? ⟨g,i,none⟩=some (.slice (some ⟨b i,0,none⟩) N N)
 row:∀i j,i<N->j<N->w.cell? ⟨b i,j,none⟩=some (.int .i64 (M i j))/\w.frozen? ⟨b i,j,none⟩=false
 inj:∀i j,i<N->j<N->b i=b j->i=j
 off:∀i,i<N->b i≠g
def Sn (w:World) (sb N:Nat) (sn:Nat->Bool):Prop:=∀j,j<N->w.cell? ⟨sb,j,none⟩=some (.bool (sn j))/\w.frozen? ⟨sb,j,none⟩=false
structure Kq (b:Nat->Nat) (N sb:Nat) (w w':World):Prop where
 os:w'.os=w.os
 tape:w'.tape=w.tape
 output:w'.output=w.output
 size:w'.heap.size=w.heap.size
 block:∀k,(∀i,i<N->k≠b i)->k≠sb->w'.heap[k]? =w.heap[k]?
section
variable {w w' w'':World} {g:Nat} {b:Nat->Nat} {N sb:Nat} {M:Nat->Nat->Int} {sn:Nat->Bool}
theorem Kq.refl (b:Nat->Nat) (N sb:Nat) (w:World):Kq b N sb w w:=⟨rfl,rfl,rfl,rfl,λ _ _ _=>rfl⟩
theorem Kq.trans (h:Kq b N sb w w') (k:Kq b N sb w' w''):Kq b N sb w w'':=⟨k.os.trans h.os,k.tape.trans h.tape,k.output.trans h.output,k.size.trans h.size,λ i h1 h2=>(k.block i h1 h2).trans (h.block i h1 h2)⟩
theorem Kq.set (h:Kq b N sb w w') {i:Nat} (hi:i<N) (j:Nat) (v:Value):Kq b N sb w (w'.setCell ⟨b i,j,none⟩ v):=
 h.trans ⟨rfl,rfl,rfl,by simp,λ k h1 _=>Below.heap_setCell _ _ _ _ (h1 i hi)⟩
theorem Mat.set (h:Mat w g b N M) {x y:Nat} (hx:x<N) (hy:y<N) (v:Int):Mat (w.setCell ⟨b x,y,none⟩ (.int .i64 v)) g b N (λ i j=>if i=x/\j=y then v else M i j):=by
 refine ⟨λ i hi=>?_,λ i j hi hj=>⟨?_,?_⟩,h.inj,h.off⟩
 ·rw [World.cell?_setCell_far _ _ _ _ (by show b x≠g;exact h.off x hx)]
  exact h.out i hi
 ·by_cases e:i=x/\j=y
  ·obtain ⟨rfl,rfl⟩:=e
   rw [if_pos ⟨rfl,rfl⟩];exact World.cell?_setCell_same _ _ _ (h.row i j hi hj).1
  ·rw [if_neg e,World.cell?_setCell_other]
   ·exact (h.row i j hi hj).1
   ·intro k
    injection k with k1 k2
    exact e ⟨(h.inj x i hx hi k1).symm,k2.symm⟩
 ·rw [World.frozen?_setCell];exact (h.row i j hi hj).2
theorem Sn.set (h:Sn w sb N sn) {x:Nat} (hx:x<N) (v:Bool):Sn (w.setCell ⟨sb,x,none⟩ (.bool v)) sb N (λ j=>if j=x then v else sn j):=λ j hj=>by
 refine ⟨?_,by rw [World.frozen?_setCell];exact (h j hj).2⟩;by_cases e:j=x
 ·subst e
  show _=some (Value.bool (if j=j then v else sn j));rw [if_pos rfl];exact World.cell?_setCell_same _ _ _ (h j hj).1
 ·show _=some (Value.bool (if j=x then v else sn j))
  rw [if_neg e,World.cell?_setCell_other]
  ·exact (h j hj).1
  ·intro k
   injection k with _ k2
   exact e k2.symm
end
def Gone (M:Nat->Nat->Int):List Nat->Prop
 | x::y::r=>1<=M x y/\Gone M (y::r)
 | _=>True
def PushPost (w:World) (g:Nat) (b:Nat->Nat) (N sb x tg:Nat) (M:Nat->Nat->Int) (sn:Nat->Bool) (e:Ending) (w':World):Prop:=
 ∃M' sn',Mat w' g b N M'/\Sn w' sb N sn'/\Kq b N sb w w'/\(∀j,sn j=true->sn' j=true)/\
  ((e= .returned (.bool true)/\∃vs:List Nat,vs.head? =some x/\vs.getLast? =some tg/\vs.Nodup/\(∀v∈vs,v<N/\sn v=false)/\Gone M vs/\M'=tkP M vs)\/
   (e= .returned (.bool false)/\M'=M/\sn' x=true/\∀z,z<N->sn' z=true->sn z=false->z≠tg/\∀y,y<N->0<M z y->sn' y=true))
end Go.Proofs.YtebcjaenhiiflaaGreatDoor.S
namespace Go.Proofs.YtebcjaenhiiflaaGreatDoor.S
open Go Go.ChangeMaps Go.MapKept Go.WideShapes
open Go.RowKit Go.WideMaps Go.Maps F
structure Trying (w wq:World) (g:Nat) (b:Nat->Nat) (N sb x tg:Nat) (M:Nat->Nat->Int) (sn sn':Nat->Bool) (j:Nat):Prop where
 mat:Mat wq g b N M
 seen:Sn wq sb N sn'
 kept:Kq b N sb w wq
 mono:∀z,sn z=true->sn' z=true
 here:sn' x=true
 tried:∀y,y<j->0<M x y->sn' y=true
 done:∀z,z<N->sn' z=true->sn z=false->z≠x->z≠tg/\∀y,y<N->0<M z y->sn' y=true
section
variable {w wq w':World} {g:Nat} {b:Nat->Nat} {N sb x tg j:Nat} {M:Nat->Nat->Int} {sn sn':Nat->Bool}
theorem Trying.skip (h:Trying w wq g b N sb x tg M sn sn' j) (hs:¬0<M x j\/sn' j=true):Trying w wq g b N sb x tg M sn sn' (j+1):=
 ⟨h.mat,h.seen,h.kept,h.mono,h.here,λ y hy hm=>by
   by_cases e:y=j
   ·subst e
    rcases hs with k | k
    ·exact absurd hm k
    ·exact k
   ·exact h.tried y (by omega) hm,h.done⟩
theorem Trying.fail (h:Trying w wq g b N sb x tg M sn sn' j) {sn2:Nat->Bool} (hm:Mat w' g b N M) (hs:Sn w' sb N sn2) (hk:Kq b N sb wq w') (mono:∀z,sn' z=true->sn2 z=true) (hj:sn2 j=true) (hd:∀z,z<N->sn2 z=true->sn' z=false->z≠tg/\∀y,y<N->0<M z y->sn2 y=true):Trying w w' g b N sb x tg M sn sn2 (j+1):=by
 refine ⟨hm,hs,h.kept.trans hk,λ z hz=>mono z (h.mono z hz),mono x h.here,λ y hy hmy=>?_,λ z hz h1 h2 h3=>?_⟩
 ·by_cases e:y=j
  ·subst e;exact hj
  ·exact mono y (h.tried y (by omega) hmy)
 ·cases hq:sn' z with
  | true=>
    obtain ⟨k1,k2⟩:=h.done z hz hq h2 h3;exact ⟨k1,λ y hy hmy=>mono y (k2 y hy hmy)⟩
  | false=>exact hd z hz h1 hq
theorem Trying.none (h:Trying w wq g b N sb x tg M sn sn' N) (hne:x≠tg):PushPost w g b N sb x tg M sn (.returned (.bool false)) wq:=
 ⟨M,sn',h.mat,h.seen,h.kept,h.mono,.inr ⟨rfl,rfl,h.here,λ z hz h1 h2=>by
   by_cases e:z=x
   ·subst e;exact ⟨hne,λ y hy hmy=>h.tried y hy hmy⟩
   ·exact h.done z hz h1 h2 e⟩⟩
end
end Go.Proofs.YtebcjaenhiiflaaGreatDoor.S
namespace Go.Proofs.YtebcjaenhiiflaaGreatDoor.S
open Go Go.ChangeMaps Go.MapKept Go.WideShapes
open Go.RowKit Go.WideMaps Go.Maps F
structure FillM (M0 M:Nat->Nat->Int) (N a tg:Nat) (k:Int):Prop where
 pos:∀i j,0<=M i j
 sum:∀i j,M i j+M j i=M0 i j+M0 j i
 cut:∀S:Int->Bool,S (a:Int)=true->S (tg:Int)=false->capM M N S=capM M0 N S-k
theorem row_nonneg {M:Nat->Nat->Int} (h:∀i j,0<=M i j) (S:Int->Bool) (i:Nat):∀n,0<=rowM M S i n
 | 0=>Int.le_refl _
 | n+1=>by
   have:=row_nonneg h S i n;have:=h i n;simp only [rowM];split <;> omega
theorem sum_nonneg {M:Nat->Nat->Int} (h:∀i j,0<=M i j) (N:Nat) (S:Int->Bool):∀n,0<=sumM M N S n
 | 0=>Int.le_refl _
 | n+1=>by
   have:=sum_nonneg h N S n;have:=row_nonneg h S n N;simp only [sumM];omega
theorem row_zero {M:Nat->Nat->Int} {S:Int->Bool} {i:Nat}:∀n:Nat,(∀j:Nat,j<n->S (i:Int)=true->S (j:Int)=false->M i j=0)->rowM M S i n=0
 | 0,_=>rfl
 | n+1,h=>by
   have ih:=row_zero n (λ j hj=>h j (by omega));have h1:=h n (by omega);simp only [rowM,ih];cases h2:S (i:Int) <;> cases h3:S (n:Int) <;> simp
   exact h1 h2 h3
theorem sum_zero {M:Nat->Nat->Int} {N:Nat} {S:Int->Bool}:∀n:Nat,(∀i j:Nat,i<n->j<N->S (i:Int)=true->S (j:Int)=false->M i j=0)->sumM M N S n=0
 | 0,_=>rfl
 | n+1,h=>by
   have ih:=sum_zero n (λ i j hi=>h i j (by omega));have:=row_zero (M:=M) (S:=S) (i:=n) N (λ j hj=>h n j (by omega) hj);simp only [sumM,ih,this];rfl
theorem FillM.start {M0:Nat->Nat->Int} {N a tg:Nat} (h:∀i j,0<=M0 i j):FillM M0 M0 N a tg 0:=⟨h,λ _ _=>rfl,λ _ _ _=>by omega⟩
theorem FillM.le {M0 M:Nat->Nat->Int} {N a tg:Nat} {k:Int} (h:FillM M0 M N a tg k) {S:Int->Bool} (h1:S (a:Int)=true) (h2:S (tg:Int)=false):k<=capM M0 N S:=by
 have:=h.cut S h1 h2;have:=sum_nonneg h.pos N S N;unfold capM at*;omega
theorem FillM.done {M0 M:Nat->Nat->Int} {N a tg:Nat} {k most:Int} (h:FillM M0 M N a tg k) (h0:0<=k) (hm:k<=most) (S:Int->Bool) (h1:S (a:Int)=true) (h2:S (tg:Int)=false) (hz:∀i j:Nat,i<N->j<N->S (i:Int)=true->S (j:Int)=false->M i j=0):Val (capM M0 N) a tg most k:=
 ⟨h0,hm,λ _ k1 k2=>h.le k1 k2,.inr ⟨S,h1,h2,by
   have h3:=h.cut S h1 h2;have h4:=sum_zero (M:=M) (N:=N) (S:=S) N hz;have h5:capM M N S=0:=h4;rw [h5] at h3;omega⟩⟩
theorem FillM.most {M0 M:Nat->Nat->Int} {N a tg:Nat} {most:Int} (h:FillM M0 M N a tg most) (h0:0<=most):Val (capM M0 N) a tg most most:=
 ⟨h0,Int.le_refl _,λ _ h1 h2=>h.le h1 h2,.inl rfl⟩
structure Ka (b:Nat->Nat) (N:Nat) (w w':World):Prop where
 os:w'.os=w.os
 tape:w'.tape=w.tape
 output:w'.output=w.output
 size:w.heap.size<=w'.heap.size
 block:∀k,k<w.heap.size->(∀i,i<N->k≠b i)->w'.heap[k]? =w.heap[k]?
theorem Ka.refl (b:Nat->Nat) (N:Nat) (w:World):Ka b N w w:=⟨rfl,rfl,rfl,Nat.le_refl _,λ _ _ _=>rfl⟩
theorem Ka.trans {b:Nat->Nat} {N:Nat} {w w' w'':World} (h:Ka b N w w') (k:Ka b N w' w''):Ka b N w w'':=⟨k.os.trans h.os,k.tape.trans h.tape,k.output.trans h.output,Nat.le_trans h.size k.size,λ i h1 h2=>(k.block i (Nat.lt_of_lt_of_le h1 h.size) h2).trans (h.block i h1 h2)⟩
theorem Ka.of_below {b:Nat->Nat} {N:Nat} {w w':World} (h:Below w.heap.size w w'):Ka b N w w':=⟨h.os,h.tape,h.output,h.size,λ k hk _=>h.block k hk⟩
theorem Mat.below {w w':World} {g:Nat} {b:Nat->Nat} {N:Nat} {M:Nat->Nat->Int} (h:Mat w g b N M) (hb:Below w.heap.size w w'):Mat w' g b N M:=
 ⟨λ i hi=>cell_below (h.out i hi) hb,λ i j hi hj=>⟨cell_below (h.row i j hi hj).1 hb,by
   have hl:=lt_of_cell (h.row i j hi hj).1;have:=(h.row i j hi hj).2;unfold World.frozen? at this ⊢;rw [hb.block _ hl];exact this⟩,h.inj,h.off⟩
theorem Mat.lt {w:World} {g:Nat} {b:Nat->Nat} {N:Nat} {M:Nat->Nat->Int} (h:Mat w g b N M) (hN:0<N):g<w.heap.size/\∀i,i<N->b i<w.heap.size:=
 ⟨lt_of_cell (h.out 0 hN),λ i hi=>lt_of_cell (h.row i 0 hi hN).1⟩
structure Rows1 (w wq:World) (n i:Nat):Prop where
 out:∀j,j<n->w.heap.size<wq.heap.size/\wq.cell? ⟨w.heap.size,j,none⟩=some (if j<i then .slice (some ⟨w.heap.size+1+j,0,none⟩) n n else .slice none 0 0)/\wq.frozen? ⟨w.heap.size,j,none⟩=false
 row:∀k j,k<i->j<n->wq.cell? ⟨w.heap.size+1+k,j,none⟩=some (.int .i64 0)/\wq.frozen? ⟨w.heap.size+1+k,j,none⟩=false
 size:wq.heap.size=w.heap.size+1+i
 bel:Below w.heap.size w wq
theorem made_cell (w:World) (v:Value) (n:Nat) (t:TypeId) (j:Nat) (hj:j<n):(w.alloc (.cells (madeCells #[v] n) t)).cell? ⟨w.heap.size,j,none⟩=some v/\(w.alloc (.cells (madeCells #[v] n) t)).frozen? ⟨w.heap.size,j,none⟩=false:=by
 have hh:=heap_alloc_new w (.cells (madeCells #[v] n) t);obtain ⟨W,hW⟩:∃W,w.alloc (.cells (madeCells #[v] n) t)=W:=⟨_,rfl⟩;rw [hW] at hh ⊢;have hc:(madeCells #[v] n)[j]? =some v:=by simp [madeCells,hj,Nat.mod_one]
 exact ⟨by simp [World.cell?,hh,hc],by simp [World.frozen?,hh]⟩
theorem Rows1.start (w:World) (n:Nat):Rows1 w (w.alloc (.cells (madeCells #[.slice none 0 0] n) 48)) n 0:=
 ⟨λ j hj=>⟨by simp,by rw [if_neg (by omega)];exact (made_cell w _ n 48 j hj).1,(made_cell w _ n 48 j hj).2⟩,λ k j hk=>by omega,by simp,(Below.refl _ _).alloc (Nat.le_refl _) _⟩
theorem frozen_below {w w':World} {k i:Nat} {f:Bool} (h:w.frozen? ⟨k,i,none⟩=f) (hk:k<w.heap.size) (hb:Below w.heap.size w w'):w'.frozen? ⟨k,i,none⟩=f:=by
 unfold World.frozen? at h ⊢;rw [hb.block k hk];exact h
theorem Rows1.next {w wq:World} {n i:Nat} (h:Rows1 w wq n i) (hi:i<n):Rows1 w ((wq.alloc (.cells (madeCells #[.int .i64 0] n) 3)).setCell ⟨w.heap.size,i,none⟩ (.slice (some ⟨wq.heap.size,0,none⟩) n n)) n (i+1):=by
 have hbA:Below wq.heap.size wq (wq.alloc (.cells (madeCells #[.int .i64 0] n) 3)):=(Below.refl _ _).alloc (Nat.le_refl _) _;have hlt:=(h.out i hi).1;refine ⟨λ j hj=>⟨by simp;omega,?_,?_⟩,λ k j hk hj=>?_,by simp [h.size];omega,?_⟩
 ·by_cases e:j=i
  ·subst e
   rw [if_pos (by omega),<-h.size];exact World.cell?_setCell_same _ _ _ (cell_below (h.out j hj).2.1 hbA)
  ·rw [World.cell?_setCell_other _ _ _ _ (λ k=>by injection k with _ k2;exact e k2.symm)]
   rw [cell_below (h.out j hj).2.1 hbA];by_cases c:j<i
   ·rw [if_pos c,if_pos (by omega)]
   ·rw [if_neg c,if_neg (by omega)]
 ·rw [World.frozen?_setCell];exact frozen_below (h.out j hj).2.2 hlt hbA
 ·rw [World.cell?_setCell_far _ _ _ _ (by show w.heap.size≠w.heap.size+1+k;omega),World.frozen?_setCell]
  by_cases e:k=i
  ·subst e
   rw [<-h.size];exact made_cell wq _ n 3 j hj
  ·have h1:=h.row k j (by omega) hj
   exact ⟨cell_below h1.1 hbA,frozen_below h1.2 (lt_of_cell h1.1) hbA⟩
 ·exact (h.bel.trans (hbA.mono h.bel.size)).setCell (Nat.le_refl _) _
end Go.Proofs.YtebcjaenhiiflaaGreatDoor.S
