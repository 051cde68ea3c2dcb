import Derived.Test.YtebcjaenhiiflaaGreatDoorQJb
import Derived.Test.YtebcjaenhiiflaaGreatDoorQOc
set_option maxHeartbeats 1000000
set_option maxRecDepth 100000
namespace Go.Proofs.YtebcjaenhiiflaaGreatDoor.I
open Go.RowKit Go.WideMaps Go.Maps Go.Lib
structure IAt (w0 w:World) (x p q n:Nat) (v:Value) (L R B:List G.E) (W T:List Nat) (D:DataW Unit) (pw bw pt bt mp N:Nat):Prop where
 ix:Ix w x p q
 gra:G.GAt w w0.heap.size 168 61 p (n:Int) v L
 rn:S.Rn w0 w q pw bw pt bt mp n R B W T D N
 ok:Ok n L
 perm:R.Perm L
 hx:w0.heap.size<=x
 hp:w0.heap.size<=p
variable {w0 w w':World} {x p q n:Nat} {v:Value} {L R B:List G.E} {W T:List Nat} {D:DataW Unit} {pw bw pt bt mp N:Nat}
theorem IAt.below' (h:IAt w0 w x p q n v L R B W T D pw bw pt bt mp N) (hb:Below w.heap.size w w'):IAt w0 w' x p q n v L R B W T D pw bw pt bt mp N:=
 {h with ix:=h.ix.below hb h.ix.lt,gra:=h.gra.below hb,rn:=h.rn.below' hb}
theorem own61 {B':Nat} {L:List G.E} (h:G.Owns w B' 61 v L) {g:Nat} (hg:v.ownBlock=some g):∃cur,w.heap[g]? =some (.cells cur 61):=by
 rcases h.2 with ⟨rfl,_⟩ | ⟨g',cap,cur,rfl,_,hc,_⟩
 ·simp [Value.ownBlock] at hg
 ·simp [Value.ownBlock] at hg
  subst hg;exact ⟨_,hc⟩
theorem kept_other {B' p':Nat} {m:Int} (h:G.GAt w B' 168 61 p' m v L) (k:G.Kept p' v.ownBlock w w') {g:Nat} {o:Obj} (hg:w.heap[g]? =some o) (h1:∀cur,o≠ .cells cur 168) (h2:∀cur,o≠ .cells cur 61):w'.heap[g]? =some o:=by
 rw [k.block g (G.lt_of_some hg) ?_ ?_]
 ·exact hg
 ·rintro rfl
  have:=hg.symm.trans h.hp;injection this with this
  exact h1 _ this
 ·intro e
  obtain ⟨cur,hc⟩:=own61 h.row e.symm;have:=hg.symm.trans hc;injection this with this
  exact h2 _ this
theorem bk_other (hb:S.BAt w q pw bw pt bt mp N W T D) (k:S.Bk bw bt mp w w') {g t:Nat} {cur:Array Value} (hg:w.heap[g]? =some (.cells cur t)) (ht:t≠3):w'.heap[g]? =some (.cells cur t):=by
 obtain ⟨es,c,hm⟩:=hb.mobj;rw [k.block g (G.lt_of_some hg) ?_ ?_ ?_]
 ·exact hg
 ·rintro rfl
  have:=hg.symm.trans hb.sw.hb;simp at this;exact ht this.2
 ·rintro rfl
  have:=hg.symm.trans hb.st.hb;simp at this;exact ht this.2
 ·rintro rfl
  have:=hg.symm.trans hm;simp at this
theorem bat_kept {B' p':Nat} {m:Int} (hb:S.BAt w q pw bw pt bt mp N W T D) (h:G.GAt w B' 168 61 p' m v L) (k:G.Kept p' v.ownBlock w w'):S.BAt w' q pw bw pt bt mp N W T D:=by
 obtain ⟨es,c,hm,F,hs,hD⟩:=hb.hm;exact ⟨kept_other h k hb.hp (by simp) (by simp),⟨kept_other h k hb.sw.hp (by simp) (by simp),kept_other h k hb.sw.hb (by simp) (by simp)⟩,⟨kept_other h k hb.st.hp (by simp) (by simp),kept_other h k hb.st.hb (by simp) (by simp)⟩,⟨es,c,kept_other h k hm (by simp) (by simp),F,hs,hD⟩,hb.pp,hb.bb⟩
theorem gat_bk {B' p':Nat} {m:Int} (hb:S.BAt w q pw bw pt bt mp N W T D) (h:G.GAt w B' 168 61 p' m v L) (k:S.Bk bw bt mp w w'):G.GAt w' B' 168 61 p' m v L:=by
 refine ⟨bk_other hb k h.hp (by decide),⟨h.row.1,?_⟩,h.ne⟩;rcases h.row.2 with hn | ⟨g,cap,cur,rfl,hB,hg,rest⟩
 ·exact .inl hn
 ·exact .inr ⟨g,cap,cur,rfl,hB,bk_other hb k hg (by decide),rest⟩
theorem below_kept' {o:Option Nat} {p':Nat} (h:Below w0.heap.size w0 w) (k:G.Kept p' o w w') (h1:w0.heap.size<=p') (h2:∀j,o=some j->w0.heap.size<=j):Below w0.heap.size w0 w':=
 ⟨k.os.trans h.os,k.tape.trans h.tape,k.output.trans h.output,Nat.le_trans h.size k.size,λ j hj=>(k.block j (Nat.lt_of_lt_of_le hj h.size) (by omega) (λ e=>by have:=h2 j e.symm;omega)).trans (h.block j hj)⟩
theorem IAt.graph (h:IAt w0 w x p q n v L R B W T D pw bw pt bt mp N) (k:G.Kept p v.ownBlock w w'):Ix w' x p q/\S.Rn w0 w' q pw bw pt bt mp n R B W T D N:=
 ⟨kept_other h.gra k h.ix (by simp) (by simp),{h.rn with now:=⟨bat_kept h.rn.now.at_ h.gra k,h.rn.now.st,h.rn.now.dis⟩,below:=below_kept' h.rn.below k h.hp (λ j hj=>(h.gra.lt hj).1)}⟩
theorem edg_edge (id:Int) (a b:Nat):S.edge id a b=edg id (a:Int) (b:Int):=by
 unfold S.edge edg;simp only [Prod.mk.injEq,true_and];omega
structure Ikp (p:Nat) (o:Option Nat) (bw bt mp:Nat) (w w':World):Prop where
 os:w'.os=w.os
 tape:w'.tape=w.tape
 output:w'.output=w.output
 size:w.heap.size<=w'.heap.size
 block:∀k,k<w.heap.size->k≠p->some k≠o->k≠bw->k≠bt->k≠mp->w'.heap[k]? =w.heap[k]?
instance (id a b n:Int):Decidable (G.InRange id a b n):=by unfold G.InRange;infer_instance
def addC (n:Nat) (L:List G.E) (id a b:Int):Int:=
 if ¬G.InRange id a b (n:Int) then 2 else if a=b then 1 else if (G.seen L id).isSome then 9 else if 120<=L.length then 12 else 0
theorem seen_iff {L:List G.E} (hu:G.Up L) (id:Int):G.seen L id=none↔∀x∈L,x.1≠id:=by
 constructor
 ·intro h x hx e
  rw [G.seen_some hu hx e] at h;cases h
 ·exact G.seen_none
theorem addC_zero {n:Nat} {L:List G.E} (h:Ok n L) (id a b:Int):addC n L id a b=0↔Fits n L id a b:=by
 unfold addC Fits G.InRange;have hs:=seen_iff h.up id;split
 ·next k=>exact ⟨λ h=>(by cases h),λ f=>absurd ⟨f.1,f.2.1,f.2.2.1⟩ k⟩
 ·next k=>
  have k:=Classical.not_not.1 k;split
  ·next e=>exact ⟨λ h=>(by cases h),λ f=>absurd e f.2.2.2.1⟩
  ·next e=>
   cases hx:G.seen L id with
   | some y=>
     rw [if_pos (by simp)];refine ⟨λ h=>(by cases h),λ f=>?_⟩;have:=hs.2 f.2.2.2.2.1;rw [hx] at this;cases this
   | none=>
     rw [if_neg (by simp)];have h1:=hs.1 hx;split
     ·next l=>exact ⟨λ h=>(by cases h),λ f=>by have:=f.2.2.2.2.2;omega⟩
     ·next l=>exact ⟨λ _=>⟨k.1,k.2.1,k.2.2,e,h1,by omega⟩,λ _=>rfl⟩
theorem gadd_no {m:Nat} (h:G.GAt w m 168 61 p (n:Int) v L) (hok:Ok n L) (id a b:Int) (hc:addC n L id a b≠0):
 Calls Tryz.prog 56 #[.pointer (some ⟨p,0,none⟩),.int .i64 id,.int .i64 a,.int .i64 b] w λ e w'=>e= .returned (.iface 23 (.int .i64 (addC n L id a b)))/\Below w.heap.size w w':=by
 unfold addC at hc ⊢;split
 ·next k=>exact G.add_range id a b (n:Int) m p v L w h k
 ·next k=>
  rw [if_neg k] at hc;have k:=Classical.not_not.1 k;split
  ·next e=>subst e;exact G.add_arg id a (n:Int) m p v L w h k
  ·next e=>
   rw [if_neg e] at hc;split
   ·next hs=>exact G.add_twice id a b (n:Int) m p v L w h hok.up hok.len k e hs
   ·next hs=>
    rw [if_neg hs] at hc;have hs':G.seen L id=none:=by cases hq:G.seen L id <;> simp_all
    split
    ·next l=>exact G.add_full id a b (n:Int) m p v L w h hok.up hok.len k e hs' l
    ·next l=>rw [if_neg l] at hc;exact absurd rfl hc
theorem iadd_no (id a b:Int) (w:World) (h:IAt w0 w x p q n v L R B W T D pw bw pt bt mp N) (hc:addC n L id a b≠0):
 Calls Tryz.prog 21 #[.pointer (some ⟨x,0,none⟩),.int .i64 id,.int .i64 a,.int .i64 b] w λ e w'=>e= .returned (.tuple #[.bool false,.iface 23 (.int .i64 (addC n L id a b))])/\Below w.heap.size w w':=by
 have HA:Hid _:=gadd_no h.gra h.ok id a b hc;have c0:=h.ix.c0;generalize addC n L id a b=c at*;clear h;go_enter Tryz.func21,Tryz.ntmps21;go_wp2_with (go_at_call 56;refine Calls.mono HA.out ?_;rintro e w1 ⟨rfl,hb⟩);go_ret2;exact ⟨rfl,hb⟩
def IaddPost (w0 w:World) (x p q n:Nat) (v:Value) (L R:List G.E) (pw bw pt bt mp:Nat) (id a b:Int) (e:Ending) (w':World):Prop:=
 ∃ok v' B' W' T' D' N',e= .returned (.tuple #[.bool ok,.nilIface])/\IAt w0 w' x p q n v' (G.putE L (edg id a b)) (R++[edg id a b]) B' W' T' D' pw bw pt bt mp N'/\(ok=true↔edg id a b∈B')/\Ikp p v.ownBlock bw bt mp w w'/\(∀k,v'.ownBlock=some k->v.ownBlock=some k\/w.heap.size<=k)
theorem iadd_ok (id:Int) (a b:Nat) (w:World) (h:IAt w0 w x p q n v L R B W T D pw bw pt bt mp N) (hf:Fits n L id (a:Int) (b:Int)):
 Calls Tryz.prog 21 #[.pointer (some ⟨x,0,none⟩),.int .i64 id,.int .i64 (a:Int),.int .i64 (b:Int)] w (IaddPost w0 w x p q n v L R pw bw pt bt mp id (a:Int) (b:Int)):=by
 have HH:Hid (IAt w0 w x p q n v L R B W T D pw bw pt bt mp N):=h;have HF:Hid (Fits n L id (a:Int) (b:Int)):=hf;have hsn:G.seen L id=none:=(seen_iff h.ok.up id).2 hf.2.2.2.2.1;have HA:Hid _:=G.add_ok id (a:Int) (b:Int) (n:Int) (min (a:Int) (b:Int)) (max (a:Int) (b:Int)) w0.heap.size p v L (G.putE L (edg id (a:Int) (b:Int))) w h.gra h.rn.below.size h.ok.up hf.2.2.2.2.2 ⟨hf.1,hf.2.1,hf.2.2.1⟩ hf.2.2.2.1 hsn rfl rfl rfl;have c0:=h.ix.c0;clear h hf;go_enter Tryz.func21,Tryz.ntmps21;go_wp2_with (go_at_call 56;refine Calls.mono HA.out ?_;rintro e w1 ⟨rfl,v1,hg1,hk1,hf1⟩;have c1:=(HH.out.graph hk1).1.c1);obtain ⟨hx1,hr1⟩:=HH.out.graph hk1;have HG1:Hid (G.GAt w1 w0.heap.size 168 61 p (n:Int) v1 (G.putE L (edg id (a:Int) (b:Int)))):=hg1;have HK1:Hid (G.Kept p v.ownBlock w w1):=hk1;have HF1:Hid (G.Fresh w v v1):=hf1;have HX1:Hid (Ix w1 x p q):=hx1;have HR1:Hid (S.Rn w0 w1 q pw bw pt bt mp n R B W T D N):=hr1;have HB:Hid _:=S.rn_add hr1 id a b (by have:=HF.out;unfold Fits at this;omega) (by have:=HF.out;unfold Fits at this;omega) (λ e=>HF.out.2.2.2.1 (by rw [e])) HH.out.ok.n40 HF.out.1 (λ e he=>HF.out.2.2.2.2.1 e (HH.out.perm.mem_iff.1 he)) (by rw [HH.out.perm.length_eq];exact HF.out.2.2.2.2.2);clear hg1 hk1 hf1 hx1 hr1 HA c0 hsn;refine Calls.mono HB.out ?_;rintro e w2 ⟨ok,B',W',T',D',N',rfl,hr2,hk2,hok⟩;go_wp2_with fail;go_ret2;rw [edg_edge] at hr2 hok;refine ⟨ok,v1,B',W',T',D',N',rfl,⟨bk_other HR1.out.now.at_ hk2 HX1.out (by decide),gat_bk HR1.out.now.at_ HG1.out hk2,hr2,HH.out.ok.put HF.out,?_,HH.out.hx,HH.out.hp⟩,hok,?_,HF1.out⟩
 ·exact (List.perm_append_comm.trans (List.Perm.cons _ HH.out.perm)).trans (G.putE_perm L _).symm
 ·exact ⟨hk2.os.trans HK1.out.os,hk2.tape.trans HK1.out.tape,hk2.output.trans HK1.out.output,Nat.le_trans HK1.out.size hk2.size,λ k hk h1 h2 h3 h4 h5=>(hk2.block k (Nat.lt_of_lt_of_le hk HK1.out.size) h3 h4 h5).trans (HK1.out.block k hk h1 h2)⟩
end Go.Proofs.YtebcjaenhiiflaaGreatDoor.I
namespace Go.Proofs.YtebcjaenhiiflaaGreatDoor.I
open Go.RowKit Go.WideMaps Go.Maps Go.Lib
theorem gnew_out (n:Int) (w:World) (h:n<0\/40<n):
 Calls Tryz.prog 53 #[.int .i64 n] w λ e w'=>e= .returned (.tuple #[.pointer none,.iface 23 (.int .i64 2)])/\w'=w:=by
 by_cases h0:n<0
 ·have hd:decide (n<0)=true:=decide_eq_true h0
  go_enter Tryz.func53,Tryz.ntmps53;go_wp2_with fail;go_ret2;exact ⟨rfl,rfl⟩
 ·have h1:40<n:=by omega
  have hd:decide (n<0)=false:=decide_eq_false h0;have hd1:decide (40<n)=true:=decide_eq_true h1;go_enter Tryz.func53,Tryz.ntmps53;go_wp2_with fail;go_ret2;exact ⟨rfl,rfl⟩
theorem inew_out (n:Int) (w:World) (h:n<0\/40<n):
 Calls Tryz.prog 17 #[.int .i64 n] w λ e w'=>e= .returned (.tuple #[.pointer none,.iface 23 (.int .i64 2)])/\w'=w:=by
 have HN:Hid _:=gnew_out n w h;clear h;go_enter Tryz.func17,Tryz.ntmps17;go_wp2_with (go_at_call 53;refine Calls.mono HN.out ?_;rintro e w1 ⟨rfl,hw1⟩;subst w1);go_ret2;exact ⟨rfl,rfl⟩
def InewPost (w:World) (n:Nat) (e:Ending) (w':World):Prop:=
 ∃x p q v B W T D pw bw pt bt mp N,e= .returned (.tuple #[.pointer (some ⟨x,0,none⟩),.nilIface])/\IAt w w' x p q n v [] [] B W T D pw bw pt bt mp N
theorem inew_in (n:Nat) (w:World) (h:n<=40):Calls Tryz.prog 17 #[.int .i64 (n:Int)] w (InewPost w n):=by
 have HN:Hid _:=G.new_in (n:Int) w (by omega) (by omega);have HL:Hid (n<=40):=h;clear h;go_enter Tryz.func17,Tryz.ntmps17;go_wp2_with (go_at_call 53;refine Calls.mono HN.out ?_;rintro e w1 ⟨rfl,hw1'⟩;have HW1:Hid (w1=w.alloc (.cells #[.int .i64 (n:Int),.slice none 0 0] 168)):=hw1';clear hw1');have hw1:=HW1.out;have hg:G.GAt w1 w.heap.size 168 61 w.heap.size (n:Int) (.slice none 0 0) []:=by
  rw [hw1];exact ⟨World.alloc_heap_new w _,World.ownsRow_nil _ _ _ _,by simp [Value.ownBlock]⟩
 have hb1:Below w.heap.size w w1:=by rw [hw1];exact (Below.refl _ _).alloc (Nat.le_refl _) _
 have HG:Hid (G.GAt w1 w.heap.size 168 61 w.heap.size (n:Int) (.slice none 0 0) []):=hg;have HB1:Hid (Below w.heap.size w w1):=hb1;have HO:Hid _:=S.of_gen n w.heap.size w.heap.size (.slice none 0 0) [] w1 hg (Ok.nil HL.out);clear hg hb1 hw1 HN HW1;refine Calls.mono HO.out ?_;rintro e w2 ⟨q,pw,bw,pt,bt,mp,B,W,T,D,N,rfl,hr⟩;have HR:Hid (S.Rn w1 w2 q pw bw pt bt mp n [] B W T D N):=hr;clear hr HO;go_wp2_with fail;go_ret2;have hb:=HB1.out.size;refine ⟨w2.heap.size,w.heap.size,q,.slice none 0 0,B,W,T,D,pw,bw,pt,bt,mp,N,rfl,?_⟩;have hb2:Below w2.heap.size w2 (w2.alloc (.cells #[.pointer (some ⟨w.heap.size,0,none⟩),.pointer (some ⟨q,0,none⟩)] 85)):=(Below.refl _ _).alloc (Nat.le_refl _) _;have hr2:=HR.out.below' hb2;refine ⟨World.alloc_heap_new w2 _,(HG.out.below HR.out.below).below hb2,{hr2 with below:=HB1.out.trans (hr2.below.mono hb),hb:=⟨by have:=HR.out.hb;omega,by have:=HR.out.hb;omega,by have:=HR.out.hb;omega⟩},Ok.nil HL.out,List.Perm.refl _,Nat.le_trans hb HR.out.below.size,Nat.le_refl _⟩
end Go.Proofs.YtebcjaenhiiflaaGreatDoor.I
