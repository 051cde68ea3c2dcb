import Derived.Test.YtebcjaenhiiflaaGreatDoorQKVwFe
import Derived.Maps.GroupsBeside
set_option maxHeartbeats 4000000
set_option maxRecDepth 100000
namespace Go.Proofs.YtebcjaenhiiflaaGreatDoor.S
open Go.RowKit Go.WideMaps Go.Maps Go.ChangeShapes
structure Rs (w:World) (B n:Nat) (t:Value) (ps:List (Nat × Nat × List Nat)):Prop where
 row:w.ownsRow B 175 1 t ps.length (ps.map λ q=>Value.pointer (some ⟨q.1,0,none⟩))
 sets:∀q∈ps,SetsAt w q.1 q.2.1 q.2.2
 len:∀q∈ps,q.2.2.length=n
 off:∀k,t.ownBlock=some k->∀q∈ps,q.1≠k/\q.2.1≠k
theorem Rs.below {w w':World} {B n:Nat} {t:Value} {ps:List (Nat × Nat × List Nat)} (h:Rs w B n t ps) (hb:Below w.heap.size w w'):Rs w' B n t ps:=
 {h with row:=World.ownsRow.kept h.row (grown_below hb) (by by_cases e:t.ownBlock=none;exact .inl e;exact .inr e),sets:=λ q hq=>(h.sets q hq).below hb (h.sets q hq).plt (h.sets q hq).blt}
def apB (ps:List (Nat × Nat × List Nat)) (x y:Nat):Bool:=ps.any λ q=>decide (q.2.2.getD x 0≠q.2.2.getD y 0)
theorem apB_false {ps:List (Nat × Nat × List Nat)} {x y:Nat}:apB ps x y=false↔∀q∈ps,q.2.2.getD x 0=q.2.2.getD y 0:=by
 simp [apB]
theorem unp1_any (x y p b cx cy:Nat) (L:List Nat) (s:Bool) (w:World) (hs:SetsAt w p b L) (hx:x<L.length) (hy:y<L.length) (kx:w.cell? ⟨cx,0,none⟩=some (.int .i64 (x:Int))) (ky:w.cell? ⟨cy,0,none⟩=some (.int .i64 (y:Int))) (hv:s=true↔L.getD x 0≠L.getD y 0):
 Calls Tryz.prog 259 #[.pointer (some ⟨p,0,none⟩),.pointer (some ⟨cx,0,none⟩),.pointer (some ⟨cy,0,none⟩)] w λ e w'=>e= .returned (.bool s)/\Below w.heap.size w w':=by
 have HC:Hid _:=capart_any x y p b L s w hs hx hy hv;clear hs hx hy hv;go_enter Tryz.func259,Tryz.ntmps259;go_wp2_with fail;refine Calls.mono HC.out ?_;rintro e w1 ⟨rfl,hb⟩;have HB:Hid (Below w.heap.size w w1):=hb;clear hb HC;go_wp2_with fail;go_ret;exact ⟨rfl,HB.out⟩
theorem index_sets (x y cx cy n g m cap B:Nat) (ps:List (Nat × Nat × List Nat)) (w:World) (h:Rs w B n (.slice (some ⟨g,0,none⟩) m cap) ps) (hx:x<n) (hy:y<n) (kx:w.cell? ⟨cx,0,none⟩=some (.int .i64 (x:Int))) (ky:w.cell? ⟨cy,0,none⟩=some (.int .i64 (y:Int))) (hm:ps.length=m) (hl:m<=1000):
 Calls Tryz.prog 325 #[.slice (some ⟨g,0,none⟩) m cap,.func (.func 259) #[] #[.pointer (some ⟨cx,0,none⟩),.pointer (some ⟨cy,0,none⟩)]] w λ e w'=>((∃i,i<m/\e= .returned (.int .i64 ((i:Nat):Int))/\apB ps x y=true)\/(e= .returned (.int .i64 (-1))/\apB ps x y=false))/\Below w.heap.size w w':=by
 have HO:Hid (Rs w B n (.slice (some ⟨g,0,none⟩) m cap) ps/\ps.length=m):=⟨h,hm⟩;have HK:Hid (w.cell? ⟨cx,0,none⟩=some (.int .i64 (x:Int))/\w.cell? ⟨cy,0,none⟩=some (.int .i64 (y:Int))):=⟨kx,ky⟩;clear h hm kx ky;go_enter Tryz.func325,Tryz.ntmps325;go_wp2_with fail;go_loopw [8] (λ s8 wq=>∃k:Nat,k<=m/\s8= .int .i64 k/\(∀j q,j<k->ps[j]? =some q->q.2.2.getD x 0=q.2.2.getD y 0)/\Below w.heap.size w wq) (λ s8 _=>m-(intOf s8).toNat)
 case atStart=>exact ⟨0,Nat.zero_le _,rfl,λ j q hj=>by omega,Below.refl _ _⟩
 case round=>
  obtain ⟨k,hk,rfl,hno,hb⟩:=hrel;have HB:Hid ((∀j q,j<k->ps[j]? =some q->q.2.2.getD x 0=q.2.2.getD y 0)/\Below w.heap.size w wr):=⟨hno,hb⟩;clear hno hb;by_cases hlt:k<m
  ·obtain ⟨q,hq⟩:∃q,ps[k]? =some q:=⟨_,List.getElem?_eq_getElem (by rw [HO.out.2];exact hlt)⟩
   have hR:=HO.out.1.below HB.out.2;have hqm:=List.mem_of_getElem? hq;have r0:wr.cell? ⟨g,k,none⟩=some (.pointer (some ⟨q.1,0,none⟩)):=by
    have h1:=hR.row;rw [HO.out.2] at h1;rw [h1.cellAt k (by omega)];simp [hq]
   have HX:Hid (ps[k]? =some q):=hq;have hs:=hR.sets q hqm;have hln:=hR.len q hqm;have HC:Hid _:=unp1_any x y q.1 q.2.1 cx cy q.2.2 (decide (q.2.2.getD x 0≠q.2.2.getD y 0)) wr hs (by omega) (by omega) (cell_below HK.out.1 HB.out.2) (cell_below HK.out.2 HB.out.2) (by simp);clear hR hs hln hq;by_cases hxd:q.2.2.getD x 0≠q.2.2.getD y 0
   ·as_aux_lemma=>
    have HT:Hid (apB ps x y=true):=List.any_eq_true.2 ⟨q,hqm,decide_eq_true hxd⟩;rw [decide_eq_true hxd] at HC;clear hqm hxd;go_wp2_with fail;refine Calls.mono HC.out ?_;rintro e w2 ⟨rfl,hb2⟩;have HB2:Hid (Below w.heap.size w w2):=HB.out.2.trans (hb2.mono HB.out.2.size);clear hb2 HC;go_wp2_with fail;go_ret;exact ⟨.inl ⟨k,hlt,rfl,HT.out⟩,HB2.out⟩
   ·as_aux_lemma=>
    rw [decide_eq_false hxd] at HC;have hxe:q.2.2.getD x 0=q.2.2.getD y 0:=by omega
    have HN:Hid (q.2.2.getD x 0=q.2.2.getD y 0):=hxe;clear hqm hxd hxe;go_wp2_with fail;refine Calls.mono HC.out ?_;rintro e w2 ⟨rfl,hb2⟩;have HB2:Hid (Below w.heap.size w w2/\∀j q,j<k+1->ps[j]? =some q->q.2.2.getD x 0=q.2.2.getD y 0):=⟨HB.out.2.trans (hb2.mono HB.out.2.size),λ j q' hj hq'=>by
     by_cases e:j=k
     ·rw [e,HX.out] at hq';injection hq' with hq';rw [<-hq'];exact HN.out
     ·exact HB.out.1 j q' (by omega) hq'⟩
    clear hb2 HC;go_wp2_with fail;go_roundw;case rel=>exact ⟨k+1,by omega,by go_num,HB2.out.2,HB2.out.1⟩
    case measure=>simp [intOf];omega
  ·as_aux_lemma=>
   have hke:k=m:=by omega
   have HF:Hid (apB ps x y=false):=apB_false.2 (λ q hq=>by
    obtain ⟨j,hj⟩:=List.getElem?_of_mem hq;have:=(List.getElem?_eq_some_iff.1 hj).1;exact HB.out.1 j q (by have:=HO.out.2;omega) hj)
   go_wp2_with fail;go_ret;exact ⟨.inr ⟨rfl,HF.out⟩,HB.out.2⟩
theorem contains_sets (x y cx cy n g m cap B:Nat) (ps:List (Nat × Nat × List Nat)) (w:World) (h:Rs w B n (.slice (some ⟨g,0,none⟩) m cap) ps) (hx:x<n) (hy:y<n) (kx:w.cell? ⟨cx,0,none⟩=some (.int .i64 (x:Int))) (ky:w.cell? ⟨cy,0,none⟩=some (.int .i64 (y:Int))) (hm:ps.length=m) (hl:m<=1000):
 Calls Tryz.prog 258 #[.slice (some ⟨g,0,none⟩) m cap,.func (.func 259) #[] #[.pointer (some ⟨cx,0,none⟩),.pointer (some ⟨cy,0,none⟩)]] w λ e w'=>e= .returned (.bool (apB ps x y))/\Below w.heap.size w w':=by
 have HC:Hid _:=index_sets x y cx cy n g m cap B ps w h hx hy kx ky hm hl;clear h hx hy kx ky hm hl;go_enter Tryz.func258,Tryz.ntmps258;go_wp2_with fail;refine Calls.mono HC.out ?_;rintro e w1 ⟨he,hb⟩;have HB:Hid (Below w.heap.size w w1):=hb;clear hb HC;rcases he with ⟨i,hi,rfl,ht⟩ | ⟨rfl,ht⟩
 ·as_aux_lemma=>
  have h0:(0:Int)<=(i:Int):=by omega
  have HT:Hid (apB ps x y=true):=ht;clear ht;go_wp2_with fail;go_ret;exact ⟨by simp [HT.out],HB.out⟩
 ·as_aux_lemma=>
  have HT:Hid (apB ps x y=false):=ht;clear ht;go_wp2_with fail;go_ret;exact ⟨by simp [HT.out],HB.out⟩
theorem ring_edge {D:DataW Unit} {S:List Edg} {f:Edg->Nat} (h:Rm D S f) {x c1 c2:Int} {y:DataW Unit × List MemPlace} (hy:y=(.agg [.lit (.int .u64 c1),.lit (.int .u64 c2)],[])) (hat:∀zd,D.atKey (.int .i64 x) zd=y.1):∃e∈S,e.1=x/\c1=(lo64 (f e):Nat)/\c2=(hi64 (f e):Nat):=by
 obtain ⟨e,he,hx⟩:=(h.key _).1 (has_true_of_atKey hat);have hx':e.1=x:=by injection hx with _ hx;exact hx.symm
 refine ⟨e,he,hx',?_⟩;have h1:=h.val e he .nil;rw [hx',hat,hy] at h1;simp only [ringD,DataW.agg.injEq,List.cons.injEq,DataW.lit.injEq,Lit.int.injEq,true_and,and_true] at h1;exact h1
theorem groups_alloc {w:World} {base ma m:Nat} {D:DataW Unit} (h:w.ownsGroups Tryz.prog 208 base 3 .i64 ma m D) (o:Obj):(w.alloc o).ownsGroups Tryz.prog 208 base 3 .i64 ma m D:=
 h.kept (World.grownBy_alloc _ _ none) (by simp) (h.rowsAbove (λ j hj=>by cases hj))
theorem alike_step {w w1:World} {ma mb it base m:Nat} {D:DataW Unit} {Dn:Edg->Prop} {f:Edg->Nat} (hG:w1.ownsGroups Tryz.prog 208 base 3 .i64 ma m D) (hm:m<=1000) (hga:Ga D Dn f) (hf:∀d,f d<340282366920938463463374607431768211456) (e:Edg) (hwf:(Lit.int .i64 e.1).wf=true) (hbase:base<=w1.heap.size) (hma:ma<base)
 (h1:mb<base) (h2:it<base) (h3:mb≠ma) (h4:it≠ma) (hb:Below w.heap.size w w1) (hwm:w.heap.size<=ma):
 ∃v st w3 v' w4 w5 D',(Instr.mapEntry 284 (.map (some ma)) (.agg #[.int .u64 (lo64 (f e):Int),.int .u64 (hi64 (f e):Int)])).run Tryz.prog ((w1.alloc (.cells #[.int .u64 (lo64 (f e):Int),.int .u64 (hi64 (f e):Int)] 208)).alloc (.cells #[.int .i64 e.1] 3))= .ok (.tuple #[v,.int .i64 st]) w3/\
  (Builtin.append_ #[48,48] 48 #[v,.slice (some ⟨w1.heap.size+1,0,none⟩) 1 1]).run Tryz.prog w3= .ok v' w4/\
  (Instr.entryStore 284 (.map (some ma)) (.int .i64 st) v').run Tryz.prog w4= .ok () w5/\
  w5.ownsGroups Tryz.prog 208 base 3 .i64 ma (m+1) D'/\Ga D' (λ d=>Dn d\/d=e) f/\Below w.heap.size w w5/\w1.heap.size<=w5.heap.size/\
  ∀N D0 left cnt,w1.ranges Tryz.prog 3 ringR mb it N D0 left cnt->w5.ranges Tryz.prog 3 ringR mb it N D0 left cnt:=by
 obtain ⟨W2,hW2⟩:∃W2,(w1.alloc (.cells #[.int .u64 (lo64 (f e):Int),.int .u64 (hi64 (f e):Int)] 208)).alloc (.cells #[.int .i64 e.1] 3)=W2:=⟨_,rfl⟩;have hG2:W2.ownsGroups Tryz.prog 208 base 3 .i64 ma m D:=by rw [<-hW2];exact groups_alloc (groups_alloc hG _) _
 have hg2:w1.grownBy W2 none:=by rw [<-hW2];exact (World.grownBy_alloc _ _ none).trans (World.grownBy_alloc _ _ none)
 have hs2:W2.heap.size=w1.heap.size+2:=by rw [<-hW2];simp
 have hlit:W2.heap[w1.heap.size+1]? =some (.cells #[.int .i64 e.1] 3):=by
  rw [<-hW2];have:=heap_alloc_new (w1.alloc (.cells #[.int .u64 (lo64 (f e):Int),.int .u64 (hi64 (f e):Int)] 208)) (.cells #[.int .i64 e.1] 3);rw [World.size_alloc] at this;exact this
 rw [hW2];clear hW2;obtain ⟨v,zs,st,w3,hme,hat,hoi,hzl,hg3,hs3,hback⟩:=entry_groups hG2 law208 Tryz.underlying284 (zero48 _) (by unfold maxLen;omega) (rk_key (hf e));obtain ⟨i0,hi,hz0,hz1,hz2⟩:=info_parts Tryz.info3;have hlit3:w3.heap[w1.heap.size+1]? =some (.cells #[.int .i64 e.1] 3):=(hg3.block _ (lt_of_some hlit) (by simp;omega)).trans hlit;have hnews:∀j u,[Value.int .i64 e.1][j]? =some u->w3.cell? ((⟨w1.heap.size+1,0,none⟩:Addr).add j)=some u:=by
  intro j u hj
  match j,hj with
  | 0,hj=>
    simp at hj;subst hj;simp [World.cell?,Addr.add,hlit3]
  | j+1,hj=>simp at hj
 obtain ⟨v',w4,hr,r2,r3,r4,r5⟩:=run_append_own_at (P:=Tryz.prog) w3 base 48 48 3 i0 (.int .i64 0) 1 8 Tryz.underlying48 hi hz0 hz1 hz2 rfl (by decide) v zs.length (zs.map (Value.int .i64)) hoi.1 ⟨w1.heap.size+1,0,none⟩ 1 1 [.int .i64 e.1] rfl hnews (ints_oneCell .i64 [e.1]) (by unfold maxLen;omega) (by omega) (by omega);have ho':=hoi.appended r2 hwf;obtain ⟨w5,hst,hG5,hg5⟩:=hback w4 v' _ r3 ho' (by simp;omega) (r5.imp id (λ h=>⟨_,h,Nat.le_refl _⟩));have hvb:∀k,v.ownBlock=some k->base<=k:=λ k hk=>(World.ownsRow.lt hoi.1 k hk).1
 refine ⟨v,st,w3,v',w4,w5,_,hme,hr,hst,hG5,hga.more hf e hat hoi (λ n c hh=>?_),?_,?_,λ N D0 left cnt hrg=>?_⟩
 ·rw [hh] at r2
  rcases r2.2 with ⟨_,h0⟩ | ⟨g,cap,cur,hh2,_⟩
  ·omega
  ·cases hh2
 ·have b2:Below w.heap.size w W2:=hb.grown hg2 hb.size (λ j hj=>by cases hj)
  have b3:=b2.grown hg3 b2.size (λ j hj=>by injection hj with hj;omega);have b4:=b3.grown r3 b3.size (λ j hj=>by have:=hvb j hj;omega);exact b4.grown hg5 b4.size (λ j hj=>by injection hj with hj;omega)
 ·have:=r3.size
  have:=hg5.size;omega
 ·have q2:=hrg.kept hg2 (by simp) (by simp)
  have q3:=q2.kept hg3 (by simpa using h3) (by simpa using h4);have q4:=q3.kept r3 (λ hh=>by have:=hvb mb hh.symm;omega) (λ hh=>by have:=hvb it hh.symm;omega);exact q4.kept hg5 (by simpa using h3) (by simpa using h4)
theorem info175:(Tryz.prog.info? 175).map (λ i=>(i.zero,i.size,i.bytes))=some (some (.pointer none),1,8):=by kernel_rfl
theorem app_sets (W:World) (B n:Nat) (t:Value) (ps:List (Nat × Nat × List Nat)) (p b:Nat) (L:List Nat) (h:Rs W B n t ps) (hB:B<=W.heap.size) (hl:ps.length<=1000) (hs:SetsAt W p b L) (hL:L.length=n) (ho:∀k,t.ownBlock=some k->p≠k/\b≠k):
 ∃v' w',(Builtin.append_ #[212,212] 212 #[t,.slice (some ⟨W.heap.size,0,none⟩) 1 1]).run Tryz.prog (W.alloc (.cells #[.pointer (some ⟨p,0,none⟩)] 175))= .ok v' w'/\Rs w' B n v' (ps++[(p,b,L)])/\W.grownBy w' t.ownBlock/\(v'.ownBlock=t.ownBlock\/v'.ownBlock=some (W.heap.size+1))/\∃g c,v'= .slice (some ⟨g,0,none⟩) (ps.length+1) c:=by
 obtain ⟨i0,hi,hz0,hz1,hz2⟩:=info_parts info175;obtain ⟨v',w',hr,r2,r3,r4,r5⟩:=run_append_own_at (P:=Tryz.prog) (W.alloc (.cells #[.pointer (some ⟨p,0,none⟩)] 175)) B 212 212 175 i0 (.pointer none) 1 8 Tryz.underlying212 hi hz0 hz1 hz2 rfl (by decide) t ps.length (ps.map λ q=>Value.pointer (some ⟨q.1,0,none⟩)) (h.row.alloc _) ⟨W.heap.size,0,none⟩ 1 1 [.pointer (some ⟨p,0,none⟩)] rfl (cell_one_new _ _ _) (λ u hu=>by simp at hu;subst hu;rfl) (by unfold maxLen;omega) (by omega) (by simp;omega);have hg:W.grownBy w' t.ownBlock:=(World.grownBy_alloc _ _ _).trans r3;have keep:∀{p b:Nat} {L:List Nat},SetsAt W p b L->(∀k,t.ownBlock=some k->p≠k/\b≠k)->SetsAt w' p b L:=λ {p b L} h1 h2=>
  ⟨(hg.block p h1.plt (λ e=>(h2 p e.symm).1 rfl)).trans h1.hp,(hg.block b h1.blt (λ e=>(h2 b e.symm).2 rfl)).trans h1.hb⟩
 refine ⟨v',w',hr,⟨by simpa using r2,λ q hq=>?_,λ q hq=>?_,λ k hk q hq=>?_⟩,hg,by simpa using r5,?_⟩
 ·rcases List.mem_append.1 hq with hq | hq
  ·exact keep (h.sets q hq) (λ k hk=>h.off k hk q hq)
  ·rw [List.mem_singleton.1 hq];exact keep hs ho
 ·rcases List.mem_append.1 hq with hq | hq
  ·exact h.len q hq
  ·rw [List.mem_singleton.1 hq];exact hL
 ·have hlt:∀{p b:Nat} {L:List Nat},SetsAt W p b L->(∀k,t.ownBlock=some k->p≠k/\b≠k)->p≠k/\b≠k:=λ {p b L} h1 h2=>by
   rcases r5 with h5 | h5
   ·exact h2 k (h5▸hk)
   ·rw [hk] at h5
    injection h5 with h5
    simp at h5;have:=h1.plt;have:=h1.blt;constructor <;> omega
  rcases List.mem_append.1 hq with hq | hq
  ·exact hlt (h.sets q hq) (λ k hk=>h.off k hk q hq)
  ·rw [List.mem_singleton.1 hq];exact hlt hs ho
 ·rcases r2.2 with ⟨_,h0⟩ | ⟨g,cap,cur,hh2,_⟩
  ·omega
  ·exact ⟨g,cap,hh2⟩
theorem rs_one (W:World) (B n p b:Nat) (L:List Nat) (hB:B<=W.heap.size) (hs:SetsAt W p b L) (hL:L.length=n):
 Rs (W.alloc (.cells #[.pointer (some ⟨p,0,none⟩)] 175)) B n (.slice (some ⟨W.heap.size,0,none⟩) 1 1) [(p,b,L)]:=by
 have hb:Below W.heap.size W (W.alloc (.cells #[.pointer (some ⟨p,0,none⟩)] 175)):=(Below.refl _ _).alloc (Nat.le_refl _) _;refine ⟨⟨rfl,.inr ⟨W.heap.size,1,_,rfl,hB,heap_alloc_new W _,by simp,by unfold maxLen;omega,by simp,by simp⟩⟩,λ q hq=>?_,λ q hq=>?_,λ k hk q hq=>?_⟩
 ·rw [List.mem_singleton.1 hq];exact hs.below hb hs.plt hs.blt
 ·rw [List.mem_singleton.1 hq];exact hL
 ·rw [List.mem_singleton.1 hq]
  simp [Value.ownBlock] at hk;have:=hs.plt;have:=hs.blt;constructor <;> (simp only;omega)
def rests (n:Nat) (R S:List Edg) (f:Edg->Nat):List (List Nat):=lbl n R::S.map λ d=>lbl n (R.filter λ e=>decide (f e≠f d))
def alB (Ls:List (List Nat)) (x y:Nat):Bool:=Ls.all λ L=>decide (L.getD x 0=L.getD y 0)
def row3 (q:Nat->Nat->Bool) (x y:Nat):List Edg:=((List.range y).filter (q x)).map λ (z:Nat)=>((0:Int),(x:Int),(z:Int))
def tri (q:Nat->Nat->Bool):Nat->List Edg
 | 0=>[]
 | x+1=>tri q x++row3 q x x
def lab3 (n:Nat) (R S:List Edg) (f:Edg->Nat):List Nat:=lbl n (tri (alB (rests n R S f)) n)
theorem row3_succ (q:Nat->Nat->Bool) (x y:Nat):row3 q x (y+1)=row3 q x y++if q x y then [((0:Int),(x:Int),(y:Int))] else []:=by
 unfold row3;rw [List.range_succ,List.filter_append,List.map_append];by_cases h:q x y <;> simp [h]
theorem tri_in (q:Nat->Nat->Bool) (n:Nat):∀x,x<=n->Nodes n (tri q x)
 | 0,_=>λ e he=>by simp [tri] at he
 | x+1,hx=>λ e he=>by
   rcases List.mem_append.1 he with he | he
   ·exact tri_in q n x (by omega) e he
   ·obtain ⟨z,hz,rfl⟩:=List.mem_map.1 he
    have:=List.mem_range.1 (List.mem_filter.1 hz).1;refine ⟨?_,?_⟩ <;> simp [ea,eb] <;> omega
theorem row3_in (q:Nat->Nat->Bool) (n x y:Nat) (hx:x<n) (hy:y<=x):Nodes n (row3 q x y):=λ e he=>by
 obtain ⟨z,hz,rfl⟩:=List.mem_map.1 he;have:=List.mem_range.1 (List.mem_filter.1 hz).1;refine ⟨?_,?_⟩ <;> simp [ea,eb] <;> omega
theorem tri_row_in (q:Nat->Nat->Bool) (n x y:Nat) (hx:x<n) (hy:y<=x):Nodes n (tri q x++row3 q x y):=λ e he=>by
 rcases List.mem_append.1 he with he | he
 ·exact tri_in q n x (by omega) e he
 ·exact row3_in q n x y hx hy e he
theorem groups_empty {w:World} {ma base:Nat} (h:w.heap[ma]? =some (.map #[] 0)) (hb:ma<base):w.ownsGroups (H:=Unit) Tryz.prog 208 base 3 .i64 ma 0 (.map []):=
 ⟨#[],0,h,⟨by simp,MapKept.stamped_empty 0,by simp⟩,Nat.le_refl _,rfl,hb,by simp,by simp⟩
structure Lp (w7 wr:World) (base ma it M N n:Nat) (D:DataW Unit) (R S:List Edg) (f:Edg->Nat) (t:Value) (left:Lit->Bool) (cnt:Nat) (ps:List (Nat × Nat × List Nat)):Prop where
 rg:wr.ranges Tryz.prog 208 (rowElem (H:=Unit) w7 base 3 .i64) ma it N D left cnt
 rs:Rs wr w7.heap.size n t ps
 nit:∀k,t.ownBlock=some k->k≠it
 qit:∀q∈ps,q.1≠it/\q.2.1≠it
 all:∀q∈ps,q.2.2∈rests n R S f
 one:∃q∈ps,q.2.2=lbl n R
 done:∀d∈S,left (rk (f d))=false->∃q∈ps,q.2.2=lbl n (R.filter λ e=>decide (f e≠f d))
 many:ps.length+cnt<=M+1
 below:Below w7.heap.size w7 wr
 lit:it<wr.heap.size
 lma:ma<w7.heap.size
 hit:w7.heap.size<=it
section
variable {w7 wr w':World} {base ma it M N n:Nat} {D:DataW Unit} {R S:List Edg} {f:Edg->Nat} {t:Value} {left:Lit->Bool} {cnt:Nat} {ps:List (Nat × Nat × List Nat)}
theorem Lp.below' (h:Lp w7 wr base ma it M N n D R S f t left cnt ps) (hb:Below wr.heap.size wr w'):Lp w7 w' base ma it M N n D R S f t left cnt ps:=
 {h with rg:=h.rg.kept (grown_below hb) (by simp) (by simp),rs:=h.rs.below hb,below:=h.below.trans (hb.mono h.below.size),lit:=Nat.lt_of_lt_of_le h.lit hb.size}
theorem Lp.next (h:Lp w7 wr base ma it M N n D R S f t left cnt ps) {cnt':Nat} (hg:wr.grownBy w' (some it)) (hc:cnt'<cnt):
 Rs w' w7.heap.size n t ps/\Below w7.heap.size w7 w'/\it<w'.heap.size/\ps.length+1+cnt'<=M+1:=by
 refine ⟨{h.rs with row:=World.ownsRow.kept h.rs.row hg ?_,sets:=λ q hq=>?_},h.below.grown hg h.below.size (λ j hj=>by injection hj with hj;rw [<-hj];exact h.hit),Nat.lt_of_lt_of_le h.lit hg.size,by have:=h.many;omega⟩
 ·by_cases e:t.ownBlock=none
  ·exact .inl e
  ·obtain ⟨k,hk⟩:=Option.ne_none_iff_exists'.1 e
   exact .inr (λ e2=>h.nit k hk (by rw [hk] at e2;injection e2))
 ·have h1:=h.rs.sets q hq
  have h2:=h.qit q hq;exact ⟨(hg.block _ h1.plt (by simpa using h2.1)).trans h1.hp,(hg.block _ h1.blt (by simpa using h2.2)).trans h1.hb⟩
end
theorem all_alike {n:Nat} {R S:List Edg} {f:Edg->Nat} {ps:List (Nat × Nat × List Nat)} (h1:∀q∈ps,q.2.2∈rests n R S f) (h2:∃q∈ps,q.2.2=lbl n R) (h3:∀d∈S,∃q∈ps,q.2.2=lbl n (R.filter λ e=>decide (f e≠f d))) (x y:Nat):apB ps x y=!alB (rests n R S f) x y:=by
 by_cases h:alB (rests n R S f) x y=true
 ·rw [h]
  refine apB_false.2 (λ q hq=>?_);exact of_decide_eq_true (List.all_eq_true.1 h _ (h1 q hq))
 ·rw [Bool.not_eq_true] at h
  rw [h];obtain ⟨L,hL,hne⟩:=List.all_eq_false.1 h;have hne':¬L.getD x 0=L.getD y 0:=λ k=>hne (decide_eq_true k)
  rcases List.mem_cons.1 hL with rfl | hL
  ·obtain ⟨q,hq,he⟩:=h2
   exact List.any_eq_true.2 ⟨q,hq,decide_eq_true (by rw [he];exact hne')⟩
  ·obtain ⟨d,hd,rfl⟩:=List.mem_map.1 hL
   obtain ⟨q,hq,he⟩:=h3 d hd;exact List.any_eq_true.2 ⟨q,hq,decide_eq_true (by rw [he];exact hne')⟩
theorem groups_map {w:World} {base ma m:Nat} {D:DataW Unit} (h:w.ownsGroups Tryz.prog 208 base 3 .i64 ma m D):w.ownsMap Tryz.prog 208 (rowElem (H:=Unit) w base 3 .i64) ma m D:=by
 obtain ⟨es,clock,h1,h2,h3,h4,_⟩:=h;exact ⟨es,clock,h1,h2,h3,h4⟩
theorem rowsl {w:World} {base:Nat} {v:Value} {y:DataW Unit × List MemPlace} (h:rowElem (H:=Unit) w base 3 .i64 v=some y):∃c:Option Addr × Nat × Nat,v= .slice c.1 c.2.1 c.2.2:=by
 obtain ⟨zs,ho,_⟩:=rowElem_inv h;rcases ho.1.2 with ⟨hh,_⟩ | ⟨g,cap,cur,hh,_⟩
 ·exact ⟨(none,0,0),hh⟩
 ·exact ⟨(some ⟨g,0,none⟩,zs.length,cap),hh⟩
theorem alike_entry {w:World} {base ma m:Nat} {D:DataW Unit} {S:List Edg} {f:Edg->Nat} (hG:w.ownsGroups Tryz.prog 208 base 3 .i64 ma m D) (hga:Ga D (λ e=>e∈S) f) (hm:m<=1000) {key v:Value} {kl:Lit} {y:DataW Unit × List MemPlace} (hkey:keyOf Tryz.prog 208 key=some kl) (hR:rowElem (H:=Unit) w base 3 .i64 v=some y) (hat:∀zd,D.atKey kl zd=y.1):
 ∃d∈S,kl=rk (f d)/\∃zs,w.ownsInts base 3 .i64 v zs/\zs.length<=1000/\∀x,x∈zs↔∃e∈S,f e=f d/\e.1=x:=by
 obtain ⟨d,hd,rfl⟩:=(hga.key kl).1 (has_true_of_atKey hat);obtain ⟨zs,ho,rfl⟩:=rowElem_inv hR;obtain ⟨ys,h1,h2⟩:=hga.yes (f d) ⟨d,hd,rfl⟩;obtain ⟨v2,zs2,_,h3,h4,h5,_⟩:=hG.at law208 Tryz.underlying284 (zero48 _) (by unfold maxLen;omega) hkey;have e1:(rowDatum .i64 v zs:DataW Unit)= .slice (lits .i64 ys) []:=(hat .nil).symm.trans h1;have e2:(rowDatum .i64 v2 zs2:DataW Unit)= .slice (lits .i64 ys) []:=h3.symm.trans h1;have pick:∀{u:Value} {xs:List Int},(rowDatum .i64 u xs:DataW Unit)= .slice (lits .i64 ys) []->xs=ys:=λ {u xs} hh=>by
  unfold rowDatum at hh;split at hh
  ·cases hh
  ·injection hh with hh _
   exact lits_inj hh
 have z1:=pick e1;have z2:=pick e2;exact ⟨d,hd,rfl,zs,ho,by rw [z1,<-z2];omega,by rw [z1];exact h2⟩
theorem ints_of {w:World} {base:Nat} {a:Option Addr} {m c:Nat} {zs:List Int} (h:w.ownsInts base 3 .i64 (.slice a m c) zs):G.Ints w a m (λ t=>zs.getD t 0)/\zs.length=m:=by
 rcases h.1.2 with ⟨hh,h0⟩ | ⟨g,cap,cur,hh,_⟩
 ·injection hh with h1 h2 h3
  exact ⟨⟨λ hm=>by omega⟩,by omega⟩
 ·have h1:=h.1
  injection hh with e1 e2 e3
  subst e1;subst e2;refine ⟨⟨λ _=>⟨g,0,rfl,λ t ht=>?_⟩⟩,rfl⟩;rw [Nat.zero_add,h1.cellAt t (by omega)];simp [List.getElem?_eq_getElem ht]
theorem among_mem (zs:List Int) (x:Int):G.among (λ t=>zs.getD t 0) zs.length x=true↔x∈zs:=by
 constructor
 ·intro h
  simp only [G.among,List.any_eq_true,List.mem_range] at h;obtain ⟨t,ht,he⟩:=h;have:=beq_iff_eq.1 he;simp [ht] at this;rw [<-this];exact List.getElem_mem ht
 ·intro h
  obtain ⟨t,ht⟩:=List.getElem?_of_mem h;have hl:=(List.getElem?_eq_some_iff.1 ht).1;exact G.among_hit hl (by simp [ht])
theorem stays_alike {R S:List Edg} {f:Edg->Nat} {d:Edg} {zs:List Int} {F:Nat->Int} (hone:∀d∈R,∀e∈R,d.1=e.1->d=e) (hS:∀e,e∈S↔e∈R) (hz:∀x,x∈zs↔∃e∈S,f e=f d/\e.1=x):R.filter (G.stays (λ t=>zs.getD t 0) F zs.length 0)=R.filter λ e=>decide (f e≠f d):=by
 refine List.filter_congr (λ e he=>?_);have h0:∀x,G.among F 0 x=false:=λ x=>G.among_miss (λ t ht=>by omega)
 unfold G.stays;rw [h0,h0];simp only [Bool.not_false,Bool.and_true];by_cases hfe:f e=f d
 ·have:G.among (λ t=>zs.getD t 0) zs.length e.1=true:=(among_mem zs e.1).2 ((hz e.1).2 ⟨e,(hS e).2 he,hfe,rfl⟩)
  rw [this];simp [hfe]
 ·have:G.among (λ t=>zs.getD t 0) zs.length e.1=false:=by
   rw [Bool.eq_false_iff];intro hh;obtain ⟨e',he',h1,h2⟩:=(hz e.1).1 ((among_mem zs e.1).1 hh);rw [hone e' ((hS e').1 he') e he h2] at h1;exact hfe h1
  rw [this];simp [hfe]
theorem unparted_any (n B p c mb rest:Nat) (v:Value) (R S:List Edg) (f:Edg->Nat) (w0 w:World) (h:G.GAt w B 168 61 p (n:Int) v R) (hc:Cv w0 w c mb rest S f) (hok:Ok n R) (hS:∀e,e∈S↔e∈R) (hf:∀d,f d<340282366920938463463374607431768211456) (hSl:S.length<=120):
 Calls Tryz.prog 142 #[.pointer (some ⟨c,0,none⟩),.pointer (some ⟨p,0,none⟩)] w λ e w'=>∃q bq,e= .returned (.pointer (some ⟨q,0,none⟩))/\SetsAt w' q bq (lab3 n R S f)/\w.heap.size<=q/\w.heap.size<=bq/\Below w.heap.size w w':=by
 have HG:Hid (G.GAt w B 168 61 p (n:Int) v R/\Ok n R):=⟨h,hok⟩;have HS:Hid ((∀e,e∈S↔e∈R)/\(∀d,f d<340282366920938463463374607431768211456)/\S.length<=120):=⟨hS,hf,hSl⟩;obtain ⟨D0,N0,hmp,hrm,hN⟩:=hc.mp;have hmbl:mb<w.heap.size:=by
  obtain ⟨es,clock,h1,_⟩:=hmp;exact lt_of_some h1
 have HRM:Hid (Rm D0 S f):=hrm;have hN0:N0<=120:=by rw [hN];exact hSl
 have hn16:=hok.n16;have hcl:c<w.heap.size:=by obtain ⟨u,hu⟩:=hc.st;exact lt_of_some hu
 have c1:(w.alloc (.map #[] 0)).cell? ⟨c,1,none⟩=some (.map (some mb)):=by rw [World.cell?_alloc_lt _ _ _ hcl];exact hc.cell1
 have hmp':(w.alloc (.map #[] 0)).ownsMap Tryz.prog 3 ringR mb N0 D0:=hmp.alloc _;have hmm:=@run_makeMap Tryz.prog;clear h hok hS hf hSl hmp hrm hN hc;go_enter Tryz.func142,Tryz.ntmps142;go_wp2_with (first
  | (at_range;refine wpList_range_own _ rfl _ 204 rfl 3 208 law3 Tryz.underlying204 ringR mb N0 D0 rfl hmp' ?_;intro w1 hrg1 hg1 hs1)
  | fail)
 go_frame
 rw [World.size_alloc] at hrg1 hs1;rw [World.size_alloc];have HR1:Hid (w1.ranges Tryz.prog 3 ringR mb (w.heap.size+1) N0 D0 (Maps.has D0) (Maps.size D0)):=hrg1;have HB1:Hid (Below w.heap.size w w1):=((Below.refl _ _).alloc (Nat.le_refl _) _).grown hg1 (by simp) (λ j hj=>by cases hj);have HG1:Hid (w1.ownsGroups (H:=Unit) Tryz.prog 208 (w.heap.size+2) 3 .i64 w.heap.size 0 (.map [])):=groups_empty ((hg1.block _ (by simp) (by simp)).trans (heap_alloc_new w _)) (by omega);have HD0:Hid (Maps.size D0<=N0):=hmp'.size_le;clear hrg1 hg1 hmm hmp' c1;go_loopw [6] (λ _ wq=>∃(left:Lit->Bool) (cnt m:Nat) (D:DataW Unit),wq.ranges Tryz.prog 3 ringR mb (w.heap.size+1) N0 D0 left cnt/\wq.ownsGroups (H:=Unit) Tryz.prog 208 (w.heap.size+2) 3 .i64 w.heap.size m D/\Ga D (λ e=>e∈S/\left (.int .i64 e.1)=false) f/\m+cnt<=N0/\Below w.heap.size w wq/\w.heap.size+2<=wq.heap.size) (λ _ wq=>wq.rangeLeft mb (w.heap.size+1))
 case atStart=>
  refine ⟨_,_,0,_,HR1.out,HG1.out,(Ga.start f).congr (λ d=>⟨λ h=>h.elim,λ ⟨h1,h2⟩=>?_⟩),by have:=HD0.out;omega,HB1.out,by omega⟩;rw [(HRM.out.key _).2 ⟨d,h1,rfl⟩] at h2;cases h2
 case round=>
  obtain ⟨left,cnt,m,D,hrg,hgr,hga,hmc,hbl,hsz⟩:=hrel;have HRG:Hid (wr.ranges Tryz.prog 3 ringR mb (w.heap.size+1) N0 D0 left cnt):=hrg;have HGR:Hid (wr.ownsGroups (H:=Unit) Tryz.prog 208 (w.heap.size+2) 3 .i64 w.heap.size m D):=hgr;have HGA:Hid (Ga D (λ e=>e∈S/\left (.int .i64 e.1)=false) f):=hga;have HBL:Hid (Below w.heap.size w wr):=hbl;clear hrg hgr hga hbl HR1 HB1 HG1 HD0 hs1;go_wp2_with (first
   | (at_next;go_loud (refine wpList_next_ranges _ rfl _ rfl 3 law3 ringR (Value.int .i64) (λ c:Int × Int=>.agg #[.int .u64 c.1,.int .u64 c.2]) (λ key kl hkey=>by obtain ⟨x,rfl,_⟩:=Maps.keyOf_int_inv Tryz.underlying3 hkey;exact ⟨x,rfl⟩) (λ v y hv=>by obtain ⟨c,rfl,_⟩:=ringR_inv hv;exact ⟨c,rfl⟩) mb (w.heap.size+1) N0 D0 left cnt rfl HRG.out ?_ ?_))
   | fail)
  ·intro _ hl0
   have HL0:Hid (∀kl,left kl=false):=hl0;clear hl0;have HGA2:Hid (Ga D (λ e=>e∈S) f):=HGA.out.congr (λ d=>⟨λ h=>h.1,λ h=>⟨h,HL0.out _⟩⟩);have HGW:Hid (G.GAt wr B 168 61 p (n:Int) v R):=HG.out.1.below HBL.out;have hRl:R.length<=120:=HG.out.2.len;clear HGA HL0 HRG;go_wp2_with fail;refine (G.nodes_any (n:Int) B p v R _ HGW.out).mono ?_;rintro e w7 ⟨rfl,hw7⟩;subst hw7;go_wp2_with fail;refine (G.edges_any (n:Int) B p v R _ HGW.out (by omega)).mono ?_;rintro e w8 ⟨ue,rfl,hoe,hb8⟩;have HO8:Hid (G.Owns w8 w7.heap.size 61 ue R/\Below w7.heap.size w7 w8):=⟨hoe,hb8⟩;clear hoe hb8;go_wp2_with fail;refine (ctogether_any n _ ue R w8 HO8.out.1 (by omega) HG.out.2.inn (by omega)).mono ?_;rintro e w9 ⟨ps,bs,rfl,hs9,hps,hbs,hb9⟩;have HB9:Hid (Below w7.heap.size w7 w9):=HO8.out.2.trans (hb9.mono HO8.out.2.size);have hB9:=HB9.out.size;have HRS:Hid (Rs (w9.alloc (.cells #[.pointer (some ⟨ps,0,none⟩)] 175)) w7.heap.size n (.slice (some ⟨w9.heap.size,0,none⟩) 1 1) [(ps,bs,lbl n R)]):=rs_one w9 _ n ps bs _ hB9 hs9 (lb_good HG.out.2.inn.nodes).len;have hbA:Below w9.heap.size w9 (w9.alloc (.cells #[.pointer (some ⟨ps,0,none⟩)] 175)):=(Below.refl _ _).alloc (Nat.le_refl _) _;have HBA:Hid (Below w7.heap.size w7 (w9.alloc (.cells #[.pointer (some ⟨ps,0,none⟩)] 175))):=HB9.out.trans (hbA.mono hB9);have hown2:(w9.alloc (.cells #[.pointer (some ⟨ps,0,none⟩)] 175)).ownsMap Tryz.prog 208 (rowElem (H:=Unit) w7 (w.heap.size+2) 3 .i64) w.heap.size m D:=(groups_map HGR.out).kept (grown_below HBA.out) (by simp);have HPL:Hid (ps<w9.heap.size/\bs<w9.heap.size):=⟨hs9.plt,hs9.blt⟩;clear hs9 hps hbs hb9 HO8 HB9 hbA;go_wp2_with (first
    | (at_range;refine wpList_range_own _ rfl _ 284 rfl 208 48 law208 Tryz.underlying284 (rowElem (H:=Unit) w7 (w.heap.size+2) 3 .i64) w.heap.size m D rfl hown2 ?_;intro w10 hrg10 hg10 hs10)
    | fail)
   go_frame
   rw [World.size_alloc] at hrg10 hs10;rw [World.size_alloc];have hlma:w.heap.size<w7.heap.size:=by omega
   have HLP:Hid (Lp w7 w10 (w.heap.size+2) w.heap.size (w9.heap.size+1) m m n D R S f (.slice (some ⟨w9.heap.size,0,none⟩) 1 1) (Maps.has D) (Maps.size D) [(ps,bs,lbl n R)]):=by
    have hb10:Below (w9.alloc (.cells #[.pointer (some ⟨ps,0,none⟩)] 175)).heap.size (w9.alloc (.cells #[.pointer (some ⟨ps,0,none⟩)] 175)) w10:=⟨hg10.os,hg10.tape,hg10.output,hg10.size,λ k hk=>hg10.block k hk (by simp)⟩;refine ⟨hrg10,HRS.out.below hb10,λ k hk=>?_,λ q hq=>?_,λ q hq=>?_,⟨_,List.mem_singleton.2 rfl,rfl⟩,λ d hd hl=>?_,?_,HBA.out.trans (hb10.mono HBA.out.size),by omega,hlma,by omega⟩
    ·simp [Value.ownBlock] at hk;omega
    ·rw [List.mem_singleton.1 hq]
     have:=HPL.out;constructor <;> (simp only;omega)
    ·rw [List.mem_singleton.1 hq];exact List.mem_cons_self
    ·rw [(HGA2.out.key _).2 ⟨d,hd,rfl⟩] at hl
     cases hl
    ·have:=hown2.size_le
     simp;omega
   clear hrg10 hg10 hs10 hown2 HRS HBA HPL;go_loopw [8] (λ s8 wq=>∃(left:Lit->Bool) (cnt:Nat) (qs:List (Nat × Nat × List Nat)),Lp w7 wq (w.heap.size+2) w.heap.size (w9.heap.size+1) m m n D R S f s8 left cnt qs) (λ _ wq=>wq.rangeLeft w.heap.size (w9.heap.size+1))
   case atStart=>exact ⟨_,_,_,HLP.out⟩
   case round=>
    clear HLP;obtain ⟨left,cnt,qs,hlp⟩:=hrel;have HLP:Hid (Lp w7 wr (w.heap.size+2) w.heap.size (w9.heap.size+1) m m n D R S f u8 left cnt qs):=hlp;clear hlp;go_wp2_with (first
     | (at_next;refine wpList_next_ranges _ rfl _ rfl 208 law208 (rowElem (H:=Unit) w7 (w.heap.size+2) 3 .i64) (λ x:Value=>x) (λ c:Option Addr × Nat × Nat=>Value.slice c.1 c.2.1 c.2.2) (λ key kl hkey=>⟨key,rfl⟩) (λ v y hv=>rowsl hv) w.heap.size (w9.heap.size+1) m D left cnt rfl HLP.out.rg ?_ ?_)
     | fail)
    ·intro _ hl0
     have HL0:Hid (∀kl,left kl=false):=hl0;clear hl0;obtain ⟨qq,hqq⟩:∃qq,alB (rests n R S f)=qq:=⟨_,rfl⟩;have HQQ:Hid (lab3 n R S f=lbl n (tri qq n)):=by show _=_;rw [<-hqq];rfl
     have HAP:Hid (∀x y,apB qs x y=!qq x y):=λ x y=>by rw [<-hqq];exact all_alike HLP.out.all HLP.out.one (λ d hd=>HLP.out.done d hd (HL0.out _)) x y
     have hql:qs.length<=1000:=by have:=HLP.out.many;omega
     have HBW:Hid (Below w.heap.size w wr):=HBL.out.trans (HLP.out.below.mono HBL.out.size);have hws:=HBW.out.size;obtain ⟨g8,c8,rfl⟩:∃g c,u8= .slice (some ⟨g,0,none⟩) qs.length c:=by
      rcases HLP.out.rs.row.2 with ⟨_,h0⟩ | ⟨g,cap,cur,hh2,_⟩
      ·obtain ⟨q,hq,_⟩:=HLP.out.one
       rw [List.length_eq_zero_iff.1 h0] at hq;simp at hq
      ·exact ⟨g,cap,hh2⟩
     obtain ⟨m8,hm8⟩:∃m8,qs.length=m8:=⟨_,rfl⟩;have HRS:Hid (Rs wr w7.heap.size n (.slice (some ⟨g8,0,none⟩) m8 c8) qs/\qs.length=m8):=by
      have:=HLP.out.rs;rw [hm8] at this;exact ⟨this,hm8⟩
     rw [hm8];rw [hm8] at hql;clear HL0 HLP HGR HGA2 hqq hm8;go_wp2_with fail;refine (G.nodes_any (n:Int) B p v R _ (HG.out.1.below HBW.out)).mono ?_;rintro e w2 ⟨rfl,hw2⟩;subst hw2;go_wp2_with fail;refine (new_in n w2 (by omega)).mono ?_;rintro e w3 ⟨rfl,hs3,hb3⟩;have HS3:Hid (SetsAt w3 (w2.heap.size+1) w2.heap.size (lbl n (tri qq 0))/\Below w2.heap.size w2 w3):=⟨hs3,hb3⟩;clear hs3 hb3;go_wp2_with fail;refine (G.nodes_any (n:Int) B p v R _ ((HG.out.1.below HBW.out).below HS3.out.2)).mono ?_;rintro e w4 ⟨rfl,hw4⟩;subst hw4;go_wp2_with fail;go_loopw [64] (λ s64 wq=>∃x:Nat,x<=n/\s64= .int .i64 x/\SetsAt wq (w2.heap.size+1) w2.heap.size (lbl n (tri qq x))/\Below w2.heap.size w2 wq) (λ s64 _=>n-(intOf s64).toNat)
     case atStart=>exact ⟨0,Nat.zero_le _,rfl,HS3.out.1,HS3.out.2⟩
     case round=>
      clear HS3;obtain ⟨x,hx,rfl,hsx,hbx⟩:=hrel;have HX:Hid (SetsAt wr (w2.heap.size+1) w2.heap.size (lbl n (tri qq x))/\Below w2.heap.size w2 wr):=⟨hsx,hbx⟩;clear hsx hbx;by_cases hlt:x<n
      ·as_aux_lemma=>
       rename World=>wo
       have hwo:w2.heap.size+1<wo.heap.size:=HX.out.1.plt;have HX1:Hid (SetsAt (wo.alloc (.cells #[.int .i64 (x:Int)] 3)) (w2.heap.size+1) w2.heap.size (lbl n (tri qq x++row3 qq x 0))/\(wo.alloc (.cells #[.int .i64 (x:Int)] 3)).cell? ⟨wo.heap.size,0,none⟩=some (.int .i64 (x:Int))/\Below w2.heap.size w2 (wo.alloc (.cells #[.int .i64 (x:Int)] 3))):=by
        have hb1:Below wo.heap.size wo (wo.alloc (.cells #[.int .i64 (x:Int)] 3)):=(Below.refl _ _).alloc (Nat.le_refl _) _;refine ⟨?_,by simp,HX.out.2.trans (hb1.mono HX.out.2.size)⟩;have:tri qq x++row3 qq x 0=tri qq x:=by simp [row3]
        rw [this];exact HX.out.1.below hb1 HX.out.1.plt HX.out.1.blt
       clear HX;go_wp2_with fail;go_loopw [68] (λ s68 wq=>∃y:Nat,y<=x/\s68= .int .i64 y/\SetsAt wq (w2.heap.size+1) w2.heap.size (lbl n (tri qq x++row3 qq x y))/\wq.cell? ⟨wo.heap.size,0,none⟩=some (.int .i64 (x:Int))/\Below w2.heap.size w2 wq) (λ s68 _=>x-(intOf s68).toNat)
       case atStart=>exact ⟨0,Nat.zero_le _,rfl,HX1.out.1,HX1.out.2.1,HX1.out.2.2⟩
       case round=>
        clear HX1;obtain ⟨y,hy,rfl,hsy,hcy,hby⟩:=hrel;have HY:Hid (SetsAt wr (w2.heap.size+1) w2.heap.size (lbl n (tri qq x++row3 qq x y))/\wr.cell? ⟨wo.heap.size,0,none⟩=some (.int .i64 (x:Int))/\Below w2.heap.size w2 wr):=⟨hsy,hcy,hby⟩;clear hsy hby;have hwor:wo.heap.size<wr.heap.size:=lt_of_cell hcy;by_cases hlty:y<x
        ·have hb1:Below wr.heap.size wr (wr.alloc (.cells #[.int .i64 (y:Int)] 3)):=(Below.refl _ _).alloc (Nat.le_refl _) _
         have kx:(wr.alloc (.cells #[.int .i64 (y:Int)] 3)).cell? ⟨wo.heap.size,0,none⟩=some (.int .i64 (x:Int)):=cell_below hcy hb1;have ky:(wr.alloc (.cells #[.int .i64 (y:Int)] 3)).cell? ⟨wr.heap.size,0,none⟩=some (.int .i64 (y:Int)):=by simp
         have HB2:Hid (Below w2.heap.size w2 (wr.alloc (.cells #[.int .i64 (y:Int)] 3))):=HY.out.2.2.trans (hb1.mono HY.out.2.2.size);have HSY:Hid (SetsAt (wr.alloc (.cells #[.int .i64 (y:Int)] 3)) (w2.heap.size+1) w2.heap.size (lbl n (tri qq x++row3 qq x y))):=HY.out.1.below hb1 HY.out.1.plt HY.out.1.blt;have hC:=contains_sets x y wo.heap.size wr.heap.size n g8 m8 c8 w7.heap.size qs (wr.alloc (.cells #[.int .i64 (y:Int)] 3)) (HRS.out.1.below HB2.out) (by omega) (by omega) kx ky HRS.out.2 hql;rw [HAP.out x y] at hC;have HC:Hid _:=hC;have HL:Hid ((lbl n (tri qq x++row3 qq x y)).length=n):=(lb_good (tri_row_in qq n x y hlt (by omega))).len;clear hb1 hC hcy;by_cases hq:qq x y=true
         ·as_aux_lemma=>
          rw [hq] at HC;go_wp2_with fail;refine Calls.mono HC.out ?_;rintro e w5 ⟨rfl,hb5⟩;have HS5:Hid (SetsAt w5 (w2.heap.size+1) w2.heap.size (lbl n (tri qq x++row3 qq x y))/\Below w2.heap.size w2 w5):=⟨HSY.out.below hb5 HSY.out.plt HSY.out.blt,HB2.out.trans (hb5.mono HB2.out.size)⟩;have kx5:=cell_below kx hb5;have ky5:=cell_below ky hb5;clear hb5 HC kx ky;go_wp2_with fail;refine (join_in x y (w2.heap.size+1) w2.heap.size _ w5 HS5.out.1 (by rw [HL.out];omega) (by rw [HL.out];omega) (by rw [HL.out];omega)).mono ?_;rintro e w6 ⟨rfl,hs6,hb6⟩;have HF:Hid (SetsAt w6 (w2.heap.size+1) w2.heap.size (lbl n (tri qq x++row3 qq x (y+1)))/\w6.cell? ⟨wo.heap.size,0,none⟩=some (.int .i64 (x:Int))/\Below w2.heap.size w2 w6):=by
           refine ⟨?_,?_,HS5.out.2.trans (hb6.below (Nat.le_refl _) HS5.out.2.size)⟩
           ·rw [row3_succ,if_pos hq,<-List.append_assoc,lb_snoc]
            have e1:ea ((0:Int),(x:Int),(y:Int))=x:=by simp [ea]
            have e2:eb ((0:Int),(x:Int),(y:Int))=y:=by simp [eb]
            rw [e1,e2];exact hs6
           ·have hl:=lt_of_cell kx5
            simp only [World.cell?] at kx5 ⊢;rw [hb6.block wo.heap.size hl (by omega)];exact kx5
          clear hs6 hb6 kx5 ky5 HS5 HSY HY;go_wp2_with fail;go_roundw;case rel=>exact ⟨y+1,by omega,by go_num,HF.out.1,HF.out.2.1,HF.out.2.2⟩
          case measure=>simp [intOf];omega
         ·as_aux_lemma=>
          have hqf:qq x y=false:=by simpa using hq
          rw [hqf] at HC;go_wp2_with fail;refine Calls.mono HC.out ?_;rintro e w5 ⟨rfl,hb5⟩;have HF:Hid (SetsAt w5 (w2.heap.size+1) w2.heap.size (lbl n (tri qq x++row3 qq x (y+1)))/\w5.cell? ⟨wo.heap.size,0,none⟩=some (.int .i64 (x:Int))/\Below w2.heap.size w2 w5):=by
           refine ⟨?_,cell_below kx hb5,HB2.out.trans (hb5.mono HB2.out.size)⟩;rw [row3_succ,if_neg hq,List.append_nil];exact HSY.out.below hb5 HSY.out.plt HSY.out.blt
          clear hb5 HC kx ky HSY HY hq;go_wp2_with fail;go_roundw;case rel=>exact ⟨y+1,by omega,by go_num,HF.out.1,HF.out.2.1,HF.out.2.2⟩
          case measure=>simp [intOf];omega
        ·as_aux_lemma=>
         have hye:y=x:=by omega
         have HF:Hid (SetsAt wr (w2.heap.size+1) w2.heap.size (lbl n (tri qq (x+1)))/\Below w2.heap.size w2 wr):=⟨by
          have:=HY.out.1;rw [hye] at this;exact this,HY.out.2.2⟩
         clear HY hcy hye;go_wp2_with fail;go_roundw;case rel=>exact ⟨x+1,by omega,by go_num,HF.out.1,HF.out.2⟩
         case measure=>simp [intOf];omega
      ·as_aux_lemma=>
       have hxe:x=n:=by omega
       have HF:Hid (SetsAt wr (w2.heap.size+1) w2.heap.size (lab3 n R S f)/\Below w2.heap.size w2 wr):=⟨by
        have:=HX.out.1;rw [hxe] at this;rw [HQQ.out];exact this,HX.out.2⟩
       clear HX hxe;go_wp2_with fail;go_ret;exact ⟨_,_,rfl,HF.out.1,by omega,by omega,HBW.out.trans (HF.out.2.mono hws)⟩
    ·as_aux_lemma=>
     intro key a1 a2 a3 kl y1 y2 w1 cnt1 hkey hlk hRv hat hrg1 hlt hg1 hs1 hen;obtain ⟨d,hd,rfl,zs,hoz,hzl,hzm⟩:=alike_entry HGR.out HGA2.out (by omega) hkey hRv hat;obtain ⟨k1,k2,k3,k4⟩:=HLP.out.next hg1 hlt;obtain ⟨hints,hzl2⟩:=ints_of hoz;have HZ:Hid (∀x,x∈zs↔∃e∈S,f e=f d/\e.1=x):=hzm;have HI:Hid (G.Ints w7 a1 a2 (λ t=>zs.getD t 0)/\zs.length=a2):=⟨hints,hzl2⟩;have HK:Hid (Rs w1 w7.heap.size n u8 qs/\Below w7.heap.size w7 w1/\w9.heap.size+1<w1.heap.size/\qs.length+1+cnt1<=m+1):=⟨k1,k2,k3,k4⟩;have HD:Hid (d∈S):=hd;have HR1:Hid (w1.ranges Tryz.prog 208 (rowElem (H:=Unit) w7 (w.heap.size+2) 3 .i64) w.heap.size (w9.heap.size+1) m D (λ z=>left z&&!z.sameKey (rk (f d))) cnt1/\cnt1<cnt):=⟨hrg1,hlt⟩;have ha2:a2<=1000:=by omega
     have hql:qs.length<=1000:=by omega
     clear hkey hlk hRv hat hrg1 hlt hg1 hs1 hoz hzl hzm k1 k2 k3 k4 hints hzl2 hd;go_wp2_with fail;refine (G.nodes_any (n:Int) B p v R _ (HGW.out.below HK.out.2.1)).mono ?_;rintro e w2 ⟨rfl,hw2⟩;subst hw2;clear hen;go_wp2_with fail;refine (G.without_any (n:Int) B p v R a1 none a2 0 a3 0 (λ t=>zs.getD t 0) (λ _=>0) w2 (HGW.out.below HK.out.2.1) (by omega) (HI.out.1.below HK.out.2.1) ⟨λ h=>by omega⟩ ha2 (by omega)).mono ?_;rintro e w3 ⟨p',v',rfl,hg3,hb3⟩;rw [<-HI.out.2,stays_alike HG.out.2.one HS.out.1 HZ.out] at hg3;have HFL:Hid ((R.filter λ e=>decide (f e≠f d)).length<=120):=Nat.le_trans (List.length_filter_le _ _) (by omega);have HG3:Hid (G.GAt w3 w2.heap.size 168 61 p' (n:Int) v' (R.filter λ e=>decide (f e≠f d))/\Below w2.heap.size w2 w3):=⟨hg3,hb3⟩;clear hg3 hb3;go_wp2_with fail;refine (G.edges_any (n:Int) _ p' v' _ w3 HG3.out.1 HFL.out).mono ?_;rintro e w4 ⟨ue4,rfl,hoe,hb4⟩;have HO4:Hid (G.Owns w4 w3.heap.size 61 ue4 (R.filter λ e=>decide (f e≠f d))/\Below w2.heap.size w2 w4):=⟨hoe,HG3.out.2.trans (hb4.mono HG3.out.2.size)⟩;clear hoe hb4;have HIN:Hid (InE n (R.filter λ e=>decide (f e≠f d))):=HG.out.2.inn.sub (λ e he=>(List.mem_filter.1 he).1);go_wp2_with fail;refine (ctogether_any n _ ue4 _ w4 HO4.out.1 (by omega) HIN.out HFL.out).mono ?_;rintro e w5 ⟨p5,b5,rfl,hs5,hp5,hbb5,hb5⟩;have hb25:Below w2.heap.size w2 w5:=HO4.out.2.trans (hb5.mono HO4.out.2.size);have hs24:=HO4.out.2.size;have hit:=HK.out.2.2.1;have hRs5:=HK.out.1.below hb25;obtain ⟨v6,w6,hap,hRs6,hg6,hf6,g6,c6,hv6⟩:=app_sets w5 w7.heap.size n u8 qs p5 b5 _ hRs5 (Nat.le_trans HK.out.2.1.size hb25.size) hql hs5 (lb_good HIN.out.nodes).len (λ k hk=>by
      have:=(World.ownsRow.lt HK.out.1.row k hk).2;constructor <;> omega)
     have HAP:Hid (_=_):=hap;have hub:∀k,u8.ownBlock=some k->w7.heap.size<=k/\k≠w9.heap.size+1:=λ k hk=>⟨(World.ownsRow.lt HK.out.1.row k hk).1,HLP.out.nit k hk⟩
     have HF:Hid (Lp w7 w6 (w.heap.size+2) w.heap.size (w9.heap.size+1) m m n D R S f v6 (λ z=>left z&&!z.sameKey (rk (f d))) cnt1 (qs++[(p5,b5,lbl n (R.filter λ e=>decide (f e≠f d)))])):=by
      have hb5':Below w7.heap.size w7 w5:=HK.out.2.1.trans (hb25.mono HK.out.2.1.size);refine ⟨(HR1.out.1.kept (grown_below hb25) (by simp) (by simp)).kept hg6 (λ hh=>?_) (λ hh=>?_),hRs6,λ k hk=>?_,λ q hq=>?_,λ q hq=>?_,?_,λ d' hd' hl=>?_,?_,hb5'.grown hg6 hb5'.size (λ j hj=>(hub j hj).1),?_,hlma,HLP.out.hit⟩
      ·have:=(hub _ hh.symm).1;omega
      ·exact (hub _ hh.symm).2 rfl
      ·rcases hf6 with h5 | h5
       ·exact (hub k (h5▸hk)).2
       ·rw [hk] at h5
        injection h5 with h5
        have:=hb25.size;omega
      ·rcases List.mem_append.1 hq with hq | hq
       ·exact HLP.out.qit q hq
       ·rw [List.mem_singleton.1 hq]
        constructor <;> (simp only;omega)
      ·rcases List.mem_append.1 hq with hq | hq
       ·exact HLP.out.all q hq
       ·rw [List.mem_singleton.1 hq]
        exact List.mem_cons_of_mem _ (List.mem_map.2 ⟨d,HD.out,rfl⟩)
      ·obtain ⟨q,hq,he⟩:=HLP.out.one
       exact ⟨q,List.mem_append_left _ hq,he⟩
      ·by_cases hdd:f d'=f d
       ·rw [hdd]
        exact ⟨_,List.mem_append_right _ (List.mem_singleton.2 rfl),rfl⟩
       ·have hne:rk (f d')≠rk (f d):=λ k=>hdd (rk_inj (HS.out.2.1 d') (HS.out.2.1 d) k)
        rw [sameKey_ne hne] at hl;obtain ⟨q,hq,he⟩:=HLP.out.done d' hd' (by simpa using hl);exact ⟨q,List.mem_append_left _ hq,he⟩
      ·have:=HK.out.2.2.2
       simp;omega
      ·have:=hb25.size
       have:=hg6.size;omega
     have HF2:Hid (w6.rangeLeft w.heap.size (w9.heap.size+1)<wr.rangeLeft w.heap.size (w9.heap.size+1)):=by
      show _<_;rw [HF.out.rg.left_eq,HLP.out.rg.left_eq];exact HR1.out.2
     clear hs5 hp5 hbb5 hb5 hb25 hs24 hit hRs5 hap hRs6 hg6 hf6 hv6 hub;go_wp2_with (first
      | (at_builtin;refine Lib.wpList_append_run _ rfl _ _ _ _ rfl _ _ rfl rfl _ _ HAP.out ?_)
      | fail)
     go_roundw;case rel=>exact ⟨_,_,_,HF.out⟩
     case measure=>exact HF2.out
  ·as_aux_lemma=>
   intro x c1 c2 kl y1 y2 w1 cnt1 hkey hlk hRv hat hrg1 hlt hg1 hs1 hen;obtain ⟨x',hxe,rfl,hwf⟩:=Maps.keyOf_int_inv Tryz.underlying3 hkey;obtain rfl:x=x':=by injection hxe
   obtain ⟨e,he,rfl,rfl,rfl⟩:=ring_edge HRM.out (c1:=c1) (c2:=c2) (by obtain ⟨⟨c3,c4⟩,h1,h2⟩:=ringR_inv hRv;simp at h1;rw [h1.1,h1.2];exact h2) hat;have HE:Hid (e∈S):=he;have hgG:w1.ownsGroups (H:=Unit) Tryz.prog 208 (w.heap.size+2) 3 .i64 w.heap.size m D:=HGR.out.kept hg1 (by simp) (HGR.out.rowsAbove (λ j hj=>by injection hj with hj;omega));obtain ⟨ve,st,w3,v',w4,w5,D',e1,e2,e3,r1,r2,r3,r4,r5⟩:=alike_step (w:=w) (mb:=mb) (it:=w.heap.size+1) hgG (by omega) HGA.out HS.out.2.1 e hwf (by omega) (by omega) (by omega) (by omega) (by omega) (by omega) (below_next HBL.out (Nat.le_succ _) hg1) (Nat.le_refl _);have HAP:Hid (_=_):=e2;have HF:Hid (w5.ranges Tryz.prog 3 ringR mb (w.heap.size+1) N0 D0 (λ z=>left z&&!z.sameKey (.int .i64 e.1)) cnt1/\w5.ownsGroups (H:=Unit) Tryz.prog 208 (w.heap.size+2) 3 .i64 w.heap.size (m+1) D'/\Ga D' (λ d=>d∈S/\(left (.int .i64 d.1)&&!(Lit.int .i64 d.1).sameKey (.int .i64 e.1))=false) f/\m+1+cnt1<=N0/\Below w.heap.size w w5/\w.heap.size+2<=w5.heap.size):=by
    refine ⟨r5 _ _ _ _ hrg1,r1,r2.congr (λ d=>?_),by omega,r3,by omega⟩;constructor
    ·rintro (⟨h1,h2⟩ | rfl)
     ·exact ⟨h1,by rw [h2];rfl⟩
     ·exact ⟨HE.out,by simp [Lit.sameKey]⟩
    ·rintro ⟨h1,h2⟩
     by_cases hd:d.1=e.1
     ·exact .inr (HG.out.2.one d ((HS.out.1 d).1 h1) e ((HS.out.1 e).1 HE.out) hd)
     ·exact .inl ⟨h1,struck h2 hd⟩
   have HLT:Hid (cnt1<cnt):=hlt;clear hkey hlk hRv hat hrg1 hlt hg1 hs1 hxe he hgG e2 r1 r2 r3 r4 r5 hwf;go_wp2_with (first
    | (at_builtin;refine Lib.wpList_append_run _ rfl _ _ _ _ rfl _ _ rfl rfl _ _ HAP.out ?_)
    | fail)
   go_roundw;case rel=>exact ⟨_,cnt1,m+1,D',HF.out.1,HF.out.2.1,HF.out.2.2.1,HF.out.2.2.2.1,HF.out.2.2.2.2.1,HF.out.2.2.2.2.2⟩
   case measure=>rw [HF.out.1.left_eq,HRG.out.left_eq];exact HLT.out
end Go.Proofs.YtebcjaenhiiflaaGreatDoor.S
namespace Go.Proofs.YtebcjaenhiiflaaGreatDoor.S
open Go.RowKit Go.WideMaps Go.Maps
theorem cthrice_any (c q bq n:Nat) (x y:Value) (L:List Nat) (w:World) (h:w.heap[c]? =some (.cells #[x,y,.pointer (some ⟨q,0,none⟩)] 206)) (hs:SetsAt w q bq L) (hg:Good n L) (hn:n<=40):
 Calls Tryz.prog 83 #[.pointer (some ⟨c,0,none⟩)] w λ e w'=>∃v,e= .returned v/\AllAt w' v (grps L n)/\Below w.heap.size w w':=by
 have hc:w.cell? ⟨c,2,none⟩=some (.pointer (some ⟨q,0,none⟩)):=by simp [World.cell?,h]
 have HA:Hid (Calls Tryz.prog 143 #[.pointer (some ⟨q,0,none⟩)] w λ e w'=>∃v,e= .returned v/\AllAt w' v (grps L n)/\Below w.heap.size w w'):=by
  have:=all_any q bq L w hs (by rw [hg.len];exact hn) (λ i hi=>by have:=hg.le i (by rw [<-hg.len];exact hi);rw [hg.len] at hi;omega);rw [hg.len] at this;exact this
 clear h hs hg;go_enter Tryz.func83,Tryz.ntmps83;go_wp2_with fail;refine Calls.mono HA.out ?_;rintro e w1 ⟨v,rfl,h1,h2⟩;have HF:Hid (AllAt w1 v (grps L n)/\Below w.heap.size w w1):=⟨h1,h2⟩;clear h1 h2;go_wp2_with fail;go_ret;exact ⟨_,rfl,HF.out⟩
end Go.Proofs.YtebcjaenhiiflaaGreatDoor.S
