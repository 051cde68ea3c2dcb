import Derived.Test.YtebcjaenhiiflaaGreatDoorQGYfGD
import Derived.Test.YtebcjaenhiiflaaGreatDoorQSST
import Derived.Laws.Bits64b
set_option maxHeartbeats 4000000
set_option maxRecDepth 100000
namespace Go.Proofs.YtebcjaenhiiflaaGreatDoor.S
open Go.RowKit
def InE (n:Nat) (R:List Edg):Prop:=∀e∈R,ea e<n/\eb e<n/\e.2.1=(ea e:Int)/\e.2.2=(eb e:Int)
theorem InE.nodes {n:Nat} {R:List Edg} (h:InE n R):Nodes n R:=λ e he=>⟨(h e he).1,(h e he).2.1⟩
theorem InE.sub {n:Nat} {R S:List Edg} (h:InE n R) (hs:∀e∈S,e∈R):InE n S:=λ e he=>h e (hs e he)
theorem row_edge {n:Nat} {R:List Edg} (hin:InE n R) {k:Nat} (hk:k<R.length):∃(x0:Int) (xa xb:Nat),R[k]? =some (x0,(xa:Int),(xb:Int))/\xa<n/\xb<n/\ea (x0,(xa:Int),(xb:Int))=xa/\eb (x0,(xa:Int),(xb:Int))=xb:=by
 obtain ⟨e,he⟩:∃e,R[k]? =some e:=⟨_,List.getElem?_eq_getElem hk⟩;obtain ⟨h1,h2,h3,h4⟩:=hin e (List.mem_of_getElem? he);obtain ⟨x0,x1,x2⟩:=e;obtain ⟨xa,hxa⟩:∃xa,ea (x0,x1,x2)=xa:=⟨_,rfl⟩;obtain ⟨xb,hxb⟩:∃xb,eb (x0,x1,x2)=xb:=⟨_,rfl⟩;rw [hxa] at h1 h3;rw [hxb] at h2 h4;simp only at h3 h4;subst h3;subst h4;exact ⟨x0,xa,xb,he,h1,h2,hxa,hxb⟩
theorem owns_block {w:World} {B:Nat} {va:Option Addr} {m vc:Nat} {R:List Edg} (h:G.Owns w B 61 (.slice va m vc) R) {k:Nat} (hk:k<R.length):∃g,va=some ⟨g,0,none⟩:=by
 rcases h.shape with ⟨_,e⟩ | ⟨g,cap,e,_⟩
 ·rw [e] at hk;simp at hk
 ·injection e with e1 _ _
  exact ⟨g,e1⟩
theorem lb_take (n:Nat) {R:List Edg} {k:Nat} {x:Edg} (h:R[k]? =some x):lbl n (R.take (k+1))=joinL (lbl n (R.take k)) (ea x) (eb x):=by
 obtain ⟨hlt,he⟩:=List.getElem?_eq_some_iff.1 h;rw [List.take_succ_eq_append_getElem hlt,he,lb_snoc]
theorem nodes_take {n:Nat} {R:List Edg} (h:InE n R) (k:Nat):Nodes n (R.take k):=λ e he=>h.nodes e (List.mem_of_mem_take he)
theorem ctogether_any (n B0:Nat) (u:Value) (R:List Edg) (w:World) (hR:G.Owns w B0 61 u R) (hn:n<=40) (hin:InE n R) (hl:R.length<=120):
 Calls Tryz.prog 252 #[.int .i64 (n:Int),u] w λ e w'=>∃p b,e= .returned (.pointer (some ⟨p,0,none⟩))/\SetsAt w' p b (lbl n R)/\w.heap.size<=p/\w.heap.size<=b/\Below w.heap.size w w':=by
 have HR:Hid (G.Owns w B0 61 u R/\InE n R):=⟨hR,hin⟩;obtain ⟨m,hm⟩:∃m,R.length=m:=⟨_,rfl⟩;have HM:Hid (R.length=m):=hm;obtain ⟨va,vc,hv⟩:=hR.slice_len;rw [hm] at hv hl;subst hv;clear hR hm hin;go_enter Tryz.func252,Tryz.ntmps252;go_wp2_with fail;refine (new_in n w hn).mono ?_;rintro e w1 ⟨rfl,hs1,hb1⟩;have HS1:Hid (SetsAt w1 (w.heap.size+1) w.heap.size (List.range n)/\Below w.heap.size w w1):=⟨hs1,hb1⟩;clear hs1 hb1;go_wp2_with fail;go_loopw [16] (λ s16 wq=>∃k:Nat,k<=m/\s16= .int .i64 k/\SetsAt wq (w.heap.size+1) w.heap.size (lbl n (R.take k))/\Below w.heap.size w wq) (λ s16 _=>m-(intOf s16).toNat)
 case atStart=>exact ⟨0,Nat.zero_le _,rfl,HS1.out.1,HS1.out.2⟩
 case round=>
  clear HS1;obtain ⟨k,hk,rfl,hs,hb⟩:=hrel;have HS:Hid (SetsAt wr (w.heap.size+1) w.heap.size (lbl n (R.take k))):=hs;have HB:Hid (Below w.heap.size w wr):=hb;clear hs hb;by_cases hlt:k<m
  ·as_aux_lemma=>
   obtain ⟨x0,xa,xb,hx,han,hbn,hxa,hxb⟩:=row_edge HR.out.2 (by rw [HM.out];exact hlt);have HX:Hid (R[k]? =some (x0,(xa:Int),(xb:Int))/\ea (x0,(xa:Int),(xb:Int))=xa/\eb (x0,(xa:Int),(xb:Int))=xb):=⟨hx,hxa,hxb⟩;obtain ⟨g,rfl⟩:=owns_block HR.out.1 (by rw [HM.out];exact hlt);obtain ⟨r0,r1,r2⟩:=(HR.out.1.below HB.out).at (g:=g) rfl hx;have r0':wr.cell? ⟨g,k*3,none⟩=some (.int .i64 x0):=r0;have r1':wr.cell? ⟨g,k*3+1,none⟩=some (.int .i64 (xa:Int)):=r1;have r2':wr.cell? ⟨g,k*3+2,none⟩=some (.int .i64 (xb:Int)):=r2;clear r0 r1 r2 hx hxa hxb;have hb1:Below wr.heap.size wr (wr.alloc (.cells #[.int .i64 x0,.int .i64 (xa:Int),.int .i64 (xb:Int)] 61)):=(Below.refl _ _).alloc (Nat.le_refl _) _;have HB1:Hid (Below w.heap.size w (wr.alloc (.cells #[.int .i64 x0,.int .i64 (xa:Int),.int .i64 (xb:Int)] 61))):=HB.out.trans (hb1.mono HB.out.size);have HSW:Hid (SetsAt (wr.alloc (.cells #[.int .i64 x0,.int .i64 (xa:Int),.int .i64 (xb:Int)] 61)) (w.heap.size+1) w.heap.size (lbl n (R.take k))):=HS.out.below hb1 HS.out.plt HS.out.blt;clear hb1;go_wp2_with fail;have g:=lb_good (nodes_take HR.out.2 k);refine (join_in xa xb (w.heap.size+1) w.heap.size _ _ HSW.out (by rw [g.len];exact han) (by rw [g.len];exact hbn) (by rw [g.len];exact hn)).mono ?_;rintro e w3 ⟨rfl,hs3,hb3⟩;have HF3:Hid (SetsAt w3 (w.heap.size+1) w.heap.size (lbl n (R.take (k+1)))/\Below w.heap.size w w3):=by
    refine ⟨?_,HB1.out.trans (hb3.below (Nat.le_refl _) HB1.out.size)⟩;rw [lb_take n HX.out.1,HX.out.2.1,HX.out.2.2];exact hs3
   clear hs3 hb3 g HSW HS HB HB1 r0' r1' r2';go_wp2_with fail;go_roundw;case rel=>exact ⟨k+1,by omega,by go_num,HF3.out.1,HF3.out.2⟩
   case measure=>simp [intOf];omega
  ·as_aux_lemma=>
   have hke:k=m:=by omega
   have HF3:Hid (SetsAt wr (w.heap.size+1) w.heap.size (lbl n R)):=by
    have h2:=HS.out;rw [hke,<-HM.out,List.take_length] at h2;exact h2
   clear hke HS;go_wp2_with fail;go_ret;exact ⟨_,_,rfl,HF3.out,by omega,by omega,HB.out⟩
theorem capart_any (x y p b:Nat) (L:List Nat) (s:Bool) (w:World) (hs:SetsAt w p b L) (hx:x<L.length) (hy:y<L.length) (hv:(s=true↔L.getD x 0≠L.getD y 0)):
 Calls Tryz.prog 256 #[.pointer (some ⟨p,0,none⟩),.int .i64 (x:Int),.int .i64 (y:Int)] w λ e w'=>e= .returned (.bool s)/\Below w.heap.size w w':=by
 have HC:Hid _:=same_in x y p b L (!s) w hs hx hy (by
  by_cases h:L.getD x 0=L.getD y 0
  ·have:s=false:=by
    rw [Bool.eq_false_iff];intro k;exact hv.1 k h
   rw [this,h];simp
  ·have:s=true:=hv.2 h
   rw [this];exact beq_eq_false_iff_ne.2 (by omega))
 clear hs hx hy hv;go_enter Tryz.func256,Tryz.ntmps256;go_wp2_with fail;refine Calls.mono HC.out ?_;rintro e w1 ⟨rfl,hb⟩;have HB:Hid (Below w.heap.size w w1):=hb;clear hb HC;go_wp2_with fail;go_ret;exact ⟨by simp,HB.out⟩
structure Gw (w0 W0 w:World) (p b be:Nat) (l:List Nat) (R t o:List Edg) (ue v2 v3:Value):Prop where
 sets:SetsAt w p b l
 er:G.Owns w be 61 ue R
 o2:G.Owns w W0.heap.size 61 v2 t
 o3:G.Owns w W0.heap.size 61 v3 o
 ap:∀k,v2.ownBlock=some k->v3.ownBlock≠some k
 lp:p<be
 lbl:b<be
 lbe:be<=W0.heap.size
 lu:∀k,ue.ownBlock=some k->k<W0.heap.size
 low:w0.heap.size<=b
 below:Below w0.heap.size w0 w
 sz:W0.heap.size<=w.heap.size
 s0:w0.heap.size<=W0.heap.size
section
variable {w0 W0 w w':World} {p b be:Nat} {l l':List Nat} {R t o:List Edg} {ue v2 v3 v':Value}
theorem Gw.below' (h:Gw w0 W0 w p b be l R t o ue v2 v3) (hb:Below w.heap.size w w'):Gw w0 W0 w' p b be l R t o ue v2 v3:=
 {h with sets:=h.sets.below hb h.sets.plt h.sets.blt,er:=h.er.below hb,o2:=h.o2.below hb,o3:=h.o3.below hb,below:=h.below.trans (hb.mono h.below.size),sz:=Nat.le_trans h.sz hb.size}
theorem Gw.join (h:Gw w0 W0 w p b be l R t o ue v2 v3) (hs:SetsAt w' p b l') (hb:But b w w'):Gw w0 W0 w' p b be l' R t o ue v2 v3:=by
 have hg:w.grownBy w' (some b):=⟨hb.os,hb.tape,hb.output,hb.size,λ k hk hne=>hb.block k hk (λ e=>hne (by rw [e]))⟩;have hlb:=h.lbl;have hbe:=h.lbe;refine {h with sets:=hs,er:=World.ownsRow.kept h.er hg (.inr (λ e=>by have:=(World.ownsRow.lt h.er b e).1;omega)),o2:=World.ownsRow.kept h.o2 hg (.inr (λ e=>by have:=(World.ownsRow.lt h.o2 b e).1;omega)),o3:=World.ownsRow.kept h.o3 hg (.inr (λ e=>by have:=(World.ownsRow.lt h.o3 b e).1;omega)),below:=h.below.trans (hb.below h.low h.below.size),sz:=Nat.le_trans h.sz hb.size}
theorem Gw.grown (h:Gw w0 W0 w p b be l R t o ue v2 v3) {v:Value} (hg:w.grownBy w' v.ownBlock) (hv:∀k,v.ownBlock=some k->W0.heap.size<=k):SetsAt w' p b l/\G.Owns w' be 61 ue R/\Below w0.heap.size w0 w'/\W0.heap.size<=w'.heap.size:=by
 have hlp:=h.lp;have hlb:=h.lbl;have hbe:=h.lbe;have hs0:=h.s0;refine ⟨⟨(hg.block p h.sets.plt (λ e=>by have:=hv p e.symm;omega)).trans h.sets.hp,(hg.block b h.sets.blt (λ e=>by have:=hv b e.symm;omega)).trans h.sets.hb⟩,World.ownsRow.kept h.er hg ?_,h.below.grown hg h.below.size (λ j hj=>by have:=hv j hj;omega),Nat.le_trans h.sz hg.size⟩;by_cases e:ue.ownBlock=none
 ·exact .inl e
 ·refine .inr (λ e2=>?_)
  obtain ⟨k,hk⟩:=Option.ne_none_iff_exists'.1 e;have h1:=h.lu k hk;have h2:=hv k (e2.symm.trans hk);omega
theorem Gw.tree (h:Gw w0 W0 w p b be l R t o ue v2 v3) {x:Edg} (ho:G.Owns w' W0.heap.size 61 v' (t++[x])) (hg:w.grownBy w' v2.ownBlock) (hf:G.Fresh w v2 v'):Gw w0 W0 w' p b be l R (t++[x]) o ue v' v3:=by
 obtain ⟨h1,h2,h3,h4⟩:=h.grown hg (λ k hk=>(World.ownsRow.lt h.o2 k hk).1);refine {h with sets:=h1,er:=h2,o2:=ho,o3:=World.ownsRow.kept h.o3 hg ?_,ap:=λ k hk e=>?_,below:=h3,sz:=h4}
 ·by_cases e:v3.ownBlock=none
  ·exact .inl e
  ·refine .inr (λ e2=>?_)
   obtain ⟨k,hk⟩:=Option.ne_none_iff_exists'.1 e;exact h.ap k (e2.symm.trans hk) hk
 ·rcases hf k hk with h5 | h5
  ·exact h.ap k h5 e
  ·have:=(World.ownsRow.lt h.o3 k e).2;omega
theorem Gw.other (h:Gw w0 W0 w p b be l R t o ue v2 v3) {x:Edg} (ho:G.Owns w' W0.heap.size 61 v' (o++[x])) (hg:w.grownBy w' v3.ownBlock) (hf:G.Fresh w v3 v'):Gw w0 W0 w' p b be l R t (o++[x]) ue v2 v':=by
 obtain ⟨h1,h2,h3,h4⟩:=h.grown hg (λ k hk=>(World.ownsRow.lt h.o3 k hk).1);refine {h with sets:=h1,er:=h2,o3:=ho,o2:=World.ownsRow.kept h.o2 hg ?_,ap:=λ k hk e=>?_,below:=h3,sz:=h4}
 ·by_cases e:v2.ownBlock=none
  ·exact .inl e
  ·refine .inr (λ e2=>?_)
   obtain ⟨k,hk⟩:=Option.ne_none_iff_exists'.1 e;exact h.ap k hk (e2.symm.trans hk)
 ·rcases hf k e with h5 | h5
  ·exact h.ap k hk h5
  ·have:=(World.ownsRow.lt h.o2 k hk).2;omega
end
theorem joinL_eqv {L:List Nat} {x y:Nat} (h:L.getD x 0=L.getD y 0):joinL L x y=L:=by
 apply List.ext_getElem
 ·simp [joinL]
 ·intro i h1 h2
  have:=joinL_at L x y i h2;rw [List.getD_eq_getElem?_getD,List.getElem?_eq_getElem h1,List.getD_eq_getElem?_getD (l:=L) (i:=i),List.getElem?_eq_getElem h2] at this;simp only [Option.getD_some] at this;rw [this,h];unfold named;split <;> omega
theorem grw_take (n:Nat) {R:List Edg} {k:Nat} {x:Edg} (h:R[k]? =some x):grw n (R.take (k+1))=gstep n (grw n (R.take k)) x:=by
 obtain ⟨hlt,he⟩:=List.getElem?_eq_some_iff.1 h;rw [List.take_succ_eq_append_getElem hlt,he,grw_snoc]
theorem grw_sub {n:Nat} {R:List Edg} (hnd:R.Nodup) (hin:Nodes n R) (k:Nat):Gr n (R.take k) (grw n (R.take k)).1 (grw n (R.take k)).2:=
 gr_all _ (hnd.sublist (List.take_sublist _ _)) (λ e he=>hin e (List.mem_of_mem_take he))
def GrowPost (w:World) (n:Nat) (R:List Edg) (e:Ending) (w':World):Prop:=
 ∃v2 v3 B,e= .returned (.tuple #[v2,v3])/\G.Owns w' B 61 v2 (grw n R).1/\G.Owns w' B 61 v3 (grw n R).2/\w.heap.size<=B/\Below w.heap.size w w'
theorem grow_any (n B p:Nat) (v:Value) (R:List Edg) (w:World) (h:G.GAt w B 168 61 p (n:Int) v R) (hn:n<=40) (hin:InE n R) (hnd:R.Nodup) (hl:R.length<=120):
 Calls Tryz.prog 139 #[.pointer (some ⟨p,0,none⟩)] w (GrowPost w n R):=by
 have HG:Hid (G.GAt w B 168 61 p (n:Int) v R):=h;have HIN:Hid (InE n R/\R.Nodup):=⟨hin,hnd⟩;clear h hin hnd;go_enter Tryz.func139,Tryz.ntmps139;go_wp2_with fail;refine (G.nodes_any (n:Int) B p v R _ HG.out).mono ?_;rintro e w0 ⟨rfl,hw0⟩;subst hw0;go_wp2_with fail;refine (ctogether_any n 0 (.slice none 0 0) [] w0 (World.ownsRow_nil _ _ _ _) hn (λ e he=>by simp at he) (by simp)).mono ?_;rintro e w1 ⟨ps,bs,rfl,hs1,hps,hbs,hb1⟩;have HS1:Hid (SetsAt w1 ps bs (lbl n [])/\w0.heap.size<=bs/\Below w0.heap.size w0 w1):=⟨hs1,hbs,hb1⟩;clear hs1 hps hbs hb1;go_wp2_with fail;refine (G.edges_any (n:Int) B p v R _ (HG.out.below HS1.out.2.2) hl).mono ?_;rintro e w2 ⟨ue,rfl,hoe,hb2⟩;have HW0:Hid (Gw w0 w2 w2 ps bs w1.heap.size (lbl n (grw n (R.take 0)).1) R (grw n (R.take 0)).1 (grw n (R.take 0)).2 ue (.slice none 0 0) (.slice none 0 0)):=
  ⟨HS1.out.1.below hb2 HS1.out.1.plt HS1.out.1.blt,hoe,World.ownsRow_nil _ _ _ _,World.ownsRow_nil _ _ _ _,λ k hk=>absurd hk (by simp [Value.ownBlock]),HS1.out.1.plt,HS1.out.1.blt,hb2.size,λ k hk=>(World.ownsRow.lt hoe k hk).2,HS1.out.2.1,HS1.out.2.2.trans (hb2.mono HS1.out.2.2.size),Nat.le_refl _,Nat.le_trans HS1.out.2.2.size hb2.size⟩
 obtain ⟨m,hm⟩:∃m,R.length=m:=⟨_,rfl⟩;have HM:Hid (R.length=m):=hm;obtain ⟨va,vc,hv⟩:=hoe.slice_len;rw [hm] at hv hl;subst hv;clear hoe hb2 HS1 hm;go_wp2_with fail;go_loopw [2,3,15] (λ s2 s3 s15 wq=>∃k:Nat,k<=m/\s15= .int .i64 k/\Gw w0 w2 wq ps bs w1.heap.size (lbl n (grw n (R.take k)).1) R (grw n (R.take k)).1 (grw n (R.take k)).2 (.slice va m vc) s2 s3) (λ _ _ s15 _=>m-(intOf s15).toNat)
 case atStart=>exact ⟨0,Nat.zero_le _,rfl,HW0.out⟩
 case round=>
  clear HW0;obtain ⟨k,hk,rfl,hgw⟩:=hrel;have HW:Hid (Gw w0 w2 wr ps bs w1.heap.size (lbl n (grw n (R.take k)).1) R (grw n (R.take k)).1 (grw n (R.take k)).2 (.slice va m vc) u2 u3):=hgw;clear hgw;by_cases hlt:k<m
  ·obtain ⟨x0,xa,xb,hx,han,hbn,hxa,hxb⟩:=row_edge HIN.out.1 (by rw [HM.out];exact hlt)
   have HX:Hid (R[k]? =some (x0,(xa:Int),(xb:Int))/\ea (x0,(xa:Int),(xb:Int))=xa/\eb (x0,(xa:Int),(xb:Int))=xb):=⟨hx,hxa,hxb⟩;obtain ⟨g,rfl⟩:=owns_block HW.out.er (by rw [HM.out];exact hlt);obtain ⟨r0,r1,r2⟩:=HW.out.er.at (g:=g) rfl hx;have r0':wr.cell? ⟨g,k*3,none⟩=some (.int .i64 x0):=r0;have r1':wr.cell? ⟨g,k*3+1,none⟩=some (.int .i64 (xa:Int)):=r1;have r2':wr.cell? ⟨g,k*3+2,none⟩=some (.int .i64 (xb:Int)):=r2;have HGR:Hid (Gr n (R.take k) (grw n (R.take k)).1 (grw n (R.take k)).2):=grw_sub HIN.out.2 HIN.out.1.nodes k;have HNX:Hid (grw n (R.take (k+1))=gstep n (grw n (R.take k)) (x0,(xa:Int),(xb:Int))):=grw_take n hx;have htl:(grw n (R.take k)).1.length+(grw n (R.take k)).2.length<=1000:=by
    have:=HGR.out.len;rw [this,List.length_take];omega
   obtain ⟨t,ht⟩:∃t,(grw n (R.take k)).1=t:=⟨_,rfl⟩;obtain ⟨o,ho⟩:∃o,(grw n (R.take k)).2=o:=⟨_,rfl⟩;have HTO:Hid ((grw n (R.take k)).1=t/\(grw n (R.take k)).2=o):=⟨ht,ho⟩;rw [ht,ho] at HW HGR htl;have hgl:(lbl n t).length=n:=(lb_good (λ d hd=>HIN.out.1.nodes d (List.mem_of_mem_take ((HGR.out.mem d).2 (.inl hd))))).len;clear r0 r1 r2 hx hxa hxb ht ho;have hb1:Below wr.heap.size wr (wr.alloc (.cells #[.int .i64 x0,.int .i64 (xa:Int),.int .i64 (xb:Int)] 61)):=(Below.refl _ _).alloc (Nat.le_refl _) _;have HW1:Hid (Gw w0 w2 (wr.alloc (.cells #[.int .i64 x0,.int .i64 (xa:Int),.int .i64 (xb:Int)] 61)) ps bs w1.heap.size (lbl n t) R t o (.slice (some ⟨g,0,none⟩) m vc) u2 u3):=HW.out.below' hb1;have hbs:=HW.out.sets.blt;clear hb1 HW;go_wp2_with fail;refine (join_in xa xb ps bs (lbl n t) _ HW1.out.sets (by omega) (by omega) (by omega)).mono ?_;rintro e w3 ⟨rfl,hs3,hb3⟩;have hbox:w3.heap[wr.heap.size]? =some (.cells #[.int .i64 x0,.int .i64 (xa:Int),.int .i64 (xb:Int)] 61):=(hb3.block wr.heap.size (by simp) (by omega)).trans (heap_alloc_new wr _);have q0:w3.cell? ⟨wr.heap.size,0,none⟩=some (.int .i64 x0):=by simp [World.cell?,hbox]
   have q1:w3.cell? ⟨wr.heap.size,1,none⟩=some (.int .i64 (xa:Int)):=by simp [World.cell?,hbox]
   have q2:w3.cell? ⟨wr.heap.size,2,none⟩=some (.int .i64 (xb:Int)):=by simp [World.cell?,hbox]
   have HW2:Hid (Gw w0 w2 w3 ps bs w1.heap.size (joinL (lbl n t) xa xb) R t o (.slice (some ⟨g,0,none⟩) m vc) u2 u3):=HW1.out.join hs3 hb3;have HGS:Hid (gstep n (t,o) (x0,(xa:Int),(xb:Int))=if (lbl n t).getD xa 0=(lbl n t).getD xb 0 then (t,o++[(x0,(xa:Int),(xb:Int))]) else (t++[(x0,(xa:Int),(xb:Int))],o)):=by
    show gstep n (t,o) _=_;unfold gstep;rw [HX.out.2.1,HX.out.2.2]
   have hpair:grw n (R.take k)=(t,o):=Prod.ext HTO.out.1 HTO.out.2;have HLB:Hid (lbl n (t++[(x0,(xa:Int),(xb:Int))])=joinL (lbl n t) xa xb):=by
    show lbl n _=_;rw [lb_snoc,HX.out.2.1,HX.out.2.2]
   rw [hpair] at HNX;clear hs3 hb3 hbox HW1 r0' r1' r2' hpair;by_cases hc:(lbl n t).getD xa 0=(lbl n t).getD xb 0
   ·as_aux_lemma=>
    have hd:decide ((lbl n t).getD xa 0≠(lbl n t).getD xb 0)=false:=decide_eq_false (λ k=>k hc);have hst:gstep n (t,o) (x0,(xa:Int),(xb:Int))=(t,o++[(x0,(xa:Int),(xb:Int))]):=by rw [HGS.out,if_pos hc]
    have HW3:Hid (Gw w0 w2 w3 ps bs w1.heap.size (lbl n t) R t o (.slice (some ⟨g,0,none⟩) m vc) u2 u3):=by
     have:=HW2.out;rw [joinL_eqv hc] at this;exact this
    rw [hd];clear HW2 hc hd;obtain ⟨v',w4,hr,ho4,_,hf4,hg4⟩:=G.app_one 33 w3 w2.heap.size u3 _ x0 (xa:Int) (xb:Int) HW3.out.o3 HW3.out.sz (by omega);have HR:Hid (_=_):=hr;have HW4:Hid (Gw w0 w2 w4 ps bs w1.heap.size (lbl n (grw n (R.take (k+1))).1) R (grw n (R.take (k+1))).1 (grw n (R.take (k+1))).2 (.slice (some ⟨g,0,none⟩) m vc) u2 v'):=by
     have h1:=HW3.out.other ho4 hg4 hf4;show Gw _ _ _ _ _ _ _ _ _ _ _ _ _;rw [HNX.out,hst];exact h1
    clear hr ho4 hf4 hg4 HW3;go_wp2_with (at_builtin;refine Lib.wpList_append_run _ rfl _ _ _ _ rfl _ _ rfl rfl _ _ HR.out ?_);go_roundw;case rel=>exact ⟨k+1,by omega,by go_num,HW4.out⟩
    case measure=>simp [intOf];omega
   ·as_aux_lemma=>
    have hd:decide ((lbl n t).getD xa 0≠(lbl n t).getD xb 0)=true:=decide_eq_true hc;have hst:gstep n (t,o) (x0,(xa:Int),(xb:Int))=(t++[(x0,(xa:Int),(xb:Int))],o):=by rw [HGS.out,if_neg hc]
    have HW3:Hid (Gw w0 w2 w3 ps bs w1.heap.size (lbl n (t++[(x0,(xa:Int),(xb:Int))])) R t o (.slice (some ⟨g,0,none⟩) m vc) u2 u3):=by
     have:=HW2.out;rw [<-HLB.out] at this;exact this
    rw [hd];clear HW2 hc hd;obtain ⟨v',w4,hr,ho4,_,hf4,hg4⟩:=G.app_one 33 w3 w2.heap.size u2 _ x0 (xa:Int) (xb:Int) HW3.out.o2 HW3.out.sz (by omega);have HR:Hid (_=_):=hr;have HW4:Hid (Gw w0 w2 w4 ps bs w1.heap.size (lbl n (grw n (R.take (k+1))).1) R (grw n (R.take (k+1))).1 (grw n (R.take (k+1))).2 (.slice (some ⟨g,0,none⟩) m vc) v' u3):=by
     have h1:=HW3.out.tree ho4 hg4 hf4;show Gw _ _ _ _ _ _ _ _ _ _ _ _ _;rw [HNX.out,hst];exact h1
    clear hr ho4 hf4 hg4 HW3;go_wp2_with (at_builtin;refine Lib.wpList_append_run _ rfl _ _ _ _ rfl _ _ rfl rfl _ _ HR.out ?_);go_roundw;case rel=>exact ⟨k+1,by omega,by go_num,HW4.out⟩
    case measure=>simp [intOf];omega
  ·as_aux_lemma=>
   have hke:k=m:=by omega
   have HF:Hid (Gw w0 w2 wr ps bs w1.heap.size (lbl n (grw n R).1) R (grw n R).1 (grw n R).2 (.slice va m vc) u2 u3):=by
    have h2:=HW.out;rw [hke,<-HM.out,List.take_length,HM.out] at h2;exact h2
   clear hke HW;go_wp2_with fail;go_ret2;exact ⟨_,_,w2.heap.size,rfl,HF.out.o2,HF.out.o3,HF.out.s0,HF.out.below⟩
end Go.Proofs.YtebcjaenhiiflaaGreatDoor.S
namespace Go.Proofs.YtebcjaenhiiflaaGreatDoor.S
open Go.RowKit
theorem pow_lt64 {i:Nat} (h:i<64):2^i<18446744073709551616:=Nat.pow_lt_pow_right (by omega) h
theorem wrap_pow {i:Nat} (h:i<64):IntKind.u64.wrap ((2:Int)^i)=((2^i:Nat):Int):=by
 have h1:=pow_lt64 h;have h2:((2:Int)^i)=((2^i:Nat):Int):=by simp
 rw [h2,IntKind.wrap_u64];generalize 2^i=K at h1 ⊢;omega
theorem or_bit {x i:Nat} (hi:i<64) (hx:x<2^i):bits .or .u64 (x:Int) ((2^i:Nat):Int)=((x+2^i:Nat):Int):=by
 have h1:=pow_lt64 hi;rw [bits_or_u64_nat x (2^i) (by omega) h1,or_pow hx]
def lo64 (x:Nat):Nat:=x%18446744073709551616
def hi64 (x:Nat):Nat:=x/18446744073709551616
theorem lohi {x y:Nat} (h1:lo64 x=lo64 y) (h2:hi64 x=hi64 y):x=y:=by
 unfold lo64 at h1;unfold hi64 at h2;omega
theorem lo_lt (x:Nat):lo64 x<18446744073709551616:=by unfold lo64;omega
theorem hi_lt {x:Nat} (h:x<340282366920938463463374607431768211456):hi64 x<18446744073709551616:=by unfold hi64;omega
def ringV (x:Nat):Value:=.agg #[.int .u64 (lo64 x:Int),.int .u64 (hi64 x:Int)]
theorem set_word {w:World} {b t:Nat} {x y:Value} (h:w.heap[b]? =some (.cells #[x,y] t)) (v:Value):(w.setCell ⟨b,0,none⟩ v).heap[b]? =some (.cells #[v,y] t):=by
 simp only [World.setCell,Array.getElem?_modify,h];simp
theorem set_word1 {w:World} {b t:Nat} {x y:Value} (h:w.heap[b]? =some (.cells #[x,y] t)) (v:Value):(w.setCell ⟨b,1,none⟩ v).heap[b]? =some (.cells #[x,v] t):=by
 simp only [World.setCell,Array.getElem?_modify,h];simp
theorem put_low (b i x:Nat) (u:Value) (w:World) (hb:w.heap[b]? =some (.cells #[.int .u64 (x:Int),u] 208)) (hi:i<64) (hx:x<2^i):
 Calls Tryz.prog 140 #[.pointer (some ⟨b,0,none⟩),.int .i64 (i:Int)] w λ e w'=>e= .returned (.tuple #[])/\w'.heap[b]? =some (.cells #[.int .u64 ((x+2^i:Nat):Int),u] 208)/\But b w w':=by
 have c0:w.cell? ⟨b,0,none⟩=some (.int .u64 (x:Int)):=by simp [World.cell?,hb]
 have f0:w.frozen? ⟨b,0,none⟩=false:=by simp [World.frozen?,hb]
 have e1:(i:Int).tdiv 64=0:=Int.tdiv_eq_zero_of_lt (by omega) (by omega);have e2:(i:Int).tmod 64=(i:Int):=Int.tmod_eq_of_lt (by omega) (by omega);have HO:Hid (bits .or .u64 (x:Int) (IntKind.u64.wrap ((2:Int)^i))=((x+2^i:Nat):Int)):=by
  show bits _ _ _ _=_;rw [wrap_pow hi];exact or_bit hi hx
 have HB:Hid (w.heap[b]? =some (.cells #[.int .u64 (x:Int),u] 208)):=hb;clear hb hx;go_enter Tryz.func140,Tryz.ntmps140;go_upto_region 0 with fail
 go_region
 all_goals
  go_wp2_with fail;refine bodyPost_end (results_none rfl _ _ _) rfl ?_;refine ⟨rfl,?_,?_⟩
  ·rw [HO.out]
   exact set_word HB.out _
  ·exact ((But.refl b w).setCell 0 _).trans (But.of_below (Below.refl _ _).drew)
theorem put_high (b i j x:Nat) (u:Value) (w:World) (hb:w.heap[b]? =some (.cells #[u,.int .u64 (x:Int)] 208)) (hij:i=64+j) (hj:j<64) (hx:x<2^j):
 Calls Tryz.prog 140 #[.pointer (some ⟨b,0,none⟩),.int .i64 (i:Int)] w λ e w'=>e= .returned (.tuple #[])/\w'.heap[b]? =some (.cells #[u,.int .u64 ((x+2^j:Nat):Int)] 208)/\But b w w':=by
 have c0:w.cell? ⟨b,1,none⟩=some (.int .u64 (x:Int)):=by simp [World.cell?,hb]
 have f0:w.frozen? ⟨b,1,none⟩=false:=by simp [World.frozen?,hb]
 have e1:(i:Int).tdiv 64=1:=by rw [Int.tdiv_eq_ediv_of_nonneg (by omega)];omega
 have e2:(i:Int).tmod 64=(j:Int):=by rw [Int.tmod_eq_emod_of_nonneg (by omega)];omega
 have HO:Hid (bits .or .u64 (x:Int) (IntKind.u64.wrap ((2:Int)^j))=((x+2^j:Nat):Int)):=by
  show bits _ _ _ _=_;rw [wrap_pow hj];exact or_bit hj hx
 have HB:Hid (w.heap[b]? =some (.cells #[u,.int .u64 (x:Int)] 208)):=hb;clear hb hx hij;go_enter Tryz.func140,Tryz.ntmps140;go_upto_region 0 with fail
 go_region
 all_goals
  go_wp2_with fail;refine bodyPost_end (results_none rfl _ _ _) rfl ?_;refine ⟨rfl,?_,?_⟩
  ·rw [HO.out]
   exact set_word1 HB.out _
  ·exact ((But.refl b w).setCell 1 _).trans (But.of_below (Below.refl _ _).drew)
theorem put_any (b i x:Nat) (w:World) (hb:w.heap[b]? =some (.cells #[.int .u64 (lo64 x:Int),.int .u64 (hi64 x:Int)] 208)) (hi:i<128) (hx:x<2^i):
 Calls Tryz.prog 140 #[.pointer (some ⟨b,0,none⟩),.int .i64 (i:Int)] w λ e w'=>e= .returned (.tuple #[])/\w'.heap[b]? =some (.cells #[.int .u64 (lo64 (x+2^i):Int),.int .u64 (hi64 (x+2^i):Int)] 208)/\But b w w':=by
 by_cases h:i<64
 ·have h1:2^(i+1)<=2^64:=Nat.pow_le_pow_right (by omega) (by omega)
  have h2:2^(i+1)=2^i+2^i:=by rw [Nat.pow_succ];omega
  have h3:(2:Nat)^64=18446744073709551616:=by decide
  have e1:lo64 x=x:=by unfold lo64;omega
  have e2:lo64 (x+2^i)=x+2^i:=by unfold lo64;omega
  have e3:hi64 (x+2^i)=hi64 x:=by unfold hi64;omega
  rw [e1] at hb;rw [e2,e3];exact put_low b i x _ w hb h hx
 ·obtain ⟨j,rfl⟩:∃j,i=64+j:=⟨i-64,by omega⟩
  have h1:2^(64+j)=18446744073709551616*2^j:=by rw [Nat.pow_add]
  have e1:lo64 (x+2^(64+j))=lo64 x:=by unfold lo64;omega
  have e2:hi64 (x+2^(64+j))=hi64 x+2^j:=by unfold hi64;omega
  have e3:hi64 x<2^j:=by unfold hi64;omega
  rw [e1,e2];exact put_high b (64+j) j (hi64 x) _ w hb rfl (by omega) e3
def Box (w:World) (c:Nat) (d:Edg):Prop:=w.heap[c]? =some (.cells #[.int .i64 d.1,.int .i64 d.2.1,.int .i64 d.2.2] 61)
theorem Box.below {w w':World} {c:Nat} {d:Edg} (h:Box w c d) (hb:Below w.heap.size w w'):Box w' c d:=(hb.block c (lt_of_some h)).trans h
theorem Box.cells {w:World} {c:Nat} {d:Edg} (h:Box w c d):w.cell? ⟨c,0,none⟩=some (.int .i64 d.1)/\w.cell? ⟨c,1,none⟩=some (.int .i64 d.2.1)/\w.cell? ⟨c,2,none⟩=some (.int .i64 d.2.2):=by
 unfold Box at h;refine ⟨?_,?_,?_⟩ <;> simp [World.cell?,h]
theorem held_any (x d:Edg) (c:Nat) (w:World) (h:Box w c d):
 Calls Tryz.prog 255 #[.agg #[.int .i64 x.1,.int .i64 x.2.1,.int .i64 x.2.2],.pointer (some ⟨c,0,none⟩)] w λ e w'=>e= .returned (.bool (decide (x=d)))/\Below w.heap.size w w':=by
 obtain ⟨c0,c1,c2⟩:=h.cells;have hl:c<w.heap.size:=lt_of_some h;clear h;obtain ⟨x0,x1,x2⟩:=x;obtain ⟨d0,d1,d2⟩:=d;simp only at c0 c1 c2 ⊢;have hb:Below w.heap.size w (w.alloc (.cells #[.int .i64 x0,.int .i64 x1,.int .i64 x2] 61)):=(Below.refl _ _).alloc (Nat.le_refl _) _;have k0:=cell_below c0 hb;have k1:=cell_below c1 hb;have k2:=cell_below c2 hb;clear hb c0 c1 c2;go_enter Tryz.func255,Tryz.ntmps255;go_wp2_with fail;all_goals
  go_ret;refine ⟨?_,(Below.refl _ _).alloc (Nat.le_refl _) _⟩;simp_all
theorem clone_edges (u:Value) (B:Nat) (M:List Edg) (w:World) (h:G.Owns w B 61 u M) (hl:M.length<=1000):
 Calls Tryz.prog 254 #[u] w λ e w'=>∃u',e= .returned u'/\G.Owns w' w.heap.size 61 u' M/\Below w.heap.size w w':=by
 have hq:=λ (a:Option Addr) (n c:Nat) (W:World)=>Lib.run_eql_slice_nil (P:=Tryz.prog) W 33 61 a n c 0 0 Tryz.underlying33
 rcases h.shape with ⟨rfl,rfl⟩ | ⟨g,cap,rfl,_⟩
 ·go_enter Tryz.func254,Tryz.ntmps254
  go_wp2_with fail;go_ret;exact ⟨_,rfl,World.ownsRow_nil _ _ _ _,Below.refl _ _⟩
 ·obtain ⟨a',m',c',w',hr,ho,hb⟩:=G.copy_row 33 w B _ M h hl
  have HR:Hid (_=_):=hr;have HO:Hid (G.Owns w' w.heap.size 61 (.slice a' m' c') M/\Below w.heap.size w w'):=⟨ho,hb⟩;clear hr ho hb h;go_enter Tryz.func254,Tryz.ntmps254;go_wp2_with (at_builtin;refine Lib.wpList_append_run _ rfl _ _ _ _ rfl _ _ rfl rfl _ _ HR.out ?_);go_ret;exact ⟨_,rfl,HO.out.1,HO.out.2⟩
theorem index_edges (c g m cap B:Nat) (d:Edg) (M:List Edg) (w:World) (h:G.Owns w B 61 (.slice (some ⟨g,0,none⟩) m cap) M) (hd:Box w c d) (hl:M.length<=1000) (hm:M.length=m):
 Calls Tryz.prog 322 #[.slice (some ⟨g,0,none⟩) m cap,.func (.func 255) #[] #[.pointer (some ⟨c,0,none⟩)]] w λ e w'=>((∃i,i<m/\e= .returned (.int .i64 (i:Int))/\M[i]? =some d/\∀j,j<i->M[j]? ≠some d)\/(e= .returned (.int .i64 (-1))/\∀j,j<m->M[j]? ≠some d))/\Below w.heap.size w w':=by
 have HO:Hid (G.Owns w B 61 (.slice (some ⟨g,0,none⟩) m cap) M/\Box w c d/\M.length=m):=⟨h,hd,hm⟩;rw [hm] at hl;clear h hd hm;go_enter Tryz.func322,Tryz.ntmps322;go_wp2_with fail;go_loopw [8] (λ s8 wq=>∃k:Nat,k<=m/\s8= .int .i64 k/\(∀j,j<k->M[j]? ≠some d)/\Below w.heap.size w wq) (λ s8 _=>m-(intOf s8).toNat)
 case atStart=>exact ⟨0,Nat.zero_le _,rfl,λ j hj=>by omega,Below.refl _ _⟩
 case round=>
  obtain ⟨k,hk,rfl,hno,hb⟩:=hrel;have HB:Hid ((∀j,j<k->M[j]? ≠some d)/\Below w.heap.size w wr):=⟨hno,hb⟩;clear hno hb;by_cases hlt:k<m
  ·obtain ⟨x,hx⟩:∃x,M[k]? =some x:=⟨_,List.getElem?_eq_getElem (by rw [HO.out.2.2];exact hlt)⟩
   obtain ⟨r0,r1,r2⟩:=(HO.out.1.below HB.out.2).at (g:=g) rfl hx;have r0':wr.cell? ⟨g,k*3,none⟩=some (.int .i64 x.1):=r0;have r1':wr.cell? ⟨g,k*3+1,none⟩=some (.int .i64 x.2.1):=r1;have r2':wr.cell? ⟨g,k*3+2,none⟩=some (.int .i64 x.2.2):=r2;have HX:Hid (M[k]? =some x):=hx;have HC:Hid _:=held_any x d c wr (HO.out.2.1.below HB.out.2);clear r0 r1 r2 hx;by_cases hxd:x=d
   ·as_aux_lemma=>
    subst hxd;go_wp2_with fail;refine Calls.mono HC.out ?_;rintro e w2 ⟨rfl,hb2⟩;have HB2:Hid (Below w.heap.size w w2):=HB.out.2.trans (hb2.mono HB.out.2.size)
    first | rw [decide_eq_true rfl] | simp only [decide_true]
    clear hb2 HC;go_wp2_with fail;go_ret;exact ⟨.inl ⟨k,hlt,rfl,HX.out,HB.out.1⟩,HB2.out⟩
   ·as_aux_lemma=>
    go_wp2_with fail;refine Calls.mono HC.out ?_;rintro e w2 ⟨rfl,hb2⟩;have HB2:Hid (Below w.heap.size w w2/\∀j,j<k+1->M[j]? ≠some d):=⟨HB.out.2.trans (hb2.mono HB.out.2.size),λ j hj=>by
     by_cases e:j=k
     ·rw [e,HX.out];exact λ e2=>hxd (Option.some.inj e2)
     ·exact HB.out.1 j (by omega)⟩
    rw [decide_eq_false hxd];clear hb2 HC;go_wp2_with fail;go_roundw;case rel=>exact ⟨k+1,by omega,by go_num,HB2.out.2,HB2.out.1⟩
    case measure=>simp [intOf];omega
  ·as_aux_lemma=>
   have hke:k=m:=by omega
   go_wp2_with fail;go_ret;exact ⟨.inr ⟨rfl,λ j hj=>HB.out.1 j (by omega)⟩,HB.out.2⟩
theorem run_clear_rows {P:Program} (w:World) (t e ty:TypeId) (z:Value) (ht:P.underlying t=some (.slice e)) (hv:∀w,(zeroValue e).run P w= .ok z w) (g o n c:Nat) (hn:0<n) (cur:List Value) (te:TypeId)
 (hg:w.heap[g]? =some (.cells cur.toArray te (0,0))) (hfit:o+(Builtin.zeroCells z.cells n).toList.length<=cur.length) (h1:∀v∈(Builtin.zeroCells z.cells n).toList,v.oneCell'=true):
 (Builtin.clear_ #[t] ty #[.slice (some ⟨g,o,none⟩) n c]).run P w= .ok (.tuple #[]) (w.setRow g (splice cur o (Builtin.zeroCells z.cells n).toList).toArray):=by
 have hst:=run_storeCells_at P g o te _ 0 cur.toArray w hg (by simpa using hfit) h1;simp only [Nat.add_zero] at hst;obtain ⟨m,rfl⟩:∃m,n=m+1:=⟨n-1,by omega⟩;simp [Builtin.clear_,run_underlying ht,hv,hst,splice]
theorem zeroes_one (n:Nat):∀u∈(Builtin.zeroCells G.zE.cells n).toList,u.oneCell'=true:=by
 intro u hu;rw [G.zE_cells] at hu;simp only [Builtin.zeroCells,Array.toList_map,List.mem_map] at hu;obtain ⟨a,_,rfl⟩:=hu;have:a%3<3:=Nat.mod_lt _ (by omega);show (#[Value.int .i64 0,Value.int .i64 0,Value.int .i64 0][a%3]!).oneCell'=true;generalize a%3=r at this
 match r,this with
 | 0,_=>rfl
 | 1,_=>rfl
 | 2,_=>rfl
theorem zeroV55 (w:World):(zeroValue 61).run Tryz.prog w= .ok G.zE w:=by kernel_rfl
theorem rowV_set:∀(X:List Edg) (i:Nat) (x:Edg),i<X.length->G.rowV (X.set i x)=(((G.rowV X).set (i*3) (.int .i64 x.1)).set (i*3+1) (.int .i64 x.2.1)).set (i*3+2) (.int .i64 x.2.2)
 | [],i,x,h=>by simp at h
 | y::X,0,x,_=>by simp [G.rowV_cons,G.encE]
 | y::X,i+1,x,h=>by
   have ih:=rowV_set X i x (by simpa using h);have e1:(i+1)*3=(i*3)+3:=by omega
   have e2:(i+1)*3+1=(i*3+1)+3:=by omega
   have e3:(i+1)*3+2=(i*3+2)+3:=by omega
   rw [List.set_cons_succ,G.rowV_cons,G.rowV_cons,ih,e3,e2,e1];simp [G.encE]
theorem owns_set {w:World} {B g m cap i:Nat} {X:List Edg} (h:G.Owns w B 61 (.slice (some ⟨g,0,none⟩) m cap) X) (hi:i<X.length) (x:Edg):
 G.Owns (((w.setCell ⟨g,i*3,none⟩ (.int .i64 x.1)).setCell ⟨g,i*3+1,none⟩ (.int .i64 x.2.1)).setCell ⟨g,i*3+2,none⟩ (.int .i64 x.2.2)) B 61 (.slice (some ⟨g,0,none⟩) m cap) (X.set i x):=by
 have hl:=h.1;rcases h.2 with ⟨h1,_⟩ | ⟨g',cap',cur,h1,h2,h3,h4,h5,h6,h7⟩
 ·cases h1
 ·injection h1 with h1a h1b h1c
  injection h1a with h1a
  injection h1a with h1a _ _
  subst h1a;subst h1c;refine ⟨G.rowV_length _,Or.inr ⟨g,cap,((cur.setIfInBounds (i*3) (.int .i64 x.1)).setIfInBounds (i*3+1) (.int .i64 x.2.1)).setIfInBounds (i*3+2) (.int .i64 x.2.2),by rw [List.length_set,h1b],h2,?_,by rw [List.length_set];exact h4,h5,by simpa using h6,?_⟩⟩
  ·simp only [World.setCell,Array.getElem?_modify,h3]
   simp
  ·rw [rowV_set X i x hi,<-h7,List.length_set]
   simp [List.take_set]
structure Df (w0 w:World) (B g m cap c i j:Nat) (d:Edg) (M X:List Edg):Prop where
 own:G.Owns w B 61 (.slice (some ⟨g,0,none⟩) m cap) X
 len:X.length=m
 fst:X.take i=(M.take j).filter λ x=>!decide (x=d)
 snd:X.drop j=M.drop j
 hij:i<j
 hjm:j<=m
 box:Box w c d
 ne:c≠g
 low:B<=g
 kept:w0.grownBy w (some g)
section
variable {w0 w w':World} {B g m cap c i j:Nat} {d x:Edg} {M X:List Edg}
theorem Df.below' (h:Df w0 w B g m cap c i j d M X) (hb:Below w.heap.size w w'):Df w0 w' B g m cap c i j d M X:=
 {h with own:=h.own.below hb,box:=h.box.below hb,kept:=⟨hb.os.trans h.kept.os,hb.tape.trans h.kept.tape,hb.output.trans h.kept.output,Nat.le_trans h.kept.size hb.size,λ k hk hn=>(hb.block k (Nat.lt_of_lt_of_le hk h.kept.size)).trans (h.kept.block k hk hn)⟩}
theorem Df.at_ (h:Df w0 w B g m cap c i j d M X) (hj:j<m) (hm:M.length=m):X[j]? =M[j]? /\∃x,M[j]? =some x:=by
 refine ⟨?_,_,List.getElem?_eq_getElem (by omega)⟩;have:=congrArg (λ l=>l[0]?) h.snd
 simpa using this
theorem Df.skip (h:Df w0 w B g m cap c i j d M X) (hj:j<m) (hx:M[j]? =some d):Df w0 w B g m cap c i (j+1) d M X:=by
 refine {h with fst:=?_,snd:=?_,hij:=by have:=h.hij;omega,hjm:=by omega}
 ·rw [h.fst,G.take_filter _ hx];simp
 ·have:=congrArg (List.drop 1) h.snd
  simpa [List.drop_drop,Nat.add_comm] using this
theorem Df.store (h:Df w0 w B g m cap c i j d M X) (hj:j<m) (hx:M[j]? =some x) (hxd:x≠d):Df w0 (((w.setCell ⟨g,i*3,none⟩ (.int .i64 x.1)).setCell ⟨g,i*3+1,none⟩ (.int .i64 x.2.1)).setCell ⟨g,i*3+2,none⟩ (.int .i64 x.2.2)) B g m cap c (i+1) (j+1) d M (X.set i x):=by
 have hij:=h.hij;have hlen:=h.len;have hne:=h.ne;have hset:∀(w:World) (o:Nat) (v:Value),w.grownBy (w.setCell ⟨g,o,none⟩ v) (some g):=λ w o v=>⟨rfl,rfl,rfl,by simp,λ k _ hn=>Below.heap_setCell _ _ _ _ (λ e=>hn (by rw [e]))⟩
 have gtr:∀{a b c:World},a.grownBy b (some g)->b.grownBy c (some g)->a.grownBy c (some g):=λ h1 h2=>⟨h2.os.trans h1.os,h2.tape.trans h1.tape,h2.output.trans h1.output,Nat.le_trans h1.size h2.size,λ k hk hn=>(h2.block k (Nat.lt_of_lt_of_le hk h1.size) hn).trans (h1.block k hk hn)⟩
 have hk:=gtr (hset w (i*3) (.int .i64 x.1)) (gtr (hset _ (i*3+1) (.int .i64 x.2.1)) (hset _ (i*3+2) (.int .i64 x.2.2)));refine ⟨owns_set h.own (by omega) x,by simpa using hlen,?_,?_,by omega,by omega,?_,hne,h.low,gtr h.kept hk⟩
 ·rw [G.take_filter _ hx,<-h.fst]
  have hi:i<X.length:=by omega
  have hd:(!decide (x=d))=true:=by simp [hxd]
  rw [if_pos hd,List.take_succ_eq_append_getElem (by simpa using hi)]
  congr 1
  ·rw [List.take_set_of_le (Nat.le_refl _)]
  ·simp
 ·have:=congrArg (List.drop 1) h.snd
  rw [List.drop_set_of_lt (by omega)]
  simpa [List.drop_drop,Nat.add_comm] using this
 ·exact (hk.block c (lt_of_some h.box) (by simp;exact hne)).trans h.box
theorem Df.done (h:Df w0 w B g m cap c i m d M X) (hm:M.length=m):∃W2,(∀ty sc,(Builtin.clear_ #[33] ty #[.slice (some ⟨g,i*3,none⟩) (m-i) sc]).run Tryz.prog w= .ok (.tuple #[]) W2)/\m<=cap/\cap<=maxLen/\G.Owns W2 B 61 (.slice (some ⟨g,0,none⟩) i cap) (M.filter λ x=>!decide (x=d))/\w0.grownBy W2 (some g):=by
 have hij:=h.hij;have hlen:=h.len;rcases h.own.2 with ⟨h1,_⟩ | ⟨g',cap',cur,h1,h2,h3,h4,h5,h6,h7⟩
 ·cases h1
 ·injection h1 with h1a h1b h1c
  injection h1a with h1a
  injection h1a with h1a _ _
  subst h1a;subst h1c;have hfst:=h.fst;rw [<-hm,List.take_length] at hfst;have hcl:cur.toList.length=cap*3:=by simpa using h6
  have hzl:=G.zeroE_length (m-i);refine ⟨w.setRow g (splice cur.toList (i*3) (Builtin.zeroCells G.zE.cells (m-i)).toList).toArray,λ ty sc=>run_clear_rows w 33 61 ty G.zE Tryz.underlying33 zeroV55 g (i*3) (m-i) sc (by omega) cur.toList 61 (by simpa using h3) (by rw [hzl,hcl];omega) (zeroes_one _),by omega,h5,?_,?_⟩
  ·rw [<-hfst]
   have hl2:(X.take i).length=i:=by rw [List.length_take];omega
   refine ⟨G.rowV_length _,Or.inr ⟨g,cap,_,by rw [hl2],h2,setRow_heap w g cur _ 61 (0,0) h3,by rw [hl2];omega,h5,?_,?_⟩⟩
   ·rw [List.size_toArray,length_splice _ _ _ (by rw [hzl,hcl];omega),hcl]
   ·rw [hl2]
    show (splice _ _ _).take _=_;have h8:(cur.toList.take (i*3)).length=i*3:=by rw [List.length_take,hcl];omega
    unfold splice;rw [List.take_append_of_le_length (by omega),List.take_of_length_le (by omega)];have h9:=congrArg (List.take (i*3)) h7;rw [List.take_take,hlen,show min (i*3) (m*3)=i*3 by omega] at h9;rw [h9];have e1:=G.rowV_append (X.take i) (X.drop i);rw [List.take_append_drop] at e1;rw [e1,List.take_append_of_le_length (by rw [G.rowV_length,hl2];exact Nat.le_refl _),List.take_of_length_le (by rw [G.rowV_length,hl2];exact Nat.le_refl _)]
  ·exact ⟨h.kept.os,h.kept.tape,h.kept.output,Nat.le_trans h.kept.size (by simp),λ k hk hn=>(setRow_other w g k _ (λ e=>hn (by rw [e]))).trans (h.kept.block k hk hn)⟩
end
theorem delete_edges (c g m cap B:Nat) (d:Edg) (M:List Edg) (w:World) (h:G.Owns w B 61 (.slice (some ⟨g,0,none⟩) m cap) M) (hd:Box w c d) (hc:c≠g) (hB:B<=g) (hl:M.length<=1000) (hm:M.length=m):
 Calls Tryz.prog 253 #[.slice (some ⟨g,0,none⟩) m cap,.func (.func 255) #[] #[.pointer (some ⟨c,0,none⟩)]] w λ e w'=>∃v',e= .returned v'/\G.Owns w' B 61 v' (M.filter λ x=>!decide (x=d))/\w.grownBy w' (some g):=by
 have HO:Hid (G.Owns w B 61 (.slice (some ⟨g,0,none⟩) m cap) M/\Box w c d/\M.length=m):=⟨h,hd,hm⟩;have HI:Hid _:=index_edges c g m cap B d M w h hd hl hm;rw [hm] at hl;clear h hd hm;go_enter Tryz.func253,Tryz.ntmps253;go_wp2_with fail;refine Calls.mono HI.out ?_;rintro e w1 ⟨⟨i,hi,rfl,hid,hno⟩ | ⟨rfl,hno⟩,hb1⟩
 ·have HD0:Hid (Df w w1 B g m cap c i (i+1) d M M):=by
   refine ⟨HO.out.1.below hb1,HO.out.2.2,?_,rfl,by omega,by omega,HO.out.2.1.below hb1,hc,hB,⟨hb1.os,hb1.tape,hb1.output,hb1.size,λ k hk _=>hb1.block k hk⟩⟩;rw [G.take_filter _ hid];have:((M.take i).filter λ x=>!decide (x=d))=M.take i:=by
    rw [List.filter_eq_self];intro x hx;obtain ⟨k,hk⟩:=List.getElem?_of_mem hx;have hki:=(List.getElem?_eq_some_iff.1 hk).1;rw [List.length_take] at hki;rw [List.getElem?_take] at hk;split at hk
    ·have:=hno k (by omega)
     rw [hk] at this;simp;exact λ e=>this (by rw [e])
    ·cases hk
   rw [this];simp
  have hne:((i:Int)== -1)=false:=beq_eq_false_iff_ne.2 (by omega);clear hid hno hb1 HI;go_wp2_with fail;go_loopw [5,6] (λ s5 s6 wq=>∃(i j:Nat) (X:List Edg),s5= .int .i64 i/\s6= .int .i64 j/\Df w wq B g m cap c i j d M X) (λ _ s6 _=>m-(intOf s6).toNat)
  case atStart=>exact ⟨i,i+1,M,rfl,by go_num,HD0.out⟩
  case round=>
   clear HD0 hi hne;obtain ⟨i,j,X,rfl,rfl,hdf⟩:=hrel;have HD:Hid (Df w wr B g m cap c i j d M X):=hdf;have hij:=hdf.hij;have hjm:=hdf.hjm;clear hdf;by_cases hlt:j<m
   ·obtain ⟨hxj,x,hx⟩:=HD.out.at_ hlt HO.out.2.2
    rw [hx] at hxj;obtain ⟨r0,r1,r2⟩:=HD.out.own.at (g:=g) rfl hxj;have r0':wr.cell? ⟨g,j*3,none⟩=some (.int .i64 x.1):=r0;have r1':wr.cell? ⟨g,j*3+1,none⟩=some (.int .i64 x.2.1):=r1;have r2':wr.cell? ⟨g,j*3+2,none⟩=some (.int .i64 x.2.2):=r2;have HX:Hid (M[j]? =some x):=hx;have hb1:Below wr.heap.size wr (wr.alloc (.cells #[.int .i64 x.1,.int .i64 x.2.1,.int .i64 x.2.2] 61)):=(Below.refl _ _).alloc (Nat.le_refl _) _;have HD1:Hid (Df w (wr.alloc (.cells #[.int .i64 x.1,.int .i64 x.2.1,.int .i64 x.2.2] 61)) B g m cap c i j d M X):=HD.out.below' hb1;have HC:Hid _:=held_any x d c _ HD1.out.box;clear r0 r1 r2 hx hxj hb1;by_cases hxd:x=d
    ·as_aux_lemma=>
     subst hxd;go_wp2_with fail;refine Calls.mono HC.out ?_;rintro e w2 ⟨rfl,hb2⟩;have HD2:Hid (Df w w2 B g m cap c i (j+1) x M X):=(HD1.out.below' hb2).skip hlt HX.out
     first | rw [decide_eq_true rfl] | simp only [decide_true]
     clear hb2 HC;go_wp2_with fail;go_roundw;case rel=>exact ⟨i,j+1,X,rfl,by go_num,HD2.out⟩
     case measure=>simp [intOf];omega
    ·go_wp2_with fail
     refine Calls.mono HC.out ?_;rintro e w2 ⟨rfl,hb2⟩;have HD2:Hid (Df w w2 B g m cap c i j d M X):=HD1.out.below' hb2;rw [decide_eq_false hxd];have hbox:w2.heap[wr.heap.size]? =some (.cells #[.int .i64 x.1,.int .i64 x.2.1,.int .i64 x.2.2] 61):=(hb2.block wr.heap.size (by simp)).trans (heap_alloc_new wr _);have q0:w2.cell? ⟨wr.heap.size,0,none⟩=some (.int .i64 x.1):=by simp [World.cell?,hbox]
     have q1:w2.cell? ⟨wr.heap.size,1,none⟩=some (.int .i64 x.2.1):=by simp [World.cell?,hbox]
     have q2:w2.cell? ⟨wr.heap.size,2,none⟩=some (.int .i64 x.2.2):=by simp [World.cell?,hbox]
     obtain ⟨y,hy⟩:∃y,X[i]? =some y:=⟨_,List.getElem?_eq_getElem (by rw [HD2.out.len];omega)⟩;obtain ⟨s0,s1,s2⟩:=HD2.out.own.at (g:=g) rfl hy;have s0':w2.cell? ⟨g,i*3,none⟩=some (.int .i64 y.1):=s0;have s1':w2.cell? ⟨g,i*3+1,none⟩=some (.int .i64 y.2.1):=s1;have s2':w2.cell? ⟨g,i*3+2,none⟩=some (.int .i64 y.2.2):=s2;have fz:∀k,w2.frozen? ⟨g,k,none⟩=false:=by
      intro k;rcases HD2.out.own.2 with ⟨h1,_⟩ | ⟨g',cap',cur,h1,_,h3,_⟩
      ·cases h1
      ·injection h1 with h1 _ _
       injection h1 with h1
       injection h1 with h1 _ _
       subst h1;simp [World.frozen?,h3]
     have fz0:=fz (i*3);have fz1:=fz (i*3+1);have fz2:=fz (i*3+2);clear hb2 HC s0 s1 s2 fz r0' r1' r2';have HD3:Hid (Df w (((w2.setCell ⟨g,i*3,none⟩ (.int .i64 x.1)).setCell ⟨g,i*3+1,none⟩ (.int .i64 x.2.1)).setCell ⟨g,i*3+2,none⟩ (.int .i64 x.2.2)) B g m cap c (i+1) (j+1) d M (X.set i x)):=HD2.out.store hlt HX.out hxd;go_wp2_with fail;go_roundw;case rel=>exact ⟨i+1,j+1,_,by go_num,by go_num,HD3.out⟩
     case measure=>simp [intOf];omega
   ·as_aux_lemma=>
    have hje:j=m:=by omega
    subst hje;obtain ⟨W2,hcl,hcap,hcm,ho2,hg2⟩:=HD.out.done HO.out.2.2;have HF:Hid (G.Owns W2 B 61 (.slice (some ⟨g,0,none⟩) i cap) (M.filter λ x=>!decide (x=d))/\w.grownBy W2 (some g)):=⟨ho2,hg2⟩;simp only [maxLen] at hcm;have hic:¬(cap=i):=by omega
    have hi1:(i:Int)<=(j:Int):=by omega
    have hi2:(i:Int)<=(cap:Int):=by omega
    have hi3:(j:Int)<=(cap:Int):=by omega
    clear ho2 hg2 HD;go_wp2_with fail;go_ret;exact ⟨_,rfl,HF.out.1,HF.out.2⟩
 ·as_aux_lemma=>
  have HF:Hid (G.Owns w1 B 61 (.slice (some ⟨g,0,none⟩) m cap) (M.filter λ x=>!decide (x=d))/\w.grownBy w1 (some g)):=by
   refine ⟨?_,⟨hb1.os,hb1.tape,hb1.output,hb1.size,λ k hk _=>hb1.block k hk⟩⟩;have:(M.filter λ x=>!decide (x=d))=M:=by
    rw [List.filter_eq_self];intro x hx;obtain ⟨k,hk⟩:=List.getElem?_of_mem hx;have hki:=(List.getElem?_eq_some_iff.1 hk).1;have h3:=hno k (by rw [<-HO.out.2.2];exact hki);rw [hk] at h3;simp;exact λ e=>h3 (by rw [e])
   rw [this];exact HO.out.1.below hb1
  clear hno hb1 HI;go_wp2_with fail;go_ret;exact ⟨_,rfl,HF.out.1,HF.out.2⟩
end Go.Proofs.YtebcjaenhiiflaaGreatDoor.S
namespace Go.Proofs.YtebcjaenhiiflaaGreatDoor.S
open Go.RowKit
theorem results_cell {fn:Func} {p:Tmp} {ty:TypeId} (h:fn.results=#[.cell p ty]) (tmps:Array Value) (P:Program) (w:World):
 (results fn tmps).run P w=((asAddr (tmps.getD p undef)).run P w).andThen λ a w₁=>(loadVar ty a).run P w₁:=by
 simp only [results,h];simp [Sem.run_bind,Result.andThen]
def tbut (t:List Edg) (d:Edg):List Edg:=t.filter λ x=>!decide (x=d)
def tcov (n:Nat) (t o:List Edg) (d:Edg) (i:Nat):Bool:=decide ((lbl n (tbut t d)).getD (ea (o.getD i (0,0,0))) 0≠(lbl n (tbut t d)).getD (eb (o.getD i (0,0,0))) 0)
def RingAt (w:World) (b x:Nat):Prop:=w.heap[b]? =some (.cells #[.int .u64 (lo64 x:Int),.int .u64 (hi64 x:Int)] 208)
theorem ringAt_zero {w:World} {b:Nat} (h:w.heap[b]? =some (.cells #[.int .u64 0,.int .u64 0] 208)):RingAt w b 0:=h
theorem RingAt.zero {w:World} {b:Nat} (h:RingAt w b 0):w.heap[b]? =some (.cells #[.int .u64 0,.int .u64 0] 208):=h
theorem RingAt.below {w w':World} {b x:Nat} (h:RingAt w b x) (hb:Below w.heap.size w w'):RingAt w' b x:=(hb.block b (lt_of_some h)).trans h
theorem RingAt.but {w w':World} {b r x:Nat} (h:RingAt w b x) (hb:But r w w') (hne:b≠r):RingAt w' b x:=(hb.block b (lt_of_some h) hne).trans h
structure Th (w0 w:World) (p b r8 r:Nat) (l:List Nat) (x:Nat):Prop where
 sets:SetsAt w p b l
 res:RingAt w r8 0
 ring:RingAt w r x
 lp:p<r
 lbr:b<r
 l8:r8<r
 lo:w0.heap.size<=r8
 lr:w0.heap.size<=r
 below:Below w0.heap.size w0 w
section
variable {w0 w w':World} {p b r8 r:Nat} {l:List Nat} {x x':Nat}
theorem Th.below' (h:Th w0 w p b r8 r l x) (hb:Below w.heap.size w w'):Th w0 w' p b r8 r l x:=
 {h with sets:=h.sets.below hb h.sets.plt h.sets.blt,res:=h.res.below hb,ring:=h.ring.below hb,below:=h.below.trans (hb.mono h.below.size)}
theorem Th.put (h:Th w0 w p b r8 r l x) (hr:RingAt w' r x') (hb:But r w w'):Th w0 w' p b r8 r l x':=by
 have h1:=h.lp;have h2:=h.lbr;have h3:=h.l8;exact {h with sets:=⟨(hb.block p h.sets.plt (by omega)).trans h.sets.hp,(hb.block b h.sets.blt (by omega)).trans h.sets.hb⟩,res:=h.res.but hb (by omega),ring:=hr,below:=h.below.trans (hb.below h.lr h.below.size)}
end
theorem tbut_in {n:Nat} {t:List Edg} (h:InE n t) (d:Edg):InE n (tbut t d):=h.sub (λ _ he=>(List.mem_filter.1 he).1)
theorem through_any (n B1 B2:Nat) (vt vo:Value) (t o:List Edg) (d:Edg) (w:World) (ht:G.Owns w B1 61 vt t) (ho:G.Owns w B2 61 vo o) (hit:InE n t) (hio:InE n o) (hd:d∈t) (hn:n<=40) (hlt:t.length<=120) (hlo:o.length<=127):
 Calls Tryz.prog 141 #[.int .i64 (n:Int),vt,.agg #[.int .i64 d.1,.int .i64 d.2.1,.int .i64 d.2.2],vo] w λ e w'=>e= .returned (ringV (bitsN (tcov n t o d) o.length))/\Below w.heap.size w w':=by
 have HT:Hid (G.Owns w B1 61 vt t/\InE n t/\d∈t):=⟨ht,hit,hd⟩;have HO:Hid (G.Owns w B2 61 vo o/\InE n o):=⟨ho,hio⟩;obtain ⟨m,hm⟩:∃m,o.length=m:=⟨_,rfl⟩;have HM:Hid (o.length=m):=hm;obtain ⟨va,vc,hv⟩:=ho.slice_len;rw [hm] at hv hlo ⊢;subst hv;obtain ⟨W1,hW1⟩:∃W1,(w.alloc (.cells #[.int .i64 d.1,.int .i64 d.2.1,.int .i64 d.2.2] 61)).alloc (.cells #[.int .u64 0,.int .u64 0] 208)=W1:=⟨_,rfl⟩;have hb1:Below w.heap.size w W1:=by
  rw [<-hW1];exact ((Below.refl _ _).alloc (Nat.le_refl _) _).alloc (by simp) _
 have hsz1:W1.heap.size=w.heap.size+2:=by rw [<-hW1];simp
 have hbx:Box W1 w.heap.size d:=by
  rw [<-hW1];show ((w.alloc (.cells #[.int .i64 d.1,.int .i64 d.2.1,.int .i64 d.2.2] 61)).alloc _).heap[w.heap.size]? =_;rw [Below.heap_alloc _ _ _ (by simp)];exact heap_alloc_new w _
 have hr8:RingAt W1 (w.heap.size+1) 0:=by
  rw [<-hW1];have:=heap_alloc_new (w.alloc (.cells #[.int .i64 d.1,.int .i64 d.2.1,.int .i64 d.2.2] 61)) (.cells #[.int .u64 0,.int .u64 0] 208);rw [World.size_alloc] at this;exact ringAt_zero this
 have H1:Hid (Below w.heap.size w W1/\Box W1 w.heap.size d/\RingAt W1 (w.heap.size+1) 0):=⟨hb1,hbx,hr8⟩;clear ht ho hit hio hd hm hb1 hbx hr8;have hmf':=hmf;go_enter Tryz.func141,Tryz.ntmps141;go_wp2_with fail;refine (clone_edges vt B1 t W1 (HT.out.1.below H1.out.1) (by omega)).mono ?_;rintro e w2 ⟨u2,rfl,ho2,hb2⟩;obtain ⟨g,cap,hu2,hBg,_,_⟩:∃g cap,u2= .slice (some ⟨g,0,none⟩) t.length cap/\W1.heap.size<=g/\True/\True:=by
  rcases ho2.shape with ⟨_,e⟩ | ⟨g,cap,e,h1,_⟩
  ·rw [e] at HT;have:=HT.out.2.2;simp at this
  ·exact ⟨g,cap,e,h1,trivial,trivial⟩
 subst hu2;have HO2:Hid (G.Owns w2 W1.heap.size 61 (.slice (some ⟨g,0,none⟩) t.length cap) t/\Below W1.heap.size W1 w2):=⟨ho2,hb2⟩;clear ho2 hb2;go_wp2_with fail;refine (delete_edges w.heap.size g t.length cap W1.heap.size d t w2 HO2.out.1 (H1.out.2.1.below HO2.out.2) (by omega) hBg (by omega) rfl).mono ?_;rintro e w3 ⟨v3,rfl,ho3,hg3⟩;have HW3:Hid (G.Owns w3 W1.heap.size 61 v3 (tbut t d)/\Below w.heap.size w w3/\RingAt w3 (w.heap.size+1) 0/\W1.heap.size<=w3.heap.size):=by
  have hk:Below W1.heap.size W1 w3:=HO2.out.2.trans ⟨hg3.os,hg3.tape,hg3.output,hg3.size,λ k hk=>hg3.block k (Nat.lt_of_lt_of_le hk HO2.out.2.size) (by simp;omega)⟩;exact ⟨ho3,H1.out.1.trans (hk.mono H1.out.1.size),H1.out.2.2.below hk,hk.size⟩
 clear ho3 hg3 HO2 hBg;go_wp2_with fail;refine (ctogether_any n W1.heap.size v3 (tbut t d) w3 HW3.out.1 hn (tbut_in HT.out.2.1 d) (Nat.le_trans (List.length_filter_le _ _) hlt)).mono ?_;rintro e w4 ⟨p,b,rfl,hs4,hp4,hb4,hbel4⟩;have HW4:Hid (SetsAt w4 p b (lbl n (tbut t d))/\Below w.heap.size w w4/\RingAt w4 (w.heap.size+1) 0):=⟨hs4,HW3.out.2.1.trans (hbel4.mono HW3.out.2.1.size),HW3.out.2.2.1.below hbel4⟩;have hsz4:w.heap.size+2<=w4.heap.size:=by have h1:=HW3.out.2.2.2;have h2:=hbel4.size;omega
 clear hs4 hp4 hb4 hbel4 HW3;have HT0:Hid (Th w (w4.alloc (.cells #[.int .u64 0,.int .u64 0] 208)) p b (w.heap.size+1) w4.heap.size (lbl n (tbut t d)) (bitsN (tcov n t o d) 0)):=by
  have hb:Below w4.heap.size w4 (w4.alloc (.cells #[.int .u64 0,.int .u64 0] 208)):=(Below.refl _ _).alloc (Nat.le_refl _) _;exact ⟨HW4.out.1.below hb HW4.out.1.plt HW4.out.1.blt,HW4.out.2.2.below hb,ringAt_zero (heap_alloc_new w4 _),HW4.out.1.plt,HW4.out.1.blt,by omega,by omega,by omega,HW4.out.2.1.trans (hb.mono HW4.out.2.1.size)⟩
 obtain ⟨r,hr⟩:∃r,w4.heap.size=r:=⟨_,rfl⟩;go_wp2_with fail;rw [hr] at HT0;clear hr;go_loopw [23] (λ s23 wq=>∃k:Nat,k<=m/\s23= .int .i64 k/\Th w wq p b (w.heap.size+1) r (lbl n (tbut t d)) (bitsN (tcov n t o d) k)) (λ s23 _=>m-(intOf s23).toNat)
 case atStart=>exact ⟨0,Nat.zero_le _,rfl,HT0.out⟩
 case round=>
  clear HT0;obtain ⟨k,hk,rfl,hth⟩:=hrel;have HTh:Hid (Th w wr p b (w.heap.size+1) r (lbl n (tbut t d)) (bitsN (tcov n t o d) k)):=hth;clear hth;by_cases hltk:k<m
  ·obtain ⟨x0,xa,xb,hx,han,hbn,hxa,hxb⟩:=row_edge HO.out.2 (by rw [HM.out];exact hltk)
   have HX:Hid (o.getD k (0,0,0)=(x0,(xa:Int),(xb:Int))/\ea (x0,(xa:Int),(xb:Int))=xa/\eb (x0,(xa:Int),(xb:Int))=xb):=⟨by rw [List.getD_eq_getElem?_getD,hx];rfl,hxa,hxb⟩;obtain ⟨g',rfl⟩:=owns_block HO.out.1 (by rw [HM.out];exact hltk);obtain ⟨r0,r1,r2⟩:=(HO.out.1.below HTh.out.below).at (g:=g') rfl hx;have r0':wr.cell? ⟨g',k*3,none⟩=some (.int .i64 x0):=r0;have r1':wr.cell? ⟨g',k*3+1,none⟩=some (.int .i64 (xa:Int)):=r1;have r2':wr.cell? ⟨g',k*3+2,none⟩=some (.int .i64 (xb:Int)):=r2;clear r0 r1 r2 hx hxa hxb;have hb1:Below wr.heap.size wr (wr.alloc (.cells #[.int .i64 x0,.int .i64 (xa:Int),.int .i64 (xb:Int)] 61)):=(Below.refl _ _).alloc (Nat.le_refl _) _;have HT1:Hid (Th w (wr.alloc (.cells #[.int .i64 x0,.int .i64 (xa:Int),.int .i64 (xb:Int)] 61)) p b (w.heap.size+1) r (lbl n (tbut t d)) (bitsN (tcov n t o d) k)):=HTh.out.below' hb1;have hgl:(lbl n (tbut t d)).length=n:=(lb_good (tbut_in HT.out.2.1 d).nodes).len;have HCV:Hid (tcov n t o d k=true↔(lbl n (tbut t d)).getD xa 0≠(lbl n (tbut t d)).getD xb 0):=by
    show tcov n t o d k=true↔_;unfold tcov;rw [HX.out.1,HX.out.2.1,HX.out.2.2,decide_eq_true_iff]
   have HC:Hid _:=capart_any xa xb p b (lbl n (tbut t d)) (tcov n t o d k) _ HT1.out.sets (by omega) (by omega) HCV.out;clear hb1 HTh;cases hcv:tcov n t o d k with
   | true=>
     as_aux_lemma=>
     rw [hcv] at HC;go_wp2_with fail;refine Calls.mono HC.out ?_;rintro e w6 ⟨rfl,hb6⟩;have HT6:Hid (Th w w6 p b (w.heap.size+1) r (lbl n (tbut t d)) (bitsN (tcov n t o d) k)):=HT1.out.below' hb6;clear hb6 HT1 HC;go_wp2_with fail;refine (put_any r k (bitsN (tcov n t o d) k) w6 HT6.out.ring (by omega) (bitsN_lt _ _)).mono ?_;rintro e w7 ⟨rfl,hr7,hb7⟩;have HT7:Hid (Th w w7 p b (w.heap.size+1) r (lbl n (tbut t d)) (bitsN (tcov n t o d) (k+1))):=by
      have e1:bitsN (tcov n t o d) (k+1)=bitsN (tcov n t o d) k+2^k:=by simp only [bitsN,hcv,if_true]
      have:=HT6.out.put hr7 hb7;rw [<-e1] at this;exact this
     clear hr7 hb7 HT6;go_wp2_with fail;go_roundw;case rel=>exact ⟨k+1,by omega,by go_num,HT7.out⟩
     case measure=>simp [intOf];omega
   | false=>
     as_aux_lemma=>
     rw [hcv] at HC;go_wp2_with fail;refine Calls.mono HC.out ?_;rintro e w6 ⟨rfl,hb6⟩;have HT7:Hid (Th w w6 p b (w.heap.size+1) r (lbl n (tbut t d)) (bitsN (tcov n t o d) (k+1))):=by
      have e1:bitsN (tcov n t o d) (k+1)=bitsN (tcov n t o d) k:=by simp [bitsN,hcv]
      have:=HT1.out.below' hb6;rw [<-e1] at this;exact this
     clear hb6 HT1 HC;go_wp2_with fail;go_roundw;case rel=>exact ⟨k+1,by omega,by go_num,HT7.out⟩
     case measure=>simp [intOf];omega
  ·as_aux_lemma=>
   have hke:k=m:=by omega
   subst hke;obtain ⟨X,hX⟩:∃X,lo64 (bitsN (tcov n t o d) k)=X:=⟨_,rfl⟩;obtain ⟨Y,hY⟩:∃Y,hi64 (bitsN (tcov n t o d) k)=Y:=⟨_,rfl⟩;have HXX:Hid (ringV (bitsN (tcov n t o d) k)= .agg #[.int .u64 (X:Int),.int .u64 (Y:Int)]):=by
    show ringV _=_;unfold ringV;rw [hX,hY]
   have q8:wr.heap[w.heap.size+1]? =some (.cells #[.int .u64 0,.int .u64 0] 208):=HTh.out.res.zero;have qr:wr.heap[r]? =some (.cells #[.int .u64 (X:Int),.int .u64 (Y:Int)] 208):=by rw [<-hX,<-hY];exact HTh.out.ring
   have c0:wr.cell? ⟨r,0,none⟩=some (.int .u64 (X:Int)):=by simp [World.cell?,qr]
   have c1:wr.cell? ⟨r,1,none⟩=some (.int .u64 (Y:Int)):=by simp [World.cell?,qr]
   have d0:wr.cell? ⟨w.heap.size+1,0,none⟩=some (.int .u64 0):=by simp [World.cell?,q8]
   have d1:wr.cell? ⟨w.heap.size+1,1,none⟩=some (.int .u64 0):=by simp [World.cell?,q8]
   have f0:∀i,wr.frozen? ⟨w.heap.size+1,i,none⟩=false:=λ i=>by simp only [World.frozen?,q8];simp
   have f00:=f0 0;have f01:=f0 1;have HB:Hid (Below w.heap.size w wr):=HTh.out.below;clear hX hY f0 q8 qr HTh;go_wp2_with fail
   (try simp only [Exit.inBlock,Exit.then])
   refine bodyPost_ret (v:=.agg #[.int .u64 (X:Int),.int .u64 (Y:Int)]) ?_ rfl ⟨by rw [HXX.out],?_⟩
   ·rw [results_cell rfl]
    go_simp
   ·exact (HB.out.setCell (show w.heap.size<=w.heap.size+1 by omega) _).setCell (show w.heap.size<=w.heap.size+1 by omega) _
end Go.Proofs.YtebcjaenhiiflaaGreatDoor.S
