import Derived.Test.YtebcjaenhiiflaaGreatDoorQKVwFg
import Derived.Maps.GroupsBeside
set_option maxHeartbeats 4000000
set_option maxRecDepth 100000
namespace Go.Proofs.Y.S
open Go.RowKit Go.WideMaps Go.Maps Go.ChangeShapes Go.Proofs.Tryz
structure Rs (w:World) (B n:Nat) (t:Value) (ps:List (Nat × Nat × List Nat)):Prop where
 row:w.ownsRow B 175 1 t ps.length (ps.map λ q=>Value.pointer q.1)
 sets:∀q∈ps,Aa w q.1 q.2.1 q.2.2
 len:∀q∈ps,q.2.2.length=n
 off:∀k,t.ownBlock=some k->∀q∈ps,q.1≠k/\q.2.1≠k
theorem Rs.below {w w':World}{B n:Nat}{t:Value}{ps:List (Nat × Nat × List Nat)}(h:Rs w B n t ps)(hb:Below w w w'):Rs w' B n t ps:=
 {h with row:=dI h.row (Ai hb) (by by_cases e:t.ownBlock=none;exact .inl e;exact .inr e),sets:=λ q hq=>(h.sets q hq).below hb (h.sets q hq).plt (h.sets q hq).blt}
def apB (ps:List (Nat × Nat × List Nat))(x y:Nat):Bool:=ps.any λ q=>decide (q.2.2.getD x 0≠q.2.2.getD y 0)
theorem Y0 {ps:List (Nat × Nat × List Nat)}{x y:Nat}:apB ps x y=false↔∀q∈ps,q.2.2.getD x 0=q.2.2.getD y 0:=by
 simp[apB]
theorem zly (x y p b cx cy:Nat)(L:List Nat)(s:Bool)(w:World)(hs:Aa w p b L)(hx:x<L.length)(hy:y<L.length)(kx:w.cell? cx=x)(ky:w.cell? cy=y)(hv:s=true↔L.getD x 0≠L.getD y 0):
 Calls prog 259 #[.pointer p,.pointer cx,.pointer cy] w λ e w'=>e=s/\Below w w w':=by
 have HC:Hid _:=Uw x y p b L s w hs hx hy hv;clear hs hx hy hv;go_enter func259,ntmps259;go_wp2_with fail;refine aA HC.o ?_;rintro e w1 ⟨rfl,hb⟩;have HB:=kd hb;clear hb HC;go_wp2_with fail;go_ret;exact⟨rfl,HB.o⟩
theorem zcz (x y cx cy n g m cap B:Nat)(ps:List (Nat × Nat × List Nat))(w:World)(h:Rs w B n (.slice g m cap) ps)(hx:x<n)(hy:y<n)(kx:w.cell? cx=x)(ky:w.cell? cy=y)(hm:ps.length=m)(hl:m<=1000):
 Calls prog 325 #[.slice g m cap,.func (.func 259) #[] #[.pointer cx,.pointer cy]] w λ e w'=>((∃i,i<m/\e= .returned (.int .i64 ((i:Nat):Int))/\apB ps x y=true)\/(e=(-1:Int)/\apB ps x y=false))/\Below w w w':=by
 have HO:=kd (And.intro h hm);have HK:=kd (And.intro kx ky);clear h hm kx ky;go_enter func325,ntmps325;go_wp2_with fail;go_loopw [8] (λ s8 wq=>∃k:Nat,k<=m/\s8=k/\(∀j q,j<k->ps[j]? =some q->q.2.2.getD x 0=q.2.2.getD y 0)/\Below w w wq) (λ s8 _=>m-(intOf s8).toNat)
 case atStart=>exact⟨0,aN _,rfl,λ j q hj=>by omega,aI _ _⟩
 case round=>
  obtain⟨k,hk,rfl,AA,hb⟩:=hrel;have HB:=kd (And.intro AA hb);clear AA hb;by_cases j6:k<m
  ·obtain⟨q,hq⟩:∃q,ps[k]? =some q:=⟨_,aB (by rw[HO.o.2];exact j6)⟩
   have hR:=HO.o.1.below HB.o.2;have hqm:=aG hq;have r0:wr.cell? (g,k)=some (.pointer q.1):=by
    have h1:=hR.row;rw[HO.o.2] at h1;rw[h1.cellAt k (by omega)];simp[hq]
   have HX:=kd hq;have hs:=hR.sets q hqm;have YN:=hR.len q hqm;have HC:Hid _:=zly x y q.1 q.2.1 cx cy q.2.2 (decide (q.2.2.getD x 0≠q.2.2.getD y 0)) wr hs (by omega) (by omega) (cell_below HK.o.1 HB.o.2) (cell_below HK.o.2 HB.o.2) (by simp);clear hR hs YN hq;by_cases MJ:q.2.2.getD x 0≠q.2.2.getD y 0
   ·as_aux_lemma=>
    have HT:Hid (apB ps x y=true):=fM.2 ⟨q,hqm,bI MJ⟩;rw[bI MJ] at HC;clear hqm MJ;go_wp2_with fail;refine aA HC.o ?_;rintro e w2 ⟨rfl,j5⟩;have y5:Hid (Below w w w2):=HB.o.2.tr j5;clear j5 HC;go_wp2_with fail;go_ret;exact⟨.inl ⟨k,j6,rfl,HT.o⟩,y5.o⟩
   ·as_aux_lemma=>
    rw[bM MJ] at HC;have DK:q.2.2.getD x 0=q.2.2.getD y 0:=by omega
    have HN:=kd DK;clear hqm MJ DK;go_wp2_with fail;refine aA HC.o ?_;rintro e w2 ⟨rfl,j5⟩;have y5:Hid (Below w w w2/\∀j q,j<k+1->ps[j]? =some q->q.2.2.getD x 0=q.2.2.getD y 0):=⟨HB.o.2.tr j5,λ j q' hj hq'=>by
     by_cases e:j=k
     ·rw[e,HX.o] at hq';injection hq' with hq';rw[<-hq'];exact HN.o
     ·exact HB.o.1 j q' (by omega) hq'⟩
    clear j5 HC;go_wp2_with fail;go_roundw;case rel=>exact⟨k+1,by omega,by go_num,y5.o.2,y5.o.1⟩
    case measure=>simp[intOf];omega
  ·as_aux_lemma=>
   have CF:k=m:=by omega
   have HF:Hid (apB ps x y=false):=Y0.2 (λ q hq=>by
    obtain⟨j,hj⟩:=bY hq;have:=(aC.1 hj).1;exact HB.o.1 j q (by have:=HO.o.2;omega) hj)
   go_wp2_with fail;go_ret;exact⟨.inr ⟨rfl,HF.o⟩,HB.o.2⟩
theorem Zi (x y cx cy n g m cap B:Nat)(ps:List (Nat × Nat × List Nat))(w:World)(h:Rs w B n (.slice g m cap) ps)(hx:x<n)(hy:y<n)(kx:w.cell? cx=x)(ky:w.cell? cy=y)(hm:ps.length=m)(hl:m<=1000):
 Calls prog 258 #[.slice g m cap,.func (.func 259) #[] #[.pointer cx,.pointer cy]] w λ e w'=>e=Value.bool (apB ps x y)/\Below w w w':=by
 have HC:Hid _:=zcz x y cx cy n g m cap B ps w h hx hy kx ky hm hl;clear h hx hy kx ky hm hl;go_enter func258,ntmps258;go_wp2_with fail;refine aA HC.o ?_;rintro e w1 ⟨he,hb⟩;have HB:=kd hb;clear hb HC;rcases he with⟨i,hi,rfl,ht⟩|⟨rfl,ht⟩
 ·as_aux_lemma=>
  have h0:(0:Int)<=(i:Int):=by omega
  have HT:=kd ht;clear ht;go_wp2_with fail;go_ret;exact⟨by simp[HT.o],HB.o⟩
 ·as_aux_lemma=>
  have HT:=kd ht;clear ht;go_wp2_with fail;go_ret;exact⟨by simp[HT.o],HB.o⟩
theorem zhj {D:DataW Unit}{S:List Edg}{f:Edg->Nat}(h:Rm D S f){x c1 c2:Int}{y:DataW Unit × List MemPlace}(hy:y=(.agg [.lit (.int .u64 c1),.lit (.int .u64 c2)],[]))(q9:∀zd,D.atKey x zd=y.1):∃e∈S,e.1=x/\c1=(Cu (f e):Nat)/\c2=(hi64 (f e):Nat):=by
 obtain⟨e,he,hx⟩:=(h.key _).1 (has_true_of_atKey q9);have hx':e.1=x:=by injection hx with _ hx;exact hx.symm
 refine⟨e,he,hx',?_⟩;have h1:=h.val e he .nil;rw[hx',q9,hy] at h1;simp only[Rz,DataW.agg.injEq,kF,DataW.lit.injEq,Lit.int.injEq,lK,lL] at h1;exact h1
theorem Ql {w:World}{base ma m:Nat}{D:DataW Unit}(h:w.ownsGroups prog 208 base 3 .i64 ma m D)(o:Obj):(w.alloc o).ownsGroups prog 208 base 3 .i64 ma m D:=
 h.kept (bR _ _ none) (by simp) (h.rowsAbove (λ j hj=>by cases hj))
theorem zfb {w w1:World}{ma mb it base m:Nat}{D:DataW Unit}{Dn:Edg->Prop}{f:Edg->Nat}(hG:w1.ownsGroups prog 208 base 3 .i64 ma m D)(hm:m<=1000)(ML:Ga D Dn f)(hf:∀d,f d<340282366920938463463374607431768211456)(e:Edg)(GL:(Lit.int .i64 e.1).wf=true)(ZK:base<=w1)(hma:ma<base)
 (h1:mb<base) (h2:it<base) (h3:mb≠ma) (h4:it≠ma) (hb:Below w w w1) (hwm:w<=ma):
 ∃v st w3 v' w4 w5 D',(Instr.mapEntry 284 (.map ma) (.agg #[.int .u64 (Cu (f e):Int),.int .u64 (hi64 (f e):Int)])).run prog ((w1.alloc (.cells #[.int .u64 (Cu (f e):Int),.int .u64 (hi64 (f e):Int)] 208)).alloc (.cells #[e.1] 3))= .ok (.tuple #[v,.int .i64 st]) w3/\
  (Builtin.append_ #[48,48] 48 #[v,.slice (w1.heap.size+1:Nat) 1 1]).run prog w3= .ok v' w4/\
  (Instr.entryStore 284 (.map ma) (.int .i64 st) v').run prog w4= .ok () w5/\
  w5.ownsGroups prog 208 base 3 .i64 ma (m+1) D'/\Ga D' (λ d=>Dn d\/d=e) f/\Below w w w5/\w1.heap.size<=w5.heap.size/\
  ∀N D0 left cnt,w1.ranges prog 3 D7 mb it N D0 left cnt->w5.ranges prog 3 D7 mb it N D0 left cnt:=by
 obtain⟨W2,DI⟩:∃W2,(w1.alloc (.cells #[.int .u64 (Cu (f e):Int),.int .u64 (hi64 (f e):Int)] 208)).alloc (.cells #[e.1] 3)=W2:=⟨_,rfl⟩;have hG2:W2.ownsGroups prog 208 base 3 .i64 ma m D:=by rw[<-DI];exact Ql (Ql hG _) _
 have AU:w1.grownBy W2 none:=by rw[<-DI];exact(bR _ _ none).trans (bR _ _ none)
 have DJ:W2.heap.size=w1.heap.size+2:=by rw[<-DI];simp
 have hlit:W2.heap[w1.heap.size+1]? =some (.cells #[e.1] 3):=by
  rw[<-DI];have:=aQ (w1.alloc (.cells #[.int .u64 (Cu (f e):Int),.int .u64 (hi64 (f e):Int)] 208)) (.cells #[e.1] 3);rw[aT] at this;exact this
 rw[DI];clear DI;obtain⟨v,zs,st,w3,TR,q9,EB,TG,FL,OT,DL⟩:=kv hG2 Q6 underlying284 (L6 _) (by unfold maxLen;omega) (ai (hf e));obtain⟨i0,hi,BR,BU,BM⟩:=info_parts Tryz.info3;have hlit3:w3.heap[w1.heap.size+1]? =some (.cells #[e.1] 3):=(FL.block _ (lt_of_some hlit) (by simp;omega)).trans hlit;have QS:∀j u,[Value.int .i64 e.1][j]? =some u->w3.cell? ((⟨w1.heap.size+1,0,none⟩:Addr).add j)=some u:=by
  intro j u hj
  match j,hj with
  |0,hj=>
   simp at hj;subst hj;simp[World.cell?,Addr.add,hlit3]
  |j+1,hj=>simp at hj
 obtain⟨v',w4,hr,r2,r3,r4,r5⟩:=run_append_own_at (P:=prog) w3 base 48 48 3 i0 (0:Int) 1 8 underlying48 hi BR BU BM rfl (by decide) v zs.length (zs.map (Value.int .i64)) EB.1 (w1.heap.size+1:Nat) 1 1 [e.1] rfl QS (ints_oneCell .i64 [e.1]) (by unfold maxLen;omega) (by omega) (by omega);have ho':=EB.appended r2 GL;obtain⟨w5,CU,hG5,YM⟩:=DL w4 v' _ r3 ho' (by simp;omega) (r5.imp id (λ h=>⟨_,h,aF _⟩));have UE:∀k,v.ownBlock=some k->base<=k:=λ k hk=>(aU EB.1 k hk).1
 refine⟨v,st,w3,v',w4,w5,_,TR,hr,CU,hG5,ML.more hf e q9 EB (λ n c hh=>?_),?_,?_,λ N D0 left cnt RQ=>?_⟩
 ·rw[hh] at r2
  rcases r2.2 with⟨_,h0⟩|⟨g,cap,cur,hh2,_⟩
  ·omega
  ·cases hh2
 ·have b2:Below w w W2:=hb.grown AU hb.size (λ j hj=>by cases hj)
  have b3:=b2.grown FL b2.size (λ j hj=>by injection hj with hj;omega);have b4:=b3.grown r3 b3.size (λ j hj=>by have:=UE j hj;omega);exact b4.grown YM b4.size (λ j hj=>by injection hj with hj;omega)
 ·have:=r3.size
  have:=YM.size;omega
 ·have q2:=RQ.kept AU (by simp) (by simp)
  have q3:=q2.kept FL (by simpa using h3) (by simpa using h4);have q4:=q3.kept r3 (λ hh=>by have:=UE mb hh.symm;omega) (λ hh=>by have:=UE it hh.symm;omega);exact q4.kept YM (by simpa using h3) (by simpa using h4)
theorem Xi:(prog.info? 175).map (λ i=>(i.zero,i.size,i.bytes))=some (some (.pointer none),1,8):=by kernel_rfl
theorem zka (W:World)(B n:Nat)(t:Value)(ps:List (Nat × Nat × List Nat))(p b:Nat)(L:List Nat)(h:Rs W B n t ps)(hB:B<=W)(hl:ps.length<=1000)(hs:Aa W p b L)(hL:L.length=n)(ho:∀k,t.ownBlock=some k->p≠k/\b≠k):
 ∃v' w',(Builtin.append_ #[212,212] 212 #[t,.slice W 1 1]).run prog (W.alloc (.cells #[.pointer p] 175))= .ok v' w'/\Rs w' B n v' (ps++[(p,b,L)])/\W.grownBy w' t.ownBlock/\(v'.ownBlock=t.ownBlock\/v'.ownBlock=some (W.heap.size+1))/\∃g c,v'= .slice (some ⟨g,0,none⟩) (ps.length+1) c:=by
 obtain⟨i0,hi,BR,BU,BM⟩:=info_parts Xi;obtain⟨v',w',hr,r2,r3,r4,r5⟩:=run_append_own_at (P:=prog) (W.alloc (.cells #[.pointer p] 175)) B 212 212 175 i0 (.pointer none) 1 8 underlying212 hi BR BU BM rfl (by decide) t ps.length (ps.map λ q=>Value.pointer q.1) (h.row.alloc _) W 1 1 [.pointer p] rfl (cell_one_new _ _ _) (λ u hu=>by simp at hu;subst hu;rfl) (by unfold maxLen;omega) (by omega) (by simp;omega);have hg:W.grownBy w' t.ownBlock:=(bR _ _ _).trans r3;have keep:∀{p b:Nat} {L:List Nat},Aa W p b L->(∀k,t.ownBlock=some k->p≠k/\b≠k)->Aa w' p b L:=λ {p b L} h1 h2=>
  ⟨(hg.block p h1.plt (λ e=>(h2 p e.symm).1 rfl)).trans h1.hp,(hg.block b h1.blt (λ e=>(h2 b e.symm).2 rfl)).trans h1.hb⟩
 refine⟨v',w',hr,⟨by simpa using r2,λ q hq=>?_,λ q hq=>?_,λ k hk q hq=>?_⟩,hg,by simpa using r5,?_⟩
 ·rcases aK.1 hq with hq|hq
  ·exact keep (h.sets q hq) (λ k hk=>h.off k hk q hq)
  ·rw[aJ.1 hq];exact keep hs ho
 ·rcases aK.1 hq with hq|hq
  ·exact h.len q hq
  ·rw[aJ.1 hq];exact hL
 ·have j6:∀{p b:Nat} {L:List Nat},Aa W p b L->(∀k,t.ownBlock=some k->p≠k/\b≠k)->p≠k/\b≠k:=λ {p b L} h1 h2=>by
   rcases r5 with h5|h5
   ·exact h2 k (h5▸hk)
   ·rw[hk] at h5
    injection h5 with h5
    simp at h5;have:=h1.plt;have:=h1.blt;constructor <;> omega
  rcases aK.1 hq with hq|hq
  ·exact j6 (h.sets q hq) (λ k hk=>h.off k hk q hq)
  ·rw[aJ.1 hq];exact j6 hs ho
 ·rcases r2.2 with⟨_,h0⟩|⟨g,cap,cur,hh2,_⟩
  ·omega
  ·exact⟨g,cap,hh2⟩
theorem zsx (W:World)(B n p b:Nat)(L:List Nat)(hB:B<=W)(hs:Aa W p b L)(hL:L.length=n):
 Rs (W.alloc (.cells #[.pointer p] 175)) B n (.slice W 1 1) [(p,b,L)]:=by
 have hb:Below W W (W.alloc (.cells #[.pointer p] 175)):=b_;refine⟨⟨rfl,.inr ⟨W.heap.size,1,_,rfl,hB,aQ W _,by simp,by unfold maxLen;omega,by simp,by simp⟩⟩,λ q hq=>?_,λ q hq=>?_,λ k hk q hq=>?_⟩
 ·rw[aJ.1 hq];exact hs.below hb hs.plt hs.blt
 ·rw[aJ.1 hq];exact hL
 ·rw[aJ.1 hq]
  simp[Value.ownBlock] at hk;have:=hs.plt;have:=hs.blt;constructor <;> (simp only;omega)
def rests (n:Nat)(R S:List Edg)(f:Edg->Nat):List (List Nat):=lbl n R::S.map λ d=>lbl n (R.filter λ e=>decide (f e≠f d))
def alB (Ls:List (List Nat))(x y:Nat):Bool:=Ls.all λ L=>decide (L.getD x 0=L.getD y 0)
def H7 (q:Nat->Nat->Bool)(x y:Nat):List Edg:=((List.range y).filter (q x)).map λ(z:Nat)=>((0:Int),(x:Int),(z:Int))
def tri (q:Nat->Nat->Bool):Nat->List Edg
 |0=>[]
 |x+1=>tri q x++H7 q x x
def Ku (n:Nat)(R S:List Edg)(f:Edg->Nat):List Nat:=lbl n (tri (alB (rests n R S f)) n)
theorem Yf (q:Nat->Nat->Bool)(x y:Nat):H7 q x (y+1)=H7 q x y++if q x y then [((0:Int),(x:Int),(y:Int))] else []:=by
 unfold H7;rw[dN,bP,dL];by_cases h:q x y <;> simp[h]
theorem Vn (q:Nat->Nat->Bool)(n:Nat):∀x,x<=n->C8 n (tri q x)
 |0,_=>λ e he=>by simp[tri] at he
 |x+1,hx=>λ e he=>by
  rcases aK.1 he with he|he
  ·exact Vn q n x (by omega) e he
  ·obtain⟨z,hz,rfl⟩:=aY.1 he
   have:=bF.1 (aO.1 hz).1;refine⟨?_,?_⟩ <;> simp[ea,eb] <;> omega
theorem zof (q:Nat->Nat->Bool)(n x y:Nat)(hx:x<n)(hy:y<=x):C8 n (H7 q x y):=λ e he=>by
 obtain⟨z,hz,rfl⟩:=aY.1 he;have:=bF.1 (aO.1 hz).1;refine⟨?_,?_⟩ <;> simp[ea,eb] <;> omega
theorem zdn (q:Nat->Nat->Bool)(n x y:Nat)(hx:x<n)(hy:y<=x):C8 n (tri q x++H7 q x y):=λ e he=>by
 rcases aK.1 he with he|he
 ·exact Vn q n x (by omega) e he
 ·exact zof q n x y hx hy e he
theorem rf {w:World}{ma base:Nat}(h:w.heap[ma]? =some (.map #[] 0))(hb:ma<base):w.ownsGroups (H:=Unit) prog 208 base 3 .i64 ma 0 (.map []):=
 ⟨#[],0,h,⟨by simp,MapKept.stamped_empty 0,by simp⟩,aF _,rfl,hb,by simp,by simp⟩
structure Lp (w7 wr:World) (base ma it M N n:Nat) (D:DataW Unit) (R S:List Edg) (f:Edg->Nat) (t:Value) (left:Lit->Bool) (cnt:Nat) (ps:List (Nat × Nat × List Nat)):Prop where
 rg:wr.ranges prog 208 (rowElem (H:=Unit) w7 base 3 .i64) ma it N D left cnt
 rs:Rs wr w7 n t ps
 nit:∀k,t.ownBlock=some k->k≠it
 qit:∀q∈ps,q.1≠it/\q.2.1≠it
 all:∀q∈ps,q.2.2∈rests n R S f
 one:∃q∈ps,q.2.2=lbl n R
 done:∀d∈S,left (rk (f d))=false->∃q∈ps,q.2.2=lbl n (R.filter λ e=>decide (f e≠f d))
 many:ps.length+cnt<=M+1
 below:Below w7 w7 wr
 lit:it<wr
 lma:ma<w7
 hit:w7<=it
section
variable {w7 wr w':World} {base ma it M N n:Nat} {D:DataW Unit} {R S:List Edg} {f:Edg->Nat} {t:Value} {left:Lit->Bool} {cnt:Nat} {ps:List (Nat × Nat × List Nat)}
theorem Lp.below' (h:Lp w7 wr base ma it M N n D R S f t left cnt ps)(hb:Below wr wr w'):Lp w7 w' base ma it M N n D R S f t left cnt ps:=
 {h with rg:=h.rg.kept (Ai hb) (by simp) (by simp),rs:=h.rs.below hb,below:=h.below.tr hb,lit:=aR h.lit hb.size}
theorem Lp.next (h:Lp w7 wr base ma it M N n D R S f t left cnt ps){cnt':Nat}(hg:wr.grownBy w' (some it))(hc:cnt'<cnt):
 Rs w' w7 n t ps/\Below w7 w7 w'/\it<w'/\ps.length+1+cnt'<=M+1:=by
 refine⟨{h.rs with row:=dI h.rs.row hg ?_,sets:=λ q hq=>?_},h.below.grown hg h.below.size (λ j hj=>by injection hj with hj;rw[<-hj];exact h.hit),aR h.lit hg.size,by have:=h.many;omega⟩
 ·by_cases e:t.ownBlock=none
  ·exact .inl e
  ·obtain⟨k,hk⟩:=gL.1 e
   exact .inr (λ e2=>h.nit k hk (by rw[hk] at e2;injection e2))
 ·have h1:=h.rs.sets q hq
  have h2:=h.qit q hq;exact⟨(hg.block _ h1.plt (by simpa using h2.1)).trans h1.hp,(hg.block _ h1.blt (by simpa using h2.2)).trans h1.hb⟩
end
theorem zhw {n:Nat}{R S:List Edg}{f:Edg->Nat}{ps:List (Nat × Nat × List Nat)}(h1:∀q∈ps,q.2.2∈rests n R S f)(h2:∃q∈ps,q.2.2=lbl n R)(h3:∀d∈S,∃q∈ps,q.2.2=lbl n (R.filter λ e=>decide (f e≠f d)))(x y:Nat):apB ps x y=!alB (rests n R S f) x y:=by
 by_cases h:alB (rests n R S f) x y=true
 ·rw[h]
  refine Y0.2 (λ q hq=>?_);exact dH (iW.1 h _ (h1 q hq))
 ·rw[Bool.not_eq_true] at h
  rw[h];obtain⟨L,hL,l9⟩:=List.all_eq_false.1 h;have hne':¬L.getD x 0=L.getD y 0:=λ k=>l9 (bI k)
  rcases cO.1 hL with rfl|hL
  ·obtain⟨q,hq,he⟩:=h2
   exact fM.2 ⟨q,hq,bI (by rw[he];exact hne')⟩
  ·obtain⟨d,hd,rfl⟩:=aY.1 hL
   obtain⟨q,hq,he⟩:=h3 d hd;exact fM.2 ⟨q,hq,bI (by rw[he];exact hne')⟩
theorem zeu {w:World}{base ma m:Nat}{D:DataW Unit}(h:w.ownsGroups prog 208 base 3 .i64 ma m D):w.ownsMap prog 208 (rowElem (H:=Unit) w base 3 .i64) ma m D:=by
 obtain⟨es,clock,h1,h2,h3,h4,_⟩:=h;exact⟨es,clock,h1,h2,h3,h4⟩
theorem zua {w:World}{base:Nat}{v:Value}{y:DataW Unit × List MemPlace}(h:rowElem (H:=Unit) w base 3 .i64 v=some y):∃c:Option Addr × Nat × Nat,v= .slice c.1 c.2.1 c.2.2:=by
 obtain⟨zs,ho,_⟩:=rowElem_inv h;rcases ho.1.2 with⟨hh,_⟩|⟨g,cap,cur,hh,_⟩
 ·exact⟨(none,0,0),hh⟩
 ·exact⟨(some ⟨g,0,none⟩,zs.length,cap),hh⟩
theorem zba {w:World}{base ma m:Nat}{D:DataW Unit}{S:List Edg}{f:Edg->Nat}(hG:w.ownsGroups prog 208 base 3 .i64 ma m D)(ML:Ga D (λ e=>e∈S) f)(hm:m<=1000){key v:Value}{kl:Lit}{y:DataW Unit × List MemPlace}(o9:keyOf prog 208 key=some kl)(hR:rowElem (H:=Unit) w base 3 .i64 v=some y)(q9:∀zd,D.atKey kl zd=y.1):
 ∃d∈S,kl=rk (f d)/\∃zs,w.ownsInts base 3 .i64 v zs/\zs.length<=1000/\∀x,x∈zs↔∃e∈S,f e=f d/\e.1=x:=by
 obtain⟨d,hd,rfl⟩:=(ML.key kl).1 (has_true_of_atKey q9);obtain⟨zs,ho,rfl⟩:=rowElem_inv hR;obtain⟨ys,h1,h2⟩:=ML.yes (f d) ⟨d,hd,rfl⟩;obtain⟨v2,zs2,_,h3,h4,h5,_⟩:=hG.at Q6 underlying284 (L6 _) (by unfold maxLen;omega) o9;have e1:(rowDatum .i64 v zs:DataW Unit)= .slice (lits .i64 ys) []:=(q9 .nil).symm.trans h1;have e2:(rowDatum .i64 v2 zs2:DataW Unit)= .slice (lits .i64 ys) []:=h3.symm.trans h1;have pick:∀{u:Value} {xs:List Int},(rowDatum .i64 u xs:DataW Unit)= .slice (lits .i64 ys) []->xs=ys:=λ {u xs} hh=>by
  unfold rowDatum at hh;split at hh
  ·cases hh
  ·injection hh with hh _
   exact Pe hh
 have z1:=pick e1;have z2:=pick e2;exact⟨d,hd,rfl,zs,ho,by rw[z1,<-z2];omega,by rw[z1];exact h2⟩
theorem zos {w:World}{base:Nat}{a:Option Addr}{m c:Nat}{zs:List Int}(h:w.ownsInts base 3 .i64 (.slice a m c) zs):G.Ints w a m (λ t=>zs.getD t 0)/\zs.length=m:=by
 rcases h.1.2 with⟨hh,h0⟩|⟨g,cap,cur,hh,_⟩
 ·injection hh with h1 h2 h3
  exact⟨⟨λ hm=>by omega⟩,by omega⟩
 ·have h1:=h.1
  injection hh with e1 e2 e3
  subst e1;subst e2;refine⟨⟨λ _=>⟨g,0,rfl,λ t ht=>?_⟩⟩,rfl⟩;rw[gG,h1.cellAt t (by omega)];simp[List.getElem?_eq_getElem ht]
theorem Yz (zs:List Int)(x:Int):G.among (λ t=>zs.getD t 0) zs.length x=true↔x∈zs:=by
 constructor
 ·intro h
  simp only[G.among,fM,bF] at h;obtain⟨t,ht,he⟩:=h;have:=bX.1 he;simp[ht] at this;rw[<-this];exact dF ht
 ·intro h
  obtain⟨t,ht⟩:=bY h;have hl:=(aC.1 ht).1;exact G.Qo hl (by simp[ht])
theorem zat {R S:List Edg}{f:Edg->Nat}{d:Edg}{zs:List Int}{F:Nat->Int}(AB:∀d∈R,∀e∈R,d.1=e.1->d=e)(hS:∀e,e∈S↔e∈R)(hz:∀x,x∈zs↔∃e∈S,f e=f d/\e.1=x):R.filter (G.stays (λ t=>zs.getD t 0) F zs.length 0)=R.filter λ e=>decide (f e≠f d):=by
 refine dP (λ e he=>?_);have h0:∀x,G.among F 0 x=false:=λ x=>G.Ol (λ t ht=>by omega)
 unfold G.stays;rw[h0,h0];simp only[kN,kR];by_cases UJ:f e=f d
 ·have:G.among (λ t=>zs.getD t 0) zs.length e.1=true:=(Yz zs e.1).2 ((hz e.1).2 ⟨e,(hS e).2 he,UJ,rfl⟩)
  rw[this];simp[UJ]
 ·have:G.among (λ t=>zs.getD t 0) zs.length e.1=false:=by
   rw[fG];intro hh;obtain⟨e',he',h1,h2⟩:=(hz e.1).1 ((Yz zs e.1).1 hh);rw[AB e' ((hS e').1 he') e he h2] at h1;exact UJ h1
  rw[this];simp[UJ]
theorem yt (n B p c mb rest:Nat)(v:Value)(R S:List Edg)(f:Edg->Nat)(w0 w:World)(h:G.GAt w B 168 61 p (n:Int) v R)(hc:Cv w0 w c mb rest S f)(p8:Ok n R)(hS:∀e,e∈S↔e∈R)(hf:∀d,f d<340282366920938463463374607431768211456)(hSl:S.length<=120):
 Calls prog 142 #[.pointer c,.pointer p] w λ e w'=>∃q bq,e=Value.pointer (some ⟨q,0,none⟩)/\Aa w' q bq (Ku n R S f)/\w.heap.size<=q/\w.heap.size<=bq/\Below w w w':=by
 have HG:=kd (And.intro h p8);have HS:Hid ((∀e,e∈S↔e∈R)/\(∀d,f d<340282366920938463463374607431768211456)/\S.length<=120):=⟨hS,hf,hSl⟩;obtain⟨D0,N0,hmp,VX,hN⟩:=hc.mp;have hmbl:mb<w:=by
  obtain⟨es,clock,h1,_⟩:=hmp;exact lt_of_some h1
 have HRM:=kd VX;have hN0:N0<=120:=by rw[hN];exact hSl
 have hn16:=p8.n16;have GV:c<w:=by obtain⟨u,hu⟩:=hc.st;exact lt_of_some hu
 have c1:(w.alloc (.map #[] 0)).cell? (c,1)=some (.map mb):=by rw[dA _ _ _ GV];exact hc.cell1
 have hmp':(w.alloc (.map #[] 0)).ownsMap prog 3 D7 mb N0 D0:=hmp.alloc _;have FC:=@run_makeMap prog;clear h p8 hS hf hSl hmp VX hN hc;go_enter func142,ntmps142;go_wp2_with (first
  |(at_range;refine wpList_range_own _ rfl _ 204 rfl 3 208 Bp underlying204 D7 mb N0 D0 rfl hmp' ?_;intro w1 EC AX EK)
  |fail)
 go_frame
 rw[aT] at EC EK;rw[aT];have BZ:=kd EC;have x8:Hid (Below w w w1):=(b_).grown AX (by simp) (λ j hj=>by cases hj);have FH:Hid (w1.ownsGroups (H:=Unit) prog 208 (w+2) 3 .i64 w 0 (.map [])):=rf ((AX.block _ (by simp) (by simp)).trans (aQ w _)) (by omega);have ZZ:=kd hmp'.size_le;clear EC AX FC hmp' c1;go_loopw [6] (λ _ wq=>∃(left:Lit->Bool) (cnt m:Nat) (D:DataW Unit),wq.ranges prog 3 D7 mb (w+1) N0 D0 left cnt/\wq.ownsGroups (H:=Unit) prog 208 (w+2) 3 .i64 w m D/\Ga D (λ e=>e∈S/\left e.1=false) f/\m+cnt<=N0/\Below w w wq/\w.heap.size+2<=wq.heap.size) (λ _ wq=>wq.rangeLeft mb (w+1))
 case atStart=>
  refine⟨_,_,0,_,BZ.o,FH.o,(Ga.start f).congr (λ d=>⟨λ h=>h.elim,λ⟨h1,h2⟩=>?_⟩),by have:=ZZ.o;omega,x8.o,by omega⟩;rw[(HRM.o.key _).2 ⟨d,h1,rfl⟩] at h2;cases h2
 case round=>
  obtain⟨left,cnt,m,D,RQ,FR,ML,hmc,BH,BS⟩:=hrel;have MB:=kd RQ;have IU:=kd FR;have HGA:=kd ML;have JI:=kd BH;clear RQ FR ML BH BZ x8 FH ZZ EK;go_wp2_with (first
   |(at_next;go_loud (refine wpList_next_ranges _ rfl _ rfl 3 Bp D7 (Value.int .i64) (λ c:Int × Int=>.agg #[.int .u64 c.1,.int .u64 c.2]) (λ key kl o9=>by obtain⟨x,rfl,_⟩:=Maps.keyOf_int_inv underlying3 o9;exact⟨x,rfl⟩) (λ v y hv=>by obtain⟨c,rfl,_⟩:=Qr hv;exact⟨c,rfl⟩) mb (w+1) N0 D0 left cnt rfl MB.o ?_ ?_))
   |fail)
  ·intro _ JU
   have UO:=kd JU;clear JU;have HGA2:Hid (Ga D (λ e=>e∈S) f):=HGA.o.congr (λ d=>⟨λ h=>h.1,λ h=>⟨h,UO.o _⟩⟩);have HGW:Hid (G.GAt wr B 168 61 p (n:Int) v R):=HG.o.1.below JI.o;have hRl:R.length<=120:=HG.o.2.len;clear HGA UO MB;go_wp2_with fail;refine(G.Cg (n:Int) B p v R _ HGW.o).mono ?_;rintro e w7 ⟨rfl,hw7⟩;subst hw7;go_wp2_with fail;refine(G.Dv (n:Int) B p v R _ HGW.o (by omega)).mono ?_;rintro e w8 ⟨ue,rfl,MX,hb8⟩;have HO8:=kd (And.intro MX hb8);clear MX hb8;go_wp2_with fail;refine(Ie n _ ue R w8 HO8.o.1 (by omega) HG.o.2.inn (by omega)).mono ?_;rintro e w9 ⟨ps,bs,rfl,RV,XA,EI,hb9⟩;have XI:Hid (Below w7 w7 w9):=HO8.o.2.tr hb9;have hB9:=XI.o.size;have HRS:Hid (Rs (w9.alloc (.cells #[.pointer ps] 175)) w7 n (.slice w9 1 1) [(ps,bs,lbl n R)]):=zsx w9 _ n ps bs _ hB9 RV (Er HG.o.2.inn.nodes).len;have CW:Below w9 w9 (w9.alloc (.cells #[.pointer ps] 175)):=b_;have FX:Hid (Below w7 w7 (w9.alloc (.cells #[.pointer ps] 175))):=XI.o.trans (CW.mono hB9);have z8:(w9.alloc (.cells #[.pointer ps] 175)).ownsMap prog 208 (rowElem (H:=Unit) w7 (w+2) 3 .i64) w m D:=(zeu IU.o).kept (Ai FX.o) (by simp);have SI:=kd (And.intro RV.plt RV.blt);clear RV XA EI hb9 HO8 XI CW;go_wp2_with (first
    |(at_range;refine wpList_range_own _ rfl _ 284 rfl 208 48 Q6 underlying284 (rowElem (H:=Unit) w7 (w+2) 3 .i64) w.heap.size m D rfl z8 ?_;intro w10 VY SK hs10)
    |fail)
   go_frame
   rw[aT] at VY hs10;rw[aT];have hlma:w.heap.size<w7.heap.size:=by omega
   have KF:Hid (Lp w7 w10 (w+2) w (w9+1) m m n D R S f (.slice w9 1 1) (Maps.has D) (Maps.size D) [(ps,bs,lbl n R)]):=by
    have hb10:Below (w9.alloc (.cells #[.pointer ps] 175)).heap.size (w9.alloc (.cells #[.pointer ps] 175)) w10:=⟨SK.os,SK.tape,SK.output,SK.size,λ k hk=>SK.block k hk (by simp)⟩;refine⟨VY,HRS.o.below hb10,λ k hk=>?_,λ q hq=>?_,λ q hq=>?_,⟨_,aJ.2 rfl,rfl⟩,λ d hd hl=>?_,?_,FX.o.tr hb10,by omega,hlma,by omega⟩
    ·simp[Value.ownBlock] at hk;omega
    ·rw[aJ.1 hq]
     have:=SI.o;constructor <;> (simp only;omega)
    ·rw[aJ.1 hq];exact fQ
    ·rw[(HGA2.o.key _).2 ⟨d,hd,rfl⟩] at hl
     cases hl
    ·have:=z8.size_le
     simp;omega
   clear VY SK hs10 z8 HRS FX SI;go_loopw [8] (λ s8 wq=>∃(left:Lit->Bool) (cnt:Nat) (qs:List (Nat × Nat × List Nat)),Lp w7 wq (w+2) w (w9+1) m m n D R S f s8 left cnt qs) (λ _ wq=>wq.rangeLeft w (w9+1))
   case atStart=>exact⟨_,_,_,KF.o⟩
   case round=>
    clear KF;obtain⟨left,cnt,qs,hlp⟩:=hrel;have KF:=kd hlp;clear hlp;go_wp2_with (first
     |(at_next;refine wpList_next_ranges _ rfl _ rfl 208 Q6 (rowElem (H:=Unit) w7 (w+2) 3 .i64) (λ x:Value=>x) (λ c:Option Addr × Nat × Nat=>Value.slice c.1 c.2.1 c.2.2) (λ key kl o9=>⟨key,rfl⟩) (λ v y hv=>zua hv) w.heap.size (w9+1) m D left cnt rfl KF.o.rg ?_ ?_)
     |fail)
    ·intro _ JU
     have UO:=kd JU;clear JU;obtain⟨qq,hqq⟩:∃qq,alB (rests n R S f)=qq:=⟨_,rfl⟩;have HQQ:Hid (Ku n R S f=lbl n (tri qq n)):=by show _=_;rw[<-hqq];rfl
     have QT:Hid (∀x y,apB qs x y=!qq x y):=λ x y=>by rw[<-hqq];exact zhw KF.o.all KF.o.one (λ d hd=>KF.o.done d hd (UO.o _)) x y
     have hql:qs.length<=1000:=by have:=KF.o.many;omega
     have CQ:Hid (Below w w wr):=JI.o.tr KF.o.below;have OD:=CQ.o.size;obtain⟨g8,c8,rfl⟩:∃g c,u8= .slice (some ⟨g,0,none⟩) qs.length c:=by
      rcases KF.o.rs.row.2 with⟨_,h0⟩|⟨g,cap,cur,hh2,_⟩
      ·obtain⟨q,hq,_⟩:=KF.o.one
       rw[bW.1 h0] at hq;simp at hq
      ·exact⟨g,cap,hh2⟩
     obtain⟨m8,hm8⟩:∃m8,qs.length=m8:=⟨_,rfl⟩;have HRS:Hid (Rs wr w7 n (.slice g8 m8 c8) qs/\qs.length=m8):=by
      have:=KF.o.rs;rw[hm8] at this;exact⟨this,hm8⟩
     rw[hm8];rw[hm8] at hql;clear UO KF IU HGA2 hqq hm8;go_wp2_with fail;refine(G.Cg (n:Int) B p v R _ (HG.o.1.below CQ.o)).mono ?_;rintro e w2 ⟨rfl,BL⟩;subst BL;go_wp2_with fail;refine(Kk n w2 (by omega)).mono ?_;rintro e w3 ⟨rfl,OT,y8⟩;have IG:=kd (And.intro OT y8);clear OT y8;go_wp2_with fail;refine(G.Cg (n:Int) B p v R _ ((HG.o.1.below CQ.o).below IG.o.2)).mono ?_;rintro e w4 ⟨rfl,NG⟩;subst NG;go_wp2_with fail;go_loopw [64] (λ s64 wq=>∃x:Nat,x<=n/\s64=x/\Aa wq (w2+1) w2 (lbl n (tri qq x))/\Below w2 w2 wq) (λ s64 _=>n-(intOf s64).toNat)
     case atStart=>exact⟨0,aN _,rfl,IG.o.1,IG.o.2⟩
     case round=>
      clear IG;obtain⟨x,hx,rfl,VO,BF⟩:=hrel;have HX:=kd (And.intro VO BF);clear VO BF;by_cases j6:x<n
      ·as_aux_lemma=>
       rename World=>wo
       have hwo:w2.heap.size+1<wo.heap.size:=HX.o.1.plt;have XY:Hid (Aa (wo.alloc (.cells #[x] 3)) (w2+1) w2 (lbl n (tri qq x++H7 qq x 0))/\(wo.alloc (.cells #[x] 3)).cell? wo=x/\Below w2 w2 (wo.alloc (.cells #[x] 3))):=by
        have j4:Below wo wo (wo.alloc (.cells #[x] 3)):=b_;refine⟨?_,by simp,HX.o.2.tr j4⟩;have:tri qq x++H7 qq x 0=tri qq x:=by simp[H7]
        rw[this];exact HX.o.1.below j4 HX.o.1.plt HX.o.1.blt
       clear HX;go_wp2_with fail;go_loopw [68] (λ s68 wq=>∃y:Nat,y<=x/\s68=y/\Aa wq (w2+1) w2 (lbl n (tri qq x++H7 qq x y))/\wq.cell? wo=x/\Below w2 w2 wq) (λ s68 _=>x-(intOf s68).toNat)
       case atStart=>exact⟨0,aN _,rfl,XY.o.1,XY.o.2.1,XY.o.2.2⟩
       case round=>
        clear XY;obtain⟨y,hy,rfl,hsy,NR,hby⟩:=hrel;have HY:Hid (Aa wr (w2+1) w2 (lbl n (tri qq x++H7 qq x y))/\wr.cell? wo=x/\Below w2 w2 wr):=⟨hsy,NR,hby⟩;clear hsy hby;have hwor:wo.heap.size<wr.heap.size:=lt_of_cell NR;by_cases hlty:y<x
        ·have j4:Below wr wr (wr.alloc (.cells #[y] 3)):=b_
         have kx:(wr.alloc (.cells #[y] 3)).cell? wo=x:=cell_below NR j4;have ky:(wr.alloc (.cells #[y] 3)).cell? wr=y:=by simp
         have y5:Hid (Below w2 w2 (wr.alloc (.cells #[y] 3))):=HY.o.2.2.tr j4;have XJ:Hid (Aa (wr.alloc (.cells #[y] 3)) (w2+1) w2 (lbl n (tri qq x++H7 qq x y))):=HY.o.1.below j4 HY.o.1.plt HY.o.1.blt;have hC:=Zi x y wo wr n g8 m8 c8 w7 qs (wr.alloc (.cells #[y] 3)) (HRS.o.1.below y5.o) (by omega) (by omega) kx ky HRS.o.2 hql;rw[QT.o x y] at hC;have HC:Hid _:=hC;have HL:Hid ((lbl n (tri qq x++H7 qq x y)).length=n):=(Er (zdn qq n x y j6 (by omega))).len;clear j4 hC NR;by_cases hq:qq x y=true
         ·as_aux_lemma=>
          rw[hq] at HC;go_wp2_with fail;refine aA HC.o ?_;rintro e w5 ⟨rfl,CV⟩;have HS5:Hid (Aa w5 (w2+1) w2 (lbl n (tri qq x++H7 qq x y))/\Below w2 w2 w5):=⟨XJ.o.below CV XJ.o.plt XJ.o.blt,y5.o.tr CV⟩;have kx5:=cell_below kx CV;have ky5:=cell_below ky CV;clear CV HC kx ky;go_wp2_with fail;refine(Nw x y (w2+1) w2 _ w5 HS5.o.1 (by rw[HL.o];omega) (by rw[HL.o];omega) (by rw[HL.o];omega)).mono ?_;rintro e w6 ⟨rfl,hs6,FJ⟩;have HF:Hid (Aa w6 (w2+1) w2 (lbl n (tri qq x++H7 qq x (y+1)))/\w6.cell? wo=x/\Below w2 w2 w6):=by
           refine⟨?_,?_,HS5.o.2.trans (FJ.below (aF _) HS5.o.2.size)⟩
           ·rw[Yf,aP hq,<-dW,Vw]
            have e1:ea ((0:Int),(x:Int),(y:Int))=x:=by simp[ea]
            have e2:eb ((0:Int),(x:Int),(y:Int))=y:=by simp[eb]
            rw[e1,e2];exact hs6
           ·have hl:=lt_of_cell kx5
            simp only[World.cell?] at kx5 ⊢;rw[FJ.block wo hl (by omega)];exact kx5
          clear hs6 FJ kx5 ky5 HS5 XJ HY;go_wp2_with fail;go_roundw;case rel=>exact⟨y+1,by omega,by go_num,HF.o.1,HF.o.2.1,HF.o.2.2⟩
          case measure=>simp[intOf];omega
         ·as_aux_lemma=>
          have hqf:qq x y=false:=by simpa using hq
          rw[hqf] at HC;go_wp2_with fail;refine aA HC.o ?_;rintro e w5 ⟨rfl,CV⟩;have HF:Hid (Aa w5 (w2+1) w2 (lbl n (tri qq x++H7 qq x (y+1)))/\w5.cell? wo=x/\Below w2 w2 w5):=by
           refine⟨?_,cell_below kx CV,y5.o.tr CV⟩;rw[Yf,aL hq,eX];exact XJ.o.below CV XJ.o.plt XJ.o.blt
          clear CV HC kx ky XJ HY hq;go_wp2_with fail;go_roundw;case rel=>exact⟨y+1,by omega,by go_num,HF.o.1,HF.o.2.1,HF.o.2.2⟩
          case measure=>simp[intOf];omega
        ·as_aux_lemma=>
         have NF:y=x:=by omega
         have HF:Hid (Aa wr (w2+1) w2 (lbl n (tri qq (x+1)))/\Below w2 w2 wr):=⟨by
          have:=HY.o.1;rw[NF] at this;exact this,HY.o.2.2⟩
         clear HY NR NF;go_wp2_with fail;go_roundw;case rel=>exact⟨x+1,by omega,by go_num,HF.o.1,HF.o.2⟩
         case measure=>simp[intOf];omega
      ·as_aux_lemma=>
       have DK:x=n:=by omega
       have HF:Hid (Aa wr (w2+1) w2 (Ku n R S f)/\Below w2 w2 wr):=⟨by
        have:=HX.o.1;rw[DK] at this;rw[HQQ.o];exact this,HX.o.2⟩
       clear HX DK;go_wp2_with fail;go_ret;exact⟨_,_,rfl,HF.o.1,by omega,by omega,CQ.o.trans (HF.o.2.mono OD)⟩
    ·as_aux_lemma=>
     intro key a1 a2 a3 kl y1 y2 w1 cnt1 o9 IY ZO q9 EC j6 AX EK UQ;obtain⟨d,hd,rfl,zs,hoz,TG,hzm⟩:=zba IU.o HGA2.o (by omega) o9 ZO q9;obtain⟨k1,k2,k3,k4⟩:=KF.o.next AX j6;obtain⟨hints,hzl2⟩:=zos hoz;have HZ:=kd hzm;have HI:=kd (And.intro hints hzl2);have HK:Hid (Rs w1 w7 n u8 qs/\Below w7 w7 w1/\w9.heap.size+1<w1.heap.size/\qs.length+1+cnt1<=m+1):=⟨k1,k2,k3,k4⟩;have HD:=kd hd;have BZ:=kd (And.intro EC j6);have ha2:a2<=1000:=by omega
     have hql:qs.length<=1000:=by omega
     clear o9 IY ZO q9 EC j6 AX EK hoz TG hzm k1 k2 k3 k4 hints hzl2 hd;go_wp2_with fail;refine(G.Cg (n:Int) B p v R _ (HGW.o.below HK.o.2.1)).mono ?_;rintro e w2 ⟨rfl,BL⟩;subst BL;clear UQ;go_wp2_with fail;refine(G.Sg (n:Int) B p v R a1 none a2 0 a3 0 (λ t=>zs.getD t 0) (λ _=>0) w2 (HGW.o.below HK.o.2.1) (by omega) (HI.o.1.below HK.o.2.1) ⟨λ h=>by omega⟩ ha2 (by omega)).mono ?_;rintro e w3 ⟨p',v',rfl,FL,y8⟩;rw[<-HI.o.2,zat HG.o.2.one HS.o.1 HZ.o] at FL;have HFL:Hid ((R.filter λ e=>decide (f e≠f d)).length<=120):=aD (aW _ _) (by omega);have HG3:=kd (And.intro FL y8);clear FL y8;go_wp2_with fail;refine(G.Dv (n:Int) _ p' v' _ w3 HG3.o.1 HFL.o).mono ?_;rintro e w4 ⟨ue4,rfl,MX,BB⟩;have WX:Hid (G.Ad w4 w3 61 ue4 (R.filter λ e=>decide (f e≠f d))/\Below w2 w2 w4):=⟨MX,HG3.o.2.tr BB⟩;clear MX BB;have BG:Hid (InE n (R.filter λ e=>decide (f e≠f d))):=HG.o.2.inn.sub (λ e he=>(aO.1 he).1);go_wp2_with fail;refine(Ie n _ ue4 _ w4 WX.o.1 (by omega) BG.o HFL.o).mono ?_;rintro e w5 ⟨p5,b5,rfl,OW,hp5,hbb5,CV⟩;have PH:Below w2 w2 w5:=WX.o.2.tr CV;have hs24:=WX.o.2.size;have hit:=HK.o.2.2.1;have hRs5:=HK.o.1.below PH;obtain⟨v6,w6,UF,hRs6,hg6,hf6,g6,c6,hv6⟩:=zka w5 w7 n u8 qs p5 b5 _ hRs5 (aD HK.o.2.1.size PH.size) hql OW (Er BG.o.nodes).len (λ k hk=>by
      have:=(aU HK.o.1.row k hk).2;constructor <;> omega)
     have QT:=kd UF;have hub:∀k,u8.ownBlock=some k->w7.heap.size<=k/\k≠w9.heap.size+1:=λ k hk=>⟨(aU HK.o.1.row k hk).1,KF.o.nit k hk⟩
     have HF:Hid (Lp w7 w6 (w+2) w (w9+1) m m n D R S f v6 (λ z=>left z&&!z.sameKey (rk (f d))) cnt1 (qs++[(p5,b5,lbl n (R.filter λ e=>decide (f e≠f d)))])):=by
      have hb5':Below w7 w7 w5:=HK.o.2.1.tr PH;refine⟨(BZ.o.1.kept (Ai PH) (by simp) (by simp)).kept hg6 (λ hh=>?_) (λ hh=>?_),hRs6,λ k hk=>?_,λ q hq=>?_,λ q hq=>?_,?_,λ d' hd' hl=>?_,?_,hb5'.grown hg6 hb5'.size (λ j hj=>(hub j hj).1),?_,hlma,KF.o.hit⟩
      ·have:=(hub _ hh.symm).1;omega
      ·exact(hub _ hh.symm).2 rfl
      ·rcases hf6 with h5|h5
       ·exact(hub k (h5▸hk)).2
       ·rw[hk] at h5
        injection h5 with h5
        have:=PH.size;omega
      ·rcases aK.1 hq with hq|hq
       ·exact KF.o.qit q hq
       ·rw[aJ.1 hq]
        constructor <;> (simp only;omega)
      ·rcases aK.1 hq with hq|hq
       ·exact KF.o.all q hq
       ·rw[aJ.1 hq]
        exact bS _ (aY.2 ⟨d,HD.o,rfl⟩)
      ·obtain⟨q,hq,he⟩:=KF.o.one
       exact⟨q,bE _ hq,he⟩
      ·by_cases hdd:f d'=f d
       ·rw[hdd]
        exact⟨_,fT _ (aJ.2 rfl),rfl⟩
       ·have l9:rk (f d')≠rk (f d):=λ k=>hdd (yj (HS.o.2.1 d') (HS.o.2.1 d) k)
        rw[sameKey_ne l9] at hl;obtain⟨q,hq,he⟩:=KF.o.done d' hd' (by simpa using hl);exact⟨q,bE _ hq,he⟩
      ·have:=HK.o.2.2.2
       simp;omega
      ·have:=PH.size
       have:=hg6.size;omega
     have HF2:Hid (w6.rangeLeft w (w9+1)<wr.rangeLeft w (w9+1)):=by
      show _<_;rw[HF.o.rg.left_eq,KF.o.rg.left_eq];exact BZ.o.2
     clear OW hp5 hbb5 CV PH hs24 hit hRs5 UF hRs6 hg6 hf6 hv6 hub;go_wp2_with (first
      |(at_builtin;refine Lib.wpList_append_run _ rfl _ _ _ _ rfl _ _ rfl rfl _ _ QT.o ?_)
      |fail)
     go_roundw;case rel=>exact⟨_,_,_,HF.o⟩
     case measure=>exact HF2.o
  ·as_aux_lemma=>
   intro x c1 c2 kl y1 y2 w1 cnt1 o9 IY ZO q9 EC j6 AX EK UQ;obtain⟨x',DK,rfl,GL⟩:=Maps.keyOf_int_inv underlying3 o9;obtain rfl:x=x':=by injection DK
   obtain⟨e,he,rfl,rfl,rfl⟩:=zhj HRM.o (c1:=c1) (c2:=c2) (by obtain⟨⟨c3,c4⟩,h1,h2⟩:=Qr ZO;simp at h1;rw[h1.1,h1.2];exact h2) q9;have HE:=kd he;have hgG:w1.ownsGroups (H:=Unit) prog 208 (w+2) 3 .i64 w m D:=IU.o.kept AX (by simp) (IU.o.rowsAbove (λ j hj=>by injection hj with hj;omega));obtain⟨ve,st,w3,v',w4,w5,D',e1,e2,e3,r1,r2,r3,r4,r5⟩:=zfb (w:=w) (mb:=mb) (it:=w.heap.size+1) hgG (by omega) HGA.o HS.o.2.1 e GL (by omega) (by omega) (by omega) (by omega) (by omega) (by omega) (Us JI.o (iE _) AX) (aF _);have QT:=kd e2;have HF:Hid (w5.ranges prog 3 D7 mb (w+1) N0 D0 (λ z=>left z&&!z.sameKey e.1) cnt1/\w5.ownsGroups (H:=Unit) prog 208 (w+2) 3 .i64 w (m+1) D'/\Ga D' (λ d=>d∈S/\(left d.1&&!(Lit.int .i64 d.1).sameKey e.1)=false) f/\m+1+cnt1<=N0/\Below w w w5/\w.heap.size+2<=w5.heap.size):=by
    refine⟨r5 _ _ _ _ EC,r1,r2.congr (λ d=>?_),by omega,r3,by omega⟩;constructor
    ·rintro(⟨h1,h2⟩|rfl)
     ·exact⟨h1,by rw[h2];rfl⟩
     ·exact⟨HE.o,by simp[Lit.sameKey]⟩
    ·rintro⟨h1,h2⟩
     by_cases hd:d.1=e.1
     ·exact .inr (HG.o.2.one d ((HS.o.1 d).1 h1) e ((HS.o.1 e).1 HE.o) hd)
     ·exact .inl ⟨h1,struck h2 hd⟩
   have TJ:=kd j6;clear o9 IY ZO q9 EC j6 AX EK DK he hgG e2 r1 r2 r3 r4 r5 GL;go_wp2_with (first
    |(at_builtin;refine Lib.wpList_append_run _ rfl _ _ _ _ rfl _ _ rfl rfl _ _ QT.o ?_)
    |fail)
   go_roundw;case rel=>exact⟨_,cnt1,m+1,D',HF.o.1,HF.o.2.1,HF.o.2.2.1,HF.o.2.2.2.1,HF.o.2.2.2.2.1,HF.o.2.2.2.2.2⟩
   case measure=>rw[HF.o.1.left_eq,MB.o.left_eq];exact TJ.o
end Go.Proofs.Y.S
namespace Go.Proofs.Y.S
open Go.RowKit Go.WideMaps Go.Maps Go.Proofs.Tryz
theorem zax (c q bq n:Nat)(x y:Value)(L:List Nat)(w:World)(h:w.heap[c]? =some (.cells #[x,y,.pointer q] 206))(hs:Aa w q bq L)(hg:Good n L)(hn:n<=40):
 Calls prog 83 #[.pointer c] w λ e w'=>∃v,e= .returned v/\Hf w' v (Ar L n)/\Below w w w':=by
 have hc:w.cell? (c,2)=some (.pointer q):=by simp[World.cell?,h]
 have HA:Hid (Calls prog 143 #[.pointer q] w λ e w'=>∃v,e= .returned v/\Hf w' v (Ar L n)/\Below w w w'):=by
  have:=zre q bq L w hs (by rw[hg.len];exact hn) (λ i hi=>by have:=hg.le i (by rw[<-hg.len];exact hi);rw[hg.len] at hi;omega);rw[hg.len] at this;exact this
 clear h hs hg;go_enter func83,ntmps83;go_wp2_with fail;refine aA HA.o ?_;rintro e w1 ⟨v,rfl,h1,h2⟩;have HF:=kd (And.intro h1 h2);clear h1 h2;go_wp2_with fail;go_ret;exact⟨_,rfl,HF.o⟩
end Go.Proofs.Y.S
