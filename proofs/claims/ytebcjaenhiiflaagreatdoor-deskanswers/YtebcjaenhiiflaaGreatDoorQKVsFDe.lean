import Derived.Test.YtebcjaenhiiflaaGreatDoorQKVkKVr
import Derived.Test.YtebcjaenhiiflaaGreatDoorQFDa
set_option maxHeartbeats 4000000
set_option maxRecDepth 100000
namespace Go.Proofs.Y.S
open Go.RowKit Go.WideMaps Go.Maps Go.Proofs.Tryz
def Il (x:Int × Int):List Value:=[.int .i64 (x.1),.int .i64 (x.2)]
def rowP (L:List (Int × Int)):List Value:=L.flatMap Il
theorem Ez (x:Int × Int)(L:List (Int × Int)):rowP (x::L)=Il x++rowP L:=rfl
theorem rowP_append (L M:List (Int × Int)):rowP (L++M)=rowP L++rowP M:=by simp[rowP]
theorem Bf:∀L:List (Int × Int),(rowP L).length=L.length*2
 |[]=>rfl
 |x::L=>by rw[Ez,aM,Bf L];simp[Il];omega
theorem Ik:∀(L:List (Int × Int)),∀u∈rowP L,u.oneCell'=true
 |[],u,h=>by simp[rowP] at h
 |x::L,u,h=>by
  rw[Ez,aK] at h;rcases h with h|h
  ·simp[Il] at h
   rcases h with rfl|rfl <;> rfl
  ·exact Ik L u h
theorem Oe:∀(L:List (Int × Int)) (i:Nat) (x:Int × Int),L[i]? =some x->(rowP L)[i*2]? =some (.int .i64 (x.1))/\(rowP L)[i*2+1]? =some (.int .i64 (x.2))
 |[],i,x,h=>by simp at h
 |y::L,0,x,h=>by
  simp at h;subst h;simp[Ez,Il]
 |y::L,i+1,x,h=>by
  simp at h;have:=Oe L i x h;rw[Ez];have e1:(i+1)*2=(i*2)+2:=by omega
  rw[e1]
  simpa[Il] using this
def Aq (w:World)(B:Nat)(v:Value)(L:List (Int × Int)):Prop:=w.ownsRow B 180 2 v L.length (rowP L)
theorem Aq.below {w w':World}{B:Nat}{v:Value}{L:List (Int × Int)}(h:Aq w B v L)(hb:Below w w w'):Aq w' B v L:=dI h (Ai hb) (iI _)
theorem Aq.shape {w:World}{B:Nat}{v:Value}{L:List (Int × Int)}(h:Aq w B v L):∃a cap,v= .slice a L.length cap/\(0<L.length->∃g,a=some ⟨g,0,none⟩/\∀j x,L[j]? =some x->w.cell? ⟨g,j*2,none⟩=some (.int .i64 (x.1))/\w.cell? (g,j*2+1)=some (.int .i64 (x.2))):=by
 have h0:=h;unfold Aq at h0;rcases h.2 with⟨rfl,hz⟩|⟨g,cap,cur,rfl,hb,hg,_⟩
 ·exact⟨none,0,by rw[hz],λ k=>by omega⟩
 ·refine⟨_,cap,rfl,λ _=>⟨g,rfl,λ j x hx=>?_⟩⟩
  obtain⟨r0,r1⟩:=Oe L j x hx;have hj:=(aC.1 hx).1;have hl:=Bf L;refine⟨?_,?_⟩
  ·rw[h0.cellAt (j*2) (by omega)]
   exact r0
  ·rw[h0.cellAt (j*2+1) (by omega)]
   exact r1
def zP:Value:=.agg #[(0:Int),(0:Int)]
theorem zom:∃i,prog.info? 180=some i/\i.size=2/\i.bytes=16/\i.zero=some zP:=
 ⟨(prog.info? 180).get (by kernel_rfl),by kernel_rfl,by kernel_rfl,by kernel_rfl,by kernel_rfl⟩
theorem Sy:zP.cells=#[.int .i64 0,.int .i64 0]:=by kernel_rfl
theorem pair_cells (W:World)(x y:Int)(j:Nat)(u:Value)(h:(rowP [(x,y)])[j]? =some u):(W.alloc (.cells #[x,y] 180)).cell? ((⟨W.heap.size,0,none⟩:Addr).add j)=some u:=by
 rw[G.Bh];have hh:=aQ W (.cells #[x,y] 180);simp only[World.cell?,hh]
 simpa[rowP,Il] using h
theorem Aq.mono {w:World}{B B':Nat}{v:Value}{L:List (Int × Int)}(h:Aq w B v L)(hB:B'<=B):Aq w B' v L:=by
 refine⟨h.1,?_⟩;rcases h.2 with hh|⟨g,cap,cur,h1,h2,h3,h4⟩
 ·exact Or.inl hh
 ·exact Or.inr ⟨g,cap,cur,h1,by omega,h3,h4⟩
theorem Tq (ty:TypeId)(w:World)(B:Nat)(v:Value)(L M:List (Int × Int))(h:Aq w B v L)(hB:B<=w)(a:Addr)(m c:Nat)(hm:m=M.length)(hM:∀j u,(rowP M)[j]? =some u->w.cell? (a.add j)=some u)(hl:L.length+M.length<=1000000):
 ∃v' w',(Builtin.append_ #[65,65] ty #[v,.slice (some a) m c]).run prog w= .ok v' w'/\Aq w' B v' (L++M)/\w.grownBy w' v.ownBlock/\G.Dm w v v':=by
 subst hm;obtain⟨i,hi,hs,hb,hz⟩:=zom;have own:∀B',Aq w B' v L->B'<=w.heap.size->∃v' w',(Builtin.append_ #[65,65] ty #[v,.slice (some a) M.length c]).run prog w= .ok v' w'/\Aq w' B' v' (L++M)/\w.grownBy w' v.ownBlock:=by
  intro B' h' hB';obtain⟨v',w',h1,h2,h3,_⟩:=kJ (P:=prog) w B' 65 ty 180 i zP 2 16 underlying65 hi hz hs hb (by rw[Sy];rfl) (by omega) v L.length (rowP L) h' a M.length c (rowP M) (Bf M) hM (Ik M) (by simp only[maxLen];omega) (by omega) hB';refine⟨v',w',h1,?_,h3⟩;show w'.ownsRow B' 180 2 v' (L++M).length (rowP (L++M));rw[aM,rowP_append];exact h2
 rcases h.2 with⟨rfl,h0⟩|⟨g,cap,cur,rfl,h1,h2,h3,h4,h5,h6⟩
 ·have hL:L=[]:=bV h0
  subst hL;obtain⟨v',w',e1,e2,e3⟩:=own w (aX w _ 180 2) (aF _);exact⟨v',w',e1,e2.mono hB,e3,λ k hk=>Or.inr (aU e2 k hk).1⟩
 ·obtain⟨v',w',e1,e2,e3⟩:=own B h hB
  refine⟨v',w',e1,e2,e3,?_⟩;by_cases FB:L.length+M.length<=cap
  ·have hr:=iX (P:=prog) w 65 ty 180 i underlying65 hi g L.length cap cur h2 a M.length c (rowP M) (by rw[hs];exact Bf M) hM (Ik M) FB (by rw[hs,h5,Bf];omega)
   rw[hr] at e1;injection e1 with e1 _
   subst e1;intro k hk;exact Or.inl hk
  ·have hr:=kD (P:=prog) w 65 ty 180 i zP underlying65 hi hz g L.length cap (rowP L) (by rw[hs];exact Bf L) (bQ h rfl) a M.length c (rowP M) (by rw[hs];exact Bf M) hM (by omega) (by omega) (jG (by omega) (by rw[hb];omega))
   rw[hr] at e1;injection e1 with e1 _
   subst e1;intro k hk;have hk':w.heap.size=k:=by simpa[Value.ownBlock] using hk
   exact Or.inr (by omega)
theorem Kt (ty:TypeId)(W:World)(B:Nat)(u:Value)(M:List (Int × Int))(x y:Int)(h:Aq W B u M)(hB:B<=W)(hl:M.length<=100000):
 ∃v' w',(Builtin.append_ #[65,65] ty #[u,.slice W 1 1]).run prog (W.alloc (.cells #[x,y] 180))= .ok v' w'/\Aq w' B v' (M++[(x,y)])/\W.grownBy w' u.ownBlock/\G.Dm W u v':=by
 have BF:Below W W (W.alloc (.cells #[x,y] 180)):=b_;obtain⟨v',w',h1,h2,h3,h4⟩:=Tq ty _ B u M [(x,y)] (h.below BF) (aD hB (by simp)) W 1 1 rfl (pair_cells W x y) (by simp;omega);refine⟨v',w',h1,h2,⟨h3.os.trans BF.os,h3.tape.trans BF.tape,h3.output.trans BF.output,aD BF.size h3.size,λ k hk hn=>(h3.block k (aR hk BF.size) hn).trans (BF.block k hk)⟩,λ k hk=>?_⟩;rcases h4 k hk with h5|h5
 ·exact Or.inl h5
 ·exact Or.inr (aD (by simp) h5)
def Ak:List Edg->(Edg->Edg->Bool)->List (Int × Int)
 |[],_=>[]
 |e::R,q=>((R.filter (q e)).map λ d=>(e.1,d.1))++Ak R q
theorem Nz (p:Edg->Bool)(q:Edg->Edg->Bool):∀R,Ak (R.filter p) q=Ak R λ e d=>p e&&p d&&q e d
 |[]=>rfl
 |e::R=>by
  have ih:=Nz p q R;rw[bT];cases hp:p e with
  |true=>
   simp only[kM,Ak,ih,hp,List.filter_filter,Bool.true_and]
   congr 2
   apply dP;intro d _;cases p d <;> simp
  |false=>
   simp only[gY,lZ,Ak,ih,hp,Bool.false_and];simp
theorem Nh (q:Edg->Edg->Bool):∀R:List Edg,(Ak R q).length<=R.length*R.length
 |[]=>by simp[Ak]
 |e::R=>by
  have ih:=Nh q R;have h1:=aW (q e) R;have h3:(R.length+1)*(R.length+1)=R.length*R.length+2*R.length+1:=by
   rw[lG,lH];omega
  simp only[Ak,aM,aS,bD];omega
open Go.Proofs.Tryz
open Go.RowKit Go.WideMaps Go.Maps Go.Shelf
open Go.ChangeShapes (lits)
theorem zcj (y:Nat)(h:y<=1099511627776):keyOf prog 3 y=y:=keyOf_int_mk underlying3 (WalkArith.wf_i64 (by omega))
def idN (R:List (Int × Int × Int))(j:Nat):Nat:=(Ay R j).toNat
theorem D5 {R:List (Int × Int × Int)}(h:∀e∈R,0<=e.1/\e.1<=1099511627776){j:Nat}(hj:j<R.length):((idN R j:Nat):Int)=Ay R j/\idN R j<=1099511627776:=by
 have h1:=Et (aB hj);have h2:=h _ (dF hj);unfold idN;rw[h1];omega
theorem zq3 {R:List (Int × Int × Int)}(hu:G.Up R)(h:∀e∈R,0<=e.1/\e.1<=1099511627776){i j:Nat}(hi:i<R.length)(hj:j<R.length)(he:idN R i=idN R j):i=j:=by
 have h1:=D5 h hi;have h2:=D5 h hj;exact Ot hu hi hj (by omega)
def gN (R:List (Int × Int × Int))(L:List Nat)(k y:Nat):List Nat:=((List.range k).filter λ i=>idN R (L.getD i 0)==y).map (idN R)
theorem jk (R:List (Int × Int × Int))(L:List Nat)(k:Nat):gN R L (k+1) (idN R (L.getD k 0))=gN R L k (idN R (L.getD k 0))++[idN R k]:=by
 simp[gN,List.range_succ]
theorem Zk (R:List (Int × Int × Int))(L:List Nat)(k y:Nat)(h:idN R (L.getD k 0)≠y):gN R L (k+1) y=gN R L k y:=by
 have hb:(idN R (L.getD k 0)==y)=false:=aH.2 h;unfold gN;rw[dN,bP,bT,hb];simp
structure gI (R:List (Int × Int × Int)) (L:List Nat) (k:Nat) (D:DataW Unit):Prop where
 map:IsMap D
 at_:∀(y:Nat) (zd:DataW Unit),D.atKey y zd=if gN R L k y=[] then zd else .slice (lits .i64 (ints (gN R L k y))) []
 neg:∀(x:Int),x<0->∀zd:DataW Unit,D.atKey x zd=zd
theorem znm (R:List (Int × Int × Int))(L:List Nat):gI R L 0 (.map []):=⟨isMap_empty,λ y zd=>by simp[gN];rfl,λ x _ zd=>rfl⟩
theorem Z7 {R:List (Int × Int × Int)}{L:List Nat}{k y:Nat}{D:DataW Unit}(h:gI R L k D){w:World}{base:Nat}{e:TypeId}{v:Value}{zs:List Int}(ho:w.ownsInts base e .i64 v zs)
 (q9:D.atKey y .nil=rowDatum .i64 v zs):zs=ints (gN R L k y):=by
 rw[h.at_] at q9;split at q9
 ·next hg=>
  rw[hg];rcases ho.datum (H:=Unit) with⟨_,h2⟩|h2
  ·exact h2
  ·rw[h2] at q9;cases q9
 ·next hg=>
  rcases ho.datum (H:=Unit) with⟨h1,_⟩|h2
  ·rw[h1] at q9;cases q9
  ·rw[h2] at q9
   injection q9 with h3 _
   exact(Pe h3).symm
theorem zrj {R:List (Int × Int × Int)}{L:List Nat}{k:Nat}{D:DataW Unit}(h:gI R L k D){w w1:World}{base:Nat}{e:TypeId}{v v':Value}{zs:List Int}(ho:w.ownsInts base e .i64 v zs)
 (q9:D.atKey ((idN R (L.getD k 0):Nat):Int) .nil=rowDatum .i64 v zs) (ho':w1.ownsInts base e .i64 v' (zs++[((idN R k:Nat):Int)])):
 gI R L (k+1) (D.put ((idN R (L.getD k 0):Nat):Int) (rowDatum .i64 v' (zs++[((idN R k:Nat):Int)]))):=by
 have hz:=Z7 h ho q9;refine⟨h.map.put _ _,λ y zd=>?_,λ x hx zd=>?_⟩
 ·by_cases e:idN R (L.getD k 0)=y
  ·subst e
   rw[atKey_put_same h.map (by trivial),jk,aL (by simp),ho'.datum_pos (by simp),hz,J8];rfl
  ·have l9:Lit.int .i64 (y:Int)≠Lit.int .i64 ((idN R (L.getD k 0):Nat):Int):=λ h=>e (by injection h with _ h2;omega)
   rw[atKey_put_other l9,h.at_,Zk R L k y e]
 ·have l9:Lit.int .i64 x≠Lit.int .i64 ((idN R (L.getD k 0):Nat):Int):=λ h=>by injection h with _ h2;omega
  rw[atKey_put_other l9];exact h.neg x hx zd
def Ha (R:List (Int × Int × Int))(L:List Nat):List (List Nat):=(lst L R.length).map λ r=>(grp L R.length r).map (idN R)
theorem zgw {R:List (Int × Int × Int)}{L:List Nat}(hu:G.Up R)(DD:∀e∈R,0<=e.1/\e.1<=1099511627776)(g:Good R.length L){r:Nat}(hr:r<R.length):gN R L R.length (idN R r)=(grp L R.length r).map (idN R):=by
 unfold gN grp
 congr 1
 apply dP;intro i hi;have hi':=bF.1 hi;have:=g.le i hi';rw[dV,bX,bX];exact⟨λ h=>zq3 hu DD (by omega) hr h,λ h=>by rw[h]⟩
theorem zrq {R:List (Int × Int × Int)}{L:List Nat}{D:DataW Unit}(hu:G.Up R)(DD:∀e∈R,0<=e.1/\e.1<=1099511627776)(g:Good R.length L)(h:gI R L R.length D)(x:Int):Maps.has D x=true↔x∈(lst L R.length).map (Ay R):=by
 by_cases hx:x<0
 ·rw[has_false_of_atKey (h.neg x hx)]
  simp only[gY,false_iff,aY,not_exists,not_and];intro r hr c;have:=D5 DD (Fj.1 hr).1;omega
 ·obtain⟨y,rfl⟩:=dE (show 0<=x by omega)
  by_cases hg:gN R L R.length y=[]
  ·have hf:Maps.has D y=false:=has_false_of_atKey (λ z=>by rw[h.at_,aP hg])
   rw[hf];simp only[gY,false_iff,aY,not_exists,not_and];intro r hr c;obtain⟨FO,hrr⟩:=Fj.1 hr;have h1:=D5 DD FO;obtain rfl:idN R r=y:=by omega
   rw[zgw hu DD g FO] at hg;have:r∈grp L R.length r:=Iw.2 ⟨FO,hrr⟩;rw[jE] at hg;rw[hg] at this;cases this
  ·have ht:Maps.has D y=true:=has_true_of_atKey (λ z=>by rw[h.at_,aL hg])
   rw[ht];simp only[true_iff,aY];obtain⟨z,hz⟩:=List.exists_mem_of_ne_nil _ hg;unfold gN at hz;obtain⟨i,hi,rfl⟩:=aY.1 hz;rw[aO,bF,bX] at hi;have hl:=dS (g.le i hi.1) hi.1;refine⟨L.getD i 0,Fj.2 ⟨hl,g.idem i hi.1⟩,?_⟩;have:=D5 DD hl;omega
theorem zrx (L:List Nat)(n:Nat):(lst L n).Pairwise (·<·):=by
 unfold lst;exact eG _ iA
theorem ztc {R:List (Int × Int × Int)}(hu:G.Up R):(R.map (·.1)).Pairwise (·<·):=by
 rw[iB];exact hu
theorem zea {R:List (Int × Int × Int)}(hu:G.Up R)(L:List Nat):((lst L R.length).map (Ay R)).Pairwise (·<·):=by
 rw[iB];refine List.Pairwise.imp_of_mem ?_ (zrx L R.length);intro a b _ hb BJ;exact Jt hu BJ (Fj.1 hb).1
theorem zo5 {R:List (Int × Int × Int)}{L:List Nat}{t r:Nat}(h:(lst L R.length)[t]? =some r):(Ha R L)[t]? =some ((grp L R.length r).map (idN R)):=by
 unfold Ha;rw[bJ,h];rfl
theorem zl3 {P:Program}{wl wr:World}{t k E base e b n y:Nat}{R:List (Int × Int × Int)}{L:List Nat}{m:Nat}{D:DataW Unit}(hg:wl.ownsGroups P k base e .i64 b n D)(hD:gI R L m D)(hb:Below wl wl wr)
 (K:Keyed P k) (ht:P.underlying t=some (.map k E)) (hz:(zeroValue E).run P wr= .ok (.slice none 0 0) wr) (o9:keyOf P k y=y) (hy:gN R L m y≠[]):
 ∃r c,(Instr.lookup t (.map b) y false).run P wr= .ok (.slice (some ⟨r,0,none⟩) (gN R L m y).length c) wr/\wl.ownsInts base e .i64 (.slice (some ⟨r,0,none⟩) (gN R L m y).length c) (ints (gN R L m y)):=by
 obtain⟨es,clock,hh,F,hs,rfl,EN,hlen,UF⟩:=hg;have hh':wr.heap[b]? =some (.map es clock):=(hb.block b (lt_of_some hh)).trans hh;rcases Maps.fit_look false K ht hz hh' F o9 with⟨AQ,_,q9⟩|⟨e0,y0,XQ,h3,AQ,hR,q9,_⟩
 ·have h1:=q9 .nil
  rw[hD.at_,aL hy] at h1;cases h1
 ·obtain⟨zs,ho,rfl⟩:=rowElem_inv hR
  have hzs:=Z7 hD ho (q9 .nil);subst hzs;rcases ho.1.2 with⟨_,h0⟩|⟨g,cap,cur,hv,_⟩
  ·rw[Ci] at h0
   exact absurd (bW.1 h0) hy
  ·rw[Ci] at hv
   simp only[gY,lZ] at AQ;rw[hv] at AQ ho;exact⟨g,cap,AQ,ho⟩
end Go.Proofs.Y.S
namespace Go.Proofs.Y.S
open Go.Proofs.Tryz
open Go.RowKit Go.WideMaps Go.Maps Go.Shelf
theorem X9 {w:World}{base:Nat}{v:Value}{K:List Int}(h:w.ownsRow base 3 1 v K.length (K.map encZ)):∃a cap,v= .slice a K.length cap/\∀t x,K[t]? =some x->∃g,a=some ⟨g,0,none⟩/\base<=g/\g<w.heap.size/\w.cell? ⟨g,t,none⟩=some (.int .i64 x):=by
 have h0:=h;rcases h.2 with⟨rfl,hz⟩|⟨g,cap,cur,rfl,hb,hg,_⟩
 ·refine⟨none,0,by rw[hz],λ t x ht=>?_⟩
  have:=(aC.1 ht).1;omega
 ·refine⟨_,cap,rfl,λ t x ht=>⟨g,rfl,hb,lt_of_some hg,?_⟩⟩
  have hl:=(aC.1 ht).1;rw[h0.cellAt t (by omega),bJ,ht];rfl
theorem fe {wl:World}{base:Nat}{vs:List Value}{Gs:List (List Nat)}{t:Nat}{G:List Nat}{r c:Nat}(h:Ep wl base vs (Gs.take t))(hG:Gs[t]? =some G)(ho:wl.ownsInts base 3 .i64 (.slice r G.length c) (ints G)):
 Ep wl base (vs++[.slice r G.length c]) (Gs.take (t+1)):=by
 have e:Gs.take (t+1)=Gs.take t++[G]:=by rw[bL,hG];rfl
 rw[e];exact Qe h ho
theorem zc3 {R:List (Int × Int × Int)}{L:List Nat}(p m N:Nat)(D:DataW Unit)(v:Value)(w:World)(h:Bo w p m N D v)(hl:Lm D R L)(g:Good R.length L)(hu:G.Up R)(DD:∀e∈R,0<=e.1/\e.1<=1099511627776)(hR:R.length<=120)(hN:N<=1000):
 Calls prog 81 #[.pointer p] w λ e w'=>∃v',e= .returned v'/\Hf w' v' (Ha R L)/\Below w w w':=by
 have HB:Hid (∀w',Below w w w'->Bo w' p m N D v):=λ w' hb=>h.below hb
 have HL:Hid (Lm D R L/\Good R.length L/\G.Up R/\∀e∈R,0<=e.1/\e.1<=1099511627776):=⟨hl,g,hu,DD⟩;have FC:=@run_makeMap prog;have hp0:=h.plt;obtain⟨w1,AR⟩:∃w1,w1=w.alloc (.map #[] 0):=⟨_,rfl⟩;have j4:Below w w w1:=by rw[AR];exact b_
 have IE:w1.heap[w.heap.size]? =some (.map #[] 0):=by rw[AR];exact aQ w _
 have BQ:=kd AR.symm;have x8:=kd (And.intro j4 IE);have FZ:(w.alloc (.map #[] 0)).cell? p=some (.map m):=by rw[dA _ _ _ hp0];exact h.c0
 obtain⟨i0,GJ,BR,BU,BM⟩:=info_parts Tryz.info3;clear h hl g hu DD AR j4 IE;go_enter func81,ntmps81;go_wp2_with fail;rw[BQ.o];refine(zi6 (some m) w1).mono ?_;rintro e w2 ⟨rfl,rfl⟩;clear FZ FC;go_wp2_with fail;refine(ja (plainElem prog 3) m N D w1 (HB.o w1 x8.o.1).hm hN).mono ?_;rintro e w3 ⟨v3,ss,rfl,QO,JQ,y8⟩;obtain⟨e1,e2⟩:=Vy (K:=R.map (·.1)) (HB.o w1 x8.o.1).hm (ztc HL.o.2.2.1) (λ x=>by rw[HL.o.1.key x];simp) QO;rw[e1,e2] at JQ;obtain⟨va,vc,rfl,GQ⟩:=X9 JQ;rw[aS];obtain⟨len,hlen⟩:∃len,R.length=len:=⟨_,rfl⟩;rw[hlen] at hR ⊢;have EU:=kd hlen;have TQ:Hid (∀t,t<len->∃g,va=some ⟨g,0,none⟩/\w1.heap.size<=g/\g<w3.heap.size/\w3.cell? ⟨g,t,none⟩=((idN R t:Nat):Int)):=λ t ht=>by
  have KJ:t<R.length:=by rw[hlen];exact ht
  obtain⟨g,h1,h2,h3,h4⟩:=GQ t (Ay R t) (by rw[bJ,aB KJ];simp[Ay,KJ]);exact⟨g,h1,h2,h3,by rw[(D5 HL.o.2.2.2 KJ).1];exact h4⟩
 have PD:w.heap.size<w1.heap.size:=lt_of_some x8.o.2;have EJ:w3.heap[w.heap.size]? =some (.map #[] 0):=(y8.block _ PD).trans x8.o.2;have AZ:Hid (Below w w w3/\w3.ownsGroups (H:=Unit) prog 3 w3 3 .i64 w 0 (.map [])):=
  ⟨x8.o.1.tr y8,#[],0,EJ,⟨by simp,Go.MapKept.stamped_empty 0,by simp⟩,aF _,rfl,lt_of_some EJ,by simp,by simp⟩
 have YF:=y8.size;clear QO JQ GQ e1 e2 y8 EJ hlen x8 BQ;go_wp2_with fail;go_loopw [18] (λ s18 wr=>∃(t:Nat) (Dt:DataW Unit),t<=len/\s18=t/\gI R L t Dt/\wr.ownsGroups prog 3 w3 3 .i64 w t Dt/\But w w3 wr) (λ s18 _=>len-(intOf s18).toNat)
 case atStart=>exact⟨0,.map [],aN _,rfl,znm R L,AZ.o.2,But.refl _ _⟩
 case round=>
  obtain⟨t,Dt,ht,rfl,hgi,o8,hbt⟩:=hrel;have HGI:=kd hgi;have EW:=kd hbt;have hbw:Below w w wr:=AZ.o.1.trans (hbt.below (aF _) AZ.o.1.size);have CQ:=kd hbw;have VL:=hbt.size;clear hgi hbt;by_cases j6:t<len
  ·obtain⟨g,rfl,AX,AU,FL⟩:=TQ.o t j6
   have KJ:t<R.length:=by rw[EU.o];exact j6
   have hc:wr.cell? (g,t)=((idN R t:Nat):Int):=EW.o.cell FL (by omega);have hLt:=dS (HL.o.2.1.le t KJ) KJ;have i1:=D5 HL.o.2.2.2 KJ;have i2:=D5 HL.o.2.2.2 hLt;have BH:=HB.o wr hbw;have FZ:=BH.c0;have IY:=Om BH.hm HL.o.1 (aB KJ) (Av (HL.o.2.2.2 _ (dF KJ)).1 (HL.o.2.2.2 _ (dF KJ)).2);rw[<-Et (aB KJ),<-i1.1,<-i2.1] at IY;have o9:=zcj (idN R (L.getD t 0)) i2.2;have hwk:(Lit.int .i64 ((idN R t:Nat):Int)).wf=true:=Av (by omega) (by omega);obtain⟨X,hX⟩:∃X,idN R t=X:=⟨_,rfl⟩;obtain⟨Y,hY⟩:∃Y,idN R (L.getD t 0)=Y:=⟨_,rfl⟩;rw[hX] at hc IY hwk;rw[hY] at IY o9;have CJ:=kd (And.intro hX hY);clear FL hLt i1 i2 BH hX hY KJ hbw;go_upto_region 6 with fail
   go_wp2_with (first
    |(at_lookup;refine wpList_lookup_groups _ rfl _ _ 199 rfl 3 48 3 .i64 Bp underlying199 (L6 _) w3.heap.size w.heap.size t _ rfl o8 (by unfold maxLen;omega) _ _ rfl o9 ?_;intro v6 zs q9 EB TG DL)
    |(at_builtin;refine wpList_append_own_at _ rfl _ _ 48 rfl w3.heap.size 3 i0 (0:Int) 1 8 underlying48 GJ BR BU BM rfl (by decide) _ _ _ rfl (EB.1.alloc _) wr 1 1 [X] rfl rfl (cell_one_new _ _ _) (ints_oneCell .i64 [(X:Int)]) (by unfold maxLen;omega) (by omega) (by simp;omega) ?_;intro v' w5 hown' AY IJ ES)
    |(at_mapUpdate;refine wpList_mapUpdate_back _ rfl _ _ _ 199 rfl DL rfl rfl rfl ((bR _ _ _).trans AY) (EB.appended hown' hwk) (by simp;omega) (ES.imp id (λ h=>⟨_,h,by simp⟩)) ?_;intro w6 GZ BC)
    |fail)
   have y7:=(bR wr _ _).trans AY;have ho':=EB.appended hown' hwk;rw[<-CJ.o.2] at q9 GZ;rw[<-CJ.o.1] at ho' GZ;have CU:=zrj HGI.o EB q9 ho';have hbt6:But w w3 w6:=by
    refine⟨BC.os.trans (y7.os.trans EW.o.os),BC.tape.trans (y7.tape.trans EW.o.tape),BC.output.trans (y7.output.trans EW.o.output),aD EW.o.size (aD y7.size BC.size),λ k hk l9=>?_⟩;have hkr:k<wr:=aR hk EW.o.size;rw[BC.block k (aR hkr y7.size) (by simpa using l9),y7.block k hkr (λ c=>by have:=(EB.1.lt k c.symm).1;omega)];exact EW.o.block k hk l9
   go_roundw;case rel=>exact⟨t+1,_,by omega,by go_num,CU,GZ,hbt6⟩
   case measure=>simp[intOf];omega
  ·have SF:t=len:=by omega
   subst SF;obtain⟨km,hkm,UH⟩:=U0 o8 underlying199;obtain⟨j0,hj,JE,hj1,hj2⟩:=info_parts Tryz.info48;have HG:Hid (gI R L R.length Dt):=by
    show gI R L R.length Dt;rw[EU.o];exact HGI.o
   have HO:=kd o8;have hmlt:w.heap.size<wr.heap.size:=by omega
   rename World=>wl
   clear HGI TQ HB EW o8 GJ BR BU BM;go_wp2_with (first
    |(at_make;refine wpList_make_own _ rfl _ _ 51 rfl wl.heap.size 48 j0 (.slice none 0 0) 1 underlying51 hj JE hj1 .i64 .i64 _ km rfl rfl rfl (by rw[hj2];omega) (by unfold maxLen;omega) (aF _) ?_;intro w5 BA AL)
    |fail)
   have OZ:Hid (Below wl wl w5):=(aI _ _).grown AL (aF _) (by simp);have HO5:=kd BA;clear AL UH BA;have HM5:Hid (w5.ownsMap prog 3 (rowElem (H:=Unit) wl w3 3 .i64) w t Dt):=by
    obtain⟨es,clock,hb,F,hs,hD,_⟩:=HO.o;exact⟨es,clock,(OZ.o.block _ hmlt).trans hb,F,hs,hD⟩
   go_wp2_with fail;refine(zja (some w.heap.size) w5).mono ?_;rintro e w6 ⟨rfl,rfl⟩;go_wp2_with fail;refine(qj _ w t Dt w5 HM5.o (by omega)).mono ?_;rintro e w7 ⟨v7,ss7,rfl,VQ,VR,OU⟩;obtain⟨f1,f2⟩:=Vy (K:=(lst L R.length).map (Ay R)) HM5.o (zea HL.o.2.2.1 L) (zrq HL.o.2.2.1 HL.o.2.2.2 HL.o.2.1 HG.o) VQ;rw[f1,f2] at VR;obtain⟨vb,vd,rfl,VS⟩:=X9 VR;rw[aS];obtain⟨k2,CK⟩:∃k2,(lst L R.length).length=k2:=⟨_,rfl⟩;rw[CK];have HK2:=kd CK;have hk2l:k2<=120:=by
    rw[<-CK];have:(lst L R.length).length<=R.length:=by unfold lst;exact aD (aW _ _) (by simp)
    have:=EU.o;omega
   have HC7:Hid (∀t',t'<k2->∃g r,vb=some ⟨g,0,none⟩/\(lst L R.length)[t']? =some r/\w5.heap.size<=g/\w7.cell? ⟨g,t',none⟩=some (.int .i64 ((idN R r:Nat):Int))):=λ t' ht'=>by
    have KJ:t'<(lst L R.length).length:=by rw[CK];exact ht'
    have hr:=aB KJ;obtain⟨g,h1,h2,_,h4⟩:=VS t' (Ay R (lst L R.length)[t']) (by rw[bJ,hr];rfl);exact⟨g,_,h1,hr,h2,by rw[(D5 HL.o.2.2.2 (Fj.1 (dF KJ)).1).1];exact h4⟩
   have HB7:Hid (Below wl wl w7/\Below w5 w5 w7):=⟨OZ.o.tr OU,OU⟩;have HO7:Hid (w7.ownsRow wl.heap.size 48 1 (.slice wl 0 km) 0 []):=HO5.o.kept (row:=none) ⟨OU.os,OU.tape,OU.output,OU.size,λ k hk _=>OU.block k hk⟩ (.inr (by simp[Value.ownBlock]));have hw7s:=HB7.o.1.size;have hw5s:wl.heap.size<w5.heap.size:=(aU HO5.o wl.heap.size rfl).2;clear VQ VR VS OU f1 f2 CK HM5 HO5;go_wp2_with fail;go_loopw [7,44] (λ s7 s44 wq=>∃(t':Nat) (vs:List Value),t'<=k2/\s44=t'/\Ep wl w3 vs ((Ha R L).take t')/\wq.ownsRow wl.heap.size 48 1 s7 vs.length vs/\s7≠ .slice none 0 0/\(s7.ownBlock=some wl.heap.size\/∃g,s7.ownBlock=some g/\w7.heap.size<=g)/\Below wl wl wq/\But wl.heap.size w7 wq) (λ _ s44 _=>k2-(intOf s44).toNat)
   case atStart=>exact⟨0,[],aN _,rfl,⟨rfl,by simp⟩,HO7.o,by simp,.inl rfl,HB7.o.1,But.refl _ _⟩
   case round=>
    obtain⟨t',vs,ht',rfl,CP,JY,KZ,hob,CG,hbt'⟩:=hrel;have hvl:=CP.1;have BH:(Ha R L).length=k2:=by unfold Ha;rw[aS,HK2.o]
    have hvl2:vs.length<=120:=by rw[hvl];simp;omega
    clear HO7;by_cases j6:t'<k2
    ·obtain⟨g,r,rfl,hr,AX,AU⟩:=HC7.o t' j6
     obtain⟨FO,hrr⟩:=Fj.1 (aG hr);have hc:wr.cell? (g,t')=((idN R r:Nat):Int):=hbt'.cell AU (by omega);have hgn:=zgw HL.o.2.2.1 HL.o.2.2.2 HL.o.2.1 FO;have l9:gN R L R.length (idN R r)≠[]:=by
      rw[hgn];intro c;rw[jE] at c;have:r∈grp L R.length r:=Iw.2 ⟨FO,hrr⟩;rw[c] at this;cases this
     obtain⟨rr,cc,AQ,EB⟩:=zl3 HO.o HG.o CG Bp underlying199 (L6 wr) (zcj (idN R r) (D5 HL.o.2.2.2 FO).2) l9;rw[hgn] at AQ EB;have HR:Hid (Ep wl w3 (vs++[.slice rr ((grp L R.length r).map (idN R)).length cc]) ((Ha R L).take (t'+1))):=fe CP (zo5 hr) EB;have EW:=kd (And.intro hbt' CG);have VT:=kd hob;have hbks:=CG.size;have hbts:=hbt'.size;generalize idN R r=X at*;generalize ((grp L R.length r).map (idN R)).length=gl at*;clear CP EB hgn l9 hr FO hrr AU hob CG hbt';go_wp2_with (first
      |(at_builtin;refine wpList_append_own_at _ rfl _ _ 51 rfl wl.heap.size 48 j0 (.slice none 0 0) 1 24 underlying51 hj JE hj1 hj2 rfl (by decide) u7 vs.length vs rfl (JY.alloc _) wr 1 1 [.slice rr gl cc] rfl rfl (cell_one_new _ _ _) (Fv _ _ _) (by unfold maxLen;omega) (by omega) (by simp;omega) ?_;intro v9 w9 QP LJ VU VV)
      |fail)
     have y7:=(bR wr _ _).trans LJ;have hbt9:But wl.heap.size w7 w9:=by
      refine⟨y7.os.trans EW.o.1.os,y7.tape.trans EW.o.1.tape,y7.output.trans EW.o.1.output,aD EW.o.1.size y7.size,λ k hk l9=>?_⟩;rw[y7.block k (by omega) (λ c=>?_)]
      ·exact EW.o.1.block k hk l9
      ·rcases VT.o with c1|⟨g',c1,c2⟩
       ·rw[c1] at c;injection c with c;exact l9 c
       ·rw[c1] at c;injection c with c;omega
     have hob9:v9.ownBlock=some wl.heap.size\/∃g,v9.ownBlock=some g/\w7.heap.size<=g:=by
      rcases VV with c|c
      ·rw[c];exact VT.o
      ·exact .inr ⟨_,c,by simp;omega⟩
     go_roundw;case rel=>exact⟨t'+1,_,by omega,by go_num,HR.o,by simpa using QP,λ h=>KZ (VU.1 h).1,hob9,EW.o.2.grown y7 EW.o.2.size (λ j hj=>(JY.lt j hj).1),hbt9⟩
     case measure=>simp[intOf];omega
    ·have CF:t'=k2:=by omega
     subst CF;have HA:Hid (Hf wr u7 (Ha R L)):=by
      have PY:(Ha R L).take t'=Ha R L:=aZ (by omega);rw[PY] at CP;exact di CP JY KZ CG
     have HBF:Hid (Below w w wr):=CQ.o.tr CG;clear CP JY CG hbt' hob;go_wp2;go_ret;exact⟨_,rfl,HA.o,HBF.o⟩
end Go.Proofs.Y.S
namespace Go.Proofs.Y.S
open Go.Proofs.Tryz
open Go.RowKit Go.WideMaps Go.Maps
theorem zm8 (cs:List Nat):∀u∈Cy cs,u.oneCell'=true:=by
 intro u hu;unfold Cy at hu;obtain⟨x,_,rfl⟩:=aY.1 hu;rfl
theorem zhx (w:World):(w.alloc (.cells #[] 3)).ownsRow w 3 1 (.slice w 0 0) 0 []:=
 ⟨rfl,.inr ⟨w.heap.size,0,#[],rfl,aF _,aQ w _,aF _,by unfold maxLen;omega,rfl,rfl⟩⟩
theorem zf3 (v:Value)(B0:Nat)(cs:List Nat)(w:World)(h:w.ownsRow B0 3 1 v cs.length (Cy cs))(KC:cs.length<=1000):
 Calls prog 136 #[v] w λ e w'=>∃v',e= .returned v'/\w'.ownsRow w 3 1 v' cs.length (Cy cs)/\Below w w w':=by
 have h0:=h;have hq:=λ(a:Option Addr) (n c:Nat) (W:World)=>Lib.run_eql_slice_nil (P:=prog) W 48 3 a n c 0 0 underlying48
 rcases h.2 with⟨rfl,hz⟩|⟨g,cap,cur,rfl,hB,hg,_⟩
 ·have HN:Hid (cs=[]):=bV hz
  clear h h0 hz;go_enter func136,ntmps136;go_wp2;go_ret;exact⟨_,rfl,by rw[HN.o];exact aX _ _ _ _,aI _ _⟩
 ·obtain⟨i0,GJ,BR,BU,BM⟩:=info_parts Tryz.info3
  have j6:=lt_of_some hg;have AP:∀j u,(Cy cs)[j]? =some u->(w.alloc (.cells #[] 3)).cell? ((⟨g,0,none⟩:Addr).add j)=some u:=λ j u hj=>bQ (h0.alloc _) rfl j u hj
  have hnl:(Cy cs).length=cs.length*1:=by simp[Cy]
  clear h h0 hg hB;go_enter func136,ntmps136;go_wp2_with (first
   |(at_builtin;refine wpList_append_own_at _ rfl _ _ 48 rfl w.heap.size 3 i0 (0:Int) 1 8 underlying48 GJ BR BU BM rfl (by decide) (.slice w 0 0) 0 [] rfl (zhx w) g cs.length cap (Cy cs) rfl hnl AP (zm8 cs) (by unfold maxLen;omega) (by omega) (by simp) ?_;intro v5 w5 BA AL QN IA)
   |fail)
  go_ret;refine⟨_,rfl,by simpa using BA,?_⟩;exact(b_).grown AL (by simp) (λ j hj=>by simp[Value.ownBlock] at hj;omega)
theorem zhu (p m N B0:Nat)(D:DataW Unit)(v:Value)(cs:List Nat)(w:World)(h:Bo w p m N D v)(hr:w.ownsRow B0 3 1 v cs.length (Cy cs))(KC:cs.length<=1000):
 Calls prog 80 #[.pointer p] w λ e w'=>∃v',e= .returned v'/\w'.ownsRow w 3 1 v' cs.length (Cy cs)/\Below w w w':=by
 have BV:=h.c1;have HC:Hid _:=zf3 v B0 cs w hr KC;clear h hr;go_enter func80,ntmps80;go_wp2_with fail;refine aA HC.o ?_;rintro e w1 ⟨v',rfl,ho,hb⟩;have HR:=kd (And.intro ho hb);clear ho hb HC BV;go_wp2_with fail;go_ret;exact⟨_,rfl,HR.o⟩
open Go.RowKit Go.WideMaps Go.Maps Go.Proofs.Tryz
theorem zh7 {w:World}{B:Nat}{v:Value}{L:List Edg}(h:w.ownsRow B 3 1 v L.length (idV L)):∃a cap,v= .slice a L.length cap/\L.length<=cap/\cap<=maxLen/\(0<L.length->∃g,a=some ⟨g,0,none⟩/\g<w.heap.size/\∀j e,L[j]? =some e->w.cell? ⟨g,j,none⟩=some (.int .i64 e.1)):=by
 have h0:=h;rcases h.2 with⟨rfl,hz⟩|⟨g,cap,cur,rfl,hb,hg,h4,h5,_⟩
 ·exact⟨none,0,by rw[hz],by omega,by simp[maxLen],λ k=>by omega⟩
 ·refine⟨_,cap,rfl,h4,h5,λ _=>⟨g,rfl,lt_of_some hg,λ j e he=>?_⟩⟩
  have hj:=(aC.1 he).1;rw[h0.cellAt j (by omega)];simp[idV,he]
theorem drop_at {L:List Edg}{i:Nat}{e:Edg}(h:L[i]? =some e):L.drop i=e::L.drop (i+1):=by
 obtain⟨j6,he⟩:=aC.1 h;rw[eU j6,he]
structure Pq (W3 w:World) (u:Value) (M:List (Int × Int)):Prop where
 own:Aq w W3 u M
 below:Below W3 W3 w
theorem Pq.drewN {W3 w:World}{u:Value}{M:List (Int × Int)}(h:Pq W3 w u M)(k:Nat):Pq W3 (w.drewN k) u M:=⟨h.own.below (below_drewN (aI _ _) k),below_drewN h.below k⟩
theorem ze2 (c mb rest:Nat)(S R:List Edg)(f:Edg->Nat)(w:World)(h:Cx w c mb rest S R f):
 Calls prog 84 #[.pointer c] w λ e w'=>∃v,e= .returned v/\Aq w' w v (Ak (R.filter λ e=>decide (f e≠0)) λ e d=>decide (f e=f d))/\Below w w w':=by
 have j4:Below w w (w.alloc (.cells #[.pointer c] 106)):=b_;have HX:Hid (Cx w c mb rest S R f/\Cb (w.alloc (.cells #[.pointer c] 106)) w c mb rest S f/\Cx (w.alloc (.cells #[.pointer c] 106)) c mb rest S R f):=⟨h,⟨aQ w _,h.co.below j4⟩,h.below j4⟩;have HI:Hid _:=zlb c mb rest S R f (w.alloc (.cells #[.pointer c] 106)) HX.o.2.2.co h.mem h.up HX.o.2.2.small;have hmf':=hmf;clear h j4;go_enter func84,ntmps84;go_wp2_with fail;refine aA HI.o ?_;rintro e w2 ⟨v2,rfl,hrow2,j5⟩;have HW:Hid (w2.ownsRow (w+1) 3 1 v2 R.length (idV R)/\Below (w.alloc (.cells #[.pointer c] 106)).heap.size (w.alloc (.cells #[.pointer c] 106)) w2):=⟨by simpa using hrow2,j5⟩;have HD:Hid (Calls prog 144 #[v2,.func (.func 146) #[] #[.pointer w]] w2 λ e w'=>∃v,e= .returned v/\w'.ownsRow w 3 1 v (R.filter λ e=>decide (f e≠0)).length (idV (R.filter λ e=>decide (f e≠0)))/\Below w w w'/\Cb w' w c mb rest S f):=by
  have y5:Below w w w2:=(b_).trans (HW.o.2.mono (by simp));rcases HW.o.1.2 with⟨hv,hz⟩|⟨g,cap,cur,hv,hbg,_⟩
  ·subst hv
   have hR:R=[]:=bV hz;refine(Wv w w2).mono ?_;rintro e w' ⟨rfl,hw'⟩;subst hw';refine⟨_,rfl,?_,y5,HX.o.2.1.below HW.o.2⟩;rw[hR];exact aX _ _ _ _
  ·subst hv
   have hbw:=HX.o.2.1;obtain⟨u,hu⟩:=hbw.co.st;obtain⟨D0,N0,k1,k2⟩:=hbw.co.mp;have RZ:=lt_of_some hbw.bx;have hlc:=lt_of_some hu;have QM:=k1.lt;simp at RZ hlc QM;have hrw:w2.ownsRow (w+1) 3 1 (.slice g R.length cap) R.length (Gx (R.map (·.1))):=by rw[qy];exact HW.o.1
   refine(zji (zk6 R λ e=>decide (f e=0)) w g R.length cap (w+1) (R.map (·.1)) w2 hrw (by rw[aS];have:=HX.o.1.len;omega) (by simp) (λ W hW x hx=>?_)).mono ?_
   ·obtain⟨e,he,rfl⟩:=aY.1 hx
    rw[zbz HX.o.1.up _ he];have NW:Cb W w c mb rest S f:=(HX.o.2.1.below HW.o.2).grown hW (by omega) (by omega) (by omega);exact zoq w.heap.size c mb rest S f e W NW ((HX.o.1.mem e).2 he) (HX.o.1.wf e he)
   ·rintro e w' ⟨v',rfl,hrow',hg'⟩
    refine⟨v',rfl,?_,?_,(HX.o.2.1.below HW.o.2).grown hg' (by omega) (by omega) (by omega)⟩
    ·rw[zc1 R (λ e=>decide (f e=0)) _ (λ e he=>zbz HX.o.1.up _ he),qy,aS] at hrow'
     have e1:(R.filter λ e=>!decide (f e=0))=R.filter λ e=>decide (f e≠0):=by
      apply dP;intro e _;by_cases h0:f e=0 <;> simp[h0]
     rw[e1] at hrow';exact zkz hrow' (by omega)
    ·exact y5.grown hg' y5.size (λ j hj=>by injection hj with hj;omega)
 clear hrow2 j5 HI;go_wp2_with fail;refine aA HD.o ?_;rintro e w3 ⟨v3,rfl,JQ,y8,hcb3⟩;obtain⟨L,hL⟩:∃L,(R.filter λ e=>decide (f e≠0))=L:=⟨_,rfl⟩;rw[hL] at JQ;have HL:=kd hL;obtain⟨T,hT⟩:∃T,(Ak L λ e d=>decide (f e=f d))=T:=⟨_,rfl⟩;have HT:=kd hT;have hTl:T.length<=14400:=by
  rw[<-hT];have h1:=Nh (λ e d=>decide (f e=f d)) L;have h2:L.length<=120:=by rw[<-hL];exact aD (aW _ _) HX.o.1.len
  have h3:=fU h2 h2;omega
 obtain⟨a3,cap,rfl,GI,XE,UX⟩:=zh7 JQ;obtain⟨m,hm⟩:∃m,L.length=m:=⟨_,rfl⟩;have HM:=kd hm;rw[hm] at GI UX ⊢;have hm60:m<=120:=by rw[<-hm,<-hL];exact aD (aW _ _) HX.o.1.len
 have HC:Hid ((0<m->∃g,a3=some ⟨g,0,none⟩/\g<w3.heap.size/\∀j e,L[j]? =some e->w3.cell? ⟨g,j,none⟩=some (.int .i64 e.1))/\Cb w3 w c mb rest S f/\Below w w w3):=⟨UX,hcb3,y8⟩;have HP0:Hid (∃M,Pq w3 w3 (.slice none 0 0) M/\M++(Ak (L.drop 0) λ e d=>decide (f e=f d))=T):=⟨[],⟨aX _ _ _ _,aI _ _⟩,by simpa using hT⟩;simp only[maxLen] at XE;clear JQ y8 hcb3 UX hm hL hT HD HW;go_wp2_with fail;go_loopw [4,15] (λ s4 s15 wq=>∃i:Nat,i<=m/\s15=i/\∃M,Pq w3 wq s4 M/\M++(Ak (L.drop i) λ e d=>decide (f e=f d))=T) (λ _ s15 _=>m-(intOf s15).toNat)
 case atStart=>exact⟨0,aN _,rfl,HP0.o⟩
 case round=>
  clear HP0;obtain⟨i,hi,rfl,M,EO,ND⟩:=hrel;have HP:=kd (And.intro EO ND);clear EO ND;by_cases j6:i<m
  ·obtain⟨e,he⟩:∃e,L[i]? =some e:=⟨_,aB (by rw[HM.o];exact j6)⟩
   obtain⟨g,rfl,IK,AO⟩:=HC.o.1 (by omega);have SH:wr.cell? (g,i)=e.1:=(HP.o.1.below.cell (p:=⟨g,i,none⟩) IK).trans (AO i e he);have HE:=kd (And.intro he AO);have KU:Hid (∃M,Pq w3 wr u4 M/\M++((((L.drop (i+1)).drop 0).filter λ d=>decide (f e=f d)).map (λ d=>(e.1,d.1))++Ak (L.drop (i+1)) λ e d=>decide (f e=f d))=T):=⟨M,HP.o.1,by
    have:=HP.o.2;rw[drop_at he] at this;exact this⟩
   obtain⟨E,hE⟩:∃E,e.1=E:=⟨_,rfl⟩;have QQ:=kd hE;rw[hE] at SH;clear he AO hE;have AR:IntKind.i64.wrap ((i:Int)+1)=(i:Int)+1:=by rw[bO];omega
   have j5:(i:Int)+1<=(m:Int):=by omega
   have y8:(0:Int)<=(i:Int)+1:=by omega
   have BB:(i:Int)+1<=(cap:Int):=by omega
   have CV:(m:Int)<=(cap:Int):=by omega
   have KZ:((i:Int)+1).toNat=i+1:=by omega
   by_cases ED:cap=i+1
   ·go_wp2_with fail
    clear AR j5 y8 BB CV KZ SH;obtain⟨r,hr⟩:∃r,m-(i+1)=r:=⟨_,rfl⟩;have HR:=kd hr;rw[hr];go_loopw [4,25] (λ s4 s25 wq=>∃j:Nat,j<=r/\s25=j/\∃M,Pq w3 wq s4 M/\M++((((L.drop (i+1)).drop j).filter λ d=>decide (f e=f d)).map (λ d=>(e.1,d.1))++Ak (L.drop (i+1)) λ e d=>decide (f e=f d))=T) (λ _ s25 _=>r-(intOf s25).toNat)
    case atStart=>exact⟨0,aN _,rfl,KU.o⟩
    case round=>
     clear KU HP;obtain⟨j,hj,rfl,M,EO,ND⟩:=hrel;have HP:=kd (And.intro EO ND);clear EO ND;by_cases JL:j<r
     ·exact absurd JL (by omega)
     ·as_aux_lemma=>
      have HF:Hid (M++(Ak (L.drop (i+1)) λ e d=>decide (f e=f d))=T):=by
       have h1:=HP.o.2;have h2:(L.drop (i+1)).drop j=[]:=fJ (by rw[dJ,HM.o];omega);rw[h2] at h1;exact h1
      clear hr;go_wp2_with fail;go_roundw;case rel=>exact⟨i+1,by omega,by go_num,M,HP.o.1,HF.o⟩
      case measure=>simp[intOf];omega
   ·go_wp2_with fail
    clear AR j5 y8 BB CV KZ SH;obtain⟨r,hr⟩:∃r,m-(i+1)=r:=⟨_,rfl⟩;have HR:=kd hr;rw[hr];go_loopw [4,25] (λ s4 s25 wq=>∃j:Nat,j<=r/\s25=j/\∃M,Pq w3 wq s4 M/\M++((((L.drop (i+1)).drop j).filter λ d=>decide (f e=f d)).map (λ d=>(e.1,d.1))++Ak (L.drop (i+1)) λ e d=>decide (f e=f d))=T) (λ _ s25 _=>r-(intOf s25).toNat)
    case atStart=>exact⟨0,aN _,rfl,KU.o⟩
    case round=>
     clear KU HP;obtain⟨j,hj,rfl,M,EO,ND⟩:=hrel;have HP:=kd (And.intro EO ND);clear EO ND;by_cases JL:j<r
     ·obtain⟨d,hd⟩:∃d,L[i+1+j]? =some d:=⟨_,aB (by rw[HM.o];omega)⟩
      have hcd:wr.cell? (g,i+1+j)=d.1:=(HP.o.1.below.cell (p:=⟨g,i+1+j,none⟩) IK).trans (HE.o.2 _ d hd);have hdr:(L.drop (i+1)).drop j=d::(L.drop (i+1)).drop (j+1):=drop_at (by rw[fA];exact hd);have NW:=HC.o.2.1.below HP.o.1.below;have BP:wr.cell? w=some (.pointer c):=by simp[World.cell?,NW.bx]
      have j4:=NW.co.cell1;have inL:∀{k:Nat} {x:Edg},L[k]? =some x->x∈R:=λ {k x} hk=>by
       have:=aG hk;rw[<-HL.o] at this;exact(aO.1 this).1
      have lk1:=λ n=>((NW.below (below_drewN (aI _ _) n)).co.Xf ((HX.o.1.mem e).2 (inL HE.o.1)) (HX.o.1.wf e (inL HE.o.1))).2
      have lk2:=λ n=>((NW.below (below_drewN (aI _ _) n)).co.Xf ((HX.o.1.mem d).2 (inL hd)) (HX.o.1.wf d (inL hd))).2
      unfold Hq at lk1 lk2;have HMl:Hid (M.length<=14400):=by
       have:=congrArg List.length HP.o.2;rw[aM] at this;show M.length<=14400;omega
      have HN:Hid (∀M',(if f e=f d then M'=M++[(e.1,d.1)] else M'=M)->M'++((((L.drop (i+1)).drop (j+1)).filter λ d=>decide (f e=f d)).map (λ d=>(e.1,d.1))++Ak (L.drop (i+1)) λ e d=>decide (f e=f d))=T):=λ M' hM'=>by
       have h1:=HP.o.2;rw[hdr,bT] at h1;by_cases UJ:f e=f d
       ·rw[aP UJ] at hM'
        rw[aP (by simpa using UJ)] at h1;rw[hM',<-h1];simp
       ·rw[aL UJ] at hM'
        rw[aL (by simpa using UJ)] at h1;rw[hM',<-h1]
      obtain⟨Y,hY⟩:∃Y,d.1=Y:=⟨_,rfl⟩;obtain⟨x,hx⟩:∃x,f e=x:=⟨_,rfl⟩;obtain⟨y,hy⟩:∃y,f d=y:=⟨_,rfl⟩;rw[QQ.o,hx] at lk1;rw[hY,hy] at lk2;rw[hY] at hcd;rw[hx,hy,QQ.o,hY] at HN;obtain⟨x0,ER⟩:∃x0,Cu x=x0:=⟨_,rfl⟩;obtain⟨x1,MS⟩:∃x1,hi64 x=x1:=⟨_,rfl⟩;obtain⟨y0,LV⟩:∃y0,Cu y=y0:=⟨_,rfl⟩;obtain⟨y1,OB⟩:∃y1,hi64 y=y1:=⟨_,rfl⟩;rw[ER,MS] at lk1;rw[LV,OB] at lk2;have CJ:Hid (x=y↔x0=y0/\x1=y1):=by
       show _↔_;rw[<-ER,<-MS,<-LV,<-OB];exact⟨λ k=>by rw[k];exact⟨rfl,rfl⟩,λ k=>zmu k.1 k.2⟩
      clear ER MS LV OB;have heq:=zn8;clear NW hd hdr inL hY hy;by_cases BO:x=y
      ·as_aux_lemma=>
       have DZ:Hid _:=HN.o (M++[(E,Y)]) (by rw[aP BO]);obtain⟨BR,BU⟩:=CJ.o.1 BO;subst BR;subst BU;go_upto_region 9 with fail
       go_quiet (fail);have RP:=HP.o.1.drewN nq;obtain⟨v',w4,KE,GX,KQ,QF⟩:=Kt 65 (wr.drewN nq) w3 u4 M E Y RP.own RP.below.size (by have:=HMl.o;omega);have HRN:=kd KE;have QR:Hid (Pq w3 w4 v' (M++[(E,Y)])):=⟨GX,RP.below.grown KQ RP.below.size (λ k hk=>(aU RP.own k hk).1)⟩;clear KE GX KQ QF RP;go_wp2_with (at_builtin;refine Lib.wpList_append_run _ rfl _ _ _ _ rfl _ _ rfl rfl _ _ HRN.o ?_);go_roundw;case rel=>
        refine⟨j+1,by omega,by go_num,M++[(E,Y)],QR.o,?_⟩;have:=DZ.o;rw[hx,QQ.o];exact this
       case measure=>simp[intOf];omega
      ·by_cases BR:x0=y0
       ·as_aux_lemma=>
        have BU:¬x1=y1:=λ k=>BO (CJ.o.2 ⟨BR,k⟩)
        subst BR;have NV:((x1:Int)==(y1:Int))=false:=aH.2 (by omega);have DZ:Hid _:=HN.o M (by rw[aL BO]);go_upto_region 9 with fail
        go_quiet (fail);go_wp2_with fail;go_roundw;case rel=>
         refine⟨j+1,by omega,by go_num,M,HP.o.1.drewN _,?_⟩;have:=DZ.o;rw[hx,QQ.o];exact this
        case measure=>simp[intOf];omega
       ·as_aux_lemma=>
        have NV:((x0:Int)==(y0:Int))=false:=aH.2 (by omega);have DZ:Hid _:=HN.o M (by rw[aL BO]);go_upto_region 9 with fail
        go_quiet (fail);go_wp2_with fail;go_roundw;case rel=>
         refine⟨j+1,by omega,by go_num,M,HP.o.1.drewN _,?_⟩;have:=DZ.o;rw[hx,QQ.o];exact this
        case measure=>simp[intOf];omega
     ·as_aux_lemma=>
      have HF:Hid (M++(Ak (L.drop (i+1)) λ e d=>decide (f e=f d))=T):=by
       have h1:=HP.o.2;have h2:(L.drop (i+1)).drop j=[]:=fJ (by rw[dJ,HM.o];omega);rw[h2] at h1;exact h1
      clear hr;go_wp2_with fail;go_roundw;case rel=>exact⟨i+1,by omega,by go_num,M,HP.o.1,HF.o⟩
      case measure=>simp[intOf];omega
  ·as_aux_lemma=>
   have HF:Hid (Aq wr w u4 (Ak L λ e d=>decide (f e=f d))/\Below w w wr):=by
    have CR:i=m:=by omega
    have h1:=HP.o.2;rw[CR,<-HM.o,lM] at h1;simp only[Ak,eX] at h1;have hb:=HC.o.2.2;have h2:=HP.o.1;rw[h1,<-HT.o] at h2;exact⟨h2.own.mono hb.size,hb.tr h2.below⟩
   go_wp2_with fail;go_ret;refine⟨_,rfl,?_,HF.o.2⟩;rw[HL.o];exact HF.o.1
open Go Go.ChangeMaps Go.MapKept Go.WideShapes
open Go.WideElems (Fit rd rg pl rd_key rd_val rg_of rd_mk other_key)
open Go.Maps (Keyed)
theorem U4 {es:Array MapEntry}{j c:Nat}{e0:MapEntry}(h:es.toList[j]? =some e0)(hc:e0.born=c)(hu:∀i x,es.toList[i]? =some x->x.born=c->i=j):es.findIdx? (λ e=>((e.born:Int)==(c:Int)))=some j:=by
 rw[Array.findIdx?_eq_some_iff_getElem];obtain⟨hj,he⟩:=aC.1 h;refine⟨by simpa using hj,?_,λ i hi=>?_⟩
 ·have:es[j]'(by simpa using hj)=e0:=by simpa using he
  rw[this,hc];simp
 ·have LY:i<es.toList.length:=Nat.lt_trans hi hj
  intro hp;have:=hu i es.toList[i] (aB LY) (by have h5:=bX.1 hp;simp;omega);omega
theorem Q0 (w:World)(b:Nat)(o o':Obj):setBlock (setBlock w b o) b o'=setBlock w b o':=by
 simp[setBlock]
section
variable {H:Type} {P:Program} {k:TypeId} {w:World} {base b n:Nat} {D:DataW H}
theorem kv {t E e:TypeId}{q:IntKind}(h:w.ownsGroups P k base e q b n D)(K:Keyed P k)(ht:P.underlying t=some (.map k E))(hz:(zeroValue E).run P w= .ok (.slice none 0 0) w)(hn:n<maxLen){key:Value}{kl:Lit}(o9:keyOf P k key=some kl):
 ∃v zs st w1,(Instr.mapEntry t (.map b) key).run P w= .ok (.tuple #[v,.int .i64 st]) w1/\D.atKey kl .nil=rowDatum q v zs/\w1.ownsInts base e q v zs/\zs.length<=n/\w.grownBy w1 (some b)/\w1.heap.size=w.heap.size/\
  ∀(w2:World) (v':Value) (zs':List Int),w1.grownBy w2 v.ownBlock->w2.ownsInts base e q v' zs'->zs'.length<=n+1->(v'.ownBlock=v.ownBlock\/∃g,v'.ownBlock=some g/\w1.heap.size<=g)->
   ∃w3,(Instr.entryStore t (.map b) (.int .i64 st) v').run P w2= .ok () w3/\w3.ownsGroups P k base e q b (n+1) (D.put kl (rowDatum q v' zs'))/\w2.grownBy w3 (some b):=by
 obtain⟨v,zs,IY,q9,EB,TG,DL⟩:=h.at K ht hz hn o9;obtain⟨es,clock,hb,F,hs,hD,EN,_,_⟩:=h;have CU:=(stamped_iff es clock).1 F.stamped;have notb:∀{W:World} {u:Value} {ys:List Int},W.ownsInts base e q u ys->u.ownBlock≠some b:=λ ho hu=>by
  have:=(aU ho.1 b hu).1;omega
 have core:∀(es1:Array MapEntry) (clock1 st:Nat) (w1:World),w1=setBlock w b (.map es1 clock1)->
  (∀(w2:World) (v':Value),w2.heap[b]? =some (.map es1 clock1)->∀w3,(Instr.mapUpdate t (.map b) key v').run P (setBlock w2 b (.map es clock))= .ok () w3->(Instr.entryStore t (.map b) st v').run P w2= .ok () w3)->
  (Instr.mapEntry t (.map b) key).run P w= .ok (.tuple #[v,st]) w1->
  ∃v zs st w1,(Instr.mapEntry t (.map b) key).run P w= .ok (.tuple #[v,.int .i64 st]) w1/\D.atKey kl .nil=rowDatum q v zs/\w1.ownsInts base e q v zs/\zs.length<=n/\w.grownBy w1 (some b)/\w1.heap.size=w.heap.size/\
  ∀(w2:World) (v':Value) (zs':List Int),w1.grownBy w2 v.ownBlock->w2.ownsInts base e q v' zs'->zs'.length<=n+1->(v'.ownBlock=v.ownBlock\/∃g,v'.ownBlock=some g/\w1.heap.size<=g)->
   ∃w3,(Instr.entryStore t (.map b) (.int .i64 st) v').run P w2= .ok () w3/\w3.ownsGroups P k base e q b (n+1) (D.put kl (rowDatum q v' zs'))/\w2.grownBy w3 (some b):=by
  intro es1 clock1 st w1 AR hsame AQ;have AX:w.grownBy w1 (some b):=by rw[AR];exact⟨rfl,rfl,rfl,by simp[setBlock],λ i _ hi=>jF hb _ (λ e=>hi (by rw[e]))⟩
  have EK:w1.heap.size=w.heap.size:=by rw[AR];simp[setBlock]
  have j4:w1.heap[b]? =some (.map es1 clock1):=by rw[AR];exact iM hb _
  refine⟨v,zs,st,w1,AQ,q9,EB.kept AX (.inr (notb EB)),TG,AX,EK,λ w2 v' zs' AU LB KS ES=>?_⟩;have j5:w2.heap[b]? =some (.map es1 clock1):=by
   rw[AU.block b (lt_of_some j4) (λ e=>notb EB e.symm)];exact j4
  have hg2':w2.grownBy (setBlock w2 b (.map es clock)) (some b):=⟨rfl,rfl,rfl,by simp[setBlock],λ i _ hi=>jF j5 _ (λ e=>hi (by rw[e]))⟩;have KN:w.grownBy (setBlock w2 b (.map es clock)) v.ownBlock:=by
   refine⟨AU.os.trans AX.os,AU.tape.trans AX.tape,AU.output.trans AX.output,?_,λ i hi l9=>?_⟩
   ·have:=AU.size
    simp[setBlock];omega
   ·by_cases e:i=b
    ·rw[e,iM j5];exact hb.symm
    ·rw[jF j5 _ e,AU.block i (by omega) l9,AX.block i hi (by simpa using e)]
  obtain⟨w3,r1,r2,r3⟩:=DL _ v' zs' KN (LB.kept hg2' (.inr (notb LB))) KS (by rw[EK] at ES;exact ES);refine⟨w3,hsame w2 v' j5 w3 r1,r2,⟨r3.os,r3.tape,r3.output,?_,λ i hi l9=>?_⟩⟩
  ·have:=r3.size
   simp[setBlock] at this;exact this
  ·rw[r3.block i (by simp[setBlock];exact hi) l9,hg2'.block i hi l9]
 rcases K.find w o9 es.toList F.keys with⟨h1,h2⟩|⟨j,e0,h1,h2,h3⟩
 ·have hvz:v= .slice none 0 0:=by
   rcases Maps.fit_look false K ht hz hb F o9 with⟨AQ,_,_⟩|⟨e0,y,XQ,h3,_⟩
   ·rw[AQ] at IY;injection IY with IY;exact IY.symm
   ·exact absurd h3 (h2 e0 XQ)
  refine core (es.push ⟨key,.slice none 0 0,clock⟩) (clock+1) clock _ rfl (λ w2 v' j5 w3 JD=>?_) ?_
  ·obtain⟨W,hW⟩:∃W,setBlock w2 b (.map es clock)=W:=⟨_,rfl⟩
   rw[hW] at JD;have EI:W.heap[b]? =some (.map es clock):=by rw[<-hW];exact iM j5 _
   rcases K.find W o9 es.toList F.keys with⟨g1,g2⟩|⟨j,e0,g1,g2,g3⟩
   ·have VW:(Instr.mapUpdate t (.map b) key v').run P W= .ok () (setBlock W b (.map (es.push ⟨key,v',clock⟩) (clock+1))):=by
     simp[Instr.mapUpdate,run_underlying ht,MapKept.run_getObj_map EI,K.check W false o9,g1,MapKept.run_setObj_map _ EI,Result.andThen,setBlock]
    rw[JD] at VW;injection VW with _ hw
    rw[<-hW,Q0] at hw;subst hw;have hf:(es.push ⟨key,.slice none 0 0,clock⟩).findIdx? (λ e=>((e.born:Int)==(clock:Int)))=some es.size:=by
     refine U4 (e0:=⟨key,.slice none 0 0,clock⟩) (by simp) rfl (λ i x hx GA=>?_);simp only[Array.toList_push] at hx;rcases eH i es.toList.length with hi|hi
     ·rw[dR hi] at hx
      have:=F.stamped.1 x (aG hx);omega
     ·have:=(aC.1 hx).1
      simp at this hi;omega
    have PG:(es.push ⟨key,.slice none 0 0,clock⟩).modify es.size (λ e=>{e with val:=v'})=es.push ⟨key,v',clock⟩:=by
     apply kE
     ·simp
     ·intro i h1 h2
      simp only[jA,Array.getElem_push];split <;> split <;> simp_all <;> omega
    simp[Instr.entryStore,MapKept.run_getObj_map j5,asInt,asIntOf,hf,PG,MapKept.run_setObj_map _ j5,Result.andThen];simp[setBlock]
   ·exact absurd g3 (h2 e0 (aG g2))
  ·rw[hvz]
   simp[Instr.mapEntry,run_underlying ht,MapKept.run_getObj_map hb,K.check w false o9,h1,hz,MapKept.run_setObj_map _ hb,Result.andThen,setBlock,goInt]
 ·have hj:es[j]? =some e0:=by simpa using h2
  have MF:j<es.size:=(dK.1 hj).1;have CE:es[j]=e0:=(dK.1 hj).2;have hvz:v=e0.val:=by
   have:(Instr.lookup t (.map b) key false).run P w= .ok e0.val w:=by
    simp[Instr.lookup,run_underlying ht,MapKept.run_getObj_map hb,K.check w _ o9,h1,Result.andThen]
   rw[this] at IY;injection IY with IY;exact IY.symm
  refine core (es.modify j λ e=>{e with key:=key}) clock e0.born _ rfl (λ w2 v' j5 w3 JD=>?_) ?_
  ·obtain⟨W,hW⟩:∃W,setBlock w2 b (.map es clock)=W:=⟨_,rfl⟩
   rw[hW] at JD;have EI:W.heap[b]? =some (.map es clock):=by rw[<-hW];exact iM j5 _
   rcases K.find W o9 es.toList F.keys with⟨g1,g2⟩|⟨j',e0',g1,g2,g3⟩
   ·exact absurd h3 (g2 e0 (aG h2))
   ·have hjj:j'=j:=by
     by_cases hij:j'=j
     ·exact hij
     ·have h5:=other_key F h2 g2 hij
      rw[g3,h3] at h5;exact absurd rfl h5
    subst hjj;have hee:e0'=e0:=by rw[h2] at g2;exact(dG g2).symm
    subst hee;have VW:(Instr.mapUpdate t (.map b) key v').run P W= .ok () (setBlock W b (.map (es.modify j' λ e=>{e with key:=key,val:=v'}) clock)):=by
     simp[Instr.mapUpdate,run_underlying ht,MapKept.run_getObj_map EI,K.check W false o9,g1,hj,h3,K.stays W o9,MapKept.run_setObj_map _ EI,Result.andThen,setBlock]
    rw[JD] at VW;injection VW with _ hw
    rw[<-hW,Q0] at hw;subst hw;have hf:(es.modify j' λ e=>{e with key:=key}).findIdx? (λ e=>((e.born:Int)==(e0'.born:Int)))=some j':=by
     refine U4 (e0:={e0' with key:=key}) ?_ rfl (λ i x hx GA=>?_)
     ·rw[kV,modify_eq_set _ _ _ _ h2,jQ]
      simp[MF]
     ·rw[kV,modify_eq_set _ _ _ _ h2,jQ] at hx
      split at hx
      ·next hij=>exact hij.symm
      ·have KL:=aG hx
       have hem:e0'∈es.toList:=aG h2;obtain rfl:=born_inj CU.2.1 KL hem GA;by_cases hij:i=j'
       ·exact hij
       ·exact absurd rfl (other_key F h2 hx hij)
    have PG:(es.modify j' λ e=>{e with key:=key}).modify j' (λ e=>{e with val:=v'})=es.modify j' λ e=>{e with key:=key,val:=v'}:=by
     apply kE
     ·simp
     ·intro i h1 h2
      simp only[jA];split <;> simp_all
    simp[Instr.entryStore,MapKept.run_getObj_map j5,asInt,asIntOf,hf,PG,MapKept.run_setObj_map _ j5,Result.andThen];simp[setBlock]
  ·rw[hvz]
   simp[Instr.mapEntry,run_underlying ht,MapKept.run_getObj_map hb,K.check w false o9,h1,hj,h3,K.stays w o9,MapKept.run_setObj_map _ hb,Result.andThen,setBlock,goInt]
end
end Go.Proofs.Y.S
namespace Go.Proofs.Y.S.X
open Go.RowKit Go.Proofs.Tryz
def Inn (n:Nat)(R:List (Int × Int × Int)):Prop:=∀e∈R,ea e<n/\eb e<n/\e.2.1=(ea e:Int)/\e.2.2=(eb e:Int)
def cnw (R:List (Int × Int × Int))(S:List Nat):Nat->Nat->Prop:=cn ea eb (λ e=>e∈R/\ea e∉S/\eb e∉S)
section
variable {R R':List (Int × Int × Int)} {S S':List Nat} {x y a b n:Nat}
theorem M6 (h:cnw R S x y)(hx:x∈S):x=y:=by
 have:=Ag.least (P:=λ u v=>u=v\/(u∉S/\v∉S)) h (λ x=>.inl rfl) ?_ ?_ ?_
 ·rcases this with h|⟨h,_⟩
  ·exact h
  ·exact absurd hx h
 ·rintro x y (h|⟨h,k⟩)
  ·exact .inl h.symm
  ·exact .inr ⟨k,h⟩
 ·rintro x y z (rfl|⟨h,k⟩) h2
  ·exact h2
  ·rcases h2 with rfl|⟨h3,h4⟩
   ·exact .inr ⟨h,k⟩
   ·exact .inr ⟨h,h4⟩
 ·rintro x y ⟨e,⟨_,h1,h2⟩,rfl,rfl⟩
  exact .inr ⟨h1,h2⟩
theorem Li (h:cnw R S x y):cnw R S y x:=Ac h
theorem znh (x:Nat):cnw R S x x:=Bc x
theorem zh6 (hR:∀e,e∈R↔e∈R')(hS:∀z,z∈S↔z∈S'):cnw R S x y↔cnw R' S' x y:=
 ⟨λ h=>Bi h λ e ⟨h1,h2,h3⟩=>⟨(hR e).1 h1,λ k=>h2 ((hS _).2 k),λ k=>h3 ((hS _).2 k)⟩,λ h=>Bi h λ e ⟨h1,h2,h3⟩=>⟨(hR e).2 h1,λ k=>h2 ((hS _).1 k),λ k=>h3 ((hS _).1 k)⟩⟩
def Mt (R:List (Int × Int × Int))(n a b:Nat):Prop:=∃x y,x<n/\y<n/\cnw R [a] x y/\cnw R [b] x y/\¬cnw R [a,b] x y
def Eo (R:List (Int × Int × Int))(a b x y:Nat):Prop:=¬(x=a\/x=b\/y=a\/y=b)/\cnw R [a] x y/\cnw R [b] x y/\¬cnw R [a,b] x y
theorem Eo.swap (h:Eo R a b x y):Eo R a b y x:=
 ⟨λ k=>h.1 (by omega),Li h.2.1,Li h.2.2.1,λ k=>h.2.2.2 (Li k)⟩
theorem Sm:Mt R n a b↔∃x y,y<x/\x<n/\Eo R a b x y:=by
 constructor
 ·rintro⟨x,y,hx,hy,h1,h2,h3⟩
  have l9:x≠y:=λ e=>h3 (e▸znh x)
  have hd:Eo R a b x y:=by
   refine⟨?_,h1,h2,h3⟩;rintro(rfl|rfl|rfl|rfl)
   ·exact l9 (M6 h1 (by simp))
   ·exact l9 (M6 h2 (by simp))
   ·exact l9 (M6 (Li h1) (by simp)).symm
   ·exact l9 (M6 (Li h2) (by simp)).symm
  rcases Nat.lt_or_gt_of_ne l9 with h|h
  ·exact⟨y,x,h,hy,hd.swap⟩
  ·exact⟨x,y,h,hx,hd⟩
 ·rintro⟨x,y,h,hx,_,h1,h2,h3⟩
  exact⟨x,y,hx,by omega,h1,h2,h3⟩
structure Lw (n:Nat) (R:List (Int × Int × Int)) (S:List Nat) (l:List Nat):Prop where
 len:l.length=n
 iff:∀u v,u<n->v<n->(l.getD u 0=l.getD v 0↔cnw R S u v)
def kp (inn:Nat->Bool)(e:Int × Int × Int):Bool:=inn (ea e)&&inn (eb e)
theorem Pn (L:List Nat)(ds:List (Int × Int × Int))(d:Int × Int × Int):joins L (ds++[d])=joinL (joins L ds) (ea d) (eb d):=by
 induction ds generalizing L with
 |nil=>rfl
 |cons c ds ih=>exact ih _
theorem zm5 (n u v:Nat):Lk n (List.range n) u v↔u=v:=by
 constructor
 ·rintro(h|⟨h1,h2,h3⟩)
  ·exact h
  ·simpa[h1,h2] using h3
 ·exact .inl
theorem Uj (p9:Inn n R)(p:Int × Int × Int->Bool):∀d∈R.filter p,ea d<n/\eb d<n:=λ d hd=>by
 have:=p9 d (aO.1 hd).1;exact⟨this.1,this.2.1⟩
theorem Mq (p9:Inn n R)(inn:Nat->Bool):Good n (joins (List.range n) (R.filter (kp inn))):=Ew _ _ (Dg n) (Uj p9 _)
theorem Z9 (p9:Inn n R)(inn:Nat->Bool)(hS:∀z,inn z=true↔z∉S):Lw n R S (joins (List.range n) (R.filter (kp inn))):=by
 have g:=Mq p9 inn;refine⟨g.len,λ u v hu hv=>?_⟩;rw[<-Lk.iff hu hv,Lh _ _ (Dg n) (Uj p9 _)];constructor
 ·intro h
  refine Ag.lift h ?_;rintro x y (h|⟨e,he,rfl,rfl⟩)
  ·rw[(zm5 n x y).1 h];exact Ag.refl y
  ·obtain⟨h1,h2⟩:=aO.1 he
   simp only[kp,cZ,hS] at h2;exact Ag.base ⟨e,⟨h1,h2⟩,rfl,rfl⟩
 ·intro h
  refine Ag.lift h ?_;rintro x y ⟨e,⟨h1,h2,h3⟩,rfl,rfl⟩;exact Ag.base (.inr ⟨e,aO.2 ⟨h1,by simp only[kp,cZ,hS];exact⟨h2,h3⟩⟩,rfl,rfl⟩)
end
def Cf (P:Nat->Nat->Bool)(a k:Nat):List (Nat × Nat):=((List.range k).filter λ b=>decide (a<b)&&P a b).map λ b=>(a,b)
def Bj (P:Nat->Nat->Bool)(n a:Nat):List (Nat × Nat):=(List.range a).flatMap λ a=>Cf P a n
section
variable (P:Nat->Nat->Bool) {a b n:Nat}
theorem U3:Cf P a (a+1)=[]:=by
 unfold Cf;rw[jE,iT];intro b hb;have:=bF.1 hb;simp;intro h;omega
theorem jv (BJ:a<b)(h:P a b=true):Cf P a (b+1)=Cf P a b++[(a,b)]:=by
 simp[Cf,List.range_succ,List.filter_append,BJ,h]
theorem zce (h:P a b=false):Cf P a (b+1)=Cf P a b:=by
 simp[Cf,List.range_succ,List.filter_append,h]
theorem Sw:(Cf P a b).length<=b:=by
 simp only[Cf,aS];exact aD (aW _ _) (by simp)
theorem Qg:Bj P n (a+1)=Bj P n a++Cf P a n:=by simp[Bj,List.range_succ]
theorem yu:(Bj P n a).length<=a*n:=by
 induction a with
 |zero=>simp[Bj]
 |succ a ih=>
  rw[Qg,aM,Nat.succ_mul];have:=Sw P (a:=a) (b:=n);omega
end
def Il (x:Nat × Nat):List Value:=[.int .i64 (x.1:Int),.int .i64 (x.2:Int)]
def rowP (L:List (Nat × Nat)):List Value:=L.flatMap Il
theorem Ez (x:Nat × Nat)(L:List (Nat × Nat)):rowP (x::L)=Il x++rowP L:=rfl
theorem rowP_append (L M:List (Nat × Nat)):rowP (L++M)=rowP L++rowP M:=by simp[rowP]
theorem Bf:∀L:List (Nat × Nat),(rowP L).length=L.length*2
 |[]=>rfl
 |x::L=>by rw[Ez,aM,Bf L];simp[Il];omega
theorem Ik:∀(L:List (Nat × Nat)),∀u∈rowP L,u.oneCell'=true
 |[],u,h=>by simp[rowP] at h
 |x::L,u,h=>by
  rw[Ez,aK] at h;rcases h with h|h
  ·simp[Il] at h
   rcases h with rfl|rfl <;> rfl
  ·exact Ik L u h
theorem Oe:∀(L:List (Nat × Nat)) (i:Nat) (x:Nat × Nat),L[i]? =some x->(rowP L)[i*2]? =some (.int .i64 (x.1:Int))/\(rowP L)[i*2+1]? =some (.int .i64 (x.2:Int))
 |[],i,x,h=>by simp at h
 |y::L,0,x,h=>by
  simp at h;subst h;simp[Ez,Il]
 |y::L,i+1,x,h=>by
  simp at h;have:=Oe L i x h;rw[Ez];have e1:(i+1)*2=(i*2)+2:=by omega
  rw[e1]
  simpa[Il] using this
def Aq (w:World)(B:Nat)(v:Value)(L:List (Nat × Nat)):Prop:=w.ownsRow B 180 2 v L.length (rowP L)
theorem Aq.below {w w':World}{B:Nat}{v:Value}{L:List (Nat × Nat)}(h:Aq w B v L)(hb:Below w w w'):Aq w' B v L:=dI h (Ai hb) (iI _)
theorem Aq.shape {w:World}{B:Nat}{v:Value}{L:List (Nat × Nat)}(h:Aq w B v L):∃a cap,v= .slice a L.length cap/\(0<L.length->∃g,a=some ⟨g,0,none⟩/\∀j x,L[j]? =some x->w.cell? ⟨g,j*2,none⟩=some (.int .i64 (x.1:Int))/\w.cell? (g,j*2+1)=some (.int .i64 (x.2:Int))):=by
 have h0:=h;unfold Aq at h0;rcases h.2 with⟨rfl,hz⟩|⟨g,cap,cur,rfl,hb,hg,_⟩
 ·exact⟨none,0,by rw[hz],λ k=>by omega⟩
 ·refine⟨_,cap,rfl,λ _=>⟨g,rfl,λ j x hx=>?_⟩⟩
  obtain⟨r0,r1⟩:=Oe L j x hx;have hj:=(aC.1 hx).1;have hl:=Bf L;refine⟨?_,?_⟩
  ·rw[h0.cellAt (j*2) (by omega)]
   exact r0
  ·rw[h0.cellAt (j*2+1) (by omega)]
   exact r1
def zP:Value:=.agg #[(0:Int),(0:Int)]
theorem zop:∃i,prog.info? 180=some i/\i.size=2/\i.bytes=16/\i.zero=some zP:=
 ⟨(prog.info? 180).get (by kernel_rfl),by kernel_rfl,by kernel_rfl,by kernel_rfl,by kernel_rfl⟩
theorem Sy:zP.cells=#[.int .i64 0,.int .i64 0]:=by kernel_rfl
theorem pair_cells (W:World)(x y:Nat)(j:Nat)(u:Value)(h:(rowP [(x,y)])[j]? =some u):(W.alloc (.cells #[x,y] 180)).cell? ((⟨W.heap.size,0,none⟩:Addr).add j)=some u:=by
 rw[G.Bh];have hh:=aQ W (.cells #[x,y] 180);simp only[World.cell?,hh]
 simpa[rowP,Il] using h
end Go.Proofs.Y.S.X
namespace Go.Proofs.Y.S
open Go Go.ChangeMaps Go.MapKept Go.WideShapes
open Go.RowKit Go.WideMaps Go.Maps F
structure Mat (w:World) (g:Nat) (b:Nat->Nat) (N:Nat) (M:Nat->Nat->Int):Prop where
 o:∀i,i<N->w.cell? ⟨g,i,none⟩=some (.slice (b i:Nat) N N)
 row:∀i j,i<N->j<N->w.cell? ⟨b i,j,none⟩=(M i j:Int)/\w.frozen? (b i,j)=false
 inj:∀i j,i<N->j<N->b i=b j->i=j
 off:∀i,i<N->b i≠g
def Sn (w:World)(sb N:Nat)(sn:Nat->Bool):Prop:=∀j,j<N->w.cell? ⟨sb,j,none⟩=(sn j)/\w.frozen? (sb,j)=false
structure Kq (b:Nat->Nat) (N sb:Nat) (w w':World):Prop where
 os:w'.os=w.os
 tape:w'.tape=w.tape
 output:w'.output=w.output
 size:w'.heap.size=w.heap.size
 block:∀k,(∀i,i<N->k≠b i)->k≠sb->w'.heap[k]? =w.heap[k]?
section
variable {w w' w'':World} {g:Nat} {b:Nat->Nat} {N sb:Nat} {M:Nat->Nat->Int} {sn:Nat->Bool}
theorem Kq.refl (b:Nat->Nat)(N sb:Nat)(w:World):Kq b N sb w w:=⟨rfl,rfl,rfl,rfl,λ _ _ _=>rfl⟩
theorem Kq.trans (h:Kq b N sb w w')(k:Kq b N sb w' w''):Kq b N sb w w'':=⟨k.os.trans h.os,k.tape.trans h.tape,k.output.trans h.output,k.size.trans h.size,λ i h1 h2=>(k.block i h1 h2).trans (h.block i h1 h2)⟩
theorem Kq.set (h:Kq b N sb w w'){i:Nat}(hi:i<N)(j:Nat)(v:Value):Kq b N sb w (w'.setCell (b i,j) v):=
 h.trans ⟨rfl,rfl,rfl,by simp,λ k h1 _=>aV _ _ _ _ (h1 i hi)⟩
theorem Kq.zu8 (h:Kq b N sb w w')(j:Nat)(v:Value):Kq b N sb w (w'.setCell (sb,j) v):=
 h.trans ⟨rfl,rfl,rfl,by simp,λ k _ h2=>aV _ _ _ _ h2⟩
theorem Mat.set (h:Mat w g b N M){x y:Nat}(hx:x<N)(hy:y<N)(v:Int):Mat (w.setCell (b x,y) v) g b N (λ i j=>if i=x/\j=y then v else M i j):=by
 refine⟨λ i hi=>?_,λ i j hi hj=>⟨?_,?_⟩,h.inj,h.off⟩
 ·rw[World.cell?_setCell_far _ _ _ _ (by show b x≠g;exact h.off x hx)]
  exact h.o i hi
 ·by_cases e:i=x/\j=y
  ·obtain⟨rfl,rfl⟩:=e
   rw[aP ⟨rfl,rfl⟩];exact fV _ _ _ (h.row i j hi hj).1
  ·rw[aL e,eD]
   ·exact(h.row i j hi hj).1
   ·intro k
    injection k with k1 k2
    exact e ⟨(h.inj x i hx hi k1).symm,k2.symm⟩
 ·rw[eY];exact(h.row i j hi hj).2
theorem Mat.U8 (h:Mat w g b N M){k o:Nat}{v:Value}(hk:∀i,i<N->k≠b i)(hg:k≠g):Mat (w.setCell (k,o) v) g b N M:=by
 refine⟨λ i hi=>?_,λ i j hi hj=>⟨?_,?_⟩,h.inj,h.off⟩
 ·rw[World.cell?_setCell_far _ _ _ _ (by show k≠g;exact hg)];exact h.o i hi
 ·rw[World.cell?_setCell_far _ _ _ _ (by show k≠b i;exact hk i hi)];exact(h.row i j hi hj).1
 ·rw[eY];exact(h.row i j hi hj).2
theorem Sn.set (h:Sn w sb N sn){x:Nat}(hx:x<N)(v:Bool):Sn (w.setCell (sb,x) (.bool v)) sb N (λ j=>if j=x then v else sn j):=λ j hj=>by
 refine⟨?_,by rw[eY];exact(h j hj).2⟩;by_cases e:j=x
 ·subst e
  show _=some (Value.bool (if j=j then v else sn j));rw[aP rfl];exact fV _ _ _ (h j hj).1
 ·show _=some (Value.bool (if j=x then v else sn j))
  rw[aL e,eD]
  ·exact(h j hj).1
  ·intro k
   injection k with _ k2
   exact e k2.symm
theorem Sn.U8 (h:Sn w sb N sn){k o:Nat}{v:Value}(hk:k≠sb):Sn (w.setCell (k,o) v) sb N sn:=λ j hj=>by
 refine⟨?_,by rw[eY];exact(h j hj).2⟩;rw[World.cell?_setCell_far _ _ _ _ (by show k≠sb;exact hk)];exact(h j hj).1
end
def uns (sn:Nat->Bool):Nat->Nat
 |0=>0
 |n+1=>uns sn n+(if sn n then 0 else 1)
theorem jd {sn sn':Nat->Bool}(h:∀j,sn j=true->sn' j=true):∀n,uns sn' n<=uns sn n
 |0=>aF _
 |n+1=>by
  have ih:=jd h n;have:=h n;simp only[uns];cases h1:sn n <;> cases h2:sn' n <;> simp <;> first|omega|(rw[h1,h2] at this;simp at this)
theorem ku {sn sn':Nat->Bool}(h:∀j,sn j=true->sn' j=true){x:Nat}(h1:sn x=false)(h2:sn' x=true):∀n,x<n->uns sn' n<uns sn n
 |0,hx=>by omega
 |n+1,hx=>by
  by_cases e:x=n
  ·subst e
   have:=jd h x;simp only[uns,h1,h2];simp;omega
  ·have ih:=ku h h1 h2 n (by omega)
   have:=h n;simp only[uns];cases h3:sn n <;> cases h4:sn' n <;> simp <;> first|omega|(rw[h3,h4] at this;simp at this)
def Gone (M:Nat->Nat->Int):List Nat->Prop
 |x::y::r=>1<=M x y/\Gone M (y::r)
 |_=>True
def Lj (w:World)(g:Nat)(b:Nat->Nat)(N sb x tg:Nat)(M:Nat->Nat->Int)(sn:Nat->Bool)(e:Ending)(w':World):Prop:=
 ∃M' sn',Mat w' g b N M'/\Sn w' sb N sn'/\Kq b N sb w w'/\(∀j,sn j=true->sn' j=true)/\
  ((e=true/\∃vs:List Nat,vs.head? =some x/\vs.getLast? =some tg/\vs.Nodup/\(∀v∈vs,v<N/\sn v=false)/\Gone M vs/\M'=tkP M vs)\/
   (e=false/\M'=M/\sn' x=true/\∀z,z<N->sn' z=true->sn z=false->z≠tg/\∀y,y<N->0<M z y->sn' y=true))
end Go.Proofs.Y.S
namespace Go.Proofs.Y.S
open Go Go.ChangeMaps Go.MapKept Go.WideShapes Go.Proofs.Tryz
open Go.RowKit Go.WideMaps Go.Maps F
structure Fq (w wq:World) (g:Nat) (b:Nat->Nat) (N sb x tg:Nat) (M:Nat->Nat->Int) (sn sn':Nat->Bool) (j:Nat):Prop where
 mat:Mat wq g b N M
 seen:Sn wq sb N sn'
 kept:Kq b N sb w wq
 mono:∀z,sn z=true->sn' z=true
 here:sn' x=true
 tried:∀y,y<j->0<M x y->sn' y=true
 done:∀z,z<N->sn' z=true->sn z=false->z≠x->z≠tg/\∀y,y<N->0<M z y->sn' y=true
def dh (g:Nat)(b:Nat->Nat)(N sb tg c:Nat)(u:Nat):Prop:=
 ∀(x:Nat) (M:Nat->Nat->Int) (sn:Nat->Bool) (w:World),uns sn N<u->Mat w g b N M->Sn w sb N sn->x<N->sn x=false->(∀i j,i<N->j<N->0<=M i j/\M i j<=1000000)->
  Calls prog 233 #[.slice g N c,x,tg,.slice sb N N] w (Lj w g b N sb x tg M sn)
section
variable {w wq w':World} {g:Nat} {b:Nat->Nat} {N sb x tg j:Nat} {M:Nat->Nat->Int} {sn sn':Nat->Bool}
theorem Fq.skip (h:Fq w wq g b N sb x tg M sn sn' j)(hs:¬0<M x j\/sn' j=true):Fq w wq g b N sb x tg M sn sn' (j+1):=
 ⟨h.mat,h.seen,h.kept,h.mono,h.here,λ y hy hm=>by
   by_cases e:y=j
   ·subst e
    rcases hs with k|k
    ·exact absurd hm k
    ·exact k
   ·exact h.tried y (by omega) hm,h.done⟩
theorem Fq.fail (h:Fq w wq g b N sb x tg M sn sn' j){sn2:Nat->Bool}(hm:Mat w' g b N M)(hs:Sn w' sb N sn2)(hk:Kq b N sb wq w')(mono:∀z,sn' z=true->sn2 z=true)(hj:sn2 j=true)(hd:∀z,z<N->sn2 z=true->sn' z=false->z≠tg/\∀y,y<N->0<M z y->sn2 y=true):Fq w w' g b N sb x tg M sn sn2 (j+1):=by
 refine⟨hm,hs,h.kept.trans hk,λ z hz=>mono z (h.mono z hz),mono x h.here,λ y hy hmy=>?_,λ z hz h1 h2 h3=>?_⟩
 ·by_cases e:y=j
  ·subst e;exact hj
  ·exact mono y (h.tried y (by omega) hmy)
 ·cases hq:sn' z with
  |true=>
   obtain⟨k1,k2⟩:=h.done z hz hq h2 h3;exact⟨k1,λ y hy hmy=>mono y (k2 y hy hmy)⟩
  |false=>exact hd z hz h1 hq
theorem Fq.none (h:Fq w wq g b N sb x tg M sn sn' N)(l9:x≠tg):Lj w g b N sb x tg M sn (.returned (.bool false)) wq:=
 ⟨M,sn',h.mat,h.seen,h.kept,h.mono,.inr ⟨rfl,rfl,h.here,λ z hz h1 h2=>by
   by_cases e:z=x
   ·subst e;exact⟨l9,λ y hy hmy=>h.tried y hy hmy⟩
   ·exact h.done z hz h1 h2 e⟩⟩
end
theorem ziv (g:Nat)(b:Nat->Nat)(N sb tg c u:Nat)(hN:N<=1000)(htg:tg<N)(hsb:∀i,i<N->sb≠b i)(hsg:sb≠g)(IH:dh g b N sb tg c u):dh g b N sb tg c (u+1):=by
 intro x M sn w hu CS OJ hx VO hM;have HIH:=kd IH;have HM:=kd hM;have HB:=kd (And.intro hsb hsg);by_cases hxt:x=tg
 ·subst hxt
  have HP:Hid (Lj w g b N sb x x M sn (.returned (.bool true)) w):=⟨M,sn,CS,OJ,Kq.refl _ _ _ _,λ _ h=>h,.inl ⟨rfl,[x],rfl,rfl,by simp,λ v hv=>by rw[aJ.1 hv];exact⟨hx,VO⟩,trivial,rfl⟩⟩;clear CS OJ hM IH hsb;go_enter func233,ntmps233;go_wp2_with fail;go_ret;exact HP.o
 ·have hxt':((x:Int)==(tg:Int))=false:=aH.2 (by omega)
  have s1:=(OJ x hx).1;have s2:=(OJ x hx).2;obtain⟨W1,AJ⟩:∃W1,W1=w.setCell (sb,x) (.bool true):=⟨_,rfl⟩;have YB:Hid (Fq w W1 g b N sb x tg M sn (λ j=>if j=x then true else sn j) 0):=by
   rw[AJ];refine⟨CS.U8 hsb hsg,OJ.set hx true,(Kq.refl _ _ _ _).zu8 x _,λ z hz=>?_,by simp,λ y hy=>by omega,λ z hz h1 h2 h3=>?_⟩
   ·show(if z=x then true else sn z)=true
    split
    ·rfl
    ·exact hz
   ·have h1:(if z=x then true else sn z)=true:=h1
    rw[aL h3,h2] at h1;cases h1
  have BQ:=kd AJ.symm;have HU:=kd (And.intro hu VO);have HXT:=kd hxt;clear AJ CS OJ hM IH hsb hu;go_enter func233,ntmps233;go_wp2_with fail;rw[BQ.o];clear s1 s2;go_loopw [18] (λ s18 wq=>∃(j:Nat) (sn':Nat->Bool),j<=N/\s18=j/\Fq w wq g b N sb x tg M sn sn' j) (λ s18 _=>N-(intOf s18).toNat)
  case atStart=>exact⟨0,_,aN _,rfl,YB.o⟩
  case round=>
   clear YB BQ;obtain⟨j,sn',hj,rfl,ht⟩:=hrel;have HT:=kd ht;clear ht;by_cases FP:j<N
   ·have q1:=HT.o.mat.o x hx
    have q2:=(HT.o.mat.row x j hx FP).1;have q3:=(HT.o.seen j FP).1;by_cases hpos:0<M x j
    ·cases XB:sn' j with
     |true=>
      as_aux_lemma=>
      have HN:Hid (Fq w wr g b N sb x tg M sn sn' (j+1)):=HT.o.skip (.inr XB);rw[XB] at q3;clear XB;go_wp2_with fail;go_roundw;case rel=>exact⟨j+1,sn',by omega,by go_num,HN.o⟩
      case measure=>simp[intOf];omega
     |false=>
      rw[XB] at q3;have QU:uns sn' N<u:=by
       have h1:=ku HT.o.mono HU.o.2 HT.o.here N hx;have:=HU.o.1;omega
      have HC:Hid _:=HIH.o j M sn' wr QU HT.o.mat HT.o.seen FP XB HM.o;have HSJ:=kd XB;clear XB QU;go_wp2_with fail;refine aA HC.o ?_;rintro e w2 ⟨M',sn2,DF,DJ,CK,LK,h2⟩;clear HC;rcases h2 with⟨rfl,vs,hh,hl,FM,hv,hg,hM'⟩|⟨rfl,hM',LM,MC⟩
      ·as_aux_lemma=>
       have hxv:x∉vs:=λ k=>by
        have h1:=(hv x k).2;rw[HT.o.here] at h1;cases h1
       have hjx:j≠x:=λ e=>by
        have h1:=HT.o.here;rw[<-e,HSJ.o] at h1;cases h1
       obtain⟨r,hr⟩:∃r,vs=j::r:=by
        cases vs with
        |nil=>cases hh
        |cons a r=>simp at hh;exact⟨r,by rw[hh]⟩
       have hMx:M' x j=M x j/\M' j x=M j x:=by rw[hM'];exact V3 vs x j hxv
       have c1:=DF.o x hx;have c2:=(DF.row x j hx FP).1;have c3:=(DF.row x j hx FP).2;rw[hMx.1] at c2;have EJ:=DF.set hx FP (M x j-1);have d1:=EJ.o j FP;have d2:=(EJ.row j x FP hx).1;have d3:=(EJ.row j x FP hx).2;rw[aL (λ k=>hjx k.1),hMx.2] at d2;have hm4:=EJ.set FP hx (M j x+1);have hMxj:=HM.o x j hx FP;have hMjx:=HM.o j x FP hx;have AR:IntKind.i64.wrap (M x j-1)=M x j-1:=by rw[bO];omega
       have BL:IntKind.i64.wrap (M j x+1)=M j x+1:=by rw[bO];omega
       have HP:Hid (Lj w g b N sb x tg M sn (.returned (.bool true)) ((w2.setCell (b x,j) (M x j-1:Int)).setCell (b j,x) (M j x+1:Int))):=by
        refine⟨_,sn2,hm4,(DJ.U8 (λ e=>HB.o.1 x hx e.symm)).U8 (λ e=>HB.o.1 j FP e.symm),((HT.o.kept.trans CK).set hx j _).set FP x _,λ z hz=>LK z (HT.o.mono z hz),.inl ⟨rfl,x::vs,rfl,?_,?_,λ v hv'=>?_,?_,?_⟩⟩
        ·rw[hr,iP,<-hr];exact hl
        ·exact gK.2 ⟨hxv,FM⟩
        ·rcases cO.1 hv' with rfl|hv'
         ·exact⟨hx,HU.o.2⟩
         ·refine⟨(hv v hv').1,?_⟩
          cases hq:sn v with
          |false=>rfl
          |true=>
           have h1:=HT.o.mono v hq;rw[(hv v hv').2] at h1;cases h1
        ·rw[hr]
         exact⟨by omega,hr▸hg⟩
        ·rw[hr]
         show _=tkM (tkP M (j::r)) x j;rw[<-hr,<-hM']
         funext i k
         unfold tkM D8;by_cases e1:i=j/\k=x
         ·rw[aP e1,aP e1,aL (λ k'=>hjx (e1.1.symm.trans k'.1)),e1.1,e1.2,hMx.2]
         ·rw[aL e1,aL e1]
          by_cases e2:i=x/\k=j
          ·rw[aP e2,aP e2,e2.1,e2.2,hMx.1];omega
          ·rw[aL e2,aL e2]
       clear DF DJ CK LK hh hl FM hv hg hM' hxv hr hMx EJ hm4 hMxj hMjx HT HM HIH q1 q2 q3;go_wp2_with fail;go_ret;exact HP.o
      ·as_aux_lemma=>
       subst hM';have HN:Hid (Fq w w2 g b N sb x tg M' sn sn2 (j+1)):=HT.o.fail DF DJ CK LK LM MC;clear DF DJ CK LK LM MC HT q1 q2 q3;go_wp2_with fail;go_roundw;case rel=>exact⟨j+1,sn2,by omega,by go_num,HN.o⟩
       case measure=>simp[intOf];omega
    ·as_aux_lemma=>
     have HN:Hid (Fq w wr g b N sb x tg M sn sn' (j+1)):=HT.o.skip (.inl hpos);go_wp2_with fail;go_roundw;case rel=>exact⟨j+1,sn',by omega,by go_num,HN.o⟩
     case measure=>simp[intOf];omega
   ·as_aux_lemma=>
    have CE:N=j:=by omega
    subst CE;have HP:Hid (Lj w g b N sb x tg M sn (.returned (.bool false)) wr):=HT.o.none HXT.o;clear HT;go_wp2_with fail;go_ret;exact HP.o
theorem mg (g:Nat)(b:Nat->Nat)(N sb tg c:Nat)(hN:N<=1000)(htg:tg<N)(hsb:∀i,i<N->sb≠b i)(hsg:sb≠g):∀u,dh g b N sb tg c u
 |0=>λ _ _ _ _ h=>absurd h (by omega)
 |u+1=>ziv g b N sb tg c u hN htg hsb hsg (mg g b N sb tg c hN htg hsb hsg u)
end Go.Proofs.Y.S
namespace Go.Proofs.Y.S
open Go Go.ChangeMaps Go.MapKept Go.WideShapes Go.Proofs.Tryz
open Go.RowKit Go.WideMaps Go.Maps F
theorem je {M:Nat->Nat->Int}{x y:Nat}(h:x≠y)(i j:Nat):tkM M x y i j=if i=x/\j=y then M i j-1 else if i=y/\j=x then M i j+1 else M i j:=by
 unfold tkM D8;by_cases e1:i=y/\j=x
 ·rw[aP e1,aL (λ k=>h (k.1.symm.trans e1.1)),aL (λ k=>h (k.1.symm.trans e1.1)),aP e1]
 ·rw[aL e1]
  by_cases e2:i=x/\j=y
  ·rw[aP e2,aP e2];rfl
  ·rw[aL e2,aL e2,aL e1]
theorem zqx {M:Nat->Nat->Int}{x y:Nat}(h:x≠y)(i j:Nat):tkM M x y i j+tkM M x y j i=M i j+M j i:=by
 rw[je h,je h];by_cases e1:i=x/\j=y
 ·rw[aP e1,aL (λ k:j=x/\i=y=>h (e1.1.symm.trans k.2)),aP (show j=y/\i=x from⟨e1.2,e1.1⟩)];omega
 ·by_cases e2:i=y/\j=x
  ·rw[aL e1,aP e2,aP ⟨e2.2,e2.1⟩];omega
  ·rw[aL e1,aL e2,aL (λ k=>e2 ⟨k.2,k.1⟩),aL (λ k=>e1 ⟨k.2,k.1⟩)]
theorem zcr {M:Nat->Nat->Int}:∀(vs:List Nat),vs.Nodup->∀i j,tkP M vs i j+tkP M vs j i=M i j+M j i
 |[],_,_,_=>rfl
 |[_],_,_,_=>rfl
 |x::y::r,h,i,j=>by
  have hn:=gK.1 h;show tkM (tkP M (y::r)) x y i j+tkM (tkP M (y::r)) x y j i=_;rw[zqx (λ e=>hn.1 (by simp[e])),zcr (y::r) hn.2]
theorem zci {M:Nat->Nat->Int}(h0:∀i j,0<=M i j):∀(vs:List Nat),vs.Nodup->Gone M vs->∀i j,0<=tkP M vs i j
 |[],_,_,i,j=>h0 i j
 |[_],_,_,i,j=>h0 i j
 |x::y::r,h,hg,i,j=>by
  have hn:=gK.1 h;have ih:=zci h0 (y::r) hn.2 hg.2;have hx:=(V3 (M:=M) (y::r) x y hn.1).1;have h1:=hg.1;show 0<=tkM (tkP M (y::r)) x y i j;rw[je (λ e=>hn.1 (by simp[e]))];have:=ih i j;split
  ·next e=>rw[e.1,e.2,hx];omega
  ·split <;> omega
structure Ff (M0 M:Nat->Nat->Int) (N a tg:Nat) (k:Int):Prop where
 pos:∀i j,0<=M i j
 sum:∀i j,M i j+M j i=M0 i j+M0 j i
 cut:∀S:Int->Bool,S (a:Int)=true->S (tg:Int)=false->Ea M N S=Ea M0 N S-k
theorem Uh {M:Nat->Nat->Int}(h:∀i j,0<=M i j)(S:Int->Bool)(i:Nat):∀n,0<=Ip M S i n
 |0=>jJ _
 |n+1=>by
  have:=Uh h S i n;have:=h i n;simp only[Ip];split <;> omega
theorem U6 {M:Nat->Nat->Int}(h:∀i j,0<=M i j)(N:Nat)(S:Int->Bool):∀n,0<=Kz M N S n
 |0=>jJ _
 |n+1=>by
  have:=U6 h N S n;have:=Uh h S n N;simp only[Kz];omega
theorem row_zero {M:Nat->Nat->Int}{S:Int->Bool}{i:Nat}:∀n:Nat,(∀j:Nat,j<n->S (i:Int)=true->S (j:Int)=false->M i j=0)->Ip M S i n=0
 |0,_=>rfl
 |n+1,h=>by
  have ih:=row_zero n (λ j hj=>h j (by omega));have h1:=h n (by omega);simp only[Ip,ih];cases h2:S (i:Int) <;> cases h3:S (n:Int) <;> simp
  exact h1 h2 h3
theorem oq {M:Nat->Nat->Int}{N:Nat}{S:Int->Bool}:∀n:Nat,(∀i j:Nat,i<n->j<N->S (i:Int)=true->S (j:Int)=false->M i j=0)->Kz M N S n=0
 |0,_=>rfl
 |n+1,h=>by
  have ih:=oq n (λ i j hi=>h i j (by omega));have:=row_zero (M:=M) (S:=S) (i:=n) N (λ j hj=>h n j (by omega) hj);simp only[Kz,ih,this];rfl
theorem Ff.start {M0:Nat->Nat->Int}{N a tg:Nat}(h:∀i j,0<=M0 i j):Ff M0 M0 N a tg 0:=⟨h,λ _ _=>rfl,λ _ _ _=>by omega⟩
theorem Ff.way {M0 M:Nat->Nat->Int}{N a tg:Nat}{k:Int}(h:Ff M0 M N a tg k){vs:List Nat}(h1:vs.head? =some a)(h2:vs.getLast? =some tg)(h3:∀v∈vs,v<N)(h4:vs.Nodup)(h5:Gone M vs):Ff M0 (tkP M vs) N a tg (k+1):=
 ⟨zci h.pos vs h4 h5,λ i j=>by rw[zcr vs h4,h.sum],λ S ha hb=>by
   rw[zbt S vs a tg h1 h2 h3,h.cut S ha hb];unfold chi;rw[aP ha,aL (by rw[hb];simp)];omega⟩
theorem Ff.le {M0 M:Nat->Nat->Int}{N a tg:Nat}{k:Int}(h:Ff M0 M N a tg k){S:Int->Bool}(h1:S (a:Int)=true)(h2:S (tg:Int)=false):k<=Ea M0 N S:=by
 have:=h.cut S h1 h2;have:=U6 h.pos N S N;unfold Ea at*;omega
theorem Ff.done {M0 M:Nat->Nat->Int}{N a tg:Nat}{k most:Int}(h:Ff M0 M N a tg k)(h0:0<=k)(hm:k<=most)(S:Int->Bool)(h1:S (a:Int)=true)(h2:S (tg:Int)=false)(hz:∀i j:Nat,i<N->j<N->S (i:Int)=true->S (j:Int)=false->M i j=0):Val (Ea M0 N) a tg most k:=
 ⟨h0,hm,λ _ k1 k2=>h.le k1 k2,.inr ⟨S,h1,h2,by
   have h3:=h.cut S h1 h2;have h4:=oq (M:=M) (N:=N) (S:=S) N hz;have h5:Ea M N S=0:=h4;rw[h5] at h3;omega⟩⟩
theorem Ff.most {M0 M:Nat->Nat->Int}{N a tg:Nat}{most:Int}(h:Ff M0 M N a tg most)(h0:0<=most):Val (Ea M0 N) a tg most most:=
 ⟨h0,jJ _,λ _ h1 h2=>h.le h1 h2,.inl rfl⟩
structure Ka (b:Nat->Nat) (N:Nat) (w w':World):Prop where
 os:w'.os=w.os
 tape:w'.tape=w.tape
 output:w'.output=w.output
 size:w.heap.size<=w'.heap.size
 block:∀k,k<w.heap.size->(∀i,i<N->k≠b i)->w'.heap[k]? =w.heap[k]?
theorem Ka.refl (b:Nat->Nat)(N:Nat)(w:World):Ka b N w w:=⟨rfl,rfl,rfl,aF _,λ _ _ _=>rfl⟩
theorem Ka.trans {b:Nat->Nat}{N:Nat}{w w' w'':World}(h:Ka b N w w')(k:Ka b N w' w''):Ka b N w w'':=⟨k.os.trans h.os,k.tape.trans h.tape,k.output.trans h.output,aD h.size k.size,λ i h1 h2=>(k.block i (aR h1 h.size) h2).trans (h.block i h1 h2)⟩
theorem Ka.of_below {b:Nat->Nat}{N:Nat}{w w':World}(h:Below w w w'):Ka b N w w':=⟨h.os,h.tape,h.output,h.size,λ k hk _=>h.block k hk⟩
theorem Ka.zv1 {b:Nat->Nat}{N sb:Nat}{w0 w w':World}(h:Ka b N w0 w)(k:Kq b N sb w w')(hs:w0<=sb):Ka b N w0 w':=⟨k.os.trans h.os,k.tape.trans h.tape,k.output.trans h.output,by rw[k.size];exact h.size,λ i h1 h2=>(k.block i h2 (by omega)).trans (h.block i h1 h2)⟩
theorem Ka.old {b:Nat->Nat}{N B:Nat}{w w':World}(h:Ka b N w w')(hB:B<=w)(hb:∀i,i<N->B<=b i):Below B w w':=⟨h.os,h.tape,h.output,h.size,λ k hk=>h.block k (by omega) (λ i hi e=>by have:=hb i hi;omega)⟩
theorem Mat.below {w w':World}{g:Nat}{b:Nat->Nat}{N:Nat}{M:Nat->Nat->Int}(h:Mat w g b N M)(hb:Below w w w'):Mat w' g b N M:=
 ⟨λ i hi=>cell_below (h.o i hi) hb,λ i j hi hj=>⟨cell_below (h.row i j hi hj).1 hb,by
   have hl:=lt_of_cell (h.row i j hi hj).1;have:=(h.row i j hi hj).2;unfold World.frozen? at this ⊢;rw[hb.block _ hl];exact this⟩,h.inj,h.off⟩
theorem Mat.lt {w:World}{g:Nat}{b:Nat->Nat}{N:Nat}{M:Nat->Nat->Int}(h:Mat w g b N M)(hN:0<N):g<w/\∀i,i<N->b i<w.heap.size:=
 ⟨lt_of_cell (h.o 0 hN),λ i hi=>lt_of_cell (h.row i 0 hi hN).1⟩
theorem zp6 (w:World)(N:Nat):Sn (w.alloc (.cells (madeCells #[false] N) 4)) w N (λ _=>false):=λ j hj=>by
 have hh:=aQ w (.cells (madeCells #[false] N) 4);obtain⟨W,hW⟩:∃W,w.alloc (.cells (madeCells #[false] N) 4)=W:=⟨_,rfl⟩;rw[hW] at hh ⊢;have hc:(madeCells #[false] N)[j]? =some (.bool false):=by simp[madeCells,hj,Nat.mod_one]
 exact⟨by simp[World.cell?,hh,hc],by simp[World.frozen?,hh]⟩
theorem ztr:(prog.info? 4).map (λ i=>(i.zero,i.size,i.bytes))=some (some (.bool false),1,1):=by kernel_rfl
theorem ll (g:Nat)(b:Nat->Nat)(N a tg c most:Nat)(M0:Nat->Nat->Int)(w:World)(CS:Mat w g b N M0)(hN:N<=100)(ha:a<N)(htg:tg<N)(hmost:most<=1000)(hM:∀i j,0<=M0 i j/\M0 i j<=1000):
 Calls prog 127 #[.slice g N c,a,tg,most] w λ e w'=>∃k:Nat,e=k/\Val (Ea M0 N) a tg most k/\Ka b N w w':=by
 have HS:Hid (Mat w g b N M0/\Ff M0 M0 N a tg 0/\Ka b N w w):=⟨CS,Ff.start (λ i j=>(hM i j).1),Ka.refl _ _ _⟩;have HM:=kd hM;have HL:Hid (g<w/\∀i,i<N->b i<w.heap.size):=CS.lt (by omega);clear CS hM;go_enter func127,ntmps127;go_wp2_with fail;go_loopw [9] (λ s9 wq=>∃(k:Nat) (M:Nat->Nat->Int),k<=most/\s9=k/\Mat wq g b N M/\Ff M0 M N a tg k/\Ka b N w wq) (λ s9 _=>most-(intOf s9).toNat)
 case atStart=>exact⟨0,M0,aN _,rfl,HS.o.1,HS.o.2.1,HS.o.2.2⟩
 case round=>
  clear HS;obtain⟨k,M,hk,rfl,hm,hf,hka⟩:=hrel;have HR:Hid (Mat wr g b N M/\Ff M0 M N a tg k/\Ka b N w wr):=⟨hm,hf,hka⟩;clear hm hf hka;by_cases j6:k<most
  ·have MR:=λ W=>run_make_row' (P:=prog) 270 4 (.bool false) 1 underlying270 ztr rfl .i64 .i64 N (by omega) (by omega) W
   obtain⟨W1,AJ⟩:∃W1,W1=wr.alloc (.cells (madeCells #[false] N) 4):=⟨_,rfl⟩;have BK:Below wr wr W1:=by rw[AJ];exact b_
   have OJ:Sn W1 wr N (λ _=>false):=by rw[AJ];exact zp6 wr N
   have hmat1:=HR.o.1.below BK;have JP:=HR.o.1.lt (show 0<N by omega);have DW:∀i j,i<N->j<N->0<=M i j/\M i j<=1000000:=λ i j _ _=>by
    have h1:=HR.o.2.1.pos i j;have h2:=HR.o.2.1.pos j i;have h3:=HR.o.2.1.sum i j;have h4:=HM.o i j;have h5:=HM.o j i;omega
   have HC:Hid _:=mg g b N wr tg c (by omega) htg (λ i hi e=>by have:=JP.2 i hi;omega) (λ e=>by have:=JP.1;omega) (uns (λ _=>false) N+1) a M (λ _=>false) W1 (Nat.lt_succ_self _) hmat1 OJ ha rfl DW;have BQ:=kd AJ.symm;have x8:=kd BK;clear AJ BK OJ hmat1 JP DW;go_wp2_with fail;rw[BQ.o];clear MR;refine aA HC.o ?_;rintro e w2 ⟨M',sn',DF,DJ,CK,_,h2⟩;have HKA:Hid (Ka b N w w2):=(HR.o.2.2.trans (Ka.of_below x8.o)).zv1 CK HR.o.2.2.size;have RD:=kd DF;clear DF DJ CK HC;rcases h2 with⟨rfl,vs,hh,hl,FM,hv,hg,hM'⟩|⟨rfl,hM',LM,MC⟩
   ·as_aux_lemma=>
    have HF:Hid (Ff M0 M' N a tg ((k+1:Nat):Int)):=by
     have:=HR.o.2.1.way hh hl (λ v hv'=>(hv v hv').1) FM hg;rw[<-hM'] at this;rw[show((k+1:Nat):Int)=(k:Int)+1 by omega];exact this
    clear hh hl FM hv hg hM' HR;go_wp2_with fail;go_roundw;case rel=>exact⟨k+1,M',by omega,by go_num,RD.o,HF.o,HKA.o⟩
    case measure=>simp[intOf];omega
   ·as_aux_lemma=>
    have HV:Hid (Val (Ea M0 N) a tg most k):=by
     have q9:a≠tg:=(MC a ha LM rfl).1;refine HR.o.2.1.done (by omega) (by omega) (λ z=>decide (0<=z/\z<N)&&sn' z.toNat) ?_ ?_ (λ i j hi hj h1 h2=>?_)
     ·simp[ha,LM]
     ·have:sn' tg=false:=by
       cases hq:sn' tg with
       |false=>rfl
       |true=>exact absurd rfl (MC tg htg hq rfl).1
      simp[this]
     ·have h1':sn' i=true:=by simp[hi] at h1;exact h1
      have h2':sn' j=false:=by simp[hj] at h2;exact h2
      have h3:=(MC i hi h1' rfl).2 j hj;have h4:=HR.o.2.1.pos i j;by_cases c:0<M i j
      ·have h5:=h3 c;rw[h2'] at h5;cases h5
      ·omega
    clear hM' LM MC HR;go_wp2_with fail;go_ret;exact⟨k,rfl,HV.o,HKA.o⟩
  ·as_aux_lemma=>
   have CF:most=k:=by omega
   subst CF;go_wp2_with fail;go_ret;exact⟨most,rfl,HR.o.2.1.most (by omega),HR.o.2.2⟩
theorem zph:(prog.info? 48).map (λ i=>(i.zero,i.size,i.bytes))=some (some (.slice none 0 0),1,24):=by kernel_rfl
structure Jf (w wq:World) (n i:Nat):Prop where
 o:∀j,j<n->w.heap.size<wq.heap.size/\wq.cell? ⟨w.heap.size,j,none⟩=some (if j<i then .slice (w.heap.size+1+j:Nat) n n else .slice none 0 0)/\wq.frozen? (w,j)=false
 row:∀k j,k<i->j<n->wq.cell? ⟨w.heap.size+1+k,j,none⟩=(0:Int)/\wq.frozen? (w.heap.size+1+k,j)=false
 size:wq.heap.size=w.heap.size+1+i
 bel:Below w w wq
theorem Qd (w:World)(v:Value)(n:Nat)(t:TypeId)(j:Nat)(hj:j<n):(w.alloc (.cells (madeCells #[v] n) t)).cell? (w,j)=some v/\(w.alloc (.cells (madeCells #[v] n) t)).frozen? (w,j)=false:=by
 have hh:=aQ w (.cells (madeCells #[v] n) t);obtain⟨W,hW⟩:∃W,w.alloc (.cells (madeCells #[v] n) t)=W:=⟨_,rfl⟩;rw[hW] at hh ⊢;have hc:(madeCells #[v] n)[j]? =some v:=by simp[madeCells,hj,Nat.mod_one]
 exact⟨by simp[World.cell?,hh,hc],by simp[World.frozen?,hh]⟩
theorem Jf.start (w:World)(n:Nat):Jf w (w.alloc (.cells (madeCells #[.slice none 0 0] n) 48)) n 0:=
 ⟨λ j hj=>⟨by simp,by rw[aL (by omega)];exact(Qd w _ n 48 j hj).1,(Qd w _ n 48 j hj).2⟩,λ k j hk=>by omega,by simp,b_⟩
theorem Ma {w w':World}{k i:Nat}{f:Bool}(h:w.frozen? (k,i)=f)(hk:k<w)(hb:Below w w w'):w'.frozen? (k,i)=f:=by
 unfold World.frozen? at h ⊢;rw[hb.block k hk];exact h
theorem Jf.next {w wq:World}{n i:Nat}(h:Jf w wq n i)(hi:i<n):Jf w ((wq.alloc (.cells (madeCells #[(0:Int)] n) 3)).setCell (w,i) (.slice wq n n)) n (i+1):=by
 have CW:Below wq wq (wq.alloc (.cells (madeCells #[(0:Int)] n) 3)):=b_;have j6:=(h.o i hi).1;refine⟨λ j hj=>⟨by simp;omega,?_,?_⟩,λ k j hk hj=>?_,by simp[h.size];omega,?_⟩
 ·by_cases e:j=i
  ·subst e
   rw[aP (by omega),<-h.size];exact fV _ _ _ (cell_below (h.o j hj).2.1 CW)
  ·rw[eD _ _ _ _ (λ k=>by injection k with _ k2;exact e k2.symm)]
   rw[cell_below (h.o j hj).2.1 CW];by_cases c:j<i
   ·rw[aP c,aP (by omega)]
   ·rw[aL c,aL (by omega)]
 ·rw[eY];exact Ma (h.o j hj).2.2 j6 CW
 ·rw[World.cell?_setCell_far _ _ _ _ (by show w.heap.size≠w.heap.size+1+k;omega),eY]
  by_cases e:k=i
  ·subst e
   rw[<-h.size];exact Qd wq _ n 3 j hj
  ·have h1:=h.row k j (by omega) hj
   exact⟨cell_below h1.1 CW,Ma h1.2 (lt_of_cell h1.1) CW⟩
 ·exact(h.bel.tr CW).setCell (aF _) _
theorem Jf.mat {w wq:World}{n:Nat}(h:Jf w wq n n):Mat wq w (λ i=>w.heap.size+1+i) n (λ _ _=>0):=
 ⟨λ i hi=>by have:=(h.o i hi).2.1;rwa[aP hi] at this,λ i j hi hj=>h.row i j hi hj,λ i j _ _ e=>by omega,λ i _ e=>by omega⟩
theorem Ze (n:Nat)(w:World)(hn:n<=100):
 Calls prog 126 #[n] w λ e w'=>e=Value.slice w n n/\Mat w' w (λ i=>w.heap.size+1+i) n (λ _ _=>0)/\Below w w w':=by
 have MR:=λ W=>run_make_row' (P:=prog) 185 48 (.slice none 0 0) 24 underlying185 zph rfl .i64 .i64 n (by omega) (by omega) W
 have hmk2:=λ W=>run_make_row' (P:=prog) 48 3 (0:Int) 8 underlying48 Tryz.info3 rfl .i64 .i64 n (by omega) (by omega) W
 have HS:Hid (Jf w (w.alloc (.cells (madeCells #[.slice none 0 0] n) 48)) n 0):=Jf.start w n;go_enter func126,ntmps126;go_wp2_with fail;go_loopw [9] (λ s9 wq=>∃i:Nat,i<=n/\s9=i/\Jf w wq n i) (λ s9 _=>n-(intOf s9).toNat)
 case atStart=>exact⟨0,aN _,rfl,HS.o⟩
 case round=>
  clear HS;obtain⟨i,hi,rfl,hr⟩:=hrel;have HR:=kd hr;clear hr;by_cases j6:i<n
  ·as_aux_lemma=>
   have HN:Hid (Jf w ((wr.alloc (.cells (madeCells #[(0:Int)] n) 3)).setCell (w,i) (.slice wr n n)) n (i+1)):=HR.o.next j6;have CW:Below wr wr (wr.alloc (.cells (madeCells #[(0:Int)] n) 3)):=b_;have q1:=cell_below (HR.o.o i j6).2.1 CW;have q2:=Ma (HR.o.o i j6).2.2 (HR.o.o i j6).1 CW;rw[aL (Nat.lt_irrefl i)] at q1;clear CW;go_wp2_with fail;go_roundw;case rel=>exact⟨i+1,by omega,by go_num,HN.o⟩
   case measure=>simp[intOf];omega
  ·as_aux_lemma=>
   have CR:n=i:=by omega
   subst CR;go_wp2_with fail;go_ret;exact⟨rfl,HR.o.mat,HR.o.bel⟩
end Go.Proofs.Y.S
