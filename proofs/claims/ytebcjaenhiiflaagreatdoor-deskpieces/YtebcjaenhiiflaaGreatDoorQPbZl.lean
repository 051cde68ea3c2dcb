import Derived.Test.YtebcjaenhiiflaaGreatDoorQPaPc
import Derived.Test.YtebcjaenhiiflaaGreatDoorQFnFDq
import Derived.Test.YtebcjaenhiiflaaGreatDoorQZgZh
set_option maxHeartbeats 1000000
set_option maxRecDepth 100000
namespace Go.Proofs.YtebcjaenhiiflaaGreatDoor.S
open Go Go.ChangeMaps Go.MapKept Go.WideShapes
open Go.RowKit Go.WideMaps Go.Maps F
def WE (n:Nat) (L:List Stp) (a b k c:Int):Prop:=
 (AskNo n a b 120 c/\k=0)\/(∃x y:Nat,a=(x:Int)/\b=(y:Int)/\x<n/\y<n/\x≠y/\c=0/\Val (cap (lD (edS L)) (lr (edS L))) x y 120 k)
def WN (n:Nat) (L:List Stp) (a b k c:Int):Prop:=
 (AskNo n a b 120 c/\k=0)\/(∃x y:Nat,a=(x:Int)/\b=(y:Int)/\x<n/\y<n/\x≠y/\c=0/\Val (cap (lD (noS n L)) (lr (noS n L))) (2*x+1) (2*y) 120 k)
theorem ask_total (n:Nat) (a b:Int):(∃c,AskNo n a b 120 c)\/∃x y:Nat,a=(x:Int)/\b=(y:Int)/\x<n/\y<n/\x≠y:=by
 by_cases h:AskOk n a b 120
 ·by_cases hab:a=b
  ·exact .inl ⟨1,.inr ⟨h,hab,rfl⟩⟩
  ·right
   obtain ⟨h1,h2,_⟩:=h;exact ⟨a.toNat,b.toNat,by omega,by omega,by omega,by omega,by omega⟩
 ·exact .inl ⟨2,.inl ⟨h,rfl⟩⟩
theorem askNo_one {n:Nat} {a b m c c':Int} (h:AskNo n a b m c) (h':AskNo n a b m c'):c=c':=by
 rcases h with ⟨h1,rfl⟩ | ⟨h1,_,rfl⟩ <;> rcases h' with ⟨h2,rfl⟩ | ⟨h2,_,rfl⟩
 ·rfl
 ·exact absurd h2 h1
 ·exact absurd h1 h2
 ·rfl
theorem askNo_not {n x y:Nat} {c:Int} (h:AskNo n (x:Int) (y:Int) 120 c) (hx:x<n) (hy:y<n) (hxy:x≠y):False:=by
 rcases h with ⟨h1,_⟩ | ⟨_,h2,_⟩
 ·exact h1 ⟨⟨by omega,by omega⟩,⟨by omega,by omega⟩,by omega,by omega⟩
 ·omega
theorem WE.one {n:Nat} {L:List Stp} {a b k c k' c':Int} (h:WE n L a b k c) (h':WE n L a b k' c'):k=k'/\c=c':=by
 rcases h with ⟨h1,rfl⟩ | ⟨x,y,rfl,rfl,hx,hy,hxy,rfl,hv⟩ <;> rcases h' with ⟨h2,rfl⟩ | ⟨x',y',e1,e2,hx',hy',hxy',rfl,hv'⟩
 ·exact ⟨rfl,askNo_one h1 h2⟩
 ·rw [e1,e2] at h1
  exact (askNo_not h1 hx' hy' hxy').elim
 ·exact (askNo_not h2 hx hy hxy).elim
 ·obtain rfl:x=x':=by omega
  obtain rfl:y=y':=by omega
  exact ⟨val_unique hv hv',rfl⟩
theorem WN.one {n:Nat} {L:List Stp} {a b k c k' c':Int} (h:WN n L a b k c) (h':WN n L a b k' c'):k=k'/\c=c':=by
 rcases h with ⟨h1,rfl⟩ | ⟨x,y,rfl,rfl,hx,hy,hxy,rfl,hv⟩ <;> rcases h' with ⟨h2,rfl⟩ | ⟨x',y',e1,e2,hx',hy',hxy',rfl,hv'⟩
 ·exact ⟨rfl,askNo_one h1 h2⟩
 ·rw [e1,e2] at h1
  exact (askNo_not h1 hx' hy' hxy').elim
 ·exact (askNo_not h2 hx hy hxy).elim
 ·obtain rfl:x=x':=by omega
  obtain rfl:y=y':=by omega
  exact ⟨val_unique hv hv',rfl⟩
theorem we_wn {n:Nat} {L:List Stp} {a b k c k' c':Int} (h:WE n L a b k c) (h':WN n L a b k' c'):c=c':=by
 rcases h with ⟨h1,rfl⟩ | ⟨x,y,rfl,rfl,hx,hy,hxy,rfl,hv⟩ <;> rcases h' with ⟨h2,rfl⟩ | ⟨x',y',e1,e2,hx',hy',hxy',rfl,hv'⟩
 ·exact askNo_one h1 h2
 ·rw [e1,e2] at h1
  exact (askNo_not h1 hx' hy' hxy').elim
 ·exact (askNo_not h2 hx hy hxy).elim
 ·rfl
theorem errV_no {n:Nat} {a b m c:Int} (h:AskNo n a b m c):Value.iface 23 (.int .i64 c)=G.errV c:=by
 simp [G.errV,h.ne]
end Go.Proofs.YtebcjaenhiiflaaGreatDoor.S
namespace Go.Proofs.YtebcjaenhiiflaaGreatDoor.I
open Go.RowKit Go.WideMaps Go.Maps Go.Lib
variable {w w':World} {a b x q n:Nat} {L R B:List G.E}
theorem pflowE {B0 p:Nat} {v:Value} (i j:Int) (w:World) (h:G.GAt w B0 168 61 p (n:Int) v L) (hok:Ok n L):
 Calls Tryz.prog 128 #[.pointer (some ⟨p,0,none⟩),.int .i64 i,.int .i64 j,.int .i64 120] w λ e w'=>∃k c,S.WE n L i j k c/\e= .returned (.tuple #[.int .i64 k,G.errV c])/\Below w.heap.size w w':=by
 rcases S.ask_total n i j with ⟨c,hno⟩ | ⟨x,y,rfl,rfl,hx,hy,hxy⟩
 ·refine (S.flowEdges_err n B0 p i j 120 c v L w h hno).mono ?_
  rintro e w' ⟨rfl,hb⟩;exact ⟨0,c,.inl ⟨hno,rfl⟩,by rw [S.errV_no hno],hb⟩
 ·refine (S.flowEdges_any n B0 p x y 120 v L w h hok.n40 hok.ed' hx hy hxy (Nat.le_refl _)).mono ?_
  rintro e w' ⟨k,rfl,hv,hb⟩;exact ⟨k,0,.inr ⟨x,y,rfl,rfl,hx,hy,hxy,rfl,hv⟩,by simp [G.errV],hb⟩
theorem pflowN {B0 p:Nat} {v:Value} (i j:Int) (w:World) (h:G.GAt w B0 168 61 p (n:Int) v L) (hok:Ok n L):
 Calls Tryz.prog 129 #[.pointer (some ⟨p,0,none⟩),.int .i64 i,.int .i64 j,.int .i64 120] w λ e w'=>∃k c,S.WN n L i j k c/\e= .returned (.tuple #[.int .i64 k,G.errV c])/\Below w.heap.size w w':=by
 rcases S.ask_total n i j with ⟨c,hno⟩ | ⟨x,y,rfl,rfl,hx,hy,hxy⟩
 ·refine (S.flowNodes_err n B0 p i j 120 c v L w h hno).mono ?_
  rintro e w' ⟨rfl,hb⟩;exact ⟨0,c,.inl ⟨hno,rfl⟩,by rw [S.errV_no hno],hb⟩
 ·refine (S.flowNodes_any n B0 p x y 120 v L w h hok.n40 hok.ed' hx hy hxy (Nat.le_refl _)).mono ?_
  rintro e w' ⟨k,rfl,hv,hb⟩;exact ⟨k,0,.inr ⟨x,y,rfl,rfl,hx,hy,hxy,rfl,hv⟩,by simp [G.errV],hb⟩
theorem ibyE (h:IV w a b x n L) (i j:Int):
 Calls Tryz.prog 70 #[.pointer (some ⟨x,0,none⟩),.int .i64 i,.int .i64 j] w λ e w'=>∃k c,S.WE n L i j k c/\e= .returned (.tuple #[.int .i64 k,G.errV c])/\Below w.heap.size w w':=by
 obtain ⟨p,q,v,R,B,W,T,D,pw,bw,pt,bt,mp,N,g,h⟩:=h;have HI:Hid _:=pflowE i j w h.gra h.ok;have hc:=h.ix.c0;clear h;go_enter Tryz.func70,Tryz.ntmps70;go_wp2_with fail;refine Calls.mono HI.out ?_;rintro e w1 ⟨k,c,hk,rfl,hb⟩;have HK:Hid _:=hk;have HB:Hid _:=hb;obtain ⟨ev,hev⟩:∃ev,G.errV c=ev:=⟨_,rfl⟩;rw [hev];have HE:Hid (G.errV c=ev):=hev;clear hk hb hc HI hev;go_wp2_with fail;go_ret2;exact ⟨k,c,HK.out,by rw [HE.out];rfl,HB.out⟩
theorem ibyN (h:IV w a b x n L) (i j:Int):
 Calls Tryz.prog 71 #[.pointer (some ⟨x,0,none⟩),.int .i64 i,.int .i64 j] w λ e w'=>∃k c,S.WN n L i j k c/\e= .returned (.tuple #[.int .i64 k,G.errV c])/\Below w.heap.size w w':=by
 obtain ⟨p,q,v,R,B,W,T,D,pw,bw,pt,bt,mp,N,g,h⟩:=h;have HI:Hid _:=pflowN i j w h.gra h.ok;have hc:=h.ix.c0;clear h;go_enter Tryz.func71,Tryz.ntmps71;go_wp2_with fail;refine Calls.mono HI.out ?_;rintro e w1 ⟨k,c,hk,rfl,hb⟩;have HK:Hid _:=hk;have HB:Hid _:=hb;obtain ⟨ev,hev⟩:∃ev,G.errV c=ev:=⟨_,rfl⟩;rw [hev];have HE:Hid (G.errV c=ev):=hev;clear hk hb hc HI hev;go_wp2_with fail;go_ret2;exact ⟨k,c,HK.out,by rw [HE.out];rfl,HB.out⟩
end Go.Proofs.YtebcjaenhiiflaaGreatDoor.I
namespace Go.Proofs.YtebcjaenhiiflaaGreatDoor.I
open Go.RowKit Go.WideMaps Go.Maps Go.Lib
variable {w w' wG:World} {a b x q n:Nat} {L R B:List G.E} {W T:List Nat}
def Ps (w:World) (a:Option Addr) (M:List (Int × Int)):Prop:=0<M.length->∃g,a=some ⟨g,0,none⟩/\∀j x,M[j]? =some x->w.cell? ⟨g,j*2,none⟩=some (.int .i64 x.1)/\w.cell? ⟨g,j*2+1,none⟩=some (.int .i64 x.2)
theorem Ps.below {a:Option Addr} {M:List (Int × Int)} (h:Ps w a M) (hb:Below w.heap.size w w'):Ps w' a M:=by
 intro hk;obtain ⟨g,e,hc⟩:=h hk;exact ⟨g,e,λ j x hx=>⟨S.cell_below (hc j x hx).1 hb,S.cell_below (hc j x hx).2 hb⟩⟩
noncomputable def spi (n:Nat) (L:List G.E):List (Int × Int):=(spz n L).map λ p=>((p.1:Int),(p.2:Int))
theorem ps_nat {a:Option Addr} {M:List (Nat × Nat)} (h:0<M.length->∃g,a=some ⟨g,0,none⟩/\∀j x,M[j]? =some x->w.cell? ⟨g,j*2,none⟩=some (.int .i64 (x.1:Int))/\w.cell? ⟨g,j*2+1,none⟩=some (.int .i64 (x.2:Int))):Ps w a (M.map λ p=>((p.1:Int),(p.2:Int))):=by
 intro hk;rw [List.length_map] at hk;obtain ⟨g,e,hc⟩:=h hk;refine ⟨g,e,λ j x hx=>?_⟩;rw [List.getElem?_map] at hx;cases hy:M[j]? with
 | none=>rw [hy] at hx;cases hx
 | some y=>
   rw [hy] at hx;injection hx with hx
   rw [<-hx];exact hc j y hy
theorem ipairs' (h:IV w a b x n L):
 Calls Tryz.prog 38 #[.pointer (some ⟨x,0,none⟩)] w λ e w'=>∃a c,e= .returned (.slice a (prz n L).length c)/\Ps w' a (prz n L)/\Below w.heap.size w w':=by
 refine (ipairs h).mono ?_;rintro e w' ⟨v,rfl,ho,hb⟩;obtain ⟨a',c,rfl,hs⟩:=ho.shape;exact ⟨a',c,rfl,hs,hb⟩
theorem spi_len (n:Nat) (L:List G.E):(spz n L).length=(spi n L).length:=by simp [spi]
theorem isplits' (h:IV w a b x n L):
 Calls Tryz.prog 39 #[.pointer (some ⟨x,0,none⟩)] w λ e w'=>∃a c,e= .returned (.slice a (spi n L).length c)/\Ps w' a (spi n L)/\Below w.heap.size w w':=by
 refine (isplits h).mono ?_;rintro e w' ⟨v,rfl,ho,hb⟩;obtain ⟨a',c,rfl,hs⟩:=ho.shape;exact ⟨a',c,by rw [spi_len],ps_nat hs,hb⟩
structure Kn (wG w:World) (x n:Nat) (L:List G.E) (q:Nat):Prop where
 iv:∃a b,IV w a b x n L
 dv:DV w q n L
 gl:G.Gl w
 below:Below wG.heap.size wG w
theorem Kn.next (h:Kn wG w x n L q) (hb:Below w.heap.size w w'):Kn wG w' x n L q:=by
 obtain ⟨⟨a,b,h1⟩,h2,h3,h4⟩:=h;exact ⟨⟨a,b,h1.below hb⟩,h2.below hb,h3.below hb,h4.trans (hb.mono h4.size)⟩
theorem Kn.c0 (h:Kn wG w x n L q):w.cell? ⟨q,0,none⟩=some (.int .i64 (n:Int)):=by
 obtain ⟨B,u,R,h1,_⟩:=h.dv;exact h1.c0
end Go.Proofs.YtebcjaenhiiflaaGreatDoor.I
namespace Go.Proofs.YtebcjaenhiiflaaGreatDoor.I
open Go.RowKit Go.WideMaps Go.Maps Go.Lib
variable {w w':World} {a b x n d:Nat} {L:List G.E}
def Fine (y:Int):Prop:=0<=y/\y<=9223372036854775807
def tellP (M:List (Int × Int)):List UInt8:=Lib.join (M.map λ p=>lineI [p.1,p.2]) [44,32]
def tellE (M:List G.E):List UInt8:=Lib.join (M.map λ p=>lineI [p.1,p.2.1,p.2.2]) [44,32]
theorem tellP_len {M:List (Int × Int)} (hg:∀p∈M,Fine p.1/\Fine p.2) (hl:M.length<=20000):(tellP M).length<=30000000:=by
 have h:=sep_len [44,32] 42 (M.map λ p=>lineI [p.1,p.2]) (λ z hz=>by
  rw [List.mem_map] at hz;obtain ⟨p,hp,rfl⟩:=hz;have h1:=hg p hp;exact line_len (ns:=[p.1,p.2]) (λ y hy=>by
   simp at hy;rcases hy with rfl | rfl
   ·exact h1.1
   ·exact h1.2))
 rw [List.length_map] at h;unfold tellP;simp at h;omega
theorem tellE_len {M:List G.E} (hg:∀p∈M,Fine p.1/\Fine p.2.1/\Fine p.2.2) (hl:M.length<=20000):(tellE M).length<=30000000:=by
 have h:=sep_len [44,32] 63 (M.map λ p=>lineI [p.1,p.2.1,p.2.2]) (λ z hz=>by
  rw [List.mem_map] at hz;obtain ⟨p,hp,rfl⟩:=hz;have h1:=hg p hp;exact line_len (ns:=[p.1,p.2.1,p.2.2]) (λ y hy=>by
   simp at hy;rcases hy with rfl | rfl | rfl
   ·exact h1.1
   ·exact h1.2.1
   ·exact h1.2.2))
 rw [List.length_map] at h;unfold tellE;simp at h;omega
theorem twos_any {q:Option Addr} {c:Nat} {M:List (Int × Int)} (h:Ps w q M) (hg:∀p∈M,Fine p.1/\Fine p.2) (hl:M.length<=20000) (hv:Vars w):
 Calls Tryz.prog 273 #[.slice q M.length c,.func (.func 274) #[] #[]] w λ e w'=>e= .returned (.string ⟨(tellP M).toArray⟩)/\Below w.heap.size w w':=by
 have hlen:=tellP_len hg hl;unfold tellP at hlen ⊢;obtain ⟨xs,hxs⟩:∃xs,xs=M.map λ p=>lineI [p.1,p.2]:=⟨_,rfl⟩
 rw [<-hxs] at hlen ⊢;have hk:M.length=xs.length:=by rw [hxs,List.length_map]
 have hf:∀W (j:Nat) (z:List UInt8) (x0 x1:Int),Below w.heap.size w W->M[j]? =some (x0,x1)->xs[j]? =some z->Calls Tryz.prog 274 #[.agg #[.int .i64 x0,.int .i64 x1]] W λ e w'=>e= .returned (.string ⟨z.toArray⟩)/\Below W.heap.size W w':=by
  intro W j z x0 x1 hW hM hx;rw [hxs,List.getElem?_map,hM] at hx;injection hx with hx
  subst hx;have h1:=hg _ (List.mem_of_getElem? hM);exact two_any x0 x1 W h1.1 h1.2 (hv.below hW)
 clear hxs;exact rows_pairs q c M.length M xs w hk rfl hl h hf (by omega)
theorem eds_any {v:Value} {B:Nat} {M:List G.E} (h:G.Owns w B 61 v M) (hg:∀p∈M,Fine p.1/\Fine p.2.1/\Fine p.2.2) (hl:M.length<=20000) (hv:Vars w):
 Calls Tryz.prog 268 #[v,.func (.func 269) #[] #[]] w λ e w'=>e= .returned (.string ⟨(tellE M).toArray⟩)/\Below w.heap.size w w':=by
 have key:∃q c,v= .slice q M.length c/\(0<M.length->∃g,q=some ⟨g,0,none⟩/\∀(j:Nat) x,M[j]? =some x->w.cell? ⟨g,j*3,none⟩=some (.int .i64 x.1)/\w.cell? ⟨g,j*3+1,none⟩=some (.int .i64 x.2.1)/\w.cell? ⟨g,j*3+2,none⟩=some (.int .i64 x.2.2)):=by
  rcases h.shape with ⟨e,e2⟩ | ⟨g,cap,e,_⟩
  ·exact ⟨none,0,by rw [e,e2];rfl,λ k=>by rw [e2] at k;simp at k⟩
  ·exact ⟨_,_,e,λ _=>⟨g,rfl,λ j x hx=>h.at (by rw [e];rfl) hx⟩⟩
 obtain ⟨q,c,rfl,hc⟩:=key;have hlen:=tellE_len hg hl;unfold tellE at hlen ⊢;obtain ⟨xs,hxs⟩:∃xs,xs=M.map λ p=>lineI [p.1,p.2.1,p.2.2]:=⟨_,rfl⟩
 rw [<-hxs] at hlen ⊢;have hk:M.length=xs.length:=by rw [hxs,List.length_map]
 have hf:∀W (j:Nat) (z:List UInt8) (x0 x1 x2:Int),Below w.heap.size w W->M[j]? =some (x0,x1,x2)->xs[j]? =some z->Calls Tryz.prog 269 #[.agg #[.int .i64 x0,.int .i64 x1,.int .i64 x2]] W λ e w'=>e= .returned (.string ⟨z.toArray⟩)/\Below W.heap.size W w':=by
  intro W j z x0 x1 x2 hW hM hx;rw [hxs,List.getElem?_map,hM] at hx;injection hx with hx
  subst hx;have h1:=hg _ (List.mem_of_getElem? hM);exact edge_any x0 x1 x2 W h1.1 h1.2.1 h1.2.2 (hv.below hW)
 clear hxs;exact rows_edges q c M.length M xs w hk rfl hl hc hf (by omega)
theorem pairsOf_in {q:S.Edg->S.Edg->Bool}:∀{R:List S.Edg} {p:Int × Int},p∈S.pairsOf R q->(∃e∈R,e.1=p.1)/\∃e∈R,e.1=p.2
 | [],_,h=>by simp [S.pairsOf] at h
 | e::R,p,h=>by
   unfold S.pairsOf at h;rw [List.mem_append] at h;rcases h with h | h
   ·rw [List.mem_map] at h
    obtain ⟨k,hk,rfl⟩:=h;exact ⟨⟨e,by simp,rfl⟩,k,List.mem_cons_of_mem _ (List.mem_filter.1 hk).1,rfl⟩
   ·obtain ⟨⟨k,hk,h1⟩,m,hm,h2⟩:=pairsOf_in h
    exact ⟨⟨k,List.mem_cons_of_mem _ hk,h1⟩,m,List.mem_cons_of_mem _ hm,h2⟩
theorem pairsOf_few {q:S.Edg->S.Edg->Bool}:∀(R:List S.Edg),(S.pairsOf R q).length<=R.length*R.length
 | []=>by simp [S.pairsOf]
 | e::R=>by
   have ih:=pairsOf_few (q:=q) R;have h1:=List.length_filter_le (q e) R;unfold S.pairsOf;rw [List.length_append,List.length_map,List.length_cons,Nat.add_mul,Nat.mul_add];omega
theorem prz_bounds (h:IV w a b x n L):(∀p∈prz n L,Fine p.1/\Fine p.2)/\(prz n L).length<=20000:=by
 have hed:=h.ok.ed;have hlen:=h.ok.len;unfold prz;refine ⟨λ p hp=>?_,?_⟩
 ·obtain ⟨⟨e,he,h1⟩,k,hk,h2⟩:=pairsOf_in hp
  have h3:=(hed e (List.mem_filter.1 he).1).1;have h4:=(hed k (List.mem_filter.1 hk).1).1;unfold Fine;omega
 ·refine Nat.le_trans (pairsOf_few _) ?_
  have h1:=List.length_filter_le (λ e=>decide (S.covN n (S.grw n L).1 (S.grw n L).2 e≠0)) L;have h2:(L.filter λ e=>decide (S.covN n (S.grw n L).1 (S.grw n L).2 e≠0)).length<=120:=by omega
  exact Nat.le_trans (Nat.mul_le_mul h2 h2) (by omega)
theorem allK_few (P:Nat->Nat->Bool) (n:Nat):∀k,(S.X.allK P n k).length<=k*n
 | 0=>by simp [S.X.allK]
 | k+1=>by
   have ih:=allK_few P n k;have h1:(S.X.allK P n (k+1)).length=(S.X.allK P n k).length+(S.X.rowK P k n).length:=by
    unfold S.X.allK;rw [List.range_succ,List.flatMap_append];simp
   have h2:(S.X.rowK P k n).length<=n:=by
    unfold S.X.rowK;rw [List.length_map];refine Nat.le_trans (List.length_filter_le _ _) ?_;rw [List.length_range];omega
   rw [h1,Nat.add_one_mul];omega
theorem spi_bounds (h:IV w a b x n L):(∀p∈spi n L,Fine p.1/\Fine p.2)/\(spi n L).length<=20000:=by
 have hn:=h.ok.n40;refine ⟨λ p hp=>?_,?_⟩
 ·unfold spi at hp
  rw [List.mem_map] at hp;obtain ⟨k,hk,rfl⟩:=hp;unfold spz S.X.allK at hk;rw [List.mem_flatMap] at hk;obtain ⟨i,hi,hk⟩:=hk;unfold S.X.rowK at hk;rw [List.mem_map] at hk;obtain ⟨j,hj,rfl⟩:=hk;have h1:=List.mem_range.1 hi;have h2:=List.mem_range.1 (List.mem_filter.1 hj).1;unfold Fine;simp only;omega
 ·rw [<-spi_len]
  unfold spz;exact Nat.le_trans (allK_few _ _ _) (Nat.le_trans (Nat.mul_le_mul hn hn) (by omega))
theorem eds_bounds (h:IV w a b x n L):(∀p∈L,Fine p.1/\Fine p.2.1/\Fine p.2.2)/\L.length<=20000:=by
 have hn:=h.ok.n40;have hlen:=h.ok.len;refine ⟨λ p hp=>?_,by omega⟩;have:=h.ok.ed p hp;unfold Fine;omega
theorem dk_pairs (s:Value) (h:IV w a b x n L) (hd:w.cell? ⟨d,0,none⟩=some (.pointer (some ⟨x,0,none⟩))) (hv:Vars w):
 Calls Tryz.prog 159 #[.pointer (some ⟨d,0,none⟩),s] w λ e w'=>e= .returned (.string ⟨([112,97,105,114,115]++[32]++tellP (prz n L)).toArray⟩)/\Below w.heap.size w w':=by
 have HB:=kd (ipairs' h);have HR:=kd (prz_bounds h);have HV:=kd hv;generalize prz n L=K at*;clear h hv;go_enter Tryz.func159,Tryz.ntmps159;go_wp2_with fail;refine Calls.mono HB.out ?_;rintro e w1 ⟨a',c,rfl,hz,hb1⟩;have HB1:=kd hb1;have HI:=kd (twos_any (c:=c) hz HR.out.1 HR.out.2 (HV.out.below hb1));clear hz hb1 HB;go_wp2_with fail;refine Calls.mono HI.out ?_;rintro e w2 ⟨rfl,hb2⟩;have HB2:=kd (HB1.out.trans (hb2.mono HB1.out.size));have HJ:=kd (behind_any [112,97,105,114,115] (tellP K) w2 (by have:=tellP_len HR.out.1 HR.out.2;simp;omega));clear hb2 HI;go_wp2_with fail;refine Calls.mono HJ.out ?_;rintro e w3 ⟨rfl,hw⟩;subst w3;clear HJ;go_wp2_with fail;go_ret;exact ⟨rfl,HB2.out⟩
theorem dk_splits (s:Value) (h:IV w a b x n L) (hd:w.cell? ⟨d,0,none⟩=some (.pointer (some ⟨x,0,none⟩))) (hv:Vars w):
 Calls Tryz.prog 161 #[.pointer (some ⟨d,0,none⟩),s] w λ e w'=>e= .returned (.string ⟨([115,112,108,105,116,115]++[32]++tellP (spi n L)).toArray⟩)/\Below w.heap.size w w':=by
 have HB:=kd (isplits' h);have HR:=kd (spi_bounds h);have HV:=kd hv;generalize spi n L=K at*;clear h hv;go_enter Tryz.func161,Tryz.ntmps161;go_wp2_with fail;refine Calls.mono HB.out ?_;rintro e w1 ⟨a',c,rfl,hz,hb1⟩;have HB1:=kd hb1;have HI:=kd (twos_any (c:=c) hz HR.out.1 HR.out.2 (HV.out.below hb1));clear hz hb1 HB;go_wp2_with fail;refine Calls.mono HI.out ?_;rintro e w2 ⟨rfl,hb2⟩;have HB2:=kd (HB1.out.trans (hb2.mono HB1.out.size));have HJ:=kd (behind_any [115,112,108,105,116,115] (tellP K) w2 (by have:=tellP_len HR.out.1 HR.out.2;simp;omega));clear hb2 HI;go_wp2_with fail;refine Calls.mono HJ.out ?_;rintro e w3 ⟨rfl,hw⟩;subst w3;clear HJ;go_wp2_with fail;go_ret;exact ⟨rfl,HB2.out⟩
theorem dk_edges (s:Value) (h:IV w a b x n L) (hd:w.cell? ⟨d,0,none⟩=some (.pointer (some ⟨x,0,none⟩))) (hv:Vars w):
 Calls Tryz.prog 156 #[.pointer (some ⟨d,0,none⟩),s] w λ e w'=>e= .returned (.string ⟨([101,100,103,101,115]++[32]++tellE L).toArray⟩)/\Below w.heap.size w w':=by
 have HB:=kd (iedges h);have HR:=kd (eds_bounds h);have HV:=kd hv;generalize L=K at*;clear h hv;go_enter Tryz.func156,Tryz.ntmps156;go_wp2_with fail;refine Calls.mono HB.out ?_;rintro e w1 ⟨v,rfl,hz,hb1⟩;have HB1:=kd hb1;have HI:=kd (eds_any hz HR.out.1 HR.out.2 (HV.out.below hb1));clear hz hb1 HB;go_wp2_with fail;refine Calls.mono HI.out ?_;rintro e w2 ⟨rfl,hb2⟩;have HB2:=kd (HB1.out.trans (hb2.mono HB1.out.size));have HJ:=kd (behind_any [101,100,103,101,115] (tellE K) w2 (by have:=tellE_len HR.out.1 HR.out.2;simp;omega));clear hb2 HI;go_wp2_with fail;refine Calls.mono HJ.out ?_;rintro e w3 ⟨rfl,hw⟩;subst w3;clear HJ;go_wp2_with fail;go_ret;exact ⟨rfl,HB2.out⟩
end Go.Proofs.YtebcjaenhiiflaaGreatDoor.I
namespace Go.Proofs.YtebcjaenhiiflaaGreatDoor.I
open Go.RowKit Go.WideMaps Go.Maps Go.Lib
def calm:Obj->Bool
 | .cells _ t _=>t != 168&&t != 61&&t != 3&&t != 85&&t != 113
 | .map _ _=>false
 | _=>true
structure KD (dm:Nat) (w w':World):Prop where
 os:w'.os=w.os
 tape:w'.tape=w.tape
 output:w'.output=w.output
 size:w.heap.size<=w'.heap.size
 same:∀(k:Nat) (o:Obj),w.heap[k]? =some o->calm o=true->w'.heap[k]? =some o
 map:w'.heap[dm]? =w.heap[dm]?
structure DkX (w0 w:World) (d dm n:Nat) (L:List G.E) (x p q:Nat) (v:Value) (R B:List G.E) (W T:List Nat) (D:DataW Unit) (pw bw pt bt mp N:Nat):Prop where
 at_:IAt w0 w x p q n v L R B W T D pw bw pt bt mp N
 cell:w.heap[d]? =some (.cells #[.pointer (some ⟨x,0,none⟩)] 113)
 hd:w0.heap.size<=d
 ne:mp≠dm
 mo:∃es c,w.heap[dm]? =some (.map es c)
def DkS (w0 w:World) (d dm n:Nat) (L:List G.E):Prop:=
 ∃x p q v R B W T D pw bw pt bt mp N,DkX w0 w d dm n L x p q v R B W T D pw bw pt bt mp N
variable {w0 w w':World} {d dm n x p q:Nat} {v:Value} {L R B:List G.E} {W T:List Nat} {D:DataW Unit} {pw bw pt bt mp N:Nat}
theorem KD.trans {w2:World} (h:KD dm w w') (k:KD dm w' w2):KD dm w w2:=
 ⟨k.os.trans h.os,k.tape.trans h.tape,k.output.trans h.output,Nat.le_trans h.size k.size,λ j o h1 h2=>k.same j o (h.same j o h1 h2) h2,k.map.trans h.map⟩
theorem KD.of_below (hb:Below w.heap.size w w') (hm:dm<w.heap.size):KD dm w w':=
 ⟨hb.os,hb.tape,hb.output,hb.size,λ j _ h1 _=>(hb.block j (G.lt_of_some h1)).trans h1,hb.block dm hm⟩
theorem DkX.lm (h:DkX w0 w d dm n L x p q v R B W T D pw bw pt bt mp N):dm<w.heap.size:=by
 obtain ⟨es,c,hm⟩:=h.mo;exact G.lt_of_some hm
theorem DkX.below' (h:DkX w0 w d dm n L x p q v R B W T D pw bw pt bt mp N) (hb:Below w.heap.size w w'):DkX w0 w' d dm n L x p q v R B W T D pw bw pt bt mp N:=by
 obtain ⟨es,c,hm⟩:=h.mo;exact ⟨h.at_.below' hb,(hb.block d (G.lt_of_some h.cell)).trans h.cell,h.hd,h.ne,es,c,(hb.block dm h.lm).trans hm⟩
theorem DkS.below' (h:DkS w0 w d dm n L) (hb:Below w.heap.size w w'):DkS w0 w' d dm n L:=by
 obtain ⟨x,p,q,v,R,B,W,T,D,pw,bw,pt,bt,mp,N,h⟩:=h;exact ⟨x,p,q,v,R,B,W,T,D,pw,bw,pt,bt,mp,N,h.below' hb⟩
theorem DkS.lm (h:DkS w0 w d dm n L):dm<w.heap.size:=by
 obtain ⟨x,p,q,v,R,B,W,T,D,pw,bw,pt,bt,mp,N,h⟩:=h;exact h.lm
theorem DkS.base (h:DkS w0 w d dm n L):Below w0.heap.size w0 w:=by
 obtain ⟨x,p,q,v,R,B,W,T,D,pw,bw,pt,bt,mp,N,h⟩:=h;exact h.at_.rn.below
theorem DkS.ok (h:DkS w0 w d dm n L):Ok n L:=by
 obtain ⟨x,p,q,v,R,B,W,T,D,pw,bw,pt,bt,mp,N,h⟩:=h;exact h.at_.ok
theorem DkS.iv (h:DkS w0 w d dm n L):∃a b x,IV w a b x n L/\w.cell? ⟨d,0,none⟩=some (.pointer (some ⟨x,0,none⟩)):=by
 obtain ⟨x,p,q,v,R,B,W,T,D,pw,bw,pt,bt,mp,N,h⟩:=h;exact ⟨_,_,x,h.at_.iv (Nat.le_refl _) (Nat.le_refl _),by simp [World.cell?,h.cell]⟩
theorem DkX.off (h:DkX w0 w d dm n L x p q v R B W T D pw bw pt bt mp N) {k:Nat} {o:Obj} (hk:w.heap[k]? =some o) (ho:calm o=true):
 k≠p/\some k≠v.ownBlock/\k≠bw/\k≠bt/\k≠mp/\k≠x/\k≠d:=by
 have aa:=h.at_.rn.now.at_;obtain ⟨es,c,hm⟩:=aa.mobj;have key:∀{j t:Nat} {cs:Array Value},w.heap[j]? =some (.cells cs t)->calm (.cells cs t)=false->k≠j:=by
  rintro j t cs hj hc rfl;rw [hk] at hj;injection hj with hj
  rw [hj,hc] at ho;cases ho
 refine ⟨key h.at_.gra.hp rfl,λ e=>?_,key aa.sw.hb rfl,key aa.st.hb rfl,?_,key h.at_.ix rfl,key h.cell rfl⟩
 ·obtain ⟨cur,hcur⟩:=own61 h.at_.gra.row e.symm
  exact key hcur rfl rfl
 ·rintro rfl
  rw [hk] at hm;injection hm with hm
  rw [hm] at ho;cases ho
theorem DkX.offm (h:DkX w0 w d dm n L x p q v R B W T D pw bw pt bt mp N):
 dm≠p/\some dm≠v.ownBlock/\dm≠bw/\dm≠bt/\dm≠mp/\dm≠x/\dm≠d:=by
 have aa:=h.at_.rn.now.at_;obtain ⟨es,c,hm⟩:=h.mo;exact ⟨notM hm h.at_.gra.hp,notM61 h.at_.gra.row hm,notM hm aa.sw.hb,notM hm aa.st.hb,h.ne.symm,notM hm (show w.heap[x]? =_ from h.at_.ix),notM hm h.cell⟩
theorem DkX.ikp (h:DkX w0 w d dm n L x p q v R B W T D pw bw pt bt mp N) (k:Ikp p v.ownBlock bw bt mp w w'):KD dm w w':=by
 refine ⟨k.os,k.tape,k.output,k.size,λ j o h1 h2=>?_,?_⟩
 ·obtain ⟨a1,a2,a3,a4,a5,_,_⟩:=h.off h1 h2
  exact (k.block j (G.lt_of_some h1) a1 a2 a3 a4 a5).trans h1
 ·obtain ⟨a1,a2,a3,a4,a5,_,_⟩:=h.offm
  exact k.block dm h.lm a1 a2 a3 a4 a5
def endE:Except Int (List UInt8)->Ending
 | .ok b=>.returned (.string ⟨b.toArray⟩)
 | .error c=>thrown c
def DkPost (w0:World) (d dm:Nat) (o:Except Int (List UInt8) × Nat × List G.E) (w:World) (e:Ending) (w':World):Prop:=
 e=endE o.1/\DkS w0 w' d dm o.2.1 o.2.2/\KD dm w w'
theorem post_read {b:List UInt8} {e:Ending} (h:DkS w0 w d dm n L) (he:e= .returned (.string ⟨b.toArray⟩)) (hb:Below w.heap.size w w'):DkPost w0 d dm (.ok b,n,L) w e w':=
 ⟨he,h.below' hb,KD.of_below hb h.lm⟩
theorem post_err {c:Int} {e:Ending} (h:DkS w0 w d dm n L) (he:e=thrown c) (hb:Below w.heap.size w w'):DkPost w0 d dm (.error c,n,L) w e w':=
 ⟨he,h.below' hb,KD.of_below hb h.lm⟩
theorem DkX.put (h:DkX w0 w d dm n L x p q v R B W T D pw bw pt bt mp N) {w1:World} {n' y p' q':Nat} {v':Value} {L' R' B':List G.E} {W' T':List Nat} {D':DataW Unit} {pw' bw' pt' bt' mp' N':Nat}
 (hb:Below w.heap.size w w1) (hy:IAt w w1 y p' q' n' v' L' R' B' W' T' D' pw' bw' pt' bt' mp' N'):
 DkS w0 (w1.setCell ⟨d,0,none⟩ (.pointer (some ⟨y,0,none⟩))) d dm n' L'/\KD dm w (w1.setCell ⟨d,0,none⟩ (.pointer (some ⟨y,0,none⟩))):=by
 have hdl:=G.lt_of_some h.cell;have hd1:w1.heap[d]? =some (.cells #[.pointer (some ⟨x,0,none⟩)] 113):=(hb.block d hdl).trans h.cell;have oth:∀k,k≠d->(w1.setCell ⟨d,0,none⟩ (.pointer (some ⟨y,0,none⟩))).heap[k]? =w1.heap[k]? :=λ k hk=>Below.heap_setCell _ _ _ _ hk
 have hb0:=h.at_.rn.below;obtain ⟨es,c,hm⟩:=h.mo;have hmd:dm≠d:=notM hm h.cell;refine ⟨⟨y,p',q',v',R',B',W',T',D',pw',bw',pt',bt',mp',N',(hy.base hb0).same ?_ (λ k hk=>oth k ?_),?_,h.hd,?_,es,c,?_⟩,hb.os,hb.tape,hb.output,?_,λ k o h1 h2=>?_,?_⟩
 ·have h2:=(hy.base hb0).rn.below
  exact ⟨h2.os,h2.tape,h2.output,by simp;exact h2.size,λ j hj=>(oth j (by have:=h.hd;omega)).trans (h2.block j hj)⟩
 ·have aa:=hy.rn.now.at_
  have g1:=hy.hx;have g2:=hy.hp;have g3:=hy.rn.hb;rintro rfl;rcases hk with e | e | e | e | e | e | e | e | e
  ·omega
  ·omega
  ·have:=(hy.gra.lt e).1
   omega
  ·exact notC hd1 aa.hp (by decide) e
  ·exact notC hd1 aa.sw.hp (by decide) e
  ·omega
  ·exact notC hd1 aa.st.hp (by decide) e
  ·omega
  ·omega
 ·simp only [World.setCell,Array.getElem?_modify,hd1]
  simp
 ·have:=hy.rn.hb
  have:=h.lm;omega
 ·exact (oth dm hmd).trans ((hb.block dm h.lm).trans hm)
 ·simp
  exact hb.size
 ·exact (oth k (h.off h1 h2).2.2.2.2.2.2).trans ((hb.block k (G.lt_of_some h1)).trans h1)
 ·exact (oth dm hmd).trans (hb.block dm h.lm)
end Go.Proofs.YtebcjaenhiiflaaGreatDoor.I
namespace Go.Proofs.YtebcjaenhiiflaaGreatDoor.I
open Go.RowKit Go.WideMaps Go.Maps Go.Lib
variable {w0 wa w w':World} {d dm n x p q:Nat} {v:Value} {L R B:List G.E} {W T:List Nat} {D:DataW Unit} {pw bw pt bt mp N:Nat}
structure Dw (w0 wa w:World) (d dm n:Nat) (L:List G.E) (w':World):Prop where
 s:DkS w0 w' d dm n L
 k:KD dm wa w'
 new:∀k,wa.heap.size<=k->k<w.heap.size->w'.heap[k]? =w.heap[k]?
 dsk:w'.heap[d]? =w.heap[d]?
theorem Dw.still (h:DkS w0 wa d dm n L) (hb:Below wa.heap.size wa w) (hb2:Below w.heap.size w w'):Dw w0 wa w d dm n L w':=by
 obtain ⟨x,p,q,v,R,B,W,T,D,pw,bw,pt,bt,mp,N,h⟩:=h;have h1:=h.below' hb;exact ⟨⟨x,p,q,v,R,B,W,T,D,pw,bw,pt,bt,mp,N,h1.below' hb2⟩,(KD.of_below hb h.lm).trans (KD.of_below hb2 h1.lm),λ k _ hk=>hb2.block k hk,hb2.block d (G.lt_of_some h1.cell)⟩
theorem dk_iadd (h:DkX w0 wa d dm n L x p q v R B W T D pw bw pt bt mp N) (hb:Below wa.heap.size wa w) (id a b:Int):
 Calls Tryz.prog 21 #[.pointer (some ⟨x,0,none⟩),.int .i64 id,.int .i64 a,.int .i64 b] w λ e w'=>∃ok,e= .returned (.tuple #[.bool ok,G.errV (addC n L id a b)])/\Dw w0 wa w d dm n (addL n L id a b) w'/\(addC n L id a b=0->(ok=true↔id∈brz n (addL n L id a b))):=by
 have h1:=h.below' hb;by_cases hc:addC n L id a b=0
 ·have hf:=(addC_zero h.at_.ok id a b).1 hc
  obtain ⟨a,rfl⟩:=Int.eq_ofNat_of_zero_le hf.2.1.1;obtain ⟨b,rfl⟩:=Int.eq_ofNat_of_zero_le hf.2.2.1.1;refine (iadd_ok id a b w h1.at_ hf).mono ?_;rintro e w' ⟨ok,v',B',W',T',D',N',rfl,h2,hok,hk,hfr⟩;have e1:addL n L id (a:Int) (b:Int)=G.putE L (edg id (a:Int) (b:Int)):=by unfold addL;rw [if_pos hc]
  have hkd:=h1.ikp hk;have aa:=h.at_.rn.now.at_;have hd:w'.heap[d]? =some (.cells #[.pointer (some ⟨x,0,none⟩)] 113):=ik_cells h1.at_ hk h1.cell (by decide) (by decide) (by decide);obtain ⟨es,c,hm⟩:=h1.mo;refine ⟨ok,by rw [hc];simp [G.errV],⟨?_,(KD.of_below hb h.lm).trans hkd,λ k k1 k2=>?_,hd.trans h1.cell.symm⟩,λ _=>?_⟩
  ·rw [e1]
   exact ⟨x,p,q,v',_,B',W',T',D',pw,bw,pt,bt,mp,N',h2,hd,h.hd,h.ne,es,c,hkd.map.trans hm⟩
  ·have l1:=h.at_.gra.plt
   have l2:=aa.sw.blt;have l3:=aa.st.blt;have l4:=map_lt aa;refine hk.block k k2 (by omega) (λ e=>?_) (by omega) (by omega) (by omega);have:=(h.at_.gra.lt e.symm).2;omega
  ·rw [e1,mem_brz (st_perm h2.rn.now.st h2.perm) h2.ok,hok]
   constructor
   ·exact λ k=>⟨_,k,rfl⟩
   ·rintro ⟨e,he,hei⟩
    have hL:=((h2.rn.now.st.hB e).1 he).1;have hu:=h2.rn.now.st.one e hL (edg id (a:Int) (b:Int)) (by simp) hei;rw [<-hu];exact he
 ·refine (iadd_no id a b w h1.at_ hc).mono ?_
  rintro e w' ⟨rfl,hb2⟩;refine ⟨false,by simp [G.errV,hc],?_,λ k=>absurd k hc⟩;unfold addL;rw [if_neg hc];exact Dw.still ⟨x,p,q,v,R,B,W,T,D,pw,bw,pt,bt,mp,N,h⟩ hb hb2
theorem dk_idrop (h:DkX w0 wa d dm n L x p q v R B W T D pw bw pt bt mp N) (hb:Below wa.heap.size wa w) (id:Int):
 Calls Tryz.prog 18 #[.pointer (some ⟨x,0,none⟩),.int .i64 id] w λ e w'=>e= .returned (G.errV (dropC L id))/\Dw w0 wa w d dm n (dropL L id) w':=by
 have h1:=h.below' hb;rcases seen_place h.at_.ok.up id with ⟨z,k1,k2,k3⟩ | ⟨k1,k3⟩
 ·refine (idrop_ok2 id (G.place L id) z w h1.at_ rfl k1 k3).mono ?_
  rintro e w' ⟨rfl,q',v',R',B',W',T',D',pw',bw',pt',bt',mp',N',h4,_,hsz,hk⟩;have e1:dropL L id=L.take (G.place L id)++L.drop (G.place L id+1):=by simp [dropL,k3]
  obtain ⟨es,c,hm⟩:=h1.mo;have hmk:w'.heap[dm]? =w.heap[dm]? :=by
   obtain ⟨a1,a2,_,_,_,a6,_⟩:=h1.offm;exact hk dm h1.lm a1 a2 a6
  have hix:w.heap[x]? =_:=h1.at_.ix;have hd:w'.heap[d]? =w.heap[d]? :=hk d (G.lt_of_some h1.cell) (notC h1.cell h1.at_.gra.hp (by decide)) (not61 h1.at_.gra.row h1.cell (by decide)) (notC h1.cell hix (by decide));have hbb:=h4.rn.below;have hba:=h1.at_.rn.below;refine ⟨by simp [dropC,k3,G.errV],?_,(KD.of_below hb h.lm).trans ⟨hbb.os.trans hba.os.symm,hbb.tape.trans hba.tape.symm,hbb.output.trans hba.output.symm,hsz.2,λ k o j1 j2=>?_,hmk⟩,λ k j1 j2=>?_,hd⟩
  ·rw [e1]
   exact ⟨x,p,q',v',R',B',W',T',D',pw',bw',pt',bt',mp',N',h4,hd.trans h1.cell,h.hd,by have:=h1.lm;omega,es,c,hmk.trans hm⟩
  ·obtain ⟨a1,a2,_,_,_,a6,_⟩:=h1.off j1 j2
   exact (hk k (G.lt_of_some j1) a1 a2 a6).trans j1
  ·have l1:=h.at_.gra.plt
   have l2:=h.at_.ix.lt;refine hk k j2 (by omega) (λ e=>?_) (by omega);have:=(h.at_.gra.lt e.symm).2;omega
 ·refine (idrop_no id w h1.at_ k3).mono ?_
  rintro e w' ⟨rfl,hb2⟩;have e1:dropL L id=L:=by simp [dropL,k3]
  refine ⟨by simp [dropC,k3,G.errV],?_⟩;rw [e1];exact Dw.still ⟨x,p,q,v,R,B,W,T,D,pw,bw,pt,bt,mp,N,h⟩ hb hb2
theorem in_cells {ns:List Int} {u:Value} (h:InAt wa w ns u) (h0:0<ns.length):∃g c,u= .slice (some ⟨g,0,none⟩) ns.length c/\wa.heap.size<=g/\g<w.heap.size/\∀(j:Nat) y,ns[j]? =some y->w.cell? ⟨g,j,none⟩=some (.int .i64 y):=by
 rcases h.1.2 with ⟨_,hz⟩ | ⟨g,cap,cur,rfl,hb,hg,hc,_⟩
 ·omega
 ·refine ⟨g,cap,rfl,hb,G.lt_of_some hg,λ j y hy=>?_⟩
  have:=h.1.cells rfl j (.int .i64 y) (by unfold inV;rw [List.getElem?_map,hy];rfl)
  rwa [G.addr0_add] at this
theorem cell_kept1 {g j:Nat} {u:Value} (hk:w'.heap[g]? =w.heap[g]?) (hc:w.cell? ⟨g,j,none⟩=some u):w'.cell? ⟨g,j,none⟩=some u:=
 (World.cell?_of_block (a:=⟨g,j,none⟩) hk).trans hc
def inB (n:Nat) (i j:Int):Prop:=(0<=i/\i<(n:Int))/\0<=j/\j<(n:Int)
instance (n:Nat) (i j:Int):Decidable (inB n i j):=by unfold inB;infer_instance
noncomputable def wlz (n:Nat) (L:List G.E):List Nat:=
 open Classical in if h:∃W:List Nat,∃R B T,S.St n R W T B/\R.Perm L then h.choose else []
theorem wlz_eq (s:S.St n R W T B) (hp:R.Perm L) (hL:S.Unl L):W=wlz n L:=by
 have hu:S.Unl R:=hp.symm.pairwise hL (λ {_ _} k=>k.symm);have h:∃W:List Nat,∃R B T,S.St n R W T B/\R.Perm L:=⟨W,R,B,T,s,hp⟩;unfold wlz;rw [dif_pos h];obtain ⟨R',B',T',s',hp'⟩:=h.choose_spec;exact (S.same_all s s' (hp.trans hp'.symm) hu).1
noncomputable def whB (n:Nat) (L:List G.E) (i j:Int):Bool:=(((wlz n L).getD i.toNat 0:Nat):Int)==(((wlz n L).getD j.toNat 0:Nat):Int)
noncomputable def twB (n:Nat) (L:List G.E) (i j:Int):Bool:=(((twz n L).getD i.toNat 0:Nat):Int)==(((twz n L).getD j.toNat 0:Nat):Int)
theorem inB_nat {i j:Int} (h:inB n i j):∃a b:Nat,i=(a:Int)/\j=(b:Int)/\a<n/\b<n:=by
 obtain ⟨⟨h1,h2⟩,h3,h4⟩:=h;exact ⟨i.toNat,j.toNat,by omega,by omega,by omega,by omega⟩
theorem inB_not {i j:Int} (h:¬inB n i j):S.Strange n i\/S.Strange n j:=by
 unfold inB at h;unfold S.Strange;omega
theorem iwhole_in {a b:Nat} (h:IV w a b x n L) {i j:Int} (hi:inB n i j):
 Calls Tryz.prog 26 #[.pointer (some ⟨x,0,none⟩),.int .i64 i,.int .i64 j] w λ e w'=>e= .returned (.tuple #[.bool (whB n L i j),.nilIface])/\Below w.heap.size w w':=by
 obtain ⟨c,e,rfl,rfl,h1,h2⟩:=inB_nat hi;obtain ⟨W,T,B,s⟩:=h.st;have:=iwhole h s c e h1 h2;unfold whB;rw [<-wlz_eq s (List.Perm.refl _) h.ok.unl]
 simpa using this
theorem itwice_in {a b:Nat} (h:IV w a b x n L) {i j:Int} (hi:inB n i j):
 Calls Tryz.prog 27 #[.pointer (some ⟨x,0,none⟩),.int .i64 i,.int .i64 j] w λ e w'=>e= .returned (.tuple #[.bool (twB n L i j),.nilIface])/\Below w.heap.size w w':=by
 obtain ⟨c,e,rfl,rfl,h1,h2⟩:=inB_nat hi;have:=itwice h c e h1 h2;unfold twB
 simpa using this
theorem iwhole_out {a b:Nat} (h:IV w a b x n L) {i j:Int} (hi:¬inB n i j):
 Calls Tryz.prog 26 #[.pointer (some ⟨x,0,none⟩),.int .i64 i,.int .i64 j] w λ e w'=>e= .returned (.tuple #[.bool false,.iface 23 (.int .i64 2)])/\Below w.heap.size w w':=by
 obtain ⟨p,q,v,R,B',W',T',D,pw,bw,pt,bt,mp,N,g,h⟩:=h;have hl:=h.now.st.gw.len;have HI:=kd (S.whole_out i j w h.now.at_ (by rw [hl];exact inB_not hi));have hc:=h.ix.c1;clear h hl hi;go_enter Tryz.func26,Tryz.ntmps26;go_wp2_with (go_at_call 75;refine Calls.mono HI.out ?_;rintro e w1 ⟨rfl,hb⟩);go_ret2;exact ⟨rfl,hb⟩
theorem itwice_out {a b:Nat} (h:IV w a b x n L) {i j:Int} (hi:¬inB n i j):
 Calls Tryz.prog 27 #[.pointer (some ⟨x,0,none⟩),.int .i64 i,.int .i64 j] w λ e w'=>e= .returned (.tuple #[.bool false,.iface 23 (.int .i64 2)])/\Below w.heap.size w w':=by
 obtain ⟨p,q,v,R,B',W',T',D,pw,bw,pt,bt,mp,N,g,h⟩:=h;have hl:=h.now.st.gt.len;have HI:=kd (S.twice_out i j w h.now.at_ (by rw [hl];exact inB_not hi));have hc:=h.ix.c1;clear h hl hi;go_enter Tryz.func27,Tryz.ntmps27;go_wp2_with (go_at_call 76;refine Calls.mono HI.out ?_;rintro e w1 ⟨rfl,hb⟩);go_ret2;exact ⟨rfl,hb⟩
end Go.Proofs.YtebcjaenhiiflaaGreatDoor.I
namespace Go.Proofs.YtebcjaenhiiflaaGreatDoor.I
open Go.RowKit Go.WideMaps Go.Maps Go.Lib
variable {w0 wa w w':World} {d dm n:Nat} {L:List G.E}
abbrev Out:=Except Int (List UInt8) × Nat × List G.E
def dkNodes (n:Nat) (L:List G.E) (k:Int):Out:=if 0<=k/\k<=40 then (.ok [110,111,100,101,115],k.toNat,[]) else (.error 2,n,L)
theorem desk_cell {x:Nat} (h:w.heap[d]? =some (.cells #[.pointer (some ⟨x,0,none⟩)] 113)):w.cell? ⟨d,0,none⟩=some (.pointer (some ⟨x,0,none⟩))/\w.frozen? ⟨d,0,none⟩=false:=by
 constructor
 ·simp [World.cell?,h]
 ·simp [World.frozen?,h]
theorem dk_nodes {k:Int} {u:Value} (h:DkS w0 wa d dm n L) (hn:InAt wa w [k] u):
 Calls Tryz.prog 158 #[.pointer (some ⟨d,0,none⟩),u] w (DkPost w0 d dm (dkNodes n L k) wa):=by
 obtain ⟨g,c,rfl,_,_,hc⟩:=in_cells hn (by simp);have h0:=hc 0 k rfl;have HBA:=kd hn.2;clear hc;unfold dkNodes;by_cases hk:0<=k/\k<=40
 ·rw [if_pos hk]
  obtain ⟨m,rfl⟩:=Int.eq_ofNat_of_zero_le hk.1;obtain ⟨x,p,q,v,R,B,W,T,D,pw,bw,pt,bt,mp,N,h⟩:=h;have HH:=kd h;have HH1:=kd (h.below' hn.2);have HN:=kd (inew_in m w (by omega));clear h hk hn;go_enter Tryz.func158,Tryz.ntmps158;go_wp2_with fail;refine Calls.mono HN.out ?_;rintro e w1 ⟨y,p',q',v',B',W',T',D',pw',bw',pt',bt',mp',N',rfl,hy⟩;have HY:=kd hy;obtain ⟨hc1,hf1⟩:=desk_cell ((hy.rn.below.block d (G.lt_of_some HH1.out.cell)).trans HH1.out.cell);have HS:=kd (soundX_none (some ⟨y,0,none⟩) w1);clear hy HN;go_wp2_with fail;refine Calls.mono HS.out ?_;rintro e w2 ⟨rfl,hw2⟩;subst w2;go_wp2_with fail;go_ret;have hp:=HH1.out.put HY.out.rn.below HY.out;exact ⟨rfl,hp.1,(KD.of_below HBA.out HH.out.lm).trans hp.2⟩
 ·rw [if_neg hk]
  have HH:=kd h;have HN:=kd (inew_out k w (by omega));have HS:=kd (soundX_err none 23 (.int .i64 2) w);clear h hk hn;go_enter Tryz.func158,Tryz.ntmps158;go_wp2_with fail;refine Calls.mono HN.out ?_;rintro e w1 ⟨rfl,hw1⟩;subst w1;go_wp2_with fail;refine Calls.mono HS.out ?_;rintro e w2 ⟨rfl,hw2⟩;subst w2;exact ⟨rfl,post_err HH.out rfl HBA.out⟩
theorem saved_small (h:Ok n L):(⟨(svI n L).toArray⟩:ByteArray).size<=100000:=by
 have h1:=svI_len h L.length;rw [List.take_length] at h1;show (svI n L).toArray.size<=100000;rw [List.size_toArray];omega
theorem dk_reload (u:Value) (h:DkS w0 wa d dm n L) (hb:Below wa.heap.size wa w) (hv:Vars w):
 Calls Tryz.prog 160 #[.pointer (some ⟨d,0,none⟩),u] w (DkPost w0 d dm (.ok [114,101,108,111,97,100],n,L) wa):=by
 obtain ⟨x,p,q,v,R,B,W,T,D,pw,bw,pt,bt,mp,N,h⟩:=h;have HBA:=kd hb;have HL:=kd h.lm;have HH:=kd (h.below' hb);have HV:=kd hv;have HOK:=kd h.at_.ok;have HS:=kd (isaved (HH.out.at_.iv (Nat.le_refl _) (Nat.le_refl _)) hv);obtain ⟨hc,_⟩:=desk_cell HH.out.cell;obtain ⟨s,hs⟩:∃s,s=(⟨(svI n L).toArray⟩:ByteArray):=⟨_,rfl⟩;rw [<-hs] at HS;have HSS:=kd hs;clear h hb hv hs;go_enter Tryz.func160,Tryz.ntmps160;go_wp2_with fail;refine Calls.mono HS.out ?_;rintro e w1 ⟨rfl,hb1⟩;have HB1:=kd hb1;have HLO:=kd (load_any s w1 (by rw [HSS.out];exact saved_small HOK.out) (HV.out.below hb1));have HH1:=kd (HH.out.below' hb1);clear hb1 hc HS;go_wp2_with fail;refine Calls.mono HLO.out ?_;rintro e w2 (⟨n',L',ht,y,p',q',v',R',B',W',T',D',pw',bw',pt',bt',mp',N',rfl,hy⟩ | ⟨hno,_⟩)
 ·have hin:n'=n/\L'=L:=svE_inj ht.1 HOK.out (by
   have h2:=ht.2;rw [HSS.out] at h2;rw [<-h2,svE_ok HOK.out])
  obtain ⟨rfl,rfl⟩:=hin;have HY:=kd hy;obtain ⟨hc1,hf1⟩:=desk_cell ((hy.rn.below.block d (G.lt_of_some HH1.out.cell)).trans HH1.out.cell);have HSO:=kd (soundX_none (some ⟨y,0,none⟩) w2);clear hy ht HLO;go_wp2_with fail;refine Calls.mono HSO.out ?_;rintro e w3 ⟨rfl,hw3⟩;subst w3;go_wp2_with fail;go_ret;have hp:=HH1.out.put HY.out.rn.below HY.out;exact ⟨rfl,hp.1,(KD.of_below HBA.out HL.out).trans ((KD.of_below HB1.out HH.out.lm).trans hp.2)⟩
 ·exact absurd (⟨HOK.out,by rw [HSS.out,svE_ok HOK.out]⟩:Tells s.data.toList n L) (hno n L)
end Go.Proofs.YtebcjaenhiiflaaGreatDoor.I
