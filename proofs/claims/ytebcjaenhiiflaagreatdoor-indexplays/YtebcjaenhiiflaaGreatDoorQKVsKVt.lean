import Derived.Test.YtebcjaenhiiflaaGreatDoorQKdKVr
set_option maxHeartbeats 4000000
set_option maxRecDepth 100000
namespace Go.Proofs.YtebcjaenhiiflaaGreatDoor.S
open Go.RowKit Go.WideMaps Go.Maps Go.Proofs.Tryz
def zd8 (x:Int × Int):List Value:=[.int .i64 (x.1),.int .i64 (x.2)]
def rowP (L:List (Int × Int)):List Value:=L.flatMap zd8
theorem zcg (x:Int × Int) (L:List (Int × Int)):rowP (x::L)=zd8 x++rowP L:=rfl
theorem rowP_append (L M:List (Int × Int)):rowP (L++M)=rowP L++rowP M:=by simp [rowP]
theorem za1:∀L:List (Int × Int),(rowP L).length=L.length*2
 | []=>rfl
 | x::L=>by rw [zcg,List.length_append,za1 L];simp [zd8];omega
theorem zd5:∀(L:List (Int × Int)),∀u∈rowP L,u.oneCell'=true
 | [],u,h=>by simp [rowP] at h
 | x::L,u,h=>by
   rw [zcg,List.mem_append] at h;rcases h with h | h
   ·simp [zd8] at h
    rcases h with rfl | rfl <;> rfl
   ·exact zd5 L u h
theorem zg6:∀(L:List (Int × Int)) (i:Nat) (x:Int × Int),L[i]? =some x->(rowP L)[i*2]? =some (.int .i64 (x.1))/\(rowP L)[i*2+1]? =some (.int .i64 (x.2))
 | [],i,x,h=>by simp at h
 | y::L,0,x,h=>by
   simp at h;subst h;simp [zcg,zd8]
 | y::L,i+1,x,h=>by
   simp at h;have:=zg6 L i x h;rw [zcg];have e1:(i+1)*2=(i*2)+2:=by omega
   rw [e1]
   simpa [zd8] using this
def zan (w:World) (B:Nat) (v:Value) (L:List (Int × Int)):Prop:=w.ownsRow B 180 2 v L.length (rowP L)
theorem zan.below {w w':World} {B:Nat} {v:Value} {L:List (Int × Int)} (h:zan w B v L) (hb:Below w.heap.size w w'):zan w' B v L:=World.ownsRow.kept h (zai hb) (Classical.em _)
theorem zan.shape {w:World} {B:Nat} {v:Value} {L:List (Int × Int)} (h:zan w B v L):∃a cap,v= .slice a L.length cap/\(0<L.length->∃g,a=some ⟨g,0,none⟩/\∀j x,L[j]? =some x->w.cell? ⟨g,j*2,none⟩=some (.int .i64 (x.1))/\w.cell? ⟨g,j*2+1,none⟩=some (.int .i64 (x.2))):=by
 have h0:=h;unfold zan at h0;rcases h.2 with ⟨rfl,hz⟩ | ⟨g,cap,cur,rfl,hb,hg,_⟩
 ·exact ⟨none,0,by rw [hz],λ k=>by omega⟩
 ·refine ⟨_,cap,rfl,λ _=>⟨g,rfl,λ j x hx=>?_⟩⟩
  obtain ⟨r0,r1⟩:=zg6 L j x hx;have hj:=(List.getElem?_eq_some_iff.1 hx).1;have hl:=za1 L;refine ⟨?_,?_⟩
  ·rw [h0.cellAt (j*2) (by omega)]
   exact r0
  ·rw [h0.cellAt (j*2+1) (by omega)]
   exact r1
def zP:Value:=.agg #[.int .i64 0,.int .i64 0]
theorem z6i:∃i,prog.info? 180=some i/\i.size=2/\i.bytes=16/\i.zero=some zP:=
 ⟨(prog.info? 180).get (by kernel_rfl),by kernel_rfl,by kernel_rfl,by kernel_rfl,by kernel_rfl⟩
theorem zkr:zP.cells=#[.int .i64 0,.int .i64 0]:=by kernel_rfl
theorem pair_cells (W:World) (x y:Int) (j:Nat) (u:Value) (h:(rowP [(x,y)])[j]? =some u):(W.alloc (.cells #[.int .i64 x,.int .i64 y] 180)).cell? ((⟨W.heap.size,0,none⟩:Addr).add j)=some u:=by
 rw [G.zbm];have hh:=heap_alloc_new W (.cells #[.int .i64 x,.int .i64 y] 180);simp only [World.cell?,hh]
 simpa [rowP,zd8] using h
theorem zan.mono {w:World} {B B':Nat} {v:Value} {L:List (Int × Int)} (h:zan w B v L) (hB:B'<=B):zan w B' v L:=by
 refine ⟨h.1,?_⟩;rcases h.2 with hh | ⟨g,cap,cur,h1,h2,h3,h4⟩
 ·exact Or.inl hh
 ·exact Or.inr ⟨g,cap,cur,h1,by omega,h3,h4⟩
theorem zkk (ty:TypeId) (w:World) (B:Nat) (v:Value) (L M:List (Int × Int)) (h:zan w B v L) (hB:B<=w.heap.size) (a:Addr) (m c:Nat) (hm:m=M.length) (hM:∀j u,(rowP M)[j]? =some u->w.cell? (a.add j)=some u) (hl:L.length+M.length<=1000000):
 ∃v' w',(Builtin.append_ #[65,65] ty #[v,.slice (some a) m c]).run prog w= .ok v' w'/\zan w' B v' (L++M)/\w.grownBy w' v.ownBlock/\G.zbr w v v':=by
 subst hm;obtain ⟨i,hi,hs,hb,hz⟩:=z6i;have own:∀B',zan w B' v L->B'<=w.heap.size->∃v' w',(Builtin.append_ #[65,65] ty #[v,.slice (some a) M.length c]).run prog w= .ok v' w'/\zan w' B' v' (L++M)/\w.grownBy w' v.ownBlock:=by
  intro B' h' hB';obtain ⟨v',w',h1,h2,h3,_⟩:=run_append_own (P:=prog) w B' 65 ty 180 i zP 2 16 underlying65 hi hz hs hb (by rw [zkr];rfl) (by omega) v L.length (rowP L) h' a M.length c (rowP M) (za1 M) hM (zd5 M) (by simp only [maxLen];omega) (by omega) hB';refine ⟨v',w',h1,?_,h3⟩;show w'.ownsRow B' 180 2 v' (L++M).length (rowP (L++M));rw [List.length_append,rowP_append];exact h2
 rcases h.2 with ⟨rfl,h0⟩ | ⟨g,cap,cur,rfl,h1,h2,h3,h4,h5,h6⟩
 ·have hL:L=[]:=List.eq_nil_of_length_eq_zero h0
  subst hL;obtain ⟨v',w',e1,e2,e3⟩:=own w.heap.size (World.ownsRow_nil w _ 180 2) (Nat.le_refl _);exact ⟨v',w',e1,e2.mono hB,e3,λ k hk=>Or.inr (World.ownsRow.lt e2 k hk).1⟩
 ·obtain ⟨v',w',e1,e2,e3⟩:=own B h hB
  refine ⟨v',w',e1,e2,e3,?_⟩;by_cases hroom:L.length+M.length<=cap
  ·have hr:=run_append_room (P:=prog) w 65 ty 180 i underlying65 hi g L.length cap cur h2 a M.length c (rowP M) (by rw [hs];exact za1 M) hM (zd5 M) hroom (by rw [hs,h5,za1];omega)
   rw [hr] at e1;injection e1 with e1 _
   subst e1;intro k hk;exact Or.inl hk
  ·have hr:=run_append_grow (P:=prog) w 65 ty 180 i zP underlying65 hi hz ⟨g,0,none⟩ L.length cap (rowP L) (by rw [hs];exact za1 L) (World.ownsRow.cells h rfl) a M.length c (rowP M) (by rw [hs];exact za1 M) hM (by omega) (by omega) (growslice_fits (by omega) (by rw [hb];omega))
   rw [hr] at e1;injection e1 with e1 _
   subst e1;intro k hk;have hk':w.heap.size=k:=by simpa [Value.ownBlock] using hk
   exact Or.inr (by omega)
theorem zfi (ty:TypeId) (W:World) (B:Nat) (u:Value) (M:List (Int × Int)) (x y:Int) (h:zan W B u M) (hB:B<=W.heap.size) (hl:M.length<=100000):
 ∃v' w',(Builtin.append_ #[65,65] ty #[u,.slice (some ⟨W.heap.size,0,none⟩) 1 1]).run prog (W.alloc (.cells #[.int .i64 x,.int .i64 y] 180))= .ok v' w'/\zan w' B v' (M++[(x,y)])/\W.grownBy w' u.ownBlock/\G.zbr W u v':=by
 have hbx:Below W.heap.size W (W.alloc (.cells #[.int .i64 x,.int .i64 y] 180)):=(Below.refl _ _).alloc (Nat.le_refl _) _;obtain ⟨v',w',h1,h2,h3,h4⟩:=zkk ty _ B u M [(x,y)] (h.below hbx) (Nat.le_trans hB (by simp)) ⟨W.heap.size,0,none⟩ 1 1 rfl (pair_cells W x y) (by simp;omega);refine ⟨v',w',h1,h2,⟨h3.os.trans hbx.os,h3.tape.trans hbx.tape,h3.output.trans hbx.output,Nat.le_trans hbx.size h3.size,λ k hk hn=>(h3.block k (Nat.lt_of_lt_of_le hk hbx.size) hn).trans (hbx.block k hk)⟩,λ k hk=>?_⟩;rcases h4 k hk with h5 | h5
 ·exact Or.inl h5
 ·exact Or.inr (Nat.le_trans (by simp) h5)
def zam:List Edg->(Edg->Edg->Bool)->List (Int × Int)
 | [],_=>[]
 | e::R,q=>((R.filter (q e)).map λ d=>(e.1,d.1))++zam R q
theorem zhg (p:Edg->Bool) (q:Edg->Edg->Bool):∀R,zam (R.filter p) q=zam R λ e d=>p e&&p d&&q e d
 | []=>rfl
 | e::R=>by
   have ih:=zhg p q R;rw [List.filter_cons];cases hp:p e with
   | true=>
     simp only [if_true,zam,ih,hp,List.filter_filter,Bool.true_and]
     congr 2
     apply List.filter_congr;intro d _;cases p d <;> simp
   | false=>
     simp only [Bool.false_eq_true,if_false,zam,ih,hp,Bool.false_and];simp
theorem zfb (q:Edg->Edg->Bool):∀R:List Edg,(zam R q).length<=R.length*R.length
 | []=>by simp [zam]
 | e::R=>by
   have ih:=zfb q R;have h1:=List.length_filter_le (q e) R;have h3:(R.length+1)*(R.length+1)=R.length*R.length+2*R.length+1:=by
    rw [Nat.add_mul,Nat.mul_add];omega
   simp only [zam,List.length_append,List.length_map,List.length_cons];omega
theorem z0l {w:World} {B:Nat} {v:Value} {L:List Edg} (h:w.ownsRow B 3 1 v L.length (idV L)):∃a cap,v= .slice a L.length cap/\L.length<=cap/\cap<=maxLen/\(0<L.length->∃g,a=some ⟨g,0,none⟩/\g<w.heap.size/\∀j e,L[j]? =some e->w.cell? ⟨g,j,none⟩=some (.int .i64 e.1)):=by
 have h0:=h;rcases h.2 with ⟨rfl,hz⟩ | ⟨g,cap,cur,rfl,hb,hg,h4,h5,_⟩
 ·exact ⟨none,0,by rw [hz],by omega,by simp [maxLen],λ k=>by omega⟩
 ·refine ⟨_,cap,rfl,h4,h5,λ _=>⟨g,rfl,lt_of_some hg,λ j e he=>?_⟩⟩
  have hj:=(List.getElem?_eq_some_iff.1 he).1;rw [h0.cellAt j (by omega)];simp [idV,he]
theorem drop_at {L:List Edg} {i:Nat} {e:Edg} (h:L[i]? =some e):L.drop i=e::L.drop (i+1):=by
 obtain ⟨hlt,he⟩:=List.getElem?_eq_some_iff.1 h;rw [List.drop_eq_getElem_cons hlt,he]
structure Pq (W3 w:World) (u:Value) (M:List (Int × Int)):Prop where
 own:zan w W3.heap.size u M
 below:Below W3.heap.size W3 w
theorem Pq.drewN {W3 w:World} {u:Value} {M:List (Int × Int)} (h:Pq W3 w u M) (k:Nat):Pq W3 (w.drewN k) u M:=⟨h.own.below (below_drewN (Below.refl _ _) k),below_drewN h.below k⟩
theorem zw3 (c mb rest:Nat) (S R:List Edg) (f:Edg->Nat) (w:World) (h:Cx w c mb rest S R f):
 Calls prog 84 #[.pointer (some ⟨c,0,none⟩)] w λ e w'=>∃v,e= .returned v/\zan w' w.heap.size v (zam (R.filter λ e=>decide (f e≠0)) λ e d=>decide (f e=f d))/\Below w.heap.size w w':=by
 have hb1:Below w.heap.size w (w.alloc (.cells #[.pointer (some ⟨c,0,none⟩)] 106)):=(Below.refl _ _).alloc (Nat.le_refl _) _;have HX:Hid (Cx w c mb rest S R f/\Cb (w.alloc (.cells #[.pointer (some ⟨c,0,none⟩)] 106)) w.heap.size c mb rest S f/\Cx (w.alloc (.cells #[.pointer (some ⟨c,0,none⟩)] 106)) c mb rest S R f):=⟨h,⟨heap_alloc_new w _,h.co.below hb1⟩,h.below hb1⟩;have HI:Hid _:=z3x c mb rest S R f (w.alloc (.cells #[.pointer (some ⟨c,0,none⟩)] 106)) HX.out.2.2.co h.mem h.up HX.out.2.2.small;have hmf':=hmf;clear h hb1;go_enter func84,ntmps84;go_wp2_with fail;refine Calls.mono HI.out ?_;rintro e w2 ⟨v2,rfl,hrow2,hb2⟩;have HW:Hid (w2.ownsRow (w.heap.size+1) 3 1 v2 R.length (idV R)/\Below (w.alloc (.cells #[.pointer (some ⟨c,0,none⟩)] 106)).heap.size (w.alloc (.cells #[.pointer (some ⟨c,0,none⟩)] 106)) w2):=⟨by simpa using hrow2,hb2⟩;have HD:Hid (Calls prog 144 #[v2,.func (.func 146) #[] #[.pointer (some ⟨w.heap.size,0,none⟩)]] w2 λ e w'=>∃v,e= .returned v/\w'.ownsRow w.heap.size 3 1 v (R.filter λ e=>decide (f e≠0)).length (idV (R.filter λ e=>decide (f e≠0)))/\Below w.heap.size w w'/\Cb w' w.heap.size c mb rest S f):=by
  have HB2:Below w.heap.size w w2:=((Below.refl _ _).alloc (Nat.le_refl _) _).trans (HW.out.2.mono (by simp));rcases HW.out.1.2 with ⟨hv,hz⟩ | ⟨g,cap,cur,hv,hbg,_⟩
  ·subst hv
   have hR:R=[]:=List.eq_nil_of_length_eq_zero hz;refine (zm1 w.heap.size w2).mono ?_;rintro e w' ⟨rfl,hw'⟩;subst hw';refine ⟨_,rfl,?_,HB2,HX.out.2.1.below HW.out.2⟩;rw [hR];exact World.ownsRow_nil _ _ _ _
  ·subst hv
   have hbw:=HX.out.2.1;obtain ⟨u,hu⟩:=hbw.co.st;obtain ⟨D0,N0,k1,k2⟩:=hbw.co.mp;have hlb:=lt_of_some hbw.bx;have hlc:=lt_of_some hu;have hlm:=k1.lt;simp at hlb hlc hlm;have hrw:w2.ownsRow (w.heap.size+1) 3 1 (.slice (some ⟨g,0,none⟩) R.length cap) R.length (zdj (R.map (·.1))):=by rw [zrj];exact HW.out.1
   refine (z0e (z3w R λ e=>decide (f e=0)) w.heap.size g R.length cap (w.heap.size+1) (R.map (·.1)) w2 hrw (by rw [List.length_map];have:=HX.out.1.len;omega) (by simp) (λ W hW x hx=>?_)).mono ?_
   ·obtain ⟨e,he,rfl⟩:=List.mem_map.1 hx
    rw [zuh HX.out.1.up _ he];have hcb:Cb W w.heap.size c mb rest S f:=(HX.out.2.1.below HW.out.2).grown hW (by omega) (by omega) (by omega);exact z5h w.heap.size c mb rest S f e W hcb ((HX.out.1.mem e).2 he) (HX.out.1.wf e he)
   ·rintro e w' ⟨v',rfl,hrow',hg'⟩
    refine ⟨v',rfl,?_,?_,(HX.out.2.1.below HW.out.2).grown hg' (by omega) (by omega) (by omega)⟩
    ·rw [zwf R (λ e=>decide (f e=0)) _ (λ e he=>zuh HX.out.1.up _ he),zrj,List.length_map] at hrow'
     have e1:(R.filter λ e=>!decide (f e=0))=R.filter λ e=>decide (f e≠0):=by
      apply List.filter_congr;intro e _;by_cases h0:f e=0 <;> simp [h0]
     rw [e1] at hrow';exact z04 hrow' (by omega)
    ·exact HB2.grown hg' HB2.size (λ j hj=>by injection hj with hj;omega)
 clear hrow2 hb2 HI;go_wp2_with fail;refine Calls.mono HD.out ?_;rintro e w3 ⟨v3,rfl,hrow3,hb3,hcb3⟩;obtain ⟨L,hL⟩:∃L,(R.filter λ e=>decide (f e≠0))=L:=⟨_,rfl⟩;rw [hL] at hrow3;have HL:=kd hL;obtain ⟨T,hT⟩:∃T,(zam L λ e d=>decide (f e=f d))=T:=⟨_,rfl⟩;have HT:=kd hT;have hTl:T.length<=14400:=by
  rw [<-hT];have h1:=zfb (λ e d=>decide (f e=f d)) L;have h2:L.length<=120:=by rw [<-hL];exact Nat.le_trans (List.length_filter_le _ _) HX.out.1.len
  have h3:=Nat.mul_le_mul h2 h2;omega
 obtain ⟨a3,cap,rfl,hcap,hcm,hc3⟩:=z0l hrow3;obtain ⟨m,hm⟩:∃m,L.length=m:=⟨_,rfl⟩;have HM:=kd hm;rw [hm] at hcap hc3 ⊢;have hm60:m<=120:=by rw [<-hm,<-hL];exact Nat.le_trans (List.length_filter_le _ _) HX.out.1.len
 have HC:Hid ((0<m->∃g,a3=some ⟨g,0,none⟩/\g<w3.heap.size/\∀j e,L[j]? =some e->w3.cell? ⟨g,j,none⟩=some (.int .i64 e.1))/\Cb w3 w.heap.size c mb rest S f/\Below w.heap.size w w3):=⟨hc3,hcb3,hb3⟩;have HP0:Hid (∃M,Pq w3 w3 (.slice none 0 0) M/\M++(zam (L.drop 0) λ e d=>decide (f e=f d))=T):=⟨[],⟨World.ownsRow_nil _ _ _ _,Below.refl _ _⟩,by simpa using hT⟩;simp only [maxLen] at hcm;clear hrow3 hb3 hcb3 hc3 hm hL hT HD HW;go_wp2_with fail;go_loopw [4,15] (λ s4 s15 wq=>∃i:Nat,i<=m/\s15= .int .i64 i/\∃M,Pq w3 wq s4 M/\M++(zam (L.drop i) λ e d=>decide (f e=f d))=T) (λ _ s15 _=>m-(intOf s15).toNat)
 case atStart=>exact ⟨0,Nat.zero_le _,rfl,HP0.out⟩
 case round=>
  clear HP0;obtain ⟨i,hi,rfl,M,hpq,hMT⟩:=hrel;have HP:=kd (And.intro hpq hMT);clear hpq hMT;by_cases hlt:i<m
  ·obtain ⟨e,he⟩:∃e,L[i]? =some e:=⟨_,List.getElem?_eq_getElem (by rw [HM.out];exact hlt)⟩
   obtain ⟨g,rfl,hgl,hcell⟩:=HC.out.1 (by omega);have hce:wr.cell? ⟨g,i,none⟩=some (.int .i64 e.1):=(HP.out.1.below.cell (p:=⟨g,i,none⟩) hgl).trans (hcell i e he);have HE:=kd (And.intro he hcell);have HI0:Hid (∃M,Pq w3 wr u4 M/\M++((((L.drop (i+1)).drop 0).filter λ d=>decide (f e=f d)).map (λ d=>(e.1,d.1))++zam (L.drop (i+1)) λ e d=>decide (f e=f d))=T):=⟨M,HP.out.1,by
    have:=HP.out.2;rw [drop_at he] at this;exact this⟩
   obtain ⟨E,hE⟩:∃E,e.1=E:=⟨_,rfl⟩;have HEE:=kd hE;rw [hE] at hce;clear he hcell hE;have hw1:IntKind.i64.wrap ((i:Int)+1)=(i:Int)+1:=by rw [IntKind.wrap_i64];omega
   have hb2:(i:Int)+1<=(m:Int):=by omega
   have hb3:(0:Int)<=(i:Int)+1:=by omega
   have hb4:(i:Int)+1<=(cap:Int):=by omega
   have hb5:(m:Int)<=(cap:Int):=by omega
   have htn:((i:Int)+1).toNat=i+1:=by omega
   by_cases hcj:cap=i+1
   ·go_wp2_with fail
    clear hw1 hb2 hb3 hb4 hb5 htn hce;obtain ⟨r,hr⟩:∃r,m-(i+1)=r:=⟨_,rfl⟩;have HR:=kd hr;rw [hr];go_loopw [4,25] (λ s4 s25 wq=>∃j:Nat,j<=r/\s25= .int .i64 j/\∃M,Pq w3 wq s4 M/\M++((((L.drop (i+1)).drop j).filter λ d=>decide (f e=f d)).map (λ d=>(e.1,d.1))++zam (L.drop (i+1)) λ e d=>decide (f e=f d))=T) (λ _ s25 _=>r-(intOf s25).toNat)
    case atStart=>exact ⟨0,Nat.zero_le _,rfl,HI0.out⟩
    case round=>
     clear HI0 HP;obtain ⟨j,hj,rfl,M,hpq,hMT⟩:=hrel;have HP:=kd (And.intro hpq hMT);clear hpq hMT;by_cases hltj:j<r
     ·exact absurd hltj (by omega)
     ·as_aux_lemma=>
      have HF:Hid (M++(zam (L.drop (i+1)) λ e d=>decide (f e=f d))=T):=by
       have h1:=HP.out.2;have h2:(L.drop (i+1)).drop j=[]:=List.drop_eq_nil_of_le (by rw [List.length_drop,HM.out];omega);rw [h2] at h1;exact h1
      clear hr;go_wp2_with fail;go_roundw;case rel=>exact ⟨i+1,by omega,by go_num,M,HP.out.1,HF.out⟩
      case measure=>simp [intOf];omega
   ·go_wp2_with fail
    clear hw1 hb2 hb3 hb4 hb5 htn hce;obtain ⟨r,hr⟩:∃r,m-(i+1)=r:=⟨_,rfl⟩;have HR:=kd hr;rw [hr];go_loopw [4,25] (λ s4 s25 wq=>∃j:Nat,j<=r/\s25= .int .i64 j/\∃M,Pq w3 wq s4 M/\M++((((L.drop (i+1)).drop j).filter λ d=>decide (f e=f d)).map (λ d=>(e.1,d.1))++zam (L.drop (i+1)) λ e d=>decide (f e=f d))=T) (λ _ s25 _=>r-(intOf s25).toNat)
    case atStart=>exact ⟨0,Nat.zero_le _,rfl,HI0.out⟩
    case round=>
     clear HI0 HP;obtain ⟨j,hj,rfl,M,hpq,hMT⟩:=hrel;have HP:=kd (And.intro hpq hMT);clear hpq hMT;by_cases hltj:j<r
     ·obtain ⟨d,hd⟩:∃d,L[i+1+j]? =some d:=⟨_,List.getElem?_eq_getElem (by rw [HM.out];omega)⟩
      have hcd:wr.cell? ⟨g,i+1+j,none⟩=some (.int .i64 d.1):=(HP.out.1.below.cell (p:=⟨g,i+1+j,none⟩) hgl).trans (HE.out.2 _ d hd);have hdr:(L.drop (i+1)).drop j=d::(L.drop (i+1)).drop (j+1):=drop_at (by rw [List.getElem?_drop];exact hd);have hcb:=HC.out.2.1.below HP.out.1.below;have hb0:wr.cell? ⟨w.heap.size,0,none⟩=some (.pointer (some ⟨c,0,none⟩)):=by simp [World.cell?,hcb.bx]
      have hb1:=hcb.co.cell1;have inL:∀{k:Nat} {x:Edg},L[k]? =some x->x∈R:=λ {k x} hk=>by
       have:=List.mem_of_getElem? hk;rw [<-HL.out] at this;exact (List.mem_filter.1 this).1
      have lk1:=λ n=>((hcb.below (below_drewN (Below.refl _ _) n)).co.zmm ((HX.out.1.mem e).2 (inL HE.out.1)) (HX.out.1.wf e (inL HE.out.1))).2
      have lk2:=λ n=>((hcb.below (below_drewN (Below.refl _ _) n)).co.zmm ((HX.out.1.mem d).2 (inL hd)) (HX.out.1.wf d (inL hd))).2
      unfold zdp at lk1 lk2;have HMl:Hid (M.length<=14400):=by
       have:=congrArg List.length HP.out.2;rw [List.length_append] at this;show M.length<=14400;omega
      have HN:Hid (∀M',(if f e=f d then M'=M++[(e.1,d.1)] else M'=M)->M'++((((L.drop (i+1)).drop (j+1)).filter λ d=>decide (f e=f d)).map (λ d=>(e.1,d.1))++zam (L.drop (i+1)) λ e d=>decide (f e=f d))=T):=λ M' hM'=>by
       have h1:=HP.out.2;rw [hdr,List.filter_cons] at h1;by_cases hfe:f e=f d
       ·rw [if_pos hfe] at hM'
        rw [if_pos (by simpa using hfe)] at h1;rw [hM',<-h1];simp
       ·rw [if_neg hfe] at hM'
        rw [if_neg (by simpa using hfe)] at h1;rw [hM',<-h1]
      obtain ⟨Y,hY⟩:∃Y,d.1=Y:=⟨_,rfl⟩;obtain ⟨x,hx⟩:∃x,f e=x:=⟨_,rfl⟩;obtain ⟨y,hy⟩:∃y,f d=y:=⟨_,rfl⟩;rw [HEE.out,hx] at lk1;rw [hY,hy] at lk2;rw [hY] at hcd;rw [hx,hy,HEE.out,hY] at HN;obtain ⟨x0,hx0⟩:∃x0,zbh x=x0:=⟨_,rfl⟩;obtain ⟨x1,hx1⟩:∃x1,hi64 x=x1:=⟨_,rfl⟩;obtain ⟨y0,hy0⟩:∃y0,zbh y=y0:=⟨_,rfl⟩;obtain ⟨y1,hy1⟩:∃y1,hi64 y=y1:=⟨_,rfl⟩;rw [hx0,hx1] at lk1;rw [hy0,hy1] at lk2;have HXY:Hid (x=y↔x0=y0/\x1=y1):=by
       show _↔_;rw [<-hx0,<-hx1,<-hy0,<-hy1];exact ⟨λ k=>by rw [k];exact ⟨rfl,rfl⟩,λ k=>z4b k.1 k.2⟩
      clear hx0 hx1 hy0 hy1;have heq:=z4t;clear hcb hd hdr inL hY hy;by_cases hxy:x=y
      ·as_aux_lemma=>
       have HNO:Hid _:=HN.out (M++[(E,Y)]) (by rw [if_pos hxy]);obtain ⟨hz0,hz1⟩:=HXY.out.1 hxy;subst hz0;subst hz1;go_upto_region 9 with fail
       go_quiet (fail);have HPQ:=HP.out.1.drewN nq;obtain ⟨v',w4,hrn,ho4,hg4,hf4⟩:=zfi 65 (wr.drewN nq) w3.heap.size u4 M E Y HPQ.own HPQ.below.size (by have:=HMl.out;omega);have HRN:=kd hrn;have HP4:Hid (Pq w3 w4 v' (M++[(E,Y)])):=⟨ho4,HPQ.below.grown hg4 HPQ.below.size (λ k hk=>(World.ownsRow.lt HPQ.own k hk).1)⟩;clear hrn ho4 hg4 hf4 HPQ;go_wp2_with (at_builtin;refine Lib.wpList_append_run _ rfl _ _ _ _ rfl _ _ rfl rfl _ _ HRN.out ?_);go_roundw;case rel=>
        refine ⟨j+1,by omega,by go_num,M++[(E,Y)],HP4.out,?_⟩;have:=HNO.out;rw [hx,HEE.out];exact this
       case measure=>simp [intOf];omega
      ·by_cases hz0:x0=y0
       ·as_aux_lemma=>
        have hz1:¬x1=y1:=λ k=>hxy (HXY.out.2 ⟨hz0,k⟩)
        subst hz0;have hbe:((x1:Int)==(y1:Int))=false:=beq_eq_false_iff_ne.2 (by omega);have HNO:Hid _:=HN.out M (by rw [if_neg hxy]);go_upto_region 9 with fail
        go_quiet (fail);go_wp2_with fail;go_roundw;case rel=>
         refine ⟨j+1,by omega,by go_num,M,HP.out.1.drewN _,?_⟩;have:=HNO.out;rw [hx,HEE.out];exact this
        case measure=>simp [intOf];omega
       ·as_aux_lemma=>
        have hbe:((x0:Int)==(y0:Int))=false:=beq_eq_false_iff_ne.2 (by omega);have HNO:Hid _:=HN.out M (by rw [if_neg hxy]);go_upto_region 9 with fail
        go_quiet (fail);go_wp2_with fail;go_roundw;case rel=>
         refine ⟨j+1,by omega,by go_num,M,HP.out.1.drewN _,?_⟩;have:=HNO.out;rw [hx,HEE.out];exact this
        case measure=>simp [intOf];omega
     ·as_aux_lemma=>
      have HF:Hid (M++(zam (L.drop (i+1)) λ e d=>decide (f e=f d))=T):=by
       have h1:=HP.out.2;have h2:(L.drop (i+1)).drop j=[]:=List.drop_eq_nil_of_le (by rw [List.length_drop,HM.out];omega);rw [h2] at h1;exact h1
      clear hr;go_wp2_with fail;go_roundw;case rel=>exact ⟨i+1,by omega,by go_num,M,HP.out.1,HF.out⟩
      case measure=>simp [intOf];omega
  ·as_aux_lemma=>
   have HF:Hid (zan wr w.heap.size u4 (zam L λ e d=>decide (f e=f d))/\Below w.heap.size w wr):=by
    have hie:i=m:=by omega
    have h1:=HP.out.2;rw [hie,<-HM.out,List.drop_length] at h1;simp only [zam,List.append_nil] at h1;have hb:=HC.out.2.2;have h2:=HP.out.1;rw [h1,<-HT.out] at h2;exact ⟨h2.own.mono hb.size,hb.trans (h2.below.mono hb.size)⟩
   go_wp2_with fail;go_ret;refine ⟨_,rfl,?_,HF.out.2⟩;rw [HL.out];exact HF.out.1
end Go.Proofs.YtebcjaenhiiflaaGreatDoor.S
