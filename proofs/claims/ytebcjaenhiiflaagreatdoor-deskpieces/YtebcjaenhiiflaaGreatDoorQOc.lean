import Derived.Test.YtebcjaenhiiflaaGreatDoorQBbBl
import Derived.Test.YtebcjaenhiiflaaGreatDoorQGYfGD
import Derived.Test.YtebcjaenhiiflaaGreatDoorQIm
set_option maxHeartbeats 4000000
set_option maxRecDepth 100000
namespace Go.Proofs.YtebcjaenhiiflaaGreatDoor.S
open Go.RowKit Go.WideMaps Go.Maps
variable {w0 w w':World} {p pw bw pt bt mp n N:Nat} {R B:List (Int × Int × Int)} {W T:List Nat} {D:DataW Unit}
theorem below_bk (h:Below w0.heap.size w0 w) (k:Bk bw bt mp w w') (h1:w0.heap.size<=bw) (h2:w0.heap.size<=bt) (h3:w0.heap.size<=mp):Below w0.heap.size w0 w':=
 ⟨k.os.trans h.os,k.tape.trans h.tape,k.output.trans h.output,Nat.le_trans h.size k.size,λ j hj=>(k.block j (Nat.lt_of_lt_of_le hj h.size) (by omega) (by omega) (by omega)).trans (h.block j hj)⟩
structure Rn (w0 w:World) (p pw bw pt bt mp n:Nat) (R B:List (Int × Int × Int)) (W T:List Nat) (D:DataW Unit) (N:Nat):Prop where
 now:Now w p pw bw pt bt mp N n R B W T D
 below:Below w0.heap.size w0 w
 unl:Unl R
 ids:∀e∈R,0<=e.1/\e.1<=1099511627776
 bl:B.length<=R.length
 nl:N<=R.length
 rl:R.length<=120
 hb:w0.heap.size<=bw/\w0.heap.size<=bt/\w0.heap.size<=mp
theorem Rn.below' (h:Rn w0 w p pw bw pt bt mp n R B W T D N) (hb:Below w.heap.size w w'):Rn w0 w' p pw bw pt bt mp n R B W T D N:=
 {h with now:=h.now.below hb,below:=h.below.trans (hb.mono h.below.size)}
def RnPost (w0:World) (p pw bw pt bt mp n:Nat) (R:List (Int × Int × Int)) (f:Int × Int × Int) (w:World) (e:Ending) (w':World):Prop:=
 ∃ok B' W' T' D' N',e= .returned (.tuple #[.bool ok,.nilIface])/\Rn w0 w' p pw bw pt bt mp n (R++[f]) B' W' T' D' N'/\Bk bw bt mp w w'/\(ok=true↔f∈B')
theorem wf_id {x:Int} (h:0<=x/\x<=1099511627776):(Lit.int .i64 x).wf=true:=WalkArith.wf_i64 (by omega)
theorem rn_add (h:Rn w0 w p pw bw pt bt mp n R B W T D N) (i:Int) (x y:Nat) (hx:x<n) (hy:y<n) (hxy:x≠y) (hn:n<=40) (hi:0<=i/\i<=1099511627776) (hone:∀e∈R,e.1≠i) (hl:R.length<120):
 Calls Tryz.prog 57 #[.pointer (some ⟨p,0,none⟩),.int .i64 i,.int .i64 (x:Int),.int .i64 (y:Int)] w (RnPost w0 p pw bw pt bt mp n R (edge i x y) w):=by
 refine (badd_in i x y w h.now hx hy hxy hn (by have:=h.nl;omega) (by have:=h.bl;omega) hone (wf_id hi) (λ e he=>wf_id (h.ids e he))).mono ?_;rintro e w' ⟨ok,W',T',D',B',N',rfl,hnow,hBl,hNl,hbk,hok⟩;have hu:Unl (R++[edge i x y]):=by
  unfold Unl;rw [List.pairwise_append];refine ⟨h.unl,List.pairwise_singleton _ _,λ a ha b hb=>?_⟩;rw [List.mem_singleton.1 hb];exact hone a ha
 refine ⟨ok,B',W',T',D',N',rfl,⟨hnow,below_bk h.below hbk h.hb.1 h.hb.2.1 h.hb.2.2,hu,?_,?_,?_,?_,h.hb⟩,hbk,hok⟩
 ·intro e he
  rcases List.mem_append.1 he with he | he
  ·exact h.ids e he
  ·rw [List.mem_singleton.1 he];exact hi
 ·have:=h.bl;simp;omega
 ·have:=h.nl;simp;omega
 ·simp;omega
theorem rn_start {w1:World} (h:BAt w1 p pw bw pt bt mp 0 (List.range n) (List.range n) (.map [])) (hb:Below w.heap.size w w1) (h1:w.heap.size<=bw) (h2:w.heap.size<=bt) (h3:w.heap.size<=mp):Rn w w1 p pw bw pt bt mp n [] [] (List.range n) (List.range n) (.map []) 0:=
 ⟨⟨h,St.start n,Dis.empty⟩,hb,List.Pairwise.nil,by simp,by simp,Nat.le_refl _,by simp,h1,h2,h3⟩
theorem edge_self {i:Int} {x y:Nat} (h:x<y):edge i x y=(i,(x:Int),(y:Int))/\edge i y x=(i,(x:Int),(y:Int)):=by
 unfold edge;rw [show min x y=x by omega,show max x y=y by omega,show min y x=x by omega,show max y x=y by omega];exact ⟨rfl,rfl⟩
theorem ok_ends {L:List (Int × Int × Int)} (h:I.Ok n L) {e:Int × Int × Int} (he:e∈L):∃x y:Nat,x<y/\y<n/\e=(e.1,(x:Int),(y:Int)):=by
 have h1:=h.ed e he;obtain ⟨i,a,b⟩:=e;dsimp only at h1 ⊢;obtain ⟨x,rfl⟩:=Int.eq_ofNat_of_zero_le h1.2.1;obtain ⟨y,rfl⟩:=Int.eq_ofNat_of_zero_le (show 0<=b by omega);exact ⟨x,y,by omega,by omega,rfl⟩
theorem of_gen (n B0 q:Nat) (u:Value) (L:List (Int × Int × Int)) (w:World) (h:G.GAt w B0 168 61 q (n:Int) u L) (hed:I.Ok n L):
 Calls Tryz.prog 54 #[.pointer (some ⟨q,0,none⟩)] w λ e w'=>∃p pw bw pt bt mp B W T D N,e= .returned (.pointer (some ⟨p,0,none⟩))/\Rn w w' p pw bw pt bt mp n L B W T D N:=by
 have HG:Hid (G.GAt w B0 168 61 q (n:Int) u L):=h;have HE:Hid (I.Ok n L):=hed;have hlen:=hed.len;have hn14:=hed.n40;clear h hed;go_enter Tryz.func54,Tryz.ntmps54;go_wp2_with fail;refine (G.nodes_any (n:Int) B0 q u L w HG.out).mono ?_;rintro e w1 ⟨rfl,hw1⟩;subst hw1;go_wp2_with fail;refine (bnew_in n w1 HE.out.n40).mono ?_;rintro e w2 ⟨p,pw,bw,pt,bt,mp,rfl,hb2,hbl2,_,h2,h3,h4⟩;have HS:Hid (Rn w1 w2 p pw bw pt bt mp n [] [] (List.range n) (List.range n) (.map []) 0):=rn_start hb2 hbl2 h2 h3 h4;clear hb2 hbl2 h2 h3 h4;go_wp2_with fail;refine (G.edges_any (n:Int) B0 q u L w2 (HG.out.below HS.out.below) (by omega)).mono ?_;rintro e w3 ⟨v,rfl,ho,hb3⟩;obtain ⟨m,hm⟩:∃m,m=L.length:=⟨_,rfl⟩;have HM:Hid (m=L.length):=hm;obtain ⟨va,vc,hv⟩:=ho.slice_len;rw [<-hm] at hv hlen;subst hv;have HO:Hid (G.Owns w3 w2.heap.size 61 (.slice va m vc) L):=ho;have HS3:Hid (Rn w1 w3 p pw bw pt bt mp n [] [] (List.range n) (List.range n) (.map []) 0):=HS.out.below' hb3;have hbw:bw<w3.heap.size/\bt<w3.heap.size/\mp<w3.heap.size:=⟨HS3.out.now.at_.sw.blt,HS3.out.now.at_.st.blt,HS3.out.now.at_.hm.lt⟩;have hbw2:bw<w2.heap.size/\bt<w2.heap.size/\mp<w2.heap.size:=⟨HS.out.now.at_.sw.blt,HS.out.now.at_.st.blt,HS.out.now.at_.hm.lt⟩;clear ho hb3 HS hm;go_wp2_with fail;go_loopw [16] (λ s16 wq=>∃(j:Nat) (B:List (Int × Int × Int)) (W T:List Nat) (D:DataW Unit) (N:Nat),j<=m/\s16= .int .i64 j/\Rn w1 wq p pw bw pt bt mp n (L.take j) B W T D N/\Bk bw bt mp w3 wq) (λ s16 _=>m-(intOf s16).toNat)
 case atStart=>exact ⟨0,_,_,_,_,_,Nat.zero_le _,rfl,by simpa using HS3.out,Bk.refl _⟩
 case round=>
  clear HS3;obtain ⟨j,B,W,T,D,N,hj,rfl,hr,hk⟩:=hrel;have HR:Hid (Rn w1 wr p pw bw pt bt mp n (L.take j) B W T D N/\Bk bw bt mp w3 wr):=⟨hr,hk⟩;clear hr hk;by_cases hlt:j<m
  ·obtain ⟨e,hx⟩:∃e,L[j]? =some e:=⟨_,List.getElem?_eq_getElem (by rw [<-HM.out];exact hlt)⟩
   have heL:=List.mem_of_getElem? hx;obtain ⟨x,y,hxy,hyn,he⟩:=ok_ends HE.out heL;have hids:=(HE.out.ed e heL).1;obtain ⟨g,hva⟩:∃g,va=some ⟨g,0,none⟩:=by
    rcases HO.out.shape with ⟨_,k⟩ | ⟨g,cap,k,_⟩
    ·rw [k] at hx;simp at hx
    ·injection k with e1 _ _
     exact ⟨g,e1⟩
   subst hva;obtain ⟨r0,r1,r2⟩:=HO.out.at (g:=g) rfl hx;have hgb:w2.heap.size<=g:=(World.ownsRow.lt HO.out g rfl).1;have q0:=HR.out.2.cell r0 (by omega) (by omega) (by omega);have q1:=HR.out.2.cell r1 (by omega) (by omega) (by omega);have q2:=HR.out.2.cell r2 (by omega) (by omega) (by omega);have HTK:Hid (L.take (j+1)=L.take j++[e]):=by
    show L.take (j+1)=_;rw [List.take_add_one,hx];rfl
   have hone:∀d∈L.take j,d.1≠e.1:=by
    intro d hd k;obtain ⟨i,hi,hie⟩:=List.mem_iff_getElem.1 hd;obtain ⟨hjl,hje⟩:=List.getElem?_eq_some_iff.1 hx;have hij:i<j:=by simp at hi;omega
    rw [List.getElem_take] at hie;have:=List.pairwise_iff_getElem.1 HE.out.up i j (by omega) hjl hij;rw [hie,hje] at this;omega
   obtain ⟨x0,hx0⟩:∃x0,e.1=x0:=⟨_,rfl⟩;rw [hx0] at he hids hone q0;subst he;have HONE:Hid (∀d∈L.take j,d.1≠x0):=hone;simp only at q0 q1 q2;clear hx r0 r1 r2 hone hx0 heL;obtain ⟨W1,hW1⟩:∃W1,W1=wr.alloc (.cells #[.int .i64 x0,.int .i64 (x:Int),.int .i64 (y:Int)] 61):=⟨_,rfl⟩;have hh:W1.heap[wr.heap.size]? =some (.cells #[.int .i64 x0,.int .i64 (x:Int),.int .i64 (y:Int)] 61):=by rw [hW1];exact heap_alloc_new wr _
   have p0:W1.cell? ⟨wr.heap.size,0,none⟩=some (.int .i64 x0):=by simp [World.cell?,hh]
   have p1:W1.cell? ⟨wr.heap.size,1,none⟩=some (.int .i64 (x:Int)):=by simp [World.cell?,hh]
   have p2:W1.cell? ⟨wr.heap.size,2,none⟩=some (.int .i64 (y:Int)):=by simp [World.cell?,hh]
   have hbW:Below wr.heap.size wr W1:=by rw [hW1];exact (Below.refl _ _).alloc (Nat.le_refl _) _
   have HR1:Hid (Rn w1 W1 p pw bw pt bt mp n (L.take j) B W T D N/\Bk bw bt mp w3 W1):=⟨HR.out.1.below' hbW,HR.out.2.trans (Bk.of_below hbW)⟩;have HW1:Hid (wr.alloc (.cells #[.int .i64 x0,.int .i64 (x:Int),.int .i64 (y:Int)] 61)=W1):=hW1.symm;have hjl:(L.take j).length<120:=by simp;omega
   clear hh hW1 hbW HR;go_wp2_with fail;rw [HW1.out];refine (rn_add HR1.out.1 x0 x y (by omega) (by omega) (by omega) HE.out.n40 hids HONE.out hjl).mono ?_;rintro e' w4 ⟨ok,B',W',T',D',N',rfl,hr4,hk4,_⟩;rw [(edge_self hxy).1] at hr4;have HR4:Hid (Rn w1 w4 p pw bw pt bt mp n (L.take (j+1)) B' W' T' D' N'/\Bk bw bt mp w3 w4):=by
    rw [HTK.out];exact ⟨hr4,HR1.out.2.trans hk4⟩
   clear hr4 hk4 HR1 p0 p1 p2;go_wp2_with fail;go_roundw;case rel=>exact ⟨j+1,B',W',T',D',N',by omega,by go_num,HR4.out.1,HR4.out.2⟩
   case measure=>simp [intOf];omega
  ·have hje:j=m:=by omega
   subst hje;have HF:Hid (Rn w1 wr p pw bw pt bt mp n L B W T D N):=by
    have:=HR.out.1;rw [List.take_of_length_le (by rw [<-HM.out];omega)] at this;exact this
   clear HR;go_wp2_with fail;go_ret;exact ⟨p,pw,bw,pt,bt,mp,B,W,T,D,N,rfl,HF.out⟩
end Go.Proofs.YtebcjaenhiiflaaGreatDoor.S
