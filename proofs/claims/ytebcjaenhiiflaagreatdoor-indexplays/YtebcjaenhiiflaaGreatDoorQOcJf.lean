import Derived.TacticsIn
import Derived.RangeFuncCalls
import Derived.RangeFuncNested
import Derived.RangeFuncBound
import Derived.RangeFuncLeaves
import Derived.Shelf.Abstract
import Derived.Shelf.RegionOpen
import Derived.OwnWalkIn
import Derived.TacticsInMore
import Derived.LoopNIn
import Derived.LoopIn
import Derived.Test.YtebcjaenhiiflaaGreatDoorQKVjBh
import Derived.Test.YtebcjaenhiiflaaGreatDoorQImJb
set_option maxHeartbeats 4000000
set_option maxRecDepth 100000
namespace Go.Proofs.YtebcjaenhiiflaaGreatDoor.S
open Go.RowKit Go.WideMaps Go.Maps Go.Proofs.Tryz
variable {w0 w w':World} {p pw bw pt bt mp n N:Nat} {R B:List (Int × Int × Int)} {W T:List Nat} {D:DataW Unit}
theorem z3a (h:Below w0.heap.size w0 w) (k:Bk bw bt mp w w') (h1:w0.heap.size<=bw) (h2:w0.heap.size<=bt) (h3:w0.heap.size<=mp):Below w0.heap.size w0 w':=
 ⟨k.os.trans h.os,k.tape.trans h.tape,k.output.trans h.output,Nat.le_trans h.size k.size,λ j hj=>(k.block j (Nat.lt_of_lt_of_le hj h.size) (by omega) (by omega) (by omega)).trans (h.block j hj)⟩
structure Rn (w0 w:World) (p pw bw pt bt mp n:Nat) (R B:List (Int × Int × Int)) (W T:List Nat) (D:DataW Unit) (N:Nat):Prop where
 now:Now w p pw bw pt bt mp N n R B W T D
 below:Below w0.heap.size w0 w
 unl:Unl R
 ids:∀e∈R,0<=e.1/\e.1<=1099511627776
 bl:B.length<=R.length
 nl:N<=R.length
 rl:R.length<=120
 hb:w0.heap.size<=bw/\w0.heap.size<=bt/\w0.heap.size<=mp
theorem Rn.below' (h:Rn w0 w p pw bw pt bt mp n R B W T D N) (hb:Below w.heap.size w w'):Rn w0 w' p pw bw pt bt mp n R B W T D N:=
 {h with now:=h.now.below hb,below:=h.below.trans (hb.mono h.below.size)}
def yaa9 (w0:World) (p pw bw pt bt mp n:Nat) (R:List (Int × Int × Int)) (f:Int × Int × Int) (w:World) (e:Ending) (w':World):Prop:=
 ∃ok B' W' T' D' N',e= .returned (.tuple #[.bool ok,.nilIface])/\Rn w0 w' p pw bw pt bt mp n (R++[f]) B' W' T' D' N'/\Bk bw bt mp w w'/\(ok=true↔f∈B')
theorem zvp {x:Int} (h:0<=x/\x<=1099511627776):(Lit.int .i64 x).wf=true:=WalkArith.wf_i64 (by omega)
theorem zy0 (h:Rn w0 w p pw bw pt bt mp n R B W T D N) (i:Int) (x y:Nat) (hx:x<n) (hy:y<n) (hxy:x≠y) (hn:n<=40) (hi:0<=i/\i<=1099511627776) (hone:∀e∈R,e.1≠i) (hl:R.length<120):
 Calls prog 57 #[.pointer (some ⟨p,0,none⟩),.int .i64 i,.int .i64 (x:Int),.int .i64 (y:Int)] w (yaa9 w0 p pw bw pt bt mp n R (edge i x y) w):=by
 refine (z9a i x y w h.now hx hy hxy hn (by have:=h.nl;omega) (by have:=h.bl;omega) hone (zvp hi) (λ e he=>zvp (h.ids e he))).mono ?_;rintro e w' ⟨ok,W',T',D',B',N',rfl,hnow,hBl,hNl,hbk,hok⟩;have hu:Unl (R++[edge i x y]):=by
  unfold Unl;rw [List.pairwise_append];refine ⟨h.unl,List.pairwise_singleton _ _,λ a ha b hb=>?_⟩;rw [List.mem_singleton.1 hb];exact hone a ha
 refine ⟨ok,B',W',T',D',N',rfl,⟨hnow,z3a h.below hbk h.hb.1 h.hb.2.1 h.hb.2.2,hu,?_,?_,?_,?_,h.hb⟩,hbk,hok⟩
 ·intro e he
  rcases List.mem_append.1 he with he | he
  ·exact h.ids e he
  ·rw [List.mem_singleton.1 he];exact hi
 ·have:=h.bl;simp;omega
 ·have:=h.nl;simp;omega
 ·simp;omega
theorem z3b {w1:World} (h:BAt w1 p pw bw pt bt mp 0 (List.range n) (List.range n) (.map [])) (hb:Below w.heap.size w w1) (h1:w.heap.size<=bw) (h2:w.heap.size<=bt) (h3:w.heap.size<=mp):Rn w w1 p pw bw pt bt mp n [] [] (List.range n) (List.range n) (.map []) 0:=
 ⟨⟨h,St.start n,Dis.empty⟩,hb,List.Pairwise.nil,by simp,by simp,Nat.le_refl _,by simp,h1,h2,h3⟩
theorem zy7 {i:Int} {x y:Nat} (h:x<y):edge i x y=(i,(x:Int),(y:Int))/\edge i y x=(i,(x:Int),(y:Int)):=by
 unfold edge;rw [show min x y=x by omega,show max x y=y by omega,show min y x=x by omega,show max y x=y by omega];exact ⟨rfl,rfl⟩
theorem z9i {L:List (Int × Int × Int)} (h:I.Ok n L) {e:Int × Int × Int} (he:e∈L):∃x y:Nat,x<y/\y<n/\e=(e.1,(x:Int),(y:Int)):=by
 have h1:=h.ed e he;obtain ⟨i,a,b⟩:=e;dsimp only at h1 ⊢;obtain ⟨x,rfl⟩:=Int.eq_ofNat_of_zero_le h1.2.1;obtain ⟨y,rfl⟩:=Int.eq_ofNat_of_zero_le (show 0<=b by omega);exact ⟨x,y,by omega,by omega,rfl⟩
theorem z0i (n B0 q:Nat) (u:Value) (L:List (Int × Int × Int)) (w:World) (h:G.GAt w B0 168 61 q (n:Int) u L) (hed:I.Ok n L):
 Calls prog 54 #[.pointer (some ⟨q,0,none⟩)] w λ e w'=>∃p pw bw pt bt mp B W T D N,e= .returned (.pointer (some ⟨p,0,none⟩))/\Rn w w' p pw bw pt bt mp n L B W T D N:=by
 have HG:=kd h;have HE:=kd hed;have hlen:=hed.len;have hn14:=hed.n40;clear h hed;go_enter func54,ntmps54;go_wp2_with fail;refine (G.zbb (n:Int) B0 q u L w HG.out).mono ?_;rintro e w1 ⟨rfl,hw1⟩;subst hw1;go_wp2_with fail;refine (z7q n w1 HE.out.n40).mono ?_;rintro e w2 ⟨p,pw,bw,pt,bt,mp,rfl,hb2,hbl2,_,h2,h3,h4⟩;have HS:Hid (Rn w1 w2 p pw bw pt bt mp n [] [] (List.range n) (List.range n) (.map []) 0):=z3b hb2 hbl2 h2 h3 h4;clear hb2 hbl2 h2 h3 h4;go_wp2_with fail;refine (G.zbv (n:Int) B0 q u L w2 (HG.out.below HS.out.below) (by omega)).mono ?_;rintro e w3 ⟨v,rfl,ho,hb3⟩;obtain ⟨m,hm⟩:∃m,m=L.length:=⟨_,rfl⟩;have HM:=kd hm;obtain ⟨va,vc,hv⟩:=ho.zal;rw [<-hm] at hv hlen;subst hv;have HO:=kd ho;have HS3:Hid (Rn w1 w3 p pw bw pt bt mp n [] [] (List.range n) (List.range n) (.map []) 0):=HS.out.below' hb3;have hbw:bw<w3.heap.size/\bt<w3.heap.size/\mp<w3.heap.size:=⟨HS3.out.now.at_.sw.blt,HS3.out.now.at_.st.blt,HS3.out.now.at_.hm.lt⟩;have hbw2:bw<w2.heap.size/\bt<w2.heap.size/\mp<w2.heap.size:=⟨HS.out.now.at_.sw.blt,HS.out.now.at_.st.blt,HS.out.now.at_.hm.lt⟩;clear ho hb3 HS hm;go_wp2_with fail;go_loopw [16] (λ s16 wq=>∃(j:Nat) (B:List (Int × Int × Int)) (W T:List Nat) (D:DataW Unit) (N:Nat),j<=m/\s16= .int .i64 j/\Rn w1 wq p pw bw pt bt mp n (L.take j) B W T D N/\Bk bw bt mp w3 wq) (λ s16 _=>m-(intOf s16).toNat)
 case atStart=>exact ⟨0,_,_,_,_,_,Nat.zero_le _,rfl,by simpa using HS3.out,Bk.refl _⟩
 case round=>
  clear HS3;obtain ⟨j,B,W,T,D,N,hj,rfl,hr,hk⟩:=hrel;have HR:=kd (And.intro hr hk);clear hr hk;by_cases hlt:j<m
  ·obtain ⟨e,hx⟩:∃e,L[j]? =some e:=⟨_,List.getElem?_eq_getElem (by rw [<-HM.out];exact hlt)⟩
   have heL:=List.mem_of_getElem? hx;obtain ⟨x,y,hxy,hyn,he⟩:=z9i HE.out heL;have hids:=(HE.out.ed e heL).1;obtain ⟨g,hva⟩:∃g,va=some ⟨g,0,none⟩:=by
    rcases HO.out.shape with ⟨_,k⟩ | ⟨g,cap,k,_⟩
    ·rw [k] at hx;simp at hx
    ·injection k with e1 _ _
     exact ⟨g,e1⟩
   subst hva;obtain ⟨r0,r1,r2⟩:=HO.out.at (g:=g) rfl hx;have hgb:w2.heap.size<=g:=(World.ownsRow.lt HO.out g rfl).1;have q0:=HR.out.2.cell r0 (by omega) (by omega) (by omega);have q1:=HR.out.2.cell r1 (by omega) (by omega) (by omega);have q2:=HR.out.2.cell r2 (by omega) (by omega) (by omega);have HTK:Hid (L.take (j+1)=L.take j++[e]):=by
    show L.take (j+1)=_;rw [List.take_add_one,hx];rfl
   have hone:∀d∈L.take j,d.1≠e.1:=by
    intro d hd k;obtain ⟨i,hi,hie⟩:=List.mem_iff_getElem.1 hd;obtain ⟨hjl,hje⟩:=List.getElem?_eq_some_iff.1 hx;have hij:i<j:=by simp at hi;omega
    rw [List.getElem_take] at hie;have:=List.pairwise_iff_getElem.1 HE.out.up i j (by omega) hjl hij;rw [hie,hje] at this;omega
   obtain ⟨x0,hx0⟩:∃x0,e.1=x0:=⟨_,rfl⟩;rw [hx0] at he hids hone q0;subst he;have HONE:=kd hone;simp only at q0 q1 q2;clear hx r0 r1 r2 hone hx0 heL;obtain ⟨W1,hW1⟩:∃W1,W1=wr.alloc (.cells #[.int .i64 x0,.int .i64 (x:Int),.int .i64 (y:Int)] 61):=⟨_,rfl⟩;have hh:W1.heap[wr.heap.size]? =some (.cells #[.int .i64 x0,.int .i64 (x:Int),.int .i64 (y:Int)] 61):=by rw [hW1];exact heap_alloc_new wr _
   have p0:W1.cell? ⟨wr.heap.size,0,none⟩=some (.int .i64 x0):=by simp [World.cell?,hh]
   have p1:W1.cell? ⟨wr.heap.size,1,none⟩=some (.int .i64 (x:Int)):=by simp [World.cell?,hh]
   have p2:W1.cell? ⟨wr.heap.size,2,none⟩=some (.int .i64 (y:Int)):=by simp [World.cell?,hh]
   have hbW:Below wr.heap.size wr W1:=by rw [hW1];exact (Below.refl _ _).alloc (Nat.le_refl _) _
   have HR1:Hid (Rn w1 W1 p pw bw pt bt mp n (L.take j) B W T D N/\Bk bw bt mp w3 W1):=⟨HR.out.1.below' hbW,HR.out.2.trans (Bk.of_below hbW)⟩;have HW1:=kd hW1.symm;have hjl:(L.take j).length<120:=by simp;omega
   clear hh hW1 hbW HR;go_wp2_with fail;rw [HW1.out];refine (zy0 HR1.out.1 x0 x y (by omega) (by omega) (by omega) HE.out.n40 hids HONE.out hjl).mono ?_;rintro e' w4 ⟨ok,B',W',T',D',N',rfl,hr4,hk4,_⟩;rw [(zy7 hxy).1] at hr4;have HR4:Hid (Rn w1 w4 p pw bw pt bt mp n (L.take (j+1)) B' W' T' D' N'/\Bk bw bt mp w3 w4):=by
    rw [HTK.out];exact ⟨hr4,HR1.out.2.trans hk4⟩
   clear hr4 hk4 HR1 p0 p1 p2;go_wp2_with fail;go_roundw;case rel=>exact ⟨j+1,B',W',T',D',N',by omega,by go_num,HR4.out.1,HR4.out.2⟩
   case measure=>simp [intOf];omega
  ·have hje:j=m:=by omega
   subst hje;have HF:Hid (Rn w1 wr p pw bw pt bt mp n L B W T D N):=by
    have:=HR.out.1;rw [List.take_of_length_le (by rw [<-HM.out];omega)] at this;exact this
   clear HR;go_wp2_with fail;go_ret;exact ⟨p,pw,bw,pt,bt,mp,B,W,T,D,N,rfl,HF.out⟩
end Go.Proofs.YtebcjaenhiiflaaGreatDoor.S
namespace Go.Proofs.YtebcjaenhiiflaaGreatDoor.G
open Go.RowKit Go.Proofs.Tryz
theorem z4v (x n:Int) (B p:Nat) (v:Value) (L:List E) (w:World) (h:GAt w B 168 61 p n v L) (hx:¬(0<=x/\x<n)):
 Calls prog 116 #[.pointer (some ⟨p,0,none⟩),.int .i64 x] w λ e w'=>e= .returned (.bool false)/\w'=w:=zs9 x n B p v L false w h (decide_eq_false hx).symm
theorem zyk (id a b n:Int) (B p:Nat) (v:Value) (L:List E) (w:World) (h:GAt w B 168 61 p n v L) (hr:¬zb4 id a b n):
 Calls prog 56 #[.pointer (some ⟨p,0,none⟩),.int .i64 id,.int .i64 a,.int .i64 b] w λ e w'=>e= .returned (.iface 23 (.int .i64 2))/\Below w.heap.size w w':=by
 have HG:=kd h;clear h;by_cases h1:id<0
 ·clear hr
  go_enter func56,ntmps56;go_wp2_with fail;go_ret;exact ⟨rfl,Below.refl _ _⟩
 by_cases h2:1099511627776<id
 ·clear hr
  go_enter func56,ntmps56;go_wp2_with fail;go_ret;exact ⟨rfl,Below.refl _ _⟩
 by_cases h3:0<=a/\a<n
 ·have h4:¬(0<=b/\b<n):=λ hb=>hr ⟨⟨by omega,by omega⟩,h3,hb⟩
  have H3:=kd h3;have H4:=kd h4;clear hr h3 h4;go_enter func56,ntmps56;go_wp2_with fail;refine (zd2 a n B p v L w HG.out H3.out).mono ?_;rintro e w1 ⟨rfl,rfl⟩;go_wp2_with fail;refine (z4v b n B p v L w1 HG.out H4.out).mono ?_;rintro e w2 ⟨rfl,rfl⟩;go_wp2_with fail;go_ret;exact ⟨rfl,Below.refl _ _⟩
 ·have H3:=kd h3
  clear hr h3;go_enter func56,ntmps56;go_wp2_with fail;refine (z4v a n B p v L w HG.out H3.out).mono ?_;rintro e w1 ⟨rfl,rfl⟩;go_wp2_with fail;go_ret;exact ⟨rfl,Below.refl _ _⟩
theorem z9g (id a n:Int) (B p:Nat) (v:Value) (L:List E) (w:World) (h:GAt w B 168 61 p n v L) (hr:zb4 id a a n):
 Calls prog 56 #[.pointer (some ⟨p,0,none⟩),.int .i64 id,.int .i64 a,.int .i64 a] w λ e w'=>e= .returned (.iface 23 (.int .i64 1))/\Below w.heap.size w w':=by
 have HG:=kd h;have h1:¬id<0:=by have:=hr.1.1;omega
 have h2:¬1099511627776<id:=by have:=hr.1.2;omega
 have H3:=kd hr.2.1;clear hr h;go_enter func56,ntmps56;go_wp2_with fail;refine (zd2 a n B p v L w HG.out H3.out).mono ?_;rintro e w1 ⟨rfl,rfl⟩;go_wp2_with fail;refine (zd2 a n B p v L w1 HG.out H3.out).mono ?_;rintro e w2 ⟨rfl,rfl⟩;go_wp2_with fail;go_ret;exact ⟨rfl,Below.refl _ _⟩
theorem zz5 (id a b n:Int) (B p:Nat) (v:Value) (L:List E) (w:World) (h:GAt w B 168 61 p n v L) (hu:Up L) (hl:L.length<=120) (hr:zb4 id a b n) (hab:a≠b) (hs:(seen L id).isSome=true):
 Calls prog 56 #[.pointer (some ⟨p,0,none⟩),.int .i64 id,.int .i64 a,.int .i64 b] w λ e w'=>e= .returned (.iface 23 (.int .i64 9))/\Below w.heap.size w w':=by
 have HC:Hid (Calls prog 114 #[.pointer (some ⟨p,0,none⟩),.int .i64 id] w λ e w'=>e= .returned (.tuple #[.int .i64 (place L id:Nat),.bool true])/\Below w.heap.size w w'):=zge id B p (place L id) n v L true w h hu (by omega) rfl hs.symm;have HG:=kd h;have h1:¬id<0:=by have:=hr.1.1;omega
 have h2:¬1099511627776<id:=by have:=hr.1.2;omega
 have H3:=kd hr.2.1;have H4:=kd hr.2.2;have h5:(a==b)=false:=beq_eq_false_iff_ne.2 hab;clear hr h hu hs hab;go_enter func56,ntmps56;go_wp2_with fail;refine (zd2 a n B p v L w HG.out H3.out).mono ?_;rintro e w1 ⟨rfl,rfl⟩;go_wp2_with fail;refine (zd2 b n B p v L w1 HG.out H4.out).mono ?_;rintro e w2 ⟨rfl,rfl⟩;go_wp2_with fail;refine HC.out.mono ?_;rintro e w3 ⟨rfl,hb⟩;have HB:=kd hb;clear hb;go_wp2_with fail;go_ret;exact ⟨rfl,HB.out⟩
theorem z1x (id a b n:Int) (B p:Nat) (v:Value) (L:List E) (w:World) (h:GAt w B 168 61 p n v L) (hu:Up L) (hl:L.length<=120) (hr:zb4 id a b n) (hab:a≠b) (hs:seen L id=none) (hf:120<=L.length):
 Calls prog 56 #[.pointer (some ⟨p,0,none⟩),.int .i64 id,.int .i64 a,.int .i64 b] w λ e w'=>e= .returned (.iface 23 (.int .i64 12))/\Below w.heap.size w w':=by
 have HC:Hid (Calls prog 114 #[.pointer (some ⟨p,0,none⟩),.int .i64 id] w λ e w'=>e= .returned (.tuple #[.int .i64 (place L id:Nat),.bool false])/\Below w.heap.size w w'):=zge id B p (place L id) n v L false w h hu (by omega) rfl (by rw [hs];rfl);have HG:=kd h;have h1:¬id<0:=by have:=hr.1.1;omega
 have h2:¬1099511627776<id:=by have:=hr.1.2;omega
 have H3:=kd hr.2.1;have H4:=kd hr.2.2;have h5:(a==b)=false:=beq_eq_false_iff_ne.2 hab;obtain ⟨va,vc,hv⟩:=h.row.zal;obtain ⟨m,hm⟩:∃m,m=L.length:=⟨_,rfl⟩;rw [<-hm] at hf hv;have hf':(120:Int)<=(m:Int):=by omega
 clear hr h hu hs hab hl hm;go_enter func56,ntmps56;go_wp2_with fail;refine (zd2 a n B p v L w HG.out H3.out).mono ?_;rintro e w1 ⟨rfl,rfl⟩;go_wp2_with fail;refine (zd2 b n B p v L w1 HG.out H4.out).mono ?_;rintro e w2 ⟨rfl,rfl⟩;go_wp2_with fail;refine HC.out.mono ?_;rintro e w3 ⟨rfl,hb⟩;have HB:=kd hb;have hp:=(HG.out.below hb).c1;rw [hv] at hp;clear hb hv HC;go_wp2_with fail;go_ret;exact ⟨rfl,HB.out⟩
end Go.Proofs.YtebcjaenhiiflaaGreatDoor.G
namespace Go.Proofs.YtebcjaenhiiflaaGreatDoor.I
open Go.RowKit Go.WideMaps Go.Maps Go.Lib Go.Proofs.Tryz
structure IAt (w0 w:World) (x p q n:Nat) (v:Value) (L R B:List G.E) (W T:List Nat) (D:DataW Unit) (pw bw pt bt mp N:Nat):Prop where
 ix:Ix w x p q
 gra:G.GAt w w0.heap.size 168 61 p (n:Int) v L
 rn:S.Rn w0 w q pw bw pt bt mp n R B W T D N
 ok:Ok n L
 perm:R.Perm L
 hx:w0.heap.size<=x
 hp:w0.heap.size<=p
variable {w0 w w':World} {x p q n:Nat} {v:Value} {L R B:List G.E} {W T:List Nat} {D:DataW Unit} {pw bw pt bt mp N:Nat}
theorem IAt.below' (h:IAt w0 w x p q n v L R B W T D pw bw pt bt mp N) (hb:Below w.heap.size w w'):IAt w0 w' x p q n v L R B W T D pw bw pt bt mp N:=
 {h with ix:=h.ix.below hb h.ix.lt,gra:=h.gra.below hb,rn:=h.rn.below' hb}
theorem zcm {B':Nat} {L:List G.E} (h:G.zad w B' 61 v L) {g:Nat} (hg:v.ownBlock=some g):∃cur,w.heap[g]? =some (.cells cur 61):=by
 rcases h.2 with ⟨rfl,_⟩ | ⟨g',cap,cur,rfl,_,hc,_⟩
 ·simp [Value.ownBlock] at hg
 ·simp [Value.ownBlock] at hg
  subst hg;exact ⟨_,hc⟩
theorem zc0 {B' p':Nat} {m:Int} (h:G.GAt w B' 168 61 p' m v L) (k:G.Kept p' v.ownBlock w w') {g:Nat} {o:Obj} (hg:w.heap[g]? =some o) (h1:∀cur,o≠ .cells cur 168) (h2:∀cur,o≠ .cells cur 61):w'.heap[g]? =some o:=by
 rw [k.block g (G.lt_of_some hg) ?_ ?_]
 ·exact hg
 ·rintro rfl
  have:=hg.symm.trans h.hp;injection this with this
  exact h1 _ this
 ·intro e
  obtain ⟨cur,hc⟩:=zcm h.row e.symm;have:=hg.symm.trans hc;injection this with this
  exact h2 _ this
theorem zkd (hb:S.BAt w q pw bw pt bt mp N W T D) (k:S.Bk bw bt mp w w') {g t:Nat} {cur:Array Value} (hg:w.heap[g]? =some (.cells cur t)) (ht:t≠3):w'.heap[g]? =some (.cells cur t):=by
 obtain ⟨es,c,hm⟩:=hb.zgz;rw [k.block g (G.lt_of_some hg) ?_ ?_ ?_]
 ·exact hg
 ·rintro rfl
  have:=hg.symm.trans hb.sw.hb;simp at this;exact ht this.2
 ·rintro rfl
  have:=hg.symm.trans hb.st.hb;simp at this;exact ht this.2
 ·rintro rfl
  have:=hg.symm.trans hm;simp at this
theorem z2o {B' p':Nat} {m:Int} (hb:S.BAt w q pw bw pt bt mp N W T D) (h:G.GAt w B' 168 61 p' m v L) (k:G.Kept p' v.ownBlock w w'):S.BAt w' q pw bw pt bt mp N W T D:=by
 obtain ⟨es,c,hm,F,hs,hD⟩:=hb.hm;exact ⟨zc0 h k hb.hp (by simp) (by simp),⟨zc0 h k hb.sw.hp (by simp) (by simp),zc0 h k hb.sw.hb (by simp) (by simp)⟩,⟨zc0 h k hb.st.hp (by simp) (by simp),zc0 h k hb.st.hb (by simp) (by simp)⟩,⟨es,c,zc0 h k hm (by simp) (by simp),F,hs,hD⟩,hb.pp,hb.bb⟩
theorem z9m {B' p':Nat} {m:Int} (hb:S.BAt w q pw bw pt bt mp N W T D) (h:G.GAt w B' 168 61 p' m v L) (k:S.Bk bw bt mp w w'):G.GAt w' B' 168 61 p' m v L:=by
 refine ⟨zkd hb k h.hp (by decide),⟨h.row.1,?_⟩,h.ne⟩;rcases h.row.2 with hn | ⟨g,cap,cur,rfl,hB,hg,rest⟩
 ·exact .inl hn
 ·exact .inr ⟨g,cap,cur,rfl,hB,zkd hb k hg (by decide),rest⟩
theorem below_kept' {o:Option Nat} {p':Nat} (h:Below w0.heap.size w0 w) (k:G.Kept p' o w w') (h1:w0.heap.size<=p') (h2:∀j,o=some j->w0.heap.size<=j):Below w0.heap.size w0 w':=
 ⟨k.os.trans h.os,k.tape.trans h.tape,k.output.trans h.output,Nat.le_trans h.size k.size,λ j hj=>(k.block j (Nat.lt_of_lt_of_le hj h.size) (by omega) (λ e=>by have:=h2 j e.symm;omega)).trans (h.block j hj)⟩
theorem IAt.graph (h:IAt w0 w x p q n v L R B W T D pw bw pt bt mp N) (k:G.Kept p v.ownBlock w w'):Ix w' x p q/\S.Rn w0 w' q pw bw pt bt mp n R B W T D N:=
 ⟨zc0 h.gra k h.ix (by simp) (by simp),{h.rn with now:=⟨z2o h.rn.now.at_ h.gra k,h.rn.now.st,h.rn.now.dis⟩,below:=below_kept' h.rn.below k h.hp (λ j hj=>(h.gra.lt hj).1)}⟩
theorem z2e (id:Int) (a b:Nat):S.edge id a b=edg id (a:Int) (b:Int):=by
 unfold S.edge edg;simp only [Prod.mk.injEq,true_and];omega
structure Ikp (p:Nat) (o:Option Nat) (bw bt mp:Nat) (w w':World):Prop where
 os:w'.os=w.os
 tape:w'.tape=w.tape
 output:w'.output=w.output
 size:w.heap.size<=w'.heap.size
 block:∀k,k<w.heap.size->k≠p->some k≠o->k≠bw->k≠bt->k≠mp->w'.heap[k]? =w.heap[k]?
instance (id a b n:Int):Decidable (G.zb4 id a b n):=by unfold G.zb4;infer_instance
def zbp (n:Nat) (L:List G.E) (id a b:Int):Int:=
 if ¬G.zb4 id a b (n:Int) then 2 else if a=b then 1 else if (G.seen L id).isSome then 9 else if 120<=L.length then 12 else 0
theorem zo5 {L:List G.E} (hu:G.Up L) (id:Int):G.seen L id=none↔∀x∈L,x.1≠id:=by
 constructor
 ·intro h x hx e
  rw [G.zix hu hx e] at h;cases h
 ·exact G.seen_none
theorem zob {n:Nat} {L:List G.E} (h:Ok n L) (id a b:Int):zbp n L id a b=0↔Fits n L id a b:=by
 unfold zbp Fits G.zb4;have hs:=zo5 h.up id;split
 ·next k=>exact ⟨λ h=>(by cases h),λ f=>absurd ⟨f.1,f.2.1,f.2.2.1⟩ k⟩
 ·next k=>
  have k:=Classical.not_not.1 k;split
  ·next e=>exact ⟨λ h=>(by cases h),λ f=>absurd e f.2.2.2.1⟩
  ·next e=>
   cases hx:G.seen L id with
   | some y=>
     rw [if_pos (by simp)];refine ⟨λ h=>(by cases h),λ f=>?_⟩;have:=hs.2 f.2.2.2.2.1;rw [hx] at this;cases this
   | none=>
     rw [if_neg (by simp)];have h1:=hs.1 hx;split
     ·next l=>exact ⟨λ h=>(by cases h),λ f=>by have:=f.2.2.2.2.2;omega⟩
     ·next l=>exact ⟨λ _=>⟨k.1,k.2.1,k.2.2,e,h1,by omega⟩,λ _=>rfl⟩
theorem z8i {m:Nat} (h:G.GAt w m 168 61 p (n:Int) v L) (hok:Ok n L) (id a b:Int) (hc:zbp n L id a b≠0):
 Calls prog 56 #[.pointer (some ⟨p,0,none⟩),.int .i64 id,.int .i64 a,.int .i64 b] w λ e w'=>e= .returned (.iface 23 (.int .i64 (zbp n L id a b)))/\Below w.heap.size w w':=by
 unfold zbp at hc ⊢;split
 ·next k=>exact G.zyk id a b (n:Int) m p v L w h k
 ·next k=>
  rw [if_neg k] at hc;have k:=Classical.not_not.1 k;split
  ·next e=>subst e;exact G.z9g id a (n:Int) m p v L w h k
  ·next e=>
   rw [if_neg e] at hc;split
   ·next hs=>exact G.zz5 id a b (n:Int) m p v L w h hok.up hok.len k e hs
   ·next hs=>
    rw [if_neg hs] at hc;have hs':G.seen L id=none:=by cases hq:G.seen L id <;> simp_all
    split
    ·next l=>exact G.z1x id a b (n:Int) m p v L w h hok.up hok.len k e hs' l
    ·next l=>rw [if_neg l] at hc;exact absurd rfl hc
theorem zt7 (id a b:Int) (w:World) (h:IAt w0 w x p q n v L R B W T D pw bw pt bt mp N) (hc:zbp n L id a b≠0):
 Calls prog 21 #[.pointer (some ⟨x,0,none⟩),.int .i64 id,.int .i64 a,.int .i64 b] w λ e w'=>e= .returned (.tuple #[.bool false,.iface 23 (.int .i64 (zbp n L id a b))])/\Below w.heap.size w w':=by
 have HA:Hid _:=z8i h.gra h.ok id a b hc;have c0:=h.ix.c0;generalize zbp n L id a b=c at*;clear h;go_enter func21,ntmps21;go_wp2_with (go_at_call 56;refine Calls.mono HA.out ?_;rintro e w1 ⟨rfl,hb⟩);go_ret2;exact ⟨rfl,hb⟩
def z3f (w0 w:World) (x p q n:Nat) (v:Value) (L R:List G.E) (pw bw pt bt mp:Nat) (id a b:Int) (e:Ending) (w':World):Prop:=
 ∃ok v' B' W' T' D' N',e= .returned (.tuple #[.bool ok,.nilIface])/\IAt w0 w' x p q n v' (G.zca L (edg id a b)) (R++[edg id a b]) B' W' T' D' pw bw pt bt mp N'/\(ok=true↔edg id a b∈B')/\Ikp p v.ownBlock bw bt mp w w'/\(∀k,v'.ownBlock=some k->v.ownBlock=some k\/w.heap.size<=k)
theorem zuj (id:Int) (a b:Nat) (w:World) (h:IAt w0 w x p q n v L R B W T D pw bw pt bt mp N) (hf:Fits n L id (a:Int) (b:Int)):
 Calls prog 21 #[.pointer (some ⟨x,0,none⟩),.int .i64 id,.int .i64 (a:Int),.int .i64 (b:Int)] w (z3f w0 w x p q n v L R pw bw pt bt mp id (a:Int) (b:Int)):=by
 have HH:=kd h;have HF:=kd hf;have hsn:G.seen L id=none:=(zo5 h.ok.up id).2 hf.2.2.2.2.1;have HA:Hid _:=G.z9w id (a:Int) (b:Int) (n:Int) (min (a:Int) (b:Int)) (max (a:Int) (b:Int)) w0.heap.size p v L (G.zca L (edg id (a:Int) (b:Int))) w h.gra h.rn.below.size h.ok.up hf.2.2.2.2.2 ⟨hf.1,hf.2.1,hf.2.2.1⟩ hf.2.2.2.1 hsn rfl rfl rfl;have c0:=h.ix.c0;clear h hf;go_enter func21,ntmps21;go_wp2_with (go_at_call 56;refine Calls.mono HA.out ?_;rintro e w1 ⟨rfl,v1,hg1,hk1,hf1⟩;have c1:=(HH.out.graph hk1).1.c1);obtain ⟨hx1,hr1⟩:=HH.out.graph hk1;have HG1:=kd hg1;have HK1:=kd hk1;have HF1:=kd hf1;have HX1:=kd hx1;have HR1:=kd hr1;have HB:Hid _:=S.zy0 hr1 id a b (by have:=HF.out;unfold Fits at this;omega) (by have:=HF.out;unfold Fits at this;omega) (λ e=>HF.out.2.2.2.1 (by rw [e])) HH.out.ok.n40 HF.out.1 (λ e he=>HF.out.2.2.2.2.1 e (HH.out.perm.mem_iff.1 he)) (by rw [HH.out.perm.length_eq];exact HF.out.2.2.2.2.2);clear hg1 hk1 hf1 hx1 hr1 HA c0 hsn;refine Calls.mono HB.out ?_;rintro e w2 ⟨ok,B',W',T',D',N',rfl,hr2,hk2,hok⟩;go_wp2_with fail;go_ret2;rw [z2e] at hr2 hok;refine ⟨ok,v1,B',W',T',D',N',rfl,⟨zkd HR1.out.now.at_ hk2 HX1.out (by decide),z9m HR1.out.now.at_ HG1.out hk2,hr2,HH.out.ok.put HF.out,?_,HH.out.hx,HH.out.hp⟩,hok,?_,HF1.out⟩
 ·exact (List.perm_append_comm.trans (List.Perm.cons _ HH.out.perm)).trans (G.zeg L _).symm
 ·exact ⟨hk2.os.trans HK1.out.os,hk2.tape.trans HK1.out.tape,hk2.output.trans HK1.out.output,Nat.le_trans HK1.out.size hk2.size,λ k hk h1 h2 h3 h4 h5=>(hk2.block k (Nat.lt_of_lt_of_le hk HK1.out.size) h3 h4 h5).trans (HK1.out.block k hk h1 h2)⟩
end Go.Proofs.YtebcjaenhiiflaaGreatDoor.I
namespace Go.Proofs.YtebcjaenhiiflaaGreatDoor.I
open Go.RowKit Go.WideMaps Go.Maps Go.Lib Go.Proofs.Tryz
theorem z1i (n:Int) (w:World) (h:n<0\/40<n):
 Calls prog 53 #[.int .i64 n] w λ e w'=>e= .returned (.tuple #[.pointer none,.iface 23 (.int .i64 2)])/\w'=w:=by
 by_cases h0:n<0
 ·have hd:decide (n<0)=true:=decide_eq_true h0
  go_enter func53,ntmps53;go_wp2_with fail;go_ret2;exact ⟨rfl,rfl⟩
 ·have h1:40<n:=by omega
  have hd:decide (n<0)=false:=decide_eq_false h0;have hd1:decide (40<n)=true:=decide_eq_true h1;go_enter func53,ntmps53;go_wp2_with fail;go_ret2;exact ⟨rfl,rfl⟩
theorem zpn (n:Int) (w:World) (h:n<0\/40<n):
 Calls prog 17 #[.int .i64 n] w λ e w'=>e= .returned (.tuple #[.pointer none,.iface 23 (.int .i64 2)])/\w'=w:=by
 have HN:Hid _:=z1i n w h;clear h;go_enter func17,ntmps17;go_wp2_with (go_at_call 53;refine Calls.mono HN.out ?_;rintro e w1 ⟨rfl,hw1⟩;subst w1);go_ret2;exact ⟨rfl,rfl⟩
def z1y (w:World) (n:Nat) (e:Ending) (w':World):Prop:=
 ∃x p q v B W T D pw bw pt bt mp N,e= .returned (.tuple #[.pointer (some ⟨x,0,none⟩),.nilIface])/\IAt w w' x p q n v [] [] B W T D pw bw pt bt mp N
theorem ztc (n:Nat) (w:World) (h:n<=40):Calls prog 17 #[.int .i64 (n:Int)] w (z1y w n):=by
 have HN:Hid _:=G.zfk (n:Int) w (by omega) (by omega);have HL:=kd h;clear h;go_enter func17,ntmps17;go_wp2_with (go_at_call 53;refine Calls.mono HN.out ?_;rintro e w1 ⟨rfl,hw1'⟩;have HW1:Hid (w1=w.alloc (.cells #[.int .i64 (n:Int),.slice none 0 0] 168)):=hw1';clear hw1');have hw1:=HW1.out;have hg:G.GAt w1 w.heap.size 168 61 w.heap.size (n:Int) (.slice none 0 0) []:=by
  rw [hw1];exact ⟨World.alloc_heap_new w _,World.ownsRow_nil _ _ _ _,by simp [Value.ownBlock]⟩
 have hb1:Below w.heap.size w w1:=by rw [hw1];exact (Below.refl _ _).alloc (Nat.le_refl _) _
 have HG:=kd hg;have HB1:=kd hb1;have HO:Hid _:=S.z0i n w.heap.size w.heap.size (.slice none 0 0) [] w1 hg (Ok.nil HL.out);clear hg hb1 hw1 HN HW1;refine Calls.mono HO.out ?_;rintro e w2 ⟨q,pw,bw,pt,bt,mp,B,W,T,D,N,rfl,hr⟩;have HR:=kd hr;clear hr HO;go_wp2_with fail;go_ret2;have hb:=HB1.out.size;refine ⟨w2.heap.size,w.heap.size,q,.slice none 0 0,B,W,T,D,pw,bw,pt,bt,mp,N,rfl,?_⟩;have hb2:Below w2.heap.size w2 (w2.alloc (.cells #[.pointer (some ⟨w.heap.size,0,none⟩),.pointer (some ⟨q,0,none⟩)] 85)):=(Below.refl _ _).alloc (Nat.le_refl _) _;have hr2:=HR.out.below' hb2;refine ⟨World.alloc_heap_new w2 _,(HG.out.below HR.out.below).below hb2,{hr2 with below:=HB1.out.trans (hr2.below.mono hb),hb:=⟨by have:=HR.out.hb;omega,by have:=HR.out.hb;omega,by have:=HR.out.hb;omega⟩},Ok.nil HL.out,List.Perm.refl _,Nat.le_trans hb HR.out.below.size,Nat.le_refl _⟩
open Go.RowKit
theorem zuq {n l:Nat} {P:Program} {row:String} {args:Array Value} {w:World} {R:Value->World->Prop} (h:Rows P row args w R):RowsIn (Fence.wide.inRound l) n P row args w R:=by
 intro c cs hr;obtain ⟨v,w',r,s⟩:=h c cs;exact ⟨v,w',r,stepsIn_wide.2 s⟩
theorem zct {n l:Nat} {P:Program} {ops:Array Oper} {Q:Exit->Act->World->Prop} (hd:∀(i:Nat) (o:Oper),ops[i]? =some o->∀c,o.op≠ .defer c) (hQ:¬LetsOut Q):
 ∀(idx:List Nat) (a:Act) (w:World),wpOps P ops Q idx a w->wpOpsIn (Fence.wide.inRound l) n P ops Q idx a w
 | [],_,_,h=>h
 | i::rest,a,w,h=>by
   unfold wpOps at h;unfold wpOpsIn;cases ho:ops[i]? with
   | none=>
     simp only [ho] at h;exact zct hd hQ rest a w h
   | some o=>
     simp only [ho] at h ⊢;split
     ·next hw=>
      rw [if_pos hw] at h;refine ⟨λ _ _=>trivial,?_⟩;rcases h with h | h
      ·have e:(Oper.semAt (Fence.wide.inRound l).round a.eval o)=execOp a.eval o:=Oper.semAt_some l _ _ (hd i o ho)
       rw [e];unfold Oper.wp at h;generalize (execOp a.eval o).run P w=r at h ⊢;cases r with
       | ok x w'=>
         cases x with
         | value v=>exact zct hd hQ rest _ _ h
         | skip=>exact zct hd hQ rest _ _ h
         | defer d=>exact zct hd hQ rest _ _ h
         | enter f args=>
           refine ⟨λ k=>(by cases k),CallsIn.inRound l (callsIn_wide.2 (Calls.mono h ?_))⟩;intro e w'' he;cases e with
           | returned v=>exact zct hd hQ rest _ _ he
           | panicked ch=>exact he
           | outgrown=>exact he
         | row row args=>exact ⟨λ k=>(by cases k),zuq (Rows.mono h λ v w'' he=>zct hd hQ rest _ _ he)⟩
         | round l' f tmps assign body=>exact h.elim
         | _=>exact h.elim
       | halt x w'=>
         cases x with
         | panic v=>exact h
         | _=>exact h.elim
      ·exact absurd h.2 hQ
     ·next hw=>
      rw [if_neg hw] at h;exact ⟨λ _ _=>trivial,zct hd hQ rest _ _ h⟩
theorem ziv {n l id:Nat} {P:Program} {ops:Array Oper} {Q:Exit->Act->World->Prop} {S:World->Prop} {a:Act} {w:World} (hm:P.follows .mixedOrders=true) (hd:∀(i:Nat) (o:Oper),ops[i]? =some o->∀c,o.op≠ .defer c) (hQ:¬LetsOut Q) (hS:S w.drew)
 (h:S w.drew->wpAnyH P .any ops Q S ops.size (Array.replicate ops.size false) a w.drew):(Code.region id ops true).wpIn (Fence.wide.inRound l) n P Q a w:=
 wpIn_region_draw λ t=>zct hd hQ _ _ _ (by
  simp only [Region.schedule,hm,Bool.true_or,if_true];exact wpAny_sound ops.size t _ a _ (wpAny_of_held _ _ _ _ (h hS)))
open Go.RowKit Go.Shelf Go.Proofs.Tryz
attribute [local go_sem] Oper.semAt_some
def zde (s:List (List UInt8) × List UInt8) (c:UInt8):List (List UInt8) × List UInt8:=if c=32\/c=10 then (s.1++[s.2],[]) else (s.1,s.2++[c])
def wst (l:List UInt8):List (List UInt8) × List UInt8:=l.foldl zde ([],[])
theorem zp7 (l:List UInt8) (c:UInt8):wst (l++[c])=zde (wst l) c:=by
 unfold wst;rw [List.foldl_append];rfl
theorem zh6:∀(l:List UInt8) (out:List (List UInt8)) (acc:List UInt8),(l.foldl zde (out,acc)).1=out++wds acc l
 | [],out,acc=>by simp [wds]
 | c::l,out,acc=>by
   rw [List.foldl_cons];by_cases h:c=32\/c=10
   ·have e:zde (out,acc) c=(out++[acc],[]):=by unfold zde;rw [if_pos h]
    rw [e,zh6 l,wds,if_pos h];simp
   ·have e:zde (out,acc) c=(out,acc++[c]):=by unfold zde;rw [if_neg h]
    rw [e,zh6 l,wds,if_neg h]
theorem zte (l:List UInt8):(wst l).1=wds [] l:=by
 unfold wst;rw [zh6];rfl
theorem z7d (l:List UInt8) (k:Nat) (hk:k<=l.length):(wst (l.take k)).2.length<=k/\(wst (l.take k)).2=(l.take k).drop (k-(wst (l.take k)).2.length):=by
 induction k with
 | zero=>simp [wst]
 | succ k ih=>
   obtain ⟨h1,h2⟩:=ih (by omega);have hx:l[k]? =some l[k]:=List.getElem?_eq_getElem (by omega);have e:l.take (k+1)=l.take k++[l[k]]:=by rw [List.take_add_one,hx];rfl
   rw [e,zp7];unfold zde;split
   ·refine ⟨by simp,?_⟩
    simp
   ·simp only [List.length_append,List.length_singleton]
    refine ⟨by omega,?_⟩;have e2:k+1-((wst (l.take k)).2.length+1)=k-(wst (l.take k)).2.length:=by omega
    rw [e2,List.drop_append_of_le_length (by simp;omega),<-h2]
theorem z9j (l:List UInt8):(wst l).1.length<=l.length:=by
 have key:∀(l:List UInt8) (s:List (List UInt8) × List UInt8),(l.foldl zde s).1.length<=s.1.length+l.length:=by
  intro l;induction l with
  | nil=>intro s;simp
  | cons c l ih=>
    intro s;rw [List.foldl_cons,List.length_cons];refine Nat.le_trans (ih _) ?_;unfold zde;split <;> simp <;> omega
 have:=key l ([],[]);unfold wst
 simpa using this
def KpB (Bs:Nat) (W W':World):Prop:=W'.heap[Bs]? =W.heap[Bs]?
theorem z8k {s:ByteArray} {k fr:Nat} (hk:k<=s.size) (hsz:s.size<=100000) (h:(wst (s.data.toList.take k)).2.length<=k/\(wst (s.data.toList.take k)).2=(s.data.toList.take k).drop fr):
 s.extract fr k=⟨(((wst (s.data.toList.take k)).2).take 100000).toArray⟩:=by
 rw [List.take_of_length_le (by omega)];apply ByteArray.ext;apply Array.toList_inj.1;rw [Lib.extract_data];show _=(wst (s.data.toList.take k)).2;rw [h.2,List.drop_take]
theorem zyq (n:Nat) (hn:1<=n) (l Bs:Nat) (s:ByteArray) (hsz:s.size<=100000) (J Jx:List (List UInt8)->World->Prop)
 (hY:∀pre x W,J pre W->pre.length<s.size+1->YieldAt Fence.wide (n-1) prog l #[.string ⟨(x.take 100000).toArray⟩] W λ e W'=>(e= .returned (.bool true)/\J (pre++[x]) W'/\KpB Bs W W')\/(e= .returned (.bool false)/\Jx (pre++[x]) W'))
 (W:World) (hBs:W.heap[Bs]? =some (.cells #[.string s] 9)) (h0:J [] W):
 CallsIn Fence.wide n prog 202 #[.func (.yield l) #[] #[],.pointer (some ⟨Bs,0,none⟩)] W λ e W'=>(∃v,e= .returned v)/\
  ((∃ys,ys=wds [] s.data.toList/\J ys W')\/(∃pre,(∃k,pre=(wst (s.data.toList.take k)).1)/\Jx pre W')):=by
 have hro:Fence.wide.round=none:=rfl;have HY:Hid _:=hY;have HB:=kd hBs;have hc:W.cell? ⟨Bs,0,none⟩=some (.string s):=by simp [World.cell?,hBs]
 clear hY hBs;refine callsIn_of_wp func202 rfl trivial ?_ hro;simp only [ntmps202,List.size_toArray,List.length_cons,List.length_nil,Nat.reduceAdd,Nat.reduceSub,Array.replicate_succ,Array.replicate_zero,List.push_toArray,List.append_toArray,List.nil_append,List.cons_append]
 gi_wp2
 gi_loopw [3,7] (λ s3 s7 wr=>∃k:Nat,k<=s.size/\s7= .int .i64 k/\s3= .int .i64 ((k-(wst (s.data.toList.take k)).2.length:Nat):Int)/\J (wst (s.data.toList.take k)).1 wr/\wr.heap[Bs]? =some (.cells #[.string s] 9))
  (λ _ i _=>s.size-(RowKit.intOf i).toNat)
 case atStart=>exact ⟨0,Nat.zero_le _,rfl,rfl,h0,HB.out⟩
 case round=>
  obtain ⟨k,hk,rfl,rfl,hJ,hbx⟩:=hrel;have HJ:=kd hJ;have HX:=kd hbx;have hcx:wr.cell? ⟨Bs,0,none⟩=some (.string s):=by simp [World.cell?,hbx]
  have HW:Hid _:=z7d s.data.toList k (by simpa using hk);generalize hfr:k-(wst (s.data.toList.take k)).2.length=fr at*;have HFR:=kd hfr;have hfk:fr<=k:=by omega
  clear hJ hbx hfr;by_cases hlt:k<s.size
  ·have hlt':k<s.data.toList.length:=by simpa using hlt
   have hx:s.data.toList[k]? =some (s[k]'hlt):=by rw [List.getElem?_eq_getElem hlt'];rfl
   have HT:Hid (s.data.toList.take (k+1)=s.data.toList.take k++[s[k]'hlt]):=by
    show _=_;rw [List.take_add_one,hx];rfl
   clear hx hlt';have HS:Hid _:=zp7 (s.data.toList.take k) s[k];by_cases hsep:s[k]=32\/s[k]=10
   ·have HSP:=kd hsep
    have hex:s.extract fr k=⟨(((wst (s.data.toList.take k)).2).take 100000).toArray⟩:=z8k hk hsz HW.out;obtain ⟨fn,tmps,assign,body,hy,hR⟩:=HY.out _ (wst (s.data.toList.take k)).2 wr HJ.out (by have:=z9j (s.data.toList.take k);simp at this;omega);rw [<-hex] at hy;have HR:Hid _:=hR;clear hR hex;have HN:Hid (∀W3,J ((wst (s.data.toList.take k)).1++[(wst (s.data.toList.take k)).2]) W3->J (wst (s.data.toList.take (k+1))).1 W3):=λ W3 h=>by
     rw [HT.out,HS.out];unfold zde;rw [if_pos HSP.out];exact h
    have HN2:Hid ((wst (s.data.toList.take (k+1))).1=(wst (s.data.toList.take k)).1++[(wst (s.data.toList.take k)).2]):=by
     show _=_;rw [HT.out,HS.out];unfold zde;rw [if_pos HSP.out]
    have HE:Hid (k+1-(wst (s.data.toList.take (k+1))).2.length=k+1):=by
     show _=_;rw [HT.out,HS.out];unfold zde;rw [if_pos HSP.out];simp
    clear HT HS HW;have hb:(((s[k]).toNat:Int) != 32)=true/\(((s[k]).toNat:Int) != 10)=false\/(((s[k]).toNat:Int) != 32)=false:=by
     rcases hsep with e | e
     ·exact .inr (by rw [e];decide)
     ·exact .inl ⟨by rw [e];decide,by rw [e];decide⟩
    clear hsep;rcases hb with ⟨hb1,hb2⟩ | hb1
    ·gi_wp2
     refine RoundIn.mono HR.out ?_;rintro e W3 (⟨rfl,hJ3,hk3⟩ | ⟨rfl,hJx3⟩)
     ·have HJ3:Hid (J (wst (s.data.toList.take (k+1))).1 W3):=HN.out _ hJ3
      have HX3:Hid (W3.heap[Bs]? =some (.cells #[.string s] 9)):=hk3.trans HX.out;clear hJ3 hk3
      gi_wp2
      go_roundw;case rel=>exact ⟨k+1,by omega,by go_num,by rw [HE.out];go_num,HJ3.out,HX3.out⟩
      case measure=>simp [RowKit.intOf];omega
     ·gi_wp2
      refine bodyPost_ret (results_none rfl _ _ _) rfl ?_;exact ⟨⟨_,rfl⟩,.inr ⟨_,⟨k+1,HN2.out.symm⟩,hJx3⟩⟩
    ·gi_wp2
     refine RoundIn.mono HR.out ?_;rintro e W3 (⟨rfl,hJ3,hk3⟩ | ⟨rfl,hJx3⟩)
     ·have HJ3:Hid (J (wst (s.data.toList.take (k+1))).1 W3):=HN.out _ hJ3
      have HX3:Hid (W3.heap[Bs]? =some (.cells #[.string s] 9)):=hk3.trans HX.out;clear hJ3 hk3
      gi_wp2
      go_roundw;case rel=>exact ⟨k+1,by omega,by go_num,by rw [HE.out];go_num,HJ3.out,HX3.out⟩
      case measure=>simp [RowKit.intOf];omega
     ·gi_wp2
      refine bodyPost_ret (results_none rfl _ _ _) rfl ?_;exact ⟨⟨_,rfl⟩,.inr ⟨_,⟨k+1,HN2.out.symm⟩,hJx3⟩⟩
   ·have h32:(((s[k]).toNat:Int) != 32)=true:=by
     rw [bne_iff_ne];intro e;exact hsep (.inl (UInt8.toNat_inj.1 (by simpa using Int.ofNat_inj.1 e)))
    have h10:(((s[k]).toNat:Int) != 10)=true:=by
     rw [bne_iff_ne];intro e;exact hsep (.inr (UInt8.toNat_inj.1 (by simpa using Int.ofNat_inj.1 e)))
    have HE:Hid (wst (s.data.toList.take (k+1))=((wst (s.data.toList.take k)).1,(wst (s.data.toList.take k)).2++[s[k]])):=by
     show _=_;rw [HT.out,HS.out];unfold zde;rw [if_neg hsep]
    clear hsep
    gi_wp2
    go_roundw;case rel=>exact ⟨k+1,by omega,by go_num,by rw [HE.out];simp;have:=HFR.out;omega,by rw [HE.out];exact HJ.out,HX.out⟩
    case measure=>simp [RowKit.intOf];omega
  ·obtain rfl:k=s.size:=by omega
   gi_wp2
   go_end0
   refine ⟨⟨_,rfl⟩,.inl ⟨_,(zte _),?_⟩⟩;have:=HJ.out
   rwa [List.take_of_length_le (by simp)] at this
end Go.Proofs.YtebcjaenhiiflaaGreatDoor.I
namespace Go.Proofs.YtebcjaenhiiflaaGreatDoor.I
open Go.RowKit Go.Shelf Go.WideMaps Go.Maps Go.Proofs.Tryz
attribute [local go_sem] Oper.semAt_some
def rdS (s:List UInt8):Option (Nat × List Int × List G.E):=
 match Lib.atoiAll (Lib.cut s [10]).1 with
 | .ok m=>if 0<=m/\m<=40 then (rdP m.toNat (wds [] (Lib.cut s [10]).2.1)).map λ a=>(m.toNat,a) else none
 | _=>none
theorem zs1 (n:Nat) (hn:1<=n) (Bs:Nat) (s:ByteArray) (hsz:s.size<=100000) (w:World) (hBs:w.heap[Bs]? =some (.cells #[.string s] 9)):
 SeqStopsK Fence.wide n prog 202 #[.pointer (some ⟨Bs,0,none⟩)] (λ x:List UInt8=>#[Value.string ⟨(x.take 100000).toArray⟩]) (KpB Bs) (λ ys=>ys=wds [] s.data.toList) (λ pre=>∃k,pre=(wst (s.data.toList.take k)).1) (s.size+1) w:=λ l J Jx W hW _ _ hY h0=>
 zyq n hn l Bs s hsz J Jx hY W ((hW.block Bs (G.lt_of_some hBs)).trans hBs) h0
theorem z2z (s:ByteArray) (w:World):
 Calls prog 103 #[.string s] w λ e w'=>e= .returned (.func (.func 202) #[] #[.pointer (some ⟨w.heap.size,0,none⟩)])/\w'=w.alloc (.cells #[.string s] 9):=by
 go_enter func103,ntmps103;go_wp2_with fail;go_ret;exact ⟨rfl,rfl⟩
def z03 (w:World) (s:ByteArray) (e:Ending) (w':World):Prop:=
 (∃n acc L,rdS s.data.toList=some (n,acc,L)/\∃x p q v R B W T D pw bw pt bt mp N,e= .returned (.tuple #[.pointer (some ⟨x,0,none⟩),.nilIface])/\IAt w w' x p q n v L R B W T D pw bw pt bt mp N)\/
 (rdS s.data.toList=none/\(∃t p,e= .returned (.tuple #[.pointer none,.iface t p]))/\Below w.heap.size w w')
theorem IAt.base {w0 w1 w:World} {x p q n:Nat} {v:Value} {L R B:List G.E} {W T:List Nat} {D:DataW Unit} {pw bw pt bt mp N:Nat} (h:IAt w1 w x p q n v L R B W T D pw bw pt bt mp N) (hb:Below w0.heap.size w0 w1):IAt w0 w x p q n v L R B W T D pw bw pt bt mp N:=by
 have hs:=hb.size;have h1:=h.hx;have h2:=h.hp;have h3:=h.rn.hb;exact {h with gra:=⟨h.gra.hp,G.zad.mono h.gra.row hs,h.gra.ne⟩,rn:={h.rn with below:=hb.trans (h.rn.below.mono hs),hb:=⟨by omega,by omega,by omega⟩},hx:=by omega,hp:=by omega}
structure Kc (B mp:Nat) (X Y:World):Prop where
 os:Y.os=X.os
 tape:Y.tape=X.tape
 output:Y.output=X.output
 size:X.heap.size<=Y.heap.size
 cells:∀(k:Nat) (c:Array Value) (t:TypeId) (f:Nat × Nat),X.heap[k]? =some (.cells c t f)->Y.heap[k]? =some (.cells c t f)
 low:∀k,k<B->k<X.heap.size->Y.heap[k]? =X.heap[k]?
 map:mp<B
theorem Kc.of {B mp:Nat} {X Y:World} {row:Option Nat} (hg:X.grownBy Y row) (hr:∀r,row=some r->B<=r/\∃o:Obj,X.heap[r]? =some o/\o.isCells=false) (hm:mp<B):Kc B mp X Y:=by
 refine ⟨hg.os,hg.tape,hg.output,hg.size,λ k c t f hk=>?_,λ k hk hk2=>hg.block k hk2 (λ e=>?_),hm⟩
 ·rw [hg.block k (G.lt_of_some hk) (λ e=>?_)]
  ·exact hk
  ·obtain ⟨_,o,ho,hc⟩:=hr k e.symm
   rw [hk] at ho;injection ho with ho
   subst ho;cases hc
 ·have:=(hr k e.symm).1
  omega
theorem Kc.boxed {B mp b t:Nat} {X Y:World} {v:Value} (k:Kc B mp X Y) (h:Boxed X b t v):Boxed Y b t v:=k.cells _ _ _ _ h
theorem Kc.row {B mp base e s n:Nat} {X Y:World} {v:Value} {xs:List Value} (k:Kc B mp X Y) (h:X.ownsRow base e s v n xs):Y.ownsRow base e s v n xs:=by
 refine ⟨h.1,?_⟩;rcases h.2 with h2 | ⟨g,cap,cur,a,b,c,d⟩
 ·exact .inl h2
 ·exact .inr ⟨g,cap,cur,a,b,k.cells _ _ _ _ c,d⟩
theorem IAt.kc {w0 X Y:World} {x p q n C:Nat} {v:Value} {L R B:List G.E} {W T:List Nat} {D:DataW Unit} {pw bw pt bt mp N:Nat} (h:IAt w0 X x p q n v L R B W T D pw bw pt bt mp N) (k:Kc C mp X Y) (hC:w0.heap.size<=C):IAt w0 Y x p q n v L R B W T D pw bw pt bt mp N:=by
 obtain ⟨es,c,hm,F,hs,hD⟩:=h.rn.now.at_.hm;have hb:=h.rn.below;refine {h with ix:=k.cells _ _ _ _ h.ix,gra:=⟨k.cells _ _ _ _ h.gra.hp,k.row h.gra.row,h.gra.ne⟩,rn:={h.rn with now:=⟨⟨k.cells _ _ _ _ h.rn.now.at_.hp,⟨k.cells _ _ _ _ h.rn.now.at_.sw.hp,k.cells _ _ _ _ h.rn.now.at_.sw.hb⟩,⟨k.cells _ _ _ _ h.rn.now.at_.st.hp,k.cells _ _ _ _ h.rn.now.at_.st.hb⟩,⟨es,c,?_,F,hs,hD⟩,h.rn.now.at_.pp,h.rn.now.at_.bb⟩,h.rn.now.st,h.rn.now.dis⟩,below:=?_}}
 ·rw [k.low mp k.map (G.lt_of_some hm)];exact hm
 ·exact ⟨k.os.trans hb.os,k.tape.trans hb.tape,k.output.trans hb.output,Nat.le_trans hb.size k.size,λ j hj=>(k.low j (by omega) (Nat.lt_of_lt_of_le hj hb.size)).trans (hb.block j hj)⟩
end Go.Proofs.YtebcjaenhiiflaaGreatDoor.I
