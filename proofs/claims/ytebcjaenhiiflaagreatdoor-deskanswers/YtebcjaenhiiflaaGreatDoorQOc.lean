import Derived.Test.YtebcjaenhiiflaaGreatDoorQBbBl
import Derived.Test.YtebcjaenhiiflaaGreatDoorQGYfGYc
import Derived.Test.YtebcjaenhiiflaaGreatDoorQIm
set_option maxHeartbeats 4000000
set_option maxRecDepth 100000
namespace Go.Proofs.Y.S
open Go.RowKit Go.WideMaps Go.Maps Go.Proofs.Tryz
variable {w0 w w':World} {p pw bw pt bt mp n N:Nat} {R B:List (Int × Int × Int)} {W T:List Nat} {D:DataW Unit}
theorem zml (h:Below w0 w0 w)(k:Bk bw bt mp w w')(h1:w0<=bw)(h2:w0<=bt)(h3:w0<=mp):Below w0 w0 w':=
 ⟨k.os.trans h.os,k.tape.trans h.tape,k.output.trans h.output,aD h.size k.size,λ j hj=>(k.block j (aR hj h.size) (by omega) (by omega) (by omega)).trans (h.block j hj)⟩
structure Rn (w0 w:World) (p pw bw pt bt mp n:Nat) (R B:List (Int × Int × Int)) (W T:List Nat) (D:DataW Unit) (N:Nat):Prop where
 now:Now w p pw bw pt bt mp N n R B W T D
 below:Below w0 w0 w
 unl:Unl R
 ids:∀e∈R,0<=e.1/\e.1<=1099511627776
 bl:B.length<=R.length
 nl:N<=R.length
 rl:R.length<=120
 hb:w0.heap.size<=bw/\w0.heap.size<=bt/\w0<=mp
theorem Rn.below' (h:Rn w0 w p pw bw pt bt mp n R B W T D N)(hb:Below w w w'):Rn w0 w' p pw bw pt bt mp n R B W T D N:=
 {h with now:=h.now.below hb,below:=h.below.tr hb}
def zs8 (w0:World)(p pw bw pt bt mp n:Nat)(R:List (Int × Int × Int))(f:Int × Int × Int)(w:World)(e:Ending)(w':World):Prop:=
 ∃ok B' W' T' D' N',e=Value.tuple #[.bool ok,.nilIface]/\Rn w0 w' p pw bw pt bt mp n (R++[f]) B' W' T' D' N'/\Bk bw bt mp w w'/\(ok=true↔f∈B')
theorem zed {x:Int}(h:0<=x/\x<=1099511627776):(Lit.int .i64 x).wf=true:=WalkArith.wf_i64 (by omega)
theorem zhv (h:Rn w0 w p pw bw pt bt mp n R B W T D N)(i:Int)(x y:Nat)(hx:x<n)(hy:y<n)(BO:x≠y)(hn:n<=40)(hi:0<=i/\i<=1099511627776)(AB:∀e∈R,e.1≠i)(hl:R.length<120):
 Calls prog 57 #[.pointer p,i,x,y] w (zs8 w0 p pw bw pt bt mp n R (edge i x y) w):=by
 refine(zq2 i x y w h.now hx hy BO hn (by have:=h.nl;omega) (by have:=h.bl;omega) AB (zed hi) (λ e he=>zed (h.ids e he))).mono ?_;rintro e w' ⟨ok,W',T',D',B',N',rfl,hnow,hBl,hNl,CG,p8⟩;have hu:Unl (R++[edge i x y]):=by
  unfold Unl;rw[iZ];refine⟨h.unl,gV _ _,λ a ha b hb=>?_⟩;rw[aJ.1 hb];exact AB a ha
 refine⟨ok,B',W',T',D',N',rfl,⟨hnow,zml h.below CG h.hb.1 h.hb.2.1 h.hb.2.2,hu,?_,?_,?_,?_,h.hb⟩,CG,p8⟩
 ·intro e he
  rcases aK.1 he with he|he
  ·exact h.ids e he
  ·rw[aJ.1 he];exact hi
 ·have:=h.bl;simp;omega
 ·have:=h.nl;simp;omega
 ·simp;omega
theorem zkj {w1:World}(h:BAt w1 p pw bw pt bt mp 0 (List.range n) (List.range n) (.map []))(hb:Below w w w1)(h1:w<=bw)(h2:w<=bt)(h3:w<=mp):Rn w w1 p pw bw pt bt mp n [] [] (List.range n) (List.range n) (.map []) 0:=
 ⟨⟨h,St.start n,Dis.empty⟩,hb,List.Pairwise.nil,by simp,by simp,aF _,by simp,h1,h2,h3⟩
theorem zi4 {i:Int}{x y:Nat}(h:x<y):edge i x y=(i,(x:Int),(y:Int))/\edge i y x=(i,(x:Int),(y:Int)):=by
 unfold edge;rw[show min x y=x by omega,show max x y=y by omega,show min y x=x by omega,show max y x=y by omega];exact⟨rfl,rfl⟩
theorem zpa {L:List (Int × Int × Int)}(h:I.Ok n L){e:Int × Int × Int}(he:e∈L):∃x y:Nat,x<y/\y<n/\e=(e.1,(x:Int),(y:Int)):=by
 have h1:=h.ed e he;obtain⟨i,a,b⟩:=e;dsimp only at h1 ⊢;obtain⟨x,rfl⟩:=dE h1.2.1;obtain⟨y,rfl⟩:=dE (show 0<=b by omega);exact⟨x,y,by omega,by omega,rfl⟩
theorem yh (n B0 q:Nat)(u:Value)(L:List (Int × Int × Int))(w:World)(h:G.GAt w B0 168 61 q (n:Int) u L)(AV:I.Ok n L):
 Calls prog 54 #[.pointer q] w λ e w'=>∃p pw bw pt bt mp B W T D N,e=Value.pointer (some ⟨p,0,none⟩)/\Rn w w' p pw bw pt bt mp n L B W T D N:=by
 have HG:=kd h;have HE:=kd AV;have hlen:=AV.len;have hn14:=AV.n40;clear h AV;go_enter func54,ntmps54;go_wp2_with fail;refine(G.Cg (n:Int) B0 q u L w HG.o).mono ?_;rintro e w1 ⟨rfl,AR⟩;subst AR;go_wp2_with fail;refine(zqs n w1 HE.o.n40).mono ?_;rintro e w2 ⟨p,pw,bw,pt,bt,mp,rfl,j5,LD,_,h2,h3,h4⟩;have HS:Hid (Rn w1 w2 p pw bw pt bt mp n [] [] (List.range n) (List.range n) (.map []) 0):=zkj j5 LD h2 h3 h4;clear j5 LD h2 h3 h4;go_wp2_with fail;refine(G.Dv (n:Int) B0 q u L w2 (HG.o.below HS.o.below) (by omega)).mono ?_;rintro e w3 ⟨v,rfl,ho,y8⟩;obtain⟨m,hm⟩:∃m,m=L.length:=⟨_,rfl⟩;have HM:=kd hm;obtain⟨va,vc,hv⟩:=ho.Ap;rw[<-hm] at hv hlen;subst hv;have HO:=kd ho;have IG:Hid (Rn w1 w3 p pw bw pt bt mp n [] [] (List.range n) (List.range n) (.map []) 0):=HS.o.below' y8;have hbw:bw<w3/\bt<w3/\mp<w3:=⟨IG.o.now.at_.sw.blt,IG.o.now.at_.st.blt,IG.o.now.at_.hm.lt⟩;have hbw2:bw<w2/\bt<w2/\mp<w2:=⟨HS.o.now.at_.sw.blt,HS.o.now.at_.st.blt,HS.o.now.at_.hm.lt⟩;clear ho y8 HS hm;go_wp2_with fail;go_loopw [16] (λ s16 wq=>∃(j:Nat) (B:List (Int × Int × Int)) (W T:List Nat) (D:DataW Unit) (N:Nat),j<=m/\s16=j/\Rn w1 wq p pw bw pt bt mp n (L.take j) B W T D N/\Bk bw bt mp w3 wq) (λ s16 _=>m-(intOf s16).toNat)
 case atStart=>exact⟨0,_,_,_,_,_,aN _,rfl,by simpa using IG.o,Bk.refl _⟩
 case round=>
  clear IG;obtain⟨j,B,W,T,D,N,hj,rfl,hr,hk⟩:=hrel;have HR:=kd (And.intro hr hk);clear hr hk;by_cases j6:j<m
  ·obtain⟨e,hx⟩:∃e,L[j]? =some e:=⟨_,aB (by rw[<-HM.o];exact j6)⟩
   have NU:=aG hx;obtain⟨x,y,BO,ME,he⟩:=zpa HE.o NU;have LF:=(HE.o.ed e NU).1;obtain⟨g,EF⟩:∃g,va=some ⟨g,0,none⟩:=by
    rcases HO.o.shape with⟨_,k⟩|⟨g,cap,k,_⟩
    ·rw[k] at hx;simp at hx
    ·injection k with e1 _ _
     exact⟨g,e1⟩
   subst EF;obtain⟨r0,r1,r2⟩:=HO.o.at (g:=g) rfl hx;have hgb:w2<=g:=(aU HO.o g rfl).1;have q0:=HR.o.2.cell r0 (by omega) (by omega) (by omega);have q1:=HR.o.2.cell r1 (by omega) (by omega) (by omega);have q2:=HR.o.2.cell r2 (by omega) (by omega) (by omega);have UU:Hid (L.take (j+1)=L.take j++[e]):=by
    show L.take (j+1)=_;rw[bL,hx];rfl
   have AB:∀d∈L.take j,d.1≠e.1:=by
    intro d hd k;obtain⟨i,hi,CR⟩:=dD.1 hd;obtain⟨MF,CE⟩:=aC.1 hx;have hij:i<j:=by simp at hi;omega
    rw[gP] at CR;have:=dM.1 HE.o.up i j (by omega) MF hij;rw[CR,CE] at this;omega
   obtain⟨x0,ER⟩:∃x0,e.1=x0:=⟨_,rfl⟩;rw[ER] at he LF AB q0;subst he;have RU:=kd AB;simp only at q0 q1 q2;clear hx r0 r1 r2 AB ER NU;obtain⟨W1,AJ⟩:∃W1,W1=wr.alloc (.cells #[x0,x,y] 61):=⟨_,rfl⟩;have hh:W1.heap[wr.heap.size]? =some (.cells #[x0,x,y] 61):=by rw[AJ];exact aQ wr _
   have p0:W1.cell? wr=x0:=by simp[World.cell?,hh]
   have p1:W1.cell? (wr,1)=x:=by simp[World.cell?,hh]
   have p2:W1.cell? (wr,2)=y:=by simp[World.cell?,hh]
   have BK:Below wr wr W1:=by rw[AJ];exact b_
   have BZ:Hid (Rn w1 W1 p pw bw pt bt mp n (L.take j) B W T D N/\Bk bw bt mp w3 W1):=⟨HR.o.1.below' BK,HR.o.2.trans (Bk.of_below BK)⟩;have BQ:=kd AJ.symm;have MF:(L.take j).length<120:=by simp;omega
   clear hh AJ BK HR;go_wp2_with fail;rw[BQ.o];refine(zhv BZ.o.1 x0 x y (by omega) (by omega) (by omega) HE.o.n40 LF RU.o MF).mono ?_;rintro e' w4 ⟨ok,B',W',T',D',N',rfl,TK,MG,_⟩;rw[(zi4 BO).1] at TK;have LC:Hid (Rn w1 w4 p pw bw pt bt mp n (L.take (j+1)) B' W' T' D' N'/\Bk bw bt mp w3 w4):=by
    rw[UU.o];exact⟨TK,BZ.o.2.trans MG⟩
   clear TK MG BZ p0 p1 p2;go_wp2_with fail;go_roundw;case rel=>exact⟨j+1,B',W',T',D',N',by omega,by go_num,LC.o.1,LC.o.2⟩
   case measure=>simp[intOf];omega
  ·have CE:j=m:=by omega
   subst CE;have HF:Hid (Rn w1 wr p pw bw pt bt mp n L B W T D N):=by
    have:=HR.o.1;rw[aZ (by rw[<-HM.o];omega)] at this;exact this
   clear HR;go_wp2_with fail;go_ret;exact⟨p,pw,bw,pt,bt,mp,B,W,T,D,N,rfl,HF.o⟩
end Go.Proofs.Y.S
