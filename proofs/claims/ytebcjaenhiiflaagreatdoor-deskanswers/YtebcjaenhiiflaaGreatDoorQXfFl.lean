import Derived.Test.YtebcjaenhiiflaaGreatDoorQKVwFg
import Derived.ArgAppend
set_option maxHeartbeats 4000000
set_option maxRecDepth 100000
namespace Go.Proofs.Y.S.X
open Go.RowKit Go.WideMaps Go.Maps Go.Proofs.Tryz
theorem ze9 (n B p:Nat)(v:Value)(R:List (Int × Int × Int))(P:Nat->Nat->Bool)(w:World)(h:G.GAt w B 168 61 p (n:Int) v R)(hn:n<=40)(p9:Inn n R)(hl:R.length<=120)(hP:∀a b,a<n->b<n->(P a b=true↔Mt R n a b)):
 Calls prog 85 #[.pointer p] w λ e w'=>∃u,e= .returned u/\Aq w' w u (Bj P n n)/\Below w w w':=by
 have HG:=kd h;have BG:=kd (And.intro p9 hl);have HP:=kd hP;have MR:=λ W=>run_make_row' (P:=prog) 212 175 (.pointer none) 8 underlying212 Xi rfl .i64 .i64 n (by omega) (by omega) W
 clear h p9 hl hP;go_enter func85,ntmps85;go_wp2_with fail;refine(G.Cg (n:Int) B p v R _ HG.o).mono ?_;rintro e w0 ⟨rfl,ZW⟩;subst ZW;go_wp2_with fail;refine(G.Dv (n:Int) B p v R _ HG.o BG.o.2).mono ?_;rintro e w1 ⟨ue,rfl,MX,j4⟩;have HE:=kd (And.intro MX j4);have HA0:Hid (Al w1 (w1.alloc (.cells (madeCells #[.pointer none] n) 175)) w1 n 0 R):=zk7 w1 w1 n R (aI _ _);obtain⟨ae,ce,hue⟩:=MX.Ap;clear MX j4;obtain⟨le,hle⟩:∃le,R.length=le:=⟨_,rfl⟩;have HLE:=kd hle;rw[hle] at hue;subst hue;go_wp2_with fail;clear MR hle;go_loopw [19] (λ s19 wq=>∃k:Nat,k<=n/\s19=k/\Al w1 wq w1 n k R) (λ s19 _=>n-(intOf s19).toNat)
 case atStart=>exact⟨0,aN _,rfl,HA0.o⟩
 case round=>
  clear HA0;obtain⟨k,hk,rfl,KM⟩:=hrel;have HA:=kd KM;clear KM;by_cases j6:k<n
  ·as_aux_lemma=>
   have j4:Below wr wr ((wr.alloc (.cells #[k] 3)).drew):=(b_).drew;have HC:Hid (Calls prog 147 #[n,.slice ae le ce,.func (.func 148) #[] #[.pointer wr]] ((wr.alloc (.cells #[k] 3)).drew) λ e w'=>∃q,e=Value.pointer (some ⟨q,0,none⟩)/\w'.cell? wr=k/\w'.cell? (w1,k)=some (.pointer none)/\w'.frozen? (w1,k)=false/\(w'.setCell (w1,k) (.pointer (some ⟨q,0,none⟩))).cell? wr=k/\Hid (Al w1 (w'.setCell (w1,k) (.pointer (some ⟨q,0,none⟩))) w1 n (k+1) R)):=by
    have hc:((wr.alloc (.cells #[k] 3)).drew).cell? wr=k:=by simp
    have hA1:=HA.o.below' j4;refine(jo n w0 wr (λ x=>decide (x≠k)) (.slice ae le ce) R _ (HE.o.1.below (HA.o.below.tr j4)) (by omega) BG.o.1 BG.o.2 (λ W x hW=>zo7 x wr k W (cell_below hc hW))).mono ?_;rintro e w' ⟨q,b,rfl,hs,hq,UN,j5⟩;have JW:=hA1.below' j5;have:=HA.o.lt;have BS:=j4.size;exact⟨q,rfl,cell_below hc j5,JW.rest k (aF _) j6,JW.fz k,(eD _ _ _ _ (λ c=>by injection c with c _ _;omega)).trans (cell_below hc j5),JW.step j6 hs (by omega) (by omega)⟩
   have hmf':=hmf;have GY:((wr.alloc (.cells #[k] 3)).drew).cell? wr=k:=by simp
   clear j4 HA;go_upto_region 6 with fail
   go_region_with (go_at_call 147;refine HC.o.mono ?_;rintro e w' ⟨q,rfl,BV,IZ,hf2,UX,JW⟩)
   all_goals
    go_wp2_with fail;go_roundw;case rel=>exact⟨k+1,by omega,by go_num,JW.o⟩
    case measure=>simp[intOf];omega
  ·have CF:k=n:=by omega
   subst CF;have PI:Hid (Pr wr wr (.slice none 0 0) (Bj P k 0)):=⟨aX _ _ _ _,aI _ _⟩;obtain⟨W1,AJ⟩:∃W1,wr=W1:=⟨_,rfl⟩;rw[AJ] at HA PI ⊢;clear AJ;go_wp2_with fail;go_loopw [7,31] (λ s7 s31 wq=>∃a:Nat,a<=k/\s31=a/\Pr W1 wq s7 (Bj P k a)) (λ _ s31 _=>k-(intOf s31).toNat)
   case atStart=>exact⟨0,aN _,rfl,PI.o⟩
   case round=>
    clear PI;obtain⟨a,ha,rfl,EG⟩:=hrel;have JX:=kd EG;clear EG;by_cases hla:a<k
    ·have GG:Hid (B3 W1 ((wr.alloc (.cells #[a] 3)).alloc (.cells #[((a:Int)+1:Int)] 3)) wr (wr+1) a (a+1) u7 (Bj P k a++Cf P a (a+1))):=by
      have:=B3.start JX.o a;rw[show((a+1:Nat):Int)=(a:Int)+1 from by omega] at this;show B3 _ _ _ _ _ _ _ _;rw[U3,eX];exact this
     obtain⟨ba,MM⟩:∃ba,wr.heap.size=ba:=⟨_,rfl⟩;have FX:=kd MM;go_wp2_with fail;rw[MM] at GG;clear MM;go_loopg [7,9] (k-(a+1)) (λ r s7 s9 wq=>∃b bb:Nat,b+r=k/\a<b/\s9= .pointer bb/\B3 W1 wq ba bb a b s7 (Bj P k a++Cf P a b))
     case atStart=>exact⟨a+1,ba+1,by omega,by omega,rfl,GG.o⟩
     case round=>
      clear GG JX;obtain⟨b,bb,CG,BJ,rfl,y8⟩:=hrel;have HB:=kd y8;clear y8;have ca:=HB.o.zd0;have cb:=HB.o.Kb;by_cases RZ:b<k
      ·have HT:Hid (Calls prog 147 #[k,.slice ae le ce,.func (.func 149) #[] #[.pointer ba,.pointer bb]] wr (Rk wr k R λ x=>decide (x≠a/\x≠b))):=by
        have j4:=HA.o.below;have j5:=HB.o.pr.below;exact fq k w0.heap.size ba bb _ (.slice ae le ce) R wr (HE.o.1.below (j4.tr j5)) (by omega) BG.o.1 BG.o.2 (λ W x hW=>zqe x ba bb a b W (cell_below ca hW) (cell_below cb hW))
       have hmf':=hmf;go_wp2_with fail;refine HT.o.mono ?_;rintro e w2 ⟨q,bq,rfl,hsq,_,_,j5⟩;have y5:Hid (B3 W1 w2 ba bb a b u7 (Bj P k a++Cf P a b)):=HB.o.below' j5;have JW:=(HA.o.below' y5.o.pr.below);obtain⟨pa,xa,ea1,ea2,_,_⟩:=JW.cell a (by omega);obtain⟨pb,xb,eb1,eb2,_,_⟩:=JW.cell b RZ;have HC:Hid (Calls prog 150 #[k,.pointer pa,.pointer pb,.pointer q] w2.drew λ e w'=>e=Value.bool (P a b)/\(w'.cell? ba=a/\w'.cell? bb=b/\w'.cell? (w1,a)=some (.pointer pa)/\w'.cell? (w1,b)=some (.pointer pb))/\Hid (B3 W1 w' ba bb a b u7 (Bj P k a++Cf P a b))):=by
        have hd:Below w2 w2 w2.drew:=(aI _ _).drew;refine(zk8 k pa xa pb xb q bq (O6 k R a) (O6 k R b) (zdi k R a b) (P a b) w2.drew (ea2.below hd ea2.plt ea2.blt) (eb2.below hd eb2.plt eb2.blt) (Aa.below hsq hd hsq.plt hsq.blt) (by omega) (Mq BG.o.1 _) (Mq BG.o.1 _) (Mq BG.o.1 _) ?_).mono ?_
        ·rw[HP.o a b (by omega) RZ,zaa BG.o.1]
        ·rintro e w' ⟨rfl,hb⟩
         have h3:=(y5.o.below' hd).below' hb;exact⟨rfl,⟨h3.zd0,h3.Kb,cell_below (cell_below ea1 hd) hb,cell_below (cell_below eb1 hd) hb⟩,h3⟩
       have GY:w2.drew.cell? ba=a/\w2.drew.cell? bb=b/\w2.drew.cell? (w1,a)=some (.pointer pa)/\w2.drew.cell? (w1,b)=some (.pointer pb):=⟨y5.o.zd0,y5.o.Kb,ea1,eb1⟩;clear JW ea1 ea2 eb1 eb2 hsq j5 HT HB y5 ca cb hmf';have hlen:(Bj P k a++Cf P a b).length<=10000:=by
        have h1:=yu P (n:=k) (a:=a);have h2:=Sw P (a:=a) (b:=b);have h3:a*k<=40*40:=fU (by omega) hn;rw[aM];omega
       cases YQ:P a b with
       |true=>
        as_aux_lemma=>
        rw[YQ] at HC;obtain⟨ca2,cb2,ea1,eb1⟩:=GY;go_upto_region 16 with fail
        go_region_with (go_at_call 150;refine HC.o.mono ?_;rintro e w' ⟨rfl,CO,hB3⟩)
        all_goals
         obtain⟨ca3,cb3,_,_⟩:=CO;obtain⟨v',w4,hr,GX,KQ,QF⟩:=Kt 65 w' W1 u7 _ a b hB3.o.pr.own hB3.o.pr.below.size hlen;have HR:=kd hr;have EP:Hid (B3 W1 w4 ba bb a b v' (Bj P k a++Cf P a (b+1))):=by
          have:=hB3.o.more GX KQ QF;rw[dW,<-jv P BJ YQ] at this;exact this
         have cb4:=EP.o.Kb;have HN:Hid (B3 W1 (w4.alloc (.cells #[((b:Int)+1:Int)] 3)) ba w4 a (b+1) v' (Bj P k a++Cf P a (b+1))):=by
          have:=EP.o.next;rw[show((b+1:Nat):Int)=(b:Int)+1 from by omega] at this;exact this
         clear hr GX KQ QF hB3 EP;go_wp2_with (at_builtin;refine Lib.wpList_append_run _ rfl _ _ _ _ rfl _ _ rfl rfl _ _ HR.o ?_);go_roundg (gk-1);case measure=>omega
         case rel=>exact⟨b+1,w4.heap.size,by omega,by omega,rfl,HN.o⟩
       |false=>
        as_aux_lemma=>
        rw[YQ] at HC;obtain⟨ca2,cb2,ea1,eb1⟩:=GY;go_upto_region 16 with fail
        go_region_with (go_at_call 150;refine HC.o.mono ?_;rintro e w' ⟨rfl,CO,hB3⟩)
        all_goals
         obtain⟨ca3,cb3,_,_⟩:=CO;have HN:Hid (B3 W1 (w'.alloc (.cells #[((b:Int)+1:Int)] 3)) ba w' a (b+1) u7 (Bj P k a++Cf P a (b+1))):=by
          have:=hB3.o.next;rw[show((b+1:Nat):Int)=(b:Int)+1 from by omega,<-zce P YQ] at this;exact this
         clear hB3;go_wp2_with fail;go_roundg (gk-1);case measure=>omega
         case rel=>exact⟨b+1,w'.heap.size,by omega,by omega,rfl,HN.o⟩
      ·have NV:b=k:=by omega
       have HF:Hid (Pr W1 wr u7 (Bj P k (a+1))):=by
        have:=HB.o.pr;rw[NV,<-Qg] at this;exact this
       clear NV;go_wp2_with fail;go_roundw;case rel=>exact⟨a+1,by omega,by go_num,HF.o⟩
       case measure=>simp[intOf];omega
    ·have FT:a=k:=by omega
     subst FT;have HF:Hid (Aq wr w0 u7 (Bj P a a)/\Below w0 w0 wr):=by
      have j4:=HE.o.2;have j5:=HA.o.below;have y8:=JX.o.below;refine⟨JX.o.own.mono (aD j4.size j5.size),(j4.tr j5).trans (y8.mono (aD j4.size j5.size))⟩
     go_wp2_with fail;go_ret;exact⟨_,rfl,HF.o.1,HF.o.2⟩
end Go.Proofs.Y.S.X
namespace Go.Proofs.Y.S
open Go Go.ChangeMaps Go.MapKept Go.WideShapes Go.Proofs.Tryz
open Go.RowKit Go.WideMaps Go.Maps F
theorem M8 (x:Int)(h0:0<=x)(h1:x<=1000)(w:World):Calls prog 239 #[x] w λ e w'=>e=(2*x:Int)/\w'=w:=by
 have hw:IntKind.i64.wrap (2*x)=2*x:=by rw[bO];omega
 go_enter func239,ntmps239;go_wp2_with fail;go_ret
 first|exact⟨rfl,rfl⟩|(rw[hw];exact⟨rfl,rfl⟩)
theorem Cq (x:Int)(h0:0<=x)(h1:x<=1000)(w:World):Calls prog 238 #[x] w λ e w'=>e=(2*x+1:Int)/\w'=w:=by
 have hw:IntKind.i64.wrap (2*x)=2*x:=by rw[bO];omega
 have hv:IntKind.i64.wrap (2*x+1)=2*x+1:=by rw[bO];omega
 go_enter func238,ntmps238;go_wp2_with fail;go_ret
 first|exact⟨rfl,rfl⟩|(rw[hw,hv];exact⟨rfl,rfl⟩)
def ndS (n:Nat):List (Stp × Int):=(List.range n).map λ(x:Nat)=>((0,2*(x:Int),2*(x:Int)+1),0)
def edN (e:Stp):List (Stp × Int):=[((e.1,2*e.2.1+1,2*e.2.2),0),((e.1,2*e.2.2+1,2*e.2.1),0)]
def noS (n:Nat)(L:List Stp):List (Stp × Int):=ndS n++L.flatMap edN
theorem S9 (j:Nat):ndS (j+1)=ndS j++[((0,2*(j:Int),2*(j:Int)+1),0)]:=by simp[ndS,List.range_succ]
theorem Tm (n:Nat)(L:List Stp)(e:Stp):noS n (L++[e])=(noS n L++[((e.1,2*e.2.1+1,2*e.2.2),0)])++[((e.1,2*e.2.2+1,2*e.2.1),0)]:=by simp[noS,edN]
theorem Wu (n:Nat):(ndS n).length=n:=by simp[ndS]
theorem zb6:∀L:List Stp,(L.flatMap edN).length=2*L.length
 |[]=>rfl
 |e::L=>by rw[eQ,aM,zb6 L];simp[edN];omega
theorem zcl (n:Nat)(L:List Stp):(noS n L).length=n+2*L.length:=by rw[noS,aM,Wu,zb6]
theorem jl (j:Nat):((0,2*(j:Int),2*(j:Int)+1):Stp)∉lD (ndS j)/\bk ((0,2*(j:Int),2*(j:Int)+1):Stp)∉lD (ndS j):=by
 constructor <;>
 ·intro k
  obtain⟨t,h1,h2⟩:=(Qz _ _).1 k;obtain⟨x,hx,rfl⟩:=aY.1 h1;have:=bF.1 hx;rcases h2 with h2|h2 <;> simp[bk] at h2 <;> omega
theorem J2 {n:Nat}{L:List Stp}{i a b:Int}(h:∀d∈L,d.1≠i)(BJ:a≠b)(q:Stp)(hq:q=(i,2*a+1,2*b)\/q=(i,2*b,2*a+1)):q∉lD (noS n L):=by
 intro k;obtain⟨t,h1,h2⟩:=(Qz _ _).1 k;rcases aK.1 h1 with h1|h1
 ·obtain⟨x,hx,rfl⟩:=aY.1 h1
  rcases hq with rfl|rfl <;> rcases h2 with h2|h2 <;> simp[bk] at h2 <;> omega
 ·obtain⟨d,hd,h1⟩:=fC.1 h1
  have l9:=h d hd;have hi:q.1=i:=by rcases hq with rfl|rfl <;> rfl
  simp[edN] at h1;apply l9;rw[<-hi];rcases h1 with rfl|rfl <;> rcases h2 with h2|h2 <;> rw[h2] <;> rfl
theorem J5 {n:Nat}{L:List Stp}{i a b:Int}(h:∀d∈L,d.1≠i)(BJ:a≠b)(q:Stp)(hq:q=(i,2*b+1,2*a)\/q=(i,2*a,2*b+1)):q∉lD (noS n L++[((i,2*a+1,2*b),0)]):=by
 rw[I1,aK];rintro(k|k)
 ·exact J2 h (λ e=>BJ e.symm) q hq k
 ·simp[bk] at k
  rcases hq with rfl|rfl <;> simp at k <;> omega
theorem Laid.fresh {w:World}{p lm rm N B:Nat}{ss:List (Stp × Int)}{f:Int->Value}(h:Laid w p lm rm N B ss f){k:Nat}(hk:w<=k):F9 f k:=λ x e=>by
 obtain⟨M,L,h⟩:=h;have:=(h.lv.off e).2;omega
theorem Laid.lt {w:World}{p lm rm N B:Nat}{ss:List (Stp × Int)}{f:Int->Value}(h:Laid w p lm rm N B ss f):lm<w/\rm<w:=by
 obtain⟨M,L,h⟩:=h;have:=h.lv.le;have:=h.lv.lt;have:=h.rb;constructor <;> omega
def C3 (w:World)(bx:Nat)(x y z:Int):Prop:=w.cell? bx=x/\w.cell? (bx,1)=y/\w.cell? (bx,2)=z
theorem jf {w:World}{p lm rm N B:Nat}{ss:List (Stp × Int)}{f:Int->Value}(h:Laid w p lm rm N B ss f){s:Stp}(hs:wfS s)(l9:fr s≠tt s)(hN:N<=4*ss.length)(hl:ss.length<=400)(h1:s∉lD ss)(h2:bk s∉lD ss){bx:Nat}{x y z:Int}(hc:C3 w bx x y z)(hr:F9 f bx)(j4:bx≠lm)(j5:bx≠rm):
 Calls prog 314 #[.pointer p,vS s,(0:Int)] w.drew λ e w'=>e=Value.tuple #[]/\C3 w' bx x y z/\Hid (∃f',Laid w' p lm rm (N+4) B (ss++[(s,0)]) f'/\Out lm rm f f' w w'/\F9 f' bx):=by
 have hd:Below w w w.drew:=(aI _ _).drew;refine(Ty (h.below hd) hs l9 (by omega) (by omega) hN hl h1 h2).mono ?_;rintro e w' ⟨rfl,f',k1,k2⟩;have ho:Out lm rm f f' w w':=((Out.refl lm rm f w).below hd).trans k2;exact⟨rfl,⟨ho.cell hc.1 j4 j5 hr,ho.cell hc.2.1 j4 j5 hr,ho.cell hc.2.2 j4 j5 hr⟩,f',k1,ho,ho.norow bx (lt_of_cell hc.1) hr⟩
theorem zaq (n B0 q:Nat)(u:Value)(L:List (Int × Int × Int))(w:World)(h:G.GAt w B0 168 61 q (n:Int) u L)(hn:n<=40)(AV:Ed n 120 L):
 Calls prog 237 #[.pointer q] w λ e w'=>∃p lm rm N B f,e=Value.pointer (some ⟨p,0,none⟩)/\Laid w' p lm rm N B (noS n L) f/\N<=1120/\Below w w w'/\w.heap.size<=p/\w.heap.size<=lm/\w.heap.size<=rm/\w.heap.size<=B:=by
 have HG:=kd h;have HE:=kd AV;have hlen:=AV.len;clear h AV;go_enter func237,ntmps237;go_wp2_with fail;refine(Ue w).mono ?_;rintro e w2 ⟨p,lm,rm,rfl,JW,h2,h3,h4,j5⟩;have y5:Hid (Below w w w2/\w.heap.size<=p/\w.heap.size<=lm/\w<=rm):=⟨j5,h2,h3,h4⟩;have UA:Hid (Laid w2 p lm rm 0 w2 [] (λ _=>.slice none 0 0)):=⟨_,_,JW⟩;clear JW h2 h3 h4 j5;go_wp2_with fail;refine(G.Cg (n:Int) B0 q u L w2 (HG.o.below y5.o.1)).mono ?_;rintro e w3 ⟨rfl,EX⟩;subst EX;go_wp2_with fail;go_loopw [10] (λ s10 wq=>∃(j:Nat) (f:Int->Value),j<=n/\s10=j/\Laid wq p lm rm (4*j) w3 (ndS j) f/\Out lm rm (λ _=>.slice none 0 0) f w3 wq) (λ s10 _=>n-(intOf s10).toNat)
 case atStart=>exact⟨0,_,aN _,rfl,by simpa[ndS] using UA.o,Out.refl _ _ _ _⟩
 case round=>
  clear UA;obtain⟨j,f,hj,rfl,hr,hk⟩:=hrel;have HR:=kd (And.intro hr hk);clear hr hk;by_cases j6:j<n
  ·have GR:=jl j
   have OD:wfS (0,2*(j:Int),2*(j:Int)+1):=⟨Av (x:=0) (by omega) (by omega),Av (x:=2*(j:Int)) (by omega) (by omega),Av (x:=2*(j:Int)+1) (by omega) (by omega)⟩;have HC:Hid _:=Ty HR.o.1 (s:=(0,2*(j:Int),2*(j:Int)+1)) (c:=0) OD (by show 2*(j:Int)≠2*(j:Int)+1;omega) (by omega) (by omega) (by rw[Wu];omega) (by rw[Wu];omega) GR.1 GR.2;unfold vS at HC;simp only at HC;clear GR OD;go_wp2_with fail;refine(M8 (j:Int) (by omega) (by omega) wr).mono ?_;rintro e w4 ⟨rfl,NG⟩;subst NG;go_wp2_with fail;refine(Cq (j:Int) (by omega) (by omega) w4).mono ?_;rintro e w5 ⟨rfl,ZU⟩;subst ZU;go_wp2_with fail;refine aA HC.o ?_;rintro e' w6 ⟨rfl,f',TK,MG⟩;have LC:Hid (Laid w6 p lm rm (4*(j+1)) w3 (ndS (j+1)) f'/\Out lm rm (λ _=>.slice none 0 0) f' w3 w6):=by
    rw[S9];exact⟨TK,HR.o.2.trans MG⟩
   clear TK MG HR HC;go_wp2_with fail;go_roundw;case rel=>exact⟨j+1,f',by omega,by go_num,LC.o.1,LC.o.2⟩
   case measure=>simp[intOf];omega
  ·have CE:n=j:=by omega
   subst CE;have hbw:Below w w wr:=y5.o.1.trans (HR.o.2.old (B:=w.heap.size) y5.o.1.size y5.o.2.2.1 y5.o.2.2.2 (λ k _ _ e=>by simp[Value.ownBlock] at e));have PW:=kd hbw;have HN:Hid (Laid wr p lm rm (4*n) w3 (noS n []) f):=by
    have e:noS n []=ndS n:=by simp[noS]
    show Laid wr p lm rm (4*n) w3.heap.size (noS n []) f;rw[e];exact HR.o.1
   clear hbw HR j6 hj;obtain⟨wy,hwy⟩:∃wy,wy=wr:=⟨_,rfl⟩;subst hwy;go_wp2_with fail;refine(G.Dv (n:Int) B0 q u L wy (HG.o.below PW.o) (by omega)).mono ?_;rintro e w7 ⟨v,rfl,ho,OU⟩;obtain⟨m,hm⟩:∃m,m=L.length:=⟨_,rfl⟩;have HM:=kd hm;obtain⟨va,vc,hv⟩:=ho.Ap;rw[<-hm] at hv hlen;subst hv;have HO:=kd ho;have HB7:=kd OU;have hlr:=HN.o.lt;clear ho OU hm;go_wp2_with fail;go_loopw [24] (λ s24 wq=>∃(i:Nat) (f':Int->Value),i<=m/\s24=i/\Laid wq p lm rm (4*(n+2*i)) w3 (noS n (L.take i)) f'/\Out lm rm f f' w7 wq) (λ s24 _=>m-(intOf s24).toNat)
   case atStart=>exact⟨0,f,aN _,rfl,by simpa using HN.o.below HB7.o,Out.refl _ _ _ _⟩
   case round=>
    obtain⟨i,f',hi,rfl,hr,hk⟩:=hrel;have HR:=kd (And.intro hr hk);clear hr hk;by_cases j6:i<m
    ·obtain⟨e,hx⟩:∃e,L[i]? =some e:=⟨_,aB (by rw[<-HM.o];exact j6)⟩
     have NU:=aG hx;obtain⟨x,y,BO,ME,he⟩:=HE.o.ends e NU;have LF:=HE.o.ids e NU;obtain⟨g,EF⟩:∃g,va=some ⟨g,0,none⟩:=by
      rcases HO.o.shape with⟨_,k⟩|⟨g,cap,k,_⟩
      ·rw[k] at hx;simp at hx
      ·injection k with e1 _ _
       exact⟨g,e1⟩
     subst EF;obtain⟨r0,r1,r2⟩:=HO.o.at (g:=g) rfl hx;have hgb:wy<=g:=(aU HO.o g rfl).1;have hnr:F9 f g:=HN.o.fresh hgb;have q0:=HR.o.2.cell r0 (by omega) (by omega) hnr;have q1:=HR.o.2.cell r1 (by omega) (by omega) hnr;have q2:=HR.o.2.cell r2 (by omega) (by omega) hnr;have UU:Hid (L.take (i+1)=L.take i++[e]):=by
      show L.take (i+1)=_;rw[bL,hx];rfl
     have AB:∀d∈L.take i,d.1≠e.1:=by
      intro d hd k;obtain⟨l,hl,hle⟩:=dD.1 hd;obtain⟨MF,CE⟩:=aC.1 hx;have hij:l<i:=by simp at hl;omega
      rw[gP] at hle;have:=dM.1 HE.o.up l i (by omega) MF hij;rw[hle,CE] at this;omega
     obtain⟨x0,ER⟩:∃x0,e.1=x0:=⟨_,rfl⟩;rw[ER] at he LF AB q0;subst he;simp only at q0 q1 q2;obtain⟨bx,BF⟩:∃bx,wr.heap.size=bx:=⟨_,rfl⟩;obtain⟨W1,AJ⟩:∃W1,W1=wr.alloc (.cells #[x0,x,y] 61):=⟨_,rfl⟩;have hh:W1.heap[bx]? =some (.cells #[x0,x,y] 61):=by rw[AJ,<-BF];exact aQ wr _
     have BV:C3 W1 bx x0 x y:=by refine⟨?_,?_,?_⟩ <;> simp[World.cell?,hh]
     have BK:Below wr wr W1:=by rw[AJ];exact b_
     have hL1:=HR.o.1.below BK;have hlz:=HR.o.1.lt;have BH:bx≠lm:=by omega
     have JB:bx≠rm:=by omega
     have YN:(noS n (L.take i)).length=n+2*i:=by
      have:=HM.o;rw[zcl];simp;omega
     have hxy':(x:Int)≠(y:Int):=by omega
     have AR:wfS (x0,2*(x:Int)+1,2*(y:Int)):=⟨Av (x:=x0) (by omega) (by omega),Av (x:=2*(x:Int)+1) (by omega) (by omega),Av (x:=2*(y:Int)) (by omega) (by omega)⟩;have BL:wfS (x0,2*(y:Int)+1,2*(x:Int)):=⟨Av (x:=x0) (by omega) (by omega),Av (x:=2*(y:Int)+1) (by omega) (by omega),Av (x:=2*(x:Int)) (by omega) (by omega)⟩;have HC:Hid (Calls prog 314 #[.pointer p,vS (x0,2*(x:Int)+1,2*(y:Int)),(0:Int)] W1.drew λ e w8=>e=Value.tuple #[]/\C3 w8 bx x0 x y/\Hid (C3 w8.drew bx x0 x y/\Calls prog 314 #[.pointer p,vS (x0,2*(y:Int)+1,2*(x:Int)),(0:Int)] w8.drew λ e w9=>e=Value.tuple #[]/\C3 w9 bx x0 x y/\Hid (∃f2,Laid w9 p lm rm (4*(n+2*(i+1))) w3 (noS n (L.take (i+1))) f2/\Out lm rm f f2 w7 w9))):=by
      refine(jf hL1 (s:=(x0,2*(x:Int)+1,2*(y:Int))) AR (by show 2*(x:Int)+1≠2*(y:Int);omega) (by omega) (by omega) (J2 AB hxy' _ (.inl rfl)) (J2 AB hxy' _ (.inr rfl)) BV (HR.o.1.fresh (by omega)) BH JB).mono ?_;rintro e w8 ⟨rfl,hc8,f1,hL8,ho8,hr8⟩;refine⟨rfl,hc8,hc8,?_⟩;refine(jf hL8 (s:=(x0,2*(y:Int)+1,2*(x:Int))) BL (by show 2*(y:Int)+1≠2*(x:Int);omega) (by simp;omega) (by simp;omega) (J5 AB hxy' _ (.inl rfl)) (J5 AB hxy' _ (.inr rfl)) hc8 hr8 BH JB).mono ?_;rintro e w9 ⟨rfl,hc9,f2,hL9,ho9,hr9⟩;refine⟨rfl,hc9,f2,?_,((HR.o.2.below BK).trans ho8).trans ho9⟩;rw[UU.o,Tm];exact hL9
     have hc1d:C3 W1.drew bx x0 x y:=BV;have BQ:=kd AJ.symm;have CX:=kd BF;unfold C3 vS at HC;unfold C3 at hc1d;simp only at HC;clear hx r0 r1 r2 AB ER NU hh AJ BK HR YN AR BL hL1 hlz BV BF hnr hgb BH JB hxy';go_upto_region 10 with fail
     rw[BQ.o,CX.o];clear q0 q1 q2;go_region_held (λ w'=>(w'.cell? bx=x0/\w'.cell? (bx,1)=x/\w'.cell? (bx,2)=y)) (with_reducible assumption)
      (first
      |(go_at_call 238;refine(Cq (x:Int) (by omega) (by omega) _).mono ?_;rintro e w' ⟨rfl,rfl⟩)
      |(go_at_call 239;refine(M8 (y:Int) (by omega) (by omega) _).mono ?_;rintro e w' ⟨rfl,rfl⟩)
      |(go_at_call 314;refine aA HC.o ?_;rintro e w8 ⟨rfl,hc8,KY⟩))
     all_goals
      obtain⟨hc8d,hC2⟩:=KY.o;have TQ:Hid _:=hC2;clear hC2 KY HC hc1d;go_upto_region 11 with fail
      go_region_held (λ w'=>(w'.cell? bx=x0/\w'.cell? (bx,1)=x/\w'.cell? (bx,2)=y)) (with_reducible assumption)
       (first
       |(go_at_call 238;refine(Cq (y:Int) (by omega) (by omega) _).mono ?_;rintro e w' ⟨rfl,rfl⟩)
       |(go_at_call 239;refine(M8 (x:Int) (by omega) (by omega) _).mono ?_;rintro e w' ⟨rfl,rfl⟩)
       |(go_at_call 314;refine aA TQ.o ?_;rintro e w9 ⟨rfl,hc9,HF⟩))
      all_goals
       have JS:=CX.o;subst JS;go_wp2_with fail;go_roundw;case rel=>
        obtain⟨f2,h1,h2⟩:=HF.o;exact⟨i+1,f2,by omega,by go_num,h1,h2⟩
       case measure=>simp[intOf];omega
    ·have CR:m=i:=by omega
     subst CR;have HF:Hid (Laid wr p lm rm (4*(n+2*m)) w3 (noS n L) f'/\Below w w wr):=by
      have h1:=HR.o.1;rw[aZ (by rw[<-HM.o];omega)] at h1;refine⟨h1,?_⟩;have hs:=PW.o.size;have h2:=HR.o.2.old (B:=w.heap.size) (aD hs HB7.o.size) y5.o.2.2.1 y5.o.2.2.2 (λ k hk=>?_)
      ·exact(PW.o.trans (HB7.o.mono hs)).trans h2
      ·obtain⟨M,Lm,hA⟩:=HN.o
       intro z e;have:=(hA.lv.off e).1;have:=y5.o.1.size;omega
     clear HR;go_wp2_with fail;go_ret;exact⟨p,lm,rm,4*(n+2*m),w3.heap.size,f',rfl,HF.o.1,by omega,HF.o.2,y5.o.2.1,y5.o.2.2.1,y5.o.2.2.2,y5.o.1.size⟩
theorem Nl (n B0 q b x:Nat)(u:Value)(L:List (Int × Int × Int))(w:World)(h:G.GAt w B0 168 61 q (n:Int) u L)(hb:w.cell? b=some (.pointer q))(hx:x<n):
 Calls prog 312 #[x,.pointer b] w λ e w'=>e=false/\w'=w:=by
 have HG:=kd h;have h1:¬((x:Int)<0):=by omega
 have h2:¬((n:Int)<=(x:Int)):=by omega
 clear h;go_enter func312,ntmps312;go_wp2_with fail;refine(G.Cg (n:Int) B0 q u L w HG.o).mono ?_;rintro e w1 ⟨rfl,AR⟩;subst AR;go_wp2_with fail;go_ret;have h4:decide (n<=x)=false:=bM (by omega);rw[h4];exact⟨rfl,rfl⟩
theorem Yu (n B0 q a b m:Nat)(u:Value)(L:List (Int × Int × Int))(w:World)(h:G.GAt w B0 168 61 q (n:Int) u L)(ha:a<n)(hb:b<n)(BJ:a≠b)(hm:m<=120):
 Calls prog 234 #[.pointer q,a,b,m] w λ e w'=>e= .returned .nilIface/\Below w w w':=by
 have HG:=kd h;have h1:¬((m:Int)<0):=by omega
 have h2:¬((m:Int) > 120):=by omega
 have h3:¬((a:Int)=(b:Int)):=by omega
 clear h;go_enter func234,ntmps234;go_wp2_with fail;have FH:Hid (G.GAt (w.alloc (.cells #[.pointer q] 82)) B0 168 61 q (n:Int) u L):=HG.o.below (b_);have hc:(w.alloc (.cells #[.pointer q] 82)).cell? w=some (.pointer q):=by simp
 refine(Nl n B0 q w a u L _ FH.o hc ha).mono ?_;rintro e w1 ⟨rfl,AR⟩;rw[AR];go_wp2_with fail;refine(Nl n B0 q w b u L _ FH.o hc hb).mono ?_;rintro e w2 ⟨rfl,BL⟩;rw[BL];go_wp2_with fail;go_ret;exact⟨rfl,b_⟩
structure Que (w:World) (B g o cap:Nat) (xs:List Int):Prop where
 le:xs.length<=cap
 gB:B<=g
 lt:g<w
 got:∀(j:Nat) (x:Int),xs[j]? =some x->w.cell? (g,o+j)=x
 spare:∀j,j<cap->(w.cell? ⟨g,o+j,none⟩).isSome=true/\w.frozen? (g,o+j)=false
section
variable {w w':World} {B g o cap:Nat} {xs:List Int}
theorem Que.tail {x:Int}(h:Que w B g o cap (x::xs)):Que w B g (o+1) (cap-1) xs:=by
 have hl:=h.le;simp at hl;refine⟨by omega,h.gB,h.lt,λ j y hy=>?_,λ j hj=>?_⟩
 ·have:=h.got (j+1) y (by simpa using hy)
  rwa[show o+1+j=o+(j+1) by omega]
 ·have:=h.spare (j+1) (by omega)
  rwa[show o+1+j=o+(j+1) by omega]
theorem Que.kept {r:Option Nat}(h:Que w B g o cap xs)(hg:w.grownBy w' r)(l9:some g≠r):Que w' B g o cap xs:=by
 have hb:w'.heap[g]? =w.heap[g]? :=hg.block g h.lt l9;refine⟨h.le,h.gB,aR h.lt hg.size,λ j x hx=>?_,λ j hj=>?_⟩
 ·have:=h.got j x hx
  simp only[World.cell?] at this ⊢;rw[hb];exact this
 ·have:=h.spare j hj
  simp only[World.cell?,World.frozen?] at this ⊢;rw[hb];exact this
theorem zs9:∃i,prog.info? 3=some i/\i.size=1/\i.bytes=8/\i.zero=(0:Int):=
 ⟨(prog.info? 3).get (by kernel_rfl),by kernel_rfl,by kernel_rfl,by kernel_rfl,by kernel_rfl⟩
theorem Que.push (h:Que w B g o cap xs)(ty:TypeId){x:Int}{l:Nat}(hl:w.heap[l]? =some (.cells #[x] 3))(hB:B<=w)(hn:xs.length<=100000):
 ∃v' w' g' o' cap',(Builtin.append_ #[48,48] ty #[.slice (g,o) xs.length cap,.slice l 1 1]).run prog w= .ok v' w'/\v'= .slice (some ⟨g',o',none⟩) (xs.length+1) cap'/\Que w' B g' o' cap' (xs++[x])/\w.grownBy w' (some g):=by
 obtain⟨i,hi,hs,hb,hz⟩:=zs9;have QS:∀j u,[Value.int .i64 x][j]? =some u->w.cell? ((⟨l,0,none⟩:Addr).add j)=some u:=by
  intro j u hj
  match j,hj with
  |0,hj=>
   simp at hj;subst hj;simp[World.cell?,Addr.add,hl]
  |j+1,hj=>simp at hj
 by_cases hr:xs.length+1<=cap
 ·have AQ:=run_append_room_cells (P:=prog) w 48 ty 3 i underlying48 hi g o xs.length cap l 1 1 [x] (by rw[hs];rfl) QS (λ u hu=>by simp at hu;subst hu;rfl) hr (λ j hj=>by
   have JE:j=0:=by simp at hj;omega
   subst JE;rw[hs]
   simpa using (h.spare xs.length (by omega)).1) (λ j hj=>by
   have JE:j=0:=by simp at hj;omega
   subst JE;rw[hs]
   simpa using (h.spare xs.length (by omega)).2)
  rw[hs,Nat.mul_one] at AQ;refine⟨_,_,g,o,cap,AQ,rfl,⟨by simp;omega,h.gB,?_,λ j y hy=>?_,λ j hj=>?_⟩,?_⟩
  ·show g<(w.setCell (g,o+xs.length) x).heap.size
   rw[World.size_setCell];exact h.lt
  ·rcases eH j xs.length with hj|hj
   ·rw[dR hj] at hy
    rw[World.cell?_setCells_out g [x] (o+xs.length) w (g,o+j) (λ _ _=>.inl (by simp only;omega))];exact h.got j y hy
   ·have CE:j=xs.length:=by
     have:=(aC.1 hy).1;simp at this;omega
    subst CE;simp at hy;subst hy;have:=World.cell?_setCells_in g [x] (o+xs.length) w (λ j hj=>by
     have JE:j=0:=by simp at hj;omega
     subst JE;exact(h.spare xs.length (by omega)).1) 0 (by simp)
    simpa using this
  ·have:=h.spare j hj
   exact⟨World.isSome_setCells g [x] (o+xs.length) w _ this.1,by rw[World.frozen?_setCells];exact this.2⟩
  ·exact⟨rfl,rfl,rfl,by show _<=(w.setCell (g,o+xs.length) x).heap.size;rw[World.size_setCell];exact aF _,λ k hk l9=>aV _ _ _ _ (λ e=>l9 (by rw[e]))⟩
 ·obtain⟨v',w',AQ,ho,hg⟩:=run_append_arg_grows (P:=prog) w 48 ty 3 i (0:Int) 1 8 underlying48 hi hz hs hb rfl (by omega) (g,o) xs.length cap (xs.map (Value.int .i64)) (by simp) (λ j u hj=>by
   rw[Addr.add_lit];rw[bJ] at hj;obtain⟨y,hy,rfl⟩:=gF.1 hj;exact h.got j y hy) l 1 1 [x] (by rfl) QS (by omega) (by unfold maxLen;omega) (by omega)
  rcases ho.2 with⟨_,h0⟩|⟨g',cap',cur,hv,h1,h2,h3,h4,h5,h6⟩
  ·omega
  ·refine⟨v',w',g',0,cap',AQ,hv,⟨by simp;omega,aD hB h1,lt_of_some h2,λ j y hy=>?_,λ j hj=>?_⟩,⟨hg.os,hg.tape,hg.output,hg.size,λ k hk _=>hg.block k hk (by simp)⟩⟩
   ·have hj:j<xs.length+1:=by
     have:=(aC.1 hy).1
     simpa using this
    have e:(cur.toList.take ((xs.length+1)*1))[j]? =some (.int .i64 y):=by
     rw[h6];have:=congrArg (Option.map (Value.int .i64)) hy;rw[<-bJ] at this
     simpa using this
    rw[iL (by omega)] at e;simp only[World.cell?,gG,h2]
    simpa using e
   ·have hjc:j<cur.size:=by omega
    simp[World.cell?,World.frozen?,h2,hjc]
end
end Go.Proofs.Y.S
namespace Go.Proofs.Y.S
open Go Go.ChangeMaps Go.MapKept Go.WideShapes Go.Proofs.Tryz
open Go.RowKit Go.WideMaps Go.Maps F
theorem zcs (w:World):(zeroValue 346).run prog w= .ok (vS (0,0,0)) w:=by kernel_rfl
structure Cm (w:World) (cb N:Nat) (C:DataW Value) (c:Int->Option Stp):Prop where
 mp:w.ownsMap prog 3 hold cb N C
 tidy:Tidy C
 has:∀x,Maps.has C (.int .i64 x)=(c x).isSome
 at_:∀x s,c x=some s->∀zd,C.atKey (.int .i64 x) zd= .held (vS s)
section
variable {w w':World} {cb N:Nat} {C:DataW Value} {c:Int->Option Stp}
theorem Cm.kept {r:Option Nat}(h:Cm w cb N C c)(hg:w.grownBy w' r)(l9:some cb≠r):Cm w' cb N C c:={h with mp:=h.mp.kept hg l9}
theorem Cm.below (h:Cm w cb N C c)(hb:Below w w w'):Cm w' cb N C c:={h with mp:=h.mp.kept (Ai hb) (by simp)}
theorem Cm.val (h:Cm w cb N C c)(x:Int):C.atKey x (.held (vS (0,0,0)))= .held (vS ((c x).getD (0,0,0))):=by
 cases hc:c x with
 |none=>
  have:Maps.has C x=false:=by rw[h.has,hc];rfl
  rw[atKey_of_not_has this];rfl
 |some s=>exact h.at_ x s hc _
theorem Cm.look (h:Cm w cb N C c){x:Int}(hx:(Lit.int .i64 x).wf=true):
 (Instr.lookup 381 (.map cb) x true).run prog w= .ok (.tuple #[vS ((c x).getD (0,0,0)),.bool (c x).isSome]) w/\(Instr.lookup 381 (.map cb) x false).run prog w= .ok (vS ((c x).getD (0,0,0))) w:=by
 obtain⟨v,ps,h1,h2⟩:=h.mp.look_ok Bp underlying381 (zcs w) (zd:=.held (vS (0,0,0))) (zp:=[]) rfl (H6 x hx);obtain⟨v',ps',h3,h4⟩:=h.mp.lookup Bp underlying381 (zcs w) (zd:=.held (vS (0,0,0))) (zp:=[]) rfl (H6 x hx);rw[h.val x] at h2 h4;simp[hold] at h2 h4;rw[h1,h3,h2.1,h4.1,h.has];exact⟨rfl,rfl⟩
theorem Cm.put (h:Cm w cb N C c){x:Int}(hx:(Lit.int .i64 x).wf=true)(s:Stp)(hN:N<=1000000):
 ∃w',(Instr.mapUpdate 381 (.map cb) x (vS s)).run prog w= .ok () w'/\(∃C',Cm w' cb (N+1) C' (λ y=>if y=x then some s else c y))/\w.grownBy w' (some cb):=by
 obtain⟨w2,r2,m2,g2⟩:=h.mp.update Bp underlying381 (by unfold maxLen;omega) (H6 x hx) (val:=vS s) (d:=.held (vS s)) (ps:=[]) rfl;refine⟨w2,r2,⟨_,m2,h.tidy.put (ik x) _,λ y=>?_,λ y t ht zd=>?_⟩,g2⟩
 ·by_cases e:y=x
  ·rw[aP e,e]
   exact has_put_same h.tidy.isMap (ik x) _
  ·rw[has_put_other (λ k=>e (by injection k)),h.has,aL e]
 ·by_cases e:y=x
  ·rw[aP e] at ht
   have ht':s=t:=dG ht;rw[e,atKey_put_same h.tidy.isMap (ik x),ht']
  ·rw[aL e] at ht
   rw[atKey_put_other (λ k=>e (by injection k))];exact h.at_ y t ht zd
theorem zs6 (w:World):Cm (w.alloc (.map #[] 0)) w 0 (.map []) (λ _=>none):=
 ⟨World.ownsMap_made w _ _ _,tidy_empty,λ _=>rfl,λ _ _ h=>by cases h⟩
end
end Go.Proofs.Y.S
namespace Go.Proofs.Y.S
open Go Go.ChangeMaps Go.MapKept Go.WideShapes Go.Proofs.Tryz
open Go.RowKit Go.WideMaps Go.Maps F
theorem Qc:∀(M:Nat) (ks:List Int),ks.Nodup->(∀c∈ks,0<=c/\c<M)->ks.length<=M
 |0,ks,_,h=>by
  cases ks with
  |nil=>simp
  |cons x l=>have:=h x (by simp);omega
 |M+1,ks,hn,h=>by
  by_cases hm:(M:Int)∈ks
  ·have h1:=Qc M (ks.erase (M:Int)) (hn.erase _) (λ c hc=>by
    have h2:=(List.Nodup.mem_erase_iff hn).1 hc;have:=h c h2.2;have:=h2.1;omega)
   rw[List.length_erase_of_mem hm] at h1;omega
  ·have h1:=Qc M ks hn (λ c hc=>by
    have h2:c≠M:=λ e=>hm (e▸hc)
    have:=h c hc;omega)
   omega
theorem Ms {α:Type}[DecidableEq α]:∀(l m:List α),l.Nodup->(∀x∈l,x∈m)->l.length<=m.length
 |[],m,_,_=>by simp
 |x::l,m,hn,h=>by
  rw[gK] at hn;have h1:=Ms l (m.erase x) hn.2 (λ y hy=>(List.mem_erase_of_ne (λ e:y=x=>hn.1 (by rw[<-e];exact hy))).2 (h y (by simp[hy])));have h2:x∈m:=h x (by simp);rw[List.length_erase_of_mem h2] at h1;have:=List.length_pos_of_mem h2;simp;omega
theorem Hu {w w':World}{B k:Nat}(hg:w.grownBy w' (some k))(hB:B<=w)(hk:B<=k):Below B w w':=
 ⟨hg.os,hg.tape,hg.output,hg.size,λ i hi=>hg.block i (by omega) (λ e=>by injection e with e;omega)⟩
def Qv (w:World)(B:Nat)(v:Value)(xs:List Int):Prop:=∃ad cap,v= .slice ad xs.length cap/\(xs≠[]->∃g o,ad=some ⟨g,o,none⟩/\Que w B g o cap xs)
structure Sea (w0 w:World) (cb:Nat) (g:Int->List Stp) (inn:Stp->Bool) (a:Int) (q:List Int) (c:Int->Option Stp):Prop where
 bfs:Bfs g inn a q (λ x=>(c x).getD (0,0,0))
 cm:∃N C,Cm w cb N C c/\N<=q.length
 has:∀x,(c x).isSome=true↔x∈q
 rng:∀x∈q,0<=x/\x<1000
 bel:Below w0 w0 w
 cb0:w0<=cb
def Dn (g:Int->List Stp)(inn:Stp->Bool)(q:List Int)(i:Nat):Prop:=∀k y,k<i->q[k]? =some y->∀s∈g y,inn s=true->tt s∈q
section
variable {w0 w w':World} {cb:Nat} {g:Int->List Stp} {inn:Stp->Bool} {a:Int} {q:List Int} {c:Int->Option Stp}
theorem Sea.len (h:Sea w0 w cb g inn a q c):q.length<=1000:=Qc 1000 q h.bfs.nd (λ x hx=>by have:=h.rng x hx;omega)
theorem Sea.below (h:Sea w0 w cb g inn a q c)(hb:Below w w w'):Sea w0 w' cb g inn a q c:=by
 obtain⟨N,C,h1,h2⟩:=h.cm;exact {h with cm:=⟨N,C,h1.below hb,h2⟩,bel:=h.bel.tr hb}
theorem Sea.grown (h:Sea w0 w cb g inn a q c){k:Nat}(hg:w.grownBy w' (some k))(hk:k≠cb)(hk0:w0<=k):Sea w0 w' cb g inn a q c:=by
 obtain⟨N,C,h1,h2⟩:=h.cm;exact {h with cm:=⟨N,C,h1.kept hg (λ e=>hk (by injection e with e;exact e.symm)),h2⟩,bel:=h.bel.trans (Hu hg h.bel.size hk0)}
theorem Cm.pz {N:Nat}{C:DataW Value}(h:Cm w cb N C c){k:Nat}{o:Nat}{v:Value}(hk:w.cell? (k,o)=some v):k≠cb:=λ e=>by
 obtain⟨es,clock,hb,_⟩:=h.mp;rw[<-e] at hb;simp[World.cell?,hb] at hk
theorem Sea.look (h:Sea w0 w cb g inn a q c){x:Int}(h0:0<=x)(h1:x<1000):
 (Instr.lookup 381 (.map cb) x true).run prog w= .ok (.tuple #[vS ((c x).getD (0,0,0)),.bool (c x).isSome]) w/\(Instr.lookup 381 (.map cb) x false).run prog w= .ok (vS ((c x).getD (0,0,0))) w:=by
 obtain⟨N,C,hc,_⟩:=h.cm;exact hc.look (Av h0 (by omega))
theorem Qv.below {B:Nat}{v:Value}{xs:List Int}(h:Qv w B v xs)(hb:Below w w w'):Qv w' B v xs:=by
 obtain⟨ad,cap,h1,h2⟩:=h;refine⟨ad,cap,h1,λ hx=>?_⟩;obtain⟨gq,o,h3,h4⟩:=h2 hx;exact⟨gq,o,h3,h4.kept (Ai hb) (by simp)⟩
theorem zim (w:World){a:Int}(g:Int->List Stp)(inn:Stp->Bool)(h0:0<=a)(h1:a<1000):
 ∃w1,(Instr.mapUpdate 381 (.map w) a (vS (0,0,0))).run prog (w.alloc (.map #[] 0))= .ok () w1/\w.heap.size+1<=w1.heap.size/\∃c,Sea w (w1.alloc (.cells #[a] 3)) w g inn a [a] c/\Qv (w1.alloc (.cells #[a] 3)) w (.slice (some ⟨w1.heap.size,0,none⟩) 1 1) [a]:=by
 obtain⟨w1,r1,⟨C',hc⟩,hg⟩:=(zs6 w).put (x:=a) (Av h0 (by omega)) (0,0,0) (by omega);have BS:w.heap.size+1<=w1.heap.size:=by have:=hg.size;simpa using this
 have j4:Below w w w1:=(b_).trans (Hu hg (by simp) (aF _));have CW:Below w1 w1 (w1.alloc (.cells #[a] 3)):=b_;refine⟨w1,r1,BS,_,⟨Bfs.start _ _ _ _,⟨_,_,hc.below CW,by simp⟩,λ x=>?_,λ x hx=>?_,j4.tr CW,aF _⟩,some ⟨w1.heap.size,0,none⟩,1,rfl,λ _=>⟨_,_,rfl,?_⟩⟩
 ·by_cases e:x=a
  ·simp[e]
  ·simp[e]
 ·rw[aJ.1 hx];exact⟨h0,h1⟩
 ·obtain⟨W,hW⟩:∃W,w1.alloc (.cells #[a] 3)=W:=⟨_,rfl⟩
  have hh:=aQ w1 (.cells #[a] 3);rw[hW] at hh ⊢;refine⟨aF _,by omega,lt_of_some hh,λ j x hx=>?_,λ j hj=>?_⟩
  ·have hj:j=0:=by have:=(aC.1 hx).1;simp at this;omega
   subst hj;simp at hx;subst hx;simp[World.cell?,hh]
  ·have hj:j=0:=by omega
   subst hj;simp[World.cell?,World.frozen?,hh]
theorem zgs {α:Type}{q:List α}{i:Nat}(x:α)(h:i<=q.length):(q++[x]).drop i=q.drop i++[x]:=jC h
theorem zkf {i:Nat}{gq o cap:Nat}{s:Stp}(h:Sea w0 w cb g inn a q c)(hq:Que w w0 gq o cap (q.drop i))(hi:q[i]? =some (fr s))(hs:s∈g (fr s))(p9:inn s=true)(hn:c (tt s)=none)(h0:0<=tt s)(h1:tt s<1000):
 ∃w1,(Instr.mapUpdate 381 (.map cb) (tt s:Int) (vS s)).run prog w= .ok () w1/\w.grownBy w1 (some cb)/\∃w3 v' g' o' cap',(Builtin.append_ #[48,48] 48 #[.slice (gq,o) (q.length-i) cap,.slice (some ⟨w1.heap.size,0,none⟩) 1 1]).run prog (w1.alloc (.cells #[(tt s:Int)] 3))= .ok v' w3/\v'= .slice (some ⟨g',o',none⟩) (q.length+1-i) cap'/\Sea w0 w3 cb g inn a (q++[tt s]) (λ y=>if y=tt s then some s else c y)/\Que w3 w0 g' o' cap' ((q++[tt s]).drop i):=by
 obtain⟨N,C,hc,hN⟩:=h.cm;have hlen:=h.len;have LY:=(aC.1 hi).1;obtain⟨w1,r1,⟨C',BV⟩,AX⟩:=hc.put (x:=tt s) (Av h0 (by omega)) s (by omega);have YW:gq≠cb:=by
  have:(q.drop i)[0]? =some (fr s):=by rw[fA];simpa using hi
  exact hc.pz (hq.got 0 _ this)
 have hq1:=hq.kept AX (λ e=>YW (by injection e));have CW:Below w1 w1 (w1.alloc (.cells #[(tt s:Int)] 3)):=b_;have hq2:=hq1.kept (Ai CW) (by simp);have j4:Below w0 w0 w1:=h.bel.trans (Hu AX h.bel.size h.cb0);obtain⟨v',w3,g',o',cap',r3,e3,hq3,FL⟩:=hq2.push 48 (aQ w1 _) (aD j4.size CW.size) (by simp;omega);have hdl:(q.drop i).length=q.length-i:=by simp
 rw[hdl] at r3 e3;have hnq:tt s∉q:=λ k=>by
  have:=(h.has (tt s)).2 k;rw[hn] at this;cases this
 refine⟨w1,r1,AX,w3,v',g',o',cap',r3,by rw[e3,show q.length-i+1=q.length+1-i by omega],⟨?_,?_,λ x=>?_,λ x hx=>?_,?_,h.cb0⟩,by rw[zgs _ (by omega)];exact hq3⟩
 ·refine h.bfs.more hi hs p9 hnq (λ x hx=>?_) ?_
  ·have RF:x≠tt s:=λ e=>hnq (by rw[<-e];exact hx)
   simp only[aL RF]
  ·simp only[aP];rfl
 ·have hne3:some cb≠some gq:=λ e=>YW (dG e).symm
  exact⟨N+1,C',(BV.below CW).kept FL hne3,by rw[aM];exact Nat.add_le_add hN (aF 1)⟩
 ·by_cases e:x=tt s
  ·simp[e]
  ·rw[aL e,h.has,aK]
   simp[e]
 ·rcases aK.1 hx with hx|hx
  ·exact h.rng x hx
  ·rw[aJ.1 hx];exact⟨h0,h1⟩
 ·have j5:=j4.tr CW
  exact j5.trans (Hu FL j5.size hq.gB)
end
def InR (w0:World)(cb:Nat)(g:Int->List Stp)(inn:Stp->Bool)(a:Int)(i:Nat)(x:Int)(j:Nat)(v:Value)(wq:World):Prop:=
 ∃q c gq o cap,Sea w0 wq cb g inn a q c/\q[i]? =some x/\v= .slice (some ⟨gq,o,none⟩) (q.length-i) cap/\Que wq w0 gq o cap (q.drop i)/\Dn g inn q i/\(∀s∈(g x).take j,inn s=true->tt s∈q)
def ay (w0:World)(cb:Nat)(g:Int->List Stp)(inn:Stp->Bool)(a:Int)(i:Nat)(v:Value)(wq:World):Prop:=
 ∃q c,Sea w0 wq cb g inn a q c/\i<=q.length/\Qv wq w0 v (q.drop i)/\Dn g inn q i
section
variable {w0 w w':World} {cb:Nat} {g:Int->List Stp} {inn:Stp->Bool} {a:Int} {q:List Int} {c:Int->Option Stp} {i j:Nat} {x:Int} {v:Value}
theorem Yt {α:Type}{l:List α}{j:Nat}{s:α}(h:l[j]? =some s){t:α}(ht:t∈l.take (j+1)):t∈l.take j\/t=s:=by
 rw[bL,h] at ht
 simpa using ht
theorem InR.skip (h:Sea w0 w cb g inn a q c){gq o cap:Nat}(hi:q[i]? =some x)(hq:Que w w0 gq o cap (q.drop i))(hd:Dn g inn q i)(hj:∀s∈(g x).take j,inn s=true->tt s∈q){s:Stp}(hs:(g x)[j]? =some s)(hn:inn s=true->tt s∈q)(hb:Below w w w'):InR w0 cb g inn a i x (j+1) (.slice (gq,o) (q.length-i) cap) w':=by
 refine⟨q,c,gq,o,cap,h.below hb,hi,rfl,hq.kept (Ai hb) (by simp),hd,λ t ht p9=>?_⟩;rcases Yt hs ht with ht|rfl
 ·exact hj t ht p9
 ·exact hn p9
theorem InR.more {gq o cap:Nat}{s:Stp}(hi:q[i]? =some x)(hd:Dn g inn q i)(hj:∀s∈(g x).take j,inn s=true->tt s∈q)(hs:(g x)[j]? =some s)(h:Sea w0 w cb g inn a (q++[tt s]) c)(hq:Que w w0 gq o cap ((q++[tt s]).drop i)):InR w0 cb g inn a i x (j+1) (.slice (gq,o) (q.length+1-i) cap) w:=by
 have LY:=(aC.1 hi).1;refine⟨q++[tt s],c,gq,o,cap,h,by rw[dR LY];exact hi,by simp,hq,λ k y hk hy t ht p9=>?_,λ t ht p9=>?_⟩
 ·rw[dR (by omega)] at hy
  exact bE _ (hd k y hk hy t ht p9)
 ·rcases Yt hs ht with ht|rfl
  ·exact bE _ (hj t ht p9)
  ·simp
theorem InR.done (h:InR w0 cb g inn a i x j v w)(hj:(g x).length<=j):∃gq o len cap,v= .slice (some ⟨gq,o,none⟩) (len+1) (cap+1)/\len<=cap/\ay w0 cb g inn a (i+1) (.slice (some ⟨gq,o+1,none⟩) len cap) w/\(len=0->∀ad cap',ay w0 cb g inn a (i+1) (.slice ad 0 cap') w):=by
 obtain⟨q,c,gq,o,cap,h1,hi,rfl,hq,hd,hjj⟩:=h;have LY:=(aC.1 hi).1;have hle:=hq.le;simp at hle;obtain⟨cap',rfl⟩:∃k,cap=k+1:=⟨cap-1,by omega⟩;have hd':Dn g inn q (i+1):=λ k y hk hy s hs p9=>by
  by_cases e:k<i
  ·exact hd k y e hy s hs p9
  ·have:k=i:=by omega
   subst this;rw[hi] at hy;injection hy with hy
   subst hy;exact hjj s (by rw[aZ hj];exact hs) p9
 refine⟨gq,o,q.length-(i+1),cap',by rw[show q.length-i=q.length-(i+1)+1 by omega],by omega,⟨q,c,h1,by omega,⟨some ⟨gq,o+1,none⟩,cap',by rw[dJ],λ _=>⟨gq,o+1,rfl,?_⟩⟩,hd'⟩,λ h0 ad cap2=>⟨q,c,h1,by omega,⟨ad,cap2,by rw[dJ,h0],λ l9=>?_⟩,hd'⟩⟩
 ·have hx:q.drop i=x::q.drop (i+1):=by
   rw[eU LY,(aC.1 hi).2]
  rw[hx] at hq;exact hq.tail
 ·exact absurd (bV (by rw[dJ,h0])) l9
theorem zfl (h:Sea w0 w cb g inn a q c)(hd:Dn g inn q q.length){D:List Stp}(hg:∀s∈D,s∈g (fr s)){b:Int}(hb:c b=none):∃S:Int->Bool,S a=true/\S b=false/\∀s∈D,out S s=true->inn s=false:=by
 refine⟨λ x=>decide (x∈q),?_,?_,λ s hs ho=>?_⟩
 ·exact bI (aG h.bfs.first)
 ·refine bM (λ k=>?_)
  have:=(h.has b).2 k;rw[hb] at this;cases this
 ·cases p9:inn s with
  |false=>rfl
  |true=>
   exfalso;unfold out at ho;simp at ho;obtain⟨k,hk,CF⟩:=dD.1 ho.1;exact ho.2 (hd k (fr s) hk (by rw[aB hk,CF]) s (hg s hs) p9)
end
theorem zsk (ty:TypeId)(w:World)(B:Nat)(v:Value)(L:List Stp)(s:Stp)(h:G.Ad w B 346 v L)(hB:B<=w)(hl:L.length<=90000):
 ∃v' w',(Builtin.append_ #[347,347] ty #[v,.slice w 1 1]).run prog (w.alloc (.cells #[s.1,s.2.1,s.2.2] 346))= .ok v' w'/\G.Ad w' B 346 v' (L++[s])/\w.grownBy w' v.ownBlock:=by
 have hb:Below w w (w.alloc (.cells #[s.1,s.2.1,s.2.2] 346)):=b_;have hn:=aQ w (.cells #[s.1,s.2.1,s.2.2] 346);have hM:∀j u,(G.Af [s])[j]? =some u->(w.alloc (.cells #[s.1,s.2.1,s.2.2] 346)).cell? ((⟨w.heap.size,0,none⟩:Addr).add j)=some u:=by
  intro j u hu;rw[G.Bh];have e:G.Af [s]=G.Au s:=by simp[G.Af]
  rw[e] at hu;simp only[World.cell?,hn]
  simpa[G.Au] using hu
 obtain⟨v',w',r1,o1,g1,_⟩:=vw ty _ B v L [s] (h.below hb) (aD hB hb.size) w 1 1 rfl hM (by simp;omega);exact⟨v',w',r1,o1,⟨g1.os.trans hb.os,g1.tape.trans hb.tape,g1.output.trans hb.output,aD hb.size g1.size,λ k hk l9=>(g1.block k (aR hk hb.size) l9).trans (hb.block k hk)⟩⟩
theorem Sea.row {w0 w w':World}{cb:Nat}{g:Int->List Stp}{inn:Stp->Bool}{a:Int}{q:List Int}{c:Int->Option Stp}(h:Sea w0 w cb g inn a q c){v:Value}{P:List Stp}(ho:G.Ad w (cb+1) 346 v P)(hg:w.grownBy w' v.ownBlock):Sea w0 w' cb g inn a q c:=by
 cases hv:v.ownBlock with
 |none=>
  rw[hv] at hg;exact h.below ⟨hg.os,hg.tape,hg.output,hg.size,λ k hk=>hg.block k hk (by simp)⟩
 |some k=>
  rw[hv] at hg;have:=(aU ho k hv).1;have:=h.cb0;exact h.grown hg (by omega) (by omega)
end Go.Proofs.Y.S
