import Derived.Test.YtebcjaenhiiflaaGreatDoorQCaCce
import Derived.Lib.QuietBelow
set_option maxHeartbeats 16000000
set_option maxRecDepth 100000
namespace Go.Proofs.YtebcjaenhiiflaaGreatDoor.S
open Go.RowKit Go.WideMaps Go.Maps Go.Sort Go.Proofs.Tryz
theorem z13 {L:List (Int × Int × Int)} {l:List Nat} {i j t y:Nat} {e:Int × Int × Int} (hy:(t=0/\y=ea e)\/(t=1/\y=eb e)) (h:DnT L l i j t e) (hn:Rx L y i j->¬l.getD i 0<l.getD j 0):DnT L l i j (t+1) e:=by
 refine ⟨h.1,λ _ hr=>?_,λ h1 hr=>?_⟩
 ·rcases hy with ⟨rfl,rfl⟩ | ⟨rfl,rfl⟩
  ·exact hn hr
  ·exact h.2.1 (by omega) hr
 ·rcases hy with ⟨rfl,rfl⟩ | ⟨rfl,rfl⟩
  ·omega
  ·exact hn hr
theorem zq9 (x0:Int) (A E x z:Nat) (w:World) (hx:x=A\/x=E) (hA:A<=1000) (hE:E<=1000) (hz:A+E-x=z):
 Calls prog 121 #[.agg #[.int .i64 x0,.int .i64 (A:Int),.int .i64 (E:Int)],.int .i64 (x:Int)] w λ e w'=>e= .returned (.int .i64 (z:Int))/\Below w.heap.size w w':=by
 rw [<-hz];exact zvf x0 A E x w hx hA hE
theorem zvz (n B q M:Nat) (u:Value) (R L:List (Int × Int × Int)) (w:World) (h:G.GAt w B 40 61 q (n:Int) u R) (hi:G.Inv R L) (hed:Ed n M L) (hM:M<=120) (hn:n<=40):
 Calls prog 62 #[.pointer (some ⟨q,0,none⟩)] w λ e w'=>∃l,Good L.length l/\(∀u v,Lk L.length l u v↔Blk L u v)/\zb9 w (zdb L l) e w':=by
 have hrl:R.length<=120:=by rw [hi.zpf];exact hi.len
 have hlen:=hed.len;have HG:=kd h;have HIN:Hid (Inn n R):=zx5 hed hi;have HINV:=kd hi;have HE:=kd (And.intro hed hi.perm);obtain ⟨i0,hi0,hz0,hz1,hz2⟩:=info_parts Tryz.info48;clear h hi hed;go_enter func62,ntmps62;go_wp2_with fail;refine (G.zer B q (n:Int) u R L w HG.out HINV.out).mono ?_;rintro e w1 ⟨vr,rfl,ho,hb1⟩;obtain ⟨m,hm⟩:∃m,L.length=m:=⟨_,rfl⟩;have HM:=kd hm;obtain ⟨va,vc,hv⟩:=ho.zal;rw [hm] at hv hlen;subst hv;have HO:=kd ho;have HB1:=kd hb1;have hw1s:=hb1.size;have hc:=(HG.out.below hb1).c0;clear ho hb1 hm;go_wp2_with fail;go_loopw [4,27] (λ s4 s27 wq=>∃(x:Nat) (P:List (Nat × List Nat)),x<=n/\s27= .int .i64 x/\P.length=x/\zeq wq w1.heap.size n s4 P/\AlS n L P/\Below w1.heap.size w1 wq) (λ _ s27 _=>n-(intOf s27).toNat)
 case atStart=>exact ⟨0,[],Nat.zero_le _,rfl,rfl,⟨World.ownsRow_nil _ _ _ _,by simp⟩,λ x p hp=>by simp at hp,Below.refl _ _⟩
 case round=>
  obtain ⟨x,P,hx,rfl,hPl,hA,hS,hbq⟩:=hrel;have HA:=kd (And.intro hA hS);have HBQ:=kd hbq;have hwrs:=hbq.size;have hgr:=(HG.out.below HB1.out).below hbq;have HGR:=kd hgr;clear hA hS hbq hc;by_cases hlt:x<n
  ·have hc:=hgr.c0
   clear hgr;go_wp2_with fail;refine (zq5 x n B q u R wr HGR.out hrl HIN.out).mono ?_;rintro e w2 ⟨q',v',rfl,hg2,hb2⟩;have HG2:=kd (And.intro hg2 hb2);clear hg2 hb2 hc;go_wp2_with fail;refine (zbk n wr.heap.size q' v' (wo R x) w2 HG2.out.1 (Nat.le_trans (z0k R x) hrl) hn (zzt HIN.out x)).mono ?_;rintro e w3 ⟨b,l,rfl,hr3,hb,hll,hlab3,hbl3⟩;have HB3:Hid (Below wr.heap.size wr w3):=HG2.out.2.trans (hbl3.mono HG2.out.2.size);have HA3:Hid (zeq w3 w1.heap.size n u4 P):=HA.out.1.below HB3.out;have HS3:Hid (AlS n L (P++[(b,l)])):=z1z HA.out.2 (λ u v hu hv=>by rw [hPl,hlab3 u v hu hv];exact zmk (zum HE.out.2 x));have HR3:=kd (And.intro hr3 hll);have hown:=HA3.out.own;have hb3s:=HB3.out.size;clear hr3 hlab3 hbl3 HG2 HGR;go_wp2_with (first
    | (at_builtin;refine wpList_append_own_at _ rfl _ _ 51 rfl w1.heap.size 48 i0 (.slice none 0 0) 1 24 underlying51 hi0 hz0 hz1 hz2 rfl (by decide) u4 _ _ rfl (hown.alloc _) ⟨w3.heap.size,0,none⟩ 1 1 [.slice (some ⟨b,0,none⟩) n n] rfl rfl (cell_one_new _ _ _) (zcu _ _ _) (by unfold maxLen;omega) (by omega) (by simp;omega) ?_;intro v5 w5 hown5 hgrow5 hnil5 hloc5)
    | fail)
   have hall:=(World.grownBy_alloc w3 _ _).trans hgrow5;have hA5:=HA3.out.push HR3.out.1 HR3.out.2 hown5 hgrow5;have hB5:Below w1.heap.size w1 w5:=(HBQ.out.trans (HB3.out.mono hwrs)).grown hall (by omega) (λ j hj=>(hown.lt j hj).1);go_roundw;case rel=>exact ⟨x+1,P++[(b,l)],by omega,by go_num,by simp [hPl],hA5,HS3.out,hB5⟩
   case measure=>simp [intOf];omega
  ·have hxe:x=n:=by omega
   subst hxe;obtain ⟨aa,ac,hva,hacell⟩:=HA.out.1.shape;rw [hPl] at hva;subst hva;have HAC:=kd hacell;have hmk:=λ W=>run_make_row' (P:=prog) 48 3 (.int .i64 0) 8 underlying48 Tryz.info3 rfl .i64 .i64 m (by omega) (by omega) W
   clear hgr hacell;generalize wr=W0 at*;go_wp2_with fail;go_loopw [44] (λ s44 wq=>∃k:Nat,k<=m/\s44= .int .i64 k/\zak wq W0.heap.size (fill m k)/\Below W0.heap.size W0 wq) (λ s44 _=>m-(intOf s44).toNat)
   case atStart=>exact ⟨0,Nat.zero_le _,rfl,zoo W0 m,(Below.refl _ _).alloc (Nat.le_refl _) _⟩
   case round=>
    obtain ⟨k,hk,rfl,hr,hb⟩:=hrel;clear hmk;by_cases hlt:k<m
    ·as_aux_lemma=>
     have hc1:=hr.cell k (by rw [zdv];exact hlt);have hf:=hr.frozen k;have HR:Hid (zak (wr.setCell ⟨W0.heap.size,k,none⟩ (.int .i64 (k:Int))) W0.heap.size (fill m (k+1))):=by
      have:=hr.set k k;rw [zi9] at this;exact this
     have HB:Hid (Below W0.heap.size W0 (wr.setCell ⟨W0.heap.size,k,none⟩ (.int .i64 (k:Int)))):=hb.setCell (Nat.le_refl _) _;clear hr hb;generalize (fill m k).getD k 0=z at hc1;go_wp2;go_roundw;case rel=>exact ⟨k+1,by omega,by go_num,HR.out,HB.out⟩
     case measure=>simp [intOf];omega
    ·have hke:k=m:=by omega
     subst hke;rw [zkl] at hr;have HR0:=kd (And.intro hr hb);clear hr hb;go_wp2_with fail;generalize wr=W2 at*;have hbbW2:=HR0.out.1.lt;have hW02:=HR0.out.2.size;go_loopg [8] 20000 (λ r s8 wq=>∃l,Lbs L l/\zak wq W0.heap.size l/\But W0.heap.size W2 wq/\((s8= .bool true/\l.sum<r)\/(s8= .bool false/\DnI L l k)))
     case atStart=>
      refine ⟨List.range k,by have:=zzx L;rw [HM.out] at this;exact this,HR0.out.1,But.refl _ _,.inl ⟨rfl,?_⟩⟩;have h1:=zno k;have h2:k*k<=120*120:=Nat.mul_le_mul (by omega) (by omega);omega
     case round=>
      obtain ⟨l,hlab,hr,hbt,hs⟩:=hrel;rcases hs with ⟨rfl,hsum⟩ | ⟨rfl,hall⟩
      ·have HL:Hid (Lbs L l/\zak wr W0.heap.size l/\But W0.heap.size W2 wr):=⟨hlab,hr,hbt⟩
       clear hlab hr hbt;go_wp2_with fail;go_loopw [8,55] (λ s8 s55 wq=>∃(i:Nat) (l':List Nat),i<=k/\s55= .int .i64 i/\Lbs L l'/\zak wq W0.heap.size l'/\But W0.heap.size W2 wq/\Prog s8 l l' (DnI L l i)) (λ _ s55 _=>k-(intOf s55).toNat)
       case atStart=>exact ⟨0,l,Nat.zero_le _,rfl,HL.out.1,HL.out.2.1,HL.out.2.2,.inl ⟨rfl,rfl,λ i' hi=>by omega⟩⟩
       case round=>
        obtain ⟨i,l1,hi,rfl,hlab1,hr1,hbt1,hpr1⟩:=hrel;have HL1:Hid (Lbs L l1/\zak wr W0.heap.size l1/\But W0.heap.size W2 wr/\Prog u8 l l1 (DnI L l i)):=⟨hlab1,hr1,hbt1,hpr1⟩;have hw2r:=hbt1.size;clear hlab1 hr1 hbt1 hpr1 HL;by_cases hlti:i<k
        ·obtain ⟨e,he⟩:∃e,L[i]? =some e:=⟨_,List.getElem?_eq_getElem (by rw [HM.out];exact hlti)⟩
         have hnat:=HE.out.1.nat (List.mem_of_getElem? he);obtain ⟨g,hva⟩:∃g,va=some ⟨g,0,none⟩:=by
          rcases HO.out.shape with ⟨_,c⟩ | ⟨g,cap,c,_⟩
          ·rw [c] at he;simp at he
          ·injection c with e1 _ _
           exact ⟨g,e1⟩
         subst hva;have hgb:=World.ownsRow.lt HO.out g rfl;have HRW:Hid (∀w',But W0.heap.size W2 w'->∀j f,L[j]? =some f->w'.cell? ⟨g,j*3,none⟩=some (.int .i64 f.1)/\w'.cell? ⟨g,j*3+1,none⟩=some (.int .i64 (ea f:Int))/\w'.cell? ⟨g,j*3+2,none⟩=some (.int .i64 (eb f:Int))):=λ w' hb' j f hf=>by
          obtain ⟨c0,c1,c2⟩:=((HO.out.below HBQ.out).below HR0.out.2).at (g:=g) rfl hf;have hnf:=HE.out.1.nat (List.mem_of_getElem? hf);rw [hnf.1] at c1;rw [hnf.2.1] at c2;exact ⟨hb'.cell c0 (by omega),hb'.cell c1 (by omega),hb'.cell c2 (by omega)⟩
         obtain ⟨q0,q1,q2⟩:=HRW.out wr HL1.out.2.2.1 i e he;have HEE:=kd he;obtain ⟨x0,hx0⟩:∃x0,e.1=x0:=⟨_,rfl⟩;obtain ⟨A,hA⟩:∃A,ea e=A:=⟨_,rfl⟩;obtain ⟨E,hE⟩:∃E,eb e=E:=⟨_,rfl⟩;have HAE:=kd (And.intro hA hE);obtain ⟨hAn,hEn,hAE⟩:=hnat.2.2;rw [hx0] at q0;rw [hA] at q1 hAn hAE;rw [hE] at q2 hEn hAE;obtain ⟨W3,hW3⟩:∃W3,W3=wr.alloc (.cells #[.int .i64 x0,.int .i64 (A:Int),.int .i64 (E:Int)] 61):=⟨_,rfl⟩;have hh3:W3.heap[wr.heap.size]? =some (.cells #[.int .i64 x0,.int .i64 (A:Int),.int .i64 (E:Int)] 61):=by rw [hW3];exact heap_alloc_new wr _
         have hbW3:Below wr.heap.size wr W3:=by rw [hW3];exact (Below.refl _ _).alloc (Nat.le_refl _) _
         have HW3:=kd hW3.symm;have HBX:=kd hh3;have HL3:Hid (Lbs L l1/\zak W3 W0.heap.size l1/\But W0.heap.size W2 W3):=⟨HL1.out.1,HL1.out.2.1.below hbW3 HL1.out.2.1.lt,HL1.out.2.2.1.trans (But.of_below hbW3)⟩;have hw3s:wr.heap.size<W3.heap.size:=lt_of_some hh3;obtain ⟨be,hbe⟩:∃be,wr.heap.size=be:=⟨_,rfl⟩;have HPR:=kd HL1.out.2.2.2;clear he hnat hx0 hA hE hW3 hh3 hbW3 HL1;go_wp2_with fail;rw [HW3.out];rw [hbe] at HBX hw3s hw2r;clear HW3 q0 q1 q2;go_loopw [8,62] (λ s8 s62 wq=>∃(j:Nat) (l':List Nat),j<=k/\s62= .int .i64 j/\Lbs L l'/\zak wq W0.heap.size l'/\But W0.heap.size W3 wq/\Prog s8 l l' (DnK L l i j)) (λ _ s62 _=>k-(intOf s62).toNat)
         case atStart=>exact ⟨0,l1,Nat.zero_le _,rfl,HL3.out.1,HL3.out.2.1,But.refl _ _,HPR.out.imp (λ _ h=>⟨h,λ k' hk=>by omega⟩)⟩
         case round=>
          obtain ⟨j,l2,hj,rfl,hlab2,hr2,hbt2,hpr2⟩:=hrel;have HL4:Hid (Lbs L l2/\zak wr W0.heap.size l2/\But W0.heap.size W3 wr):=⟨hlab2,hr2,hbt2⟩;have HPR2:=kd hpr2;have hw3r:=hbt2.size;clear hlab2 hr2 hbt2 hpr2 HPR;by_cases hltj:j<k
          ·obtain ⟨f,hf⟩:∃f,L[j]? =some f:=⟨_,List.getElem?_eq_getElem (by rw [HM.out];exact hltj)⟩
           have hnat:=HE.out.1.nat (List.mem_of_getElem? hf);obtain ⟨q0,q1,q2⟩:=HRW.out wr (HL3.out.2.2.trans HL4.out.2.2) j f hf;have HFF:=kd hf;obtain ⟨y0,hy0⟩:∃y0,f.1=y0:=⟨_,rfl⟩;obtain ⟨FA,hFA⟩:∃A,ea f=A:=⟨_,rfl⟩;obtain ⟨FE,hFE⟩:∃E,eb f=E:=⟨_,rfl⟩;have HFAE:=kd (And.intro hFA hFE);obtain ⟨hFAn,hFEn,hFAE⟩:=hnat.2.2;rw [hy0] at q0;rw [hFA] at q1 hFAn hFAE;rw [hFE] at q2 hFEn hFAE;have hbeW:wr.heap[be]? =some (.cells #[.int .i64 x0,.int .i64 (A:Int),.int .i64 (E:Int)] 61):=by rw [HL4.out.2.2.block be hw3s (by omega)];exact HBX.out
           obtain ⟨W4,hW4⟩:∃W4,W4=wr.alloc (.cells #[.int .i64 y0,.int .i64 (FA:Int),.int .i64 (FE:Int)] 61):=⟨_,rfl⟩;have hh4:W4.heap[wr.heap.size]? =some (.cells #[.int .i64 y0,.int .i64 (FA:Int),.int .i64 (FE:Int)] 61):=by rw [hW4];exact heap_alloc_new wr _
           have hbW4:Below wr.heap.size wr W4:=by rw [hW4];exact (Below.refl _ _).alloc (Nat.le_refl _) _
           have hh4e:W4.heap[be]? =some (.cells #[.int .i64 x0,.int .i64 (A:Int),.int .i64 (E:Int)] 61):=(hbW4.block be (by omega)).trans hbeW;have HW4:=kd hW4.symm;have p1:W4.cell? ⟨be,1,none⟩=some (.int .i64 (A:Int)):=by simp [World.cell?,hh4e]
           have p2:W4.cell? ⟨be,2,none⟩=some (.int .i64 (E:Int)):=by simp [World.cell?,hh4e]
           have hw4s:wr.heap.size<W4.heap.size:=lt_of_some hh4;obtain ⟨W5,hW5⟩:∃W5,W5=W4.alloc (.cells #[.int .i64 (A:Int),.int .i64 (E:Int)] 3):=⟨_,rfl⟩;have hh5:W5.heap[W4.heap.size]? =some (.cells #[.int .i64 (A:Int),.int .i64 (E:Int)] 3):=by rw [hW5];exact heap_alloc_new W4 _
           have hbW5:Below W4.heap.size W4 W5:=by rw [hW5];exact (Below.refl _ _).alloc (Nat.le_refl _) _
           have HW5:=kd hW5.symm;have hw5s:W4.heap.size<W5.heap.size:=lt_of_some hh5;have hbW45:Below wr.heap.size wr W5:=hbW4.trans (hbW5.mono hbW4.size);obtain ⟨bf,hbf⟩:∃bf,wr.heap.size=bf:=⟨_,rfl⟩;obtain ⟨bs,hbs⟩:∃bs,W4.heap.size=bs:=⟨_,rfl⟩;have HX5:Hid (W5.heap[be]? =some (.cells #[.int .i64 x0,.int .i64 (A:Int),.int .i64 (E:Int)] 61)/\W5.heap[bf]? =some (.cells #[.int .i64 y0,.int .i64 (FA:Int),.int .i64 (FE:Int)] 61)/\W5.heap[bs]? =some (.cells #[.int .i64 (A:Int),.int .i64 (E:Int)] 3)):=by
            rw [<-hbf,<-hbs];exact ⟨(hbW5.block be (by omega)).trans hh4e,(hbW5.block _ hw4s).trans hh4,hh5⟩
           have HL5:Hid (Lbs L l2/\zak W5 W0.heap.size l2/\But W0.heap.size W3 W5):=⟨HL4.out.1,HL4.out.2.1.below hbW45 HL4.out.2.1.lt,HL4.out.2.2.trans (But.of_below hbW45)⟩;clear hf hnat hy0 hFA hFE hbeW hW4 hh4 hbW4 hh4e hW5 hh5 hbW5 hbW45 HL4;go_upto_region 23 with fail
           rw [HW4.out];go_wp2_with fail;rw [HW5.out];rw [hbf] at hw4s hw3r;rw [hbs] at hw4s hw5s;clear p1 p2 q0 q1 q2 HW4 HW5 hbf hbs hbe;go_loopw [8,73] (λ s8 s73 wq=>∃(t:Nat) (l':List Nat),t<=2/\s73= .int .i64 t/\Lbs L l'/\zak wq W0.heap.size l'/\But W0.heap.size W5 wq/\Prog s8 l l' (DnT L l i j t e)) (λ _ s73 _=>2-(intOf s73).toNat)
           case atStart=>exact ⟨0,l2,Nat.zero_le _,rfl,HL5.out.1,HL5.out.2.1,But.refl _ _,HPR2.out.imp (λ _ h=>⟨h,λ c=>by omega,λ c=>by omega⟩)⟩
           case round=>
            obtain ⟨t,l3,ht,rfl,hlab3,hr3,hbt3,hpr3⟩:=hrel;have HL6:Hid (Lbs L l3/\zak wr W0.heap.size l3/\But W0.heap.size W5 wr):=⟨hlab3,hr3,hbt3⟩;have HPR3:=kd hpr3;have hw5r:=hbt3.size;clear hlab3 hr3 hbt3 hpr3 HPR2;by_cases hltt:t<2
            ·obtain ⟨y,hy,hyc⟩:∃y,((t=0/\y=A)\/(t=1/\y=E))/\wr.cell? ⟨bs,t,none⟩=some (.int .i64 (y:Int)):=by
              have hx5:wr.heap[bs]? =some (.cells #[.int .i64 (A:Int),.int .i64 (E:Int)] 3):=by rw [HL6.out.2.2.block bs hw5s (by omega)];exact HX5.out.2.2
              rcases (show t=0\/t=1 by omega) with c | c
              ·exact ⟨A,.inl ⟨c,rfl⟩,by subst c;simp [World.cell?,hx5]⟩
              ·exact ⟨E,.inr ⟨c,rfl⟩,by subst c;simp [World.cell?,hx5]⟩
             have hyAE:y=A\/y=E:=by omega
             have HYE:Hid ((t=0/\y=ea e)\/(t=1/\y=eb e)):=by
              show (t=0/\y=ea e)\/(t=1/\y=eb e);rw [HAE.out.1,HAE.out.2];exact hy
             have hyn:y<x:=by omega
             obtain ⟨pr,hpr⟩:∃pr,P[y]? =some pr:=⟨_,List.getElem?_eq_getElem (by omega)⟩;obtain ⟨ga,haa,hga1,hga2,hga3⟩:=HAC.out y pr hpr;subst haa;have hprow:=HA.out.1.rows pr (List.mem_of_getElem? hpr);have hprl:=hprow.1.lt;have HBA:Hid (But W0.heap.size W2 wr):=(HL3.out.2.2.trans HL5.out.2.2).trans HL6.out.2.2;have hbaw:=HBA.out.size;have cga:wr.cell? ⟨ga,y,none⟩=some (.slice (some ⟨pr.1,0,none⟩) x x):=HBA.out.cell (cell_below hga3 HR0.out.2) (by omega);have hprW:zak wr pr.1 pr.2:=by
              have h1:zak W2 pr.1 pr.2:=hprow.1.below HR0.out.2 hprl;show wr.heap[pr.1]? =_;rw [HBA.out.block pr.1 h1.lt (by omega)];exact h1
             obtain ⟨z1,hz1'⟩:∃z,A+E-y=z:=⟨_,rfl⟩;have hz1n:z1<x:=by omega
             have ck1:=hprW.cell z1 (by rw [hprow.2];exact hz1n);obtain ⟨K1,hK1⟩:∃K,pr.2.getD z1 0=K:=⟨_,rfl⟩;rw [hK1] at ck1;have cb1:=HL6.out.2.1.cell i (by rw [HL6.out.1.1,HM.out];exact hlti);have cb2:=HL6.out.2.1.cell j (by rw [HL6.out.1.1,HM.out];exact hltj);obtain ⟨B1,hB1⟩:∃K,l3.getD i 0=K:=⟨_,rfl⟩;obtain ⟨B2,hB2⟩:∃K,l3.getD j 0=K:=⟨_,rfl⟩;rw [hB1] at cb1;rw [hB2] at cb2;have HB12:=kd (And.intro hB1 hB2);have hbeW:wr.heap[be]? =some (.cells #[.int .i64 x0,.int .i64 (A:Int),.int .i64 (E:Int)] 61):=by rw [HL6.out.2.2.block be (by omega) (by omega)];exact HX5.out.1
             have hbfW:wr.heap[bf]? =some (.cells #[.int .i64 y0,.int .i64 (FA:Int),.int .i64 (FE:Int)] 61):=by rw [HL6.out.2.2.block bf (by omega) (by omega)];exact HX5.out.2.1
             have HRX:Hid (Rx L y i j↔((FA=y\/FE=y)/\pr.2.getD z1 0=pr.2.getD (FA+FE-y) 0)):=by
              have hte:tch e y:=by unfold tch;rw [HAE.out.1,HAE.out.2];omega
              have hz:z1=ot e y:=by rw [<-zqk hte,HAE.out.1,HAE.out.2];exact hz1'.symm
              constructor
              ·rintro ⟨e',f',h1,h2,_,h4,h5⟩
               rw [HEE.out] at h1;rw [HFF.out] at h2;cases h1;cases h2;have hz2:FA+FE-y=ot f y:=by rw [<-zqk h4,HFAE.out.1,HFAE.out.2]
               have h6:FA=y\/FE=y:=by unfold tch at h4;rw [HFAE.out.1,HFAE.out.2] at h4;exact h4
               refine ⟨h6,?_⟩;rw [hz2,hz,HA.out.2 y pr hpr _ _ (by rw [<-hz];exact hz1n) (by rw [<-hz2];omega)];exact h5
              ·rintro ⟨h1,h2⟩
               have htf:tch f y:=by unfold tch;rw [HFAE.out.1,HFAE.out.2];exact h1
               have hz2:FA+FE-y=ot f y:=by rw [<-zqk htf,HFAE.out.1,HFAE.out.2]
               refine ⟨e,f,HEE.out,HFF.out,hte,htf,?_⟩;rw [hz2,hz,HA.out.2 y pr hpr _ _ (by rw [<-hz];exact hz1n) (by rw [<-hz2];omega)] at h2;exact h2
             have HPW:=kd (And.intro hprW hprow.2);clear hB1 hB2 hpr hprow hprW hga3;go_upto_region 26 with fail
             go_cut [118] from 77 to 117 (λ s118 wx=>∃c:Bool,s118= .bool c/\(c=true↔(Rx L y i j/\B1<B2))/\Below wr.heap.size wr wx)
             case first=>
              by_cases htf:FA=y\/FE=y
              ·have hyF:y=FA\/y=FE:=by omega
               obtain ⟨z2,hz2'⟩:∃z,FA+FE-y=z:=⟨_,rfl⟩;have hz2n:z2<x:=by omega
               have ck2:=HPW.out.1.cell z2 (by rw [HPW.out.2];exact hz2n);obtain ⟨K2,hK2⟩:∃K,pr.2.getD z2 0=K:=⟨_,rfl⟩;rw [hK2] at ck2;have HRX2:Hid (Rx L y i j↔K1=K2):=by
                show Rx L y i j↔K1=K2;rw [HRX.out,hz2',hK1,hK2];exact ⟨λ h=>h.2,λ h=>⟨htf,h⟩⟩
               have k1:=cell_regrown (show wr.cell? ⟨be,0,none⟩=some (.int .i64 x0) by simp [World.cell?,hbeW]);have k2:=cell_regrown (show wr.cell? ⟨be,1,none⟩=some (.int .i64 (A:Int)) by simp [World.cell?,hbeW]);have k3:=cell_regrown (show wr.cell? ⟨be,2,none⟩=some (.int .i64 (E:Int)) by simp [World.cell?,hbeW]);have k4:=cell_regrown (show wr.cell? ⟨bf,0,none⟩=some (.int .i64 y0) by simp [World.cell?,hbfW]);have k5:=cell_regrown (show wr.cell? ⟨bf,1,none⟩=some (.int .i64 (FA:Int)) by simp [World.cell?,hbfW]);have k6:=cell_regrown (show wr.cell? ⟨bf,2,none⟩=some (.int .i64 (FE:Int)) by simp [World.cell?,hbfW]);have k7:=cell_regrown cga;have k8:=cell_regrown ck1;have k9:=cell_regrown ck2;have k10:=cell_regrown cb1;have k11:=cell_regrown cb2;have cE1:∀d os,Calls prog 121 #[.agg #[.int .i64 x0,.int .i64 (A:Int),.int .i64 (E:Int)],.int .i64 (y:Int)] (grow (redrawn wr d) os) λ e w''=>e= .returned (.int .i64 (z1:Int))/\∃p:Regrown,w''=grow (redrawn wr p.d) p.os:=λ d os=>Calls.regrown_of (zq9 x0 A E y z1 _ hyAE (by omega) (by omega) hz1')
               have cE2:∀d os,Calls prog 121 #[.agg #[.int .i64 y0,.int .i64 (FA:Int),.int .i64 (FE:Int)],.int .i64 (y:Int)] (grow (redrawn wr d) os) λ e w''=>e= .returned (.int .i64 (z2:Int))/\∃p:Regrown,w''=grow (redrawn wr p.d) p.os:=λ d os=>Calls.regrown_of (zq9 y0 FA FE y z2 _ hyF (by omega) (by omega) hz2')
               clear cga ck1 ck2 cb1 cb2 hyc hbeW hbfW HRX HPW HAC HA hK1 hK2 hz1' hz2' hyF hyAE;by_cases hfa:FA=y
               ·have r1:((FA:Int)==(y:Int))=true:=beq_iff_eq.2 (by omega)
                clear hfa;by_cases hk:K1=K2
                ·as_aux_lemma=>
                 subst hk;have HC:Hid (decide (B1<B2)=true↔(Rx L y i j/\B1<B2)):=by
                  show decide (B1<B2)=true↔_;rw [decide_eq_true_eq];exact ⟨λ c=>⟨HRX2.out.2 rfl,c⟩,λ c=>c.2⟩
                 clear HRX2;refine wp_region_quiet_below (by kernel_rfl) (by kernel_rfl) ?_
                 repeat (go_big_quiet_step (first | with_reducible exact cE1 _ _ | with_reducible exact cE2 _ _))
                 refine wpQuiet_nil ?_;intro _ hw';obtain ⟨⟨dq,osq⟩,hw''⟩:=hw';subst hw'';have HB8:Hid (Below wr.heap.size wr (grow (redrawn wr dq) osq)):=below_regrown wr dq osq;clear k1 k2 k3 k4 k5 k6 k7 k8 k9 k10 k11 cE1 cE2;generalize grow (redrawn wr dq) osq=V8 at*;go_wp2_with fail
                 go_meet
                 case rel=>exact ⟨_,rfl,HC.out,HB8.out⟩
                ·as_aux_lemma=>
                 have hkb:((K1:Int)==(K2:Int))=false:=beq_eq_false_iff_ne.2 (by omega);have HC:Hid (false=true↔(Rx L y i j/\B1<B2)):=⟨λ c=>(by cases c),λ c=>absurd (HRX2.out.1 c.1) hk⟩;clear HRX2 hk;refine wp_region_quiet_below (by kernel_rfl) (by kernel_rfl) ?_
                 repeat (go_big_quiet_step (first | with_reducible exact cE1 _ _ | with_reducible exact cE2 _ _))
                 refine wpQuiet_nil ?_;intro _ hw';obtain ⟨⟨dq,osq⟩,hw''⟩:=hw';subst hw'';have HB8:Hid (Below wr.heap.size wr (grow (redrawn wr dq) osq)):=below_regrown wr dq osq;clear k1 k2 k3 k4 k5 k6 k7 k8 k9 k10 k11 cE1 cE2;generalize grow (redrawn wr dq) osq=V8 at*;go_wp2_with fail
                 go_meet
                 case rel=>exact ⟨false,rfl,HC.out,HB8.out⟩
               ·have r1:((FA:Int)==(y:Int))=false:=beq_eq_false_iff_ne.2 (by omega)
                have r2:((FE:Int)==(y:Int))=true:=beq_iff_eq.2 (by omega);clear hfa;by_cases hk:K1=K2
                ·as_aux_lemma=>
                 subst hk;have HC:Hid (decide (B1<B2)=true↔(Rx L y i j/\B1<B2)):=by
                  show decide (B1<B2)=true↔_;rw [decide_eq_true_eq];exact ⟨λ c=>⟨HRX2.out.2 rfl,c⟩,λ c=>c.2⟩
                 clear HRX2;refine wp_region_quiet_below (by kernel_rfl) (by kernel_rfl) ?_
                 repeat (go_big_quiet_step (first | with_reducible exact cE1 _ _ | with_reducible exact cE2 _ _))
                 refine wpQuiet_nil ?_;intro _ hw';obtain ⟨⟨dq,osq⟩,hw''⟩:=hw';subst hw'';have HB8:Hid (Below wr.heap.size wr (grow (redrawn wr dq) osq)):=below_regrown wr dq osq;clear k1 k2 k3 k4 k5 k6 k7 k8 k9 k10 k11 cE1 cE2;generalize grow (redrawn wr dq) osq=V8 at*;go_wp2_with fail
                 go_meet
                 case rel=>exact ⟨_,rfl,HC.out,HB8.out⟩
                ·as_aux_lemma=>
                 have hkb:((K1:Int)==(K2:Int))=false:=beq_eq_false_iff_ne.2 (by omega);have HC:Hid (false=true↔(Rx L y i j/\B1<B2)):=⟨λ c=>(by cases c),λ c=>absurd (HRX2.out.1 c.1) hk⟩;clear HRX2 hk;refine wp_region_quiet_below (by kernel_rfl) (by kernel_rfl) ?_
                 repeat (go_big_quiet_step (first | with_reducible exact cE1 _ _ | with_reducible exact cE2 _ _))
                 refine wpQuiet_nil ?_;intro _ hw';obtain ⟨⟨dq,osq⟩,hw''⟩:=hw';subst hw'';have HB8:Hid (Below wr.heap.size wr (grow (redrawn wr dq) osq)):=below_regrown wr dq osq;clear k1 k2 k3 k4 k5 k6 k7 k8 k9 k10 k11 cE1 cE2;generalize grow (redrawn wr dq) osq=V8 at*;go_wp2_with fail
                 go_meet
                 case rel=>exact ⟨false,rfl,HC.out,HB8.out⟩
              ·as_aux_lemma=>
               have c5:wr.cell? ⟨bf,1,none⟩=some (.int .i64 (FA:Int)):=by simp [World.cell?,hbfW]
               have c6:wr.cell? ⟨bf,2,none⟩=some (.int .i64 (FE:Int)):=by simp [World.cell?,hbfW]
               have r1:((FA:Int)==(y:Int))=false:=beq_eq_false_iff_ne.2 (by omega);have r2:((FE:Int)==(y:Int))=false:=beq_eq_false_iff_ne.2 (by omega);have HC:Hid (false=true↔(Rx L y i j/\B1<B2)):=⟨λ c=>(by cases c),λ c=>absurd (HRX.out.1 c.1).1 htf⟩;clear HRX;go_quiet (fail);go_wp2_with fail
               go_meet
               case rel=>exact ⟨false,rfl,HC.out,below_drewN (Below.refl _ _) _⟩
             case rest=>
              obtain ⟨c,rfl,hcc,hbc⟩:=hcut;have HCC:=kd hcc;have HLC:Hid (zak wc W0.heap.size l3/\But W0.heap.size W5 wc):=⟨HL6.out.2.1.below hbc HL6.out.2.1.lt,HL6.out.2.2.trans (But.of_below hbc)⟩;clear hcc hbc cga ck1 cb1 cb2 hbeW hbfW hyc;cases c with
              | true=>
                as_aux_lemma=>
                obtain ⟨hrx,hlt12⟩:=HCC.out.1 rfl;have hst:=z2q HL6.out.1 hrx (by rw [HB12.out.1,HB12.out.2];exact hlt12);rw [HB12.out.1] at hst;have c1:=HLC.out.1.cell i (by rw [HL6.out.1.1,HM.out];exact hlti);rw [HB12.out.1] at c1;have c2:=HLC.out.1.cell j (by rw [HL6.out.1.1,HM.out];exact hltj);rw [HB12.out.2] at c2;have f2:=HLC.out.1.frozen j;have HR7:Hid (Lbs L (l3.set j B1)/\zak (wc.setCell ⟨W0.heap.size,j,none⟩ (.int .i64 (B1:Int))) W0.heap.size (l3.set j B1)/\But W0.heap.size W5 (wc.setCell ⟨W0.heap.size,j,none⟩ (.int .i64 (B1:Int)))/\(l3.set j B1).sum<l.sum):=
                 ⟨hst.1,HLC.out.1.set j B1,HLC.out.2.setCell _ _,Nat.lt_of_lt_of_le hst.2 HPR3.out.le⟩
                clear hst hrx;go_wp2_with fail;go_roundw;case rel=>exact ⟨t+1,l3.set j B1,by omega,by go_num,HR7.out.1,HR7.out.2.1,HR7.out.2.2.1,.inr ⟨rfl,HR7.out.2.2.2⟩⟩
                case measure=>simp [intOf];omega
              | false=>
                as_aux_lemma=>
                have HPN:Hid (Prog u8 l l3 (DnT L l i j (t+1) e)):=HPR3.out.imp (λ hl h=>z13 HYE.out h (λ hr c=>by
                 have:=HCC.out.2 ⟨hr,by rw [<-HB12.out.1,<-HB12.out.2,hl];exact c⟩;cases this))
                go_wp2_with fail;go_roundw;case rel=>exact ⟨t+1,l3,by omega,by go_num,HL6.out.1,HLC.out.1,HLC.out.2,HPN.out⟩
                case measure=>simp [intOf];omega
            ·as_aux_lemma=>
             have hte:t=2:=by omega
             subst hte;have HF:Hid (Prog u8 l l3 (DnK L l i (j+1))):=HPR3.out.imp (λ _ h=>z7j HEE.out h);have HBF:Hid (But W0.heap.size W3 wr):=HL5.out.2.2.trans HL6.out.2.2;go_wp2_with fail;go_roundw;case rel=>exact ⟨j+1,l3,by omega,by go_num,HL6.out.1,HL6.out.2.1,HBF.out,HF.out⟩
             case measure=>simp [intOf];omega
          ·as_aux_lemma=>
           have hje:j=k:=by omega
           subst hje;have HF:Hid (Prog u8 l l2 (DnI L l (i+1))):=HPR2.out.imp (λ _ h=>z5s HM.out h);have HBF:Hid (But W0.heap.size W2 wr):=HL3.out.2.2.trans HL4.out.2.2;go_wp2_with fail;go_roundw;case rel=>exact ⟨i+1,l2,by omega,by go_num,HL4.out.1,HL4.out.2.1,HBF.out,HF.out⟩
           case measure=>simp [intOf];omega
        ·as_aux_lemma=>
         have hie:i=k:=by omega
         subst hie;have HF:Hid ((u8= .bool true/\l1.sum<l.sum)\/(u8= .bool false/\DnI L l1 i)):=by
          rcases HL1.out.2.2.2 with ⟨h1,h2,h3⟩ | h1
          ·exact .inr ⟨h1,by rw [h2];exact h3⟩
          ·exact .inl h1
         rcases HF.out with ⟨h1,h2⟩ | ⟨h1,h2⟩
         ·subst h1
          go_wp2_with fail;go_roundg (l1.sum+1);case measure=>omega
          case rel=>exact ⟨l1,HL1.out.1,HL1.out.2.1,HL1.out.2.2.1,.inl ⟨rfl,by omega⟩⟩
         ·subst h1
          have HD:=kd h2;clear h2;go_wp2_with fail;go_roundg (gk-1);case measure=>omega
          case rel=>exact ⟨l1,HL1.out.1,HL1.out.2.1,HL1.out.2.2.1,.inr ⟨rfl,HD.out⟩⟩
      ·have hdone:=z2h hlab (z5y HM.out hall)
       have HGD:=kd hdone;obtain ⟨j0,hj0,hy0,hy1,hy2⟩:=info_parts Tryz.info3;have hmm:=@run_makeMap prog;have hll:l.length=k:=by rw [hlab.1,HM.out]
       have hbts:=hbt.size;obtain ⟨W9,hW9⟩:∃W9,W9=wr.alloc (.map #[] 0):=⟨_,rfl⟩;have hb9:Below wr.heap.size wr W9:=by rw [hW9];exact (Below.refl _ _).alloc (Nat.le_refl _) _
       have hs9:W9.heap.size=wr.heap.size+1:=by rw [hW9];simp
       have HM9:Hid (W9.ownsMap prog 3 (plainElem (H:=Unit) prog 3) wr.heap.size 0 (.map [])):=by rw [hW9];exact World.ownsMap_made wr _ _ _
       have HW9:=kd hW9.symm;have HR9:Hid (zak W9 W0.heap.size l/\But W0.heap.size W2 W9):=⟨hr.below hb9 hr.lt,hbt.trans (But.of_below hb9)⟩;have HRW:Hid (∀w',But wr.heap.size W9 w'->zak w' W0.heap.size l/\∀j f,L[j]? =some f->∃g,va=some ⟨g,0,none⟩/\w'.cell? ⟨g,j*3,none⟩=some (.int .i64 ((idN L j:Nat):Int))/\w'.cell? ⟨g,j*3+1,none⟩=some (.int .i64 f.2.1)/\w'.cell? ⟨g,j*3+2,none⟩=some (.int .i64 f.2.2)):=λ w' hb'=>by
        have hbl:=hr.lt;refine ⟨?_,λ j f hf=>?_⟩
        ·show w'.heap[W0.heap.size]? =_
         rw [hb'.block _ (by omega) (by omega)];exact HR9.out.1
        ·obtain ⟨g,hva⟩:∃g,va=some ⟨g,0,none⟩:=by
          rcases HO.out.shape with ⟨_,c⟩ | ⟨g,cap,c,_⟩
          ·rw [c] at hf;simp at hf
          ·injection c with e1 _ _
           exact ⟨g,e1⟩
         subst hva;have hgb:=World.ownsRow.lt HO.out g rfl;obtain ⟨c0,c1,c2⟩:=((HO.out.below HBQ.out).below HR0.out.2).at (g:=g) rfl hf;have hjl:=(List.getElem?_eq_some_iff.1 hf).1;have hid:=(zby (R:=L) (λ e he=>by have:=HE.out.1.ids e he;omega) hjl).1;rw [zcs hf] at hid;rw [<-hid] at c0;have lift:∀{i:Nat} {v:Value},W2.cell? ⟨g,i,none⟩=some v->w'.cell? ⟨g,i,none⟩=some v:=λ hc=>hb'.cell (HR9.out.2.cell hc (by omega)) (by omega)
         exact ⟨g,rfl,lift c0,lift c1,lift c2⟩
       have HB9:Hid (Below w.heap.size w W9):=by
        have h1:Below w.heap.size w W0:=HB1.out.trans (HBQ.out.mono hw1s);have h2:Below w.heap.size w W2:=h1.trans (HR0.out.2.mono h1.size);exact h2.trans (HR9.out.2.below (by have:=h1.size;omega) h2.size)
       have hkM:k<=120:=by omega
       clear hW9 hb9 hr hbt hlab hall hdone HA HAC;go_wp2_with fail;rw [HW9.out];obtain ⟨mp,hmp⟩:∃mp,wr.heap.size=mp:=⟨_,rfl⟩;rw [hmp] at HM9 HRW hs9 hbts ⊢;clear hmm HW9 hmp;go_loopw [15,132] (λ s15 s132 wq=>∃(t Nm:Nat) (Da:DataW Unit) (r c:Nat->Nat),t<=k/\s132= .int .i64 t/\za2 wq W9.heap.size s15 (pgI L l t) r c/\wq.ownsMap prog 3 (plainElem prog 3) mp Nm Da/\Nm<=t/\Am Da (lst l t)/\But mp W9 wq) (λ _ s132 _=>k-(intOf s132).toNat)
       case atStart=>exact ⟨0,0,_,λ _=>0,λ _=>0,Nat.zero_le _,rfl,zlu _ _ _ _,HM9.out,Nat.le_refl _,Am.start,But.refl _ _⟩
       case round=>
        obtain ⟨t,Nm,Da,r,c,ht,rfl,hP,hmap,hNm,hAm,hbt⟩:=hrel;have HP:=kd hP;have HMA:=kd (And.intro hmap hAm);have HBT:=kd hbt;have hw9r:=hbt.size;clear hP hmap hAm hbt HM9;by_cases hltt:t<k
        ·obtain ⟨f,hf⟩:∃f,L[t]? =some f:=⟨_,List.getElem?_eq_getElem (by rw [HM.out];exact hltt)⟩
         obtain ⟨hrow,hedge⟩:=HRW.out wr HBT.out;obtain ⟨g,hva,q0,q1,q2⟩:=hedge t f hf;subst hva;have cb:=hrow.cell t (by omega);have hYle:=HGD.out.1.le t (by rw [HM.out];exact hltt);have hYid:=HGD.out.1.idem t (by rw [HM.out];exact hltt);obtain ⟨Y,hY⟩:∃Y,l.getD t 0=Y:=⟨_,rfl⟩;rw [hY] at cb hYle hYid;have HY:=kd (And.intro hY hYid);obtain ⟨X,hX⟩:∃X,idN L t=X:=⟨_,rfl⟩;have hXs:X<=1099511627776:=by rw [<-hX];exact (zby (R:=L) (λ e he=>by have:=HE.out.1.ids e he;omega) (by rw [HM.out];exact hltt)).2
         rw [hX] at q0;have HX:=kd hX;generalize f.2.1=x1 at*;generalize f.2.2=x2 at*;have hwX:(Lit.int .i64 (X:Int)).wf=true:=zar (by omega) (by omega);have hkey:=zgr Y (by omega);have hml:(lst l t).length<=120:=by unfold lst;exact Nat.le_trans (List.length_filter_le _ _) (by simp;omega)
         have hpl:=zlx L l t;obtain ⟨V,hV⟩:∃V,V=wr.alloc (.cells #[.int .i64 (X:Int),.int .i64 x1,.int .i64 x2] 61):=⟨_,rfl⟩;have hh:V.heap[wr.heap.size]? =some (.cells #[.int .i64 (X:Int),.int .i64 x1,.int .i64 x2] 61):=by rw [hV];exact heap_alloc_new wr _
         have hbV:Below wr.heap.size wr V:=by rw [hV];exact (Below.refl _ _).alloc (Nat.le_refl _) _
         have hVs:V.heap.size=wr.heap.size+1:=by rw [hV];simp
         have HV:=kd hV.symm;have hmapV:=HMA.out.1.kept (zai hbV) (by simp);have HPV:Hid (za2 V W9.heap.size u15 (pgI L l t) r c/\But mp W9 V):=⟨HP.out.kept (zai hbV) (by simp),HBT.out.trans (But.of_below hbV)⟩;have cbV:V.cell? ⟨W0.heap.size,t,none⟩=some (.int .i64 (Y:Int)):=cell_below cb hbV;have HBX:=kd hh;obtain ⟨bx,hbx⟩:∃bx,wr.heap.size=bx:=⟨_,rfl⟩;clear hV hh hbV hrow hedge hf hY hX HP hYid;go_upto_region 36 with fail
         rw [HV.out];rw [hbx] at HBX hVs hw9r;clear q0 q1 q2 cb HV hbx;by_cases hin:Y∈lst l t
         ·as_aux_lemma=>
          obtain ⟨i9,hi9⟩:=List.getElem?_of_mem hin;obtain ⟨hi9l,hi9e⟩:=List.getElem?_eq_some_iff.1 hi9;have hi9p:i9<(pgI L l t).length:=by rw [hpl];exact hi9l
          have HHAS:Hid (Maps.has Da (.int .i64 (Y:Int))=true):=(HMA.out.2.key Y).2 hin;have HVAL:Hid (Da.atKey (.int .i64 (Y:Int)) (.lit (.int .i64 0))= .lit (.int .i64 (i9:Int))):=HMA.out.2.val i9 Y hi9 _;have HFND:Hid (pgI L l (t+1)=(pgI L l t).set i9 ((pgI L l t).getD i9 []++[X])/\lst l (t+1)=lst l t):=by
           have h1:(lst l t).getD i9 0=Y:=by simp [hi9]
           refine ⟨?_,?_⟩
           ·rw [zyw L hi9l (by rw [h1,HY.out.1]),HX.out]
           ·exact zg5 (by rw [HY.out.1];have:=(zcp.1 hin).1;omega)
          obtain ⟨a,cap,hu,ha⟩:=HPV.out.1.shape;subst hu;obtain ⟨g9,hg9⟩:=ha (by omega);subst hg9;have hoi:=HPV.out.1.each i9 hi9p;have hgl100:((pgI L l t).getD i9 []).length<=120:=by
           rw [zz3 L l hi9l,List.length_map,zhn];have:=zi6 (λ i=>l.getD i 0==(lst l t).getD i9 0) t;omega
          obtain ⟨v5,w5,hrun,hown5,hgrow5,_,hloc5⟩:=run_append_own_at (P:=prog) (V.alloc (.cells #[.int .i64 (X:Int)] 3)).drew W9.heap.size 48 48 3 j0 (.int .i64 0) 1 8 underlying48 hj0 hy0 hy1 hy2 rfl (by decide) (.slice (some ⟨r i9,0,none⟩) ((pgI L l t).getD i9 []).length (c i9)) _ _ (show (V.alloc _).drew.ownsRow _ _ _ _ _ _ from hoi.1.alloc _) ⟨V.heap.size,0,none⟩ 1 1 [.int .i64 (X:Int)] rfl (cell_one_new _ _ _) (ints_oneCell .i64 [(X:Int)]) (by rw [zbc];unfold maxLen;omega) (by rw [zbc];omega) (by show W9.heap.size<=(V.alloc _).heap.size;simp;omega);have hgr5:(V.alloc (.cells #[.int .i64 (X:Int)] 3)).grownBy w5 (some (r i9)):=⟨hgrow5.os,hgrow5.tape,hgrow5.output,hgrow5.size,hgrow5.block⟩;obtain ⟨⟨ρ,κ,hv'⟩,c3,f3⟩:=zlw HPV.out.1 rfl hi9p hown5 hgr5;subst hv';have ho2:=hoi.appended hown5 hwX;have hloc':ρ=r i9\/ρ=V.heap.size+1:=by simpa [Value.ownBlock,World.drew] using hloc5
          have hgw:=HPV.out.1.grow rfl hi9p X _ (by rw [zfd];exact ho2) hgr5 hloc';have hrl:=HPV.out.1.lt i9 hi9p;have hg9l:=HPV.out.1.own.lt g9 rfl;have hc1:=HPV.out.1.zmq rfl i9 hi9p;have hmap5:=((hmapV.alloc (.cells #[.int .i64 (X:Int)] 3)).kept hgr5 (by simp;omega)).setCell (a:=⟨g9,i9,none⟩) (show mp≠g9 by omega) (.slice (some ⟨ρ,0,none⟩) (((pgI L l t).getD i9 []).length+1) κ);have hbt5:But mp W9 (w5.setCell ⟨g9,i9,none⟩ (.slice (some ⟨ρ,0,none⟩) (((pgI L l t).getD i9 []).length+1) κ)):=by
           have hb0:=HPV.out.2;refine ⟨hgr5.os.trans hb0.os,hgr5.tape.trans hb0.tape,hgr5.output.trans hb0.output,?_,λ kk hkk hne=>?_⟩
           ·have h1:=hgr5.size;have h2:=hb0.size;simp at h1 ⊢;omega
           ·have h2:=hb0.size
            rw [Below.heap_setCell _ _ _ _ (show kk≠g9 by omega),hgr5.block kk (by simp;omega) (by simp;omega),Below.heap_alloc _ _ _ (by omega)];exact hb0.block kk hkk hne
          rw [<-HFND.out.1] at hgw;have HF:Hid (za2 (w5.setCell ⟨g9,i9,none⟩ (.slice (some ⟨ρ,0,none⟩) (((pgI L l t).getD i9 []).length+1) κ)) W9.heap.size (.slice (some ⟨g9,0,none⟩) (pgI L l t).length cap) (pgI L l (t+1)) (λ i=>if i=i9 then ρ else r i) (λ i=>if i=i9 then κ else c i)/\(w5.setCell ⟨g9,i9,none⟩ (.slice (some ⟨ρ,0,none⟩) (((pgI L l t).getD i9 []).length+1) κ)).ownsMap prog 3 (plainElem prog 3) mp Nm Da/\But mp W9 (w5.setCell ⟨g9,i9,none⟩ (.slice (some ⟨ρ,0,none⟩) (((pgI L l t).getD i9 []).length+1) κ))):=⟨hgw,hmap5,hbt5⟩;have HE9:=kd hrun;have hcx:V.cell? ⟨bx,0,none⟩=some (.int .i64 (X:Int)):=by have:=HBX.out;simp [World.cell?,this]
          have hbA:Below V.heap.size V (V.alloc (.cells #[.int .i64 (X:Int)] 3)):=(Below.refl _ _).alloc (Nat.le_refl _) _;have d1:V.drew.cell? ⟨g9,i9,none⟩=some (.slice (some ⟨r i9,0,none⟩) ((pgI L l t).getD i9 []).length (c i9)):=hc1;have d2:V.drew.cell? ⟨bx,0,none⟩=some (.int .i64 (X:Int)):=hcx;have d3:(V.alloc (.cells #[.int .i64 (X:Int)] 3)).drew.cell? ⟨g9,i9,none⟩=some (.slice (some ⟨r i9,0,none⟩) ((pgI L l t).getD i9 []).length (c i9)):=(cell_below hc1 hbA:(V.alloc (.cells #[.int .i64 (X:Int)] 3)).cell? ⟨g9,i9,none⟩=_);have d4:(V.alloc (.cells #[.int .i64 (X:Int)] 3)).drew.cell? ⟨bx,0,none⟩=some (.int .i64 (X:Int)):=(cell_below hcx hbA:(V.alloc (.cells #[.int .i64 (X:Int)] 3)).cell? ⟨bx,0,none⟩=_);have d5:w5.cell? ⟨bx,0,none⟩=some (.int .i64 (X:Int)):=by
           have h1:w5.heap[bx]? =some (.cells #[.int .i64 (X:Int),.int .i64 x1,.int .i64 x2] 61):=by
            rw [hgr5.block bx (by simp;omega) (λ e=>by
             have h2:=(HPV.out.1.each i9 hi9p).1;rcases h2.2 with ⟨h3,_⟩ | ⟨g',cap',cur',h3,_,hg',_⟩
             ·cases h3
             ·injection h3 with h4 _ _
              injection h4 with h4
              injection h4 with h4 _ _
              injection e with e
              rw [<-h4,<-e,HBX.out] at hg';simp at hg'),Below.heap_alloc _ _ _ (by omega)]
            exact HBX.out
           simp [World.cell?,h1]
          have hgbx:bx≠g9:=by
           intro e;rcases HPV.out.1.own.2 with ⟨h3,_⟩ | ⟨g',cap',cur',h3,_,hg',_⟩
           ·cases h3
           ·injection h3 with h4 _ _
            injection h4 with h4
            injection h4 with h4 _ _
            rw [<-h4,<-e,HBX.out] at hg';simp at hg'
          have d6:(w5.setCell ⟨g9,i9,none⟩ (.slice (some ⟨ρ,0,none⟩) (((pgI L l t).getD i9 []).length+1) κ)).cell? ⟨bx,0,none⟩=some (.int .i64 (X:Int)):=by
           have h1:(w5.setCell ⟨g9,i9,none⟩ (.slice (some ⟨ρ,0,none⟩) (((pgI L l t).getD i9 []).length+1) κ)).heap[bx]? =w5.heap[bx]? :=Below.heap_setCell _ _ _ _ (show bx≠g9 from hgbx);have h2:=d5;simp only [World.cell?] at h2 ⊢;rw [h1];exact h2
          have hi9i:(i9:Int)<((pgI L l t).length:Int):=by omega
          clear hgw hmap5 hbt5 hrun hown5 hgrow5 hloc5 ho2 hloc' hgr5 hoi hrl hg9l hbA hi9 hi9e ha hVs;generalize hgle:((pgI L l t).getD i9 []).length=gl at*;generalize hple:(pgI L l t).length=pl at*;clear hgle hple hpl hml;go_wp2_with (first | (at_lookup;refine wpList_lookup_own_ok_int _ rfl _ _ 183 rfl 3 3 .i64 za6 underlying183 underlying3 (zdy _) mp Nm Da rfl hmapV _ _ rfl hkey ?_;intro c9 hat hwc;rw [HVAL.out] at hat;obtain rfl:=zfa hat;rw [HHAS.out];clear hat hwc) | fail);clear hmapV cbV hkey;refine wp_region_held_drew (S:=λ w'=>w'.cell? ⟨bx,0,none⟩=some (.int .i64 (X:Int))) (by kernel_rfl) ?_ (λ hHeld=>?_)
          ·exact d2
          refine wpAnyH_take (i:=0) (oi:={dst:=some 159,op:=Op.move (Operand.tmp 15),type:=51,pos:= "ref.go:205",after:=#[],guard:=none}) (v:=?_) rfl (by kernel_rfl) (by kernel_rfl) (by kernel_rfl) (λ _ _ _ h=>h) (Or.inl ⟨by rfl,?_⟩) (by assumption) ?_;rotate_left
          ·intro w hSw
           try dsimp only at hSw
           first | (go_simp;done) | (go_simp;with_reducible rfl)
          try simp only [Act.put,List.setIfInBounds_toArray,List.set_cons_zero,List.set_cons_succ]
          refine wpAnyH_take (i:=1) (oi:={dst:=some 160,op:=Op.move (Operand.tmp 19),type:=3,pos:= "ref.go:205",after:=#[],guard:=none}) (v:=?_) rfl (by kernel_rfl) (by kernel_rfl) (by kernel_rfl) (λ _ _ _ h=>h) (Or.inl ⟨by rfl,?_⟩) (by assumption) ?_;rotate_left
          ·intro w hSw
           try dsimp only at hSw
           first | (go_simp;done) | (go_simp;with_reducible rfl)
          try simp only [Act.put,List.setIfInBounds_toArray,List.set_cons_zero,List.set_cons_succ]
          refine wpAnyH_take (i:=2) (oi:={dst:=some 161,op:=Op.move (Operand.tmp 15),type:=51,pos:= "ref.go:205",after:=#[],guard:=none}) (v:=?_) rfl (by kernel_rfl) (by kernel_rfl) (by kernel_rfl) (λ _ _ _ h=>h) (Or.inl ⟨by rfl,?_⟩) (by assumption) ?_;rotate_left
          ·intro w hSw
           try dsimp only at hSw
           first | (go_simp;done) | (go_simp;with_reducible rfl)
          try simp only [Act.put,List.setIfInBounds_toArray,List.set_cons_zero,List.set_cons_succ]
          refine wpAnyH_take (i:=3) (oi:={dst:=some 162,op:=Op.move (Operand.tmp 19),type:=3,pos:= "ref.go:205",after:=#[],guard:=none}) (v:=?_) rfl (by kernel_rfl) (by kernel_rfl) (by kernel_rfl) (λ _ _ _ h=>h) (Or.inl ⟨by rfl,?_⟩) (by assumption) ?_;rotate_left
          ·intro w hSw
           try dsimp only at hSw
           first | (go_simp;done) | (go_simp;with_reducible rfl)
          try simp only [Act.put,List.setIfInBounds_toArray,List.set_cons_zero,List.set_cons_succ]
          refine wpAnyH_take (i:=4) (oi:={dst:=some 163,op:=Op.indexAddr 51 (Operand.tmp 161) (Operand.tmp 162),type:=0,pos:= "ref.go:205",after:=#[{on:=2,ground:=Ground.data},{on:=3,ground:=Ground.data}],guard:=none}) (v:=?_) rfl (by kernel_rfl) (by kernel_rfl) (by kernel_rfl) (λ _ _ _ h=>h) (Or.inl ⟨by rfl,?_⟩) (by assumption) ?_;rotate_left
          ·intro w hSw
           try dsimp only at hSw
           first | (go_simp;done) | (go_simp;with_reducible rfl)
          try simp only [Act.put,List.setIfInBounds_toArray,List.set_cons_zero,List.set_cons_succ]
          refine wpAnyH_take (i:=6) (oi:={dst:=some 165,op:=Op.fieldAddr 61 (Operand.tmp 18) 0,type:=0,pos:= "ref.go:205",after:=#[],guard:=none}) (v:=?_) rfl (by kernel_rfl) (by kernel_rfl) (by kernel_rfl) (λ _ _ _ h=>h) (Or.inl ⟨by rfl,?_⟩) (by assumption) ?_;rotate_left
          ·intro w hSw
           try dsimp only at hSw
           first | (go_simp;done) | (go_simp;with_reducible rfl)
          try simp only [Act.put,List.setIfInBounds_toArray,List.set_cons_zero,List.set_cons_succ]
          refine wpAnyH_take (i:=7) (oi:={dst:=some 166,op:=Op.load 3 (Operand.tmp 165),type:=3,pos:= "ref.go:205",after:=#[{on:=6,ground:=Ground.data}],guard:=none}) (v:=?_) rfl (by kernel_rfl) (by kernel_rfl) (by kernel_rfl) (λ _ _ _ h=>h) (Or.inl ⟨by rfl,?_⟩) (by assumption) ?_;rotate_left
          ·intro w hSw
           try dsimp only at hSw
           first | (go_simp;done) | (go_simp;with_reducible rfl)
          try simp only [Act.put,List.setIfInBounds_toArray,List.set_cons_zero,List.set_cons_succ]
          refine wpAnyH_ready (rs:=[5,8]) (by kernel_rfl) (by simp) ?_;refine AllReadyH.cons rfl (λ K hK=>?_) ?_
          ·go_simp
           refine hK.out _ _ ?_ (λ hHeld=>?_)
           ·exact d2
           clear hK K;refine wpAnyH_ready (rs:=[8]) (by kernel_rfl) (by simp) ?_;refine AllReadyH.cons rfl (λ K hK=>?_) AllReadyH.nil;go_simp;refine hK.out _ _ ?_ (λ hHeld=>?_)
           ·exact d4
           clear hK K;refine wpAnyH_ready (rs:=[9]) (by kernel_rfl) (by simp) ?_;refine AllReadyH.cons rfl (λ K hK=>?_) AllReadyH.nil;refine G.zau rfl (.tmp 164) (.tmp 167) 48 48 rfl (.slice (some ⟨r i9,0,none⟩) gl (c i9)) (.slice (some ⟨V.heap.size,0,none⟩) 1 1) (by first | rfl | (simp [Act.eval];done) | (simp [Act.eval,Act.put];done)) (by first | rfl | (simp [Act.eval];done) | (simp [Act.eval,Act.put];done)) HE9.out ?_;refine hK.out _ _ ?_ (λ hHeld=>?_)
           ·exact d5
           clear hK K;refine wpAnyH_take (i:=10) (oi:={dst:=some 169,op:=Op.indexAddr 51 (Operand.tmp 159) (Operand.tmp 160),type:=0,pos:= "ref.go:205",after:=#[{on:=0,ground:=Ground.data},{on:=1,ground:=Ground.data},{on:=0,ground:=Ground.phase},{on:=1,ground:=Ground.phase},{on:=2,ground:=Ground.phase},{on:=3,ground:=Ground.phase},{on:=4,ground:=Ground.phase},{on:=5,ground:=Ground.phase},{on:=6,ground:=Ground.phase},{on:=7,ground:=Ground.phase},{on:=8,ground:=Ground.phase},{on:=9,ground:=Ground.phase}],guard:=none}) (v:=?_) rfl (by kernel_rfl) (by kernel_rfl) (by kernel_rfl) (λ _ _ _ h=>h) (Or.inl ⟨by rfl,?_⟩) (by assumption) ?_;rotate_left
           ·intro w hSw
            try dsimp only at hSw
            first | (go_simp;done) | (go_simp;with_reducible rfl)
           try simp only [Act.put,List.setIfInBounds_toArray]
           refine wpAnyH_ready (rs:=[11]) (by kernel_rfl) (by simp) ?_;refine AllReadyH.cons rfl (λ K hK=>?_) AllReadyH.nil;go_simp;refine hK.out _ _ ?_ (λ hHeld=>?_)
           ·exact d6
           clear hK K;refine wpAnyH_done (by kernel_rfl) ?_ _;go_wp2_with fail;go_roundw;case rel=>exact ⟨t+1,Nm,Da,_,_,by omega,by go_num,HF.out.1,HF.out.2.1,by omega,by rw [HFND.out.2];exact HMA.out.2,HF.out.2.2⟩
           case measure=>simp [intOf];omega
          ·refine AllReadyH.cons rfl (λ K hK=>?_) AllReadyH.nil
           go_simp;refine hK.out _ _ ?_ (λ hHeld=>?_)
           ·exact d4
           clear hK K;refine wpAnyH_ready (rs:=[5]) (by kernel_rfl) (by simp) ?_;refine AllReadyH.cons rfl (λ K hK=>?_) AllReadyH.nil;go_simp;refine hK.out _ _ ?_ (λ hHeld=>?_)
           ·exact d4
           clear hK K;refine wpAnyH_ready (rs:=[9]) (by kernel_rfl) (by simp) ?_;refine AllReadyH.cons rfl (λ K hK=>?_) AllReadyH.nil;refine G.zau rfl (.tmp 164) (.tmp 167) 48 48 rfl (.slice (some ⟨r i9,0,none⟩) gl (c i9)) (.slice (some ⟨V.heap.size,0,none⟩) 1 1) (by first | rfl | (simp [Act.eval];done) | (simp [Act.eval,Act.put];done)) (by first | rfl | (simp [Act.eval];done) | (simp [Act.eval,Act.put];done)) HE9.out ?_;refine hK.out _ _ ?_ (λ hHeld=>?_)
           ·exact d5
           clear hK K;refine wpAnyH_take (i:=10) (oi:={dst:=some 169,op:=Op.indexAddr 51 (Operand.tmp 159) (Operand.tmp 160),type:=0,pos:= "ref.go:205",after:=#[{on:=0,ground:=Ground.data},{on:=1,ground:=Ground.data},{on:=0,ground:=Ground.phase},{on:=1,ground:=Ground.phase},{on:=2,ground:=Ground.phase},{on:=3,ground:=Ground.phase},{on:=4,ground:=Ground.phase},{on:=5,ground:=Ground.phase},{on:=6,ground:=Ground.phase},{on:=7,ground:=Ground.phase},{on:=8,ground:=Ground.phase},{on:=9,ground:=Ground.phase}],guard:=none}) (v:=?_) rfl (by kernel_rfl) (by kernel_rfl) (by kernel_rfl) (λ _ _ _ h=>h) (Or.inl ⟨by rfl,?_⟩) (by assumption) ?_;rotate_left
           ·intro w hSw
            try dsimp only at hSw
            first | (go_simp;done) | (go_simp;with_reducible rfl)
           try simp only [Act.put,List.setIfInBounds_toArray]
           refine wpAnyH_ready (rs:=[11]) (by kernel_rfl) (by simp) ?_;refine AllReadyH.cons rfl (λ K hK=>?_) AllReadyH.nil;go_simp;refine hK.out _ _ ?_ (λ hHeld=>?_)
           ·exact d6
           clear hK K;refine wpAnyH_done (by kernel_rfl) ?_ _;go_wp2_with fail;go_roundw;case rel=>exact ⟨t+1,Nm,Da,_,_,by omega,by go_num,HF.out.1,HF.out.2.1,by omega,by rw [HFND.out.2];exact HMA.out.2,HF.out.2.2⟩
           case measure=>simp [intOf];omega
         ·as_aux_lemma=>
          have HNI:=kd hin;have HHAS:Hid (Maps.has Da (.int .i64 (Y:Int))=false):=by
           show _=false;rw [Bool.eq_false_iff];exact λ c=>hin ((HMA.out.2.key Y).1 c)
          have HVAL:Hid (Da.atKey (.int .i64 (Y:Int)) (.lit (.int .i64 0))= .lit (.int .i64 0)):=atKey_of_not_has HHAS.out _;obtain ⟨a,cap,hu,ha⟩:=HPV.out.1.shape;subst hu;have hown:=HPV.out.1.own;obtain ⟨pl,hple⟩:∃pl,(pgI L l t).length=pl:=⟨_,rfl⟩;have HPL:=kd hple;have hpl100:pl<=120:=by omega
          have hwpl:(Lit.int .i64 (pl:Int)).wf=true:=zar (by omega) (by omega);have hNmx:Nm<maxLen:=by unfold maxLen;omega
          have HOWN:Hid (V.ownsRow W9.heap.size 48 1 (.slice a pl cap) pl (za8 (pgI L l t) r c)):=by
           have:=hown;rw [hple] at this;exact this
          have HNEO:Hid ((Value.slice a pl cap).ownBlock=none\/(Value.slice a pl cap).ownBlock≠some mp):=by
           show _\/_;cases hv:(Value.slice a pl cap).ownBlock with
           | none=>exact .inl rfl
           | some b=>exact .inr (λ e=>by have h1:=(HOWN.out.lt b hv).1;injection e with e;omega)
          have HPV2:Hid (za2 V W9.heap.size (.slice a pl cap) (pgI L l t) r c):=by
           have:=HPV.out.1;rw [hple] at this;exact this
          rw [hple];have hVsz:bx<V.heap.size:=by omega
          clear hple hpl hml hVs ha hin hown;go_wp2_with (first
           | (at_lookup;refine wpList_lookup_own_ok_int _ rfl _ _ 183 rfl 3 3 .i64 za6 underlying183 underlying3 (zdy _) mp Nm Da rfl hmapV _ _ rfl hkey ?_;intro c9 hat hwc;rw [HVAL.out] at hat;obtain rfl:=zfa hat;rw [HHAS.out];clear hat hwc)
           | (at_mapUpdate;refine wpList_mapUpdate_own _ rfl _ _ _ 183 rfl 3 3 za6 underlying183 (plainElem prog 3) mp Nm Da rfl hmapV hNmx _ _ _ rfl rfl hkey _ [] (plainElem_int underlying3 hwpl) ?_;intro w6 hown6 hgrow6)
           | (at_builtin;refine wpList_append_own_at _ rfl _ _ 51 rfl W9.heap.size 48 i0 (.slice none 0 0) 1 24 underlying51 hi0 hz0 hz1 hz2 rfl (by decide) (.slice a pl cap) _ _ rfl ((HOWN.out.kept hgrow6 HNEO.out).alloc _) ⟨w6.heap.size,0,none⟩ 1 1 [.slice none 0 0] rfl rfl (cell_one_new _ _ _) (zcu _ _ _) (by unfold maxLen;omega) (by omega) (by have:=hgrow6.size;simp;omega) ?_;intro v7 w7 hown7 hgrow7 hnil7 hloc7)
           | fail)
          obtain ⟨g7,cap7,hv7⟩:∃g7 cap7,v7= .slice (some ⟨g7,0,none⟩) (pl+1) cap7:=by
           rcases hown7.2 with ⟨_,h0⟩ | ⟨ρ,κ,cur,hv,_⟩
           ·omega
           ·exact ⟨ρ,κ,hv⟩
          subst hv7;have hs6:=hgrow6.size;have hs7:w6.heap.size+1<=w7.heap.size:=by have:=hgrow7.size;simpa using this
          have hg7:=hown7.lt g7 rfl;have HP6:Hid (za2 w6 W9.heap.size (.slice a pl cap) (pgI L l t) r c):=HPV2.out.kept hgrow6 (λ m e=>by injection e with e;omega);obtain ⟨v8,w8,hrun,hown8,hgrow8,_,hloc8⟩:=run_append_own_at (P:=prog) (w7.alloc (.cells #[.int .i64 (X:Int)] 3)).drew W9.heap.size 48 48 3 j0 (.int .i64 0) 1 8 underlying48 hj0 hy0 hy1 hy2 rfl (by decide) (.slice none 0 0) 0 [] (World.ownsRow_nil _ _ _ _) ⟨w7.heap.size,0,none⟩ 1 1 [.int .i64 (X:Int)] rfl (cell_one_new _ _ _) (ints_oneCell .i64 [(X:Int)]) (by unfold maxLen;omega) (by omega) (by show W9.heap.size<=(w7.alloc _).heap.size;simp;omega);have hgr8:(w7.alloc (.cells #[.int .i64 (X:Int)] 3)).grownBy w8 none:=⟨hgrow8.os,hgrow8.tape,hgrow8.output,hgrow8.size,hgrow8.block⟩;obtain ⟨ρ,κ,hv8⟩:∃ρ κ,v8= .slice (some ⟨ρ,0,none⟩) 1 κ:=by
           rcases hown8.2 with ⟨_,h0⟩ | ⟨ρ,κ,cur,hv,_⟩
           ·omega
           ·exact ⟨ρ,κ,hv⟩
          subst hv8;have hρ:w7.heap.size<=ρ:=by
           have h1:=hloc8;simp [Value.ownBlock,World.drew] at h1;omega
          have hown8':w8.ownsInts W9.heap.size 3 .i64 (.slice (some ⟨ρ,0,none⟩) 1 κ) [(X:Int)]:=⟨hown8,by simpa using hwX⟩;have HPN:Hid (pgI L l (t+1)=pgI L l t++[[X]]/\lst l (t+1)=lst l t++[Y]):=by
           have h1:∀i,i<(lst l t).length->(lst l t).getD i 0≠l.getD t 0:=λ i hi e=>HNI.out (by
            rw [HY.out.1] at e;rw [<-e,List.getD_eq_getElem?_getD,List.getElem?_eq_getElem hi];exact List.getElem_mem hi)
           have h2:Y=t:=by
            have h3:¬Y<t:=λ c=>HNI.out (zcp.2 ⟨c,HY.out.2⟩)
            omega
           refine ⟨?_,?_⟩
           ·rw [z4l L HGD.out.1 (by rw [HM.out];exact hltt) h1,HX.out]
           ·rw [zha (by rw [HY.out.1];exact h2),h2]
          have hown7':=hown7;rw [<-HPL.out] at hown7';have hbeg:=HP6.out.begin _ _ hgrow7 hown7' hgr8 hown8' hρ;rw [<-HPN.out.1,HPL.out] at hbeg;have hmap8:=((((hown6.alloc (.cells #[.slice none 0 0] 48)).kept hgrow7 (HNEO.out.elim (λ e=>by rw [e];simp) (λ e=>λ c=>e c.symm))).alloc (.cells #[.int .i64 (X:Int)] 3)).kept hgr8 (by simp)).setCell (a:=⟨g7,pl,none⟩) (show mp≠g7 by omega) (.slice (some ⟨ρ,0,none⟩) 1 κ);have hbt8:But mp W9 (w8.setCell ⟨g7,pl,none⟩ (.slice (some ⟨ρ,0,none⟩) 1 κ)):=by
           have hb0:=HPV.out.2;have h8s:=hgr8.size;have h0s:=hb0.size;simp at h8s;refine ⟨hgr8.os.trans (hgrow7.os.trans (hgrow6.os.trans hb0.os)),hgr8.tape.trans (hgrow7.tape.trans (hgrow6.tape.trans hb0.tape)),hgr8.output.trans (hgrow7.output.trans (hgrow6.output.trans hb0.output)),?_,λ kk hkk hne=>?_⟩
           ·simp;omega
           ·rw [Below.heap_setCell _ _ _ _ (show kk≠g7 by omega),hgr8.block kk (by simp;omega) (by simp),Below.heap_alloc _ _ _ (by omega),hgrow7.block kk (by simp;omega) (λ e=>by have:=(HOWN.out.lt kk e.symm).1;omega),Below.heap_alloc _ _ _ (by omega),hgrow6.block kk (by omega) (by simp;omega)]
            exact hb0.block kk hkk hne
          have HF:Hid (za2 (w8.setCell ⟨g7,pl,none⟩ (.slice (some ⟨ρ,0,none⟩) 1 κ)) W9.heap.size (.slice (some ⟨g7,0,none⟩) (pl+1) cap7) (pgI L l (t+1)) (λ i=>if i=pl then ρ else r i) (λ i=>if i=pl then κ else c i)/\(w8.setCell ⟨g7,pl,none⟩ (.slice (some ⟨ρ,0,none⟩) 1 κ)).ownsMap prog 3 (plainElem prog 3) mp (Nm+1) (Da.put (.int .i64 (Y:Int)) (.lit (.int .i64 (pl:Int))))/\But mp W9 (w8.setCell ⟨g7,pl,none⟩ (.slice (some ⟨ρ,0,none⟩) 1 κ))):=⟨hbeg,hmap8,hbt8⟩;have HAM:Hid (Am (Da.put (.int .i64 (Y:Int)) (.lit (.int .i64 (pl:Int)))) (lst l (t+1))):=by
           have h1:=HMA.out.2.put HMA.out.1.isMap HNI.out;rw [<-zlx L l t,HPL.out] at h1;show Am _ _;rw [HPN.out.2];exact h1
          have HE9:=kd hrun;have hbx7:w7.heap[bx]? =some (.cells #[.int .i64 (X:Int),.int .i64 x1,.int .i64 x2] 61):=by
           rw [hgrow7.block bx (by simp;omega) (λ e=>by
            rcases HOWN.out.2 with ⟨h3,_⟩ | ⟨g',cap',cur',h3,_,hg',_⟩
            ·rw [h3] at e;cases e
            ·rw [h3] at e
             injection e with e
             have e:bx=g':=e;rw [<-e,HBX.out] at hg';simp at hg'),Below.heap_alloc _ _ _ (by omega),hgrow6.block bx hVsz (by simp;omega)]
           exact HBX.out
          have hbx8:w8.heap[bx]? =some (.cells #[.int .i64 (X:Int),.int .i64 x1,.int .i64 x2] 61):=by
           rw [hgr8.block bx (by simp;omega) (by simp),Below.heap_alloc _ _ _ (by omega)];exact hbx7
          have hgbx:bx≠g7:=by
           intro e;rcases hown7.2 with ⟨h3,_⟩ | ⟨g',cap',cur',h3,_,hg',_⟩
           ·cases h3
           ·injection h3 with h4 _ _
            injection h4 with h4
            injection h4 with h4 _ _
            rw [<-h4,<-e,hbx7] at hg';simp at hg'
          have ht8:=(hown7.alloc (.cells #[.int .i64 (X:Int)] 3)).kept hgr8 (.inr (by simp [Value.ownBlock]));have hrvl:(za8 (pgI L l t) r c).length=pl:=by rw [<-HPL.out];simp [za8]
          have hat:(za8 (pgI L l t) r c++[Value.slice none 0 0])[pl]? =some (.slice none 0 0):=by
           rw [<-hrvl];simp
          have d1:w7.drew.cell? ⟨g7,pl,none⟩=some (.slice none 0 0):=(hown7.cellAt pl (by omega)).trans hat;have d2:w7.drew.cell? ⟨bx,0,none⟩=some (.int .i64 (X:Int)):=by
           show w7.cell? ⟨bx,0,none⟩=_;simp only [World.cell?];rw [hbx7];rfl
          have hbA:Below w7.heap.size w7 (w7.alloc (.cells #[.int .i64 (X:Int)] 3)):=(Below.refl _ _).alloc (Nat.le_refl _) _;have d3:(w7.alloc (.cells #[.int .i64 (X:Int)] 3)).drew.cell? ⟨g7,pl,none⟩=some (.slice none 0 0):=(cell_below (show w7.cell? ⟨g7,pl,none⟩=some (.slice none 0 0) from d1) hbA:(w7.alloc (.cells #[.int .i64 (X:Int)] 3)).cell? ⟨g7,pl,none⟩=_);have d4:(w7.alloc (.cells #[.int .i64 (X:Int)] 3)).drew.cell? ⟨bx,0,none⟩=some (.int .i64 (X:Int)):=(cell_below (show w7.cell? ⟨bx,0,none⟩=some (.int .i64 (X:Int)) from d2) hbA:(w7.alloc (.cells #[.int .i64 (X:Int)] 3)).cell? ⟨bx,0,none⟩=_);have c3:w8.cell? ⟨g7,pl,none⟩=some (.slice none 0 0):=(ht8.cellAt pl (by omega)).trans hat;have f3:w8.frozen? ⟨g7,pl,none⟩=false:=ht8.frozenAt pl;have d5:w8.cell? ⟨bx,0,none⟩=some (.int .i64 (X:Int)):=by simp only [World.cell?];rw [hbx8];rfl
          have d6:(w8.setCell ⟨g7,pl,none⟩ (.slice (some ⟨ρ,0,none⟩) 1 κ)).cell? ⟨bx,0,none⟩=some (.int .i64 (X:Int)):=by
           have h1:(w8.setCell ⟨g7,pl,none⟩ (.slice (some ⟨ρ,0,none⟩) 1 κ)).heap[bx]? =w8.heap[bx]? :=Below.heap_setCell _ _ _ _ (show bx≠g7 from hgbx);simp only [World.cell?];rw [h1,hbx8];rfl
          have hpli:(pl:Int)<((pl+1:Nat):Int):=by omega
          clear hown7 hown7' hgrow7 hnil7 hloc7 hown6 hgrow6 hbeg hmap8 hbt8 hrun hown8 hown8' hgrow8 hgr8 hloc8 hρ hs6 hs7 hg7 hbx7 hbx8 hat hrvl ht8 hbA hmapV cbV hkey;have HFN:Hid (∃(Nm':Nat) (Da':DataW Unit) (r' c':Nat->Nat),za2 (w8.setCell ⟨g7,pl,none⟩ (.slice (some ⟨ρ,0,none⟩) 1 κ)) W9.heap.size (.slice (some ⟨g7,0,none⟩) (pl+1) cap7) (pgI L l (t+1)) r' c'/\(w8.setCell ⟨g7,pl,none⟩ (.slice (some ⟨ρ,0,none⟩) 1 κ)).ownsMap prog 3 (plainElem prog 3) mp Nm' Da'/\Nm'<=t+1/\Am Da' (lst l (t+1))/\But mp W9 (w8.setCell ⟨g7,pl,none⟩ (.slice (some ⟨ρ,0,none⟩) 1 κ))):=⟨Nm+1,_,_,_,HF.out.1,HF.out.2.1,by omega,HAM.out,HF.out.2.2⟩;clear HF HAM HPN HP6 HPV2 HNEO HOWN HPL HVAL HHAS HNI HBX HPV HX HY HBT HMA HGD HB9 HRW HR9 HM HE HO HB1 HBQ HR0 HIN HINV HG;obtain ⟨pl1,hpl1⟩:∃pl1,pl+1=pl1:=⟨_,rfl⟩;rw [hpl1] at HFN ⊢;have hpli':(pl:Int)<(pl1:Int):=by omega
          clear hpl1 hpli;refine wp_region_held_drew (S:=λ w'=>w'.cell? ⟨bx,0,none⟩=some (.int .i64 (X:Int))) (by kernel_rfl) ?_ (λ hHeld=>?_)
          ·exact d2
          refine wpAnyH_take (i:=0) (oi:={dst:=some 159,op:=Op.move (Operand.tmp 15),type:=51,pos:= "ref.go:205",after:=#[],guard:=none}) (v:=?_) rfl (by kernel_rfl) (by kernel_rfl) (by kernel_rfl) (λ _ _ _ h=>h) (Or.inl ⟨by rfl,?_⟩) (by assumption) ?_;rotate_left
          ·intro w hSw
           try dsimp only at hSw
           first | (go_simp;done) | (go_simp;with_reducible rfl)
          try simp only [Act.put,List.setIfInBounds_toArray,List.set_cons_zero,List.set_cons_succ]
          refine wpAnyH_take (i:=1) (oi:={dst:=some 160,op:=Op.move (Operand.tmp 19),type:=3,pos:= "ref.go:205",after:=#[],guard:=none}) (v:=?_) rfl (by kernel_rfl) (by kernel_rfl) (by kernel_rfl) (λ _ _ _ h=>h) (Or.inl ⟨by rfl,?_⟩) (by assumption) ?_;rotate_left
          ·intro w hSw
           try dsimp only at hSw
           first | (go_simp;done) | (go_simp;with_reducible rfl)
          try simp only [Act.put,List.setIfInBounds_toArray,List.set_cons_zero,List.set_cons_succ]
          refine wpAnyH_take (i:=2) (oi:={dst:=some 161,op:=Op.move (Operand.tmp 15),type:=51,pos:= "ref.go:205",after:=#[],guard:=none}) (v:=?_) rfl (by kernel_rfl) (by kernel_rfl) (by kernel_rfl) (λ _ _ _ h=>h) (Or.inl ⟨by rfl,?_⟩) (by assumption) ?_;rotate_left
          ·intro w hSw
           try dsimp only at hSw
           first | (go_simp;done) | (go_simp;with_reducible rfl)
          try simp only [Act.put,List.setIfInBounds_toArray,List.set_cons_zero,List.set_cons_succ]
          refine wpAnyH_take (i:=3) (oi:={dst:=some 162,op:=Op.move (Operand.tmp 19),type:=3,pos:= "ref.go:205",after:=#[],guard:=none}) (v:=?_) rfl (by kernel_rfl) (by kernel_rfl) (by kernel_rfl) (λ _ _ _ h=>h) (Or.inl ⟨by rfl,?_⟩) (by assumption) ?_;rotate_left
          ·intro w hSw
           try dsimp only at hSw
           first | (go_simp;done) | (go_simp;with_reducible rfl)
          try simp only [Act.put,List.setIfInBounds_toArray,List.set_cons_zero,List.set_cons_succ]
          refine wpAnyH_take (i:=4) (oi:={dst:=some 163,op:=Op.indexAddr 51 (Operand.tmp 161) (Operand.tmp 162),type:=0,pos:= "ref.go:205",after:=#[{on:=2,ground:=Ground.data},{on:=3,ground:=Ground.data}],guard:=none}) (v:=?_) rfl (by kernel_rfl) (by kernel_rfl) (by kernel_rfl) (λ _ _ _ h=>h) (Or.inl ⟨by rfl,?_⟩) (by assumption) ?_;rotate_left
          ·intro w hSw
           try dsimp only at hSw
           first | (go_simp;done) | (go_simp;with_reducible rfl)
          try simp only [Act.put,List.setIfInBounds_toArray,List.set_cons_zero,List.set_cons_succ]
          refine wpAnyH_take (i:=6) (oi:={dst:=some 165,op:=Op.fieldAddr 61 (Operand.tmp 18) 0,type:=0,pos:= "ref.go:205",after:=#[],guard:=none}) (v:=?_) rfl (by kernel_rfl) (by kernel_rfl) (by kernel_rfl) (λ _ _ _ h=>h) (Or.inl ⟨by rfl,?_⟩) (by assumption) ?_;rotate_left
          ·intro w hSw
           try dsimp only at hSw
           first | (go_simp;done) | (go_simp;with_reducible rfl)
          try simp only [Act.put,List.setIfInBounds_toArray,List.set_cons_zero,List.set_cons_succ]
          refine wpAnyH_take (i:=7) (oi:={dst:=some 166,op:=Op.load 3 (Operand.tmp 165),type:=3,pos:= "ref.go:205",after:=#[{on:=6,ground:=Ground.data}],guard:=none}) (v:=?_) rfl (by kernel_rfl) (by kernel_rfl) (by kernel_rfl) (λ _ _ _ h=>h) (Or.inl ⟨by rfl,?_⟩) (by assumption) ?_;rotate_left
          ·intro w hSw
           try dsimp only at hSw
           first | (go_simp;done) | (go_simp;with_reducible rfl)
          try simp only [Act.put,List.setIfInBounds_toArray,List.set_cons_zero,List.set_cons_succ]
          refine wpAnyH_ready (rs:=[5,8]) (by kernel_rfl) (by simp) ?_;refine AllReadyH.cons rfl (λ K hK=>?_) ?_
          ·go_simp
           refine hK.out _ _ ?_ (λ hHeld=>?_)
           ·exact d2
           clear hK K;refine wpAnyH_ready (rs:=[8]) (by kernel_rfl) (by simp) ?_;refine AllReadyH.cons rfl (λ K hK=>?_) AllReadyH.nil;go_simp;refine hK.out _ _ ?_ (λ hHeld=>?_)
           ·exact d4
           clear hK K;refine wpAnyH_ready (rs:=[9]) (by kernel_rfl) (by simp) ?_;refine AllReadyH.cons rfl (λ K hK=>?_) AllReadyH.nil;refine G.zau rfl (.tmp 164) (.tmp 167) 48 48 rfl (.slice none 0 0) (.slice (some ⟨w7.heap.size,0,none⟩) 1 1) (by first | rfl | (simp [Act.eval];done) | (simp [Act.eval,Act.put];done)) (by first | rfl | (simp [Act.eval];done) | (simp [Act.eval,Act.put];done)) HE9.out ?_;refine hK.out _ _ ?_ (λ hHeld=>?_)
           ·exact d5
           clear hK K;refine wpAnyH_take (i:=10) (oi:={dst:=some 169,op:=Op.indexAddr 51 (Operand.tmp 159) (Operand.tmp 160),type:=0,pos:= "ref.go:205",after:=#[{on:=0,ground:=Ground.data},{on:=1,ground:=Ground.data},{on:=0,ground:=Ground.phase},{on:=1,ground:=Ground.phase},{on:=2,ground:=Ground.phase},{on:=3,ground:=Ground.phase},{on:=4,ground:=Ground.phase},{on:=5,ground:=Ground.phase},{on:=6,ground:=Ground.phase},{on:=7,ground:=Ground.phase},{on:=8,ground:=Ground.phase},{on:=9,ground:=Ground.phase}],guard:=none}) (v:=?_) rfl (by kernel_rfl) (by kernel_rfl) (by kernel_rfl) (λ _ _ _ h=>h) (Or.inl ⟨by rfl,?_⟩) (by assumption) ?_;rotate_left
           ·intro w hSw
            try dsimp only at hSw
            first | (go_simp;done) | (go_simp;with_reducible rfl)
           try simp only [Act.put,List.setIfInBounds_toArray]
           refine wpAnyH_ready (rs:=[11]) (by kernel_rfl) (by simp) ?_;refine AllReadyH.cons rfl (λ K hK=>?_) AllReadyH.nil;go_simp;refine hK.out _ _ ?_ (λ hHeld=>?_)
           ·exact d6
           clear hK K;refine wpAnyH_done (by kernel_rfl) ?_ _;go_wp2_with fail;go_roundw;case rel=>
            obtain ⟨Nm',Da',r',c',e1,e2,e3,e4,e5⟩:=HFN.out;exact ⟨t+1,Nm',Da',r',c',by omega,by go_num,e1,e2,e3,e4,e5⟩
           case measure=>simp [intOf];omega
          ·refine AllReadyH.cons rfl (λ K hK=>?_) AllReadyH.nil
           go_simp;refine hK.out _ _ ?_ (λ hHeld=>?_)
           ·exact d4
           clear hK K;refine wpAnyH_ready (rs:=[5]) (by kernel_rfl) (by simp) ?_;refine AllReadyH.cons rfl (λ K hK=>?_) AllReadyH.nil;go_simp;refine hK.out _ _ ?_ (λ hHeld=>?_)
           ·exact d4
           clear hK K;refine wpAnyH_ready (rs:=[9]) (by kernel_rfl) (by simp) ?_;refine AllReadyH.cons rfl (λ K hK=>?_) AllReadyH.nil;refine G.zau rfl (.tmp 164) (.tmp 167) 48 48 rfl (.slice none 0 0) (.slice (some ⟨w7.heap.size,0,none⟩) 1 1) (by first | rfl | (simp [Act.eval];done) | (simp [Act.eval,Act.put];done)) (by first | rfl | (simp [Act.eval];done) | (simp [Act.eval,Act.put];done)) HE9.out ?_;refine hK.out _ _ ?_ (λ hHeld=>?_)
           ·exact d5
           clear hK K;refine wpAnyH_take (i:=10) (oi:={dst:=some 169,op:=Op.indexAddr 51 (Operand.tmp 159) (Operand.tmp 160),type:=0,pos:= "ref.go:205",after:=#[{on:=0,ground:=Ground.data},{on:=1,ground:=Ground.data},{on:=0,ground:=Ground.phase},{on:=1,ground:=Ground.phase},{on:=2,ground:=Ground.phase},{on:=3,ground:=Ground.phase},{on:=4,ground:=Ground.phase},{on:=5,ground:=Ground.phase},{on:=6,ground:=Ground.phase},{on:=7,ground:=Ground.phase},{on:=8,ground:=Ground.phase},{on:=9,ground:=Ground.phase}],guard:=none}) (v:=?_) rfl (by kernel_rfl) (by kernel_rfl) (by kernel_rfl) (λ _ _ _ h=>h) (Or.inl ⟨by rfl,?_⟩) (by assumption) ?_;rotate_left
           ·intro w hSw
            try dsimp only at hSw
            first | (go_simp;done) | (go_simp;with_reducible rfl)
           try simp only [Act.put,List.setIfInBounds_toArray]
           refine wpAnyH_ready (rs:=[11]) (by kernel_rfl) (by simp) ?_;refine AllReadyH.cons rfl (λ K hK=>?_) AllReadyH.nil;go_simp;refine hK.out _ _ ?_ (λ hHeld=>?_)
           ·exact d6
           clear hK K;refine wpAnyH_done (by kernel_rfl) ?_ _;go_wp2_with fail;go_roundw;case rel=>
            obtain ⟨Nm',Da',r',c',e1,e2,e3,e4,e5⟩:=HFN.out;exact ⟨t+1,Nm',Da',r',c',by omega,by go_num,e1,e2,e3,e4,e5⟩
           case measure=>simp [intOf];omega
        ·as_aux_lemma=>
         have hte:t=k:=by omega
         subst hte;have HF:Hid (zb9 w (zdb L l) (.returned u15) wr):=by
          have h1:=HP.out;rw [<-HM.out,z8j] at h1;obtain ⟨a,cap,hu,ha⟩:=h1.shape;subst hu;refine ⟨a,cap,rfl,λ hl=>?_,HB9.out.trans (HBT.out.below (by have:=HB9.out.size;omega) HB9.out.size)⟩;obtain ⟨g,rfl⟩:=ha hl;exact ⟨g,rfl,h1.rows rfl⟩
         go_wp2_with fail;go_ret;exact ⟨l,HGD.out.1,HGD.out.2,HF.out⟩
end Go.Proofs.YtebcjaenhiiflaaGreatDoor.S
