import Derived.Test.YtebcjaenhiiflaaGreatDoorQXe
set_option maxHeartbeats 4000000
set_option maxRecDepth 100000
namespace Go.Proofs.YtebcjaenhiiflaaGreatDoor.S.X
open Go.RowKit Go.WideMaps Go.Maps Go.Proofs.Tryz
theorem zwo (n B q:Nat) (u:Value) (R:List (Int × Int × Int)) (P:Nat->Nat->Bool) (w:World) (h:G.GAt w B 40 61 q (n:Int) u R) (hn:n<=40) (hin:Inn n R) (hl:R.length<=120) (hP:∀a b,a<n->b<n->(P a b=true↔zfz R n a b)):
 Calls prog 66 #[.pointer (some ⟨q,0,none⟩)] w λ e w'=>∃v,e= .returned v/\zan w' w.heap.size v (zbn P n n)/\Below w.heap.size w w':=by
 have HG:=kd h;have HIN:=kd (And.intro hin hl);have HP:=kd hP;have hc:=h.c0;obtain ⟨j0,hj,hj0,hj1,hj2⟩:=info_parts Tryz.info48;clear h hin hl hP;go_enter func66,ntmps66;go_wp2_with fail;clear hc;go_loopw [3,16] (λ s3 s16 wq=>∃(k:Nat) (r:Nat->Nat) (l:Nat->List Nat),k<=n/\s16= .int .i64 k/\Rr w wq n k R s3 r l) (λ _ s16 _=>n-(intOf s16).toNat)
 case atStart=>exact ⟨0,λ _=>0,λ _=>[],Nat.zero_le _,rfl,World.ownsRow_nil _ _ _ _,λ i hi=>by omega,Below.refl _ _⟩
 case round=>
  obtain ⟨k,r,l,hk,rfl,hrr⟩:=hrel;have HR:=kd hrr;clear hrr;by_cases hlt:k<n
  ·as_aux_lemma=>
   have hb1:Below wr.heap.size wr (wr.alloc (.cells #[.int .i64 (k:Int)] 3)):=(Below.refl _ _).alloc (Nat.le_refl _) _;have HR1:Hid (Rr w (wr.alloc (.cells #[.int .i64 (k:Int)] 3)) n k R u3 r l):=HR.out.below' hb1;clear HR hb1;go_wp2_with fail;refine (G.zbw (n:Int) B q u R none (some ⟨wr.heap.size,0,none⟩) 0 1 0 1 (λ _=>0) (λ _=>(k:Int)) _ (HG.out.below HR1.out.below) HIN.out.2 (znx _ _) (z1o wr k) (by omega) (by omega)).mono ?_;rintro e w2 ⟨q2,v2,rfl,hg2,hb2⟩;have HG2:=kd hg2;have HR2:Hid (Rr w w2 n k R u3 r l):=HR1.out.below' hb2;clear hg2 hb2 HR1;go_wp2_with fail;refine (zbk n _ q2 v2 _ w2 HG2.out (Nat.le_trans (List.length_filter_le _ _) HIN.out.2) (by omega) (znk HIN.out.1 _)).mono ?_;rintro e w3 ⟨b3,l3,rfl,hrl,_,hll,hli,hb3⟩;have HR3:Hid (Rr w w3 n k R u3 r l):=HR2.out.below' hb3;have HRL:Hid (zak w3 b3 l3/\Lw n R [k] l3):=⟨hrl,zxr HIN.out.1 (zyb k) hll hli⟩;have hown:=HR3.out.own;have hsz3:=HR3.out.below.size;clear hrl hll hli hb3 HR2 HG2;go_wp2_with (first
    | (at_builtin;refine wpList_append_own_at _ rfl _ _ 51 rfl w.heap.size 48 j0 (.slice none 0 0) 1 24 underlying51 hj hj0 hj1 hj2 rfl (by decide) u3 k _ rfl (hown.alloc _) ⟨w3.heap.size,0,none⟩ 1 1 [.slice (some ⟨b3,0,none⟩) n n] rfl rfl (cell_one_new _ _ _) (zcu _ _ _) (by unfold maxLen;omega) (by omega) (by simp;omega) ?_;intro v9 w9 hown9 hgrow9 hnil9 hloc9)
    | fail)
   have HR9:Hid (Rr w w9 n (k+1) R v9 (λ i=>if i<k then r i else b3) (λ i=>if i<k then l i else l3)):=HR3.out.more HRL.out.1 HRL.out.2 _ hown9 hgrow9;clear hown9 hgrow9 hnil9 hloc9 hown;go_wp2_with fail;go_roundw;case rel=>exact ⟨k+1,_,_,by omega,by go_num,HR9.out⟩
   case measure=>simp [intOf];omega
  ·have hke:k=n:=by omega
   subst hke;have HPR0:Hid (Pr wr wr (.slice none 0 0) (zbn P k 0)):=⟨World.ownsRow_nil _ _ _ _,Below.refl _ _⟩;have hc1:=(HG.out.below HR.out.below).c0;go_wp2_with fail;clear hc1;obtain ⟨W1,hW1⟩:∃W1,wr=W1:=⟨_,rfl⟩;obtain ⟨t3,ht3⟩:∃t3,u3=t3:=⟨_,rfl⟩;rw [hW1] at HR HPR0 ⊢;rw [ht3] at HR ⊢;clear hW1 ht3;go_loopw [5,32] (λ s5 s32 wq=>∃a:Nat,a<=k/\s32= .int .i64 a/\Pr W1 wq s5 (zbn P k a)) (λ _ s32 _=>k-(intOf s32).toNat)
   case atStart=>exact ⟨0,Nat.zero_le _,rfl,HPR0.out⟩
   case round=>
    clear HPR0;obtain ⟨a,ha,rfl,hpr⟩:=hrel;have HPR:=kd hpr;clear hpr;by_cases hla:a<k
    ·have HB0:Hid (Pr W1 wr u5 (zbn P k a++zbz P a (a+1))):=by
      show Pr _ _ _ _;rw [zkz,List.append_nil];exact HPR.out
     go_wp2_with fail;go_loopw [5,7] (λ s5 s7 wq=>∃b:Nat,b<=k/\a<b/\s7= .int .i64 b/\Pr W1 wq s5 (zbn P k a++zbz P a b)) (λ _ s7 _=>k-(intOf s7).toNat)
     case atStart=>exact ⟨a+1,by omega,by omega,by go_num,HB0.out⟩
     case round=>
      clear HB0 HPR;obtain ⟨b,hb,hab,rfl,hpr⟩:=hrel;have HPR:=kd hpr;clear hpr;have hc1:=((HG.out.below HR.out.below).below HPR.out.below).c0;by_cases hlb:b<k
      ·have hb1:Below wr.heap.size wr (wr.alloc (.cells #[.int .i64 (a:Int),.int .i64 (b:Int)] 3)):=(Below.refl _ _).alloc (Nat.le_refl _) _
       have HP1:Hid (Pr W1 (wr.alloc (.cells #[.int .i64 (a:Int),.int .i64 (b:Int)] 3)) u5 (zbn P k a++zbz P a b)):=HPR.out.below' hb1;clear HPR hb1;go_wp2_with fail;clear hc1;refine (G.zbw (k:Int) B q u R none (some ⟨wr.heap.size,0,none⟩) 0 2 0 2 (λ _=>0) (zkc a b) _ ((HG.out.below HR.out.below).below HP1.out.below) HIN.out.2 (znx _ _) (z3p wr a b) (by omega) (by omega)).mono ?_;rintro e w2 ⟨q2,v2,rfl,hg2,hb2⟩;have HG2:=kd hg2;have HP2:Hid (Pr W1 w2 u5 (zbn P k a++zbz P a b)):=HP1.out.below' hb2;clear hg2 hb2 HP1;go_wp2_with fail;refine (zbk k _ q2 v2 _ w2 HG2.out (Nat.le_trans (List.length_filter_le _ _) HIN.out.2) (by omega) (znk HIN.out.1 _)).mono ?_;rintro e w3 ⟨b3,l3,rfl,hrl,_,hll,hli,hb3⟩;have HP3:Hid (Pr W1 w3 u5 (zbn P k a++zbz P a b)):=HP2.out.below' hb3;have HRL:Hid (zak w3 b3 l3/\Lw k R [a,b] l3):=⟨hrl,zxr HIN.out.1 (zzh a b) hll hli⟩;have HR3:Hid (Rr w w3 k k R t3 r l):=HR.out.below' HP3.out.below;obtain ⟨g3,c3,ht3,hcell3⟩:=HR3.out.shape (by omega);subst ht3;have hga:=hcell3 a (by omega);have hgb:=hcell3 b hlb;have HROW:Hid (∀W,Below w3.heap.size w3 W->(W.cell? ⟨g3,a,none⟩=some (.slice (some ⟨r a,0,none⟩) k k)/\W.cell? ⟨g3,b,none⟩=some (.slice (some ⟨r b,0,none⟩) k k))/\∀x,x<k->W.cell? ⟨r a,x,none⟩=some (.int .i64 (((l a).getD x 0:Nat):Int))/\W.cell? ⟨r b,x,none⟩=some (.int .i64 (((l b).getD x 0:Nat):Int))/\W.cell? ⟨b3,x,none⟩=some (.int .i64 ((l3.getD x 0:Nat):Int))):=λ W hW=>by
        have h1:=HR3.out.row a (by omega);have h2:=HR3.out.row b hlb;refine ⟨⟨cell_below hga hW,cell_below hgb hW⟩,λ x hx=>⟨cell_below (h1.1.cell x (by rw [h1.2.len];exact hx)) hW,cell_below (h2.1.cell x (by rw [h2.2.len];exact hx)) hW,cell_below (HRL.out.1.cell x (by rw [HRL.out.2.len];exact hx)) hW⟩⟩
       have HDOC:Hid (∀x y,x<k->y<k->(zcc R a b x y↔¬(x=a\/x=b\/y=a\/y=b)/\(l a).getD x 0=(l a).getD y 0/\(l b).getD x 0=(l b).getD y 0/\l3.getD x 0≠l3.getD y 0)):=λ x y hx hy=>by
        unfold zcc;rw [((HR3.out.row a (by omega)).2).iff x y hx hy,((HR3.out.row b hlb).2).iff x y hx hy,<-not_congr (HRL.out.2.iff x y hx hy)]
       obtain ⟨la,hla'⟩:∃la,l a=la:=⟨_,rfl⟩;obtain ⟨lb,hlb'⟩:∃lb,l b=lb:=⟨_,rfl⟩;rw [hla',hlb'] at HROW HDOC;have hN3:=((HG.out.below HR.out.below).below HP3.out.below).c0;clear hrl hll hli hb3 HP2 HG2 hga hgb hcell3 HR3 hla' hlb';go_wp2_with fail;go_loopw [9,55] (λ s9 s55 wq=>∃(x:Nat) (bz:Bool),x<=k/\s55= .int .i64 x/\s9= .bool bz/\(bz=true↔∃x' y',y'<x'/\x'<x/\zcc R a b x' y')/\Below w3.heap.size w3 wq) (λ _ s55 _=>k-(intOf s55).toNat)
       case atStart=>exact ⟨0,false,Nat.zero_le _,rfl,rfl,⟨λ h=>absurd h (by simp),λ ⟨x',y',_,h,_⟩=>absurd h (by omega)⟩,Below.refl _ _⟩
       case round=>
        clear hN3;obtain ⟨x,bz,hx,rfl,rfl,hbz,hbel⟩:=hrel;have HZ0:=kd (And.intro hbz hbel);clear hbz hbel;by_cases hlx:x<k
        ·have HZS:Hid (bz=true↔∃x' y',y'<x'/\(x'<x\/(x'=x/\y'<0))/\zcc R a b x' y'):=by
          rw [HZ0.out.1];exact ⟨λ ⟨x',y',h1,h2,h3⟩=>⟨x',y',h1,.inl h2,h3⟩,λ ⟨x',y',h1,h2,h3⟩=>⟨x',y',h1,by omega,h3⟩⟩
         go_wp2_with fail;go_loopw [9,59] (λ s9 s59 wq=>∃(y:Nat) (bz:Bool),y<=x/\s59= .int .i64 y/\s9= .bool bz/\(bz=true↔∃x' y',y'<x'/\(x'<x\/(x'=x/\y'<y))/\zcc R a b x' y')/\Below w3.heap.size w3 wq) (λ _ s59 _=>x-(intOf s59).toNat)
         case atStart=>exact ⟨0,bz,Nat.zero_le _,rfl,rfl,HZS.out,HZ0.out.2⟩
         case round=>
          clear HZS HZ0;obtain ⟨y,bz,hy,rfl,rfl,hbz,hbel⟩:=hrel;have HZ0:=kd (And.intro hbz hbel);clear hbz hbel;by_cases hly:y<x
          ·have HNX:Hid (∀b2:Bool,(b2=true↔bz=true\/zcc R a b x y)->(b2=true↔∃x' y',y'<x'/\(x'<x\/(x'=x/\y'<y+1))/\zcc R a b x' y')):=λ b2 h2=>by
            rw [h2,HZ0.out.1];constructor
            ·rintro (⟨x',y',h1,h3,h4⟩ | h4)
             ·exact ⟨x',y',h1,by omega,h4⟩
             ·exact ⟨x,y,hly,by omega,h4⟩
            ·rintro ⟨x',y',h1,h3,h4⟩
             by_cases he:x'=x/\y'=y
             ·rw [he.1,he.2] at h4;exact .inr h4
             ·exact .inl ⟨x',y',h1,by omega,h4⟩
           obtain ⟨⟨hga,hgb⟩,hrow⟩:=HROW.out wr HZ0.out.2;obtain ⟨x1,x2,x3⟩:=hrow x hlx;obtain ⟨y1,y2,y3⟩:=hrow y (by omega);have HD:Hid _:=HDOC.out x y hlx (by omega);clear hrow;by_cases hc:x=a\/x=b\/y=a\/y=b
           ·have HZ:Hid (bz=true↔∃x' y',y'<x'/\(x'<x\/(x'=x/\y'<y+1))/\zcc R a b x' y'):=HNX.out bz ⟨.inl,λ h=>h.elim id (λ d=>absurd hc d.1)⟩
            clear x1 x2 x3 y1 y2 y3 HD HNX hga hgb;by_cases e1:x=a
            ·have f1:((x:Int)==(a:Int))=true:=beq_iff_eq.2 (by omega)
             clear e1 hc
             as_aux_lemma=>
             go_wp2_with fail;go_roundw;case rel=>exact ⟨y+1,bz,by omega,by go_num,rfl,HZ.out,HZ0.out.2⟩
             case measure=>simp [intOf];omega
            ·have f1:((x:Int)==(a:Int))=false:=beq_eq_false_iff_ne.2 (by omega)
             by_cases e2:x=b
             ·have f2:((x:Int)==(b:Int))=true:=beq_iff_eq.2 (by omega)
              clear e1 e2 hc
              as_aux_lemma=>
              go_wp2_with fail;go_roundw;case rel=>exact ⟨y+1,bz,by omega,by go_num,rfl,HZ.out,HZ0.out.2⟩
              case measure=>simp [intOf];omega
             ·have f2:((x:Int)==(b:Int))=false:=beq_eq_false_iff_ne.2 (by omega)
              by_cases e3:y=a
              ·have f3:((y:Int)==(a:Int))=true:=beq_iff_eq.2 (by omega)
               clear e1 e2 e3 hc
               as_aux_lemma=>
               go_wp2_with fail;go_roundw;case rel=>exact ⟨y+1,bz,by omega,by go_num,rfl,HZ.out,HZ0.out.2⟩
               case measure=>simp [intOf];omega
              ·have f3:((y:Int)==(a:Int))=false:=beq_eq_false_iff_ne.2 (by omega)
               have f4:((y:Int)==(b:Int))=true:=beq_iff_eq.2 (by omega);clear e1 e2 e3 hc
               as_aux_lemma=>
               go_wp2_with fail;go_roundw;case rel=>exact ⟨y+1,bz,by omega,by go_num,rfl,HZ.out,HZ0.out.2⟩
               case measure=>simp [intOf];omega
           ·have f1:((x:Int)==(a:Int))=false:=beq_eq_false_iff_ne.2 (by omega)
            have f2:((x:Int)==(b:Int))=false:=beq_eq_false_iff_ne.2 (by omega);have f3:((y:Int)==(a:Int))=false:=beq_eq_false_iff_ne.2 (by omega);have f4:((y:Int)==(b:Int))=false:=beq_eq_false_iff_ne.2 (by omega);have HBD:=kd HZ0.out.2.drew;have hly':y<k:=by omega
            obtain ⟨X1,hX1⟩:∃X1,la.getD x 0=X1:=⟨_,rfl⟩;obtain ⟨Y1,hY1⟩:∃Y1,la.getD y 0=Y1:=⟨_,rfl⟩;obtain ⟨X2,hX2⟩:∃X2,lb.getD x 0=X2:=⟨_,rfl⟩;obtain ⟨Y2,hY2⟩:∃Y2,lb.getD y 0=Y2:=⟨_,rfl⟩;obtain ⟨X3,hX3⟩:∃X3,l3.getD x 0=X3:=⟨_,rfl⟩;obtain ⟨Y3,hY3⟩:∃Y3,l3.getD y 0=Y3:=⟨_,rfl⟩;have HD':Hid (zcc R a b x y↔X1=Y1/\X2=Y2/\X3≠Y3):=by
             rw [<-hX1,<-hY1,<-hX2,<-hY2,<-hX3,<-hY3];show zcc R a b x y↔_;rw [HD.out];exact ⟨λ h=>h.2,λ h=>⟨hc,h⟩⟩
            rw [hX1] at x1;rw [hX2] at x2;rw [hX3] at x3;rw [hY1] at y1;rw [hY2] at y2;rw [hY3] at y3;clear hX1 hX2 hX3 hY1 hY2 hY3 HD hc;cases bz with
            | true=>
              as_aux_lemma=>
              have HZ:Hid (true=true↔∃x' y',y'<x'/\(x'<x\/(x'=x/\y'<y+1))/\zcc R a b x' y'):=HNX.out true ⟨λ _=>.inl rfl,λ _=>rfl⟩;clear HNX HD';go_upto_region 23 with fail
              go_quiet (fail);go_wp2_with fail;go_roundw;case rel=>exact ⟨y+1,true,by omega,by go_num,(by first | rfl | (simp only [bne,g3];rfl)),HZ.out,below_drewN HZ0.out.2 _⟩
              case measure=>simp [intOf];omega
            | false=>
              by_cases h1:X1=Y1
              ·have g1:((X1:Int)==(Y1:Int))=true:=beq_iff_eq.2 (by omega)
               by_cases h2:X2=Y2
               ·have g2:((X2:Int)==(Y2:Int))=true:=beq_iff_eq.2 (by omega)
                by_cases h3:X3=Y3
                ·as_aux_lemma=>
                 have g3:((X3:Int)==(Y3:Int))=true:=beq_iff_eq.2 (by omega);have HZ:Hid (false=true↔∃x' y',y'<x'/\(x'<x\/(x'=x/\y'<y+1))/\zcc R a b x' y'):=HNX.out false ⟨λ h=>.inl h,λ h=>h.elim id (λ d=>absurd h3 (HD'.out.1 d).2.2)⟩;clear HNX HD' h1 h2 h3;go_upto_region 23 with fail
                 go_quiet (fail);go_wp2_with fail;go_roundw;case rel=>exact ⟨y+1,false,by omega,by go_num,(by first | rfl | (simp only [bne,g3];rfl)),HZ.out,below_drewN HZ0.out.2 _⟩
                 case measure=>simp [intOf];omega
                ·as_aux_lemma=>
                 have g3:((X3:Int)==(Y3:Int))=false:=beq_eq_false_iff_ne.2 (by omega);have HZ:Hid (true=true↔∃x' y',y'<x'/\(x'<x\/(x'=x/\y'<y+1))/\zcc R a b x' y'):=HNX.out true ⟨λ _=>.inr (HD'.out.2 ⟨h1,h2,h3⟩),λ _=>rfl⟩;clear HNX HD' h1 h2 h3;go_upto_region 23 with fail
                 go_quiet (fail);go_wp2_with fail;go_roundw;case rel=>exact ⟨y+1,true,by omega,by go_num,(by first | rfl | (simp only [bne,g3];rfl)),HZ.out,below_drewN HZ0.out.2 _⟩
                 case measure=>simp [intOf];omega
               ·as_aux_lemma=>
                have g2:((X2:Int)==(Y2:Int))=false:=beq_eq_false_iff_ne.2 (by omega);have HZ:Hid (false=true↔∃x' y',y'<x'/\(x'<x\/(x'=x/\y'<y+1))/\zcc R a b x' y'):=HNX.out false ⟨λ h=>.inl h,λ h=>h.elim id (λ d=>absurd (HD'.out.1 d).2.1 h2)⟩;clear HNX HD' h1 h2;go_upto_region 23 with fail
                go_quiet (fail);go_wp2_with fail;go_roundw;case rel=>exact ⟨y+1,false,by omega,by go_num,(by first | rfl | (simp only [bne,g3];rfl)),HZ.out,below_drewN HZ0.out.2 _⟩
                case measure=>simp [intOf];omega
              ·as_aux_lemma=>
               have g1:((X1:Int)==(Y1:Int))=false:=beq_eq_false_iff_ne.2 (by omega);have HZ:Hid (false=true↔∃x' y',y'<x'/\(x'<x\/(x'=x/\y'<y+1))/\zcc R a b x' y'):=HNX.out false ⟨λ h=>.inl h,λ h=>h.elim id (λ d=>absurd (HD'.out.1 d).1 h1)⟩;clear HNX HD' h1;go_upto_region 23 with fail
               go_quiet (fail);go_wp2_with fail;go_roundw;case rel=>exact ⟨y+1,false,by omega,by go_num,(by first | rfl | (simp only [bne,g3];rfl)),HZ.out,below_drewN HZ0.out.2 _⟩
               case measure=>simp [intOf];omega
          ·as_aux_lemma=>
           have hye:y=x:=by omega
           have HF:Hid (bz=true↔∃x' y',y'<x'/\x'<x+1/\zcc R a b x' y'):=by
            rw [HZ0.out.1];exact ⟨λ ⟨x',y',h1,h2,h3⟩=>⟨x',y',h1,by omega,h3⟩,λ ⟨x',y',h1,h2,h3⟩=>⟨x',y',h1,by omega,h3⟩⟩
           clear hye;go_wp2_with fail;go_roundw;case rel=>exact ⟨x+1,bz,by omega,by go_num,rfl,HF.out,HZ0.out.2⟩
           case measure=>simp [intOf];omega
        ·have hxe:x=k:=by omega
         have hPb:P a b=bz:=by
          have h1:=HP.out a b (by omega) hlb;rw [zkp] at h1;have h2:=HZ0.out.1;rw [hxe,<-h1] at h2;cases hz:bz <;> cases hp:P a b <;> simp_all
         have hlen:(zbn P k a++zbz P a b).length<=10000:=by
          have h1:=zkm P (n:=k) (a:=a);have h2:=zkn P (a:=a) (b:=b);have h3:a*k<=40*40:=Nat.mul_le_mul (by omega) hn;rw [List.length_append];omega
         have HP4:Hid (Pr W1 wr u5 (zbn P k a++zbz P a b)):=HP3.out.below' HZ0.out.2;clear hxe;cases hz:bz with
         | true=>
           as_aux_lemma=>
           rw [hz] at hPb;obtain ⟨v',w4,hr,ho4,hg4,hf4⟩:=zfi 65 wr W1.heap.size u5 _ a b HP4.out.own HP4.out.below.size hlen;have HRR:=kd hr;have HN:Hid (Pr W1 w4 v' (zbn P k a++zbz P a (b+1))):=by
            refine ⟨?_,HP4.out.below.grown hg4 HP4.out.below.size (λ j hj=>(World.ownsRow.lt HP4.out.own j hj).1)⟩;rw [List.append_assoc,<-zqj P hab hPb] at ho4;exact ho4
           clear hr ho4 hg4 hf4 HP4 hPb;go_wp2_with (at_builtin;refine Lib.wpList_append_run _ rfl _ _ _ _ rfl _ _ rfl rfl _ _ HRR.out ?_);go_roundw;case rel=>exact ⟨b+1,by omega,by omega,by go_num,HN.out⟩
           case measure=>simp [intOf];omega
         | false=>
           as_aux_lemma=>
           rw [hz] at hPb;have HN:Hid (Pr W1 wr u5 (zbn P k a++zbz P a (b+1))):=by
            show Pr _ _ _ _;rw [ztn P hPb];exact HP4.out
           clear hPb;go_wp2_with fail;go_roundw;case rel=>exact ⟨b+1,by omega,by omega,by go_num,HN.out⟩
           case measure=>simp [intOf];omega
      ·as_aux_lemma=>
       have hbe:b=k:=by omega
       have HF:Hid (Pr W1 wr u5 (zbn P k (a+1))):=by
        have:=HPR.out;rw [hbe,<-zii] at this;exact this
       clear hbe;go_wp2_with fail;go_roundw;case rel=>exact ⟨a+1,by omega,by go_num,HF.out⟩
       case measure=>simp [intOf];omega
    ·as_aux_lemma=>
     have hae:a=k:=by omega
     subst hae;have HF:Hid (zan wr w.heap.size u5 (zbn P a a)/\Below w.heap.size w wr):=by
      have hb2:=HR.out.below;have hb3:=HPR.out.below;exact ⟨HPR.out.own.mono hb2.size,hb2.trans (hb3.mono hb2.size)⟩
     go_wp2_with fail;go_ret;exact ⟨_,rfl,HF.out.1,HF.out.2⟩
end Go.Proofs.YtebcjaenhiiflaaGreatDoor.S.X
