import Derived.Test.YtebcjaenhiiflaaGreatDoorQKVwFe
set_option maxHeartbeats 4000000
set_option maxRecDepth 100000
namespace Go.Proofs.YtebcjaenhiiflaaGreatDoor.S.X
open Go.RowKit Go.WideMaps Go.Maps
theorem spairs_any (n B p:Nat) (v:Value) (R:List (Int × Int × Int)) (P:Nat->Nat->Bool) (w:World) (h:G.GAt w B 168 61 p (n:Int) v R) (hn:n<=40) (hin:Inn n R) (hl:R.length<=120) (hP:∀a b,a<n->b<n->(P a b=true↔PartP R n a b)):
 Calls Tryz.prog 85 #[.pointer (some ⟨p,0,none⟩)] w λ e w'=>∃u,e= .returned u/\OwnsP w' w.heap.size u (allK P n n)/\Below w.heap.size w w':=by
 have HG:Hid (G.GAt w B 168 61 p (n:Int) v R):=h;have HIN:Hid (Inn n R/\R.length<=120):=⟨hin,hl⟩;have HP:Hid (∀a b,a<n->b<n->(P a b=true↔PartP R n a b)):=hP;have hmk:=λ W=>run_make_row' (P:=Tryz.prog) 212 175 (.pointer none) 8 Tryz.underlying212 info175 rfl .i64 .i64 n (by omega) (by omega) W
 clear h hin hl hP;go_enter Tryz.func85,Tryz.ntmps85;go_wp2_with fail;refine (G.nodes_any (n:Int) B p v R _ HG.out).mono ?_;rintro e w0 ⟨rfl,hw0⟩;subst hw0;go_wp2_with fail;refine (G.edges_any (n:Int) B p v R _ HG.out HIN.out.2).mono ?_;rintro e w1 ⟨ue,rfl,hoe,hb1⟩;have HE:Hid (G.Owns w1 w0.heap.size 61 ue R/\Below w0.heap.size w0 w1):=⟨hoe,hb1⟩;have HA0:Hid (Al w1 (w1.alloc (.cells (madeCells #[.pointer none] n) 175)) w1.heap.size n 0 R):=al_start w1 w1 n R (Below.refl _ _);obtain ⟨ae,ce,hue⟩:=hoe.slice_len;clear hoe hb1;obtain ⟨le,hle⟩:∃le,R.length=le:=⟨_,rfl⟩;have HLE:Hid (R.length=le):=hle;rw [hle] at hue;subst hue;go_wp2_with fail;clear hmk hle;go_loopw [19] (λ s19 wq=>∃k:Nat,k<=n/\s19= .int .i64 k/\Al w1 wq w1.heap.size n k R) (λ s19 _=>n-(intOf s19).toNat)
 case atStart=>exact ⟨0,Nat.zero_le _,rfl,HA0.out⟩
 case round=>
  clear HA0;obtain ⟨k,hk,rfl,hal⟩:=hrel;have HA:Hid (Al w1 wr w1.heap.size n k R):=hal;clear hal;by_cases hlt:k<n
  ·as_aux_lemma=>
   have hb1:Below wr.heap.size wr ((wr.alloc (.cells #[.int .i64 (k:Int)] 3)).drew):=((Below.refl _ _).alloc (Nat.le_refl _) _).drew;have HC:Hid (Calls Tryz.prog 147 #[.int .i64 (n:Int),.slice ae le ce,.func (.func 148) #[] #[.pointer (some ⟨wr.heap.size,0,none⟩)]] ((wr.alloc (.cells #[.int .i64 (k:Int)] 3)).drew) λ e w'=>∃q,e= .returned (.pointer (some ⟨q,0,none⟩))/\w'.cell? ⟨wr.heap.size,0,none⟩=some (.int .i64 (k:Int))/\w'.cell? ⟨w1.heap.size,k,none⟩=some (.pointer none)/\w'.frozen? ⟨w1.heap.size,k,none⟩=false/\(w'.setCell ⟨w1.heap.size,k,none⟩ (.pointer (some ⟨q,0,none⟩))).cell? ⟨wr.heap.size,0,none⟩=some (.int .i64 (k:Int))/\Hid (Al w1 (w'.setCell ⟨w1.heap.size,k,none⟩ (.pointer (some ⟨q,0,none⟩))) w1.heap.size n (k+1) R)):=by
    have hc:((wr.alloc (.cells #[.int .i64 (k:Int)] 3)).drew).cell? ⟨wr.heap.size,0,none⟩=some (.int .i64 (k:Int)):=by simp
    have hA1:=HA.out.below' hb1;refine (together_one n w0.heap.size wr.heap.size (λ x=>decide (x≠k)) (.slice ae le ce) R _ (HE.out.1.below (HA.out.below.trans (hb1.mono HA.out.below.size))) (by omega) HIN.out.1 HIN.out.2 (λ W x hW=>in1_any x wr.heap.size k W (cell_below hc hW))).mono ?_;rintro e w' ⟨q,b,rfl,hs,hq,hbq,hb2⟩;have hA2:=hA1.below' hb2;have:=HA.out.lt;have hsz:=hb1.size;exact ⟨q,rfl,cell_below hc hb2,hA2.rest k (Nat.le_refl _) hlt,hA2.fz k,(World.cell?_setCell_other _ _ _ _ (λ c=>by injection c with c _ _;omega)).trans (cell_below hc hb2),hA2.step hlt hs (by omega) (by omega)⟩
   have hmf':=hmf;have hS0:((wr.alloc (.cells #[.int .i64 (k:Int)] 3)).drew).cell? ⟨wr.heap.size,0,none⟩=some (.int .i64 (k:Int)):=by simp
   clear hb1 HA;go_upto_region 6 with fail
   go_region_with (go_at_call 147;refine HC.out.mono ?_;rintro e w' ⟨q,rfl,hc1,hc2,hf2,hc3,hA2⟩)
   all_goals
    go_wp2_with fail;go_roundw;case rel=>exact ⟨k+1,by omega,by go_num,hA2.out⟩
    case measure=>simp [intOf];omega
  ·have hke:k=n:=by omega
   subst hke;have HPR0:Hid (Pr wr wr (.slice none 0 0) (allK P k 0)):=⟨World.ownsRow_nil _ _ _ _,Below.refl _ _⟩;obtain ⟨W1,hW1⟩:∃W1,wr=W1:=⟨_,rfl⟩;rw [hW1] at HA HPR0 ⊢;clear hW1;go_wp2_with fail;go_loopw [7,31] (λ s7 s31 wq=>∃a:Nat,a<=k/\s31= .int .i64 a/\Pr W1 wq s7 (allK P k a)) (λ _ s31 _=>k-(intOf s31).toNat)
   case atStart=>exact ⟨0,Nat.zero_le _,rfl,HPR0.out⟩
   case round=>
    clear HPR0;obtain ⟨a,ha,rfl,hpr⟩:=hrel;have HPR:Hid (Pr W1 wr u7 (allK P k a)):=hpr;clear hpr;by_cases hla:a<k
    ·have HB0:Hid (B3 W1 ((wr.alloc (.cells #[.int .i64 (a:Int)] 3)).alloc (.cells #[.int .i64 ((a:Int)+1)] 3)) wr.heap.size (wr.heap.size+1) a (a+1) u7 (allK P k a++rowK P a (a+1))):=by
      have:=B3.start HPR.out a;rw [show ((a+1:Nat):Int)=(a:Int)+1 from by omega] at this;show B3 _ _ _ _ _ _ _ _;rw [rowK_start,List.append_nil];exact this
     obtain ⟨ba,hba⟩:∃ba,wr.heap.size=ba:=⟨_,rfl⟩;have HBA:Hid (wr.heap.size=ba):=hba;go_wp2_with fail;rw [hba] at HB0;clear hba;go_loopg [7,9] (k-(a+1)) (λ r s7 s9 wq=>∃b bb:Nat,b+r=k/\a<b/\s9= .pointer (some ⟨bb,0,none⟩)/\B3 W1 wq ba bb a b s7 (allK P k a++rowK P a b))
     case atStart=>exact ⟨a+1,ba+1,by omega,by omega,rfl,HB0.out⟩
     case round=>
      clear HB0 HPR;obtain ⟨b,bb,hbk,hab,rfl,hb3⟩:=hrel;have HB:Hid (B3 W1 wr ba bb a b u7 (allK P k a++rowK P a b)):=hb3;clear hb3;have ca:=HB.out.cella;have cb:=HB.out.cellb;by_cases hlb:b<k
      ·have HT:Hid (Calls Tryz.prog 147 #[.int .i64 (k:Int),.slice ae le ce,.func (.func 149) #[] #[.pointer (some ⟨ba,0,none⟩),.pointer (some ⟨bb,0,none⟩)]] wr (TogPost wr k R λ x=>decide (x≠a/\x≠b))):=by
        have hb1:=HA.out.below;have hb2:=HB.out.pr.below;exact together_two k w0.heap.size ba bb _ (.slice ae le ce) R wr (HE.out.1.below (hb1.trans (hb2.mono hb1.size))) (by omega) HIN.out.1 HIN.out.2 (λ W x hW=>in2_any x ba bb a b W (cell_below ca hW) (cell_below cb hW))
       have hmf':=hmf;go_wp2_with fail;refine HT.out.mono ?_;rintro e w2 ⟨q,bq,rfl,hsq,_,_,hb2⟩;have HB2:Hid (B3 W1 w2 ba bb a b u7 (allK P k a++rowK P a b)):=HB.out.below' hb2;have hA2:=(HA.out.below' HB2.out.pr.below);obtain ⟨pa,xa,ea1,ea2,_,_⟩:=hA2.cell a (by omega);obtain ⟨pb,xb,eb1,eb2,_,_⟩:=hA2.cell b hlb;have HC:Hid (Calls Tryz.prog 150 #[.int .i64 (k:Int),.pointer (some ⟨pa,0,none⟩),.pointer (some ⟨pb,0,none⟩),.pointer (some ⟨q,0,none⟩)] w2.drew λ e w'=>e= .returned (.bool (P a b))/\(w'.cell? ⟨ba,0,none⟩=some (.int .i64 (a:Int))/\w'.cell? ⟨bb,0,none⟩=some (.int .i64 (b:Int))/\w'.cell? ⟨w1.heap.size,a,none⟩=some (.pointer (some ⟨pa,0,none⟩))/\w'.cell? ⟨w1.heap.size,b,none⟩=some (.pointer (some ⟨pb,0,none⟩)))/\Hid (B3 W1 w' ba bb a b u7 (allK P k a++rowK P a b))):=by
        have hd:Below w2.heap.size w2 w2.drew:=(Below.refl _ _).drew;refine (part_any k pa xa pb xb q bq (lab1 k R a) (lab1 k R b) (lab2 k R a b) (P a b) w2.drew (ea2.below hd ea2.plt ea2.blt) (eb2.below hd eb2.plt eb2.blt) (SetsAt.below hsq hd hsq.plt hsq.blt) (by omega) (good_kept HIN.out.1 _) (good_kept HIN.out.1 _) (good_kept HIN.out.1 _) ?_).mono ?_
        ·rw [HP.out a b (by omega) hlb,part_labels HIN.out.1]
        ·rintro e w' ⟨rfl,hb⟩
         have h3:=(HB2.out.below' hd).below' hb;exact ⟨rfl,⟨h3.cella,h3.cellb,cell_below (cell_below ea1 hd) hb,cell_below (cell_below eb1 hd) hb⟩,h3⟩
       have hS0:w2.drew.cell? ⟨ba,0,none⟩=some (.int .i64 (a:Int))/\w2.drew.cell? ⟨bb,0,none⟩=some (.int .i64 (b:Int))/\w2.drew.cell? ⟨w1.heap.size,a,none⟩=some (.pointer (some ⟨pa,0,none⟩))/\w2.drew.cell? ⟨w1.heap.size,b,none⟩=some (.pointer (some ⟨pb,0,none⟩)):=⟨HB2.out.cella,HB2.out.cellb,ea1,eb1⟩;clear hA2 ea1 ea2 eb1 eb2 hsq hb2 HT HB HB2 ca cb hmf';have hlen:(allK P k a++rowK P a b).length<=10000:=by
        have h1:=allK_len P (n:=k) (a:=a);have h2:=rowK_len P (a:=a) (b:=b);have h3:a*k<=40*40:=Nat.mul_le_mul (by omega) hn;rw [List.length_append];omega
       cases hPab:P a b with
       | true=>
         as_aux_lemma=>
         rw [hPab] at HC;obtain ⟨ca2,cb2,ea1,eb1⟩:=hS0;go_upto_region 16 with fail
         go_region_with (go_at_call 150;refine HC.out.mono ?_;rintro e w' ⟨rfl,hS1,hB3⟩)
         all_goals
          obtain ⟨ca3,cb3,_,_⟩:=hS1;obtain ⟨v',w4,hr,ho4,hg4,hf4⟩:=more_pair 65 w' W1.heap.size u7 _ a b hB3.out.pr.own hB3.out.pr.below.size hlen;have HR:Hid (_=_):=hr;have HB4:Hid (B3 W1 w4 ba bb a b v' (allK P k a++rowK P a (b+1))):=by
           have:=hB3.out.more ho4 hg4 hf4;rw [List.append_assoc,<-rowK_yes P hab hPab] at this;exact this
          have cb4:=HB4.out.cellb;have HN:Hid (B3 W1 (w4.alloc (.cells #[.int .i64 ((b:Int)+1)] 3)) ba w4.heap.size a (b+1) v' (allK P k a++rowK P a (b+1))):=by
           have:=HB4.out.next;rw [show ((b+1:Nat):Int)=(b:Int)+1 from by omega] at this;exact this
          clear hr ho4 hg4 hf4 hB3 HB4;go_wp2_with (at_builtin;refine Lib.wpList_append_run _ rfl _ _ _ _ rfl _ _ rfl rfl _ _ HR.out ?_);go_roundg (gk-1);case measure=>omega
          case rel=>exact ⟨b+1,w4.heap.size,by omega,by omega,rfl,HN.out⟩
       | false=>
         as_aux_lemma=>
         rw [hPab] at HC;obtain ⟨ca2,cb2,ea1,eb1⟩:=hS0;go_upto_region 16 with fail
         go_region_with (go_at_call 150;refine HC.out.mono ?_;rintro e w' ⟨rfl,hS1,hB3⟩)
         all_goals
          obtain ⟨ca3,cb3,_,_⟩:=hS1;have HN:Hid (B3 W1 (w'.alloc (.cells #[.int .i64 ((b:Int)+1)] 3)) ba w'.heap.size a (b+1) u7 (allK P k a++rowK P a (b+1))):=by
           have:=hB3.out.next;rw [show ((b+1:Nat):Int)=(b:Int)+1 from by omega,<-rowK_no P hPab] at this;exact this
          clear hB3;go_wp2_with fail;go_roundg (gk-1);case measure=>omega
          case rel=>exact ⟨b+1,w'.heap.size,by omega,by omega,rfl,HN.out⟩
      ·have hbe:b=k:=by omega
       have HF:Hid (Pr W1 wr u7 (allK P k (a+1))):=by
        have:=HB.out.pr;rw [hbe,<-allK_succ] at this;exact this
       clear hbe;go_wp2_with fail;go_roundw;case rel=>exact ⟨a+1,by omega,by go_num,HF.out⟩
       case measure=>simp [intOf];omega
    ·have hae:a=k:=by omega
     subst hae;have HF:Hid (OwnsP wr w0.heap.size u7 (allK P a a)/\Below w0.heap.size w0 wr):=by
      have hb1:=HE.out.2;have hb2:=HA.out.below;have hb3:=HPR.out.below;refine ⟨HPR.out.own.mono (Nat.le_trans hb1.size hb2.size),(hb1.trans (hb2.mono hb1.size)).trans (hb3.mono (Nat.le_trans hb1.size hb2.size))⟩
     go_wp2_with fail;go_ret;exact ⟨_,rfl,HF.out.1,HF.out.2⟩
end Go.Proofs.YtebcjaenhiiflaaGreatDoor.S.X
