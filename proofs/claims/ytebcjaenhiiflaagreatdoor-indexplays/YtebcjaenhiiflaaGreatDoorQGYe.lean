import Derived.Test.YtebcjaenhiiflaaGreatDoorQGBGYa
set_option maxHeartbeats 4000000
set_option maxRecDepth 100000
namespace Go.Proofs.YtebcjaenhiiflaaGreatDoor.G
open Go.RowKit Go.Proofs.Tryz
theorem zzp (ty:TypeId) (W:World) (B o:Nat) (n:Int) (v:Value) (M:List E) (x0 x1 x2:Int) (h:GAt W B 40 61 o n v M) (hB:B<=W.heap.size) (ho:B<=o) (hl:M.length<=1000):
 ∃a m c w2,(Builtin.append_ #[33,33] ty #[v,.slice (some ⟨W.heap.size,0,none⟩) 1 1]).run prog (W.alloc (.cells #[.int .i64 x0,.int .i64 x1,.int .i64 x2] 61))= .ok (.slice a m c) w2/\w2.cell? ⟨o,1,none⟩=some v/\w2.frozen? ⟨o,1,none⟩=false/\
  GAt (w2.setCell ⟨o,1,none⟩ (.slice a m c)) B 40 61 o n (.slice a m c) (M++[(x0,x1,x2)])/\Below B W (w2.setCell ⟨o,1,none⟩ (.slice a m c)):=by
 obtain ⟨v',w2,h1,h2,h3,h4,h5⟩:=zg4 ty W B v M x0 x1 x2 h.row hB hl;obtain ⟨a,m,c,rfl⟩:=h2.slice;have hu:(Value.slice a m c).ownBlock≠some o:=by
  intro e;rcases h4 o e with h6 | h6
  ·exact h.ne h6
  ·have:=h.plt;omega
 exact ⟨a,m,c,w2,h1,(zhb h h5).1,(zhb h h5).2,h.store h5 h2 hu,h3.setCell ho _⟩
theorem zbw (n:Int) (B q:Nat) (u:Value) (R:List E) (ae an:Option Addr) (me mn ce cn:Nat) (Fe Fn:Nat->Int) (w:World) (h:GAt w B 40 61 q n u R) (hl:R.length<=120) (hie:Ints w ae me Fe) (hin:Ints w an mn Fn) (hme:me<=1000) (hmn:mn<=1000):
 Calls prog 58 #[.pointer (some ⟨q,0,none⟩),.slice ae me ce,.slice an mn cn] w λ e w'=>∃q' v',e= .returned (.pointer (some ⟨q',0,none⟩))/\GAt w' w.heap.size 40 61 q' n v' (R.filter (stays Fe Fn me mn))/\Below w.heap.size w w':=by
 have hc:=h.c0;have hu1:=h.c1;have hqlt:=h.plt;have HG:=kd h;have HIE:Hid (∀W,Below w.heap.size w W->Ints W ae me Fe):=λ W hW=>hie.below hW
 have HIN:Hid (∀W,Below w.heap.size w W->Ints W an mn Fn):=λ W hW=>hin.below hW
 obtain ⟨m,hm⟩:∃m,m=R.length:=⟨_,rfl⟩;have HM:=kd hm;obtain ⟨ua,uc,hv⟩:=h.row.zal;rw [<-hm] at hv hl;have HV:=kd hv;rw [hv] at hu1;obtain ⟨pf,hpf⟩:∃pf,pf=stays Fe Fn me mn:=⟨_,rfl⟩;rw [<-hpf];have HPF:Hid (∀x0 x1 x2,pf (x0,x1,x2)=(!among Fe me x0&&!among Fn mn x1&&!among Fn mn x2)):=λ x0 x1 x2=>by rw [hpf];rfl
 have HST:Hid (GAt (w.alloc (.cells #[.int .i64 n,.slice none 0 0] 40)) w.heap.size 40 61 w.heap.size n (.slice none 0 0) []/\Below w.heap.size w (w.alloc (.cells #[.int .i64 n,.slice none 0 0] 40))):=by
  refine ⟨⟨?_,World.ownsRow_nil _ _ _ _,λ e=>by cases e⟩,zat w _⟩;exact heap_alloc_new w _
 clear h hie hin hv hm hpf;go_enter func58,ntmps58;go_wp2_with fail;go_loopg [10,22] m (λ r _ s22 wq=>∃k:Nat,s22= .int .i64 k/\k+r=m/\∃a' m' c',GAt wq w.heap.size 40 61 w.heap.size n (.slice a' m' c') ((R.take k).filter pf)/\Below w.heap.size w wq)
 case atStart=>exact ⟨0,rfl,by omega,_,_,_,HST.out⟩
 case round=>
  obtain ⟨k,rfl,hk,a',m',c',hg,hb⟩:=hrel;have HGO:=kd hg;have HBW:=kd hb;clear hg hb HST;by_cases hlt:k<m
  ·obtain ⟨x0,x1,x2,hx⟩:∃x0 x1 x2,R[k]? =some (x0,x1,x2):=⟨_,_,_,List.getElem?_eq_getElem (by rw [<-HM.out];exact hlt)⟩
   have HX:=kd hx;obtain ⟨g,hua⟩:∃g,ua=some ⟨g,0,none⟩:=by
    rcases HG.out.row.shape with ⟨_,e⟩ | ⟨g,cap,e,_⟩
    ·rw [e] at hx;simp at hx
    ·rw [HV.out] at e
     injection e with e1 _ _
     exact ⟨g,e1⟩
   obtain ⟨r0,r1,r2⟩:=(HG.out.below HBW.out).row.at (g:=g) (by rw [HV.out,hua];rfl) hx;have r0':wr.cell? ⟨g,k*3,none⟩=some (.int .i64 x0):=r0;have r1':wr.cell? ⟨g,k*3+1,none⟩=some (.int .i64 x1):=r1;have r2':wr.cell? ⟨g,k*3+2,none⟩=some (.int .i64 x2):=r2;clear r0 r1 r2 hx;subst hua;obtain ⟨W1,hW1⟩:∃W1,W1=wr.alloc (.cells #[.int .i64 x0,.int .i64 x1,.int .i64 x2] 61):=⟨_,rfl⟩;have hbW:Below wr.heap.size wr W1:=by rw [hW1];exact zat wr _
   have HB1:Hid (Below w.heap.size w W1):=HBW.out.trans (hbW.mono HBW.out.size);have HG1:Hid (GAt W1 w.heap.size 40 61 w.heap.size n (.slice a' m' c') ((R.take k).filter pf)):=HGO.out.below hbW;have hh:W1.heap[wr.heap.size]? =some (.cells #[.int .i64 x0,.int .i64 x1,.int .i64 x2] 61):=by rw [hW1];exact heap_alloc_new wr _
   have p0:W1.cell? ⟨wr.heap.size,0,none⟩=some (.int .i64 x0):=by simp [World.cell?,hh]
   have p1:W1.cell? ⟨wr.heap.size,1,none⟩=some (.int .i64 x1):=by simp [World.cell?,hh]
   have p2:W1.cell? ⟨wr.heap.size,2,none⟩=some (.int .i64 x2):=by simp [World.cell?,hh]
   have plt:wr.heap.size<W1.heap.size:=lt_of_some hh;have olt:w.heap.size<W1.heap.size:=HG1.out.plt;have oc:=HG1.out.c1;have HW1:=kd hW1.symm;have hpx:=HPF.out x0 x1 x2;clear hh hbW hW1 HGO;generalize hb1:among Fe me x0=b1 at hpx;generalize hb2:among Fn mn x1=b2 at hpx;generalize hb3:among Fn mn x2=b3 at hpx;have HA1:=kd hb1;have HA2:=kd hb2;have HA3:=kd hb3;clear hb1 hb2 hb3;have HSK:Hid (pf (x0,x1,x2)=false->((R.take (k+1)).filter pf)=((R.take k).filter pf)):=by
    intro hf;rw [zb3 pf HX.out,hf];simp
   cases b1 with
   | true=>
     as_aux_lemma=>
     have HF:Hid (GAt W1 w.heap.size 40 61 w.heap.size n (.slice a' m' c') ((R.take (k+1)).filter pf)):=by
      show GAt W1 w.heap.size 40 61 w.heap.size n (.slice a' m' c') ((R.take (k+1)).filter pf);rw [HSK.out hpx];exact HG1.out
     clear hpx HSK;go_wp2_with fail;rw [HW1.out];refine (zc2 ae me ce Fe x0 true W1 (HIE.out _ HB1.out) hme HA1.out).mono ?_;rintro e w2 ⟨rfl,rfl⟩;go_wp2_with fail;go_roundg (gk-1);case measure=>omega
     case rel=>exact ⟨k+1,by go_num,by omega,a',m',c',HF.out,HB1.out⟩
   | false=>
     cases b2 with
     | true=>
       as_aux_lemma=>
       have HF:Hid (GAt W1 w.heap.size 40 61 w.heap.size n (.slice a' m' c') ((R.take (k+1)).filter pf)):=by
        show GAt W1 w.heap.size 40 61 w.heap.size n (.slice a' m' c') ((R.take (k+1)).filter pf);rw [HSK.out hpx];exact HG1.out
       clear hpx HSK;go_wp2_with fail;rw [HW1.out];refine (zc2 ae me ce Fe x0 false W1 (HIE.out _ HB1.out) hme HA1.out).mono ?_;rintro e w2 ⟨rfl,rfl⟩;go_wp2_with fail;refine (zc2 an mn cn Fn x1 true w2 (HIN.out _ HB1.out) hmn HA2.out).mono ?_;rintro e w3 ⟨rfl,rfl⟩;go_wp2_with fail;go_roundg (gk-1);case measure=>omega
       case rel=>exact ⟨k+1,by go_num,by omega,a',m',c',HF.out,HB1.out⟩
     | false=>
       cases b3 with
       | true=>
         as_aux_lemma=>
         have HF:Hid (GAt W1 w.heap.size 40 61 w.heap.size n (.slice a' m' c') ((R.take (k+1)).filter pf)):=by
          show GAt W1 w.heap.size 40 61 w.heap.size n (.slice a' m' c') ((R.take (k+1)).filter pf);rw [HSK.out hpx];exact HG1.out
         clear hpx HSK;go_wp2_with fail;rw [HW1.out];refine (zc2 ae me ce Fe x0 false W1 (HIE.out _ HB1.out) hme HA1.out).mono ?_;rintro e w2 ⟨rfl,rfl⟩;go_wp2_with fail;refine (zc2 an mn cn Fn x1 false w2 (HIN.out _ HB1.out) hmn HA2.out).mono ?_;rintro e w3 ⟨rfl,rfl⟩;go_wp2_with fail;refine (zc2 an mn cn Fn x2 true w3 (HIN.out _ HB1.out) hmn HA3.out).mono ?_;rintro e w4 ⟨rfl,rfl⟩;go_wp2_with fail;go_roundg (gk-1);case measure=>omega
         case rel=>exact ⟨k+1,by go_num,by omega,a',m',c',HF.out,HB1.out⟩
       | false=>
         as_aux_lemma=>
         have hbd:Below W1.heap.size W1 W1.drew:=⟨rfl,rfl,rfl,Nat.le_refl _,λ _ _=>rfl⟩;obtain ⟨a2,m2,c2,w5,e1,e2,e3,e4,e5⟩:=zzp 33 W1.drew w.heap.size w.heap.size n _ _ x0 x1 x2 (HG1.out.below hbd) (Nat.le_trans HB1.out.size hbd.size) (Nat.le_refl _) (by have:=zlr R k pf;rw [<-HM.out] at this;omega);have HE:=kd e1;have HF:Hid (GAt (w5.setCell ⟨w.heap.size,1,none⟩ (.slice a2 m2 c2)) w.heap.size 40 61 w.heap.size n (.slice a2 m2 c2) ((R.take (k+1)).filter pf)/\Below w.heap.size w (w5.setCell ⟨w.heap.size,1,none⟩ (.slice a2 m2 c2))):=by
          have hb':Below w.heap.size w (w5.setCell ⟨w.heap.size,1,none⟩ (.slice a2 m2 c2)):=(HB1.out.trans (hbd.mono HB1.out.size)).trans e5;refine ⟨?_,hb'⟩;rw [zb3 pf HX.out,hpx];exact e4
         clear e1 e4 e5 hbd hpx HSK;go_wp2_with fail;rw [HW1.out];refine (zc2 ae me ce Fe x0 false W1 (HIE.out _ HB1.out) hme HA1.out).mono ?_;rintro e w2 ⟨rfl,hw2⟩;subst hw2;go_wp2_with fail;refine (zc2 an mn cn Fn x1 false w2 (HIN.out _ HB1.out) hmn HA2.out).mono ?_;rintro e w3 ⟨rfl,hw3⟩;subst hw3;go_wp2_with fail;refine (zc2 an mn cn Fn x2 false w3 (HIN.out _ HB1.out) hmn HA3.out).mono ?_;rintro e w4 ⟨rfl,hw4⟩;subst hw4;go_wp2_with fail
         go_region_law (refine zau rfl (.tmp 52) (.tmp 54) 33 33 rfl (.slice a' m' c') (.slice (some ⟨w4.heap.size,0,none⟩) 1 1) (by first | rfl | (simp [Act.eval];done) | (simp [Act.eval,Act.put];done)) (by first | rfl | (simp [Act.eval];done) | (simp [Act.eval,Act.put];done)) HE.out ?_)
         all_goals
          go_wp2_with fail;go_roundg (gk-1);case measure=>omega
          case rel=>exact ⟨k+1,by go_num,by omega,a2,m2,c2,HF.out⟩
  ·have e:R.take k=R:=List.take_of_length_le (by rw [<-HM.out];omega)
   have HF:Hid (GAt wr w.heap.size 40 61 w.heap.size n (.slice a' m' c') (R.filter pf)):=by
    have:=HGO.out;rw [e] at this;exact this
   clear e HGO;go_wp2_with fail;go_ret;exact ⟨_,_,rfl,HF.out,HBW.out⟩
end Go.Proofs.YtebcjaenhiiflaaGreatDoor.G
