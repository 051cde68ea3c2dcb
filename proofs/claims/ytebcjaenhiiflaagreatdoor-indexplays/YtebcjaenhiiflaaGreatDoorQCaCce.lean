import Derived.Test.YtebcjaenhiiflaaGreatDoorQKVqFDc
import Derived.Test.YtebcjaenhiiflaaGreatDoorQDaDf
set_option maxHeartbeats 8000000
set_option maxRecDepth 100000
namespace Go.Proofs.YtebcjaenhiiflaaGreatDoor.S
open Go.RowKit Go.WideMaps Go.Maps
theorem zx5 {n M:Nat} {R L:List (Int × Int × Int)} (h:Ed n M L) (hi:G.Inv R L):Inn n R:=λ e he=>by
 have hn:=h.nat (hi.perm.subset he);exact ⟨hn.2.2.1,hn.2.2.2.1,hn.1,hn.2.1⟩
theorem yaby {n:Nat} {R:List (Int × Int × Int)} (h:Inn n R) (x:Nat) (Fe:Nat->Int):R.filter (G.stays Fe (λ _=>(x:Int)) 0 1)=wo R x:=by
 unfold wo;apply List.filter_congr;intro e he;obtain ⟨_,_,h1,h2⟩:=h e he;unfold G.stays G.among;rw [h1,h2,Bool.eq_iff_iff];simp;omega
theorem zzt {n:Nat} {R:List (Int × Int × Int)} (h:Inn n R) (x:Nat):Inn n (wo R x):=λ e he=>h e (zdm.1 he).1
theorem z0k (R:List (Int × Int × Int)) (x:Nat):(wo R x).length<=R.length:=List.length_filter_le _ _
theorem zmk {R L:List (Int × Int × Int)} (h:R.Perm L) {u v:Nat}:cnR R u v↔cnR L u v:=
 ⟨λ k=>za4 k λ _ he=>h.subset he,λ k=>za4 k λ _ he=>h.symm.subset he⟩
theorem zum {R L:List (Int × Int × Int)} (h:R.Perm L) (x:Nat):(wo R x).Perm (wo L x):=h.filter _
theorem one_id' (w:World) (x:Int):G.Ints (w.alloc (.cells #[.int .i64 x] 3)) (some ⟨w.heap.size,0,none⟩) 1 (λ _=>x):=
 ⟨λ _=>⟨w.heap.size,0,rfl,λ t ht=>by
   have:t=0:=by omega
   subst this;simp⟩⟩
theorem yacd {n:Nat} {L:List (Int × Int × Int)} (hin:∀e∈L,ea e<n/\eb e<n) {u v:Nat} (h:cnR L u v):u=v\/(u<n/\v<n):=
 zae.least (P:=λ u v=>u=v\/(u<n/\v<n)) h (λ _=>.inl rfl) (by rintro x y (h | h);exact .inl h.symm;exact .inr ⟨h.2,h.1⟩) (by
  rintro x y z (rfl | h) (rfl | k)
  ·exact .inl rfl
  ·exact .inr k
  ·exact .inr h
  ·exact .inr ⟨h.1,k.2⟩) (by
  rintro _ _ ⟨e,he,rfl,rfl⟩;exact .inr (hin e he))
def gd (was l:List Nat) (x a b:Nat):Prop:=a≠x/\b≠x/\was.getD a 0=was.getD b 0/\l.getD a 0≠l.getD b 0
theorem z92 {n M x:Nat} {L:List (Int × Int × Int)} {was l:List Nat} (h:Ed n M L) (hw:∀u v,u<n->v<n->(was.getD u 0=was.getD v 0↔cnR L u v)) (hl:∀u v,u<n->v<n->(l.getD u 0=l.getD v 0↔cnR (wo L x) u v)):
 (∃a,a<n/\∃b,b<a/\gd was l x a b)↔zh7 L x:=by
 unfold zh7;rw [<-z7s h.proper];constructor
 ·rintro ⟨a,ha,b,hb,h1,h2,h3,h4⟩
  exact ⟨a,b,h1,h2,(hw a b ha (by omega)).1 h3,λ c=>h4 ((hl a b ha (by omega)).2 c)⟩
 ·rintro ⟨u,v,h1,h2,h3,h4⟩
  have hlt:u<n/\v<n:=by
   rcases yacd h.inn h3 with rfl | k
   ·exact absurd (zaw _) h4
   ·exact k
  have hg:gd was l x u v:=⟨h1,h2,(hw u v hlt.1 hlt.2).2 h3,λ c=>h4 ((hl u v hlt.1 hlt.2).1 c)⟩;rcases Nat.lt_trichotomy u v with c | c | c
  ·exact ⟨v,hlt.2,u,c,h2,h1,hg.2.2.1.symm,λ k=>hg.2.2.2 k.symm⟩
  ·subst c;exact absurd (zaw _) h4
  ·exact ⟨u,hlt.1,v,c,hg⟩
def Pb (was l:List Nat) (x a b:Nat) (pb:Bool):Prop:=pb=true↔((∃a',a'<a/\∃b',b'<a'/\gd was l x a' b')\/∃b',b'<b/\gd was l x a b')
theorem z2c (was l:List Nat) (x:Nat):Pb was l x 0 0 false:=by
 unfold Pb;refine ⟨λ h=>(by cases h),?_⟩;rintro (⟨a,h,_⟩ | ⟨b,h,_⟩) <;> omega
theorem zxk {was l:List Nat} {x a b:Nat} {pb:Bool} (h:Pb was l x a b pb) (hg:pb=true\/gd was l x a b):Pb was l x a (b+1) true:=by
 unfold Pb at h ⊢;refine ⟨λ _=>?_,λ _=>rfl⟩;rcases hg with hg | hg
 ·rcases h.1 hg with k | ⟨b',hb,k⟩
  ·exact .inl k
  ·exact .inr ⟨b',by omega,k⟩
 ·exact .inr ⟨b,by omega,hg⟩
theorem zo1 {was l:List Nat} {x a b:Nat} (h:Pb was l x a b false) (hg:¬gd was l x a b):Pb was l x a (b+1) false:=by
 unfold Pb at h ⊢;refine ⟨λ c=>(by cases c),?_⟩;rintro (k | ⟨b',hb,k⟩)
 ·exact h.2 (.inl k)
 ·by_cases c:b'=b
  ·subst c;exact absurd k hg
  ·exact h.2 (.inr ⟨b',by omega,k⟩)
theorem z6g {was l:List Nat} {x a:Nat} {pb:Bool} (h:Pb was l x a a pb):Pb was l x (a+1) 0 pb:=by
 unfold Pb at h ⊢;rw [h];constructor
 ·rintro (⟨a',ha,k⟩ | k)
  ·exact .inl ⟨a',by omega,k⟩
  ·exact .inl ⟨a,by omega,k⟩
 ·rintro (⟨a',ha,k⟩ | ⟨b',hb,_⟩)
  ·by_cases c:a'=a
   ·subst c;exact .inr k
   ·exact .inl ⟨a',by omega,k⟩
  ·omega
theorem yaa7 {was l:List Nat} {x n:Nat} {pb:Bool} (h:Pb was l x n 0 pb):pb=true↔∃a,a<n/\∃b,b<a/\gd was l x a b:=by
 unfold Pb at h;rw [h];constructor
 ·rintro (k | ⟨b',hb,_⟩)
  ·exact k
  ·omega
 ·exact λ k=>.inl k
open Go.RowKit Go.WideMaps Go.Maps Go.Proofs.Tryz
theorem zq5 (x n B q:Nat) (u:Value) (R:List (Int × Int × Int)) (W:World) (h:G.GAt W B 40 61 q (n:Int) u R) (hl:R.length<=120) (hin:Inn n R):
 Calls prog 58 #[.pointer (some ⟨q,0,none⟩),.slice none 0 0,.slice (some ⟨W.heap.size,0,none⟩) 1 1] (W.alloc (.cells #[.int .i64 (x:Int)] 3)) λ e w'=>∃q' v',e= .returned (.pointer (some ⟨q',0,none⟩))/\G.GAt w' W.heap.size 40 61 q' (n:Int) v' (wo R x)/\Below W.heap.size W w':=by
 have hb2:Below W.heap.size W (W.alloc (.cells #[.int .i64 (x:Int)] 3)):=(Below.refl _ _).alloc (Nat.le_refl _) _;refine (G.zbw (n:Int) B q u R none (some ⟨W.heap.size,0,none⟩) 0 1 0 1 (λ _=>0) (λ _=>(x:Int)) _ (h.below hb2) hl ⟨λ h=>by omega⟩ (one_id' W x) (by omega) (by omega)).mono ?_;rintro e w' ⟨q',v',rfl,hg',hb'⟩;rw [yaby hin] at hg';exact ⟨q',v',rfl,⟨hg'.hp,hg'.row.mono hb2.size,hg'.ne⟩,hb2.trans (hb'.mono hb2.size)⟩
theorem z1t (n B q M:Nat) (u:Value) (R L:List (Int × Int × Int)) (w:World) (h:G.GAt w B 40 61 q (n:Int) u R) (hi:G.Inv R L) (hed:Ed n M L) (hn:n<=40):
 Calls prog 63 #[.pointer (some ⟨q,0,none⟩)] w λ e w'=>∃v cs,e= .returned v/\zbx L n cs/\w'.ownsRow w.heap.size 3 1 v cs.length (zbl cs)/\Below w.heap.size w w':=by
 have hrl:R.length<=120:=by rw [hi.zpf];exact hi.len
 have HG:=kd h;have HIN:Hid (Inn n R):=zx5 hed hi;have HE:=kd (And.intro hed hi.perm);obtain ⟨i0,hi0,hz0,hz1,hz2⟩:=info_parts Tryz.info3;clear h hi hed;go_enter func63,ntmps63;go_wp2_with fail;refine (zbk n B q u R w HG.out hrl hn HIN.out).mono ?_;rintro e w1 ⟨b0,was,rfl,hr,hb0,hwl,hlab,hbl⟩;have HW:Hid (zak w1 b0 was/\∀u v,u<n->v<n->(was.getD u 0=was.getD v 0↔cnR L u v)):=⟨hr,λ u v hu hv=>by rw [hlab u v hu hv];exact zmk HE.out.2⟩;have HB1:=kd hbl;have hc:=(HG.out.below hbl).c0;have hb0l:=hr.lt;have hw1s:=hbl.size;clear hr hlab hbl;go_wp2_with fail;go_loopw [4,16] (λ s4 s16 wq=>∃(x:Nat) (cs:List Nat),x<=n/\s16= .int .i64 x/\zbx L x cs/\wq.ownsRow w1.heap.size 3 1 s4 cs.length (zbl cs)/\Below w1.heap.size w1 wq) (λ _ s16 _=>n-(intOf s16).toNat)
 case atStart=>exact ⟨0,[],Nat.zero_le _,rfl,zbx.start L,World.ownsRow_nil _ _ _ _,Below.refl _ _⟩
 case round=>
  obtain ⟨x,cs,hx,rfl,hcs,hown,hbq⟩:=hrel;have HCS:=kd hcs;have HBQ:=kd hbq;have hgr:=(HG.out.below HB1.out).below hbq;have HGR:=kd hgr;have hwrs:=hbq.size;have hcl:=hcs.len;clear hcs hbq hc;by_cases hlt:x<n
  ·have hc:=hgr.c0
   clear hgr;go_wp2_with fail;refine (zq5 x n B q u R wr HGR.out hrl HIN.out).mono ?_;rintro e w2 ⟨q',v',rfl,hg2,hb2⟩;have HG2:=kd (And.intro hg2 hb2);clear hg2 hb2 hc;go_wp2_with fail;refine (zbk n wr.heap.size q' v' (wo R x) w2 HG2.out.1 (Nat.le_trans (z0k R x) hrl) hn (zzt HIN.out x)).mono ?_;rintro e w3 ⟨b1,l,rfl,hr3,hb1,hll,hlab3,hbl3⟩;have HB3:Hid (Below wr.heap.size wr w3):=HG2.out.2.trans (hbl3.mono HG2.out.2.size);have hcut:=z92 (x:=x) (was:=was) (l:=l) HE.out.1 HW.out.2 (λ u v hu hv=>by rw [hlab3 u v hu hv];exact zmk (zum HE.out.2 x));have HCUT:=kd hcut;have hc:=(HGR.out.below HB3.out).c0;have HOW:Hid (w3.ownsRow w1.heap.size 3 1 u4 cs.length (zbl cs)):=hown.kept (zai HB3.out) (by cases u4.ownBlock <;> simp);have HBW:Hid (Below w1.heap.size w1 w3):=HBQ.out.trans (HB3.out.mono hwrs);have HL3:=kd hr3;have HW3:Hid (zak w3 b0 was):=(HW.out.1.below HBW.out hb0l);clear hr3 hlab3 hbl3 hcut HG2 hown HBQ HGR;go_wp2_with fail;go_loopw [7,28] (λ s7 s28 wq=>∃(a:Nat) (pb:Bool),a<=n/\s28= .int .i64 a/\s7= .bool pb/\Pb was l x a 0 pb/\Below w3.heap.size w3 wq) (λ _ s28 _=>n-(intOf s28).toNat)
   case atStart=>exact ⟨0,false,Nat.zero_le _,rfl,rfl,z2c was l x,Below.refl _ _⟩
   case round=>
    obtain ⟨a,pb,ha,rfl,rfl,hpb,hba⟩:=hrel;have HPB:=kd hpb;have HBA:=kd hba;clear hpb hba hc;by_cases hlta:a<n
    ·go_wp2_with fail
     go_loopw [7,32] (λ s7 s32 wq=>∃(b:Nat) (pb:Bool),b<=a/\s32= .int .i64 b/\s7= .bool pb/\Pb was l x a b pb/\Below w3.heap.size w3 wq) (λ _ s32 _=>a-(intOf s32).toNat)
     case atStart=>exact ⟨0,pb,Nat.zero_le _,rfl,rfl,HPB.out,HBA.out⟩
     case round=>
      clear HPB HBA;obtain ⟨b,pb,hb,rfl,rfl,hpb,hbb⟩:=hrel;have HPB:=kd hpb;have HBB:=kd hbb;by_cases hltb:b<a
      ·have cwa:=(HW3.out.below hbb HW3.out.lt).cell a (by omega)
       have cwb:=(HW3.out.below hbb HW3.out.lt).cell b (by omega);have cla:=(HL3.out.below hbb HL3.out.lt).cell a (by omega);have clb:=(HL3.out.below hbb HL3.out.lt).cell b (by omega);obtain ⟨A,hA⟩:∃A,was.getD a 0=A:=⟨_,rfl⟩;obtain ⟨A',hA'⟩:∃A,was.getD b 0=A:=⟨_,rfl⟩;obtain ⟨E,hE⟩:∃A,l.getD a 0=A:=⟨_,rfl⟩;obtain ⟨E',hE'⟩:∃A,l.getD b 0=A:=⟨_,rfl⟩;rw [hA] at cwa;rw [hA'] at cwb;rw [hE] at cla;rw [hE'] at clb;have HGD:Hid (gd was l x a b↔(a≠x/\b≠x/\A=A'/\E≠E')):=by
        show gd was l x a b↔_;unfold gd;rw [hA,hA',hE,hE']
       clear hpb hbb hA hA' hE hE';go_upto_region 14 with fail
       cases pb with
       | true=>
         as_aux_lemma=>
         go_quiet (fail);go_wp2_with fail;go_roundw;case rel=>exact ⟨b+1,true,by omega,by go_num,rfl,zxk HPB.out (.inl rfl),below_drewN HBB.out _⟩
         case measure=>simp [intOf];omega
       | false=>
         by_cases h1:a=x
         ·as_aux_lemma=>
          subst h1;have HN:Hid (Pb was l a a (b+1) false):=zo1 HPB.out (λ c=>(HGD.out.1 c).1 rfl);go_quiet (fail);go_wp2_with fail;go_roundw;case rel=>exact ⟨b+1,false,by omega,by go_num,rfl,HN.out,below_drewN HBB.out _⟩
          case measure=>simp [intOf];omega
         ·have q1:((a:Int) != (x:Int))=true:=bne_iff_ne.2 (by omega)
          by_cases h2:b=x
          ·as_aux_lemma=>
           subst h2;have HN:Hid (Pb was l b a (b+1) false):=zo1 HPB.out (λ c=>(HGD.out.1 c).2.1 rfl);go_quiet (fail);go_wp2_with fail;go_roundw;case rel=>exact ⟨b+1,false,by omega,by go_num,rfl,HN.out,below_drewN HBB.out _⟩
           case measure=>simp [intOf];omega
          ·have q2:((b:Int) != (x:Int))=true:=bne_iff_ne.2 (by omega)
           by_cases h3:A=A'
           ·subst h3
            by_cases h4:E=E'
            ·as_aux_lemma=>
             subst h4;have HN:Hid (Pb was l x a (b+1) false):=zo1 HPB.out (λ c=>(HGD.out.1 c).2.2.2 rfl);go_quiet (fail);go_wp2_with fail;go_roundw;case rel=>exact ⟨b+1,false,by omega,by go_num,rfl,HN.out,below_drewN HBB.out _⟩
             case measure=>simp [intOf];omega
            ·as_aux_lemma=>
             have q4:((E:Int) != (E':Int))=true:=bne_iff_ne.2 (by omega);have HN:Hid (Pb was l x a (b+1) true):=zxk HPB.out (.inr (HGD.out.2 ⟨h1,h2,rfl,h4⟩));clear h1 h2 h4;go_quiet (fail);go_wp2_with fail;go_roundw;case rel=>exact ⟨b+1,true,by omega,by go_num,rfl,HN.out,below_drewN HBB.out _⟩
             case measure=>simp [intOf];omega
           ·as_aux_lemma=>
            have q3:((A:Int)==(A':Int))=false:=beq_eq_false_iff_ne.2 (by omega);have HN:Hid (Pb was l x a (b+1) false):=zo1 HPB.out (λ c=>h3 (HGD.out.1 c).2.2.1);clear h1 h2 h3;go_quiet (fail);go_wp2_with fail;go_roundw;case rel=>exact ⟨b+1,false,by omega,by go_num,rfl,HN.out,below_drewN HBB.out _⟩
            case measure=>simp [intOf];omega
      ·have hbe:b=a:=by omega
       subst hbe;have HPN:Hid (Pb was l x (b+1) 0 pb):=z6g HPB.out;clear hpb hbb;go_wp2_with fail;go_roundw;case rel=>exact ⟨b+1,pb,by omega,by go_num,rfl,HPN.out,HBB.out⟩
       case measure=>simp [intOf];omega
    ·have hae:a=n:=by omega
     subst hae;have HPE:Hid (pb=true↔zh7 L x):=(yaa7 HPB.out).trans HCUT.out;have HOW2:Hid (wr.ownsRow w1.heap.size 3 1 u4 cs.length (zbl cs)):=HOW.out.kept (zai HBA.out) (by cases u4.ownBlock <;> simp);have HBW2:Hid (Below w1.heap.size w1 wr):=HBW.out.trans (HBA.out.mono HBW.out.size);have hwrs2:=HBW2.out.size;clear HPB HBA HOW HBW;cases pb with
     | true=>
       as_aux_lemma=>
       have HC:Hid (zbx L (x+1) (cs++[x])):=HCS.out.yes (HPE.out.1 rfl);have how:=HOW2.out;go_wp2_with (first
        | (at_builtin;refine wpList_append_own_at _ rfl _ _ 48 rfl w1.heap.size 3 i0 (.int .i64 0) 1 8 underlying48 hi0 hz0 hz1 hz2 rfl (by decide) u4 _ _ rfl (how.alloc _) ⟨wr.heap.size,0,none⟩ 1 1 [.int .i64 (x:Int)] rfl rfl (cell_one_new _ _ _) (ints_oneCell .i64 [(x:Int)]) (by unfold maxLen;omega) (by omega) (by simp;omega) ?_;intro v5 w5 hown5 hgrow5 hnil5 hloc5)
        | fail)
       have hall:=(World.grownBy_alloc wr _ _).trans hgrow5;go_roundw;case rel=>exact ⟨x+1,cs++[x],by omega,by go_num,HC.out,by simpa [zbl] using hown5,HBW2.out.grown hall HBW2.out.size (λ j hj=>(how.lt j hj).1)⟩
       case measure=>simp [intOf];omega
     | false=>
       as_aux_lemma=>
       have HC:Hid (zbx L (x+1) cs):=HCS.out.no (λ c=>by have:=HPE.out.2 c;cases this);go_wp2_with fail;go_roundw;case rel=>exact ⟨x+1,cs,by omega,by go_num,HC.out,HOW2.out,HBW2.out⟩
       case measure=>simp [intOf];omega
  ·have hxe:x=n:=by omega
   subst hxe;have HF:Hid (wr.ownsRow w.heap.size 3 1 u4 cs.length (zbl cs)/\Below w.heap.size w wr):=⟨ownsRow_base_a hown hw1s,HB1.out.trans (HBQ.out.mono hw1s)⟩;clear hown hgr;go_wp2_with fail;go_ret;exact ⟨_,cs,rfl,HCS.out,HF.out.1,HF.out.2⟩
open Go.Proofs.Tryz
structure zeq (w:World) (base n:Nat) (v:Value) (P:List (Nat × List Nat)):Prop where
 own:w.ownsRow base 48 1 v P.length (P.map λ p=>.slice (some ⟨p.1,0,none⟩) n n)
 rows:∀p∈P,zak w p.1 p.2/\p.2.length=n
theorem zeq.below {w w':World} {base n:Nat} {v:Value} {P:List (Nat × List Nat)} (h:zeq w base n v P) (hb:Below w.heap.size w w'):zeq w' base n v P:=
 ⟨h.own.kept (zai hb) (by cases v.ownBlock <;> simp),λ p hp=>⟨(h.rows p hp).1.below hb (h.rows p hp).1.lt,(h.rows p hp).2⟩⟩
theorem zeq.shape {w:World} {base n:Nat} {v:Value} {P:List (Nat × List Nat)} (h:zeq w base n v P):∃a cap,v= .slice a P.length cap/\∀i p,P[i]? =some p->∃g,a=some ⟨g,0,none⟩/\base<=g/\g<w.heap.size/\w.cell? ⟨g,i,none⟩=some (.slice (some ⟨p.1,0,none⟩) n n):=by
 have h0:=h.own;rcases h.own.2 with ⟨rfl,hz⟩ | ⟨g,cap,cur,rfl,hb,hg,_⟩
 ·refine ⟨none,0,by rw [hz],λ i p hi=>?_⟩
  have:=(List.getElem?_eq_some_iff.1 hi).1;omega
 ·refine ⟨_,cap,rfl,λ i p hi=>⟨g,rfl,hb,lt_of_some hg,?_⟩⟩
  rw [h0.cellAt i (by have:=(List.getElem?_eq_some_iff.1 hi).1;omega)];simp [hi]
theorem z8x {w:World} {base:Nat} {v:Value} {k:Nat} {xs:List Value} (h:w.ownsRow base 48 1 v k xs) {g:Nat} (hg:v.ownBlock=some g):∃cur,w.heap[g]? =some (.cells cur 48):=by
 rcases h.2 with ⟨rfl,_⟩ | ⟨g',cap,cur,rfl,_,hc,_⟩
 ·simp [Value.ownBlock] at hg
 ·simp [Value.ownBlock] at hg
  subst hg;exact ⟨_,hc⟩
theorem zeq.push {w w4:World} {base n b:Nat} {v v':Value} {P:List (Nat × List Nat)} {l:List Nat} {o:Obj} (h:zeq w base n v P) (hr:zak w b l) (hl:l.length=n) (hown:w4.ownsRow base 48 1 v' (P.length+1) ((P.map λ p=>.slice (some ⟨p.1,0,none⟩) n n)++[.slice (some ⟨b,0,none⟩) n n]))
 (hg:(w.alloc o).grownBy w4 v.ownBlock):zeq w4 base n v' (P++[(b,l)]):=by
 refine ⟨by simpa using hown,λ p hp=>?_⟩;have h1:zak w p.1 p.2/\p.2.length=n:=by
  rcases List.mem_append.1 hp with hp | hp
  ·exact h.rows p hp
  ·rw [List.mem_singleton.1 hp];exact ⟨hr,hl⟩
 refine ⟨?_,h1.2⟩;have h2:(w.alloc o).heap[p.1]? =w.heap[p.1]? :=Below.heap_alloc w o p.1 h1.1.lt;show w4.heap[p.1]? =_;rw [hg.block p.1 (by have:=h1.1.lt;simp;omega) (λ e=>?_),h2]
 ·exact h1.1
 ·obtain ⟨cur,hc⟩:=z8x h.own e.symm
  have:=h1.1;unfold zak at this;rw [this] at hc;simp at hc
def AlS (n:Nat) (L:List (Int × Int × Int)) (P:List (Nat × List Nat)):Prop:=∀x p,P[x]? =some p->∀u v,u<n->v<n->(p.2.getD u 0=p.2.getD v 0↔cnR (wo L x) u v)
theorem z1z {n:Nat} {L:List (Int × Int × Int)} {P:List (Nat × List Nat)} {b:Nat} {l:List Nat} (h:AlS n L P) (hl:∀u v,u<n->v<n->(l.getD u 0=l.getD v 0↔cnR (wo L P.length) u v)):AlS n L (P++[(b,l)]):=by
 intro x p hp;rcases Nat.lt_or_ge x P.length with c | c
 ·rw [List.getElem?_append_left c] at hp;exact h x p hp
 ·rw [List.getElem?_append_right c] at hp
  have h0:x-P.length=0:=by
   have:=(List.getElem?_eq_some_iff.1 hp).1;simp at this;omega
  rw [h0] at hp;have hx:x=P.length:=by omega
  subst hx;simp at hp;subst hp;exact hl
theorem zvf (x0:Int) (A E x:Nat) (w:World) (hx:x=A\/x=E) (hA:A<=1000) (hE:E<=1000):
 Calls prog 121 #[.agg #[.int .i64 x0,.int .i64 (A:Int),.int .i64 (E:Int)],.int .i64 (x:Int)] w λ e w'=>e= .returned (.int .i64 ((A+E-x:Nat):Int))/\Below w.heap.size w w':=by
 have hr:(A:Int)+(E:Int)-(x:Int)=((A+E-x:Nat):Int):=by omega
 have HR:=kd hr;clear hr;have h1:(x:Int)<=1000:=by omega
 go_enter func121,ntmps121;go_wp2;go_ret;exact ⟨by rw [<-HR.out];rfl,(Below.refl _ _).alloc (Nat.le_refl _) _⟩
theorem zqk {e:Int × Int × Int} {x:Nat} (h:tch e x):ea e+eb e-x=ot e x:=by
 unfold tch at h;unfold ot;split <;> omega
def Prog (s:Value) (l l':List Nat) (D:Prop):Prop:=(s= .bool false/\l'=l/\D)\/(s= .bool true/\l'.sum<l.sum)
theorem Prog.imp {s:Value} {l l':List Nat} {D D':Prop} (h:Prog s l l' D) (k:l'=l->D->D'):Prog s l l' D':=by
 rcases h with ⟨h1,h2,h3⟩ | h
 ·exact .inl ⟨h1,h2,k h2 h3⟩
 ·exact .inr h
theorem Prog.le {s:Value} {l l':List Nat} {D:Prop} (h:Prog s l l' D):l'.sum<=l.sum:=by
 rcases h with ⟨_,rfl,_⟩ | ⟨_,h⟩
 ·exact Nat.le_refl _
 ·exact Nat.le_of_lt h
def DnI (L:List (Int × Int × Int)) (l:List Nat) (i:Nat):Prop:=∀i',i'<i->∀x k,Rx L x i' k->¬l.getD i' 0<l.getD k 0
def DnK (L:List (Int × Int × Int)) (l:List Nat) (i k:Nat):Prop:=DnI L l i/\∀k',k'<k->∀x,Rx L x i k'->¬l.getD i 0<l.getD k' 0
def DnT (L:List (Int × Int × Int)) (l:List Nat) (i k t:Nat) (e:Int × Int × Int):Prop:=DnK L l i k/\(0<t->Rx L (ea e) i k->¬l.getD i 0<l.getD k 0)/\(1<t->Rx L (eb e) i k->¬l.getD i 0<l.getD k 0)
theorem z7j {L:List (Int × Int × Int)} {l:List Nat} {i k:Nat} {e:Int × Int × Int} (he:L[i]? =some e) (h:DnT L l i k 2 e):DnK L l i (k+1):=by
 refine ⟨h.1.1,λ k' hk x hr=>?_⟩;by_cases c:k'=k
 ·rw [c] at hr ⊢
  obtain ⟨e',f,h1,h2,h3,h4,h5⟩:=id hr;rw [he] at h1;cases h1;rcases h3 with h3 | h3
  ·exact h.2.1 (by omega) (by rw [h3];exact hr)
  ·exact h.2.2 (by omega) (by rw [h3];exact hr)
 ·exact h.1.2 k' (by omega) x hr
theorem z5s {L:List (Int × Int × Int)} {l:List Nat} {i m:Nat} (hm:L.length=m) (h:DnK L l i m):DnI L l (i+1):=by
 intro i' hi x k hr;by_cases c:i'=i
 ·subst c;exact h.2 k (by have:=hr.lt.2;omega) x hr
 ·exact h.1 i' (by omega) x k hr
theorem z5y {L:List (Int × Int × Int)} {l:List Nat} {m:Nat} (hm:L.length=m) (h:DnI L l m):∀x i k,Rx L x i k->¬l.getD i 0<l.getD k 0:=λ x i k hr=>h i (by have:=hr.lt.1;omega) x k hr
end Go.Proofs.YtebcjaenhiiflaaGreatDoor.S
namespace Go.Proofs.YtebcjaenhiiflaaGreatDoor.S
open Go.Proofs.Tryz
open Go.RowKit Go.WideMaps Go.Maps
theorem za2.kept {w w':World} {base:Nat} {t:Value} {Gs:List (List Nat)} {r c:Nat->Nat} {row:Option Nat} (h:za2 w base t Gs r c) (hg:w.grownBy w' row) (hr:∀m,row=some m->m<base):za2 w' base t Gs r c:=by
 have hne:∀{v:Value} {e k:Nat} {xs:List Value},w.ownsRow base e 1 v k xs->v.ownBlock=none\/v.ownBlock≠row:=by
  intro v e k xs ho;cases hv:v.ownBlock with
  | none=>exact .inl rfl
  | some b=>
    refine .inr (λ c=>?_);have h1:=(ho.lt b hv).1;have h2:=hr b c.symm;omega
 exact ⟨h.own.kept hg (hne h.own),λ i hi=>⟨(h.each i hi).1.kept hg (hne (h.each i hi).1),(h.each i hi).2⟩,h.apart⟩
theorem za2.lt {w:World} {base:Nat} {t:Value} {Gs:List (List Nat)} {r c:Nat->Nat} (h:za2 w base t Gs r c) (i:Nat) (hi:i<Gs.length):base<=r i/\r i<w.heap.size:=(h.each i hi).1.lt (r i) rfl
theorem za2.begin {w w1 w2:World} {base g cap ρ κ x:Nat} {t:Value} {Gs:List (List Nat)} {r c:Nat->Nat} (h:za2 w base t Gs r c) (o1 o2:Obj) (hg1:(w.alloc o1).grownBy w1 t.ownBlock)
 (hown1:w1.ownsRow base 48 1 (.slice (some ⟨g,0,none⟩) (Gs.length+1) cap) (Gs.length+1) (za8 Gs r c++[.slice none 0 0])) (hg2:(w1.alloc o2).grownBy w2 none)
 (hown2:w2.ownsInts base 3 .i64 (.slice (some ⟨ρ,0,none⟩) 1 κ) [(x:Int)]) (hρ:w1.heap.size<=ρ):
 za2 (w2.setCell ⟨g,Gs.length,none⟩ (.slice (some ⟨ρ,0,none⟩) 1 κ)) base (.slice (some ⟨g,0,none⟩) (Gs.length+1) cap) (Gs++[[x]]) (λ i=>if i=Gs.length then ρ else r i) (λ i=>if i=Gs.length then κ else c i):=by
 have hglt:=hown1.lt g rfl;have ht2:w2.ownsRow base 48 1 (.slice (some ⟨g,0,none⟩) (Gs.length+1) cap) (Gs.length+1) (za8 Gs r c++[.slice none 0 0]):=(hown1.alloc o2).kept hg2 (.inr (by simp [Value.ownBlock]));have ht3:=ht2.stored Gs.length (.slice (some ⟨ρ,0,none⟩) 1 κ);have hrl:(za8 Gs r c).length=Gs.length:=by simp [za8]
 have hset:(za8 Gs r c++[Value.slice none 0 0]).set Gs.length (.slice (some ⟨ρ,0,none⟩) 1 κ)=za8 (Gs++[[x]]) (λ i=>if i=Gs.length then ρ else r i) (λ i=>if i=Gs.length then κ else c i):=by
  have e1:(za8 Gs r c++[Value.slice none 0 0]).set Gs.length (.slice (some ⟨ρ,0,none⟩) 1 κ)=za8 Gs r c++[.slice (some ⟨ρ,0,none⟩) 1 κ]:=by
   rw [List.set_append_right _ _ (by omega),hrl];simp
  rw [e1];unfold za8;rw [List.length_append];show _=List.map _ (List.range (Gs.length+1));rw [List.range_succ,List.map_append]
  congr 1
  ·apply List.map_congr_left
   intro i hi;have hi':=List.mem_range.1 hi;have hne:i≠Gs.length:=by omega
   simp only [if_neg hne];rw [zem hi']
  ·simp
 have hgr:w2.grownBy (w2.setCell ⟨g,Gs.length,none⟩ (.slice (some ⟨ρ,0,none⟩) 1 κ)) (some g):=⟨rfl,rfl,rfl,by simp,λ i _ hi=>Below.heap_setCell _ _ _ _ (λ e=>hi (by rw [e]))⟩;have hgne:∀{b:Nat} {cur:Array Value},w2.heap[b]? =some (.cells cur 3)->b≠g:=by
  intro b cur hb c;subst c;rcases ht2.2 with ⟨h0,_⟩ | ⟨g',cap',cur',h0,_,hc,_⟩
  ·cases h0
  ·injection h0 with h1 _ _
   injection h1 with h1
   injection h1 with h1 _ _
   subst h1;rw [hb] at hc;injection hc with hc
   injection hc with _ hc
   exact absurd hc (by decide)
 have each3:∀{v:Value} {zs:List Int},w2.ownsInts base 3 .i64 v zs->(w2.setCell ⟨g,Gs.length,none⟩ (.slice (some ⟨ρ,0,none⟩) 1 κ)).ownsInts base 3 .i64 v zs:=by
  intro v zs ho;refine ⟨ho.1.kept hgr ?_,ho.2⟩;rcases ho.1.2 with ⟨h0,_⟩ | ⟨b,cap',cur',h0,_,hc,_⟩
  ·rw [h0];exact .inl rfl
  ·rw [h0];exact .inr (λ c=>hgne hc (by simpa [Value.ownBlock] using c))
 have old:∀i,i<Gs.length->w2.ownsInts base 3 .i64 (.slice (some ⟨r i,0,none⟩) (Gs.getD i []).length (c i)) (ints (Gs.getD i [])):=by
  intro i hi;have h1:=h.each i hi;refine ⟨((((h1.1.alloc o1).kept hg1 (.inr (λ e=>h.ne i hi e.symm)))).alloc o2).kept hg2 (.inr (by simp [Value.ownBlock])),h1.2⟩
 have hw01:w.heap.size<=w1.heap.size:=Nat.le_trans (by simp) hg1.size;refine ⟨?_,?_,?_⟩
 ·rw [List.length_append,<-hset]
  exact ht3.1
 ·intro i hi
  rw [List.length_append] at hi;have hi:i<Gs.length+1:=hi;by_cases e:i=Gs.length
  ·subst e
   simp only [if_pos];rw [zje];exact each3 hown2
  ·simp only [if_neg e]
   have hi':i<Gs.length:=by omega
   rw [zem hi'];exact each3 (old i hi')
 ·intro i j hi hj hne
  rw [List.length_append] at hi hj;have hi:i<Gs.length+1:=hi;have hj:j<Gs.length+1:=hj;by_cases e1:i=Gs.length
  ·by_cases e2:j=Gs.length
   ·omega
   ·simp only [if_pos e1,if_neg e2]
    have:=(h.lt j (by omega)).2;omega
  ·by_cases e2:j=Gs.length
   ·simp only [if_neg e1,if_pos e2]
    have:=(h.lt i (by omega)).2;omega
   ·simp only [if_neg e1,if_neg e2]
    exact h.apart i j (by omega) (by omega) hne
def pgI (L:List (Int × Int × Int)) (l:List Nat) (t:Nat):List (List Nat):=(pgr l t).map (List.map (idN L))
theorem zlx (L:List (Int × Int × Int)) (l:List Nat) (t:Nat):(pgI L l t).length=(lst l t).length:=by simp [pgI,pgr]
theorem zz3 (L:List (Int × Int × Int)) (l:List Nat) {t i:Nat} (h:i<(lst l t).length):(pgI L l t).getD i []=(grp l t ((lst l t).getD i 0)).map (idN L):=by
 have:=zyh l t i h;unfold pgI;rw [List.getD_eq_getElem?_getD,List.getElem?_map];rw [List.getD_eq_getElem?_getD] at this;have h2:i<(pgr l t).length:=by rw [zfu];exact h
 rw [List.getElem?_eq_getElem h2] at this ⊢;simp at this ⊢;rw [this]
theorem zyw (L:List (Int × Int × Int)) {l:List Nat} {t i:Nat} (hi:i<(lst l t).length) (h:(lst l t).getD i 0=l.getD t 0):pgI L l (t+1)=(pgI L l t).set i ((pgI L l t).getD i []++[idN L t]):=by
 rw [zz3 L l hi];unfold pgI;rw [zn5 hi h,List.map_set,List.map_append];rfl
theorem z4l (L:List (Int × Int × Int)) {n:Nat} {l:List Nat} {t:Nat} (g:Good n l) (ht:t<n) (h:∀i,i<(lst l t).length->(lst l t).getD i 0≠l.getD t 0):pgI L l (t+1)=pgI L l t++[[idN L t]]:=by
 unfold pgI;rw [zri g ht h,List.map_append];rfl
theorem z8j (L:List (Int × Int × Int)) (l:List Nat):pgI L l L.length=zdb L l:=by
 unfold pgI zdb pgr;rw [List.map_map];rfl
structure Am (D:DataW Unit) (ks:List Nat):Prop where
 key:∀y:Nat,Maps.has D (.int .i64 (y:Int))=true↔y∈ks
 val:∀(i y:Nat),ks[i]? =some y->∀zd,D.atKey (.int .i64 (y:Int)) zd= .lit (.int .i64 (i:Int))
theorem Am.start:Am (.map []) []:=⟨λ y=>by simp [Maps.has],λ i y h=>by simp at h⟩
theorem Am.put {D:DataW Unit} {ks:List Nat} (h:Am D ks) (hD:IsMap D) {y:Nat} (hy:y∉ks):Am (D.put (.int .i64 (y:Int)) (.lit (.int .i64 (ks.length:Int)))) (ks++[y]):=by
 refine ⟨λ z=>?_,λ i z hz zd=>?_⟩
 ·by_cases c:z=y
  ·subst c
   rw [has_put_same hD (zbe _)];simp
  ·rw [has_put_other (by simp;omega),h.key];simp [c]
 ·rcases Nat.lt_or_ge i ks.length with c | c
  ·rw [List.getElem?_append_left c] at hz
   have hne:z≠y:=λ e=>hy (e▸List.mem_of_getElem? hz)
   rw [atKey_put_other (by simp;omega)];exact h.val i z hz zd
  ·rw [List.getElem?_append_right c] at hz
   have h0:i-ks.length=0:=by
    have:=(List.getElem?_eq_some_iff.1 hz).1;simp at this;omega
   rw [h0] at hz;have hzy:z=y:=by simpa using hz.symm
   have hik:i=ks.length:=by omega
   rw [hzy,hik,atKey_put_same hD (zbe _)]
end Go.Proofs.YtebcjaenhiiflaaGreatDoor.S
