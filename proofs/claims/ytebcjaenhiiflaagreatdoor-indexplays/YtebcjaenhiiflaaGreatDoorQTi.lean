import Derived.Test.YtebcjaenhiiflaaGreatDoorQDaDf
import Derived.Test.YtebcjaenhiiflaaGreatDoorQKVqFDc
set_option maxHeartbeats 8000000
set_option maxRecDepth 100000
namespace Go.Proofs.YtebcjaenhiiflaaGreatDoor.S
open Go.RowKit Go.WideMaps Go.Maps Go.Proofs.Tryz
def dq (n:Nat) (R:List Edg) (e d:Edg):Bool:=decide (nP n (rest R e)=nP n R)&&decide (nP n (rest R d)=nP n R)&&decide (nP n R<nP n (za7 R e d))
theorem zvs {w:World} {B:Nat} {v:Value} {M:List (Int × Int)} (h:zan w B v M) {g:Nat} (hg:v.ownBlock=some g):∃cur,w.heap[g]? =some (.cells cur 180):=by
 have h':w.ownsRow B 180 2 v M.length (rowP M):=h;rcases h'.2 with ⟨rfl,_⟩ | ⟨g',cap,cur,rfl,_,hc,_⟩
 ·simp [Value.ownBlock] at hg
 ·simp [Value.ownBlock] at hg
  subst hg;exact ⟨_,hc⟩
structure PbT (w3 w:World) (cb:Nat) (e:Edg) (u:Value) (M:List (Int × Int)):Prop where
 own:zan w w3.heap.size u M
 below:Below w3.heap.size w3 w
 box:Box w cb e
theorem PbT.below' {w3 w w':World} {cb:Nat} {e:Edg} {u:Value} {M:List (Int × Int)} (h:PbT w3 w cb e u M) (hb:Below w.heap.size w w'):PbT w3 w' cb e u M:=
 ⟨h.own.below hb,h.below.trans (hb.mono h.below.size),h.box.below hb⟩
theorem PbT.more {w3 w w':World} {cb:Nat} {e:Edg} {u v':Value} {M M':List (Int × Int)} (h:PbT w3 w cb e u M) (ho:zan w' w3.heap.size v' M') (hg:w.grownBy w' u.ownBlock):PbT w3 w' cb e v' M':=by
 refine ⟨ho,h.below.grown hg h.below.size (λ k hk=>(World.ownsRow.lt h.own k hk).1),?_⟩;have hb:=h.box;unfold Box at hb ⊢;rw [hg.block cb (lt_of_some hb) (λ e2=>?_)]
 ·exact hb
 ·obtain ⟨cur,hc⟩:=zvs h.own e2.symm
  rw [hb] at hc;simp at hc
theorem zz0 (n B q:Nat) (u:Value) (R L:List Edg) (w:World) (h:G.GAt w B 40 61 q (n:Int) u R) (hi:G.Inv R L) (hl:L.length<=120) (hn:n<=40) (hin:Inn n L):
 Calls prog 65 #[.pointer (some ⟨q,0,none⟩)] w λ e w'=>∃v,e= .returned v/\zan w' w.heap.size v (zam L (dq n R))/\Below w.heap.size w w':=by
 have hRL:R.length=L.length:=hi.perm.length_eq;have hinR:Inn n R:=λ e he=>hin e (hi.perm.mem_iff.1 he)
 have hb0:Below w.heap.size w (w.alloc (.cells #[.pointer (some ⟨q,0,none⟩)] 22)):=(Below.refl _ _).alloc (Nat.le_refl _) _;have hc0:(w.alloc (.cells #[.pointer (some ⟨q,0,none⟩)] 22)).cell? ⟨w.heap.size,0,none⟩=some (.pointer (some ⟨q,0,none⟩)):=by simp
 have HG:Hid (G.GAt (w.alloc (.cells #[.pointer (some ⟨q,0,none⟩)] 22)) B 40 61 q (n:Int) u R/\Below w.heap.size w (w.alloc (.cells #[.pointer (some ⟨q,0,none⟩)] 22))/\(w.alloc (.cells #[.pointer (some ⟨q,0,none⟩)] 22)).cell? ⟨w.heap.size,0,none⟩=some (.pointer (some ⟨q,0,none⟩))):=⟨h.below hb0,hb0,hc0⟩;have HI:Hid (G.Inv R L/\Inn n R/\R.length<=120/\L.length<=120):=⟨hi,hinR,by omega,hl⟩;clear h hi hin hinR hb0 hRL hc0 hl;go_enter func65,ntmps65;go_wp2_with fail;refine (zfc n B q u R _ HG.out.1 (by have:=HI.out.2.2.1;omega) hn HI.out.2.1).mono ?_;rintro e w1 ⟨b,l,rfl,hr,hbb,hgd,hlab,hb1⟩;have HR1:Hid (zak w1 b l/\l.length=n/\zdh n l=nP n R):=⟨hr,hgd.len,by rw [znc hgd HI.out.2.1 hlab];rfl⟩;have HB1:Hid (Below w.heap.size w w1/\w1.cell? ⟨w.heap.size,0,none⟩=some (.pointer (some ⟨q,0,none⟩))/\G.GAt w1 B 40 61 q (n:Int) u R):=⟨HG.out.2.1.trans (hb1.mono HG.out.2.1.size),cell_below HG.out.2.2 hb1,HG.out.1.below hb1⟩;clear hr hbb hgd hlab hb1 HG;go_wp2_with fail;refine (zjd b n l w1 HR1.out.1 HR1.out.2.1 hn).mono ?_;rintro e wa ⟨rfl,hwa⟩;subst hwa;rw [HR1.out.2.2];obtain ⟨N,hN⟩:∃N,nP n R=N:=⟨_,rfl⟩;have HN:=kd hN;rw [hN];clear hN;have hlw:w.heap.size<wa.heap.size:=lt_of_cell HB1.out.2.1;have hba:Below wa.heap.size wa (wa.alloc (.cells #[.int .i64 (N:Int)] 3)):=(Below.refl _ _).alloc (Nat.le_refl _) _;have hca:(wa.alloc (.cells #[.int .i64 (N:Int)] 3)).cell? ⟨w.heap.size,0,none⟩=some (.pointer (some ⟨q,0,none⟩)):=cell_below HB1.out.2.1 hba;have HX0:Hid (Bx (wa.alloc (.cells #[.int .i64 (N:Int)] 3)) B q n N u R w.heap.size wa.heap.size/\Below w.heap.size w (wa.alloc (.cells #[.int .i64 (N:Int)] 3))):=⟨⟨HB1.out.2.2.below hba,hca,by simp⟩,HB1.out.1.trans (hba.mono HB1.out.1.size)⟩;clear hba HB1 HR1;go_wp2_with fail;refine (G.zer B q (n:Int) u R L _ HX0.out.1.ga HI.out.1).mono ?_;rintro e w3 ⟨v,rfl,ho,hb3⟩;have HX:Hid (Bx w3 B q n N u R w.heap.size wa.heap.size/\Below w.heap.size w w3):=⟨HX0.out.1.below hb3,HX0.out.2.trans (hb3.mono HX0.out.2.size)⟩;obtain ⟨va,vc,hv⟩:=ho.zal;obtain ⟨m,hm⟩:∃m,L.length=m:=⟨_,rfl⟩;have HM:=kd hm;have hm60:m<=120:=by rw [<-hm];exact HI.out.2.2.2
 have hcap:m<=vc/\vc<=9223372036854775807:=by
  rcases ho.shape with ⟨h1,h2⟩ | ⟨g,cap,h1,_,_,h4,h5⟩
  ·rw [hv] at h1
   injection h1 with _ h6 h7
   rw [h2] at hm;simp at hm;omega
  ·rw [hv] at h1
   injection h1 with _ _ h7
   unfold maxLen at h5;omega
 obtain ⟨T,hT⟩:∃T,zam L (dq n R)=T:=⟨_,rfl⟩;have HT:=kd hT;have hTl:T.length<=14400:=by
  rw [<-hT];have h1:=zfb (dq n R) L;have h2:L.length<=120:=HI.out.2.2.2;have h3:=Nat.mul_le_mul h2 h2;omega
 rw [hm] at hv;have HO:Hid (∃B0,G.zad w3 B0 61 (.slice va m vc) L):=⟨_,hv▸ho⟩;have HP0:Hid (∃M,zan w3 w3.heap.size (.slice none 0 0) M/\Below w3.heap.size w3 w3/\M++zam (L.drop 0) (dq n R)=T):=⟨[],World.ownsRow_nil _ _ _ _,Below.refl _ _,by simpa using hT⟩;subst hv;clear ho hb3 hm hT HX0 hca hlw;go_wp2_with fail;go_loopw [5,19] (λ s5 s19 wq=>∃i:Nat,i<=m/\s19= .int .i64 i/\∃M,zan wq w3.heap.size s5 M/\Below w3.heap.size w3 wq/\M++zam (L.drop i) (dq n R)=T) (λ _ s19 _=>m-(intOf s19).toNat)
 case atStart=>exact ⟨0,Nat.zero_le _,rfl,HP0.out⟩
 case round=>
  clear HP0;obtain ⟨i,hi,rfl,M,hpo,hpb,hMT⟩:=hrel;have HP:Hid (zan wr w3.heap.size u5 M/\Below w3.heap.size w3 wr/\M++zam (L.drop i) (dq n R)=T):=⟨hpo,hpb,hMT⟩;clear hpo hpb hMT;by_cases hlt:i<m
  ·rename World=>wo
   obtain ⟨e,he⟩:∃e,L[i]? =some e:=⟨_,List.getElem?_eq_getElem (by rw [HM.out];exact hlt)⟩;obtain ⟨B0,hO0⟩:=HO.out;obtain ⟨g,rfl⟩:=zdo hO0 (by rw [HM.out];exact hlt);have hOw:=hO0.below HP.out.2.1;obtain ⟨r0,r1,r2⟩:=hOw.at (g:=g) rfl he;have HI0:Hid (∃M,PbT w3 (wo.alloc (.cells #[.int .i64 e.1,.int .i64 e.2.1,.int .i64 e.2.2] 61)) wo.heap.size e u5 M/\M++((((L.drop (i+1)).drop 0).filter (dq n R e)).map (λ d=>(e.1,d.1))++zam (L.drop (i+1)) (dq n R))=T):=⟨M,⟨HP.out.1.below ((Below.refl _ _).alloc (Nat.le_refl _) _),HP.out.2.1.alloc HP.out.2.1.size _,heap_alloc_new wo _⟩,by
    have:=HP.out.2.2;rw [drop_at he] at this;exact this⟩
   have HE:=kd (And.intro he hO0);obtain ⟨e0,hE0⟩:∃x,e.1=x:=⟨_,rfl⟩;obtain ⟨e1,hE1⟩:∃x,e.2.1=x:=⟨_,rfl⟩;obtain ⟨e2,hE2⟩:∃x,e.2.2=x:=⟨_,rfl⟩;have HEE:Hid (e.1=e0/\e.2.1=e1/\e.2.2=e2):=⟨hE0,hE1,hE2⟩;rw [hE0] at r0;rw [hE1] at r1;rw [hE2] at r2;rw [hE1,hE2] at HI0;rw [show (Value.int .i64 e.1)= .int .i64 e0 by rw [hE0]] at HI0;clear he hO0 hOw hE0 hE1 hE2 HP;have hw1:IntKind.i64.wrap ((i:Int)+1)=(i:Int)+1:=by rw [IntKind.wrap_i64];omega
   have hb2:(i:Int)+1<=(m:Int):=by omega
   have hb3:(0:Int)<=(i:Int)+1:=by omega
   have hb4:(i:Int)+1<=(vc:Int):=by omega
   have hb5:(m:Int)<=(vc:Int):=by omega
   have htn:((i:Int)+1).toNat=i+1:=by omega
   by_cases hcj:vc=i+1
   ·as_aux_lemma=>
    go_wp2_with fail;clear hw1 hb2 hb3 hb4 hb5 htn r0 r1 r2;obtain ⟨r,hr⟩:∃r,m-(i+1)=r:=⟨_,rfl⟩;have hr0:r=0:=by omega
    rw [hr];go_loopw [5,29] (λ s5 s29 wq=>∃j:Nat,j<=r/\s29= .int .i64 j/\∃M,PbT w3 wq wo.heap.size e s5 M/\M++((((L.drop (i+1)).drop j).filter (dq n R e)).map (λ d=>(e.1,d.1))++zam (L.drop (i+1)) (dq n R))=T) (λ _ s29 _=>r-(intOf s29).toNat)
    case atStart=>exact ⟨0,Nat.zero_le _,rfl,HI0.out⟩
    case round=>
     clear HI0;obtain ⟨j,hj,rfl,M,hpq,hMT⟩:=hrel;have HP:=kd (And.intro hpq hMT);clear hpq hMT;have hltj:¬j<r:=by omega
     have HF:Hid (M++zam (L.drop (i+1)) (dq n R)=T):=by
      have h1:=HP.out.2;have h2:(L.drop (i+1)).drop j=[]:=List.drop_eq_nil_of_le (by rw [List.length_drop,HM.out];omega);rw [h2] at h1;exact h1
     clear hr hr0;go_wp2_with fail;go_roundw;case rel=>exact ⟨i+1,by omega,by go_num,M,HP.out.1.own,HP.out.1.below,HF.out⟩
     case measure=>simp [intOf];omega
   ·go_wp2_with fail
    clear hw1 hb2 hb3 hb4 hb5 htn r0 r1 r2;obtain ⟨r,hr⟩:∃r,m-(i+1)=r:=⟨_,rfl⟩;have HR:=kd hr;rw [hr];go_loopw [5,29] (λ s5 s29 wq=>∃j:Nat,j<=r/\s29= .int .i64 j/\∃M,PbT w3 wq wo.heap.size e s5 M/\M++((((L.drop (i+1)).drop j).filter (dq n R e)).map (λ d=>(e.1,d.1))++zam (L.drop (i+1)) (dq n R))=T) (λ _ s29 _=>r-(intOf s29).toNat)
    case atStart=>exact ⟨0,Nat.zero_le _,rfl,HI0.out⟩
    case round=>
     clear HI0;obtain ⟨j,hj,rfl,M,hpq,hMT⟩:=hrel;have HP:=kd (And.intro hpq hMT);clear hpq hMT;by_cases hltj:j<r
     ·as_aux_lemma=>
      obtain ⟨d,hd⟩:∃d,L[i+1+j]? =some d:=⟨_,List.getElem?_eq_getElem (by rw [HM.out];omega)⟩;obtain ⟨q0,q1,q2⟩:=(HE.out.2.below HP.out.1.below).at (g:=g) rfl hd;have ea0:(i+1+j)*3=(i+1)*3+j*3:=by omega
      rw [ea0] at q0 q1 q2;have hdr:(L.drop (i+1)).drop j=d::(L.drop (i+1)).drop (j+1):=drop_at (by rw [List.getElem?_drop];exact hd);have HMl:Hid (M.length<=14400):=by
       have:=congrArg List.length HP.out.2;rw [List.length_append] at this;show M.length<=14400;omega
      obtain ⟨s,hs⟩:∃s,dq n R e d=s:=⟨_,rfl⟩;have HSN:Hid (∀M',(if s=true then M'=M++[(e.1,d.1)] else M'=M)->M'++((((L.drop (i+1)).drop (j+1)).filter (dq n R e)).map (λ d=>(e.1,d.1))++zam (L.drop (i+1)) (dq n R))=T):=λ M' hM'=>by
       have h1:=HP.out.2;rw [hdr,List.filter_cons,hs] at h1;cases s with
       | true=>
         rw [if_pos rfl] at hM';rw [if_pos rfl] at h1;rw [hM',<-h1];simp
       | false=>
         rw [if_neg (by simp)] at hM';rw [if_neg (by simp)] at h1;rw [hM',<-h1]
      obtain ⟨a1,ha1⟩:∃x,decide (nP n (rest R e)=N)=x:=⟨_,rfl⟩;obtain ⟨a2,ha2⟩:∃x,decide (nP n (rest R d)=N)=x:=⟨_,rfl⟩;obtain ⟨K,hK⟩:∃x,nP n (za7 R e d)=x:=⟨_,rfl⟩;have HS:Hid (s=(a1&&a2&&decide (N<K))):=by
       show s=_;rw [<-hs,<-ha1,<-ha2,<-hK];unfold dq;rw [HN.out]
      obtain ⟨d0,hD0⟩:∃x,d.1=x:=⟨_,rfl⟩;obtain ⟨d1,hD1⟩:∃x,d.2.1=x:=⟨_,rfl⟩;obtain ⟨d2,hD2⟩:∃x,d.2.2=x:=⟨_,rfl⟩;obtain ⟨W1,hW1⟩:∃W1,W1=wr.alloc (.cells #[.int .i64 d0,.int .i64 d1,.int .i64 d2] 61):=⟨_,rfl⟩;have hbW:Below wr.heap.size wr W1:=by rw [hW1];exact (Below.refl _ _).alloc (Nat.le_refl _) _
      have hxd:Box W1 wr.heap.size d:=by
       unfold Box;rw [hW1,hD0,hD1,hD2];exact heap_alloc_new wr _
      have HPK:Hid (∀w',Below W1.heap.size W1 w'->(w'.cell? ⟨wo.heap.size,0,none⟩=some (.int .i64 e0)/\w'.cell? ⟨wr.heap.size,0,none⟩=some (.int .i64 d0)/\w'.cell? ⟨w.heap.size,0,none⟩=some (.pointer (some ⟨q,0,none⟩))/\w'.cell? ⟨wa.heap.size,0,none⟩=some (.int .i64 (N:Int)))/\Bx w' B q n N u R w.heap.size wa.heap.size/\PbT w3 w' wo.heap.size e u5 M):=λ w' hb=>by
       have hp:=(HP.out.1.below' hbW).below' hb;have hx:=HX.out.1.below hp.below;have c1:=hp.box.cells.1;have c2:=(hxd.below hb).cells.1;rw [HEE.out.1] at c1;rw [hD0] at c2;exact ⟨⟨c1,c2,hx.cq,hx.cn⟩,hx,hp⟩
      have HF1:Hid (∀W,Below W1.heap.size W1 W->Calls prog 123 #[.int .i64 e0,.pointer (some ⟨w.heap.size,0,none⟩),.pointer (some ⟨wa.heap.size,0,none⟩)] W λ en w'=>en= .returned (.bool a1)/\(w'.cell? ⟨wo.heap.size,0,none⟩=some (.int .i64 e0)/\w'.cell? ⟨wr.heap.size,0,none⟩=some (.int .i64 d0)/\w'.cell? ⟨w.heap.size,0,none⟩=some (.pointer (some ⟨q,0,none⟩))/\w'.cell? ⟨wa.heap.size,0,none⟩=some (.int .i64 (N:Int)))/\Below W1.heap.size W1 w'):=λ W hW=>by
       have:=zr2 B q n N u R w.heap.size wa.heap.size e a1 W (HPK.out W hW).2.1 (by have:=HI.out.2.2.1;omega) hn HI.out.2.1 ha1;rw [HEE.out.1] at this;refine this.mono ?_;rintro en w' ⟨rfl,hb'⟩;have h2:=hW.trans (hb'.mono hW.size);exact ⟨rfl,(HPK.out w' h2).1,h2⟩
      have HF2:Hid (∀W,Below W1.heap.size W1 W->Calls prog 123 #[.int .i64 d0,.pointer (some ⟨w.heap.size,0,none⟩),.pointer (some ⟨wa.heap.size,0,none⟩)] W λ en w'=>en= .returned (.bool a2)/\(w'.cell? ⟨wo.heap.size,0,none⟩=some (.int .i64 e0)/\w'.cell? ⟨wr.heap.size,0,none⟩=some (.int .i64 d0)/\w'.cell? ⟨w.heap.size,0,none⟩=some (.pointer (some ⟨q,0,none⟩))/\w'.cell? ⟨wa.heap.size,0,none⟩=some (.int .i64 (N:Int)))/\((w'.alloc (.cells #[.int .i64 e0,.int .i64 d0] 3)).cell? ⟨wo.heap.size,0,none⟩=some (.int .i64 e0)/\(w'.alloc (.cells #[.int .i64 e0,.int .i64 d0] 3)).cell? ⟨wr.heap.size,0,none⟩=some (.int .i64 d0)/\(w'.alloc (.cells #[.int .i64 e0,.int .i64 d0] 3)).cell? ⟨w.heap.size,0,none⟩=some (.pointer (some ⟨q,0,none⟩))/\(w'.alloc (.cells #[.int .i64 e0,.int .i64 d0] 3)).cell? ⟨wa.heap.size,0,none⟩=some (.int .i64 (N:Int)))/\Below W1.heap.size W1 w'):=λ W hW=>by
       have:=zr2 B q n N u R w.heap.size wa.heap.size d a2 W (HPK.out W hW).2.1 (by have:=HI.out.2.2.1;omega) hn HI.out.2.1 ha2;rw [hD0] at this;refine this.mono ?_;rintro en w' ⟨rfl,hb'⟩;have h2:=hW.trans (hb'.mono hW.size);exact ⟨rfl,(HPK.out w' h2).1,(HPK.out _ (h2.alloc h2.size _)).1,h2⟩
      have HWO:Hid (∀W,Below W1.heap.size W1 W->Calls prog 58 #[.pointer (some ⟨q,0,none⟩),.slice (some ⟨W.heap.size,0,none⟩) 2 2,.slice none 0 0] (W.alloc (.cells #[.int .i64 e0,.int .i64 d0] 3)) λ e' w'=>∃q' v',e'= .returned (.pointer (some ⟨q',0,none⟩))/\(w'.cell? ⟨wo.heap.size,0,none⟩=some (.int .i64 e0)/\w'.cell? ⟨wr.heap.size,0,none⟩=some (.int .i64 d0)/\w'.cell? ⟨w.heap.size,0,none⟩=some (.pointer (some ⟨q,0,none⟩))/\w'.cell? ⟨wa.heap.size,0,none⟩=some (.int .i64 (N:Int)))/\Below W1.heap.size W1 w'/\∃B',G.GAt w' B' 40 61 q' (n:Int) v' (za7 R e d)):=λ W hW=>by
       have hb2:Below W.heap.size W (W.alloc (.cells #[.int .i64 e0,.int .i64 d0] 3)):=(Below.refl _ _).alloc (Nat.le_refl _) _;have hgW:=(HPK.out W hW).2.1.ga.below hb2;refine (G.zbw (n:Int) B q u R _ none 2 0 2 0 (λ t=>if t=0 then e0 else d0) (λ _=>0) _ hgW (by have:=HI.out.2.2.1;omega) (zta W e0 d0) (zlq _) (by omega) (by omega)).mono ?_;rintro e' w' ⟨q',v',rfl,hg',hb'⟩;rw [zqp R e d _ _ (by simp [HEE.out.1]) (by simp [hD0])] at hg';have h2:Below W1.heap.size W1 w':=hW.trans ((hb2.trans (hb'.mono hb2.size)).mono hW.size);exact ⟨q',v',rfl,(HPK.out w' h2).1,h2,_,hg'⟩
      have HLA:Hid (∀W q' v' B',Below W1.heap.size W1 W->G.GAt W B' 40 61 q' (n:Int) v' (za7 R e d)->Calls prog 59 #[.pointer (some ⟨q',0,none⟩)] W λ e' w'=>∃b,e'= .returned (.slice (some ⟨b,0,none⟩) n n)/\(w'.cell? ⟨wo.heap.size,0,none⟩=some (.int .i64 e0)/\w'.cell? ⟨wr.heap.size,0,none⟩=some (.int .i64 d0)/\w'.cell? ⟨w.heap.size,0,none⟩=some (.pointer (some ⟨q,0,none⟩))/\w'.cell? ⟨wa.heap.size,0,none⟩=some (.int .i64 (N:Int)))/\Below W1.heap.size W1 w'/\Calls prog 122 #[.slice (some ⟨b,0,none⟩) n n] w' λ e w''=>e= .returned (.int .i64 (K:Int))/\w''=w'):=λ W q' v' B' hW hg'=>by
       refine (zfc n B' q' v' (za7 R e d) W hg' (Nat.le_trans (znq _ _ _) (by have:=HI.out.2.2.1;omega)) hn (zif HI.out.2.1 _ _)).mono ?_;rintro e' w' ⟨b,l,rfl,hr,hbb,hgd,hlab,hb'⟩;have h2:=hW.trans (hb'.mono hW.size);refine ⟨b,rfl,(HPK.out w' h2).1,h2,?_⟩;have h3:=zjd b n l w' hr hgd.len hn;have h4:zdh n l=K:=by rw [<-hK,znc hgd (zif HI.out.2.1 _ _) hlab];rfl
       rw [h4] at h3;exact h3
      have HW1:=kd hW1.symm;rw [hD0] at q0;rw [hD1] at q1;rw [hD2] at q2;have HDD:=kd hD0;obtain ⟨hS0,_,_⟩:=HPK.out W1.drew (Below.refl _ _).drew;have HBD:Hid (Below W1.heap.size W1 W1.drew):=(Below.refl _ _).drew;have hr60:r<=120:=by omega
      clear hd ea0 hdr hs ha1 ha2 hK hD0 hD1 hD2 hW1 hbW hxd hr;go_upto_region 11 with fail
      rw [HW1.out];clear q0 q1 q2
      go_cut [55] from 33 to 55 (λ s55 wx=>s55= .bool s/\Below W1.heap.size W1 wx)
      case first=>
       cases a1 with
       | false=>
         have HSF:Hid (s=false):=by show s=false;rw [HS.out];rfl
         refine wp_region_held_drew (S:=(λ w'=>(w'.cell? ⟨wo.heap.size,0,none⟩=some (.int .i64 e0)/\w'.cell? ⟨wr.heap.size,0,none⟩=some (.int .i64 d0)/\w'.cell? ⟨w.heap.size,0,none⟩=some (.pointer (some ⟨q,0,none⟩))/\w'.cell? ⟨wa.heap.size,0,none⟩=some (.int .i64 (N:Int))))) (by kernel_rfl) ?_ (λ hHeld=>?_)
         ·exact hS0
         refine wpAnyH_take (i:=0) (oi:={dst:=some 33,op:=Op.move (Operand.tmp 6),type:=173,pos:= "ref.go:247",after:=#[],guard:=none}) (v:=?_) rfl (by kernel_rfl) (by kernel_rfl) (by kernel_rfl) (λ _ _ _ h=>h) (Or.inl ⟨by rfl,?_⟩) (by assumption) ?_;rotate_left
         ·intro w hSw
          try dsimp only at hSw
          first | (go_simp;done) | (go_simp;with_reducible rfl)
         try simp only [Act.put,List.setIfInBounds_toArray,List.set_cons_zero,List.set_cons_succ]
         refine wpAnyH_take (i:=1) (oi:={dst:=some 34,op:=Op.fieldAddr 61 (Operand.tmp 8) 0,type:=0,pos:= "ref.go:247",after:=#[],guard:=none}) (v:=?_) rfl (by kernel_rfl) (by kernel_rfl) (by kernel_rfl) (λ _ _ _ h=>h) (Or.inl ⟨by rfl,?_⟩) (by assumption) ?_;rotate_left
         ·intro w hSw
          try dsimp only at hSw
          first | (go_simp;done) | (go_simp;with_reducible rfl)
         try simp only [Act.put,List.setIfInBounds_toArray,List.set_cons_zero,List.set_cons_succ]
         refine wpAnyH_take (i:=2) (oi:={dst:=some 35,op:=Op.load 3 (Operand.tmp 34),type:=3,pos:= "ref.go:247",after:=#[{on:=1,ground:=Ground.data}],guard:=none}) (v:=?_) rfl (by kernel_rfl) (by kernel_rfl) (by kernel_rfl) (λ _ _ _ h=>h) (Or.inl ⟨by rfl,?_⟩) (by assumption) ?_;rotate_left
         ·intro w hSw
          try dsimp only at hSw
          first | (go_simp;done) | (go_simp;with_reducible rfl)
         try simp only [Act.put,List.setIfInBounds_toArray,List.set_cons_zero,List.set_cons_succ]
         refine wpAnyH_ready (rs:=[3]) (by kernel_rfl) (by simp) ?_;refine AllReadyH.cons rfl (λ K hK=>?_) AllReadyH.nil;go_simp;go_wp2_with (go_at_call 123;refine Calls.mono (HF1.out _ HBD.out) ?_;rintro e' w2 ⟨rfl,hS2,hb2⟩;have HB2:Hid (Below W1.heap.size W1 w2):=hb2;clear hb2 HF1);refine hK.out _ _ ?_ (λ hHeld=>?_)
         ·exact hS2
         clear hK K;refine wpAnyH_take (i:=4) (oi:={dst:=some 37,op:=Op.move (Operand.tmp 36),type:=4,pos:= "ref.go:247",after:=#[{on:=3,ground:=Ground.data},{on:=3,ground:=Ground.chain}],guard:=none}) (v:=?_) rfl (by kernel_rfl) (by kernel_rfl) (by kernel_rfl) (λ _ _ _ h=>h) (Or.inl ⟨by rfl,?_⟩) (by assumption) ?_;rotate_left
         ·intro w hSw
          try dsimp only at hSw
          first | (go_simp;done) | (go_simp;with_reducible rfl)
         try simp only [Act.put,List.setIfInBounds_toArray,List.set_cons_zero,List.set_cons_succ]
         refine wpAnyH_take (i:=5) (oi:={dst:=some 38,op:=Op.move (Operand.tmp 6),type:=173,pos:= "ref.go:247",after:=#[{on:=4,ground:=Ground.guard}],guard:=some (4,true)}) (v:=undef) rfl (by kernel_rfl) (by kernel_rfl) (by kernel_rfl) (λ _ _ _ h=>h) (Or.inr ⟨by rfl,rfl⟩) (by assumption) ?_;try simp only [Act.put,List.setIfInBounds_toArray,List.set_cons_zero,List.set_cons_succ]
         refine wpAnyH_take (i:=6) (oi:={dst:=some 39,op:=Op.fieldAddr 61 (Operand.tmp 10) 0,type:=0,pos:= "ref.go:247",after:=#[{on:=4,ground:=Ground.guard}],guard:=some (4,true)}) (v:=undef) rfl (by kernel_rfl) (by kernel_rfl) (by kernel_rfl) (λ _ _ _ h=>h) (Or.inr ⟨by rfl,rfl⟩) (by assumption) ?_;try simp only [Act.put,List.setIfInBounds_toArray,List.set_cons_zero,List.set_cons_succ]
         refine wpAnyH_take (i:=7) (oi:={dst:=some 40,op:=Op.load 3 (Operand.tmp 39),type:=3,pos:= "ref.go:247",after:=#[{on:=6,ground:=Ground.data},{on:=4,ground:=Ground.guard}],guard:=some (4,true)}) (v:=undef) rfl (by kernel_rfl) (by kernel_rfl) (by kernel_rfl) (λ _ _ _ h=>h) (Or.inr ⟨by rfl,rfl⟩) (by assumption) ?_;try simp only [Act.put,List.setIfInBounds_toArray,List.set_cons_zero,List.set_cons_succ]
         refine wpAnyH_take (i:=8) (oi:={dst:=some 41,op:=Op.call {callee:=Callee.value (Operand.tmp 38),args:=#[Operand.tmp 40],argTypes:=#[3]},type:=4,pos:= "ref.go:247",after:=#[{on:=5,ground:=Ground.data},{on:=7,ground:=Ground.data},{on:=4,ground:=Ground.chain},{on:=4,ground:=Ground.guard}],guard:=some (4,true)}) (v:=undef) rfl (by kernel_rfl) (by kernel_rfl) (by kernel_rfl) (λ _ _ _ h=>h) (Or.inr ⟨by rfl,rfl⟩) (by assumption) ?_;try simp only [Act.put,List.setIfInBounds_toArray,List.set_cons_zero,List.set_cons_succ]
         refine wpAnyH_take (i:=9) (oi:={dst:=some 42,op:=Op.pick (Operand.tmp 37) (Operand.tmp 41) (Operand.const (Value.bool false)),type:=4,pos:= "ref.go:247",after:=#[{on:=4,ground:=Ground.data},{on:=8,ground:=Ground.data}],guard:=none}) (v:=?_) rfl (by kernel_rfl) (by kernel_rfl) (by kernel_rfl) (λ _ _ _ h=>h) (Or.inl ⟨by rfl,?_⟩) (by assumption) ?_;rotate_left
         ·intro w hSw
          try dsimp only at hSw
          first | (go_simp;done) | (go_simp;with_reducible rfl)
         try simp only [Act.put,List.setIfInBounds_toArray,List.set_cons_zero,List.set_cons_succ]
         refine wpAnyH_take (i:=10) (oi:={dst:=some 43,op:=Op.move (Operand.tmp 42),type:=4,pos:= "ref.go:247",after:=#[{on:=9,ground:=Ground.data},{on:=8,ground:=Ground.chain}],guard:=none}) (v:=?_) rfl (by kernel_rfl) (by kernel_rfl) (by kernel_rfl) (λ _ _ _ h=>h) (Or.inl ⟨by rfl,?_⟩) (by assumption) ?_;rotate_left
         ·intro w hSw
          try dsimp only at hSw
          first | (go_simp;done) | (go_simp;with_reducible rfl)
         try simp only [Act.put,List.setIfInBounds_toArray,List.set_cons_zero,List.set_cons_succ]
         refine wpAnyH_take (i:=11) (oi:={dst:=some 44,op:=Op.load 22 (Operand.tmp 1),type:=22,pos:= "ref.go:247",after:=#[{on:=10,ground:=Ground.guard}],guard:=some (10,true)}) (v:=undef) rfl (by kernel_rfl) (by kernel_rfl) (by kernel_rfl) (λ _ _ _ h=>h) (Or.inr ⟨by rfl,rfl⟩) (by assumption) ?_;try simp only [Act.put,List.setIfInBounds_toArray,List.set_cons_zero,List.set_cons_succ]
         refine wpAnyH_take (i:=12) (oi:={dst:=some 45,op:=Op.fieldAddr 61 (Operand.tmp 8) 0,type:=0,pos:= "ref.go:247",after:=#[{on:=10,ground:=Ground.guard}],guard:=some (10,true)}) (v:=undef) rfl (by kernel_rfl) (by kernel_rfl) (by kernel_rfl) (λ _ _ _ h=>h) (Or.inr ⟨by rfl,rfl⟩) (by assumption) ?_;try simp only [Act.put,List.setIfInBounds_toArray,List.set_cons_zero,List.set_cons_succ]
         refine wpAnyH_take (i:=13) (oi:={dst:=some 46,op:=Op.load 3 (Operand.tmp 45),type:=3,pos:= "ref.go:247",after:=#[{on:=12,ground:=Ground.data},{on:=10,ground:=Ground.guard}],guard:=some (10,true)}) (v:=undef) rfl (by kernel_rfl) (by kernel_rfl) (by kernel_rfl) (λ _ _ _ h=>h) (Or.inr ⟨by rfl,rfl⟩) (by assumption) ?_;try simp only [Act.put,List.setIfInBounds_toArray,List.set_cons_zero,List.set_cons_succ]
         refine wpAnyH_take (i:=14) (oi:={dst:=some 47,op:=Op.fieldAddr 61 (Operand.tmp 10) 0,type:=0,pos:= "ref.go:247",after:=#[{on:=10,ground:=Ground.guard}],guard:=some (10,true)}) (v:=undef) rfl (by kernel_rfl) (by kernel_rfl) (by kernel_rfl) (λ _ _ _ h=>h) (Or.inr ⟨by rfl,rfl⟩) (by assumption) ?_;try simp only [Act.put,List.setIfInBounds_toArray,List.set_cons_zero,List.set_cons_succ]
         refine wpAnyH_take (i:=15) (oi:={dst:=some 48,op:=Op.load 3 (Operand.tmp 47),type:=3,pos:= "ref.go:247",after:=#[{on:=14,ground:=Ground.data},{on:=10,ground:=Ground.guard}],guard:=some (10,true)}) (v:=undef) rfl (by kernel_rfl) (by kernel_rfl) (by kernel_rfl) (λ _ _ _ h=>h) (Or.inr ⟨by rfl,rfl⟩) (by assumption) ?_;try simp only [Act.put,List.setIfInBounds_toArray,List.set_cons_zero,List.set_cons_succ]
         refine wpAnyH_take (i:=16) (oi:={dst:=some 49,op:=Op.buildSlice 48 2 #[(0,Operand.tmp 46),(1,Operand.tmp 48)],type:=48,pos:= "ref.go:247",after:=#[{on:=13,ground:=Ground.data},{on:=15,ground:=Ground.data},{on:=10,ground:=Ground.guard}],guard:=some (10,true)}) (v:=undef) rfl (by kernel_rfl) (by kernel_rfl) (by kernel_rfl) (λ _ _ _ h=>h) (Or.inr ⟨by rfl,rfl⟩) (by assumption) ?_;try simp only [Act.put,List.setIfInBounds_toArray,List.set_cons_zero,List.set_cons_succ]
         refine wpAnyH_take (i:=17) (oi:={dst:=some 50,op:=Op.call {callee:=Callee.value (Operand.func 58),args:=#[Operand.tmp 44,Operand.tmp 49,Operand.const (Value.slice none 0 0)],argTypes:=#[22,48,48]},type:=22,pos:= "ref.go:247",after:=#[{on:=11,ground:=Ground.data},{on:=16,ground:=Ground.data},{on:=10,ground:=Ground.chain},{on:=10,ground:=Ground.guard}],guard:=some (10,true)}) (v:=undef) rfl (by kernel_rfl) (by kernel_rfl) (by kernel_rfl) (λ _ _ _ h=>h) (Or.inr ⟨by rfl,rfl⟩) (by assumption) ?_;try simp only [Act.put,List.setIfInBounds_toArray,List.set_cons_zero,List.set_cons_succ]
         refine wpAnyH_take (i:=18) (oi:={dst:=some 51,op:=Op.call {callee:=Callee.value (Operand.func 59),args:=#[Operand.tmp 50],argTypes:=#[22]},type:=48,pos:= "ref.go:247",after:=#[{on:=17,ground:=Ground.data},{on:=17,ground:=Ground.chain},{on:=10,ground:=Ground.guard}],guard:=some (10,true)}) (v:=undef) rfl (by kernel_rfl) (by kernel_rfl) (by kernel_rfl) (λ _ _ _ h=>h) (Or.inr ⟨by rfl,rfl⟩) (by assumption) ?_;try simp only [Act.put,List.setIfInBounds_toArray,List.set_cons_zero,List.set_cons_succ]
         refine wpAnyH_take (i:=19) (oi:={dst:=some 52,op:=Op.call {callee:=Callee.value (Operand.func 122),args:=#[Operand.tmp 51],argTypes:=#[48]},type:=3,pos:= "ref.go:247",after:=#[{on:=18,ground:=Ground.data},{on:=18,ground:=Ground.chain},{on:=10,ground:=Ground.guard}],guard:=some (10,true)}) (v:=undef) rfl (by kernel_rfl) (by kernel_rfl) (by kernel_rfl) (λ _ _ _ h=>h) (Or.inr ⟨by rfl,rfl⟩) (by assumption) ?_;try simp only [Act.put,List.setIfInBounds_toArray,List.set_cons_zero,List.set_cons_succ]
         refine wpAnyH_take (i:=20) (oi:={dst:=some 53,op:=Op.load 3 (Operand.tmp 3),type:=3,pos:= "ref.go:247",after:=#[{on:=10,ground:=Ground.guard}],guard:=some (10,true)}) (v:=undef) rfl (by kernel_rfl) (by kernel_rfl) (by kernel_rfl) (λ _ _ _ h=>h) (Or.inr ⟨by rfl,rfl⟩) (by assumption) ?_;try simp only [Act.put,List.setIfInBounds_toArray,List.set_cons_zero,List.set_cons_succ]
         refine wpAnyH_take (i:=21) (oi:={dst:=some 54,op:=Op.binOp BinOp.gtr 3 (Operand.tmp 52) (Operand.tmp 53) 3,type:=4,pos:= "ref.go:247",after:=#[{on:=19,ground:=Ground.data},{on:=20,ground:=Ground.data},{on:=10,ground:=Ground.guard}],guard:=some (10,true)}) (v:=undef) rfl (by kernel_rfl) (by kernel_rfl) (by kernel_rfl) (λ _ _ _ h=>h) (Or.inr ⟨by rfl,rfl⟩) (by assumption) ?_;try simp only [Act.put,List.setIfInBounds_toArray,List.set_cons_zero,List.set_cons_succ]
         refine wpAnyH_take (i:=22) (oi:={dst:=some 55,op:=Op.pick (Operand.tmp 43) (Operand.tmp 54) (Operand.const (Value.bool false)),type:=4,pos:= "ref.go:247",after:=#[{on:=10,ground:=Ground.data},{on:=21,ground:=Ground.data}],guard:=none}) (v:=?_) rfl (by kernel_rfl) (by kernel_rfl) (by kernel_rfl) (λ _ _ _ h=>h) (Or.inl ⟨by rfl,?_⟩) (by assumption) ?_;rotate_left
         ·intro w hSw
          try dsimp only at hSw
          first | (go_simp;done) | (go_simp;with_reducible rfl)
         try simp only [Act.put,List.setIfInBounds_toArray,List.set_cons_zero,List.set_cons_succ]
         refine wpAnyH_done (by kernel_rfl) ?_ _;go_wp2_with fail
         go_meet
         case rel=>exact ⟨by rw [HSF.out],HB2.out⟩
       | true=>
         cases a2 with
         | false=>
           have HSF:Hid (s=false):=by show s=false;rw [HS.out];rfl
           refine wp_region_held_drew (S:=(λ w'=>(w'.cell? ⟨wo.heap.size,0,none⟩=some (.int .i64 e0)/\w'.cell? ⟨wr.heap.size,0,none⟩=some (.int .i64 d0)/\w'.cell? ⟨w.heap.size,0,none⟩=some (.pointer (some ⟨q,0,none⟩))/\w'.cell? ⟨wa.heap.size,0,none⟩=some (.int .i64 (N:Int))))) (by kernel_rfl) ?_ (λ hHeld=>?_)
           ·exact hS0
           refine wpAnyH_take (i:=0) (oi:={dst:=some 33,op:=Op.move (Operand.tmp 6),type:=173,pos:= "ref.go:247",after:=#[],guard:=none}) (v:=?_) rfl (by kernel_rfl) (by kernel_rfl) (by kernel_rfl) (λ _ _ _ h=>h) (Or.inl ⟨by rfl,?_⟩) (by assumption) ?_;rotate_left
           ·intro w hSw
            try dsimp only at hSw
            first | (go_simp;done) | (go_simp;with_reducible rfl)
           try simp only [Act.put,List.setIfInBounds_toArray,List.set_cons_zero,List.set_cons_succ]
           refine wpAnyH_take (i:=1) (oi:={dst:=some 34,op:=Op.fieldAddr 61 (Operand.tmp 8) 0,type:=0,pos:= "ref.go:247",after:=#[],guard:=none}) (v:=?_) rfl (by kernel_rfl) (by kernel_rfl) (by kernel_rfl) (λ _ _ _ h=>h) (Or.inl ⟨by rfl,?_⟩) (by assumption) ?_;rotate_left
           ·intro w hSw
            try dsimp only at hSw
            first | (go_simp;done) | (go_simp;with_reducible rfl)
           try simp only [Act.put,List.setIfInBounds_toArray,List.set_cons_zero,List.set_cons_succ]
           refine wpAnyH_take (i:=2) (oi:={dst:=some 35,op:=Op.load 3 (Operand.tmp 34),type:=3,pos:= "ref.go:247",after:=#[{on:=1,ground:=Ground.data}],guard:=none}) (v:=?_) rfl (by kernel_rfl) (by kernel_rfl) (by kernel_rfl) (λ _ _ _ h=>h) (Or.inl ⟨by rfl,?_⟩) (by assumption) ?_;rotate_left
           ·intro w hSw
            try dsimp only at hSw
            first | (go_simp;done) | (go_simp;with_reducible rfl)
           try simp only [Act.put,List.setIfInBounds_toArray,List.set_cons_zero,List.set_cons_succ]
           refine wpAnyH_ready (rs:=[3]) (by kernel_rfl) (by simp) ?_;refine AllReadyH.cons rfl (λ K hK=>?_) AllReadyH.nil;go_simp;go_wp2_with (go_at_call 123;refine Calls.mono (HF1.out _ HBD.out) ?_;rintro e' w2 ⟨rfl,hS2,hb2⟩;have HB2:Hid (Below W1.heap.size W1 w2):=hb2;clear hb2 HF1);refine hK.out _ _ ?_ (λ hHeld=>?_)
           ·exact hS2
           clear hK K;refine wpAnyH_take (i:=4) (oi:={dst:=some 37,op:=Op.move (Operand.tmp 36),type:=4,pos:= "ref.go:247",after:=#[{on:=3,ground:=Ground.data},{on:=3,ground:=Ground.chain}],guard:=none}) (v:=?_) rfl (by kernel_rfl) (by kernel_rfl) (by kernel_rfl) (λ _ _ _ h=>h) (Or.inl ⟨by rfl,?_⟩) (by assumption) ?_;rotate_left
           ·intro w hSw
            try dsimp only at hSw
            first | (go_simp;done) | (go_simp;with_reducible rfl)
           try simp only [Act.put,List.setIfInBounds_toArray,List.set_cons_zero,List.set_cons_succ]
           refine wpAnyH_take (i:=5) (oi:={dst:=some 38,op:=Op.move (Operand.tmp 6),type:=173,pos:= "ref.go:247",after:=#[{on:=4,ground:=Ground.guard}],guard:=some (4,true)}) (v:=?_) rfl (by kernel_rfl) (by kernel_rfl) (by kernel_rfl) (λ _ _ _ h=>h) (Or.inl ⟨by rfl,?_⟩) (by assumption) ?_;rotate_left
           ·intro w hSw
            try dsimp only at hSw
            first | (go_simp;done) | (go_simp;with_reducible rfl)
           try simp only [Act.put,List.setIfInBounds_toArray,List.set_cons_zero,List.set_cons_succ]
           refine wpAnyH_take (i:=6) (oi:={dst:=some 39,op:=Op.fieldAddr 61 (Operand.tmp 10) 0,type:=0,pos:= "ref.go:247",after:=#[{on:=4,ground:=Ground.guard}],guard:=some (4,true)}) (v:=?_) rfl (by kernel_rfl) (by kernel_rfl) (by kernel_rfl) (λ _ _ _ h=>h) (Or.inl ⟨by rfl,?_⟩) (by assumption) ?_;rotate_left
           ·intro w hSw
            try dsimp only at hSw
            first | (go_simp;done) | (go_simp;with_reducible rfl)
           try simp only [Act.put,List.setIfInBounds_toArray,List.set_cons_zero,List.set_cons_succ]
           refine wpAnyH_take (i:=7) (oi:={dst:=some 40,op:=Op.load 3 (Operand.tmp 39),type:=3,pos:= "ref.go:247",after:=#[{on:=6,ground:=Ground.data},{on:=4,ground:=Ground.guard}],guard:=some (4,true)}) (v:=?_) rfl (by kernel_rfl) (by kernel_rfl) (by kernel_rfl) (λ _ _ _ h=>h) (Or.inl ⟨by rfl,?_⟩) (by assumption) ?_;rotate_left
           ·intro w hSw
            try dsimp only at hSw
            first | (go_simp;done) | (go_simp;with_reducible rfl)
           try simp only [Act.put,List.setIfInBounds_toArray,List.set_cons_zero,List.set_cons_succ]
           refine wpAnyH_ready (rs:=[8]) (by kernel_rfl) (by simp) ?_;refine AllReadyH.cons rfl (λ K hK=>?_) AllReadyH.nil;go_simp;go_wp2_with (go_at_call 123;refine Calls.mono (HF2.out _ HB2.out) ?_;rintro e' w4 ⟨rfl,hS4,hS5,hb4⟩;have HB4:Hid (Below W1.heap.size W1 w4):=hb4;clear hb4 HF2);refine hK.out _ _ ?_ (λ hHeld=>?_)
           ·exact hS4
           clear hK K;refine wpAnyH_take (i:=9) (oi:={dst:=some 42,op:=Op.pick (Operand.tmp 37) (Operand.tmp 41) (Operand.const (Value.bool false)),type:=4,pos:= "ref.go:247",after:=#[{on:=4,ground:=Ground.data},{on:=8,ground:=Ground.data}],guard:=none}) (v:=?_) rfl (by kernel_rfl) (by kernel_rfl) (by kernel_rfl) (λ _ _ _ h=>h) (Or.inl ⟨by rfl,?_⟩) (by assumption) ?_;rotate_left
           ·intro w hSw
            try dsimp only at hSw
            first | (go_simp;done) | (go_simp;with_reducible rfl)
           try simp only [Act.put,List.setIfInBounds_toArray,List.set_cons_zero,List.set_cons_succ]
           refine wpAnyH_take (i:=10) (oi:={dst:=some 43,op:=Op.move (Operand.tmp 42),type:=4,pos:= "ref.go:247",after:=#[{on:=9,ground:=Ground.data},{on:=8,ground:=Ground.chain}],guard:=none}) (v:=?_) rfl (by kernel_rfl) (by kernel_rfl) (by kernel_rfl) (λ _ _ _ h=>h) (Or.inl ⟨by rfl,?_⟩) (by assumption) ?_;rotate_left
           ·intro w hSw
            try dsimp only at hSw
            first | (go_simp;done) | (go_simp;with_reducible rfl)
           try simp only [Act.put,List.setIfInBounds_toArray,List.set_cons_zero,List.set_cons_succ]
           refine wpAnyH_take (i:=11) (oi:={dst:=some 44,op:=Op.load 22 (Operand.tmp 1),type:=22,pos:= "ref.go:247",after:=#[{on:=10,ground:=Ground.guard}],guard:=some (10,true)}) (v:=undef) rfl (by kernel_rfl) (by kernel_rfl) (by kernel_rfl) (λ _ _ _ h=>h) (Or.inr ⟨by rfl,rfl⟩) (by assumption) ?_;try simp only [Act.put,List.setIfInBounds_toArray,List.set_cons_zero,List.set_cons_succ]
           refine wpAnyH_take (i:=12) (oi:={dst:=some 45,op:=Op.fieldAddr 61 (Operand.tmp 8) 0,type:=0,pos:= "ref.go:247",after:=#[{on:=10,ground:=Ground.guard}],guard:=some (10,true)}) (v:=undef) rfl (by kernel_rfl) (by kernel_rfl) (by kernel_rfl) (λ _ _ _ h=>h) (Or.inr ⟨by rfl,rfl⟩) (by assumption) ?_;try simp only [Act.put,List.setIfInBounds_toArray,List.set_cons_zero,List.set_cons_succ]
           refine wpAnyH_take (i:=13) (oi:={dst:=some 46,op:=Op.load 3 (Operand.tmp 45),type:=3,pos:= "ref.go:247",after:=#[{on:=12,ground:=Ground.data},{on:=10,ground:=Ground.guard}],guard:=some (10,true)}) (v:=undef) rfl (by kernel_rfl) (by kernel_rfl) (by kernel_rfl) (λ _ _ _ h=>h) (Or.inr ⟨by rfl,rfl⟩) (by assumption) ?_;try simp only [Act.put,List.setIfInBounds_toArray,List.set_cons_zero,List.set_cons_succ]
           refine wpAnyH_take (i:=14) (oi:={dst:=some 47,op:=Op.fieldAddr 61 (Operand.tmp 10) 0,type:=0,pos:= "ref.go:247",after:=#[{on:=10,ground:=Ground.guard}],guard:=some (10,true)}) (v:=undef) rfl (by kernel_rfl) (by kernel_rfl) (by kernel_rfl) (λ _ _ _ h=>h) (Or.inr ⟨by rfl,rfl⟩) (by assumption) ?_;try simp only [Act.put,List.setIfInBounds_toArray,List.set_cons_zero,List.set_cons_succ]
           refine wpAnyH_take (i:=15) (oi:={dst:=some 48,op:=Op.load 3 (Operand.tmp 47),type:=3,pos:= "ref.go:247",after:=#[{on:=14,ground:=Ground.data},{on:=10,ground:=Ground.guard}],guard:=some (10,true)}) (v:=undef) rfl (by kernel_rfl) (by kernel_rfl) (by kernel_rfl) (λ _ _ _ h=>h) (Or.inr ⟨by rfl,rfl⟩) (by assumption) ?_;try simp only [Act.put,List.setIfInBounds_toArray,List.set_cons_zero,List.set_cons_succ]
           refine wpAnyH_take (i:=16) (oi:={dst:=some 49,op:=Op.buildSlice 48 2 #[(0,Operand.tmp 46),(1,Operand.tmp 48)],type:=48,pos:= "ref.go:247",after:=#[{on:=13,ground:=Ground.data},{on:=15,ground:=Ground.data},{on:=10,ground:=Ground.guard}],guard:=some (10,true)}) (v:=undef) rfl (by kernel_rfl) (by kernel_rfl) (by kernel_rfl) (λ _ _ _ h=>h) (Or.inr ⟨by rfl,rfl⟩) (by assumption) ?_;try simp only [Act.put,List.setIfInBounds_toArray,List.set_cons_zero,List.set_cons_succ]
           refine wpAnyH_take (i:=17) (oi:={dst:=some 50,op:=Op.call {callee:=Callee.value (Operand.func 58),args:=#[Operand.tmp 44,Operand.tmp 49,Operand.const (Value.slice none 0 0)],argTypes:=#[22,48,48]},type:=22,pos:= "ref.go:247",after:=#[{on:=11,ground:=Ground.data},{on:=16,ground:=Ground.data},{on:=10,ground:=Ground.chain},{on:=10,ground:=Ground.guard}],guard:=some (10,true)}) (v:=undef) rfl (by kernel_rfl) (by kernel_rfl) (by kernel_rfl) (λ _ _ _ h=>h) (Or.inr ⟨by rfl,rfl⟩) (by assumption) ?_;try simp only [Act.put,List.setIfInBounds_toArray,List.set_cons_zero,List.set_cons_succ]
           refine wpAnyH_take (i:=18) (oi:={dst:=some 51,op:=Op.call {callee:=Callee.value (Operand.func 59),args:=#[Operand.tmp 50],argTypes:=#[22]},type:=48,pos:= "ref.go:247",after:=#[{on:=17,ground:=Ground.data},{on:=17,ground:=Ground.chain},{on:=10,ground:=Ground.guard}],guard:=some (10,true)}) (v:=undef) rfl (by kernel_rfl) (by kernel_rfl) (by kernel_rfl) (λ _ _ _ h=>h) (Or.inr ⟨by rfl,rfl⟩) (by assumption) ?_;try simp only [Act.put,List.setIfInBounds_toArray,List.set_cons_zero,List.set_cons_succ]
           refine wpAnyH_take (i:=19) (oi:={dst:=some 52,op:=Op.call {callee:=Callee.value (Operand.func 122),args:=#[Operand.tmp 51],argTypes:=#[48]},type:=3,pos:= "ref.go:247",after:=#[{on:=18,ground:=Ground.data},{on:=18,ground:=Ground.chain},{on:=10,ground:=Ground.guard}],guard:=some (10,true)}) (v:=undef) rfl (by kernel_rfl) (by kernel_rfl) (by kernel_rfl) (λ _ _ _ h=>h) (Or.inr ⟨by rfl,rfl⟩) (by assumption) ?_;try simp only [Act.put,List.setIfInBounds_toArray,List.set_cons_zero,List.set_cons_succ]
           refine wpAnyH_take (i:=20) (oi:={dst:=some 53,op:=Op.load 3 (Operand.tmp 3),type:=3,pos:= "ref.go:247",after:=#[{on:=10,ground:=Ground.guard}],guard:=some (10,true)}) (v:=undef) rfl (by kernel_rfl) (by kernel_rfl) (by kernel_rfl) (λ _ _ _ h=>h) (Or.inr ⟨by rfl,rfl⟩) (by assumption) ?_;try simp only [Act.put,List.setIfInBounds_toArray,List.set_cons_zero,List.set_cons_succ]
           refine wpAnyH_take (i:=21) (oi:={dst:=some 54,op:=Op.binOp BinOp.gtr 3 (Operand.tmp 52) (Operand.tmp 53) 3,type:=4,pos:= "ref.go:247",after:=#[{on:=19,ground:=Ground.data},{on:=20,ground:=Ground.data},{on:=10,ground:=Ground.guard}],guard:=some (10,true)}) (v:=undef) rfl (by kernel_rfl) (by kernel_rfl) (by kernel_rfl) (λ _ _ _ h=>h) (Or.inr ⟨by rfl,rfl⟩) (by assumption) ?_;try simp only [Act.put,List.setIfInBounds_toArray,List.set_cons_zero,List.set_cons_succ]
           refine wpAnyH_take (i:=22) (oi:={dst:=some 55,op:=Op.pick (Operand.tmp 43) (Operand.tmp 54) (Operand.const (Value.bool false)),type:=4,pos:= "ref.go:247",after:=#[{on:=10,ground:=Ground.data},{on:=21,ground:=Ground.data}],guard:=none}) (v:=?_) rfl (by kernel_rfl) (by kernel_rfl) (by kernel_rfl) (λ _ _ _ h=>h) (Or.inl ⟨by rfl,?_⟩) (by assumption) ?_;rotate_left
           ·intro w hSw
            try dsimp only at hSw
            first | (go_simp;done) | (go_simp;with_reducible rfl)
           try simp only [Act.put,List.setIfInBounds_toArray,List.set_cons_zero,List.set_cons_succ]
           refine wpAnyH_done (by kernel_rfl) ?_ _;go_wp2_with fail
           go_meet
           case rel=>exact ⟨by rw [HSF.out],HB4.out⟩
         | true=>
           have HSF:Hid (s=decide (N<K)):=by show s=decide (N<K);rw [HS.out];rfl
           go_region_held (λ w'=>(w'.cell? ⟨wo.heap.size,0,none⟩=some (.int .i64 e0)/\w'.cell? ⟨wr.heap.size,0,none⟩=some (.int .i64 d0)/\w'.cell? ⟨w.heap.size,0,none⟩=some (.pointer (some ⟨q,0,none⟩))/\w'.cell? ⟨wa.heap.size,0,none⟩=some (.int .i64 (N:Int)))) (with_reducible assumption)
           (first
             | (go_at_call 123;refine Calls.mono (HF1.out _ HBD.out) ?_;rintro e' w2 ⟨rfl,hS2,hb2⟩;have HB2:Hid (Below W1.heap.size W1 w2):=hb2;clear hb2 HF1)
             | (go_at_call 123;refine Calls.mono (HF2.out _ HB2.out) ?_;rintro e' w4 ⟨rfl,hS4,hS5,hb4⟩;have HB4:Hid (Below W1.heap.size W1 w4):=hb4;clear hb4 HF2)
             | (go_at_call 58;refine Calls.mono (HWO.out _ HB4.out) ?_;rintro e' w5 ⟨q',v',rfl,hS6,hb5,hga⟩;have HB5:Hid (Below W1.heap.size W1 w5/\∃B',G.GAt w5 B' 40 61 q' (n:Int) v' (za7 R e d)):=⟨hb5,hga⟩;clear hb5 hga)
             | (go_at_call 59;obtain ⟨B',hga⟩:=HB5.out.2;refine Calls.mono (HLA.out _ q' v' B' HB5.out.1 hga) ?_;rintro e' w6 ⟨b,rfl,hS7,hb6,hpc⟩;have HB6:Hid (Below W1.heap.size W1 w6/\Calls prog 122 #[.slice (some ⟨b,0,none⟩) n n] w6 λ e w''=>e= .returned (.int .i64 (K:Int))/\w''=w6):=⟨hb6,hpc⟩;clear hb6 hpc hga)
             | (go_at_call 122;refine Calls.mono HB6.out.2 ?_;rintro e' w7 ⟨rfl,hw7⟩;subst hw7))
           all_goals
            go_wp2_with fail
            go_meet
            case rel=>exact ⟨by rw [HSF.out],HB6.out.1⟩
      case rest=>
       obtain ⟨rfl,hbc⟩:=hcut;obtain ⟨⟨k1,k2,_,_⟩,_,hpc⟩:=HPK.out wc hbc;have HPC:=kd hpc;clear hbc hpc hS0 HF1 HF2 HWO HLA HPK HBD;cases s with
       | true=>
         as_aux_lemma=>
         have HNO:Hid _:=HSN.out (M++[(e.1,d.1)]) (by rw [if_pos rfl]);obtain ⟨v',w4,hrn,ho4,hg4,hf4⟩:=zfi 65 wc w3.heap.size u5 M e0 d0 HPC.out.own HPC.out.below.size (by have:=HMl.out;omega);have HRN:=kd hrn;have HP4:Hid (PbT w3 w4 wo.heap.size e v' (M++[(e.1,d.1)])):=by
          rw [HEE.out.1,HDD.out];exact HPC.out.more ho4 hg4
         clear hrn ho4 hg4 hf4;go_wp2_with (at_builtin;refine Lib.wpList_append_run _ rfl _ _ _ _ rfl _ _ rfl rfl _ _ HRN.out ?_);go_roundw;case rel=>exact ⟨j+1,by omega,by go_num,_,HP4.out,HNO.out⟩
         case measure=>simp [intOf];omega
       | false=>
         as_aux_lemma=>
         have HNO:Hid _:=HSN.out M (by rw [if_neg (by simp)]);go_wp2_with fail;go_roundw;case rel=>exact ⟨j+1,by omega,by go_num,_,HPC.out,HNO.out⟩
         case measure=>simp [intOf];omega
     ·as_aux_lemma=>
      have HF:Hid (M++zam (L.drop (i+1)) (dq n R)=T):=by
       have h1:=HP.out.2;have h2:(L.drop (i+1)).drop j=[]:=List.drop_eq_nil_of_le (by rw [List.length_drop,HM.out];omega);rw [h2] at h1;exact h1
      clear hr;go_wp2_with fail;go_roundw;case rel=>exact ⟨i+1,by omega,by go_num,M,HP.out.1.own,HP.out.1.below,HF.out⟩
      case measure=>simp [intOf];omega
  ·as_aux_lemma=>
   have HF:Hid (zan wr w.heap.size u5 (zam L (dq n R))/\Below w.heap.size w wr):=by
    have hie:i=m:=by omega
    have h1:=HP.out.2.2;rw [hie,<-HM.out,List.drop_length] at h1;simp only [zam,List.append_nil] at h1;have hb:=HX.out.2;have h2:=HP.out.1;rw [h1,<-HT.out] at h2;exact ⟨h2.mono hb.size,hb.trans (HP.out.2.1.mono hb.size)⟩
   go_wp2_with fail;go_ret;exact ⟨_,rfl,HF.out.1,HF.out.2⟩
end Go.Proofs.YtebcjaenhiiflaaGreatDoor.S
