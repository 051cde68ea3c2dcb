import Derived.Test.YtebcjaenhiiflaaGreatDoorQZm
set_option maxHeartbeats 4000000
set_option maxRecDepth 100000
namespace Go.Proofs.YtebcjaenhiiflaaGreatDoor.I
open Go.RowKit Go.WideMaps Go.Maps Go.Lib
variable {w0 wa w w':World} {d dm n:Nat} {L:List G.E}
noncomputable def weZ (n:Nat) (L:List G.E) (i j:Int):Int × Int:=open Classical in if h:∃p:Int × Int,S.WE n L i j p.1 p.2 then h.choose else (0,0)
noncomputable def wnZ (n:Nat) (L:List G.E) (i j:Int):Int × Int:=open Classical in if h:∃p:Int × Int,S.WN n L i j p.1 p.2 then h.choose else (0,0)
theorem weZ_eq {i j k c:Int} (h:S.WE n L i j k c):weZ n L i j=(k,c):=by
 have hx:∃p:Int × Int,S.WE n L i j p.1 p.2:=⟨(k,c),h⟩;unfold weZ;rw [dif_pos hx];obtain ⟨h1,h2⟩:=S.WE.one hx.choose_spec h;exact Prod.ext h1 h2
theorem wnZ_eq {i j k c:Int} (h:S.WN n L i j k c):wnZ n L i j=(k,c):=by
 have hx:∃p:Int × Int,S.WN n L i j p.1 p.2:=⟨(k,c),h⟩;unfold wnZ;rw [dif_pos hx];obtain ⟨h1,h2⟩:=S.WN.one hx.choose_spec h;exact Prod.ext h1 h2
theorem we_bounds {i j k c:Int} (h:S.WE n L i j k c):(0<=k/\k<=120)/\0<=c/\c<=2:=by
 rcases h with ⟨h1,rfl⟩ | ⟨x,y,_,_,_,_,_,rfl,hv⟩
 ·rcases h1 with ⟨_,rfl⟩ | ⟨_,_,rfl⟩ <;> omega
 ·have h1:=hv.pos
  have h2:=hv.le;omega
theorem wn_bounds {i j k c:Int} (h:S.WN n L i j k c):0<=k/\k<=120:=by
 rcases h with ⟨h1,rfl⟩ | ⟨x,y,_,_,_,_,_,rfl,hv⟩
 ·omega
 ·exact ⟨hv.pos,hv.le⟩
noncomputable def dkWays (n:Nat) (L:List G.E) (i j:Int):Out:=if (weZ n L i j).2=0 then (.ok (lineI [(weZ n L i j).1,(wnZ n L i j).1]),n,L) else (.error (weZ n L i j).2,n,L)
theorem dk_ways {i j:Int} {u:Value} (h:DkS w0 wa d dm n L) (hn:InAt wa w [i,j] u) (hv:Vars wa) (hk:∃k1 k2 c,S.WE n L i j k1 c/\S.WN n L i j k2 c):
 Calls Tryz.prog 164 #[.pointer (some ⟨d,0,none⟩),u] w (DkPost w0 d dm (dkWays n L i j) wa):=by
 obtain ⟨g,c,rfl,hg1,hg2,hc⟩:=in_cells hn (by simp);have HS0:=kd h;have HV:=kd hv;have hbd:Below wa.heap.size wa w.drew:=hn.2.trans ((Below.refl _ _).drew);have HBA:=kd hbd;obtain ⟨a,b,x,hiv,hdc⟩:=(h.below' hbd).iv;have hS:w.drew.cell? ⟨d,0,none⟩=some (.pointer (some ⟨x,0,none⟩))/\w.drew.cell? ⟨g,0,none⟩=some (.int .i64 i)/\w.drew.cell? ⟨g,1,none⟩=some (.int .i64 j):=⟨hdc,hc 0 i rfl,hc 1 j rfl⟩;obtain ⟨k1,k2,cc,hwe,hwn⟩:=hk;unfold dkWays;rw [weZ_eq hwe,wnZ_eq hwn];dsimp only;by_cases hz:cc=0
 ·rw [if_pos hz]
  subst hz;have HE:Hid (Calls Tryz.prog 70 #[.pointer (some ⟨x,0,none⟩),.int .i64 i,.int .i64 j] w.drew λ e w'=>e= .returned (.tuple #[.int .i64 k1,.nilIface])/\Below w.drew.heap.size w.drew w'):=by
   refine kd (Calls.mono (ibyE hiv i j) ?_);rintro e w' ⟨k,c',h1,rfl,hb⟩;obtain ⟨rfl,rfl⟩:=S.WE.one h1 hwe;exact ⟨by simp [G.errV],hb⟩
  have HN:Hid (∀W,Below w.drew.heap.size w.drew W->Calls Tryz.prog 71 #[.pointer (some ⟨x,0,none⟩),.int .i64 i,.int .i64 j] W λ e w'=>e= .returned (.tuple #[.int .i64 k2,.nilIface])/\Below W.heap.size W w'):=by
   refine kd (λ W hW=>Calls.mono (ibyN (hiv.below hW) i j) ?_);rintro e w' ⟨k,c',h1,rfl,hb⟩;obtain ⟨rfl,rfl⟩:=S.WN.one h1 hwn;exact ⟨by simp [G.errV],hb⟩
  have HK:Hid (∀y∈[k1,k2],0<=y/\y<=9223372036854775807):=kd (λ y hy=>by
   have h1:=(we_bounds hwe).1;have h2:=wn_bounds hwn;simp at hy;rcases hy with rfl | rfl <;> omega)
  clear h hn hc hbd hg1 hg2 hiv hdc hwe hwn hv;go_enter Tryz.func164,Tryz.ntmps164;go_wp2_with fail;refine wp_region_held_drew (S:=(λ w'=>w'.cell? ⟨d,0,none⟩=some (.pointer (some ⟨x,0,none⟩))/\w'.cell? ⟨g,0,none⟩=some (.int .i64 i)/\w'.cell? ⟨g,1,none⟩=some (.int .i64 j))) (by kernel_rfl) ?_ (λ hHeld=>?_)
  ·exact hS
  refine wpAnyH_take (i:=0) (v:=?_) rfl (by kernel_rfl) (by kernel_rfl) (by kernel_rfl) (λ _ _ _ h=>h) (Or.inl ⟨by rfl,?_⟩) (by assumption) ?_;rotate_left
  ·intro w hSw
   try dsimp only at hSw
   first | (go_simp;done) | (go_simp;with_reducible rfl)
  try simp only [Act.put]
  refine wpAnyH_take (i:=1) (v:=?_) rfl (by kernel_rfl) (by kernel_rfl) (by kernel_rfl) (λ _ _ _ h=>h) (Or.inl ⟨by rfl,?_⟩) (by assumption) ?_;rotate_left
  ·intro w hSw
   try dsimp only at hSw
   first | (go_simp;done) | (go_simp;with_reducible rfl)
  try simp only [Act.put]
  refine wpAnyH_take (i:=2) (v:=?_) rfl (by kernel_rfl) (by kernel_rfl) (by kernel_rfl) (λ _ _ _ h=>h) (Or.inl ⟨by rfl,?_⟩) (by assumption) ?_;rotate_left
  ·intro w hSw
   try dsimp only at hSw
   first | (go_simp;done) | (go_simp;with_reducible rfl)
  try simp only [Act.put]
  refine wpAnyH_take (i:=3) (v:=?_) rfl (by kernel_rfl) (by kernel_rfl) (by kernel_rfl) (λ _ _ _ h=>h) (Or.inl ⟨by rfl,?_⟩) (by assumption) ?_;rotate_left
  ·intro w hSw
   try dsimp only at hSw
   first | (go_simp;done) | (go_simp;with_reducible rfl)
  try simp only [Act.put]
  refine wpAnyH_take (i:=4) (v:=?_) rfl (by kernel_rfl) (by kernel_rfl) (by kernel_rfl) (λ _ _ _ h=>h) (Or.inl ⟨by rfl,?_⟩) (by assumption) ?_;rotate_left
  ·intro w hSw
   try dsimp only at hSw
   first | (go_simp;done) | (go_simp;with_reducible rfl)
  try simp only [Act.put]
  refine wpAnyH_take (i:=5) (v:=?_) rfl (by kernel_rfl) (by kernel_rfl) (by kernel_rfl) (λ _ _ _ h=>h) (Or.inl ⟨by rfl,?_⟩) (by assumption) ?_;rotate_left
  ·intro w hSw
   try dsimp only at hSw
   first | (go_simp;done) | (go_simp;with_reducible rfl)
  try simp only [Act.put]
  refine wpAnyH_take (i:=6) (v:=?_) rfl (by kernel_rfl) (by kernel_rfl) (by kernel_rfl) (λ _ _ _ h=>h) (Or.inl ⟨by rfl,?_⟩) (by assumption) ?_;rotate_left
  ·intro w hSw
   try dsimp only at hSw
   first | (go_simp;done) | (go_simp;with_reducible rfl)
  try simp only [Act.put]
  refine wpAnyH_take (i:=7) (v:=?_) rfl (by kernel_rfl) (by kernel_rfl) (by kernel_rfl) (λ _ _ _ h=>h) (Or.inl ⟨by rfl,?_⟩) (by assumption) ?_;rotate_left
  ·intro w hSw
   try dsimp only at hSw
   first | (go_simp;done) | (go_simp;with_reducible rfl)
  try simp only [Act.put]
  refine wpAnyH_take (i:=8) (v:=?_) rfl (by kernel_rfl) (by kernel_rfl) (by kernel_rfl) (λ _ _ _ h=>h) (Or.inl ⟨by rfl,?_⟩) (by assumption) ?_;rotate_left
  ·intro w hSw
   try dsimp only at hSw
   first | (go_simp;done) | (go_simp;with_reducible rfl)
  try simp only [Act.put]
  refine wpAnyH_take (i:=9) (v:=?_) rfl (by kernel_rfl) (by kernel_rfl) (by kernel_rfl) (λ _ _ _ h=>h) (Or.inl ⟨by rfl,?_⟩) (by assumption) ?_;rotate_left
  ·intro w hSw
   try dsimp only at hSw
   first | (go_simp;done) | (go_simp;with_reducible rfl)
  try simp only [Act.put]
  refine wpAnyH_take (i:=14) (v:=?_) rfl (by kernel_rfl) (by kernel_rfl) (by kernel_rfl) (λ _ _ _ h=>h) (Or.inl ⟨by rfl,?_⟩) (by assumption) ?_;rotate_left
  ·intro w hSw
   try dsimp only at hSw
   first | (go_simp;done) | (go_simp;with_reducible rfl)
  try simp only [Act.put]
  refine wpAnyH_take (i:=15) (v:=?_) rfl (by kernel_rfl) (by kernel_rfl) (by kernel_rfl) (λ _ _ _ h=>h) (Or.inl ⟨by rfl,?_⟩) (by assumption) ?_;rotate_left
  ·intro w hSw
   try dsimp only at hSw
   first | (go_simp;done) | (go_simp;with_reducible rfl)
  try simp only [Act.put]
  refine wpAnyH_take (i:=16) (v:=?_) rfl (by kernel_rfl) (by kernel_rfl) (by kernel_rfl) (λ _ _ _ h=>h) (Or.inl ⟨by rfl,?_⟩) (by assumption) ?_;rotate_left
  ·intro w hSw
   try dsimp only at hSw
   first | (go_simp;done) | (go_simp;with_reducible rfl)
  try simp only [Act.put]
  refine wpAnyH_take (i:=17) (v:=?_) rfl (by kernel_rfl) (by kernel_rfl) (by kernel_rfl) (λ _ _ _ h=>h) (Or.inl ⟨by rfl,?_⟩) (by assumption) ?_;rotate_left
  ·intro w hSw
   try dsimp only at hSw
   first | (go_simp;done) | (go_simp;with_reducible rfl)
  try simp only [Act.put]
  refine wpAnyH_take (i:=18) (v:=?_) rfl (by kernel_rfl) (by kernel_rfl) (by kernel_rfl) (λ _ _ _ h=>h) (Or.inl ⟨by rfl,?_⟩) (by assumption) ?_;rotate_left
  ·intro w hSw
   try dsimp only at hSw
   first | (go_simp;done) | (go_simp;with_reducible rfl)
  try simp only [Act.put]
  refine wpAnyH_take (i:=19) (v:=?_) rfl (by kernel_rfl) (by kernel_rfl) (by kernel_rfl) (λ _ _ _ h=>h) (Or.inl ⟨by rfl,?_⟩) (by assumption) ?_;rotate_left
  ·intro w hSw
   try dsimp only at hSw
   first | (go_simp;done) | (go_simp;with_reducible rfl)
  try simp only [Act.put]
  refine wpAnyH_take (i:=20) (v:=?_) rfl (by kernel_rfl) (by kernel_rfl) (by kernel_rfl) (λ _ _ _ h=>h) (Or.inl ⟨by rfl,?_⟩) (by assumption) ?_;rotate_left
  ·intro w hSw
   try dsimp only at hSw
   first | (go_simp;done) | (go_simp;with_reducible rfl)
  try simp only [Act.put]
  refine wpAnyH_take (i:=21) (v:=?_) rfl (by kernel_rfl) (by kernel_rfl) (by kernel_rfl) (λ _ _ _ h=>h) (Or.inl ⟨by rfl,?_⟩) (by assumption) ?_;rotate_left
  ·intro w hSw
   try dsimp only at hSw
   first | (go_simp;done) | (go_simp;with_reducible rfl)
  try simp only [Act.put]
  refine wpAnyH_take (i:=22) (v:=?_) rfl (by kernel_rfl) (by kernel_rfl) (by kernel_rfl) (λ _ _ _ h=>h) (Or.inl ⟨by rfl,?_⟩) (by assumption) ?_;rotate_left
  ·intro w hSw
   try dsimp only at hSw
   first | (go_simp;done) | (go_simp;with_reducible rfl)
  try simp only [Act.put]
  refine wpAnyH_take (i:=23) (v:=?_) rfl (by kernel_rfl) (by kernel_rfl) (by kernel_rfl) (λ _ _ _ h=>h) (Or.inl ⟨by rfl,?_⟩) (by assumption) ?_;rotate_left
  ·intro w hSw
   try dsimp only at hSw
   first | (go_simp;done) | (go_simp;with_reducible rfl)
  try simp only [Act.put]
  refine wpAnyH_ready (rs:=[10]) (by kernel_rfl) (by simp) ?_;refine AllReadyH.cons rfl (λ K hK=>?_) AllReadyH.nil;go_simp;refine Calls.mono HE.out ?_;rintro e w1 ⟨rfl,hb1⟩;have hS1:w1.cell? ⟨d,0,none⟩=some (.pointer (some ⟨x,0,none⟩))/\w1.cell? ⟨g,0,none⟩=some (.int .i64 i)/\w1.cell? ⟨g,1,none⟩=some (.int .i64 j):=⟨S.cell_below hS.1 hb1,S.cell_below hS.2.1 hb1,S.cell_below hS.2.2 hb1⟩;have HB1:=kd (HBA.out.trans (hb1.mono HBA.out.size));have HN1:=kd (HN.out w1 hb1);clear hb1 HE HN;refine hK.out _ _ ?_ (λ hHeld=>?_)
  ·exact hS1
  clear hK K;refine wpAnyH_take (i:=11) (v:=?_) rfl (by kernel_rfl) (by kernel_rfl) (by kernel_rfl) (λ _ _ _ h=>h) (Or.inl ⟨by rfl,?_⟩) (by assumption) ?_;rotate_left
  ·intro w hSw
   try dsimp only at hSw
   first | (go_simp;done) | (go_simp;with_reducible rfl)
  try simp only [Act.put]
  refine wpAnyH_take (i:=12) (v:=?_) rfl (by kernel_rfl) (by kernel_rfl) (by kernel_rfl) (λ _ _ _ h=>h) (Or.inl ⟨by rfl,?_⟩) (by assumption) ?_;rotate_left
  ·intro w hSw
   try dsimp only at hSw
   first | (go_simp;done) | (go_simp;with_reducible rfl)
  try simp only [Act.put]
  refine wpAnyH_ready (rs:=[13]) (by kernel_rfl) (by simp) ?_;refine AllReadyH.cons rfl (λ K hK=>?_) AllReadyH.nil;go_simp;refine Calls.mono (soundI_none _ _) ?_;rintro e w2 ⟨rfl,hw2⟩;subst hw2;refine hK.out _ _ ?_ (λ hHeld=>?_)
  ·exact hS1
  clear hK K;refine wpAnyH_ready (rs:=[24]) (by kernel_rfl) (by simp) ?_;refine AllReadyH.cons rfl (λ K hK=>?_) AllReadyH.nil;go_simp;refine Calls.mono HN1.out ?_;rintro e w3 ⟨rfl,hb3⟩;have hS3:w3.cell? ⟨d,0,none⟩=some (.pointer (some ⟨x,0,none⟩))/\w3.cell? ⟨g,0,none⟩=some (.int .i64 i)/\w3.cell? ⟨g,1,none⟩=some (.int .i64 j):=⟨S.cell_below hS1.1 hb3,S.cell_below hS1.2.1 hb3,S.cell_below hS1.2.2 hb3⟩;have HB3:=kd (HB1.out.trans (hb3.mono HB1.out.size));clear hb3 HN1;refine hK.out _ _ ?_ (λ hHeld=>?_)
  ·exact hS3
  clear hK K;refine wpAnyH_take (i:=25) (v:=?_) rfl (by kernel_rfl) (by kernel_rfl) (by kernel_rfl) (λ _ _ _ h=>h) (Or.inl ⟨by rfl,?_⟩) (by assumption) ?_;rotate_left
  ·intro w hSw
   try dsimp only at hSw
   first | (go_simp;done) | (go_simp;with_reducible rfl)
  try simp only [Act.put]
  refine wpAnyH_take (i:=26) (v:=?_) rfl (by kernel_rfl) (by kernel_rfl) (by kernel_rfl) (λ _ _ _ h=>h) (Or.inl ⟨by rfl,?_⟩) (by assumption) ?_;rotate_left
  ·intro w hSw
   try dsimp only at hSw
   first | (go_simp;done) | (go_simp;with_reducible rfl)
  try simp only [Act.put]
  refine wpAnyH_ready (rs:=[27]) (by kernel_rfl) (by simp) ?_;refine AllReadyH.cons rfl (λ K hK=>?_) AllReadyH.nil;go_simp;refine Calls.mono (soundI_none _ _) ?_;rintro e w4 ⟨rfl,hw4⟩;subst hw4;refine hK.out _ _ ?_ (λ hHeld=>?_)
  ·exact hS3
  clear hK K;refine wpAnyH_ready (rs:=[28]) (by kernel_rfl) (by simp) ?_;refine AllReadyH.cons rfl (λ K hK=>?_) AllReadyH.nil;go_simp;have hb5:Below w4.heap.size w4 (w4.alloc (.cells #[.int .i64 k1,.int .i64 k2] 3)):=(Below.refl _ _).alloc (Nat.le_refl _) _;have hS5:(w4.alloc (.cells #[.int .i64 k1,.int .i64 k2] 3)).cell? ⟨d,0,none⟩=some (.pointer (some ⟨x,0,none⟩))/\(w4.alloc (.cells #[.int .i64 k1,.int .i64 k2] 3)).cell? ⟨g,0,none⟩=some (.int .i64 i)/\(w4.alloc (.cells #[.int .i64 k1,.int .i64 k2] 3)).cell? ⟨g,1,none⟩=some (.int .i64 j):=⟨S.cell_below hS3.1 hb5,S.cell_below hS3.2.1 hb5,S.cell_below hS3.2.2 hb5⟩;refine hK.out _ _ ?_ (λ hHeld=>?_)
  ·exact hS5
  clear hK K;refine wpAnyH_ready (rs:=[29]) (by kernel_rfl) (by simp) ?_;refine AllReadyH.cons rfl (λ K hK=>?_) AllReadyH.nil;go_simp;have HR:=kd (row_any (some ⟨w4.heap.size,0,none⟩) 2 2 [k1,k2] (w4.alloc (.cells #[.int .i64 k1,.int .i64 k2] 3)) rfl (zs_two w4 k1 k2) HK.out (by simp) (((HV.out.on HB3.out HV.out.big)).below hb5));have HB5:=kd (HB3.out.trans (hb5.mono HB3.out.size));refine Calls.mono HR.out ?_;rintro e w6 ⟨rfl,hb6⟩;have HB6:=kd (HB5.out.trans (hb6.mono HB5.out.size));have hS6:w6.cell? ⟨d,0,none⟩=some (.pointer (some ⟨x,0,none⟩))/\w6.cell? ⟨g,0,none⟩=some (.int .i64 i)/\w6.cell? ⟨g,1,none⟩=some (.int .i64 j):=⟨S.cell_below hS5.1 hb6,S.cell_below hS5.2.1 hb6,S.cell_below hS5.2.2 hb6⟩;refine hK.out _ _ ?_ (λ hHeld=>?_)
  ·exact hS6
  clear hK K;refine wpAnyH_take (i:=30) (oi:={dst:=some 4,op:=Op.assign (Operand.tmp 34),type:=9,pos:= "deeds.go:66",after:=#[{on:=29,ground:=Ground.data},{on:=29,ground:=Ground.chain},{on:=0,ground:=Ground.phase},{on:=1,ground:=Ground.phase},{on:=2,ground:=Ground.phase},{on:=3,ground:=Ground.phase},{on:=4,ground:=Ground.phase},{on:=5,ground:=Ground.phase},{on:=6,ground:=Ground.phase},{on:=7,ground:=Ground.phase},{on:=8,ground:=Ground.phase},{on:=9,ground:=Ground.phase},{on:=10,ground:=Ground.phase},{on:=11,ground:=Ground.phase},{on:=12,ground:=Ground.phase},{on:=13,ground:=Ground.phase},{on:=14,ground:=Ground.phase},{on:=15,ground:=Ground.phase},{on:=16,ground:=Ground.phase},{on:=17,ground:=Ground.phase},{on:=18,ground:=Ground.phase},{on:=19,ground:=Ground.phase},{on:=20,ground:=Ground.phase},{on:=21,ground:=Ground.phase},{on:=22,ground:=Ground.phase},{on:=23,ground:=Ground.phase},{on:=24,ground:=Ground.phase},{on:=25,ground:=Ground.phase},{on:=26,ground:=Ground.phase},{on:=27,ground:=Ground.phase},{on:=28,ground:=Ground.phase},{on:=29,ground:=Ground.phase}],guard:=none}) (v:=?_) rfl (by kernel_rfl) (by kernel_rfl) (by kernel_rfl) (λ _ _ _ h=>h) (Or.inl ⟨by rfl,?_⟩) (by assumption) ?_;rotate_left
  ·intro w hSw
   try dsimp only at hSw
   first | (go_simp;done) | (go_simp;with_reducible rfl)
  try simp only [Act.put,List.setIfInBounds_toArray,List.set_cons_zero,List.set_cons_succ]
  refine wpAnyH_done (by kernel_rfl) ?_ _;go_wp2_with fail;go_ret;exact post_read (b:=lineI [k1,k2]) HS0.out (by first | rfl | simp) HB6.out
 ·rw [if_neg hz]
  have HE:Hid (Calls Tryz.prog 70 #[.pointer (some ⟨x,0,none⟩),.int .i64 i,.int .i64 j] w.drew λ e w'=>∃k,e= .returned (.tuple #[.int .i64 k,.iface 23 (.int .i64 cc)])/\Below w.drew.heap.size w.drew w'):=by
   refine kd (Calls.mono (ibyE hiv i j) ?_);rintro e w' ⟨k,c',h1,rfl,hb⟩;obtain ⟨rfl,rfl⟩:=S.WE.one h1 hwe;exact ⟨k,by simp [G.errV,hz],hb⟩
  clear h hn hc hbd hg1 hg2 hiv hdc hwe hwn hv hz;go_enter Tryz.func164,Tryz.ntmps164;go_wp2_with fail;refine wp_region_held_drew (S:=(λ w'=>w'.cell? ⟨d,0,none⟩=some (.pointer (some ⟨x,0,none⟩))/\w'.cell? ⟨g,0,none⟩=some (.int .i64 i)/\w'.cell? ⟨g,1,none⟩=some (.int .i64 j))) (by kernel_rfl) ?_ (λ hHeld=>?_)
  ·exact hS
  refine wpAnyH_take (i:=0) (v:=?_) rfl (by kernel_rfl) (by kernel_rfl) (by kernel_rfl) (λ _ _ _ h=>h) (Or.inl ⟨by rfl,?_⟩) (by assumption) ?_;rotate_left
  ·intro w hSw
   try dsimp only at hSw
   first | (go_simp;done) | (go_simp;with_reducible rfl)
  try simp only [Act.put]
  refine wpAnyH_take (i:=1) (v:=?_) rfl (by kernel_rfl) (by kernel_rfl) (by kernel_rfl) (λ _ _ _ h=>h) (Or.inl ⟨by rfl,?_⟩) (by assumption) ?_;rotate_left
  ·intro w hSw
   try dsimp only at hSw
   first | (go_simp;done) | (go_simp;with_reducible rfl)
  try simp only [Act.put]
  refine wpAnyH_take (i:=2) (v:=?_) rfl (by kernel_rfl) (by kernel_rfl) (by kernel_rfl) (λ _ _ _ h=>h) (Or.inl ⟨by rfl,?_⟩) (by assumption) ?_;rotate_left
  ·intro w hSw
   try dsimp only at hSw
   first | (go_simp;done) | (go_simp;with_reducible rfl)
  try simp only [Act.put]
  refine wpAnyH_take (i:=3) (v:=?_) rfl (by kernel_rfl) (by kernel_rfl) (by kernel_rfl) (λ _ _ _ h=>h) (Or.inl ⟨by rfl,?_⟩) (by assumption) ?_;rotate_left
  ·intro w hSw
   try dsimp only at hSw
   first | (go_simp;done) | (go_simp;with_reducible rfl)
  try simp only [Act.put]
  refine wpAnyH_take (i:=4) (v:=?_) rfl (by kernel_rfl) (by kernel_rfl) (by kernel_rfl) (λ _ _ _ h=>h) (Or.inl ⟨by rfl,?_⟩) (by assumption) ?_;rotate_left
  ·intro w hSw
   try dsimp only at hSw
   first | (go_simp;done) | (go_simp;with_reducible rfl)
  try simp only [Act.put]
  refine wpAnyH_take (i:=5) (v:=?_) rfl (by kernel_rfl) (by kernel_rfl) (by kernel_rfl) (λ _ _ _ h=>h) (Or.inl ⟨by rfl,?_⟩) (by assumption) ?_;rotate_left
  ·intro w hSw
   try dsimp only at hSw
   first | (go_simp;done) | (go_simp;with_reducible rfl)
  try simp only [Act.put]
  refine wpAnyH_take (i:=6) (v:=?_) rfl (by kernel_rfl) (by kernel_rfl) (by kernel_rfl) (λ _ _ _ h=>h) (Or.inl ⟨by rfl,?_⟩) (by assumption) ?_;rotate_left
  ·intro w hSw
   try dsimp only at hSw
   first | (go_simp;done) | (go_simp;with_reducible rfl)
  try simp only [Act.put]
  refine wpAnyH_take (i:=7) (v:=?_) rfl (by kernel_rfl) (by kernel_rfl) (by kernel_rfl) (λ _ _ _ h=>h) (Or.inl ⟨by rfl,?_⟩) (by assumption) ?_;rotate_left
  ·intro w hSw
   try dsimp only at hSw
   first | (go_simp;done) | (go_simp;with_reducible rfl)
  try simp only [Act.put]
  refine wpAnyH_take (i:=8) (v:=?_) rfl (by kernel_rfl) (by kernel_rfl) (by kernel_rfl) (λ _ _ _ h=>h) (Or.inl ⟨by rfl,?_⟩) (by assumption) ?_;rotate_left
  ·intro w hSw
   try dsimp only at hSw
   first | (go_simp;done) | (go_simp;with_reducible rfl)
  try simp only [Act.put]
  refine wpAnyH_take (i:=9) (v:=?_) rfl (by kernel_rfl) (by kernel_rfl) (by kernel_rfl) (λ _ _ _ h=>h) (Or.inl ⟨by rfl,?_⟩) (by assumption) ?_;rotate_left
  ·intro w hSw
   try dsimp only at hSw
   first | (go_simp;done) | (go_simp;with_reducible rfl)
  try simp only [Act.put]
  refine wpAnyH_take (i:=14) (v:=?_) rfl (by kernel_rfl) (by kernel_rfl) (by kernel_rfl) (λ _ _ _ h=>h) (Or.inl ⟨by rfl,?_⟩) (by assumption) ?_;rotate_left
  ·intro w hSw
   try dsimp only at hSw
   first | (go_simp;done) | (go_simp;with_reducible rfl)
  try simp only [Act.put]
  refine wpAnyH_take (i:=15) (v:=?_) rfl (by kernel_rfl) (by kernel_rfl) (by kernel_rfl) (λ _ _ _ h=>h) (Or.inl ⟨by rfl,?_⟩) (by assumption) ?_;rotate_left
  ·intro w hSw
   try dsimp only at hSw
   first | (go_simp;done) | (go_simp;with_reducible rfl)
  try simp only [Act.put]
  refine wpAnyH_take (i:=16) (v:=?_) rfl (by kernel_rfl) (by kernel_rfl) (by kernel_rfl) (λ _ _ _ h=>h) (Or.inl ⟨by rfl,?_⟩) (by assumption) ?_;rotate_left
  ·intro w hSw
   try dsimp only at hSw
   first | (go_simp;done) | (go_simp;with_reducible rfl)
  try simp only [Act.put]
  refine wpAnyH_take (i:=17) (v:=?_) rfl (by kernel_rfl) (by kernel_rfl) (by kernel_rfl) (λ _ _ _ h=>h) (Or.inl ⟨by rfl,?_⟩) (by assumption) ?_;rotate_left
  ·intro w hSw
   try dsimp only at hSw
   first | (go_simp;done) | (go_simp;with_reducible rfl)
  try simp only [Act.put]
  refine wpAnyH_take (i:=18) (v:=?_) rfl (by kernel_rfl) (by kernel_rfl) (by kernel_rfl) (λ _ _ _ h=>h) (Or.inl ⟨by rfl,?_⟩) (by assumption) ?_;rotate_left
  ·intro w hSw
   try dsimp only at hSw
   first | (go_simp;done) | (go_simp;with_reducible rfl)
  try simp only [Act.put]
  refine wpAnyH_take (i:=19) (v:=?_) rfl (by kernel_rfl) (by kernel_rfl) (by kernel_rfl) (λ _ _ _ h=>h) (Or.inl ⟨by rfl,?_⟩) (by assumption) ?_;rotate_left
  ·intro w hSw
   try dsimp only at hSw
   first | (go_simp;done) | (go_simp;with_reducible rfl)
  try simp only [Act.put]
  refine wpAnyH_take (i:=20) (v:=?_) rfl (by kernel_rfl) (by kernel_rfl) (by kernel_rfl) (λ _ _ _ h=>h) (Or.inl ⟨by rfl,?_⟩) (by assumption) ?_;rotate_left
  ·intro w hSw
   try dsimp only at hSw
   first | (go_simp;done) | (go_simp;with_reducible rfl)
  try simp only [Act.put]
  refine wpAnyH_take (i:=21) (v:=?_) rfl (by kernel_rfl) (by kernel_rfl) (by kernel_rfl) (λ _ _ _ h=>h) (Or.inl ⟨by rfl,?_⟩) (by assumption) ?_;rotate_left
  ·intro w hSw
   try dsimp only at hSw
   first | (go_simp;done) | (go_simp;with_reducible rfl)
  try simp only [Act.put]
  refine wpAnyH_take (i:=22) (v:=?_) rfl (by kernel_rfl) (by kernel_rfl) (by kernel_rfl) (λ _ _ _ h=>h) (Or.inl ⟨by rfl,?_⟩) (by assumption) ?_;rotate_left
  ·intro w hSw
   try dsimp only at hSw
   first | (go_simp;done) | (go_simp;with_reducible rfl)
  try simp only [Act.put]
  refine wpAnyH_take (i:=23) (v:=?_) rfl (by kernel_rfl) (by kernel_rfl) (by kernel_rfl) (λ _ _ _ h=>h) (Or.inl ⟨by rfl,?_⟩) (by assumption) ?_;rotate_left
  ·intro w hSw
   try dsimp only at hSw
   first | (go_simp;done) | (go_simp;with_reducible rfl)
  try simp only [Act.put]
  refine wpAnyH_ready (rs:=[10]) (by kernel_rfl) (by simp) ?_;refine AllReadyH.cons rfl (λ K hK=>?_) AllReadyH.nil;go_simp;refine Calls.mono HE.out ?_;rintro e w1 ⟨k,rfl,hb1⟩;have hS1:w1.cell? ⟨d,0,none⟩=some (.pointer (some ⟨x,0,none⟩))/\w1.cell? ⟨g,0,none⟩=some (.int .i64 i)/\w1.cell? ⟨g,1,none⟩=some (.int .i64 j):=⟨S.cell_below hS.1 hb1,S.cell_below hS.2.1 hb1,S.cell_below hS.2.2 hb1⟩;have HB1:=kd (HBA.out.trans (hb1.mono HBA.out.size));clear hb1 HE;refine hK.out _ _ ?_ (λ hHeld=>?_)
  ·exact hS1
  clear hK K;refine wpAnyH_take (i:=11) (v:=?_) rfl (by kernel_rfl) (by kernel_rfl) (by kernel_rfl) (λ _ _ _ h=>h) (Or.inl ⟨by rfl,?_⟩) (by assumption) ?_;rotate_left
  ·intro w hSw
   try dsimp only at hSw
   first | (go_simp;done) | (go_simp;with_reducible rfl)
  try simp only [Act.put]
  refine wpAnyH_take (i:=12) (v:=?_) rfl (by kernel_rfl) (by kernel_rfl) (by kernel_rfl) (λ _ _ _ h=>h) (Or.inl ⟨by rfl,?_⟩) (by assumption) ?_;rotate_left
  ·intro w hSw
   try dsimp only at hSw
   first | (go_simp;done) | (go_simp;with_reducible rfl)
  try simp only [Act.put]
  refine wpAnyH_ready (rs:=[13]) (by kernel_rfl) (by simp) ?_;refine AllReadyH.cons rfl (λ K hK=>?_) AllReadyH.nil;go_simp;refine Calls.mono (soundI_err _ _ _ _) ?_;rintro e w2 ⟨rfl,hw2⟩;subst hw2;exact ⟨rfl,post_err HS0.out rfl HB1.out⟩
end Go.Proofs.YtebcjaenhiiflaaGreatDoor.I
