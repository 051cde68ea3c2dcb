import Derived.Test.YtebcjaenhiiflaaGreatDoorQPbZl
import Derived.Test.YtebcjaenhiiflaaGreatDoorQSy
set_option maxHeartbeats 2000000
set_option maxRecDepth 100000
namespace Go.Proofs.YtebcjaenhiiflaaGreatDoor.I
open Go.RowKit Go.WideMaps Go.Maps Go.Lib
variable {w0 wa w w':World} {d dm n:Nat} {L:List G.E}
theorem fbool_any (b:Bool) (w:World):Calls Tryz.prog 173 #[.bool b] w λ e w'=>e= .returned (.string ⟨(Lib.formatBool b).toArray⟩)/\w'=w:=
 Any.strconv_FormatBool Tryz.lays121 b w
noncomputable def dkAdd (n:Nat) (L:List G.E) (i a b:Int):Out:=
 if addC n L i a b=0 then (.ok (Lib.formatBool (decide (i∈brz n (addL n L i a b)))),n,addL n L i a b) else (.error (addC n L i a b),n,L)
def dkDrop (n:Nat) (L:List G.E) (i:Int):Out:=if dropC L i=0 then (.ok [100,114,111,112],n,dropL L i) else (.error (dropC L i),n,L)
noncomputable def dkWhole (n:Nat) (L:List G.E) (i j:Int):Out:=if inB n i j then (.ok (Lib.formatBool (whB n L i j)),n,L) else (.error 2,n,L)
noncomputable def dkTwice (n:Nat) (L:List G.E) (i j:Int):Out:=if inB n i j then (.ok (Lib.formatBool (twB n L i j)),n,L) else (.error 2,n,L)
theorem dk_add {i a b:Int} {u:Value} (h:DkS w0 wa d dm n L) (hn:InAt wa w [i,a,b] u):
 Calls Tryz.prog 151 #[.pointer (some ⟨d,0,none⟩),u] w (DkPost w0 d dm (dkAdd n L i a b) wa):=by
 obtain ⟨g,c,rfl,hg1,hg2,hc⟩:=in_cells hn (by simp);have HS0:=kd h;obtain ⟨x,p,q,v,R,B,W,T,D,pw,bw,pt,bt,mp,N,h⟩:=h;have hbd:Below wa.heap.size wa w.drew:=hn.2.trans ((Below.refl _ _).drew);have HBA:=kd hbd;have HH:=kd (h.below' hbd);have hS:w.drew.cell? ⟨d,0,none⟩=some (.pointer (some ⟨x,0,none⟩))/\w.drew.cell? ⟨g,0,none⟩=some (.int .i64 i)/\w.drew.cell? ⟨g,1,none⟩=some (.int .i64 a)/\w.drew.cell? ⟨g,2,none⟩=some (.int .i64 b):=
  ⟨(desk_cell HH.out.cell).1,hc 0 i rfl,hc 1 a rfl,hc 2 b rfl⟩
 have HA:=kd (dk_iadd h hbd i a b);have HG:=kd (show wa.heap.size<=g/\g<w.drew.heap.size from ⟨hg1,hg2⟩);clear h hn hc hbd hg1 hg2;unfold dkAdd;by_cases hz:addC n L i a b=0
 ·rw [if_pos hz]
  have HA2:Hid (Calls Tryz.prog 21 #[.pointer (some ⟨x,0,none⟩),.int .i64 i,.int .i64 a,.int .i64 b] w.drew λ e w'=>e= .returned (.tuple #[.bool (decide (i∈brz n (addL n L i a b))),.nilIface])/\Dw w0 wa w.drew d dm n (addL n L i a b) w'):=by
   refine kd (Calls.mono HA.out ?_);rintro e w' ⟨ok,rfl,hd,hk⟩;have h1:ok=decide (i∈brz n (addL n L i a b)):=by
    have h2:=hk hz;cases ok
    ·exact (decide_eq_false (λ k=>by have:=h2.2 k;cases this)).symm
    ·exact (decide_eq_true (h2.1 rfl)).symm
   rw [h1];exact ⟨by rw [hz];simp [G.errV],hd⟩
  clear HA hz;generalize decide (i∈brz n (addL n L i a b))=t at*;generalize addL n L i a b=L2 at*;go_enter Tryz.func151,Tryz.ntmps151;go_wp2_with fail;go_region_held (λ w'=>w'.cell? ⟨d,0,none⟩=some (.pointer (some ⟨x,0,none⟩))/\w'.cell? ⟨g,0,none⟩=some (.int .i64 i)/\w'.cell? ⟨g,1,none⟩=some (.int .i64 a)/\w'.cell? ⟨g,2,none⟩=some (.int .i64 b)) (with_reducible assumption)
   (first
     | (go_at_call 21;refine Calls.mono HA2.out ?_;rintro e w1 ⟨rfl,hd⟩;have HD:=kd hd;have hS1:w1.cell? ⟨d,0,none⟩=some (.pointer (some ⟨x,0,none⟩))/\w1.cell? ⟨g,0,none⟩=some (.int .i64 i)/\w1.cell? ⟨g,1,none⟩=some (.int .i64 a)/\w1.cell? ⟨g,2,none⟩=some (.int .i64 b):=⟨cell_kept1 hd.dsk hS.1,cell_kept1 (hd.new g HG.out.1 HG.out.2) hS.2.1,cell_kept1 (hd.new g HG.out.1 HG.out.2) hS.2.2.1,cell_kept1 (hd.new g HG.out.1 HG.out.2) hS.2.2.2⟩;clear hd HA2)
     | (go_at_call 262;refine Calls.mono (sound_none _ _) ?_;rintro e w2 ⟨rfl,hw2⟩;subst hw2)
     | (go_at_call 173;refine Calls.mono (fbool_any _ _) ?_;rintro e w3 ⟨rfl,hw3⟩;subst hw3))
  all_goals
   go_wp2_with fail;go_ret;exact ⟨rfl,HD.out.s,HD.out.k⟩
 ·rw [if_neg hz]
  have HA2:Hid (Calls Tryz.prog 21 #[.pointer (some ⟨x,0,none⟩),.int .i64 i,.int .i64 a,.int .i64 b] w.drew λ e w'=>∃ok,e= .returned (.tuple #[.bool ok,.iface 23 (.int .i64 (addC n L i a b))])/\Dw w0 wa w.drew d dm n L w'):=by
   refine kd (Calls.mono HA.out ?_);rintro e w' ⟨ok,rfl,hd,hk⟩;refine ⟨ok,by simp [G.errV,hz],?_⟩;unfold addL at hd
   rwa [if_neg hz] at hd
  clear HA hz;generalize addC n L i a b=k at*;go_enter Tryz.func151,Tryz.ntmps151;go_wp2_with fail;refine wp_region_held_drew (S:=(λ w'=>w'.cell? ⟨d,0,none⟩=some (.pointer (some ⟨x,0,none⟩))/\w'.cell? ⟨g,0,none⟩=some (.int .i64 i)/\w'.cell? ⟨g,1,none⟩=some (.int .i64 a)/\w'.cell? ⟨g,2,none⟩=some (.int .i64 b))) (by kernel_rfl) ?_ (λ hHeld=>?_)
  ·exact hS
  refine wpAnyH_take (i:=0) (v:=?_) rfl (by kernel_rfl) (by kernel_rfl) (by kernel_rfl) (λ _ _ _ h=>h) (Or.inl ⟨by rfl,?_⟩) (by assumption) ?_;rotate_left
  ·intro w hSw
   try dsimp only at hSw
   first | (go_simp;done) | (go_simp;with_reducible rfl)
  try simp only [Act.put]
  refine wpAnyH_take (i:=1) (v:=?_) rfl (by kernel_rfl) (by kernel_rfl) (by kernel_rfl) (λ _ _ _ h=>h) (Or.inl ⟨by rfl,?_⟩) (by assumption) ?_;rotate_left
  ·intro w hSw
   try dsimp only at hSw
   first | (go_simp;done) | (go_simp;with_reducible rfl)
  try simp only [Act.put]
  refine wpAnyH_take (i:=2) (v:=?_) rfl (by kernel_rfl) (by kernel_rfl) (by kernel_rfl) (λ _ _ _ h=>h) (Or.inl ⟨by rfl,?_⟩) (by assumption) ?_;rotate_left
  ·intro w hSw
   try dsimp only at hSw
   first | (go_simp;done) | (go_simp;with_reducible rfl)
  try simp only [Act.put]
  refine wpAnyH_take (i:=3) (v:=?_) rfl (by kernel_rfl) (by kernel_rfl) (by kernel_rfl) (λ _ _ _ h=>h) (Or.inl ⟨by rfl,?_⟩) (by assumption) ?_;rotate_left
  ·intro w hSw
   try dsimp only at hSw
   first | (go_simp;done) | (go_simp;with_reducible rfl)
  try simp only [Act.put]
  refine wpAnyH_take (i:=4) (v:=?_) rfl (by kernel_rfl) (by kernel_rfl) (by kernel_rfl) (λ _ _ _ h=>h) (Or.inl ⟨by rfl,?_⟩) (by assumption) ?_;rotate_left
  ·intro w hSw
   try dsimp only at hSw
   first | (go_simp;done) | (go_simp;with_reducible rfl)
  try simp only [Act.put]
  refine wpAnyH_take (i:=5) (v:=?_) rfl (by kernel_rfl) (by kernel_rfl) (by kernel_rfl) (λ _ _ _ h=>h) (Or.inl ⟨by rfl,?_⟩) (by assumption) ?_;rotate_left
  ·intro w hSw
   try dsimp only at hSw
   first | (go_simp;done) | (go_simp;with_reducible rfl)
  try simp only [Act.put]
  refine wpAnyH_take (i:=6) (v:=?_) rfl (by kernel_rfl) (by kernel_rfl) (by kernel_rfl) (λ _ _ _ h=>h) (Or.inl ⟨by rfl,?_⟩) (by assumption) ?_;rotate_left
  ·intro w hSw
   try dsimp only at hSw
   first | (go_simp;done) | (go_simp;with_reducible rfl)
  try simp only [Act.put]
  refine wpAnyH_take (i:=7) (v:=?_) rfl (by kernel_rfl) (by kernel_rfl) (by kernel_rfl) (λ _ _ _ h=>h) (Or.inl ⟨by rfl,?_⟩) (by assumption) ?_;rotate_left
  ·intro w hSw
   try dsimp only at hSw
   first | (go_simp;done) | (go_simp;with_reducible rfl)
  try simp only [Act.put]
  refine wpAnyH_take (i:=8) (v:=?_) rfl (by kernel_rfl) (by kernel_rfl) (by kernel_rfl) (λ _ _ _ h=>h) (Or.inl ⟨by rfl,?_⟩) (by assumption) ?_;rotate_left
  ·intro w hSw
   try dsimp only at hSw
   first | (go_simp;done) | (go_simp;with_reducible rfl)
  try simp only [Act.put]
  refine wpAnyH_take (i:=9) (v:=?_) rfl (by kernel_rfl) (by kernel_rfl) (by kernel_rfl) (λ _ _ _ h=>h) (Or.inl ⟨by rfl,?_⟩) (by assumption) ?_;rotate_left
  ·intro w hSw
   try dsimp only at hSw
   first | (go_simp;done) | (go_simp;with_reducible rfl)
  try simp only [Act.put]
  refine wpAnyH_take (i:=10) (v:=?_) rfl (by kernel_rfl) (by kernel_rfl) (by kernel_rfl) (λ _ _ _ h=>h) (Or.inl ⟨by rfl,?_⟩) (by assumption) ?_;rotate_left
  ·intro w hSw
   try dsimp only at hSw
   first | (go_simp;done) | (go_simp;with_reducible rfl)
  try simp only [Act.put]
  refine wpAnyH_take (i:=11) (v:=?_) rfl (by kernel_rfl) (by kernel_rfl) (by kernel_rfl) (λ _ _ _ h=>h) (Or.inl ⟨by rfl,?_⟩) (by assumption) ?_;rotate_left
  ·intro w hSw
   try dsimp only at hSw
   first | (go_simp;done) | (go_simp;with_reducible rfl)
  try simp only [Act.put]
  refine wpAnyH_take (i:=12) (v:=?_) rfl (by kernel_rfl) (by kernel_rfl) (by kernel_rfl) (λ _ _ _ h=>h) (Or.inl ⟨by rfl,?_⟩) (by assumption) ?_;rotate_left
  ·intro w hSw
   try dsimp only at hSw
   first | (go_simp;done) | (go_simp;with_reducible rfl)
  try simp only [Act.put]
  refine wpAnyH_ready (rs:=[13]) (by kernel_rfl) (by simp) ?_;refine AllReadyH.cons rfl (λ K hK=>?_) AllReadyH.nil;go_simp;refine Calls.mono HA2.out ?_;rintro e w1 ⟨ok,rfl,hd⟩;have HD:=kd hd;have hS1:w1.cell? ⟨d,0,none⟩=some (.pointer (some ⟨x,0,none⟩))/\w1.cell? ⟨g,0,none⟩=some (.int .i64 i)/\w1.cell? ⟨g,1,none⟩=some (.int .i64 a)/\w1.cell? ⟨g,2,none⟩=some (.int .i64 b):=⟨cell_kept1 hd.dsk hS.1,cell_kept1 (hd.new g HG.out.1 HG.out.2) hS.2.1,cell_kept1 (hd.new g HG.out.1 HG.out.2) hS.2.2.1,cell_kept1 (hd.new g HG.out.1 HG.out.2) hS.2.2.2⟩;clear hd HA2;refine hK.out _ _ ?_ (λ hHeld=>?_)
  ·exact hS1
  clear hK K;refine wpAnyH_take (i:=14) (v:=?_) rfl (by kernel_rfl) (by kernel_rfl) (by kernel_rfl) (λ _ _ _ h=>h) (Or.inl ⟨by rfl,?_⟩) (by assumption) ?_;rotate_left
  ·intro w hSw
   try dsimp only at hSw
   first | (go_simp;done) | (go_simp;with_reducible rfl)
  try simp only [Act.put]
  refine wpAnyH_take (i:=15) (v:=?_) rfl (by kernel_rfl) (by kernel_rfl) (by kernel_rfl) (λ _ _ _ h=>h) (Or.inl ⟨by rfl,?_⟩) (by assumption) ?_;rotate_left
  ·intro w hSw
   try dsimp only at hSw
   first | (go_simp;done) | (go_simp;with_reducible rfl)
  try simp only [Act.put]
  refine wpAnyH_ready (rs:=[16]) (by kernel_rfl) (by simp) ?_;refine AllReadyH.cons rfl (λ K hK=>?_) AllReadyH.nil;go_simp;refine Calls.mono (sound_err _ _ _ _) ?_;rintro e w2 ⟨rfl,hw2⟩;subst hw2;exact ⟨rfl,rfl,HD.out.s,HD.out.k⟩
theorem dk_drop {i:Int} {u:Value} (h:DkS w0 wa d dm n L) (hn:InAt wa w [i] u):
 Calls Tryz.prog 155 #[.pointer (some ⟨d,0,none⟩),u] w (DkPost w0 d dm (dkDrop n L i) wa):=by
 obtain ⟨g,c,rfl,hg1,hg2,hc⟩:=in_cells hn (by simp);obtain ⟨x,p,q,v,R,B,W,T,D,pw,bw,pt,bt,mp,N,h⟩:=h;have hbd:Below wa.heap.size wa w.drew:=hn.2.trans ((Below.refl _ _).drew);have HH:=kd (h.below' hbd);have hS:w.drew.cell? ⟨d,0,none⟩=some (.pointer (some ⟨x,0,none⟩))/\w.drew.cell? ⟨g,0,none⟩=some (.int .i64 i):=⟨(desk_cell HH.out.cell).1,hc 0 i rfl⟩;have HA:=kd (dk_idrop h hbd i);have HG:=kd (show wa.heap.size<=g/\g<w.drew.heap.size from ⟨hg1,hg2⟩);clear h hn hc hbd hg1 hg2;unfold dkDrop;by_cases hz:dropC L i=0
 ·rw [if_pos hz]
  rw [hz] at HA;have HA2:Hid (Calls Tryz.prog 18 #[.pointer (some ⟨x,0,none⟩),.int .i64 i] w.drew λ e w'=>e= .returned .nilIface/\Dw w0 wa w.drew d dm n (dropL L i) w'):=by
   refine kd (Calls.mono HA.out ?_);rintro e w' ⟨rfl,hd⟩;exact ⟨by simp [G.errV],hd⟩
  clear HA hz;generalize dropL L i=L2 at*;go_enter Tryz.func155,Tryz.ntmps155;go_wp2_with fail;go_region_held (λ w'=>w'.cell? ⟨d,0,none⟩=some (.pointer (some ⟨x,0,none⟩))/\w'.cell? ⟨g,0,none⟩=some (.int .i64 i)) (with_reducible assumption)
   (first
     | (go_at_call 18;refine Calls.mono HA2.out ?_;rintro e w1 ⟨rfl,hd⟩;have HD:=kd hd;have hS1:w1.cell? ⟨d,0,none⟩=some (.pointer (some ⟨x,0,none⟩))/\w1.cell? ⟨g,0,none⟩=some (.int .i64 i):=⟨cell_kept1 hd.dsk hS.1,cell_kept1 (hd.new g HG.out.1 HG.out.2) hS.2⟩;clear hd HA2)
     | (go_at_call 267;refine Calls.mono (check_none _) ?_;rintro e w2 ⟨rfl,hw2⟩;subst hw2))
  all_goals
   go_wp2_with fail;go_ret;exact ⟨rfl,HD.out.s,HD.out.k⟩
 ·rw [if_neg hz]
  have HA2:Hid (Calls Tryz.prog 18 #[.pointer (some ⟨x,0,none⟩),.int .i64 i] w.drew λ e w'=>e= .returned (.iface 23 (.int .i64 (dropC L i)))/\Dw w0 wa w.drew d dm n L w'):=by
   refine kd (Calls.mono HA.out ?_);rintro e w' ⟨rfl,hd⟩;refine ⟨by simp [G.errV,hz],?_⟩;have e1:dropL L i=L:=by
    unfold dropC at hz;unfold dropL;split at hz
    ·exact absurd rfl hz
    ·next h=>rw [if_neg h]
   rwa [e1] at hd
  clear HA hz;generalize dropC L i=k at*;go_enter Tryz.func155,Tryz.ntmps155;go_wp2_with fail;refine wp_region_held_drew (S:=(λ w'=>w'.cell? ⟨d,0,none⟩=some (.pointer (some ⟨x,0,none⟩))/\w'.cell? ⟨g,0,none⟩=some (.int .i64 i))) (by kernel_rfl) ?_ (λ hHeld=>?_)
  ·exact hS
  refine wpAnyH_take (i:=0) (v:=?_) rfl (by kernel_rfl) (by kernel_rfl) (by kernel_rfl) (λ _ _ _ h=>h) (Or.inl ⟨by rfl,?_⟩) (by assumption) ?_;rotate_left
  ·intro w hSw
   try dsimp only at hSw
   first | (go_simp;done) | (go_simp;with_reducible rfl)
  try simp only [Act.put]
  refine wpAnyH_take (i:=1) (v:=?_) rfl (by kernel_rfl) (by kernel_rfl) (by kernel_rfl) (λ _ _ _ h=>h) (Or.inl ⟨by rfl,?_⟩) (by assumption) ?_;rotate_left
  ·intro w hSw
   try dsimp only at hSw
   first | (go_simp;done) | (go_simp;with_reducible rfl)
  try simp only [Act.put]
  refine wpAnyH_take (i:=2) (v:=?_) rfl (by kernel_rfl) (by kernel_rfl) (by kernel_rfl) (λ _ _ _ h=>h) (Or.inl ⟨by rfl,?_⟩) (by assumption) ?_;rotate_left
  ·intro w hSw
   try dsimp only at hSw
   first | (go_simp;done) | (go_simp;with_reducible rfl)
  try simp only [Act.put]
  refine wpAnyH_take (i:=3) (v:=?_) rfl (by kernel_rfl) (by kernel_rfl) (by kernel_rfl) (λ _ _ _ h=>h) (Or.inl ⟨by rfl,?_⟩) (by assumption) ?_;rotate_left
  ·intro w hSw
   try dsimp only at hSw
   first | (go_simp;done) | (go_simp;with_reducible rfl)
  try simp only [Act.put]
  refine wpAnyH_take (i:=4) (v:=?_) rfl (by kernel_rfl) (by kernel_rfl) (by kernel_rfl) (λ _ _ _ h=>h) (Or.inl ⟨by rfl,?_⟩) (by assumption) ?_;rotate_left
  ·intro w hSw
   try dsimp only at hSw
   first | (go_simp;done) | (go_simp;with_reducible rfl)
  try simp only [Act.put]
  refine wpAnyH_take (i:=5) (v:=?_) rfl (by kernel_rfl) (by kernel_rfl) (by kernel_rfl) (λ _ _ _ h=>h) (Or.inl ⟨by rfl,?_⟩) (by assumption) ?_;rotate_left
  ·intro w hSw
   try dsimp only at hSw
   first | (go_simp;done) | (go_simp;with_reducible rfl)
  try simp only [Act.put]
  refine wpAnyH_take (i:=6) (v:=?_) rfl (by kernel_rfl) (by kernel_rfl) (by kernel_rfl) (λ _ _ _ h=>h) (Or.inl ⟨by rfl,?_⟩) (by assumption) ?_;rotate_left
  ·intro w hSw
   try dsimp only at hSw
   first | (go_simp;done) | (go_simp;with_reducible rfl)
  try simp only [Act.put]
  refine wpAnyH_ready (rs:=[7]) (by kernel_rfl) (by simp) ?_;refine AllReadyH.cons rfl (λ K hK=>?_) AllReadyH.nil;go_simp;refine Calls.mono HA2.out ?_;rintro e w1 ⟨rfl,hd⟩;have HD:=kd hd;have hS1:w1.cell? ⟨d,0,none⟩=some (.pointer (some ⟨x,0,none⟩))/\w1.cell? ⟨g,0,none⟩=some (.int .i64 i):=⟨cell_kept1 hd.dsk hS.1,cell_kept1 (hd.new g HG.out.1 HG.out.2) hS.2⟩;clear hd HA2;refine hK.out _ _ ?_ (λ hHeld=>?_)
  ·exact hS1
  clear hK K;refine wpAnyH_ready (rs:=[8]) (by kernel_rfl) (by simp) ?_;refine AllReadyH.cons rfl (λ K hK=>?_) AllReadyH.nil;go_simp;refine Calls.mono (check_err _ _ _) ?_;rintro e w2 ⟨rfl,hw2⟩;subst hw2;exact ⟨rfl,rfl,HD.out.s,HD.out.k⟩
theorem dk_whole {i j:Int} {u:Value} (h:DkS w0 wa d dm n L) (hn:InAt wa w [i,j] u):
 Calls Tryz.prog 165 #[.pointer (some ⟨d,0,none⟩),u] w (DkPost w0 d dm (dkWhole n L i j) wa):=by
 obtain ⟨g,c,rfl,hg1,hg2,hc⟩:=in_cells hn (by simp);have HS0:=kd h;have hbd:Below wa.heap.size wa w.drew:=hn.2.trans ((Below.refl _ _).drew);have HBA:=kd hbd;obtain ⟨a,b,x,hiv,hdc⟩:=(h.below' hbd).iv;have hS:w.drew.cell? ⟨d,0,none⟩=some (.pointer (some ⟨x,0,none⟩))/\w.drew.cell? ⟨g,0,none⟩=some (.int .i64 i)/\w.drew.cell? ⟨g,1,none⟩=some (.int .i64 j):=⟨hdc,hc 0 i rfl,hc 1 j rfl⟩;unfold dkWhole;by_cases hz:inB n i j
 ·rw [if_pos hz]
  have HA:=kd (iwhole_in hiv hz);clear h hn hc hbd hg1 hg2 hz hiv hdc;generalize whB n L i j=t at*;go_enter Tryz.func165,Tryz.ntmps165;go_wp2_with fail;go_region_held (λ w'=>w'.cell? ⟨d,0,none⟩=some (.pointer (some ⟨x,0,none⟩))/\w'.cell? ⟨g,0,none⟩=some (.int .i64 i)/\w'.cell? ⟨g,1,none⟩=some (.int .i64 j)) (with_reducible assumption)
   (first
     | (go_at_call 26;refine Calls.mono HA.out ?_;rintro e w1 ⟨rfl,hb1⟩;have HB1:=kd hb1;have hS1:w1.cell? ⟨d,0,none⟩=some (.pointer (some ⟨x,0,none⟩))/\w1.cell? ⟨g,0,none⟩=some (.int .i64 i)/\w1.cell? ⟨g,1,none⟩=some (.int .i64 j):=⟨S.cell_below hS.1 hb1,S.cell_below hS.2.1 hb1,S.cell_below hS.2.2 hb1⟩;clear hb1 HA)
     | (go_at_call 262;refine Calls.mono (sound_none _ _) ?_;rintro e w2 ⟨rfl,hw2⟩;subst hw2)
     | (go_at_call 173;refine Calls.mono (fbool_any _ _) ?_;rintro e w3 ⟨rfl,hw3⟩;subst hw3))
  all_goals
   go_wp2_with fail;go_ret;exact post_read HS0.out rfl (HBA.out.trans (HB1.out.mono HBA.out.size))
 ·rw [if_neg hz]
  have HA:=kd (iwhole_out hiv hz);clear h hn hc hbd hg1 hg2 hz hiv hdc;go_enter Tryz.func165,Tryz.ntmps165;go_wp2_with fail;refine wp_region_held_drew (S:=(λ w'=>w'.cell? ⟨d,0,none⟩=some (.pointer (some ⟨x,0,none⟩))/\w'.cell? ⟨g,0,none⟩=some (.int .i64 i)/\w'.cell? ⟨g,1,none⟩=some (.int .i64 j))) (by kernel_rfl) ?_ (λ hHeld=>?_)
  ·exact hS
  refine wpAnyH_take (i:=0) (v:=?_) rfl (by kernel_rfl) (by kernel_rfl) (by kernel_rfl) (λ _ _ _ h=>h) (Or.inl ⟨by rfl,?_⟩) (by assumption) ?_;rotate_left
  ·intro w hSw
   try dsimp only at hSw
   first | (go_simp;done) | (go_simp;with_reducible rfl)
  try simp only [Act.put]
  refine wpAnyH_take (i:=1) (v:=?_) rfl (by kernel_rfl) (by kernel_rfl) (by kernel_rfl) (λ _ _ _ h=>h) (Or.inl ⟨by rfl,?_⟩) (by assumption) ?_;rotate_left
  ·intro w hSw
   try dsimp only at hSw
   first | (go_simp;done) | (go_simp;with_reducible rfl)
  try simp only [Act.put]
  refine wpAnyH_take (i:=2) (v:=?_) rfl (by kernel_rfl) (by kernel_rfl) (by kernel_rfl) (λ _ _ _ h=>h) (Or.inl ⟨by rfl,?_⟩) (by assumption) ?_;rotate_left
  ·intro w hSw
   try dsimp only at hSw
   first | (go_simp;done) | (go_simp;with_reducible rfl)
  try simp only [Act.put]
  refine wpAnyH_take (i:=3) (v:=?_) rfl (by kernel_rfl) (by kernel_rfl) (by kernel_rfl) (λ _ _ _ h=>h) (Or.inl ⟨by rfl,?_⟩) (by assumption) ?_;rotate_left
  ·intro w hSw
   try dsimp only at hSw
   first | (go_simp;done) | (go_simp;with_reducible rfl)
  try simp only [Act.put]
  refine wpAnyH_take (i:=4) (v:=?_) rfl (by kernel_rfl) (by kernel_rfl) (by kernel_rfl) (λ _ _ _ h=>h) (Or.inl ⟨by rfl,?_⟩) (by assumption) ?_;rotate_left
  ·intro w hSw
   try dsimp only at hSw
   first | (go_simp;done) | (go_simp;with_reducible rfl)
  try simp only [Act.put]
  refine wpAnyH_take (i:=5) (v:=?_) rfl (by kernel_rfl) (by kernel_rfl) (by kernel_rfl) (λ _ _ _ h=>h) (Or.inl ⟨by rfl,?_⟩) (by assumption) ?_;rotate_left
  ·intro w hSw
   try dsimp only at hSw
   first | (go_simp;done) | (go_simp;with_reducible rfl)
  try simp only [Act.put]
  refine wpAnyH_take (i:=6) (v:=?_) rfl (by kernel_rfl) (by kernel_rfl) (by kernel_rfl) (λ _ _ _ h=>h) (Or.inl ⟨by rfl,?_⟩) (by assumption) ?_;rotate_left
  ·intro w hSw
   try dsimp only at hSw
   first | (go_simp;done) | (go_simp;with_reducible rfl)
  try simp only [Act.put]
  refine wpAnyH_take (i:=7) (v:=?_) rfl (by kernel_rfl) (by kernel_rfl) (by kernel_rfl) (λ _ _ _ h=>h) (Or.inl ⟨by rfl,?_⟩) (by assumption) ?_;rotate_left
  ·intro w hSw
   try dsimp only at hSw
   first | (go_simp;done) | (go_simp;with_reducible rfl)
  try simp only [Act.put]
  refine wpAnyH_take (i:=8) (v:=?_) rfl (by kernel_rfl) (by kernel_rfl) (by kernel_rfl) (λ _ _ _ h=>h) (Or.inl ⟨by rfl,?_⟩) (by assumption) ?_;rotate_left
  ·intro w hSw
   try dsimp only at hSw
   first | (go_simp;done) | (go_simp;with_reducible rfl)
  try simp only [Act.put]
  refine wpAnyH_take (i:=9) (v:=?_) rfl (by kernel_rfl) (by kernel_rfl) (by kernel_rfl) (λ _ _ _ h=>h) (Or.inl ⟨by rfl,?_⟩) (by assumption) ?_;rotate_left
  ·intro w hSw
   try dsimp only at hSw
   first | (go_simp;done) | (go_simp;with_reducible rfl)
  try simp only [Act.put]
  refine wpAnyH_ready (rs:=[10]) (by kernel_rfl) (by simp) ?_;refine AllReadyH.cons rfl (λ K hK=>?_) AllReadyH.nil;go_simp;refine Calls.mono HA.out ?_;rintro e w1 ⟨rfl,hb1⟩;have HB1:=kd hb1;have hS1:w1.cell? ⟨d,0,none⟩=some (.pointer (some ⟨x,0,none⟩))/\w1.cell? ⟨g,0,none⟩=some (.int .i64 i)/\w1.cell? ⟨g,1,none⟩=some (.int .i64 j):=⟨S.cell_below hS.1 hb1,S.cell_below hS.2.1 hb1,S.cell_below hS.2.2 hb1⟩;clear hb1 HA;refine hK.out _ _ ?_ (λ hHeld=>?_)
  ·exact hS1
  clear hK K;refine wpAnyH_take (i:=11) (v:=?_) rfl (by kernel_rfl) (by kernel_rfl) (by kernel_rfl) (λ _ _ _ h=>h) (Or.inl ⟨by rfl,?_⟩) (by assumption) ?_;rotate_left
  ·intro w hSw
   try dsimp only at hSw
   first | (go_simp;done) | (go_simp;with_reducible rfl)
  try simp only [Act.put]
  refine wpAnyH_take (i:=12) (v:=?_) rfl (by kernel_rfl) (by kernel_rfl) (by kernel_rfl) (λ _ _ _ h=>h) (Or.inl ⟨by rfl,?_⟩) (by assumption) ?_;rotate_left
  ·intro w hSw
   try dsimp only at hSw
   first | (go_simp;done) | (go_simp;with_reducible rfl)
  try simp only [Act.put]
  refine wpAnyH_ready (rs:=[13]) (by kernel_rfl) (by simp) ?_;refine AllReadyH.cons rfl (λ K hK=>?_) AllReadyH.nil;go_simp;refine Calls.mono (sound_err _ _ _ _) ?_;rintro e w2 ⟨rfl,hw2⟩;subst hw2;exact ⟨rfl,post_err HS0.out rfl (HBA.out.trans (HB1.out.mono HBA.out.size))⟩
theorem dk_twice {i j:Int} {u:Value} (h:DkS w0 wa d dm n L) (hn:InAt wa w [i,j] u):
 Calls Tryz.prog 163 #[.pointer (some ⟨d,0,none⟩),u] w (DkPost w0 d dm (dkTwice n L i j) wa):=by
 obtain ⟨g,c,rfl,hg1,hg2,hc⟩:=in_cells hn (by simp);have HS0:=kd h;have hbd:Below wa.heap.size wa w.drew:=hn.2.trans ((Below.refl _ _).drew);have HBA:=kd hbd;obtain ⟨a,b,x,hiv,hdc⟩:=(h.below' hbd).iv;have hS:w.drew.cell? ⟨d,0,none⟩=some (.pointer (some ⟨x,0,none⟩))/\w.drew.cell? ⟨g,0,none⟩=some (.int .i64 i)/\w.drew.cell? ⟨g,1,none⟩=some (.int .i64 j):=⟨hdc,hc 0 i rfl,hc 1 j rfl⟩;unfold dkTwice;by_cases hz:inB n i j
 ·rw [if_pos hz]
  have HA:=kd (itwice_in hiv hz);clear h hn hc hbd hg1 hg2 hz hiv hdc;generalize twB n L i j=t at*;go_enter Tryz.func163,Tryz.ntmps163;go_wp2_with fail;go_region_held (λ w'=>w'.cell? ⟨d,0,none⟩=some (.pointer (some ⟨x,0,none⟩))/\w'.cell? ⟨g,0,none⟩=some (.int .i64 i)/\w'.cell? ⟨g,1,none⟩=some (.int .i64 j)) (with_reducible assumption)
   (first
     | (go_at_call 27;refine Calls.mono HA.out ?_;rintro e w1 ⟨rfl,hb1⟩;have HB1:=kd hb1;have hS1:w1.cell? ⟨d,0,none⟩=some (.pointer (some ⟨x,0,none⟩))/\w1.cell? ⟨g,0,none⟩=some (.int .i64 i)/\w1.cell? ⟨g,1,none⟩=some (.int .i64 j):=⟨S.cell_below hS.1 hb1,S.cell_below hS.2.1 hb1,S.cell_below hS.2.2 hb1⟩;clear hb1 HA)
     | (go_at_call 262;refine Calls.mono (sound_none _ _) ?_;rintro e w2 ⟨rfl,hw2⟩;subst hw2)
     | (go_at_call 173;refine Calls.mono (fbool_any _ _) ?_;rintro e w3 ⟨rfl,hw3⟩;subst hw3))
  all_goals
   go_wp2_with fail;go_ret;exact post_read HS0.out rfl (HBA.out.trans (HB1.out.mono HBA.out.size))
 ·rw [if_neg hz]
  have HA:=kd (itwice_out hiv hz);clear h hn hc hbd hg1 hg2 hz hiv hdc;go_enter Tryz.func163,Tryz.ntmps163;go_wp2_with fail;refine wp_region_held_drew (S:=(λ w'=>w'.cell? ⟨d,0,none⟩=some (.pointer (some ⟨x,0,none⟩))/\w'.cell? ⟨g,0,none⟩=some (.int .i64 i)/\w'.cell? ⟨g,1,none⟩=some (.int .i64 j))) (by kernel_rfl) ?_ (λ hHeld=>?_)
  ·exact hS
  refine wpAnyH_take (i:=0) (v:=?_) rfl (by kernel_rfl) (by kernel_rfl) (by kernel_rfl) (λ _ _ _ h=>h) (Or.inl ⟨by rfl,?_⟩) (by assumption) ?_;rotate_left
  ·intro w hSw
   try dsimp only at hSw
   first | (go_simp;done) | (go_simp;with_reducible rfl)
  try simp only [Act.put]
  refine wpAnyH_take (i:=1) (v:=?_) rfl (by kernel_rfl) (by kernel_rfl) (by kernel_rfl) (λ _ _ _ h=>h) (Or.inl ⟨by rfl,?_⟩) (by assumption) ?_;rotate_left
  ·intro w hSw
   try dsimp only at hSw
   first | (go_simp;done) | (go_simp;with_reducible rfl)
  try simp only [Act.put]
  refine wpAnyH_take (i:=2) (v:=?_) rfl (by kernel_rfl) (by kernel_rfl) (by kernel_rfl) (λ _ _ _ h=>h) (Or.inl ⟨by rfl,?_⟩) (by assumption) ?_;rotate_left
  ·intro w hSw
   try dsimp only at hSw
   first | (go_simp;done) | (go_simp;with_reducible rfl)
  try simp only [Act.put]
  refine wpAnyH_take (i:=3) (v:=?_) rfl (by kernel_rfl) (by kernel_rfl) (by kernel_rfl) (λ _ _ _ h=>h) (Or.inl ⟨by rfl,?_⟩) (by assumption) ?_;rotate_left
  ·intro w hSw
   try dsimp only at hSw
   first | (go_simp;done) | (go_simp;with_reducible rfl)
  try simp only [Act.put]
  refine wpAnyH_take (i:=4) (v:=?_) rfl (by kernel_rfl) (by kernel_rfl) (by kernel_rfl) (λ _ _ _ h=>h) (Or.inl ⟨by rfl,?_⟩) (by assumption) ?_;rotate_left
  ·intro w hSw
   try dsimp only at hSw
   first | (go_simp;done) | (go_simp;with_reducible rfl)
  try simp only [Act.put]
  refine wpAnyH_take (i:=5) (v:=?_) rfl (by kernel_rfl) (by kernel_rfl) (by kernel_rfl) (λ _ _ _ h=>h) (Or.inl ⟨by rfl,?_⟩) (by assumption) ?_;rotate_left
  ·intro w hSw
   try dsimp only at hSw
   first | (go_simp;done) | (go_simp;with_reducible rfl)
  try simp only [Act.put]
  refine wpAnyH_take (i:=6) (v:=?_) rfl (by kernel_rfl) (by kernel_rfl) (by kernel_rfl) (λ _ _ _ h=>h) (Or.inl ⟨by rfl,?_⟩) (by assumption) ?_;rotate_left
  ·intro w hSw
   try dsimp only at hSw
   first | (go_simp;done) | (go_simp;with_reducible rfl)
  try simp only [Act.put]
  refine wpAnyH_take (i:=7) (v:=?_) rfl (by kernel_rfl) (by kernel_rfl) (by kernel_rfl) (λ _ _ _ h=>h) (Or.inl ⟨by rfl,?_⟩) (by assumption) ?_;rotate_left
  ·intro w hSw
   try dsimp only at hSw
   first | (go_simp;done) | (go_simp;with_reducible rfl)
  try simp only [Act.put]
  refine wpAnyH_take (i:=8) (v:=?_) rfl (by kernel_rfl) (by kernel_rfl) (by kernel_rfl) (λ _ _ _ h=>h) (Or.inl ⟨by rfl,?_⟩) (by assumption) ?_;rotate_left
  ·intro w hSw
   try dsimp only at hSw
   first | (go_simp;done) | (go_simp;with_reducible rfl)
  try simp only [Act.put]
  refine wpAnyH_take (i:=9) (v:=?_) rfl (by kernel_rfl) (by kernel_rfl) (by kernel_rfl) (λ _ _ _ h=>h) (Or.inl ⟨by rfl,?_⟩) (by assumption) ?_;rotate_left
  ·intro w hSw
   try dsimp only at hSw
   first | (go_simp;done) | (go_simp;with_reducible rfl)
  try simp only [Act.put]
  refine wpAnyH_ready (rs:=[10]) (by kernel_rfl) (by simp) ?_;refine AllReadyH.cons rfl (λ K hK=>?_) AllReadyH.nil;go_simp;refine Calls.mono HA.out ?_;rintro e w1 ⟨rfl,hb1⟩;have HB1:=kd hb1;have hS1:w1.cell? ⟨d,0,none⟩=some (.pointer (some ⟨x,0,none⟩))/\w1.cell? ⟨g,0,none⟩=some (.int .i64 i)/\w1.cell? ⟨g,1,none⟩=some (.int .i64 j):=⟨S.cell_below hS.1 hb1,S.cell_below hS.2.1 hb1,S.cell_below hS.2.2 hb1⟩;clear hb1 HA;refine hK.out _ _ ?_ (λ hHeld=>?_)
  ·exact hS1
  clear hK K;refine wpAnyH_take (i:=11) (v:=?_) rfl (by kernel_rfl) (by kernel_rfl) (by kernel_rfl) (λ _ _ _ h=>h) (Or.inl ⟨by rfl,?_⟩) (by assumption) ?_;rotate_left
  ·intro w hSw
   try dsimp only at hSw
   first | (go_simp;done) | (go_simp;with_reducible rfl)
  try simp only [Act.put]
  refine wpAnyH_take (i:=12) (v:=?_) rfl (by kernel_rfl) (by kernel_rfl) (by kernel_rfl) (λ _ _ _ h=>h) (Or.inl ⟨by rfl,?_⟩) (by assumption) ?_;rotate_left
  ·intro w hSw
   try dsimp only at hSw
   first | (go_simp;done) | (go_simp;with_reducible rfl)
  try simp only [Act.put]
  refine wpAnyH_ready (rs:=[13]) (by kernel_rfl) (by simp) ?_;refine AllReadyH.cons rfl (λ K hK=>?_) AllReadyH.nil;go_simp;refine Calls.mono (sound_err _ _ _ _) ?_;rintro e w2 ⟨rfl,hw2⟩;subst hw2;exact ⟨rfl,post_err HS0.out rfl (HBA.out.trans (HB1.out.mono HBA.out.size))⟩
end Go.Proofs.YtebcjaenhiiflaaGreatDoor.I
