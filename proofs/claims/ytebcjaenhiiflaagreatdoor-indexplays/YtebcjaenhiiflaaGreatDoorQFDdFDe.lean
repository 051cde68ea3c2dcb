import Derived.Test.YtebcjaenhiiflaaGreatDoorQKVqFDc
import Derived.Test.YtebcjaenhiiflaaGreatDoorQGYe
set_option maxHeartbeats 4000000
set_option maxRecDepth 100000
namespace Go.Proofs.YtebcjaenhiiflaaGreatDoor.S
open Go Go.ChangeMaps Go.MapKept Go.WideShapes Go.Proofs.Tryz
open Go.RowKit Go.WideMaps Go.Maps F
theorem zo9 {M:Nat->Nat->Int} {x y:Nat} (h:x≠y) (i j:Nat):tkM M x y i j=if i=x/\j=y then M i j-1 else if i=y/\j=x then M i j+1 else M i j:=by
 unfold tkM zb2;by_cases e1:i=y/\j=x
 ·rw [if_pos e1,if_neg (λ k=>h (k.1.symm.trans e1.1)),if_neg (λ k=>h (k.1.symm.trans e1.1)),if_pos e1]
 ·rw [if_neg e1]
  by_cases e2:i=x/\j=y
  ·rw [if_pos e2,if_pos e2];rfl
  ·rw [if_neg e2,if_neg e2,if_neg e1]
theorem z6k {M:Nat->Nat->Int} {x y:Nat} (h:x≠y) (i j:Nat):tkM M x y i j+tkM M x y j i=M i j+M j i:=by
 rw [zo9 h,zo9 h];by_cases e1:i=x/\j=y
 ·rw [if_pos e1,if_neg (λ k:j=x/\i=y=>h (e1.1.symm.trans k.2)),if_pos (show j=y/\i=x from ⟨e1.2,e1.1⟩)];omega
 ·by_cases e2:i=y/\j=x
  ·rw [if_neg e1,if_pos e2,if_pos ⟨e2.2,e2.1⟩];omega
  ·rw [if_neg e1,if_neg e2,if_neg (λ k=>e2 ⟨k.2,k.1⟩),if_neg (λ k=>e1 ⟨k.2,k.1⟩)]
theorem ztq {M:Nat->Nat->Int}:∀(vs:List Nat),vs.Nodup->∀i j,tkP M vs i j+tkP M vs j i=M i j+M j i
 | [],_,_,_=>rfl
 | [_],_,_,_=>rfl
 | x::y::r,h,i,j=>by
   have hn:=List.nodup_cons.1 h;show tkM (tkP M (y::r)) x y i j+tkM (tkP M (y::r)) x y j i=_;rw [z6k (λ e=>hn.1 (by simp [e])),ztq (y::r) hn.2]
theorem zt5 {M:Nat->Nat->Int} (h0:∀i j,0<=M i j):∀(vs:List Nat),vs.Nodup->Gone M vs->∀i j,0<=tkP M vs i j
 | [],_,_,i,j=>h0 i j
 | [_],_,_,i,j=>h0 i j
 | x::y::r,h,hg,i,j=>by
   have hn:=List.nodup_cons.1 h;have ih:=zt5 h0 (y::r) hn.2 hg.2;have hx:=(zm0 (M:=M) (y::r) x y hn.1).1;have h1:=hg.1;show 0<=tkM (tkP M (y::r)) x y i j;rw [zo9 (λ e=>hn.1 (by simp [e]))];have:=ih i j;split
   ·next e=>rw [e.1,e.2,hx];omega
   ·split <;> omega
structure zco (M0 M:Nat->Nat->Int) (N a tg:Nat) (k:Int):Prop where
 pos:∀i j,0<=M i j
 sum:∀i j,M i j+M j i=M0 i j+M0 j i
 cut:∀S:Int->Bool,S (a:Int)=true->S (tg:Int)=false->zb0 M N S=zb0 M0 N S-k
theorem zk1 {M:Nat->Nat->Int} (h:∀i j,0<=M i j) (S:Int->Bool) (i:Nat):∀n,0<=zd3 M S i n
 | 0=>Int.le_refl _
 | n+1=>by
   have:=zk1 h S i n;have:=h i n;simp only [zd3];split <;> omega
theorem zk9 {M:Nat->Nat->Int} (h:∀i j,0<=M i j) (N:Nat) (S:Int->Bool):∀n,0<=zfo M N S n
 | 0=>Int.le_refl _
 | n+1=>by
   have:=zk9 h N S n;have:=zk1 h S n N;simp only [zfo];omega
theorem row_zero {M:Nat->Nat->Int} {S:Int->Bool} {i:Nat}:∀n:Nat,(∀j:Nat,j<n->S (i:Int)=true->S (j:Int)=false->M i j=0)->zd3 M S i n=0
 | 0,_=>rfl
 | n+1,h=>by
   have ih:=row_zero n (λ j hj=>h j (by omega));have h1:=h n (by omega);simp only [zd3,ih];cases h2:S (i:Int) <;> cases h3:S (n:Int) <;> simp
   exact h1 h2 h3
theorem zp2 {M:Nat->Nat->Int} {N:Nat} {S:Int->Bool}:∀n:Nat,(∀i j:Nat,i<n->j<N->S (i:Int)=true->S (j:Int)=false->M i j=0)->zfo M N S n=0
 | 0,_=>rfl
 | n+1,h=>by
   have ih:=zp2 n (λ i j hi=>h i j (by omega));have:=row_zero (M:=M) (S:=S) (i:=n) N (λ j hj=>h n j (by omega) hj);simp only [zfo,ih,this];rfl
theorem zco.start {M0:Nat->Nat->Int} {N a tg:Nat} (h:∀i j,0<=M0 i j):zco M0 M0 N a tg 0:=⟨h,λ _ _=>rfl,λ _ _ _=>by omega⟩
theorem zco.way {M0 M:Nat->Nat->Int} {N a tg:Nat} {k:Int} (h:zco M0 M N a tg k) {vs:List Nat} (h1:vs.head? =some a) (h2:vs.getLast? =some tg) (h3:∀v∈vs,v<N) (h4:vs.Nodup) (h5:Gone M vs):zco M0 (tkP M vs) N a tg (k+1):=
 ⟨zt5 h.pos vs h4 h5,λ i j=>by rw [ztq vs h4,h.sum],λ S ha hb=>by
   rw [ztb S vs a tg h1 h2 h3,h.cut S ha hb];unfold chi;rw [if_pos ha,if_neg (by rw [hb];simp)];omega⟩
theorem zco.le {M0 M:Nat->Nat->Int} {N a tg:Nat} {k:Int} (h:zco M0 M N a tg k) {S:Int->Bool} (h1:S (a:Int)=true) (h2:S (tg:Int)=false):k<=zb0 M0 N S:=by
 have:=h.cut S h1 h2;have:=zk9 h.pos N S N;unfold zb0 at*;omega
theorem zco.done {M0 M:Nat->Nat->Int} {N a tg:Nat} {k most:Int} (h:zco M0 M N a tg k) (h0:0<=k) (hm:k<=most) (S:Int->Bool) (h1:S (a:Int)=true) (h2:S (tg:Int)=false) (hz:∀i j:Nat,i<N->j<N->S (i:Int)=true->S (j:Int)=false->M i j=0):Val (zb0 M0 N) a tg most k:=
 ⟨h0,hm,λ _ k1 k2=>h.le k1 k2,.inr ⟨S,h1,h2,by
   have h3:=h.cut S h1 h2;have h4:=zp2 (M:=M) (N:=N) (S:=S) N hz;have h5:zb0 M N S=0:=h4;rw [h5] at h3;omega⟩⟩
theorem zco.most {M0 M:Nat->Nat->Int} {N a tg:Nat} {most:Int} (h:zco M0 M N a tg most) (h0:0<=most):Val (zb0 M0 N) a tg most most:=
 ⟨h0,Int.le_refl _,λ _ h1 h2=>h.le h1 h2,.inl rfl⟩
structure Ka (b:Nat->Nat) (N:Nat) (w w':World):Prop where
 os:w'.os=w.os
 tape:w'.tape=w.tape
 output:w'.output=w.output
 size:w.heap.size<=w'.heap.size
 block:∀k,k<w.heap.size->(∀i,i<N->k≠b i)->w'.heap[k]? =w.heap[k]?
theorem Ka.refl (b:Nat->Nat) (N:Nat) (w:World):Ka b N w w:=⟨rfl,rfl,rfl,Nat.le_refl _,λ _ _ _=>rfl⟩
theorem Ka.trans {b:Nat->Nat} {N:Nat} {w w' w'':World} (h:Ka b N w w') (k:Ka b N w' w''):Ka b N w w'':=⟨k.os.trans h.os,k.tape.trans h.tape,k.output.trans h.output,Nat.le_trans h.size k.size,λ i h1 h2=>(k.block i (Nat.lt_of_lt_of_le h1 h.size) h2).trans (h.block i h1 h2)⟩
theorem Ka.of_below {b:Nat->Nat} {N:Nat} {w w':World} (h:Below w.heap.size w w'):Ka b N w w':=⟨h.os,h.tape,h.output,h.size,λ k hk _=>h.block k hk⟩
theorem Ka.yacx {b:Nat->Nat} {N sb:Nat} {w0 w w':World} (h:Ka b N w0 w) (k:Kq b N sb w w') (hs:w0.heap.size<=sb):Ka b N w0 w':=⟨k.os.trans h.os,k.tape.trans h.tape,k.output.trans h.output,by rw [k.size];exact h.size,λ i h1 h2=>(k.block i h2 (by omega)).trans (h.block i h1 h2)⟩
theorem Ka.old {b:Nat->Nat} {N B:Nat} {w w':World} (h:Ka b N w w') (hB:B<=w.heap.size) (hb:∀i,i<N->B<=b i):Below B w w':=⟨h.os,h.tape,h.output,h.size,λ k hk=>h.block k (by omega) (λ i hi e=>by have:=hb i hi;omega)⟩
theorem Mat.below {w w':World} {g:Nat} {b:Nat->Nat} {N:Nat} {M:Nat->Nat->Int} (h:Mat w g b N M) (hb:Below w.heap.size w w'):Mat w' g b N M:=
 ⟨λ i hi=>cell_below (h.out i hi) hb,λ i j hi hj=>⟨cell_below (h.row i j hi hj).1 hb,by
   have hl:=lt_of_cell (h.row i j hi hj).1;have:=(h.row i j hi hj).2;unfold World.frozen? at this ⊢;rw [hb.block _ hl];exact this⟩,h.inj,h.off⟩
theorem Mat.lt {w:World} {g:Nat} {b:Nat->Nat} {N:Nat} {M:Nat->Nat->Int} (h:Mat w g b N M) (hN:0<N):g<w.heap.size/\∀i,i<N->b i<w.heap.size:=
 ⟨lt_of_cell (h.out 0 hN),λ i hi=>lt_of_cell (h.row i 0 hi hN).1⟩
theorem z9d (w:World) (N:Nat):Sn (w.alloc (.cells (madeCells #[.bool false] N) 4)) w.heap.size N (λ _=>false):=λ j hj=>by
 have hh:=heap_alloc_new w (.cells (madeCells #[.bool false] N) 4);obtain ⟨W,hW⟩:∃W,w.alloc (.cells (madeCells #[.bool false] N) 4)=W:=⟨_,rfl⟩;rw [hW] at hh ⊢;have hc:(madeCells #[.bool false] N)[j]? =some (.bool false):=by simp [madeCells,hj,Nat.mod_one]
 exact ⟨by simp [World.cell?,hh,hc],by simp [World.frozen?,hh]⟩
theorem yaal:(prog.info? 4).map (λ i=>(i.zero,i.size,i.bytes))=some (some (.bool false),1,1):=by kernel_rfl
theorem zra (g:Nat) (b:Nat->Nat) (N a tg c most:Nat) (M0:Nat->Nat->Int) (w:World) (hmat:Mat w g b N M0) (hN:N<=100) (ha:a<N) (htg:tg<N) (hmost:most<=1000) (hM:∀i j,0<=M0 i j/\M0 i j<=1000):
 Calls prog 127 #[.slice (some ⟨g,0,none⟩) N c,.int .i64 (a:Int),.int .i64 (tg:Int),.int .i64 (most:Int)] w λ e w'=>∃k:Nat,e= .returned (.int .i64 (k:Int))/\Val (zb0 M0 N) a tg most k/\Ka b N w w':=by
 have HS:Hid (Mat w g b N M0/\zco M0 M0 N a tg 0/\Ka b N w w):=⟨hmat,zco.start (λ i j=>(hM i j).1),Ka.refl _ _ _⟩;have HM:=kd hM;have HL:Hid (g<w.heap.size/\∀i,i<N->b i<w.heap.size):=hmat.lt (by omega);clear hmat hM;go_enter func127,ntmps127;go_wp2_with fail;go_loopw [9] (λ s9 wq=>∃(k:Nat) (M:Nat->Nat->Int),k<=most/\s9= .int .i64 k/\Mat wq g b N M/\zco M0 M N a tg k/\Ka b N w wq) (λ s9 _=>most-(intOf s9).toNat)
 case atStart=>exact ⟨0,M0,Nat.zero_le _,rfl,HS.out.1,HS.out.2.1,HS.out.2.2⟩
 case round=>
  clear HS;obtain ⟨k,M,hk,rfl,hm,hf,hka⟩:=hrel;have HR:Hid (Mat wr g b N M/\zco M0 M N a tg k/\Ka b N w wr):=⟨hm,hf,hka⟩;clear hm hf hka;by_cases hlt:k<most
  ·have hmk:=λ W=>run_make_row' (P:=prog) 270 4 (.bool false) 1 underlying270 yaal rfl .i64 .i64 N (by omega) (by omega) W
   obtain ⟨W1,hW1⟩:∃W1,W1=wr.alloc (.cells (madeCells #[.bool false] N) 4):=⟨_,rfl⟩;have hbW:Below wr.heap.size wr W1:=by rw [hW1];exact (Below.refl _ _).alloc (Nat.le_refl _) _
   have hsn:Sn W1 wr.heap.size N (λ _=>false):=by rw [hW1];exact z9d wr N
   have hmat1:=HR.out.1.below hbW;have hlt1:=HR.out.1.lt (show 0<N by omega);have hbd:∀i j,i<N->j<N->0<=M i j/\M i j<=1000000:=λ i j _ _=>by
    have h1:=HR.out.2.1.pos i j;have h2:=HR.out.2.1.pos j i;have h3:=HR.out.2.1.sum i j;have h4:=HM.out i j;have h5:=HM.out j i;omega
   have HC:Hid _:=zpj g b N wr.heap.size tg c (by omega) htg (λ i hi e=>by have:=hlt1.2 i hi;omega) (λ e=>by have:=hlt1.1;omega) (uns (λ _=>false) N+1) a M (λ _=>false) W1 (Nat.lt_succ_self _) hmat1 hsn ha rfl hbd;have HW1:=kd hW1.symm;have HB1:=kd hbW;clear hW1 hbW hsn hmat1 hlt1 hbd;go_wp2_with fail;rw [HW1.out];clear hmk;refine Calls.mono HC.out ?_;rintro e w2 ⟨M',sn',hm2,hs2,hk2,_,h2⟩;have HKA:Hid (Ka b N w w2):=(HR.out.2.2.trans (Ka.of_below HB1.out)).yacx hk2 HR.out.2.2.size;have HM2:=kd hm2;clear hm2 hs2 hk2 HC;rcases h2 with ⟨rfl,vs,hh,hl,hnd,hv,hg,hM'⟩ | ⟨rfl,hM',hx2,hd2⟩
   ·as_aux_lemma=>
    have HF:Hid (zco M0 M' N a tg ((k+1:Nat):Int)):=by
     have:=HR.out.2.1.way hh hl (λ v hv'=>(hv v hv').1) hnd hg;rw [<-hM'] at this;rw [show ((k+1:Nat):Int)=(k:Int)+1 by omega];exact this
    clear hh hl hnd hv hg hM' HR;go_wp2_with fail;go_roundw;case rel=>exact ⟨k+1,M',by omega,by go_num,HM2.out,HF.out,HKA.out⟩
    case measure=>simp [intOf];omega
   ·as_aux_lemma=>
    have HV:Hid (Val (zb0 M0 N) a tg most k):=by
     have hat:a≠tg:=(hd2 a ha hx2 rfl).1;refine HR.out.2.1.done (by omega) (by omega) (λ z=>decide (0<=z/\z<N)&&sn' z.toNat) ?_ ?_ (λ i j hi hj h1 h2=>?_)
     ·simp [ha,hx2]
     ·have:sn' tg=false:=by
       cases hq:sn' tg with
       | false=>rfl
       | true=>exact absurd rfl (hd2 tg htg hq rfl).1
      simp [this]
     ·have h1':sn' i=true:=by simp [hi] at h1;exact h1
      have h2':sn' j=false:=by simp [hj] at h2;exact h2
      have h3:=(hd2 i hi h1' rfl).2 j hj;have h4:=HR.out.2.1.pos i j;by_cases c:0<M i j
      ·have h5:=h3 c;rw [h2'] at h5;cases h5
      ·omega
    clear hM' hx2 hd2 HR;go_wp2_with fail;go_ret;exact ⟨k,rfl,HV.out,HKA.out⟩
  ·as_aux_lemma=>
   have hke:most=k:=by omega
   subst hke;go_wp2_with fail;go_ret;exact ⟨most,rfl,HR.out.2.1.most (by omega),HR.out.2.2⟩
theorem z6u:(prog.info? 48).map (λ i=>(i.zero,i.size,i.bytes))=some (some (.slice none 0 0),1,24):=by kernel_rfl
structure zfy (w wq:World) (n i:Nat):Prop where
 out:∀j,j<n->w.heap.size<wq.heap.size/\wq.cell? ⟨w.heap.size,j,none⟩=some (if j<i then .slice (some ⟨w.heap.size+1+j,0,none⟩) n n else .slice none 0 0)/\wq.frozen? ⟨w.heap.size,j,none⟩=false
 row:∀k j,k<i->j<n->wq.cell? ⟨w.heap.size+1+k,j,none⟩=some (.int .i64 0)/\wq.frozen? ⟨w.heap.size+1+k,j,none⟩=false
 size:wq.heap.size=w.heap.size+1+i
 bel:Below w.heap.size w wq
theorem zit (w:World) (v:Value) (n:Nat) (t:TypeId) (j:Nat) (hj:j<n):(w.alloc (.cells (madeCells #[v] n) t)).cell? ⟨w.heap.size,j,none⟩=some v/\(w.alloc (.cells (madeCells #[v] n) t)).frozen? ⟨w.heap.size,j,none⟩=false:=by
 have hh:=heap_alloc_new w (.cells (madeCells #[v] n) t);obtain ⟨W,hW⟩:∃W,w.alloc (.cells (madeCells #[v] n) t)=W:=⟨_,rfl⟩;rw [hW] at hh ⊢;have hc:(madeCells #[v] n)[j]? =some v:=by simp [madeCells,hj,Nat.mod_one]
 exact ⟨by simp [World.cell?,hh,hc],by simp [World.frozen?,hh]⟩
theorem zfy.start (w:World) (n:Nat):zfy w (w.alloc (.cells (madeCells #[.slice none 0 0] n) 48)) n 0:=
 ⟨λ j hj=>⟨by simp,by rw [if_neg (by omega)];exact (zit w _ n 48 j hj).1,(zit w _ n 48 j hj).2⟩,λ k j hk=>by omega,by simp,(Below.refl _ _).alloc (Nat.le_refl _) _⟩
theorem zf3 {w w':World} {k i:Nat} {f:Bool} (h:w.frozen? ⟨k,i,none⟩=f) (hk:k<w.heap.size) (hb:Below w.heap.size w w'):w'.frozen? ⟨k,i,none⟩=f:=by
 unfold World.frozen? at h ⊢;rw [hb.block k hk];exact h
theorem zfy.next {w wq:World} {n i:Nat} (h:zfy w wq n i) (hi:i<n):zfy w ((wq.alloc (.cells (madeCells #[.int .i64 0] n) 3)).setCell ⟨w.heap.size,i,none⟩ (.slice (some ⟨wq.heap.size,0,none⟩) n n)) n (i+1):=by
 have hbA:Below wq.heap.size wq (wq.alloc (.cells (madeCells #[.int .i64 0] n) 3)):=(Below.refl _ _).alloc (Nat.le_refl _) _;have hlt:=(h.out i hi).1;refine ⟨λ j hj=>⟨by simp;omega,?_,?_⟩,λ k j hk hj=>?_,by simp [h.size];omega,?_⟩
 ·by_cases e:j=i
  ·subst e
   rw [if_pos (by omega),<-h.size];exact World.cell?_setCell_same _ _ _ (cell_below (h.out j hj).2.1 hbA)
  ·rw [World.cell?_setCell_other _ _ _ _ (λ k=>by injection k with _ k2;exact e k2.symm)]
   rw [cell_below (h.out j hj).2.1 hbA];by_cases c:j<i
   ·rw [if_pos c,if_pos (by omega)]
   ·rw [if_neg c,if_neg (by omega)]
 ·rw [World.frozen?_setCell];exact zf3 (h.out j hj).2.2 hlt hbA
 ·rw [World.cell?_setCell_far _ _ _ _ (by show w.heap.size≠w.heap.size+1+k;omega),World.frozen?_setCell]
  by_cases e:k=i
  ·subst e
   rw [<-h.size];exact zit wq _ n 3 j hj
  ·have h1:=h.row k j (by omega) hj
   exact ⟨cell_below h1.1 hbA,zf3 h1.2 (lt_of_cell h1.1) hbA⟩
 ·exact (h.bel.trans (hbA.mono h.bel.size)).setCell (Nat.le_refl _) _
theorem zfy.mat {w wq:World} {n:Nat} (h:zfy w wq n n):Mat wq w.heap.size (λ i=>w.heap.size+1+i) n (λ _ _=>0):=
 ⟨λ i hi=>by have:=(h.out i hi).2.1;rwa [if_pos hi] at this,λ i j hi hj=>h.row i j hi hj,λ i j _ _ e=>by omega,λ i _ e=>by omega⟩
theorem znu (n:Nat) (w:World) (hn:n<=100):
 Calls prog 126 #[.int .i64 (n:Int)] w λ e w'=>e= .returned (.slice (some ⟨w.heap.size,0,none⟩) n n)/\Mat w' w.heap.size (λ i=>w.heap.size+1+i) n (λ _ _=>0)/\Below w.heap.size w w':=by
 have hmk:=λ W=>run_make_row' (P:=prog) 185 48 (.slice none 0 0) 24 underlying185 z6u rfl .i64 .i64 n (by omega) (by omega) W
 have hmk2:=λ W=>run_make_row' (P:=prog) 48 3 (.int .i64 0) 8 underlying48 Tryz.info3 rfl .i64 .i64 n (by omega) (by omega) W
 have HS:Hid (zfy w (w.alloc (.cells (madeCells #[.slice none 0 0] n) 48)) n 0):=zfy.start w n;go_enter func126,ntmps126;go_wp2_with fail;go_loopw [9] (λ s9 wq=>∃i:Nat,i<=n/\s9= .int .i64 i/\zfy w wq n i) (λ s9 _=>n-(intOf s9).toNat)
 case atStart=>exact ⟨0,Nat.zero_le _,rfl,HS.out⟩
 case round=>
  clear HS;obtain ⟨i,hi,rfl,hr⟩:=hrel;have HR:=kd hr;clear hr;by_cases hlt:i<n
  ·as_aux_lemma=>
   have HN:Hid (zfy w ((wr.alloc (.cells (madeCells #[.int .i64 0] n) 3)).setCell ⟨w.heap.size,i,none⟩ (.slice (some ⟨wr.heap.size,0,none⟩) n n)) n (i+1)):=HR.out.next hlt;have hbA:Below wr.heap.size wr (wr.alloc (.cells (madeCells #[.int .i64 0] n) 3)):=(Below.refl _ _).alloc (Nat.le_refl _) _;have q1:=cell_below (HR.out.out i hlt).2.1 hbA;have q2:=zf3 (HR.out.out i hlt).2.2 (HR.out.out i hlt).1 hbA;rw [if_neg (Nat.lt_irrefl i)] at q1;clear hbA;go_wp2_with fail;go_roundw;case rel=>exact ⟨i+1,by omega,by go_num,HN.out⟩
   case measure=>simp [intOf];omega
  ·as_aux_lemma=>
   have hie:n=i:=by omega
   subst hie;go_wp2_with fail;go_ret;exact ⟨rfl,HR.out.mat,HR.out.bel⟩
end Go.Proofs.YtebcjaenhiiflaaGreatDoor.S
