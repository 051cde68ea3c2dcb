import Derived.Test.YtebcjaenhiiflaaGreatDoorQDaKVb
set_option maxHeartbeats 4000000
set_option maxRecDepth 100000
namespace Go.Proofs.YtebcjaenhiiflaaGreatDoor.S
open Go.RowKit Go.WideMaps Go.Maps Go.Proofs.Tryz
theorem zlc {w:World} {base n b:Nat} {l:List Nat} (hb:base<=w.heap.size) (hr:zak w b l) (hl:l.length=n):
 zb5 ((w.alloc (.cells #[.slice (some ⟨b,0,none⟩) n n] 48)).alloc (.cells #[.slice (some ⟨w.heap.size,0,none⟩) 1 1] 51)) base (w.heap.size+1) n (.slice (some ⟨w.heap.size,0,none⟩) 1 1) [(b,l)]:=by
 refine ⟨?_,?_,zj2 _ _ _⟩
 ·refine World.ownsRow.alloc ?_ _
  refine ⟨by simp,.inr ⟨w.heap.size,1,_,rfl,hb,heap_alloc_new w _,Nat.le_refl _,by unfold maxLen;omega,by simp,?_⟩⟩;simp
 ·intro p hp
  rw [List.mem_singleton.1 hp];exact ⟨(hr.alloc _).alloc _,hl⟩
def za7 (R:List Edg) (e f:Edg):List Edg:=R.filter λ d=>decide (d.1≠e.1)&&decide (d.1≠f.1)
theorem zqp (R:List Edg) (e f:Edg) (F Fn:Nat->Int) (h0:F 0=e.1) (h1:F 1=f.1):R.filter (G.stays F Fn 2 0)=za7 R e f:=by
 unfold za7;refine List.filter_congr (λ d _=>?_);have h3:G.among F 2 d.1=(decide (e.1=d.1) || decide (f.1=d.1)):=by
  simp only [G.among,List.range_succ,List.range_zero,List.nil_append,List.any_append,List.any_cons,List.any_nil,Bool.or_false,h0,h1];rw [Bool.eq_iff_iff];simp
 have h2:∀x,G.among Fn 0 x=false:=λ x=>by simp [G.among]
 unfold G.stays;rw [h3,h2,h2];by_cases hd:d.1=e.1
 ·simp [hd]
 ·by_cases hf:d.1=f.1
  ·simp [hf]
  ·simp [hd,hf,Ne.symm hd,Ne.symm hf]
theorem zif {n:Nat} {R:List Edg} (h:Inn n R) (e f:Edg):Inn n (za7 R e f):=λ d hd=>h d (List.mem_filter.1 hd).1
theorem znq (R:List Edg) (e f:Edg):(za7 R e f).length<=R.length:=List.length_filter_le _ _
theorem zvh (R:List Edg) (e f:Edg):za7 R e f=za7 R f e:=by
 unfold za7;exact List.filter_congr (λ d _=>Bool.and_comm _ _)
def zfr (n:Nat) (R:List Edg) (P:List (Nat × List Nat)) (i j:Nat):Prop:=
 ∀x y,x<n->y<n->((∀p∈P,p.2.getD x 0=p.2.getD y 0)↔(cnR R x y/\∀i' j' e f,(i'<i\/i'=i/\j'<j)->i'<=j'->R[i']? =some e->R[j']? =some f->cnR (za7 R e f) x y))
theorem zsi {n b:Nat} {R:List Edg} {l:List Nat} (h:∀u v,u<n->v<n->(l.getD u 0=l.getD v 0↔cnR R u v)):zfr n R [(b,l)] 0 0:=by
 intro x y hx hy;simp only [List.mem_singleton,forall_eq];rw [h x y hx hy];exact ⟨λ k=>⟨k,λ i' j' e f hi=>by omega⟩,λ k=>k.1⟩
theorem zu0 {n b i j:Nat} {R:List Edg} {l:List Nat} {P:List (Nat × List Nat)} {e f:Edg} (h:zfr n R P i j) (hi:R[i]? =some e) (hij:i<=j) (hj:R[j]? =some f) (hl:∀u v,u<n->v<n->(l.getD u 0=l.getD v 0↔cnR (za7 R e f) u v)):zfr n R (P++[(b,l)]) i (j+1):=by
 intro x y hx hy;have h1:=h x y hx hy;have h2:=hl x y hx hy;simp only [List.mem_append,List.mem_singleton];constructor
 ·intro k
  have k1:=h1.1 (λ p hp=>k p (.inl hp));refine ⟨k1.1,λ i' j' e' f' hh hle he' hf'=>?_⟩;by_cases hn:i'=i/\j'=j
  ·obtain ⟨rfl,rfl⟩:=hn
   rw [hi] at he';rw [hj] at hf';cases he';cases hf';exact h2.1 (k (b,l) (.inr rfl))
  ·exact k1.2 i' j' e' f' (by omega) hle he' hf'
 ·rintro ⟨k1,k2⟩ p (hp | rfl)
  ·exact h1.2 ⟨k1,λ i' j' e' f' hh=>k2 i' j' e' f' (by omega)⟩ p hp
  ·exact h2.2 (k2 i j e f (by omega) hij hi hj)
theorem zvj {n i m:Nat} {R:List Edg} {P:List (Nat × List Nat)} (hm:R.length=m) (h:zfr n R P i m):zfr n R P (i+1) (i+1):=by
 intro x y hx hy;rw [h x y hx hy];constructor
 ·rintro ⟨k1,k2⟩
  refine ⟨k1,λ i' j' e f hh hle he hf=>k2 i' j' e f ?_ hle he hf⟩;have:=(List.getElem?_eq_some_iff.1 hf).1;omega
 ·rintro ⟨k1,k2⟩
  exact ⟨k1,λ i' j' e f hh hle he hf=>k2 i' j' e f (by omega) hle he hf⟩
theorem zxx {n m j:Nat} {R:List Edg} {P:List (Nat × List Nat)} (hm:R.length=m) (h:zfr n R P m j) {x y:Nat} (hx:x<n) (hy:y<n):(∀p∈P,p.2.getD x 0=p.2.getD y 0)↔(cnR R x y/\∀e∈R,∀f∈R,cnR (za7 R e f) x y):=by
 rw [h x y hx hy];constructor
 ·rintro ⟨k1,k2⟩
  refine ⟨k1,λ e he f hf=>?_⟩;obtain ⟨i,hi⟩:=List.getElem?_of_mem he;obtain ⟨j,hj⟩:=List.getElem?_of_mem hf;have h1:=(List.getElem?_eq_some_iff.1 hi).1;have h2:=(List.getElem?_eq_some_iff.1 hj).1;by_cases hij:i<=j
  ·exact k2 i j e f (by omega) hij hi hj
  ·rw [zvh]
   exact k2 j i f e (by omega) (by omega) hj hi
 ·rintro ⟨k1,k2⟩
  exact ⟨k1,λ i' j' e f _ _ he hf=>k2 e (List.mem_of_getElem? he) f (List.mem_of_getElem? hf)⟩
theorem zj3 {w:World} {k t:Nat} {v:Value} (h:w.heap[k]? =some (.cells #[v] t)):w.cell? ⟨k,0,none⟩=some v:=by simp [World.cell?,h]
theorem zn9 {w:World} {base e k:Nat} {v:Value} {xs:List Value} (h:w.ownsRow base e 1 v k xs) (hk:0<k):∃g cap,v= .slice (some ⟨g,0,none⟩) k cap:=by
 rcases h.2 with ⟨_,hz⟩ | ⟨g,cap,cur,rfl,_⟩
 ·omega
 ·exact ⟨g,cap,rfl⟩
theorem zta (w:World) (x y:Int):G.Ints (w.alloc (.cells #[.int .i64 x,.int .i64 y] 3)) (some ⟨w.heap.size,0,none⟩) 2 (λ t=>if t=0 then x else y):=
 ⟨λ _=>⟨w.heap.size,0,rfl,λ t ht=>by
   have:t=0\/t=1:=by omega
   rcases this with rfl | rfl <;> simp⟩⟩
theorem zu1 (n B q:Nat) (u:Value) (R:List Edg) (L:List Nat) (w:World) (h:G.GAt w B 40 61 q (n:Int) u R) (hl:R.length<=120) (hn:n<=40) (hin:Inn n R) (hg:Good n L) (hL:∀x y,x<n->y<n->(L.getD x 0=L.getD y 0↔(cnR R x y/\∀e∈R,∀f∈R,cnR (za7 R e f) x y))):
 Calls prog 67 #[.pointer (some ⟨q,0,none⟩)] w (zb9 w (zao L n)):=by
 have HG:=kd h;have HLL:=kd hL;have HIN:=kd hin;have hmf':=hmf;obtain ⟨i0,hi0,hz0,hz1,hz2⟩:=info_parts Tryz.info48;obtain ⟨m,hm⟩:∃m,m=R.length:=⟨_,rfl⟩;have HM:=kd hm;obtain ⟨ua,uc,hv⟩:=h.row.zal;rw [<-hm] at hv hl;have HV:=kd hv;clear h hL hin hm hv;go_enter func67,ntmps67;go_wp2_with fail;refine (zbk n B q u R w HG.out (by rw [<-HM.out];omega) hn HIN.out).mono ?_;rintro e w1 ⟨b0,l0,rfl,hr,hb,hll,hlab,hbl⟩;have HA0:Hid (zb5 ((w1.alloc (.cells #[.slice (some ⟨b0,0,none⟩) n n] 48)).alloc (.cells #[.slice (some ⟨w1.heap.size,0,none⟩) 1 1] 51)) w1.heap.size (w1.heap.size+1) n (.slice (some ⟨w1.heap.size,0,none⟩) 1 1) [(b0,l0)]):=zlc (Nat.le_refl _) hr hll;have HS0:Hid (zfr n R [(b0,l0)] 0 0):=zsi hlab;have HB0:Hid (Below w.heap.size w ((w1.alloc (.cells #[.slice (some ⟨b0,0,none⟩) n n] 48)).alloc (.cells #[.slice (some ⟨w1.heap.size,0,none⟩) 1 1] 51))):=hbl.trans ((za9 _ _ _).mono hbl.size);have hws:=hbl.size;have hg0:=HG.out.below HB0.out;have hu1:((w1.alloc (.cells #[.slice (some ⟨b0,0,none⟩) n n] 48)).alloc (.cells #[.slice (some ⟨w1.heap.size,0,none⟩) 1 1] 51)).cell? ⟨q,1,none⟩=some (.slice ua m uc):=by have:=hg0.c1;rwa [HV.out] at this
 clear hr hb hlab hbl hg0;go_wp2_with fail;go_loopw [16] (λ s16 wq=>∃(i:Nat) (v:Value) (P:List (Nat × List Nat)),i<=m/\s16= .int .i64 i/\0<P.length/\P.length<=1+120*i/\zb5 wq w1.heap.size (w1.heap.size+1) n v P/\zfr n R P i i/\Below w.heap.size w wq) (λ s16 _=>m-(intOf s16).toNat)
 case atStart=>exact ⟨0,_,_,Nat.zero_le _,rfl,by simp,by simp,HA0.out,HS0.out,HB0.out⟩
 case round=>
  obtain ⟨i,v,P,hi,rfl,hP0,hPl,hA,hS,hb⟩:=hrel;have HA:=kd hA;have HS:=kd hS;have HB:=kd hb;have hbs:=hb.size;clear hA hS hb HA0 HS0 HB0 hu1;by_cases hlt:i<m
  ·rename World=>wo
   obtain ⟨⟨x0,x1,x2⟩,hx⟩:∃e,R[i]? =some e:=⟨_,List.getElem?_eq_getElem (by rw [<-HM.out];exact hlt)⟩;have HX:=kd hx;obtain ⟨g,hua,hcap⟩:∃g,ua=some ⟨g,0,none⟩/\m<=uc:=by
    rcases HG.out.row.2 with ⟨_,e⟩ | ⟨g,cap,cur,e,_,_,h4,_⟩
    ·have:=HM.out;omega
    ·rw [HV.out] at e
     injection e with e1 e2 e3
     exact ⟨g,e1,by have:=HM.out;omega⟩
   obtain ⟨r0,r1,r2⟩:=(HG.out.below HB.out).row.at (g:=g) (by rw [HV.out,hua];rfl) hx;simp only at r0 r1 r2;subst hua;clear hx;have hbW:Below wo.heap.size wo (wo.alloc (.cells #[.int .i64 x0,.int .i64 x1,.int .i64 x2] 61)):=(Below.refl _ _).alloc (Nat.le_refl _) _;have HI0:Hid (zb5 (wo.alloc (.cells #[.int .i64 x0,.int .i64 x1,.int .i64 x2] 61)) w1.heap.size (w1.heap.size+1) n v P/\(wo.alloc (.cells #[.int .i64 x0,.int .i64 x1,.int .i64 x2] 61)).heap[wo.heap.size]? =some (.cells #[.int .i64 x0,.int .i64 x1,.int .i64 x2] 61)/\Below w.heap.size w (wo.alloc (.cells #[.int .i64 x0,.int .i64 x1,.int .i64 x2] 61))):=⟨HA.out.below hbW,heap_alloc_new wo _,HB.out.trans (hbW.mono hbs)⟩;have hu2:(wo.alloc (.cells #[.int .i64 x0,.int .i64 x1,.int .i64 x2] 61)).cell? ⟨q,1,none⟩=some (.slice (some ⟨g,0,none⟩) m uc):=by have:=(HG.out.below HI0.out.2.2).c1;rwa [HV.out] at this
   have hwo1:w1.heap.size+1<wo.heap.size:=lt_of_some HA.out.box;have hb2:(i:Int)<=(m:Int):=by omega
   have hb4:(i:Int)<=(uc:Int):=by omega
   have hb5:(m:Int)<=(uc:Int):=by omega
   have hcj:¬uc=i:=by omega
   clear hbW HA;go_wp2_with fail;clear r0 r1 r2 hu2 hb2 hb4 hb5 hcj hcap;obtain ⟨r,hr⟩:∃r,m-i=r:=⟨_,rfl⟩;have HR:Hid (i+r=m):=by show i+r=m;omega
   have hr30:r<=120:=by omega
   rw [hr];clear hr;go_loopw [28] (λ s28 wq=>∃(k:Nat) (v:Value) (P:List (Nat × List Nat)),k<=r/\s28= .int .i64 k/\0<P.length/\P.length<=1+120*i+k/\zb5 wq w1.heap.size (w1.heap.size+1) n v P/\zfr n R P i (i+k)/\wq.heap[wo.heap.size]? =some (.cells #[.int .i64 x0,.int .i64 x1,.int .i64 x2] 61)/\Below w.heap.size w wq) (λ s28 _=>r-(intOf s28).toNat)
   case atStart=>exact ⟨0,v,P,Nat.zero_le _,rfl,hP0,hPl,HI0.out.1,HS.out,HI0.out.2.1,HI0.out.2.2⟩
   case round=>
    clear HI0 HS HB hP0 hPl hbs;obtain ⟨k,v,P,hk,rfl,hP0,hPl,hA,hS,hcx,hb⟩:=hrel;have HA:=kd hA;have HS:=kd hS;have HB:=kd (And.intro hb hcx);have HPL:=kd hPl;have hbs:=hb.size;have hwor:wo.heap.size<wr.heap.size:=lt_of_some hcx;clear hA hS hb hcx;by_cases hltk:k<r
    ·as_aux_lemma=>
     obtain ⟨⟨y0,y1,y2⟩,hy⟩:∃e,R[i+k]? =some e:=⟨_,List.getElem?_eq_getElem (by rw [<-HM.out,<-HR.out];omega)⟩;have HY:=kd hy;obtain ⟨r0,r1,r2⟩:=(HG.out.below HB.out.1).row.at (g:=g) (by rw [HV.out];rfl) hy;simp only at r0 r1 r2;have ea0:(i+k)*3=i*3+k*3:=by omega
     have s0:wr.cell? ⟨g,i*3+k*3,none⟩=some (.int .i64 y0):=by rw [<-ea0];exact r0
     have s1:wr.cell? ⟨g,i*3+k*3+1,none⟩=some (.int .i64 y1):=by rw [<-ea0];exact r1
     have s2:wr.cell? ⟨g,i*3+k*3+2,none⟩=some (.int .i64 y2):=by rw [<-ea0];exact r2
     clear hy r0 r1 r2 ea0;obtain ⟨W1,hW1⟩:∃W1,W1=wr.alloc (.cells #[.int .i64 y0,.int .i64 y1,.int .i64 y2] 61):=⟨_,rfl⟩;have hh:W1.heap[wr.heap.size]? =some (.cells #[.int .i64 y0,.int .i64 y1,.int .i64 y2] 61):=by rw [hW1];exact heap_alloc_new wr _
     have hbW:Below wr.heap.size wr W1:=by rw [hW1];exact (Below.refl _ _).alloc (Nat.le_refl _) _
     have hsz:W1.heap.size=wr.heap.size+1:=by rw [hW1];simp
     have HBX:Hid (W1.heap[wr.heap.size]? =some (.cells #[.int .i64 y0,.int .i64 y1,.int .i64 y2] 61)/\W1.heap[wo.heap.size]? =some (.cells #[.int .i64 x0,.int .i64 x1,.int .i64 x2] 61)):=⟨hh,(hbW.block _ hwor).trans HB.out.2⟩;have HBW:Hid (Below w.heap.size w W1):=HB.out.1.trans (hbW.mono hbs);have HAW:Hid (zb5 W1 w1.heap.size (w1.heap.size+1) n v P):=HA.out.below hbW;have HW1:=kd hW1.symm;have HPK:Hid (∀w',Below W1.heap.size W1 w'->w'.cell? ⟨wr.heap.size,0,none⟩=some (.int .i64 y0)/\w'.cell? ⟨wo.heap.size,0,none⟩=some (.int .i64 x0)/\w'.cell? ⟨w1.heap.size+1,0,none⟩=some v/\zb5 w' w1.heap.size (w1.heap.size+1) n v P/\w'.heap[wo.heap.size]? =some (.cells #[.int .i64 x0,.int .i64 x1,.int .i64 x2] 61)):=λ w' hb=>by
      have h1:w'.heap[wr.heap.size]? =some (.cells #[.int .i64 y0,.int .i64 y1,.int .i64 y2] 61):=(hb.block _ (by omega)).trans HBX.out.1;have h2:=(hb.block _ (lt_of_some HBX.out.2)).trans HBX.out.2;exact ⟨by simp [World.cell?,h1],by simp [World.cell?,h2],zj3 (HAW.out.below hb).box,HAW.out.below hb,h2⟩
     have hlt1:w1.heap.size+1<W1.heap.size:=lt_of_some HAW.out.box;have HWO:Hid (Calls prog 58 #[.pointer (some ⟨q,0,none⟩),.slice (some ⟨wr.heap.size+1,0,none⟩) 2 2,.slice none 0 0] (W1.alloc (.cells #[.int .i64 x0,.int .i64 y0] 3)).drew λ e w'=>∃q' v',e= .returned (.pointer (some ⟨q',0,none⟩))/\G.GAt w' W1.heap.size 40 61 q' (n:Int) v' (za7 R (x0,x1,x2) (y0,y1,y2))/\Below W1.heap.size W1 w'):=by
      have hb2:Below W1.heap.size W1 (W1.alloc (.cells #[.int .i64 x0,.int .i64 y0] 3)).drew:=((Below.refl _ _).alloc (Nat.le_refl _) _).drew;have hgW:=(HG.out.below HBW.out).below hb2;have h1i:G.Ints (W1.alloc (.cells #[.int .i64 x0,.int .i64 y0] 3)).drew (some ⟨wr.heap.size+1,0,none⟩) 2 (λ t=>if t=0 then x0 else y0):=by
       have:=zta W1 x0 y0;rw [hsz] at this;exact this.below ((Below.refl _ _).drew)
      refine (G.zbw (n:Int) B q u R _ none 2 0 2 0 (λ t=>if t=0 then x0 else y0) (λ _=>0) _ hgW (by rw [<-HM.out];omega) h1i (zlq _) (by omega) (by omega)).mono ?_;rintro e w' ⟨q',v',rfl,hg',hb'⟩;rw [zqp R (x0,x1,x2) (y0,y1,y2) _ _ (by simp) (by simp)] at hg';refine ⟨q',v',rfl,⟨hg'.hp,hg'.row.mono ?_,hg'.ne⟩,hb2.trans (hb'.mono ?_)⟩
      ·exact hb2.size
      ·exact hb2.size
     have bA:Below W1.heap.size W1 W1.drew:=(Below.refl _ _).drew;have bB:Below W1.heap.size W1 (W1.alloc (.cells #[.int .i64 x0,.int .i64 y0] 3)):=(Below.refl _ _).alloc (Nat.le_refl _) _;have bC:Below W1.heap.size W1 (W1.alloc (.cells #[.int .i64 x0,.int .i64 y0] 3)).drew:=((Below.refl _ _).alloc (Nat.le_refl _) _).drew;obtain ⟨a1,a2,a3,_,_⟩:=HPK.out W1 (Below.refl _ _);obtain ⟨b1,b2,b3,_,_⟩:=HPK.out _ bA;obtain ⟨c1,c2,c3,_,_⟩:=HPK.out _ bB;obtain ⟨d1,d2,d3,_,_⟩:=HPK.out _ bC;have hP1:P.length<=20000:=by omega
     clear hh hbW hW1 bA bB bC;go_upto_region 8 with fail
     rw [HW1.out];clear s0 s1 s2
     go_region_law
      (first
        | (obtain ⟨v5,w5,hrun,hown5,hgrow5,_,_⟩:=run_append_own_at (P:=prog) (w3.alloc (.cells #[.slice (some ⟨b,0,none⟩) n n] 48)) w1.heap.size 51 51 48 i0 (.slice none 0 0) 1 24 underlying51 hi0 hz0 hz1 hz2 rfl (by decide) v P.length _ (HA3.out.own.alloc _) ⟨w3.heap.size,0,none⟩ 1 1 [.slice (some ⟨b,0,none⟩) n n] rfl (cell_one_new _ _ _) (zcu _ _ _) (by unfold maxLen;omega) (by omega) (by simp;omega)
           obtain ⟨g5,cap5,rfl⟩:=zn9 hown5 (by omega);refine G.zau rfl (.tmp 32) (.tmp 41) 51 51 rfl v (.slice (some ⟨w3.heap.size,0,none⟩) 1 1) (by first | rfl | (simp [Act.eval];done) | (simp [Act.eval,Act.put];done)) (by first | rfl | (simp [Act.eval];done) | (simp [Act.eval,Act.put];done)) hrun ?_;obtain ⟨hA5,c5,f5⟩:=HA3.out.push HR3.out.1 HR3.out.2.1 hown5 hgrow5)
        | (go_simp;go_at_call 58;refine Calls.mono HWO.out ?_;rintro e' w2 ⟨q',v',rfl,hg2,hb2⟩;obtain ⟨m1,m2,m3,m4,_⟩:=HPK.out w2 hb2;have HG2:Hid (G.GAt w2 W1.heap.size 40 61 q' (n:Int) v' (za7 R (x0,x1,x2) (y0,y1,y2))/\Below W1.heap.size W1 w2):=⟨hg2,hb2⟩;clear hg2 hb2 m4)
        | (go_simp;go_at_call 59;refine (zbk n W1.heap.size q' v' (za7 R (x0,x1,x2) (y0,y1,y2)) w2 HG2.out.1 (Nat.le_trans (znq _ _ _) (by rw [<-HM.out];omega)) hn (zif HIN.out _ _)).mono ?_;rintro e' w3 ⟨b,l,rfl,hr,hbb,hll',hlab,hb3⟩;have HW3:Hid (Below W1.heap.size W1 w3):=HG2.out.2.trans (hb3.mono HG2.out.2.size);obtain ⟨m5,m6,m7,m8,_⟩:=HPK.out w3 HW3.out;have m9:(w3.alloc (.cells #[.slice (some ⟨b,0,none⟩) n n] 48)).cell? ⟨w1.heap.size+1,0,none⟩=some v:=(HPK.out _ (HW3.out.alloc HW3.out.size _)).2.2.1;have HA3:Hid (zb5 w3 w1.heap.size (w1.heap.size+1) n v P):=m8;have HR3:Hid (zak w3 b l/\l.length=n/\(∀u v,u<n->v<n->(l.getD u 0=l.getD v 0↔cnR (za7 R (x0,x1,x2) (y0,y1,y2)) u v))):=⟨hr,hll',hlab⟩;have hs3:=HW3.out.size;clear hr hbb hlab hb3 m8 hll'))
     all_goals
      have hF0:(zb5 (w5.setCell ⟨w1.heap.size+1,0,none⟩ (.slice (some ⟨g5,0,none⟩) (P.length+1) cap5)) w1.heap.size (w1.heap.size+1) n (.slice (some ⟨g5,0,none⟩) (P.length+1) cap5) (P++[(b,l)])/\(w5.setCell ⟨w1.heap.size+1,0,none⟩ (.slice (some ⟨g5,0,none⟩) (P.length+1) cap5)).heap[wo.heap.size]? =some (.cells #[.int .i64 x0,.int .i64 x1,.int .i64 x2] 61)/\Below w.heap.size w (w5.setCell ⟨w1.heap.size+1,0,none⟩ (.slice (some ⟨g5,0,none⟩) (P.length+1) cap5))):=by
       have hb3:Below w.heap.size w w3:=HBW.out.trans (HW3.out.mono HBW.out.size);refine ⟨hA5,?_,(hb3.grown ((World.grownBy_alloc w3 _ _).trans hgrow5) hb3.size (λ j hj=>Nat.le_trans hws (HA3.out.own.lt j hj).1)).setCell (show w.heap.size<=w1.heap.size+1 by omega) _⟩;have hc3:=(HPK.out w3 HW3.out).2.2.2.2;have hl3:=lt_of_some hc3;have hne:v.ownBlock≠some wo.heap.size:=λ e=>by
        obtain ⟨cur,hcur⟩:=ziz HA3.out.own e;rw [hc3] at hcur;simp at hcur
       rw [Below.heap_setCell _ _ _ _ (show wo.heap.size≠w1.heap.size+1 by omega),hgrow5.block wo.heap.size (by simp;omega) (λ e=>hne e.symm),Below.heap_alloc _ _ _ hl3];exact hc3
      have HF:Hid _:=hF0;clear hA5 hgrow5 hown5 hrun c5 f5 hF0;go_wp2_with fail;go_roundw;case rel=>exact ⟨k+1,_,P++[(b,l)],by omega,by go_num,by simp,by have:=HPL.out;rw [List.length_append,List.length_singleton];omega,HF.out.1,zu0 HS.out HX.out (Nat.le_add_right _ _) HY.out HR3.out.2.2,HF.out.2.1,HF.out.2.2⟩
      case measure=>simp [intOf];omega
    ·as_aux_lemma=>
     have HF:Hid (zfr n R P (i+1) (i+1)):=by
      have h1:=HS.out;have e1:i+k=m:=by have:=HR.out;omega
      rw [e1] at h1;exact zvj HM.out.symm h1
     clear HS;go_wp2_with fail;go_roundw;case rel=>exact ⟨i+1,v,P,by omega,by go_num,hP0,by omega,HA.out,HF.out,HB.out.1⟩
     case measure=>simp [intOf];omega
  ·as_aux_lemma=>
   have hie:i=m:=by omega
   have hgr:=HG.out.below HB.out;have hc:=hgr.c0;have HAL:Hid (Alike 124 wr n (w1.heap.size+1) L):=by
    intro W' hW' x y s hx hy hs;refine z7l x y (w1.heap.size+1) n w1.heap.size v P s W' (HA.out.below hW') hP0 (by omega) hx hy ?_;have h1:=HS.out;rw [hie] at h1;rw [zxx HM.out.symm h1 hx hy,<-HLL.out x y hx hy,<-hs,beq_iff_eq];omega
   clear hgr;go_wp2_with fail;refine (zsq n (w1.heap.size+1) L wr HAL.out hg hn).mono ?_;rintro e w2 ⟨t,r,c,rfl,hP,hb2⟩;have HF:Hid (zb9 w (zao L n) (.returned t) w2):=zgy hP hb2 HB.out;clear hP hb2;go_wp2;go_ret;exact HF.out
open Go.RowKit Go.WideMaps Go.Maps
theorem zik {n:Nat} {l l':List Nat} (h:Good n l) (h':Good n l') (he:∀u v,u<n->v<n->(l.getD u 0=l.getD v 0↔l'.getD u 0=l'.getD v 0)):l=l':=by
 have half:∀{l l':List Nat},Good n l->Good n l'->(∀u v,u<n->v<n->(l.getD u 0=l.getD v 0↔l'.getD u 0=l'.getD v 0))->∀i,i<n->l'.getD i 0<=l.getD i 0:=by
  intro l l' h h' he i hi;have h1:=h.le i hi;have h2:=(he (l.getD i 0) i (by omega) hi).1 (h.idem i hi);rw [<-h2];exact h'.le _ (by omega)
 apply List.ext_getElem
 ·rw [h.len,h'.len]
 ·intro i h1 h2
  have a1:=half h h' he i (by rw [<-h.len];exact h1);have a2:=half h' h (λ u v hu hv=>(he u v hu hv).symm) i (by rw [<-h.len];exact h1);simp [List.getD_eq_getElem?_getD,List.getElem?_eq_getElem h1,List.getElem?_eq_getElem h2] at a1 a2;omega
theorem znc {n:Nat} {T:List Edg} {l:List Nat} (hg:Good n l) (hin:Inn n T) (hl:∀u v,u<n->v<n->(l.getD u 0=l.getD v 0↔cnR T u v)):l=lbl n T:=by
 have hN:zbj n T:=λ e he=>⟨(hin e he).1,(hin e he).2.1⟩
 exact zik hg (zcd hN) (λ u v hu hv=>by rw [hl u v hu hv,zb6 hN hu hv])
def zdh (n:Nat) (l:List Nat):Nat:=cnt (λ x=>decide (x=l.getD x 0)) n
theorem cnt_mono {f g:Nat->Bool}:∀{n},(∀i,i<n->f i=true->g i=true)->cnt f n<=cnt g n
 | 0,_=>Nat.le_refl _
 | n+1,h=>by
   have ih:=cnt_mono (f:=f) (g:=g) (n:=n) (λ i hi=>h i (by omega));have h1:=h n (by omega);simp only [cnt];cases hf:f n with
   | false=>simp;omega
   | true=>simp [h1 hf];omega
theorem zti {f g:Nat->Bool}:∀{n},(∀i,i<n->f i=true->g i=true)->cnt f n=cnt g n->∀i,i<n->f i=g i
 | 0,_,_,i,hi=>by omega
 | n+1,h,he,i,hi=>by
   have ih:=zti (f:=f) (g:=g) (n:=n) (λ i hi=>h i (by omega));have hm:=cnt_mono (f:=f) (g:=g) (n:=n) (λ i hi=>h i (by omega));have h1:=h n (by omega);simp only [cnt] at he;have hn:f n=g n:=by
    cases hf:f n with
    | true=>rw [h1 hf]
    | false=>
      cases hg:g n with
      | false=>rfl
      | true=>simp [hf,hg] at he;omega
   by_cases e:i=n
   ·rw [e];exact hn
   ·exact ih (by rw [hn] at he;omega) i (by omega)
theorem zsw {n:Nat} {l l':List Nat} (h:Good n l) (h':Good n l') (hf:∀u v,u<n->v<n->l'.getD u 0=l'.getD v 0->l.getD u 0=l.getD v 0):zdh n l<=zdh n l'/\(zdh n l=zdh n l'↔l'=l):=by
 have hsub:∀i,i<n->decide (i=l.getD i 0)=true->decide (i=l'.getD i 0)=true:=λ i hi hd=>by
  have h1:=of_decide_eq_true hd;have h2:=h'.le i hi;have h3:=hf (l'.getD i 0) i (by omega) hi (h'.idem i hi);have h4:=h.le (l'.getD i 0) (by omega);exact decide_eq_true (by omega)
 refine ⟨cnt_mono hsub,λ he=>?_,λ he=>by rw [he]⟩;have hall:=zti hsub he;refine zik h' h (λ u v hu hv=>⟨hf u v hu hv,λ huv=>?_⟩);have same:∀u,u<n->l'.getD u 0=l.getD u 0:=λ u hu=>by
  have h1:=h'.le u hu;have h2:=h'.idem u hu;have h3:=hall (l'.getD u 0) (by omega);rw [decide_eq_true h2.symm] at h3;have h4:=of_decide_eq_true h3;have h5:=hf (l'.getD u 0) u (by omega) hu h2;omega
 rw [same u hu,same v hv];exact huv
theorem zjd (b n:Nat) (l:List Nat) (w:World) (hr:zak w b l) (hl:l.length=n) (hn:n<=40):
 Calls prog 122 #[.slice (some ⟨b,0,none⟩) n n] w λ e w'=>e= .returned (.int .i64 (zdh n l:Int))/\w'=w:=by
 have HR:=kd (And.intro hr hl);clear hr hl;go_enter func122,ntmps122;go_wp2_with fail;go_loopw [3,8] (λ s3 s8 wq=>∃k:Nat,k<=n/\s8= .int .i64 k/\s3= .int .i64 ((cnt (λ x=>decide (x=l.getD x 0)) k:Nat):Int)/\wq=w) (λ _ s8 _=>n-(intOf s8).toNat)
 case atStart=>exact ⟨0,Nat.zero_le _,rfl,rfl,rfl⟩
 case round=>
  obtain ⟨k,hk,rfl,rfl,rfl⟩:=hrel;have hcl:=zi6 (λ x=>decide (x=l.getD x 0)) k;have HC:Hid (cnt (λ x=>decide (x=l.getD x 0)) (k+1)=(if decide (k=l.getD k 0) then cnt (λ x=>decide (x=l.getD x 0)) k+1 else cnt (λ x=>decide (x=l.getD x 0)) k)):=by
   show cnt (λ x=>decide (x=l.getD x 0)) k+(if decide (k=l.getD k 0)=true then 1 else 0)=_;by_cases hd:decide (k=l.getD k 0)=true
   ·rw [if_pos hd,if_pos hd]
   ·rw [if_neg hd,if_neg hd];rfl
  obtain ⟨c,hc⟩:∃c,cnt (λ x=>decide (x=l.getD x 0)) k=c:=⟨_,rfl⟩;have HCC:=kd hc;rw [hc] at HC hcl ⊢;clear hc;by_cases hlt:k<n
  ·have hcell:=HR.out.1.cell k (by rw [HR.out.2];exact hlt)
   obtain ⟨z,hz⟩:∃z,l.getD k 0=z:=⟨_,rfl⟩;rw [hz] at HC hcell;clear hz;by_cases he:k=z
   ·as_aux_lemma=>
    subst he;have HC2:Hid (cnt (λ x=>decide (x=l.getD x 0)) (k+1)=c+1):=by show cnt _ _=_;rw [HC.out];simp
    clear HC;go_wp2_with fail;go_roundw;case rel=>exact ⟨k+1,by omega,by go_num,by rw [HC2.out];go_num,trivial⟩
    case measure=>simp [intOf];omega
   ·as_aux_lemma=>
    have HC2:Hid (cnt (λ x=>decide (x=l.getD x 0)) (k+1)=c):=by show cnt _ _=_;rw [HC.out];simp [he]
    have hq:((k:Int)==(z:Int))=false:=beq_eq_false_iff_ne.2 (by omega);clear HC he;go_wp2_with fail;go_roundw;case rel=>exact ⟨k+1,by omega,by go_num,by rw [HC2.out],trivial⟩
    case measure=>simp [intOf];omega
  ·as_aux_lemma=>
   have hke:k=n:=by omega
   have HF:Hid (zdh n l=c):=by show zdh n l=c;rw [<-HCC.out,hke];rfl
   clear HC hke;go_wp2_with fail;go_ret;exact ⟨by simp [HF.out],rfl⟩
def nP (n:Nat) (T:List Edg):Nat:=zdh n (lbl n T)
structure Bx (w:World) (B q n N:Nat) (u:Value) (R:List Edg) (bq bn:Nat):Prop where
 ga:G.GAt w B 40 61 q (n:Int) u R
 cq:w.cell? ⟨bq,0,none⟩=some (.pointer (some ⟨q,0,none⟩))
 cn:w.cell? ⟨bn,0,none⟩=some (.int .i64 (N:Int))
theorem Bx.below {w w':World} {B q n N:Nat} {u:Value} {R:List Edg} {bq bn:Nat} (h:Bx w B q n N u R bq bn) (hb:Below w.heap.size w w'):Bx w' B q n N u R bq bn:=⟨h.ga.below hb,cell_below h.cq hb,cell_below h.cn hb⟩
theorem zr2 (B q n N:Nat) (u:Value) (R:List Edg) (bq bn:Nat) (e:Edg) (s:Bool) (w:World) (h:Bx w B q n N u R bq bn) (hl:R.length<=120) (hn:n<=40) (hin:Inn n R) (hs:decide (nP n (rest R e)=N)=s):
 Calls prog 123 #[.int .i64 e.1,.pointer (some ⟨bq,0,none⟩),.pointer (some ⟨bn,0,none⟩)] w λ en w'=>en= .returned (.bool s)/\Below w.heap.size w w':=by
 obtain ⟨x,hx⟩:∃x,e.1=x:=⟨_,rfl⟩;have HX:Hid (Bx w B q n N u R bq bn/\Inn n R/\e.1=x/\decide (nP n (rest R e)=N)=s):=⟨h,hin,hx,hs⟩;have HPK:Hid (∀w',Below w.heap.size w w'->w'.cell? ⟨bq,0,none⟩=some (.pointer (some ⟨q,0,none⟩))/\w'.cell? ⟨bn,0,none⟩=some (.int .i64 (N:Int))):=λ w' hb=>⟨(h.below hb).cq,(h.below hb).cn⟩
 have HWO:Hid (Calls prog 58 #[.pointer (some ⟨q,0,none⟩),.slice (some ⟨w.heap.size,0,none⟩) 1 1,.slice none 0 0] (w.alloc (.cells #[.int .i64 x] 3)).drew λ e' w'=>∃q' v',e'= .returned (.pointer (some ⟨q',0,none⟩))/\G.GAt w' w.heap.size 40 61 q' (n:Int) v' (rest R e)/\Below w.heap.size w w'):=by
  subst hx;have hb2:Below w.heap.size w (w.alloc (.cells #[.int .i64 e.1] 3)).drew:=((Below.refl _ _).alloc (Nat.le_refl _) _).drew;have h1i:G.Ints (w.alloc (.cells #[.int .i64 e.1] 3)).drew (some ⟨w.heap.size,0,none⟩) 1 (λ _=>e.1):=(zq7 w e.1).below ((Below.refl _ _).drew);refine (G.zbw (n:Int) B q u R _ none 1 0 1 0 (λ _=>e.1) (λ _=>0) _ (h.ga.below hb2) hl h1i (zlq _) (by omega) (by omega)).mono ?_;rintro e' w' ⟨q',v',rfl,hg',hb'⟩;rw [zna R e] at hg';exact ⟨q',v',rfl,⟨hg'.hp,hg'.row.mono hb2.size,hg'.ne⟩,hb2.trans (hb'.mono hb2.size)⟩
 have HSB:Hid ((((nP n (rest R e):Nat):Int)==(N:Int))=s):=by
  show _=_;rw [<-hs];rw [Bool.eq_iff_iff,beq_iff_eq,decide_eq_true_iff];omega
 obtain ⟨a1,a2⟩:=HPK.out w (Below.refl _ _);obtain ⟨b1,b2⟩:=HPK.out w.drew (Below.refl _ _).drew;obtain ⟨c1,c2⟩:=HPK.out (w.alloc (.cells #[.int .i64 x] 3)) ((Below.refl _ _).alloc (Nat.le_refl _) _);obtain ⟨d1,d2⟩:=HPK.out (w.alloc (.cells #[.int .i64 x] 3)).drew ((Below.refl _ _).alloc (Nat.le_refl _) _).drew;rw [hx];clear h hin hx hs;go_enter func123,ntmps123;go_upto_region 1 with fail
 go_region_law
  (first
    | (go_simp;go_at_call 58;refine Calls.mono HWO.out ?_;rintro e' w2 ⟨q',v',rfl,hg2,hb2⟩;obtain ⟨m1,m2⟩:=HPK.out w2 hb2;have HG2:Hid (G.GAt w2 w.heap.size 40 61 q' (n:Int) v' (rest R e)/\Below w.heap.size w w2):=⟨hg2,hb2⟩;clear hg2 hb2)
    | (go_simp;go_at_call 59;refine (zfc n w.heap.size q' v' (rest R e) w2 HG2.out.1 (Nat.le_trans (zke _ _) hl) hn (zhp HX.out.2.1 _)).mono ?_;rintro e' w3 ⟨b,l,rfl,hr,hbb,hgd,hlab,hb3⟩;have HW3:Hid (Below w.heap.size w w3):=HG2.out.2.trans (hb3.mono HG2.out.2.size);obtain ⟨m3,m4⟩:=HPK.out w3 HW3.out;have HR3:Hid (zak w3 b l/\l.length=n/\zdh n l=nP n (rest R e)):=⟨hr,hgd.len,by rw [znc hgd (zhp HX.out.2.1 _) hlab];rfl⟩;clear hr hbb hlab hb3 hgd)
    | (go_simp;go_at_call 122;refine (zjd b n l w3 HR3.out.1 HR3.out.2.1 hn).mono ?_;rintro e' w4 ⟨rfl,hw4⟩;subst hw4;rw [HR3.out.2.2]))
 all_goals
  go_wp2_with fail;go_ret;refine ⟨?_,HW3.out⟩;simp [Act.put,HSB.out]
end Go.Proofs.YtebcjaenhiiflaaGreatDoor.S
