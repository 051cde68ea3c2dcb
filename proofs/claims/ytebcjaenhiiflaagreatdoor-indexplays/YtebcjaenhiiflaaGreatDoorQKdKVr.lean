import Derived.Test.YtebcjaenhiiflaaGreatDoorQKaKc
set_option maxHeartbeats 4000000
set_option maxRecDepth 100000
namespace Go.Proofs.YtebcjaenhiiflaaGreatDoor.S
open Go.RowKit Go.WideMaps Go.Maps Go.Proofs.Tryz
theorem Lm.start:Lm (.map []) [] []:=⟨λ x=>by simp [Maps.has],λ i e h=>by simp at h⟩
theorem Lm.snoc {D:DataW Unit} {R:List (Int × Int × Int)} {k:Nat} {e:Int × Int × Int} (hu:G.Up R) (hD:IsMap D) (h:Lm D (R.take k) (List.range k)) (he:R[k]? =some e):
 Lm (D.put (.int .i64 e.1) (.lit (.int .i64 e.1))) (R.take (k+1)) (List.range (k+1)):=by
 have hk:k<R.length:=(List.getElem?_eq_some_iff.1 he).1;have ht:R.take (k+1)=R.take k++[e]:=by rw [List.take_add_one,he];rfl
 have hne:∀i f,i<k->R[i]? =some f->f.1≠e.1:=λ i f hi hf c=>by
  have:=(zrw hu hf he c).1;omega
 refine ⟨λ x=>?_,λ i f hf zd=>?_⟩
 ·by_cases c:x=e.1
  ·subst c
   rw [has_put_same hD (zbe _)];exact ⟨λ _=>⟨e,by rw [ht];simp,rfl⟩,λ _=>rfl⟩
  ·rw [has_put_other (by simpa using c),h.key]
   constructor
   ·rintro ⟨f,hf,hx⟩;exact ⟨f,by rw [ht];exact List.mem_append_left _ hf,hx⟩
   ·rintro ⟨f,hf,hx⟩
    rw [ht] at hf;rcases List.mem_append.1 hf with hf | hf
    ·exact ⟨f,hf,hx⟩
    ·rw [List.mem_singleton.1 hf] at hx;exact absurd hx.symm c
 ·have hi:i<k+1:=by have:=(List.getElem?_eq_some_iff.1 hf).1;simp at this;omega
  rw [List.getElem?_take,if_pos hi] at hf;have hid:zas (R.take (k+1)) ((List.range (k+1)).getD i 0)=f.1:=by
   have e1:(List.range (k+1)).getD i 0=i:=by simp [hi]
   rw [e1];apply zcs;rw [List.getElem?_take,if_pos hi];exact hf
  rw [hid];by_cases c:i=k
  ·subst c
   rw [he] at hf;cases hf;rw [atKey_put_same hD (zbe _)]
  ·have hik:i<k:=by omega
   rw [atKey_put_other (by simpa using hne i f hik hf)];have hf':(R.take k)[i]? =some f:=by rw [List.getElem?_take,if_pos hik];exact hf
   rw [h.val i f hf' zd];have e2:(List.range k).getD i 0=i:=by simp [hik]
   rw [e2,zcs hf']
structure zbx (R:List (Int × Int × Int)) (x:Nat) (cs:List Nat):Prop where
 up:cs.Pairwise (·<·)
 mem:∀y,y∈cs↔y<x/\zh7 R y
theorem zbx.start (R:List (Int × Int × Int)):zbx R 0 []:=⟨.nil,λ y=>by simp⟩
theorem zbx.yes {R:List (Int × Int × Int)} {x:Nat} {cs:List Nat} (h:zbx R x cs) (hc:zh7 R x):zbx R (x+1) (cs++[x]):=by
 refine ⟨?_,λ y=>?_⟩
 ·rw [List.pairwise_append]
  exact ⟨h.up,List.pairwise_singleton _ _,λ a ha b hb=>by rw [List.mem_singleton.1 hb];exact ((h.mem a).1 ha).1⟩
 ·rw [List.mem_append,h.mem,List.mem_singleton]
  constructor
  ·rintro (⟨h1,h2⟩ | rfl)
   ·exact ⟨by omega,h2⟩
   ·exact ⟨by omega,hc⟩
  ·rintro ⟨h1,h2⟩
   by_cases c:y=x
   ·exact .inr c
   ·exact .inl ⟨by omega,h2⟩
theorem zbx.no {R:List (Int × Int × Int)} {x:Nat} {cs:List Nat} (h:zbx R x cs) (hc:¬zh7 R x):zbx R (x+1) cs:=by
 refine ⟨h.up,λ y=>?_⟩;rw [h.mem];constructor
 ·rintro ⟨h1,h2⟩;exact ⟨by omega,h2⟩
 ·rintro ⟨h1,h2⟩
  by_cases c:y=x
  ·subst c;exact absurd h2 hc
  ·exact ⟨by omega,h2⟩
theorem zqr:∀(cs:List Nat) (lo x:Nat),cs.Pairwise (·<·)->(∀y∈cs,lo<=y/\y<x)->cs.length<=x-lo
 | [],_,_,_,_=>by simp
 | a::cs,lo,x,hp,hm=>by
   have h1:=List.pairwise_cons.1 hp;have ha:=hm a (by simp);have:=zqr cs (a+1) x h1.2 (λ y hy=>⟨h1.1 y hy,(hm y (List.mem_cons_of_mem _ hy)).2⟩);simp;omega
theorem zbx.len {R:List (Int × Int × Int)} {x:Nat} {cs:List Nat} (h:zbx R x cs):cs.length<=x:=by
 have:=zqr cs 0 x h.up (λ y hy=>⟨Nat.zero_le _,((h.mem y).1 hy).1⟩);omega
def zbl (l:List Nat):List Value:=l.map λ x:Nat=>.int .i64 (x:Int)
theorem z9c {w w':World} {B0 gT eT q m:Nat} {n:Int} {u:Value} {L:List (Int × Int × Int)} (h:G.GAt w B0 gT eT q n u L) (k:But m w w') (hm:∃es c,w.heap[m]? =some (.map es c)):G.GAt w' B0 gT eT q n u L:=by
 obtain ⟨es,c,hm⟩:=hm;refine ⟨?_,⟨h.row.1,?_⟩,h.ne⟩
 ·rw [k.block q h.plt (by rintro rfl;have:=h.hp.symm.trans hm;simp at this)];exact h.hp
 ·rcases h.row.2 with hn | ⟨g,cap,cur,rfl,hB,hg,rest⟩
  ·exact .inl hn
  ·refine .inr ⟨g,cap,cur,rfl,hB,?_,rest⟩
   rw [k.block g (lt_of_some hg) (by rintro rfl;have:=hg.symm.trans hm;simp at this)];exact hg
theorem zzc {w:World} {base e s:Nat} {v:Value} {n:Nat} {xs:List Value} (h:w.ownsRow base e s v n xs):∃a c,v= .slice a n c:=by
 rcases h.2 with ⟨rfl,rfl⟩ | ⟨g,cap,cur,rfl,_⟩
 ·exact ⟨none,0,rfl⟩
 ·exact ⟨_,cap,rfl⟩
theorem za5.store {w:World} {p m N:Nat} {D:DataW Unit} {v:Value} (h:za5 w p m N D v) (v':Value):za5 (w.setCell ⟨p,1,none⟩ v') p m N D v':=by
 refine ⟨?_,h.hm.setCell (Ne.symm h.ne) _⟩;simp only [World.setCell,Array.getElem?_modify,h.hp];simp
theorem z6m {w w':World} {B0 gT q base k:Nat} {n:Int} {u v:Value} {L:List (Int × Int × Int)} {xs:List Value} (h:G.GAt w B0 gT 61 q n u L) (hg:w.grownBy w' v.ownBlock) (hr:w.ownsRow base 3 1 v k xs) (hgT:gT≠3:=by decide):G.GAt w' B0 gT 61 q n u L:=by
 have hne:∀g cur t,w.heap[g]? =some (.cells cur t)->t≠3->some g≠v.ownBlock:=by
  intro g cur t hc ht he;rcases hr.2 with ⟨rfl,_⟩ | ⟨g',cap,cur',rfl,_,hg',_⟩
  ·simp [Value.ownBlock] at he
  ·simp only [Value.ownBlock,Option.some.injEq] at he
   subst he;rw [hc] at hg';injection hg' with hg'
   injection hg' with _ hg' _
   exact ht hg'
 refine ⟨?_,⟨h.row.1,?_⟩,h.ne⟩
 ·rw [hg.block q h.plt (hne q _ gT h.hp hgT)];exact h.hp
 ·rcases h.row.2 with hn | ⟨g,cap,cur,rfl,hB,hg',rest⟩
  ·exact .inl hn
  ·refine .inr ⟨g,cap,cur,rfl,hB,?_,rest⟩
   rw [hg.block g (lt_of_some hg') (hne g _ 61 hg' (by decide))];exact hg'
theorem gat_but' {w w':World} {B0 q p:Nat} {n:Int} {u:Value} {L:List (Int × Int × Int)} {cs:Array Value} (h:G.GAt w B0 168 61 q n u L) (k:But p w w') (hp:w.heap[p]? =some (.cells cs 196)):G.GAt w' B0 168 61 q n u L:=by
 refine ⟨?_,⟨h.row.1,?_⟩,h.ne⟩
 ·rw [k.block q h.plt (by rintro rfl;have:=h.hp.symm.trans hp;simp at this)];exact h.hp
 ·rcases h.row.2 with hn | ⟨g,cap,cur,rfl,hB,hg,rest⟩
  ·exact .inl hn
  ·refine .inr ⟨g,cap,cur,rfl,hB,?_,rest⟩
   rw [k.block g (lt_of_some hg) (by rintro rfl;have:=hg.symm.trans hp;simp at this)];exact hg
def z95 (R:List (Int × Int × Int)) (n:Nat) (w:World) (e:Ending) (w':World):Prop:=
 ∃(p m N:Nat) (D:DataW Unit) (v:Value) (L cs:List Nat),e= .returned (.pointer (some ⟨p,0,none⟩))/\za5 w' p m N D v/\N<=120/\Lm D R L/\Bs R n [] L/\zbx R n cs/\w'.ownsRow w.heap.size 3 1 v cs.length (zbl cs)/\Below w.heap.size w w'
theorem zt9 (n B0 q M:Nat) (u:Value) (R:List (Int × Int × Int)) (w:World) (h:G.GAt w B0 168 61 q (n:Int) u R) (hn:n<=40) (hed:Ed n M R) (hM:M<=120):
 Calls prog 79 #[.pointer (some ⟨q,0,none⟩)] w (z95 R n w):=by
 have hlen:=hed.len;have HG:=kd h;have HE:=kd hed;have hmm:=@run_makeMap prog;obtain ⟨w1,hw1⟩:∃w1,w1=(w.alloc (.map #[] 0)).alloc (.cells #[.map (some w.heap.size),.slice none 0 0] 196):=⟨_,rfl⟩;have hb1:Below w.heap.size w w1:=by rw [hw1];exact ((Below.refl _ _).alloc (Nat.le_refl _) _).alloc (by simp) _
 have hbl1:za5 w1 (w.heap.size+1) w.heap.size 0 (.map []) (.slice none 0 0):=by
  rw [hw1];refine ⟨?_,(World.ownsMap_made w _ _ _).alloc _⟩;have:=heap_alloc_new (w.alloc (.map #[] 0)) (.cells #[.map (some w.heap.size),.slice none 0 0] 196);rw [World.size_alloc] at this;exact this
 have HW1:=kd hw1.symm;have HBL1:=kd (And.intro hbl1 hb1);have hw1s:=hbl1.plt;clear h hed hw1 hb1 hbl1;go_enter func79,ntmps79;go_wp2_with fail;rw [HW1.out];refine (G.zbv (n:Int) B0 q u R w1 (HG.out.below HBL1.out.2) (by omega)).mono ?_;rintro e w2 ⟨vr,rfl,ho,hb2⟩;obtain ⟨len,hm⟩:∃len,R.length=len:=⟨_,rfl⟩;have HLEN:=kd hm;obtain ⟨va,vc,hv⟩:=ho.zal;rw [hm] at hv hlen;subst hv;have HO:=kd ho;have HBL2:Hid (za5 w2 (w.heap.size+1) w.heap.size 0 (.map []) (.slice none 0 0)/\Below w.heap.size w w2):=⟨HBL1.out.1.below hb2,HBL1.out.2.trans (hb2.mono HBL1.out.2.size)⟩;have hw2s:=hb2.size;clear ho hb2 hm hmm;go_wp2_with fail;go_loopw [13] (λ s13 wq=>∃(j:Nat) (Dj:DataW Unit),j<=len/\s13= .int .i64 j/\za5 wq (w.heap.size+1) w.heap.size j Dj (.slice none 0 0)/\Lm Dj (R.take j) (List.range j)/\But w.heap.size w2 wq) (λ s13 _=>len-(intOf s13).toNat)
 case atStart=>exact ⟨0,_,Nat.zero_le _,rfl,HBL2.out.1,Lm.start,But.refl _ _⟩
 case round=>
  obtain ⟨j,Dj,hj,rfl,hbl,hlm,hbt⟩:=hrel;have HBL:Hid (za5 wr (w.heap.size+1) w.heap.size j Dj (.slice none 0 0)/\Lm Dj (R.take j) (List.range j)/\But w.heap.size w2 wr):=⟨hbl,hlm,hbt⟩;clear hbl hlm hbt;by_cases hlt:j<len
  ·obtain ⟨e,hx⟩:∃e,R[j]? =some e:=⟨_,List.getElem?_eq_getElem (by rw [HLEN.out];exact hlt)⟩
   have hnat:=HE.out.nat (List.mem_of_getElem? hx);have hids:=HE.out.ids e (List.mem_of_getElem? hx);obtain ⟨g,hva⟩:∃g,va=some ⟨g,0,none⟩:=by
    rcases HO.out.shape with ⟨_,k⟩ | ⟨g,cap,k,_⟩
    ·rw [k] at hx;simp at hx
    ·injection k with e1 _ _
     exact ⟨g,e1⟩
   subst hva;obtain ⟨r0,r1,r2⟩:=HO.out.at (g:=g) rfl hx;have hgb:=World.ownsRow.lt HO.out g rfl;have q0:=HBL.out.2.2.cell r0 (by omega);have q1:=HBL.out.2.2.cell r1 (by omega);have q2:=HBL.out.2.2.cell r2 (by omega);have HLM:Hid (Lm (Dj.put (.int .i64 e.1) (.lit (.int .i64 e.1))) (R.take (j+1)) (List.range (j+1))):=Lm.snoc HE.out.up HBL.out.1.hm.isMap HBL.out.2.1 hx;have hwid:(Lit.int .i64 e.1).wf=true:=zar hids.1 (by omega);generalize e.1=x0 at*;generalize e.2.1=x1 at*;generalize e.2.2=x2 at*;obtain ⟨W1,hW1⟩:∃W1,W1=wr.alloc (.cells #[.int .i64 x0,.int .i64 x1,.int .i64 x2] 61):=⟨_,rfl⟩;have hh:W1.heap[wr.heap.size]? =some (.cells #[.int .i64 x0,.int .i64 x1,.int .i64 x2] 61):=by rw [hW1];exact heap_alloc_new wr _
   have hbW:Below wr.heap.size wr W1:=by rw [hW1];exact (Below.refl _ _).alloc (Nat.le_refl _) _
   have p0:W1.drew.cell? ⟨wr.heap.size,0,none⟩=some (.int .i64 x0):=by
    show W1.cell? ⟨wr.heap.size,0,none⟩=_;simp [World.cell?,hh]
   have hblW:=HBL.out.1.below hbW;have c0:W1.drew.cell? ⟨w.heap.size+1,0,none⟩=some (.map (some w.heap.size)):=hblW.c0;obtain ⟨W2,hup,hown2,hgr2⟩:=World.ownsMap.update (w:=W1.drew) (hblW.hm) za6 underlying183 (by unfold maxLen;omega) (zdt x0 hwid) (plainElem_int underlying3 hwid);have HR2:Hid (za5 W2 (w.heap.size+1) w.heap.size (j+1) (Dj.put (.int .i64 x0) (.lit (.int .i64 x0))) (.slice none 0 0)/\But w.heap.size w2 W2):=
    ⟨⟨(hgr2.block _ hblW.plt (by simp)).trans hblW.hp,hown2⟩,(HBL.out.2.2.trans (But.of_below hbW)).trans ⟨hgr2.os,hgr2.tape,hgr2.output,hgr2.size,λ k hk hn=>hgr2.block k hk (λ c=>hn (by injection c))⟩⟩
   have HW1:=kd hW1.symm;clear hx hnat hids r0 r1 r2 hW1 hh hbW hblW hown2 hgr2 hwid HBL;go_upto_region 5 with fail
   rw [HW1.out];go_region
   all_goals
    go_wp2_with fail;go_roundw;case rel=>exact ⟨j+1,_,by omega,by go_num,HR2.out.1,HLM.out,HR2.out.2⟩
    case measure=>simp [intOf];omega
  ·have hje:j=len:=by omega
   subst hje;have htk:R.take j=R:=List.take_of_length_le (by rw [HLEN.out];exact Nat.le_refl _);have hbl9:=HBL.out;rw [htk] at hbl9;have hBt:Below w.heap.size w wr:=HBL2.out.2.trans (hbl9.2.2.below (Nat.le_refl _) HBL2.out.2.size);have HF:Hid (za5 wr (w.heap.size+1) w.heap.size j Dj (.slice none 0 0)/\Lm Dj R (List.range R.length)/\Below w.heap.size w wr/\G.GAt wr B0 168 61 q (n:Int) u R):=⟨hbl9.1,by rw [HLEN.out];exact hbl9.2.1,hBt,HG.out.below hBt⟩;obtain ⟨i0,hi0,hz0,hz1,hz2⟩:=info_parts Tryz.info3;clear htk hbl9 hBt HBL HBL2 HO HBL1 HW1;generalize wr=W0 at*;go_wp2_with fail;refine (G.zbb (n:Int) B0 q u R W0 HF.out.2.2.2).mono ?_;rintro e w3 ⟨rfl,hw3⟩;subst hw3;go_wp2_with fail;go_loopw [28] (λ s28 wq=>∃(x:Nat) (Dx:DataW Unit) (Lx cs:List Nat) (v:Value),x<=n/\zbx R x cs/\s28= .int .i64 x/\G.GAt wq B0 168 61 q (n:Int) u R/\za5 wq (w.heap.size+1) w.heap.size j Dx v/\Lm Dx R Lx/\Bs R x [] Lx/\wq.ownsRow w.heap.size 3 1 v cs.length (zbl cs)/\v.ownBlock≠some (w.heap.size+1)/\v.ownBlock≠some w.heap.size/\Below w.heap.size w wq) (λ s28 _=>n-(intOf s28).toNat)
   case atStart=>exact ⟨0,Dj,_,[],_,Nat.zero_le _,zbx.start R,rfl,HF.out.2.2.2,HF.out.1,HF.out.2.1,z3g R,World.ownsRow_nil _ _ _ _,by simp [Value.ownBlock],by simp [Value.ownBlock],HF.out.2.2.1⟩
   case round=>
    clear HF;obtain ⟨x,Dx,Lx,cs,v,hx,hcs,rfl,hgx,hbx,hlx,hsx,hox,hv1,hv2,hBx⟩:=hrel;have HX:Hid (G.GAt wr B0 168 61 q (n:Int) u R/\za5 wr (w.heap.size+1) w.heap.size j Dx v/\Lm Dx R Lx/\Bs R x [] Lx):=⟨hgx,hbx,hlx,hsx⟩;have HOX:Hid (wr.ownsRow w.heap.size 3 1 v cs.length (zbl cs)/\v.ownBlock≠some (w.heap.size+1)/\v.ownBlock≠some w.heap.size/\Below w.heap.size w wr):=⟨hox,hv1,hv2,hBx⟩;have HCS:=kd hcs;clear hgx hbx hlx hsx hox hv1 hv2 hBx hcs;by_cases hlt2:x<n
    ·go_wp2_with fail
     refine (zuu x n B0 q M _ _ j u v R Lx Dx wr HX.out.1 hn hlt2 HE.out hM HX.out.2.1 HX.out.2.2.1 HX.out.2.2.2).mono ?_;rintro e w4 ⟨k,D4,L4,rfl,hb4,hl4,hs4,hk4,hcut4⟩;have hg4:=z9c HX.out.1 hk4 (by obtain ⟨es,c,hb,_⟩:=HX.out.2.1.hm;exact ⟨es,c,hb⟩);have hgr4:wr.grownBy w4 (some w.heap.size):=⟨hk4.os,hk4.tape,hk4.output,hk4.size,λ i hi hne=>hk4.block i hi (λ c=>hne (by rw [c]))⟩;have ho4:=HOX.out.1.kept hgr4 (.inr HOX.out.2.2.1);have hB4:Below w.heap.size w w4:=HOX.out.2.2.2.trans (hk4.below (Nat.le_refl _) HOX.out.2.2.2.size);have H4:Hid (G.GAt w4 B0 168 61 q (n:Int) u R/\za5 w4 (w.heap.size+1) w.heap.size j D4 v/\Lm D4 R L4/\Bs R (x+1) [] L4/\Below w.heap.size w w4):=⟨hg4,hb4,hl4,hs4,hB4⟩;have HOV:=kd (And.intro HOX.out.2.1 HOX.out.2.2.1);have HCUT:=kd hcut4;clear hk4 hcut4 hg4 hgr4 hl4 hs4 HX HOX;by_cases hk1:1<k
     ·as_aux_lemma=>
      have HC:Hid (zbx R (x+1) (cs++[x])):=HCS.out.yes (HCUT.out.1 hk1);have hcl:=HCS.out.len;have hc1:=hb4.c1;have hpl:=hb4.plt;have hsz:=hB4.size;have HFZ:Hid (∀w',(w4.alloc (.cells #[.int .i64 (x:Int)] 3)).grownBy w' v.ownBlock->w'.heap[w.heap.size+1]? =some (.cells #[.map (some w.heap.size),v] 196)):=λ w' hg=>by
       rw [hg.block _ (by simp;omega) (λ c=>HOV.out.1 c.symm),Below.heap_alloc _ _ _ hpl];exact hb4.hp
      have HO4:=kd ho4;clear hb4 hB4 HCUT;go_wp2_with (first
       | (at_builtin;refine wpList_append_own_at _ rfl _ _ 48 rfl w.heap.size 3 i0 (.int .i64 0) 1 8 underlying48 hi0 hz0 hz1 hz2 rfl (by decide) v _ _ rfl (ho4.alloc _) ⟨w4.heap.size,0,none⟩ 1 1 [.int .i64 (x:Int)] rfl rfl (cell_one_new _ _ _) (ints_oneCell .i64 [(x:Int)]) (by unfold maxLen;omega) (by omega) (by simp;omega) ?_;intro v5 w5 hown5 hgrow5 hnil5 hloc5;obtain ⟨a5,c5,rfl⟩:=zzc hown5;have hp5:=HFZ.out w5 hgrow5;have hf5:w5.frozen? ⟨w.heap.size+1,1,none⟩=false:=(by simp [World.frozen?,hp5]);have hc5:w5.cell? ⟨w.heap.size+1,1,none⟩=some v:=(by simp [World.cell?,hp5]))
       | fail)
      have hbl5:za5 w5 (w.heap.size+1) w.heap.size j D4 v:=⟨hp5,(H4.out.2.1.hm.alloc _).kept hgrow5 (λ c=>HOV.out.2 c.symm)⟩;have hg5:G.GAt w5 B0 168 61 q (n:Int) u R:=z6m (H4.out.1.below ((Below.refl _ _).alloc (Nat.le_refl _) _)) hgrow5 (HO4.out.alloc _);have hB5:Below w.heap.size w w5:=(H4.out.2.2.2.2.trans (((Below.refl _ _).alloc (Nat.le_refl _) _).mono H4.out.2.2.2.2.size)).grown hgrow5 (by simp;omega) (λ i hi=>(World.ownsRow.lt HO4.out i hi).1);have hne5:(Value.slice a5 (cs.length+1) c5).ownBlock≠some (w.heap.size+1)/\(Value.slice a5 (cs.length+1) c5).ownBlock≠some w.heap.size:=by
       rcases hloc5 with c | c
       ·rw [c];exact HOV.out
       ·rw [c];refine ⟨?_,?_⟩ <;> simp <;> omega
      have hbt:But (w.heap.size+1) w5 (w5.setCell ⟨w.heap.size+1,1,none⟩ (.slice a5 (cs.length+1) c5)):=(But.refl _ _).setCell _ _;have HR6:Hid (G.GAt (w5.setCell ⟨w.heap.size+1,1,none⟩ (.slice a5 (cs.length+1) c5)) B0 168 61 q (n:Int) u R/\za5 (w5.setCell ⟨w.heap.size+1,1,none⟩ (.slice a5 (cs.length+1) c5)) (w.heap.size+1) w.heap.size j D4 (.slice a5 (cs.length+1) c5)/\(w5.setCell ⟨w.heap.size+1,1,none⟩ (.slice a5 (cs.length+1) c5)).ownsRow w.heap.size 3 1 (.slice a5 (cs.length+1) c5) (cs++[x]).length (zbl (cs++[x]))/\Below w.heap.size w (w5.setCell ⟨w.heap.size+1,1,none⟩ (.slice a5 (cs.length+1) c5))):=by
       refine ⟨gat_but' hg5 hbt hp5,hbl5.store _,?_,hB5.trans (hbt.below (by omega) hB5.size)⟩;have:=hown5.kept (w':=w5.setCell ⟨w.heap.size+1,1,none⟩ (.slice a5 (cs.length+1) c5)) (row:=some (w.heap.size+1)) ⟨hbt.os,hbt.tape,hbt.output,hbt.size,λ i hi hne=>hbt.block i hi (λ c=>hne (by rw [c]))⟩ (.inr hne5.1)
       simpa [zbl] using this
      have HNE:=kd hne5;clear hbl5 hg5 hB5 hne5 hbt hown5 hgrow5 hnil5 hloc5 hp5 hf5 hc5;generalize w5.setCell ⟨w.heap.size+1,1,none⟩ (.slice a5 (cs.length+1) c5)=w6 at*;go_wp2_with fail;go_roundw;case rel=>exact ⟨x+1,D4,L4,cs++[x],_,by omega,HC.out,by go_num,HR6.out.1,HR6.out.2.1,H4.out.2.2.1,H4.out.2.2.2.1,HR6.out.2.2.1,HNE.out.1,HNE.out.2,HR6.out.2.2.2⟩
      case measure=>simp [intOf];omega
     ·as_aux_lemma=>
      have HC:Hid (zbx R (x+1) cs):=HCS.out.no (λ c=>hk1 (HCUT.out.2 c));have HO4:=kd ho4;clear hb4 hB4 HCUT ho4;go_wp2_with fail;go_roundw;case rel=>exact ⟨x+1,D4,L4,cs,v,by omega,HC.out,by go_num,H4.out.1,H4.out.2.1,H4.out.2.2.1,H4.out.2.2.2.1,HO4.out,HOV.out.1,HOV.out.2,H4.out.2.2.2.2⟩
      case measure=>simp [intOf];omega
    ·have hxe:x=n:=by omega
     subst hxe;go_wp2_with fail;go_ret;exact ⟨_,_,j,Dx,v,Lx,cs,rfl,HX.out.2.1,by omega,HX.out.2.2.1,HX.out.2.2.2,HCS.out,HOX.out.1,HOX.out.2.2.2⟩
open Go.RowKit Go.WideMaps Go.Maps Go.Sort Go.Shelf Go.Proofs.Tryz
variable {p pw bw pt bt m N n:Nat} {W T:List Nat} {D:DataW Unit}
theorem zli (k:Nat):AnyZI.SortsIn prog Tryz.sortedA_ren Fence.wide k:=
 ⟨λ blk off cap ss W hH hblk hsz=>callsIn_wide.2 (AnyM.slices_Sort_int Tryz.sortA blk off cap ss W hH hblk hsz),
  λ p cap W=>callsIn_wide.2 (AnyM.slices_Sort_int_none Tryz.sortA p cap W)⟩
theorem z8f (w:World) (h:BAt w p pw bw pt bt m N W T D) (hN:N<=1000):
 Calls prog 78 #[.pointer (some ⟨p,0,none⟩)] w λ e w'=>∃(v:Value) (ss:List Int),e= .returned v/\ss.Perm (intKeys D)/\
  w'.ownsRow w.heap.size 3 1 v ss.length ((ss.mergeSort (λ x y=>decide (x<=y))).map encZ)/\(v= .slice none 0 0↔ss=[])/\Below w.heap.size w w':=by
 refine (callsIn_wide (n:=6)).1 ?_;have hc:=h.c2;have hown:=h.hm;have hmax:Maps.size D<=maxLen:=Nat.le_trans hown.size_le (by unfold maxLen;omega);have hbytes:Maps.size D*8<=140737488355328:=by have:=hown.size_le;omega
 clear h;have hbl:=hown.lt;have hseq:SeqGives Fence.wide 2 prog 244 #[.pointer (some ⟨w.heap.size,0,none⟩)] encZ (λ ss=>ss.Perm (intKeys D)) (Maps.size D) (w.alloc (.cells #[.map (some m)] 176)):=
  AnyZI.keys_gives (ρ:=Tryz.keysA_ren) {Tryz.keysA with} Fence.wide _ trivial rfl (by omega) w.heap.size m N D _ (by simp) (by simp) (by
   obtain ⟨es,clock,hb,Ft,hs,hD⟩:=hown;exact ⟨es,clock,(Below.heap_alloc _ _ m hbl).trans hb,Ft,hs,hD⟩)
 have cK:∀mb W,CallsIn Fence.wide 5 prog 134 #[.map mb] W λ e w'=>e= .returned (.func (.func 244) #[] #[.pointer (some ⟨W.heap.size,0,none⟩)])/\w'=W.alloc (.cells #[.map mb] 176):=λ mb W=>AnyZI.keys_in Tryz.keysA Fence.wide 5 trivial rfl mb W
 have cS:=AnyZI.sorted_in Tryz.sortedA Fence.wide 5 trivial trivial trivial trivial rfl (by omega) (zli _) (enters_of func243 (by kernel_rfl) rfl) 244 #[.pointer (some ⟨w.heap.size,0,none⟩)] trivial (enters_of func244 (by kernel_rfl) rfl) _ _ hmax hbytes _ hseq;change CallsIn _ _ prog 133 _ _ _ at cS
 have hfK:Fence.wide.fn 134:=trivial;have hfS:Fence.wide.fn 133:=trivial;clear hown hseq hmax hbytes hbl;refine callsIn_of_wp func78 rfl trivial ?_ rfl;simp only [ntmps78,List.size_toArray,List.length_cons,List.length_nil,Nat.reduceAdd,Nat.reduceSub,Array.replicate_succ,Array.replicate_zero,List.push_toArray,List.append_toArray,List.nil_append,List.cons_append]
 gi_wp2_with (first
  | (gi_at_call 134;refine (cK _ _).mono ?_;rintro e w' ⟨rfl,rfl⟩)
  | (gi_at_call 133;refine cS.mono ?_;rintro e w' ⟨v,ss,rfl,hS,hrow,hnil,hb⟩))
 go_ret;exact ⟨v,ss,rfl,hS,ownsRow_base_a hrow (by simp),hnil,((Below.refl _ w).alloc (Nat.le_refl _) _).trans (hb.mono (by simp))⟩
end Go.Proofs.YtebcjaenhiiflaaGreatDoor.S
namespace Go.Proofs
open Go.Proofs.Tryz
open Go.Shelf
def Tryz.keysL_ren:Go.Shelf.Ren:=⟨λ | 7=>137 | 10=>250 | n=>n,λ | 23=>183 | 26=>3 | 3=>3 | 28=>193 | 0=>0 | 27=>192 | 33=>173 | 4=>4 | n=>n,λ | n=>n⟩
theorem Tryz.keysL:Go.Proofs.SlLaysZI.n7 prog Tryz.keysL_ren:={
 mixed:=by kernel_rfl
 f7:=⟨Tryz.f137.name,by decide,func137.trans (congrArg some (by kernel_rfl))⟩
 f10:=⟨Tryz.f250.name,by decide,func250.trans (congrArg some (by kernel_rfl))⟩
 t0:=underlying0
 a0:=isAgg0
 z0:=sizeOf0
 v0:=zeroValue0
 t4:=underlying4
 a4:=isAgg4
 z4:=sizeOf4
 v4:=zeroValue4
 t23:=underlying183
 a23:=isAgg183
 z23:=sizeOf183
 v23:=zeroValue183
 t26:=underlying3
 a26:=isAgg3
 z26:=sizeOf3
 v26:=zeroValue3
 t27:=underlying192
 a27:=isAgg192
 z27:=sizeOf192
 v27:=zeroValue192
 t28:=underlying193
 a28:=isAgg193
 z28:=sizeOf193
 v28:=zeroValue193
 t33:=underlying173
 a33:=isAgg173
 z33:=sizeOf173
 v33:=zeroValue173}
def Tryz.keysG_ren:Go.Shelf.Ren:=⟨λ | 7=>138 | 10=>251 | n=>n,λ | 23=>199 | 26=>3 | 3=>48 | 28=>193 | 0=>0 | 27=>192 | 33=>173 | 4=>4 | n=>n,λ | n=>n⟩
theorem Tryz.keysG:Go.Proofs.SlLaysZI.n7 prog Tryz.keysG_ren:={
 mixed:=by kernel_rfl
 f7:=⟨Tryz.f138.name,by decide,func138.trans (congrArg some (by kernel_rfl))⟩
 f10:=⟨Tryz.f251.name,by decide,func251.trans (congrArg some (by kernel_rfl))⟩
 t0:=underlying0
 a0:=isAgg0
 z0:=sizeOf0
 v0:=zeroValue0
 t4:=underlying4
 a4:=isAgg4
 z4:=sizeOf4
 v4:=zeroValue4
 t23:=underlying199
 a23:=isAgg199
 z23:=sizeOf199
 v23:=zeroValue199
 t26:=underlying3
 a26:=isAgg3
 z26:=sizeOf3
 v26:=zeroValue3
 t27:=underlying192
 a27:=isAgg192
 z27:=sizeOf192
 v27:=zeroValue192
 t28:=underlying193
 a28:=isAgg193
 z28:=sizeOf193
 v28:=zeroValue193
 t33:=underlying173
 a33:=isAgg173
 z33:=sizeOf173
 v33:=zeroValue173}
end Go.Proofs
namespace Go.Proofs.YtebcjaenhiiflaaGreatDoor.S
open Go.Proofs.Tryz
open Go.RowKit Go.WideMaps Go.Maps Go.Shelf
theorem zx4 (mb:Option Nat) (W:World):Calls prog 137 #[.map mb] W λ e w'=>e= .returned (.func (.func 250) #[] #[.pointer (some ⟨W.heap.size,0,none⟩)])/\w'=W.alloc (.cells #[.map mb] 183):=
 (callsIn_wide (n:=5)).1 (AnyZI.keys_in Tryz.keysL Fence.wide 5 trivial rfl mb W)
theorem zrl (R:Value->Option (DataW Unit × List MemPlace)) (m N:Nat) (D:DataW Unit) (w:World) (hown:w.ownsMap prog 3 R m N D) (hN:N<=1000):
 Calls prog 133 #[.func (.func 250) #[] #[.pointer (some ⟨w.heap.size,0,none⟩)]] (w.alloc (.cells #[.map (some m)] 183)) λ e w'=>∃(v:Value) (ss:List Int),e= .returned v/\ss.Perm (intKeys D)/\
  w'.ownsRow w.heap.size 3 1 v ss.length ((ss.mergeSort (λ x y=>decide (x<=y))).map encZ)/\Below w.heap.size w w':=by
 have hmax:Maps.size D<=maxLen:=Nat.le_trans hown.size_le (by unfold maxLen;omega);have hbytes:Maps.size D*8<=140737488355328:=by have:=hown.size_le;omega
 have hbl:=hown.lt;have hseq:SeqGives Fence.wide 2 prog 250 #[.pointer (some ⟨w.heap.size,0,none⟩)] encZ (λ ss=>ss.Perm (intKeys D)) (Maps.size D) (w.alloc (.cells #[.map (some m)] 183)):=
  AnyZI.keys_gives (ρ:=Tryz.keysL_ren) {Tryz.keysL with} Fence.wide _ trivial rfl (by omega) w.heap.size m N D _ (by simp) (by simp) (by
   obtain ⟨es,clock,hb,Ft,hs,hD⟩:=hown;exact ⟨es,clock,(Below.heap_alloc _ _ m hbl).trans hb,Ft,hs,hD⟩)
 have cS:=AnyZI.sorted_in Tryz.sortedA Fence.wide 5 trivial trivial trivial trivial rfl (by omega) (zli _) (enters_of func243 (by kernel_rfl) rfl) 250 #[.pointer (some ⟨w.heap.size,0,none⟩)] trivial (enters_of func250 (by kernel_rfl) rfl) _ _ hmax hbytes _ hseq;change CallsIn _ _ prog 133 _ _ _ at cS
 refine (callsIn_wide.1 cS).mono ?_;rintro e w' ⟨v,ss,rfl,hS,hrow,hnil,hb⟩;exact ⟨v,ss,rfl,hS,ownsRow_base_a hrow (by simp),((Below.refl _ w).alloc (Nat.le_refl _) _).trans (hb.mono (by simp))⟩
theorem zym (mb:Option Nat) (W:World):Calls prog 138 #[.map mb] W λ e w'=>e= .returned (.func (.func 251) #[] #[.pointer (some ⟨W.heap.size,0,none⟩)])/\w'=W.alloc (.cells #[.map mb] 199):=
 (callsIn_wide (n:=5)).1 (AnyZI.keys_in Tryz.keysG Fence.wide 5 trivial rfl mb W)
theorem zpp (R:Value->Option (DataW Unit × List MemPlace)) (m N:Nat) (D:DataW Unit) (w:World) (hown:w.ownsMap prog 3 R m N D) (hN:N<=1000):
 Calls prog 133 #[.func (.func 251) #[] #[.pointer (some ⟨w.heap.size,0,none⟩)]] (w.alloc (.cells #[.map (some m)] 199)) λ e w'=>∃(v:Value) (ss:List Int),e= .returned v/\ss.Perm (intKeys D)/\
  w'.ownsRow w.heap.size 3 1 v ss.length ((ss.mergeSort (λ x y=>decide (x<=y))).map encZ)/\Below w.heap.size w w':=by
 have hmax:Maps.size D<=maxLen:=Nat.le_trans hown.size_le (by unfold maxLen;omega);have hbytes:Maps.size D*8<=140737488355328:=by have:=hown.size_le;omega
 have hbl:=hown.lt;have hseq:SeqGives Fence.wide 2 prog 251 #[.pointer (some ⟨w.heap.size,0,none⟩)] encZ (λ ss=>ss.Perm (intKeys D)) (Maps.size D) (w.alloc (.cells #[.map (some m)] 199)):=
  AnyZI.keys_gives (ρ:=Tryz.keysG_ren) {Tryz.keysG with} Fence.wide _ trivial rfl (by omega) w.heap.size m N D _ (by simp) (by simp) (by
   obtain ⟨es,clock,hb,Ft,hs,hD⟩:=hown;exact ⟨es,clock,(Below.heap_alloc _ _ m hbl).trans hb,Ft,hs,hD⟩)
 have cS:=AnyZI.sorted_in Tryz.sortedA Fence.wide 5 trivial trivial trivial trivial rfl (by omega) (zli _) (enters_of func243 (by kernel_rfl) rfl) 251 #[.pointer (some ⟨w.heap.size,0,none⟩)] trivial (enters_of func251 (by kernel_rfl) rfl) _ _ hmax hbytes _ hseq;change CallsIn _ _ prog 133 _ _ _ at cS
 refine (callsIn_wide.1 cS).mono ?_;rintro e w' ⟨v,ss,rfl,hS,hrow,hnil,hb⟩;exact ⟨v,ss,rfl,hS,ownsRow_base_a hrow (by simp),((Below.refl _ w).alloc (Nat.le_refl _) _).trans (hb.mono (by simp))⟩
theorem zm5 {w:World} {m N:Nat} {R:Value->Option (DataW Unit × List MemPlace)} {D:DataW Unit} (hm:w.ownsMap prog 3 R m N D) {K ss:List Int} (hK:K.Pairwise (·<·)) (hk:∀x:Int,Maps.has D (.int .i64 x)=true↔x∈K) (hp:ss.Perm (intKeys D)):
 (ss.mergeSort λ x y=>decide (x<=y))=K/\ss.length=K.length:=by
 have hc:CollectedI D (λ _=>false) K:=⟨hK.imp (λ h=>by omega),λ x=>by rw [hk x];simp⟩;have hp':ss.Perm K:=hp.trans (hc.perm hm za6 underlying3 (λ _=>rfl)).symm;refine ⟨?_,hp'.length_eq⟩;rw [mergeSort_of_perm_i hp'];exact List.mergeSort_of_pairwise (hK.imp (λ h=>by simp;omega))
end Go.Proofs.YtebcjaenhiiflaaGreatDoor.S
namespace Go.Proofs
open Go.Proofs.Tryz
open Go.Shelf
def Tryz.keysR_ren:Go.Shelf.Ren:=⟨λ | 7=>261 | 10=>326 | n=>n,λ | 23=>204 | 26=>3 | 3=>208 | 28=>193 | 0=>0 | 27=>192 | 33=>173 | 4=>4 | n=>n,λ | n=>n⟩
theorem Tryz.keysR:Go.Proofs.SlLaysZI.n7 prog Tryz.keysR_ren:={
 mixed:=by kernel_rfl
 f7:=⟨Tryz.f261.name,by decide,func261.trans (congrArg some (by kernel_rfl))⟩
 f10:=⟨Tryz.f326.name,by decide,func326.trans (congrArg some (by kernel_rfl))⟩
 t0:=underlying0
 a0:=isAgg0
 z0:=sizeOf0
 v0:=zeroValue0
 t4:=underlying4
 a4:=isAgg4
 z4:=sizeOf4
 v4:=zeroValue4
 t23:=underlying204
 a23:=isAgg204
 z23:=sizeOf204
 v23:=zeroValue204
 t26:=underlying3
 a26:=isAgg3
 z26:=sizeOf3
 v26:=zeroValue3
 t27:=underlying192
 a27:=isAgg192
 z27:=sizeOf192
 v27:=zeroValue192
 t28:=underlying193
 a28:=isAgg193
 z28:=sizeOf193
 v28:=zeroValue193
 t33:=underlying173
 a33:=isAgg173
 z33:=sizeOf173
 v33:=zeroValue173}
end Go.Proofs
namespace Go.Proofs.YtebcjaenhiiflaaGreatDoor.S
open Go.Proofs.Tryz
open Go.RowKit Go.WideMaps Go.Maps Go.Shelf
theorem zzs (mb:Option Nat) (W:World):Calls prog 261 #[.map mb] W λ e w'=>e= .returned (.func (.func 326) #[] #[.pointer (some ⟨W.heap.size,0,none⟩)])/\w'=W.alloc (.cells #[.map mb] 204):=
 (callsIn_wide (n:=5)).1 (AnyZI.keys_in Tryz.keysR Fence.wide 5 trivial rfl mb W)
theorem zqb (R:Value->Option (DataW Unit × List MemPlace)) (m N:Nat) (D:DataW Unit) (w:World) (hown:w.ownsMap prog 3 R m N D) (hN:N<=1000):
 Calls prog 133 #[.func (.func 326) #[] #[.pointer (some ⟨w.heap.size,0,none⟩)]] (w.alloc (.cells #[.map (some m)] 204)) λ e w'=>∃(v:Value) (ss:List Int),e= .returned v/\ss.Perm (intKeys D)/\
  w'.ownsRow w.heap.size 3 1 v ss.length ((ss.mergeSort (λ x y=>decide (x<=y))).map encZ)/\Below w.heap.size w w':=by
 have hmax:Maps.size D<=maxLen:=Nat.le_trans hown.size_le (by unfold maxLen;omega);have hbytes:Maps.size D*8<=140737488355328:=by have:=hown.size_le;omega
 have hbl:=hown.lt;have hseq:SeqGives Fence.wide 2 prog 326 #[.pointer (some ⟨w.heap.size,0,none⟩)] encZ (λ ss=>ss.Perm (intKeys D)) (Maps.size D) (w.alloc (.cells #[.map (some m)] 204)):=
  AnyZI.keys_gives (ρ:=Tryz.keysR_ren) {Tryz.keysR with} Fence.wide _ trivial rfl (by omega) w.heap.size m N D _ (by simp) (by simp) (by
   obtain ⟨es,clock,hb,Ft,hs,hD⟩:=hown;exact ⟨es,clock,(Below.heap_alloc _ _ m hbl).trans hb,Ft,hs,hD⟩)
 have cS:=AnyZI.sorted_in Tryz.sortedA Fence.wide 5 trivial trivial trivial trivial rfl (by omega) (zli _) (enters_of func243 (by kernel_rfl) rfl) 326 #[.pointer (some ⟨w.heap.size,0,none⟩)] trivial (enters_of func326 (by kernel_rfl) rfl) _ _ hmax hbytes _ hseq;change CallsIn _ _ prog 133 _ _ _ at cS
 refine (callsIn_wide.1 cS).mono ?_;rintro e w' ⟨v,ss,rfl,hS,hrow,hnil,hb⟩;exact ⟨v,ss,rfl,hS,ownsRow_base_a hrow (by simp),((Below.refl _ w).alloc (Nat.le_refl _) _).trans (hb.mono (by simp))⟩
def idV (R:List Edg):List Value:=R.map λ e=>.int .i64 e.1
theorem z3x (c mb rest:Nat) (S R:List Edg) (f:Edg->Nat) (w:World) (h:Co w c mb rest S f) (hS:∀e,e∈S↔e∈R) (hR:(R.map (·.1)).Pairwise (·<·)) (hl:∀D N,w.ownsMap prog 3 zb1 mb N D->Rm D S f->w.ownsMap prog 3 zb1 mb 1000 D):
 Calls prog 145 #[.pointer (some ⟨c,0,none⟩)] w λ e w'=>∃v,e= .returned v/\w'.ownsRow w.heap.size 3 1 v R.length (idV R)/\Below w.heap.size w w':=by
 have h1:=h.cell1;obtain ⟨D,N,ho,hm⟩:=h.mp;have ho':=hl D N ho hm;have hk:∀x:Int,Maps.has D (.int .i64 x)=true↔x∈R.map (·.1):=λ x=>by
  rw [hm.key,List.mem_map];constructor
  ·rintro ⟨e,he,h2⟩;injection h2 with _ h2;exact ⟨e,(hS e).1 he,h2.symm⟩
  ·rintro ⟨e,he,rfl⟩;exact ⟨e,(hS e).2 he,rfl⟩
 have HS:Hid _:=zqb zb1 mb 1000 D w ho' (Nat.le_refl _);have HK:Hid (∀ss:List Int,ss.Perm (intKeys D)->(ss.mergeSort λ x y=>decide (x<=y))=R.map (·.1)/\ss.length=(R.map (·.1)).length):=λ ss hp=>zm5 ho' hR hk hp
 clear h ho ho' hm hl hk hR hS;go_enter func145,ntmps145;go_wp2_with fail;refine (zzs (some mb) w).mono ?_;rintro e w1 ⟨rfl,hw1⟩;subst hw1;go_wp2_with fail;refine Calls.mono HS.out ?_;rintro e w2 ⟨v,ss,rfl,hp,hrow,hb⟩;have HF:Hid (w2.ownsRow w.heap.size 3 1 v R.length (idV R)/\Below w.heap.size w w2):=by
  refine ⟨?_,hb⟩;obtain ⟨h3,h4⟩:=HK.out ss hp;rw [h3,h4,List.length_map,List.map_map] at hrow;exact hrow
 clear hp hrow hb;go_wp2_with fail;go_ret;exact ⟨_,rfl,HF.out.1,HF.out.2⟩
open Go.RowKit Go.WideMaps Go.Maps Go.Proofs.Tryz
structure Cb (w:World) (bx c mb rest:Nat) (S:List Edg) (f:Edg->Nat):Prop where
 bx:w.heap[bx]? =some (.cells #[.pointer (some ⟨c,0,none⟩)] 106)
 co:Co w c mb rest S f
def zdj (K:List Int):List Value:=K.map λ x=>.int .i64 x
section
variable {w w':World} {bx c mb rest g:Nat} {S:List Edg} {f:Edg->Nat}
theorem Cb.below (h:Cb w bx c mb rest S f) (hb:Below w.heap.size w w'):Cb w' bx c mb rest S f:=⟨(hb.block bx (lt_of_some h.bx)).trans h.bx,h.co.below hb⟩
theorem Cb.grown (h:Cb w bx c mb rest S f) (hg:w.grownBy w' (some g)) (h1:bx≠g) (h2:c≠g) (h3:mb≠g):Cb w' bx c mb rest S f:=by
 obtain ⟨v,hv⟩:=h.co.st;obtain ⟨D,N,k1,k2⟩:=h.co.mp;exact ⟨(hg.block bx (lt_of_some h.bx) (by simp;exact h1)).trans h.bx,⟨v,(hg.block c (lt_of_some hv) (by simp;exact h2)).trans hv⟩,D,N,k1.kept hg (by simp;exact h3),k2⟩
end
theorem z0t (w:World):(Instr.build 208 #[]).run prog w= .ok (.agg #[.int .u64 0,.int .u64 0]) w:=by kernel_rfl
theorem z5h (bx c mb rest:Nat) (S:List Edg) (f:Edg->Nat) (e:Edg) (w:World) (h:Cb w bx c mb rest S f) (he:e∈S) (hw:(Lit.int .i64 e.1).wf=true):
 Calls prog 146 #[.int .i64 e.1,.pointer (some ⟨bx,0,none⟩)] w λ en w'=>en= .returned (.bool (decide (f e=0)))/\w'=w:=by
 have h0:w.cell? ⟨bx,0,none⟩=some (.pointer (some ⟨c,0,none⟩)):=by simp [World.cell?,h.bx]
 have h1:=h.co.cell1;have lk:=(h.co.zmm he hw).2;unfold zdp at lk;have hbd:=z0t;have heq:=z4t;obtain ⟨x,hx⟩:∃x,zbh (f e)=x:=⟨_,rfl⟩;obtain ⟨y,hy⟩:∃y,hi64 (f e)=y:=⟨_,rfl⟩;have HX:Hid (f e=0↔x=0/\y=0):=by
  show _↔_;rw [<-hx,<-hy];exact ⟨λ k=>by rw [k];exact ⟨rfl,rfl⟩,λ k=>z4b (y:=0) k.1 k.2⟩
 rw [hx,hy] at lk;obtain ⟨X,hX⟩:∃X,e.1=X:=⟨_,rfl⟩;rw [hX] at lk ⊢;clear h he hw hx hy hX;by_cases hx0:x=0
 ·subst hx0
  by_cases hy0:y=0
  ·subst hy0
   have HZ:Hid (f e=0):=HX.out.2 ⟨rfl,rfl⟩;have hb:(((0:Nat):Int)==0)=true:=rfl;go_enter func146,ntmps146;go_wp2_with fail;go_ret;exact ⟨by rw [decide_eq_true HZ.out];simp,rfl⟩
  ·have HZ:Hid (¬f e=0):=λ k=>hy0 (HX.out.1 k).2
   have hb1:(((0:Nat):Int)==0)=true:=rfl;have hb:((y:Int)==0)=false:=beq_eq_false_iff_ne.2 (by omega);go_enter func146,ntmps146;go_wp2_with fail;go_ret;exact ⟨by rw [decide_eq_false HZ.out];simp,rfl⟩
 ·have HZ:Hid (¬f e=0):=λ k=>hx0 (HX.out.1 k).1
  have hb:((x:Int)==0)=false:=beq_eq_false_iff_ne.2 (by omega);go_enter func146,ntmps146;go_wp2_with fail;go_ret;exact ⟨by rw [decide_eq_false HZ.out];simp,rfl⟩
structure Dz (w0 w:World) (B g m cap i j:Nat) (pf:Int->Bool) (M X:List Int):Prop where
 own:w.ownsRow B 3 1 (.slice (some ⟨g,0,none⟩) m cap) m (zdj X)
 len:X.length=m
 fst:X.take i=(M.take j).filter λ x=>!pf x
 snd:X.drop j=M.drop j
 hij:i<j
 hjm:j<=m
 kept:w0.grownBy w (some g)
theorem zmu {L:List Int} {k:Nat} {x:Int} (pf:Int->Bool) (h:L[k]? =some x):(L.take (k+1)).filter pf=(L.take k).filter pf++(if pf x then [x] else []):=by
 obtain ⟨hlt,he⟩:=List.getElem?_eq_some_iff.1 h;rw [List.take_succ_eq_append_getElem hlt,List.filter_append,he]
 congr 1
 cases hp:pf x <;> simp [hp]
section
variable {w0 w w':World} {B g m cap i j:Nat} {x:Int} {pf:Int->Bool} {M X:List Int}
theorem Dz.at_ (h:Dz w0 w B g m cap i j pf M X) (hj:j<m) (hm:M.length=m):X[j]? =M[j]? /\∃x,M[j]? =some x:=by
 refine ⟨?_,_,List.getElem?_eq_getElem (by omega)⟩;have:=congrArg (λ l=>l[0]?) h.snd
 simpa using this
theorem Dz.cell (h:Dz w0 w B g m cap i j pf M X) {k:Nat} (hk:X[k]? =some x):w.cell? ⟨g,k,none⟩=some (.int .i64 x):=by
 have hkl:=(List.getElem?_eq_some_iff.1 hk).1;have hlen:=h.len;rw [h.own.cellAt k (by omega)];simp [zdj,hk]
theorem Dz.fz (h:Dz w0 w B g m cap i j pf M X) (k:Nat):w.frozen? ⟨g,k,none⟩=false:=by
 rcases h.own.2 with ⟨h1,_⟩ | ⟨g',cap',cur,h1,_,h3,_⟩
 ·cases h1
 ·injection h1 with h1 _ _
  injection h1 with h1
  injection h1 with h1 _ _
  subst h1;simp [World.frozen?,h3]
theorem Dz.skip (h:Dz w0 w B g m cap i j pf M X) (hj:j<m) (hx:M[j]? =some x) (hp:pf x=true):Dz w0 w B g m cap i (j+1) pf M X:=by
 refine {h with fst:=?_,snd:=?_,hij:=by have:=h.hij;omega,hjm:=by omega}
 ·rw [h.fst,zmu _ hx];simp [hp]
 ·have:=congrArg (List.drop 1) h.snd
  simpa [List.drop_drop,Nat.add_comm] using this
theorem Dz.store (h:Dz w0 w B g m cap i j pf M X) (hj:j<m) (hx:M[j]? =some x) (hp:pf x=false):Dz w0 (w.setCell ⟨g,i,none⟩ (.int .i64 x)) B g m cap (i+1) (j+1) pf M (X.set i x):=by
 have hij:=h.hij;have hlen:=h.len;have hset:w.grownBy (w.setCell ⟨g,i,none⟩ (.int .i64 x)) (some g):=⟨rfl,rfl,rfl,by simp,λ k _ hn=>Below.heap_setCell _ _ _ _ (λ e=>hn (by rw [e]))⟩;refine ⟨?_,by simpa using hlen,?_,?_,by omega,by omega,⟨hset.os.trans h.kept.os,hset.tape.trans h.kept.tape,hset.output.trans h.kept.output,Nat.le_trans h.kept.size hset.size,λ k hk hn=>(hset.block k (Nat.lt_of_lt_of_le hk h.kept.size) hn).trans (h.kept.block k hk hn)⟩⟩
 ·rcases h.own.2 with ⟨h1,_⟩ | ⟨g',cap',cur,h1,h2,h3,h4,h5,h6,h7⟩
  ·cases h1
  ·injection h1 with h1a h1b h1c
   injection h1a with h1a
   injection h1a with h1a _ _
   subst h1a;subst h1c;refine ⟨by simp [zdj,hlen],Or.inr ⟨g,cap,cur.setIfInBounds i (.int .i64 x),rfl,h2,?_,h4,h5,by simpa using h6,?_⟩⟩
   ·simp only [World.setCell,Array.getElem?_modify,h3]
    simp
   ·have e1:zdj (X.set i x)=(zdj X).set i (.int .i64 x):=by simp [zdj,List.map_set]
    rw [e1,<-h7];simp [List.take_set]
 ·rw [zmu _ hx,<-h.fst]
  have hi:i<X.length:=by omega
  rw [if_pos (by simp [hp]),List.take_succ_eq_append_getElem (by simpa using hi)]
  congr 1
  ·rw [List.take_set_of_le (Nat.le_refl _)]
  ·simp
 ·have:=congrArg (List.drop 1) h.snd
  rw [List.drop_set_of_lt (by omega)]
  simpa [List.drop_drop,Nat.add_comm] using this
theorem zyy (n:Nat):∀u∈(Builtin.zeroCells (Value.int .i64 0).cells n).toList,u.oneCell'=true:=by
 intro u hu;have hc:(Value.int .i64 0).cells=#[.int .i64 0]:=rfl;rw [hc] at hu;simp only [Builtin.zeroCells,Array.toList_map,List.mem_map] at hu;obtain ⟨a,_,rfl⟩:=hu;have:a%1=0:=Nat.mod_one a;show (#[Value.int .i64 0][a%1]!).oneCell'=true;rw [this];rfl
theorem zq3 (n:Nat):(Builtin.zeroCells (Value.int .i64 0).cells n).toList.length=n:=by
 have hc:(Value.int .i64 0).cells=#[.int .i64 0]:=rfl;rw [hc];simp [Builtin.zeroCells]
theorem Dz.done (h:Dz w0 w B g m cap i m pf M X) (hm:M.length=m):∃W2,(∀ty sc,(Builtin.clear_ #[48] ty #[.slice (some ⟨g,i,none⟩) (m-i) sc]).run prog w= .ok (.tuple #[]) W2)/\m<=cap/\cap<=maxLen/\W2.ownsRow B 3 1 (.slice (some ⟨g,0,none⟩) i cap) (M.filter λ x=>!pf x).length (zdj (M.filter λ x=>!pf x))/\w0.grownBy W2 (some g):=by
 have hij:=h.hij;have hlen:=h.len;rcases h.own.2 with ⟨h1,_⟩ | ⟨g',cap',cur,h1,h2,h3,h4,h5,h6,h7⟩
 ·cases h1
 ·injection h1 with h1a h1b h1c
  injection h1a with h1a
  injection h1a with h1a _ _
  subst h1a;subst h1c;have hfst:=h.fst;rw [<-hm,List.take_length] at hfst;have hcl:cur.toList.length=cap:=by simpa using h6
  have hzl:=zq3 (m-i);refine ⟨w.setRow g (splice cur.toList i (Builtin.zeroCells (Value.int .i64 0).cells (m-i)).toList).toArray,λ ty sc=>zhf w 48 3 ty (.int .i64 0) underlying48 zdy g i (m-i) sc (by omega) cur.toList 3 (by simpa using h3) (by rw [hzl,hcl];omega) (zyy _),by omega,h5,?_,?_⟩
  ·rw [<-hfst]
   have hl2:(X.take i).length=i:=by rw [List.length_take];omega
   refine ⟨by simp [zdj],Or.inr ⟨g,cap,_,by rw [hl2],h2,setRow_heap w g cur _ 3 (0,0) h3,by rw [hl2];omega,h5,?_,?_⟩⟩
   ·rw [List.size_toArray,length_splice _ _ _ (by rw [hzl,hcl];omega),hcl];omega
   ·rw [hl2]
    show (splice _ _ _).take _=_;have h8:(cur.toList.take i).length=i:=by rw [List.length_take,hcl];omega
    unfold splice;rw [Nat.mul_one,List.take_append_of_le_length (by omega),List.take_of_length_le (by omega)];have h9:=congrArg (List.take i) h7;rw [List.take_take,show min i (m*1)=i by omega] at h9;rw [h9];simp [zdj,List.map_take]
  ·exact ⟨h.kept.os,h.kept.tape,h.kept.output,Nat.le_trans h.kept.size (by simp),λ k hk hn=>(setRow_other w g k _ (λ e=>hn (by rw [e]))).trans (h.kept.block k hk hn)⟩
end
theorem z1q (pf:Int->Bool) (bx g m cap B:Nat) (M:List Int) (w:World) (h:w.ownsRow B 3 1 (.slice (some ⟨g,0,none⟩) m cap) m (zdj M)) (hl:M.length<=1000) (hm:M.length=m)
 (hf:∀x∈M,Calls prog 146 #[.int .i64 x,.pointer (some ⟨bx,0,none⟩)] w λ e w'=>e= .returned (.bool (pf x))/\w'=w):
 Calls prog 260 #[.slice (some ⟨g,0,none⟩) m cap,.func (.func 146) #[] #[.pointer (some ⟨bx,0,none⟩)]] w λ e w'=>((∃i x,i<m/\e= .returned (.int .i64 (i:Int))/\M[i]? =some x/\pf x=true/\∀j y,j<i->M[j]? =some y->pf y=false)\/(e= .returned (.int .i64 (-1))/\∀j y,j<m->M[j]? =some y->pf y=false))/\w'=w:=by
 have HO:=kd (And.intro h hm);have HF:=kd hf;rw [hm] at hl;clear h hm hf;go_enter func260,ntmps260;go_wp2_with fail;go_loopw [8] (λ s8 wq=>∃k:Nat,k<=m/\s8= .int .i64 k/\(∀j y,j<k->M[j]? =some y->pf y=false)/\wq=w) (λ s8 _=>m-(intOf s8).toNat)
 case atStart=>exact ⟨0,Nat.zero_le _,rfl,λ j y hj=>by omega,rfl⟩
 case round=>
  obtain ⟨k,hk,rfl,hno,rfl⟩:=hrel;have HB:=kd hno;clear hno;by_cases hlt:k<m
  ·obtain ⟨x,hx⟩:∃x,M[k]? =some x:=⟨_,List.getElem?_eq_getElem (by rw [HO.out.2];exact hlt)⟩
   have r0:wr.cell? ⟨g,k,none⟩=some (.int .i64 x):=by
    rw [HO.out.1.cellAt k (by omega)];simp [zdj,hx]
   have HX:=kd hx;have HC:Hid _:=HF.out x (List.mem_of_getElem? hx);clear hx;cases hp:pf x with
   | true=>
     as_aux_lemma=>
     rw [hp] at HC;go_wp2_with fail;refine Calls.mono HC.out ?_;rintro e w2 ⟨rfl,hw2⟩;subst hw2;go_wp2_with fail;go_ret;exact ⟨.inl ⟨k,x,hlt,rfl,HX.out,hp,HB.out⟩,rfl⟩
   | false=>
     as_aux_lemma=>
     rw [hp] at HC;go_wp2_with fail;refine Calls.mono HC.out ?_;rintro e w2 ⟨rfl,hw2⟩;subst hw2;have HB2:Hid (∀j y,j<k+1->M[j]? =some y->pf y=false):=λ j y hj hy=>by
      by_cases e:j=k
      ·rw [e,HX.out] at hy;rw [<-Option.some.inj hy];exact hp
      ·exact HB.out j y (by omega) hy
     go_wp2_with fail;go_roundw;case rel=>exact ⟨k+1,by omega,by go_num,HB2.out,by trivial⟩
     case measure=>simp [intOf];omega
  ·as_aux_lemma=>
   have hke:k=m:=by omega
   have HB2:Hid (∀j y,j<m->M[j]? =some y->pf y=false):=λ j y hj hy=>HB.out j y (by omega) hy
   clear hke;go_wp2_with fail;go_ret;exact ⟨.inr ⟨rfl,HB2.out⟩,rfl⟩
theorem z0e (pf:Int->Bool) (bx g m cap B:Nat) (M:List Int) (w:World) (h:w.ownsRow B 3 1 (.slice (some ⟨g,0,none⟩) m cap) m (zdj M)) (hl:M.length<=1000) (hm:M.length=m)
 (hf:∀W,w.grownBy W (some g)->∀x∈M,Calls prog 146 #[.int .i64 x,.pointer (some ⟨bx,0,none⟩)] W λ e w'=>e= .returned (.bool (pf x))/\w'=W):
 Calls prog 144 #[.slice (some ⟨g,0,none⟩) m cap,.func (.func 146) #[] #[.pointer (some ⟨bx,0,none⟩)]] w λ e w'=>∃v',e= .returned v'/\w'.ownsRow B 3 1 v' (M.filter λ x=>!pf x).length (zdj (M.filter λ x=>!pf x))/\w.grownBy w' (some g):=by
 have hrefl:w.grownBy w (some g):=⟨rfl,rfl,rfl,Nat.le_refl _,λ _ _ _=>rfl⟩;have HO:=kd (And.intro h hm);have HF:=kd hf;have HI:Hid _:=z1q pf bx g m cap B M w h hl hm (hf w hrefl);rw [hm] at hl;clear h hm hf;go_enter func144,ntmps144;go_wp2_with fail;refine Calls.mono HI.out ?_;rintro e w1 ⟨⟨i,x,hi,rfl,hix,hpx,hno⟩ | ⟨rfl,hno⟩,hw1⟩
 ·subst hw1
  have HD0:Hid (Dz w1 w1 B g m cap i (i+1) pf M M):=by
   refine ⟨HO.out.1,HO.out.2,?_,rfl,by omega,by omega,hrefl⟩;rw [zmu _ hix];have:((M.take i).filter λ x=>!pf x)=M.take i:=by
    rw [List.filter_eq_self];intro y hy;obtain ⟨k,hk⟩:=List.getElem?_of_mem hy;have hki:=(List.getElem?_eq_some_iff.1 hk).1;rw [List.length_take] at hki;rw [List.getElem?_take_of_lt (by omega)] at hk;rw [hno k y (by omega) hk];rfl
   rw [this];simp [hpx]
  have hne:((i:Int)== -1)=false:=beq_eq_false_iff_ne.2 (by omega);clear hix hpx hno HI hrefl;go_wp2_with fail;go_loopw [5,6] (λ s5 s6 wq=>∃(i j:Nat) (X:List Int),s5= .int .i64 i/\s6= .int .i64 j/\Dz w1 wq B g m cap i j pf M X) (λ _ s6 _=>m-(intOf s6).toNat)
  case atStart=>exact ⟨i,i+1,M,rfl,by go_num,HD0.out⟩
  case round=>
   clear HD0 hi hne;obtain ⟨i,j,X,rfl,rfl,hdf⟩:=hrel;have HD:=kd hdf;have hij:=hdf.hij;have hjm:=hdf.hjm;clear hdf;by_cases hlt:j<m
   ·obtain ⟨hxj,x,hx⟩:=HD.out.at_ hlt HO.out.2
    rw [hx] at hxj;have r0:=HD.out.cell hxj;have HX:=kd hx;have HC:Hid _:=HF.out wr HD.out.kept x (List.mem_of_getElem? hx);clear hx hxj;cases hp:pf x with
    | true=>
      as_aux_lemma=>
      rw [hp] at HC;go_wp2_with fail;refine Calls.mono HC.out ?_;rintro e w2 ⟨rfl,hw2⟩;subst hw2;have HD2:Hid (Dz w1 w2 B g m cap i (j+1) pf M X):=HD.out.skip hlt HX.out hp;go_wp2_with fail;go_roundw;case rel=>exact ⟨i,j+1,X,rfl,by go_num,HD2.out⟩
      case measure=>simp [intOf];omega
    | false=>
      as_aux_lemma=>
      rw [hp] at HC;go_wp2_with fail;refine Calls.mono HC.out ?_;rintro e w2 ⟨rfl,hw2⟩;subst hw2;obtain ⟨y,hy⟩:∃y,X[i]? =some y:=⟨_,List.getElem?_eq_getElem (by rw [HD.out.len];omega)⟩;have s0:=HD.out.cell hy;have fz0:=HD.out.fz i;have HD3:Hid (Dz w1 (w2.setCell ⟨g,i,none⟩ (.int .i64 x)) B g m cap (i+1) (j+1) pf M (X.set i x)):=HD.out.store hlt HX.out hp;clear hy;go_wp2_with fail;go_roundw;case rel=>exact ⟨i+1,j+1,_,by go_num,by go_num,HD3.out⟩
      case measure=>simp [intOf];omega
   ·as_aux_lemma=>
    have hje:j=m:=by omega
    subst hje;obtain ⟨W2,hcl,hcap,hcm,ho2,hg2⟩:=HD.out.done HO.out.2;have HFi:=kd (And.intro ho2 hg2);simp only [maxLen] at hcm;have hic:¬(cap=i):=by omega
    have hi1:(i:Int)<=(j:Int):=by omega
    have hi2:(i:Int)<=(cap:Int):=by omega
    have hi3:(j:Int)<=(cap:Int):=by omega
    clear ho2 hg2 HD;go_wp2_with fail;go_ret;exact ⟨_,rfl,HFi.out.1,HFi.out.2⟩
 ·subst hw1
  as_aux_lemma=>
  have HFi:Hid (w1.ownsRow B 3 1 (.slice (some ⟨g,0,none⟩) m cap) (M.filter λ x=>!pf x).length (zdj (M.filter λ x=>!pf x))/\w1.grownBy w1 (some g)):=by
   refine ⟨?_,hrefl⟩;have:(M.filter λ x=>!pf x)=M:=by
    rw [List.filter_eq_self];intro y hy;obtain ⟨k,hk⟩:=List.getElem?_of_mem hy;have hki:=(List.getElem?_eq_some_iff.1 hk).1;rw [hno k y (by rw [<-HO.out.2];exact hki) hk];rfl
   rw [this,HO.out.2];exact HO.out.1
  clear hno HI hrefl;go_wp2_with fail;go_ret;exact ⟨_,rfl,HFi.out.1,HFi.out.2⟩
end Go.Proofs.YtebcjaenhiiflaaGreatDoor.S
namespace Go.Proofs.YtebcjaenhiiflaaGreatDoor.S
open Go.RowKit Go.WideMaps Go.Maps Go.Proofs.Tryz
structure Cx (w:World) (c mb rest:Nat) (S R:List Edg) (f:Edg->Nat):Prop where
 co:Co w c mb rest S f
 mem:∀e,e∈S↔e∈R
 up:(R.map (·.1)).Pairwise (·<·)
 wf:∀e∈R,(Lit.int .i64 e.1).wf=true
 len:R.length<=120
 small:∀D N,w.ownsMap prog 3 zb1 mb N D->Rm D S f->w.ownsMap prog 3 zb1 mb 1000 D
theorem Cx.below {w w':World} {c mb rest:Nat} {S R:List Edg} {f:Edg->Nat} (h:Cx w c mb rest S R f) (hb:Below w.heap.size w w'):Cx w' c mb rest S R f:=by
 refine {h with co:=h.co.below hb,small:=λ D N ho hm=>?_};obtain ⟨D0,N0,k1,k2⟩:=h.co.mp;have k3:=h.small D0 N0 k1 k2;have k4:=k3.kept (zai hb) (by simp:some mb≠none);obtain ⟨es,clock,hb1,F1,hs1,rfl⟩:=k4;obtain ⟨es',clock',hb2,F2,hs2,rfl⟩:=ho;rw [hb1] at hb2;cases hb2;exact ⟨es,clock,hb1,F2,hs1,rfl⟩
theorem zwf (R:List Edg) (g:Edg->Bool) (pf:Int->Bool) (h:∀e∈R,pf e.1=g e):(R.map (·.1)).filter (λ x=>!pf x)=(R.filter λ e=>!g e).map (·.1):=by
 induction R with
 | nil=>rfl
 | cons e R ih=>
   have h1:=h e (by simp);have h2:=ih (λ d hd=>h d (by simp [hd]));simp only [List.map_cons,List.filter_cons,h1];cases hg:g e <;> simp [h2]
theorem zm1 (bx:Nat) (w:World):
 Calls prog 144 #[.slice none 0 0,.func (.func 146) #[] #[.pointer (some ⟨bx,0,none⟩)]] w λ e w'=>e= .returned (.slice none 0 0)/\w'=w:=by
 have HI:Hid (Calls prog 260 #[.slice none 0 0,.func (.func 146) #[] #[.pointer (some ⟨bx,0,none⟩)]] w λ e w'=>e= .returned (.int .i64 (-1))/\w'=w):=by
  show Calls _ _ _ _ _;go_enter func260,ntmps260;go_wp2_with fail;go_loopw [8] (λ s8 wq=>s8= .int .i64 0/\wq=w) (λ _ _=>0)
  case atStart=>exact ⟨rfl,rfl⟩
  case round=>
   obtain ⟨rfl,rfl⟩:=hrel;go_wp2_with fail;go_ret;exact ⟨rfl,rfl⟩
 go_enter func144,ntmps144;go_wp2_with fail;refine Calls.mono HI.out ?_;rintro e w1 ⟨rfl,hw1⟩;subst hw1;go_wp2_with fail;go_ret;exact ⟨rfl,rfl⟩
def z3w (R:List Edg) (g:Edg->Bool) (x:Int):Bool:=R.any λ e=>e.1==x&&g e
theorem zmf {R:List Edg} (h:(R.map (·.1)).Pairwise (·<·)):∀d∈R,∀e∈R,d.1=e.1->d=e:=by
 induction R with
 | nil=>intro d hd;simp at hd
 | cons a R ih=>
   rw [List.map_cons,List.pairwise_cons] at h;intro d hd e he hde;rcases List.mem_cons.1 hd with rfl | hd'
   ·rcases List.mem_cons.1 he with rfl | he'
    ·rfl
    ·have:=h.1 e.1 (List.mem_map.2 ⟨e,he',rfl⟩);omega
   ·rcases List.mem_cons.1 he with rfl | he'
    ·have:=h.1 d.1 (List.mem_map.2 ⟨d,hd',rfl⟩);omega
    ·exact ih h.2 d hd' e he' hde
theorem zuh {R:List Edg} (h:(R.map (·.1)).Pairwise (·<·)) (g:Edg->Bool) {e:Edg} (he:e∈R):z3w R g e.1=g e:=by
 unfold z3w;cases hg:g e with
 | true=>
   rw [List.any_eq_true];exact ⟨e,he,by simp [hg]⟩
 | false=>
   rw [List.any_eq_false];intro d hd k;simp only [Bool.and_eq_true,beq_iff_eq] at k;rw [zmf h d hd e he k.1,hg] at k;cases k.2
theorem zrj (R:List Edg):zdj (R.map (·.1))=idV R:=by simp [zdj,idV]
theorem z04 {w:World} {B B' e s n:Nat} {v:Value} {xs:List Value} (h:w.ownsRow B e s v n xs) (hB:B'<=B):w.ownsRow B' e s v n xs:=by
 refine ⟨h.1,?_⟩;rcases h.2 with hh | ⟨g,cap,cur,h1,h2,h3,h4⟩
 ·exact Or.inl hh
 ·exact Or.inr ⟨g,cap,cur,h1,by omega,h3,h4⟩
end Go.Proofs.YtebcjaenhiiflaaGreatDoor.S
