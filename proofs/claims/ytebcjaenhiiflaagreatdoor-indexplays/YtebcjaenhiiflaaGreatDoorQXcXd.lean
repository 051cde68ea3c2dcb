import Derived.Deep.DeepFit
import Derived.Test.YtebcjaenhiiflaaGreatDoorQKVyXb
set_option maxHeartbeats 4000000
set_option maxRecDepth 100000
namespace Go.Proofs.YtebcjaenhiiflaaGreatDoor.S.X
open Go.RowKit Go.WideMaps Go.Maps Go.Proofs.Tryz
theorem yaa5:laidOutB prog=true:=by kernel_rfl
theorem zzk:292<prog.types.size:=of_decide_eq_true (by kernel_rfl)
theorem z6f:(match prog.underlying 292 with | some (.array _ _) | some (.struct _)=>true | _=>false)=true:=by kernel_rfl
theorem zhd:Keyed prog 292:=Keyed.of_law (deep_law_laid yaa5 (m:=2) (by omega) zzk (by kernel_rfl) z6f)
theorem yab6:prog.keyType 292=true:=by kernel_rfl
theorem yabp (p q:Int):(Value.agg #[.int .i64 p,.int .i64 q]).formed prog 292=true:=by kernel_rfl
theorem yabx:prog.cellsOf 292=2:=by kernel_rfl
theorem yab8:prog.cellsOf 3=1:=by kernel_rfl
theorem yacp:∃m,prog.types.size=m+1:=⟨prog.types.size-1,by have:=zzk;omega⟩
theorem zve {x:Int} (h0:0<=x) (h1:x<=1000000):(Lit.int .i64 x).wf=true:=WalkArith.wf_i64 (by omega)
theorem zl7 (w:World):(zeroValue 3).run prog w= .ok (.int .i64 0) w:=by kernel_rfl
theorem zwh {P:Program} {k t m:Nat} {f1 f2:Field} (hu:P.underlying k=some (.struct #[f1,f2])) (h1:f1.type=t) (h2:f2.type=t) (o1:f1.offset=0) (o2:f2.offset=1) (n1:(f1.name != "_")=true) (n2:(f2.name != "_")=true) (ht:P.underlying t=some (.int .i64)) (ck:P.cellsOf k=2) (ct:P.cellsOf t=1) (hs:P.types.size=m+1) (hkt:P.keyType k=true)
 {p q:Int} (hf:(Value.agg #[.int .i64 p,.int .i64 q]).formed P k=true) (hp:(Lit.int .i64 p).wf=true) (hq:(Lit.int .i64 q).wf=true):keyOf P k (.agg #[.int .i64 p,.int .i64 q])=some (.string (keyBytes [.int .i64 p,.int .i64 q])):=by
 unfold keyOf;rw [hu];simp only [hkt,hf,Bool.and_self,if_true,hs];have e1:∀x:Int,(Lit.int .i64 x).wf=true->P.keyLits (m+1) t [.int .i64 x]=some [.int .i64 x]:=λ x hx=>by simp [Program.keyLits,ht,hx]
 have:P.keyLits (m+1+1) k (Value.agg #[.int .i64 p,.int .i64 q]).cells.toList=some [.int .i64 p,.int .i64 q]:=by
  unfold Program.keyLits;rw [hu];simp [Value.cells,ck,n1,n2,h1,h2,o1,o2,ct,e1 p hp,e1 q hq]
 rw [this];rfl
def wk (p q:Nat):Lit:=.string (keyBytes [.int .i64 (p:Int),.int .i64 (q:Int)])
theorem zq4 (p q:Nat) (hp:p<=1000) (hq:q<=1000):keyOf prog 292 (.agg #[.int .i64 (p:Int),.int .i64 (q:Int)])=some (wk p q):=by
 obtain ⟨m,hm⟩:=yacp;exact zwh underlying292 rfl rfl rfl rfl rfl rfl underlying3 yabx yab8 hm yab6 (yabp p q) (zve (by omega) (by omega)) (zve (by omega) (by omega))
theorem z0b {p q p' q':Nat} (hp:p<=1000) (hq:q<=1000) (hp':p'<=1000) (hq':q'<=1000) (h:wk p q=wk p' q'):p=p'/\q=q':=by
 have:=zhd.inj (zq4 p q hp hq) (h▸zq4 p' q' hp' hq');simp at this;omega
theorem zp3 (p q:Nat):WideAt.IsKeyLit (wk p q):=trivial
structure Wm (l1 l2 l3:List Nat) (x:Nat) (D:DataW Unit):Prop where
 key:∀kl,Maps.has D kl=true↔∃i,i<x/\kl=wk (l1.getD i 0) (l2.getD i 0)
 val:∀i,i<x->∀zd,D.atKey (wk (l1.getD i 0) (l2.getD i 0)) zd= .lit (.int .i64 ((l3.getD i 0:Nat):Int))
 tidy:Tidy D
 same:∀i j,i<x->j<x->l1.getD i 0=l1.getD j 0->l2.getD i 0=l2.getD j 0->l3.getD i 0=l3.getD j 0
section
variable {l1 l2 l3:List Nat} {x:Nat} {D:DataW Unit}
theorem Wm.start (l1 l2 l3:List Nat):Wm l1 l2 l3 0 (.map []):=⟨λ kl=>by simp [Maps.has],λ i hi=>by omega,tidy_empty,λ i j hi=>by omega⟩
theorem Wm.put (h:Wm l1 l2 l3 x D) (sm:∀i,i<=x->l1.getD i 0<=1000/\l2.getD i 0<=1000) (hs:∀i,i<x->l1.getD i 0=l1.getD x 0->l2.getD i 0=l2.getD x 0->l3.getD i 0=l3.getD x 0):
 Wm l1 l2 l3 (x+1) (D.put (wk (l1.getD x 0) (l2.getD x 0)) (.lit (.int .i64 ((l3.getD x 0:Nat):Int)))):=by
 refine ⟨λ kl=>?_,λ i hi zd=>?_,h.tidy.put (zp3 _ _) _,λ i j hi hj e1 e2=>?_⟩
 ·by_cases e:kl=wk (l1.getD x 0) (l2.getD x 0)
  ·rw [e,has_put_same h.tidy.isMap (zp3 _ _)]
   exact ⟨λ _=>⟨x,by omega,rfl⟩,λ _=>rfl⟩
  ·rw [has_put_other e,h.key]
   constructor
   ·rintro ⟨i,hi,k⟩;exact ⟨i,by omega,k⟩
   ·rintro ⟨i,hi,k⟩
    refine ⟨i,?_,k⟩;have:i≠x:=λ e'=>e (by rw [k,e'])
    omega
 ·by_cases e:wk (l1.getD i 0) (l2.getD i 0)=wk (l1.getD x 0) (l2.getD x 0)
  ·have sx:=sm x (by omega)
   have si:=sm i (by omega);obtain ⟨e1,e2⟩:=z0b si.1 si.2 sx.1 sx.2 e;rw [e,atKey_put_same h.tidy.isMap (zp3 _ _)];by_cases hix:i=x
   ·rw [hix]
   ·rw [hs i (by omega) e1 e2]
  ·have hix:i≠x:=λ e'=>e (by rw [e'])
   rw [atKey_put_other e];exact h.val i (by omega) zd
 ·by_cases hi':i=x
  ·by_cases hj':j=x
   ·rw [hi',hj']
   ·subst hi'
    exact (hs j (by omega) e1.symm e2.symm).symm
  ·by_cases hj':j=x
   ·subst hj'
    exact hs i (by omega) e1 e2
   ·exact h.same i j (by omega) (by omega) e1 e2
end
theorem zy8 (w:World) (b i:Nat) (v:Value):w.grownBy (w.setCell ⟨b,i,none⟩ v) (some b):=
 ⟨rfl,rfl,rfl,by simp,λ k _ hne=>Below.heap_setCell _ _ _ _ (λ e=>hne (by rw [e]))⟩
theorem zmz (x p b:Nat) (L:List Nat) (w:World) (hs:zab w p b L) (hx:x<L.length):
 Calls prog 247 #[.pointer (some ⟨p,0,none⟩),.int .i64 (x:Int)] w λ e w'=>e= .returned (.tuple #[.int .i64 ((L.getD x 0:Nat):Int),.nilIface])/\Below w.heap.size w w':=by
 have:=zo4 (x:Int) p b L w hs (by omega) (by omega)
 simpa using this
theorem zzg {W:World} {bx t:Nat} {x y:Value} (h:W.heap[bx]? =some (.cells #[x,y] t)) (v:Value):(W.setCell ⟨bx,0,none⟩ v).heap[bx]? =some (.cells #[v,y] t):=by
 simp only [World.setCell,Array.getElem?_modify,h];simp
theorem zv4 {W:World} {bx t:Nat} {x y:Value} (h:W.heap[bx]? =some (.cells #[x,y] t)) (v:Value):(W.setCell ⟨bx,1,none⟩ v).heap[bx]? =some (.cells #[x,v] t):=by
 simp only [World.setCell,Array.getElem?_modify,h];simp
structure Pt (w0 W:World) (p1 b1 p2 b2 p3 b3 m N:Nat) (l1 l2 l3:List Nat) (D:DataW Unit):Prop where
 s1:zab W p1 b1 l1
 s2:zab W p2 b2 l2
 s3:zab W p3 b3 l3
 lt:p1<w0.heap.size/\b1<w0.heap.size/\p2<w0.heap.size/\b2<w0.heap.size/\p3<w0.heap.size/\b3<w0.heap.size
 own:W.ownsMap prog 292 (plainElem prog 3) m N D
 below:Below w0.heap.size w0 W
section
variable {w0 W W':World} {p1 b1 p2 b2 p3 b3 m N:Nat} {l1 l2 l3:List Nat} {D:DataW Unit}
theorem Pt.below' (h:Pt w0 W p1 b1 p2 b2 p3 b3 m N l1 l2 l3 D) (hb:Below W.heap.size W W'):Pt w0 W' p1 b1 p2 b2 p3 b3 m N l1 l2 l3 D:=
 ⟨h.s1.below hb h.s1.plt h.s1.blt,h.s2.below hb h.s2.plt h.s2.blt,h.s3.below hb h.s3.plt h.s3.blt,h.lt,h.own.kept (zai hb) (by simp),h.below.trans (hb.mono h.below.size)⟩
theorem Pt.set (h:Pt w0 W p1 b1 p2 b2 p3 b3 m N l1 l2 l3 D) {bx:Nat} (hx:w0.heap.size<=bx) (hm:bx≠m) (i:Nat) (v:Value):Pt w0 (W.setCell ⟨bx,i,none⟩ v) p1 b1 p2 b2 p3 b3 m N l1 l2 l3 D:=by
 have hlt:=h.lt;have hb:Below w0.heap.size W (W.setCell ⟨bx,i,none⟩ v):=⟨rfl,rfl,rfl,by simp,λ k hk=>Below.heap_setCell _ _ _ _ (show k≠bx by omega)⟩;exact ⟨h.s1.below hb hlt.1 hlt.2.1,h.s2.below hb hlt.2.2.1 hlt.2.2.2.1,h.s3.below hb hlt.2.2.2.2.1 hlt.2.2.2.2.2,h.lt,h.own.kept (zy8 W bx i v) (by simp;omega),h.below.trans hb⟩
theorem Pt.upd (h:Pt w0 W p1 b1 p2 b2 p3 b3 w0.heap.size N l1 l2 l3 D) {N':Nat} {D':DataW Unit} (ho:W'.ownsMap prog 292 (plainElem prog 3) w0.heap.size N' D') (hg:W.grownBy W' (some w0.heap.size)):Pt w0 W' p1 b1 p2 b2 p3 b3 w0.heap.size N' l1 l2 l3 D':=by
 have hlt:=h.lt;have hb:Below w0.heap.size W W':=⟨hg.os,hg.tape,hg.output,hg.size,λ k hk=>hg.block k (Nat.lt_of_lt_of_le hk h.below.size) (by simp;omega)⟩;exact ⟨h.s1.below hb hlt.1 hlt.2.1,h.s2.below hb hlt.2.2.1 hlt.2.2.2.1,h.s3.below hb hlt.2.2.2.2.1 hlt.2.2.2.2.2,h.lt,ho,h.below.trans hb⟩
end
theorem z1u (n p1 b1 p2 b2 p3 b3:Nat) (l1 l2 l3:List Nat) (ok:Bool) (w:World) (h1:zab w p1 b1 l1) (h2:zab w p2 b2 l2) (h3:zab w p3 b3 l3) (hn:n<=40) (g1:Good n l1) (g2:Good n l2) (g3:Good n l3)
 (hok:ok=true↔∃x y,x<n/\y<n/\l1.getD x 0=l1.getD y 0/\l2.getD x 0=l2.getD y 0/\l3.getD x 0≠l3.getD y 0):
 Calls prog 150 #[.int .i64 (n:Int),.pointer (some ⟨p1,0,none⟩),.pointer (some ⟨p2,0,none⟩),.pointer (some ⟨p3,0,none⟩)] w λ e w'=>e= .returned (.bool ok)/\Below w.heap.size w w':=by
 have HOK:=kd hok;have HG:Hid (Good n l1/\Good n l2/\Good n l3):=⟨g1,g2,g3⟩;have HS:Hid (Pt w (w.alloc (.map #[] 0)) p1 b1 p2 b2 p3 b3 w.heap.size 0 l1 l2 l3 (.map [])):=by
  have hb:Below w.heap.size w (w.alloc (.map #[] 0)):=(Below.refl _ _).alloc (Nat.le_refl _) _;exact ⟨h1.below hb h1.plt h1.blt,h2.below hb h2.plt h2.blt,h3.below hb h3.plt h3.blt,⟨h1.plt,h1.blt,h2.plt,h2.blt,h3.plt,h3.blt⟩,World.ownsMap_made w _ _ _,hb⟩
 have hmm:=@run_makeMap prog;clear h1 h2 h3 g1 g2 g3 hok;go_enter func150,ntmps150;go_wp2_with fail;clear hmm;go_loopw [18] (λ s18 wq=>∃(x:Nat) (D:DataW Unit),x<=n/\s18= .int .i64 x/\Pt w wq p1 b1 p2 b2 p3 b3 w.heap.size x l1 l2 l3 D/\Wm l1 l2 l3 x D) (λ s18 _=>n-(intOf s18).toNat)
 case atStart=>exact ⟨0,_,Nat.zero_le _,rfl,HS.out,Wm.start l1 l2 l3⟩
 case round=>
  clear HS;obtain ⟨x,D,hx,rfl,hpt,hwm⟩:=hrel;have HP:=kd hpt;have HW:=kd hwm;clear hpt hwm;by_cases hlt:x<n
  ·have hmw:w.heap.size<wr.heap.size:=by
    obtain ⟨es,clock,hb,_⟩:=HP.out.own;exact lt_of_some hb
   have HP1:Hid (Pt w (wr.alloc (.cells #[.int .i64 0,.int .i64 0] 292)) p1 b1 p2 b2 p3 b3 w.heap.size x l1 l2 l3 D):=HP.out.below' ((Below.refl _ _).alloc (Nat.le_refl _) _);obtain ⟨k1,hk1⟩:∃k1,l1.getD x 0=k1:=⟨_,rfl⟩;obtain ⟨k2,hk2⟩:∃k2,l2.getD x 0=k2:=⟨_,rfl⟩;obtain ⟨k3,hk3⟩:∃k3,l3.getD x 0=k3:=⟨_,rfl⟩;have HK:Hid (l1.getD x 0=k1/\l2.getD x 0=k2/\l3.getD x 0=k3):=⟨hk1,hk2,hk3⟩;have hk1l:k1<=x:=by rw [<-hk1];exact HG.out.1.le x hlt
   have hk2l:k2<=x:=by rw [<-hk2];exact HG.out.2.1.le x hlt
   have hk3l:k3<=x:=by rw [<-hk3];exact HG.out.2.2.le x hlt
   obtain ⟨bx,hbx⟩:∃bx,wr.heap.size=bx:=⟨_,rfl⟩;obtain ⟨W1,hW1⟩:∃W1,wr.alloc (.cells #[.int .i64 0,.int .i64 0] 292)=W1:=⟨_,rfl⟩;have c1:W1.heap[bx]? =some (.cells #[.int .i64 0,.int .i64 0] 292):=by rw [<-hW1,<-hbx];exact heap_alloc_new wr _
   rw [hW1] at HP1;rw [hbx] at hmw;go_upto_region 6 with fail
   try rw [hW1,hbx]
   have HBX:=kd hbx;clear hbx hW1;go_wp2_with fail;refine (zmz x p1 b1 l1 _ HP1.out.s1 (by rw [HG.out.1.len];exact hlt)).mono ?_;rintro e W2 ⟨rfl,hb2⟩;rw [HK.out.1];have HP2:Hid (Pt w W2 p1 b1 p2 b2 p3 b3 w.heap.size x l1 l2 l3 D):=HP1.out.below' hb2;have c2:W2.heap[bx]? =some (.cells #[.int .i64 0,.int .i64 0] 292):=(hb2.block bx (lt_of_some c1)).trans c1;have q0:W2.cell? ⟨bx,0,none⟩=some (.int .i64 0):=by simp [World.cell?,c2]
   have f0:W2.frozen? ⟨bx,0,none⟩=false:=by simp [World.frozen?,c2]
   obtain ⟨W3,hW3⟩:∃W3,W2.setCell ⟨bx,0,none⟩ (.int .i64 (k1:Int))=W3:=⟨_,rfl⟩;have HP3:Hid (Pt w W3 p1 b1 p2 b2 p3 b3 w.heap.size x l1 l2 l3 D):=by rw [<-hW3];exact HP2.out.set (by omega) (by omega) 0 _
   have c3:W3.heap[bx]? =some (.cells #[.int .i64 (k1:Int),.int .i64 0] 292):=by
    rw [<-hW3];exact zzg c2 _
   clear HP1 HP2 hb2 c1 c2;go_upto_region 7 with fail
   try rw [hW3]
   clear hW3 q0 f0;go_wp2_with fail;refine (zmz x p2 b2 l2 _ HP3.out.s2 (by rw [HG.out.2.1.len];exact hlt)).mono ?_;rintro e W4 ⟨rfl,hb4⟩;rw [HK.out.2.1];have HP4:Hid (Pt w W4 p1 b1 p2 b2 p3 b3 w.heap.size x l1 l2 l3 D):=HP3.out.below' hb4;have c4:W4.heap[bx]? =some (.cells #[.int .i64 (k1:Int),.int .i64 0] 292):=(hb4.block bx (lt_of_some c3)).trans c3;have q0:W4.cell? ⟨bx,1,none⟩=some (.int .i64 0):=by simp [World.cell?,c4]
   have f0:W4.frozen? ⟨bx,1,none⟩=false:=by simp [World.frozen?,c4]
   obtain ⟨W5,hW5⟩:∃W5,W4.setCell ⟨bx,1,none⟩ (.int .i64 (k2:Int))=W5:=⟨_,rfl⟩;have HP5:Hid (Pt w W5 p1 b1 p2 b2 p3 b3 w.heap.size x l1 l2 l3 D):=by rw [<-hW5];exact HP4.out.set (by omega) (by omega) 1 _
   have c5:W5.heap[bx]? =some (.cells #[.int .i64 (k1:Int),.int .i64 (k2:Int)] 292):=by
    rw [<-hW5];exact zv4 c4 _
   clear HP3 HP4 hb4 c3 c4;go_upto_region 8 with fail
   try rw [hW5]
   clear hW5 q0 f0;go_wp2_with fail;refine (zmz x p3 b3 l3 _ HP5.out.s3 (by rw [HG.out.2.2.len];exact hlt)).mono ?_;rintro e W6 ⟨rfl,hb6⟩;rw [HK.out.2.2];have HP6:Hid (Pt w W6 p1 b1 p2 b2 p3 b3 w.heap.size x l1 l2 l3 D):=HP5.out.below' hb6;have c6:W6.heap[bx]? =some (.cells #[.int .i64 (k1:Int),.int .i64 (k2:Int)] 292):=(hb6.block bx (lt_of_some c5)).trans c5;have q0:W6.cell? ⟨bx,0,none⟩=some (.int .i64 (k1:Int)):=by simp [World.cell?,c6]
   have q1:W6.cell? ⟨bx,1,none⟩=some (.int .i64 (k2:Int)):=by simp [World.cell?,c6]
   have hown:=HP6.out.own;have hkey:=zq4 k1 k2 (by omega) (by omega);have SM:Hid (∀i,i<=x->l1.getD i 0<=1000/\l2.getD i 0<=1000):=λ i hi=>by
    have e1:=HG.out.1.le i (by omega);have e2:=HG.out.2.1.le i (by omega);omega
   clear HP5 hb6 c5 c6 hk1 hk2 hk3;cases hh:Maps.has D (wk k1 k2) with
   | false=>
     as_aux_lemma=>
     have HN:Hid (Wm l1 l2 l3 (x+1) (D.put (wk k1 k2) (.lit (.int .i64 (k3:Int))))):=by
      have:=HW.out.put SM.out (λ i hi e1 e2=>by
       have:Maps.has D (wk k1 k2)=true:=(HW.out.key _).2 ⟨i,hi,by rw [e1,e2,HK.out.1,HK.out.2.1]⟩;rw [hh] at this;cases this)
      rw [HK.out.1,HK.out.2.1,HK.out.2.2] at this;exact this
     go_wp2_with (first
      | (at_lookup;refine wpList_lookup_own_ok_int _ rfl _ _ 290 rfl 292 3 .i64 zhd underlying290 underlying3 (zl7 _) w.heap.size x D rfl hown _ _ rfl hkey ?_;intro c hat hwc;rw [hh];clear hat hwc)
      | (at_mapUpdate;refine wpList_mapUpdate_own _ rfl _ _ _ 290 rfl 292 3 zhd underlying290 (plainElem prog 3) w.heap.size x D rfl hown (by unfold maxLen;omega) _ _ _ rfl rfl hkey _ [] (plainElem_int underlying3 (a:=(k3:Int)) (zve (by omega) (by omega))) ?_;intro w8 hown8 hgrow8)
      | fail)
     have HP8:Hid (Pt w w8 p1 b1 p2 b2 p3 b3 w.heap.size (x+1) l1 l2 l3 (D.put (wk k1 k2) (.lit (.int .i64 (k3:Int))))):=HP6.out.upd hown8 hgrow8;clear hown8 hgrow8;go_wp2_with fail;go_roundw;case rel=>exact ⟨x+1,_,by omega,by go_num,HP8.out,HN.out⟩
     case measure=>simp [intOf];omega
   | true=>
     obtain ⟨i,hi,hki⟩:=(HW.out.key _).1 hh;obtain ⟨e1,e2⟩:=z0b (by omega) (by omega) (SM.out i (by omega)).1 (SM.out i (by omega)).2 hki;have HV:Hid (∀c:Int,D.atKey (wk k1 k2) (.lit (.int .i64 0))= .lit (.int .i64 c)->c=((l3.getD i 0:Nat):Int)):=λ c hc=>by
      have:=HW.out.val i hi (.lit (.int .i64 0));rw [<-hki,hc] at this;exact (Lit.int.inj (DataW.lit.inj this)).2
     have HI:=kd (And.intro e1.symm e2.symm);obtain ⟨j3,hj3⟩:∃j3,l3.getD i 0=j3:=⟨_,rfl⟩;have HJ:=kd hj3;rw [hj3] at HV;clear hki e1 e2 hj3;by_cases h3:j3=k3
     ·as_aux_lemma=>
      subst h3;have hb3:((j3:Int)==(j3:Int))=true:=by simp
      have HN:Hid (Wm l1 l2 l3 (x+1) (D.put (wk k1 k2) (.lit (.int .i64 (j3:Int))))):=by
       have:=HW.out.put SM.out (λ i' hi' e1 e2=>by
        rw [HK.out.2.2,HW.out.same i' i hi' hi (by rw [e1,HK.out.1,HI.out.1]) (by rw [e2,HK.out.2.1,HI.out.2])];exact HJ.out)
       rw [HK.out.1,HK.out.2.1,HK.out.2.2] at this;exact this
      go_wp2_with (first
       | (at_lookup;refine wpList_lookup_own_ok_int _ rfl _ _ 290 rfl 292 3 .i64 zhd underlying290 underlying3 (zl7 _) w.heap.size x D rfl hown _ _ rfl hkey ?_;intro c hat hwc;obtain rfl:=HV.out c hat;rw [hh];clear hat hwc)
       | (at_mapUpdate;refine wpList_mapUpdate_own _ rfl _ _ _ 290 rfl 292 3 zhd underlying290 (plainElem prog 3) w.heap.size x D rfl hown (by unfold maxLen;omega) _ _ _ rfl rfl hkey _ [] (plainElem_int underlying3 (a:=(j3:Int)) (zve (by omega) (by omega))) ?_;intro w8 hown8 hgrow8)
       | fail)
      have HP8:Hid (Pt w w8 p1 b1 p2 b2 p3 b3 w.heap.size (x+1) l1 l2 l3 (D.put (wk k1 k2) (.lit (.int .i64 (j3:Int))))):=HP6.out.upd hown8 hgrow8;clear hown8 hgrow8;go_wp2_with fail;go_roundw;case rel=>exact ⟨x+1,_,by omega,by go_num,HP8.out,HN.out⟩
      case measure=>simp [intOf];omega
     ·as_aux_lemma=>
      have hb3:((j3:Int)==(k3:Int))=false:=beq_eq_false_iff_ne.2 (by omega);have HO:Hid (ok=true):=HOK.out.2 ⟨i,x,by omega,hlt,by rw [HI.out.1,HK.out.1],by rw [HI.out.2,HK.out.2.1],by rw [HJ.out,HK.out.2.2];exact h3⟩;go_wp2_with (first
       | (at_lookup;refine wpList_lookup_own_ok_int _ rfl _ _ 290 rfl 292 3 .i64 zhd underlying290 underlying3 (zl7 _) w.heap.size x D rfl hown _ _ rfl hkey ?_;intro c hat hwc;obtain rfl:=HV.out c hat;rw [hh];clear hat hwc)
       | fail)
      go_ret;exact ⟨by rw [HO.out];rfl,HP6.out.below⟩
  ·have hxe:x=n:=by omega
   have HO:Hid (ok=false):=by
    rw [Bool.eq_false_iff];intro hc;obtain ⟨x',y',hx',hy',e1,e2,e3⟩:=HOK.out.1 hc;exact e3 (HW.out.same x' y' (by omega) (by omega) e1 e2)
   clear hxe;go_wp2_with fail;go_ret;exact ⟨by rw [HO.out];rfl,HP.out.below⟩
end Go.Proofs.YtebcjaenhiiflaaGreatDoor.S.X
namespace Go.Proofs.YtebcjaenhiiflaaGreatDoor.S.X
open Go.RowKit Go.WideMaps Go.Maps Go.Proofs.Tryz
theorem zan.mono {w:World} {B B':Nat} {v:Value} {L:List (Nat × Nat)} (h:zan w B v L) (hB:B'<=B):zan w B' v L:=by
 refine ⟨h.1,?_⟩;rcases h.2 with hh | ⟨g,cap,cur,h1,h2,h3,h4⟩
 ·exact Or.inl hh
 ·exact Or.inr ⟨g,cap,cur,h1,by omega,h3,h4⟩
theorem zkk (ty:TypeId) (w:World) (B:Nat) (v:Value) (L M:List (Nat × Nat)) (h:zan w B v L) (hB:B<=w.heap.size) (a:Addr) (m c:Nat) (hm:m=M.length) (hM:∀j u,(rowP M)[j]? =some u->w.cell? (a.add j)=some u) (hl:L.length+M.length<=100000):
 ∃v' w',(Builtin.append_ #[65,65] ty #[v,.slice (some a) m c]).run prog w= .ok v' w'/\zan w' B v' (L++M)/\w.grownBy w' v.ownBlock/\G.zbr w v v':=by
 subst hm;obtain ⟨i,hi,hs,hb,hz⟩:=z8c;have own:∀B',zan w B' v L->B'<=w.heap.size->∃v' w',(Builtin.append_ #[65,65] ty #[v,.slice (some a) M.length c]).run prog w= .ok v' w'/\zan w' B' v' (L++M)/\w.grownBy w' v.ownBlock:=by
  intro B' h' hB';obtain ⟨v',w',h1,h2,h3,_⟩:=run_append_own (P:=prog) w B' 65 ty 180 i zP 2 16 underlying65 hi hz hs hb (by rw [zkr];rfl) (by omega) v L.length (rowP L) h' a M.length c (rowP M) (za1 M) hM (zd5 M) (by simp only [maxLen];omega) (by omega) hB';refine ⟨v',w',h1,?_,h3⟩;show w'.ownsRow B' 180 2 v' (L++M).length (rowP (L++M));rw [List.length_append,rowP_append];exact h2
 rcases h.2 with ⟨rfl,h0⟩ | ⟨g,cap,cur,rfl,h1,h2,h3,h4,h5,h6⟩
 ·have hL:L=[]:=List.eq_nil_of_length_eq_zero h0
  subst hL;obtain ⟨v',w',e1,e2,e3⟩:=own w.heap.size (World.ownsRow_nil w _ 180 2) (Nat.le_refl _);exact ⟨v',w',e1,e2.mono hB,e3,λ k hk=>Or.inr (World.ownsRow.lt e2 k hk).1⟩
 ·obtain ⟨v',w',e1,e2,e3⟩:=own B h hB
  refine ⟨v',w',e1,e2,e3,?_⟩;by_cases hroom:L.length+M.length<=cap
  ·have hr:=run_append_room (P:=prog) w 65 ty 180 i underlying65 hi g L.length cap cur h2 a M.length c (rowP M) (by rw [hs];exact za1 M) hM (zd5 M) hroom (by rw [hs,h5,za1];omega)
   rw [hr] at e1;injection e1 with e1 _
   subst e1;intro k hk;exact Or.inl hk
  ·have hr:=run_append_grow (P:=prog) w 65 ty 180 i zP underlying65 hi hz ⟨g,0,none⟩ L.length cap (rowP L) (by rw [hs];exact za1 L) (World.ownsRow.cells h rfl) a M.length c (rowP M) (by rw [hs];exact za1 M) hM (by omega) (by omega) (growslice_fits (by omega) (by rw [hb];omega))
   rw [hr] at e1;injection e1 with e1 _
   subst e1;intro k hk;have hk':w.heap.size=k:=by simpa [Value.ownBlock] using hk
   exact Or.inr (by omega)
theorem zfi (ty:TypeId) (W:World) (B:Nat) (u:Value) (M:List (Nat × Nat)) (x y:Nat) (h:zan W B u M) (hB:B<=W.heap.size) (hl:M.length<=10000):
 ∃v' w',(Builtin.append_ #[65,65] ty #[u,.slice (some ⟨W.heap.size,0,none⟩) 1 1]).run prog (W.alloc (.cells #[.int .i64 (x:Int),.int .i64 (y:Int)] 180))= .ok v' w'/\zan w' B v' (M++[(x,y)])/\W.grownBy w' u.ownBlock/\G.zbr W u v':=by
 have hbx:Below W.heap.size W (W.alloc (.cells #[.int .i64 (x:Int),.int .i64 (y:Int)] 180)):=(Below.refl _ _).alloc (Nat.le_refl _) _;obtain ⟨v',w',h1,h2,h3,h4⟩:=zkk ty _ B u M [(x,y)] (h.below hbx) (Nat.le_trans hB (by simp)) ⟨W.heap.size,0,none⟩ 1 1 rfl (pair_cells W x y) (by simp;omega);refine ⟨v',w',h1,h2,⟨h3.os.trans hbx.os,h3.tape.trans hbx.tape,h3.output.trans hbx.output,Nat.le_trans hbx.size h3.size,λ k hk hn=>(h3.block k (Nat.lt_of_lt_of_le hk hbx.size) hn).trans (hbx.block k hk)⟩,λ k hk=>?_⟩;rcases h4 k hk with h5 | h5
 ·exact Or.inl h5
 ·exact Or.inr (Nat.le_trans (by simp) h5)
def zhh (n:Nat) (R:List (Int × Int × Int)) (i:Nat):List Nat:=joins (List.range n) (R.filter (kp λ x=>decide (x≠i)))
def zw1 (n:Nat) (R:List (Int × Int × Int)) (i j:Nat):List Nat:=joins (List.range n) (R.filter (kp λ x=>decide (x≠i/\x≠j)))
section
variable {n:Nat} {R:List (Int × Int × Int)}
theorem lw1 (hin:Inn n R) (i:Nat):Lw n R [i] (zhh n R i):=zq1 hin _ (λ z=>by simp)
theorem lw2 (hin:Inn n R) (i j:Nat):Lw n R [i,j] (zw1 n R i j):=zq1 hin _ (λ z=>by simp)
theorem zsc (hin:Inn n R) (a b:Nat):zfz R n a b↔∃x y,x<n/\y<n/\(zhh n R a).getD x 0=(zhh n R a).getD y 0/\(zhh n R b).getD x 0=(zhh n R b).getD y 0/\(zw1 n R a b).getD x 0≠(zw1 n R a b).getD y 0:=by
 constructor
 ·rintro ⟨x,y,hx,hy,h1,h2,h3⟩
  exact ⟨x,y,hx,hy,((lw1 hin a).iff x y hx hy).2 h1,((lw1 hin b).iff x y hx hy).2 h2,λ k=>h3 (((lw2 hin a b).iff x y hx hy).1 k)⟩
 ·rintro ⟨x,y,hx,hy,h1,h2,h3⟩
  exact ⟨x,y,hx,hy,((lw1 hin a).iff x y hx hy).1 h1,((lw1 hin b).iff x y hx hy).1 h2,λ k=>h3 (((lw2 hin a b).iff x y hx hy).2 k)⟩
end
structure Al (w0 w:World) (A n k:Nat) (R:List (Int × Int × Int)):Prop where
 cell:∀i,i<k->∃p b,w.cell? ⟨A,i,none⟩=some (.pointer (some ⟨p,0,none⟩))/\zab w p b (zhh n R i)/\p≠A/\b≠A
 rest:∀i,k<=i->i<n->w.cell? ⟨A,i,none⟩=some (.pointer none)
 fz:∀i,w.frozen? ⟨A,i,none⟩=false
 lt:A<w.heap.size
 ge:w0.heap.size<=A
 below:Below w0.heap.size w0 w
section
variable {w0 w w':World} {A n k:Nat} {R:List (Int × Int × Int)}
theorem Al.below' (h:Al w0 w A n k R) (hb:Below w.heap.size w w'):Al w0 w' A n k R:=by
 refine ⟨λ i hi=>?_,λ i h1 h2=>cell_below (h.rest i h1 h2) hb,λ i=>?_,Nat.lt_of_lt_of_le h.lt hb.size,h.ge,h.below.trans (hb.mono h.below.size)⟩
 ·obtain ⟨p,b,h1,h2,h3,h4⟩:=h.cell i hi
  exact ⟨p,b,cell_below h1 hb,h2.below hb h2.plt h2.blt,h3,h4⟩
 ·have:=h.fz i
  simp only [World.frozen?] at this ⊢;rw [hb.block _ h.lt];exact this
theorem Al.step (h:Al w0 w A n k R) (hk:k<n) {p b:Nat} (hs:zab w p b (zhh n R k)) (hp:p≠A) (hb:b≠A):Al w0 (w.setCell ⟨A,k,none⟩ (.pointer (some ⟨p,0,none⟩))) A n (k+1) R:=by
 have hold:=h.rest k (Nat.le_refl _) hk;have keep':∀{v p b l},zab w p b l->p≠A->b≠A->zab (w.setCell ⟨A,k,none⟩ v) p b l:=λ {v p b l} h h1 h2=>⟨by rw [Below.heap_setCell _ _ _ _ h1];exact h.hp,by rw [Below.heap_setCell _ _ _ _ h2];exact h.hb⟩
 refine ⟨λ i hi=>?_,λ i h1 h2=>?_,λ i=>?_,by simpa using h.lt,h.ge,h.below.trans ⟨rfl,rfl,rfl,by simp,λ j hj=>Below.heap_setCell _ _ _ _ (show j≠A by have:=h.ge;omega)⟩⟩
 ·by_cases e:i=k
  ·subst e
   exact ⟨p,b,World.cell?_setCell_same _ _ _ hold,keep' hs hp hb,hp,hb⟩
  ·obtain ⟨p',b',h1,h2,h3,h4⟩:=h.cell i (by omega)
   exact ⟨p',b',(World.cell?_setCell_other _ _ _ _ (λ c=>e (by injection c with _ c _;omega))).trans h1,keep' h2 h3 h4,h3,h4⟩
 ·exact (World.cell?_setCell_other _ _ _ _ (λ c=>by injection c with _ c _;omega)).trans (h.rest i (by omega) h2)
 ·rw [World.frozen?_setCell];exact h.fz i
end
theorem zm8:(prog.info? 175).map (λ i=>(i.zero,i.size,i.bytes))=some (some (.pointer none),1,8):=by kernel_rfl
theorem z3i (w0 W:World) (n:Nat) (R:List (Int × Int × Int)) (hb:Below w0.heap.size w0 W):Al w0 (W.alloc (.cells (madeCells #[.pointer none] n) 175)) W.heap.size n 0 R:=by
 have hh:=heap_alloc_new W (.cells (madeCells #[.pointer none] n) 175);refine ⟨λ i hi=>by omega,λ i _ hi=>?_,λ i=>?_,by simp,hb.size,hb.alloc hb.size _⟩
 ·simp only [World.cell?,hh]
  simp [madeCells,hi,Nat.mod_one]
 ·simp only [World.frozen?,hh];rfl
structure Pr (W1 w:World) (u:Value) (M:List (Nat × Nat)):Prop where
 own:zan w W1.heap.size u M
 below:Below W1.heap.size W1 w
theorem Pr.below' {W1 w w':World} {u:Value} {M:List (Nat × Nat)} (h:Pr W1 w u M) (hb:Below w.heap.size w w'):Pr W1 w' u M:=⟨h.own.below hb,h.below.trans (hb.mono h.below.size)⟩
structure B3 (W1 w:World) (ba bb a b:Nat) (u:Value) (M:List (Nat × Nat)):Prop where
 pr:Pr W1 w u M
 ca:w.heap[ba]? =some (.cells #[.int .i64 (a:Int)] 3)
 cb:w.heap[bb]? =some (.cells #[.int .i64 (b:Int)] 3)
 na:u.ownBlock≠some ba
 nb:u.ownBlock≠some bb
 ne:ba≠bb
 ga:W1.heap.size<=ba
 gb:W1.heap.size<=bb
section
variable {W1 w w':World} {ba bb a b:Nat} {u u':Value} {M:List (Nat × Nat)}
theorem B3.zv5 (h:B3 W1 w ba bb a b u M):w.cell? ⟨ba,0,none⟩=some (.int .i64 (a:Int)):=by simp [World.cell?,h.ca]
theorem B3.zfg (h:B3 W1 w ba bb a b u M):w.cell? ⟨bb,0,none⟩=some (.int .i64 (b:Int)):=by simp [World.cell?,h.cb]
theorem B3.below' (h:B3 W1 w ba bb a b u M) (hb:Below w.heap.size w w'):B3 W1 w' ba bb a b u M:=
 {h with pr:=h.pr.below' hb,ca:=(hb.block _ (lt_of_some h.ca)).trans h.ca,cb:=(hb.block _ (lt_of_some h.cb)).trans h.cb}
theorem B3.start {M:List (Nat × Nat)} (h:Pr W1 w u M) (a:Nat):B3 W1 ((w.alloc (.cells #[.int .i64 (a:Int)] 3)).alloc (.cells #[.int .i64 ((a+1:Nat):Int)] 3)) w.heap.size (w.heap.size+1) a (a+1) u M:=by
 have h1:Below w.heap.size w (w.alloc (.cells #[.int .i64 (a:Int)] 3)):=(Below.refl _ _).alloc (Nat.le_refl _) _;have h2:Below (w.alloc (.cells #[.int .i64 (a:Int)] 3)).heap.size (w.alloc (.cells #[.int .i64 (a:Int)] 3)) ((w.alloc (.cells #[.int .i64 (a:Int)] 3)).alloc (.cells #[.int .i64 ((a+1:Nat):Int)] 3)):=(Below.refl _ _).alloc (Nat.le_refl _) _;have hc:=heap_alloc_new w (.cells #[.int .i64 (a:Int)] 3);have hd:=heap_alloc_new (w.alloc (.cells #[.int .i64 (a:Int)] 3)) (.cells #[.int .i64 ((a+1:Nat):Int)] 3);rw [World.size_alloc] at hd;have hsz:=h.below.size;have hlt:∀j,u.ownBlock=some j->j<w.heap.size:=λ j hj=>(World.ownsRow.lt h.own j hj).2
 exact ⟨(h.below' h1).below' h2,(h2.block _ (lt_of_some hc)).trans hc,hd,λ e=>by have:=hlt _ e;omega,λ e=>by have:=hlt _ e;omega,by omega,by omega,by omega⟩
theorem B3.next (h:B3 W1 w ba bb a b u M):B3 W1 (w.alloc (.cells #[.int .i64 ((b+1:Nat):Int)] 3)) ba w.heap.size a (b+1) u M:=by
 have h1:Below w.heap.size w (w.alloc (.cells #[.int .i64 ((b+1:Nat):Int)] 3)):=(Below.refl _ _).alloc (Nat.le_refl _) _;have hl:=lt_of_some h.ca;exact ⟨h.pr.below' h1,(h1.block _ hl).trans h.ca,heap_alloc_new w _,h.na,λ e=>by have:=(World.ownsRow.lt h.pr.own _ e).2;omega,by omega,h.ga,h.pr.below.size⟩
theorem B3.more (h:B3 W1 w ba bb a b u M) (ho:zan w' W1.heap.size u' (M++[(a,b)])) (hg:w.grownBy w' u.ownBlock) (hf:G.zbr w u u'):B3 W1 w' ba bb a b u' (M++[(a,b)]):=by
 have hla:=lt_of_some h.ca;have hlb:=lt_of_some h.cb;refine ⟨⟨ho,h.pr.below.grown hg h.pr.below.size (λ j hj=>(World.ownsRow.lt h.pr.own j hj).1)⟩,(hg.block _ hla (λ e=>h.na e.symm)).trans h.ca,(hg.block _ hlb (λ e=>h.nb e.symm)).trans h.cb,λ e=>?_,λ e=>?_,h.ne,h.ga,h.gb⟩
 ·rcases hf _ e with h1 | h1
  ·exact h.na h1
  ·omega
 ·rcases hf _ e with h1 | h1
  ·exact h.nb h1
  ·omega
end
end Go.Proofs.YtebcjaenhiiflaaGreatDoor.S.X
