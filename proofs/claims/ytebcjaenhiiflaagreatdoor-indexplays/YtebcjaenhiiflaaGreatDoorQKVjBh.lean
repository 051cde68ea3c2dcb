import Derived.Lib.SlKeysI
import Derived.Test.YtebcjaenhiiflaaGreatDoorQGXKVi
set_option maxHeartbeats 4000000
set_option maxRecDepth 100000
namespace Go.Proofs.YtebcjaenhiiflaaGreatDoor.S
open Go.RowKit Go.Proofs.Tryz
theorem zq8 {fn:Func} {p:Tmp} {ty:TypeId} (h:fn.results=#[.cell p ty]) (tmps:Array Value) (P:Program) (w:World):
 (results fn tmps).run P w=((asAddr (tmps.getD p undef)).run P w).andThen λ a w₁=>(loadVar ty a).run P w₁:=by
 simp only [results,h];simp [Sem.run_bind,Result.andThen]
def zdu (t:List Edg) (d:Edg):List Edg:=t.filter λ x=>!decide (x=d)
def zcl (n:Nat) (t o:List Edg) (d:Edg) (i:Nat):Bool:=decide ((lbl n (zdu t d)).getD (ea (o.getD i (0,0,0))) 0≠(lbl n (zdu t d)).getD (eb (o.getD i (0,0,0))) 0)
def RingAt (w:World) (b x:Nat):Prop:=w.heap[b]? =some (.cells #[.int .u64 (zbh x:Int),.int .u64 (hi64 x:Int)] 208)
theorem zg2 {w:World} {b:Nat} (h:w.heap[b]? =some (.cells #[.int .u64 0,.int .u64 0] 208)):RingAt w b 0:=h
theorem RingAt.zero {w:World} {b:Nat} (h:RingAt w b 0):w.heap[b]? =some (.cells #[.int .u64 0,.int .u64 0] 208):=h
theorem RingAt.below {w w':World} {b x:Nat} (h:RingAt w b x) (hb:Below w.heap.size w w'):RingAt w' b x:=(hb.block b (lt_of_some h)).trans h
theorem RingAt.but {w w':World} {b r x:Nat} (h:RingAt w b x) (hb:But r w w') (hne:b≠r):RingAt w' b x:=(hb.block b (lt_of_some h) hne).trans h
structure Th (w0 w:World) (p b r8 r:Nat) (l:List Nat) (x:Nat):Prop where
 sets:zab w p b l
 res:RingAt w r8 0
 ring:RingAt w r x
 lp:p<r
 lbr:b<r
 l8:r8<r
 lo:w0.heap.size<=r8
 lr:w0.heap.size<=r
 below:Below w0.heap.size w0 w
section
variable {w0 w w':World} {p b r8 r:Nat} {l:List Nat} {x x':Nat}
theorem Th.below' (h:Th w0 w p b r8 r l x) (hb:Below w.heap.size w w'):Th w0 w' p b r8 r l x:=
 {h with sets:=h.sets.below hb h.sets.plt h.sets.blt,res:=h.res.below hb,ring:=h.ring.below hb,below:=h.below.trans (hb.mono h.below.size)}
theorem Th.put (h:Th w0 w p b r8 r l x) (hr:RingAt w' r x') (hb:But r w w'):Th w0 w' p b r8 r l x':=by
 have h1:=h.lp;have h2:=h.lbr;have h3:=h.l8;exact {h with sets:=⟨(hb.block p h.sets.plt (by omega)).trans h.sets.hp,(hb.block b h.sets.blt (by omega)).trans h.sets.hb⟩,res:=h.res.but hb (by omega),ring:=hr,below:=h.below.trans (hb.below h.lr h.below.size)}
end
theorem zmc {n:Nat} {t:List Edg} (h:InE n t) (d:Edg):InE n (zdu t d):=h.sub (λ _ he=>(List.mem_filter.1 he).1)
theorem zsx (n B1 B2:Nat) (vt vo:Value) (t o:List Edg) (d:Edg) (w:World) (ht:G.zad w B1 61 vt t) (ho:G.zad w B2 61 vo o) (hit:InE n t) (hio:InE n o) (hd:d∈t) (hn:n<=40) (hlt:t.length<=120) (hlo:o.length<=127):
 Calls prog 141 #[.int .i64 (n:Int),vt,.agg #[.int .i64 d.1,.int .i64 d.2.1,.int .i64 d.2.2],vo] w λ e w'=>e= .returned (zdp (zaz (zcl n t o d) o.length))/\Below w.heap.size w w':=by
 have HT:Hid (G.zad w B1 61 vt t/\InE n t/\d∈t):=⟨ht,hit,hd⟩;have HO:=kd (And.intro ho hio);obtain ⟨m,hm⟩:∃m,o.length=m:=⟨_,rfl⟩;have HM:=kd hm;obtain ⟨va,vc,hv⟩:=ho.zal;rw [hm] at hv hlo ⊢;subst hv;obtain ⟨W1,hW1⟩:∃W1,(w.alloc (.cells #[.int .i64 d.1,.int .i64 d.2.1,.int .i64 d.2.2] 61)).alloc (.cells #[.int .u64 0,.int .u64 0] 208)=W1:=⟨_,rfl⟩;have hb1:Below w.heap.size w W1:=by
  rw [<-hW1];exact ((Below.refl _ _).alloc (Nat.le_refl _) _).alloc (by simp) _
 have hsz1:W1.heap.size=w.heap.size+2:=by rw [<-hW1];simp
 have hbx:Box W1 w.heap.size d:=by
  rw [<-hW1];show ((w.alloc (.cells #[.int .i64 d.1,.int .i64 d.2.1,.int .i64 d.2.2] 61)).alloc _).heap[w.heap.size]? =_;rw [Below.heap_alloc _ _ _ (by simp)];exact heap_alloc_new w _
 have hr8:RingAt W1 (w.heap.size+1) 0:=by
  rw [<-hW1];have:=heap_alloc_new (w.alloc (.cells #[.int .i64 d.1,.int .i64 d.2.1,.int .i64 d.2.2] 61)) (.cells #[.int .u64 0,.int .u64 0] 208);rw [World.size_alloc] at this;exact zg2 this
 have H1:Hid (Below w.heap.size w W1/\Box W1 w.heap.size d/\RingAt W1 (w.heap.size+1) 0):=⟨hb1,hbx,hr8⟩;clear ht ho hit hio hd hm hb1 hbx hr8;have hmf':=hmf;go_enter func141,ntmps141;go_wp2_with fail;refine (zr9 vt B1 t W1 (HT.out.1.below H1.out.1) (by omega)).mono ?_;rintro e w2 ⟨u2,rfl,ho2,hb2⟩;obtain ⟨g,cap,hu2,hBg,_,_⟩:∃g cap,u2= .slice (some ⟨g,0,none⟩) t.length cap/\W1.heap.size<=g/\True/\True:=by
  rcases ho2.shape with ⟨_,e⟩ | ⟨g,cap,e,h1,_⟩
  ·rw [e] at HT;have:=HT.out.2.2;simp at this
  ·exact ⟨g,cap,e,h1,trivial,trivial⟩
 subst hu2;have HO2:=kd (And.intro ho2 hb2);clear ho2 hb2;go_wp2_with fail;refine (zqt w.heap.size g t.length cap W1.heap.size d t w2 HO2.out.1 (H1.out.2.1.below HO2.out.2) (by omega) hBg (by omega) rfl).mono ?_;rintro e w3 ⟨v3,rfl,ho3,hg3⟩;have HW3:Hid (G.zad w3 W1.heap.size 61 v3 (zdu t d)/\Below w.heap.size w w3/\RingAt w3 (w.heap.size+1) 0/\W1.heap.size<=w3.heap.size):=by
  have hk:Below W1.heap.size W1 w3:=HO2.out.2.trans ⟨hg3.os,hg3.tape,hg3.output,hg3.size,λ k hk=>hg3.block k (Nat.lt_of_lt_of_le hk HO2.out.2.size) (by simp;omega)⟩;exact ⟨ho3,H1.out.1.trans (hk.mono H1.out.1.size),H1.out.2.2.below hk,hk.size⟩
 clear ho3 hg3 HO2 hBg;go_wp2_with fail;refine (zdx n W1.heap.size v3 (zdu t d) w3 HW3.out.1 hn (zmc HT.out.2.1 d) (Nat.le_trans (List.length_filter_le _ _) hlt)).mono ?_;rintro e w4 ⟨p,b,rfl,hs4,hp4,hb4,hbel4⟩;have HW4:Hid (zab w4 p b (lbl n (zdu t d))/\Below w.heap.size w w4/\RingAt w4 (w.heap.size+1) 0):=⟨hs4,HW3.out.2.1.trans (hbel4.mono HW3.out.2.1.size),HW3.out.2.2.1.below hbel4⟩;have hsz4:w.heap.size+2<=w4.heap.size:=by have h1:=HW3.out.2.2.2;have h2:=hbel4.size;omega
 clear hs4 hp4 hb4 hbel4 HW3;have HT0:Hid (Th w (w4.alloc (.cells #[.int .u64 0,.int .u64 0] 208)) p b (w.heap.size+1) w4.heap.size (lbl n (zdu t d)) (zaz (zcl n t o d) 0)):=by
  have hb:Below w4.heap.size w4 (w4.alloc (.cells #[.int .u64 0,.int .u64 0] 208)):=(Below.refl _ _).alloc (Nat.le_refl _) _;exact ⟨HW4.out.1.below hb HW4.out.1.plt HW4.out.1.blt,HW4.out.2.2.below hb,zg2 (heap_alloc_new w4 _),HW4.out.1.plt,HW4.out.1.blt,by omega,by omega,by omega,HW4.out.2.1.trans (hb.mono HW4.out.2.1.size)⟩
 obtain ⟨r,hr⟩:∃r,w4.heap.size=r:=⟨_,rfl⟩;go_wp2_with fail;rw [hr] at HT0;clear hr;go_loopw [23] (λ s23 wq=>∃k:Nat,k<=m/\s23= .int .i64 k/\Th w wq p b (w.heap.size+1) r (lbl n (zdu t d)) (zaz (zcl n t o d) k)) (λ s23 _=>m-(intOf s23).toNat)
 case atStart=>exact ⟨0,Nat.zero_le _,rfl,HT0.out⟩
 case round=>
  clear HT0;obtain ⟨k,hk,rfl,hth⟩:=hrel;have HTh:=kd hth;clear hth;by_cases hltk:k<m
  ·obtain ⟨x0,xa,xb,hx,han,hbn,hxa,hxb⟩:=zf5 HO.out.2 (by rw [HM.out];exact hltk)
   have HX:Hid (o.getD k (0,0,0)=(x0,(xa:Int),(xb:Int))/\ea (x0,(xa:Int),(xb:Int))=xa/\eb (x0,(xa:Int),(xb:Int))=xb):=⟨by rw [List.getD_eq_getElem?_getD,hx];rfl,hxa,hxb⟩;obtain ⟨g',rfl⟩:=zdo HO.out.1 (by rw [HM.out];exact hltk);obtain ⟨r0,r1,r2⟩:=(HO.out.1.below HTh.out.below).at (g:=g') rfl hx;have r0':wr.cell? ⟨g',k*3,none⟩=some (.int .i64 x0):=r0;have r1':wr.cell? ⟨g',k*3+1,none⟩=some (.int .i64 (xa:Int)):=r1;have r2':wr.cell? ⟨g',k*3+2,none⟩=some (.int .i64 (xb:Int)):=r2;clear r0 r1 r2 hx hxa hxb;have hb1:Below wr.heap.size wr (wr.alloc (.cells #[.int .i64 x0,.int .i64 (xa:Int),.int .i64 (xb:Int)] 61)):=(Below.refl _ _).alloc (Nat.le_refl _) _;have HT1:Hid (Th w (wr.alloc (.cells #[.int .i64 x0,.int .i64 (xa:Int),.int .i64 (xb:Int)] 61)) p b (w.heap.size+1) r (lbl n (zdu t d)) (zaz (zcl n t o d) k)):=HTh.out.below' hb1;have hgl:(lbl n (zdu t d)).length=n:=(zcd (zmc HT.out.2.1 d).nodes).len;have HCV:Hid (zcl n t o d k=true↔(lbl n (zdu t d)).getD xa 0≠(lbl n (zdu t d)).getD xb 0):=by
    show zcl n t o d k=true↔_;unfold zcl;rw [HX.out.1,HX.out.2.1,HX.out.2.2,decide_eq_true_iff]
   have HC:Hid _:=zlg xa xb p b (lbl n (zdu t d)) (zcl n t o d k) _ HT1.out.sets (by omega) (by omega) HCV.out;clear hb1 HTh;cases hcv:zcl n t o d k with
   | true=>
     as_aux_lemma=>
     rw [hcv] at HC;go_wp2_with fail;refine Calls.mono HC.out ?_;rintro e w6 ⟨rfl,hb6⟩;have HT6:Hid (Th w w6 p b (w.heap.size+1) r (lbl n (zdu t d)) (zaz (zcl n t o d) k)):=HT1.out.below' hb6;clear hb6 HT1 HC;go_wp2_with fail;refine (ztw r k (zaz (zcl n t o d) k) w6 HT6.out.ring (by omega) (zgf _ _)).mono ?_;rintro e w7 ⟨rfl,hr7,hb7⟩;have HT7:Hid (Th w w7 p b (w.heap.size+1) r (lbl n (zdu t d)) (zaz (zcl n t o d) (k+1))):=by
      have e1:zaz (zcl n t o d) (k+1)=zaz (zcl n t o d) k+2^k:=by simp only [zaz,hcv,if_true]
      have:=HT6.out.put hr7 hb7;rw [<-e1] at this;exact this
     clear hr7 hb7 HT6;go_wp2_with fail;go_roundw;case rel=>exact ⟨k+1,by omega,by go_num,HT7.out⟩
     case measure=>simp [intOf];omega
   | false=>
     as_aux_lemma=>
     rw [hcv] at HC;go_wp2_with fail;refine Calls.mono HC.out ?_;rintro e w6 ⟨rfl,hb6⟩;have HT7:Hid (Th w w6 p b (w.heap.size+1) r (lbl n (zdu t d)) (zaz (zcl n t o d) (k+1))):=by
      have e1:zaz (zcl n t o d) (k+1)=zaz (zcl n t o d) k:=by simp [zaz,hcv]
      have:=HT1.out.below' hb6;rw [<-e1] at this;exact this
     clear hb6 HT1 HC;go_wp2_with fail;go_roundw;case rel=>exact ⟨k+1,by omega,by go_num,HT7.out⟩
     case measure=>simp [intOf];omega
  ·as_aux_lemma=>
   have hke:k=m:=by omega
   subst hke;obtain ⟨X,hX⟩:∃X,zbh (zaz (zcl n t o d) k)=X:=⟨_,rfl⟩;obtain ⟨Y,hY⟩:∃Y,hi64 (zaz (zcl n t o d) k)=Y:=⟨_,rfl⟩;have HXX:Hid (zdp (zaz (zcl n t o d) k)= .agg #[.int .u64 (X:Int),.int .u64 (Y:Int)]):=by
    show zdp _=_;unfold zdp;rw [hX,hY]
   have q8:wr.heap[w.heap.size+1]? =some (.cells #[.int .u64 0,.int .u64 0] 208):=HTh.out.res.zero;have qr:wr.heap[r]? =some (.cells #[.int .u64 (X:Int),.int .u64 (Y:Int)] 208):=by rw [<-hX,<-hY];exact HTh.out.ring
   have c0:wr.cell? ⟨r,0,none⟩=some (.int .u64 (X:Int)):=by simp [World.cell?,qr]
   have c1:wr.cell? ⟨r,1,none⟩=some (.int .u64 (Y:Int)):=by simp [World.cell?,qr]
   have d0:wr.cell? ⟨w.heap.size+1,0,none⟩=some (.int .u64 0):=by simp [World.cell?,q8]
   have d1:wr.cell? ⟨w.heap.size+1,1,none⟩=some (.int .u64 0):=by simp [World.cell?,q8]
   have f0:∀i,wr.frozen? ⟨w.heap.size+1,i,none⟩=false:=λ i=>by simp only [World.frozen?,q8];simp
   have f00:=f0 0;have f01:=f0 1;have HB:=kd HTh.out.below;clear hX hY f0 q8 qr HTh;go_wp2_with fail
   (try simp only [Exit.inBlock,Exit.then])
   refine bodyPost_ret (v:=.agg #[.int .u64 (X:Int),.int .u64 (Y:Int)]) ?_ rfl ⟨by rw [HXX.out],?_⟩
   ·rw [zq8 rfl]
    go_simp
   ·exact (HB.out.setCell (show w.heap.size<=w.heap.size+1 by omega) _).setCell (show w.heap.size<=w.heap.size+1 by omega) _
end Go.Proofs.YtebcjaenhiiflaaGreatDoor.S
namespace Go.Proofs.YtebcjaenhiiflaaGreatDoor.S
open Go.RowKit Go.WideMaps Go.Maps Go.Proofs.Tryz
def zw5:List Value->Option (DataW Unit × List MemPlace)
 | [.int .u64 a,.int .u64 b]=>some (.agg [.lit (.int .u64 a),.lit (.int .u64 b)],[])
 | _=>none
def zb1:Value->Option (DataW Unit × List MemPlace)
 | .agg cs=>zw5 cs.toList
 | _=>none
def zjl (x:Nat):DataW Unit:=.agg [.lit (.int .u64 (zbh x:Int)),.lit (.int .u64 (hi64 x:Int))]
theorem zki (x:Nat):zb1 (zdp x)=some (zjl x,[]):=rfl
theorem zzf {l:List Value} {y:DataW Unit × List MemPlace} (h:zw5 l=some y):∃a b:Int,l=[.int .u64 a,.int .u64 b]/\y=(.agg [.lit (.int .u64 a),.lit (.int .u64 b)],[]):=by
 unfold zw5 at h;split at h
 ·next a b=>cases h;exact ⟨a,b,rfl,rfl⟩
 ·cases h
theorem zie {v:Value} {y:DataW Unit × List MemPlace} (h:zb1 v=some y):∃c:Int × Int,v= .agg #[.int .u64 c.1,.int .u64 c.2]/\y=(.agg [.lit (.int .u64 c.1),.lit (.int .u64 c.2)],[]):=by
 unfold zb1 at h;split at h
 ·next cs=>
  obtain ⟨a,b,h1,h2⟩:=zzf h;exact ⟨(a,b),by rw [<-Array.toArray_toList (xs:=cs),h1],h2⟩
 ·cases h
structure Rm (D:DataW Unit) (S:List Edg) (f:Edg->Nat):Prop where
 key:∀kl,Maps.has D kl=true↔∃e∈S,kl= .int .i64 e.1
 val:∀e∈S,∀zd,D.atKey (.int .i64 e.1) zd=zjl (f e)
 tidy:Tidy D
theorem Rm.start (f:Edg->Nat):Rm (.map []) [] f:=⟨λ kl=>by simp [Maps.has],λ e he=>by simp at he,tidy_empty⟩
theorem Rm.put {D:DataW Unit} {S:List Edg} {f:Edg->Nat} (h:Rm D S f) (e:Edg) (hn:∀d∈S,d.1≠e.1):Rm (D.put (.int .i64 e.1) (zjl (f e))) (S++[e]) f:=by
 refine ⟨λ kl=>?_,λ d hd zd=>?_,h.tidy.put (zbe _) _⟩
 ·by_cases hx:kl= .int .i64 e.1
  ·rw [hx,has_put_same h.tidy.isMap (zbe _)]
   exact ⟨λ _=>⟨e,by simp,rfl⟩,λ _=>rfl⟩
  ·rw [has_put_other hx,h.key]
   constructor
   ·rintro ⟨d,hd,k⟩;exact ⟨d,by simp [hd],k⟩
   ·rintro ⟨d,hd,k⟩
    rcases List.mem_append.1 hd with hd | hd
    ·exact ⟨d,hd,k⟩
    ·rw [List.mem_singleton.1 hd] at k;exact absurd k hx
 ·rcases List.mem_append.1 hd with hd | hd
  ·rw [atKey_put_other (by have:=hn d hd;simpa using this)]
   exact h.val d hd zd
  ·rw [List.mem_singleton.1 hd,atKey_put_same h.tidy.isMap (zbe _)]
structure Cv (w0 w:World) (c mb rest:Nat) (S:List Edg) (f:Edg->Nat):Prop where
 st:∃v,w.heap[c]? =some (.cells #[.int .i64 (rest:Int),.map (some mb),v] 206)
 mp:∃D N,w.ownsMap prog 3 zb1 mb N D/\Rm D S f/\N=S.length
 ne:c≠mb
 lc:w0.heap.size<=c
 lm:w0.heap.size<=mb
 below:Below w0.heap.size w0 w
section
variable {w0 w w':World} {c mb rest:Nat} {S:List Edg} {f:Edg->Nat}
theorem Cv.below' (h:Cv w0 w c mb rest S f) (hb:Below w.heap.size w w'):Cv w0 w' c mb rest S f:=by
 obtain ⟨v,hv⟩:=h.st;obtain ⟨D,N,h1,h2,h3⟩:=h.mp;exact {h with st:=⟨v,(hb.block c (lt_of_some hv)).trans hv⟩,mp:=⟨D,N,h1.kept (zai hb) (by simp),h2,h3⟩,below:=h.below.trans (hb.mono h.below.size)}
theorem Cv.cell1 (h:Cv w0 w c mb rest S f):w.cell? ⟨c,1,none⟩=some (.map (some mb)):=by
 obtain ⟨v,hv⟩:=h.st;simp [World.cell?,hv]
theorem Cv.more (h:Cv w0 w c mb rest S f) (e:Edg) (hn:∀d∈S,d.1≠e.1) (hw:(Lit.int .i64 e.1).wf=true) (hl:S.length<=1000):
 ∃w2,(Instr.mapUpdate 204 (.map (some mb)) (.int .i64 e.1) (zdp (f e))).run prog w= .ok () w2/\Cv w0 w2 c mb rest (S++[e]) f/\w.grownBy w2 (some mb):=by
 obtain ⟨v,hv⟩:=h.st;obtain ⟨D,N,h1,h2,h3⟩:=h.mp;obtain ⟨w2,r,ho,hg⟩:=h1.update za6 underlying204 (by unfold maxLen;omega) (zdt e.1 hw) (zki (f e));refine ⟨w2,r,{h with st:=⟨v,(hg.block c (lt_of_some hv) (by simp;exact h.ne)).trans hv⟩,mp:=⟨_,_,ho,h2.put e hn,by simp [h3]⟩,below:=h.below.grown hg h.below.size (λ j hj=>by injection hj with hj;have:=h.lm;omega)},hg⟩
end
end Go.Proofs.YtebcjaenhiiflaaGreatDoor.S
namespace Go.Proofs.YtebcjaenhiiflaaGreatDoor.S
open Go.RowKit Go.WideMaps Go.Maps Go.Proofs.Tryz
def zm2 (n:Nat) (t o:List Edg) (e:Edg) (i:Nat):Bool:=if e∈t then zcl n t o e i else decide (o.getD i (0,0,0)=e)
def zay (n:Nat) (t o:List Edg) (e:Edg):Nat:=zaz (zm2 n t o e) o.length
theorem zny {c:Nat->Bool} {k:Nat}:∀{m},k<m->(∀i,i<m->c i=decide (i=k))->zaz c m=2^k
 | 0,h,_=>by omega
 | m+1,h,hc=>by
   simp only [zaz,hc m (by omega)];by_cases e:m=k
   ·subst e
    have:zaz c m=0:=by
     have h2:zaz c m=zaz (λ _=>false) m:=zff (λ i hi=>by rw [hc i (by omega)];exact decide_eq_false (by omega));rw [h2];clear h2 hc h;induction m with
     | zero=>rfl
     | succ m ih=>simp [zaz,ih]
    rw [this];simp
   ·rw [decide_eq_false e,zny (m:=m) (by omega) (λ i hi=>hc i (by omega))];simp
theorem zwv {n:Nat} {t o:List Edg} {k:Nat} {e:Edg} (hnd:o.Nodup) (hk:o[k]? =some e) (hne:e∉t):zay n t o e=2^k:=by
 obtain ⟨hlt,he⟩:=List.getElem?_eq_some_iff.1 hk;refine zny hlt (λ i hi=>?_);unfold zm2;rw [if_neg hne];have h1:o.getD i (0,0,0)=o[i]:=by simp [hi]
 rw [h1,<-he];by_cases e2:i=k
 ·subst e2;simp
 ·rw [decide_eq_false e2,decide_eq_false]
  intro c;exact e2 ((List.getElem_inj hnd).1 c)
theorem zyl {n:Nat} {t o:List Edg} {e:Edg} (he:e∈t):zay n t o e=zaz (zcl n t o e) o.length:=
 zff (λ i _=>by unfold zm2;rw [if_pos he])
theorem take_one {L:List Edg} {k:Nat} {x:Edg} (h:L[k]? =some x):L.take (k+1)=L.take k++[x]:=by
 obtain ⟨hlt,he⟩:=List.getElem?_eq_some_iff.1 h;rw [List.take_succ_eq_append_getElem hlt,he]
theorem zl0 {L:List Edg} {k:Nat} {x:Edg} (hnd:L.Nodup) (h:L[k]? =some x):x∉L.take k:=by
 intro hx;obtain ⟨i,hi⟩:=List.getElem?_of_mem hx;obtain ⟨hil,hie⟩:=List.getElem?_eq_some_iff.1 hi;rw [List.length_take] at hil;rw [List.getElem?_take_of_lt (by omega)] at hi;obtain ⟨h1,h2⟩:=List.getElem?_eq_some_iff.1 hi;obtain ⟨h3,h4⟩:=List.getElem?_eq_some_iff.1 h;have:=(List.getElem_inj hnd).1 (h2.trans h4.symm);omega
structure Ok (n:Nat) (R:List Edg):Prop where
 inn:InE n R
 nd:R.Nodup
 one:∀d∈R,∀e∈R,d.1=e.1->d=e
 wf:∀e∈R,(Lit.int .i64 e.1).wf=true
 len:R.length<=120
 n16:n<=40
theorem Cv.base {w w1 W:World} {c mb rest:Nat} {S:List Edg} {f:Edg->Nat} (h:Cv w1 W c mb rest S f) (hb:Below w.heap.size w w1):Cv w W c mb rest S f:=
 {h with lc:=Nat.le_trans hb.size h.lc,lm:=Nat.le_trans hb.size h.lm,below:=hb.trans (h.below.mono hb.size)}
theorem z7y (n B p:Nat) (v:Value) (R:List Edg) (L3:List Nat) (w:World) (h:G.GAt w B 168 61 p (n:Int) v R) (hok:Ok n R)
 (hun:∀W c mb,Cv w W c mb (grw n R).2.length ((grw n R).2++(grw n R).1) (zay n (grw n R).1 (grw n R).2)->Calls prog 142 #[.pointer (some ⟨c,0,none⟩),.pointer (some ⟨p,0,none⟩)] W λ e w'=>∃q bq,e= .returned (.pointer (some ⟨q,0,none⟩))/\zab w' q bq L3/\W.heap.size<=q/\W.heap.size<=bq/\Below W.heap.size W w'):
 Calls prog 82 #[.pointer (some ⟨p,0,none⟩)] w λ e w'=>∃c mb q bq,e= .returned (.pointer (some ⟨c,0,none⟩))/\Cv w w' c mb (grw n R).2.length ((grw n R).2++(grw n R).1) (zay n (grw n R).1 (grw n R).2)/\w'.heap[c]? =some (.cells #[.int .i64 ((grw n R).2.length:Int),.map (some mb),.pointer (some ⟨q,0,none⟩)] 206)/\zab w' q bq L3:=by
 have HG:=kd (And.intro h hok);have HU:=kd hun;have HGR:Hid (Gr n R (grw n R).1 (grw n R).2):=zi7 R hok.nd hok.inn.nodes;have hn16:=hok.n16;have hlen:=hok.len;clear h hok hun;go_enter func82,ntmps82;go_wp2_with fail;refine (z15 n B p v R w HG.out.1 (by omega) HG.out.2.inn HG.out.2.nd (by omega)).mono ?_;rintro e w1 ⟨vt,vo,B1,rfl,hot,hoo,hB1,hb1⟩;obtain ⟨t,ht⟩:∃t,(grw n R).1=t:=⟨_,rfl⟩;obtain ⟨o,ho⟩:∃o,(grw n R).2=o:=⟨_,rfl⟩;rw [ht,ho] at HU HGR;rw [ht] at hot;rw [ho] at hoo;have HTO:=kd (And.intro ht ho);have HO:Hid (G.zad w1 B1 61 vt t/\G.zad w1 B1 61 vo o/\Below w.heap.size w w1):=⟨hot,hoo,hb1⟩;obtain ⟨mt,hmt⟩:∃mt,t.length=mt:=⟨_,rfl⟩;obtain ⟨mo,hmo⟩:∃mo,o.length=mo:=⟨_,rfl⟩;have HM:=kd (And.intro hmt hmo);have hsum:mt+mo<=120:=by have:=HGR.out.len;omega
 obtain ⟨ta,tc,hvt⟩:=hot.zal;obtain ⟨oa,oc,hvo⟩:=hoo.zal;rw [hmt] at hvt;rw [hmo] at hvo;subst hvt;subst hvo;have hmm:=@run_makeMap prog;have HIO:Hid (InE n o/\InE n t/\o.Nodup/\t.Nodup/\(∀e∈o,e∉t)/\(∀e∈o++t,e∈R)):=⟨HG.out.2.inn.sub (λ e he=>(HGR.out.mem e).2 (.inr he)),HG.out.2.inn.sub (λ e he=>(HGR.out.mem e).2 (.inl he)),HG.out.2.nd.sublist HGR.out.osub,HG.out.2.nd.sublist HGR.out.tsub,λ e he k=>HGR.out.forest.apart e k he,λ e he=>(HGR.out.mem e).2 ((List.mem_append.1 he).symm)⟩;clear ht ho hot hoo hb1 hmt hmo;have HC0:Hid (Cv w1 ((w1.alloc (.map #[] 0)).alloc (.cells #[.int .i64 (mo:Int),.map (some w1.heap.size),.pointer none] 206)) (w1.heap.size+1) w1.heap.size mo (o.take 0) (zay n t o)):=by
  have h1:Below w1.heap.size w1 (w1.alloc (.map #[] 0)):=(Below.refl _ _).alloc (Nat.le_refl _) _;have h2:Below (w1.alloc (.map #[] 0)).heap.size (w1.alloc (.map #[] 0)) ((w1.alloc (.map #[] 0)).alloc (.cells #[.int .i64 (mo:Int),.map (some w1.heap.size),.pointer none] 206)):=(Below.refl _ _).alloc (Nat.le_refl _) _;have h3:=heap_alloc_new (w1.alloc (.map #[] 0)) (.cells #[.int .i64 (mo:Int),.map (some w1.heap.size),.pointer none] 206);rw [World.size_alloc] at h3;exact ⟨⟨_,h3⟩,⟨_,0,(World.ownsMap_made w1 prog 3 zb1).alloc _,Rm.start _,rfl⟩,by omega,by omega,Nat.le_refl _,h1.trans (h2.mono h1.size)⟩
 obtain ⟨mb,hmb⟩:∃mb,w1.heap.size=mb:=⟨_,rfl⟩;go_wp2_with fail;rw [hmb] at HC0;have HMB:=kd hmb;clear hmm hmb;go_loopw [23] (λ s23 wq=>∃k:Nat,k<=mo/\s23= .int .i64 k/\Cv w1 wq (mb+1) mb mo (o.take k) (zay n t o)) (λ s23 _=>mo-(intOf s23).toNat)
 case atStart=>exact ⟨0,Nat.zero_le _,rfl,HC0.out⟩
 case round=>
  clear HC0;obtain ⟨k,hk,rfl,hcv⟩:=hrel;have HC:=kd hcv;clear hcv;by_cases hlt:k<mo
  ·as_aux_lemma=>
   obtain ⟨x0,xa,xb,hx,han,hbn,hxa,hxb⟩:=zf5 HIO.out.1 (by rw [HM.out.2];exact hlt);obtain ⟨g',rfl⟩:=zdo HO.out.2.1 (by rw [HM.out.2];exact hlt);obtain ⟨r0,r1,r2⟩:=(HO.out.2.1.below HC.out.below).at (g:=g') rfl hx;have r0':wr.cell? ⟨g',k*3,none⟩=some (.int .i64 x0):=r0;have r1':wr.cell? ⟨g',k*3+1,none⟩=some (.int .i64 (xa:Int)):=r1;have r2':wr.cell? ⟨g',k*3+2,none⟩=some (.int .i64 (xb:Int)):=r2;have hxm:(x0,(xa:Int),(xb:Int))∈o:=List.mem_of_getElem? hx;have HX:Hid (o[k]? =some (x0,(xa:Int),(xb:Int))/\zay n t o (x0,(xa:Int),(xb:Int))=2^k):=⟨hx,zwv HIO.out.2.2.1 hx (HIO.out.2.2.2.2.1 _ hxm)⟩;have HN:Hid (∀d∈o.take k,d.1≠x0):=λ d hd e=>by
    have:=HG.out.2.one d (HIO.out.2.2.2.2.2 d (List.mem_append_left _ (List.mem_of_mem_take hd))) _ (HIO.out.2.2.2.2.2 _ (List.mem_append_left _ hxm)) e;rw [this] at hd;exact zl0 HIO.out.2.2.1 hx hd
   have hwf:(Lit.int .i64 x0).wf=true:=HG.out.2.wf _ (HIO.out.2.2.2.2.2 _ (List.mem_append_left _ hxm));clear r0 r1 r2 hx hxa hxb hxm;have hring:RingAt ((wr.alloc (.cells #[.int .i64 x0,.int .i64 (xa:Int),.int .i64 (xb:Int)] 61)).alloc (.cells #[.int .u64 0,.int .u64 0] 208)) (wr.heap.size+1) 0:=by
    have:=heap_alloc_new (wr.alloc (.cells #[.int .i64 x0,.int .i64 (xa:Int),.int .i64 (xb:Int)] 61)) (.cells #[.int .u64 0,.int .u64 0] 208);rw [World.size_alloc] at this;exact zg2 this
   have HR:=kd hring;clear hring;go_wp2_with fail;refine (ztw (wr.heap.size+1) k 0 _ HR.out (by omega) (Nat.two_pow_pos k)).mono ?_;rintro e w3 ⟨rfl,hr3,hb3⟩;rw [Nat.zero_add] at hr3;have hbel:Below wr.heap.size wr w3:=(((Below.refl _ _).alloc (Nat.le_refl _) _).alloc (by simp) _).trans (hb3.below (by omega) (by simp;omega));have hbx:w3.heap[wr.heap.size]? =some (.cells #[.int .i64 x0,.int .i64 (xa:Int),.int .i64 (xb:Int)] 61):=by
    rw [hb3.block wr.heap.size (by simp;omega) (by omega),Below.heap_alloc _ _ _ (by simp)];exact heap_alloc_new wr _
   have HC3:Hid (Cv w1 w3.drew (mb+1) mb mo (o.take k) (zay n t o)):=HC.out.below' (hbel.trans ((Below.refl _ _).drew.mono hbel.size));obtain ⟨w4,hup,hcv4,_⟩:=HC3.out.more (x0,(xa:Int),(xb:Int)) HN.out hwf (by rw [List.length_take];omega);rw [HX.out.2] at hup;rw [<-take_one HX.out.1] at hcv4;have HC4:=kd hcv4;have d1:=(HC.out.below' hbel).cell1;have q0:w3.cell? ⟨wr.heap.size,0,none⟩=some (.int .i64 x0):=by simp [World.cell?,hbx]
   have s0:w3.cell? ⟨wr.heap.size+1,0,none⟩=some (.int .u64 (zbh (2^k):Int)):=by simp [World.cell?,hr3]
   have s1:w3.cell? ⟨wr.heap.size+1,1,none⟩=some (.int .u64 (hi64 (2^k):Int)):=by simp [World.cell?,hr3]
   unfold zdp at hup;obtain ⟨Y,hY⟩:∃Y:Nat,zbh (2^k)=Y:=⟨_,rfl⟩;obtain ⟨Z,hZ⟩:∃Z:Nat,hi64 (2^k)=Z:=⟨_,rfl⟩;rw [hY,hZ] at hup;rw [hY] at s0;rw [hZ] at s1;simp only at hup;clear hr3 hb3 hbel hbx HC3 hcv4 HR HC r0' r1' r2' hY hZ;go_upto_region 8 with fail
   go_region
   all_goals
    go_wp2_with fail;go_roundw;case rel=>exact ⟨k+1,by omega,by go_num,HC4.out⟩
    case measure=>simp [intOf];omega
  ·have hke:k=mo:=by omega
   have HC1:Hid (Cv w1 wr (mb+1) mb mo (o++t.take 0) (zay n t o)):=by
    have h2:=HC.out;rw [hke,<-HM.out.2,List.take_length,HM.out.2] at h2;rw [List.take_zero,List.append_nil];exact h2
   clear HC hke;go_wp2_with fail;go_loopw [40] (λ s40 wq=>∃j:Nat,j<=mt/\s40= .int .i64 j/\Cv w1 wq (mb+1) mb mo (o++t.take j) (zay n t o)) (λ s40 _=>mt-(intOf s40).toNat)
   case atStart=>exact ⟨0,Nat.zero_le _,rfl,HC1.out⟩
   case round=>
    clear HC1;obtain ⟨j,hj,rfl,hcv⟩:=hrel;have HC:=kd hcv;clear hcv;by_cases hltj:j<mt
    ·as_aux_lemma=>
     obtain ⟨x0,xa,xb,hx,han,hbn,hxa,hxb⟩:=zf5 HIO.out.2.1 (by rw [HM.out.1];exact hltj);obtain ⟨g',rfl⟩:=zdo HO.out.1 (by rw [HM.out.1];exact hltj);obtain ⟨r0,r1,r2⟩:=(HO.out.1.below HC.out.below).at (g:=g') rfl hx;have r0':wr.cell? ⟨g',j*3,none⟩=some (.int .i64 x0):=r0;have r1':wr.cell? ⟨g',j*3+1,none⟩=some (.int .i64 (xa:Int)):=r1;have r2':wr.cell? ⟨g',j*3+2,none⟩=some (.int .i64 (xb:Int)):=r2;have hxm:(x0,(xa:Int),(xb:Int))∈t:=List.mem_of_getElem? hx;have hwf:(Lit.int .i64 x0).wf=true:=HG.out.2.wf _ (HIO.out.2.2.2.2.2 _ (List.mem_append_right _ hxm));have HN:Hid (∀d∈o++t.take j,d.1≠x0):=λ d hd e=>by
      have hdR:d∈R:=HIO.out.2.2.2.2.2 d (by
       rcases List.mem_append.1 hd with h1 | h1
       ·exact List.mem_append_left _ h1
       ·exact List.mem_append_right _ (List.mem_of_mem_take h1))
      have:=HG.out.2.one d hdR _ (HIO.out.2.2.2.2.2 _ (List.mem_append_right _ hxm)) e;rw [this] at hd;rcases List.mem_append.1 hd with h1 | h1
      ·exact HIO.out.2.2.2.2.1 _ h1 hxm
      ·exact zl0 HIO.out.2.2.2.1 hx h1
     have hbel:Below wr.heap.size wr ((wr.alloc (.cells #[.int .i64 x0,.int .i64 (xa:Int),.int .i64 (xb:Int)] 61)).drew):=((Below.refl _ _).alloc (Nat.le_refl _) _).drew;have HC2:Hid (Cv w1 ((wr.alloc (.cells #[.int .i64 x0,.int .i64 (xa:Int),.int .i64 (xb:Int)] 61)).drew) (mb+1) mb mo (o++t.take j) (zay n t o)):=HC.out.below' hbel;have HT:Hid (Calls prog 141 #[.int .i64 (n:Int),.slice (some ⟨g',0,none⟩) mt tc,.agg #[.int .i64 x0,.int .i64 (xa:Int),.int .i64 (xb:Int)],.slice oa mo oc] ((wr.alloc (.cells #[.int .i64 x0,.int .i64 (xa:Int),.int .i64 (xb:Int)] 61)).drew) λ e w'=>∃X Y W2,e= .returned (.agg #[.int .u64 (X:Int),.int .u64 (Y:Int)])/\(w'.cell? ⟨mb+1,1,none⟩=some (.map (some mb))/\w'.cell? ⟨wr.heap.size,0,none⟩=some (.int .i64 x0)/\w'.cell? ⟨wr.heap.size,1,none⟩=some (.int .i64 (xa:Int))/\w'.cell? ⟨wr.heap.size,2,none⟩=some (.int .i64 (xb:Int)))/\(Instr.mapUpdate 204 (.map (some mb)) (.int .i64 x0) (.agg #[.int .u64 (X:Int),.int .u64 (Y:Int)])).run prog w'= .ok () W2/\(W2.cell? ⟨mb+1,1,none⟩=some (.map (some mb))/\W2.cell? ⟨wr.heap.size,0,none⟩=some (.int .i64 x0)/\W2.cell? ⟨wr.heap.size,1,none⟩=some (.int .i64 (xa:Int))/\W2.cell? ⟨wr.heap.size,2,none⟩=some (.int .i64 (xb:Int)))/\Hid (Cv w1 W2 (mb+1) mb mo (o++t.take (j+1)) (zay n t o))):=by
      have hq0:((wr.alloc (.cells #[.int .i64 x0,.int .i64 (xa:Int),.int .i64 (xb:Int)] 61)).drew).cell? ⟨wr.heap.size,0,none⟩=some (.int .i64 x0):=by simp
      have hq1:((wr.alloc (.cells #[.int .i64 x0,.int .i64 (xa:Int),.int .i64 (xb:Int)] 61)).drew).cell? ⟨wr.heap.size,1,none⟩=some (.int .i64 (xa:Int)):=by simp
      have hq2:((wr.alloc (.cells #[.int .i64 x0,.int .i64 (xa:Int),.int .i64 (xb:Int)] 61)).drew).cell? ⟨wr.heap.size,2,none⟩=some (.int .i64 (xb:Int)):=by simp
      have hmbl:mb<wr.heap.size:=by
       obtain ⟨D,N,h1,_,_⟩:=HC.out.mp;obtain ⟨es,clock,h1,_⟩:=h1;exact lt_of_some h1
      refine (zsx n B1 B1 _ _ t o (x0,(xa:Int),(xb:Int)) _ (HO.out.1.below HC2.out.below) (HO.out.2.1.below HC2.out.below) HIO.out.2.1 HIO.out.1 hxm (by omega) (by rw [HM.out.1];omega) (by rw [HM.out.2];omega)).mono ?_;rintro e w' ⟨rfl,hb'⟩;have HC3:=HC2.out.below' hb';obtain ⟨W2,hup,hcv2,hgr⟩:=HC3.more (x0,(xa:Int),(xb:Int)) HN.out hwf (by rw [List.length_append,List.length_take,HM.out.2];omega);rw [zyl hxm] at hup;rw [List.append_assoc,<-take_one hx] at hcv2;have k0:=cell_below hq0 hb';have k1:=cell_below hq1 hb';have k2:=cell_below hq2 hb';have kg:∀{i:Nat} {u:Value},w'.cell? ⟨wr.heap.size,i,none⟩=some u->W2.cell? ⟨wr.heap.size,i,none⟩=some u:=λ {i u} hk=>by
       have hl:=lt_of_cell hk;simp only [World.cell?] at hk ⊢;rw [hgr.block wr.heap.size hl (by simp;omega)];exact hk
      exact ⟨_,_,W2,rfl,⟨HC3.cell1,k0,k1,k2⟩,hup,⟨hcv2.cell1,kg k0,kg k1,kg k2⟩,hcv2⟩
     have HG2:Hid (G.GAt ((wr.alloc (.cells #[.int .i64 x0,.int .i64 (xa:Int),.int .i64 (xb:Int)] 61)).drew) B 168 61 p (n:Int) v R):=(HG.out.1.below HO.out.2.2).below HC2.out.below;have hS0:(((wr.alloc (.cells #[.int .i64 x0,.int .i64 (xa:Int),.int .i64 (xb:Int)] 61)).drew).cell? ⟨mb+1,1,none⟩=some (.map (some mb))/\((wr.alloc (.cells #[.int .i64 x0,.int .i64 (xa:Int),.int .i64 (xb:Int)] 61)).drew).cell? ⟨wr.heap.size,0,none⟩=some (.int .i64 x0)/\((wr.alloc (.cells #[.int .i64 x0,.int .i64 (xa:Int),.int .i64 (xb:Int)] 61)).drew).cell? ⟨wr.heap.size,1,none⟩=some (.int .i64 (xa:Int))/\((wr.alloc (.cells #[.int .i64 x0,.int .i64 (xa:Int),.int .i64 (xb:Int)] 61)).drew).cell? ⟨wr.heap.size,2,none⟩=some (.int .i64 (xb:Int))):=⟨HC2.out.cell1,by simp,by simp,by simp⟩;clear r0 r1 r2 hx hxa hxb hxm hbel HC2 HC HN;go_upto_region 13 with fail
     clear r0' r1' r2';go_region_held (λ w'=>(w'.cell? ⟨mb+1,1,none⟩=some (.map (some mb))/\w'.cell? ⟨wr.heap.size,0,none⟩=some (.int .i64 x0)/\w'.cell? ⟨wr.heap.size,1,none⟩=some (.int .i64 (xa:Int))/\w'.cell? ⟨wr.heap.size,2,none⟩=some (.int .i64 (xb:Int)))) (with_reducible assumption)
      (first
      | (go_at_call 52;refine (G.zbb (n:Int) B p v R _ HG2.out).mono ?_;rintro e w' ⟨rfl,rfl⟩)
      | (go_at_call 141;refine HT.out.mono ?_;rintro e w' ⟨X,Y,W2,rfl,hS1,hup,hS2,hcv2⟩))
     all_goals
      go_wp2_with fail;go_roundw;case rel=>exact ⟨j+1,by omega,by go_num,hcv2.out⟩
      case measure=>simp [intOf];omega
    ·as_aux_lemma=>
     have HC1:Hid (Cv w wr (mb+1) mb mo (o++t) (zay n t o)):=by
      have hje:j=mt:=by omega
      have h2:=HC.out;rw [hje,<-HM.out.1,List.take_length] at h2;exact h2.base HO.out.2.2
     have HUN:Hid _:=HU.out wr (mb+1) mb (by rw [HM.out.2];exact HC1.out);clear HC;go_wp2_with fail;refine Calls.mono HUN.out ?_;rintro e w5 ⟨q,bq,rfl,hs5,hq5,hbq5,hb5⟩;have HC5:Hid (Cv w w5 (mb+1) mb mo (o++t) (zay n t o)):=HC1.out.below' hb5;obtain ⟨u2,hst⟩:=HC5.out.st;have k2:w5.cell? ⟨mb+1,2,none⟩=some u2:=by simp [World.cell?,hst]
     have f2:w5.frozen? ⟨mb+1,2,none⟩=false:=by simp [World.frozen?,hst]
     have hcl:mb+1<wr.heap.size:=by obtain ⟨u,hu⟩:=HC1.out.st;exact lt_of_some hu
     have HF:Hid (Cv w (w5.setCell ⟨mb+1,2,none⟩ (.pointer (some ⟨q,0,none⟩))) (mb+1) mb mo (o++t) (zay n t o)/\(w5.setCell ⟨mb+1,2,none⟩ (.pointer (some ⟨q,0,none⟩))).heap[mb+1]? =some (.cells #[.int .i64 (mo:Int),.map (some mb),.pointer (some ⟨q,0,none⟩)] 206)/\zab (w5.setCell ⟨mb+1,2,none⟩ (.pointer (some ⟨q,0,none⟩))) q bq L3):=by
      have hnew:(w5.setCell ⟨mb+1,2,none⟩ (.pointer (some ⟨q,0,none⟩))).heap[mb+1]? =some (.cells #[.int .i64 (mo:Int),.map (some mb),.pointer (some ⟨q,0,none⟩)] 206):=by
       simp only [World.setCell,Array.getElem?_modify,hst];simp
      have hg:w5.grownBy (w5.setCell ⟨mb+1,2,none⟩ (.pointer (some ⟨q,0,none⟩))) (some (mb+1)):=⟨rfl,rfl,rfl,by simp,λ k _ hne=>Below.heap_setCell _ _ _ _ (λ e=>hne (by rw [e]))⟩;obtain ⟨D,N,h1,h2,h3⟩:=HC5.out.mp;refine ⟨{HC5.out with st:=⟨_,hnew⟩,mp:=⟨D,N,h1.kept hg (by simp),h2,h3⟩,below:=HC5.out.below.grown hg HC5.out.below.size (λ j hj=>by injection hj with hj;have:=HC5.out.lc;omega)},hnew,?_⟩;exact ⟨(Below.heap_setCell _ _ _ _ (show q≠mb+1 by omega)).trans hs5.hp,(Below.heap_setCell _ _ _ _ (show bq≠mb+1 by omega)).trans hs5.hb⟩
     clear hst hs5 hb5 HC5 HUN;go_wp2_with fail;go_ret;refine ⟨mb+1,mb,q,bq,rfl,?_,?_,HF.out.2.2⟩
     ·rw [HTO.out.1,HTO.out.2,HM.out.2];exact HF.out.1
     ·rw [HTO.out.2,HM.out.2];exact HF.out.2.1
theorem ztr (w:World):(zeroValue 208).run prog w= .ok (zdp 0) w:=by kernel_rfl
theorem znr {v:Value} {x:Nat} {ps:List MemPlace} (h:zb1 v=some (zjl x,ps)):v=zdp x:=by
 obtain ⟨c,rfl,hy⟩:=zie h;have h1:=congrArg Prod.fst hy;simp only [zjl,DataW.agg.injEq,List.cons.injEq,DataW.lit.injEq,Lit.int.injEq,true_and,and_true] at h1;obtain ⟨h2,h3⟩:=h1;rw [<-h2,<-h3];rfl
structure Co (w:World) (c mb rest:Nat) (S:List Edg) (f:Edg->Nat):Prop where
 st:∃v,w.heap[c]? =some (.cells #[.int .i64 (rest:Int),.map (some mb),v] 206)
 mp:∃D N,w.ownsMap prog 3 zb1 mb N D/\Rm D S f
theorem Cv.co {w0 w:World} {c mb rest:Nat} {S:List Edg} {f:Edg->Nat} (h:Cv w0 w c mb rest S f):Co w c mb rest S f:=by
 obtain ⟨D,N,h1,h2,_⟩:=h.mp;exact ⟨h.st,D,N,h1,h2⟩
section
variable {w w':World} {c mb rest:Nat} {S:List Edg} {f:Edg->Nat}
theorem Co.below (h:Co w c mb rest S f) (hb:Below w.heap.size w w'):Co w' c mb rest S f:=by
 obtain ⟨v,hv⟩:=h.st;obtain ⟨D,N,h1,h2⟩:=h.mp;exact ⟨⟨v,(hb.block c (lt_of_some hv)).trans hv⟩,D,N,h1.kept (zai hb) (by simp),h2⟩
theorem Co.cell1 (h:Co w c mb rest S f):w.cell? ⟨c,1,none⟩=some (.map (some mb)):=by
 obtain ⟨v,hv⟩:=h.st;simp [World.cell?,hv]
theorem Co.zmm (h:Co w c mb rest S f) {e:Edg} (he:e∈S) (hw:(Lit.int .i64 e.1).wf=true):
 (Instr.lookup 204 (.map (some mb)) (.int .i64 e.1) true).run prog w= .ok (.tuple #[zdp (f e),.bool true]) w/\(Instr.lookup 204 (.map (some mb)) (.int .i64 e.1) false).run prog w= .ok (zdp (f e)) w:=by
 obtain ⟨D,N,h1,h2⟩:=h.mp;have hh:Maps.has D (.int .i64 e.1)=true:=(h2.key _).2 ⟨e,he,rfl⟩;obtain ⟨v,ps,r1,r2⟩:=h1.look_ok za6 underlying204 (ztr w) (zki 0) (zdt e.1 hw);obtain ⟨v',ps',q1,q2⟩:=h1.lookup za6 underlying204 (ztr w) (zki 0) (zdt e.1 hw);rw [h2.val e he] at r2 q2;rw [r1,q1,hh,znr r2,znr q2];exact ⟨rfl,rfl⟩
end
theorem z4t (a b c d:Int) (w:World):(Op.equalIn 10000 208 (.agg #[.int .u64 a,.int .u64 b]) (.agg #[.int .u64 c,.int .u64 d])).run prog w= .ok (a==c&&b==d) w:=by
 have u3:=underlying132;have a3:=isAgg132;have z3:=sizeOf132;rw [show (10000:Nat)=9999+1 from rfl,Op.equalIn];simp only [Sem.run_bind,run_underlying underlying208,Result.andThen_ok];simp only [Std.Legacy.Range.forIn_eq_forIn_range',Std.Legacy.Range.size,Nat.sub_zero,Nat.add_sub_cancel,Nat.div_one,List.range'_succ,List.range'_zero,List.forIn_cons,List.forIn_nil];go_simp;by_cases h1:a=c <;> by_cases h2:b=d <;> simp [h1,h2]
end Go.Proofs.YtebcjaenhiiflaaGreatDoor.S
namespace Go.Proofs.YtebcjaenhiiflaaGreatDoor.G
open Go.RowKit Go.Proofs.Tryz
theorem z0f (a:Option Addr) (m cap:Nat) (F:Nat->Int) (x:Int) (w:World) (h:Ints w a m F) (hm:m<=1000):
 Calls prog 361 #[.slice a m cap,.int .i64 x] w λ e w'=>∃r:Int,e= .returned (.int .i64 r)/\decide (0<=r)=among F m x/\w'=w:=by
 have HI:=kd h;clear h;go_enter func361,ntmps361;go_wp2_with fail;go_loopg [5,8] m (λ r _ s8 wq=>∃k:Nat,s8= .int .i64 k/\k+r=m/\(∀t,t<k->F t≠x)/\wq=w)
 case atStart=>exact ⟨0,rfl,by omega,λ t ht=>by omega,rfl⟩
 case round=>
  obtain ⟨k,rfl,hk,hno,rfl⟩:=hrel;by_cases hlt:k<m
  ·obtain ⟨bl,off,ha,hc⟩:=HI.out.some_ (by omega)
   have c:=hc k hlt;subst ha;clear hc;by_cases hy:x=F k
   ·as_aux_lemma=>
    have HA:Hid (decide (0<=(k:Int))=among F m x):=by
     show decide (0<=(k:Int))=among F m x;rw [zi2 hlt hy.symm];simp
    clear hno;generalize F k=y at*;subst hy;go_wp2_with fail;go_ret;exact ⟨k,rfl,HA.out,rfl⟩
   ·as_aux_lemma=>
    have HN:Hid (∀t,t<k+1->F t≠x):=by
     intro t ht;rcases Nat.lt_succ_iff_lt_or_eq.1 ht with h | h
     ·exact hno t h
     ·subst h;exact λ e=>hy e.symm
    clear hno;generalize F k=y at*;have hyb:(x==y)=false:=beq_eq_false_iff_ne.2 hy;clear hy;go_wp2_with fail;go_roundg (gk-1);case measure=>omega
    case rel=>exact ⟨k+1,by go_num,by omega,HN.out,rfl⟩
  ·have hke:m=k:=by omega
   have HA:Hid (decide (0<=(-1:Int))=among F m x):=by
    show decide (0<=(-1:Int))=among F m x;rw [zh2 (λ t ht=>hno t (by omega))];rfl
   clear hno;go_wp2_with fail;go_ret;exact ⟨-1,rfl,HA.out,rfl⟩
theorem zcr (a:Option Addr) (m cap:Nat) (F:Nat->Int) (x:Int) (ok:Bool) (w:World) (h:Ints w a m F) (hm:m<=1000) (hok:among F m x=ok):
 Calls prog 324 #[.slice a m cap,.int .i64 x] w λ e w'=>e= .returned (.bool ok)/\w'=w:=by
 have HI:=kd h;have HO:=kd hok;clear h hok;go_enter func324,ntmps324;go_wp2_with fail;refine (z0f a m cap F x w HI.out hm).mono ?_;rintro e w' ⟨r,rfl,hr,rfl⟩;have HR:Hid (decide (0<=r)=ok):=hr.trans HO.out;clear hr;go_wp2_with fail;go_ret;exact ⟨by rw [<-HR.out];rfl,rfl⟩
theorem z7z (x0 x1 x2 y:Int) (xb:Nat) (ok:Bool) (w:World) (hc:w.cell? ⟨xb,0,none⟩=some (.int .i64 y)) (hok:(x1==y || x2==y)=ok):
 Calls prog 321 #[.agg #[.int .i64 x0,.int .i64 x1,.int .i64 x2],.pointer (some ⟨xb,0,none⟩)] w λ e w'=>e= .returned (.bool ok)/\Below w.heap.size w w':=by
 have hlt:xb<w.heap.size:=lt_of_cell hc;by_cases h1:x1=y
 ·have HO:Hid (ok=true):=by
   show ok=true;rw [<-hok,h1];simp
  clear hok;subst h1;go_enter func321,ntmps321;go_wp2;go_ret;exact ⟨by rw [HO.out];rfl,zat _ _⟩
 ·have h1b:(x1==y)=false:=beq_eq_false_iff_ne.2 h1
  by_cases h2:x2=y
  ·have HO:Hid (ok=true):=by
    show ok=true;rw [<-hok,h2];simp
   clear hok h1;subst h2;go_enter func321,ntmps321;go_wp2;go_ret;exact ⟨by rw [HO.out];rfl,zat _ _⟩
  ·have h2b:(x2==y)=false:=beq_eq_false_iff_ne.2 h2
   have HO:Hid (ok=false):=by
    show ok=false;rw [<-hok,h1b,h2b];rfl
   clear hok h1 h2;go_enter func321,ntmps321;go_wp2;go_ret;exact ⟨by rw [HO.out];rfl,zat _ _⟩
theorem z7n (x0 x1 x2:Int) (eb nb:Nat) (ae an:Option Addr) (me mn ce cn:Nat) (Fe Fn:Nat->Int) (ok:Bool) (w:World) (he:w.cell? ⟨eb,0,none⟩=some (.slice ae me ce)) (hn:w.cell? ⟨nb,0,none⟩=some (.slice an mn cn))
 (hie:Ints w ae me Fe) (hin:Ints w an mn Fn) (hme:me<=1000) (hmn:mn<=1000) (hok:(!among Fe me x0&&!among Fn mn x1&&!among Fn mn x2)=ok):
 Calls prog 323 #[.agg #[.int .i64 x0,.int .i64 x1,.int .i64 x2],.pointer (some ⟨eb,0,none⟩),.pointer (some ⟨nb,0,none⟩)] w λ e w'=>e= .returned (.bool ok)/\Below w.heap.size w w':=by
 have hlt:eb<w.heap.size:=lt_of_cell he;have hlt2:nb<w.heap.size:=lt_of_cell hn;have HE:Hid (∀o,Ints (w.alloc o) ae me Fe):=λ o=>hie.below (zat w o)
 have HN:Hid (∀o,Ints (w.alloc o) an mn Fn):=λ o=>hin.below (zat w o)
 clear hie hin;cases hc1:among Fe me x0 with
 | true=>
   have HC1:=kd hc1;have HO:Hid (ok=false):=by
    show ok=false;rw [<-hok,hc1];rfl
   clear hok hc1;go_enter func323,ntmps323;go_wp2_with fail;refine (zcr ae me ce Fe x0 true _ (HE.out _) hme HC1.out).mono ?_;rintro e w1 ⟨rfl,rfl⟩;go_wp2_with fail;go_ret;exact ⟨by rw [HO.out];rfl,zat _ _⟩
 | false=>
   have HC1:=kd hc1;rw [hc1] at hok;clear hc1;cases hc2:among Fn mn x1 with
   | true=>
     have HC2:=kd hc2;have HO:Hid (ok=false):=by
      show ok=false;rw [<-hok,hc2];rfl
     clear hok hc2;go_enter func323,ntmps323;go_wp2_with fail;refine (zcr ae me ce Fe x0 false _ (HE.out _) hme HC1.out).mono ?_;rintro e w1 ⟨rfl,rfl⟩;go_wp2_with fail;refine (zcr an mn cn Fn x1 true _ (HN.out _) hmn HC2.out).mono ?_;rintro e w1 ⟨rfl,rfl⟩;go_wp2_with fail;go_ret;exact ⟨by rw [HO.out];rfl,zat _ _⟩
   | false=>
     have HC2:=kd hc2;rw [hc2] at hok;clear hc2;have HC3:Hid (among Fn mn x2=!ok):=by
      show among Fn mn x2=!ok;rw [<-hok];simp
     clear hok;go_enter func323,ntmps323;go_wp2_with fail;refine (zcr ae me ce Fe x0 false _ (HE.out _) hme HC1.out).mono ?_;rintro e w1 ⟨rfl,rfl⟩;go_wp2_with fail;refine (zcr an mn cn Fn x1 false _ (HN.out _) hmn HC2.out).mono ?_;rintro e w1 ⟨rfl,rfl⟩;go_wp2_with fail;refine (zcr an mn cn Fn x2 (!ok) _ (HN.out _) hmn HC3.out).mono ?_;rintro e w1 ⟨rfl,rfl⟩;cases ok
     ·go_wp2_with fail
      go_ret;exact ⟨rfl,zat _ _⟩
     ·go_wp2_with fail
      go_ret;exact ⟨rfl,zat _ _⟩
theorem z3l (pf:E->Bool) (n:Int) (B p:Nat) (xb:Nat) (v:Value) (L:List E) (w:World) (h:GAt w B 168 61 p n v L) (hl:L.length<=120)
 (hf:∀W x0 x1 x2,Below w.heap.size w W->Calls prog 321 #[.agg #[.int .i64 x0,.int .i64 x1,.int .i64 x2],.pointer (some ⟨xb,0,none⟩)] W λ e w'=>e= .returned (.bool (pf (x0,x1,x2)))/\Below W.heap.size W w'):
 Calls prog 105 #[.pointer (some ⟨p,0,none⟩),.func (.func 321) #[] #[.pointer (some ⟨xb,0,none⟩)]] w λ e w'=>∃u,e= .returned u/\zad w' w.heap.size 61 u (L.filter pf)/\Below w.heap.size w w':=zil 321 _ (.inr (.inl ⟨xb,rfl,rfl⟩)) pf n B p v L w h hl hf
theorem z1n (pf:E->Bool) (n:Int) (B p:Nat) (eb nb:Nat) (v:Value) (L:List E) (w:World) (h:GAt w B 168 61 p n v L) (hl:L.length<=120)
 (hf:∀W x0 x1 x2,Below w.heap.size w W->Calls prog 323 #[.agg #[.int .i64 x0,.int .i64 x1,.int .i64 x2],.pointer (some ⟨eb,0,none⟩),.pointer (some ⟨nb,0,none⟩)] W λ e w'=>e= .returned (.bool (pf (x0,x1,x2)))/\Below W.heap.size W w'):
 Calls prog 105 #[.pointer (some ⟨p,0,none⟩),.func (.func 323) #[] #[.pointer (some ⟨eb,0,none⟩),.pointer (some ⟨nb,0,none⟩)]] w λ e w'=>∃u,e= .returned u/\zad w' w.heap.size 61 u (L.filter pf)/\Below w.heap.size w w':=zil 323 _ (.inr (.inr ⟨eb,nb,rfl,rfl⟩)) pf n B p v L w h hl hf
def zg7 (x:Int):E->Bool:=λ e=>e.2.1==x || e.2.2==x
theorem yabr (x n:Int) (B p:Nat) (v:Value) (L:List E) (w:World) (h:GAt w B 168 61 p n v L) (hl:L.length<=120) (hx:0<=x/\x<n):
 Calls prog 245 #[.pointer (some ⟨p,0,none⟩),.int .i64 x] w λ e w'=>∃u,e= .returned (.tuple #[u,.nilIface])/\zad w' w.heap.size 61 u (L.filter (zg7 x))/\Below w.heap.size w w':=by
 have hb0:=zat w (.cells #[.int .i64 x] 3);have HC:Hid (Calls prog 116 #[.pointer (some ⟨p,0,none⟩),.int .i64 x] (w.alloc (.cells #[.int .i64 x] 3)) λ e w'=>e= .returned (.bool true)/\w'=w.alloc (.cells #[.int .i64 x] 3)):=zd2 x n B p v L _ (h.below hb0) hx;have HD:Hid (Calls prog 105 #[.pointer (some ⟨p,0,none⟩),.func (.func 321) #[] #[.pointer (some ⟨w.heap.size,0,none⟩)]] (w.alloc (.cells #[.int .i64 x] 3)) λ e w'=>∃u,e= .returned u/\zad w' w.heap.size 61 u (L.filter (zg7 x))/\Below w.heap.size w w'):=by
  have hc:(w.alloc (.cells #[.int .i64 x] 3)).cell? ⟨w.heap.size,0,none⟩=some (.int .i64 x):=by rw [World.cell?_alloc_at _ _ _ _ rfl];rfl
  have:=z3l (zg7 x) n B p w.heap.size v L _ (h.below hb0) hl (λ W x0 x1 x2 hb=>z7z x0 x1 x2 x w.heap.size _ W ((hb.cell (p:=⟨w.heap.size,0,none⟩) (by simp)).trans hc) rfl);refine this.mono ?_;rintro e w' ⟨u,he,ho,hb⟩;exact ⟨u,he,ho.mono (by simp),hb0.trans (hb.mono (by simp))⟩
 clear h hx hb0;go_enter func245,ntmps245;go_wp2_with fail;refine HC.out.mono ?_;rintro e w1 ⟨rfl,hw⟩;have HW:=kd hw;clear hw HC;go_wp2_with fail;rw [HW.out];refine HD.out.mono ?_;rintro e w2 ⟨u,rfl,ho,hb⟩;have HR:=kd (And.intro ho hb);clear ho hb HD HW;go_wp2_with fail;go_ret2;exact ⟨_,rfl,HR.out⟩
theorem zjy (n:Int) (B p:Nat) (v:Value) (L:List E) (ae an:Option Addr) (me mn ce cn:Nat) (Fe Fn:Nat->Int) (w:World) (h:GAt w B 168 61 p n v L) (hl:L.length<=120) (hie:Ints w ae me Fe) (hin:Ints w an mn Fn) (hme:me<=1000) (hmn:mn<=1000):
 Calls prog 257 #[.pointer (some ⟨p,0,none⟩),.slice ae me ce,.slice an mn cn] w λ e w'=>∃p' v',e= .returned (.pointer (some ⟨p',0,none⟩))/\GAt w' w.heap.size 168 61 p' n v' (L.filter (stays Fe Fn me mn))/\Below w.heap.size w w':=by
 obtain ⟨W0,hW0⟩:∃W0,W0=(w.alloc (.cells #[.slice ae me ce] 48)).alloc (.cells #[.slice an mn cn] 48):=⟨_,rfl⟩;have hb0:Below w.heap.size w W0:=by rw [hW0];exact ((Below.refl _ _).alloc (Nat.le_refl _) _).alloc (by simp) _
 have hs0:W0.heap.size=w.heap.size+1+1:=by rw [hW0];simp
 have he0:W0.cell? ⟨w.heap.size,0,none⟩=some (.slice ae me ce):=by
  rw [hW0,World.cell?_alloc_lt _ _ ⟨w.heap.size,0,none⟩ (by simp),World.cell?_alloc_at _ _ _ _ rfl];rfl
 have hn0:W0.cell? ⟨w.heap.size+1,0,none⟩=some (.slice an mn cn):=by
  rw [hW0,World.cell?_alloc_at _ _ _ _ (by simp)];rfl
 have hg0:=h.below hb0;have hc0:=hg0.c0;have HD:Hid (Calls prog 105 #[.pointer (some ⟨p,0,none⟩),.func (.func 323) #[] #[.pointer (some ⟨w.heap.size,0,none⟩),.pointer (some ⟨w.heap.size+1,0,none⟩)]] W0.drew λ e w'=>∃a m c,e= .returned (.slice a m c)/\w'.cell? ⟨p,0,none⟩=some (.int .i64 n)/\Hid (zad w' w.heap.size 61 (.slice a m c) (L.filter (stays Fe Fn me mn))/\Below w.heap.size w w')):=by
  have hbd:Below W0.heap.size W0 W0.drew:=⟨rfl,rfl,rfl,Nat.le_refl _,λ _ _=>rfl⟩;have hbd2:Below w.heap.size w W0.drew:=hb0.trans (hbd.mono hb0.size);have:=z1n (stays Fe Fn me mn) n B p w.heap.size (w.heap.size+1) v L W0.drew (hg0.below hbd) hl (λ W x0 x1 x2 hb=>by
   have hbW:Below w.heap.size w W:=hbd2.trans (hb.mono (by show w.heap.size<=W0.heap.size;omega));exact z7n x0 x1 x2 w.heap.size (w.heap.size+1) ae an me mn ce cn Fe Fn _ W ((hb.cell (p:=⟨w.heap.size,0,none⟩) (by show w.heap.size<W0.heap.size;omega)).trans he0) ((hb.cell (p:=⟨w.heap.size+1,0,none⟩) (by show w.heap.size+1<W0.heap.size;omega)).trans hn0) (hie.below hbW) (hin.below hbW) hme hmn rfl)
  refine this.mono ?_;rintro e w' ⟨u,he,ho,hb⟩;obtain ⟨a,m,c,rfl⟩:=ho.slice;exact ⟨a,m,c,he,(hb.cell (p:=⟨p,0,none⟩) (hg0.below hbd).plt).trans hc0,ho.mono (by show w.heap.size<=W0.heap.size;omega),hbd2.trans (hb.mono (by show w.heap.size<=W0.heap.size;omega))⟩
 have HW0:=kd hW0;have hplt:=h.plt;clear hW0 hb0 hs0 he0 hn0 hg0 h hie hin;go_enter func257,ntmps257;go_wp2_with fail;rw [<-HW0.out];go_region_held (λ w'=>w'.cell? ⟨p,0,none⟩=some (.int .i64 n)) (go_keep) (first | (go_at_call 105;refine HD.out.mono ?_;rintro e w2 ⟨a',m',c',rfl,hq,hr⟩))
 all_goals
  go_wp2_with fail;go_ret;refine ⟨_,_,rfl,⟨heap_alloc_new _ _,hr.out.1.below (zat _ _),?_⟩,hr.out.2.trans ((zat _ _).mono hr.out.2.size)⟩;intro e;have:=(World.ownsRow.lt hr.out.1 _ e).2;omega
end Go.Proofs.YtebcjaenhiiflaaGreatDoor.G
namespace Go.Proofs.YtebcjaenhiiflaaGreatDoor.S
open Go.RowKit Go.WideMaps Go.Maps
structure Ed (n i:Nat) (L:List (Int × Int × Int)):Prop where
 up:G.Up L
 ids:∀e∈L,0<=e.1/\e.1<=1099511627776
 ends:∀e∈L,∃x y:Nat,x<y/\y<n/\e=(e.1,(x:Int),(y:Int))
 len:L.length<=i
theorem zar {x:Int} (h0:0<=x) (h1:x<=1099511627776):(Lit.int .i64 x).wf=true:=WalkArith.wf_i64 (by omega)
theorem below_kept' {w0 w w':World} {q:Nat} {o:Option Nat} (h:Below w0.heap.size w0 w) (k:G.Kept q o w w') (h1:w0.heap.size<=q) (h2:∀j,o=some j->w0.heap.size<=j):Below w0.heap.size w0 w':=
 ⟨k.os.trans h.os,k.tape.trans h.tape,k.output.trans h.output,Nat.le_trans h.size k.size,λ j hj=>(k.block j (Nat.lt_of_lt_of_le hj h.size) (by omega) (λ e=>by have:=h2 j e.symm;omega)).trans (h.block j hj)⟩
theorem Ed.mono {n i j:Nat} {L:List (Int × Int × Int)} (h:Ed n i L) (hij:i<=j):Ed n j L:=
 ⟨h.up,λ e he=>by have:=h.ids e he;omega,h.ends,by have:=h.len;omega⟩
theorem zla {n:Nat} {A B:List Nat} (ha:A.length=n) (hb:B.length=n) (h:∀i,i<n->A.getD i 0=B.getD i 0):A=B:=by
 apply List.ext_getElem
 ·omega
 ·intro i h1 h2
  have:=h i (by omega)
  simpa [h1,h2] using this
variable {n:Nat} {R B:List (Int × Int × Int)} {W T:List Nat}
theorem zmb {L M:List Nat} (g:Good n L) (h:Good n M) (e:∀u v,Lk n L u v↔Lk n M u v):L=M:=by
 have key:∀{L M:List Nat},Good n L->Good n M->(∀u v,Lk n L u v↔Lk n M u v)->∀i,i<n->M.getD i 0<=L.getD i 0:=by
  intro L M g h e i hi;have hl:L.getD i 0<n:=Nat.lt_of_le_of_lt (g.le i hi) hi;have h1:Lk n L (L.getD i 0) i:=(Lk.iff hl hi).2 (g.idem i hi);have h2:=(Lk.iff hl hi).1 ((e _ _).1 h1);rw [<-h2];exact h.le _ hl
 refine zla g.len h.len (λ i hi=>?_);have h1:=key g h e i hi;have h2:=key h g (λ u v=>(e u v).symm) i hi;omega
def brs (R B:List (Int × Int × Int)):List (Int × Int × Int):=R.filter λ e=>decide (e∈B)
theorem zt2 (s:St n R W T B) (e:Int × Int × Int):e∈brs R B↔brR R e:=by
 unfold brs;rw [List.mem_filter,decide_eq_true_eq,s.hB];exact ⟨λ h=>h.2,λ h=>⟨h.1,h⟩⟩
def Unl (R:List (Int × Int × Int)):Prop:=R.Pairwise λ x y=>x.1≠y.1
theorem zgx (h:Unl R):(zav R B).Nodup:=by
 unfold zav;rw [List.Nodup,List.pairwise_map];exact List.Pairwise.filter _ h
def ups (R B:List (Int × Int × Int)):List Int:=(zav R B).mergeSort λ x y=>decide (x<=y)
theorem zln (R B:List (Int × Int × Int)):(ups R B).length=(zav R B).length:=by
 unfold ups;exact List.length_mergeSort _
theorem zin (s:St n R W T B) (x:Int):x∈zav R B↔∃e,brR R e/\e.1=x:=by
 unfold zav;rw [List.mem_map];constructor
 ·rintro ⟨e,he,rfl⟩;exact ⟨e,(zt2 s e).1 he,rfl⟩
 ·rintro ⟨e,he,rfl⟩;exact ⟨e,(zt2 s e).2 he,rfl⟩
theorem zkq {R' B':List (Int × Int × Int)} {W' T':List Nat} (s:St n R W T B) (s':St n R' W' T' B') (hp:R.Perm R') (h:Unl R):W=W'/\T=T'/\ups R B=ups R' B':=by
 have hm:(λ e=>e∈R)=λ e=>e∈R':=by funext e;exact propext hp.mem_iff
 have h':Unl R':=hp.pairwise h (λ {a b} k=>k.symm);refine ⟨zmb s.gw s'.gw (λ u v=>?_),zmb s.gt s'.gt (λ u v=>?_),?_⟩
 ·rw [s.hW,s'.hW];simp only [cnR];rw [hm]
 ·rw [s.hT,s'.hT];simp only [twR];rw [hm]
 ·unfold ups
  refine mergeSort_of_perm_i ((List.perm_ext_iff_of_nodup (zgx h) (zgx h')).2 λ x=>?_);rw [zin s,zin s'];simp only [brR];rw [hm]
end Go.Proofs.YtebcjaenhiiflaaGreatDoor.S
