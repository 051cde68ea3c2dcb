import Derived.Test.YtebcjaenhiiflaaGreatDoorQBlKb
set_option maxHeartbeats 4000000
set_option maxRecDepth 100000
namespace Go.Proofs.YtebcjaenhiiflaaGreatDoor.S
open Go.RowKit Go.WideMaps Go.Maps Go.Proofs.Tryz
def plc (R:List (Int × Int × Int)) (x:Nat):List Nat:=(List.range R.length).filter λ i=>decide (tch (R.getD i (0,0,0)) x)
theorem zst (R:List (Int × Int × Int)):(List.range R.length).map (λ i=>R.getD i (0,0,0))=R:=by
 apply List.ext_getElem
 ·simp
 ·intro i h1 h2
  simp [h2]
theorem zx3 {n M:Nat} {R:List (Int × Int × Int)} (h:Ed n M R) (x:Nat):R.filter (G.zg7 (x:Int))=(plc R x).map λ i=>R.getD i (0,0,0):=by
 have h1:R.filter (G.zg7 (x:Int))=R.filter λ e=>decide (tch e x):=by
  apply List.filter_congr;intro e he;have hn:=h.nat he;unfold G.zg7;rw [hn.1,hn.2.1,Bool.eq_iff_iff];simp only [Bool.or_eq_true,beq_iff_eq,decide_eq_true_eq];unfold tch;omega
 rw [h1];unfold plc;conv=>lhs;rw [<-zst R]
 rw [List.filter_map];rfl
theorem zg3 {R:List (Int × Int × Int)} {x i:Nat}:i∈plc R x↔∃e,R[i]? =some e/\tch e x:=by
 unfold plc;rw [List.mem_filter,List.mem_range,decide_eq_true_eq];constructor
 ·rintro ⟨h1,h2⟩
  refine ⟨R[i],List.getElem?_eq_getElem h1,?_⟩
  simpa [h1] using h2
 ·rintro ⟨e,he,ht⟩
  refine ⟨(List.getElem?_eq_some_iff.1 he).1,?_⟩;rw [zf2 he];exact ht
theorem z7g (R:List (Int × Int × Int)) (x:Nat):(plc R x).length<=R.length:=by
 unfold plc;exact Nat.le_trans (List.length_filter_le _ _) (by simp)
theorem zyg (x0:Int) (A E x z:Nat) (w:World) (hz:(if x=A then E else A)=z):
 Calls prog 248 #[.agg #[.int .i64 x0,.int .i64 (A:Int),.int .i64 (E:Int)],.int .i64 (x:Int)] w λ e w'=>e= .returned (.int .i64 (z:Int))/\Below w.heap.size w w':=by
 by_cases h:x=A
 ·rw [if_pos h] at hz
  subst hz h;go_enter func248,ntmps248;go_wp2;go_ret;exact ⟨rfl,(Below.refl _ _).alloc (Nat.le_refl _) _⟩
 ·rw [if_neg h] at hz
  subst hz;have hne:((x:Int)==(A:Int))=false:=beq_eq_false_iff_ne.2 (by omega);go_enter func248,ntmps248;go_wp2;go_ret;exact ⟨rfl,(Below.refl _ _).alloc (Nat.le_refl _) _⟩
structure Fm (D:DataW Unit) (R:List (Int × Int × Int)) (ks:List (Nat × Nat)):Prop where
 key:∀z:Nat,Maps.has D (.int .i64 (z:Int))=true↔∃p∈ks,p.1=z
 val:∀p∈ks,∀zd,D.atKey (.int .i64 (p.1:Int)) zd= .lit (.int .i64 (zas R p.2))
 tidy:Tidy D
 size:Maps.size D=ks.length
theorem Fm.start (R:List (Int × Int × Int)):Fm (.map []) R []:=⟨λ z=>by simp [Maps.has],by simp,tidy_empty,rfl⟩
theorem Fm.put {D:DataW Unit} {R:List (Int × Int × Int)} {ks:List (Nat × Nat)} (h:Fm D R ks) (z i:Nat) (hno:∀p∈ks,p.1≠z):Fm (D.put (.int .i64 (z:Int)) (.lit (.int .i64 (zas R i)))) R (ks++[(z,i)]):=by
 have hnh:Maps.has D (.int .i64 (z:Int))=false:=by
  rw [Bool.eq_false_iff];intro c;obtain ⟨p,hp,hpz⟩:=(h.key z).1 c;exact hno p hp hpz
 refine ⟨λ y=>?_,λ p hp zd=>?_,h.tidy.put (zbe _) _,?_⟩
 ·by_cases c:y=z
  ·subst c
   rw [has_put_same h.tidy.isMap (zbe _)];exact ⟨λ _=>⟨(y,i),by simp,rfl⟩,λ _=>rfl⟩
  ·rw [has_put_other (by simp;omega),h.key]
   constructor
   ·rintro ⟨p,hp,hpy⟩;exact ⟨p,List.mem_append_left _ hp,hpy⟩
   ·rintro ⟨p,hp,hpy⟩
    rcases List.mem_append.1 hp with hp | hp
    ·exact ⟨p,hp,hpy⟩
    ·rw [List.mem_singleton.1 hp] at hpy;exact absurd hpy.symm c
 ·rcases List.mem_append.1 hp with hp | hp
  ·have:=hno p hp
   rw [atKey_put_other (by simp;omega)];exact h.val p hp zd
  ·rw [List.mem_singleton.1 hp,atKey_put_same h.tidy.isMap (zbe _)]
 ·rw [size_put h.tidy,hnh,h.size];simp
def zh7 (R:List (Int × Int × Int)) (x:Nat):Prop:=∃e∈R,∃f∈R,tch e x/\tch f x/\¬cnR (wo R x) (ot e x) (ot f x)
theorem zab.bk {a b c p q:Nat} {L:List Nat} {w w':World} (h:zab w p q L) (k:Bk a b c w w') (h1:p≠a/\p≠b/\p≠c) (h2:q≠a/\q≠b/\q≠c):zab w' p q L:=
 ⟨by rw [k.block p h.plt h1.1 h1.2.1 h1.2.2];exact h.hp,by rw [k.block q h.blt h2.1 h2.2.1 h2.2.2];exact h.hb⟩
theorem zuu (x n B0 q M p m N:Nat) (u v:Value) (R:List (Int × Int × Int)) (L:List Nat) (D:DataW Unit) (w:World) (h:G.GAt w B0 168 61 q (n:Int) u R) (hn:n<=40) (hx:x<n) (hed:Ed n M R) (hM:M<=120)
 (hb:za5 w p m N D v) (hl:Lm D R L) (hs:Bs R x [] L):
 Calls prog 135 #[.pointer (some ⟨p,0,none⟩),.pointer (some ⟨q,0,none⟩),.int .i64 (x:Int)] w λ e w'=>∃(k:Nat) (D':DataW Unit) (L':List Nat),e= .returned (.int .i64 (k:Int))/\za5 w' p m N D' v/\Lm D' R L'/\Bs R (x+1) [] L'/\But m w w'/\(1<k↔zh7 R x):=by
 have hpm:=hb.ne;have hpw:=hb.plt;have hmw:=hb.hm.lt;have hlen:=hed.len;have hpl:=z7g R x;have HG:=kd h;have HE:=kd hed;have HB:=kd hb;have HL:=kd hl;have HS:=kd hs;have HID:Hid (∀e∈R,0<=e.1/\e.1<=1099511627776):=λ e he=>by have:=hed.ids e he;omega
 clear h hed hb hl hs;go_enter func135,ntmps135;go_wp2_with fail;refine (G.yabr (x:Int) (n:Int) B0 q u R w HG.out (by omega) (by omega)).mono ?_;rintro e w1 ⟨v1,rfl,ho1,hb1⟩;rw [zx3 HE.out] at ho1;obtain ⟨va,vc,hv⟩:=ho1.zal;obtain ⟨len,hlenv⟩:∃len,(plc R x).length=len:=⟨_,rfl⟩;rw [List.length_map,hlenv] at hv;rw [hlenv] at hpl;subst hv;have HLEN:=kd hlenv;have HO1:=kd (And.intro ho1 hb1);clear ho1 hb1 hlenv;go_wp2_with fail;refine (z8s x n B0 q M u R w1 (HG.out.below HO1.out.2) hn HE.out hM).mono ?_;rintro e w2 ⟨ps,bs,K,rfl,hs2,hgK,hKx,hb2,hps,hbs⟩;have hsz1:=HO1.out.2.size;have HB2:Hid (Below w.heap.size w w2):=HO1.out.2.trans (hb2.mono HO1.out.2.size);have HO2:Hid (G.zad w2 w.heap.size 61 (.slice va len vc) ((plc R x).map λ i=>R.getD i (0,0,0))):=HO1.out.1.below hb2;have HS2:Hid (zab w2 ps bs K/\Good n K/\Kx n R x K):=⟨hs2,hgK,hKx⟩;have hps2:=hs2.plt;have hbs2:=hs2.blt;obtain ⟨w3,hw3⟩:∃w3,w3=w2.alloc (.map #[] 0):=⟨_,rfl⟩;have hb3:Below w2.heap.size w2 w3:=by rw [hw3];exact (Below.refl _ _).alloc (Nat.le_refl _) _
 have hm3:w3.ownsMap prog 3 (plainElem (H:=Unit) prog 3) w2.heap.size 0 (.map []):=by rw [hw3];exact World.ownsMap_made w2 _ _ _
 have HW3:=kd hw3.symm;have HB3:Hid (Below w.heap.size w w3/\Below w2.heap.size w2 w3):=⟨HB2.out.trans (hb3.mono HB2.out.size),hb3⟩;have HM3:=kd hm3;have hsz2:=HB2.out.size;have hmm:=@run_makeMap prog;clear hs2 hgK hKx hb2 hw3 hb3 hm3 HO1;go_wp2_with fail;rw [HW3.out];clear hmm;go_loopw [29] (λ s29 wq=>∃(t N1:Nat) (Dt Df:DataW Unit) (Lt:List Nat) (ks:List (Nat × Nat)),t<=len/\s29= .int .i64 t/\za5 wq p m N Dt v/\Lm Dt R Lt/\Bs R x ((plc R x).take t) Lt/\Gth R x K ((plc R x).take t) ks/\wq.ownsMap prog 3 (plainElem prog 3) w2.heap.size N1 Df/\N1<=t/\Fm Df R ks/\Bk m w2.heap.size w2.heap.size w3 wq) (λ s29 _=>len-(intOf s29).toNat)
 case atStart=>exact ⟨0,0,D,.map [],L,[],Nat.zero_le _,rfl,HB.out.below HB3.out.1,HL.out,HS.out,zz4 R x K,HM3.out,Nat.le_refl _,Fm.start R,Bk.refl _⟩
 case round=>
  clear HB HL HS HM3;obtain ⟨t,N1,Dt,Df,Lt,ks,ht,rfl,hbl,hlm,hbs',hgth,hmf,hN1,hfm,hbk⟩:=hrel;have HBL:=kd (And.intro hbl hlm);have HBS:=kd (And.intro hbs' hgth);have HFM:=kd (And.intro hmf hfm);have HBK:=kd hbk;clear hbl hlm hbs' hgth hmf hfm hbk;by_cases hlt:t<len
  ·obtain ⟨i,hi⟩:∃i,(plc R x)[t]? =some i:=⟨_,List.getElem?_eq_getElem (by rw [HLEN.out];exact hlt)⟩
   obtain ⟨e,he,hte⟩:=zg3.1 (List.mem_of_getElem? hi);have hnat:=HE.out.nat (List.mem_of_getElem? he);have hxe:((plc R x).map λ i=>R.getD i (0,0,0))[t]? =some e:=by rw [List.getElem?_map,hi];simp [he]
   obtain ⟨g,hva⟩:∃g,va=some ⟨g,0,none⟩:=by
    rcases HO2.out.shape with ⟨_,k⟩ | ⟨g,cap,k,_⟩
    ·rw [k] at hxe;simp at hxe
    ·injection k with e1 _ _
     exact ⟨g,e1⟩
   subst hva;have hO3:=HO2.out.below HB3.out.2;obtain ⟨r0,r1,r2⟩:=hO3.at (g:=g) rfl hxe;have hgb:=World.ownsRow.lt HO2.out g rfl;have q0:=HBK.out.cell r0 (by omega) (by omega) (by omega);have q1:=HBK.out.cell r1 (by omega) (by omega) (by omega);have q2:=HBK.out.cell r2 (by omega) (by omega) (by omega);rw [hnat.1] at q1;rw [hnat.2.1] at q2;have HTK:Hid ((plc R x).take (t+1)=(plc R x).take t++[i]):=by
    show (plc R x).take (t+1)=_;rw [List.take_add_one,hi];rfl
   have HIE:=kd (And.intro he hte);obtain ⟨z,hz⟩:∃z,(if x=ea e then eb e else ea e)=z:=⟨_,rfl⟩;have hzn:z<n:=by rw [<-hz];have:=hnat.2.2;split <;> omega
   obtain ⟨k,hk⟩:∃k,K.getD z 0=k:=⟨_,rfl⟩;have HLB:Hid (lb R x K i=k):=by
    show lb R x K i=k;unfold lb ot;rw [zf2 he,hz,hk]
   have hkn:k<n:=by rw [<-hk];exact Nat.lt_of_le_of_lt (HS2.out.2.1.le z hzn) hzn
   have hidw:=HE.out.ids e (List.mem_of_getElem? he);have hwid0:(Lit.int .i64 e.1).wf=true:=zar hidw.1 (by omega);have hkey:=zdt (k:Int) (zar (by omega) (by omega));obtain ⟨x0,hx0⟩:∃x0,e.1=x0:=⟨_,rfl⟩;obtain ⟨A,hA⟩:∃A,ea e=A:=⟨_,rfl⟩;obtain ⟨E,hE⟩:∃E,eb e=E:=⟨_,rfl⟩;have HXE:=kd hx0.symm;rw [hA,hE] at hz;have HZ:=kd (And.intro hz hk);have hwid:(Lit.int .i64 x0).wf=true:=by rw [<-hx0];exact hwid0
   rw [hx0] at q0;rw [hA] at q1;rw [hE] at q2;obtain ⟨W1,hW1⟩:∃W1,W1=wr.alloc (.cells #[.int .i64 x0,.int .i64 (A:Int),.int .i64 (E:Int)] 61):=⟨_,rfl⟩;have hh:W1.heap[wr.heap.size]? =some (.cells #[.int .i64 x0,.int .i64 (A:Int),.int .i64 (E:Int)] 61):=by rw [hW1];exact heap_alloc_new wr _
   have hbW:Below wr.heap.size wr W1:=by rw [hW1];exact (Below.refl _ _).alloc (Nat.le_refl _) _
   have HBX:=kd (And.intro hh hbW);have p0:W1.cell? ⟨wr.heap.size,0,none⟩=some (.int .i64 x0):=by simp [World.cell?,hh]
   have p1:W1.cell? ⟨wr.heap.size,1,none⟩=some (.int .i64 (A:Int)):=by simp [World.cell?,hh]
   have p2:W1.cell? ⟨wr.heap.size,2,none⟩=some (.int .i64 (E:Int)):=by simp [World.cell?,hh]
   have HW1:=kd hW1.symm;have hwr1:wr.heap.size<W1.heap.size:=lt_of_some hh;have hwrs:=HBK.out.size;have hw3s:=HB3.out.2.size;clear hi he hte hnat hxe hO3 r0 r1 r2 hz hk hh hW1 hbW hidw hx0 hA hE hwid0;go_wp2_with fail;rw [HW1.out];refine (zyg x0 A E x z W1 HZ.out.1).mono ?_;rintro e' w4 ⟨rfl,hb4⟩;have HB4:Hid (Below W1.heap.size W1 w4/\Below wr.heap.size wr w4):=⟨hb4,HBX.out.2.trans (hb4.mono HBX.out.2.size)⟩;clear hb4 p0 p1 p2;go_wp2_with fail;refine (zts z ps bs K w4 ((HS2.out.1.below HB3.out.2 hps2 hbs2 |>.bk HBK.out (by omega) (by omega)).below HB4.out.2 (by omega) (by omega)) HS2.out.2.1 hzn HZ.out.2).mono ?_;rintro e' w5 ⟨rfl,hb5⟩;have HB5:Hid (Below wr.heap.size wr w5):=HB4.out.2.trans (hb5.mono HB4.out.2.size);have hh5:w5.heap[wr.heap.size]? =some (.cells #[.int .i64 x0,.int .i64 (A:Int),.int .i64 (E:Int)] 61):=by
    rw [hb5.block _ (Nat.lt_of_lt_of_le hwr1 HB4.out.1.size),HB4.out.1.block _ hwr1];exact HBX.out.1
   have p0:w5.cell? ⟨wr.heap.size,0,none⟩=some (.int .i64 x0):=by simp [World.cell?,hh5]
   have hown:w5.ownsMap prog 3 (plainElem prog 3) w2.heap.size N1 Df:=HFM.out.1.kept (row:=none) ⟨HB5.out.os,HB5.out.tape,HB5.out.output,HB5.out.size,λ k hk _=>HB5.out.block k hk⟩ (by simp);have HBL5:Hid (za5 w5 p m N Dt v):=HBL.out.1.below HB5.out;have HBK5:Hid (Bk m w2.heap.size w2.heap.size w3 w5):=HBK.out.trans (Bk.of_below HB5.out);clear hb5 hh5 HB4 HBX HW1 hwr1;by_cases hc:∃pq∈ks,pq.1=k
   ·as_aux_lemma=>
    obtain ⟨⟨k',j⟩,hpq,hk'⟩:=hc;simp only at hk';subst hk';have hj:=HBS.out.2.at_ _ hpq;simp only at hj;obtain ⟨f,hf,htf⟩:=zg3.1 (List.mem_of_mem_take hj.1);have hhas:Maps.has Df (.int .i64 (k':Int))=true:=(HFM.out.2.key k').2 ⟨_,hpq,rfl⟩;have hval:=HFM.out.2.val _ hpq (.lit (.int .i64 0));simp only at hval;rw [zcs hf] at hval;have HVAL:=kd hval;have hrx:Rx R x j i:=(z4o HS2.out.2.2 HE.out.inn hf HIE.out.1 htf HIE.out.2).2 (by rw [hj.2,HLB.out]);have HNX:Hid (Bs R x ((plc R x).take (t+1)) (joinL Lt j i)/\Gth R x K ((plc R x).take (t+1)) ks):=by
     rw [HTK.out];exact ⟨z6w HBS.out.1 hj.1 hrx,z6s HBS.out.2 hpq HLB.out.symm⟩
    have HF:=kd hf;have HHAS:=kd hhas;clear hj hf htf hhas hval hrx hpq;go_wp2_with (first
     | (at_lookup;refine wpList_lookup_own_ok_int _ rfl _ _ 183 rfl 3 3 .i64 za6 underlying183 underlying3 (zdy _) w2.heap.size N1 Df rfl hown _ _ rfl hkey ?_;intro c hat hwc;rw [HVAL.out] at hat;obtain rfl:=zfa hat;rw [HHAS.out];clear hat hwc)
     | fail)
    rw [HXE.out];refine (zxt j i p m N Dt v w5 HBL5.out HBL.out.2 HBS.out.1.good HE.out.up HF.out HIE.out.1 HID.out).mono ?_;rintro e' w6 ⟨rfl,D6,hb6,hl6,hk6⟩;have hm6:w6.ownsMap prog 3 (plainElem prog 3) w2.heap.size N1 Df:=hown.kept (row:=some m) ⟨hk6.os,hk6.tape,hk6.output,hk6.size,λ k hk hn=>hk6.block k hk (λ c=>hn (by rw [c]))⟩ (by simp;omega);have HR6:Hid (za5 w6 p m N D6 v/\Lm D6 R (joinL Lt j i)/\w6.ownsMap prog 3 (plainElem prog 3) w2.heap.size N1 Df/\Bk m w2.heap.size w2.heap.size w3 w6):=⟨hb6,hl6,hm6,HBK5.out.trans (Bk.yabb hk6)⟩;clear hb6 hl6 hk6 hm6 hown p0;go_wp2_with fail;go_roundw;case rel=>exact ⟨t+1,N1,D6,Df,joinL Lt j i,ks,by omega,by go_num,HR6.out.1,HR6.out.2.1,HNX.out.1,HNX.out.2,HR6.out.2.2.1,by omega,HFM.out.2,HR6.out.2.2.2⟩
    case measure=>simp [intOf];omega
   ·as_aux_lemma=>
    have hno:∀pq∈ks,pq.1≠k:=λ pq hp c=>hc ⟨pq,hp,c⟩
    have hhas:Maps.has Df (.int .i64 (k:Int))=false:=by
     rw [Bool.eq_false_iff];intro c;obtain ⟨pq,hp,hpk⟩:=(HFM.out.2.key k).1 c;exact hno pq hp hpk
    have HHAS:=kd hhas;have HVAL:Hid (Df.atKey (.int .i64 (k:Int)) (.lit (.int .i64 0))= .lit (.int .i64 0)):=atKey_of_not_has hhas _;have HNX:Hid (Bs R x ((plc R x).take (t+1)) Lt/\Gth R x K ((plc R x).take (t+1)) (ks++[(k,i)])/\Fm (Df.put (.int .i64 (k:Int)) (.lit (.int .i64 x0))) R (ks++[(k,i)])):=by
     rw [HTK.out];refine ⟨yaa4 HBS.out.1 (λ j hj hr=>?_),?_,?_⟩
     ·obtain ⟨f,hf,htf⟩:=zg3.1 (List.mem_of_mem_take hj)
      obtain ⟨pq,hp,hpk⟩:=HBS.out.2.all j hj;refine hno pq hp ?_;rw [hpk,(z4o HS2.out.2.2 HE.out.inn hf HIE.out.1 htf HIE.out.2).1 hr,HLB.out]
     ·have:=z5a (i:=i) HBS.out.2 (λ pq hp=>by rw [HLB.out];exact hno pq hp)
      rw [HLB.out] at this;exact this
     ·have:=HFM.out.2.put k i hno
      rw [zcs HIE.out.1,<-HXE.out] at this;exact this
    have hNm:N1<maxLen:=by unfold maxLen;omega
    clear hc hno hhas;go_wp2_with (first
     | (at_lookup;refine wpList_lookup_own_ok_int _ rfl _ _ 183 rfl 3 3 .i64 za6 underlying183 underlying3 (zdy _) w2.heap.size N1 Df rfl hown _ _ rfl hkey ?_;intro c hat hwc;rw [HVAL.out] at hat;obtain rfl:=zfa hat;rw [HHAS.out];clear hat hwc)
     | (at_mapUpdate;refine wpList_mapUpdate_own _ rfl _ _ _ 183 rfl 3 3 za6 underlying183 (plainElem prog 3) w2.heap.size N1 Df rfl hown hNm _ _ _ rfl rfl hkey _ [] (plainElem_int underlying3 hwid) ?_;intro w6 hown6 hgrow6)
     | fail)
    go_roundw;case rel=>exact ⟨t+1,N1+1,Dt,_,Lt,ks++[(k,i)],by omega,by go_num,⟨by rw [hgrow6.block p HBL5.out.plt (by simp;omega)];exact HBL5.out.hp,HBL5.out.hm.kept hgrow6 (by simp;omega)⟩,HBL.out.2,HNX.out.1,HNX.out.2.1,hown6,by omega,HNX.out.2.2,HBK5.out.trans (Bk.z2t hgrow6)⟩
    case measure=>simp [intOf];omega
  ·have hte:t=len:=by omega
   subst hte;have htk:(plc R x).take t=plc R x:=by rw [<-HLEN.out];exact List.take_length
   have hbs9:=HBS.out;rw [htk] at hbs9;have HBS9:Hid (Bs R (x+1) [] Lt):=z5x hbs9.1 (λ i e he ht=>zg3.2 ⟨e,he,ht⟩);have HCUT:Hid (1<ks.length↔zh7 R x):=z6x hbs9.2 HS2.out.2.2 HE.out.inn (λ i=>zg3);have HBT:Hid (But m w wr):=⟨HBK.out.os.trans HB3.out.1.os,HBK.out.tape.trans HB3.out.1.tape,HBK.out.output.trans HB3.out.1.output,Nat.le_trans HB3.out.1.size HBK.out.size,λ k hk hn=>(HBK.out.block k (by have:=HB3.out.1.size;omega) hn (by omega) (by omega)).trans (HB3.out.1.block k hk)⟩;have hown:=HFM.out.1;have hsz:=HFM.out.2.size;have HSZ:=kd hsz;clear htk hbs9 hsz;go_wp2_with (first
    | (at_len;refine wpList_len_own _ rfl _ 183 rfl 3 3 underlying183 (plainElem prog 3) w2.heap.size N1 Df rfl hown ?_)
    | fail)
   go_ret;exact ⟨ks.length,Dt,Lt,by rw [HSZ.out];rfl,HBL.out.1,HBL.out.2,HBS9.out,HBT.out,HCUT.out⟩
theorem Lm.start:Lm (.map []) [] []:=⟨λ x=>by simp [Maps.has],λ i e h=>by simp at h⟩
theorem Lm.snoc {D:DataW Unit} {R:List (Int × Int × Int)} {k:Nat} {e:Int × Int × Int} (hu:G.Up R) (hD:IsMap D) (h:Lm D (R.take k) (List.range k)) (he:R[k]? =some e):
 Lm (D.put (.int .i64 e.1) (.lit (.int .i64 e.1))) (R.take (k+1)) (List.range (k+1)):=by
 have hk:k<R.length:=(List.getElem?_eq_some_iff.1 he).1;have ht:R.take (k+1)=R.take k++[e]:=by rw [List.take_add_one,he];rfl
 have hne:∀i f,i<k->R[i]? =some f->f.1≠e.1:=λ i f hi hf c=>by
  have:=(zrw hu hf he c).1;omega
 refine ⟨λ x=>?_,λ i f hf zd=>?_⟩
 ·by_cases c:x=e.1
  ·subst c
   rw [has_put_same hD (zbe _)];exact ⟨λ _=>⟨e,by rw [ht];simp,rfl⟩,λ _=>rfl⟩
  ·rw [has_put_other (by simpa using c),h.key]
   constructor
   ·rintro ⟨f,hf,hx⟩;exact ⟨f,by rw [ht];exact List.mem_append_left _ hf,hx⟩
   ·rintro ⟨f,hf,hx⟩
    rw [ht] at hf;rcases List.mem_append.1 hf with hf | hf
    ·exact ⟨f,hf,hx⟩
    ·rw [List.mem_singleton.1 hf] at hx;exact absurd hx.symm c
 ·have hi:i<k+1:=by have:=(List.getElem?_eq_some_iff.1 hf).1;simp at this;omega
  rw [List.getElem?_take,if_pos hi] at hf;have hid:zas (R.take (k+1)) ((List.range (k+1)).getD i 0)=f.1:=by
   have e1:(List.range (k+1)).getD i 0=i:=by simp [hi]
   rw [e1];apply zcs;rw [List.getElem?_take,if_pos hi];exact hf
  rw [hid];by_cases c:i=k
  ·subst c
   rw [he] at hf;cases hf;rw [atKey_put_same hD (zbe _)]
  ·have hik:i<k:=by omega
   rw [atKey_put_other (by simpa using hne i f hik hf)];have hf':(R.take k)[i]? =some f:=by rw [List.getElem?_take,if_pos hik];exact hf
   rw [h.val i f hf' zd];have e2:(List.range k).getD i 0=i:=by simp [hik]
   rw [e2,zcs hf']
structure zbx (R:List (Int × Int × Int)) (x:Nat) (cs:List Nat):Prop where
 up:cs.Pairwise (·<·)
 mem:∀y,y∈cs↔y<x/\zh7 R y
theorem zbx.start (R:List (Int × Int × Int)):zbx R 0 []:=⟨.nil,λ y=>by simp⟩
theorem zbx.yes {R:List (Int × Int × Int)} {x:Nat} {cs:List Nat} (h:zbx R x cs) (hc:zh7 R x):zbx R (x+1) (cs++[x]):=by
 refine ⟨?_,λ y=>?_⟩
 ·rw [List.pairwise_append]
  exact ⟨h.up,List.pairwise_singleton _ _,λ a ha b hb=>by rw [List.mem_singleton.1 hb];exact ((h.mem a).1 ha).1⟩
 ·rw [List.mem_append,h.mem,List.mem_singleton]
  constructor
  ·rintro (⟨h1,h2⟩ | rfl)
   ·exact ⟨by omega,h2⟩
   ·exact ⟨by omega,hc⟩
  ·rintro ⟨h1,h2⟩
   by_cases c:y=x
   ·exact .inr c
   ·exact .inl ⟨by omega,h2⟩
theorem zbx.no {R:List (Int × Int × Int)} {x:Nat} {cs:List Nat} (h:zbx R x cs) (hc:¬zh7 R x):zbx R (x+1) cs:=by
 refine ⟨h.up,λ y=>?_⟩;rw [h.mem];constructor
 ·rintro ⟨h1,h2⟩;exact ⟨by omega,h2⟩
 ·rintro ⟨h1,h2⟩
  by_cases c:y=x
  ·subst c;exact absurd h2 hc
  ·exact ⟨by omega,h2⟩
theorem zqr:∀(cs:List Nat) (lo x:Nat),cs.Pairwise (·<·)->(∀y∈cs,lo<=y/\y<x)->cs.length<=x-lo
 | [],_,_,_,_=>by simp
 | a::cs,lo,x,hp,hm=>by
   have h1:=List.pairwise_cons.1 hp;have ha:=hm a (by simp);have:=zqr cs (a+1) x h1.2 (λ y hy=>⟨h1.1 y hy,(hm y (List.mem_cons_of_mem _ hy)).2⟩);simp;omega
theorem zbx.len {R:List (Int × Int × Int)} {x:Nat} {cs:List Nat} (h:zbx R x cs):cs.length<=x:=by
 have:=zqr cs 0 x h.up (λ y hy=>⟨Nat.zero_le _,((h.mem y).1 hy).1⟩);omega
def zbl (l:List Nat):List Value:=l.map λ x:Nat=>.int .i64 (x:Int)
theorem z9c {w w':World} {B0 gT eT q m:Nat} {n:Int} {u:Value} {L:List (Int × Int × Int)} (h:G.GAt w B0 gT eT q n u L) (k:But m w w') (hm:∃es c,w.heap[m]? =some (.map es c)):G.GAt w' B0 gT eT q n u L:=by
 obtain ⟨es,c,hm⟩:=hm;refine ⟨?_,⟨h.row.1,?_⟩,h.ne⟩
 ·rw [k.block q h.plt (by rintro rfl;have:=h.hp.symm.trans hm;simp at this)];exact h.hp
 ·rcases h.row.2 with hn | ⟨g,cap,cur,rfl,hB,hg,rest⟩
  ·exact .inl hn
  ·refine .inr ⟨g,cap,cur,rfl,hB,?_,rest⟩
   rw [k.block g (lt_of_some hg) (by rintro rfl;have:=hg.symm.trans hm;simp at this)];exact hg
theorem zzc {w:World} {base e s:Nat} {v:Value} {n:Nat} {xs:List Value} (h:w.ownsRow base e s v n xs):∃a c,v= .slice a n c:=by
 rcases h.2 with ⟨rfl,rfl⟩ | ⟨g,cap,cur,rfl,_⟩
 ·exact ⟨none,0,rfl⟩
 ·exact ⟨_,cap,rfl⟩
theorem za5.store {w:World} {p m N:Nat} {D:DataW Unit} {v:Value} (h:za5 w p m N D v) (v':Value):za5 (w.setCell ⟨p,1,none⟩ v') p m N D v':=by
 refine ⟨?_,h.hm.setCell (Ne.symm h.ne) _⟩;simp only [World.setCell,Array.getElem?_modify,h.hp];simp
theorem z6m {w w':World} {B0 gT q base k:Nat} {n:Int} {u v:Value} {L:List (Int × Int × Int)} {xs:List Value} (h:G.GAt w B0 gT 61 q n u L) (hg:w.grownBy w' v.ownBlock) (hr:w.ownsRow base 3 1 v k xs) (hgT:gT≠3:=by decide):G.GAt w' B0 gT 61 q n u L:=by
 have hne:∀g cur t,w.heap[g]? =some (.cells cur t)->t≠3->some g≠v.ownBlock:=by
  intro g cur t hc ht he;rcases hr.2 with ⟨rfl,_⟩ | ⟨g',cap,cur',rfl,_,hg',_⟩
  ·simp [Value.ownBlock] at he
  ·simp only [Value.ownBlock,Option.some.injEq] at he
   subst he;rw [hc] at hg';injection hg' with hg'
   injection hg' with _ hg' _
   exact ht hg'
 refine ⟨?_,⟨h.row.1,?_⟩,h.ne⟩
 ·rw [hg.block q h.plt (hne q _ gT h.hp hgT)];exact h.hp
 ·rcases h.row.2 with hn | ⟨g,cap,cur,rfl,hB,hg',rest⟩
  ·exact .inl hn
  ·refine .inr ⟨g,cap,cur,rfl,hB,?_,rest⟩
   rw [hg.block g (lt_of_some hg') (hne g _ 61 hg' (by decide))];exact hg'
theorem gat_but' {w w':World} {B0 q p:Nat} {n:Int} {u:Value} {L:List (Int × Int × Int)} {cs:Array Value} (h:G.GAt w B0 168 61 q n u L) (k:But p w w') (hp:w.heap[p]? =some (.cells cs 196)):G.GAt w' B0 168 61 q n u L:=by
 refine ⟨?_,⟨h.row.1,?_⟩,h.ne⟩
 ·rw [k.block q h.plt (by rintro rfl;have:=h.hp.symm.trans hp;simp at this)];exact h.hp
 ·rcases h.row.2 with hn | ⟨g,cap,cur,rfl,hB,hg,rest⟩
  ·exact .inl hn
  ·refine .inr ⟨g,cap,cur,rfl,hB,?_,rest⟩
   rw [k.block g (lt_of_some hg) (by rintro rfl;have:=hg.symm.trans hp;simp at this)];exact hg
def z95 (R:List (Int × Int × Int)) (n:Nat) (w:World) (e:Ending) (w':World):Prop:=
 ∃(p m N:Nat) (D:DataW Unit) (v:Value) (L cs:List Nat),e= .returned (.pointer (some ⟨p,0,none⟩))/\za5 w' p m N D v/\N<=120/\Lm D R L/\Bs R n [] L/\zbx R n cs/\w'.ownsRow w.heap.size 3 1 v cs.length (zbl cs)/\Below w.heap.size w w'
theorem zt9 (n B0 q M:Nat) (u:Value) (R:List (Int × Int × Int)) (w:World) (h:G.GAt w B0 168 61 q (n:Int) u R) (hn:n<=40) (hed:Ed n M R) (hM:M<=120):
 Calls prog 79 #[.pointer (some ⟨q,0,none⟩)] w (z95 R n w):=by
 have hlen:=hed.len;have HG:=kd h;have HE:=kd hed;have hmm:=@run_makeMap prog;obtain ⟨w1,hw1⟩:∃w1,w1=(w.alloc (.map #[] 0)).alloc (.cells #[.map (some w.heap.size),.slice none 0 0] 196):=⟨_,rfl⟩;have hb1:Below w.heap.size w w1:=by rw [hw1];exact ((Below.refl _ _).alloc (Nat.le_refl _) _).alloc (by simp) _
 have hbl1:za5 w1 (w.heap.size+1) w.heap.size 0 (.map []) (.slice none 0 0):=by
  rw [hw1];refine ⟨?_,(World.ownsMap_made w _ _ _).alloc _⟩;have:=heap_alloc_new (w.alloc (.map #[] 0)) (.cells #[.map (some w.heap.size),.slice none 0 0] 196);rw [World.size_alloc] at this;exact this
 have HW1:=kd hw1.symm;have HBL1:=kd (And.intro hbl1 hb1);have hw1s:=hbl1.plt;clear h hed hw1 hb1 hbl1;go_enter func79,ntmps79;go_wp2_with fail;rw [HW1.out];refine (G.zbv (n:Int) B0 q u R w1 (HG.out.below HBL1.out.2) (by omega)).mono ?_;rintro e w2 ⟨vr,rfl,ho,hb2⟩;obtain ⟨len,hm⟩:∃len,R.length=len:=⟨_,rfl⟩;have HLEN:=kd hm;obtain ⟨va,vc,hv⟩:=ho.zal;rw [hm] at hv hlen;subst hv;have HO:=kd ho;have HBL2:Hid (za5 w2 (w.heap.size+1) w.heap.size 0 (.map []) (.slice none 0 0)/\Below w.heap.size w w2):=⟨HBL1.out.1.below hb2,HBL1.out.2.trans (hb2.mono HBL1.out.2.size)⟩;have hw2s:=hb2.size;clear ho hb2 hm hmm;go_wp2_with fail;go_loopw [13] (λ s13 wq=>∃(j:Nat) (Dj:DataW Unit),j<=len/\s13= .int .i64 j/\za5 wq (w.heap.size+1) w.heap.size j Dj (.slice none 0 0)/\Lm Dj (R.take j) (List.range j)/\But w.heap.size w2 wq) (λ s13 _=>len-(intOf s13).toNat)
 case atStart=>exact ⟨0,_,Nat.zero_le _,rfl,HBL2.out.1,Lm.start,But.refl _ _⟩
 case round=>
  obtain ⟨j,Dj,hj,rfl,hbl,hlm,hbt⟩:=hrel;have HBL:Hid (za5 wr (w.heap.size+1) w.heap.size j Dj (.slice none 0 0)/\Lm Dj (R.take j) (List.range j)/\But w.heap.size w2 wr):=⟨hbl,hlm,hbt⟩;clear hbl hlm hbt;by_cases hlt:j<len
  ·obtain ⟨e,hx⟩:∃e,R[j]? =some e:=⟨_,List.getElem?_eq_getElem (by rw [HLEN.out];exact hlt)⟩
   have hnat:=HE.out.nat (List.mem_of_getElem? hx);have hids:=HE.out.ids e (List.mem_of_getElem? hx);obtain ⟨g,hva⟩:∃g,va=some ⟨g,0,none⟩:=by
    rcases HO.out.shape with ⟨_,k⟩ | ⟨g,cap,k,_⟩
    ·rw [k] at hx;simp at hx
    ·injection k with e1 _ _
     exact ⟨g,e1⟩
   subst hva;obtain ⟨r0,r1,r2⟩:=HO.out.at (g:=g) rfl hx;have hgb:=World.ownsRow.lt HO.out g rfl;have q0:=HBL.out.2.2.cell r0 (by omega);have q1:=HBL.out.2.2.cell r1 (by omega);have q2:=HBL.out.2.2.cell r2 (by omega);have HLM:Hid (Lm (Dj.put (.int .i64 e.1) (.lit (.int .i64 e.1))) (R.take (j+1)) (List.range (j+1))):=Lm.snoc HE.out.up HBL.out.1.hm.isMap HBL.out.2.1 hx;have hwid:(Lit.int .i64 e.1).wf=true:=zar hids.1 (by omega);generalize e.1=x0 at*;generalize e.2.1=x1 at*;generalize e.2.2=x2 at*;obtain ⟨W1,hW1⟩:∃W1,W1=wr.alloc (.cells #[.int .i64 x0,.int .i64 x1,.int .i64 x2] 61):=⟨_,rfl⟩;have hh:W1.heap[wr.heap.size]? =some (.cells #[.int .i64 x0,.int .i64 x1,.int .i64 x2] 61):=by rw [hW1];exact heap_alloc_new wr _
   have hbW:Below wr.heap.size wr W1:=by rw [hW1];exact (Below.refl _ _).alloc (Nat.le_refl _) _
   have p0:W1.drew.cell? ⟨wr.heap.size,0,none⟩=some (.int .i64 x0):=by
    show W1.cell? ⟨wr.heap.size,0,none⟩=_;simp [World.cell?,hh]
   have hblW:=HBL.out.1.below hbW;have c0:W1.drew.cell? ⟨w.heap.size+1,0,none⟩=some (.map (some w.heap.size)):=hblW.c0;obtain ⟨W2,hup,hown2,hgr2⟩:=World.ownsMap.update (w:=W1.drew) (hblW.hm) za6 underlying183 (by unfold maxLen;omega) (zdt x0 hwid) (plainElem_int underlying3 hwid);have HR2:Hid (za5 W2 (w.heap.size+1) w.heap.size (j+1) (Dj.put (.int .i64 x0) (.lit (.int .i64 x0))) (.slice none 0 0)/\But w.heap.size w2 W2):=
    ⟨⟨(hgr2.block _ hblW.plt (by simp)).trans hblW.hp,hown2⟩,(HBL.out.2.2.trans (But.of_below hbW)).trans ⟨hgr2.os,hgr2.tape,hgr2.output,hgr2.size,λ k hk hn=>hgr2.block k hk (λ c=>hn (by injection c))⟩⟩
   have HW1:=kd hW1.symm;clear hx hnat hids r0 r1 r2 hW1 hh hbW hblW hown2 hgr2 hwid HBL;go_upto_region 5 with fail
   rw [HW1.out];go_region
   all_goals
    go_wp2_with fail;go_roundw;case rel=>exact ⟨j+1,_,by omega,by go_num,HR2.out.1,HLM.out,HR2.out.2⟩
    case measure=>simp [intOf];omega
  ·have hje:j=len:=by omega
   subst hje;have htk:R.take j=R:=List.take_of_length_le (by rw [HLEN.out];exact Nat.le_refl _);have hbl9:=HBL.out;rw [htk] at hbl9;have hBt:Below w.heap.size w wr:=HBL2.out.2.trans (hbl9.2.2.below (Nat.le_refl _) HBL2.out.2.size);have HF:Hid (za5 wr (w.heap.size+1) w.heap.size j Dj (.slice none 0 0)/\Lm Dj R (List.range R.length)/\Below w.heap.size w wr/\G.GAt wr B0 168 61 q (n:Int) u R):=⟨hbl9.1,by rw [HLEN.out];exact hbl9.2.1,hBt,HG.out.below hBt⟩;obtain ⟨i0,hi0,hz0,hz1,hz2⟩:=info_parts Tryz.info3;clear htk hbl9 hBt HBL HBL2 HO HBL1 HW1;generalize wr=W0 at*;go_wp2_with fail;refine (G.zbb (n:Int) B0 q u R W0 HF.out.2.2.2).mono ?_;rintro e w3 ⟨rfl,hw3⟩;subst hw3;go_wp2_with fail;go_loopw [28] (λ s28 wq=>∃(x:Nat) (Dx:DataW Unit) (Lx cs:List Nat) (v:Value),x<=n/\zbx R x cs/\s28= .int .i64 x/\G.GAt wq B0 168 61 q (n:Int) u R/\za5 wq (w.heap.size+1) w.heap.size j Dx v/\Lm Dx R Lx/\Bs R x [] Lx/\wq.ownsRow w.heap.size 3 1 v cs.length (zbl cs)/\v.ownBlock≠some (w.heap.size+1)/\v.ownBlock≠some w.heap.size/\Below w.heap.size w wq) (λ s28 _=>n-(intOf s28).toNat)
   case atStart=>exact ⟨0,Dj,_,[],_,Nat.zero_le _,zbx.start R,rfl,HF.out.2.2.2,HF.out.1,HF.out.2.1,z3g R,World.ownsRow_nil _ _ _ _,by simp [Value.ownBlock],by simp [Value.ownBlock],HF.out.2.2.1⟩
   case round=>
    clear HF;obtain ⟨x,Dx,Lx,cs,v,hx,hcs,rfl,hgx,hbx,hlx,hsx,hox,hv1,hv2,hBx⟩:=hrel;have HX:Hid (G.GAt wr B0 168 61 q (n:Int) u R/\za5 wr (w.heap.size+1) w.heap.size j Dx v/\Lm Dx R Lx/\Bs R x [] Lx):=⟨hgx,hbx,hlx,hsx⟩;have HOX:Hid (wr.ownsRow w.heap.size 3 1 v cs.length (zbl cs)/\v.ownBlock≠some (w.heap.size+1)/\v.ownBlock≠some w.heap.size/\Below w.heap.size w wr):=⟨hox,hv1,hv2,hBx⟩;have HCS:=kd hcs;clear hgx hbx hlx hsx hox hv1 hv2 hBx hcs;by_cases hlt2:x<n
    ·go_wp2_with fail
     refine (zuu x n B0 q M _ _ j u v R Lx Dx wr HX.out.1 hn hlt2 HE.out hM HX.out.2.1 HX.out.2.2.1 HX.out.2.2.2).mono ?_;rintro e w4 ⟨k,D4,L4,rfl,hb4,hl4,hs4,hk4,hcut4⟩;have hg4:=z9c HX.out.1 hk4 (by obtain ⟨es,c,hb,_⟩:=HX.out.2.1.hm;exact ⟨es,c,hb⟩);have hgr4:wr.grownBy w4 (some w.heap.size):=⟨hk4.os,hk4.tape,hk4.output,hk4.size,λ i hi hne=>hk4.block i hi (λ c=>hne (by rw [c]))⟩;have ho4:=HOX.out.1.kept hgr4 (.inr HOX.out.2.2.1);have hB4:Below w.heap.size w w4:=HOX.out.2.2.2.trans (hk4.below (Nat.le_refl _) HOX.out.2.2.2.size);have H4:Hid (G.GAt w4 B0 168 61 q (n:Int) u R/\za5 w4 (w.heap.size+1) w.heap.size j D4 v/\Lm D4 R L4/\Bs R (x+1) [] L4/\Below w.heap.size w w4):=⟨hg4,hb4,hl4,hs4,hB4⟩;have HOV:=kd (And.intro HOX.out.2.1 HOX.out.2.2.1);have HCUT:=kd hcut4;clear hk4 hcut4 hg4 hgr4 hl4 hs4 HX HOX;by_cases hk1:1<k
     ·as_aux_lemma=>
      have HC:Hid (zbx R (x+1) (cs++[x])):=HCS.out.yes (HCUT.out.1 hk1);have hcl:=HCS.out.len;have hc1:=hb4.c1;have hpl:=hb4.plt;have hsz:=hB4.size;have HFZ:Hid (∀w',(w4.alloc (.cells #[.int .i64 (x:Int)] 3)).grownBy w' v.ownBlock->w'.heap[w.heap.size+1]? =some (.cells #[.map (some w.heap.size),v] 196)):=λ w' hg=>by
       rw [hg.block _ (by simp;omega) (λ c=>HOV.out.1 c.symm),Below.heap_alloc _ _ _ hpl];exact hb4.hp
      have HO4:=kd ho4;clear hb4 hB4 HCUT;go_wp2_with (first
       | (at_builtin;refine wpList_append_own_at _ rfl _ _ 48 rfl w.heap.size 3 i0 (.int .i64 0) 1 8 underlying48 hi0 hz0 hz1 hz2 rfl (by decide) v _ _ rfl (ho4.alloc _) ⟨w4.heap.size,0,none⟩ 1 1 [.int .i64 (x:Int)] rfl rfl (cell_one_new _ _ _) (ints_oneCell .i64 [(x:Int)]) (by unfold maxLen;omega) (by omega) (by simp;omega) ?_;intro v5 w5 hown5 hgrow5 hnil5 hloc5;obtain ⟨a5,c5,rfl⟩:=zzc hown5;have hp5:=HFZ.out w5 hgrow5;have hf5:w5.frozen? ⟨w.heap.size+1,1,none⟩=false:=(by simp [World.frozen?,hp5]);have hc5:w5.cell? ⟨w.heap.size+1,1,none⟩=some v:=(by simp [World.cell?,hp5]))
       | fail)
      have hbl5:za5 w5 (w.heap.size+1) w.heap.size j D4 v:=⟨hp5,(H4.out.2.1.hm.alloc _).kept hgrow5 (λ c=>HOV.out.2 c.symm)⟩;have hg5:G.GAt w5 B0 168 61 q (n:Int) u R:=z6m (H4.out.1.below ((Below.refl _ _).alloc (Nat.le_refl _) _)) hgrow5 (HO4.out.alloc _);have hB5:Below w.heap.size w w5:=(H4.out.2.2.2.2.trans (((Below.refl _ _).alloc (Nat.le_refl _) _).mono H4.out.2.2.2.2.size)).grown hgrow5 (by simp;omega) (λ i hi=>(World.ownsRow.lt HO4.out i hi).1);have hne5:(Value.slice a5 (cs.length+1) c5).ownBlock≠some (w.heap.size+1)/\(Value.slice a5 (cs.length+1) c5).ownBlock≠some w.heap.size:=by
       rcases hloc5 with c | c
       ·rw [c];exact HOV.out
       ·rw [c];refine ⟨?_,?_⟩ <;> simp <;> omega
      have hbt:But (w.heap.size+1) w5 (w5.setCell ⟨w.heap.size+1,1,none⟩ (.slice a5 (cs.length+1) c5)):=(But.refl _ _).setCell _ _;have HR6:Hid (G.GAt (w5.setCell ⟨w.heap.size+1,1,none⟩ (.slice a5 (cs.length+1) c5)) B0 168 61 q (n:Int) u R/\za5 (w5.setCell ⟨w.heap.size+1,1,none⟩ (.slice a5 (cs.length+1) c5)) (w.heap.size+1) w.heap.size j D4 (.slice a5 (cs.length+1) c5)/\(w5.setCell ⟨w.heap.size+1,1,none⟩ (.slice a5 (cs.length+1) c5)).ownsRow w.heap.size 3 1 (.slice a5 (cs.length+1) c5) (cs++[x]).length (zbl (cs++[x]))/\Below w.heap.size w (w5.setCell ⟨w.heap.size+1,1,none⟩ (.slice a5 (cs.length+1) c5))):=by
       refine ⟨gat_but' hg5 hbt hp5,hbl5.store _,?_,hB5.trans (hbt.below (by omega) hB5.size)⟩;have:=hown5.kept (w':=w5.setCell ⟨w.heap.size+1,1,none⟩ (.slice a5 (cs.length+1) c5)) (row:=some (w.heap.size+1)) ⟨hbt.os,hbt.tape,hbt.output,hbt.size,λ i hi hne=>hbt.block i hi (λ c=>hne (by rw [c]))⟩ (.inr hne5.1)
       simpa [zbl] using this
      have HNE:=kd hne5;clear hbl5 hg5 hB5 hne5 hbt hown5 hgrow5 hnil5 hloc5 hp5 hf5 hc5;generalize w5.setCell ⟨w.heap.size+1,1,none⟩ (.slice a5 (cs.length+1) c5)=w6 at*;go_wp2_with fail;go_roundw;case rel=>exact ⟨x+1,D4,L4,cs++[x],_,by omega,HC.out,by go_num,HR6.out.1,HR6.out.2.1,H4.out.2.2.1,H4.out.2.2.2.1,HR6.out.2.2.1,HNE.out.1,HNE.out.2,HR6.out.2.2.2⟩
      case measure=>simp [intOf];omega
     ·as_aux_lemma=>
      have HC:Hid (zbx R (x+1) cs):=HCS.out.no (λ c=>hk1 (HCUT.out.2 c));have HO4:=kd ho4;clear hb4 hB4 HCUT ho4;go_wp2_with fail;go_roundw;case rel=>exact ⟨x+1,D4,L4,cs,v,by omega,HC.out,by go_num,H4.out.1,H4.out.2.1,H4.out.2.2.1,H4.out.2.2.2.1,HO4.out,HOV.out.1,HOV.out.2,H4.out.2.2.2.2⟩
      case measure=>simp [intOf];omega
    ·have hxe:x=n:=by omega
     subst hxe;go_wp2_with fail;go_ret;exact ⟨_,_,j,Dx,v,Lx,cs,rfl,HX.out.2.1,by omega,HX.out.2.2.1,HX.out.2.2.2,HCS.out,HOX.out.1,HOX.out.2.2.2⟩
open Go.RowKit Go.WideMaps Go.Maps Go.Sort Go.Shelf Go.Proofs.Tryz
variable {p pw bw pt bt m N n:Nat} {W T:List Nat} {D:DataW Unit}
theorem zli (k:Nat):AnyZI.SortsIn prog Tryz.sortedA_ren Fence.wide k:=
 ⟨λ blk off cap ss W hH hblk hsz=>callsIn_wide.2 (AnyM.slices_Sort_int Tryz.sortA blk off cap ss W hH hblk hsz),
  λ p cap W=>callsIn_wide.2 (AnyM.slices_Sort_int_none Tryz.sortA p cap W)⟩
theorem z8f (w:World) (h:BAt w p pw bw pt bt m N W T D) (hN:N<=1000):
 Calls prog 78 #[.pointer (some ⟨p,0,none⟩)] w λ e w'=>∃(v:Value) (ss:List Int),e= .returned v/\ss.Perm (intKeys D)/\
  w'.ownsRow w.heap.size 3 1 v ss.length ((ss.mergeSort (λ x y=>decide (x<=y))).map encZ)/\(v= .slice none 0 0↔ss=[])/\Below w.heap.size w w':=by
 refine (callsIn_wide (n:=6)).1 ?_;have hc:=h.c2;have hown:=h.hm;have hmax:Maps.size D<=maxLen:=Nat.le_trans hown.size_le (by unfold maxLen;omega);have hbytes:Maps.size D*8<=140737488355328:=by have:=hown.size_le;omega
 clear h;have hbl:=hown.lt;have hseq:SeqGives Fence.wide 2 prog 244 #[.pointer (some ⟨w.heap.size,0,none⟩)] encZ (λ ss=>ss.Perm (intKeys D)) (Maps.size D) (w.alloc (.cells #[.map (some m)] 176)):=
  AnyZI.keys_gives (ρ:=Tryz.keysA_ren) {Tryz.keysA with} Fence.wide _ trivial rfl (by omega) w.heap.size m N D _ (by simp) (by simp) (by
   obtain ⟨es,clock,hb,Ft,hs,hD⟩:=hown;exact ⟨es,clock,(Below.heap_alloc _ _ m hbl).trans hb,Ft,hs,hD⟩)
 have cK:∀mb W,CallsIn Fence.wide 5 prog 134 #[.map mb] W λ e w'=>e= .returned (.func (.func 244) #[] #[.pointer (some ⟨W.heap.size,0,none⟩)])/\w'=W.alloc (.cells #[.map mb] 176):=λ mb W=>AnyZI.keys_in Tryz.keysA Fence.wide 5 trivial rfl mb W
 have cS:=AnyZI.sorted_in Tryz.sortedA Fence.wide 5 trivial trivial trivial trivial rfl (by omega) (zli _) (enters_of func243 (by kernel_rfl) rfl) 244 #[.pointer (some ⟨w.heap.size,0,none⟩)] trivial (enters_of func244 (by kernel_rfl) rfl) _ _ hmax hbytes _ hseq;change CallsIn _ _ prog 133 _ _ _ at cS
 have hfK:Fence.wide.fn 134:=trivial;have hfS:Fence.wide.fn 133:=trivial;clear hown hseq hmax hbytes hbl;refine callsIn_of_wp func78 rfl trivial ?_ rfl;simp only [ntmps78,List.size_toArray,List.length_cons,List.length_nil,Nat.reduceAdd,Nat.reduceSub,Array.replicate_succ,Array.replicate_zero,List.push_toArray,List.append_toArray,List.nil_append,List.cons_append]
 gi_wp2_with (first
  | (gi_at_call 134;refine (cK _ _).mono ?_;rintro e w' ⟨rfl,rfl⟩)
  | (gi_at_call 133;refine cS.mono ?_;rintro e w' ⟨v,ss,rfl,hS,hrow,hnil,hb⟩))
 go_ret;exact ⟨v,ss,rfl,hS,ownsRow_base_a hrow (by simp),hnil,((Below.refl _ w).alloc (Nat.le_refl _) _).trans (hb.mono (by simp))⟩
end Go.Proofs.YtebcjaenhiiflaaGreatDoor.S
namespace Go.Proofs
open Go.Proofs.Tryz
open Go.Shelf
def Tryz.keysL_ren:Go.Shelf.Ren:=⟨λ | 7=>137 | 10=>250 | n=>n,λ | 23=>183 | 26=>3 | 3=>3 | 28=>193 | 0=>0 | 27=>192 | 33=>173 | 4=>4 | n=>n,λ | n=>n⟩
theorem Tryz.keysL:Go.Proofs.SlLaysZI.n7 prog Tryz.keysL_ren:={
 mixed:=by kernel_rfl
 f7:=⟨Tryz.f137.name,by decide,func137.trans (congrArg some (by kernel_rfl))⟩
 f10:=⟨Tryz.f250.name,by decide,func250.trans (congrArg some (by kernel_rfl))⟩
 t0:=underlying0
 a0:=isAgg0
 z0:=sizeOf0
 v0:=zeroValue0
 t4:=underlying4
 a4:=isAgg4
 z4:=sizeOf4
 v4:=zeroValue4
 t23:=underlying183
 a23:=isAgg183
 z23:=sizeOf183
 v23:=zeroValue183
 t26:=underlying3
 a26:=isAgg3
 z26:=sizeOf3
 v26:=zeroValue3
 t27:=underlying192
 a27:=isAgg192
 z27:=sizeOf192
 v27:=zeroValue192
 t28:=underlying193
 a28:=isAgg193
 z28:=sizeOf193
 v28:=zeroValue193
 t33:=underlying173
 a33:=isAgg173
 z33:=sizeOf173
 v33:=zeroValue173}
def Tryz.keysG_ren:Go.Shelf.Ren:=⟨λ | 7=>138 | 10=>251 | n=>n,λ | 23=>199 | 26=>3 | 3=>48 | 28=>193 | 0=>0 | 27=>192 | 33=>173 | 4=>4 | n=>n,λ | n=>n⟩
theorem Tryz.keysG:Go.Proofs.SlLaysZI.n7 prog Tryz.keysG_ren:={
 mixed:=by kernel_rfl
 f7:=⟨Tryz.f138.name,by decide,func138.trans (congrArg some (by kernel_rfl))⟩
 f10:=⟨Tryz.f251.name,by decide,func251.trans (congrArg some (by kernel_rfl))⟩
 t0:=underlying0
 a0:=isAgg0
 z0:=sizeOf0
 v0:=zeroValue0
 t4:=underlying4
 a4:=isAgg4
 z4:=sizeOf4
 v4:=zeroValue4
 t23:=underlying199
 a23:=isAgg199
 z23:=sizeOf199
 v23:=zeroValue199
 t26:=underlying3
 a26:=isAgg3
 z26:=sizeOf3
 v26:=zeroValue3
 t27:=underlying192
 a27:=isAgg192
 z27:=sizeOf192
 v27:=zeroValue192
 t28:=underlying193
 a28:=isAgg193
 z28:=sizeOf193
 v28:=zeroValue193
 t33:=underlying173
 a33:=isAgg173
 z33:=sizeOf173
 v33:=zeroValue173}
end Go.Proofs
namespace Go.Proofs.YtebcjaenhiiflaaGreatDoor.S
open Go.Proofs.Tryz
open Go.RowKit Go.WideMaps Go.Maps Go.Shelf
theorem zx4 (mb:Option Nat) (W:World):Calls prog 137 #[.map mb] W λ e w'=>e= .returned (.func (.func 250) #[] #[.pointer (some ⟨W.heap.size,0,none⟩)])/\w'=W.alloc (.cells #[.map mb] 183):=
 (callsIn_wide (n:=5)).1 (AnyZI.keys_in Tryz.keysL Fence.wide 5 trivial rfl mb W)
theorem zrl (R:Value->Option (DataW Unit × List MemPlace)) (m N:Nat) (D:DataW Unit) (w:World) (hown:w.ownsMap prog 3 R m N D) (hN:N<=1000):
 Calls prog 133 #[.func (.func 250) #[] #[.pointer (some ⟨w.heap.size,0,none⟩)]] (w.alloc (.cells #[.map (some m)] 183)) λ e w'=>∃(v:Value) (ss:List Int),e= .returned v/\ss.Perm (intKeys D)/\
  w'.ownsRow w.heap.size 3 1 v ss.length ((ss.mergeSort (λ x y=>decide (x<=y))).map encZ)/\Below w.heap.size w w':=by
 have hmax:Maps.size D<=maxLen:=Nat.le_trans hown.size_le (by unfold maxLen;omega);have hbytes:Maps.size D*8<=140737488355328:=by have:=hown.size_le;omega
 have hbl:=hown.lt;have hseq:SeqGives Fence.wide 2 prog 250 #[.pointer (some ⟨w.heap.size,0,none⟩)] encZ (λ ss=>ss.Perm (intKeys D)) (Maps.size D) (w.alloc (.cells #[.map (some m)] 183)):=
  AnyZI.keys_gives (ρ:=Tryz.keysL_ren) {Tryz.keysL with} Fence.wide _ trivial rfl (by omega) w.heap.size m N D _ (by simp) (by simp) (by
   obtain ⟨es,clock,hb,Ft,hs,hD⟩:=hown;exact ⟨es,clock,(Below.heap_alloc _ _ m hbl).trans hb,Ft,hs,hD⟩)
 have cS:=AnyZI.sorted_in Tryz.sortedA Fence.wide 5 trivial trivial trivial trivial rfl (by omega) (zli _) (enters_of func243 (by kernel_rfl) rfl) 250 #[.pointer (some ⟨w.heap.size,0,none⟩)] trivial (enters_of func250 (by kernel_rfl) rfl) _ _ hmax hbytes _ hseq;change CallsIn _ _ prog 133 _ _ _ at cS
 refine (callsIn_wide.1 cS).mono ?_;rintro e w' ⟨v,ss,rfl,hS,hrow,hnil,hb⟩;exact ⟨v,ss,rfl,hS,ownsRow_base_a hrow (by simp),((Below.refl _ w).alloc (Nat.le_refl _) _).trans (hb.mono (by simp))⟩
theorem zym (mb:Option Nat) (W:World):Calls prog 138 #[.map mb] W λ e w'=>e= .returned (.func (.func 251) #[] #[.pointer (some ⟨W.heap.size,0,none⟩)])/\w'=W.alloc (.cells #[.map mb] 199):=
 (callsIn_wide (n:=5)).1 (AnyZI.keys_in Tryz.keysG Fence.wide 5 trivial rfl mb W)
theorem zpp (R:Value->Option (DataW Unit × List MemPlace)) (m N:Nat) (D:DataW Unit) (w:World) (hown:w.ownsMap prog 3 R m N D) (hN:N<=1000):
 Calls prog 133 #[.func (.func 251) #[] #[.pointer (some ⟨w.heap.size,0,none⟩)]] (w.alloc (.cells #[.map (some m)] 199)) λ e w'=>∃(v:Value) (ss:List Int),e= .returned v/\ss.Perm (intKeys D)/\
  w'.ownsRow w.heap.size 3 1 v ss.length ((ss.mergeSort (λ x y=>decide (x<=y))).map encZ)/\Below w.heap.size w w':=by
 have hmax:Maps.size D<=maxLen:=Nat.le_trans hown.size_le (by unfold maxLen;omega);have hbytes:Maps.size D*8<=140737488355328:=by have:=hown.size_le;omega
 have hbl:=hown.lt;have hseq:SeqGives Fence.wide 2 prog 251 #[.pointer (some ⟨w.heap.size,0,none⟩)] encZ (λ ss=>ss.Perm (intKeys D)) (Maps.size D) (w.alloc (.cells #[.map (some m)] 199)):=
  AnyZI.keys_gives (ρ:=Tryz.keysG_ren) {Tryz.keysG with} Fence.wide _ trivial rfl (by omega) w.heap.size m N D _ (by simp) (by simp) (by
   obtain ⟨es,clock,hb,Ft,hs,hD⟩:=hown;exact ⟨es,clock,(Below.heap_alloc _ _ m hbl).trans hb,Ft,hs,hD⟩)
 have cS:=AnyZI.sorted_in Tryz.sortedA Fence.wide 5 trivial trivial trivial trivial rfl (by omega) (zli _) (enters_of func243 (by kernel_rfl) rfl) 251 #[.pointer (some ⟨w.heap.size,0,none⟩)] trivial (enters_of func251 (by kernel_rfl) rfl) _ _ hmax hbytes _ hseq;change CallsIn _ _ prog 133 _ _ _ at cS
 refine (callsIn_wide.1 cS).mono ?_;rintro e w' ⟨v,ss,rfl,hS,hrow,hnil,hb⟩;exact ⟨v,ss,rfl,hS,ownsRow_base_a hrow (by simp),((Below.refl _ w).alloc (Nat.le_refl _) _).trans (hb.mono (by simp))⟩
theorem zm5 {w:World} {m N:Nat} {R:Value->Option (DataW Unit × List MemPlace)} {D:DataW Unit} (hm:w.ownsMap prog 3 R m N D) {K ss:List Int} (hK:K.Pairwise (·<·)) (hk:∀x:Int,Maps.has D (.int .i64 x)=true↔x∈K) (hp:ss.Perm (intKeys D)):
 (ss.mergeSort λ x y=>decide (x<=y))=K/\ss.length=K.length:=by
 have hc:CollectedI D (λ _=>false) K:=⟨hK.imp (λ h=>by omega),λ x=>by rw [hk x];simp⟩;have hp':ss.Perm K:=hp.trans (hc.perm hm za6 underlying3 (λ _=>rfl)).symm;refine ⟨?_,hp'.length_eq⟩;rw [mergeSort_of_perm_i hp'];exact List.mergeSort_of_pairwise (hK.imp (λ h=>by simp;omega))
end Go.Proofs.YtebcjaenhiiflaaGreatDoor.S
namespace Go.Proofs
open Go.Proofs.Tryz
open Go.Shelf
def Tryz.keysR_ren:Go.Shelf.Ren:=⟨λ | 7=>261 | 10=>326 | n=>n,λ | 23=>204 | 26=>3 | 3=>208 | 28=>193 | 0=>0 | 27=>192 | 33=>173 | 4=>4 | n=>n,λ | n=>n⟩
theorem Tryz.keysR:Go.Proofs.SlLaysZI.n7 prog Tryz.keysR_ren:={
 mixed:=by kernel_rfl
 f7:=⟨Tryz.f261.name,by decide,func261.trans (congrArg some (by kernel_rfl))⟩
 f10:=⟨Tryz.f326.name,by decide,func326.trans (congrArg some (by kernel_rfl))⟩
 t0:=underlying0
 a0:=isAgg0
 z0:=sizeOf0
 v0:=zeroValue0
 t4:=underlying4
 a4:=isAgg4
 z4:=sizeOf4
 v4:=zeroValue4
 t23:=underlying204
 a23:=isAgg204
 z23:=sizeOf204
 v23:=zeroValue204
 t26:=underlying3
 a26:=isAgg3
 z26:=sizeOf3
 v26:=zeroValue3
 t27:=underlying192
 a27:=isAgg192
 z27:=sizeOf192
 v27:=zeroValue192
 t28:=underlying193
 a28:=isAgg193
 z28:=sizeOf193
 v28:=zeroValue193
 t33:=underlying173
 a33:=isAgg173
 z33:=sizeOf173
 v33:=zeroValue173}
end Go.Proofs
namespace Go.Proofs.YtebcjaenhiiflaaGreatDoor.S
open Go.Proofs.Tryz
open Go.RowKit Go.WideMaps Go.Maps Go.Shelf
theorem zzs (mb:Option Nat) (W:World):Calls prog 261 #[.map mb] W λ e w'=>e= .returned (.func (.func 326) #[] #[.pointer (some ⟨W.heap.size,0,none⟩)])/\w'=W.alloc (.cells #[.map mb] 204):=
 (callsIn_wide (n:=5)).1 (AnyZI.keys_in Tryz.keysR Fence.wide 5 trivial rfl mb W)
theorem zqb (R:Value->Option (DataW Unit × List MemPlace)) (m N:Nat) (D:DataW Unit) (w:World) (hown:w.ownsMap prog 3 R m N D) (hN:N<=1000):
 Calls prog 133 #[.func (.func 326) #[] #[.pointer (some ⟨w.heap.size,0,none⟩)]] (w.alloc (.cells #[.map (some m)] 204)) λ e w'=>∃(v:Value) (ss:List Int),e= .returned v/\ss.Perm (intKeys D)/\
  w'.ownsRow w.heap.size 3 1 v ss.length ((ss.mergeSort (λ x y=>decide (x<=y))).map encZ)/\Below w.heap.size w w':=by
 have hmax:Maps.size D<=maxLen:=Nat.le_trans hown.size_le (by unfold maxLen;omega);have hbytes:Maps.size D*8<=140737488355328:=by have:=hown.size_le;omega
 have hbl:=hown.lt;have hseq:SeqGives Fence.wide 2 prog 326 #[.pointer (some ⟨w.heap.size,0,none⟩)] encZ (λ ss=>ss.Perm (intKeys D)) (Maps.size D) (w.alloc (.cells #[.map (some m)] 204)):=
  AnyZI.keys_gives (ρ:=Tryz.keysR_ren) {Tryz.keysR with} Fence.wide _ trivial rfl (by omega) w.heap.size m N D _ (by simp) (by simp) (by
   obtain ⟨es,clock,hb,Ft,hs,hD⟩:=hown;exact ⟨es,clock,(Below.heap_alloc _ _ m hbl).trans hb,Ft,hs,hD⟩)
 have cS:=AnyZI.sorted_in Tryz.sortedA Fence.wide 5 trivial trivial trivial trivial rfl (by omega) (zli _) (enters_of func243 (by kernel_rfl) rfl) 326 #[.pointer (some ⟨w.heap.size,0,none⟩)] trivial (enters_of func326 (by kernel_rfl) rfl) _ _ hmax hbytes _ hseq;change CallsIn _ _ prog 133 _ _ _ at cS
 refine (callsIn_wide.1 cS).mono ?_;rintro e w' ⟨v,ss,rfl,hS,hrow,hnil,hb⟩;exact ⟨v,ss,rfl,hS,ownsRow_base_a hrow (by simp),((Below.refl _ w).alloc (Nat.le_refl _) _).trans (hb.mono (by simp))⟩
def idV (R:List Edg):List Value:=R.map λ e=>.int .i64 e.1
theorem z3x (c mb rest:Nat) (S R:List Edg) (f:Edg->Nat) (w:World) (h:Co w c mb rest S f) (hS:∀e,e∈S↔e∈R) (hR:(R.map (·.1)).Pairwise (·<·)) (hl:∀D N,w.ownsMap prog 3 zb1 mb N D->Rm D S f->w.ownsMap prog 3 zb1 mb 1000 D):
 Calls prog 145 #[.pointer (some ⟨c,0,none⟩)] w λ e w'=>∃v,e= .returned v/\w'.ownsRow w.heap.size 3 1 v R.length (idV R)/\Below w.heap.size w w':=by
 have h1:=h.cell1;obtain ⟨D,N,ho,hm⟩:=h.mp;have ho':=hl D N ho hm;have hk:∀x:Int,Maps.has D (.int .i64 x)=true↔x∈R.map (·.1):=λ x=>by
  rw [hm.key,List.mem_map];constructor
  ·rintro ⟨e,he,h2⟩;injection h2 with _ h2;exact ⟨e,(hS e).1 he,h2.symm⟩
  ·rintro ⟨e,he,rfl⟩;exact ⟨e,(hS e).2 he,rfl⟩
 have HS:Hid _:=zqb zb1 mb 1000 D w ho' (Nat.le_refl _);have HK:Hid (∀ss:List Int,ss.Perm (intKeys D)->(ss.mergeSort λ x y=>decide (x<=y))=R.map (·.1)/\ss.length=(R.map (·.1)).length):=λ ss hp=>zm5 ho' hR hk hp
 clear h ho ho' hm hl hk hR hS;go_enter func145,ntmps145;go_wp2_with fail;refine (zzs (some mb) w).mono ?_;rintro e w1 ⟨rfl,hw1⟩;subst hw1;go_wp2_with fail;refine Calls.mono HS.out ?_;rintro e w2 ⟨v,ss,rfl,hp,hrow,hb⟩;have HF:Hid (w2.ownsRow w.heap.size 3 1 v R.length (idV R)/\Below w.heap.size w w2):=by
  refine ⟨?_,hb⟩;obtain ⟨h3,h4⟩:=HK.out ss hp;rw [h3,h4,List.length_map,List.map_map] at hrow;exact hrow
 clear hp hrow hb;go_wp2_with fail;go_ret;exact ⟨_,rfl,HF.out.1,HF.out.2⟩
end Go.Proofs.YtebcjaenhiiflaaGreatDoor.S
