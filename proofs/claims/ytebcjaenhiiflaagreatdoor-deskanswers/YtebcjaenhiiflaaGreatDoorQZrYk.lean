import Derived.Test.YtebcjaenhiiflaaGreatDoorQZmZw
import Derived.Test.YtebcjaenhiiflaaGreatDoorQZx
import Derived.Lib.TrimUEq
set_option maxHeartbeats 4000000
set_option maxRecDepth 100000
namespace Go.Proofs.Y.I
open Go.RowKit Go.WideMaps Go.Maps Go.Lib Go.Proofs.Tryz
variable {w0 wa w w':World} {d dm n:Nat} {L:List G.E}
noncomputable def doD (f n:Nat)(L:List G.E):List Int->Out
 |[]=>
  if f=152 then(.ok ([98,108,111,99,107,115]++[32]++Fb (blz n L)),n,L)
  else if f=153 then(.ok ([98,114,105,100,103,101,115]++[32]++Ah (brz n L)),n,L)
  else if f=154 then(.ok ([99,117,116,115]++[32]++Ah (Gc n L)),n,L)
  else if f=156 then(.ok ([101,100,103,101,115]++[32]++J6 L),n,L)
  else if f=157 then(.ok Zv,n,L)
  else if f=159 then(.ok ([112,97,105,114,115]++[32]++Ex (prz n L)),n,L)
  else if f=160 then(.ok [114,101,108,111,97,100],n,L)
  else if f=161 then(.ok ([115,112,108,105,116,115]++[32]++Ex (spi n L)),n,L)
  else(.ok ([116,104,114,105,99,101]++[32]++Fb (thz n L)),n,L)
 |[i]=>if f=155 then Mk n L i else Jo n L i
 |[i,j]=>if f=163 then Jv n L i j else if f=164 then Km n L i j else Jp n L i j
 |[i,a,b]=>Pj n L i a b
 |_=>(.error 3,n,L)
theorem I6 {a b x:Nat}(h:IV w a b x n L)(i j:Int):∃k1 k2 c,S.WE n L i j k1 c/\S.WN n L i j k2 c:=by
 obtain⟨_,_,_,⟨k1,c1,h1,_⟩,_⟩:=zky h i j [];obtain⟨_,_,_,⟨k2,c2,h2,_⟩,_⟩:=zsu h i j [];obtain rfl:=S.zt1 h1 h2;exact⟨k1,k2,c1,h1,h2⟩
theorem zms {t:List UInt8 × Int × Nat}{ns:List Int}{u:Value}(ht:t∈Bb)(h:DkS w0 wa d dm n L)(hn:F7 wa w ns u)(hl:(ns.length:Int)=t.2.1)(hv:Vars wa):
 Calls prog t.2.2 #[.pointer d,u] w (G7 w0 d dm (doD t.2.2 n L ns) wa):=by
 obtain⟨a,b,x,EZ,hc⟩:=(h.below' hn.2).iv;have TE:=hv.below hn.2;have rd:∀{f:Nat} {bs:List UInt8},(Calls prog f #[.pointer d,u] w λ e w'=>e=Value.string ⟨bs.toArray⟩/\Below w w w')->Calls prog f #[.pointer d,u] w (G7 w0 d dm (.ok bs,n,L) wa):=λ {f bs} k=>
  k.mono (by rintro e w' ⟨rfl,hb⟩;exact Mo h rfl (hn.2.tr hb))
 simp only[Bb,cO,gD,kC] at ht
 match ns,hn,hl with
 |[],hn,hl=>
  rcases ht with rfl|rfl|rfl|rfl|rfl|rfl|rfl|rfl|rfl|rfl|rfl|rfl|rfl|rfl|rfl <;> first
   |(exfalso;simp at hl;done)
   |exact rd (zh9 u EZ hc TE)
   |exact rd (zdg u EZ hc TE)
   |exact rd (zpm u EZ hc TE)
   |exact rd (zkr u EZ hc TE)
   |exact rd (zj5 d u w)
   |exact rd (zl0 u EZ hc TE)
   |exact zjw u h hn.2 TE
   |exact rd (zj3 u EZ hc TE)
   |exact rd (zi5 u EZ hc TE)
 |[i],hn,hl=>
  rcases ht with rfl|rfl|rfl|rfl|rfl|rfl|rfl|rfl|rfl|rfl|rfl|rfl|rfl|rfl|rfl <;> first
   |(exfalso;simp at hl;done)
   |exact zpq h hn
   |exact zmb h hn
 |[i,j],hn,hl=>
  rcases ht with rfl|rfl|rfl|rfl|rfl|rfl|rfl|rfl|rfl|rfl|rfl|rfl|rfl|rfl|rfl <;> first
   |(exfalso;simp at hl;done)
   |exact zlo h hn
   |exact zor h hn hv (I6 EZ i j)
   |exact zki h hn
 |[i,a,b],hn,hl=>
  rcases ht with rfl|rfl|rfl|rfl|rfl|rfl|rfl|rfl|rfl|rfl|rfl|rfl|rfl|rfl|rfl <;> first
   |(exfalso;simp at hl;done)
   |exact ztn h hn
 |i::j::k::m::r,hn,hl=>
  exfalso;simp only[bD] at hl;rcases ht with rfl|rfl|rfl|rfl|rfl|rfl|rfl|rfl|rfl|rfl|rfl|rfl|rfl|rfl|rfl <;> (dsimp only at hl;omega)
theorem zac {t:List UInt8 × Int × Nat}(ht:t∈Bb):∀args w,(callFunc t.2.2 args).run prog w= .ok (.enter t.2.2 args) w:=by
 simp only[Bb,cO,gD,kC] at ht;rcases ht with rfl|rfl|rfl|rfl|rfl|rfl|rfl|rfl|rfl|rfl|rfl|rfl|rfl|rfl|rfl
 ·exact enters_of func151 (by kernel_rfl) rfl
 ·exact enters_of func152 (by kernel_rfl) rfl
 ·exact enters_of func153 (by kernel_rfl) rfl
 ·exact enters_of func154 (by kernel_rfl) rfl
 ·exact enters_of func155 (by kernel_rfl) rfl
 ·exact enters_of func156 (by kernel_rfl) rfl
 ·exact enters_of func157 (by kernel_rfl) rfl
 ·exact enters_of func158 (by kernel_rfl) rfl
 ·exact enters_of func159 (by kernel_rfl) rfl
 ·exact enters_of func160 (by kernel_rfl) rfl
 ·exact enters_of func161 (by kernel_rfl) rfl
 ·exact enters_of func162 (by kernel_rfl) rfl
 ·exact enters_of func163 (by kernel_rfl) rfl
 ·exact enters_of func164 (by kernel_rfl) rfl
 ·exact enters_of func165 (by kernel_rfl) rfl
theorem Xd {f:Nat}{ns:List Int}{c:Int}(hk:∀i j,∃k1 k2 c,S.WE n L i j k1 c/\S.WN n L i j k2 c)(h:(doD f n L ns).1= .error c):0<=c/\c<=100:=by
 have ha:∀i a b,0<=Bn n L i a b/\Bn n L i a b<=100:=λ i a b=>by
  unfold Bn
  repeat' split
  all_goals omega
 match ns with
 |[]=>
  exfalso;simp only[doD] at h
  repeat' split at h
  all_goals cases h
 |[i]=>
  simp only[doD] at h;split at h
  ·unfold Mk Gf at h
   repeat' split at h
   all_goals first|cases h|(injection h with h;omega)
   all_goals omega
  ·unfold Jo at h
   split at h
   ·cases h
   ·injection h with h;omega
 |[i,j]=>
  simp only[doD] at h;split at h
  ·unfold Jv at h
   split at h
   ·cases h
   ·injection h with h;omega
  ·split at h
   ·unfold Km at h
    split at h
    ·cases h
    ·injection h with h
     obtain⟨k1,k2,c',h1,h2⟩:=hk i j;rw[Uq h1] at h;have:=(Na h1).2;dsimp only at h;omega
   ·unfold Jp at h
    split at h
    ·cases h
    ·injection h with h;omega
 |[i,a,b]=>
  simp only[doD] at h;unfold Pj at h;split at h
  ·cases h
  ·injection h with h
   have:=ha i a b;omega
 |i::j::k::m::r=>
  simp only[doD] at h;injection h with h
  omega
noncomputable def Ch (n:Nat)(L:List G.E):List (List UInt8)->Out
 |[]=>(.ok [111,107],n,L)
 |x::r=>match Ck x with
  |none=>(.error 3,n,L)
  |some t=>if (r.length:Int)=t.2.1 then(match Bz r with
   |none=>(.error 3,n,L)
   |some ns=>doD t.2.2 n L ns) else(.error 3,n,L)
def El:Except Int (List UInt8)->List UInt8
 | .ok b=>b
 | .error c=>[101,114,114,111,114,32]++Lib.itoa c
end Go.Proofs.Y.I
namespace Go.Proofs.Y.I
open Go.RowKit Go.WideMaps Go.Maps Go.Lib Go.Proofs.Tryz
variable {w0 w w':World} {q n:Nat} {L:List G.E}
def DG (w0 w:World)(q n:Nat)(L:List G.E):Prop:=
 ∃u R,G.GAt w w0 40 61 q (n:Int) u R/\R.Perm L/\Ok n L/\Below w0 w0 w/\w0<=q
structure KR (q:Nat) (w w':World):Prop where
 size:w.heap.size<=w'.heap.size
 same:∀(k:Nat) (o:Obj),w.heap[k]? =some o->k≠q->(∀c fz,o≠ .cells c 61 fz)->w'.heap[k]? =some o
theorem KR.of_below (hb:Below w w w'):KR q w w':=⟨hb.size,λ k _ hk _ _=>(hb.block k (G.lt_of_some hk)).trans hk⟩
theorem KR.trans {w2:World}(h:KR q w w')(k:KR q w' w2):KR q w w2:=⟨aD h.size k.size,λ j o h1 h2 h3=>k.same j o (h.same j o h1 h2 h3) h2 h3⟩
theorem DG.ok (h:DG w0 w q n L):Ok n L:=by
 obtain⟨u,R,_,_,h,_⟩:=h;exact h
theorem DG.base (h:DG w0 w q n L):Below w0 w0 w:=by
 obtain⟨u,R,_,_,_,h,_⟩:=h;exact h
theorem DG.dv (h:DG w0 w q n L):DV w q n L:=by
 obtain⟨u,R,h1,h2,_⟩:=h;exact⟨_,u,R,h1,h2⟩
theorem DG.below' (h:DG w0 w q n L)(hb:Below w w w'):DG w0 w' q n L:=by
 obtain⟨u,R,h1,h2,h3,h4,h5⟩:=h;exact⟨u,R,h1.below hb,h2,h3,h4.tr hb,h5⟩
def Says (o:Except Int (List UInt8))(e:Ending):Prop:=
 ∃a c,e=Value.tuple #[.string a,.int .i64 c]/\((∃b,o= .ok b/\a=⟨b.toArray⟩/\c=0)\/(o= .error c/\c≠0))
def C9 (w0:World)(q:Nat)(o:Out)(w:World)(e:Ending)(w':World):Prop:=Says o.1 e/\DG w0 w' q o.2.1 o.2.2/\KR q w w'
theorem Es {bs:List UInt8}{e:Ending}(h:DG w0 w q n L)(he:e=Value.tuple #[.string ⟨bs.toArray⟩,(0:Int)])(hb:Below w w w'):C9 w0 q (.ok bs,n,L) w e w':=
 ⟨⟨_,_,he,.inl ⟨bs,rfl,rfl,rfl⟩⟩,h.below' hb,KR.of_below hb⟩
theorem Nv {a:ByteArray}{c:Int}{e:Ending}(h:DG w0 w q n L)(he:e=Value.tuple #[.string a,c])(hc:c≠0)(hb:Below w w w'):C9 w0 q (.error c,n,L) w e w':=
 ⟨⟨_,_,he,.inr ⟨rfl,hc⟩⟩,h.below' hb,KR.of_below hb⟩
theorem Dk (w:World)(p8:Ok n L):∃w' a b x,IV w' a b x n L:=by
 have j4:Below w w ((w.alloc (.cells (G.Af L).toArray 61)).alloc (.cells #[n,.slice w L.length L.length] 168)):=(b_).alloc (by simp) _;have h1:G.GAt ((w.alloc (.cells (G.Af L).toArray 61)).alloc (.cells #[n,.slice w L.length L.length] 168)) w 168 61 (w+1) (n:Int) (.slice w L.length L.length) L:=by
  refine⟨?_,⟨G.Ae L,.inr ⟨w.heap.size,L.length,(G.Af L).toArray,rfl,aF _,?_,aF _,?_,?_,?_⟩⟩,by simp[Value.ownBlock]⟩
  ·have:=World.alloc_heap_new (w.alloc (.cells (G.Af L).toArray 61)) (.cells #[n,.slice w L.length L.length] 168)
   rwa[aT] at this
  ·exact(bG _ _ _ (by simp)).trans (World.alloc_heap_new w _)
  ·have:=p8.len
   unfold maxLen;omega
  ·rw[bZ,G.Ae]
  ·rw[<-G.Ae,bK]
 obtain⟨_,w2,_,⟨p,pw,bw,pt,bt,mp,B,W,T,D,N,_,h2⟩,_⟩:=S.yh n w (w+1) _ L _ h1 p8 [];have y8:Below w2 w2 (w2.alloc (.cells #[.pointer (w.heap.size+1:Nat),.pointer p] 85)):=b_;have SB:Ix (w2.alloc (.cells #[.pointer (w.heap.size+1:Nat),.pointer p] 85)) w2 (w+1) p:=World.alloc_heap_new w2 _;have DJ:=(j4.tr h2.below).size;exact⟨_,0,_,w2.heap.size,IAt.iv (w0:=w) ⟨SB,(h1.below h2.below).below y8,(zb2 h2 j4).below' y8,p8,eO _,DJ,by omega⟩ (aF _) (aN _)⟩
theorem zg6 (u:Value)(h:DG w0 w q n L)(hv:Vars w):Calls prog 93 #[.pointer q,.string ⟨#[98,114,105,100,103,101,115]⟩,u] w (C9 w0 q (.ok ([98,114,105,100,103,101,115]++[32]++Ah (brz n L)),n,L) w):=by
 have HH:=kd h;have HV:=kd hv;obtain⟨w9,a9,b9,x9,hi⟩:=Dk w h.ok;obtain⟨W,T,B,s⟩:=hi.st;have HD:=kd (qf h.dv h.ok s);have HR:=kd (Jh hi);have hl:=R5 hi;have FK:=Ce (Jh hi);generalize brz n L=K at*;clear h hv hi;go_enter func93,ntmps93;go_wp2_with fail;refine aA HD.o ?_;rintro e w1 ⟨a,c,rfl,hz,j4⟩;have x8:=kd j4;have HT:=kd (Nu c hz HR.o (by omega) (HV.o.below j4));clear hz j4 HD;go_wp2_with fail;refine aA HT.o ?_;rintro e w2 ⟨rfl,j5⟩;have y5:=kd (x8.o.tr j5);clear j5 HT;go_wp2_with fail;go_ret2;refine Es HH.o ?_ y5.o;show Ending.returned (.tuple #[.string ((⟨[98,114,105,100,103,101,115,32].toArray⟩:ByteArray)++⟨(Ah K).toArray⟩),(0:Int)])=_;rw[Bv];rfl
theorem zr6 (u:Value)(h:DG w0 w q n L)(hv:Vars w):Calls prog 93 #[.pointer q,.string ⟨#[99,117,116,115]⟩,u] w (C9 w0 q (.ok ([99,117,116,115]++[32]++Ah (Gc n L)),n,L) w):=by
 have HH:=kd h;have HV:=kd hv;obtain⟨w9,a9,b9,x9,hi⟩:=Dk w h.ok;have HD:=kd (zu0 h.dv h.ok);have HR:=kd (Ib hi);have hl:=Te hi;have FK:=Ce (Ib hi);generalize Gc n L=K at*;clear h hv hi;go_enter func93,ntmps93;go_wp2_with fail;refine aA HD.o ?_;rintro e w1 ⟨a,c,rfl,hz,j4⟩;have x8:=kd j4;have HT:=kd (Nu c hz HR.o (by omega) (HV.o.below j4));clear hz j4 HD;go_wp2_with fail;refine aA HT.o ?_;rintro e w2 ⟨rfl,j5⟩;have y5:=kd (x8.o.tr j5);clear j5 HT;go_wp2_with fail;go_ret2;refine Es HH.o ?_ y5.o;show Ending.returned (.tuple #[.string ((⟨[99,117,116,115,32].toArray⟩:ByteArray)++⟨(Ah K).toArray⟩),(0:Int)])=_;rw[Bv];rfl
theorem zmz (u:Value)(h:DG w0 w q n L)(hv:Vars w):Calls prog 93 #[.pointer q,.string ⟨#[98,108,111,99,107,115]⟩,u] w (C9 w0 q (.ok ([98,108,111,99,107,115]++[32]++Fb (blz n L)),n,L) w):=by
 have HH:=kd h;have HV:=kd hv;obtain⟨w9,a9,b9,x9,hi⟩:=Dk w h.ok;have HD:=kd (zpy h.dv h.ok);have HR:=kd (Hm hi);have FK:=Fx (Hm hi).1 (Hm hi).2;generalize blz n L=K at*;clear h hv hi;go_enter func93,ntmps93;go_wp2_with fail;refine aA HD.o ?_;rintro e w1 ⟨a,c,rfl,hz,j4⟩;have x8:=kd j4;have HT:=kd (R9 (c:=c) hz HR.o.1 HR.o.2 (HV.o.below j4));clear hz j4 HD;go_wp2_with fail;refine aA HT.o ?_;rintro e w2 ⟨rfl,j5⟩;have y5:=kd (x8.o.tr j5);clear j5 HT;go_wp2_with fail;go_ret2;refine Es HH.o ?_ y5.o;show Ending.returned (.tuple #[.string ((⟨[98,108,111,99,107,115,32].toArray⟩:ByteArray)++⟨(Fb K).toArray⟩),(0:Int)])=_;rw[Bv];rfl
theorem zns (u:Value)(h:DG w0 w q n L)(hv:Vars w):Calls prog 93 #[.pointer q,.string ⟨#[116,104,114,105,99,101]⟩,u] w (C9 w0 q (.ok ([116,104,114,105,99,101]++[32]++Fb (thz n L)),n,L) w):=by
 have HH:=kd h;have HV:=kd hv;obtain⟨w9,a9,b9,x9,hi⟩:=Dk w h.ok;have HD:=kd (zpv h.dv h.ok);have HR:=kd (Hg hi);have FK:=Fx (Hg hi).1 (Hg hi).2;generalize thz n L=K at*;clear h hv hi;go_enter func93,ntmps93;go_wp2_with fail;refine aA HD.o ?_;rintro e w1 ⟨a,c,rfl,hz,j4⟩;have x8:=kd j4;have HT:=kd (R9 (c:=c) hz HR.o.1 HR.o.2 (HV.o.below j4));clear hz j4 HD;go_wp2_with fail;refine aA HT.o ?_;rintro e w2 ⟨rfl,j5⟩;have y5:=kd (x8.o.tr j5);clear j5 HT;go_wp2_with fail;go_ret2;refine Es HH.o ?_ y5.o;show Ending.returned (.tuple #[.string ((⟨[116,104,114,105,99,101,32].toArray⟩:ByteArray)++⟨(Fb K).toArray⟩),(0:Int)])=_;rw[Bv];rfl
theorem zqi (u:Value)(h:DG w0 w q n L)(hv:Vars w):Calls prog 93 #[.pointer q,.string ⟨#[112,97,105,114,115]⟩,u] w (C9 w0 q (.ok ([112,97,105,114,115]++[32]++Ex (prz n L)),n,L) w):=by
 have HH:=kd h;have HV:=kd hv;obtain⟨w9,a9,b9,x9,hi⟩:=Dk w h.ok;have HD:=kd (dpairs' h.dv h.ok);have HR:=kd (Hw hi);have FK:=F3 (Hw hi).1 (Hw hi).2;generalize prz n L=K at*;clear h hv hi;go_enter func93,ntmps93;go_wp2_with fail;refine aA HD.o ?_;rintro e w1 ⟨a,c,rfl,hz,j4⟩;have x8:=kd j4;have HT:=kd (zob (c:=c) hz HR.o.1 HR.o.2 (HV.o.below j4));clear hz j4 HD;go_wp2_with fail;refine aA HT.o ?_;rintro e w2 ⟨rfl,j5⟩;have y5:=kd (x8.o.tr j5);clear j5 HT;go_wp2_with fail;go_ret2;refine Es HH.o ?_ y5.o;show Ending.returned (.tuple #[.string ((⟨[112,97,105,114,115,32].toArray⟩:ByteArray)++⟨(Ex K).toArray⟩),(0:Int)])=_;rw[Bv];rfl
theorem zmw (u:Value)(h:DG w0 w q n L)(hv:Vars w):Calls prog 93 #[.pointer q,.string ⟨#[115,112,108,105,116,115]⟩,u] w (C9 w0 q (.ok ([115,112,108,105,116,115]++[32]++Ex (spi n L)),n,L) w):=by
 have HH:=kd h;have HV:=kd hv;obtain⟨w9,a9,b9,x9,hi⟩:=Dk w h.ok;have HD:=kd (dsplits' h.dv h.ok);have HR:=kd (Hr hi);have FK:=F3 (Hr hi).1 (Hr hi).2;generalize spi n L=K at*;clear h hv hi;go_enter func93,ntmps93;go_wp2_with fail;refine aA HD.o ?_;rintro e w1 ⟨a,c,rfl,hz,j4⟩;have x8:=kd j4;have HT:=kd (zob (c:=c) hz HR.o.1 HR.o.2 (HV.o.below j4));clear hz j4 HD;go_wp2_with fail;refine aA HT.o ?_;rintro e w2 ⟨rfl,j5⟩;have y5:=kd (x8.o.tr j5);clear j5 HT;go_wp2_with fail;go_ret2;refine Es HH.o ?_ y5.o;show Ending.returned (.tuple #[.string ((⟨[115,112,108,105,116,115,32].toArray⟩:ByteArray)++⟨(Ex K).toArray⟩),(0:Int)])=_;rw[Bv];rfl
theorem zsh (u:Value)(h:DG w0 w q n L):Calls prog 93 #[.pointer q,.string ⟨#[104,101,108,112]⟩,u] w (C9 w0 q (.ok Zv,n,L) w):=by
 have HH:=kd h;clear h;go_enter func93,ntmps93;go_wp2_with fail;go_ret2;exact Es HH.o (by kernel_rfl) (aI _ _)
theorem zni (u:Value)(h:DG w0 w q n L):Calls prog 93 #[.pointer q,.string ⟨#[114,101,108,111,97,100]⟩,u] w (C9 w0 q (.ok [114,101,108,111,97,100],n,L) w):=by
 have HH:=kd h;clear h;go_enter func93,ntmps93;go_wp2_with fail;go_ret2;exact Es HH.o rfl (aI _ _)
end Go.Proofs.Y.I
namespace Go.Proofs.Y.I
open Go.RowKit Go.WideMaps Go.Maps Go.Lib Go.Proofs.Tryz
variable {w0 w w':World} {q n:Nat} {L:List G.E}
theorem zbu {M R:List G.E}{u:Value}(hg:G.GAt w w0 40 61 q (n:Int) u R)(hs:G.Jd w w' w0 40 q (n:Int) u M):KR q w w':=by
 obtain⟨v',_,hk,_⟩:=hs;refine⟨hk.size,λ k o h1 h2 h3=>(hk.block k (G.lt_of_some h1) h2 (λ e=>?_)).trans h1⟩;obtain⟨cur,EM⟩:=Hz hg.row e.symm;rw[h1] at EM;injection EM with EM
 exact h3 _ _ EM
theorem zbj {M M' R:List G.E}{u:Value}(h:Below w0 w0 w)(hq:w0<=q)(hg:G.GAt w w0 40 61 q (n:Int) u R)(hs:G.Jd w w' w0 40 q (n:Int) u M)(hp:M.Perm M')(p8:Ok n M'):DG w0 w' q n M':=by
 obtain⟨v',h1,hk,_⟩:=hs;exact⟨v',M,h1,hp,p8,below_kept' h hk hq (λ j hj=>(hg.lt hj).1),hq⟩
theorem ztj (h:DG w0 w q n L)(id a b:Int):Calls prog 20 #[.pointer q,id,a,b] w λ e w'=>e=(Bn n L id a b:Int)/\DG w0 w' q n (Fh n L id a b)/\KR q w w':=by
 have hd:=h;obtain⟨u,R,h1,h2,h3,h4,h5⟩:=h;refine(zmk q n w0 u R L id a b w h1 h4.size h3 h2).mono ?_;rintro e w' ⟨rfl,⟨hc,hs⟩|⟨hc,hb⟩⟩
 ·refine⟨rfl,?_,zbu h1 hs⟩
  have hf:=(Ra h3 id a b).1 hc;unfold Fh;rw[aP hc];exact zbj h4 h5 h1 hs (zkw _ _ _ h2) (h3.put hf)
 ·refine⟨rfl,?_,KR.of_below hb⟩
  unfold Fh;rw[aL hc];exact hd.below' hb
theorem zrh (h:DG w0 w q n L)(id:Int):Calls prog 19 #[.pointer q,id] w λ e w'=>e=(Gf L id:Int)/\DG w0 w' q n (Ey L id)/\KR q w w':=by
 have hd:=h;obtain⟨u,R,h1,h2,h3,h4,h5⟩:=h;have hi:G.Inv R L:=h3.inv h2;refine(G.ziz id (n:Int) w0 q u R w h1 h4.size (by rw[hi.rz];exact h3.len)).mono ?_;rintro e w' (⟨hn,rfl,hb⟩|⟨i,y,hy,hyi,rfl,hs⟩)
 ·have k3:G.seen L id=none:=G.seen_none (λ y hy=>hn y (h2.mem_iff.2 hy))
  refine⟨by simp[Gf,k3],?_,KR.of_below hb⟩;have e:Ey L id=L:=by simp[Ey,k3]
  rw[e];exact hd.below' hb
 ·rcases Uc h3.up id with⟨z,k1,k2,k3⟩|⟨k1,_⟩
  ·refine⟨by simp[Gf,k3],?_,zbu h1 hs⟩
   have e:Ey L id=L.take (G.place L id)++L.drop (G.place L id+1):=by simp[Ey,k3]
   rw[e];exact zbj h4 h5 h1 hs (hi.out hy k1 (hyi.trans k2.symm)).perm (h3.sub (zbf L _))
  ·exact absurd hyi (k1 y (h2.mem_iff.1 (aG hy)))
theorem zs4 {i:Int}{g c:Nat}(h:DG w0 w q n L)(hc:w.cell? g=i):Calls prog 93 #[.pointer q,.string ⟨#[100,114,111,112]⟩,.slice g 1 c] w (C9 w0 q (Mk n L i) w):=by
 have HD:=kd (zrh h i);clear h;go_enter func93,ntmps93;go_wp2_with fail;refine aA HD.o ?_;rintro e w1 ⟨rfl,hd,hk⟩;have H1:=kd (And.intro hd hk);clear hd hk HD;go_wp2_with fail;go_ret2;unfold Mk;by_cases hz:Gf L i=0
 ·rw[aP hz]
  exact⟨⟨_,_,rfl,.inl ⟨_,rfl,rfl,hz⟩⟩,H1.o.1,H1.o.2⟩
 ·rw[aL hz]
  have e1:Ey L i=L:=by
   unfold Gf at hz;unfold Ey;split at hz
   ·exact absurd rfl hz
   ·next h=>rw[aL h]
  have:=H1.o.1;rw[e1] at this;exact⟨⟨_,_,rfl,.inr ⟨rfl,hz⟩⟩,this,H1.o.2⟩
theorem zr3 {k:Nat}(h:DG w0 w q n L)(hk:k<=40):DG w0 ((w.setCell q k).setCell (q,1) (.slice none 0 0)) q k []/\KR q w ((w.setCell q k).setCell (q,1) (.slice none 0 0)):=by
 obtain⟨u,R,h1,h2,h3,h4,h5⟩:=h;have oth:∀j,j≠q->((w.setCell q k).setCell (q,1) (.slice none 0 0)).heap[j]? =w.heap[j]? :=λ j hj=>(aV _ _ _ _ hj).trans (aV _ _ _ _ hj)
 refine⟨⟨.slice none 0 0,[],⟨?_,aX _ _ _ _,by simp[Value.ownBlock]⟩,eO _,Ok.nil hk,⟨h4.os,h4.tape,h4.output,by simp;exact h4.size,λ j hj=>(oth j (by omega)).trans (h4.block j hj)⟩,h5⟩,by simp,λ j o a1 a2 _=>(oth j a2).trans a1⟩;simp only[World.setCell,dC,h1.hp];simp
theorem zox {i:Int}{g c:Nat}(h:DG w0 w q n L)(hc:w.cell? g=i):Calls prog 93 #[.pointer q,.string ⟨#[110,111,100,101,115]⟩,.slice g 1 c] w (C9 w0 q (Jo n L i) w):=by
 have HH:=kd h;unfold Jo;obtain⟨u,R,h1,_⟩:=h;have c0:w.cell? q=n:=by simp[World.cell?,h1.hp]
 have c1:w.cell? (q,1)=some u:=by simp[World.cell?,h1.hp]
 have f0:w.frozen? q=false:=by simp[World.frozen?,h1.hp]
 have f1:w.frozen? (q,1)=false:=by simp[World.frozen?,h1.hp]
 clear h1;by_cases hk:0<=i/\i<=40
 ·rw[aP hk]
  obtain⟨k,rfl⟩:=dE hk.1;have HI:=kd (G.E5 (k:Int) 0 40 w (by omega));have HN:=kd (zr3 (k:=k) HH.o (by omega));clear hk;go_enter func93,ntmps93;go_wp2_with fail;refine aA HI.o ?_;rintro e w1 ⟨rfl,AR⟩;subst w1;go_wp2_with fail;go_ret2;refine⟨⟨_,_,rfl,.inl ⟨_,rfl,rfl,rfl⟩⟩,?_,HN.o.2⟩;show DG w0 _ q (k:Int).toNat [];rw[jN];exact HN.o.1
 ·rw[aL hk]
  have HI:=kd (G.Mh i 0 40 w (by omega));clear hk;go_enter func93,ntmps93;go_wp2_with fail;refine aA HI.o ?_;rintro e w1 ⟨rfl,AR⟩;subst w1;go_wp2_with fail;go_ret2;exact Nv HH.o rfl (by decide) (aI _ _)
end Go.Proofs.Y.I
namespace Go.Proofs.Y.I
open Go.RowKit Go.WideMaps Go.Maps Go.Lib Go.Proofs.Tryz
variable {w0 w w':World} {q n:Nat} {L:List G.E}
theorem zup {i a b:Int}{g c:Nat}{cur:Array Value}(h:DG w0 w q n L)(hg:w.heap[g]? =some (.cells cur 3))(hq:g≠q)(h0:w.cell? g=i)(h1:w.cell? (g,1)=a)(h2:w.cell? (g,2)=b):
 Calls prog 93 #[.pointer q,.string ⟨#[97,100,100]⟩,.slice g 3 c] w (C9 w0 q (Pj n L i a b) w):=by
 have HH:=kd h;have HG:=kd hg;have HQ:=kd hq;have hdw:DG w0 w.drew q n L:=h.below' (aI _ _).drew;have HA:=kd (ztj hdw i a b);have hS:w.drew.cell? g=i/\w.drew.cell? (g,1)=a/\w.drew.cell? (g,2)=b:=⟨h0,h1,h2⟩;clear h hg hq hdw h0 h1 h2;unfold Pj;by_cases hz:Bn n L i a b=0
 ·rw[aP hz]
  rw[hz] at HA;have HZ:=kd hz;clear hz;generalize Fh n L i a b=L2 at*;go_enter func93,ntmps93;go_wp2_with fail;refine wp_region_held_drew (S:=(λ w'=>w'.cell? g=i/\w'.cell? (g,1)=a/\w'.cell? (g,2)=b)) (by kernel_rfl) ?_ (λ hHeld=>?_)
  ·exact hS
  refine tk 0 ?_;refine tk 1 ?_;refine tk 2 ?_;refine tk 3 ?_;refine tk 4 ?_;refine tk 5 ?_;refine tk 6 ?_;refine tk 7 ?_;refine tk 8 ?_;refine tk 9 ?_;refine rd 10 (λ K hK=>?_);go_simp;refine aA HA.o ?_;rintro e w1 ⟨rfl,hd,hk⟩;have H1:=kd (And.intro hd hk);have AX:w1.heap[g]? =w.heap[g]? :=by rw[HG.o];exact hk.same g _ HG.o HQ.o (λ c fz e=>by cases e)
  have CO:w1.cell? g=i/\w1.cell? (g,1)=a/\w1.cell? (g,2)=b:=⟨A9 (w:=w) AX hS.1,A9 (w:=w) AX hS.2.1,A9 (w:=w) AX hS.2.2⟩;clear hd hk HA AX;refine hK.out _ _ ?_ (λ hHeld=>?_)
  ·exact CO
  clear hK K;refine rd 11 (λ K hK=>?_);go_simp;refine hK.out _ _ ?_ (λ hHeld=>?_)
  ·exact CO
  clear hK K;refine wpAnyH_done (by kernel_rfl) ?_ _;obtain⟨w9,a9,b9,x9,hi⟩:=Dk w1 H1.o.1.ok;obtain⟨W,T,B,s⟩:=hi.st;have HD:=kd (qf H1.o.1.dv H1.o.1.ok s);have hl:=R5 hi;generalize brz n L2=K at*;have XX:=kd (show KR q w w1 from⟨H1.o.2.size,H1.o.2.same⟩);clear s hi;go_wp2_with fail;refine aA HD.o ?_;rintro e w2 ⟨ad,cap,rfl,hzs,j5⟩;have HZS:=kd hzs;have y5:=kd j5;have FZ:w2.cell? g=i:=S.cell_below CO.1 j5;obtain⟨m,hm⟩:∃m,m=K.length:=⟨_,rfl⟩;have HM:=kd hm;rw[<-hm];have EJ:m<=120:=by omega
  clear hzs j5 HD hm hl hS CO;go_wp2_with fail;go_loopw [39] (λ s39 wq=>∃j:Nat,j<=m/\s39=j/\wq=w2/\∀k,k<j->K.getD k 0≠i) (λ s39 _=>m-(RowKit.intOf s39).toNat)
  case atStart=>exact⟨0,aN _,rfl,rfl,λ k hk=>absurd hk (kG _)⟩
  case round=>
   obtain⟨j,hj,rfl,rfl,AA⟩:=hrel;have DZ:=kd AA;clear AA;by_cases j6:j<m
   ·have hjK:j<K.length:=by have:=HM.o;omega
    obtain⟨nb,FT,AO⟩:=HZS.o (by omega);subst FT;have ED:=AO j hjK;obtain⟨y,hy⟩:∃y,K.getD j 0=y:=⟨_,rfl⟩;rw[hy] at ED;have HY:=kd hy;clear AO hy hjK;by_cases hyi:y=i
    ·subst hyi
     have ZB:y∈K:=by
      have h1:=HY.o;rw[bH,aB (by have:=HM.o;omega)] at h1;simp only[jW] at h1;rw[<-h1];exact dF _
     have HME:=kd ZB;clear ZB;go_wp2_with fail;go_ret2;refine⟨⟨_,_,rfl,.inl ⟨_,rfl,?_,rfl⟩⟩,H1.o.1.below' y5.o,XX.o.trans (KR.of_below y5.o)⟩;rw[bI HME.o];rfl
    ·have hyf:(y==i)=false:=aH.2 hyi
     have HYI:=kd hyi;go_wp2_with fail;go_roundw;case rel=>exact⟨j+1,by omega,by go_num,trivial,λ k hk=>by
      by_cases XP:k=j
      ·subst XP;rw[HY.o];exact HYI.o
      ·exact DZ.o k (by omega)⟩
     case measure=>simp[RowKit.intOf];omega
   ·obtain rfl:j=m:=by omega
    have HME:Hid (i∉K):=by
     refine kd (λ ZB=>?_);obtain⟨k,hk,he⟩:=kU ZB;refine DZ.o k (by have:=HM.o;omega) ?_;rw[bH,aB hk,he];rfl
    go_wp2_with fail;go_ret2;refine⟨⟨_,_,rfl,.inl ⟨_,rfl,?_,rfl⟩⟩,H1.o.1.below' y5.o,XX.o.trans (KR.of_below y5.o)⟩;rw[bM HME.o];rfl
 ·rw[aL hz]
  have e1:Fh n L i a b=L:=by unfold Fh;rw[aL hz]
  rw[e1] at HA;have hzz:(Bn n L i a b != 0)=true:=iO.2 hz;have HZ:=kd hz;clear hz e1;generalize Bn n L i a b=k at*;go_enter func93,ntmps93;go_wp2_with fail;refine wp_region_held_drew (S:=(λ w'=>w'.cell? g=i/\w'.cell? (g,1)=a/\w'.cell? (g,2)=b)) (by kernel_rfl) ?_ (λ hHeld=>?_)
  ·exact hS
  refine tk 0 ?_;refine tk 1 ?_;refine tk 2 ?_;refine tk 3 ?_;refine tk 4 ?_;refine tk 5 ?_;refine tk 6 ?_;refine tk 7 ?_;refine tk 8 ?_;refine tk 9 ?_;refine rd 10 (λ K hK=>?_);go_simp;refine aA HA.o ?_;rintro e w1 ⟨rfl,hd,hk⟩;have H1:=kd (And.intro hd hk);have AX:w1.heap[g]? =w.heap[g]? :=by rw[HG.o];exact hk.same g _ HG.o HQ.o (λ c fz e=>by cases e)
  have CO:w1.cell? g=i/\w1.cell? (g,1)=a/\w1.cell? (g,2)=b:=⟨A9 (w:=w) AX hS.1,A9 (w:=w) AX hS.2.1,A9 (w:=w) AX hS.2.2⟩;clear hd hk HA AX;refine hK.out _ _ ?_ (λ hHeld=>?_)
  ·exact CO
  clear hK K;refine rd 11 (λ K hK=>?_);go_simp;refine hK.out _ _ ?_ (λ hHeld=>?_)
  ·exact CO
  clear hK K;refine wpAnyH_done (by kernel_rfl) ?_ _;go_wp2_with fail;go_ret2;exact⟨⟨_,_,rfl,.inr ⟨rfl,HZ.o⟩⟩,H1.o.1,H1.o.2.size,H1.o.2.same⟩
end Go.Proofs.Y.I
namespace Go.Proofs.Y.I
open Go.RowKit Go.WideMaps Go.Maps Go.Lib Go.Proofs.Tryz
variable {w0 w w':World} {q n:Nat} {L:List G.E}
theorem zog {i j:Int}{g c:Nat}(h:DG w0 w q n L)(h0:w.cell? g=i)(h1:w.cell? (g,1)=j):
 Calls prog 93 #[.pointer q,.string ⟨#[119,104,111,108,101]⟩,.slice g 2 c] w (C9 w0 q (Jp n L i j) w):=by
 have HH:=kd h;have II:=kd h.ok;have hn40:=h.ok.n40;have PW:Hid (IntKind.i64.wrap ((n:Int)-1)=(n:Int)-1):=kd (by rw[IntWalk.i64_left];exact IntWalk.wrap64_in _ (by omega));have hS:w.drew.cell? q=n/\w.drew.cell? g=i/\w.drew.cell? (g,1)=j:=by
  obtain⟨u,R,h2,_⟩:=h;exact⟨by show w.cell? _=_;simp[World.cell?,h2.hp],h0,h1⟩
 obtain⟨w9,a9,b9,x9,hi⟩:=Dk w h.ok;obtain⟨W,T,B,s⟩:=hi.st;have JF:=kd s;clear h h0 h1 hi s;unfold Jp;by_cases hz:inB n i j
 ·rw[aP hz]
  obtain⟨x,y,rfl,rfl,hx,hy⟩:=R3 hz;have CJ:=kd (And.intro hx hy);have OA:=kd (G.E5 (x:Int) 0 (IntKind.i64.wrap ((n:Int)-1)) w.drew (by rw[PW.o];omega));have VP:=kd (G.E5 (y:Int) 0 (IntKind.i64.wrap ((n:Int)-1)) w.drew (by rw[PW.o];omega));have HD:=kd (λ W' (hW:Below w w W')=>zgp (HH.o.below' hW).dv II.o JF.o);clear hz hx hy;generalize hrb:whB n L (x:Int) (y:Int)=rb at*;go_enter func93,ntmps93;go_wp2_with fail;refine wp_region_held_drew (S:=(λ w'=>w'.cell? q=n/\w'.cell? g=x/\w'.cell? (g,1)=y)) (by kernel_rfl) ?_ (λ hHeld=>?_)
  ·exact hS
  refine tk 0 ?_;refine tk 1 ?_;refine tk 2 ?_;refine tk 3 ?_;refine tk 4 ?_;refine tk 5 ?_;refine tk 6 ?_;refine tk 7 ?_;refine rd 8 (λ K hK=>?_);go_simp;refine aA OA.o ?_;rintro e w1 ⟨rfl,AR⟩;subst AR;refine hK.out _ _ ?_ (λ hHeld=>?_)
  ·exact hS
  clear hK K;refine tk 9 ?_;refine tk 10 ?_;refine tk 11 ?_;refine tk 12 ?_;refine tk 13 ?_;refine tk 14 ?_;refine tk 15 ?_;refine tk 16 ?_;refine tk 17 ?_;refine tk 18 ?_;refine rd 19 (λ K hK=>?_);go_simp;refine aA VP.o ?_;rintro e w1 ⟨rfl,AR⟩;subst AR;refine hK.out _ _ ?_ (λ hHeld=>?_)
  ·exact hS
  clear hK K;refine tk 20 ?_;refine tk 21 ?_;refine wpAnyH_done (by kernel_rfl) ?_ _;have WG:=kd (show Below w w w.drew from(aI _ _).drew);have HDW:=kd (HD.o w.drew WG.o);clear HD;go_wp2_with fail;refine aA HDW.o ?_;rintro e w2 ⟨ad,cap,rfl,BM,j5⟩;have y5:=kd (WG.o.tr j5);have FW:w2.cell? g=x/\w2.cell? (g,1)=y:=⟨S.cell_below hS.2.1 j5,S.cell_below hS.2.2 j5⟩;clear j5 HDW hS;have AZ:=kd y5.o;obtain⟨w3,EX⟩:∃w3,w3=w2:=⟨_,rfl⟩;subst EX;have BG:=kd (λ W' (hW:Below w3 w3 W')=>S.zcc W JF.o.gw II.o.n40 ad cap x y (whB n L (x:Int) (y:Int)) W' (S.Rd.below BM hW) CJ.o.1 CJ.o.2 (by
   unfold whB;rw[<-zg2 JF.o (eO _) II.o.unl];simp))
  generalize (S.Ar W n).length=m at*;have NY:=FW;clear BM;rw[hrb] at BG;clear FW hrb;go_wp2_with fail;have hS4:w3.drew.cell? g=x/\w3.drew.cell? (g,1)=y:=NY;have HI4:=kd (BG.o w3.drew (aI _ _).drew);clear BG;go_region_held (λ w'=>w'.cell? g=x/\w'.cell? (g,1)=y) (with_reducible assumption)
   (first
     |(go_at_call 28;refine aA HI4.o ?_;rintro e w4 ⟨rfl,NG⟩;subst NG)
     |(go_at_call 173;refine aA (Kr _ _) ?_;rintro e w5 ⟨rfl,ZU⟩;subst ZU))
  all_goals
   go_wp2_with fail;go_ret2;exact Es HH.o rfl (AZ.o.trans ((aI _ _).drew))
 ·rw[aL hz]
  have l9:S.Bw n i\/¬S.Bw n i:=iI _;rcases l9 with JC|JC
  ·have OA:=kd (G.Mh i 0 (IntKind.i64.wrap ((n:Int)-1)) w.drew (by rw[PW.o];unfold S.Bw at JC;omega))
   clear hz JC;go_enter func93,ntmps93;go_wp2_with fail;refine wp_region_held_drew (S:=(λ w'=>w'.cell? q=n/\w'.cell? g=i/\w'.cell? (g,1)=j)) (by kernel_rfl) ?_ (λ hHeld=>?_)
   ·exact hS
   refine tk 0 ?_;refine tk 1 ?_;refine tk 2 ?_;refine tk 3 ?_;refine tk 4 ?_;refine tk 5 ?_;refine tk 6 ?_;refine tk 7 ?_;refine rd 8 (λ K hK=>?_);go_simp;refine aA OA.o ?_;rintro e w1 ⟨rfl,AR⟩;subst AR;refine hK.out _ _ ?_ (λ hHeld=>?_)
   ·exact hS
   clear hK K;refine tk 9 ?_;refine tk 10 ?_;refine tn 11 ?_;refine tn 12 ?_;refine tn 13 ?_;refine tn 14 ?_;refine tn 15 ?_;refine tn 16 ?_;refine tn 17 ?_;refine tn 18 ?_;refine tn 19 ?_;refine tn 20 ?_;refine tk 21 ?_;refine wpAnyH_done (by kernel_rfl) ?_ _;go_wp2_with fail;go_ret2;exact Nv HH.o rfl (by decide) (aI _ _).drew
  ·have OA:=kd (G.E5 i 0 (IntKind.i64.wrap ((n:Int)-1)) w.drew (by rw[PW.o];unfold S.Bw at JC;omega))
   have VP:=kd (G.Mh j 0 (IntKind.i64.wrap ((n:Int)-1)) w.drew (by rw[PW.o];unfold S.Bw at JC;unfold inB at hz;omega));clear hz JC;go_enter func93,ntmps93;go_wp2_with fail;refine wp_region_held_drew (S:=(λ w'=>w'.cell? q=n/\w'.cell? g=i/\w'.cell? (g,1)=j)) (by kernel_rfl) ?_ (λ hHeld=>?_)
   ·exact hS
   refine tk 0 ?_;refine tk 1 ?_;refine tk 2 ?_;refine tk 3 ?_;refine tk 4 ?_;refine tk 5 ?_;refine tk 6 ?_;refine tk 7 ?_;refine rd 8 (λ K hK=>?_);go_simp;refine aA OA.o ?_;rintro e w1 ⟨rfl,AR⟩;subst AR;refine hK.out _ _ ?_ (λ hHeld=>?_)
   ·exact hS
   clear hK K;refine tk 9 ?_;refine tk 10 ?_;refine tk 11 ?_;refine tk 12 ?_;refine tk 13 ?_;refine tk 14 ?_;refine tk 15 ?_;refine tk 16 ?_;refine tk 17 ?_;refine tk 18 ?_;refine rd 19 (λ K hK=>?_);go_simp;refine aA VP.o ?_;rintro e w1 ⟨rfl,AR⟩;subst AR;refine hK.out _ _ ?_ (λ hHeld=>?_)
   ·exact hS
   clear hK K;refine tk 20 ?_;refine tk 21 ?_;refine wpAnyH_done (by kernel_rfl) ?_ _;go_wp2_with fail;go_ret2;exact Nv HH.o rfl (by decide) (aI _ _).drew
theorem zqp {i j:Int}{g c:Nat}(h:DG w0 w q n L)(h0:w.cell? g=i)(h1:w.cell? (g,1)=j):
 Calls prog 93 #[.pointer q,.string ⟨#[116,119,105,99,101]⟩,.slice g 2 c] w (C9 w0 q (Jv n L i j) w):=by
 have HH:=kd h;have II:=kd h.ok;have hn40:=h.ok.n40;have PW:Hid (IntKind.i64.wrap ((n:Int)-1)=(n:Int)-1):=kd (by rw[IntWalk.i64_left];exact IntWalk.wrap64_in _ (by omega));have hS:w.drew.cell? q=n/\w.drew.cell? g=i/\w.drew.cell? (g,1)=j:=by
  obtain⟨u,R,h2,_⟩:=h;exact⟨by show w.cell? _=_;simp[World.cell?,h2.hp],h0,h1⟩
 obtain⟨w9,a9,b9,x9,hi⟩:=Dk w h.ok;obtain⟨W,T,B,s⟩:=hi.st;have JF:=kd s;clear h h0 h1 hi s;unfold Jv;by_cases hz:inB n i j
 ·rw[aP hz]
  obtain⟨x,y,rfl,rfl,hx,hy⟩:=R3 hz;have CJ:=kd (And.intro hx hy);have OA:=kd (G.E5 (x:Int) 0 (IntKind.i64.wrap ((n:Int)-1)) w.drew (by rw[PW.o];omega));have VP:=kd (G.E5 (y:Int) 0 (IntKind.i64.wrap ((n:Int)-1)) w.drew (by rw[PW.o];omega));have HD:=kd (λ W' (hW:Below w w W')=>zgp (HH.o.below' hW).dv II.o JF.o);clear hz hx hy;generalize hrb:twB n L (x:Int) (y:Int)=rb at*;go_enter func93,ntmps93;go_wp2_with fail;refine wp_region_held_drew (S:=(λ w'=>w'.cell? q=n/\w'.cell? g=x/\w'.cell? (g,1)=y)) (by kernel_rfl) ?_ (λ hHeld=>?_)
  ·exact hS
  refine tk 0 ?_;refine tk 1 ?_;refine tk 2 ?_;refine tk 3 ?_;refine tk 4 ?_;refine tk 5 ?_;refine tk 6 ?_;refine tk 7 ?_;refine rd 8 (λ K hK=>?_);go_simp;refine aA OA.o ?_;rintro e w1 ⟨rfl,AR⟩;subst AR;refine hK.out _ _ ?_ (λ hHeld=>?_)
  ·exact hS
  clear hK K;refine tk 9 ?_;refine tk 10 ?_;refine tk 11 ?_;refine tk 12 ?_;refine tk 13 ?_;refine tk 14 ?_;refine tk 15 ?_;refine tk 16 ?_;refine tk 17 ?_;refine tk 18 ?_;refine rd 19 (λ K hK=>?_);go_simp;refine aA VP.o ?_;rintro e w1 ⟨rfl,AR⟩;subst AR;refine hK.out _ _ ?_ (λ hHeld=>?_)
  ·exact hS
  clear hK K;refine tk 20 ?_;refine tk 21 ?_;refine wpAnyH_done (by kernel_rfl) ?_ _;have WG:=kd (show Below w w w.drew from(aI _ _).drew);have HDW:=kd (HD.o w.drew WG.o);clear HD;go_wp2_with fail;refine aA HDW.o ?_;rintro e w2 ⟨ad,cap,rfl,BM,j5⟩;have y5:=kd (WG.o.tr j5);have FW:w2.cell? g=x/\w2.cell? (g,1)=y:=⟨S.cell_below hS.2.1 j5,S.cell_below hS.2.2 j5⟩;clear j5 HDW hS;obtain⟨m9,hm9⟩:∃m9,(S.Ar W n).length=m9:=⟨_,rfl⟩;rw[hm9];have QI:=kd (ztp (HH.o.below' y5.o).dv (HH.o.ok) JF.o);clear BM hm9;go_wp2_with fail;refine aA QI.o ?_;rintro e w3 ⟨ad3,cap3,rfl,hz3,y8⟩;have AZ:=kd (y5.o.tr y8);have BG:=kd (λ W' (hW:Below w3 w3 W')=>S.zcc T JF.o.gt II.o.n40 ad3 cap3 x y (twB n L (x:Int) (y:Int)) W' (S.Rd.below hz3 hW) CJ.o.1 CJ.o.2 (by
   unfold twB;rw[<-zih JF.o (eO _) II.o.unl];simp))
  generalize (S.Ar T n).length=m at*;have NY:w3.cell? g=x/\w3.cell? (g,1)=y:=⟨S.cell_below FW.1 y8,S.cell_below FW.2 y8⟩;clear hz3 y8 QI;rw[hrb] at BG;clear FW hrb;go_wp2_with fail;have hS4:w3.drew.cell? g=x/\w3.drew.cell? (g,1)=y:=NY;have HI4:=kd (BG.o w3.drew (aI _ _).drew);clear BG;go_region_held (λ w'=>w'.cell? g=x/\w'.cell? (g,1)=y) (with_reducible assumption)
   (first
     |(go_at_call 28;refine aA HI4.o ?_;rintro e w4 ⟨rfl,NG⟩;subst NG)
     |(go_at_call 173;refine aA (Kr _ _) ?_;rintro e w5 ⟨rfl,ZU⟩;subst ZU))
  all_goals
   go_wp2_with fail;go_ret2;exact Es HH.o rfl (AZ.o.trans ((aI _ _).drew))
 ·rw[aL hz]
  have l9:S.Bw n i\/¬S.Bw n i:=iI _;rcases l9 with JC|JC
  ·have OA:=kd (G.Mh i 0 (IntKind.i64.wrap ((n:Int)-1)) w.drew (by rw[PW.o];unfold S.Bw at JC;omega))
   clear hz JC;go_enter func93,ntmps93;go_wp2_with fail;refine wp_region_held_drew (S:=(λ w'=>w'.cell? q=n/\w'.cell? g=i/\w'.cell? (g,1)=j)) (by kernel_rfl) ?_ (λ hHeld=>?_)
   ·exact hS
   refine tk 0 ?_;refine tk 1 ?_;refine tk 2 ?_;refine tk 3 ?_;refine tk 4 ?_;refine tk 5 ?_;refine tk 6 ?_;refine tk 7 ?_;refine rd 8 (λ K hK=>?_);go_simp;refine aA OA.o ?_;rintro e w1 ⟨rfl,AR⟩;subst AR;refine hK.out _ _ ?_ (λ hHeld=>?_)
   ·exact hS
   clear hK K;refine tk 9 ?_;refine tk 10 ?_;refine tn 11 ?_;refine tn 12 ?_;refine tn 13 ?_;refine tn 14 ?_;refine tn 15 ?_;refine tn 16 ?_;refine tn 17 ?_;refine tn 18 ?_;refine tn 19 ?_;refine tn 20 ?_;refine tk 21 ?_;refine wpAnyH_done (by kernel_rfl) ?_ _;go_wp2_with fail;go_ret2;exact Nv HH.o rfl (by decide) (aI _ _).drew
  ·have OA:=kd (G.E5 i 0 (IntKind.i64.wrap ((n:Int)-1)) w.drew (by rw[PW.o];unfold S.Bw at JC;omega))
   have VP:=kd (G.Mh j 0 (IntKind.i64.wrap ((n:Int)-1)) w.drew (by rw[PW.o];unfold S.Bw at JC;unfold inB at hz;omega));clear hz JC;go_enter func93,ntmps93;go_wp2_with fail;refine wp_region_held_drew (S:=(λ w'=>w'.cell? q=n/\w'.cell? g=i/\w'.cell? (g,1)=j)) (by kernel_rfl) ?_ (λ hHeld=>?_)
   ·exact hS
   refine tk 0 ?_;refine tk 1 ?_;refine tk 2 ?_;refine tk 3 ?_;refine tk 4 ?_;refine tk 5 ?_;refine tk 6 ?_;refine tk 7 ?_;refine rd 8 (λ K hK=>?_);go_simp;refine aA OA.o ?_;rintro e w1 ⟨rfl,AR⟩;subst AR;refine hK.out _ _ ?_ (λ hHeld=>?_)
   ·exact hS
   clear hK K;refine tk 9 ?_;refine tk 10 ?_;refine tk 11 ?_;refine tk 12 ?_;refine tk 13 ?_;refine tk 14 ?_;refine tk 15 ?_;refine tk 16 ?_;refine tk 17 ?_;refine tk 18 ?_;refine rd 19 (λ K hK=>?_);go_simp;refine aA VP.o ?_;rintro e w1 ⟨rfl,AR⟩;subst AR;refine hK.out _ _ ?_ (λ hHeld=>?_)
   ·exact hS
   clear hK K;refine tk 20 ?_;refine tk 21 ?_;refine wpAnyH_done (by kernel_rfl) ?_ _;go_wp2_with fail;go_ret2;exact Nv HH.o rfl (by decide) (aI _ _).drew
end Go.Proofs.Y.I
namespace Go.Proofs.Y.I
open Go.RowKit Go.WideMaps Go.Maps Go.Lib Go.Proofs.Tryz
variable {w0 w w':World} {q n:Nat} {L:List G.E}
theorem zht {k1 k2 cc:Int}{e:Ending}(h:DG w0 w q n L)(he:e=Value.tuple #[.string ⟨(Ah [k1,k2]).toArray⟩,cc])(hb:Below w w w'){i j:Int}(TD:S.WE n L i j k1 cc)(NP:S.WN n L i j k2 cc):C9 w0 q (Km n L i j) w e w':=by
 unfold Km;rw[Uq TD,qp NP];dsimp only;by_cases hz:cc=0
 ·rw[aP hz]
  subst hz;exact Es h he hb
 ·rw[aL hz]
  exact Nv h he hz hb
theorem zrz {i j:Int}{g c:Nat}(h:DG w0 w q n L)(h0:w.cell? g=i)(h1:w.cell? (g,1)=j)(hv:Vars w)(hk:∃k1 k2 c,S.WE n L i j k1 c/\S.WN n L i j k2 c):
 Calls prog 93 #[.pointer q,.string ⟨#[119,97,121,115]⟩,.slice g 2 c] w (C9 w0 q (Km n L i j) w):=by
 have HH:=kd h;have II:=kd h.ok;obtain⟨k1,k2,cc,TD,NP⟩:=hk;have hS:w.drew.cell? g=i/\w.drew.cell? (g,1)=j:=⟨h0,h1⟩;have GG:=kd (show Below w w w.drew from(aI _ _).drew);have HE:Hid (Calls prog 68 #[.pointer q,i,j,(120:Int)] w.drew λ e w'=>e=Value.tuple #[k1,cc]/\Below w.drew w.drew w'):=by
  refine kd (aA (zvg (h.below' GG.o).dv h.ok i j) ?_);rintro e w' ⟨k,c',h1,rfl,hb⟩;obtain⟨rfl,rfl⟩:=S.WE.one h1 TD;exact⟨rfl,hb⟩
 have HN:Hid (∀W,Below w w W->Calls prog 69 #[.pointer q,i,j,(120:Int)] W λ e w'=>e=Value.tuple #[k2,cc]/\Below W W w'):=by
  refine kd (λ W hW=>aA (zv2 (h.below' hW).dv h.ok i j) ?_);rintro e w' ⟨k,c',h1,rfl,hb⟩;obtain⟨rfl,rfl⟩:=S.zuz h.ok.ed' h.ok.n40 NP h1;exact⟨rfl,hb⟩
 have HW:Hid (∀W,Below w w W->Calls prog 77 #[.slice (some ⟨W.heap.size,0,none⟩) 2 2] (W.alloc (.cells #[k1,k2] 3)) λ e w'=>e=Value.string ⟨(Ah [k1,k2]).toArray⟩/\Below W W w'):=by
  refine kd (λ W hW=>?_);have hb:Below W W (W.alloc (.cells #[k1,k2] 3)):=b_;refine aA (Nu (ns:=[k1,k2]) 2 (pg W k1 k2) (λ y hy=>?_) (by simp) ((hv.below hW).below hb)) ?_
  ·have h1:=(Na TD).1
   have h2:=Qm NP;simp at hy;rcases hy with rfl|rfl <;> omega
  ·rintro e w' ⟨rfl,j5⟩
   exact⟨rfl,hb.tr j5⟩
 have HWE:=kd TD;have HWN:=kd NP;clear h h0 h1 TD NP hv;go_enter func93,ntmps93;go_wp2_with fail;refine wp_region_held_drew (S:=(λ w'=>w'.cell? g=i/\w'.cell? (g,1)=j)) (by kernel_rfl) ?_ (λ hHeld=>?_)
 ·exact hS
 refine tk 0 ?_;refine tk 1 ?_;refine tk 2 ?_;refine tk 3 ?_;refine tk 4 ?_;refine tk 5 ?_;refine tk 6 ?_;refine rd 7 (λ K hK=>?_);go_simp;refine aA HE.o ?_;rintro e w1 ⟨rfl,j4⟩;have CO:w1.cell? g=i/\w1.cell? (g,1)=j:=⟨S.cell_below hS.1 j4,S.cell_below hS.2 j4⟩;have x8:=kd (GG.o.tr j4);clear j4;refine hK.out _ _ ?_ (λ hHeld=>?_)
 ·exact CO
 clear hK K;refine tk 8 ?_;refine tk 9 ?_;refine tk 10 ?_;refine tk 11 ?_;refine tk 12 ?_;refine wpAnyH_done (by kernel_rfl) ?_ _;have FW:w1.drew.cell? g=i/\w1.drew.cell? (g,1)=j:=CO;have y5:=kd (x8.o.trans (show Below w w1 w1.drew from((aI w w1)).drew));have HN2:=kd (HN.o w1.drew y5.o);clear HE HN hS CO;go_wp2_with fail;refine wp_region_held_drew (S:=(λ w'=>w'.cell? g=i/\w'.cell? (g,1)=j)) (by kernel_rfl) ?_ (λ hHeld=>?_)
 ·exact FW
 refine tk 0 ?_;refine tk 1 ?_;refine tk 2 ?_;refine tk 3 ?_;refine tk 4 ?_;refine tk 5 ?_;refine tk 6 ?_;refine rd 7 (λ K hK=>?_);go_simp;refine aA HN2.o ?_;rintro e w3 ⟨rfl,j4⟩;have NY:w3.cell? g=i/\w3.cell? (g,1)=j:=⟨S.cell_below FW.1 j4,S.cell_below FW.2 j4⟩;have AZ:=kd (y5.o.tr j4);clear j4;refine hK.out _ _ ?_ (λ hHeld=>?_)
 ·exact NY
 clear hK K;refine tk 8 ?_;refine tk 9 ?_;refine tk 10 ?_;refine tk 11 ?_;refine tk 12 ?_;refine wpAnyH_done (by kernel_rfl) ?_ _;have HT:=kd (HW.o w3 AZ.o);clear HN2 HW FW NY;go_wp2_with fail;refine aA HT.o ?_;rintro e w4 ⟨rfl,BB⟩;have EP:=kd (AZ.o.tr BB);clear BB HT;go_wp2_with fail;go_ret2;exact zht HH.o rfl EP.o HWE.o HWN.o
end Go.Proofs.Y.I
namespace Go.Proofs.Y.I
open Go.RowKit Go.WideMaps Go.Maps Go.Lib Go.Proofs.Tryz
variable {w0 w w':World} {q n:Nat} {L:List G.E}
theorem zc9 {v:Value}{B:Nat}{M:List G.E}(h:G.Ad w B 61 v M):∃q c,v= .slice q M.length c/\(0<M.length->∃g,q=some ⟨g,0,none⟩/\∀(j:Nat) x,M[j]? =some x->w.cell? ⟨g,j*3,none⟩=x.1/\w.cell? (g,j*3+1)=x.2.1/\w.cell? (g,j*3+2)=x.2.2):=by
 rcases h.shape with⟨e,e2⟩|⟨g,cap,e,_⟩
 ·exact⟨none,0,by rw[e,e2];rfl,λ k=>by rw[e2] at k;simp at k⟩
 ·exact⟨_,_,e,λ _=>⟨g,rfl,λ j x hx=>h.at (by rw[e];rfl) hx⟩⟩
theorem zqm (u:Value)(h:DG w0 w q n L)(hv:Vars w):
 Calls prog 93 #[.pointer q,.string ⟨#[101,100,103,101,115]⟩,u] w (C9 w0 q (.ok ([101,100,103,101,115]++[32]++J6 L),n,L) w):=by
 have HH:=kd h;have HV:=kd hv;obtain⟨w9,a9,b9,x9,hi⟩:=Dk w h.ok;have HD:=kd (zqq h.dv h.ok);have HR:=kd (Gb hi);have FK:=M7 (Gb hi).1 (Gb hi).2;obtain⟨m,hm⟩:∃m,m=L.length:=⟨_,rfl⟩;have EJ:m<=20000:=by have:=(Gb hi).2;omega
 have HM:=kd hm;obtain⟨xs,KI⟩:∃xs,xs=L.map λ p=>[p.1,p.2.1,p.2.2]:=⟨_,rfl⟩
 have HXS:=kd KI;have ht:J6 L=Lib.join (xs.map Ah) [44,32]:=by
  unfold J6;rw[KI,fB];rfl
 rw[ht] at FK ⊢;have QD:=kd FK;obtain⟨i0,GJ,BR,BU,BM⟩:=info_parts S.Tryz.info48;clear h hv hi KI ht;go_enter func93,ntmps93;go_wp2_with fail;refine aA HD.o ?_;rintro e w1 ⟨v1,rfl,hz,j4⟩;have x8:=kd j4;obtain⟨qa,ca,rfl,hc⟩:=zc9 hz;have HC:=kd hc;rw[<-hm] at HC ⊢;clear hz j4 HD hc;go_wp2_with fail;have FN:Hid (Lo w1 w1 xs 0 (.slice none 0 0)):=⟨[],aX _ _ _ _,λ i l hi=>absurd hi (kG _),aI _ _⟩;go_loopw [16,18,180] (λ s3 _ s8 wq=>∃j:Nat,j<=m/\s8=j/\Lo w1 wq xs j s3) (λ _ _ s8 _=>m-(RowKit.intOf s8).toNat)
 case atStart=>exact⟨0,aN _,rfl,FN.o⟩
 case round=>
  clear FN;obtain⟨j,hj,rfl,q9⟩:=hrel;have HW:=kd q9;clear q9;by_cases j6:j<m
  ·have hjM:j<L.length:=by have:=HM.o;omega
   obtain⟨nb,FT,AO⟩:=HC.o (by omega);subst FT;obtain⟨x0,x1,x2,hy⟩:∃x0 x1 x2,L[j]? =some (x0,x1,x2):=⟨_,_,_,aB hjM⟩;have HX:Hid (xs[j]? =some [x0,x1,x2]):=by
    show _=_;rw[HXS.o,bJ,hy];rfl
   obtain⟨sl,o7,NQ,BI⟩:=HW.o;obtain⟨r0,r1,r2⟩:=AO j _ hy;have r0':wr.cell? (nb,j*3)=x0:=(BI.cell (p:=⟨nb,j*3,none⟩) (G.lt_of_cell r0)).trans r0;have r1':wr.cell? (nb,j*3+1)=x1:=(BI.cell (p:=⟨nb,j*3+1,none⟩) (G.lt_of_cell r1)).trans r1;have r2':wr.cell? (nb,j*3+2)=x2:=(BI.cell (p:=⟨nb,j*3+2,none⟩) (G.lt_of_cell r2)).trans r2;have HR':=kd (And.intro o7 (And.intro NQ BI));have BS:=BI.size;clear r0 r1 r2 AO hy NQ BI hjM;have LX:=cell_one_new ((wr.alloc (.cells #[x0,x1,x2] 61)).alloc (.cells #[x0,x1,x2] 3)) (.slice (wr.heap.size+1:Nat) 3 3) 48;rw[aT,aT] at LX;have UT:=kd LX;have SN:=kd o7;clear LX o7;go_wp2_with (at_builtin;refine wpList_append_own_at _ rfl _ _ 51 rfl w1.heap.size 48 i0 (.slice none 0 0) 1 24 underlying51 GJ BR BU BM rfl (by decide) u16 _ _ rfl (((SN.o.alloc _).alloc _).alloc _) (wr.heap.size+1+1:Nat) 1 1 [.slice (wr.heap.size+1:Nat) 3 3] rfl rfl UT.o (by simp[Value.oneCell']) (by unfold maxLen;omega) (by omega) (by simp;omega) ?_;intro v2 w2 z8 AU _ _);have EE:Hid (Lo w1 w2 xs (j+1) v2):=by
    refine zbw (g:=wr.heap.size+1) HR'.o.1 HR'.o.2.1 HR'.o.2.2 (((b_).alloc (by simp) _).alloc (by simp;omega) _) HX.o ?_ z8 AU;rw[bG _ _ _ (by simp)];have:=World.alloc_heap_new (wr.alloc (.cells #[x0,x1,x2] 61)) (.cells #[x0,x1,x2] 3)
    rwa[aT] at this
   clear z8 AU;go_wp2_with fail;go_roundw;case rel=>exact⟨j+1,by omega,by go_num,EE.o⟩
   case measure=>simp[RowKit.intOf];omega
  ·obtain rfl:j=m:=by omega
   obtain⟨sl,_,_,BI⟩:=HW.o;have y5:=kd (x8.o.tr BI);have HT:=kd (zb1 HW.o (by rw[HXS.o,aS,<-HM.o]) EJ (λ l hl=>by
    rw[HXS.o,aY] at hl;obtain⟨p,hp,rfl⟩:=hl;have h1:=HR.o.1 p hp;refine⟨by simp,λ x hx=>?_⟩;simp at hx;rcases hx with rfl|rfl|rfl
    ·exact h1.1
    ·exact h1.2.1
    ·exact h1.2.2) (by have:=QD.o;omega) (HV.o.below y5.o))
   clear BI;go_wp2_with (go_at_call 174;refine aA HT.o ?_;rintro e w3 ⟨rfl,y8⟩);have AZ:=kd (y5.o.tr y8);clear y8 HT;go_wp2_with fail;go_ret2;refine Es HH.o ?_ AZ.o;show Ending.returned (.tuple #[.string ((⟨[101,100,103,101,115,32].toArray⟩:ByteArray)++⟨(Lib.join (xs.map Ah) [44,32]).toArray⟩),(0:Int)])=_;rw[Bv];rfl
end Go.Proofs.Y.I
namespace Go.Proofs.Y.I
open Go Go.ChangeMaps Go.MapKept Go.WideShapes Go.Proofs.Tryz
open Go.RowKit Go.WideMaps Go.Maps Go.Lib
variable {w0 w w':World} {q n:Nat} {L:List G.E}
def zsr (w:World)(q:Nat)(ns:List Int)(u:Value):Prop:=
 ns≠[]->∃g c cur,u= .slice (some ⟨g,0,none⟩) ns.length c/\w.heap[g]? =some (.cells cur 3)/\g≠q/\∀(j:Nat) x,ns[j]? =some x->w.cell? ⟨g,j,none⟩=x
theorem zkn {t:List UInt8 × Int × Nat}{ns:List Int}{u:Value}(ht:t∈Bb)(h:DG w0 w q n L)(hn:zsr w q ns u)(hl:(ns.length:Int)=t.2.1)(hv:Vars w):
 Calls prog 93 #[.pointer q,.string ⟨t.1.toArray⟩,u] w (C9 w0 q (doD t.2.2 n L ns) w):=by
 obtain⟨w9,a9,b9,x9,EZ⟩:=Dk w h.ok;simp only[Bb,cO,gD,kC] at ht
 match ns,hn,hl with
 |[],hn,hl=>
  rcases ht with rfl|rfl|rfl|rfl|rfl|rfl|rfl|rfl|rfl|rfl|rfl|rfl|rfl|rfl|rfl <;> first
   |(exfalso;simp at hl;done)
   |exact zmz u h hv
   |exact zg6 u h hv
   |exact zr6 u h hv
   |exact zqm u h hv
   |exact zsh u h
   |exact zqi u h hv
   |exact zni u h
   |exact zmw u h hv
   |exact zns u h hv
 |[i],hn,hl=>
  obtain⟨g,c,cur,rfl,hg,hq,hc⟩:=hn (by simp);rcases ht with rfl|rfl|rfl|rfl|rfl|rfl|rfl|rfl|rfl|rfl|rfl|rfl|rfl|rfl|rfl <;> first
   |(exfalso;simp at hl;done)
   |exact zs4 h (hc 0 i rfl)
   |exact zox h (hc 0 i rfl)
 |[i,j],hn,hl=>
  obtain⟨g,c,cur,rfl,hg,hq,hc⟩:=hn (by simp);rcases ht with rfl|rfl|rfl|rfl|rfl|rfl|rfl|rfl|rfl|rfl|rfl|rfl|rfl|rfl|rfl <;> first
   |(exfalso;simp at hl;done)
   |exact zqp h (hc 0 i rfl) (hc 1 j rfl)
   |exact zrz h (hc 0 i rfl) (hc 1 j rfl) hv (I6 EZ i j)
   |exact zog h (hc 0 i rfl) (hc 1 j rfl)
 |[i,a,b],hn,hl=>
  obtain⟨g,c,cur,rfl,hg,hq,hc⟩:=hn (by simp);rcases ht with rfl|rfl|rfl|rfl|rfl|rfl|rfl|rfl|rfl|rfl|rfl|rfl|rfl|rfl|rfl <;> first
   |(exfalso;simp at hl;done)
   |exact zup h hg hq (hc 0 i rfl) (hc 1 a rfl) (hc 2 b rfl)
 |i::j::k::m::r,hn,hl=>
  exfalso;simp only[bD] at hl;rcases ht with rfl|rfl|rfl|rfl|rfl|rfl|rfl|rfl|rfl|rfl|rfl|rfl|rfl|rfl|rfl <;> (dsimp only at hl;omega)
def Pm (t:List UInt8 × Int × Nat):Value:=.int .i64 t.2.1
def Ow:DataW Value->List (List UInt8 × Int × Nat)->DataW Value
 |D,[]=>D
 |D,t::r=>Ow (D.put (.string t.1) (.held (Pm t))) r
theorem X7 (mb B:Nat)(X:World)(hBm:B<=mb):∀(l:List (List UInt8 × Int × Nat)) (W:World) (N:Nat) (D:DataW Value),W.ownsMap prog 9 S.hold mb N D->N+l.length<=1000->(∀t∈l,t.1.length<=1000000)->Below B X W->B<=W->
 ∃Ws:Nat->World,Ws 0=W/\(∀j t,l[j]? =some t->(Instr.mapUpdate 124 (.map mb) (.string ⟨t.1.toArray⟩) (Pm t)).run prog (Ws j)= .ok () (Ws (j+1)))/\(Ws l.length).ownsMap prog 9 S.hold mb (N+l.length) (Ow D l)/\Below B X (Ws l.length)
 |[],W,N,D,h,_,_,hb,_=>⟨λ _=>W,rfl,λ j t ht=>(by simp at ht),h,hb⟩
 |t::r,W,N,D,h,hN,ht,hb,hB=>by
  simp only[bD] at hN;obtain⟨w1,r1,m1,g1⟩:=h.update zex underlying124 (by unfold maxLen;omega) (zfi t.1 (ht t (by simp))) (val:=Pm t) (d:=.held (Pm t)) (ps:=[]) rfl;obtain⟨Ws,e0,hr,hm,EN⟩:=X7 mb B X hBm r w1 (N+1) _ m1 (by omega) (λ t k=>ht t (bS _ k)) (hb.grown g1 hB (λ k e=>by cases e;exact hBm)) (aD hB g1.size);refine⟨λ j=>match j with|0=>W|k+1=>Ws k,rfl,λ j u hu=>?_,?_,EN⟩
  ·cases j with
   |zero=>
    simp at hu;subst hu;show _=Result.ok () (Ws 0);rw[e0];exact r1
   |succ k=>exact hr k u (by simpa using hu)
  ·have e:N+(t::r).length=N+1+r.length:=by simp;omega
   rw[e];exact hm
theorem jg (s:List UInt8)(z:DataW Value):∀(l:List (List UInt8 × Int × Nat)) (D:DataW Value),Tidy D->(l.map (·.1)).Nodup->
 Tidy (Ow D l)/\(Ow D l).atKey (.string s) z=match l.find? (λ t=>t.1==s) with|some t=>.held (Pm t)|none=>D.atKey (.string s) z
 |[],D,h,_=>⟨h,rfl⟩
 |t::r,D,h,hn=>by
  rw[gW,gK] at hn;obtain⟨h1,h2⟩:=jg s z r (D.put (.string t.1) (.held (Pm t))) (h.put (show WideAt.IsKeyLit (.string t.1) from trivial) _) hn.2;refine⟨h1,?_⟩;show(Ow (D.put (.string t.1) (.held (Pm t))) r).atKey (.string s) z=_;rw[h2,List.find?_cons];by_cases e:t.1=s
  ·have:r.find? (λ t=>t.1==s)=none:=by
    rw[List.find?_eq_none];intro u hu k;exact hn.1 (aY.2 ⟨u,hu,by rw[e];simpa using k⟩)
   rw[this];simp only[e,beq_self_eq_true];rw[<-e,atKey_put_same h.isMap (show WideAt.IsKeyLit (.string t.1) from trivial)]
  ·have:(t.1==s)=false:=by simpa using e
   rw[this];simp only;cases r.find? (λ t=>t.1==s) with
   |some u=>rfl
   |none=>
    have l9:Lit.string s≠Lit.string t.1:=λ k=>e (by injection k with k;exact k.symm)
    exact atKey_put_other l9 _ _
theorem Gu (w:World):(zeroValue 3).run prog w= .ok (0:Int) w:=by kernel_rfl
def Ll (w:World)(mb:Nat):Prop:=w.ownsMap prog 9 S.hold mb 15 (Ow (.map []) Bb)
theorem zil {mb:Nat}(h:Ll w mb)(s:List UInt8)(hs:s.length<=1000000):
 (Instr.lookup 124 (.map mb) (.string ⟨s.toArray⟩) true).run prog w= .ok (match Ck s with|some t=>.tuple #[t.2.1,true]|none=>.tuple #[(0:Int),false]) w:=by
 have q9:∀z,(Ow (.map []) Bb).atKey (.string s) z=match Ck s with|some t=>.held (Pm t)|none=>z:=λ z=>by
  rw[(jg s z Bb (.map []) tidy_empty (by decide)).2];unfold Ck;cases Bb.find? λ t=>t.1==s <;> rfl
 obtain⟨es,clock,hb,F,_,hD⟩:=h;rw[hD] at q9;rcases Maps.fit_look true zex underlying124 (Gu w) hb F (zfi s hs) with⟨AQ,_,hz⟩|⟨e0,y,_,_,AQ,hR,hz,_⟩
 ·rw[AQ]
  cases hq:Ck s with
  |none=>rfl
  |some t=>
   have h1:=q9 (.held .nilIface);rw[hz,hq] at h1;cases h1
 ·rw[AQ]
  cases hq:Ck s with
  |none=>
   have h1:=q9 (.held .nilIface);have h2:=q9 (.held (.bool true));rw[hz,hq] at h1 h2;rw[h1] at h2;cases h2
  |some t=>
   have h1:=q9 (.held .nilIface);rw[hz,hq] at h1;have h4:y=(.held e0.val,[]):=(dG hR).symm;have h3:e0.val=Pm t:=qz ((congrArg Prod.fst h4).symm.trans h1);rw[h3];rfl
theorem Ll.same {mb:Nat}(h:Ll w mb)(hk:w'.heap[mb]? =w.heap[mb]?):Ll w' mb:=by
 obtain⟨es,c,hm,r⟩:=h;exact⟨es,c,hk.trans hm,r⟩
theorem Ll.lt {mb:Nat}(h:Ll w mb):mb<w:=World.ownsMap.lt h
theorem zgo (w:World):∃W1 W2 W3 W4 W5 W6 W7 W8 W9 W10 W11 W12 W13 W14 W15:World,(Instr.mapUpdate 124 (.map w) (.string ⟨#[97,100,100]⟩) (3:Int)).run prog (w.alloc (.map #[] 0))= .ok () W1/\(Instr.mapUpdate 124 (.map w) (.string ⟨#[98,108,111,99,107,115]⟩) (0:Int)).run prog W1= .ok () W2/\(Instr.mapUpdate 124 (.map w) (.string ⟨#[98,114,105,100,103,101,115]⟩) (0:Int)).run prog W2= .ok () W3/\(Instr.mapUpdate 124 (.map w) (.string ⟨#[99,117,116,115]⟩) (0:Int)).run prog W3= .ok () W4/\(Instr.mapUpdate 124 (.map w) (.string ⟨#[100,114,111,112]⟩) (1:Int)).run prog W4= .ok () W5/\(Instr.mapUpdate 124 (.map w) (.string ⟨#[101,100,103,101,115]⟩) (0:Int)).run prog W5= .ok () W6/\(Instr.mapUpdate 124 (.map w) (.string ⟨#[104,101,108,112]⟩) (0:Int)).run prog W6= .ok () W7/\(Instr.mapUpdate 124 (.map w) (.string ⟨#[110,111,100,101,115]⟩) (1:Int)).run prog W7= .ok () W8/\(Instr.mapUpdate 124 (.map w) (.string ⟨#[112,97,105,114,115]⟩) (0:Int)).run prog W8= .ok () W9/\(Instr.mapUpdate 124 (.map w) (.string ⟨#[114,101,108,111,97,100]⟩) (0:Int)).run prog W9= .ok () W10/\(Instr.mapUpdate 124 (.map w) (.string ⟨#[115,112,108,105,116,115]⟩) (0:Int)).run prog W10= .ok () W11/\(Instr.mapUpdate 124 (.map w) (.string ⟨#[116,104,114,105,99,101]⟩) (0:Int)).run prog W11= .ok () W12/\(Instr.mapUpdate 124 (.map w) (.string ⟨#[116,119,105,99,101]⟩) (2:Int)).run prog W12= .ok () W13/\(Instr.mapUpdate 124 (.map w) (.string ⟨#[119,97,121,115]⟩) (2:Int)).run prog W13= .ok () W14/\(Instr.mapUpdate 124 (.map w) (.string ⟨#[119,104,111,108,101]⟩) (2:Int)).run prog W14= .ok () W15/\Ll W15 w/\Below w w W15:=by
 obtain⟨Ws,e0,hr,hm,hb⟩:=X7 w w w (aF _) Bb (w.alloc (.map #[] 0)) 0 (.map []) (World.ownsMap_made w prog 9 S.hold) (by decide) (by decide) (b_) (by simp);refine⟨Ws 1,Ws 2,Ws 3,Ws 4,Ws 5,Ws 6,Ws 7,Ws 8,Ws 9,Ws 10,Ws 11,Ws 12,Ws 13,Ws 14,Ws 15,e0▸hr 0 ([97,100,100],3,151) rfl,hr 1 ([98,108,111,99,107,115],0,152) rfl,hr 2 ([98,114,105,100,103,101,115],0,153) rfl,hr 3 ([99,117,116,115],0,154) rfl,hr 4 ([100,114,111,112],1,155) rfl,hr 5 ([101,100,103,101,115],0,156) rfl,hr 6 ([104,101,108,112],0,157) rfl,hr 7 ([110,111,100,101,115],1,158) rfl,hr 8 ([112,97,105,114,115],0,159) rfl,hr 9 ([114,101,108,111,97,100],0,160) rfl,hr 10 ([115,112,108,105,116,115],0,161) rfl,hr 11 ([116,104,114,105,99,101],0,162) rfl,hr 12 ([116,119,105,99,101],2,163) rfl,hr 13 ([119,97,121,115],2,164) rfl,hr 14 ([119,104,111,108,101],2,165) rfl,hm,hb⟩
end Go.Proofs.Y.I
namespace Go.Proofs.Y.I
open Go.RowKit Go.WideMaps Go.Maps Go.Lib Go.Proofs.Tryz
variable {w0 wa w w':World} {d dm n:Nat} {L:List G.E}
def dz (w0:World)(d dm:Nat)(o:Out)(w:World)(e:Ending)(w':World):Prop:=
 e=Value.string ⟨(El o.1).toArray⟩/\DkS w0 w' d dm o.2.1 o.2.2/\KD dm w w'
def Tab (w:World)(d dm:Nat):Prop:=w.ownsMap prog 9 S.hold dm 15 (fill d (.map []) Bb)
theorem Tab.same (h:Tab w d dm)(hk:w'.heap[dm]? =w.heap[dm]?):Tab w' d dm:=by
 obtain⟨es,c,hm,r⟩:=h;exact⟨es,c,hk.trans hm,r⟩
theorem Tab.lt (h:Tab w d dm):dm<w:=World.ownsMap.lt h
theorem DkS.zt4 {rc:Nat}{x:ByteArray}{v:Value}(h:DkS w0 w d dm n L)(hr:Rc w rc x)(hw:w0<=rc):DkS w0 (w.setCell rc v) d dm n L:=by
 obtain⟨y,p,q,u,R,B,W,T,D,pw,bw,pt,bt,mp,N,h⟩:=h;have oth:∀k,k≠rc->(w.setCell rc v).heap[k]? =w.heap[k]? :=λ k hk=>aV _ _ _ _ hk
 have aa:=h.at_.rn.now.at_;obtain⟨es,c,hm⟩:=h.mo;obtain⟨a1,a2,a3,a4,a5,a6,a7⟩:=h.off (k:=rc) hr rfl;have hb:=h.at_.rn.below;refine⟨y,p,q,u,R,B,W,T,D,pw,bw,pt,bt,mp,N,h.at_.same ?_ (λ k hk=>oth k ?_),(oth d a7.symm).trans h.cell,h.hd,h.ne,es,c,(oth dm (notM hm hr)).trans hm⟩
 ·exact⟨hb.os,hb.tape,hb.output,by simp;exact hb.size,λ j hj=>(oth j (by omega)).trans (hb.block j hj)⟩
 ·rcases hk with rfl|rfl|e|rfl|rfl|rfl|rfl|rfl|rfl
  ·exact a6.symm
  ·exact a1.symm
  ·rintro rfl
   exact a2 e.symm
  ·exact P8 aa.hp hr (by decide)
  ·exact P8 aa.sw.hp hr (by decide)
  ·exact a3.symm
  ·exact P8 aa.st.hp hr (by decide)
  ·exact a4.symm
  ·exact a5.symm
theorem KD.zpd {rc:Nat}{v:Value}(h:KD dm w w')(hm:dm<w)(hr:w<=rc):KD dm w (w'.setCell rc v):=by
 have oth:∀k,k<w.heap.size->(w'.setCell rc v).heap[k]? =w'.heap[k]? :=λ k hk=>aV _ _ _ _ (by show k≠rc;omega)
 exact⟨h.os,h.tape,h.output,by simp;exact h.size,λ k o h1 h2=>(oth k (G.lt_of_some h1)).trans (h.same k o h1 h2),(oth dm hm).trans h.map⟩
theorem Ud {o:Out}{rc:Nat}{x:ByteArray}(h:DkS w0 w' d dm o.2.1 o.2.2)(k:KD dm w w')(hr:Rc w' rc x)(hm:dm<w)(hw:w<=rc)(ZW:w0.heap.size<=w.heap.size):
 dz w0 d dm o w (.returned (.string ⟨(El o.1).toArray⟩)) (w'.setCell rc (.string ⟨(El o.1).toArray⟩)):=
 ⟨rfl,h.zt4 hr (by omega),k.zpd hm hw⟩
theorem zts:(⟨(El (.error 3)).toArray⟩:ByteArray)=⟨#[101,114,114,111,114,32,51]⟩:=by kernel_rfl
theorem ak (A m:Nat)(x:List UInt8)(r:List (List UInt8))(W:World)(hm:m=r.length+1)(h3:m<=10000)(hc:∀(j:Nat) y,(x::r)[j]? =some y->W.cell? (A,j)=some (.string ⟨y.toArray⟩))(hl:∀y∈r,y.length<=100000)(hv:Vars W):
 Calls prog 172 #[.slice (if m=1 then some ⟨A,0,none⟩ else some ⟨A,1,none⟩) (m-1) (m-1)] W (zi r W):=by
 refine zgd _ _ (m-1) r W (by omega) (by omega) (λ h0=>?_) hl hv;rw[aL (by omega)];refine⟨A,1,rfl,λ j y hy=>?_⟩;have:=hc (j+1) y (by simpa using hy)
 rwa[lC j 1] at this
theorem zfo (s:ByteArray)(h:DkS w0 w d dm n L)(ht:Tab w d dm)(hv:Vars w0)(hg:G.Gl w0)(hs:s.size<=5000):
 Calls prog 90 #[.map dm,.string s] w (dz w0 d dm (Ch n L (Ca s)) w):=by
 have BP:=h.base;have TE:∀{W:World},Below w0 w0 W->Vars W:=λ hb=>hv.on hb hv.big
 have KN:∀{W:World},Below w0 w0 W->G.Gl W:=λ hb=>zt3 hg hb (by have:=hv.big;omega)
 have up:∀{W:World},Below w w W->Below w0 w0 W:=λ hb=>BP.tr hb
 have hF:=zto s w (by omega);have hfew:=zgf s;have PU:=zt s;have h3:∀(o:Out),o=(.error 3,n,L)->zfd w (dz w0 d dm o w):=by
  rintro o rfl W hW y hr;refine⟨?_,λ w1 j4=>?_⟩
  ·have:=ig w 3 y W hr (by decide) (TE (up hW)) (KN (up hW))
   have e3:(⟨([101,114,114,111,114,32]++Lib.itoa 3).toArray⟩:ByteArray)=⟨#[101,114,114,111,114,32,51]⟩:=zts
   rwa[e3] at this
  ·have hb:=hW.tr j4
   have IL:Rc w1 w y:=(j4.block _ (G.lt_of_some hr)).trans hr;have:=Ud (o:=(.error 3,n,L)) (h.below' hb) (KD.of_below hb ht.lt) IL ht.lt (aF _) BP.size;dsimp only at this
   rwa[zts] at this
 cases hw:Ca s with
 |nil=>
  rw[hw] at hF;refine za1 dm s w _ hF (λ W hW y hr=>?_);exact Ud (o:=(.ok [111,107],n,L)) (h.below' hW) (KD.of_below hW ht.lt) hr ht.lt (aF _) BP.size
 |cons x r=>
  rw[hw] at hF hfew PU;have hx:x.length<=1000000:=by have:=PU x (by simp);omega
  have DF:r.length+1<=10000:=by simp only[bD] at hfew;omega
  have hLk:∀W,Below w w W->(Instr.lookup 110 (.map dm) (.string ⟨x.toArray⟩) true).run prog W= .ok (match Ck x with|some t=>.tuple #[Jc d t,true]|none=>.tuple #[.agg #[(0:Int),.nilFunc],false]) W:=
   λ W hW=>zdd (ht.same (hW.block dm ht.lt)) x hx
  cases hd:Ck x with
  |none=>
   rw[hd] at hLk;exact Ww dm (r.length+1) s x r w _ hF rfl (by omega) hLk (h3 _ (by simp only[Ch,hd]))
  |some t=>
   rw[hd] at hLk;have htm:t∈Bb:=iH hd;by_cases hk:(r.length:Int)=t.2.1
   ·have hkk:((((r.length+1:Nat):Int)-1) != t.2.1)=false:=by
     rw[bne_eq_false_iff_eq];omega
    refine zf6 dm (r.length+1) s x r t.2.1 d t.2.2 w _ hF rfl (by omega) hLk hkk (zac htm) (λ A W hW hc=>?_);refine(ak A (r.length+1) x r W rfl DF hc (λ y hy=>by have:=PU y (bS _ hy);omega) (TE (up hW))).mono ?_;rintro e w4 ⟨RH,BB⟩;refine⟨BB,?_⟩;cases UI:Bz r with
    |none=>
     rw[UI] at RH;exact .inl ⟨RH,h3 _ (by simp only[Ch,hd,aP hk,UI])⟩
    |some ns=>
     rw[UI] at RH;obtain⟨u,rfl,p9⟩:=RH;refine .inr ⟨u,rfl,?_⟩;have hlen:(ns.length:Int)=t.2.1:=by rw[Zh UI];exact hk
     have eo:Ch n L (x::r)=doD t.2.2 n L ns:=by simp only[Ch,hd,aP hk,UI]
     rw[eo];have hdW:=h.below' hW;refine(zms htm hdW p9 hlen (TE (up hW))).mono ?_;rintro e w5 ⟨he,OW,hk5⟩;have hkw:=(KD.of_below hW ht.lt).trans hk5;refine⟨λ j o hj ho=>hk5.same j o hj (by obtain⟨cs,t',rfl,rfl|rfl⟩:=ho <;> rfl),?_⟩;have hEnd:∀y,Rc w5 w y->_:=λ y hr=>Ud (o:=doD t.2.2 n L ns) OW hkw hr ht.lt (aF _) BP.size
     cases ho5:(doD t.2.2 n L ns).1 with
     |ok b=>
      refine .inl ⟨⟨b.toArray⟩,by rw[he,ho5];rfl,λ y hr=>?_⟩;have:=hEnd y hr;rw[ho5] at this;exact this
     |error c=>
      obtain⟨a,b,z,EZ,_⟩:=hdW.iv;have NW:=Xd (λ i j=>I6 EZ i j) ho5;refine .inr ⟨c,⟨([101,114,114,111,114,32]++Lib.itoa c).toArray⟩,by rw[he,ho5];rfl,λ y hr=>⟨ig w c y w5 hr (by omega) (TE OW.base) (KN OW.base),λ w1 j4=>?_⟩⟩;have IL:Rc w1 w y:=(j4.block _ (G.lt_of_some hr)).trans hr;have:=Ud (o:=doD t.2.2 n L ns) (OW.below' j4) (hkw.trans (KD.of_below j4 OW.lm)) IL ht.lt (aF _) BP.size;rw[ho5] at this;exact this
   ·have hkk:((((r.length+1:Nat):Int)-1) != t.2.1)=true:=by
     rw[iO];omega
    exact az dm (r.length+1) s x r t.2.1 d t.2.2 w _ hF rfl (by omega) hLk hkk (h3 _ (by simp only[Ch,hd,aL hk]))
end Go.Proofs.Y.I
namespace Go.Proofs.Y.I
open Go.RowKit Go.Shelf Go.WideMaps Go.Maps
attribute [local go_sem] Oper.semAt_some
abbrev Ses:=Nat × List G.E × List UInt8
noncomputable def iq (st:Ses)(l:List UInt8):Ses:=
 ((Ch st.1 st.2.1 (Ca ⟨l.toArray⟩)).2.1,(Ch st.1 st.2.1 (Ca ⟨l.toArray⟩)).2.2,st.2.2++El (Ch st.1 st.2.1 (Ca ⟨l.toArray⟩)).1++[10])
noncomputable def Gv (ls:List (List UInt8)):Ses:=ls.foldl iq (10,[],[])
theorem Yy (ls:List (List UInt8))(l:List UInt8):Gv (ls++[l])=iq (Gv ls) l:=by
 unfold Gv;rw[iQ];rfl
theorem O3 {ns:List Int}(h:∀x∈ns,0<=x/\x<=9223372036854775807)(hl:ns.length<=1000):(Ah ns).length<=30000000:=by
 have:=Ce h;omega
theorem Oo {c:Int}(h:0<=c/\c<=100):(Lib.itoa c).length<=21:=by
 have:=Ce (ns:=[c]) (λ y hy=>by simp at hy;subst hy;omega)
 simpa[Ah,Bu] using this
theorem Qy (b:Bool):(Lib.formatBool b).length<=5:=by cases b <;> decide
theorem zql {w:World}{a b x n f:Nat}{L:List G.E}{ns:List Int}(h:IV w a b x n L):(El (doD f n L ns).1).length<=40000000:=by
 have hk:=λ i j=>I6 h i j
 cases ho:(doD f n L ns).1 with
 |error c=>
  have:=Oo (Xd hk ho);unfold El;rw[aM];simp;omega
 |ok bs=>
  show bs.length<=40000000
  match ns with
  |[]=>
   have l1:=Fx (Hm h).1 (Hm h).2;have l2:=O3 (Jh h) (by have:=R5 h;omega);have l3:=O3 (Ib h) (by have:=Te h;omega);have l4:=M7 (Gb h).1 (Gb h).2;have l5:=F3 (Hw h).1 (Hw h).2;have l6:=F3 (Hr h).1 (Hr h).2;have l7:=Fx (Hg h).1 (Hg h).2;have l8:Zv.length<=100:=by decide
   simp only[doD] at ho
   repeat' split at ho
   all_goals
    injection ho with ho
    subst ho
    first
     |omega
     |(simp only[aM,bD,dU];omega)
  |[i]=>
   simp only[doD] at ho;split at ho
   ·unfold Mk at ho
    split at ho
    ·injection ho with ho;subst ho;decide
    ·cases ho
   ·unfold Jo at ho
    split at ho
    ·injection ho with ho;subst ho;decide
    ·cases ho
  |[i,j]=>
   simp only[doD] at ho;split at ho
   ·unfold Jv at ho
    split at ho
    ·injection ho with ho;subst ho;have:=Qy (twB n L i j);omega
    ·cases ho
   ·split at ho
    ·unfold Km at ho
     split at ho
     ·injection ho with ho
      subst ho;obtain⟨k1,k2,c,h1,h2⟩:=hk i j;rw[Uq h1,qp h2];have b1:=(Na h1).1;have b2:=Qm h2;have:=O3 (ns:=[k1,k2]) (λ y hy=>by simp at hy;rcases hy with rfl|rfl <;> omega) (by simp);dsimp only;omega
     ·cases ho
    ·unfold Jp at ho
     split at ho
     ·injection ho with ho;subst ho;have:=Qy (whB n L i j);omega
     ·cases ho
  |[i,a,b]=>
   simp only[doD] at ho;unfold Pj at ho;split at ho
   ·injection ho with ho;subst ho;have:=Qy (decide (i∈brz n (Fh n L i a b)));omega
   ·cases ho
  |i::j::k::m::r=>
   simp only[doD] at ho;cases ho
theorem Y8 {w:World}{a b x n:Nat}{L:List G.E}{ws:List (List UInt8)}(h:IV w a b x n L):(El (Ch n L ws).1).length<=40000000:=by
 have h3:(El (.error 3)).length<=40000000:=by
  have:=Oo (c:=3) (by decide);unfold El;rw[aM];simp;omega
 match ws with
 |[]=>
  show([111,107]:List UInt8).length<=40000000
  decide
 |x::r=>
  simp only[Ch];split
  ·exact h3
  ·split
   ·split
    ·exact h3
    ·exact zql h
   ·exact h3
end Go.Proofs.Y.I
namespace Go.Proofs.Y.I
open Go.RowKit Go.Shelf Go.WideMaps Go.Maps Go.Proofs.Tryz
attribute [local go_sem] Oper.semAt_some
theorem zng:Builder.Extra prog Tryz.lays167_ren:=
 {sizeBuilder:=by kernel_rfl,liesBuilder:=by kernel_rfl,t5:=underlying5,a5:=isAgg5,z5:=sizeOf5,v5:=zeroValue5,infoByte:=by kernel_rfl,cellsByte:=by kernel_rfl,sizeByte:=by kernel_rfl,neB5:=by decide}
variable {w W W':World} {d dm bd b n:Nat} {L:List G.E} {st:Ses} {m:Nat}
theorem DkS.same' (h:DkS w W d dm n L)(hb:Below w w W')(hc:∀(k:Nat) (cs:Array Value) (t:TypeId),t≠5->t≠117->W.heap[k]? =some (.cells cs t)->W'.heap[k]? =some (.cells cs t))(hm:∀(k:Nat) (es:Array MapEntry) (c:Nat),W.heap[k]? =some (.map es c)->W'.heap[k]? =some (.map es c)):DkS w W' d dm n L:=by
 obtain⟨y,p,q,u,R,B,Wl,T,D,pw,bw,pt,bt,mp,N,h⟩:=h;have aa:=h.at_.rn.now.at_;obtain⟨es,c,MI⟩:=h.mo;obtain⟨es',c',hmp⟩:=aa.Mc;have cc:∀{k:Nat} {cs:Array Value} {t:TypeId},t≠5->t≠117->W.heap[k]? =some (.cells cs t)->W'.heap[k]? =W.heap[k]? :=λ h1 h2 hk=>(hc _ _ _ h1 h2 hk).trans hk.symm
 refine⟨y,p,q,u,R,B,Wl,T,D,pw,bw,pt,bt,mp,N,h.at_.same hb (λ k hk=>?_),hc _ _ _ (by decide) (by decide) h.cell,h.hd,h.ne,es,c,hm _ _ _ MI⟩;rcases hk with rfl|rfl|e|rfl|rfl|rfl|rfl|rfl|rfl
 ·exact cc (by decide) (by decide) h.at_.ix
 ·exact cc (by decide) (by decide) h.at_.gra.hp
 ·obtain⟨cur,EM⟩:=Hz h.at_.gra.row e
  exact cc (by decide) (by decide) EM
 ·exact cc (by decide) (by decide) aa.hp
 ·exact cc (by decide) (by decide) aa.sw.hp
 ·exact cc (by decide) (by decide) aa.sw.hb
 ·exact cc (by decide) (by decide) aa.st.hp
 ·exact cc (by decide) (by decide) aa.st.hb
 ·exact(hm _ _ _ hmp).trans hmp.symm
theorem Tu {B:Nat}{bs:List Value}(h:Lib.IsBuilderF 117 5 B b bs W)(hc:∀(k:Nat) (cs:Array Value) (t:TypeId) (fz:Nat × Nat),t=5\/t=117->W.heap[k]? =some (.cells cs t fz)->W'.heap[k]? =some (.cells cs t fz)):Lib.IsBuilderF 117 5 B b bs W':=by
 have key:∀{p:Value},Lib.BuilderAtF 117 5 B b p bs W->Lib.BuilderAtF 117 5 B b p bs W':=by
  rintro p ⟨hB,v,hb,o8,l9⟩;refine⟨hB,v,hc _ _ _ _ (.inr rfl) hb,⟨o8.1,?_⟩,l9⟩;rcases o8.2 with hn|⟨g,cap,cur,fz,rfl,h1,h2,rest⟩
  ·exact .inl hn
  ·exact .inr ⟨g,cap,cur,fz,rfl,h1,hc _ _ _ _ (.inl rfl) h2,rest⟩
 exact h.elim (λ x=>.inl (key x)) (λ x=>.inr (key x))
structure Mi (w W:World) (d dm bd b:Nat) (st:Ses) (m:Nat):Prop where
 dk:DkS w W d dm st.1 st.2.1
 tab:Tab W d dm
 box:Boxed W bd 110 (.map dm)
 bld:Lib.IsBuilderF 117 5 b b (Lib.byteCells st.2.2) W
 len:st.2.2.length<=50000000*m
 hb:w<=b
 hw:b<=W
theorem Mi.below' (h:Mi w W d dm bd b st m)(hb:Below W W W'):Mi w W' d dm bd b st m:=
 ⟨h.dk.below' hb,h.tab.same (hb.block dm h.tab.lt),Ba h.box hb,Tu h.bld (λ k _ _ _ _ hk=>(hb.block k (G.lt_of_some hk)).trans hk),h.len,h.hb,aD h.hw hb.size⟩
theorem Mi.mark (h:Mi w W d dm bd b st m){k:Nat}{o:Obj}(o':Obj)(hk:w<=k)(ho:W.heap[k]? =some o)(hm:marks o=true):Mi w (W.putObj k o') d dm bd b st m:=by
 have oth:∀{j:Nat} {x:Obj},W.heap[j]? =some x->marks x=false->(W.putObj k o').heap[j]? =some x:=λ {j x} hj hx=>by
  refine(World.putObj_heap_other (λ e=>?_)).trans hj;subst e;rw[ho] at hj;injection hj with hj
  rw[hj,hx] at hm;cases hm
 have BP:=h.dk.base;obtain⟨es,c,MI,r⟩:=h.tab;refine⟨h.dk.same' ⟨BP.os,BP.tape,BP.output,by simp[World.putObj];exact BP.size,λ j hj=>(World.putObj_heap_other (by omega)).trans (BP.block j hj)⟩ (λ _ _ _ _ _ hj=>oth hj rfl) (λ _ _ _ hj=>oth hj rfl),⟨es,c,oth MI rfl,r⟩,oth h.box rfl,Tu h.bld (λ _ _ _ _ _ hj=>oth hj rfl),h.len,h.hb,by simp[World.putObj];exact h.hw⟩
theorem Mi.built {bs:List Value}(h:DkS w W d dm n L)(ht:Tab W d dm)(hx:Boxed W bd 110 (.map dm))(BH:Lib.IsBuilderF 117 5 b b bs W)(hwb:w<=b)(hb:Below b W W')(ho:Lib.OthersKept 5 (some b) W W'):DkS w W' d dm n L/\Tab W' d dm/\Boxed W' bd 110 (.map dm)/\∀(k:Nat) (o:Obj),W.heap[k]? =some o->marks o=true->W'.heap[k]? =some o:=by
 obtain⟨cs,fz,EN⟩:∃cs fz,W.heap[b]? =some (.cells cs 117 fz):=by
  rcases BH with⟨_,v,h1,_⟩|⟨_,v,h1,_⟩ <;> exact⟨_,_,h1⟩
 have key:∀{j:Nat} {x:Obj},W.heap[j]? =some x->(∀c f,x≠ .cells c 117 f)->(∀c f,x≠ .cells c 5 f)->W'.heap[j]? =some x:=λ {j x} hj h1 h2=>by
  refine ho j x hj (λ e=>?_) h2;injection e with e
  subst e;rw[EN] at hj;injection hj with hj
  exact h1 _ _ hj.symm
 have BP:=h.base;obtain⟨es,c,MI,r⟩:=ht;refine⟨h.same' (BP.trans (hb.mono hwb)) (λ k cs t h5 h7 hj=>key hj (λ c f e=>h7 (by injection e)) (λ c f e=>h5 (by injection e))) (λ k es c hj=>key hj (λ _ _ e=>by cases e) (λ _ _ e=>by cases e)),⟨es,c,key MI (λ _ _ e=>by cases e) (λ _ _ e=>by cases e),r⟩,key hx (λ _ _ e=>by cases e) (λ _ _ e=>by cases e),λ k o hk hm=>key hk ?_ ?_⟩
 ·rintro c f rfl;cases hm
 ·rintro c f rfl;cases hm
end Go.Proofs.Y.I
namespace Go.Proofs.Y.I
open Go.RowKit Go.Shelf Go.WideMaps Go.Maps Go.Proofs.Tryz
attribute [local go_sem] Oper.semAt_some
theorem za3 (tb:Nat)(s:ByteArray)(w:World)(BS:s.size<=100000)(hB:w.heap[tb]? =some (.cells #[.string s] 9))(I:List (List UInt8)->World->Prop)(hv:∀pre X,I pre X->Vars X):
 ∀(l:Nat) (J:List (List UInt8)->World->Prop) (W:World),Below w w W->(∀pre X Y,J pre X->Below X X Y->J pre Y)->(∀pre X,J pre X->I pre X)->
  (∀pre x X,pre++[x]<+:Ee s.data.toList->J pre X->YieldAt Fence.wide (5-1-1) prog l #[.string ⟨x.toArray⟩] X λ e Y=>e=true/\J (pre++[x]) Y)->J [] W->
  CallsIn Fence.wide (5-1) prog 166 (#[.func (.yield l) #[] #[]]++#[.pointer tb]) W λ e Y=>(∃v,e= .returned v)/\J (Ee s.data.toList) Y:=
 λ l J W hW hJb hJI hY h0=>zh4 4 (by decide) l tb s BS J hJb (λ pre X h=>hv pre X (hJI pre X h)) hY W ((hW.block tb (G.lt_of_some hB)).trans hB) h0
theorem oh:∀(l:List UInt8),∀y∈ln l,y.length<=l.length
 |[],y,hy=>by simp[ln] at hy;subst hy;simp
 |c::r,y,hy=>by
  have ih:=oh r;rw[ln] at hy;split at hy
  ·rcases cO.1 hy with rfl|hy
   ·simp
   ·have:=ih y hy
    simp;omega
  ·split at hy
   ·rename_i h
    exact absurd h (Zw r)
   ·rename_i h t e
    rcases cO.1 hy with rfl|hy
    ·have:=ih h (by rw[e];simp)
     simp;exact this
    ·have:=ih y (by rw[e];exact bS _ hy)
     simp;omega
theorem zij:∀(l:List UInt8),(ln l).length<=l.length+1
 |[]=>by simp[ln]
 |c::r=>by
  have ih:=zij r;rw[ln];split
  ·simp only[bD]
   omega
  ·split
   ·simp
   ·rename_i h t e
    rw[e] at ih;simp only[bD] at ih ⊢;omega
theorem zhe (s:List UInt8):(Ee s).length<=s.length+1:=by
 have h1:=zij (Lib.trimSuffix s [10]);have h2:=Tn s [10];unfold Ee;omega
theorem zq {s y:List UInt8}(h:y∈Ee s):y.length<=s.length:=aD (oh _ y h) (Tn s [10])
noncomputable def zeb (s:List UInt8):List UInt8:=(Gv (Ee s)).2.2
theorem zao (s:ByteArray)(w:World)(hs:s.size<=5000)(hv:Vars w)(hg:G.Gl w):Calls prog 40 #[.string s] w λ e w'=>e=Value.string ⟨(zeb s.data.toList).toArray⟩/\Below w w w':=by
 have HV:=kd hv;have HG:=kd hg;have HS:=kd hs;have XC:Fence.wide.round=none:=rfl;have BS:decide ((20000:Int)<(s.size:Int))=false:=bM (by omega);have HN:=kd (V5 10 w (by decide));clear hv hg hs;refine(callsIn_wide (n:=5)).1 ?_;refine callsIn_of_wp_marks func40 rfl trivial ?_ XC;simp only[ntmps40,bZ,bD,dU,Nat.reduceAdd,Nat.reduceSub,fE,fF,fZ,fI,dX,dZ]
 gi_wp2_with fail
 refine⟨trivial,?_⟩;refine CallsIn.mono (callsIn_wide.2 HN.o) ?_;rintro e w1 ⟨x,p,q,v,B,Wl,T,D,pw,bw,pt,bt,mp,N,rfl,hI1⟩;have OA:=kd hI1;have HD:=kd (Yk w1 (w1.alloc (.cells #[.pointer x] 113)));rw[aT] at HD;clear hI1 HN
 gi_wp2_with fail
 refine⟨trivial,?_⟩;refine CallsIn.mono (callsIn_wide.2 HD.o) ?_;rintro e w3 ⟨rfl,PN,y8⟩;have HT3:=kd PN;have AZ:=kd y8;clear PN y8 HD
 gi_wp2_with fail
 refine⟨trivial,?_⟩;refine CallsIn.mono (callsIn_wide.2 (zla _ _)) ?_;rintro e w6 ⟨rfl,hw6⟩;rw[aT,aT];have RY:=kd hw6;clear hw6;have HSI:Hid (Mi w w6 w1 (w1+1) w3 (w3+1) (Gv []) 0/\w6.heap[w3.heap.size+1+1]? =some (.cells #[.string s] 9)):=by
  have CW:Below w1 w1 (w1.alloc (.cells #[.pointer x] 113)):=b_;have y8:Below (w1.alloc (.cells #[.pointer x] 113)).heap.size (w1.alloc (.cells #[.pointer x] 113)) w3:=by rw[aT];exact AZ.o
  have OT:w1.heap.size+1<=w3.heap.size:=by have:=y8.size;rwa[aT] at this
  have AR:=OA.o.rn.below.size;have hmp:=map_lt OA.o.rn.now.at_;have ZE:w3.heap[w1.heap.size]? =some (.cells #[.pointer x] 113):=(y8.block _ (by simp)).trans (World.alloc_heap_new w1 _);have hdk3:DkS w w3 w1 (w1+1) 10 []:=by
   obtain⟨es,c,hm,_⟩:=HT3.o;exact⟨x,p,q,v,[],B,Wl,T,D,pw,bw,pt,bt,mp,N,(OA.o.below' CW).below' y8,ZE,by omega,by omega,es,c,hm⟩
  have FJ:Below w3 w3 w6:=by
   rw[RY.o];exact((b_).alloc (by simp) _).alloc (by simp;omega) _
  have e6:w6.heap.size=w3.heap.size+3:=by rw[RY.o];simp
  refine⟨⟨hdk3.below' FJ,Tab.same (show Tab w3 _ _ from HT3.o) (FJ.block _ (World.ownsMap.lt HT3.o)),?_,?_,aF _,by omega,by omega⟩,?_⟩
  ·rw[RY.o]
   exact((Boxed.new w3 110 _).alloc _).alloc _
  ·have:=Lib.IsBuilderF.of (Lib.fresh_isBuilder 117 5 (w3.alloc (.cells #[.map (some (w1.heap.size+1))] 110)))
   rw[aT] at this;rw[RY.o];exact this.alloc _
  ·rw[RY.o]
   have:=World.alloc_heap_new ((w3.alloc (.cells #[.map (some (w1.heap.size+1))] 110)).alloc (.cells #[.pointer none,.slice none 0 0] 117)) (.cells #[.string s] 9)
   rwa[aT,aT] at this
 clear RY OA HT3 AZ
 gi_wp2_with fail
 refine zau (n:=5) (by decide) (gf:=166) (lb:=#[.pointer (w3.heap.size+1+1:Nat)]) rfl (enters_of func166 (by kernel_rfl) rfl) (Ee s.data.toList) (λ y:List UInt8=>#[Value.string ⟨y.toArray⟩]) (λ _=>rfl)
  (λ pre X=>Mi w X w1 (w1+1) w3 (w3+1) (Gv pre) pre.length)
  (za3 (w3.heap.size+1+1) s w6 (by have:=HS.o;omega) HSI.o.2 _ (λ pre X h=>HV.o.on h.dk.base HV.o.big))
  (λ pre X Y h hb=>h.below' hb) (λ pre X k o o' hk h ho hm=>h.mark o' (aD HSI.o.1.dk.base.size hk) ho hm) HSI.o.1
  (λ y=>{tmps:=#[.string s,undef,.string ⟨#[]⟩,.pointer x,.nilIface,.pointer w3,.pointer (w3.heap.size+1:Nat),.string ⟨y.toArray⟩,.string s,.int .i64 s.size,.bool false,undef,undef,
    .tuple #[.pointer x,.nilIface],.tuple #[.pointer x,.nilIface],.pointer x,.nilIface,.pointer x,.agg #[.pointer x],.pointer w1,.map (some (w1.heap.size+1)),.string s,
    .func (.func 166) #[] #[.pointer (w3.heap.size+1+1:Nat)],.string ⟨y.toArray⟩,undef,undef,undef,undef,undef,undef],defers:=[]}) ?assign ?body ?done
 case assign=>
  intro l y W1 K hK
  gi_wp2
  exact hK
 case body=>
  rintro l pre y W1 MK JC;have hy:y.length<=5000:=by
   have h1:=zq (s:=s.data.toList) (y:=y) (MK.subset (by simp));have h2:=HS.o;simp at h1;omega
  have LW:pre.length<=5001:=by
   have h1:=MK.length_le;have h2:=zhe s.data.toList;have h3:=HS.o;simp at h1 h2;omega
  have HA:=kd (zfo ⟨y.toArray⟩ JC.dk JC.tab HV.o HG.o (by show y.toArray.size<=5000;simpa using hy));have WC:=kd (Yy pre y);have BF:=JC.box.cell;have HI:=kd JC;have SI:=kd LW;clear MK JC hy LW;generalize CU:Gv pre=st at*;have HWL:=kd (Y8 (ws:=Ca ⟨y.toArray⟩) (HI.o.dk.iv.choose_spec.choose_spec.choose_spec.1));unfold iq at WC;generalize Ch st.1 st.2.1 (Ca ⟨y.toArray⟩)=o at*;clear CU
  gi_wp2_with fail
  refine⟨trivial,?_⟩;refine CallsIn.mono (CallsIn.inRound l (callsIn_wide.2 HA.o)) ?_;rintro e W2 ⟨rfl,MC,CK⟩;have LD:Lib.IsBuilderF 117 5 (w3+1) (w3.heap.size+1) (Lib.byteCells st.2.2) W2:=Tu HI.o.bld (λ k cs t fz ht hk=>CK.same k _ hk (by rcases ht with rfl|rfl <;> rfl));have TI:=HI.o.tab.same CK.map;have LM:Boxed W2 w3 110 (.map (some (w1.heap.size+1))):=CK.same _ _ HI.o.box rfl;have BL:w3.heap.size+1<=W2.heap.size:=aD HI.o.hw CK.size;have RD:=kd (show ∀(k:Nat) (o:Obj),W1.heap[k]? =some o->marks o=true->W2.heap[k]? =some o from λ k o hk hm=>CK.same k o hk (by cases o <;> first|rfl|cases hm));have HWS:=kd (Any.Builder_WriteString_k (ρ:=Tryz.lays156_ren) {Tryz.lays156 with} Jr (w3+1) (w3.heap.size+1) (Lib.byteCells st.2.2) ⟨(El o.1).toArray⟩ W2 LD (by
   have h1:=HI.o.len;have h2:=HWL.o;have h3:=SI.o;have h4:50000000*pre.length<=50000000*5001:=Nat.mul_le_mul_left _ h3;rw[Lib.byteCells_length];show st.2.2.length+(El o.1).toArray.size<=_;rw[bZ];omega) BL)
  have H2:=kd (And.intro MC (And.intro TI (And.intro LM (And.intro LD BL))));clear MC CK LD TI LM BL HA BF
  gi_wp2_with fail
  refine⟨trivial,?_⟩;refine CallsIn.mono (CallsIn.inRound l (callsIn_wide.2 HWS.o)) ?_;rintro e W3 ⟨rfl,IX,y8,WW⟩;obtain⟨MC,TI,LM,LD,BL⟩:=H2.o;obtain⟨ZE,PN,hx3,EJ⟩:=Mi.built MC TI LM LD HI.o.hb y8 WW;rw[Lib.strCells_toArray,<-Lib.byteCells_append] at IX;have hbl3':Lib.IsBuilderF 117 5 (w3+1) (w3.heap.size+1) (Lib.byteCells (st.2.2++El o.1)) W3:=.inr IX;have EX:w3.heap.size+1<=W3.heap.size:=aD BL y8.size;have HWB:=kd (Any.Builder_WriteByte_k Tryz.lays167 zng (w3+1) (w3.heap.size+1) (Lib.byteCells (st.2.2++El o.1)) 10 W3 hbl3' (by
   have h1:=HI.o.len;have h2:=HWL.o;have h3:=SI.o;have h4:50000000*pre.length<=50000000*5001:=Nat.mul_le_mul_left _ h3;rw[Lib.byteCells_length,aM];omega) EX)
  have H3:=kd (And.intro ZE (And.intro PN (And.intro hx3 (And.intro hbl3' (And.intro EX EJ)))));clear MC TI LM LD BL ZE PN hx3 EJ IX hbl3' EX y8 WW H2 HWS
  gi_wp2_with fail
  refine⟨trivial,?_⟩;refine CallsIn.mono (CallsIn.inRound l (callsIn_wide.2 HWB.o)) ?_;rintro e W4 ⟨rfl,WS,BB,GX⟩;obtain⟨ZE,PN,hx3,IX,EX,EJ⟩:=H3.o;obtain⟨hd4,ht4,hx4,hm4⟩:=Mi.built ZE PN hx3 IX HI.o.hb BB GX;have H4:=kd (And.intro hd4 (And.intro ht4 (And.intro hx4 (And.intro WS (And.intro (aD EX BB.size) hm4)))));clear ZE PN hx3 IX EX EJ hd4 ht4 hx4 hm4 WS BB GX HWB
  gi_wp2_with fail
  obtain⟨hd4,ht4,hx4,WS,NG,hm4⟩:=H4.o;obtain⟨_,_,_,_,_,EJ⟩:=H3.o;refine⟨λ k o hk hm=>hm4 k o (EJ k o (RD.o k o hk hm) hm) hm,?_⟩;rw[WC.o];refine⟨hd4,ht4,hx4,?_,?_,HI.o.hb,NG⟩
  ·refine .inr ?_
   have e:Lib.byteCells (st.2.2++El o.1)++[.int .u8 10]=Lib.byteCells (st.2.2++El o.1++[10]):=by simp[Lib.byteCells]
   rw[e] at WS;exact WS
  ·have h1:=HI.o.len
   have h2:=HWL.o;simp only[aM,bD,dU];omega
 case done=>
  rintro D9 W9 hD9 JC hK9;have JF:=kd (Any.Builder_String_any_k (ρ:=Tryz.lays156_ren) {Tryz.lays156 with} Jr (w3+1) (w3.heap.size+1) _ W9 JC.bld JC.hw);have HI:=kd JC;have HK:=kd hK9;have HD:=kd hD9;clear JC hK9 hD9
  gi_wp2_with fail
  refine⟨trivial,?_⟩;refine CallsIn.mono (callsIn_wide.2 JF.o) ?_;rintro e V ⟨rfl,hblV,hbV,hoV⟩;have HBV:=kd hbV;have HKV:=kd (hoV D9 _ HK.o (λ e=>by
   injection e with e
   subst e;rcases HI.o.bld with⟨_,v,h1,_⟩|⟨_,v,h1,_⟩ <;> (rw[HK.o] at h1;cases h1)) (λ _ _ e=>by cases e))
  clear hblV hbV hoV JF
  gi_wp2_with fail
  refine⟨by simp,.inl ⟨_,_,rfl,run_takeDeferred HKV.o,?_⟩⟩;have BP:=HI.o.dk.base;have j4:=BP.trans (HBV.o.mono HI.o.hb);refine⟨_,results_tmp rfl _ _ _,rfl,j4.os,j4.tape,j4.output,by simp[World.putObj];exact j4.size,λ j hj=>(World.putObj_heap_other ?_).trans (j4.block j hj)⟩;have:=HSI.o.1.dk.base.size;have:=HD.o;omega
end Go.Proofs.Y.I
namespace Go.Proofs.Y.I
open Go.RowKit Go.WideMaps Go.Maps Go.Lib
theorem zj1:∀(p r:List UInt8),ln (p++10::r)=ln p++ln r
 |[],r=>by
  show ln (10::r)=[]::ln r;rw[ln,aP rfl]
 |c::p,r=>by
  have ih:=zj1 p r;show ln (c::(p++10::r))=_;rw[ln];conv=>rhs;rw[ln]
  split
  ·rw[ih];rfl
  ·rw[ih]
   cases h:ln p with
   |nil=>exact absurd h (Zw p)
   |cons x t=>rfl
theorem zgk (a:List UInt8):Lib.trimSuffix (a++[10]) [10]=a:=by
 have h:Lib.hasSuffix (a++[10]) [10]=true:=by
  unfold Lib.hasSuffix;rw[List.isSuffixOf_iff_suffix];exact⟨a,rfl⟩
 unfold Lib.trimSuffix;rw[aP h];simp
theorem zdq {a:List UInt8}{c:UInt8}(hc:c≠10):Lib.trimSuffix (a++[c]) [10]=a++[c]:=by
 have h:¬Lib.hasSuffix (a++[c]) [10]=true:=by
  unfold Lib.hasSuffix;rw[List.isSuffixOf_iff_suffix];rintro⟨t,ht⟩;have:=List.append_inj_right' ht rfl;simp at this;exact hc this.symm
 unfold Lib.trimSuffix;rw[aL h]
open Go.RowKit Go.Lib
theorem fw:∀(k:Nat) (l:List UInt8),l.length<=k->ln l=Lib.split l [10]
 |0,l,h=>by
  obtain rfl:l=[]:=bW.1 (by omega);rw[Oq (by simp)];rfl
 |k+1,l,h=>by
  rcases yo l with h0|⟨p,r,rfl,hp⟩
  ·rw[Oq h0,zej h0]
  ·rw[Ti hp,zds r hp,fw k r (by simp at h;omega)]
theorem zbx {c:UInt8}(hc:c≠10):∀a:List UInt8,(ln (a++[c])).getLast? ≠some []
 |[]=>by simp[ln,hc]
 |d::a=>by
  have ih:=zbx hc a;have l9:=Zw (a++[c]);show(if d=10 then []::ln (a++[c]) else match ln (a++[c]) with|[]=>[[d]]|h::t=>(d::h)::t).getLast? ≠some [];cases hq:ln (a++[c]) with
  |nil=>exact absurd hq l9
  |cons h t=>
   rw[hq] at ih;split
   ·rw[iP];exact ih
   ·dsimp only
    cases t with
    |nil=>simp
    |cons x y=>
     rw[iP] at ih ⊢;exact ih
def dl (l:List UInt8):List (List UInt8):=if 1<(Lib.split l [10]).length/\(Lib.split l [10]).getLast? =some [] then(Lib.split l [10]).dropLast else Lib.split l [10]
theorem zk2 (l:List UInt8):dl l=Ee l:=by
 unfold dl;rw[<-fw l.length l (aF _)];rcases List.eq_nil_or_concat l with rfl|⟨a,c,rfl⟩
 ·rfl
 ·rw[List.concat_eq_append]
  unfold Ee;by_cases hc:c=10
  ·subst hc
   rw[zgk];have e:ln (a++[10])=ln a++[[]]:=zj1 a [];rw[e,aP]
   ·simp
   ·refine⟨?_,by simp⟩
    have:=List.length_pos_iff.2 (Zw a);simp;exact this
  ·rw[zdq hc,aL]
   rintro⟨_,h⟩;exact zbx hc a h
def dw (l:List UInt8):List (List UInt8):=(Lib.split l [32]).filter (λ x=>x≠[])
theorem zs3:dw []=[]:=by
 unfold dw;rw[Oq (by simp)];rfl
theorem zm7 (r:List UInt8):dw (32::r)=dw r:=by
 have h:=Ti (p:=[]) (r:=r) (b:=32) (by simp);unfold dw;rw[dX] at h;rw[h];simp
theorem ztz {p:List UInt8}(r:List UInt8)(hp:(32:UInt8)∉p)(h0:p≠[]):dw (p++32::r)=p::dw r:=by
 unfold dw;rw[Ti hp];simp[h0]
theorem zuu {p:List UInt8}(hp:(32:UInt8)∉p)(h0:p≠[]):dw p=[p]:=by
 unfold dw;rw[Oq hp];simp[h0]
theorem gp (n b0 b1 b2 b3:Nat)(h:128<=b0)(hn:1<=n):128<=(decodeN n b0 b1 b2 b3).1/\1<=(decodeN n b0 b1 b2 b3).2/\(decodeN n b0 b1 b2 b3).2<=n/\(decodeN n b0 b1 b2 b3).2<=4/\(2<=(decodeN n b0 b1 b2 b3).2->b1≠32)/\(3<=(decodeN n b0 b1 b2 b3).2->b2≠32)/\(4<=(decodeN n b0 b1 b2 b3).2->b3≠32):=by
 unfold decodeN
 repeat' split
 all_goals (dsimp only;omega)
theorem zhn (s:ByteArray)(pos:Nat)(h:pos<s.size):
 (s.data.toList[pos]? =some 32/\Utf8.decode s pos=(32,1))\/
 (blk (Utf8.decode s pos).1=false/\1<=(Utf8.decode s pos).2/\pos+(Utf8.decode s pos).2<=s.size/\∀j,j<(Utf8.decode s pos).2->s.data.toList[pos+j]? ≠some 32):=by
 have hl:s.data.toList.length=s.size:=by simp
 have hd:=decode_N s pos;have hget:s.data.toList.getD pos 0=s.data.toList[pos]'(by omega):=by
  rw[bH,aB (by omega)];rfl
 have AU:s.data.toList[pos]? =some (s.data.toList.getD pos 0):=by rw[hget];exact aB (by omega)
 have far:∀j,s.data.toList[pos+j]? =some 32->s.data.toList.getD (pos+j) 0=32:=λ j hj=>by
  rw[bH,hj];rfl
 by_cases h128:(s.data.toList.getD pos 0).toNat<128
 ·have e:Utf8.decode s pos=((s.data.toList.getD pos 0).toNat,1):=by
   rw[hd];exact decodeN_ascii _ _ _ _ _ h128
  by_cases h32:s.data.toList.getD pos 0=32
  ·left
   rw[e,AU,h32];exact⟨rfl,rfl⟩
  ·right
   rw[e];refine⟨?_,aF _,by omega,λ j hj=>?_⟩
   ·unfold blk
    rw[aH];intro he;exact h32 (UInt8.toNat.inj he)
   ·obtain rfl:j=0:=by dsimp only at hj;omega
    intro he;exact h32 (far 0 he)
 ·right
  have k:=gp (s.data.toList.length-pos) (s.data.toList.getD pos 0).toNat (s.data.toList.getD (pos+1) 0).toNat (s.data.toList.getD (pos+2) 0).toNat (s.data.toList.getD (pos+3) 0).toNat (by omega) (by omega);rw[<-hd] at k;obtain⟨k1,k2,k3,k4,k5,k6,k7⟩:=k;refine⟨?_,k2,by omega,λ j hj he=>?_⟩
  ·unfold blk
   rw[aH];omega
  ·have hf:=far j he
   have hz:(32:UInt8).toNat=32:=rfl;have:j=0\/j=1\/j=2\/j=3:=by omega
   rcases this with rfl|rfl|rfl|rfl
   ·rw[jU] at hf;rw[hf] at h128;omega
   ·exact k5 (by omega) (by rw[hf];rfl)
   ·exact k6 (by omega) (by rw[hf];rfl)
   ·exact k7 (by omega) (by rw[hf];rfl)
def pcs (s:ByteArray)(x:Nat × Nat):List UInt8:=(s.extract x.1 x.2).data.toList
theorem zhr (s:ByteArray)(a b:Nat):pcs s (a,b)=(s.data.toList.drop a).take (b-a):=by
 unfold pcs;rw[Lib.extract_data]
theorem zdz (D:List UInt8){a b:Nat}(h:a<=b):D.drop a=(D.drop a).take (b-a)++D.drop b:=by
 have:=fP (b-a) (D.drop a);rw[List.drop_drop,show a+(b-a)=b by omega] at this;exact this.symm
theorem zz (s:ByteArray):∀(f pos:Nat) (acc:List (Nat × Nat)),pos<=s.size->s.size<=pos+f->
 ((closeSpans s (spansFromP blk s f pos none acc)).map (pcs s)=acc.map (pcs s)++dw (s.data.toList.drop pos))/\
 (∀a,a<pos->(32:UInt8)∉(s.data.toList.drop a).take (pos-a)->(closeSpans s (spansFromP blk s f pos (some a) acc)).map (pcs s)=acc.map (pcs s)++dw (s.data.toList.drop a)):=by
 have hl:s.data.toList.length=s.size:=by simp
 have atEnd:∀(f pos:Nat) (acc:List (Nat × Nat)),pos=s.size->
  ((closeSpans s (spansFromP blk s f pos none acc)).map (pcs s)=acc.map (pcs s)++dw (s.data.toList.drop pos))/\
  (∀a,a<pos->(32:UInt8)∉(s.data.toList.drop a).take (pos-a)->(closeSpans s (spansFromP blk s f pos (some a) acc)).map (pcs s)=acc.map (pcs s)++dw (s.data.toList.drop a)):=by
  intro f pos acc hp;refine⟨?_,λ a ha AA=>?_⟩
  ·rw[spansFromP_end _ _ _ _ _ _ (by omega),fJ (by omega),zs3,eX]
   rfl
  ·rw[spansFromP_end _ _ _ _ _ _ (by omega)]
   have e:(s.data.toList.drop a).take (pos-a)=s.data.toList.drop a:=aZ (by rw[dJ];omega);rw[e] at AA;rw[zuu AA (by intro h;have:=congrArg List.length h;rw[dJ] at this;simp at this;omega)];show(acc++[(a,s.size)]).map (pcs s)=_;rw[dL,gW,jT,zhr,<-hp,e]
 intro f;induction f with
 |zero=>exact λ pos acc h1 h2=>atEnd 0 pos acc (by omega)
 |succ f ih=>
  intro pos acc h1 h2;by_cases hp:pos<s.size
  ·rcases zhn s pos hp with⟨hb,hd⟩|⟨hb,GH,CK,AA⟩
   ·have hdr:s.data.toList.drop pos=32::s.data.toList.drop (pos+1):=by
     rw[eU (by omega)]
     congr
     rw[aB (by omega)] at hb;exact dG hb
    have CG:blk (32,1).1=true:=rfl;refine⟨?_,λ a ha hn=>?_⟩
    ·unfold spansFromP
     rw[aP hp,hd,aP CG];dsimp only;rw[(ih (pos+1) acc (by omega) (by omega)).1,hdr,zm7]
    ·unfold spansFromP
     rw[aP hp,hd,aP CG];dsimp only;rw[(ih (pos+1) (acc++[(a,pos)]) (by omega) (by omega)).1,zdz s.data.toList (jZ ha),hdr,ztz _ hn (by intro h;have:=congrArg List.length h;rw[bN,dJ] at this;simp at this;omega)];rw[dL,gW,jT,zhr];simp
   ·have CG:¬blk (Utf8.decode s pos).1=true:=by rw[hb];simp
    have seg:∀a,a<=pos->(32:UInt8)∉(s.data.toList.drop a).take (pos-a)->(32:UInt8)∉(s.data.toList.drop a).take (pos+(Utf8.decode s pos).2-a):=by
     intro a ha hn hm;obtain⟨j,hj⟩:=bY hm;rw[dY] at hj;split at hj
     ·rw[fA] at hj
      by_cases hja:j<pos-a
      ·exact hn (aG (i:=j) (by rw[dY,aP hja,fA];exact hj))
      ·refine AA (a+j-pos) (by omega) ?_
       rw[show pos+(a+j-pos)=a+j by omega];exact hj
     ·cases hj
    refine⟨?_,λ a ha hn=>?_⟩
    ·unfold spansFromP
     rw[aP hp,aL CG];dsimp only;exact(ih _ acc CK (by omega)).2 pos (by omega) (seg pos (aF _) (by simp))
    ·unfold spansFromP
     rw[aP hp,aL CG];dsimp only;exact(ih _ acc CK (by omega)).2 a (by omega) (seg a (by omega) hn)
  ·exact atEnd (f+1) pos acc (by omega)
theorem zkc (s:ByteArray):Ca s=dw s.data.toList:=by
 have h:=(zz s s.size 0 [] (aN _) (by omega)).1;rw[List.drop_zero,jT,dX] at h;unfold Ca goFieldsP spansOfP;rw[fB,<-h];rfl
open Go.RowKit Go.WideMaps Go.Maps Go.Lib Go.Proofs.Tryz
variable {w W W':World} {q mb B n:Nat} {L:List G.E}
theorem splitK_len' (sep:List UInt8):∀(k:Nat) (s:List UInt8),∀x∈Lib.splitK sep 0 k s,x.length<=s.length
 |0,s=>by simp[Lib.splitK]
 |k+1,s=>by
  rw[Lib.splitK];split
  ·simp
  ·intro x hx
   rcases cO.1 hx with rfl|hx
   ·rw[bN];omega
   ·have:=splitK_len' sep k _ x hx
    rw[dJ] at this;omega
theorem zh8 (s:ByteArray)(c:UInt8)(w:World)(hs:s.size<=100000)(hv:Vars w):
 (Calls prog 43 #[.string s,.string ⟨#[c]⟩] w λ e w'=>e=Value.slice w (Lib.split s.data.toList [c]).length (Lib.split s.data.toList [c]).length/\w'=w.alloc (.cells (I7 (Lib.split s.data.toList [c])).toArray 9))/\0<(Lib.split s.data.toList [c]).length/\(Lib.split s.data.toList [c]).length<=s.size+1/\∀x∈Lib.split s.data.toList [c],x.length<=s.size:=by
 have h1:(Lib.splitB ⟨#[c]⟩ 0 (Lib.countB s ⟨#[c]⟩) s).map (·.data.toList)=Lib.split s.data.toList [c]:=Lib.splitB_data ⟨#[c]⟩ 0 (Lib.countB s ⟨#[c]⟩) s;have h2:=Lib.splitB_all ⟨#[c]⟩ (by show 1<=1;omega) 0 _ s rfl;have h3:=Lib.countB_le ⟨#[c]⟩ (by show 1<=1;omega) s.size s (aF _);have h4:(Lib.split s.data.toList [c]).length=Lib.countB s ⟨#[c]⟩+1:=by rw[<-h1,aS,h2]
 refine⟨(zf5 s ⟨#[c]⟩ w hs (by show 1<=1;omega) hv).mono ?_,by omega,by omega,λ x hx=>?_⟩
 ·rintro e w' ⟨rfl,rfl⟩
  rw[h4];refine⟨rfl,?_⟩;have e:I7 (Lib.split s.data.toList [c])=(Lib.splitB ⟨#[c]⟩ 0 (Lib.countB s ⟨#[c]⟩) s).map Value.string:=by
   rw[<-h1];unfold I7;rw[fB];refine fH (λ b _=>?_);show Value.string ⟨b.data.toList.toArray⟩=_;rw[Lib.mk_data]
  rw[e]
 ·have:=splitK_len' [c] _ s.data.toList x hx
  have:s.data.toList.length=s.size:=by simp
  omega
theorem Mr {b:Nat}{ls:List (List UInt8)}(h:w.heap[b]? =some (.cells (I7 ls).toArray 9)){j:Nat}{x:List UInt8}(hx:ls[j]? =some x):w.cell? (b,j)=some (.string ⟨x.toArray⟩):=by
 simp[World.cell?,h,I7,hx]
structure Q4 (w W:World) (q mb B:Nat) (sp:List (List UInt8)) (st:Ses) (m:Nat):Prop where
 dg:DG w W q st.1 st.2.1
 tab:Ll W mb
 ls:W.heap[B]? =some (.cells (I7 sp).toArray 9)
 len:st.2.2.length<=50000000*m
theorem DG.cell (h:DG w W q n L):∃cs,W.heap[q]? =some (.cells cs 40):=by
 obtain⟨u,R,h2,_⟩:=h;exact⟨_,h2.hp⟩
theorem Q4.below' {sp:List (List UInt8)}{st:Ses}{m:Nat}(h:Q4 w W q mb B sp st m)(hb:Below W W W'):Q4 w W' q mb B sp st m:=
 ⟨h.dg.below' hb,h.tab.same (hb.block mb h.tab.lt),(hb.block B (G.lt_of_some h.ls)).trans h.ls,h.len⟩
theorem Q4.kr {sp:List (List UInt8)}{st:Ses}{m:Nat}(h:Q4 w W q mb B sp st m)(hk:KR q W W'):Ll W' mb/\W'.heap[B]? =some (.cells (I7 sp).toArray 9):=by
 obtain⟨cs,hq⟩:=h.dg.cell;obtain⟨es,c,hm,r⟩:=h.tab;refine⟨⟨es,c,hk.same _ _ hm (λ e=>?_) (λ _ _ e=>by cases e),r⟩,hk.same _ _ h.ls (λ e=>?_) (λ _ _ e=>by cases e)⟩
 ·rw[e,hq] at hm;cases hm
 ·have:=h.ls
  rw[e,hq] at this;cases this
theorem zg0 {α:Type}{p:α->Bool}{l:List α}{i:Nat}{y:α}(hy:l[i]? =some y)(hp:p y=true):(l.filter p)[((l.take i).filter p).length]? =some y/\((l.take (i+1)).filter p).length=((l.take i).filter p).length+1:=by
 have hi:i<l.length:=(aC.1 hy).1;have e1:l.take (i+1)=l.take i++[y]:=by rw[bL,hy];rfl
 have e2:l=l.take i++y::l.drop (i+1):=by
  have e3:l.drop i=y::l.drop (i+1):=by
   rw[eU hi]
   congr
   rw[aB hi] at hy;exact dG hy
  have:=fP i l;rw[e3] at this;exact this.symm
 refine⟨?_,by rw[e1,bP];simp[hp]⟩;conv=>lhs;arg 1;rw[e2]
 rw[bP,fK (aF _),Nat.sub_self];simp[hp]
theorem zc0 {α:Type}{p:α->Bool}{l:List α}{i:Nat}{y:α}(hy:l[i]? =some y)(hp:p y=false):((l.take (i+1)).filter p).length=((l.take i).filter p).length:=by
 have e1:l.take (i+1)=l.take i++[y]:=by rw[bL,hy];rfl
 rw[e1,bP];simp[hp]
def nz (r:List (List UInt8)):List Int:=r.map λ x=>(Bl x).getD 0
def okN (r:List (List UInt8)):Bool:=r.all λ x=>(Bl x).isSome
theorem Xj:∀r:List (List UInt8),Bz r=if okN r=true then some (nz r) else none
 |[]=>rfl
 |x::r=>by
  unfold Bz;rw[Xj r];cases hx:Bl x with
  |none=>simp[okN,hx]
  |some v=>
   by_cases h:okN r=true
   ·have:okN (x::r)=true:=by unfold okN at h ⊢;simp[hx];simpa using h
    rw[aP h,aP this];simp[nz,hx]
   ·have:¬okN (x::r)=true:=by unfold okN at h ⊢;simp[hx];simpa using h
    rw[aL h,aL this];rfl
theorem zru {r:List (List UInt8)}{i:Nat}{y:List UInt8}(hy:r[i]? =some y):nz (r.take (i+1))=nz (r.take i)++[(Bl y).getD 0]/\okN (r.take (i+1))=(okN (r.take i)&&(Bl y).isSome):=by
 have e1:r.take (i+1)=r.take i++[y]:=by rw[bL,hy];rfl
 rw[e1];exact⟨by simp[nz],by simp[okN]⟩
end Go.Proofs.Y.I
