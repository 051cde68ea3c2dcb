import Derived.Test.YtebcjaenhiiflaaGreatDoorQJyJj
import Derived.Test.YtebcjaenhiiflaaGreatDoorQJeQc
import Derived.Test.YtebcjaenhiiflaaGreatDoorQKVsFDe
set_option maxHeartbeats 2000000
set_option maxRecDepth 100000
namespace Go.Proofs.Y.I
open Go.RowKit Go.WideMaps Go.Maps Go.Lib Go.Proofs.Tryz
theorem Lg (bk c k:Nat)(xs:List (List UInt8))(sep:ByteArray)(w:World)(hk:k=xs.length)(hc:∀(j:Nat) x,xs[j]? =some x->w.cell? (bk,j)=some (.string ⟨x.toArray⟩))(CG:bk<w)(hN:xs.length<=100000)(GI:xs.length<=c)(hlen:(Lib.join xs sep.data.toList).length<=1000000000):
 Calls prog 132 #[.slice bk k c,.string sep] w λ e w'=>e=Value.string ⟨(Lib.join xs sep.data.toList).toArray⟩/\Below w w w':=by
 subst hk;have hm:(xs.map λ x=>(⟨x.toArray⟩:ByteArray)).map (·.data.toList)=xs:=by
  rw[fB];conv=>rhs;rw[<-kI xs]
  rfl
 have h:=Any.strings_Join Tryz.lays156 Jr bk 0 c (xs.map λ x=>(⟨x.toArray⟩:ByteArray)) sep w (λ j x hx=>by
  rw[bJ] at hx;cases hq:xs[j]? with
  |none=>rw[hq] at hx;cases hx
  |some y=>
   rw[hq] at hx;injection hx with hx
   subst hx;rw[gG];exact hc j y hq) CG (by rw[aS];omega) (by rw[aS];exact GI) (by rw[hm];omega)
 rw[hm,aS] at h;exact h
theorem Ig (a:Option Addr)(c:Nat)(sep:ByteArray)(w:World):Calls prog 132 #[.slice a 0 c,.string sep] w λ e w'=>e=Value.string ⟨#[]⟩/\w'=w:=
 Any.strings_Join_none Tryz.lays156 Jr a c sep w
def I7 (xs:List (List UInt8)):List Value:=xs.map λ x=>.string ⟨x.toArray⟩
def F8 (w0 w:World)(xs:List (List UInt8))(j:Nat)(v:Value):Prop:=w.ownsRow w0 9 1 v j (I7 (xs.take j))/\Below w0 w0 w
theorem Nt {w0 w w1 w2:World}{xs:List (List UInt8)}{j:Nat}{v v2:Value}{x:List UInt8}{o:Obj}(h:F8 w0 w xs j v)(hb:Below w w w1)(hx:xs[j]? =some x)(h2:w2.ownsRow w0 9 1 v2 (j+1) (I7 (xs.take j)++[.string ⟨x.toArray⟩]))(hg:(w1.alloc o).grownBy w2 v.ownBlock):F8 w0 w2 xs (j+1) v2:=by
 have h1:=Cz h.1 hb;have j4:=h.2.tr hb;refine⟨?_,(j4.alloc j4.size o).grown hg (by have:=j4.size;simp;omega) λ k hk=>(h1.lt k hk).1⟩;rw[bL,hx]
 simpa[I7] using h2
theorem Lu {w0 w:World}{xs:List (List UInt8)}{j:Nat}{v:Value}(h:F8 w0 w xs j v)(hj:xs.length=j)(h0:0<j):∃g c,v= .slice (some ⟨g,0,none⟩) j c/\j<=c/\g<w.heap.size/\∀(i:Nat) y,xs[i]? =some y->w.cell? ⟨g,i,none⟩=some (.string ⟨y.toArray⟩):=by
 subst hj;have h1:=h.1;rw[bK] at h1;rcases h1.2 with⟨_,hz⟩|⟨g,cap,cur,rfl,hb,hg,hc,_⟩
 ·omega
 ·refine⟨g,cap,rfl,by omega,G.lt_of_some hg,λ i y hy=>?_⟩
  have:=h1.cells rfl i (.string ⟨y.toArray⟩) (by unfold I7;rw[bJ,hy];rfl)
  rwa[G.Bh] at this
theorem Le (a:Option Addr)(c m:Nat)(ns:List Int)(w:World)(hm:m=ns.length)(hz:Zs w a ns)(hr:∀x∈ns,0<=x/\x<=9223372036854775807)(h3:ns.length<=10000)(hv:Vars w):
 Calls prog 266 #[.slice a m c] w λ e w'=>e=Value.string ⟨(Ah ns).toArray⟩/\Below w w w':=by
 have HC:=kd hz;have HR:=kd hr;have HV:=kd hv;have HM:=kd (And.intro hm h3);have EJ:m<=10000:=by omega
 obtain⟨i0,hi,BR,BU,BM⟩:=info_parts Ou;clear hz hr hv hm h3;go_enter func266,ntmps266;go_wp2_with (first
  |(at_make;refine wpList_make_own _ rfl _ _ 70 rfl w.heap.size 9 i0 (.string ByteArray.empty) 1 underlying70 hi BR BU .i64 .i64 _ m rfl rfl rfl (by rw[BM];omega) (by unfold maxLen;omega) (aF _) ?_;intro w0 CZ BX)
  |fail)
 have FN:Hid (Q8 w w0 ns 0 (.slice w 0 m)):=⟨CZ,(aI _ _).grown BX (aF _) (λ j hj=>by cases hj)⟩;clear CZ BX;go_loopw [3,11] (λ s3 s11 wq=>∃j:Nat,j<=m/\s11=j/\Q8 w wq ns j s3) (λ _ s11 _=>m-(RowKit.intOf s11).toNat)
 case atStart=>exact⟨0,aN _,rfl,FN.o⟩
 case round=>
  clear FN;obtain⟨j,hj,rfl,q9⟩:=hrel;have HW:=kd q9;clear q9;by_cases j6:j<m
  ·have FP:j<ns.length:=by have:=HM.o;omega
   obtain⟨nb,FT,AO⟩:=HC.o (by omega);subst FT;have hx:ns[j]? =some ns[j]:=aB FP;have HX:=kd hx;have UD:=HR.o _ (aG hx);have ED:=AO j FP;rw[bH,hx] at ED;simp only[jW] at ED;have JA:wr.cell? (nb,j)=some (.int .i64 ns[j]):=(HW.o.2.cell (p:=⟨nb,j,none⟩) (G.lt_of_cell ED)).trans ED;generalize ns[j]=x at*;have HI:Hid _:=Tf x UD.1 UD.2 wr (HV.o.on HW.o.2 HV.o.big);clear hx FP UD AO ED;go_wp2_with (first
    |(go_at_call 131;refine aA HI.o ?_;rintro e w1 ⟨rfl,j4⟩;have o7:=Cz HW.o.1 j4;have BS:=aD HW.o.2.size j4.size)
    |(at_builtin;refine wpList_append_own_at _ rfl _ _ 70 rfl w.heap.size 9 i0 (.string ByteArray.empty) 1 16 underlying70 hi BR BU BM rfl (by decide) u3 _ _ rfl (o7.alloc _) w1 1 1 [.string ⟨(Lib.itoa x).toArray⟩] rfl rfl (cell_one_new _ _ _) (by simp[Value.oneCell']) (by unfold maxLen;omega) (by omega) (by simp;omega) ?_;intro v2 w2 z8 AU _ _))
   have EE:Hid (Q8 w w2 ns (j+1) v2):=zbv HW.o j4 HX.o z8 AU;clear z8 AU o7 j4;go_wp2_with fail;go_roundw;case rel=>exact⟨j+1,by omega,by go_num,EE.o⟩
   case measure=>simp[RowKit.intOf];omega
  ·obtain rfl:j=m:=by omega
   by_cases h0:j=0
   ·subst h0
    have hn:ns=[]:=bW.1 (by have:=HM.o;omega);obtain⟨aa,cc,hu⟩:=Fz HW.o.1;subst hu;subst hn;go_wp2_with (go_at_call 132;refine aA (join_none aa cc wr) ?_;rintro e w1 ⟨rfl,AR⟩;subst w1);go_ret;exact⟨rfl,HW.o.2⟩
   ·obtain⟨g,cc,hu,LU,hg,AP⟩:=mf HW.o HM.o.1.symm (by omega)
    have HJ:Hid _:=qi g cc j (ns.map Lib.itoa) wr (by rw[aS];exact HM.o.1) AP hg (by rw[aS];have:=HM.o;omega) (by rw[aS];have:=HM.o;omega) (by
     have:=Ce HR.o;have:=HM.o;unfold Ah at*;omega)
    subst hu;clear AP;go_wp2_with (go_at_call 132;refine aA HJ.o ?_;rintro e w1 ⟨rfl,j4⟩);go_ret;exact⟨rfl,HW.o.2.tr j4⟩
theorem zmo (a:Option Addr)(c m:Nat)(ns:List Int)(w:World)(hm:m=ns.length)(hz:Zs w a ns)(hr:∀x∈ns,0<=x/\x<=9223372036854775807)(h3:ns.length<=10000)(hv:Vars w):
 Calls prog 265 #[.slice a m c] w λ e w'=>e=Value.string ⟨(Ah ns).toArray⟩/\Below w w w':=by
 have HC:Hid _:=Le a c m ns w hm hz hr h3 hv;clear hm hz hr h3 hv;go_enter func265,ntmps265;go_wp2_with fail;refine aA HC.o ?_;rintro e w1 ⟨rfl,hb⟩;have HB:=kd hb;clear hb;go_wp2_with fail;go_ret;exact⟨rfl,HB.o⟩
theorem pg (w:World)(x y:Int):Zs (w.alloc (.cells #[x,y] 3)) (some ⟨w.heap.size,0,none⟩) [x,y]:=by
 refine λ _=>⟨w.heap.size,rfl,λ j hj=>?_⟩
 simp at hj;have:j=0\/j=1:=by omega
 rcases this with rfl|rfl <;> simp
theorem zm2 (w:World)(x y z:Int):Zs (w.alloc (.cells #[x,y,z] 3)) (some ⟨w.heap.size,0,none⟩) [x,y,z]:=by
 refine λ _=>⟨w.heap.size,rfl,λ j hj=>?_⟩
 simp at hj;have:j=0\/j=1\/j=2:=by omega
 rcases this with rfl|rfl|rfl <;> simp
theorem Bv (x y:List UInt8):(⟨x.toArray⟩:ByteArray)++⟨y.toArray⟩=⟨(x++y).toArray⟩:=by
 apply ByteArray.ext;simp
theorem Cq (x y:List UInt8)(w:World)(hl:x.length+y.length<=1000000000):
 Calls prog 263 #[.string ⟨x.toArray⟩,.string ⟨y.toArray⟩] w λ e w'=>e=Value.string ⟨(x++[32]++y).toArray⟩/\w'=w:=by
 go_enter func263,ntmps263;go_wp2_with fail;go_ret;refine⟨?_,rfl⟩;rw[<-Bv,<-Bv];rfl
theorem Lc (w:World):Calls prog 267 #[.nilIface] w λ e w'=>e=Value.tuple #[]/\w'=w:=by
 go_enter func267,ntmps267;go_wp2_with fail;exact lF (iK rfl _ _ _) rfl ⟨rfl,rfl⟩
theorem G5 (t:TypeId)(v:Value)(w:World):Calls prog 267 #[.iface t v] w λ e w'=>e= .panicked [{v:=.iface t v,recovered:=false}]/\w'=w:=by
 go_enter func267,ntmps267;go_wp2_with fail;exact⟨rfl,rfl,rfl⟩
theorem O0 (b:Bool)(w:World):Calls prog 262 #[b,.nilIface] w λ e w'=>e=b/\w'=w:=by
 have HC:=kd (Lc w);go_enter func262,ntmps262;go_wp2_with (go_at_call 267;refine aA HC.o ?_;rintro e w1 ⟨rfl,hw⟩;subst w1);go_ret;exact⟨rfl,rfl⟩
theorem Qa (b:Bool)(t:TypeId)(v:Value)(w:World):Calls prog 262 #[b,.iface t v] w λ e w'=>e= .panicked [{v:=.iface t v,recovered:=false}]/\w'=w:=by
 have HC:=kd (G5 t v w);go_enter func262,ntmps262;go_wp2_with (go_at_call 267;refine aA HC.o ?_;rintro e w1 ⟨rfl,hw⟩;subst w1);exact⟨rfl,rfl,rfl⟩
theorem Si (x:Int)(w:World):Calls prog 275 #[x,.nilIface] w λ e w'=>e=x/\w'=w:=by
 have HC:=kd (Lc w);go_enter func275,ntmps275;go_wp2_with (go_at_call 267;refine aA HC.o ?_;rintro e w1 ⟨rfl,hw⟩;subst w1);go_ret;exact⟨rfl,rfl⟩
theorem zdl (x:Int)(t:TypeId)(v:Value)(w:World):Calls prog 275 #[x,.iface t v] w λ e w'=>e= .panicked [{v:=.iface t v,recovered:=false}]/\w'=w:=by
 have HC:=kd (G5 t v w);go_enter func275,ntmps275;go_wp2_with (go_at_call 267;refine aA HC.o ?_;rintro e w1 ⟨rfl,hw⟩;subst w1);exact⟨rfl,rfl,rfl⟩
theorem Sd (p:Option Addr)(w:World):Calls prog 272 #[.pointer p,.nilIface] w λ e w'=>e=Value.pointer p/\w'=w:=by
 have HC:=kd (Lc w);go_enter func272,ntmps272;go_wp2_with (go_at_call 267;refine aA HC.o ?_;rintro e w1 ⟨rfl,hw⟩;subst w1);go_ret;exact⟨rfl,rfl⟩
theorem zc6 (p:Option Addr)(t:TypeId)(v:Value)(w:World):Calls prog 272 #[.pointer p,.iface t v] w λ e w'=>e= .panicked [{v:=.iface t v,recovered:=false}]/\w'=w:=by
 have HC:=kd (G5 t v w);go_enter func272,ntmps272;go_wp2_with (go_at_call 267;refine aA HC.o ?_;rintro e w1 ⟨rfl,hw⟩;subst w1);exact⟨rfl,rfl,rfl⟩
def thrown (k:Int):Ending:=.panicked [{v:=.iface 23 k,recovered:=false}]
def zva:Option Int->Ending
 |some v=>.returned v
 |none=>thrown 3
theorem znx (s:ByteArray)(w:World)(hs:s.size<=100000)(hv:Vars w):Calls prog 278 #[.string s] w λ e w'=>e=zva (Bl s.data.toList)/\Below w w w':=by
 have HV:=kd hv;have HP:=kd (Yx s w hs hv);clear hv;go_enter func278,ntmps278;go_wp2_with fail;refine aA HP.o ?_;rintro e w1 ⟨RH,j4⟩;have x8:=kd j4;clear j4 HP;rcases RH with⟨v,hpv,UE,rfl⟩|⟨AA,v,t,pp,rfl⟩
 ·have GU:=kd hpv
  have HF:=kd (Pz v UE.1 UE.2 w1 (HV.o.below x8.o));clear hpv UE;by_cases he:(⟨(Lib.itoa v).toArray⟩:ByteArray)=s
  ·have HN:Hid (Bl s.data.toList=some v):=by
    show Bl _=_;unfold Bl;rw[GU.o];dsimp only;rw[aP (by rw[<-he])]
   rw[he] at HF;go_wp2_with (go_at_call 100;refine aA HF.o ?_;rintro e w2 ⟨rfl,j5⟩);go_ret;exact⟨by rw[HN.o];rfl,x8.o.tr j5⟩
  ·have HN:Hid (Bl s.data.toList=none):=by
    show Bl _=_;unfold Bl;rw[GU.o];dsimp only;rw[aL (λ e=>he (by rw[e]))]
   have he':((⟨(Lib.itoa v).toArray⟩:ByteArray).toList==s.toList)=false:=by
    rw[aH,ByteArray.toList_eq,ByteArray.toList_eq];exact λ e=>he (iY e)
   generalize (⟨(Lib.itoa v).toArray⟩:ByteArray)=tx at*;go_wp2_with (go_at_call 100;refine aA HF.o ?_;rintro e w2 ⟨rfl,j5⟩);exact⟨rfl,by rw[HN.o];rfl,x8.o.tr j5⟩
 ·have HN:Hid (Bl s.data.toList=none):=by
   show Bl _=_;unfold Bl;cases hq:Lib.parseIntB 64 s.data.toList with
   |ok m=>exact absurd hq (AA m)
   |_=>rfl
  clear AA;go_wp2_with fail;exact⟨rfl,by rw[HN.o];rfl,x8.o⟩
def inV (ns:List Int):List Value:=ns.map λ x=>.int .i64 x
def F7 (w0 w:World)(ns:List Int)(v:Value):Prop:=w.ownsRow w0 3 1 v ns.length (inV ns)/\Below w0 w0 w
theorem zcu {w0 w w1 w2:World}{ns:List Int}{v v2:Value}{x:Int}{o:Obj}(h:F7 w0 w ns v)(hb:Below w w w1)(h2:w2.ownsRow w0 3 1 v2 (ns.length+1) (inV ns++[.int .i64 x]))(hg:(w1.alloc o).grownBy w2 v.ownBlock):F7 w0 w2 (ns++[x]) v2:=by
 have h1:=Cz h.1 hb;have j4:=h.2.tr hb;refine⟨?_,(j4.alloc j4.size o).grown hg (by have:=j4.size;simp;omega) λ k hk=>(h1.lt k hk).1⟩
 simpa[inV] using h2
def Bz:List (List UInt8)->Option (List Int)
 |[]=>some []
 |x::r=>match Bl x with
  |none=>none
  |some v=>(Bz r).map (v::·)
theorem Vj (l:List (List UInt8))(x:List UInt8):Bz (l++[x])=match Bz l with
 |none=>none
 |some ns=>(Bl x).map λ v=>ns++[v]:=by
 induction l with
 |nil=>cases h:Bl x <;> simp[Bz,h]
 |cons y r ih=>
  cases h:Bl y with
  |none=>simp[Bz,h]
  |some u=>
   simp only[dZ,Bz,h,ih];cases hr:Bz r with
   |none=>simp
   |some ns=>cases hx:Bl x <;> simp
theorem Zh {l:List (List UInt8)}{ns:List Int}(h:Bz l=some ns):ns.length=l.length:=by
 induction l generalizing ns with
 |nil=>simp[Bz] at h;subst h;rfl
 |cons y r ih=>
  unfold Bz at h;cases hy:Bl y with
  |none=>rw[hy] at h;cases h
  |some u=>
   rw[hy] at h;cases hr:Bz r with
   |none=>rw[hr] at h;cases h
   |some k=>rw[hr] at h;simp at h;subst h;simp[ih hr]
theorem zfg {l:List (List UInt8)}{k:Nat}(h:Bz (l.take k)=none):Bz l=none:=by
 have:∀a b:List (List UInt8),Bz a=none->Bz (a++b)=none:=by
  intro a b ha;induction a with
  |nil=>cases ha
  |cons y r ih=>
   unfold Bz at ha;simp only[dZ,Bz];cases hy:Bl y with
   |none=>rfl
   |some u=>
    rw[hy] at ha;cases hr:Bz r with
    |none=>simp[ih hr]
    |some k=>rw[hr] at ha;cases ha
 have h2:=this _ (l.drop k) h
 rwa[fP] at h2
def zi (xs:List (List UInt8))(w:World)(e:Ending)(w':World):Prop:=
 (match Bz xs with
   |none=>e=thrown 3
   |some ns=>∃v,e= .returned v/\F7 w w' ns v)/\Below w w w'
theorem zgd (a:Option Addr)(c m:Nat)(xs:List (List UInt8))(w:World)(hm:m=xs.length)(h3:m<=10000)
 (hc:0<m->∃g o,a=some ⟨g,o,none⟩/\∀(j:Nat) x,xs[j]? =some x->w.cell? ⟨g,o+j,none⟩=some (.string ⟨x.toArray⟩))
 (hl:∀x∈xs,x.length<=100000) (hv:Vars w):
 Calls prog 172 #[.slice a m c] w (zi xs w):=by
 have HC:=kd hc;have HV:=kd hv;have HL:=kd hl;have HM:=kd hm;obtain⟨i0,hi,BR,BU,BM⟩:=info_parts S.Tryz.info3;clear hc hv hl hm;go_enter func172,ntmps172;go_wp2_with (first
  |(at_make;refine wpList_make_own _ rfl _ _ 48 rfl w.heap.size 3 i0 (0:Int) 1 underlying48 hi BR BU .i64 .i64 _ m rfl rfl rfl (by rw[BM];omega) (by unfold maxLen;omega) (aF _) ?_;intro w0 CZ BX)
  |fail)
 have FN:Hid (F7 w w0 [] (.slice w 0 m)):=⟨CZ,(aI _ _).grown BX (aF _) (λ j hj=>by cases hj)⟩;clear CZ BX;go_loopw [3,11] (λ s3 s11 wq=>∃(j:Nat) (ns:List Int),j<=m/\s11=j/\Bz (xs.take j)=some ns/\F7 w wq ns s3) (λ _ s11 _=>m-(RowKit.intOf s11).toNat)
 case atStart=>exact⟨0,[],aN _,rfl,rfl,FN.o⟩
 case round=>
  clear FN;obtain⟨j,ns,hj,rfl,UI,q9⟩:=hrel;have HW:=kd q9;have HS:=kd UI;have HNL:Hid (ns.length=j):=by
   show ns.length=j;rw[Zh UI,bN,<-HM.o];omega
  clear q9 UI;by_cases j6:j<m
  ·obtain⟨g,o,FT,AO⟩:=HC.o (by omega)
   subst FT;obtain⟨x,hx⟩:∃x,xs[j]? =some x:=⟨_,aB (by rw[<-HM.o];exact j6)⟩;have HX:Hid (xs.take (j+1)=xs.take j++[x]):=by
    show _=_;rw[bL,hx];rfl
   have ED:=AO j x hx;have JA:wr.cell? (g,o+j)=some (.string ⟨x.toArray⟩):=(HW.o.2.cell (p:=⟨g,o+j,none⟩) (G.lt_of_cell ED)).trans ED;have HI:=kd (znx ⟨x.toArray⟩ wr (by have:=HL.o x (aG hx);simpa[ByteArray.size] using this) (HV.o.on HW.o.2 HV.o.big));clear hx AO ED;cases SG:Bl x with
   |none=>
    have HE:Hid (Bz xs=none):=by
     refine zfg (k:=j+1) ?_;rw[HX.o,Vj,HS.o,SG];rfl
    rw[show Bl (⟨x.toArray⟩:ByteArray).data.toList=none from SG] at HI;have VP:Hid (Calls prog 278 #[.string ⟨x.toArray⟩] wr λ e w'=>e= .panicked [{v:=.iface 23 (3:Int),recovered:=false}]/\Below wr wr w'):=HI.o;clear SG HI;go_wp2_with (go_at_call 278;refine aA VP.o ?_;rintro e w1 ⟨rfl,j4⟩);refine⟨rfl,?_,HW.o.2.tr j4⟩;rw[HE.o];rfl
   |some v=>
    have LP:Hid (Bz (xs.take (j+1))=some (ns++[v])):=by
     show _=_;rw[HX.o,Vj,HS.o,SG];rfl
    rw[show Bl (⟨x.toArray⟩:ByteArray).data.toList=some v from SG] at HI;have VP:Hid (Calls prog 278 #[.string ⟨x.toArray⟩] wr λ e w'=>e=v/\Below wr wr w'):=HI.o;clear SG HI;have hnl:=HNL.o;go_wp2_with (first
     |(go_at_call 278;refine aA VP.o ?_;rintro e w1 ⟨rfl,j4⟩;have o7:=Cz HW.o.1 j4;have BS:=aD HW.o.2.size j4.size)
     |(at_builtin;refine wpList_append_own_at _ rfl _ _ 48 rfl w.heap.size 3 i0 (0:Int) 1 8 underlying48 hi BR BU BM rfl (by decide) u3 _ _ rfl (o7.alloc _) w1 1 1 [v] rfl rfl (cell_one_new _ _ _) (by simp[Value.oneCell']) (by unfold maxLen;omega) (by omega) (by simp;omega) ?_;intro v2 w2 z8 AU _ _))
    have EE:Hid (F7 w w2 (ns++[v]) v2):=zcu HW.o j4 z8 AU;clear z8 AU o7 j4;go_wp2_with fail;go_roundw;case rel=>exact⟨j+1,ns++[v],by omega,by go_num,LP.o,EE.o⟩
    case measure=>simp[RowKit.intOf];omega
  ·obtain rfl:j=m:=by omega
   have HE:Hid (Bz xs=some ns):=by
    have:=HS.o;rw[HM.o,bK] at this;exact this
   go_wp2_with fail;go_ret;refine⟨?_,HW.o.2⟩;rw[HE.o];exact⟨_,rfl,HW.o⟩
theorem zdx (a:Option Addr)(c m:Nat)(xs:List (List UInt8))(w:World)(hm:m=xs.length)(h3:m<=10000)
 (hc:0<m->∃g,a=some ⟨g,0,none⟩/\∀(j:Nat) (x:List UInt8),xs[j]? =some x->∃ta tk tc,w.cell? ⟨g,j,none⟩=some (.slice ta tk tc)/\∀W,Below w w W->Calls prog 265 #[.slice ta tk tc] W λ e w'=>e=Value.string ⟨x.toArray⟩/\Below W W w')
 (hlen:(Lib.join xs [44,32]).length<=1000000000):
 Calls prog 264 #[.slice a m c,.func (.func 265) #[] #[]] w λ e w'=>e=Value.string ⟨(Lib.join xs [44,32]).toArray⟩/\Below w w w':=by
 have HC:=kd hc;have HM:=kd hm;have HL:=kd hlen;obtain⟨i0,hi,BR,BU,BM⟩:=info_parts Ou;clear hc hm hlen;go_enter func264,ntmps264;go_wp2_with (first
  |(at_make;refine wpList_make_own _ rfl _ _ 70 rfl w.heap.size 9 i0 (.string ByteArray.empty) 1 underlying70 hi BR BU .i64 .i64 _ m rfl rfl rfl (by rw[BM];omega) (by unfold maxLen;omega) (aF _) ?_;intro w0 CZ BX)
  |fail)
 have FN:Hid (F8 w w0 xs 0 (.slice w 0 m)):=⟨CZ,(aI _ _).grown BX (aF _) (λ j hj=>by cases hj)⟩;clear CZ BX;go_loopw [5,13] (λ s5 s13 wq=>∃j:Nat,j<=m/\s13=j/\F8 w wq xs j s5) (λ _ s13 _=>m-(RowKit.intOf s13).toNat)
 case atStart=>exact⟨0,aN _,rfl,FN.o⟩
 case round=>
  clear FN;obtain⟨j,hj,rfl,q9⟩:=hrel;have HW:=kd q9;clear q9;by_cases j6:j<m
  ·obtain⟨nb,FT,AO⟩:=HC.o (by omega)
   subst FT;obtain⟨x,hx⟩:∃x,xs[j]? =some x:=⟨_,aB (by rw[<-HM.o];exact j6)⟩;have HX:=kd hx;obtain⟨ta,tk,tc,ED,hf⟩:=AO j x hx;have HI:=kd (hf wr HW.o.2);have JA:wr.cell? (nb,j)=some (.slice ta tk tc):=(HW.o.2.cell (p:=⟨nb,j,none⟩) (G.lt_of_cell ED)).trans ED;clear hx AO ED hf;go_wp2_with (first
    |(go_at_call 265;refine aA HI.o ?_;rintro e w1 ⟨rfl,j4⟩;have o7:=Cz HW.o.1 j4;have BS:=aD HW.o.2.size j4.size)
    |(at_builtin;refine wpList_append_own_at _ rfl _ _ 70 rfl w.heap.size 9 i0 (.string ByteArray.empty) 1 16 underlying70 hi BR BU BM rfl (by decide) u5 _ _ rfl (o7.alloc _) w1 1 1 [.string ⟨x.toArray⟩] rfl rfl (cell_one_new _ _ _) (by simp[Value.oneCell']) (by unfold maxLen;omega) (by omega) (by simp;omega) ?_;intro v2 w2 z8 AU _ _))
   have EE:Hid (F8 w w2 xs (j+1) v2):=Nt HW.o j4 HX.o z8 AU;clear z8 AU o7 j4;go_wp2_with fail;go_roundw;case rel=>exact⟨j+1,by omega,by go_num,EE.o⟩
   case measure=>simp[RowKit.intOf];omega
  ·obtain rfl:j=m:=by omega
   by_cases h0:j=0
   ·subst h0
    have hn:xs=[]:=bW.1 (by have:=HM.o;omega);obtain⟨aa,cc,hu⟩:=Fz HW.o.1;subst hu;subst hn;go_wp2_with (go_at_call 132;refine aA (Ig aa cc _ wr) ?_;rintro e w1 ⟨rfl,AR⟩;subst w1);go_ret;exact⟨rfl,HW.o.2⟩
   ·obtain⟨g,cc,hu,LU,hg,AP⟩:=Lu HW.o HM.o.symm (by omega)
    have HJ:Hid _:=Lg g cc j xs ⟨#[44,32]⟩ wr HM.o AP hg (by have:=HM.o;omega) (by have:=HM.o;omega) HL.o;subst hu;clear AP;go_wp2_with (go_at_call 132;refine aA HJ.o ?_;rintro e w1 ⟨rfl,j4⟩);go_ret;exact⟨rfl,HW.o.2.tr j4⟩
theorem zfp (a:Option Addr)(c m:Nat)(M:List (Int × Int))(xs:List (List UInt8))(w:World)(hm:m=xs.length)(hM:M.length=m)(h3:m<=20000)
 (hc:0<m->∃g,a=some ⟨g,0,none⟩/\∀j x,M[j]? =some x->w.cell? ⟨g,j*2,none⟩=some (.int .i64 x.1)/\w.cell? (g,j*2+1)=some (.int .i64 x.2))
 (hf:∀W (j:Nat) (x:List UInt8) (x0 x1:Int),Below w w W->M[j]? =some (x0,x1)->xs[j]? =some x->Calls prog 274 #[.agg #[x0,x1]] W λ e w'=>e=Value.string ⟨x.toArray⟩/\Below W W w')
 (hlen:(Lib.join xs [44,32]).length<=1000000000):
 Calls prog 273 #[.slice a m c,.func (.func 274) #[] #[]] w λ e w'=>e=Value.string ⟨(Lib.join xs [44,32]).toArray⟩/\Below w w w':=by
 have HC:=kd hc;have HF:=kd hf;have HM:=kd hm;have HN:=kd hM;have HL:=kd hlen;obtain⟨i0,hi,BR,BU,BM⟩:=info_parts Ou;clear hc hf hm hlen hM;go_enter func273,ntmps273;go_wp2_with (first
  |(at_make;refine wpList_make_own _ rfl _ _ 70 rfl w.heap.size 9 i0 (.string ByteArray.empty) 1 underlying70 hi BR BU .i64 .i64 _ m rfl rfl rfl (by rw[BM];omega) (by unfold maxLen;omega) (aF _) ?_;intro w0 CZ BX)
  |fail)
 have FN:Hid (F8 w w0 xs 0 (.slice w 0 m)):=⟨CZ,(aI _ _).grown BX (aF _) (λ j hj=>by cases hj)⟩;clear CZ BX;go_loopw [5,7,13] (λ s5 _ s13 wq=>∃j:Nat,j<=m/\s13=j/\F8 w wq xs j s5) (λ _ _ s13 _=>m-(RowKit.intOf s13).toNat)
 case atStart=>exact⟨0,aN _,rfl,FN.o⟩
 case round=>
  clear FN;obtain⟨j,hj,rfl,q9⟩:=hrel;have HW:=kd q9;clear q9;by_cases j6:j<m
  ·obtain⟨nb,FT,AO⟩:=HC.o (by omega)
   subst FT;obtain⟨x,hx⟩:∃x,xs[j]? =some x:=⟨_,aB (by rw[<-HM.o];exact j6)⟩;obtain⟨x0,x1,hy⟩:∃x0 x1,M[j]? =some (x0,x1):=⟨_,_,aB (by rw[HN.o];exact j6)⟩;have HX:=kd hx;have ED:=AO j _ hy;have j4:Below w w (wr.alloc (.cells #[x0,x1] 180)):=HW.o.2.alloc HW.o.2.size _;have HI:=kd (HF.o (wr.alloc (.cells #[x0,x1] 180)) j x x0 x1 j4 hy hx);obtain⟨r0,r1⟩:=ED;have r0':wr.cell? (nb,j*2)=x0:=(HW.o.2.cell (p:=⟨nb,j*2,none⟩) (G.lt_of_cell r0)).trans r0;have r1':wr.cell? (nb,j*2+1)=x1:=(HW.o.2.cell (p:=⟨nb,j*2+1,none⟩) (G.lt_of_cell r1)).trans r1;clear r0 r1;clear hx AO hy j4;go_wp2_with (first
    |(go_at_call 274;refine aA HI.o ?_;rintro e w1 ⟨rfl,BP⟩;have j4:Below wr wr w1:=((b_:Below wr wr (wr.alloc (.cells #[x0,x1] 180)))).trans (BP.mono (by rw[aT];omega));have o7:=Cz HW.o.1 j4;have BS:=aD HW.o.2.size j4.size;clear BP)
    |(at_builtin;refine wpList_append_own_at _ rfl _ _ 70 rfl w.heap.size 9 i0 (.string ByteArray.empty) 1 16 underlying70 hi BR BU BM rfl (by decide) u5 _ _ rfl (o7.alloc _) w1 1 1 [.string ⟨x.toArray⟩] rfl rfl (cell_one_new _ _ _) (by simp[Value.oneCell']) (by unfold maxLen;omega) (by omega) (by simp;omega) ?_;intro v2 w2 z8 AU _ _))
   have EE:Hid (F8 w w2 xs (j+1) v2):=Nt HW.o j4 HX.o z8 AU;clear z8 AU o7 j4;go_wp2_with fail;go_roundw;case rel=>exact⟨j+1,by omega,by go_num,EE.o⟩
   case measure=>simp[RowKit.intOf];omega
  ·obtain rfl:j=m:=by omega
   by_cases h0:j=0
   ·subst h0
    have hn:xs=[]:=bW.1 (by have:=HM.o;omega);obtain⟨aa,cc,hu⟩:=Fz HW.o.1;subst hu;subst hn;go_wp2_with (go_at_call 132;refine aA (Ig aa cc _ wr) ?_;rintro e w1 ⟨rfl,AR⟩;subst w1);go_ret;exact⟨rfl,HW.o.2⟩
   ·obtain⟨g,cc,hu,LU,hg,AP⟩:=Lu HW.o HM.o.symm (by omega)
    have HJ:Hid _:=Lg g cc j xs ⟨#[44,32]⟩ wr HM.o AP hg (by have:=HM.o;omega) (by have:=HM.o;omega) HL.o;subst hu;clear AP;go_wp2_with (go_at_call 132;refine aA HJ.o ?_;rintro e w1 ⟨rfl,j4⟩);go_ret;exact⟨rfl,HW.o.2.tr j4⟩
theorem zdo (a:Option Addr)(c m:Nat)(M:List G.E)(xs:List (List UInt8))(w:World)(hm:m=xs.length)(hM:M.length=m)(h3:m<=20000)
 (hc:0<m->∃g,a=some ⟨g,0,none⟩/\∀j x,M[j]? =some x->w.cell? ⟨g,j*3,none⟩=some (.int .i64 x.1)/\w.cell? (g,j*3+1)=some (.int .i64 x.2.1)/\w.cell? (g,j*3+2)=some (.int .i64 x.2.2))
 (hf:∀W (j:Nat) (x:List UInt8) (x0 x1 x2:Int),Below w w W->M[j]? =some (x0,x1,x2)->xs[j]? =some x->Calls prog 269 #[.agg #[x0,x1,x2]] W λ e w'=>e=Value.string ⟨x.toArray⟩/\Below W W w')
 (hlen:(Lib.join xs [44,32]).length<=1000000000):
 Calls prog 268 #[.slice a m c,.func (.func 269) #[] #[]] w λ e w'=>e=Value.string ⟨(Lib.join xs [44,32]).toArray⟩/\Below w w w':=by
 have HC:=kd hc;have HF:=kd hf;have HM:=kd hm;have HN:=kd hM;have HL:=kd hlen;obtain⟨i0,hi,BR,BU,BM⟩:=info_parts Ou;clear hc hf hm hlen hM;go_enter func268,ntmps268;go_wp2_with (first
  |(at_make;refine wpList_make_own _ rfl _ _ 70 rfl w.heap.size 9 i0 (.string ByteArray.empty) 1 underlying70 hi BR BU .i64 .i64 _ m rfl rfl rfl (by rw[BM];omega) (by unfold maxLen;omega) (aF _) ?_;intro w0 CZ BX)
  |fail)
 have FN:Hid (F8 w w0 xs 0 (.slice w 0 m)):=⟨CZ,(aI _ _).grown BX (aF _) (λ j hj=>by cases hj)⟩;clear CZ BX;go_loopw [5,7,13] (λ s5 _ s13 wq=>∃j:Nat,j<=m/\s13=j/\F8 w wq xs j s5) (λ _ _ s13 _=>m-(RowKit.intOf s13).toNat)
 case atStart=>exact⟨0,aN _,rfl,FN.o⟩
 case round=>
  clear FN;obtain⟨j,hj,rfl,q9⟩:=hrel;have HW:=kd q9;clear q9;by_cases j6:j<m
  ·obtain⟨nb,FT,AO⟩:=HC.o (by omega)
   subst FT;obtain⟨x,hx⟩:∃x,xs[j]? =some x:=⟨_,aB (by rw[<-HM.o];exact j6)⟩;obtain⟨x0,x1,x2,hy⟩:∃x0 x1 x2,M[j]? =some (x0,x1,x2):=⟨_,_,_,aB (by rw[HN.o];exact j6)⟩;have HX:=kd hx;have ED:=AO j _ hy;have j4:Below w w (wr.alloc (.cells #[x0,x1,x2] 61)):=HW.o.2.alloc HW.o.2.size _;have HI:=kd (HF.o (wr.alloc (.cells #[x0,x1,x2] 61)) j x x0 x1 x2 j4 hy hx);obtain⟨r0,r1,r2⟩:=ED;have r0':wr.cell? (nb,j*3)=x0:=(HW.o.2.cell (p:=⟨nb,j*3,none⟩) (G.lt_of_cell r0)).trans r0;have r1':wr.cell? (nb,j*3+1)=x1:=(HW.o.2.cell (p:=⟨nb,j*3+1,none⟩) (G.lt_of_cell r1)).trans r1;have r2':wr.cell? (nb,j*3+2)=x2:=(HW.o.2.cell (p:=⟨nb,j*3+2,none⟩) (G.lt_of_cell r2)).trans r2;clear r0 r1 r2;clear hx AO hy j4;go_wp2_with (first
    |(go_at_call 269;refine aA HI.o ?_;rintro e w1 ⟨rfl,BP⟩;have j4:Below wr wr w1:=((b_:Below wr wr (wr.alloc (.cells #[x0,x1,x2] 61)))).trans (BP.mono (by rw[aT];omega));have o7:=Cz HW.o.1 j4;have BS:=aD HW.o.2.size j4.size;clear BP)
    |(at_builtin;refine wpList_append_own_at _ rfl _ _ 70 rfl w.heap.size 9 i0 (.string ByteArray.empty) 1 16 underlying70 hi BR BU BM rfl (by decide) u5 _ _ rfl (o7.alloc _) w1 1 1 [.string ⟨x.toArray⟩] rfl rfl (cell_one_new _ _ _) (by simp[Value.oneCell']) (by unfold maxLen;omega) (by omega) (by simp;omega) ?_;intro v2 w2 z8 AU _ _))
   have EE:Hid (F8 w w2 xs (j+1) v2):=Nt HW.o j4 HX.o z8 AU;clear z8 AU o7 j4;go_wp2_with fail;go_roundw;case rel=>exact⟨j+1,by omega,by go_num,EE.o⟩
   case measure=>simp[RowKit.intOf];omega
  ·obtain rfl:j=m:=by omega
   by_cases h0:j=0
   ·subst h0
    have hn:xs=[]:=bW.1 (by have:=HM.o;omega);obtain⟨aa,cc,hu⟩:=Fz HW.o.1;subst hu;subst hn;go_wp2_with (go_at_call 132;refine aA (Ig aa cc _ wr) ?_;rintro e w1 ⟨rfl,AR⟩;subst w1);go_ret;exact⟨rfl,HW.o.2⟩
   ·obtain⟨g,cc,hu,LU,hg,AP⟩:=Lu HW.o HM.o.symm (by omega)
    have HJ:Hid _:=Lg g cc j xs ⟨#[44,32]⟩ wr HM.o AP hg (by have:=HM.o;omega) (by have:=HM.o;omega) HL.o;subst hu;clear AP;go_wp2_with (go_at_call 132;refine aA HJ.o ?_;rintro e w1 ⟨rfl,j4⟩);go_ret;exact⟨rfl,HW.o.2.tr j4⟩
theorem zqg (x y:Int)(w:World)(hx:0<=x/\x<=9223372036854775807)(hy:0<=y/\y<=9223372036854775807)(hv:Vars w):
 Calls prog 274 #[.agg #[x,y]] w λ e w'=>e=Value.string ⟨(Ah [x,y]).toArray⟩/\Below w w w':=by
 have j4:Below w w (w.alloc (.cells #[x,y] 180)):=b_;obtain⟨W1,AJ⟩:∃W1,w.alloc (.cells #[x,y] 180)=W1:=⟨_,rfl⟩;have EK:W1.heap.size=w.heap.size+1:=by rw[<-AJ,aT]
 rw[AJ] at j4;have j5:Below W1 W1 (W1.alloc (.cells #[x,y] 3)):=b_;have HC:=kd (Le (some ⟨w.heap.size+1,0,none⟩) 2 2 [x,y] (W1.alloc (.cells #[x,y] 3)) rfl (EK▸pg W1 x y) (λ z hz=>by simp at hz;rcases hz with rfl|rfl <;> assumption) (by simp) ((hv.below j4).below j5));have HB:Hid (Below w w (W1.alloc (.cells #[x,y] 3))):=j4.tr j5;clear hx hy hv j4 j5 EK;subst AJ;go_enter func274,ntmps274;go_wp2_with fail;refine aA HC.o ?_;rintro e w1 ⟨rfl,hb⟩;have y5:Hid (Below w w w1):=HB.o.tr hb;clear hb HC;go_wp2_with fail;go_ret;exact⟨rfl,y5.o⟩
theorem znc (x y z:Int)(w:World)(hx:0<=x/\x<=9223372036854775807)(hy:0<=y/\y<=9223372036854775807)(hz:0<=z/\z<=9223372036854775807)(hv:Vars w):
 Calls prog 269 #[.agg #[x,y,z]] w λ e w'=>e=Value.string ⟨(Ah [x,y,z]).toArray⟩/\Below w w w':=by
 have j4:Below w w (w.alloc (.cells #[x,y,z] 61)):=b_;obtain⟨W1,AJ⟩:∃W1,w.alloc (.cells #[x,y,z] 61)=W1:=⟨_,rfl⟩;have EK:W1.heap.size=w.heap.size+1:=by rw[<-AJ,aT]
 rw[AJ] at j4;have j5:Below W1 W1 (W1.alloc (.cells #[x,y,z] 3)):=b_;have HC:=kd (Le (some ⟨w.heap.size+1,0,none⟩) 3 3 [x,y,z] (W1.alloc (.cells #[x,y,z] 3)) rfl (EK▸zm2 W1 x y z) (λ t ht=>by simp at ht;rcases ht with rfl|rfl|rfl <;> assumption) (by simp) ((hv.below j4).below j5));have HB:Hid (Below w w (W1.alloc (.cells #[x,y,z] 3))):=j4.tr j5;clear hx hy hz hv j4 j5 EK;subst AJ;go_enter func269,ntmps269;go_wp2_with fail;refine aA HC.o ?_;rintro e w1 ⟨rfl,hb⟩;have y5:Hid (Below w w w1):=HB.o.tr hb;clear hb HC;go_wp2_with fail;go_ret;exact⟨rfl,y5.o⟩
end Go.Proofs.Y.I
