import Derived.Shelf.Strconv.ErrVarParseInt
import Derived.Shelf.Strconv.Itoa4
import Derived.Shelf.Strings.OnBuilder
import Derived.Lib.ParseIntBTie
import Derived.Lib.Join
import Derived.Test.YtebcjaenhiiflaaGreatDoorQJb
import Derived.Laws.Strings
import Derived.WideShapes
set_option maxHeartbeats 2000000
set_option maxRecDepth 100000
namespace Go.Proofs.Y.I
open Go.RowKit Go.Proofs.Tryz
theorem Tf (x:Int)(h0:0<=x)(h1:x<=9223372036854775807)(w:World)(hv:Vars w):
 Calls prog 131 #[x] w λ e w'=>e=Value.string ⟨(Lib.itoa x).toArray⟩/\Below w w w':=by
 refine(Any.strconv_Itoa Tryz.laysM171 x (by omega) h1 w hv.tab).mono ?_;rintro e w' ⟨rfl,k,os,rfl⟩;exact⟨rfl,Lib.below_grow _ _ (aF _) _ _⟩
theorem Pz (x:Int)(h0:-9223372036854775808<=x)(h1:x<=9223372036854775807)(w:World)(hv:Vars w):
 Calls prog 100 #[x,(10:Int)] w λ e w'=>e=Value.string ⟨(Lib.itoa x).toArray⟩/\Below w w w':=by
 refine(Any.strconv_FormatInt_10 Tryz.laysM173 x h0 h1 w hv.tab).mono ?_;rintro e w' ⟨rfl,k,os,rfl⟩;exact⟨rfl,Lib.below_grow _ _ (aF _) _ _⟩
def zgb (s:ByteArray)(w:World)(e:Ending)(w':World):Prop:=
 ((∃v,Lib.parseIntB 64 s.data.toList= .ok v/\(-9223372036854775808<=v/\v<=9223372036854775807)/\e=Value.tuple #[.int .i64 v,.nilIface])\/((∀v,Lib.parseIntB 64 s.data.toList≠ .ok v)/\∃v t p,e=Value.tuple #[.int .i64 v,.iface t p]))/\Below w w w'
theorem ou {l:List UInt8}{v:Int}(h:Lib.parseIntB 64 l= .ok v):-9223372036854775808<=v/\v<=9223372036854775807:=by
 have:=Lib.parseIntB_bounds h;simp at this;omega
theorem Yx (s:ByteArray)(w:World)(hs:s.size<=100000)(hv:Vars w):Calls prog 99 #[.string s,(10:Int),(64:Int)] w (zgb s w):=by
 cases h:Lib.parseIntB 64 s.data.toList with
 |ok v=>
  refine(Any.strconv_ParseInt_10_at64_ok Tryz.laysC174 s (by omega) v h w).mono ?_;rintro e w' ⟨rfl,hw⟩;refine⟨.inl ⟨v,h,ou h,rfl⟩,?_⟩;rcases hw with rfl|⟨t,rfl⟩
  ·exact aI _ _
  ·exact Lib.bytesWorld_below _ _ _
 |«syntax»=>
  obtain⟨t,p,hc⟩:=hv.sy;refine(Any.strconv_ParseInt_10_at64_syntax Tryz.laysC174 s (by omega) h (.iface t p) w hc (.inr ⟨t,p,rfl⟩)).mono ?_;rintro e w' ⟨N,rfl,_,_,hb⟩;exact⟨.inr ⟨λ v k=>(by rw[h] at k;cases k),_,_,_,rfl⟩,hb⟩
 |range=>
  obtain⟨t,p,hc⟩:=hv.ra;refine(Any.strconv_ParseInt_10_at64_range Tryz.laysC174 s (by omega) h (.iface t p) w hc (.inr ⟨t,p,rfl⟩)).mono ?_;rintro e w' ⟨N,rfl,_,_,hb⟩;exact⟨.inr ⟨λ v k=>(by rw[h] at k;cases k),_,_,_,rfl⟩,hb⟩
theorem Jr:Builder.Extra prog Tryz.lays156_ren:=
 {sizeBuilder:=by kernel_rfl,liesBuilder:=by kernel_rfl,t5:=underlying5,a5:=isAgg5,z5:=sizeOf5,v5:=zeroValue5,infoByte:=by kernel_rfl,cellsByte:=by kernel_rfl,sizeByte:=by kernel_rfl,neB5:=by decide}
theorem join_eq:∀l:List (List UInt8),Lib.join l [32]=Bu l
 |[]=>rfl
 |[x]=>by rw[Lib.join_one,Bu]
 |x::y::r=>by
  have ih:=join_eq (y::r);unfold Lib.join List.intercalate at ih ⊢;rw[Bu,<-ih];simp[List.intersperse]
theorem qi (bk c k:Nat)(xs:List (List UInt8))(w:World)(hk:k=xs.length)(hc:∀(j:Nat) x,xs[j]? =some x->w.cell? (bk,j)=some (.string ⟨x.toArray⟩))(CG:bk<w)(hN:xs.length<=100000)(GI:xs.length<=c)(hlen:(Bu xs).length<=10000000):
 Calls prog 132 #[.slice bk k c,.string ⟨#[32]⟩] w λ e w'=>e=Value.string ⟨(Bu xs).toArray⟩/\Below w w w':=by
 subst hk;have hm:(xs.map λ x=>(⟨x.toArray⟩:ByteArray)).map (·.data.toList)=xs:=by
  rw[fB];conv=>rhs;rw[<-kI xs]
  rfl
 have h:=Any.strings_Join Tryz.lays156 Jr bk 0 c (xs.map λ x=>(⟨x.toArray⟩:ByteArray)) ⟨#[32]⟩ w (λ j x hx=>by
  rw[bJ] at hx;cases hq:xs[j]? with
  |none=>rw[hq] at hx;cases hx
  |some y=>
   rw[hq] at hx;injection hx with hx
   subst hx;rw[gG];exact hc j y hq) CG (by rw[aS];omega) (by rw[aS];exact GI) (by rw[hm];show(Lib.join xs [32]).length<=_;rw[join_eq];omega)
 rw[hm,aS] at h;refine aA h ?_;rintro e w' ⟨rfl,hb⟩;refine⟨?_,hb⟩;rw[show((⟨#[32]⟩:ByteArray).data.toList)=[32] from rfl,join_eq]
theorem join_none (a:Option Addr)(c:Nat)(w:World):Calls prog 132 #[.slice a 0 c,.string ⟨#[32]⟩] w λ e w'=>e=Value.string ⟨#[]⟩/\w'=w:=
 Any.strings_Join_none Tryz.lays156 Jr a c ⟨#[32]⟩ w
def zd5 (ns:List Int):List Value:=ns.map λ x=>.string ⟨(Lib.itoa x).toArray⟩
theorem Ou:(prog.info? 9).map (λ i=>(i.zero,i.size,i.bytes))=some (some (.string ByteArray.empty),1,16):=by kernel_rfl
def Q8 (w0 w:World)(ns:List Int)(j:Nat)(v:Value):Prop:=w.ownsRow w0 9 1 v j (zd5 (ns.take j))/\Below w0 w0 w
theorem zbv {w0 w w1 w2:World}{ns:List Int}{j:Nat}{v v2:Value}{x:Int}{o:Obj}(h:Q8 w0 w ns j v)(hb:Below w w w1)(hx:ns[j]? =some x)(h2:w2.ownsRow w0 9 1 v2 (j+1) (zd5 (ns.take j)++[.string ⟨(Lib.itoa x).toArray⟩]))(hg:(w1.alloc o).grownBy w2 v.ownBlock):Q8 w0 w2 ns (j+1) v2:=by
 have h1:=Cz h.1 hb;have j4:=h.2.tr hb;refine⟨?_,(j4.alloc j4.size o).grown hg (by have:=j4.size;simp;omega) λ k hk=>(h1.lt k hk).1⟩;rw[P5 hx]
 simpa[zd5] using h2
theorem mf {w0 w:World}{ns:List Int}{j:Nat}{v:Value}(h:Q8 w0 w ns j v)(hj:ns.length=j)(h0:0<j):∃g c,v= .slice (some ⟨g,0,none⟩) j c/\j<=c/\g<w.heap.size/\∀(i:Nat) y,(ns.map Lib.itoa)[i]? =some y->w.cell? ⟨g,i,none⟩=some (.string ⟨y.toArray⟩):=by
 subst hj;have h1:=h.1;rw[bK] at h1;rcases h1.2 with⟨_,hz⟩|⟨g,cap,cur,rfl,hb,hg,hc,_⟩
 ·omega
 ·refine⟨g,cap,rfl,by omega,G.lt_of_some hg,λ i y hy=>?_⟩
  have:=h1.cells rfl i (.string ⟨y.toArray⟩) (by
   unfold zd5;rw[bJ] at hy ⊢;cases hq:ns[i]? with
   |none=>rw[hq] at hy;cases hy
   |some z=>rw[hq] at hy;injection hy with hy;subst hy;rfl)
  rwa[G.Bh] at this
theorem Fz {w:World}{base e s n:Nat}{v:Value}{xs:List Value}(h:w.ownsRow base e s v n xs):∃a c,v= .slice a n c:=by
 rcases h.2 with⟨rfl,hz⟩|⟨g,cap,cur,rfl,_⟩
 ·exact⟨_,_,by rw[hz]⟩
 ·exact⟨_,_,rfl⟩
theorem Yj (a:Option Addr)(nb m c:Nat)(ns:List Int)(w:World)(hm:m=ns.length)(ha:0<m->a=some ⟨nb,0,none⟩)(hc:∀(j:Nat) x,ns[j]? =some x->w.cell? (nb,j)=x)(hr:∀x∈ns,0<=x/\x<=9223372036854775807)(h3:ns.length<=10000)(hv:Vars w):
 Calls prog 77 #[.slice a m c] w λ e w'=>e=Value.string ⟨(Ah ns).toArray⟩/\Below w w w':=by
 have HC:=kd hc;have HR:=kd hr;have HV:=kd hv;have HM:=kd (And.intro hm h3);have HA:=kd ha;have EJ:m<=10000:=by omega
 clear hc hr hv hm h3 ha;go_enter func77,ntmps77;go_wp2_with fail;go_loopw [3,8] (λ s3 s8 wq=>∃j:Nat,j<=m/\s8=j/\Q8 w wq ns j s3) (λ _ s8 _=>m-(RowKit.intOf s8).toNat)
 case atStart=>exact⟨0,aN _,rfl,aX _ _ _ _,aI _ _⟩
 case round=>
  obtain⟨j,hj,rfl,q9⟩:=hrel;have HW:=kd q9;clear q9;by_cases j6:j<m
  ·have FT:=HA.o (by omega)
   subst FT;have FP:j<ns.length:=by have:=HM.o;omega
   have hx:ns[j]? =some ns[j]:=aB FP;have HX:=kd hx;have UD:=HR.o _ (aG hx);have JA:wr.cell? (nb,j)=some (.int .i64 ns[j]):=(HW.o.2.cell (p:=⟨nb,j,none⟩) (G.lt_of_cell (HC.o j _ hx))).trans (HC.o j _ hx);generalize ns[j]=x at*;have HI:Hid _:=Tf x UD.1 UD.2 wr (HV.o.on HW.o.2 HV.o.big);clear hx FP UD;obtain⟨i0,hi,BR,BU,BM⟩:=info_parts Ou;go_wp2_with (first
    |(go_at_call 131;refine aA HI.o ?_;rintro e w1 ⟨rfl,j4⟩;have o7:=Cz HW.o.1 j4;have BS:=aD HW.o.2.size j4.size)
    |(at_builtin;refine wpList_append_own_at _ rfl _ _ 70 rfl w.heap.size 9 i0 (.string ByteArray.empty) 1 16 underlying70 hi BR BU BM rfl (by decide) u3 _ _ rfl (o7.alloc _) w1 1 1 [.string ⟨(Lib.itoa x).toArray⟩] rfl rfl (cell_one_new _ _ _) (by simp[Value.oneCell']) (by unfold maxLen;omega) (by omega) (by simp;omega) ?_;intro v2 w2 z8 AU _ _))
   have EE:Hid (Q8 w w2 ns (j+1) v2):=zbv HW.o j4 HX.o z8 AU;clear z8 AU o7 j4;go_wp2_with fail;go_roundw;case rel=>exact⟨j+1,by omega,by go_num,EE.o⟩
   case measure=>simp[RowKit.intOf];omega
  ·obtain rfl:j=m:=by omega
   by_cases h0:j=0
   ·subst h0
    have hn:ns=[]:=bW.1 (by have:=HM.o;omega);obtain⟨aa,cc,hu⟩:=Fz HW.o.1;subst hu;subst hn;go_wp2_with (go_at_call 132;refine aA (join_none aa cc wr) ?_;rintro e w1 ⟨rfl,AR⟩;subst w1);go_ret;exact⟨rfl,HW.o.2⟩
   ·obtain⟨g,cc,hu,LU,hg,AP⟩:=mf HW.o HM.o.1.symm (by omega)
    have HJ:Hid _:=qi g cc j (ns.map Lib.itoa) wr (by rw[aS];exact HM.o.1) AP hg (by rw[aS];have:=HM.o;omega) (by rw[aS];have:=HM.o;omega) (by
     have:=Ce HR.o;have:=HM.o;unfold Ah at*;omega)
    subst hu;clear AP;go_wp2_with (go_at_call 132;refine aA HJ.o ?_;rintro e w1 ⟨rfl,j4⟩);go_ret;exact⟨rfl,HW.o.2.tr j4⟩
def zb0 (s:ByteArray)(w:World)(e:Ending)(w':World):Prop:=
 e=Value.tuple #[((Bl s.data.toList).getD 0:Int),.bool (Bl s.data.toList).isSome]/\Below w w w'
theorem zdp (s:ByteArray)(w:World)(hs:s.size<=100000)(hv:Vars w):Calls prog 44 #[.string s] w (zb0 s w):=by
 have HV:=kd hv;have HP:Hid _:=Yx s w hs hv;clear hv;go_enter func44,ntmps44;go_wp2_with fail;refine aA HP.o ?_;rintro e w1 ⟨RH,j4⟩;have x8:=kd j4;clear j4 HP;rcases RH with⟨v,hpv,UE,rfl⟩|⟨AA,v,t,pp,rfl⟩
 ·have GU:=kd hpv
  have HF:Hid _:=Pz v UE.1 UE.2 w1 (HV.o.below x8.o);clear hpv UE;by_cases he:(⟨(Lib.itoa v).toArray⟩:ByteArray)=s
  ·have HN:Hid (Bl s.data.toList=some v):=by
    show Bl _=_;unfold Bl;rw[GU.o];dsimp only;rw[aP (by rw[<-he])]
   rw[he] at HF;go_wp2_with (go_at_call 100;refine aA HF.o ?_;rintro e w2 ⟨rfl,j5⟩);go_ret2;exact⟨by rw[HN.o];rfl,x8.o.tr j5⟩
  ·have HN:Hid (Bl s.data.toList=none):=by
    show Bl _=_;unfold Bl;rw[GU.o];dsimp only;rw[aL (λ e=>he (by rw[e]))]
   have he':((⟨(Lib.itoa v).toArray⟩:ByteArray).toList==s.toList)=false:=by
    rw[aH,ByteArray.toList_eq,ByteArray.toList_eq];exact λ e=>he (iY e)
   generalize (⟨(Lib.itoa v).toArray⟩:ByteArray)=tx at*;go_wp2_with (go_at_call 100;refine aA HF.o ?_;rintro e w2 ⟨rfl,j5⟩);go_ret2;exact⟨by rw[HN.o];rfl,x8.o.tr j5⟩
 ·have HN:Hid (Bl s.data.toList=none):=by
   show Bl _=_;unfold Bl;cases hq:Lib.parseIntB 64 s.data.toList with
   |ok m=>exact absurd hq (AA m)
   |_=>rfl
  clear AA;go_wp2_with fail;go_ret2;exact⟨by rw[HN.o];rfl,x8.o⟩
end Go.Proofs.Y.I
