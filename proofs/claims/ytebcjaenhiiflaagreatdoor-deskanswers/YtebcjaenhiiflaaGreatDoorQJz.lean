import Derived.Test.YtebcjaenhiiflaaGreatDoorQGYfGYc
import Derived.Test.YtebcjaenhiiflaaGreatDoorQIm
import Derived.Test.YtebcjaenhiiflaaGreatDoorQSx
import Derived.Shelf.Strconv.AppendIntPublic10
import Derived.Shelf.Strconv.ErrVarAll
import Derived.Shelf.Strings.Cut
import Derived.Shelf.Strings.Split
import Derived.Lib.AppendIntMem
import Derived.Lib.OthersKept
import Derived.WalkSmall
namespace Go.Proofs.Y.I
open Go.RowKit Go.Proofs.Tryz
abbrev TB (B:Nat)(w:World):Prop:=Lib.TabBelow prog B w "internal/strconv.uint64pow10" .u64 Lib.pow10Tab
theorem zn1:prog.globalNamed "internal/strconv.uint64pow10"=some 4:=by kernel_rfl
structure Vars (w:World):Prop where
 mx:∃m,w.cell? ⟨1,0,none⟩=some (.int .i64 m)
 sy:∃t p,w.cell? ⟨2,0,none⟩=some (.iface t p)
 ra:∃t p,w.cell? ⟨3,0,none⟩=some (.iface t p)
 tab:Lib.TabIs prog w "internal/strconv.uint64pow10" .u64 Lib.pow10Tab
 big:9<w.heap.size
theorem Vars.on {w w':World}{B:Nat}(h:Vars w)(hb:Below B w w')(hB:9<B):Vars w':=by
 obtain⟨m,hm⟩:=h.mx;obtain⟨t,p,hs⟩:=h.sy;obtain⟨t',p',hr⟩:=h.ra;exact⟨⟨m,(hb.cell (p:=⟨1,0,none⟩) (show 1<B by omega)).trans hm⟩,⟨t,p,(hb.cell (p:=⟨2,0,none⟩) (show 2<B by omega)).trans hs⟩,⟨t',p',(hb.cell (p:=⟨3,0,none⟩) (show 3<B by omega)).trans hr⟩,var?_below hb zn1 (by omega) h.tab,aR h.big hb.size⟩
theorem zt3 {w w':World}{B:Nat}(h:G.Gl w)(hb:Below B w w')(hB:0<B):G.Gl w':=(hb.cell (p:=⟨0,0,none⟩) hB).trans h
theorem Vars.below {w w':World}(h:Vars w)(hb:Below w w w'):Vars w':=h.on hb h.big
theorem Vars.tb {w:World}(h:Vars w){B:Nat}(hB:9<B):TB B w:=λ _ hb=>var?_below hb zn1 (by omega) h.tab
theorem Pp (B n:Nat)(i:Int)(h0:0<=i)(h1:i<=9223372036854775807)(sv:Value)(xs:List Value)(w:World)(o8:w.ownsRow B 5 1 sv n xs)(hB:B<=w)(hlim:n<=100000)(XM:TB B w):
 Calls prog 112 #[sv,i,(10:Int)] w λ e w'=>∃v',e= .returned v'/\w'.ownsRow B 5 1 v' (n+(Lib.itoa i).length) (xs++Lib.byteCells (Lib.itoa i))/\Below B w w'/\Lib.OthersKept 5 none w w':=
 Any.strconv_AppendInt_10 Tryz.laysM176 B n i (by omega) h1 sv xs w o8 hB (by omega) XM
def zmp (s:ByteArray)(w:World)(e:Ending)(w':World):Prop:=
 ((∃v,Lib.atoiAll s.data.toList= .ok v/\e=Value.tuple #[.int .i64 v,.nilIface])\/((∀v,Lib.atoiAll s.data.toList≠ .ok v)/\∃v t p,e=Value.tuple #[.int .i64 v,.iface t p]))/\Below w w w'
theorem oz (s:ByteArray)(w:World)(hs:s.size<=100000)(hv:Vars w):Calls prog 102 #[.string s] w (zmp s w):=by
 cases h:Lib.atoiAll s.data.toList with
 |ok v=>
  refine(Any.strconv_Atoi_ok Tryz.laysC172 s (by omega) v h w).mono ?_;rintro e w' ⟨rfl,hw⟩;refine⟨.inl ⟨v,h,rfl⟩,?_⟩;rcases hw with rfl|⟨t,rfl⟩
  ·exact aI _ _
  ·exact Lib.bytesWorld_below _ _ _
 |«syntax»=>
  obtain⟨t,p,hc⟩:=hv.sy;refine(Any.strconv_Atoi_syntax Tryz.laysC172 s (by omega) h (.iface t p) w hc (.inr ⟨t,p,rfl⟩)).mono ?_;rintro e w' ⟨N,rfl,_,_,hb⟩;exact⟨.inr ⟨λ v k=>(by rw[h] at k;cases k),_,_,_,rfl⟩,hb⟩
 |range=>
  obtain⟨t,p,hc⟩:=hv.ra;refine(Any.strconv_Atoi_range Tryz.laysC172 s (by omega) h (.iface t p) w hc (.inr ⟨t,p,rfl⟩)).mono ?_;rintro e w' ⟨N,rfl,_,_,hb⟩;exact⟨.inr ⟨λ v k=>(by rw[h] at k;cases k),_,_,_,rfl⟩,hb⟩
theorem zb8 (s sep:ByteArray)(w:World)(hs:s.size<=100000)(hv:Vars w):
 Calls prog 101 #[.string s,.string sep] w λ e w'=>e=Value.tuple #[.string ⟨(Lib.cut s.data.toList sep.data.toList).1.toArray⟩,.string ⟨(Lib.cut s.data.toList sep.data.toList).2.1.toArray⟩,.bool (Lib.cut s.data.toList sep.data.toList).2.2]/\Below w w w':=by
 obtain⟨m,hm⟩:=hv.mx;refine(Any.strings_Cut Tryz.lays145 s sep m w (by omega) hm).mono ?_;rintro e w' ⟨rfl,n,rfl⟩;exact⟨rfl,below_drewN (aI _ _) n⟩
theorem zf5 (s sep:ByteArray)(w:World)(hs:s.size<=100000)(h1:1<=sep.size)(hv:Vars w):
 Calls prog 43 #[.string s,.string sep] w λ e w'=>e=Value.slice w (Lib.countB s sep+1) (Lib.countB s sep+1)/\w'=w.alloc (.cells ((Lib.splitB sep 0 (Lib.countB s sep) s).map Value.string).toArray 9):=by
 obtain⟨m,hm⟩:=hv.mx;exact Any.strings_Split Tryz.lays146 (by kernel_rfl) s sep m w (by omega) hm h1
end Go.Proofs.Y.I
