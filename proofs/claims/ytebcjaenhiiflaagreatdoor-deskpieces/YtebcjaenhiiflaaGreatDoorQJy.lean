import Derived.Test.YtebcjaenhiiflaaGreatDoorQJa
import Derived.Shelf.Strconv.ErrVarParseInt
import Derived.Shelf.Strconv.Itoa4
import Derived.Shelf.Strings.OnBuilder
import Derived.Lib.ParseIntBTie
import Derived.Lib.Join
namespace Go.Proofs.YtebcjaenhiiflaaGreatDoor.I
open Go.RowKit
theorem itoa_any (x:Int) (h0:0<=x) (h1:x<=9223372036854775807) (w:World) (hv:Vars w):
 Calls Tryz.prog 131 #[.int .i64 x] w λ e w'=>e= .returned (.string ⟨(Lib.itoa x).toArray⟩)/\Below w.heap.size w w':=by
 refine (Any.strconv_Itoa Tryz.laysM171 x (by omega) h1 w hv.tab).mono ?_;rintro e w' ⟨rfl,k,os,rfl⟩;exact ⟨rfl,Lib.below_grow _ _ (Nat.le_refl _) _ _⟩
theorem formatInt_any (x:Int) (h0:-9223372036854775808<=x) (h1:x<=9223372036854775807) (w:World) (hv:Vars w):
 Calls Tryz.prog 100 #[.int .i64 x,.int .i64 10] w λ e w'=>e= .returned (.string ⟨(Lib.itoa x).toArray⟩)/\Below w.heap.size w w':=by
 refine (Any.strconv_FormatInt_10 Tryz.laysM173 x h0 h1 w hv.tab).mono ?_;rintro e w' ⟨rfl,k,os,rfl⟩;exact ⟨rfl,Lib.below_grow _ _ (Nat.le_refl _) _ _⟩
def ParsePost (s:ByteArray) (w:World) (e:Ending) (w':World):Prop:=
 ((∃v,Lib.parseIntB 64 s.data.toList= .ok v/\(-9223372036854775808<=v/\v<=9223372036854775807)/\e= .returned (.tuple #[.int .i64 v,.nilIface]))\/((∀v,Lib.parseIntB 64 s.data.toList≠ .ok v)/\∃v t p,e= .returned (.tuple #[.int .i64 v,.iface t p])))/\Below w.heap.size w w'
theorem parse_bounds {l:List UInt8} {v:Int} (h:Lib.parseIntB 64 l= .ok v):-9223372036854775808<=v/\v<=9223372036854775807:=by
 have:=Lib.parseIntB_bounds h;simp at this;omega
theorem parse_any (s:ByteArray) (w:World) (hs:s.size<=100000) (hv:Vars w):Calls Tryz.prog 99 #[.string s,.int .i64 10,.int .i64 64] w (ParsePost s w):=by
 cases h:Lib.parseIntB 64 s.data.toList with
 | ok v=>
   refine (Any.strconv_ParseInt_10_at64_ok Tryz.laysC174 s (by omega) v h w).mono ?_;rintro e w' ⟨rfl,hw⟩;refine ⟨.inl ⟨v,h,parse_bounds h,rfl⟩,?_⟩;rcases hw with rfl | ⟨t,rfl⟩
   ·exact Below.refl _ _
   ·exact Lib.bytesWorld_below _ _ _
 | «syntax»=>
   obtain ⟨t,p,hc⟩:=hv.sy;refine (Any.strconv_ParseInt_10_at64_syntax Tryz.laysC174 s (by omega) h (.iface t p) w hc (.inr ⟨t,p,rfl⟩)).mono ?_;rintro e w' ⟨N,rfl,_,_,hb⟩;exact ⟨.inr ⟨λ v k=>(by rw [h] at k;cases k),_,_,_,rfl⟩,hb⟩
 | range=>
   obtain ⟨t,p,hc⟩:=hv.ra;refine (Any.strconv_ParseInt_10_at64_range Tryz.laysC174 s (by omega) h (.iface t p) w hc (.inr ⟨t,p,rfl⟩)).mono ?_;rintro e w' ⟨N,rfl,_,_,hb⟩;exact ⟨.inr ⟨λ v k=>(by rw [h] at k;cases k),_,_,_,rfl⟩,hb⟩
theorem extra156:Builder.Extra Tryz.prog Tryz.lays156_ren:=
 {sizeBuilder:=by kernel_rfl,liesBuilder:=by kernel_rfl,t5:=Tryz.underlying5,a5:=Tryz.isAgg5,z5:=Tryz.sizeOf5,v5:=Tryz.zeroValue5,infoByte:=by kernel_rfl,cellsByte:=by kernel_rfl,sizeByte:=by kernel_rfl,neB5:=by decide}
theorem join_eq:∀l:List (List UInt8),Lib.join l [32]=joinB l
 | []=>rfl
 | [x]=>by rw [Lib.join_one,joinB]
 | x::y::r=>by
   have ih:=join_eq (y::r);unfold Lib.join List.intercalate at ih ⊢;rw [joinB,<-ih];simp [List.intersperse]
theorem join_any (bk c k:Nat) (xs:List (List UInt8)) (w:World) (hk:k=xs.length) (hc:∀(j:Nat) x,xs[j]? =some x->w.cell? ⟨bk,j,none⟩=some (.string ⟨x.toArray⟩)) (hbk:bk<w.heap.size) (hN:xs.length<=100000) (hcap:xs.length<=c) (hlen:(joinB xs).length<=10000000):
 Calls Tryz.prog 132 #[.slice (some ⟨bk,0,none⟩) k c,.string ⟨#[32]⟩] w λ e w'=>e= .returned (.string ⟨(joinB xs).toArray⟩)/\Below w.heap.size w w':=by
 subst hk;have hm:(xs.map λ x=>(⟨x.toArray⟩:ByteArray)).map (·.data.toList)=xs:=by
  rw [List.map_map];conv=>rhs;rw [<-List.map_id xs]
  rfl
 have h:=Any.strings_Join Tryz.lays156 extra156 bk 0 c (xs.map λ x=>(⟨x.toArray⟩:ByteArray)) ⟨#[32]⟩ w (λ j x hx=>by
  rw [List.getElem?_map] at hx;cases hq:xs[j]? with
  | none=>rw [hq] at hx;cases hx
  | some y=>
    rw [hq] at hx;injection hx with hx
    subst hx;rw [Nat.zero_add];exact hc j y hq) hbk (by rw [List.length_map];omega) (by rw [List.length_map];exact hcap) (by rw [hm];show (Lib.join xs [32]).length<=_;rw [join_eq];omega)
 rw [hm,List.length_map] at h;refine Calls.mono h ?_;rintro e w' ⟨rfl,hb⟩;refine ⟨?_,hb⟩;rw [show ((⟨#[32]⟩:ByteArray).data.toList)=[32] from rfl,join_eq]
theorem join_none (a:Option Addr) (c:Nat) (w:World):Calls Tryz.prog 132 #[.slice a 0 c,.string ⟨#[32]⟩] w λ e w'=>e= .returned (.string ⟨#[]⟩)/\w'=w:=
 Any.strings_Join_none Tryz.lays156 extra156 a c ⟨#[32]⟩ w
end Go.Proofs.YtebcjaenhiiflaaGreatDoor.I
