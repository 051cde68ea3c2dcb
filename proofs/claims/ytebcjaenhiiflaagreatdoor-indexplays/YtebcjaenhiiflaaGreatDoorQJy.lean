import Derived.Test.YtebcjaenhiiflaaGreatDoorQJa
import Derived.Shelf.Strconv.ErrVarParseInt
import Derived.Shelf.Strconv.Itoa4
import Derived.Shelf.Strings.OnBuilder
import Derived.Lib.ParseIntBTie
import Derived.Lib.Join
namespace Go.Proofs.YtebcjaenhiiflaaGreatDoor.I
open Go.RowKit Go.Proofs.Tryz
theorem z1p (x:Int) (h0:0<=x) (h1:x<=9223372036854775807) (w:World) (hv:Vars w):
 Calls prog 131 #[.int .i64 x] w λ e w'=>e= .returned (.string ⟨(Lib.itoa x).toArray⟩)/\Below w.heap.size w w':=by
 refine (Any.strconv_Itoa Tryz.laysM171 x (by omega) h1 w hv.tab).mono ?_;rintro e w' ⟨rfl,k,os,rfl⟩;exact ⟨rfl,Lib.below_grow _ _ (Nat.le_refl _) _ _⟩
theorem zo8:Builder.Extra prog Tryz.lays156_ren:=
 {sizeBuilder:=by kernel_rfl,liesBuilder:=by kernel_rfl,t5:=underlying5,a5:=isAgg5,z5:=sizeOf5,v5:=zeroValue5,infoByte:=by kernel_rfl,cellsByte:=by kernel_rfl,sizeByte:=by kernel_rfl,neB5:=by decide}
theorem join_eq:∀l:List (List UInt8),Lib.join l [32]=zbg l
 | []=>rfl
 | [x]=>by rw [Lib.join_one,zbg]
 | x::y::r=>by
   have ih:=join_eq (y::r);unfold Lib.join List.intercalate at ih ⊢;rw [zbg,<-ih];simp [List.intersperse]
theorem z2p (bk c k:Nat) (xs:List (List UInt8)) (w:World) (hk:k=xs.length) (hc:∀(j:Nat) x,xs[j]? =some x->w.cell? ⟨bk,j,none⟩=some (.string ⟨x.toArray⟩)) (hbk:bk<w.heap.size) (hN:xs.length<=100000) (hcap:xs.length<=c) (hlen:(zbg xs).length<=10000000):
 Calls prog 132 #[.slice (some ⟨bk,0,none⟩) k c,.string ⟨#[32]⟩] w λ e w'=>e= .returned (.string ⟨(zbg xs).toArray⟩)/\Below w.heap.size w w':=by
 subst hk;have hm:(xs.map λ x=>(⟨x.toArray⟩:ByteArray)).map (·.data.toList)=xs:=by
  rw [List.map_map];conv=>rhs;rw [<-List.map_id xs]
  rfl
 have h:=Any.strings_Join Tryz.lays156 zo8 bk 0 c (xs.map λ x=>(⟨x.toArray⟩:ByteArray)) ⟨#[32]⟩ w (λ j x hx=>by
  rw [List.getElem?_map] at hx;cases hq:xs[j]? with
  | none=>rw [hq] at hx;cases hx
  | some y=>
    rw [hq] at hx;injection hx with hx
    subst hx;rw [Nat.zero_add];exact hc j y hq) hbk (by rw [List.length_map];omega) (by rw [List.length_map];exact hcap) (by rw [hm];show (Lib.join xs [32]).length<=_;rw [join_eq];omega)
 rw [hm,List.length_map] at h;refine Calls.mono h ?_;rintro e w' ⟨rfl,hb⟩;refine ⟨?_,hb⟩;rw [show ((⟨#[32]⟩:ByteArray).data.toList)=[32] from rfl,join_eq]
theorem join_none (a:Option Addr) (c:Nat) (w:World):Calls prog 132 #[.slice a 0 c,.string ⟨#[32]⟩] w λ e w'=>e= .returned (.string ⟨#[]⟩)/\w'=w:=
 Any.strings_Join_none Tryz.lays156 zo8 a c ⟨#[32]⟩ w
end Go.Proofs.YtebcjaenhiiflaaGreatDoor.I
