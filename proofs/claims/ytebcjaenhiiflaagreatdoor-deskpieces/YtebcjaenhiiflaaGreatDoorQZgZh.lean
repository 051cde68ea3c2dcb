import Derived.Test.YtebcjaenhiiflaaGreatDoorQZaZc
import Derived.Test.YtebcjaenhiiflaaGreatDoorQQbQe
set_option maxHeartbeats 1000000
set_option maxRecDepth 100000
namespace Go.Proofs.YtebcjaenhiiflaaGreatDoor.I
open Go.RowKit Go.WideMaps Go.Maps Go.Lib
variable {w w':World} {a b x n d:Nat} {L:List G.E}
theorem brz_bounds (h:IV w a b x n L):∀y∈brz n L,0<=y/\y<=9223372036854775807:=by
 intro y hy;obtain ⟨W,T,B,s⟩:=h.st;obtain ⟨e,he,rfl⟩:=(mem_brz s h.ok y).1 hy;have:=h.ok.ed e ((s.hB e).1 he).1;omega
theorem brz_few (h:IV w a b x n L):(brz n L).length<=120:=by
 obtain ⟨W,T,B,s⟩:=h.st;rw [brz_ids s h.ok];have:=h.ok.len;refine Nat.le_trans ?_ this;unfold S.idsOf;rw [List.length_map];exact List.length_filter_le _ _
theorem cutz_bounds (h:IV w a b x n L):∀y∈cutz n L,0<=y/\y<=9223372036854775807:=by
 intro y hy;unfold cutz at hy;rw [List.mem_map] at hy;obtain ⟨k,hk,rfl⟩:=hy;have h1:=List.mem_range.1 (List.mem_filter.1 hk).1;have h2:=h.ok.n40;omega
theorem cutz_few (h:IV w a b x n L):(cutz n L).length<=40:=by
 unfold cutz;rw [List.length_map];refine Nat.le_trans (List.length_filter_le _ _) ?_;rw [List.length_range];exact h.ok.n40
theorem dk_bridges (s:Value) (h:IV w a b x n L) (hd:w.cell? ⟨d,0,none⟩=some (.pointer (some ⟨x,0,none⟩))) (hv:Vars w):
 Calls Tryz.prog 153 #[.pointer (some ⟨d,0,none⟩),s] w λ e w'=>e= .returned (.string ⟨([98,114,105,100,103,101,115]++[32]++lineI (brz n L)).toArray⟩)/\Below w.heap.size w w':=by
 have HB:=kd (ibridges h);have HR:=kd (brz_bounds h);have hl:=brz_few h;have hll:=line_len (brz_bounds h);have HV:=kd hv;generalize brz n L=K at*;clear h hv;go_enter Tryz.func153,Tryz.ntmps153;go_wp2_with fail;refine Calls.mono HB.out ?_;rintro e w1 ⟨a',c,rfl,hz,hb1⟩;have HB1:=kd hb1;have HI:=kd (row_any a' c K.length K w1 rfl hz HR.out (by omega) (HV.out.below hb1));clear hz hb1 HB;go_wp2_with fail;refine Calls.mono HI.out ?_;rintro e w2 ⟨rfl,hb2⟩;have HB2:=kd (HB1.out.trans (hb2.mono HB1.out.size));have HJ:=kd (behind_any [98,114,105,100,103,101,115] (lineI K) w2 (by simp;omega));clear hb2 HI;go_wp2_with fail;refine Calls.mono HJ.out ?_;rintro e w3 ⟨rfl,hw⟩;subst w3;clear HJ;go_wp2_with fail;go_ret;exact ⟨rfl,HB2.out⟩
theorem dk_cuts (s:Value) (h:IV w a b x n L) (hd:w.cell? ⟨d,0,none⟩=some (.pointer (some ⟨x,0,none⟩))) (hv:Vars w):
 Calls Tryz.prog 154 #[.pointer (some ⟨d,0,none⟩),s] w λ e w'=>e= .returned (.string ⟨([99,117,116,115]++[32]++lineI (cutz n L)).toArray⟩)/\Below w.heap.size w w':=by
 have HB:=kd (icuts h);have HR:=kd (cutz_bounds h);have hl:=cutz_few h;have hll:=line_len (cutz_bounds h);have HV:=kd hv;generalize cutz n L=K at*;clear h hv;go_enter Tryz.func154,Tryz.ntmps154;go_wp2_with fail;refine Calls.mono HB.out ?_;rintro e w1 ⟨a',c,rfl,hz,hb1⟩;have HB1:=kd hb1;have HI:=kd (row_any a' c K.length K w1 rfl hz HR.out (by omega) (HV.out.below hb1));clear hz hb1 HB;go_wp2_with fail;refine Calls.mono HI.out ?_;rintro e w2 ⟨rfl,hb2⟩;have HB2:=kd (HB1.out.trans (hb2.mono HB1.out.size));have HJ:=kd (behind_any [99,117,116,115] (lineI K) w2 (by simp;omega));clear hb2 HI;go_wp2_with fail;refine Calls.mono HJ.out ?_;rintro e w3 ⟨rfl,hw⟩;subst w3;clear HJ;go_wp2_with fail;go_ret;exact ⟨rfl,HB2.out⟩
end Go.Proofs.YtebcjaenhiiflaaGreatDoor.I
namespace Go.Proofs.YtebcjaenhiiflaaGreatDoor.I
open Go.RowKit Go.WideMaps Go.Maps Go.Lib
variable {w w':World} {a b x n d:Nat} {L:List G.E}
theorem sep_cons (sep x y:List UInt8) (r:List (List UInt8)):Lib.join (x::y::r) sep=x++(sep++Lib.join (y::r) sep):=by
 unfold Lib.join List.intercalate;simp [List.intersperse]
theorem sep_len (sep:List UInt8) (K:Nat):∀xs:List (List UInt8),(∀x∈xs,x.length<=K)->(Lib.join xs sep).length<=xs.length*(K+sep.length)
 | [],_=>by simp [Lib.join,List.intercalate]
 | [x],h=>by
   rw [Lib.join_one];have:=h x (by simp);simp;omega
 | x::y::r,h=>by
   have ih:=sep_len sep K (y::r) (λ z hz=>h z (List.mem_cons_of_mem _ hz));have h1:=h x (by simp);rw [sep_cons,List.length_cons,Nat.add_one_mul];simp only [List.length_append];omega
def lineN (l:List Nat):List UInt8:=lineI (l.map λ x:Nat=>(x:Int))
theorem lineN_len {l:List Nat} (h:∀x∈l,x<=9223372036854775807):(lineN l).length<=21*l.length:=by
 have:=line_len (ns:=l.map λ x:Nat=>(x:Int)) (λ y hy=>by
  rw [List.mem_map] at hy;obtain ⟨x,hx,rfl⟩:=hy;have:=h x hx;omega)
 rwa [List.length_map] at this
def tellN (Gs:List (List Nat)):List UInt8:=Lib.join (Gs.map lineN) [44,32]
theorem tellN_len {Gs:List (List Nat)} (hg:∀l∈Gs,l.length<=1000/\∀x∈l,x<=9223372036854775807) (hl:Gs.length<=1000):(tellN Gs).length<=30000000:=by
 have h:=sep_len [44,32] 21000 (Gs.map lineN) (λ x hx=>by
  rw [List.mem_map] at hx;obtain ⟨l,h1,rfl⟩:=hx;have h2:=hg l h1;have h3:=lineN_len h2.2;omega)
 rw [List.length_map] at h;unfold tellN;have:Gs.length*(21000+[44,32].length (α:=UInt8))<=1000*21002:=Nat.mul_le_mul hl (by simp);simp at this h;omega
theorem lists_any {v:Value} {Gs:List (List Nat)} (h:S.AllAt w v Gs) (hg:∀l∈Gs,l.length<=1000/\∀x∈l,x<=9223372036854775807) (hl:Gs.length<=1000) (hv:Vars w):
 Calls Tryz.prog 264 #[v,.func (.func 265) #[] #[]] w λ e w'=>e= .returned (.string ⟨(tellN Gs).toArray⟩)/\Below w.heap.size w w':=by
 obtain ⟨g,cap,rfl,hr⟩:=h;refine rows_lists (some ⟨g,0,none⟩) cap Gs.length (Gs.map lineN) w (by simp) (by omega) (λ _=>⟨g,rfl,λ j x hx=>?_⟩) ?_
 ·rw [List.getElem?_map] at hx
  obtain ⟨l,hl',rfl⟩:=Option.map_eq_some_iff.1 hx;have hj:j<Gs.length:=(List.getElem?_eq_some_iff.1 hl').1;obtain ⟨r,c,h1,h2⟩:=hr j hj;have e:Gs.getD j []=l:=by rw [List.getD_eq_getElem?_getD,hl'];rfl
  rw [e] at h1 h2;obtain ⟨k1,k2⟩:=hg l (List.mem_of_getElem? hl');refine ⟨_,_,_,h1,λ W hW=>?_⟩;refine list_any (some ⟨r,0,none⟩) c l.length (l.map λ x:Nat=>(x:Int)) W (by simp) (λ _=>⟨r,rfl,λ i hi=>?_⟩) (λ y hy=>?_) (by simp;omega) (hv.below hW)
  ·rw [List.length_map] at hi
   have h3:=h2 i hi;rw [(hW.cell (p:=⟨r,i,none⟩) (G.lt_of_cell h3)).trans h3];simp [List.getD_eq_getElem?_getD,hi]
  ·rw [List.mem_map] at hy
   obtain ⟨z,hz,rfl⟩:=hy;have:=k2 z hz;omega
 ·have:=tellN_len hg hl
  unfold tellN at this;omega
theorem blz_bounds (h:IV w a b x n L):(∀l∈blz n L,l.length<=1000/\∀y∈l,y<=9223372036854775807)/\(blz n L).length<=1000:=by
 have hlen:=h.ok.len;have hed:=h.ok.ed;unfold blz;split
 ·rename_i hx
  generalize hx.choose=M;unfold S.blks;refine ⟨λ l hl=>?_,?_⟩
  ·rw [List.mem_map] at hl
   obtain ⟨r,_,rfl⟩:=hl;refine ⟨?_,λ y hy=>?_⟩
   ·rw [List.length_map]
    unfold S.grp;refine Nat.le_trans (List.length_filter_le _ _) ?_;rw [List.length_range];omega
   ·rw [List.mem_map] at hy
    obtain ⟨i,hi,rfl⟩:=hy;unfold S.grp at hi;have h1:=List.mem_range.1 (List.mem_filter.1 hi).1;have h2:=S.idAt_of (List.getElem?_eq_getElem h1);have h3:=(hed _ (List.getElem_mem h1)).1;unfold S.idN;rw [h2];omega
  ·rw [List.length_map]
   unfold S.lst;refine Nat.le_trans (List.length_filter_le _ _) ?_;rw [List.length_range];omega
 ·exact ⟨λ l hl=>absurd hl (by simp),by simp⟩
theorem thz_bounds (h:IV w a b x n L):(∀l∈thz n L,l.length<=1000/\∀y∈l,y<=9223372036854775807)/\(thz n L).length<=1000:=by
 have hn:=h.ok.n40;have hgd:=(S.lab3_good n L ((S.grw n L).2++(S.grw n L).1) (S.covN n (S.grw n L).1 (S.grw n L).2)).1;unfold thz;generalize S.lab3 n L ((S.grw n L).2++(S.grw n L).1) (S.covN n (S.grw n L).1 (S.grw n L).2)=M at*;refine ⟨λ l hl=>?_,Nat.le_trans (S.grps_le _ _) (by omega)⟩;unfold S.grps at hl;have h1:=(List.mem_filter.1 hl).1;rw [List.mem_map] at h1;obtain ⟨k,_,rfl⟩:=h1;unfold S.grp;refine ⟨Nat.le_trans (List.length_filter_le _ _) (by rw [List.length_range];omega),λ y hy=>?_⟩;have h2:=List.mem_range.1 (List.mem_filter.1 hy).1;omega
theorem dk_blocks (s:Value) (h:IV w a b x n L) (hd:w.cell? ⟨d,0,none⟩=some (.pointer (some ⟨x,0,none⟩))) (hv:Vars w):
 Calls Tryz.prog 152 #[.pointer (some ⟨d,0,none⟩),s] w λ e w'=>e= .returned (.string ⟨([98,108,111,99,107,115]++[32]++tellN (blz n L)).toArray⟩)/\Below w.heap.size w w':=by
 have HB:=kd (iblocks h);have HR:=kd (blz_bounds h);have HV:=kd hv;generalize blz n L=K at*;clear h hv;go_enter Tryz.func152,Tryz.ntmps152;go_wp2_with fail;refine Calls.mono HB.out ?_;rintro e w1 ⟨v,rfl,hz,hb1⟩;have HB1:=kd hb1;have HI:=kd (lists_any hz HR.out.1 HR.out.2 (HV.out.below hb1));clear hz hb1 HB;go_wp2_with fail;refine Calls.mono HI.out ?_;rintro e w2 ⟨rfl,hb2⟩;have HB2:=kd (HB1.out.trans (hb2.mono HB1.out.size));have HJ:=kd (behind_any [98,108,111,99,107,115] (tellN K) w2 (by have:=tellN_len HR.out.1 HR.out.2;simp;omega));clear hb2 HI;go_wp2_with fail;refine Calls.mono HJ.out ?_;rintro e w3 ⟨rfl,hw⟩;subst w3;clear HJ;go_wp2_with fail;go_ret;exact ⟨rfl,HB2.out⟩
theorem dk_thrice (s:Value) (h:IV w a b x n L) (hd:w.cell? ⟨d,0,none⟩=some (.pointer (some ⟨x,0,none⟩))) (hv:Vars w):
 Calls Tryz.prog 162 #[.pointer (some ⟨d,0,none⟩),s] w λ e w'=>e= .returned (.string ⟨([116,104,114,105,99,101]++[32]++tellN (thz n L)).toArray⟩)/\Below w.heap.size w w':=by
 have HB:=kd (ithrice h);have HR:=kd (thz_bounds h);have HV:=kd hv;generalize thz n L=K at*;clear h hv;go_enter Tryz.func162,Tryz.ntmps162;go_wp2_with fail;refine Calls.mono HB.out ?_;rintro e w1 ⟨v,rfl,hz,hb1⟩;have HB1:=kd hb1;have HI:=kd (lists_any hz HR.out.1 HR.out.2 (HV.out.below hb1));clear hz hb1 HB;go_wp2_with fail;refine Calls.mono HI.out ?_;rintro e w2 ⟨rfl,hb2⟩;have HB2:=kd (HB1.out.trans (hb2.mono HB1.out.size));have HJ:=kd (behind_any [116,104,114,105,99,101] (tellN K) w2 (by have:=tellN_len HR.out.1 HR.out.2;simp;omega));clear hb2 HI;go_wp2_with fail;refine Calls.mono HJ.out ?_;rintro e w3 ⟨rfl,hw⟩;subst w3;clear HJ;go_wp2_with fail;go_ret;exact ⟨rfl,HB2.out⟩
end Go.Proofs.YtebcjaenhiiflaaGreatDoor.I
