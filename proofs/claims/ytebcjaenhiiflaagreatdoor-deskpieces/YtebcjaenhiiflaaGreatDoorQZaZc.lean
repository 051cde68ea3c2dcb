import Derived.Test.YtebcjaenhiiflaaGreatDoorQJj
import Derived.Test.YtebcjaenhiiflaaGreatDoorQJeQc
import Derived.Test.YtebcjaenhiiflaaGreatDoorQKVpFDe
set_option maxHeartbeats 2000000
set_option maxRecDepth 100000
namespace Go.Proofs.YtebcjaenhiiflaaGreatDoor.I
open Go.RowKit Go.WideMaps Go.Maps Go.Lib
theorem join_sep (bk c k:Nat) (xs:List (List UInt8)) (sep:ByteArray) (w:World) (hk:k=xs.length) (hc:∀(j:Nat) x,xs[j]? =some x->w.cell? ⟨bk,j,none⟩=some (.string ⟨x.toArray⟩)) (hbk:bk<w.heap.size) (hN:xs.length<=100000) (hcap:xs.length<=c) (hlen:(Lib.join xs sep.data.toList).length<=1000000000):
 Calls Tryz.prog 132 #[.slice (some ⟨bk,0,none⟩) k c,.string sep] w λ e w'=>e= .returned (.string ⟨(Lib.join xs sep.data.toList).toArray⟩)/\Below w.heap.size w w':=by
 subst hk;have hm:(xs.map λ x=>(⟨x.toArray⟩:ByteArray)).map (·.data.toList)=xs:=by
  rw [List.map_map];conv=>rhs;rw [<-List.map_id xs]
  rfl
 have h:=Any.strings_Join Tryz.lays156 extra156 bk 0 c (xs.map λ x=>(⟨x.toArray⟩:ByteArray)) sep w (λ j x hx=>by
  rw [List.getElem?_map] at hx;cases hq:xs[j]? with
  | none=>rw [hq] at hx;cases hx
  | some y=>
    rw [hq] at hx;injection hx with hx
    subst hx;rw [Nat.zero_add];exact hc j y hq) hbk (by rw [List.length_map];omega) (by rw [List.length_map];exact hcap) (by rw [hm];omega)
 rw [hm,List.length_map] at h;exact h
theorem join_sep_none (a:Option Addr) (c:Nat) (sep:ByteArray) (w:World):Calls Tryz.prog 132 #[.slice a 0 c,.string sep] w λ e w'=>e= .returned (.string ⟨#[]⟩)/\w'=w:=
 Any.strings_Join_none Tryz.lays156 extra156 a c sep w
def txts (xs:List (List UInt8)):List Value:=xs.map λ x=>.string ⟨x.toArray⟩
def TxAt (w0 w:World) (xs:List (List UInt8)) (j:Nat) (v:Value):Prop:=w.ownsRow w0.heap.size 9 1 v j (txts (xs.take j))/\Below w0.heap.size w0 w
theorem tx_more {w0 w w1 w2:World} {xs:List (List UInt8)} {j:Nat} {v v2:Value} {x:List UInt8} {o:Obj} (h:TxAt w0 w xs j v) (hb:Below w.heap.size w w1) (hx:xs[j]? =some x) (h2:w2.ownsRow w0.heap.size 9 1 v2 (j+1) (txts (xs.take j)++[.string ⟨x.toArray⟩])) (hg:(w1.alloc o).grownBy w2 v.ownBlock):TxAt w0 w2 xs (j+1) v2:=by
 have h1:=row_keep h.1 hb;have hb1:=h.2.trans (hb.mono h.2.size);refine ⟨?_,(hb1.alloc hb1.size o).grown hg (by have:=hb1.size;simp;omega) λ k hk=>(h1.lt k hk).1⟩;rw [List.take_add_one,hx]
 simpa [txts] using h2
theorem tx_cells {w0 w:World} {xs:List (List UInt8)} {j:Nat} {v:Value} (h:TxAt w0 w xs j v) (hj:xs.length=j) (h0:0<j):∃g c,v= .slice (some ⟨g,0,none⟩) j c/\j<=c/\g<w.heap.size/\∀(i:Nat) y,xs[i]? =some y->w.cell? ⟨g,i,none⟩=some (.string ⟨y.toArray⟩):=by
 subst hj;have h1:=h.1;rw [List.take_length] at h1;rcases h1.2 with ⟨_,hz⟩ | ⟨g,cap,cur,rfl,hb,hg,hc,_⟩
 ·omega
 ·refine ⟨g,cap,rfl,by omega,G.lt_of_some hg,λ i y hy=>?_⟩
  have:=h1.cells rfl i (.string ⟨y.toArray⟩) (by unfold txts;rw [List.getElem?_map,hy];rfl)
  rwa [G.addr0_add] at this
theorem row_any (a:Option Addr) (c m:Nat) (ns:List Int) (w:World) (hm:m=ns.length) (hz:Zs w a ns) (hr:∀x∈ns,0<=x/\x<=9223372036854775807) (h3:ns.length<=10000) (hv:Vars w):
 Calls Tryz.prog 266 #[.slice a m c] w λ e w'=>e= .returned (.string ⟨(lineI ns).toArray⟩)/\Below w.heap.size w w':=by
 have HC:Hid (Zs w a ns):=hz;have HR:Hid (∀x∈ns,0<=x/\x<=9223372036854775807):=hr;have HV:Hid (Vars w):=hv;have HM:Hid (m=ns.length/\ns.length<=10000):=⟨hm,h3⟩;have hm3:m<=10000:=by omega
 obtain ⟨i0,hi,hz0,hz1,hz2⟩:=info_parts info9;clear hz hr hv hm h3;go_enter Tryz.func266,Tryz.ntmps266;go_wp2_with (first
  | (at_make;refine wpList_make_own _ rfl _ _ 70 rfl w.heap.size 9 i0 (.string ByteArray.empty) 1 Tryz.underlying70 hi hz0 hz1 .i64 .i64 _ m rfl rfl rfl (by rw [hz2];omega) (by unfold maxLen;omega) (Nat.le_refl _) ?_;intro w0 hown0 hgrow0)
  | fail)
 have HW0:Hid (WoAt w w0 ns 0 (.slice (some ⟨w.heap.size,0,none⟩) 0 m)):=⟨hown0,(Below.refl _ _).grown hgrow0 (Nat.le_refl _) (λ j hj=>by cases hj)⟩;clear hown0 hgrow0;go_loopw [3,11] (λ s3 s11 wq=>∃j:Nat,j<=m/\s11= .int .i64 j/\WoAt w wq ns j s3) (λ _ s11 _=>m-(RowKit.intOf s11).toNat)
 case atStart=>exact ⟨0,Nat.zero_le _,rfl,HW0.out⟩
 case round=>
  clear HW0;obtain ⟨j,hj,rfl,hat⟩:=hrel;have HW:Hid (WoAt w wr ns j u3):=hat;clear hat;by_cases hlt:j<m
  ·have hjn:j<ns.length:=by have:=HM.out;omega
   obtain ⟨nb,hae,hcell⟩:=HC.out (by omega);subst hae;have hx:ns[j]? =some ns[j]:=List.getElem?_eq_getElem hjn;have HX:Hid (ns[j]? =some ns[j]):=hx;have hxr:=HR.out _ (List.mem_of_getElem? hx);have hcj:=hcell j hjn;rw [List.getD_eq_getElem?_getD,hx] at hcj;simp only [Option.getD_some] at hcj;have hcx:wr.cell? ⟨nb,j,none⟩=some (.int .i64 ns[j]):=(HW.out.2.cell (p:=⟨nb,j,none⟩) (G.lt_of_cell hcj)).trans hcj;generalize ns[j]=x at*;have HI:Hid _:=itoa_any x hxr.1 hxr.2 wr (HV.out.on HW.out.2 HV.out.big);clear hx hjn hxr hcell hcj;go_wp2_with (first
    | (go_at_call 131;refine Calls.mono HI.out ?_;rintro e w1 ⟨rfl,hb1⟩;have hrow:=row_keep HW.out.1 hb1;have hsz:=Nat.le_trans HW.out.2.size hb1.size)
    | (at_builtin;refine wpList_append_own_at _ rfl _ _ 70 rfl w.heap.size 9 i0 (.string ByteArray.empty) 1 16 Tryz.underlying70 hi hz0 hz1 hz2 rfl (by decide) u3 _ _ rfl (hrow.alloc _) ⟨w1.heap.size,0,none⟩ 1 1 [.string ⟨(Lib.itoa x).toArray⟩] rfl rfl (cell_one_new _ _ _) (by simp [Value.oneCell']) (by unfold maxLen;omega) (by omega) (by simp;omega) ?_;intro v2 w2 hown2 hg2 _ _))
   have HW2:Hid (WoAt w w2 ns (j+1) v2):=wo_more HW.out hb1 HX.out hown2 hg2;clear hown2 hg2 hrow hb1;go_wp2_with fail;go_roundw;case rel=>exact ⟨j+1,by omega,by go_num,HW2.out⟩
   case measure=>simp [RowKit.intOf];omega
  ·obtain rfl:j=m:=by omega
   by_cases h0:j=0
   ·subst h0
    have hn:ns=[]:=List.length_eq_zero_iff.1 (by have:=HM.out;omega);obtain ⟨aa,cc,hu⟩:=row_shape HW.out.1;subst hu;subst hn;go_wp2_with (go_at_call 132;refine Calls.mono (join_none aa cc wr) ?_;rintro e w1 ⟨rfl,hw1⟩;subst w1);go_ret;exact ⟨rfl,HW.out.2⟩
   ·obtain ⟨g,cc,hu,hcc,hg,hcells⟩:=wo_cells HW.out HM.out.1.symm (by omega)
    have HJ:Hid _:=join_any g cc j (ns.map Lib.itoa) wr (by rw [List.length_map];exact HM.out.1) hcells hg (by rw [List.length_map];have:=HM.out;omega) (by rw [List.length_map];have:=HM.out;omega) (by
     have:=line_len HR.out;have:=HM.out;unfold lineI at*;omega)
    subst hu;clear hcells;go_wp2_with (go_at_call 132;refine Calls.mono HJ.out ?_;rintro e w1 ⟨rfl,hb1⟩);go_ret;exact ⟨rfl,HW.out.2.trans (hb1.mono HW.out.2.size)⟩
theorem list_any (a:Option Addr) (c m:Nat) (ns:List Int) (w:World) (hm:m=ns.length) (hz:Zs w a ns) (hr:∀x∈ns,0<=x/\x<=9223372036854775807) (h3:ns.length<=10000) (hv:Vars w):
 Calls Tryz.prog 265 #[.slice a m c] w λ e w'=>e= .returned (.string ⟨(lineI ns).toArray⟩)/\Below w.heap.size w w':=by
 have HC:Hid _:=row_any a c m ns w hm hz hr h3 hv;clear hm hz hr h3 hv;go_enter Tryz.func265,Tryz.ntmps265;go_wp2_with fail;refine Calls.mono HC.out ?_;rintro e w1 ⟨rfl,hb⟩;have HB:Hid (Below w.heap.size w w1):=hb;clear hb;go_wp2_with fail;go_ret;exact ⟨rfl,HB.out⟩
theorem zs_two (w:World) (x y:Int):Zs (w.alloc (.cells #[.int .i64 x,.int .i64 y] 3)) (some ⟨w.heap.size,0,none⟩) [x,y]:=by
 refine λ _=>⟨w.heap.size,rfl,λ j hj=>?_⟩
 simp at hj;have:j=0\/j=1:=by omega
 rcases this with rfl | rfl <;> simp
theorem zs_three (w:World) (x y z:Int):Zs (w.alloc (.cells #[.int .i64 x,.int .i64 y,.int .i64 z] 3)) (some ⟨w.heap.size,0,none⟩) [x,y,z]:=by
 refine λ _=>⟨w.heap.size,rfl,λ j hj=>?_⟩
 simp at hj;have:j=0\/j=1\/j=2:=by omega
 rcases this with rfl | rfl | rfl <;> simp
theorem bytes_plus (x y:List UInt8):(⟨x.toArray⟩:ByteArray)++⟨y.toArray⟩=⟨(x++y).toArray⟩:=by
 apply ByteArray.ext;simp
theorem behind_any (x y:List UInt8) (w:World) (hl:x.length+y.length<=1000000000):
 Calls Tryz.prog 263 #[.string ⟨x.toArray⟩,.string ⟨y.toArray⟩] w λ e w'=>e= .returned (.string ⟨(x++[32]++y).toArray⟩)/\w'=w:=by
 go_enter Tryz.func263,Tryz.ntmps263;go_wp2_with fail;go_ret;refine ⟨?_,rfl⟩;rw [<-bytes_plus,<-bytes_plus];rfl
theorem check_none (w:World):Calls Tryz.prog 267 #[.nilIface] w λ e w'=>e= .returned (.tuple #[])/\w'=w:=by
 go_enter Tryz.func267,Tryz.ntmps267;go_wp2_with fail;exact bodyPost_end (results_none rfl _ _ _) rfl ⟨rfl,rfl⟩
theorem check_err (t:TypeId) (v:Value) (w:World):Calls Tryz.prog 267 #[.iface t v] w λ e w'=>e= .panicked [{v:=.iface t v,recovered:=false}]/\w'=w:=by
 go_enter Tryz.func267,Tryz.ntmps267;go_wp2_with fail;exact ⟨rfl,rfl,rfl⟩
theorem sound_none (b:Bool) (w:World):Calls Tryz.prog 262 #[.bool b,.nilIface] w λ e w'=>e= .returned (.bool b)/\w'=w:=by
 have HC:=kd (check_none w);go_enter Tryz.func262,Tryz.ntmps262;go_wp2_with (go_at_call 267;refine Calls.mono HC.out ?_;rintro e w1 ⟨rfl,hw⟩;subst w1);go_ret;exact ⟨rfl,rfl⟩
theorem sound_err (b:Bool) (t:TypeId) (v:Value) (w:World):Calls Tryz.prog 262 #[.bool b,.iface t v] w λ e w'=>e= .panicked [{v:=.iface t v,recovered:=false}]/\w'=w:=by
 have HC:=kd (check_err t v w);go_enter Tryz.func262,Tryz.ntmps262;go_wp2_with (go_at_call 267;refine Calls.mono HC.out ?_;rintro e w1 ⟨rfl,hw⟩;subst w1);exact ⟨rfl,rfl,rfl⟩
theorem soundI_none (x:Int) (w:World):Calls Tryz.prog 275 #[.int .i64 x,.nilIface] w λ e w'=>e= .returned (.int .i64 x)/\w'=w:=by
 have HC:=kd (check_none w);go_enter Tryz.func275,Tryz.ntmps275;go_wp2_with (go_at_call 267;refine Calls.mono HC.out ?_;rintro e w1 ⟨rfl,hw⟩;subst w1);go_ret;exact ⟨rfl,rfl⟩
theorem soundI_err (x:Int) (t:TypeId) (v:Value) (w:World):Calls Tryz.prog 275 #[.int .i64 x,.iface t v] w λ e w'=>e= .panicked [{v:=.iface t v,recovered:=false}]/\w'=w:=by
 have HC:=kd (check_err t v w);go_enter Tryz.func275,Tryz.ntmps275;go_wp2_with (go_at_call 267;refine Calls.mono HC.out ?_;rintro e w1 ⟨rfl,hw⟩;subst w1);exact ⟨rfl,rfl,rfl⟩
theorem soundX_none (p:Option Addr) (w:World):Calls Tryz.prog 272 #[.pointer p,.nilIface] w λ e w'=>e= .returned (.pointer p)/\w'=w:=by
 have HC:=kd (check_none w);go_enter Tryz.func272,Tryz.ntmps272;go_wp2_with (go_at_call 267;refine Calls.mono HC.out ?_;rintro e w1 ⟨rfl,hw⟩;subst w1);go_ret;exact ⟨rfl,rfl⟩
theorem soundX_err (p:Option Addr) (t:TypeId) (v:Value) (w:World):Calls Tryz.prog 272 #[.pointer p,.iface t v] w λ e w'=>e= .panicked [{v:=.iface t v,recovered:=false}]/\w'=w:=by
 have HC:=kd (check_err t v w);go_enter Tryz.func272,Tryz.ntmps272;go_wp2_with (go_at_call 267;refine Calls.mono HC.out ?_;rintro e w1 ⟨rfl,hw⟩;subst w1);exact ⟨rfl,rfl,rfl⟩
def thrown (k:Int):Ending:=.panicked [{v:=.iface 23 (.int .i64 k),recovered:=false}]
def numE:Option Int->Ending
 | some v=>.returned (.int .i64 v)
 | none=>thrown 3
theorem dnum_any (s:ByteArray) (w:World) (hs:s.size<=100000) (hv:Vars w):Calls Tryz.prog 278 #[.string s] w λ e w'=>e=numE (numD s.data.toList)/\Below w.heap.size w w':=by
 have HV:=kd hv;have HP:=kd (parse_any s w hs hv);clear hv;go_enter Tryz.func278,Tryz.ntmps278;go_wp2_with fail;refine Calls.mono HP.out ?_;rintro e w1 ⟨hpo,hb1⟩;have HB1:=kd hb1;clear hb1 HP;rcases hpo with ⟨v,hpv,hvb,rfl⟩ | ⟨hno,v,t,pp,rfl⟩
 ·have HPV:=kd hpv
  have HF:=kd (formatInt_any v hvb.1 hvb.2 w1 (HV.out.below HB1.out));clear hpv hvb;by_cases he:(⟨(Lib.itoa v).toArray⟩:ByteArray)=s
  ·have HN:Hid (numD s.data.toList=some v):=by
    show numD _=_;unfold numD;rw [HPV.out];dsimp only;rw [if_pos (by rw [<-he])]
   rw [he] at HF;go_wp2_with (go_at_call 100;refine Calls.mono HF.out ?_;rintro e w2 ⟨rfl,hb2⟩);go_ret;exact ⟨by rw [HN.out];rfl,HB1.out.trans (hb2.mono HB1.out.size)⟩
  ·have HN:Hid (numD s.data.toList=none):=by
    show numD _=_;unfold numD;rw [HPV.out];dsimp only;rw [if_neg (λ e=>he (by rw [e]))]
   have he':((⟨(Lib.itoa v).toArray⟩:ByteArray).toList==s.toList)=false:=by
    rw [beq_eq_false_iff_ne,ByteArray.toList_eq,ByteArray.toList_eq];exact λ e=>he (WideShapes.bytes_inj e)
   generalize (⟨(Lib.itoa v).toArray⟩:ByteArray)=tx at*;go_wp2_with (go_at_call 100;refine Calls.mono HF.out ?_;rintro e w2 ⟨rfl,hb2⟩);exact ⟨rfl,by rw [HN.out];rfl,HB1.out.trans (hb2.mono HB1.out.size)⟩
 ·have HN:Hid (numD s.data.toList=none):=by
   show numD _=_;unfold numD;cases hq:Lib.parseIntB 64 s.data.toList with
   | ok m=>exact absurd hq (hno m)
   | _=>rfl
  clear hno;go_wp2_with fail;exact ⟨rfl,by rw [HN.out];rfl,HB1.out⟩
def inV (ns:List Int):List Value:=ns.map λ x=>.int .i64 x
def InAt (w0 w:World) (ns:List Int) (v:Value):Prop:=w.ownsRow w0.heap.size 3 1 v ns.length (inV ns)/\Below w0.heap.size w0 w
theorem in_more {w0 w w1 w2:World} {ns:List Int} {v v2:Value} {x:Int} {o:Obj} (h:InAt w0 w ns v) (hb:Below w.heap.size w w1) (h2:w2.ownsRow w0.heap.size 3 1 v2 (ns.length+1) (inV ns++[.int .i64 x])) (hg:(w1.alloc o).grownBy w2 v.ownBlock):InAt w0 w2 (ns++[x]) v2:=by
 have h1:=row_keep h.1 hb;have hb1:=h.2.trans (hb.mono h.2.size);refine ⟨?_,(hb1.alloc hb1.size o).grown hg (by have:=hb1.size;simp;omega) λ k hk=>(h1.lt k hk).1⟩
 simpa [inV] using h2
def numsD:List (List UInt8)->Option (List Int)
 | []=>some []
 | x::r=>match numD x with
   | none=>none
   | some v=>(numsD r).map (v::·)
theorem numsD_snoc (l:List (List UInt8)) (x:List UInt8):numsD (l++[x])=match numsD l with
 | none=>none
 | some ns=>(numD x).map λ v=>ns++[v]:=by
 induction l with
 | nil=>cases h:numD x <;> simp [numsD,h]
 | cons y r ih=>
   cases h:numD y with
   | none=>simp [numsD,h]
   | some u=>
     simp only [List.cons_append,numsD,h,ih];cases hr:numsD r with
     | none=>simp
     | some ns=>cases hx:numD x <;> simp
theorem numsD_len {l:List (List UInt8)} {ns:List Int} (h:numsD l=some ns):ns.length=l.length:=by
 induction l generalizing ns with
 | nil=>simp [numsD] at h;subst h;rfl
 | cons y r ih=>
   unfold numsD at h;cases hy:numD y with
   | none=>rw [hy] at h;cases h
   | some u=>
     rw [hy] at h;cases hr:numsD r with
     | none=>rw [hr] at h;cases h
     | some k=>rw [hr] at h;simp at h;subst h;simp [ih hr]
theorem numsD_none {l:List (List UInt8)} {k:Nat} (h:numsD (l.take k)=none):numsD l=none:=by
 have:∀a b:List (List UInt8),numsD a=none->numsD (a++b)=none:=by
  intro a b ha;induction a with
  | nil=>cases ha
  | cons y r ih=>
    unfold numsD at ha;simp only [List.cons_append,numsD];cases hy:numD y with
    | none=>rfl
    | some u=>
      rw [hy] at ha;cases hr:numsD r with
      | none=>simp [ih hr]
      | some k=>rw [hr] at ha;cases ha
 have h2:=this _ (l.drop k) h
 rwa [List.take_append_drop] at h2
def NumsPost (xs:List (List UInt8)) (w:World) (e:Ending) (w':World):Prop:=
 (match numsD xs with
   | none=>e=thrown 3
   | some ns=>∃v,e= .returned v/\InAt w w' ns v)/\Below w.heap.size w w'
theorem dnums_any (a:Option Addr) (c m:Nat) (xs:List (List UInt8)) (w:World) (hm:m=xs.length) (h3:m<=10000)
 (hc:0<m->∃g o,a=some ⟨g,o,none⟩/\∀(j:Nat) x,xs[j]? =some x->w.cell? ⟨g,o+j,none⟩=some (.string ⟨x.toArray⟩))
 (hl:∀x∈xs,x.length<=100000) (hv:Vars w):
 Calls Tryz.prog 172 #[.slice a m c] w (NumsPost xs w):=by
 have HC:=kd hc;have HV:=kd hv;have HL:=kd hl;have HM:Hid (m=xs.length):=hm;obtain ⟨i0,hi,hz0,hz1,hz2⟩:=info_parts S.Tryz.info3;clear hc hv hl hm;go_enter Tryz.func172,Tryz.ntmps172;go_wp2_with (first
  | (at_make;refine wpList_make_own _ rfl _ _ 48 rfl w.heap.size 3 i0 (.int .i64 0) 1 Tryz.underlying48 hi hz0 hz1 .i64 .i64 _ m rfl rfl rfl (by rw [hz2];omega) (by unfold maxLen;omega) (Nat.le_refl _) ?_;intro w0 hown0 hgrow0)
  | fail)
 have HW0:Hid (InAt w w0 [] (.slice (some ⟨w.heap.size,0,none⟩) 0 m)):=⟨hown0,(Below.refl _ _).grown hgrow0 (Nat.le_refl _) (λ j hj=>by cases hj)⟩;clear hown0 hgrow0;go_loopw [3,11] (λ s3 s11 wq=>∃(j:Nat) (ns:List Int),j<=m/\s11= .int .i64 j/\numsD (xs.take j)=some ns/\InAt w wq ns s3) (λ _ s11 _=>m-(RowKit.intOf s11).toNat)
 case atStart=>exact ⟨0,[],Nat.zero_le _,rfl,rfl,HW0.out⟩
 case round=>
  clear HW0;obtain ⟨j,ns,hj,rfl,hns,hat⟩:=hrel;have HW:Hid (InAt w wr ns u3):=hat;have HS:Hid (numsD (xs.take j)=some ns):=hns;have HNL:Hid (ns.length=j):=by
   show ns.length=j;rw [numsD_len hns,List.length_take,<-HM.out];omega
  clear hat hns;by_cases hlt:j<m
  ·obtain ⟨g,o,hae,hcell⟩:=HC.out (by omega)
   subst hae;obtain ⟨x,hx⟩:∃x,xs[j]? =some x:=⟨_,List.getElem?_eq_getElem (by rw [<-HM.out];exact hlt)⟩;have HX:Hid (xs.take (j+1)=xs.take j++[x]):=by
    show _=_;rw [List.take_add_one,hx];rfl
   have hcj:=hcell j x hx;have hcx:wr.cell? ⟨g,o+j,none⟩=some (.string ⟨x.toArray⟩):=(HW.out.2.cell (p:=⟨g,o+j,none⟩) (G.lt_of_cell hcj)).trans hcj;have HI:=kd (dnum_any ⟨x.toArray⟩ wr (by have:=HL.out x (List.mem_of_getElem? hx);simpa [ByteArray.size] using this) (HV.out.on HW.out.2 HV.out.big));clear hx hcell hcj;cases hnum:numD x with
   | none=>
     have HE:Hid (numsD xs=none):=by
      refine numsD_none (k:=j+1) ?_;rw [HX.out,numsD_snoc,HS.out,hnum];rfl
     rw [show numD (⟨x.toArray⟩:ByteArray).data.toList=none from hnum] at HI;have HI2:Hid (Calls Tryz.prog 278 #[.string ⟨x.toArray⟩] wr λ e w'=>e= .panicked [{v:=.iface 23 (.int .i64 3),recovered:=false}]/\Below wr.heap.size wr w'):=HI.out;clear hnum HI;go_wp2_with (go_at_call 278;refine Calls.mono HI2.out ?_;rintro e w1 ⟨rfl,hb1⟩);refine ⟨rfl,?_,HW.out.2.trans (hb1.mono HW.out.2.size)⟩;rw [HE.out];rfl
   | some v=>
     have HS2:Hid (numsD (xs.take (j+1))=some (ns++[v])):=by
      show _=_;rw [HX.out,numsD_snoc,HS.out,hnum];rfl
     rw [show numD (⟨x.toArray⟩:ByteArray).data.toList=some v from hnum] at HI;have HI2:Hid (Calls Tryz.prog 278 #[.string ⟨x.toArray⟩] wr λ e w'=>e= .returned (.int .i64 v)/\Below wr.heap.size wr w'):=HI.out;clear hnum HI;have hnl:=HNL.out;go_wp2_with (first
      | (go_at_call 278;refine Calls.mono HI2.out ?_;rintro e w1 ⟨rfl,hb1⟩;have hrow:=row_keep HW.out.1 hb1;have hsz:=Nat.le_trans HW.out.2.size hb1.size)
      | (at_builtin;refine wpList_append_own_at _ rfl _ _ 48 rfl w.heap.size 3 i0 (.int .i64 0) 1 8 Tryz.underlying48 hi hz0 hz1 hz2 rfl (by decide) u3 _ _ rfl (hrow.alloc _) ⟨w1.heap.size,0,none⟩ 1 1 [.int .i64 v] rfl rfl (cell_one_new _ _ _) (by simp [Value.oneCell']) (by unfold maxLen;omega) (by omega) (by simp;omega) ?_;intro v2 w2 hown2 hg2 _ _))
     have HW2:Hid (InAt w w2 (ns++[v]) v2):=in_more HW.out hb1 hown2 hg2;clear hown2 hg2 hrow hb1;go_wp2_with fail;go_roundw;case rel=>exact ⟨j+1,ns++[v],by omega,by go_num,HS2.out,HW2.out⟩
     case measure=>simp [RowKit.intOf];omega
  ·obtain rfl:j=m:=by omega
   have HE:Hid (numsD xs=some ns):=by
    have:=HS.out;rw [HM.out,List.take_length] at this;exact this
   go_wp2_with fail;go_ret;refine ⟨?_,HW.out.2⟩;rw [HE.out];exact ⟨_,rfl,HW.out⟩
theorem rows_lists (a:Option Addr) (c m:Nat) (xs:List (List UInt8)) (w:World) (hm:m=xs.length) (h3:m<=10000)
 (hc:0<m->∃g,a=some ⟨g,0,none⟩/\∀(j:Nat) (x:List UInt8),xs[j]? =some x->∃ta tk tc,w.cell? ⟨g,j,none⟩=some (.slice ta tk tc)/\∀W,Below w.heap.size w W->Calls Tryz.prog 265 #[.slice ta tk tc] W λ e w'=>e= .returned (.string ⟨x.toArray⟩)/\Below W.heap.size W w')
 (hlen:(Lib.join xs [44,32]).length<=1000000000):
 Calls Tryz.prog 264 #[.slice a m c,.func (.func 265) #[] #[]] w λ e w'=>e= .returned (.string ⟨(Lib.join xs [44,32]).toArray⟩)/\Below w.heap.size w w':=by
 have HC:=kd hc;have HM:Hid (m=xs.length):=hm;have HL:=kd hlen;obtain ⟨i0,hi,hz0,hz1,hz2⟩:=info_parts info9;clear hc hm hlen;go_enter Tryz.func264,Tryz.ntmps264;go_wp2_with (first
  | (at_make;refine wpList_make_own _ rfl _ _ 70 rfl w.heap.size 9 i0 (.string ByteArray.empty) 1 Tryz.underlying70 hi hz0 hz1 .i64 .i64 _ m rfl rfl rfl (by rw [hz2];omega) (by unfold maxLen;omega) (Nat.le_refl _) ?_;intro w0 hown0 hgrow0)
  | fail)
 have HW0:Hid (TxAt w w0 xs 0 (.slice (some ⟨w.heap.size,0,none⟩) 0 m)):=⟨hown0,(Below.refl _ _).grown hgrow0 (Nat.le_refl _) (λ j hj=>by cases hj)⟩;clear hown0 hgrow0;go_loopw [5,13] (λ s5 s13 wq=>∃j:Nat,j<=m/\s13= .int .i64 j/\TxAt w wq xs j s5) (λ _ s13 _=>m-(RowKit.intOf s13).toNat)
 case atStart=>exact ⟨0,Nat.zero_le _,rfl,HW0.out⟩
 case round=>
  clear HW0;obtain ⟨j,hj,rfl,hat⟩:=hrel;have HW:Hid (TxAt w wr xs j u5):=hat;clear hat;by_cases hlt:j<m
  ·obtain ⟨nb,hae,hcell⟩:=HC.out (by omega)
   subst hae;obtain ⟨x,hx⟩:∃x,xs[j]? =some x:=⟨_,List.getElem?_eq_getElem (by rw [<-HM.out];exact hlt)⟩;have HX:Hid (xs[j]? =some x):=hx;obtain ⟨ta,tk,tc,hcj,hf⟩:=hcell j x hx;have HI:=kd (hf wr HW.out.2);have hcx:wr.cell? ⟨nb,j,none⟩=some (.slice ta tk tc):=(HW.out.2.cell (p:=⟨nb,j,none⟩) (G.lt_of_cell hcj)).trans hcj;clear hx hcell hcj hf;go_wp2_with (first
    | (go_at_call 265;refine Calls.mono HI.out ?_;rintro e w1 ⟨rfl,hb1⟩;have hrow:=row_keep HW.out.1 hb1;have hsz:=Nat.le_trans HW.out.2.size hb1.size)
    | (at_builtin;refine wpList_append_own_at _ rfl _ _ 70 rfl w.heap.size 9 i0 (.string ByteArray.empty) 1 16 Tryz.underlying70 hi hz0 hz1 hz2 rfl (by decide) u5 _ _ rfl (hrow.alloc _) ⟨w1.heap.size,0,none⟩ 1 1 [.string ⟨x.toArray⟩] rfl rfl (cell_one_new _ _ _) (by simp [Value.oneCell']) (by unfold maxLen;omega) (by omega) (by simp;omega) ?_;intro v2 w2 hown2 hg2 _ _))
   have HW2:Hid (TxAt w w2 xs (j+1) v2):=tx_more HW.out hb1 HX.out hown2 hg2;clear hown2 hg2 hrow hb1;go_wp2_with fail;go_roundw;case rel=>exact ⟨j+1,by omega,by go_num,HW2.out⟩
   case measure=>simp [RowKit.intOf];omega
  ·obtain rfl:j=m:=by omega
   by_cases h0:j=0
   ·subst h0
    have hn:xs=[]:=List.length_eq_zero_iff.1 (by have:=HM.out;omega);obtain ⟨aa,cc,hu⟩:=row_shape HW.out.1;subst hu;subst hn;go_wp2_with (go_at_call 132;refine Calls.mono (join_sep_none aa cc _ wr) ?_;rintro e w1 ⟨rfl,hw1⟩;subst w1);go_ret;exact ⟨rfl,HW.out.2⟩
   ·obtain ⟨g,cc,hu,hcc,hg,hcells⟩:=tx_cells HW.out HM.out.symm (by omega)
    have HJ:Hid _:=join_sep g cc j xs ⟨#[44,32]⟩ wr HM.out hcells hg (by have:=HM.out;omega) (by have:=HM.out;omega) HL.out;subst hu;clear hcells;go_wp2_with (go_at_call 132;refine Calls.mono HJ.out ?_;rintro e w1 ⟨rfl,hb1⟩);go_ret;exact ⟨rfl,HW.out.2.trans (hb1.mono HW.out.2.size)⟩
theorem rows_pairs (a:Option Addr) (c m:Nat) (M:List (Int × Int)) (xs:List (List UInt8)) (w:World) (hm:m=xs.length) (hM:M.length=m) (h3:m<=20000)
 (hc:0<m->∃g,a=some ⟨g,0,none⟩/\∀j x,M[j]? =some x->w.cell? ⟨g,j*2,none⟩=some (.int .i64 x.1)/\w.cell? ⟨g,j*2+1,none⟩=some (.int .i64 x.2))
 (hf:∀W (j:Nat) (x:List UInt8) (x0 x1:Int),Below w.heap.size w W->M[j]? =some (x0,x1)->xs[j]? =some x->Calls Tryz.prog 274 #[.agg #[.int .i64 x0,.int .i64 x1]] W λ e w'=>e= .returned (.string ⟨x.toArray⟩)/\Below W.heap.size W w')
 (hlen:(Lib.join xs [44,32]).length<=1000000000):
 Calls Tryz.prog 273 #[.slice a m c,.func (.func 274) #[] #[]] w λ e w'=>e= .returned (.string ⟨(Lib.join xs [44,32]).toArray⟩)/\Below w.heap.size w w':=by
 have HC:=kd hc;have HF:=kd hf;have HM:Hid (m=xs.length):=hm;have HN:Hid (M.length=m):=hM;have HL:=kd hlen;obtain ⟨i0,hi,hz0,hz1,hz2⟩:=info_parts info9;clear hc hf hm hlen hM;go_enter Tryz.func273,Tryz.ntmps273;go_wp2_with (first
  | (at_make;refine wpList_make_own _ rfl _ _ 70 rfl w.heap.size 9 i0 (.string ByteArray.empty) 1 Tryz.underlying70 hi hz0 hz1 .i64 .i64 _ m rfl rfl rfl (by rw [hz2];omega) (by unfold maxLen;omega) (Nat.le_refl _) ?_;intro w0 hown0 hgrow0)
  | fail)
 have HW0:Hid (TxAt w w0 xs 0 (.slice (some ⟨w.heap.size,0,none⟩) 0 m)):=⟨hown0,(Below.refl _ _).grown hgrow0 (Nat.le_refl _) (λ j hj=>by cases hj)⟩;clear hown0 hgrow0;go_loopw [5,7,13] (λ s5 _ s13 wq=>∃j:Nat,j<=m/\s13= .int .i64 j/\TxAt w wq xs j s5) (λ _ _ s13 _=>m-(RowKit.intOf s13).toNat)
 case atStart=>exact ⟨0,Nat.zero_le _,rfl,HW0.out⟩
 case round=>
  clear HW0;obtain ⟨j,hj,rfl,hat⟩:=hrel;have HW:Hid (TxAt w wr xs j u5):=hat;clear hat;by_cases hlt:j<m
  ·obtain ⟨nb,hae,hcell⟩:=HC.out (by omega)
   subst hae;obtain ⟨x,hx⟩:∃x,xs[j]? =some x:=⟨_,List.getElem?_eq_getElem (by rw [<-HM.out];exact hlt)⟩;obtain ⟨x0,x1,hy⟩:∃x0 x1,M[j]? =some (x0,x1):=⟨_,_,List.getElem?_eq_getElem (by rw [HN.out];exact hlt)⟩;have HX:Hid (xs[j]? =some x):=hx;have hcj:=hcell j _ hy;have hb1:Below w.heap.size w (wr.alloc (.cells #[.int .i64 x0,.int .i64 x1] 180)):=HW.out.2.alloc HW.out.2.size _;have HI:=kd (HF.out (wr.alloc (.cells #[.int .i64 x0,.int .i64 x1] 180)) j x x0 x1 hb1 hy hx);obtain ⟨r0,r1⟩:=hcj;have r0':wr.cell? ⟨nb,j*2,none⟩=some (.int .i64 x0):=(HW.out.2.cell (p:=⟨nb,j*2,none⟩) (G.lt_of_cell r0)).trans r0;have r1':wr.cell? ⟨nb,j*2+1,none⟩=some (.int .i64 x1):=(HW.out.2.cell (p:=⟨nb,j*2+1,none⟩) (G.lt_of_cell r1)).trans r1;clear r0 r1;clear hx hcell hy hb1;go_wp2_with (first
    | (go_at_call 274;refine Calls.mono HI.out ?_;rintro e w1 ⟨rfl,hb0⟩;have hb1:Below wr.heap.size wr w1:=(((Below.refl _ _).alloc (Nat.le_refl _) _:Below wr.heap.size wr (wr.alloc (.cells #[.int .i64 x0,.int .i64 x1] 180)))).trans (hb0.mono (by rw [World.size_alloc];omega));have hrow:=row_keep HW.out.1 hb1;have hsz:=Nat.le_trans HW.out.2.size hb1.size;clear hb0)
    | (at_builtin;refine wpList_append_own_at _ rfl _ _ 70 rfl w.heap.size 9 i0 (.string ByteArray.empty) 1 16 Tryz.underlying70 hi hz0 hz1 hz2 rfl (by decide) u5 _ _ rfl (hrow.alloc _) ⟨w1.heap.size,0,none⟩ 1 1 [.string ⟨x.toArray⟩] rfl rfl (cell_one_new _ _ _) (by simp [Value.oneCell']) (by unfold maxLen;omega) (by omega) (by simp;omega) ?_;intro v2 w2 hown2 hg2 _ _))
   have HW2:Hid (TxAt w w2 xs (j+1) v2):=tx_more HW.out hb1 HX.out hown2 hg2;clear hown2 hg2 hrow hb1;go_wp2_with fail;go_roundw;case rel=>exact ⟨j+1,by omega,by go_num,HW2.out⟩
   case measure=>simp [RowKit.intOf];omega
  ·obtain rfl:j=m:=by omega
   by_cases h0:j=0
   ·subst h0
    have hn:xs=[]:=List.length_eq_zero_iff.1 (by have:=HM.out;omega);obtain ⟨aa,cc,hu⟩:=row_shape HW.out.1;subst hu;subst hn;go_wp2_with (go_at_call 132;refine Calls.mono (join_sep_none aa cc _ wr) ?_;rintro e w1 ⟨rfl,hw1⟩;subst w1);go_ret;exact ⟨rfl,HW.out.2⟩
   ·obtain ⟨g,cc,hu,hcc,hg,hcells⟩:=tx_cells HW.out HM.out.symm (by omega)
    have HJ:Hid _:=join_sep g cc j xs ⟨#[44,32]⟩ wr HM.out hcells hg (by have:=HM.out;omega) (by have:=HM.out;omega) HL.out;subst hu;clear hcells;go_wp2_with (go_at_call 132;refine Calls.mono HJ.out ?_;rintro e w1 ⟨rfl,hb1⟩);go_ret;exact ⟨rfl,HW.out.2.trans (hb1.mono HW.out.2.size)⟩
theorem rows_edges (a:Option Addr) (c m:Nat) (M:List G.E) (xs:List (List UInt8)) (w:World) (hm:m=xs.length) (hM:M.length=m) (h3:m<=20000)
 (hc:0<m->∃g,a=some ⟨g,0,none⟩/\∀j x,M[j]? =some x->w.cell? ⟨g,j*3,none⟩=some (.int .i64 x.1)/\w.cell? ⟨g,j*3+1,none⟩=some (.int .i64 x.2.1)/\w.cell? ⟨g,j*3+2,none⟩=some (.int .i64 x.2.2))
 (hf:∀W (j:Nat) (x:List UInt8) (x0 x1 x2:Int),Below w.heap.size w W->M[j]? =some (x0,x1,x2)->xs[j]? =some x->Calls Tryz.prog 269 #[.agg #[.int .i64 x0,.int .i64 x1,.int .i64 x2]] W λ e w'=>e= .returned (.string ⟨x.toArray⟩)/\Below W.heap.size W w')
 (hlen:(Lib.join xs [44,32]).length<=1000000000):
 Calls Tryz.prog 268 #[.slice a m c,.func (.func 269) #[] #[]] w λ e w'=>e= .returned (.string ⟨(Lib.join xs [44,32]).toArray⟩)/\Below w.heap.size w w':=by
 have HC:=kd hc;have HF:=kd hf;have HM:Hid (m=xs.length):=hm;have HN:Hid (M.length=m):=hM;have HL:=kd hlen;obtain ⟨i0,hi,hz0,hz1,hz2⟩:=info_parts info9;clear hc hf hm hlen hM;go_enter Tryz.func268,Tryz.ntmps268;go_wp2_with (first
  | (at_make;refine wpList_make_own _ rfl _ _ 70 rfl w.heap.size 9 i0 (.string ByteArray.empty) 1 Tryz.underlying70 hi hz0 hz1 .i64 .i64 _ m rfl rfl rfl (by rw [hz2];omega) (by unfold maxLen;omega) (Nat.le_refl _) ?_;intro w0 hown0 hgrow0)
  | fail)
 have HW0:Hid (TxAt w w0 xs 0 (.slice (some ⟨w.heap.size,0,none⟩) 0 m)):=⟨hown0,(Below.refl _ _).grown hgrow0 (Nat.le_refl _) (λ j hj=>by cases hj)⟩;clear hown0 hgrow0;go_loopw [5,7,13] (λ s5 _ s13 wq=>∃j:Nat,j<=m/\s13= .int .i64 j/\TxAt w wq xs j s5) (λ _ _ s13 _=>m-(RowKit.intOf s13).toNat)
 case atStart=>exact ⟨0,Nat.zero_le _,rfl,HW0.out⟩
 case round=>
  clear HW0;obtain ⟨j,hj,rfl,hat⟩:=hrel;have HW:Hid (TxAt w wr xs j u5):=hat;clear hat;by_cases hlt:j<m
  ·obtain ⟨nb,hae,hcell⟩:=HC.out (by omega)
   subst hae;obtain ⟨x,hx⟩:∃x,xs[j]? =some x:=⟨_,List.getElem?_eq_getElem (by rw [<-HM.out];exact hlt)⟩;obtain ⟨x0,x1,x2,hy⟩:∃x0 x1 x2,M[j]? =some (x0,x1,x2):=⟨_,_,_,List.getElem?_eq_getElem (by rw [HN.out];exact hlt)⟩;have HX:Hid (xs[j]? =some x):=hx;have hcj:=hcell j _ hy;have hb1:Below w.heap.size w (wr.alloc (.cells #[.int .i64 x0,.int .i64 x1,.int .i64 x2] 61)):=HW.out.2.alloc HW.out.2.size _;have HI:=kd (HF.out (wr.alloc (.cells #[.int .i64 x0,.int .i64 x1,.int .i64 x2] 61)) j x x0 x1 x2 hb1 hy hx);obtain ⟨r0,r1,r2⟩:=hcj;have r0':wr.cell? ⟨nb,j*3,none⟩=some (.int .i64 x0):=(HW.out.2.cell (p:=⟨nb,j*3,none⟩) (G.lt_of_cell r0)).trans r0;have r1':wr.cell? ⟨nb,j*3+1,none⟩=some (.int .i64 x1):=(HW.out.2.cell (p:=⟨nb,j*3+1,none⟩) (G.lt_of_cell r1)).trans r1;have r2':wr.cell? ⟨nb,j*3+2,none⟩=some (.int .i64 x2):=(HW.out.2.cell (p:=⟨nb,j*3+2,none⟩) (G.lt_of_cell r2)).trans r2;clear r0 r1 r2;clear hx hcell hy hb1;go_wp2_with (first
    | (go_at_call 269;refine Calls.mono HI.out ?_;rintro e w1 ⟨rfl,hb0⟩;have hb1:Below wr.heap.size wr w1:=(((Below.refl _ _).alloc (Nat.le_refl _) _:Below wr.heap.size wr (wr.alloc (.cells #[.int .i64 x0,.int .i64 x1,.int .i64 x2] 61)))).trans (hb0.mono (by rw [World.size_alloc];omega));have hrow:=row_keep HW.out.1 hb1;have hsz:=Nat.le_trans HW.out.2.size hb1.size;clear hb0)
    | (at_builtin;refine wpList_append_own_at _ rfl _ _ 70 rfl w.heap.size 9 i0 (.string ByteArray.empty) 1 16 Tryz.underlying70 hi hz0 hz1 hz2 rfl (by decide) u5 _ _ rfl (hrow.alloc _) ⟨w1.heap.size,0,none⟩ 1 1 [.string ⟨x.toArray⟩] rfl rfl (cell_one_new _ _ _) (by simp [Value.oneCell']) (by unfold maxLen;omega) (by omega) (by simp;omega) ?_;intro v2 w2 hown2 hg2 _ _))
   have HW2:Hid (TxAt w w2 xs (j+1) v2):=tx_more HW.out hb1 HX.out hown2 hg2;clear hown2 hg2 hrow hb1;go_wp2_with fail;go_roundw;case rel=>exact ⟨j+1,by omega,by go_num,HW2.out⟩
   case measure=>simp [RowKit.intOf];omega
  ·obtain rfl:j=m:=by omega
   by_cases h0:j=0
   ·subst h0
    have hn:xs=[]:=List.length_eq_zero_iff.1 (by have:=HM.out;omega);obtain ⟨aa,cc,hu⟩:=row_shape HW.out.1;subst hu;subst hn;go_wp2_with (go_at_call 132;refine Calls.mono (join_sep_none aa cc _ wr) ?_;rintro e w1 ⟨rfl,hw1⟩;subst w1);go_ret;exact ⟨rfl,HW.out.2⟩
   ·obtain ⟨g,cc,hu,hcc,hg,hcells⟩:=tx_cells HW.out HM.out.symm (by omega)
    have HJ:Hid _:=join_sep g cc j xs ⟨#[44,32]⟩ wr HM.out hcells hg (by have:=HM.out;omega) (by have:=HM.out;omega) HL.out;subst hu;clear hcells;go_wp2_with (go_at_call 132;refine Calls.mono HJ.out ?_;rintro e w1 ⟨rfl,hb1⟩);go_ret;exact ⟨rfl,HW.out.2.trans (hb1.mono HW.out.2.size)⟩
theorem two_any (x y:Int) (w:World) (hx:0<=x/\x<=9223372036854775807) (hy:0<=y/\y<=9223372036854775807) (hv:Vars w):
 Calls Tryz.prog 274 #[.agg #[.int .i64 x,.int .i64 y]] w λ e w'=>e= .returned (.string ⟨(lineI [x,y]).toArray⟩)/\Below w.heap.size w w':=by
 have hb1:Below w.heap.size w (w.alloc (.cells #[.int .i64 x,.int .i64 y] 180)):=(Below.refl _ _).alloc (Nat.le_refl _) _;obtain ⟨W1,hW1⟩:∃W1,w.alloc (.cells #[.int .i64 x,.int .i64 y] 180)=W1:=⟨_,rfl⟩;have hs1:W1.heap.size=w.heap.size+1:=by rw [<-hW1,World.size_alloc]
 rw [hW1] at hb1;have hb2:Below W1.heap.size W1 (W1.alloc (.cells #[.int .i64 x,.int .i64 y] 3)):=(Below.refl _ _).alloc (Nat.le_refl _) _;have HC:=kd (row_any (some ⟨w.heap.size+1,0,none⟩) 2 2 [x,y] (W1.alloc (.cells #[.int .i64 x,.int .i64 y] 3)) rfl (hs1▸zs_two W1 x y) (λ z hz=>by simp at hz;rcases hz with rfl | rfl <;> assumption) (by simp) ((hv.below hb1).below hb2));have HB:Hid (Below w.heap.size w (W1.alloc (.cells #[.int .i64 x,.int .i64 y] 3))):=hb1.trans (hb2.mono hb1.size);clear hx hy hv hb1 hb2 hs1;subst hW1;go_enter Tryz.func274,Tryz.ntmps274;go_wp2_with fail;refine Calls.mono HC.out ?_;rintro e w1 ⟨rfl,hb⟩;have HB2:Hid (Below w.heap.size w w1):=HB.out.trans (hb.mono HB.out.size);clear hb HC;go_wp2_with fail;go_ret;exact ⟨rfl,HB2.out⟩
theorem edge_any (x y z:Int) (w:World) (hx:0<=x/\x<=9223372036854775807) (hy:0<=y/\y<=9223372036854775807) (hz:0<=z/\z<=9223372036854775807) (hv:Vars w):
 Calls Tryz.prog 269 #[.agg #[.int .i64 x,.int .i64 y,.int .i64 z]] w λ e w'=>e= .returned (.string ⟨(lineI [x,y,z]).toArray⟩)/\Below w.heap.size w w':=by
 have hb1:Below w.heap.size w (w.alloc (.cells #[.int .i64 x,.int .i64 y,.int .i64 z] 61)):=(Below.refl _ _).alloc (Nat.le_refl _) _;obtain ⟨W1,hW1⟩:∃W1,w.alloc (.cells #[.int .i64 x,.int .i64 y,.int .i64 z] 61)=W1:=⟨_,rfl⟩;have hs1:W1.heap.size=w.heap.size+1:=by rw [<-hW1,World.size_alloc]
 rw [hW1] at hb1;have hb2:Below W1.heap.size W1 (W1.alloc (.cells #[.int .i64 x,.int .i64 y,.int .i64 z] 3)):=(Below.refl _ _).alloc (Nat.le_refl _) _;have HC:=kd (row_any (some ⟨w.heap.size+1,0,none⟩) 3 3 [x,y,z] (W1.alloc (.cells #[.int .i64 x,.int .i64 y,.int .i64 z] 3)) rfl (hs1▸zs_three W1 x y z) (λ t ht=>by simp at ht;rcases ht with rfl | rfl | rfl <;> assumption) (by simp) ((hv.below hb1).below hb2));have HB:Hid (Below w.heap.size w (W1.alloc (.cells #[.int .i64 x,.int .i64 y,.int .i64 z] 3))):=hb1.trans (hb2.mono hb1.size);clear hx hy hz hv hb1 hb2 hs1;subst hW1;go_enter Tryz.func269,Tryz.ntmps269;go_wp2_with fail;refine Calls.mono HC.out ?_;rintro e w1 ⟨rfl,hb⟩;have HB2:Hid (Below w.heap.size w w1):=HB.out.trans (hb.mono HB.out.size);clear hb HC;go_wp2_with fail;go_ret;exact ⟨rfl,HB2.out⟩
end Go.Proofs.YtebcjaenhiiflaaGreatDoor.I
