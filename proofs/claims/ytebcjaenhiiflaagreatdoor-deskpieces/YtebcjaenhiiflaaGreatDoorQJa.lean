import Derived.Test.YtebcjaenhiiflaaGreatDoorQJz
import Derived.OwnWalk
import Derived.Maps.AppendAt
import Derived.RangeFuncBox
set_option maxHeartbeats 2000000
set_option maxRecDepth 100000
namespace Go.Proofs.YtebcjaenhiiflaaGreatDoor.I
open Go.RowKit Go.Lib
def lineI (ns:List Int):List UInt8:=joinB (ns.map itoa)
theorem joinB_snoc:∀(l:List (List UInt8)) (x:List UInt8),joinB (l++[x])=joinB l++(if l=[] then x else 32::x)
 | [],x=>by simp [joinB]
 | [y],x=>by simp [joinB]
 | y::z::r,x=>by
   have ih:=joinB_snoc (z::r) x;simp only [List.cons_append,joinB] at ih ⊢;rw [ih];simp
theorem lineI_snoc (ns:List Int) (x:Int):lineI (ns++[x])=lineI ns++(if ns=[] then itoa x else 32::itoa x):=by
 unfold lineI;rw [List.map_append,List.map_cons,List.map_nil,joinB_snoc];cases ns <;> simp
theorem itoa_len {i:Int} (h0:0<=i) (h1:i<=9223372036854775807):(itoa i).length<=20:=by
 obtain ⟨u,rfl⟩:=Int.eq_ofNat_of_zero_le h0;rw [itoa_nat];have key:∀(k u:Nat),u<10^(k+1)->(decDigits u).length<=k+1:=by
  intro k;induction k with
  | zero=>intro u hu;rw [dec_small (by simpa using hu)];simp
  | succ k ih=>
    intro u hu;by_cases c:u<10
    ·rw [dec_small c];simp
    ·rw [dec_big c,List.length_append,List.length_singleton]
     have:=ih (u/10) (by rw [Nat.div_lt_iff_lt_mul (by omega)];rw [Nat.pow_succ] at hu;exact hu);omega
 exact key 19 u (by omega)
theorem infoB:(Tryz.prog.info? 5).map (λ i=>(i.zero,i.size,i.bytes))=some (some (.int .u8 0),1,1):=by kernel_rfl
theorem info5:∃i,Tryz.prog.info? 5=some i/\i.zero=some (.int .u8 0)/\i.size=1/\i.bytes=1:=info_parts infoB
def LineAt (w0 w:World) (B k:Nat) (xs:List Value) (ns:List Int) (j:Nat) (v:Value):Prop:=
 w.ownsRow B 5 1 v (k+(lineI (ns.take j)).length) (xs++Lib.byteCells (lineI (ns.take j)))/\Below B w0 w/\OthersKept 5 none w0 w
theorem ints_cell {w:World} {nb:Nat} {ns:List Int} (h:w.heap[nb]? =some (.cells (ns.map (Value.int .i64)).toArray 3)) {j:Nat} {x:Int} (hx:ns[j]? =some x):w.cell? ⟨nb,j,none⟩=some (.int .i64 x):=by
 simp [World.cell?,h,hx]
theorem join_len:∀{ws:List (List UInt8)},(∀x∈ws,x.length<=20)->(joinB ws).length<=21*ws.length
 | [],_=>by simp [joinB]
 | [x],h=>by have:=h x (by simp);simp [joinB];omega
 | x::y::r,h=>by
   have h1:=join_len (ws:=y::r) (λ z hz=>h z (by simp at hz ⊢;exact .inr hz));have h2:=h x (by simp);rw [joinB,List.length_append,List.length_cons,List.length_cons];omega
theorem line_len {ns:List Int} (hr:∀x∈ns,0<=x/\x<=9223372036854775807):(lineI ns).length<=21*ns.length:=by
 have:=join_len (ws:=ns.map itoa) (λ x hx=>by
  obtain ⟨i,hi,rfl⟩:=List.mem_map.1 hx;exact itoa_len (hr i hi).1 (hr i hi).2)
 rwa [List.length_map] at this
theorem bytes_append (a b:List UInt8):Lib.byteCells (a++b)=Lib.byteCells a++Lib.byteCells b:=by simp [Lib.byteCells]
theorem take_next {ns:List Int} {j:Nat} {x:Int} (hx:ns[j]? =some x):ns.take (j+1)=ns.take j++[x]:=by rw [List.take_add_one,hx];rfl
theorem line_step0 {w0 w w1:World} {B k:Nat} {xs:List Value} {ns:List Int} {u v1:Value} {x:Int} (h:LineAt w0 w B k xs ns 0 u) (hx:ns[0]? =some x) (h1:w1.ownsRow B 5 1 v1 (k+(lineI (ns.take 0)).length+(itoa x).length) (xs++Lib.byteCells (lineI (ns.take 0))++Lib.byteCells (itoa x))) (hb:Below B w w1) (hk:OthersKept 5 none w w1):LineAt w0 w1 B k xs ns 1 v1:=by
 refine ⟨?_,h.2.1.trans hb,h.2.2.trans hk⟩;rw [take_next hx,List.take_zero,List.nil_append]
 simpa [lineI,joinB,Lib.byteCells] using h1
def LineB (w0 w:World) (B k:Nat) (xs:List Value) (ns:List Int) (j:Nat) (v:Value):Prop:=
 w.ownsRow B 5 1 v (k+(lineI (ns.take j)).length+1) (xs++Lib.byteCells (lineI (ns.take j))++[.int .u8 32])/\Below B w0 w/\OthersKept 5 none w0 w/\B<=w.heap.size
theorem one_byte {b:Int}:∀u∈[Value.int .u8 b],u.oneCell'=true:=by simp [Value.oneCell']
theorem own_kept {w w1:World} {B n:Nat} {xs:List Value} {u:Value} {o:Obj} (hu:w.ownsRow B 5 1 u n xs) (hg:(w.alloc o).grownBy w1 u.ownBlock):OthersKept 5 none w w1:=by
 intro k c hk _ hc;have hlt:=G.lt_of_some hk;rw [hg.block k (by simp;omega) ?_,Below.heap_alloc _ _ _ hlt]
 ·exact hk
 ·rcases hu.2 with ⟨rfl,_⟩ | ⟨g,cap,cur,rfl,_,hgb,_⟩
  ·simp [Value.ownBlock]
  ·intro e
   simp [Value.ownBlock] at e;subst e;rw [hgb] at hk;injection hk with hk
   exact hc _ _ hk.symm
theorem line_more {w0 w w1:World} {B n:Nat} {xs:List Value} {u:Value} {o:Obj} (hu:w.ownsRow B 5 1 u n xs) (hb:Below B w0 w) (hn:OthersKept 5 none w0 w) (hB:B<=w.heap.size) (hg:(w.alloc o).grownBy w1 u.ownBlock):
 Below B w0 w1/\OthersKept 5 none w0 w1/\B<=w1.heap.size:=by
 have hs:=hg.size;rw [World.size_alloc] at hs;exact ⟨hb.trans (((Below.refl B w).alloc hB o).grown hg (by simp;omega) λ j hj=>(hu.lt j hj).1),hn.trans (own_kept hu hg),by omega⟩
theorem line_blank {w0 w w1:World} {B k j:Nat} {xs:List Value} {ns:List Int} {u v1:Value} {o:Obj} (h:LineAt w0 w B k xs ns j u) (hB:B<=w.heap.size) (h1:w1.ownsRow B 5 1 v1 (k+(lineI (ns.take j)).length+1) (xs++Lib.byteCells (lineI (ns.take j))++[.int .u8 32])) (hg:(w.alloc o).grownBy w1 u.ownBlock):LineB w0 w1 B k xs ns j v1:=
 ⟨h1,line_more h.1 h.2.1 h.2.2 hB hg⟩
theorem line_step {w0 w w1:World} {B k j:Nat} {xs:List Value} {ns:List Int} {u v1:Value} {x:Int} (h:LineB w0 w B k xs ns j u) (hj:¬j=0) (hx:ns[j]? =some x) (h1:w1.ownsRow B 5 1 v1 (k+(lineI (ns.take j)).length+1+(itoa x).length) (xs++Lib.byteCells (lineI (ns.take j))++[.int .u8 32]++Lib.byteCells (itoa x))) (hb:Below B w w1) (hk:OthersKept 5 none w w1):LineAt w0 w1 B k xs ns (j+1) v1:=by
 have hne:ns.take j≠[]:=by
  intro k;have hl:=(List.getElem?_eq_some_iff.1 hx).1;have:=congrArg List.length k;rw [List.length_take,List.length_nil] at this;omega
 refine ⟨?_,h.2.1.trans hb,h.2.2.1.trans hk⟩;rw [take_next hx,lineI_snoc,if_neg hne,List.length_append,List.length_cons];have e:k+((lineI (ns.take j)).length+((itoa x).length+1))=k+(lineI (ns.take j)).length+1+(itoa x).length:=by omega
 rw [e,bytes_append]
 simpa [Lib.byteCells] using h1
theorem line_end {w0 w w1:World} {B k m:Nat} {xs:List Value} {ns:List Int} {u v1:Value} {o:Obj} (h:LineAt w0 w B k xs ns m u) (hm:m=ns.length) (hB:B<=w.heap.size) (h1:w1.ownsRow B 5 1 v1 (k+(lineI (ns.take m)).length+1) (xs++Lib.byteCells (lineI (ns.take m))++[.int .u8 10])) (hg:(w.alloc o).grownBy w1 u.ownBlock):
 w1.ownsRow B 5 1 v1 (k+(lineI ns).length+1) (xs++Lib.byteCells (lineI ns++[10]))/\Below B w0 w1/\OthersKept 5 none w0 w1:=by
 subst hm;rw [List.take_length] at h1;have hm:=line_more h.1 h.2.1 h.2.2 hB hg;refine ⟨?_,hm.1,hm.2.1⟩;rw [bytes_append,<-List.append_assoc];exact h1
theorem line_any (B nb m c k:Nat) (v:Value) (xs:List Value) (ns:List Int) (w:World) (hown:w.ownsRow B 5 1 v k xs) (hB:B<=w.heap.size) (hm:m=ns.length) (hnb:w.heap[nb]? =some (.cells (ns.map (Value.int .i64)).toArray 3)) (hr:∀x∈ns,0<=x/\x<=9223372036854775807) (hk:k<=90000) (h3:ns.length<=3) (htab:TB B w):
 Calls Tryz.prog 51 #[v,.slice (some ⟨nb,0,none⟩) m c] w λ e w'=>∃v',e= .returned v'/\w'.ownsRow B 5 1 v' (k+(lineI ns).length+1) (xs++Lib.byteCells (lineI ns++[10]))/\Below B w w'/\OthersKept 5 none w w':=by
 have H0:Hid (LineAt w w B k xs ns 0 v):=⟨by simpa [lineI,joinB,Lib.byteCells] using hown,Below.refl _ _,OthersKept.refl _ _ _⟩;have HNB:Hid (w.heap[nb]? =some (.cells (ns.map (Value.int .i64)).toArray 3)):=hnb;have HR:Hid (∀x∈ns,0<=x/\x<=9223372036854775807):=hr;have HT:Hid (TB B w):=htab;have HM:Hid (m=ns.length):=hm;have HB:Hid (B<=w.heap.size):=hB;have HK:Hid (k<=90000/\ns.length<=3):=⟨hk,h3⟩;have hm3:m<=3:=by omega
 clear hown hnb hr htab hB hm hk h3;go_enter Tryz.func51,Tryz.ntmps51;go_wp2_with fail;go_loopw [0,9] (λ s0 s9 wq=>∃j:Nat,j<=m/\s9= .int .i64 j/\LineAt w wq B k xs ns j s0) (λ _ s9 _=>m-(RowKit.intOf s9).toNat)
 case atStart=>exact ⟨0,Nat.zero_le _,rfl,H0.out⟩
 case round=>
  obtain ⟨j,hj,rfl,hat⟩:=hrel;have HA:Hid (LineAt w wr B k xs ns j u0):=hat;clear hat;by_cases hlt:j<m
  ·have hjn:j<ns.length:=by have:=HM.out;omega
   have hx:ns[j]? =some ns[j]:=List.getElem?_eq_getElem hjn;have HX:Hid (ns[j]? =some ns[j]):=hx;have HXR:Hid (0<=ns[j]/\ns[j]<=9223372036854775807):=HR.out _ (List.mem_of_getElem? hx);have hc:=ints_cell (HA.out.2.2 _ _ HNB.out (by simp) (by simp)) hx;generalize ns[j]=x at*;have HBW:Hid (B<=wr.heap.size):=Nat.le_trans HB.out HA.out.2.1.size;have HL:Hid (k+(lineI (ns.take j)).length<=99000):=by
    have hl:=line_len (ns:=ns.take j) (λ y hy=>HR.out y (List.mem_of_mem_take hy));rw [List.length_take] at hl;have:=HK.out;show _<=_;omega
   clear hx hjn;by_cases hj0:j=0
   ·subst hj0
    have HC:Hid _:=appendInt_any B _ x HXR.out.1 HXR.out.2 u0 _ wr HA.out.1 HBW.out (by have:=HL.out;omega) (HT.out.on HA.out.2.1);go_wp2_with (go_at_call 112;refine Calls.mono HC.out ?_;rintro e w1 ⟨v1,rfl,hown1,hb1,hk1⟩);go_wp2_with fail;go_roundw;case rel=>exact ⟨1,by omega,by go_num,line_step0 HA.out HX.out hown1 hb1 hk1⟩
    case measure=>simp [RowKit.intOf];omega
   ·obtain ⟨i0,hi,hz,hs,hb⟩:=info5
    have hrow:=HA.out.1;have hl9:=HL.out;have hbw:=HBW.out;go_wp2_with (first
     | (at_builtin;refine wpList_append_own_at _ rfl _ _ 88 rfl B 5 i0 (.int .u8 0) 1 1 Tryz.underlying88 hi hz hs hb rfl (by decide) u0 _ _ rfl (hrow.alloc _) ⟨wr.heap.size,0,none⟩ 1 1 [.int .u8 32] rfl rfl (cell_one_new _ _ _) one_byte (by unfold maxLen;omega) (by omega) (by simp;omega) ?_;intro v1 w1 hown1 hg1 _ _)
     | fail)
    have HS1:Hid (LineB w w1 B k xs ns j v1):=line_blank HA.out HBW.out hown1 hg1;clear hrow hown1 hg1;have HC:Hid _:=appendInt_any B _ x HXR.out.1 HXR.out.2 v1 _ w1 HS1.out.1 HS1.out.2.2.2 (by have:=HL.out;omega) (HT.out.on HS1.out.2.1);go_wp2_with (go_at_call 112;refine Calls.mono HC.out ?_;rintro e w2 ⟨v2,rfl,hown2,hb2,hk2⟩);go_wp2_with fail;go_roundw;case rel=>exact ⟨j+1,by omega,by go_num,line_step HS1.out hj0 HX.out hown2 hb2 hk2⟩
    case measure=>simp [RowKit.intOf];omega
  ·obtain rfl:j=m:=by omega
   obtain ⟨i0,hi,hz,hs,hb⟩:=info5;have hrow:=HA.out.1;have HBW:Hid (B<=wr.heap.size):=Nat.le_trans HB.out HA.out.2.1.size;have hbw:=HBW.out;have hl9:k+(lineI (ns.take j)).length<=99000:=by
    have hl:=line_len (ns:=ns.take j) (λ y hy=>HR.out y (List.mem_of_mem_take hy));rw [List.length_take] at hl;have:=HK.out;omega
   go_wp2_with (first
    | (at_builtin;refine wpList_append_own_at _ rfl _ _ 88 rfl B 5 i0 (.int .u8 0) 1 1 Tryz.underlying88 hi hz hs hb rfl (by decide) u0 _ _ rfl (hrow.alloc _) ⟨wr.heap.size,0,none⟩ 1 1 [.int .u8 10] rfl rfl (cell_one_new _ _ _) one_byte (by unfold maxLen;omega) (by omega) (by simp;omega) ?_;intro v1 w1 hown1 hg1 _ _)
    | fail)
   go_ret;exact ⟨v1,rfl,line_end HA.out HM.out HBW.out hown1 hg1⟩
end Go.Proofs.YtebcjaenhiiflaaGreatDoor.I
