import Derived.Test.YtebcjaenhiiflaaGreatDoorQJa
import Derived.Lib.SlBytesRow
set_option maxHeartbeats 2000000
set_option maxRecDepth 100000
namespace Go.Proofs.YtebcjaenhiiflaaGreatDoor.I
open Go.RowKit Go.Lib
def edI (e:G.E):List UInt8:=lineI [e.1,e.2.1,e.2.2]++[10]
def svI (n:Nat) (L:List G.E):List UInt8:=lineI [(n:Int)]++[10]++L.flatMap edI
theorem svE_eq {n:Nat} {L:List G.E} (h:∀e∈L,0<=e.1/\0<=e.2.1/\0<=e.2.2):svE n L=svI n L:=by
 unfold svE svB svI textOf;rw [List.flatMap_cons,List.map_map,List.flatMap_map]
 congr 1
 induction L with
 | nil=>rfl
 | cons e L ih=>
   have he:=h e (by simp);rw [List.flatMap_cons,List.flatMap_cons,ih (λ x hx=>h x (by simp [hx]))]
   congr 1
   simp [natE,lineOf,edI,lineI,Int.toNat_of_nonneg he.1,Int.toNat_of_nonneg he.2.1,Int.toNat_of_nonneg he.2.2]
theorem svE_ok {n:Nat} {L:List G.E} (h:Ok n L):svE n L=svI n L:=svE_eq (λ e he=>by have:=h.ed e he;omega)
theorem edI_len {n:Nat} {L:List G.E} (h:Ok n L) {e:G.E} (he:e∈L):(edI e).length<=64:=by
 have h1:=h.ed e he;have h40:=h.n40;have:=line_len (ns:=[e.1,e.2.1,e.2.2]) (λ x hx=>by
  simp at hx;rcases hx with rfl | rfl | rfl <;> omega)
 unfold edI;rw [List.length_append];simp at this ⊢;omega
theorem svI_len {n:Nat} {L:List G.E} (h:Ok n L) (j:Nat):(svI n (L.take j)).length<=22+64*120:=by
 have h1:=line_len (ns:=[(n:Int)]) (λ x hx=>by have:=h.n40;simp at hx;omega);have key:∀M:List G.E,(∀e∈M,e∈L)->(M.flatMap edI).length<=64*M.length:=by
  intro M;induction M with
  | nil=>simp
  | cons e M ih=>
    intro hM;have a:=edI_len h (hM e (by simp));have b:=ih (λ x hx=>hM x (by simp [hx]));rw [List.flatMap_cons,List.length_append,List.length_cons];omega
 have h2:=key (L.take j) (λ e he=>List.mem_of_mem_take he);have h3:=h.len;rw [List.length_take] at h2;unfold svI;rw [List.length_append,List.length_append];simp only [List.length_singleton] at h1 ⊢;omega
theorem svI_next {n:Nat} {L:List G.E} {j:Nat} {e:G.E} (he:L[j]? =some e):svI n (L.take (j+1))=svI n (L.take j)++edI e:=by
 unfold svI;rw [List.take_add_one,he,Option.toList_some,List.flatMap_append];simp
def Ix (w:World) (x p q:Nat):Prop:=w.heap[x]? =some (.cells #[.pointer (some ⟨p,0,none⟩),.pointer (some ⟨q,0,none⟩)] 85)
theorem Ix.lt {w:World} {x p q:Nat} (h:Ix w x p q):x<w.heap.size:=G.lt_of_some h
theorem Ix.below {w w':World} {x p q B:Nat} (h:Ix w x p q) (hb:Below B w w') (hB:x<B):Ix w' x p q:=(hb.block x hB).trans h
theorem Ix.c0 {w:World} {x p q:Nat} (h:Ix w x p q):w.cell? ⟨x,0,none⟩=some (.pointer (some ⟨p,0,none⟩)):=by simp [World.cell?,show w.heap[x]? =_ from h]
theorem Ix.c1 {w:World} {x p q:Nat} (h:Ix w x p q):w.cell? ⟨x,1,none⟩=some (.pointer (some ⟨q,0,none⟩)):=by simp [World.cell?,show w.heap[x]? =_ from h]
theorem str_of_row {w:World} {B k:Nat} {v:Value} {l:List UInt8} (h:w.ownsRow B 5 1 v k (Lib.byteCells l)) (hk:k=l.length) (hne:l≠[]):(convert 88 9 v).run Tryz.prog w= .ok (.string ⟨l.toArray⟩) w:=by
 subst hk;rcases h.2 with ⟨rfl,hz⟩ | ⟨g,cap,cur,rfl,hb,hg,_⟩
 ·exact absurd (List.length_eq_zero_iff.1 hz) hne
 ·refine run_convert_whole (P:=Tryz.prog) w 88 5 9 Tryz.underlying88 Tryz.underlying5 Tryz.underlying9 g 0 ⟨l.toArray⟩ ?_ cap
  intro i hi;have hi':i<l.length:=hi;have e:(Lib.byteCells l)[i]? =some (.int .u8 (l[i].toNat:Int)):=by simp [Lib.byteCells,hi']
  have hc:=h.cells rfl i _ e;rw [G.addr0_add] at hc;rw [Nat.zero_add];exact hc
def SvAt (w0 w:World) (n:Nat) (L:List G.E) (j:Nat) (v:Value):Prop:=
 w.ownsRow w0.heap.size 5 1 v (svI n (L.take j)).length (Lib.byteCells (svI n (L.take j)))/\Below w0.heap.size w0 w
theorem ed_cells {w:World} {B b:Nat} {v:Value} {L:List G.E} (h:G.Owns w B 61 v L) (hb:v.ownBlock=some b) {j:Nat} {e:G.E} (he:L[j]? =some e):
 w.cell? ⟨b,j*3,none⟩=some (.int .i64 e.1)/\w.cell? ⟨b,j*3+1,none⟩=some (.int .i64 e.2.1)/\w.cell? ⟨b,j*3+2,none⟩=some (.int .i64 e.2.2):=by
 obtain ⟨h1,h2,h3⟩:=G.rowV_at L j e he;have k1:=World.ownsRow.cells h hb _ _ h1;have k2:=World.ownsRow.cells h hb _ _ h2;have k3:=World.ownsRow.cells h hb _ _ h3;rw [G.addr0_add] at k1 k2 k3;exact ⟨k1,k2,k3⟩
theorem row_keep {w w':World} {base e s n:Nat} {v:Value} {xs:List Value} (h:w.ownsRow base e s v n xs) (hb:Below w.heap.size w w'):w'.ownsRow base e s v n xs:=h.kept (G.grownBy_of_below hb (Nat.le_refl _) none) (by cases v.ownBlock <;> simp)
theorem saved_line {w0 w:World} {n j:Nat} {L:List G.E} {u:Value} {e0 e1 e2:Int} (h:SvAt w0 w n L j u) (hok:Ok n L) (he:L[j]? =some (e0,e1,e2)) (hv:Vars w0):
 Calls Tryz.prog 51 #[u,.slice (some ⟨w.heap.size+1,0,none⟩) 3 3] ((w.alloc (.cells #[.int .i64 e0,.int .i64 e1,.int .i64 e2] 61)).alloc (.cells #[.int .i64 e0,.int .i64 e1,.int .i64 e2] 3)) λ e w'=>∃v',e= .returned v'/\SvAt w0 w' n L (j+1) v'/\OthersKept 5 none w w':=by
 have hb:Below w0.heap.size w0 ((w.alloc (.cells #[.int .i64 e0,.int .i64 e1,.int .i64 e2] 61)).alloc (.cells #[.int .i64 e0,.int .i64 e1,.int .i64 e2] 3)):=h.2.trans (((Below.refl _ w).alloc h.2.size _).alloc (by have:=h.2.size;simp;omega) _);have h40:=hok.n40;have hed:=hok.ed _ (List.mem_of_getElem? he);dsimp only at hed;have hnew:=World.alloc_heap_new (w.alloc (.cells #[.int .i64 e0,.int .i64 e1,.int .i64 e2] 61)) (.cells #[.int .i64 e0,.int .i64 e1,.int .i64 e2] 3);rw [World.size_alloc] at hnew;have hsz:=svI_len hok j;have hle:=h.2.size;refine (line_any w0.heap.size (w.heap.size+1) 3 3 _ u _ [e0,e1,e2] _ ((h.1.alloc _).alloc _) (by simp;omega) rfl hnew (λ y hy=>by simp at hy;rcases hy with rfl | rfl | rfl <;> omega) (by omega) (by simp) ((hv.tb hv.big).on hb)).mono ?_;rintro e w' ⟨v',rfl,h1,h2,h3⟩;refine ⟨v',rfl,⟨?_,hb.trans h2⟩,OthersKept.trans (λ k o hk _ _=>?_) h3⟩
 ·rw [svI_next he,List.length_append,bytes_append]
  have e1:edI (e0,e1,e2)=lineI [e0,e1,e2]++[10]:=rfl;rw [e1,List.length_append,List.length_singleton,<-Nat.add_assoc];exact h1
 ·have hk':=G.lt_of_some hk
  rw [Below.heap_alloc _ _ _ (by simp;omega),Below.heap_alloc _ _ _ hk'];exact hk
theorem owns_at {w:World} {B n c:Nat} {a:Option Addr} {L:List G.E} (h:G.Owns w B 61 (.slice a n c) L) (hn:0<L.length):∃g,a=some ⟨g,0,none⟩:=by
 rcases h.shape with ⟨_,k⟩ | ⟨g,c',k,_⟩
 ·subst k;simp at hn
 ·injection k with k _ _
  exact ⟨g,k⟩
theorem owns_others {w w':World} {B:Nat} {v:Value} {L:List G.E} (h:G.Owns w B 61 v L) (k:OthersKept 5 none w w'):G.Owns w' B 61 v L:=by
 refine ⟨h.1,?_⟩;rcases h.2 with h2 | ⟨g,cap,cur,a,b,c,d⟩
 ·exact .inl h2
 ·exact .inr ⟨g,cap,cur,a,b,k _ _ c (by simp) (by simp),d⟩
theorem saved_end {w0 w:World} {n j:Nat} {L:List G.E} {u:Value} (h:SvAt w0 w n L j u) (hl:L.length=j):(convert 88 9 u).run Tryz.prog w= .ok (.string ⟨(svI n L).toArray⟩) w:=by
 subst hl;have h1:=h.1;rw [List.take_length] at h1;exact str_of_row h1 rfl (by unfold svI;simp)
theorem saved_any (x p q n B:Nat) (v:Value) (L:List G.E) (w:World) (hx:Ix w x p q) (hg:G.GAt w B 168 61 p (n:Int) v L) (hok:Ok n L) (hv:Vars w):
 Calls Tryz.prog 16 #[.pointer (some ⟨x,0,none⟩)] w λ e w'=>e= .returned (.string ⟨(svI n L).toArray⟩)/\Below w.heap.size w w':=by
 have HG:Hid (G.GAt w B 168 61 p (n:Int) v L):=hg;have HOK:Hid (Ok n L):=hok;have HV:Hid (Vars w):=hv;have HX:Hid (Ix w x p q):=hx;have hc:=hx.c0;have HN:Hid _:=G.nodes_any (n:Int) B p v L w hg;clear hg hok hv hx;go_enter Tryz.func16,Tryz.ntmps16;go_wp2_with (go_at_call 52;refine Calls.mono HN.out ?_;rintro e w1 ⟨rfl,hw1⟩;subst w1);have hn0:(0:Int)<=(n:Int)/\(n:Int)<=40:=by have:=HOK.out.n40;omega
 have HC:Hid _:=line_any w.heap.size w.heap.size 1 1 0 (.slice none 0 0) [] [(n:Int)] (w.alloc (.cells #[.int .i64 (n:Int)] 3)) (World.ownsRow_nil _ _ _ _) (by simp) rfl (World.alloc_heap_new w _) (λ y hy=>by simp at hy;omega) (by omega) (by simp) ((HV.out.tb HV.out.big).on ((Below.refl _ w).alloc (Nat.le_refl _) _));refine Calls.mono HC.out ?_;rintro e w2 ⟨v2,rfl,hown2,hb2,_⟩;have HB2:Hid (Below w.heap.size w w2):=((Below.refl _ w).alloc (Nat.le_refl _) _).trans hb2;have H0:Hid (SvAt w w2 n L 0 v2):=⟨by simpa [svI] using hown2,HB2.out⟩;have hc2:=(HX.out.below HB2.out HX.out.lt).c0;have HE:Hid _:=G.edges_any (n:Int) B p v L w2 (HG.out.below HB2.out) HOK.out.len;clear hown2 hb2 HC HN hc;have hlen:L.length<=120:=HOK.out.len;generalize hll:L.length=len at hlen;have HLL:Hid (L.length=len):=hll;clear hll;go_wp2_with (go_at_call 48;refine Calls.mono HE.out ?_;rintro e w3 ⟨u3,rfl,hu3,hb3⟩;obtain ⟨a3,c3,hu3e⟩:=hu3.slice_len;rw [HLL.out] at hu3e;subst hu3e);have HB3:Hid (Below w.heap.size w w3):=HB2.out.trans (hb3.mono HB2.out.size);have HU:Hid (G.Owns w3 w2.heap.size 61 (.slice a3 len c3) L):=hu3;have H3:Hid (SvAt w w3 n L 0 v2):=⟨row_keep H0.out.1 hb3,HB3.out⟩;clear hb3 hc2 HE hu3;go_loopw [3,19] (λ s3 s19 wq=>∃j:Nat,j<=len/\s19= .int .i64 j/\SvAt w wq n L j s3/\G.Owns wq w2.heap.size 61 (.slice a3 len c3) L) (λ _ s19 _=>len-(RowKit.intOf s19).toNat)
 case atStart=>exact ⟨0,Nat.zero_le _,rfl,H3.out,HU.out⟩
 case round=>
  obtain ⟨j,hj,rfl,hat,how⟩:=hrel;have HA:Hid (SvAt w wr n L j u3):=hat;have HO:Hid (G.Owns wr w2.heap.size 61 (.slice a3 len c3) L):=how;clear hat how;by_cases hlt:j<len
  ·have hjn:j<L.length:=by have:=HLL.out;omega
   have hx:L[j]? =some L[j]:=List.getElem?_eq_getElem hjn;have HXE:Hid (L[j]? =some L[j]):=hx;have HXR:Hid _:=HOK.out.ed _ (List.mem_of_getElem? hx);have HM:Hid _:=List.mem_of_getElem? hx;obtain ⟨g3,rfl⟩:=owns_at HO.out (by omega)
   ·obtain ⟨hc0,hc1,hc2⟩:=ed_cells HO.out rfl hx
    generalize L[j]=ee at*;obtain ⟨e0,e1,e2⟩:=ee;dsimp only at hc0 hc1 hc2;clear hx hjn;go_wp2_with fail;refine Calls.mono (saved_line HA.out HOK.out HXE.out HV.out) ?_;rintro e w4 ⟨v4,rfl,hat4,hb4⟩;have HO4:Hid (G.Owns w4 w2.heap.size 61 (.slice (some ⟨g3,0,none⟩) len c3) L):=owns_others HO.out hb4;have HA4:Hid (SvAt w w4 n L (j+1) v4):=hat4;clear hat4 hb4 hc0 hc1 hc2;go_wp2_with fail;go_roundw;case rel=>exact ⟨j+1,by omega,by go_num,HA4.out,HO4.out⟩
    case measure=>simp [RowKit.intOf];omega
  ·obtain rfl:j=len:=by omega
   have hrow:=HA.out.1;have hcv:(convert 88 9 u3).run Tryz.prog wr= .ok (.string ⟨(svI n L).toArray⟩) wr:=saved_end HA.out HLL.out;go_wp2_with fail;go_ret;exact ⟨rfl,HA.out.2⟩
end Go.Proofs.YtebcjaenhiiflaaGreatDoor.I
