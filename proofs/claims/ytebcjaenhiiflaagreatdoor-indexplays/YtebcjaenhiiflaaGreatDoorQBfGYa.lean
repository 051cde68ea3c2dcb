import Derived.Laws.AppendOwn
import Derived.Laws.IdiomCopy
import Derived.Deep.DeepAppendWide
import Derived.Laws.CopyOwn
import Derived.Laws.CopyRow
import Derived.Lib.AppendZerosOnto
import Derived.Sort.AtCall
import Derived.Laws.Shifts
import Derived.Lib.Overlaps
import Derived.Lib.AppendZeros
import Derived.Deep.RegionLaw
import Derived.Laws.ResultCell
import Derived.Deep.RegionHeldLaw
import Derived.Test.YtebcjaenhiiflaaGreatDoorQSRBcd
set_option maxHeartbeats 4000000
set_option maxRecDepth 100000
namespace Go.Proofs.YtebcjaenhiiflaaGreatDoor.S
open Go.RowKit Go.WideMaps Go.Maps Go.Proofs.Tryz
variable {p pw bw pt bt m N n:Nat} {R B:List (Int × Int × Int)} {W T:List Nat} {D:DataW Unit}
structure Bk (bw bt m:Nat) (w w':World):Prop where
 os:w'.os=w.os
 tape:w'.tape=w.tape
 output:w'.output=w.output
 size:w.heap.size<=w'.heap.size
 block:∀k,k<w.heap.size->k≠bw->k≠bt->k≠m->w'.heap[k]? =w.heap[k]?
theorem Bk.refl (w:World):Bk bw bt m w w:=⟨rfl,rfl,rfl,Nat.le_refl _,λ _ _ _ _ _=>rfl⟩
theorem Bk.of_below {w w':World} (h:Below w.heap.size w w'):Bk bw bt m w w':=⟨h.os,h.tape,h.output,h.size,λ k hk _ _ _=>h.block k hk⟩
theorem Bk.yabb {w w':World} (h:But bw w w'):Bk bw bt m w w':=⟨h.os,h.tape,h.output,h.size,λ k hk h1 _ _=>h.block k hk h1⟩
theorem Bk.yacy {w w':World} (h:But bt w w'):Bk bw bt m w w':=⟨h.os,h.tape,h.output,h.size,λ k hk _ h1 _=>h.block k hk h1⟩
theorem Bk.z2t {w w':World} (h:w.grownBy w' (some m)):Bk bw bt m w w':=⟨h.os,h.tape,h.output,h.size,λ k hk _ _ h1=>h.block k hk (by simpa using h1)⟩
theorem Bk.trans {x y z:World} (h:Bk bw bt m x y) (k:Bk bw bt m y z):Bk bw bt m x z:=
 ⟨k.os.trans h.os,k.tape.trans h.tape,k.output.trans h.output,Nat.le_trans h.size k.size,λ i hi h1 h2 h3=>(k.block i (Nat.lt_of_lt_of_le hi h.size) h1 h2 h3).trans (h.block i hi h1 h2 h3)⟩
theorem Bk.cell {w w':World} (h:Bk bw bt m w w') {g i:Nat} {v:Value} (hg:w.cell? ⟨g,i,none⟩=some v) (h1:g≠bw) (h2:g≠bt) (h3:g≠m):w'.cell? ⟨g,i,none⟩=some v:=by
 have hl:=lt_of_cell hg;simp only [World.cell?] at hg ⊢;rw [h.block g hl h1 h2 h3];exact hg
theorem zf4:∀(a b:List (Int × Int × Int)) (L:List Nat),joins L (a++b)=joins (joins L a) b
 | [],_,_=>rfl
 | x::a,b,L=>by
   show joins (joinL L (ea x) (eb x)) (a++b)=_;rw [zf4 a b];rfl
theorem z5r (w:World):(zeroValue 180).run prog w= .ok (zoy 0 0) w:=by kernel_rfl
theorem zyt {w:World} (h:BAt w p pw bw pt bt m N W T D) (hd:Dis D B) {e:Int × Int × Int} (he:e∈B) (hw:(Lit.int .i64 e.1).wf=true) (hn:e.2.1=(ea e:Int)/\e.2.2=(eb e:Int)):
 (Instr.lookup 176 (.map (some m)) (.int .i64 e.1) false).run prog w= .ok (.agg #[.int .i64 (ea e:Int),.int .i64 (eb e:Int)]) w:=by
 obtain ⟨v,ps,hrun,hR⟩:=h.hm.lookup za6 underlying176 (z5r w) (zj7 0 0) (zdt e.1 hw);rw [hd.val e he] at hR;obtain ⟨c,rfl,hc⟩:=zoi hR;have h1:zdq e.2.1 e.2.2=zdq c.1 c.2:=by injection hc
 obtain ⟨h2,h3⟩:=zol h1;rw [hrun,<-h2,<-h3,hn.1,hn.2];rfl
theorem z3z (a b:Int) (w:World):(Instr.field 180 (.agg #[.int .i64 a,.int .i64 b]) 0).run prog w= .ok (.int .i64 a) w:=by kernel_rfl
theorem z1w (a b:Int) (w:World):(Instr.field 180 (.agg #[.int .i64 a,.int .i64 b]) 1).run prog w= .ok (.int .i64 b) w:=by kernel_rfl
theorem zyx {w:World} {base:Nat} {v:Value} {ds:List (Int × Int × Int)} (h:w.ownsRow base 3 1 v ds.length (zvd ds)):∃a cap,v= .slice a ds.length cap/\(0<ds.length->∃g,a=some ⟨g,0,none⟩/\base<=g/\g<w.heap.size/\∀j e,ds[j]? =some e->w.cell? ⟨g,j,none⟩=some (.int .i64 e.1)):=by
 have h0:=h;rcases h.2 with ⟨rfl,hz⟩ | ⟨g,cap,cur,rfl,hb,hg,_⟩
 ·exact ⟨none,0,by rw [hz],λ k=>by omega⟩
 ·refine ⟨_,cap,rfl,λ _=>⟨g,rfl,hb,lt_of_some hg,λ j e hj=>?_⟩⟩
  rw [h0.cellAt j (by have:=(List.getElem?_eq_some_iff.1 hj).1;omega)];simp [zvd,hj]
theorem zsl {B ds:List (Int × Int × Int)} {j:Nat} {e:Int × Int × Int} (hj:ds[j]? =some e) (d:Int × Int × Int):d∈B.filter (λ d=>decide (d∉ds.take (j+1)))↔d∈B.filter (λ d=>decide (d∉ds.take j))/\d≠e:=by
 have ht:ds.take (j+1)=ds.take j++[e]:=by rw [List.take_add_one,hj];rfl
 simp only [List.mem_filter,decide_eq_true_eq,ht,List.mem_append,List.mem_singleton,not_or];exact ⟨λ h=>⟨⟨h.1,h.2.1⟩,h.2.2⟩,λ h=>⟨h.1.1,h.1.2,h.2⟩⟩
theorem zvl {ds:List (Int × Int × Int)} (h:ds.Nodup) {j:Nat} {e:Int × Int × Int} (hj:ds[j]? =some e):e∉ds.take j:=by
 intro hm;obtain ⟨i,hi,he⟩:=List.mem_iff_getElem.1 hm;obtain ⟨hl,hje⟩:=List.getElem?_eq_some_iff.1 hj;have hi':i<j:=by simp at hi;omega
 rw [List.getElem_take] at he;exact (List.pairwise_iff_getElem.1 h i j (by omega) hl hi') (by rw [he,hje])
theorem zwe (x y:Nat) (w:World) (h:BAt w p pw bw pt bt m N W T D) (s:St n R W T B) (hd:Dis D B) (hB:B.length<=1000) (hn:n<=40) (hx:x<n) (hy:y<n) (hc:cnR R x y) (hid:∀e∈R,(Lit.int .i64 e.1).wf=true):
 Calls prog 118 #[.pointer (some ⟨p,0,none⟩),.int .i64 (x:Int),.int .i64 (y:Int)] w λ e w'=>e= .returned (.tuple #[])/\∃ds D',(∀e,e∈ds↔zhs R x y e)/\BAt w' p pw bw pt bt m N W (joins T ds) D'/\Dis D' (B.filter λ e=>decide (e∉ds))/\Bk bw bt m w w':=by
 have hplt:=h.plt;have hblt:bw<w.heap.size/\bt<w.heap.size/\m<w.heap.size:=⟨h.sw.blt,h.st.blt,h.hm.lt⟩;have HW:Hid (∀w',Below w.heap.size w w'->BAt w' p pw bw pt bt m N W T D):=λ w' hb=>h.below hb
 obtain ⟨X,hX⟩:∃X,T.getD x 0=X:=⟨_,rfl⟩;obtain ⟨Y,hY⟩:∃Y,T.getD y 0=Y:=⟨_,rfl⟩;have hXn:X<n:=by rw [<-hX];exact s.lab hx
 have hYn:Y<n:=by rw [<-hY];exact s.lab hy
 have HX:Hid (T.getD x 0=X/\T.getD X 0=X):=⟨hX,by rw [<-hX];exact s.gt.idem x hx⟩;have HY:Hid (T.getD y 0=Y/\T.getD Y 0=Y):=⟨hY,by rw [<-hY];exact s.gt.idem y hy⟩;have HC:Hid (cnR R X Y):=by
  show cnR R X Y;rw [<-hX,<-hY];exact zaa (zac (s.rep hx).1) (zaa hc (s.rep hy).1)
 have HS:=kd s;have HD:=kd hd;have HID:=kd hid;clear h s hd hX hY hc hid;go_enter func118,ntmps118;go_wp2_with fail;refine (zel x w (HW.out w (Below.refl _ _)) HS.out.gt hx HX.out.1).mono ?_;rintro e w1 ⟨rfl,b1⟩;have B1:=kd b1;clear b1;go_wp2_with fail;refine (zel y w1 (HW.out w1 B1.out) HS.out.gt hy HY.out.1).mono ?_;rintro e w2 ⟨rfl,b2⟩;have B2:Hid (Below w.heap.size w w2):=B1.out.trans (b2.mono B1.out.size);clear b2 B1;go_wp2_with fail;refine (z7r 1000 HS.out HD.out (Nat.le_refl _) X Y (-1) (·∈R) B w2 (HW.out w2 B2.out) (.inl ⟨rfl,rfl⟩) (λ d hd _ _=>(HS.out.hB d).2 hd) hB hXn HX.out.2 hYn HY.out.2).mono ?_;rintro e w3 ⟨b3,hpost⟩;rcases hpost with ⟨_,v,ds,rfl,hway,hlen,hrow⟩ | ⟨hno,_⟩
 case inr=>exact absurd HC.out hno
 obtain ⟨av,cap,rfl,hav⟩:=zyx hrow;have B3:Hid (Below w.heap.size w w3):=B2.out.trans (b3.mono B2.out.size);have hw2:=B2.out.size;have HAV:Hid (0<ds.length->∃g,av=some ⟨g,0,none⟩/\w.heap.size<=g/\g<w3.heap.size/\∀j e,ds[j]? =some e->w3.cell? ⟨g,j,none⟩=some (.int .i64 e.1)):=λ hl=>by
  obtain ⟨g,h1,h2,h3,h4⟩:=hav hl;exact ⟨g,h1,by omega,h3,h4⟩
 have HWY:Hid (ds.Nodup/\∀e,e∈ds↔zhs R x y e):=⟨hway.1,Way.ends HS.out hx hy (by rw [HX.out.1,HY.out.1];exact hway)⟩;have HWB:Hid (∀e∈ds,e∈B):=Way.yabj HS.out HC.out hway;obtain ⟨len,hlen'⟩:∃len,ds.length=len:=⟨_,rfl⟩;have HLEN:=kd hlen';rw [hlen'] at hlen ⊢;clear hav hrow hway b3 B2 hw2 hlen';go_wp2_with fail;go_loopw [9,23] (λ _ s23 wq=>∃j:Nat,j<=len/\s23= .int .i64 j/\∃Dj,BAt wq p pw bw pt bt m N W (joins T (ds.take j)) Dj/\Dis Dj (B.filter λ e=>decide (e∉ds.take j))/\Bk bw bt m w3 wq) (λ _ s23 _=>len-(intOf s23).toNat)
 case atStart=>
  refine ⟨0,Nat.zero_le _,rfl,D,by simpa [joins] using HW.out w3 B3.out,?_,Bk.refl _⟩;have:(B.filter λ e=>decide (e∉ds.take 0))=B:=by simp
  rw [this];exact HD.out
 case round=>
  obtain ⟨j,hj,rfl,Dj,hbj,hdj,hkj⟩:=hrel;by_cases hlt:j<len
  ·obtain ⟨e,he⟩:∃e,ds[j]? =some e:=⟨_,List.getElem?_eq_getElem (by rw [HLEN.out];exact hlt)⟩
   obtain ⟨g,rfl,hg1,hg2,hg3⟩:=HAV.out (by rw [HLEN.out];omega);have hcell:wr.cell? ⟨g,j,none⟩=some (.int .i64 e.1):=hkj.cell (hg3 j e he) (by omega) (by omega) (by omega);have heB:=HWB.out e (List.mem_of_getElem? he);have heR:=((HS.out.hB e).1 heB).1;have hinn:=HS.out.inn e heR;have heF:e∈B.filter λ e=>decide (e∉ds.take j):=List.mem_filter.2 ⟨heB,by simpa using zvl HWY.out.1 he⟩
   have hgood:Good n (joins T (ds.take j)):=zce _ T HS.out.gt (λ d hd=>HS.out.inn d ((HS.out.hB d).1 (HWB.out d (List.mem_of_mem_take hd))).1);have HJ:Hid (joins T (ds.take (j+1))=joinL (joins T (ds.take j)) (ea e) (eb e)):=by
    show joins T (ds.take (j+1))=_;rw [List.take_add_one,he];exact zf4 _ _ _
   have HDD:Hid (Dis (Dj.del (.int .i64 e.1)) (B.filter λ e=>decide (e∉ds.take (j+1)))):=
    hdj.del e (λ d hd hde=>HS.out.one d ((HS.out.hB d).1 (List.mem_filter.1 hd).1).1 e heR hde) (zsl he)
   obtain ⟨J,hJ⟩:∃J,J=joins T (ds.take j):=⟨_,rfl⟩;rw [<-hJ] at hbj hgood;have HJ':Hid (joins T (ds.take (j+1))=joinL J (ea e) (eb e)):=by
    show joins T (ds.take (j+1))=joinL J (ea e) (eb e);rw [hJ];exact HJ.out
   have HLK:Hid (∀{W' T':List Nat} {w':World},BAt w' p pw bw pt bt m N W' T' Dj->(Instr.lookup 176 (.map (some m)) (.int .i64 e.1) false).run prog w'= .ok (.agg #[.int .i64 (ea e:Int),.int .i64 (eb e:Int)]) w'):=λ hb=>zyt hb hdj heF (HID.out e heR) (HS.out.nat e heR)
   have hkey:=zdt e.1 (HID.out e heR);have HKEY:=kd hkey;have HBJ:=kd hbj;have HKJ:=kd hkj;have hlk:=HLK.out hbj.drew;have hc1:wr.drew.cell? ⟨p,1,none⟩=some (.pointer (some ⟨pt,0,none⟩)):=hbj.drew.c1;have hc2:wr.drew.cell? ⟨p,2,none⟩=some (.map (some m)):=hbj.drew.c2;have hA:ea e<J.length:=by rw [hgood.len];exact hinn.1
   have hBn:eb e<J.length:=by rw [hgood.len];exact hinn.2
   have hJl:J.length<=40:=by rw [hgood.len];exact hn
   clear hJ HJ hg3 heB heR hinn heF hgood hbj hdj hkj hkey;generalize e.1=x0 at*;generalize ea e=A at*;generalize eb e=E at*;generalize hok:decide (J.getD A 0≠J.getD E 0)=ok;have HOK:=kd hok;clear hok he;have hfa:=z3z (A:Int) (E:Int);have hfb:=z1w (A:Int) (E:Int);go_upto_region 4 with fail
   go_region_held (λ w'=>w'.cell? ⟨p,1,none⟩=some (.pointer (some ⟨pt,0,none⟩))/\w'.cell? ⟨p,2,none⟩=some (.map (some m))/\(Instr.lookup 176 (.map (some m)) (.int .i64 x0) false).run prog w'= .ok (.agg #[.int .i64 (A:Int),.int .i64 (E:Int)]) w') (exact ⟨by assumption,by assumption,by assumption⟩)
    (first | (go_at_call 119;refine (zms A E pt bt J ok _ (by exact HBJ.out.drew.st) hA hBn hJl HOK.out).mono ?_;rintro e w4 ⟨rfl,hsj,hbt⟩;have hb4:=HBJ.out.drew.yabw hsj hbt;have d1:=hb4.c1;have d2:=hb4.c2;have d3:=HLK.out hb4))
   all_goals
    have hown:=hb4.hm;have HB4:=kd hb4;have HBT:Hid (Bk bw bt m wr w4):=(Bk.of_below ((Below.refl _ _).drew)).trans (Bk.yacy hbt);clear hb4 hbt hsj d3 hlk hfa hfb hc1 hc2 d1;go_wp2_with (first
     | (at_delete;refine wpList_delete_own _ rfl _ _ 176 3 rfl 180 za6 underlying176 _ m N Dj rfl hown _ _ rfl HKEY.out ?_;intro w5 hown5 hturn5;go_frame)
     | fail)
    have hgm:=hturn5.grown;have hb5:=HB4.out.mapped hown5 hgm;rw [<-HJ'.out] at hb5;go_roundw;case rel=>exact ⟨j+1,by omega,by go_num,_,hb5,HDD.out,(HKJ.out.trans HBT.out).trans (Bk.z2t hgm)⟩
    case measure=>simp [intOf];omega
  ·have hje:j=len:=by omega
   subst hje;have HF:Hid (BAt wr p pw bw pt bt m N W (joins T ds) Dj/\Dis Dj (B.filter λ e=>decide (e∉ds))/\Bk bw bt m w wr):=by
    have ht:ds.take j=ds:=by rw [<-HLEN.out];exact List.take_length
    rw [ht] at hbj hdj;exact ⟨hbj,hdj,(Bk.of_below B3.out).trans hkj⟩
   clear hbj hdj hkj;go_wp2_with fail
   go_end0
   exact ⟨rfl,ds,Dj,HWY.out.2,HF.out.1,HF.out.2.1,HF.out.2.2⟩
end Go.Proofs.YtebcjaenhiiflaaGreatDoor.S
namespace Go.Proofs.YtebcjaenhiiflaaGreatDoor.S
open Go.RowKit Go.WideMaps Go.Maps Go.Proofs.Tryz
variable {p pw bw pt bt m N n:Nat} {R B:List (Int × Int × Int)} {W T:List Nat} {D:DataW Unit}
theorem zws (L:List Nat) (x y:Nat):joinL L x y=joinL L y x:=by
 unfold joinL;rw [Nat.min_comm,Nat.max_comm]
def edge (i:Int) (x y:Nat):Int × Int × Int:=(i,((min x y:Nat):Int),((max x y:Nat):Int))
theorem zqg (i:Int) (x y:Nat):(edge i x y).2.1=(ea (edge i x y):Int)/\(edge i x y).2.2=(eb (edge i x y):Int):=by simp [edge,ea,eb]
theorem zi3 (i:Int) (x y:Nat):ea (edge i x y)=min x y/\eb (edge i x y)=max x y:=by
 unfold edge ea eb;exact ⟨by simp,by simp⟩
theorem zjv (i:Int) (x y:Nat):(ea (edge i x y)=x/\eb (edge i x y)=y)\/(ea (edge i x y)=y/\eb (edge i x y)=x):=by
 obtain ⟨h1,h2⟩:=zi3 i x y;rw [h1,h2];omega
theorem z06 {R:List (Int × Int × Int)} {x y:Nat} (e:Int × Int × Int):zhs R x y e↔zhs R y x e:=
 ⟨λ h=>⟨h.1,λ k=>h.2 (zac k)⟩,λ h=>⟨h.1,λ k=>h.2 (zac k)⟩⟩
structure Now (w:World) (p pw bw pt bt m N n:Nat) (R B:List (Int × Int × Int)) (W T:List Nat) (D:DataW Unit):Prop where
 at_:BAt w p pw bw pt bt m N W T D
 st:St n R W T B
 dis:Dis D B
theorem Now.below {w w':World} (h:Now w p pw bw pt bt m N n R B W T D) (hb:Below w.heap.size w w'):Now w' p pw bw pt bt m N n R B W T D:=⟨h.at_.below hb,h.st,h.dis⟩
def zmd (w:World) (p pw bw pt bt m N n:Nat) (R B:List (Int × Int × Int)) (i:Int) (x y:Nat) (e:Ending) (w':World):Prop:=
 ∃ok W' T' D' B' N',e= .returned (.tuple #[.bool ok,.nilIface])/\Now w' p pw bw pt bt m N' n (R++[edge i x y]) B' W' T' D'/\B'.length<=B.length+1/\N'<=N+1/\Bk bw bt m w w'/\(ok=true↔edge i x y∈B')
theorem zxd {w w':World} {D':DataW Unit} {N':Nat} (h:Now w p pw bw pt bt m N n R B W T D) (i:Int) {x y:Nat} (hx:x<n) (hy:y<n) (hone:∀e∈R,e.1≠i) (hne:W.getD x 0≠W.getD y 0)
 (hb:BAt w' p pw bw pt bt m N' (joinL W x y) T D') (hD:D'=D.put (.int .i64 i) (zdq ((min x y:Nat):Int) ((max x y:Nat):Int))):
 Now w' p pw bw pt bt m N' n (R++[edge i x y]) (B++[edge i x y]) (joinL W x y) T D':=by
 obtain ⟨h1,h2⟩:=zi3 i x y;have hmn:min x y<n:=by omega
 have hmx:max x y<n:=by omega
 have hj:joinL W (ea (edge i x y)) (eb (edge i x y))=joinL W x y:=by
  rcases zjv i x y with ⟨a,b⟩ | ⟨a,b⟩ <;> rw [a,b]
  exact zws _ _ _
 have hs:=h.st.apart (edge i x y) (by rw [h1];exact hmn) (by rw [h2];exact hmx) (zqg i x y) hone (by
  rcases zjv i x y with ⟨a,b⟩ | ⟨a,b⟩ <;> rw [a,b]
  ·exact hne
  ·exact hne.symm)
 rw [hj] at hs;refine ⟨hb,hs,?_⟩;rw [hD];exact h.dis.put h.at_.hm.isMap (edge i x y) (λ e he=>hone e ((h.st.hB e).1 he).1)
theorem zwa {w w':World} {D':DataW Unit} {ds:List (Int × Int × Int)} (h:Now w p pw bw pt bt m N n R B W T D) (i:Int) {x y:Nat} (hx:x<n) (hy:y<n) (hone:∀e∈R,e.1≠i) (he:W.getD x 0=W.getD y 0)
 (hds:∀e,e∈ds↔zhs R x y e) (hb:BAt w' p pw bw pt bt m N W (joins T ds) D') (hd:Dis D' (B.filter λ e=>decide (e∉ds))):
 Now w' p pw bw pt bt m N n (R++[edge i x y]) (B.filter λ e=>decide (e∉ds)) W (joins T ds) D':=by
 obtain ⟨h1,h2⟩:=zi3 i x y;refine ⟨hb,h.st.within (edge i x y) (by rw [h1];omega) (by rw [h2];omega) (zqg i x y) hone ?_ ?_ (λ e=>by simp [List.mem_filter]),hd⟩
 ·rcases zjv i x y with ⟨a,b⟩ | ⟨a,b⟩ <;> rw [a,b]
  ·exact he
  ·exact he.symm
 ·intro e
  rw [hds];rcases zjv i x y with ⟨a,b⟩ | ⟨a,b⟩ <;> rw [a,b]
  exact z06 e
theorem zvc (i:Int) (x y:Nat) (w:World) (h:Now w p pw bw pt bt m N n R B W T D) (hx:x<n) (hy:y<n) (hn:n<=40) (hN:N<=1000) (hne:W.getD x 0≠W.getD y 0) (hone:∀e∈R,e.1≠i) (hwf:(Lit.int .i64 i).wf=true):
 Calls prog 57 #[.pointer (some ⟨p,0,none⟩),.int .i64 i,.int .i64 (x:Int),.int .i64 (y:Int)] w (zmd w p pw bw pt bt m N n R B i x y):=by
 have hxy:((x:Int)==(y:Int))=false:=beq_eq_false_iff_ne.2 (λ e=>hne (by rw [Int.ofNat_inj.1 e]));have hWl:=h.st.gw.len;have HH:=kd h;have HNE:=kd hne;have HONE:=kd hone;have HKEY:Hid (keyOf prog 3 (.int .i64 i)=some (.int .i64 i)):=zdt i hwf;have hlt:=h.at_.plt;clear h hne hone;go_enter func57,ntmps57;go_wp2_with fail;refine (zko x y false w HH.out.at_ (by omega) (by omega) (beq_eq_false_iff_ne.2 (λ e=>HNE.out (Int.ofNat_inj.1 e)))).mono ?_;rintro e w1 ⟨rfl,b1⟩;have hb1:=HH.out.at_.below b1;have HB1:=kd hb1;have B1:=kd b1;have hc0:=hb1.c0;clear b1 hb1;go_wp2_with fail;refine (zms x y pw bw W true w1 HB1.out.sw (by omega) (by omega) (by omega) (decide_eq_true HNE.out)).mono ?_;rintro e w2 ⟨rfl,hs2,k2⟩;have hb2:=HB1.out.yabd hs2 k2;have HB2:=kd hb2;have K2:Hid (Bk bw bt m w w2):=(Bk.of_below B1.out).trans (Bk.yabb k2);have hown:=hb2.hm;have hc2:=hb2.c2;clear hb2 hs2 k2 hc0;go_wp2_with (first
  | (at_mapUpdate;refine wpList_mapUpdate_own _ rfl _ _ _ 176 rfl 3 180 za6 underlying176 zd1 m N D rfl hown (by unfold maxLen;omega) _ _ _ rfl rfl HKEY.out _ [] (zj7 _ _) ?_;intro w5 hown5 hgrow5)
  | fail)
 go_ret2;refine ⟨true,_,_,_,_,_,rfl,zxd HH.out i hx hy HONE.out HNE.out (HB2.out.mapped hown5 hgrow5) ?_,by simp,Nat.le_refl _,K2.out.trans (Bk.z2t hgrow5),by simp⟩;have e1:((min x y:Nat):Int)=min (x:Int) (y:Int):=by omega
 have e2:((max x y:Nat):Int)=max (x:Int) (y:Int):=by omega
 rw [e1,e2]
theorem zr5 (i:Int) (x y:Nat) (w:World) (h:Now w p pw bw pt bt m N n R B W T D) (hx:x<n) (hy:y<n) (hxy:x≠y) (hn:n<=40) (hB:B.length<=1000) (he:W.getD x 0=W.getD y 0) (hone:∀e∈R,e.1≠i) (hid:∀e∈R,(Lit.int .i64 e.1).wf=true):
 Calls prog 57 #[.pointer (some ⟨p,0,none⟩),.int .i64 i,.int .i64 (x:Int),.int .i64 (y:Int)] w (zmd w p pw bw pt bt m N n R B i x y):=by
 have hxy':((x:Int)==(y:Int))=false:=beq_eq_false_iff_ne.2 (λ e=>hxy (Int.ofNat_inj.1 e));have hWl:=h.st.gw.len;have HH:=kd h;have HE:=kd he;have HONE:=kd hone;have HID:=kd hid;clear h he hone hid;go_enter func57,ntmps57;go_wp2_with fail;refine (zko x y true w HH.out.at_ (by omega) (by omega) (by rw [HE.out];simp)).mono ?_;rintro e w1 ⟨rfl,b1⟩;have HB1:Hid (BAt w1 p pw bw pt bt m N W T D):=HH.out.at_.below b1;have B1:=kd b1;clear b1;go_wp2_with fail;refine (zwe x y w1 HB1.out HH.out.st HH.out.dis hB hn hx hy ((HH.out.st.hW x y).1 ((Lk.iff hx hy).2 HE.out)) HID.out).mono ?_;rintro e w2 ⟨rfl,ds,D',hds,hb2,hd2,k2⟩;have HX:Hid (Now w2 p pw bw pt bt m N n (R++[edge i x y]) (B.filter λ e=>decide (e∉ds)) W (joins T ds) D'/\Bk bw bt m w w2):=⟨zwa HH.out i hx hy HONE.out HE.out hds hb2 hd2,(Bk.of_below B1.out).trans k2⟩;clear hds hb2 hd2 k2;go_wp2;go_ret2;refine ⟨false,_,_,_,_,_,rfl,HX.out.1,?_,Nat.le_succ _,HX.out.2,?_⟩
 ·have:=List.length_filter_le (λ e=>decide (e∉ds)) B
  omega
 ·refine ⟨λ k=>absurd k (by simp),λ k=>?_⟩
  have h1:=(HH.out.st.hB _).1 (List.mem_filter.1 k).1;exact absurd rfl (HONE.out _ h1.1)
theorem z9a (i:Int) (x y:Nat) (w:World) (h:Now w p pw bw pt bt m N n R B W T D) (hx:x<n) (hy:y<n) (hxy:x≠y) (hn:n<=40) (hN:N<=1000) (hB:B.length<=1000) (hone:∀e∈R,e.1≠i) (hwf:(Lit.int .i64 i).wf=true) (hid:∀e∈R,(Lit.int .i64 e.1).wf=true):
 Calls prog 57 #[.pointer (some ⟨p,0,none⟩),.int .i64 i,.int .i64 (x:Int),.int .i64 (y:Int)] w (zmd w p pw bw pt bt m N n R B i x y):=by
 by_cases he:W.getD x 0=W.getD y 0
 ·exact zr5 i x y w h hx hy hxy hn hB he hone hid
 ·exact zvc i x y w h hx hy hn hN he hone hwf
end Go.Proofs.YtebcjaenhiiflaaGreatDoor.S
namespace Go.Proofs.YtebcjaenhiiflaaGreatDoor.G
abbrev E:=Int × Int × Int
def Up (L:List E):Prop:=L.Pairwise λ x y=>x.1<y.1
def place:List E->Int->Nat
 | [],_=>0
 | x::L,id=>if x.1<id then place L id+1 else 0
def zca (L:List E) (e:E):List E:=L.take (place L e.1)++e::L.drop (place L e.1)
theorem zeg (L:List E) (e:E):(zca L e).Perm (e::L):=by
 unfold zca;refine List.perm_middle.trans ?_;rw [List.take_append_drop]
theorem zqv (x:E) (L:List E) (e:E) (h:x.1<e.1):zca (x::L) e=x::zca L e:=by
 simp [zca,place,h]
theorem zre (x:E) (L:List E) (e:E) (h:¬x.1<e.1):zca (x::L) e=e::x::L:=by
 simp [zca,place,h]
theorem zse (L:List E) (e:E):(zca L e).length=L.length+1:=by
 rw [(zeg L e).length_eq];rfl
theorem zuk:∀(L:List E) (e:E),Up L->(∀x∈L,x.1≠e.1)->Up (zca L e)
 | [],e,_,_=>by simp [zca,place,Up]
 | x::L,e,hu,hn=>by
   by_cases h:x.1<e.1
   ·rw [zqv x L e h]
    have ih:=zuk L e (List.Pairwise.of_cons hu) (λ y hy=>hn y (List.mem_cons_of_mem _ hy));refine List.pairwise_cons.2 ⟨λ y hy=>?_,ih⟩;rcases List.mem_cons.1 ((zeg L e).mem_iff.1 hy) with rfl | hy
    ·exact h
    ·exact List.rel_of_pairwise_cons hu hy
   ·rw [zre x L e h]
    have hxe:=hn x List.mem_cons_self;refine List.pairwise_cons.2 ⟨λ y hy=>?_,hu⟩;rcases List.mem_cons.1 hy with rfl | hy
    ·show e.1<y.1;omega
    ·have:=List.rel_of_pairwise_cons hu hy
     have h':x.1<y.1:=this;show e.1<y.1;omega
theorem z4x {L:List E} (hu:Up L):∀{x y:E},x∈L->y∈L->x.1=y.1->x=y:=by
 induction L with
 | nil=>intro x y hx;simp at hx
 | cons z L ih=>
   intro x y hx hy h;rcases List.mem_cons.1 hx with rfl | hx'
   ·rcases List.mem_cons.1 hy with rfl | hy'
    ·rfl
    ·have h1:x.1<y.1:=List.rel_of_pairwise_cons hu hy'
     omega
   ·rcases List.mem_cons.1 hy with rfl | hy'
    ·have h1:y.1<x.1:=List.rel_of_pairwise_cons hu hx'
     omega
    ·exact ih (List.Pairwise.of_cons hu) hx' hy' h
theorem znp:∀{L D:List E},Up L->D.Perm L->D.Pairwise (λ x y=>¬y.1<x.1)->D=L
 | [],D,_,hp,_=>hp.eq_nil
 | x::L,[],_,hp,_=>by simpa using hp.length_eq
 | x::L,y::D,hu,hp,hs=>by
   have hy:y∈x::L:=hp.mem_iff.1 List.mem_cons_self;have hx:x∈y::D:=hp.mem_iff.2 List.mem_cons_self;have hxy:x=y:=by
    refine z4x hu List.mem_cons_self hy ?_;rcases List.mem_cons.1 hy with h | hy'
    ·rw [h]
    ·have h1:x.1<y.1:=List.rel_of_pairwise_cons hu hy'
     rcases List.mem_cons.1 hx with h | hx'
     ·rw [h]
     ·have h2:=List.rel_of_pairwise_cons hs hx'
      omega
   subst hxy;rw [znp (List.Pairwise.of_cons hu) (List.Perm.cons_inv hp) (List.Pairwise.of_cons hs)]
theorem z2f {R L:List E} (hu:Up L) (hp:R.Perm L) {i k:Nat} {x y:E} (hi:R[i]? =some x) (hk:L[k]? =some y) (h:x.1=y.1):(R.take i++R.drop (i+1)).Perm (L.take k++L.drop (k+1)):=by
 have hx:x∈L:=hp.mem_iff.1 (List.mem_of_getElem? hi);have hxy:x=y:=z4x hu hx (List.mem_of_getElem? hk) h;subst hxy;have cut:∀(M:List E) (j:Nat),M[j]? =some x->M.Perm (x::(M.take j++M.drop (j+1))):=by
  intro M j hj;obtain ⟨hlt,he⟩:=List.getElem?_eq_some_iff.1 hj;have e:M=M.take j++x::M.drop (j+1):=by
   rw [<-he,<-List.drop_eq_getElem_cons hlt,List.take_append_drop]
  exact (List.Perm.of_eq e).trans List.perm_middle
 exact List.Perm.cons_inv (((cut R i hi).symm.trans hp).trans (cut L k hk))
theorem yaaj {L:List E} (hu:Up L) (k:Nat):Up (L.take k++L.drop (k+1)):=by
 rw [<-List.eraseIdx_eq_take_drop_succ];exact List.Pairwise.sublist (List.eraseIdx_sublist L k) hu
theorem zfw {L:List E} {k:Nat} (h:k<L.length):(L.take k++L.drop (k+1)).length=L.length-1:=by
 simp;omega
theorem zyo {L:List E} (hu:Up L) (p:E->Bool):Up (L.filter p):=List.Pairwise.sublist List.filter_sublist hu
structure Inv (R L:List E):Prop where
 up:Up L
 perm:R.Perm L
 len:L.length<=120
theorem Inv.zpf {R L:List E} (h:Inv R L):R.length=L.length:=h.perm.length_eq
theorem Inv.out {R L:List E} (h:Inv R L) {i k:Nat} {x y:E} (hi:R[i]? =some x) (hk:L[k]? =some y) (e:x.1=y.1):Inv (R.take i++R.drop (i+1)) (L.take k++L.drop (k+1)):=
 ⟨yaaj h.up k,z2f h.up h.perm hi hk e,by
   have hlt:k<L.length:=(List.getElem?_eq_some_iff.1 hk).1;rw [zfw hlt];have:=h.len;omega⟩
theorem Inv.filter {R L:List E} (h:Inv R L) (p:E->Bool):Inv (R.filter p) (L.filter p):=
 ⟨zyo h.up p,h.perm.filter p,Nat.le_trans (List.length_filter_le p L) h.len⟩
open Go.RowKit Go.Proofs.Tryz
def zaq (x:E):List Value:=[.int .i64 x.1,.int .i64 x.2.1,.int .i64 x.2.2]
def zaf (L:List E):List Value:=L.flatMap zaq
theorem zbu (x:E) (L:List E):zaf (x::L)=zaq x++zaf L:=rfl
theorem zc8 (L M:List E):zaf (L++M)=zaf L++zaf M:=by simp [zaf]
theorem zah:∀L:List E,(zaf L).length=L.length*3
 | []=>rfl
 | x::L=>by rw [zbu,List.length_append,zah L];simp [zaq];omega
theorem zcj:∀(L:List E),∀u∈zaf L,u.oneCell'=true
 | [],u,h=>by simp [zaf] at h
 | x::L,u,h=>by
   rw [zbu] at h;rcases List.mem_append.1 h with h | h
   ·simp [zaq] at h
    rcases h with rfl | rfl | rfl <;> rfl
   ·exact zcj L u h
theorem znn (L:List E) (k:Nat):(zaf L).drop (k*3)=zaf (L.drop k):=by
 induction L generalizing k with
 | nil=>simp [zaf]
 | cons x L ih=>
   rcases k with _ | k
   ·simp
   ·rw [zbu,List.drop_succ_cons,<-ih]
    rw [show (k+1)*3=(zaq x).length+k*3 by simp [zaq];omega,List.drop_length_add_append]
theorem zjn (L:List E) (i:Nat) (x:E) (h:L[i]? =some x):(zaf L)[i*3]? =some (.int .i64 x.1)/\(zaf L)[i*3+1]? =some (.int .i64 x.2.1)/\(zaf L)[i*3+2]? =some (.int .i64 x.2.2):=by
 have hd:=znn L i;obtain ⟨hlt,he⟩:=List.getElem?_eq_some_iff.1 h;rw [List.drop_eq_getElem_cons hlt,zbu,he] at hd;have h0:∀j,(zaf L)[i*3+j]? =(zaq x++zaf (L.drop (i+1)))[j]? :=by
  intro j;rw [<-hd,List.getElem?_drop]
 exact ⟨by have:=h0 0;simpa [zaq] using this,by have:=h0 1;simpa [zaq] using this,by have:=h0 2;simpa [zaq] using this⟩
theorem lt_of_some {w:World} {k:Nat} {o:Obj} (h:w.heap[k]? =some o):k<w.heap.size:=by
 rcases Nat.lt_or_ge k w.heap.size with h' | h'
 ·exact h'
 ·simp [Array.getElem?_eq_none h'] at h
theorem lt_of_cell {w:World} {b o:Nat} {v:Value} (h:w.cell? ⟨b,o,none⟩=some v):b<w.heap.size:=by
 rcases Nat.lt_or_ge b w.heap.size with h' | h'
 ·exact h'
 ·simp [World.cell?,Array.getElem?_eq_none h'] at h
abbrev zad (w:World) (B eT:Nat) (v:Value) (L:List E):Prop:=w.ownsRow B eT 3 v L.length (zaf L)
theorem zad.shape {w:World} {B eT:Nat} {v:Value} {L:List E} (h:zad w B eT v L):(v= .slice none 0 0/\L=[])\/∃g cap,v= .slice (some ⟨g,0,none⟩) L.length cap/\B<=g/\g<w.heap.size/\L.length<=cap/\cap<=maxLen:=by
 rcases h.2 with ⟨h1,h2⟩ | ⟨g,cap,cur,h1,h2,h3,h4,h5,_,_⟩
 ·exact Or.inl ⟨h1,List.eq_nil_of_length_eq_zero h2⟩
 ·exact Or.inr ⟨g,cap,h1,h2,lt_of_some h3,h4,h5⟩
theorem zad.at {w:World} {B eT g:Nat} {v:Value} {L:List E} (h:zad w B eT v L) (hg:v.ownBlock=some g) {i:Nat} {x:E} (hx:L[i]? =some x):
 w.cell? ⟨g,i*3,none⟩=some (.int .i64 x.1)/\w.cell? ⟨g,i*3+1,none⟩=some (.int .i64 x.2.1)/\w.cell? ⟨g,i*3+2,none⟩=some (.int .i64 x.2.2):=by
 have hc:=World.ownsRow.cells h hg;obtain ⟨a,b,c⟩:=zjn L i x hx;have hadd:∀j,(⟨g,0,none⟩:Addr).add j=⟨g,j,none⟩:=λ j=>by unfold Addr.add;split <;> simp_all
 exact ⟨by rw [<-hadd];exact hc _ _ a,by rw [<-hadd];exact hc _ _ b,by rw [<-hadd];exact hc _ _ c⟩
theorem zf8 {w w':World} {B:Nat} (h:Below B w w') (hB:w.heap.size<=B) (o:Option Nat):w.grownBy w' o:=⟨h.os,h.tape,h.output,h.size,λ k hk _=>h.block k (by omega)⟩
theorem zad.below {w w':World} {B eT:Nat} {v:Value} {L:List E} (h:zad w B eT v L) (hb:Below w.heap.size w w'):zad w' B eT v L:=
 World.ownsRow.kept h (zf8 hb (Nat.le_refl _) none) (by cases hv:v.ownBlock <;> simp)
theorem zad.mono {w:World} {B B' eT:Nat} {v:Value} {L:List E} (h:zad w B eT v L) (hB:B'<=B):zad w B' eT v L:=by
 refine ⟨h.1,?_⟩;rcases h.2 with h' | ⟨g,cap,cur,h1,h2,h3⟩
 ·exact Or.inl h'
 ·exact Or.inr ⟨g,cap,cur,h1,Nat.le_trans hB h2,h3⟩
structure Kept (p:Nat) (o:Option Nat) (w w':World):Prop where
 os:w'.os=w.os
 tape:w'.tape=w.tape
 output:w'.output=w.output
 size:w.heap.size<=w'.heap.size
 block:∀k,k<w.heap.size->k≠p->some k≠o->w'.heap[k]? =w.heap[k]?
theorem Kept.of_below {p:Nat} {o:Option Nat} {w w':World} (h:Below w.heap.size w w'):Kept p o w w':=⟨h.os,h.tape,h.output,h.size,λ k hk _ _=>h.block k hk⟩
theorem Kept.trans {p:Nat} {o:Option Nat} {x y z:World} (h:Kept p o x y) (k:Kept p o y z):Kept p o x z:=
 ⟨k.os.trans h.os,k.tape.trans h.tape,k.output.trans h.output,Nat.le_trans h.size k.size,λ i hi h1 h2=>(k.block i (Nat.lt_of_lt_of_le hi h.size) h1 h2).trans (h.block i hi h1 h2)⟩
theorem Kept.setCell {p:Nat} {o:Option Nat} {w w':World} (h:Kept p o w w') (k:Nat) (v:Value):Kept p o w (w'.setCell ⟨p,k,none⟩ v):=
 h.trans ⟨rfl,rfl,rfl,by simp,λ i _ hn _=>Below.heap_setCell _ _ _ _ hn⟩
structure GAt (w:World) (B gT eT p:Nat) (n:Int) (v:Value) (L:List E):Prop where
 hp:w.heap[p]? =some (.cells #[.int .i64 n,v] gT)
 row:zad w B eT v L
 ne:v.ownBlock≠some p
theorem GAt.plt {w:World} {B gT eT p:Nat} {n:Int} {v:Value} {L:List E} (h:GAt w B gT eT p n v L):p<w.heap.size:=lt_of_some h.hp
theorem GAt.c0 {w:World} {B gT eT p:Nat} {n:Int} {v:Value} {L:List E} (h:GAt w B gT eT p n v L):w.cell? ⟨p,0,none⟩=some (.int .i64 n):=by simp [World.cell?,h.hp]
theorem GAt.c1 {w:World} {B gT eT p:Nat} {n:Int} {v:Value} {L:List E} (h:GAt w B gT eT p n v L):w.cell? ⟨p,1,none⟩=some v:=by simp [World.cell?,h.hp]
theorem GAt.f1 {w:World} {B gT eT p:Nat} {n:Int} {v:Value} {L:List E} (h:GAt w B gT eT p n v L) (i:Nat):w.frozen? ⟨p,i,none⟩=false:=by simp [World.frozen?,h.hp]
theorem GAt.below {w w':World} {B gT eT p:Nat} {n:Int} {v:Value} {L:List E} (h:GAt w B gT eT p n v L) (hb:Below w.heap.size w w'):GAt w' B gT eT p n v L:=
 ⟨by rw [hb.block p h.plt];exact h.hp,h.row.below hb,h.ne⟩
theorem GAt.lt {w:World} {B gT eT p k:Nat} {n:Int} {v:Value} {L:List E} (h:GAt w B gT eT p n v L) (hk:v.ownBlock=some k):B<=k/\k<w.heap.size:=World.ownsRow.lt h.row k hk
theorem GAt.kept {w w':World} {B gT eT p p':Nat} {n:Int} {v:Value} {L:List E} {o:Option Nat} (h:GAt w B gT eT p n v L) (k:Kept p' o w w') (hp:p≠p') (hpo:some p≠o) (hv1:v.ownBlock≠some p') (hv2:v.ownBlock=none\/v.ownBlock≠o):GAt w' B gT eT p n v L:=by
 refine ⟨by rw [k.block p h.plt hp hpo];exact h.hp,⟨h.row.1,?_⟩,h.ne⟩;rcases h.row.2 with hn | ⟨g,cap,cur,rfl,hb,hgg,rest⟩
 ·exact .inl hn
 ·refine .inr ⟨g,cap,cur,rfl,hb,?_,rest⟩
  rw [k.block g (lt_of_some hgg) (λ e=>hv1 (by simp [Value.ownBlock,e])) (by simpa [Value.ownBlock] using hv2)];exact hgg
theorem GAt.store {w w':World} {B gT eT p:Nat} {n:Int} {v u:Value} {L M:List E} (h:GAt w B gT eT p n v L) (hg:w.grownBy w' v.ownBlock) (hr:zad w' B eT u M) (hu:u.ownBlock≠some p):GAt (w'.setCell ⟨p,1,none⟩ u) B gT eT p n u M:=by
 have hp:w'.heap[p]? =some (.cells #[.int .i64 n,v] gT):=by rw [hg.block p h.plt (λ e=>h.ne e.symm)];exact h.hp
 refine ⟨?_,⟨hr.1,?_⟩,hu⟩
 ·simp only [World.setCell,Array.getElem?_modify,hp]
  simp
 ·rcases hr.2 with hn | ⟨g,cap,cur,rfl,hb,hgg,rest⟩
  ·exact .inl hn
  ·refine .inr ⟨g,cap,cur,rfl,hb,?_,rest⟩
   rw [Below.heap_setCell _ _ _ _ (λ e=>hu (by simp [Value.ownBlock,e]))];exact hgg
def zbr (w:World) (v v':Value):Prop:=∀k,v'.ownBlock=some k->v.ownBlock=some k\/w.heap.size<=k
def zE:Value:=.agg #[.int .i64 0,.int .i64 0,.int .i64 0]
theorem zlf:∃i,prog.info? 61=some i/\i.size=3/\i.bytes=24/\i.zero=some zE:=
 ⟨(prog.info? 61).get (by kernel_rfl),by kernel_rfl,by kernel_rfl,by kernel_rfl,by kernel_rfl⟩
theorem zgd:zE.cells=#[.int .i64 0,.int .i64 0,.int .i64 0]:=by kernel_rfl
theorem zhk (ty:TypeId) (w:World) (B:Nat) (v:Value) (L M:List E) (h:zad w B 61 v L) (hB:B<=w.heap.size) (a:Addr) (m c:Nat) (hm:m=M.length) (hM:∀j u,(zaf M)[j]? =some u->w.cell? (a.add j)=some u) (hl:L.length+M.length<=100000):
 ∃v' w',(Builtin.append_ #[33,33] ty #[v,.slice (some a) m c]).run prog w= .ok v' w'/\zad w' B 61 v' (L++M)/\w.grownBy w' v.ownBlock/\zbr w v v':=by
 subst hm;obtain ⟨i,hi,hs,hb,hz⟩:=zlf;have own:∀B',zad w B' 61 v L->B'<=w.heap.size->∃v' w',(Builtin.append_ #[33,33] ty #[v,.slice (some a) M.length c]).run prog w= .ok v' w'/\zad w' B' 61 v' (L++M)/\w.grownBy w' v.ownBlock:=by
  intro B' h' hB';obtain ⟨v',w',h1,h2,h3,_⟩:=run_append_own (P:=prog) w B' 33 ty 61 i zE 3 24 underlying33 hi hz hs hb (by rw [zgd];rfl) (by omega) v L.length (zaf L) h' a M.length c (zaf M) (zah M) hM (zcj M) (by simp only [maxLen];omega) (by omega) hB';refine ⟨v',w',h1,?_,h3⟩;show w'.ownsRow B' 61 3 v' (L++M).length (zaf (L++M));rw [List.length_append,zc8];exact h2
 rcases h.2 with ⟨rfl,h0⟩ | ⟨g,cap,cur,rfl,h1,h2,h3,h4,h5,h6⟩
 ·have hL:L=[]:=List.eq_nil_of_length_eq_zero h0
  subst hL;obtain ⟨v',w',e1,e2,e3⟩:=own w.heap.size (World.ownsRow_nil w _ 61 3) (Nat.le_refl _);exact ⟨v',w',e1,e2.mono hB,e3,λ k hk=>Or.inr (World.ownsRow.lt e2 k hk).1⟩
 ·obtain ⟨v',w',e1,e2,e3⟩:=own B h hB
  refine ⟨v',w',e1,e2,e3,?_⟩;by_cases hroom:L.length+M.length<=cap
  ·have hr:=run_append_room (P:=prog) w 33 ty 61 i underlying33 hi g L.length cap cur h2 a M.length c (zaf M) (by rw [hs];exact zah M) hM (zcj M) hroom (by rw [hs,h5,zah];omega)
   rw [hr] at e1;injection e1 with e1 _
   subst e1;intro k hk;exact Or.inl hk
  ·have hr:=run_append_grow (P:=prog) w 33 ty 61 i zE underlying33 hi hz ⟨g,0,none⟩ L.length cap (zaf L) (by rw [hs];exact zah L) (World.ownsRow.cells h rfl) a M.length c (zaf M) (by rw [hs];exact zah M) hM (by omega) (by omega) (growslice_fits (by omega) (by rw [hb];omega))
   rw [hr] at e1;injection e1 with e1 _
   subst e1;intro k hk;have hk':w.heap.size=k:=by simpa [Value.ownBlock] using hk
   exact Or.inr (by omega)
theorem zau {P:Program} {ops:Array Oper} {o:Oper} {a:Act} {w:World} {K:Act->World->Prop} {Q:Exit->Act->World->Prop} {E:Prop}
 (hg:o.guard=none) (d x:Operand) (dT sT:TypeId) (hop:o.op=Op.call {callee:=Callee.builtin Builtin.append,args:=#[d,x],argTypes:=#[dT,sT]})
 (v u:Value) (hd:a.eval d=v) (hx:a.eval x=u) {v':Value} {w':World} (hr:(Builtin.append_ #[dT,sT] o.type #[v,u]).run P w= .ok v' w') (hK:K (a.put o.dst v') w'):
 if Region.wanted o (yielded ops a.tmps)=true then Oper.wp P o a w K Q else E:=by
 have hw:Region.wanted o (yielded ops a.tmps)=true:=by simp [Region.wanted,hg]
 rw [if_pos hw];unfold Oper.wp;simp [execOp,hop,resolve,invoke,builtin,hd,hx,hr,Result.andThen];exact hK
theorem zbm (b n:Nat):(⟨b,0,none⟩:Addr).add n=⟨b,n,none⟩:=by
 unfold Addr.add;split <;> simp_all
theorem cells_of_block {w:World} {b:Nat} {x:E} (h:w.heap[b]? =some (.cells (zaq x).toArray 61)):∀j u,(zaf [x])[j]? =some u->w.cell? ((⟨b,0,none⟩:Addr).add j)=some u:=by
 intro j u hu;rw [zbm];have e:zaf [x]=zaq x:=by simp [zaf]
 rw [e] at hu;simp [World.cell?,h,hu]
theorem zhb {w w':World} {B gT p:Nat} {n:Int} {v:Value} {L:List E} (h:GAt w B gT 61 p n v L) (hg:w.grownBy w' v.ownBlock):w'.cell? ⟨p,1,none⟩=some v/\w'.frozen? ⟨p,1,none⟩=false:=by
 have hp:w'.heap[p]? =some (.cells #[.int .i64 n,v] gT):=by rw [hg.block p h.plt (λ e=>h.ne e.symm)];exact h.hp
 exact ⟨by simp [World.cell?,hp],by simp [World.frozen?,hp]⟩
theorem zad.slice {w:World} {B eT:Nat} {v:Value} {L:List E} (h:zad w B eT v L):∃a m c,v= .slice a m c:=by
 rcases h.shape with ⟨e,_⟩ | ⟨_,_,e,_⟩
 ·exact ⟨_,_,_,e⟩
 ·exact ⟨_,_,_,e⟩
theorem zad.zal {w:World} {B eT:Nat} {v:Value} {L:List E} (h:zad w B eT v L):∃a c,v= .slice a L.length c:=by
 rcases h.shape with ⟨e,e2⟩ | ⟨_,_,e,_⟩
 ·exact ⟨none,0,by rw [e,e2];rfl⟩
 ·exact ⟨_,_,e⟩
def zfx (w w':World) (B gT p:Nat) (n:Int) (v:Value) (L:List E):Prop:=∃v',GAt w' B gT 61 p n v' L/\Kept p v.ownBlock w w'/\zbr w v v'
def zb4 (id a b n:Int):Prop:=(0<=id/\id<=1099511627776)/\(0<=a/\a<n)/\(0<=b/\b<n)
structure Ints (w:World) (a:Option Addr) (m:Nat) (F:Nat->Int):Prop where
 some_:0<m->∃bl off,a=some ⟨bl,off,none⟩/\(∀t,t<m->w.cell? ⟨bl,off+t,none⟩=some (.int .i64 (F t)))
theorem Ints.below {w w':World} {a:Option Addr} {m:Nat} {F:Nat->Int} (h:Ints w a m F) (hb:Below w.heap.size w w'):Ints w' a m F:=by
 refine ⟨λ h0=>?_⟩;obtain ⟨bl,off,e,hc⟩:=h.some_ h0;exact ⟨bl,off,e,λ t ht=>(hb.cell (p:=⟨bl,off+t,none⟩) (lt_of_cell (hc t ht))).trans (hc t ht)⟩
def among (F:Nat->Int) (m:Nat) (x:Int):Bool:=(List.range m).any λ t=>F t==x
theorem zi2 {F:Nat->Int} {m t:Nat} {x:Int} (ht:t<m) (h:F t=x):among F m x=true:=by
 simp only [among,List.any_eq_true,List.mem_range];exact ⟨t,ht,by simp [h]⟩
theorem zh2 {F:Nat->Int} {m:Nat} {x:Int} (h:∀t,t<m->F t≠x):among F m x=false:=by
 simp only [among,List.any_eq_false,List.mem_range];intro t ht
 simpa using h t ht
theorem zc2 (a:Option Addr) (m cap:Nat) (F:Nat->Int) (x:Int) (ok:Bool) (w:World) (h:Ints w a m F) (hm:m<=1000) (hok:among F m x=ok):
 Calls prog 120 #[.slice a m cap,.int .i64 x] w λ e w'=>e= .returned (.bool ok)/\w'=w:=by
 have HI:=kd h;have HO:=kd hok;clear h hok;go_enter func120,ntmps120;go_wp2_with fail;go_loopg [6,9] m (λ r _ s9 wq=>∃k:Nat,s9= .int .i64 k/\k+r=m/\(∀t,t<k->F t≠x)/\wq=w)
 case atStart=>exact ⟨0,rfl,by omega,λ t ht=>by omega,rfl⟩
 case round=>
  obtain ⟨k,rfl,hk,hno,rfl⟩:=hrel;by_cases hlt:k<m
  ·obtain ⟨bl,off,ha,hc⟩:=HI.out.some_ (by omega)
   have c:=hc k hlt;subst ha;clear hc;by_cases hy:x=F k
   ·as_aux_lemma=>
    have HA:Hid (ok=true):=by
     show ok=true;rw [<-HO.out,zi2 hlt hy.symm]
    clear hno;generalize F k=y at*;subst hy;go_wp2_with fail;go_ret;exact ⟨by rw [HA.out];rfl,rfl⟩
   ·as_aux_lemma=>
    have HN:Hid (∀t,t<k+1->F t≠x):=by
     intro t ht;rcases Nat.lt_succ_iff_lt_or_eq.1 ht with h | h
     ·exact hno t h
     ·subst h;exact λ e=>hy e.symm
    clear hno;generalize F k=y at*;have hyb:(x==y)=false:=beq_eq_false_iff_ne.2 hy;clear hy;go_wp2_with fail;go_roundg (gk-1);case measure=>omega
    case rel=>exact ⟨k+1,by go_num,by omega,HN.out,rfl⟩
  ·have HA:Hid (ok=false):=by
    show ok=false;rw [<-HO.out,zh2 (λ t ht=>hno t (by omega))]
   clear hno;go_wp2_with fail;go_ret;exact ⟨by rw [HA.out];rfl,rfl⟩
theorem zat (w:World) (o:Obj):Below w.heap.size w (w.alloc o):=(Below.refl _ _).alloc (Nat.le_refl _) _
theorem zg4 (ty:TypeId) (W:World) (B:Nat) (u:Value) (M:List E) (x0 x1 x2:Int) (h:zad W B 61 u M) (hB:B<=W.heap.size) (hl:M.length<=1000):
 ∃v' w',(Builtin.append_ #[33,33] ty #[u,.slice (some ⟨W.heap.size,0,none⟩) 1 1]).run prog (W.alloc (.cells #[.int .i64 x0,.int .i64 x1,.int .i64 x2] 61))= .ok v' w'/\zad w' B 61 v' (M++[(x0,x1,x2)])/\Below B W w'/\zbr W u v'/\W.grownBy w' u.ownBlock:=by
 have h':zad (W.alloc (.cells #[.int .i64 x0,.int .i64 x1,.int .i64 x2] 61)) B 61 u M:=h.below (zat W _);obtain ⟨v',w',h1,h2,h3,h4⟩:=zhk ty _ B u M [(x0,x1,x2)] h' (Nat.le_trans hB (by simp)) ⟨W.heap.size,0,none⟩ 1 1 rfl (cells_of_block (heap_alloc_new W _)) (by simp;omega);have hg:W.grownBy w' u.ownBlock:=by
  have hb:=zat W (.cells #[.int .i64 x0,.int .i64 x1,.int .i64 x2] 61);exact ⟨h3.os.trans hb.os,h3.tape.trans hb.tape,h3.output.trans hb.output,Nat.le_trans hb.size h3.size,λ k hk hn=>(h3.block k (Nat.lt_of_lt_of_le hk hb.size) hn).trans (hb.block k hk)⟩
 refine ⟨v',w',h1,h2,⟨hg.os,hg.tape,hg.output,hg.size,λ k hk=>hg.block k (by omega) (λ e=>?_)⟩,λ k hk=>?_,hg⟩
 ·have:=(World.ownsRow.lt h k e.symm).1
  omega
 ·rcases h4 k hk with h5 | h5
  ·exact Or.inl h5
  ·exact Or.inr (Nat.le_trans (by simp) h5)
theorem zb3 {L:List E} {k:Nat} {x:E} (pf:E->Bool) (h:L[k]? =some x):(L.take (k+1)).filter pf=(L.take k).filter pf++(if pf x then [x] else []):=by
 obtain ⟨hlt,he⟩:=List.getElem?_eq_some_iff.1 h;rw [List.take_succ_eq_append_getElem hlt,List.filter_append,he];simp [List.filter_cons]
theorem zlr (L:List E) (k:Nat) (pf:E->Bool):((L.take k).filter pf).length<=L.length:=Nat.le_trans (List.length_filter_le _ _) (by simp;omega)
def stays (Fe Fn:Nat->Int) (me mn:Nat):E->Bool:=λ e=>!among Fe me e.1&&!among Fn mn e.2.1&&!among Fn mn e.2.2
theorem zss (ty:TypeId) (w:World) (g c n:Nat) (hn:n<=c):
 (Builtin.append_ #[33,33] ty #[.slice (some ⟨g,0,none⟩) n c,.slice none 0 0]).run prog w= .ok (.slice (some ⟨g,0,none⟩) n c) w:=by
 obtain ⟨i,hi,hs,hb,hz⟩:=zlf;simp [Builtin.append_,run_underlying underlying33,sizeOf,typeInfo,hi,Builtin.lenOf,hn,Builtin.firstCells,storeCells]
theorem z8g (ty:TypeId) (W:World) (B B2:Nat) (g c:Nat) (u:Value) (L M:List E) (h:zad W B 61 (.slice (some ⟨g,0,none⟩) L.length c) L) (hu:zad W B2 61 u M) (hB:B<=W.heap.size) (hl:L.length+M.length<=100000):
 ∃v' w',(Builtin.append_ #[33,33] ty #[.slice (some ⟨g,0,none⟩) L.length c,u]).run prog W= .ok v' w'/\zad w' B 61 v' (L++M)/\Below B W w':=by
 rcases hu.shape with ⟨rfl,hM⟩ | ⟨gu,cu,rfl,_,_,_,_⟩
 ·subst hM
  have hc:L.length<=c:=by
   rcases h.shape with ⟨e,_⟩ | ⟨_,_,e,_,_,h3,_⟩
   ·simp at e
   ·injection e with _ _ e;omega
  exact ⟨_,_,zss ty W g c _ hc,by simpa using h,Below.refl _ _⟩
 ·obtain ⟨v',w',h1,h2,h3,_⟩:=zhk ty W B _ L M h hB ⟨gu,0,none⟩ M.length cu rfl (World.ownsRow.cells hu rfl) hl
  refine ⟨v',w',h1,h2,⟨h3.os,h3.tape,h3.output,h3.size,λ k hk=>h3.block k (by omega) (λ e=>?_)⟩⟩;have:=(World.ownsRow.lt h k e.symm).1;omega
theorem zhu (W:World):zad (W.alloc (.cells #[] 61)) W.heap.size 61 (.slice (some ⟨W.heap.size,0,none⟩) 0 0) []:=
 World.ownsRow_made W #[] 0 (Nat.le_refl _) (by simp [maxLen]) (by simp)
theorem zj8 (ty:TypeId) (W:World) (B2:Nat) (u:Value) (M:List E) (hu:zad W B2 61 u M) (hl:M.length<=1000):
 ∃a m c w',(Builtin.append_ #[33,33] ty #[.slice (some ⟨W.heap.size,0,none⟩) 0 0,u]).run prog (W.alloc (.cells #[] 61))= .ok (.slice a m c) w'/\zad w' W.heap.size 61 (.slice a m c) M/\Below W.heap.size W w':=by
 obtain ⟨v',w',h1,h2,h3⟩:=z8g ty (W.alloc (.cells #[] 61)) W.heap.size B2 W.heap.size 0 u [] M (zhu W) (hu.below (zat W _)) (by simp) (by simp;omega);obtain ⟨a,m,c,rfl⟩:=h2.slice;exact ⟨a,m,c,w',h1,h2,(zat W _).trans h3⟩
theorem z2u (ty:TypeId) (W:World) (B2:Nat) (u:Value) (M:List E) (x0 x1 x2:Int) (hu:zad W B2 61 u M) (hl:M.length<=1000):
 ∃a m c w2 a' m' c' w3,(Builtin.append_ #[33,33] ty #[.slice (some ⟨W.heap.size,0,none⟩) 0 0,u]).run prog (W.alloc (.cells #[] 61))= .ok (.slice a m c) w2/\
  (Builtin.append_ #[33,33] ty #[.slice a m c,.slice (some ⟨w2.heap.size,0,none⟩) 1 1]).run prog (w2.alloc (.cells #[.int .i64 x0,.int .i64 x1,.int .i64 x2] 61))= .ok (.slice a' m' c') w3/\
  zad w3 W.heap.size 61 (.slice a' m' c') (M++[(x0,x1,x2)])/\Below W.heap.size W w3:=by
 obtain ⟨a,m,c,w2,h1,h2,h3⟩:=zj8 ty W B2 u M hu hl;obtain ⟨v',w3,h4,h5,h6,_,_⟩:=zg4 ty w2 W.heap.size _ M x0 x1 x2 h2 h3.size hl;obtain ⟨a',m',c',rfl⟩:=h5.slice;exact ⟨a,m,c,w2,a',m',c',w3,h1,h4,h5,h3.trans h6⟩
theorem zja {w w1 w3:World} {B gT p:Nat} {n:Int} {v u:Value} {L M:List E} (h:GAt w B gT 61 p n v L) (hB:B<=w.heap.size) (hb:Below w.heap.size w w1) (hr:zad w3 w1.heap.size 61 u M) (hb3:Below w1.heap.size w1 w3):
 zfx w (w3.setCell ⟨p,1,none⟩ u) B gT p n v M/\w3.cell? ⟨p,1,none⟩=some v/\w3.frozen? ⟨p,1,none⟩=false:=by
 have hb':Below w.heap.size w w3:=hb.trans (hb3.mono hb.size);have h3:=h.below hb';have hg:w3.grownBy w3 v.ownBlock:=⟨rfl,rfl,rfl,Nat.le_refl _,λ _ _ _=>rfl⟩;have hlt:∀k,u.ownBlock=some k->w.heap.size<=k:=λ k hk=>Nat.le_trans hb.size (World.ownsRow.lt hr k hk).1
 have hup:u.ownBlock≠some p:=λ e=>by have:=hlt p e;have:=h.plt;omega
 exact ⟨⟨u,h3.store hg (hr.mono (Nat.le_trans hB hb.size)) hup,(Kept.of_below hb').setCell 1 u,λ k hk=>Or.inr (hlt k hk)⟩,h3.c1,h3.f1 1⟩
theorem zy9 (x lo hi:Int) (ok:Bool) (w:World) (hok:decide (lo<=x/\x<=hi)=ok):
 Calls prog 45 #[.int .i64 x,.int .i64 lo,.int .i64 hi] w λ e w'=>e= .returned (.bool ok)/\w'=w:=by
 by_cases h1:lo<=x
 ·by_cases h2:x<=hi
  ·have HO:Hid (ok=true):=by
    show ok=true;rw [<-hok];exact decide_eq_true ⟨h1,h2⟩
   clear hok;go_enter func45,ntmps45;go_wp2;go_ret;exact ⟨by rw [HO.out];rfl,rfl⟩
  ·have HO:Hid (ok=false):=by
    show ok=false;rw [<-hok];exact decide_eq_false (λ h=>h2 h.2)
   clear hok;go_enter func45,ntmps45;go_wp2;go_ret;exact ⟨by rw [HO.out];rfl,rfl⟩
 ·have HO:Hid (ok=false):=by
   show ok=false;rw [<-hok];exact decide_eq_false (λ h=>h1 h.1)
  clear hok;go_enter func45,ntmps45;go_wp2;go_ret;exact ⟨by rw [HO.out];rfl,rfl⟩
theorem zen (x lo hi:Int) (w:World) (h:lo<=x/\x<=hi):Calls prog 45 #[.int .i64 x,.int .i64 lo,.int .i64 hi] w λ e w'=>e= .returned (.bool true)/\w'=w:=zy9 x lo hi true w (decide_eq_true h)
theorem zm6 (x lo hi:Int) (w:World) (h:¬(lo<=x/\x<=hi)):Calls prog 45 #[.int .i64 x,.int .i64 lo,.int .i64 hi] w λ e w'=>e= .returned (.bool false)/\w'=w:=zy9 x lo hi false w (decide_eq_false h)
theorem zva (id a b n:Int) (B q:Nat) (u:Value) (R:List E) (w:World) (h:GAt w B 40 61 q n u R) (h0:0<=n) (h40:n<=40) (hr:¬zb4 id a b n):
 Calls prog 20 #[.pointer (some ⟨q,0,none⟩),.int .i64 id,.int .i64 a,.int .i64 b] w λ e w'=>e= .returned (.int .i64 2)/\Below w.heap.size w w':=by
 have hc:=h.c0;clear h;by_cases h1:0<=id/\id<=1099511627776
 ·have H1:=kd h1
  by_cases h2:0<=a/\a<=n-1
  ·have H2:=kd h2
   have H3:Hid (¬(0<=b/\b<=n-1)):=λ h3=>hr ⟨h1,⟨h2.1,by omega⟩,⟨h3.1,by omega⟩⟩
   clear hr h1 h2;go_enter func20,ntmps20;go_wp2_with fail;refine (zen id 0 1099511627776 w H1.out).mono ?_;rintro e w1 ⟨rfl,rfl⟩;go_wp2_with fail;refine (zen a 0 (n-1) _ H2.out).mono ?_;rintro e w2 ⟨rfl,rfl⟩;go_wp2_with fail;refine (zm6 b 0 (n-1) _ H3.out).mono ?_;rintro e w3 ⟨rfl,rfl⟩;go_wp2_with fail;go_ret;exact ⟨rfl,Below.refl _ _⟩
  ·have H2:=kd h2
   clear hr h1 h2;go_enter func20,ntmps20;go_wp2_with fail;refine (zen id 0 1099511627776 w H1.out).mono ?_;rintro e w1 ⟨rfl,rfl⟩;go_wp2_with fail;refine (zm6 a 0 (n-1) _ H2.out).mono ?_;rintro e w2 ⟨rfl,rfl⟩;go_wp2_with fail;go_ret;exact ⟨rfl,Below.refl _ _⟩
 ·have H1:=kd h1
  clear hr h1;go_enter func20,ntmps20;go_wp2_with fail;refine (zm6 id 0 1099511627776 w H1.out).mono ?_;rintro e w1 ⟨rfl,rfl⟩;go_wp2_with fail;go_ret;exact ⟨rfl,Below.refl _ _⟩
theorem z1v (id a n:Int) (B q:Nat) (u:Value) (R:List E) (w:World) (h:GAt w B 40 61 q n u R) (h0:0<=n) (h40:n<=40) (hr:zb4 id a a n):
 Calls prog 20 #[.pointer (some ⟨q,0,none⟩),.int .i64 id,.int .i64 a,.int .i64 a] w λ e w'=>e= .returned (.int .i64 1)/\Below w.heap.size w w':=by
 have hc:=h.c0;have H1:=kd hr.1;have H2:Hid (0<=a/\a<=n-1):=⟨hr.2.1.1,by have:=hr.2.1.2;omega⟩;clear hr h;go_enter func20,ntmps20;go_wp2_with fail;refine (zen id 0 1099511627776 w H1.out).mono ?_;rintro e w1 ⟨rfl,rfl⟩;go_wp2_with fail;refine (zen a 0 (n-1) _ H2.out).mono ?_;rintro e w2 ⟨rfl,rfl⟩;go_wp2_with fail;refine (zen a 0 (n-1) _ H2.out).mono ?_;rintro e w3 ⟨rfl,rfl⟩;go_wp2_with fail;go_ret;exact ⟨rfl,Below.refl _ _⟩
def z1d (w:World) (B q:Nat) (n:Int) (u:Value) (R:List E) (id lo hi:Int) (e:Ending) (w':World):Prop:=
 ((∃x∈R,x.1=id)/\e= .returned (.int .i64 9)/\Below w.heap.size w w')\/
 ((∀x∈R,x.1≠id)/\120<=R.length/\e= .returned (.int .i64 12)/\Below w.heap.size w w')\/
 ((∀x∈R,x.1≠id)/\R.length<120/\e= .returned (.int .i64 0)/\zfx w w' B 40 q n u (R++[(id,lo,hi)]))
theorem z7t (id a b n lo hi:Int) (B q:Nat) (u:Value) (R:List E) (w:World) (h:GAt w B 40 61 q n u R) (hB:B<=w.heap.size) (hl:R.length<=120) (h0:0<=n) (h40:n<=40) (hr:zb4 id a b n) (hab:a≠b) (hlo:lo=min a b) (hhi:hi=max a b):
 Calls prog 20 #[.pointer (some ⟨q,0,none⟩),.int .i64 id,.int .i64 a,.int .i64 b] w λ e w'=>z1d w B q n u R id lo hi e w':=by
 have hc:=h.c0;have hu1:=h.c1;have H1:=kd hr.1;have H2:Hid (0<=a/\a<=n-1):=⟨hr.2.1.1,by have:=hr.2.1.2;omega⟩;have H3:Hid (0<=b/\b<=n-1):=⟨hr.2.2.1,by have:=hr.2.2.2;omega⟩;have HG:=kd h;have HB:=kd hB;have hqlt:=h.plt;obtain ⟨m,hm⟩:∃m,m=R.length:=⟨_,rfl⟩;have HM:=kd hm;obtain ⟨ua,uc,hv⟩:=h.row.zal;rw [<-hm] at hv hl;have HV:=kd hv;rw [hv] at hu1;have h5:(a==b)=false:=beq_eq_false_iff_ne.2 hab;clear hr h hB hv hm;go_enter func20,ntmps20;go_wp2_with fail;refine (zen id 0 1099511627776 w H1.out).mono ?_;rintro e w1 ⟨rfl,rfl⟩;go_wp2_with fail;refine (zen a 0 (n-1) _ H2.out).mono ?_;rintro e w2 ⟨rfl,rfl⟩;go_wp2_with fail;refine (zen b 0 (n-1) _ H3.out).mono ?_;rintro e w ⟨rfl,rfl⟩;go_wp2_with fail;go_loopg [10,42] m (λ r _ s42 wq=>∃k:Nat,s42= .int .i64 k/\k+r=m/\(∀x∈R.take k,x.1≠id)/\Below w.heap.size w wq)
 case atStart=>exact ⟨0,rfl,by omega,λ x hx=>by simp at hx,Below.refl _ _⟩
 case round=>
  obtain ⟨k,rfl,hk,hno,hb⟩:=hrel;have HNO:=kd hno;have HBW:=kd hb;clear hno hb;by_cases hlt:k<m
  ·obtain ⟨x0,x1,x2,hx⟩:∃x0 x1 x2,R[k]? =some (x0,x1,x2):=⟨_,_,_,List.getElem?_eq_getElem (by rw [<-HM.out];exact hlt)⟩
   have HX:=kd hx;obtain ⟨g,hua⟩:∃g,ua=some ⟨g,0,none⟩:=by
    rcases HG.out.row.shape with ⟨_,e⟩ | ⟨g,cap,e,_⟩
    ·rw [e] at hx;simp at hx
    ·rw [HV.out] at e
     injection e with e1 _ _
     exact ⟨g,e1⟩
   obtain ⟨r0,r1,r2⟩:=(HG.out.below HBW.out).row.at (g:=g) (by rw [HV.out,hua];rfl) hx;have r0':wr.cell? ⟨g,k*3,none⟩=some (.int .i64 x0):=r0;have r1':wr.cell? ⟨g,k*3+1,none⟩=some (.int .i64 x1):=r1;have r2':wr.cell? ⟨g,k*3+2,none⟩=some (.int .i64 x2):=r2;have HB1:Hid (∀o,Below w.heap.size w (wr.alloc o)):=λ o=>HBW.out.alloc HBW.out.size _
   clear r0 r1 r2 hx;subst hua;by_cases hid:x0=id
   ·as_aux_lemma=>
    have HH:Hid (∃x∈R,x.1=id):=⟨_,List.mem_of_getElem? HX.out,hid⟩;subst hid;go_wp2_with fail;go_ret;exact Or.inl ⟨HH.out,rfl,HB1.out _⟩
   ·as_aux_lemma=>
    have HN:Hid (∀x∈R.take (k+1),x.1≠id):=by
     intro x hx;obtain ⟨hlt',he⟩:=List.getElem?_eq_some_iff.1 HX.out;rw [List.take_succ_eq_append_getElem hlt',he] at hx;rcases List.mem_append.1 hx with h | h
     ·exact HNO.out x h
     ·rw [List.mem_singleton.1 h];exact hid
    have hib:(x0==id)=false:=beq_eq_false_iff_ne.2 hid;clear hid;go_wp2_with fail;go_roundg (gk-1);case measure=>omega
    case rel=>exact ⟨k+1,by go_num,by omega,HN.out,HB1.out _⟩
  ·have HN:Hid (∀x∈R,x.1≠id):=by
    have e:R.take k=R:=List.take_of_length_le (by rw [<-HM.out];omega);have:=HNO.out;rw [e] at this;exact this
   have hg:=HG.out.below HBW.out;have hu2:=hg.c1;have hq2:=hg.plt;rw [HV.out] at hu2;clear HNO;by_cases hf:120<=m
   ·as_aux_lemma=>
    have hf':(120:Int)<=(m:Int):=by omega
    have HF:Hid (120<=R.length):=by rw [<-HM.out];exact hf
    clear hg;go_wp2_with fail;go_ret;exact Or.inr (Or.inl ⟨HN.out,HF.out,rfl,HBW.out⟩)
   ·have hf':¬((120:Int)<=(m:Int)):=by omega
    have HF:Hid (R.length<120):=by
     show R.length<120;rw [<-HM.out];omega
    obtain ⟨a1,m1,c1,wa,a2,m2,c2,wb,e1,e2,e3,e4⟩:=z2u 33 wr B u R id lo hi hg.row (by have:=HF.out;omega);obtain ⟨s1,s2,s3⟩:=zja HG.out HB.out HBW.out e3 e4;rw [HV.out] at e1 s2;have HE1:=kd e1;have HE2:=kd e2;have HS:=kd s1;clear hg e1 e2 e3 e4 s1;rcases Int.lt_or_gt_of_ne hab with hlt2 | hgt2
    ·as_aux_lemma=>
     obtain rfl:lo=a:=by rw [hlo];omega
     obtain rfl:hi=b:=by rw [hhi];omega
     clear hlo hhi hab;have hn:¬(hi<lo):=by omega
     go_wp2_with (first
      | (at_builtin;refine Lib.wpList_append_run _ rfl _ _ _ _ rfl _ _ rfl rfl _ _ HE1.out ?_;clear HE1)
      | (at_builtin;refine Lib.wpList_append_run _ rfl _ _ _ _ rfl _ _ rfl rfl _ _ HE2.out ?_))
     go_ret;exact Or.inr (Or.inr ⟨HN.out,HF.out,rfl,HS.out⟩)
    ·as_aux_lemma=>
     obtain rfl:lo=b:=by rw [hlo];omega
     obtain rfl:hi=a:=by rw [hhi];omega
     clear hlo hhi hab;have hn:lo<hi:=by omega
     go_wp2_with (first
      | (at_builtin;refine Lib.wpList_append_run _ rfl _ _ _ _ rfl _ _ rfl rfl _ _ HE1.out ?_;clear HE1)
      | (at_builtin;refine Lib.wpList_append_run _ rfl _ _ _ _ rfl _ _ rfl rfl _ _ HE2.out ?_))
     go_ret;exact Or.inr (Or.inr ⟨HN.out,HF.out,rfl,HS.out⟩)
end Go.Proofs.YtebcjaenhiiflaaGreatDoor.G
