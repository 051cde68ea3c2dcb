import Derived.Test.YtebcjaenhiiflaaGreatDoorQJa
import Derived.Lib.SlBytesRow
set_option maxHeartbeats 2000000
set_option maxRecDepth 100000
namespace Go.Proofs.Y.I
open Go.RowKit Go.Lib Go.Proofs.Tryz
def edI (e:G.E):List UInt8:=Ah [e.1,e.2.1,e.2.2]++[10]
def svI (n:Nat)(L:List G.E):List UInt8:=Ah [(n:Int)]++[10]++L.flatMap edI
theorem zti {n:Nat}{L:List G.E}(h:∀e∈L,0<=e.1/\0<=e.2.1/\0<=e.2.2):svE n L=svI n L:=by
 unfold svE svB svI textOf;rw[eQ,fB,List.flatMap_map]
 congr 1
 induction L with
 |nil=>rfl
 |cons e L ih=>
  have he:=h e (by simp);rw[eQ,eQ,ih (λ x hx=>h x (by simp[hx]))]
  congr 1
  simp[ze,Gz,edI,Ah,Int.toNat_of_nonneg he.1,Int.toNat_of_nonneg he.2.1,Int.toNat_of_nonneg he.2.2]
theorem P9 {n:Nat}{L:List G.E}(h:Ok n L):svE n L=svI n L:=zti (λ e he=>by have:=h.ed e he;omega)
theorem zo6 {n:Nat}{L:List G.E}(h:Ok n L){e:G.E}(he:e∈L):(edI e).length<=64:=by
 have h1:=h.ed e he;have h40:=h.n40;have:=Ce (ns:=[e.1,e.2.1,e.2.2]) (λ x hx=>by
  simp at hx;rcases hx with rfl|rfl|rfl <;> omega)
 unfold edI;rw[aM];simp at this ⊢;omega
theorem zca {n:Nat}{L:List G.E}(h:Ok n L)(j:Nat):(svI n (L.take j)).length<=22+64*120:=by
 have h1:=Ce (ns:=[(n:Int)]) (λ x hx=>by have:=h.n40;simp at hx;omega);have key:∀M:List G.E,(∀e∈M,e∈L)->(M.flatMap edI).length<=64*M.length:=by
  intro M;induction M with
  |nil=>simp
  |cons e M ih=>
   intro hM;have a:=zo6 h (hM e (by simp));have b:=ih (λ x hx=>hM x (by simp[hx]));rw[eQ,aM,bD];omega
 have h2:=key (L.take j) (λ e he=>dB he);have h3:=h.len;rw[bN] at h2;unfold svI;rw[aM,aM];simp only[fO] at h1 ⊢;omega
theorem zld {n:Nat}{L:List G.E}{j:Nat}{e:G.E}(he:L[j]? =some e):svI n (L.take (j+1))=svI n (L.take j)++edI e:=by
 unfold svI;rw[bL,he,jL,jD];simp
def Ix (w:World)(x p q:Nat):Prop:=w.heap[x]? =some (.cells #[.pointer p,.pointer q] 85)
theorem Ix.lt {w:World}{x p q:Nat}(h:Ix w x p q):x<w:=G.lt_of_some h
theorem Ix.below {w w':World}{x p q B:Nat}(h:Ix w x p q)(hb:Below B w w')(hB:x<B):Ix w' x p q:=(hb.block x hB).trans h
theorem Ix.c0 {w:World}{x p q:Nat}(h:Ix w x p q):w.cell? x=some (.pointer p):=by simp[World.cell?,show w.heap[x]? =_ from h]
theorem Ix.c1 {w:World}{x p q:Nat}(h:Ix w x p q):w.cell? (x,1)=some (.pointer q):=by simp[World.cell?,show w.heap[x]? =_ from h]
theorem zdf {w:World}{B k:Nat}{v:Value}{l:List UInt8}(h:w.ownsRow B 5 1 v k (Lib.byteCells l))(hk:k=l.length)(l9:l≠[]):(convert 88 9 v).run prog w= .ok (.string ⟨l.toArray⟩) w:=by
 subst hk;rcases h.2 with⟨rfl,hz⟩|⟨g,cap,cur,rfl,hb,hg,_⟩
 ·exact absurd (bW.1 hz) l9
 ·refine run_convert_whole (P:=prog) w 88 5 9 underlying88 underlying5 underlying9 g 0 ⟨l.toArray⟩ ?_ cap
  intro i hi;have hi':i<l.length:=hi;have e:(Lib.byteCells l)[i]? =some (.int .u8 (l[i].toNat:Int)):=by simp[Lib.byteCells,hi']
  have hc:=h.cells rfl i _ e;rw[G.Bh] at hc;rw[gG];exact hc
def Xh (w0 w:World)(n:Nat)(L:List G.E)(j:Nat)(v:Value):Prop:=
 w.ownsRow w0 5 1 v (svI n (L.take j)).length (Lib.byteCells (svI n (L.take j)))/\Below w0 w0 w
theorem zn0 {w:World}{B b:Nat}{v:Value}{L:List G.E}(h:G.Ad w B 61 v L)(hb:v.ownBlock=some b){j:Nat}{e:G.E}(he:L[j]? =some e):
 w.cell? (b,j*3)=e.1/\w.cell? (b,j*3+1)=e.2.1/\w.cell? (b,j*3+2)=e.2.2:=by
 obtain⟨h1,h2,h3⟩:=G.R7 L j e he;have k1:=bQ h hb _ _ h1;have k2:=bQ h hb _ _ h2;have k3:=bQ h hb _ _ h3;rw[G.Bh] at k1 k2 k3;exact⟨k1,k2,k3⟩
theorem Cz {w w':World}{base e s n:Nat}{v:Value}{xs:List Value}(h:w.ownsRow base e s v n xs)(hb:Below w w w'):w'.ownsRow base e s v n xs:=h.kept (G.Ml hb (aF _) none) (by cases v.ownBlock <;> simp)
theorem zev {w0 w:World}{n j:Nat}{L:List G.E}{u:Value}{e0 e1 e2:Int}(h:Xh w0 w n L j u)(p8:Ok n L)(he:L[j]? =some (e0,e1,e2))(hv:Vars w0):
 Calls prog 51 #[u,.slice (w.heap.size+1:Nat) 3 3] ((w.alloc (.cells #[e0,e1,e2] 61)).alloc (.cells #[e0,e1,e2] 3)) λ e w'=>∃v',e= .returned v'/\Xh w0 w' n L (j+1) v'/\OthersKept 5 none w w':=by
 have hb:Below w0 w0 ((w.alloc (.cells #[e0,e1,e2] 61)).alloc (.cells #[e0,e1,e2] 3)):=h.2.trans (((aI _ w).alloc h.2.size _).alloc (by have:=h.2.size;simp;omega) _);have h40:=p8.n40;have AV:=p8.ed _ (aG he);dsimp only at AV;have OC:=World.alloc_heap_new (w.alloc (.cells #[e0,e1,e2] 61)) (.cells #[e0,e1,e2] 3);rw[aT] at OC;have BS:=zca p8 j;have hle:=h.2.size;refine(il w0 (w+1) 3 3 _ u _ [e0,e1,e2] _ ((h.1.alloc _).alloc _) (by simp;omega) rfl OC (λ y hy=>by simp at hy;rcases hy with rfl|rfl|rfl <;> omega) (by omega) (by simp) ((hv.tb hv.big).on hb)).mono ?_;rintro e w' ⟨v',rfl,h1,h2,h3⟩;refine⟨v',rfl,⟨?_,hb.trans h2⟩,OthersKept.trans (λ k o hk _ _=>?_) h3⟩
 ·rw[zld he,aM,bytes_append]
  have e1:edI (e0,e1,e2)=Ah [e0,e1,e2]++[10]:=rfl;rw[e1,aM,fO,<-Nat.add_assoc];exact h1
 ·have hk':=G.lt_of_some hk
  rw[bG _ _ _ (by simp;omega),bG _ _ _ hk'];exact hk
theorem zpz {w:World}{B n c:Nat}{a:Option Addr}{L:List G.E}(h:G.Ad w B 61 (.slice a n c) L)(hn:0<L.length):∃g,a=some ⟨g,0,none⟩:=by
 rcases h.shape with⟨_,k⟩|⟨g,c',k,_⟩
 ·subst k;simp at hn
 ·injection k with k _ _
  exact⟨g,k⟩
theorem zaj {w w':World}{B:Nat}{v:Value}{L:List G.E}(h:G.Ad w B 61 v L)(k:OthersKept 5 none w w'):G.Ad w' B 61 v L:=by
 refine⟨h.1,?_⟩;rcases h.2 with h2|⟨g,cap,cur,a,b,c,d⟩
 ·exact .inl h2
 ·exact .inr ⟨g,cap,cur,a,b,k _ _ c (by simp) (by simp),d⟩
theorem zgz {w0 w:World}{n j:Nat}{L:List G.E}{u:Value}(h:Xh w0 w n L j u)(hl:L.length=j):(convert 88 9 u).run prog w= .ok (.string ⟨(svI n L).toArray⟩) w:=by
 subst hl;have h1:=h.1;rw[bK] at h1;exact zdf h1 rfl (by unfold svI;simp)
theorem Y6 (x p q n B:Nat)(v:Value)(L:List G.E)(w:World)(hx:Ix w x p q)(hg:G.GAt w B 168 61 p (n:Int) v L)(p8:Ok n L)(hv:Vars w):
 Calls prog 16 #[.pointer x] w λ e w'=>e=Value.string ⟨(svI n L).toArray⟩/\Below w w w':=by
 have HG:=kd hg;have II:=kd p8;have HV:=kd hv;have HX:=kd hx;have hc:=hx.c0;have HN:Hid _:=G.Cg (n:Int) B p v L w hg;clear hg p8 hv hx;go_enter func16,ntmps16;go_wp2_with (go_at_call 52;refine aA HN.o ?_;rintro e w1 ⟨rfl,AR⟩;subst w1);have hn0:(0:Int)<=(n:Int)/\(n:Int)<=40:=by have:=II.o.n40;omega
 have HC:Hid _:=il w w 1 1 0 (.slice none 0 0) [] [(n:Int)] (w.alloc (.cells #[n] 3)) (aX _ _ _ _) (by simp) rfl (World.alloc_heap_new w _) (λ y hy=>by simp at hy;omega) (by omega) (by simp) ((HV.o.tb HV.o.big).on (b_));refine aA HC.o ?_;rintro e w2 ⟨v2,rfl,z8,j5,_⟩;have y5:Hid (Below w w w2):=(b_).trans j5;have H0:Hid (Xh w w2 n L 0 v2):=⟨by simpa[svI] using z8,y5.o⟩;have IZ:=(HX.o.below y5.o HX.o.lt).c0;have HE:Hid _:=G.Dv (n:Int) B p v L w2 (HG.o.below y5.o) II.o.len;clear z8 j5 HC HN hc;have hlen:L.length<=120:=II.o.len;generalize FK:L.length=len at hlen;have XO:=kd FK;clear FK;go_wp2_with (go_at_call 48;refine aA HE.o ?_;rintro e w3 ⟨u3,rfl,hu3,y8⟩;obtain⟨a3,c3,hu3e⟩:=hu3.Ap;rw[XO.o] at hu3e;subst hu3e);have AZ:Hid (Below w w w3):=y5.o.tr y8;have HU:=kd hu3;have H3:Hid (Xh w w3 n L 0 v2):=⟨Cz H0.o.1 y8,AZ.o⟩;clear y8 IZ HE hu3;go_loopw [3,19] (λ s3 s19 wq=>∃j:Nat,j<=len/\s19=j/\Xh w wq n L j s3/\G.Ad wq w2 61 (.slice a3 len c3) L) (λ _ s19 _=>len-(RowKit.intOf s19).toNat)
 case atStart=>exact⟨0,aN _,rfl,H3.o,HU.o⟩
 case round=>
  obtain⟨j,hj,rfl,q9,how⟩:=hrel;have HA:=kd q9;have HO:=kd how;clear q9 how;by_cases j6:j<len
  ·have FP:j<L.length:=by have:=XO.o;omega
   have hx:L[j]? =some L[j]:=aB FP;have HXE:=kd hx;have HXR:Hid _:=II.o.ed _ (aG hx);have HM:Hid _:=aG hx;obtain⟨g3,rfl⟩:=zpz HO.o (by omega)
   ·obtain⟨FZ,BV,IZ⟩:=zn0 HO.o rfl hx
    generalize L[j]=ee at*;obtain⟨e0,e1,e2⟩:=ee;dsimp only at FZ BV IZ;clear hx FP;go_wp2_with fail;refine aA (zev HA.o II.o HXE.o HV.o) ?_;rintro e w4 ⟨v4,rfl,hat4,BB⟩;have WX:Hid (G.Ad w4 w2 61 (.slice g3 len c3) L):=zaj HO.o BB;have HA4:=kd hat4;clear hat4 BB FZ BV IZ;go_wp2_with fail;go_roundw;case rel=>exact⟨j+1,by omega,by go_num,HA4.o,WX.o⟩
    case measure=>simp[RowKit.intOf];omega
  ·obtain rfl:j=len:=by omega
   have o7:=HA.o.1;have MU:(convert 88 9 u3).run prog wr= .ok (.string ⟨(svI n L).toArray⟩) wr:=zgz HA.o XO.o;go_wp2_with fail;go_ret;exact⟨rfl,HA.o.2⟩
end Go.Proofs.Y.I
