import Derived.Test.YtebcjaenhiiflaaGreatDoorQJb
import Derived.Test.YtebcjaenhiiflaaGreatDoorQOc
set_option maxHeartbeats 1000000
set_option maxRecDepth 100000
namespace Go.Proofs.Y.I
open Go.RowKit Go.WideMaps Go.Maps Go.Lib Go.Proofs.Tryz
structure IAt (w0 w:World) (x p q n:Nat) (v:Value) (L R B:List G.E) (W T:List Nat) (D:DataW Unit) (pw bw pt bt mp N:Nat):Prop where
 ix:Ix w x p q
 gra:G.GAt w w0 168 61 p (n:Int) v L
 rn:S.Rn w0 w q pw bw pt bt mp n R B W T D N
 ok:Ok n L
 perm:R.Perm L
 hx:w0<=x
 hp:w0<=p
variable {w0 w w':World} {x p q n:Nat} {v:Value} {L R B:List G.E} {W T:List Nat} {D:DataW Unit} {pw bw pt bt mp N:Nat}
theorem IAt.below' (h:IAt w0 w x p q n v L R B W T D pw bw pt bt mp N)(hb:Below w w w'):IAt w0 w' x p q n v L R B W T D pw bw pt bt mp N:=
 {h with ix:=h.ix.below hb h.ix.lt,gra:=h.gra.below hb,rn:=h.rn.below' hb}
theorem Hz {B':Nat}{L:List G.E}(h:G.Ad w B' 61 v L){g:Nat}(hg:v.ownBlock=some g):∃cur,w.heap[g]? =some (.cells cur 61):=by
 rcases h.2 with⟨rfl,_⟩|⟨g',cap,cur,rfl,_,hc,_⟩
 ·simp[Value.ownBlock] at hg
 ·simp[Value.ownBlock] at hg
  subst hg;exact⟨_,hc⟩
theorem Gd {B' p':Nat}{m:Int}(h:G.GAt w B' 168 61 p' m v L)(k:G.Kept p' v.ownBlock w w'){g:Nat}{o:Obj}(hg:w.heap[g]? =some o)(h1:∀cur,o≠ .cells cur 168)(h2:∀cur,o≠ .cells cur 61):w'.heap[g]? =some o:=by
 rw[k.block g (G.lt_of_some hg) ?_ ?_]
 ·exact hg
 ·rintro rfl
  have:=hg.symm.trans h.hp;injection this with this
  exact h1 _ this
 ·intro e
  obtain⟨cur,hc⟩:=Hz h.row e.symm;have:=hg.symm.trans hc;injection this with this
  exact h2 _ this
theorem Tt (hb:S.BAt w q pw bw pt bt mp N W T D)(k:S.Bk bw bt mp w w'){g t:Nat}{cur:Array Value}(hg:w.heap[g]? =some (.cells cur t))(ht:t≠3):w'.heap[g]? =some (.cells cur t):=by
 obtain⟨es,c,hm⟩:=hb.Mc;rw[k.block g (G.lt_of_some hg) ?_ ?_ ?_]
 ·exact hg
 ·rintro rfl
  have:=hg.symm.trans hb.sw.hb;simp at this;exact ht this.2
 ·rintro rfl
  have:=hg.symm.trans hb.st.hb;simp at this;exact ht this.2
 ·rintro rfl
  have:=hg.symm.trans hm;simp at this
theorem zlr {B' p':Nat}{m:Int}(hb:S.BAt w q pw bw pt bt mp N W T D)(h:G.GAt w B' 168 61 p' m v L)(k:G.Kept p' v.ownBlock w w'):S.BAt w' q pw bw pt bt mp N W T D:=by
 obtain⟨es,c,hm,F,hs,hD⟩:=hb.hm;exact⟨Gd h k hb.hp (by simp) (by simp),⟨Gd h k hb.sw.hp (by simp) (by simp),Gd h k hb.sw.hb (by simp) (by simp)⟩,⟨Gd h k hb.st.hp (by simp) (by simp),Gd h k hb.st.hb (by simp) (by simp)⟩,⟨es,c,Gd h k hm (by simp) (by simp),F,hs,hD⟩,hb.pp,hb.bb⟩
theorem zs1 {B' p':Nat}{m:Int}(hb:S.BAt w q pw bw pt bt mp N W T D)(h:G.GAt w B' 168 61 p' m v L)(k:S.Bk bw bt mp w w'):G.GAt w' B' 168 61 p' m v L:=by
 refine⟨Tt hb k h.hp (by decide),⟨h.row.1,?_⟩,h.ne⟩;rcases h.row.2 with hn|⟨g,cap,cur,rfl,hB,hg,rest⟩
 ·exact .inl hn
 ·exact .inr ⟨g,cap,cur,rfl,hB,Tt hb k hg (by decide),rest⟩
theorem below_kept' {o:Option Nat}{p':Nat}(h:Below w0 w0 w)(k:G.Kept p' o w w')(h1:w0<=p')(h2:∀j,o=some j->w0.heap.size<=j):Below w0 w0 w':=
 ⟨k.os.trans h.os,k.tape.trans h.tape,k.output.trans h.output,aD h.size k.size,λ j hj=>(k.block j (aR hj h.size) (by omega) (λ e=>by have:=h2 j e.symm;omega)).trans (h.block j hj)⟩
theorem IAt.graph (h:IAt w0 w x p q n v L R B W T D pw bw pt bt mp N)(k:G.Kept p v.ownBlock w w'):Ix w' x p q/\S.Rn w0 w' q pw bw pt bt mp n R B W T D N:=
 ⟨Gd h.gra k h.ix (by simp) (by simp),{h.rn with now:=⟨zlr h.rn.now.at_ h.gra k,h.rn.now.st,h.rn.now.dis⟩,below:=below_kept' h.rn.below k h.hp (λ j hj=>(h.gra.lt hj).1)}⟩
theorem zll (id:Int)(a b:Nat):S.edge id a b=edg id (a:Int) (b:Int):=by
 unfold S.edge edg;simp only[Prod.mk.injEq,lK];omega
structure Ikp (p:Nat) (o:Option Nat) (bw bt mp:Nat) (w w':World):Prop where
 os:w'.os=w.os
 tape:w'.tape=w.tape
 output:w'.output=w.output
 size:w.heap.size<=w'.heap.size
 block:∀k,k<w.heap.size->k≠p->some k≠o->k≠bw->k≠bt->k≠mp->w'.heap[k]? =w.heap[k]?
instance (id a b n:Int):Decidable (G.Ec id a b n):=by unfold G.Ec;infer_instance
def Bn (n:Nat)(L:List G.E)(id a b:Int):Int:=
 if ¬G.Ec id a b (n:Int) then 2 else if a=b then 1 else if (G.seen L id).isSome then 9 else if 120<=L.length then 12 else 0
theorem jb {L:List G.E}(hu:G.Up L)(id:Int):G.seen L id=none↔∀x∈L,x.1≠id:=by
 constructor
 ·intro h x hx e
  rw[G.Qq hu hx e] at h;cases h
 ·exact G.seen_none
theorem Ra {n:Nat}{L:List G.E}(h:Ok n L)(id a b:Int):Bn n L id a b=0↔Fits n L id a b:=by
 unfold Bn Fits G.Ec;have hs:=jb h.up id;split
 ·next k=>exact⟨λ h=>(by cases h),λ f=>absurd ⟨f.1,f.2.1,f.2.2.1⟩ k⟩
 ·next k=>
  have k:=Classical.not_not.1 k;split
  ·next e=>exact⟨λ h=>(by cases h),λ f=>absurd e f.2.2.2.1⟩
  ·next e=>
   cases hx:G.seen L id with
   |some y=>
    rw[aP (by simp)];refine⟨λ h=>(by cases h),λ f=>?_⟩;have:=hs.2 f.2.2.2.2.1;rw[hx] at this;cases this
   |none=>
    rw[aL (by simp)];have h1:=hs.1 hx;split
    ·next l=>exact⟨λ h=>(by cases h),λ f=>by have:=f.2.2.2.2.2;omega⟩
    ·next l=>exact⟨λ _=>⟨k.1,k.2.1,k.2.2,e,h1,by omega⟩,λ _=>rfl⟩
theorem zo0 {m:Nat}(h:G.GAt w m 168 61 p (n:Int) v L)(p8:Ok n L)(id a b:Int)(hc:Bn n L id a b≠0):
 Calls prog 56 #[.pointer p,id,a,b] w λ e w'=>e=Value.iface 23 (Bn n L id a b:Int)/\Below w w w':=by
 unfold Bn at hc ⊢;split
 ·next k=>exact G.zgn id a b (n:Int) m p v L w h k
 ·next k=>
  rw[aL k] at hc;have k:=Classical.not_not.1 k;split
  ·next e=>subst e;exact G.zpt id a (n:Int) m p v L w h k
  ·next e=>
   rw[aL e] at hc;split
   ·next hs=>exact G.zf0 id a b (n:Int) m p v L w h p8.up p8.len k e hs
   ·next hs=>
    rw[aL hs] at hc;have hs':G.seen L id=none:=by cases hq:G.seen L id <;> simp_all
    split
    ·next l=>exact G.zkl id a b (n:Int) m p v L w h p8.up p8.len k e hs' l
    ·next l=>rw[aL l] at hc;exact absurd rfl hc
theorem zch (id a b:Int)(w:World)(h:IAt w0 w x p q n v L R B W T D pw bw pt bt mp N)(hc:Bn n L id a b≠0):
 Calls prog 21 #[.pointer x,id,a,b] w λ e w'=>e=Value.tuple #[false,.iface 23 (Bn n L id a b:Int)]/\Below w w w':=by
 have HA:Hid _:=zo0 h.gra h.ok id a b hc;have c0:=h.ix.c0;generalize Bn n L id a b=c at*;clear h;go_enter func21,ntmps21;go_wp2_with (go_at_call 56;refine aA HA.o ?_;rintro e w1 ⟨rfl,hb⟩);go_ret2;exact⟨rfl,hb⟩
def zlt (w0 w:World)(x p q n:Nat)(v:Value)(L R:List G.E)(pw bw pt bt mp:Nat)(id a b:Int)(e:Ending)(w':World):Prop:=
 ∃ok v' B' W' T' D' N',e=Value.tuple #[.bool ok,.nilIface]/\IAt w0 w' x p q n v' (G.Ej L (edg id a b)) (R++[edg id a b]) B' W' T' D' pw bw pt bt mp N'/\(ok=true↔edg id a b∈B')/\Ikp p v.ownBlock bw bt mp w w'/\(∀k,v'.ownBlock=some k->v.ownBlock=some k\/w.heap.size<=k)
theorem zbp (id:Int)(a b:Nat)(w:World)(h:IAt w0 w x p q n v L R B W T D pw bw pt bt mp N)(hf:Fits n L id (a:Int) (b:Int)):
 Calls prog 21 #[.pointer x,id,a,b] w (zlt w0 w x p q n v L R pw bw pt bt mp id (a:Int) (b:Int)):=by
 have HH:=kd h;have HF:=kd hf;have OJ:G.seen L id=none:=(jb h.ok.up id).2 hf.2.2.2.2.1;have HA:Hid _:=G.ztq id (a:Int) (b:Int) (n:Int) (min (a:Int) (b:Int)) (max (a:Int) (b:Int)) w0 p v L (G.Ej L (edg id (a:Int) (b:Int))) w h.gra h.rn.below.size h.ok.up hf.2.2.2.2.2 ⟨hf.1,hf.2.1,hf.2.2.1⟩ hf.2.2.2.1 OJ rfl rfl rfl;have c0:=h.ix.c0;clear h hf;go_enter func21,ntmps21;go_wp2_with (go_at_call 56;refine aA HA.o ?_;rintro e w1 ⟨rfl,v1,AX,GH,hf1⟩;have c1:=(HH.o.graph GH).1.c1);obtain⟨MS,IL⟩:=HH.o.graph GH;have FH:=kd AX;have XX:=kd GH;have TL:=kd hf1;have XY:=kd MS;have BZ:=kd IL;have HB:Hid _:=S.zhv IL id a b (by have:=HF.o;unfold Fits at this;omega) (by have:=HF.o;unfold Fits at this;omega) (λ e=>HF.o.2.2.2.1 (by rw[e])) HH.o.ok.n40 HF.o.1 (λ e he=>HF.o.2.2.2.2.1 e (HH.o.perm.mem_iff.1 he)) (by rw[HH.o.perm.length_eq];exact HF.o.2.2.2.2.2);clear AX GH hf1 MS IL HA c0 OJ;refine aA HB.o ?_;rintro e w2 ⟨ok,B',W',T',D',N',rfl,IM,CK,p8⟩;go_wp2_with fail;go_ret2;rw[zll] at IM p8;refine⟨ok,v1,B',W',T',D',N',rfl,⟨Tt BZ.o.now.at_ CK XY.o (by decide),zs1 BZ.o.now.at_ FH.o CK,IM,HH.o.ok.put HF.o,?_,HH.o.hx,HH.o.hp⟩,p8,?_,TL.o⟩
 ·exact(List.perm_append_comm.trans (List.Perm.cons _ HH.o.perm)).trans (G.Gy L _).symm
 ·exact⟨CK.os.trans XX.o.os,CK.tape.trans XX.o.tape,CK.output.trans XX.o.output,aD XX.o.size CK.size,λ k hk h1 h2 h3 h4 h5=>(CK.block k (aR hk XX.o.size) h3 h4 h5).trans (XX.o.block k hk h1 h2)⟩
end Go.Proofs.Y.I
namespace Go.Proofs.Y.I
open Go.RowKit Go.WideMaps Go.Maps Go.Lib Go.Proofs.Tryz
theorem zmd (n:Int)(w:World)(h:n<0\/40<n):
 Calls prog 53 #[n] w λ e w'=>e=Value.tuple #[.pointer none,.iface 23 (2:Int)]/\w'=w:=by
 by_cases h0:n<0
 ·have hd:decide (n<0)=true:=bI h0
  go_enter func53,ntmps53;go_wp2_with fail;go_ret2;exact⟨rfl,rfl⟩
 ·have h1:40<n:=by omega
  have hd:decide (n<0)=false:=bM h0;have hd1:decide (40<n)=true:=bI h1;go_enter func53,ntmps53;go_wp2_with fail;go_ret2;exact⟨rfl,rfl⟩
theorem nk (n:Int)(w:World)(h:n<0\/40<n):
 Calls prog 17 #[n] w λ e w'=>e=Value.tuple #[.pointer none,.iface 23 (2:Int)]/\w'=w:=by
 have HN:Hid _:=zmd n w h;clear h;go_enter func17,ntmps17;go_wp2_with (go_at_call 53;refine aA HN.o ?_;rintro e w1 ⟨rfl,AR⟩;subst w1);go_ret2;exact⟨rfl,rfl⟩
def znj (w:World)(n:Nat)(e:Ending)(w':World):Prop:=
 ∃x p q v B W T D pw bw pt bt mp N,e=Value.tuple #[.pointer (some ⟨x,0,none⟩),.nilIface]/\IAt w w' x p q n v [] [] B W T D pw bw pt bt mp N
theorem V5 (n:Nat)(w:World)(h:n<=40):Calls prog 17 #[n] w (znj w n):=by
 have HN:Hid _:=G.Kk (n:Int) w (by omega) (by omega);have HL:=kd h;clear h;go_enter func17,ntmps17;go_wp2_with (go_at_call 53;refine aA HN.o ?_;rintro e w1 ⟨rfl,hw1'⟩;have BQ:Hid (w1=w.alloc (.cells #[n,.slice none 0 0] 168)):=hw1';clear hw1');have AR:=BQ.o;have hg:G.GAt w1 w 168 61 w (n:Int) (.slice none 0 0) []:=by
  rw[AR];exact⟨World.alloc_heap_new w _,aX _ _ _ _,by simp[Value.ownBlock]⟩
 have j4:Below w w w1:=by rw[AR];exact b_
 have HG:=kd hg;have x8:=kd j4;have HO:Hid _:=S.yh n w w (.slice none 0 0) [] w1 hg (Ok.nil HL.o);clear hg j4 AR HN BQ;refine aA HO.o ?_;rintro e w2 ⟨q,pw,bw,pt,bt,mp,B,W,T,D,N,rfl,hr⟩;have HR:=kd hr;clear hr HO;go_wp2_with fail;go_ret2;have hb:=x8.o.size;refine⟨w2.heap.size,w.heap.size,q,.slice none 0 0,B,W,T,D,pw,bw,pt,bt,mp,N,rfl,?_⟩;have j5:Below w2 w2 (w2.alloc (.cells #[.pointer w,.pointer q] 85)):=b_;have IM:=HR.o.below' j5;refine⟨World.alloc_heap_new w2 _,(HG.o.below HR.o.below).below j5,{IM with below:=x8.o.trans (IM.below.mono hb),hb:=⟨by have:=HR.o.hb;omega,by have:=HR.o.hb;omega,by have:=HR.o.hb;omega⟩},Ok.nil HL.o,eO _,aD hb HR.o.below.size,aF _⟩
end Go.Proofs.Y.I
