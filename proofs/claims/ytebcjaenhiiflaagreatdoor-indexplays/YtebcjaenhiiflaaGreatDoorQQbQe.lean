import Derived.Test.YtebcjaenhiiflaaGreatDoorQJeQd
import Derived.Test.YtebcjaenhiiflaaGreatDoorQKVxKT
import Derived.Test.YtebcjaenhiiflaaGreatDoorQXf
set_option maxHeartbeats 1000000
set_option maxRecDepth 100000
namespace Go.Proofs.YtebcjaenhiiflaaGreatDoor.S
open Go.Proofs.Tryz
open Go.RowKit Go.WideMaps Go.Maps
theorem zic (n:Nat) (L S:List Edg) (f:Edg->Nat):Good n (zfl n L S f):=zcd (zlp _ n n (Nat.le_refl _))
theorem z6j (n:Nat) (t o:List Edg) (e:Edg) (h:o.length<=127):zay n t o e<340282366920938463463374607431768211456:=by
 have h1:=zgf (zm2 n t o e) o.length;have h2:2^o.length<=2^128:=Nat.pow_le_pow_right (by omega) (by omega);unfold zay;have h3:(2:Nat)^128=340282366920938463463374607431768211456:=by decide
 omega
theorem Cv.cx {w0 w:World} {c mb rest:Nat} {S L:List Edg} {f:Edg->Nat} (h:Cv w0 w c mb rest S f) (hS:∀e,e∈S↔e∈L) (hup:(L.map (·.1)).Pairwise (·<·)) (hwf:∀e∈L,(Lit.int .i64 e.1).wf=true) (hl:L.length<=120) (hSl:S.length<=120):Cx w c mb rest S L f:=by
 refine ⟨h.co,hS,hup,hwf,hl,λ D N ho hm=>?_⟩;obtain ⟨D0,N0,k1,k2,k3⟩:=h.mp;obtain ⟨es,clock,hb1,F1,hs1,rfl⟩:=k1;obtain ⟨es',clock',hb2,F2,hs2,rfl⟩:=ho;rw [hb1] at hb2;cases hb2;exact ⟨es,clock,hb1,F2,by omega,rfl⟩
structure Cw (w:World) (c mb q bq n:Nat) (L:List Edg):Prop where
 cx:Cx w c mb (grw n L).2.length ((grw n L).2++(grw n L).1) L (zay n (grw n L).1 (grw n L).2)
 hc:∃x y,w.heap[c]? =some (.cells #[x,y,.pointer (some ⟨q,0,none⟩)] 206)
 sets:zab w q bq (zfl n L ((grw n L).2++(grw n L).1) (zay n (grw n L).1 (grw n L).2))
theorem zul (n B p:Nat) (v:Value) (L:List Edg) (w:World) (h:G.GAt w B 168 61 p (n:Int) v L) (hok:Ok n L) (hup:(L.map (·.1)).Pairwise (·<·)):
 Calls prog 82 #[.pointer (some ⟨p,0,none⟩)] w λ e w'=>∃c mb q bq,e= .returned (.pointer (some ⟨c,0,none⟩))/\Cw w' c mb q bq n L/\Below w.heap.size w w':=by
 have hg:=zi7 L hok.nd hok.inn.nodes;have hS:∀e,e∈(grw n L).2++(grw n L).1↔e∈L:=λ e=>by rw [List.mem_append,hg.mem e];exact or_comm
 have hl:=hok.len;have hSl:((grw n L).2++(grw n L).1).length<=120:=by rw [List.length_append];have:=hg.len;omega
 have hf:∀d,zay n (grw n L).1 (grw n L).2 d<340282366920938463463374607431768211456:=λ d=>z6j n _ _ d (by have:=hg.len;omega)
 refine (z7y n B p v L _ w h hok (λ W c mb hcv=>zpy n B p c mb _ v L _ _ w W (h.below hcv.below) hcv hok hS hf hSl)).mono ?_;rintro e w' ⟨c,mb,q,bq,rfl,hcv,hc,hs⟩;exact ⟨c,mb,q,bq,rfl,⟨hcv.cx hS hup hok.wf hok.len hSl,⟨_,_,hc⟩,hs⟩,hcv.below⟩
end Go.Proofs.YtebcjaenhiiflaaGreatDoor.S
namespace Go.Proofs.YtebcjaenhiiflaaGreatDoor.I
open Go.Proofs.Tryz
open Go.RowKit Go.WideMaps Go.Maps Go.Lib
variable {w0 w w':World} {a b x p q n:Nat} {v:Value} {L R B:List G.E} {W T:List Nat} {D:DataW Unit} {pw bw pt bt mp N g:Nat}
theorem Ok.inE (h:Ok n L):S.InE n L:=by
 intro e he;have:=h.ed e he;unfold S.ea S.eb;omega
theorem Ok.ed' (h:Ok n L):S.Ed n 120 L:=by
 refine ⟨h.up,λ e he=>(h.ed e he).1,λ e he=>?_,h.len⟩;have:=h.ed e he;refine ⟨e.2.1.toNat,e.2.2.toNat,by omega,by omega,?_⟩;rw [Int.toNat_of_nonneg (by omega),Int.toNat_of_nonneg (by omega)]
theorem Ok.ups (h:Ok n L):(L.map (·.1)).Pairwise (·<·):=List.pairwise_map.2 h.up
theorem Ok.cyc (h:Ok n L):S.Ok n L:=by
 have hup:L.Pairwise λ x y=>x.1<y.1:=h.up
 exact ⟨h.inE,hup.imp (λ h k=>by rw [k] at h;omega),S.zmf h.ups,λ e he=>S.zvp (h.ed e he).1,h.len,h.n40⟩
noncomputable def ze8 (n:Nat) (L:List G.E):List Int:=open Classical in ((List.range n).filter λ x=>decide (S.zh7 L x)).map λ x:Nat=>(x:Int)
theorem zjk {cs:List Nat} (h:S.zbx L n cs):(cs.map λ x:Nat=>(x:Int))=ze8 n L:=by
 have e:cs=open Classical in (List.range n).filter λ x=>decide (S.zh7 L x):=by
  refine List.Perm.eq_of_pairwise (le:=(·<·)) (λ a b _ _ h1 h2=>by omega) h.up ?_ ?_
  ·exact List.Pairwise.filter _ List.pairwise_lt_range
  ·refine (List.perm_ext_iff_of_nodup (h.up.imp (λ {a b} k=>by omega)) ?_).2 λ y=>?_
   ·exact List.Pairwise.filter _ List.nodup_range
   ·rw [h.mem y,List.mem_filter,List.mem_range]
    simp
 unfold ze8;rw [<-e]
noncomputable def blz (n:Nat) (L:List G.E):List (List Nat):=
 open Classical in if h:∃M,S.Bs L n [] M then S.zdb L h.choose else []
theorem zzw {M:List Nat} (h:S.Bs L n [] M):S.zdb L M=blz n L:=by
 have hx:∃M,S.Bs L n [] M:=⟨M,h⟩;unfold blz;rw [dif_pos hx];have k:=hx.choose_spec;rw [S.zmb h.good k.good (λ u v=>(h.alike u v).trans (k.alike u v).symm)]
def thz (n:Nat) (L:List G.E):List (List Nat):=S.zao (S.zfl n L ((S.grw n L).2++(S.grw n L).1) (S.zay n (S.grw n L).1 (S.grw n L).2)) n
def prz (n:Nat) (L:List G.E):List (Int × Int):=S.zam (L.filter λ e=>decide (S.zay n (S.grw n L).1 (S.grw n L).2 e≠0)) λ e d=>decide (S.zay n (S.grw n L).1 (S.grw n L).2 e=S.zay n (S.grw n L).1 (S.grw n L).2 d)
noncomputable def spz (n:Nat) (L:List G.E):List (Nat × Nat):=open Classical in S.X.zbn (λ a b=>decide (S.X.zfz L n a b)) n n
theorem yabv (h:IV w a b x n L):
 Calls prog 34 #[.pointer (some ⟨x,0,none⟩)] w λ e w'=>∃a c,e= .returned (.slice a (ze8 n L).length c)/\Zs w' a (ze8 n L)/\Below w.heap.size w w':=by
 obtain ⟨p,q,v,R,B,W,T,D,pw,bw,pt,bt,mp,N,g,h⟩:=h;have HO:Hid _:=S.zt9 n g p 120 v L w h.gra h.ok.n40 h.ok.ed' (Nat.le_refl _);have hn:=h.ok.n40;have hc:=h.ix.c0;clear h;go_enter func34,ntmps34;go_wp2_with fail;refine Calls.mono HO.out ?_;rintro e w1 ⟨pb,mb,Nb,Db,vb,Lb,cs,rfl,hbl,hN,hlm,hbs,hcs,hrow,hb⟩;have HB:Hid _:=S.zx8 pb mb Nb w.heap.size Db vb cs w1 hbl hrow (by have:=hcs.len;omega);have HC:=kd (And.intro hcs hb);clear hbl hlm hbs hcs hrow hb HO hc;go_wp2_with fail;refine Calls.mono HB.out ?_;rintro e w2 ⟨v',rfl,hr,hb2⟩;have HR:Hid _:=hr;have HB2:Hid _:=hb2;clear hr hb2 HB;go_wp2_with fail;go_ret;have hr:=HR.out;have e1:S.zbl cs=(ze8 n L).map (Value.int .i64):=by
  rw [<-zjk HC.out.1,List.map_map];rfl
 have e2:cs.length=(ze8 n L).length:=by rw [<-zjk HC.out.1,List.length_map]
 rw [e1,e2] at hr;obtain ⟨a',c,rfl,hs⟩:=zfq hr;exact ⟨a',c,rfl,hs,HC.out.2.trans (HB2.out.mono HC.out.2.size)⟩
theorem z5q (h:IV w a b x n L):
 Calls prog 36 #[.pointer (some ⟨x,0,none⟩)] w λ e w'=>∃v,e= .returned v/\S.zdd w' v (blz n L)/\Below w.heap.size w w':=by
 obtain ⟨p,q,v,R,B,W,T,D,pw,bw,pt,bt,mp,N,g,h⟩:=h;have HO:Hid _:=S.zt9 n g p 120 v L w h.gra h.ok.n40 h.ok.ed' (Nat.le_refl _);have HK:=kd h.ok;have hc:=h.ix.c0;clear h;go_enter func36,ntmps36;go_wp2_with fail;refine Calls.mono HO.out ?_;rintro e w1 ⟨pb,mb,Nb,Db,vb,Lb,cs,rfl,hbl,hN,hlm,hbs,hcs,hrow,hb⟩;have HB:Hid _:=S.zur pb mb Nb Db vb w1 hbl hlm hbs.good HK.out.up (λ e he=>(HK.out.ed e he).1) HK.out.len (by omega);have HC:=kd (And.intro hbs hb);clear hbl hlm hbs hcs hrow hb HO hc;go_wp2_with fail;refine Calls.mono HB.out ?_;rintro e w2 ⟨v',rfl,hr,hb2⟩;have HR:Hid _:=hr;have HB2:Hid _:=hb2;clear hr hb2 HB;go_wp2_with fail;go_ret;exact ⟨_,rfl,by rw [<-zzw HC.out.1];exact HR.out,HC.out.2.trans (HB2.out.mono HC.out.2.size)⟩
theorem z6b (h:IV w a b x n L):
 Calls prog 37 #[.pointer (some ⟨x,0,none⟩)] w λ e w'=>∃v,e= .returned v/\S.zdd w' v (thz n L)/\Below w.heap.size w w':=by
 obtain ⟨p,q,v,R,B,W,T,D,pw,bw,pt,bt,mp,N,g,h⟩:=h;have HO:Hid _:=S.zul n g p v L w h.gra h.ok.cyc h.ok.ups;have hn:=h.ok.n40;have hc:=h.ix.c0;clear h;go_enter func37,ntmps37;go_wp2_with fail;refine Calls.mono HO.out ?_;rintro e w1 ⟨c,mb,qc,bq,rfl,hcw,hb⟩;obtain ⟨c1,c2,hcc⟩:=hcw.hc;have HB:Hid _:=S.zsf c qc bq n c1 c2 _ w1 hcc hcw.sets (S.zic _ _ _ _) hn;have HC:=kd hb;clear hcw hb hcc HO hc;go_wp2_with fail;refine Calls.mono HB.out ?_;rintro e w2 ⟨v',rfl,hr,hb2⟩;have HR:Hid _:=hr;have HB2:Hid _:=hb2;clear hr hb2 HB;go_wp2_with fail;go_ret;exact ⟨_,rfl,HR.out,HC.out.trans (HB2.out.mono HC.out.size)⟩
theorem yaay (h:IV w a b x n L):
 Calls prog 38 #[.pointer (some ⟨x,0,none⟩)] w λ e w'=>∃v,e= .returned v/\S.zan w' w.heap.size v (prz n L)/\Below w.heap.size w w':=by
 obtain ⟨p,q,v,R,B,W,T,D,pw,bw,pt,bt,mp,N,g,h⟩:=h;have HO:Hid _:=S.zul n g p v L w h.gra h.ok.cyc h.ok.ups;have hc:=h.ix.c0;clear h;go_enter func38,ntmps38;go_wp2_with fail;refine Calls.mono HO.out ?_;rintro e w1 ⟨c,mb,qc,bq,rfl,hcw,hb⟩;have HB:Hid _:=S.zw3 c mb _ _ L _ w1 hcw.cx;have HC:=kd hb;clear hcw hb HO hc;go_wp2_with fail;refine Calls.mono HB.out ?_;rintro e w2 ⟨v',rfl,hr,hb2⟩;have HR:Hid _:=hr;have HB2:Hid _:=hb2;clear hr hb2 HB;go_wp2_with fail;go_ret;exact ⟨_,rfl,ownsRow_base_a HR.out HC.out.size,HC.out.trans (HB2.out.mono HC.out.size)⟩
theorem z8d (h:IV w a b x n L):
 Calls prog 39 #[.pointer (some ⟨x,0,none⟩)] w λ e w'=>∃v,e= .returned v/\S.X.zan w' w.heap.size v (spz n L)/\Below w.heap.size w w':=by
 obtain ⟨p,q,v,R,B,W,T,D,pw,bw,pt,bt,mp,N,g,h⟩:=h;have HO:Hid _:=S.X.zwn n g p v L (open Classical in λ a b=>decide (S.X.zfz L n a b)) w h.gra h.ok.n40 h.ok.inE h.ok.len (λ a b _ _=>by simp);have hc:=h.ix.c0;clear h;go_enter func39,ntmps39;go_wp2_with fail;refine Calls.mono HO.out ?_;rintro e w1 ⟨v',rfl,hr,hb⟩;have HR:Hid _:=hr;have HB:Hid _:=hb;clear hr hb HO hc;go_wp2_with fail;go_ret;exact ⟨_,rfl,HR.out,HB.out⟩
end Go.Proofs.YtebcjaenhiiflaaGreatDoor.I
namespace Go.Proofs.YtebcjaenhiiflaaGreatDoor.I
open Go.RowKit Go.WideMaps Go.Maps Go.Lib Go.Proofs.Tryz
variable {w0 w w':World} {a b x p q n:Nat} {v:Value} {L R B:List G.E} {W T:List Nat} {D:DataW Unit} {pw bw pt bt mp N:Nat}
def zrr (w1:World) (x n:Nat) (wq:World):Prop:=
 ∃p q v L R B W T D pw bw pt bt mp N,IAt w1 wq x p q n v L R B W T D pw bw pt bt mp N/\∀e∈L,e.1<30
theorem zrr.below' {w1:World} (h:zrr w1 x n w) (hb:Below w.heap.size w w'):zrr w1 x n w':=by
 obtain ⟨p,q,v,L,R,B,W,T,D,pw,bw,pt,bt,mp,N,h,hl⟩:=h;exact ⟨p,q,v,L,R,B,W,T,D,pw,bw,pt,bt,mp,N,h.below' hb,hl⟩
theorem zrr.base {w1:World} (h:zrr w1 x n w):Below w1.heap.size w1 w:=by
 obtain ⟨p,q,v,L,R,B,W,T,D,pw,bw,pt,bt,mp,N,h,hl⟩:=h;exact h.rn.below
theorem yaam (h:IV w a b x n L):
 Calls prog 14 #[.pointer (some ⟨x,0,none⟩)] w λ e w'=>∃u,e= .returned u/\G.zad w' w.heap.size 61 u L/\Below w.heap.size w w':=by
 obtain ⟨p,q,v,R,B,W,T,D,pw,bw,pt,bt,mp,N,g,h⟩:=h;have HE:Hid _:=G.zbv (n:Int) g p v L w h.gra h.ok.len;have hc:=h.ix.c0;clear h;go_enter func14,ntmps14;go_wp2_with (go_at_call 48;refine Calls.mono HE.out ?_;rintro e w1 ⟨u,rfl,ho,hb⟩);go_ret;exact ⟨u,rfl,ho,hb⟩
structure Ask (wG w:World) (x o n:Nat) (L:List G.E):Prop where
 ix:∃a b,IV w a b x n L
 io:∃a b,IV w a b o n L
 vars:Vars w
 below:Below wG.heap.size wG w
theorem Ask.next {wG:World} {o:Nat} (h:Ask wG w x o n L) (hb:Below w.heap.size w w'):Ask wG w' x o n L:=by
 obtain ⟨⟨a,b,h1⟩,⟨c,d,h2⟩,h3,h4⟩:=h;exact ⟨⟨a,b,h1.below hb⟩,⟨c,d,h2.below hb⟩,h3.below hb,h4.trans (hb.mono h4.size)⟩
theorem zt0 (h:IV w a b x n L):(brz n L).length<=120:=by
 obtain ⟨p,q,v,R,B,W,T,D,pw,bw,pt,bt,mp,N,g,h⟩:=h;rw [<-zpd h.now.st h.perm h.ok.unl,S.zln];unfold S.zav;rw [List.length_map];have h2:=h.perm.length_eq;have h3:=h.ok.len;exact Nat.le_trans (List.length_filter_le _ _) (by omega)
theorem z1c (n:Nat) (L:List G.E):(ze8 n L).length<=n:=by
 unfold ze8;rw [List.length_map];exact Nat.le_trans (List.length_filter_le _ _) (by simp)
theorem z0m (M:List Nat) (k y:Nat):(S.grp M k y).length<=k:=by
 unfold S.grp;exact Nat.le_trans (List.length_filter_le _ _) (by simp)
theorem zrd {Gs:List (List Nat)} {c:Nat} (h:∀l∈Gs,l.length<=c) (i:Nat):(Gs.getD i []).length<=c:=by
 rw [List.getD_eq_getElem?_getD];cases hi:Gs[i]? with
 | none=>simp
 | some l=>exact h l (List.mem_of_getElem? hi)
theorem zs8 (n:Nat) (L:List G.E):(blz n L).length<=L.length/\∀i,((blz n L).getD i []).length<=L.length:=by
 have key:∀M,(S.zdb L M).length<=L.length/\∀l∈S.zdb L M,l.length<=L.length:=by
  intro M;unfold S.zdb S.lst;refine ⟨by rw [List.length_map];exact Nat.le_trans (List.length_filter_le _ _) (by simp),λ l hl=>?_⟩;obtain ⟨r,_,rfl⟩:=List.mem_map.1 hl;rw [List.length_map];exact z0m _ _ _
 unfold blz;split
 ·exact ⟨(key _).1,λ i=>zrd (key _).2 i⟩
 ·exact ⟨by simp,λ i=>by simp⟩
theorem ztd (n:Nat) (L:List G.E):(thz n L).length<=n/\∀i,((thz n L).getD i []).length<=n:=by
 unfold thz;have hg:=S.zic n L ((S.grw n L).2++(S.grw n L).1) (S.zay n (S.grw n L).1 (S.grw n L).2);generalize S.zfl n L ((S.grw n L).2++(S.grw n L).1) (S.zay n (S.grw n L).1 (S.grw n L).2)=M at*;unfold S.zao;refine ⟨Nat.le_trans (List.length_filter_le _ _) (by simp),λ i=>zrd (λ l hl=>?_) i⟩;obtain ⟨y,_,rfl⟩:=List.mem_map.1 (List.mem_filter.1 hl).1;have:=z0m M M.length y;rw [hg.len] at this ⊢;exact this
theorem zj4 {u:Value} {Gs:List (List Nat)} (h:S.zdd w u Gs) (hb:Below w.heap.size w w'):S.zdd w' u Gs:=by
 obtain ⟨g,cap,rfl,hr⟩:=h;refine ⟨g,cap,rfl,λ i hi=>?_⟩;obtain ⟨r,c,h1,h2⟩:=hr i hi;exact ⟨r,c,S.cell_below h1 hb,λ j hj=>S.cell_below (h2 j hj) hb⟩
end Go.Proofs.YtebcjaenhiiflaaGreatDoor.I
