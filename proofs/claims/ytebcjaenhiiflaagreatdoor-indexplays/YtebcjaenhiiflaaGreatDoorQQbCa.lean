import Derived.Test.YtebcjaenhiiflaaGreatDoorQXf
import Derived.Test.YtebcjaenhiiflaaGreatDoorQTi
set_option maxHeartbeats 4000000
set_option maxRecDepth 100000
namespace Go.Proofs.YtebcjaenhiiflaaGreatDoor.S
open Go.Proofs.Tryz
open Go.RowKit Go.WideMaps Go.Maps
theorem zic (n:Nat) (L S:List Edg) (f:Edg->Nat):Good n (zfl n L S f):=zcd (zlp _ n n (Nat.le_refl _))
theorem z6j (n:Nat) (t o:List Edg) (e:Edg) (h:o.length<=127):zay n t o e<340282366920938463463374607431768211456:=by
 have h1:=zgf (zm2 n t o e) o.length;have h2:2^o.length<=2^128:=Nat.pow_le_pow_right (by omega) (by omega);unfold zay;have h3:(2:Nat)^128=340282366920938463463374607431768211456:=by decide
 omega
theorem Cv.cx {w0 w:World} {c mb rest:Nat} {S L:List Edg} {f:Edg->Nat} (h:Cv w0 w c mb rest S f) (hS:∀e,e∈S↔e∈L) (hup:(L.map (·.1)).Pairwise (·<·)) (hwf:∀e∈L,(Lit.int .i64 e.1).wf=true) (hl:L.length<=120) (hSl:S.length<=120):Cx w c mb rest S L f:=by
 refine ⟨h.co,hS,hup,hwf,hl,λ D N ho hm=>?_⟩;obtain ⟨D0,N0,k1,k2,k3⟩:=h.mp;obtain ⟨es,clock,hb1,F1,hs1,rfl⟩:=k1;obtain ⟨es',clock',hb2,F2,hs2,rfl⟩:=ho;rw [hb1] at hb2;cases hb2;exact ⟨es,clock,hb1,F2,by omega,rfl⟩
structure Cw (w:World) (c mb q bq n:Nat) (L:List Edg):Prop where
 cx:Cx w c mb (grw n L).2.length ((grw n L).2++(grw n L).1) L (zay n (grw n L).1 (grw n L).2)
 hc:∃x y,w.heap[c]? =some (.cells #[x,y,.pointer (some ⟨q,0,none⟩)] 206)
 sets:zab w q bq (zfl n L ((grw n L).2++(grw n L).1) (zay n (grw n L).1 (grw n L).2))
theorem zul (n B p:Nat) (v:Value) (L:List Edg) (w:World) (h:G.GAt w B 168 61 p (n:Int) v L) (hok:Ok n L) (hup:(L.map (·.1)).Pairwise (·<·)):
 Calls prog 82 #[.pointer (some ⟨p,0,none⟩)] w λ e w'=>∃c mb q bq,e= .returned (.pointer (some ⟨c,0,none⟩))/\Cw w' c mb q bq n L/\Below w.heap.size w w':=by
 have hg:=zi7 L hok.nd hok.inn.nodes;have hS:∀e,e∈(grw n L).2++(grw n L).1↔e∈L:=λ e=>by rw [List.mem_append,hg.mem e];exact or_comm
 have hl:=hok.len;have hSl:((grw n L).2++(grw n L).1).length<=120:=by rw [List.length_append];have:=hg.len;omega
 have hf:∀d,zay n (grw n L).1 (grw n L).2 d<340282366920938463463374607431768211456:=λ d=>z6j n _ _ d (by have:=hg.len;omega)
 refine (z7y n B p v L _ w h hok (λ W c mb hcv=>zpy n B p c mb _ v L _ _ w W (h.below hcv.below) hcv hok hS hf hSl)).mono ?_;rintro e w' ⟨c,mb,q,bq,rfl,hcv,hc,hs⟩;exact ⟨c,mb,q,bq,rfl,⟨hcv.cx hS hup hok.wf hok.len hSl,⟨_,_,hc⟩,hs⟩,hcv.below⟩
end Go.Proofs.YtebcjaenhiiflaaGreatDoor.S
namespace Go.Proofs.YtebcjaenhiiflaaGreatDoor.I
open Go.Proofs.Tryz
open Go.RowKit Go.WideMaps Go.Maps Go.Lib
variable {w0 w w':World} {a b x p q n:Nat} {v:Value} {L R B:List G.E} {W T:List Nat} {D:DataW Unit} {pw bw pt bt mp N g:Nat}
theorem Ok.inE (h:Ok n L):S.InE n L:=by
 intro e he;have:=h.ed e he;unfold S.ea S.eb;omega
theorem Ok.ed' (h:Ok n L):S.Ed n 120 L:=by
 refine ⟨h.up,λ e he=>(h.ed e he).1,λ e he=>?_,h.len⟩;have:=h.ed e he;refine ⟨e.2.1.toNat,e.2.2.toNat,by omega,by omega,?_⟩;rw [Int.toNat_of_nonneg (by omega),Int.toNat_of_nonneg (by omega)]
theorem Ok.ups (h:Ok n L):(L.map (·.1)).Pairwise (·<·):=List.pairwise_map.2 h.up
theorem Ok.cyc (h:Ok n L):S.Ok n L:=by
 have hup:L.Pairwise λ x y=>x.1<y.1:=h.up
 exact ⟨h.inE,hup.imp (λ h k=>by rw [k] at h;omega),S.zmf h.ups,λ e he=>S.zvp (h.ed e he).1,h.len,h.n40⟩
noncomputable def ze8 (n:Nat) (L:List G.E):List Int:=open Classical in ((List.range n).filter λ x=>decide (S.zh7 L x)).map λ x:Nat=>(x:Int)
theorem zjk {cs:List Nat} (h:S.zbx L n cs):(cs.map λ x:Nat=>(x:Int))=ze8 n L:=by
 have e:cs=open Classical in (List.range n).filter λ x=>decide (S.zh7 L x):=by
  refine List.Perm.eq_of_pairwise (le:=(·<·)) (λ a b _ _ h1 h2=>by omega) h.up ?_ ?_
  ·exact List.Pairwise.filter _ List.pairwise_lt_range
  ·refine (List.perm_ext_iff_of_nodup (h.up.imp (λ {a b} k=>by omega)) ?_).2 λ y=>?_
   ·exact List.Pairwise.filter _ List.nodup_range
   ·rw [h.mem y,List.mem_filter,List.mem_range]
    simp
 unfold ze8;rw [<-e]
noncomputable def blz (n:Nat) (L:List G.E):List (List Nat):=
 open Classical in if h:∃M,S.Bs L n [] M then S.zdb L h.choose else []
theorem zzw {M:List Nat} (h:S.Bs L n [] M):S.zdb L M=blz n L:=by
 have hx:∃M,S.Bs L n [] M:=⟨M,h⟩;unfold blz;rw [dif_pos hx];have k:=hx.choose_spec;rw [S.zmb h.good k.good (λ u v=>(h.alike u v).trans (k.alike u v).symm)]
def thz (n:Nat) (L:List G.E):List (List Nat):=S.zao (S.zfl n L ((S.grw n L).2++(S.grw n L).1) (S.zay n (S.grw n L).1 (S.grw n L).2)) n
def prz (n:Nat) (L:List G.E):List (Int × Int):=S.zam (L.filter λ e=>decide (S.zay n (S.grw n L).1 (S.grw n L).2 e≠0)) λ e d=>decide (S.zay n (S.grw n L).1 (S.grw n L).2 e=S.zay n (S.grw n L).1 (S.grw n L).2 d)
noncomputable def spz (n:Nat) (L:List G.E):List (Nat × Nat):=open Classical in S.X.zbn (λ a b=>decide (S.X.zfz L n a b)) n n
theorem yabv (h:IV w a b x n L):
 Calls prog 34 #[.pointer (some ⟨x,0,none⟩)] w λ e w'=>∃a c,e= .returned (.slice a (ze8 n L).length c)/\Zs w' a (ze8 n L)/\Below w.heap.size w w':=by
 obtain ⟨p,q,v,R,B,W,T,D,pw,bw,pt,bt,mp,N,g,h⟩:=h;have HO:Hid _:=S.zt9 n g p 120 v L w h.gra h.ok.n40 h.ok.ed' (Nat.le_refl _);have hn:=h.ok.n40;have hc:=h.ix.c0;clear h;go_enter func34,ntmps34;go_wp2_with fail;refine Calls.mono HO.out ?_;rintro e w1 ⟨pb,mb,Nb,Db,vb,Lb,cs,rfl,hbl,hN,hlm,hbs,hcs,hrow,hb⟩;have HB:Hid _:=S.zx8 pb mb Nb w.heap.size Db vb cs w1 hbl hrow (by have:=hcs.len;omega);have HC:=kd (And.intro hcs hb);clear hbl hlm hbs hcs hrow hb HO hc;go_wp2_with fail;refine Calls.mono HB.out ?_;rintro e w2 ⟨v',rfl,hr,hb2⟩;have HR:Hid _:=hr;have HB2:Hid _:=hb2;clear hr hb2 HB;go_wp2_with fail;go_ret;have hr:=HR.out;have e1:S.zbl cs=(ze8 n L).map (Value.int .i64):=by
  rw [<-zjk HC.out.1,List.map_map];rfl
 have e2:cs.length=(ze8 n L).length:=by rw [<-zjk HC.out.1,List.length_map]
 rw [e1,e2] at hr;obtain ⟨a',c,rfl,hs⟩:=zfq hr;exact ⟨a',c,rfl,hs,HC.out.2.trans (HB2.out.mono HC.out.2.size)⟩
theorem z5q (h:IV w a b x n L):
 Calls prog 36 #[.pointer (some ⟨x,0,none⟩)] w λ e w'=>∃v,e= .returned v/\S.zdd w' v (blz n L)/\Below w.heap.size w w':=by
 obtain ⟨p,q,v,R,B,W,T,D,pw,bw,pt,bt,mp,N,g,h⟩:=h;have HO:Hid _:=S.zt9 n g p 120 v L w h.gra h.ok.n40 h.ok.ed' (Nat.le_refl _);have HK:=kd h.ok;have hc:=h.ix.c0;clear h;go_enter func36,ntmps36;go_wp2_with fail;refine Calls.mono HO.out ?_;rintro e w1 ⟨pb,mb,Nb,Db,vb,Lb,cs,rfl,hbl,hN,hlm,hbs,hcs,hrow,hb⟩;have HB:Hid _:=S.zur pb mb Nb Db vb w1 hbl hlm hbs.good HK.out.up (λ e he=>(HK.out.ed e he).1) HK.out.len (by omega);have HC:=kd (And.intro hbs hb);clear hbl hlm hbs hcs hrow hb HO hc;go_wp2_with fail;refine Calls.mono HB.out ?_;rintro e w2 ⟨v',rfl,hr,hb2⟩;have HR:Hid _:=hr;have HB2:Hid _:=hb2;clear hr hb2 HB;go_wp2_with fail;go_ret;exact ⟨_,rfl,by rw [<-zzw HC.out.1];exact HR.out,HC.out.2.trans (HB2.out.mono HC.out.2.size)⟩
theorem z6b (h:IV w a b x n L):
 Calls prog 37 #[.pointer (some ⟨x,0,none⟩)] w λ e w'=>∃v,e= .returned v/\S.zdd w' v (thz n L)/\Below w.heap.size w w':=by
 obtain ⟨p,q,v,R,B,W,T,D,pw,bw,pt,bt,mp,N,g,h⟩:=h;have HO:Hid _:=S.zul n g p v L w h.gra h.ok.cyc h.ok.ups;have hn:=h.ok.n40;have hc:=h.ix.c0;clear h;go_enter func37,ntmps37;go_wp2_with fail;refine Calls.mono HO.out ?_;rintro e w1 ⟨c,mb,qc,bq,rfl,hcw,hb⟩;obtain ⟨c1,c2,hcc⟩:=hcw.hc;have HB:Hid _:=S.zsf c qc bq n c1 c2 _ w1 hcc hcw.sets (S.zic _ _ _ _) hn;have HC:=kd hb;clear hcw hb hcc HO hc;go_wp2_with fail;refine Calls.mono HB.out ?_;rintro e w2 ⟨v',rfl,hr,hb2⟩;have HR:Hid _:=hr;have HB2:Hid _:=hb2;clear hr hb2 HB;go_wp2_with fail;go_ret;exact ⟨_,rfl,HR.out,HC.out.trans (HB2.out.mono HC.out.size)⟩
theorem yaay (h:IV w a b x n L):
 Calls prog 38 #[.pointer (some ⟨x,0,none⟩)] w λ e w'=>∃v,e= .returned v/\S.zan w' w.heap.size v (prz n L)/\Below w.heap.size w w':=by
 obtain ⟨p,q,v,R,B,W,T,D,pw,bw,pt,bt,mp,N,g,h⟩:=h;have HO:Hid _:=S.zul n g p v L w h.gra h.ok.cyc h.ok.ups;have hc:=h.ix.c0;clear h;go_enter func38,ntmps38;go_wp2_with fail;refine Calls.mono HO.out ?_;rintro e w1 ⟨c,mb,qc,bq,rfl,hcw,hb⟩;have HB:Hid _:=S.zw3 c mb _ _ L _ w1 hcw.cx;have HC:=kd hb;clear hcw hb HO hc;go_wp2_with fail;refine Calls.mono HB.out ?_;rintro e w2 ⟨v',rfl,hr,hb2⟩;have HR:Hid _:=hr;have HB2:Hid _:=hb2;clear hr hb2 HB;go_wp2_with fail;go_ret;exact ⟨_,rfl,ownsRow_base_a HR.out HC.out.size,HC.out.trans (HB2.out.mono HC.out.size)⟩
theorem z8d (h:IV w a b x n L):
 Calls prog 39 #[.pointer (some ⟨x,0,none⟩)] w λ e w'=>∃v,e= .returned v/\S.X.zan w' w.heap.size v (spz n L)/\Below w.heap.size w w':=by
 obtain ⟨p,q,v,R,B,W,T,D,pw,bw,pt,bt,mp,N,g,h⟩:=h;have HO:Hid _:=S.X.zwn n g p v L (open Classical in λ a b=>decide (S.X.zfz L n a b)) w h.gra h.ok.n40 h.ok.inE h.ok.len (λ a b _ _=>by simp);have hc:=h.ix.c0;clear h;go_enter func39,ntmps39;go_wp2_with fail;refine Calls.mono HO.out ?_;rintro e w1 ⟨v',rfl,hr,hb⟩;have HR:Hid _:=hr;have HB:Hid _:=hb;clear hr hb HO hc;go_wp2_with fail;go_ret;exact ⟨_,rfl,HR.out,HB.out⟩
end Go.Proofs.YtebcjaenhiiflaaGreatDoor.I
namespace Go.Proofs.YtebcjaenhiiflaaGreatDoor.S
open Go.RowKit Go.WideMaps Go.Maps
section
variable {n:Nat} {L R t o:List Edg}
theorem z4m (t:List Edg) (d:Edg):(·∈zdu t d)=but (·∈t) d:=by
 funext e;apply propext;simp [zdu,but]
theorem z7x {A B:Edg->Prop} (h:A=B) (u v:Nat):cn ea eb A u v↔cn ea eb B u v:=by rw [h]
theorem zbq {A:List Edg} {B:Edg->Prop} (h:(·∈A)=B) (u v:Nat):cnR A u v↔cn ea eb B u v:=z7x h u v
theorem ze3 (hg:Gr n L t o) (hin:InE n L) {e d:Edg} {k:Nat} (hk:o[k]? =some d):zm2 n t o e k=true↔cov ea eb (·∈t) e d:=by
 have hd:d∈L:=(hg.mem d).2 (.inr (List.mem_of_getElem? hk));have hgd:o.getD k (0,0,0)=d:=by rw [List.getD_eq_getElem?_getD,hk];rfl
 have hit:InE n t:=hin.sub (λ x hx=>(hg.mem x).2 (.inl hx));unfold zm2 cov;by_cases he:e∈t
 ·rw [if_pos he]
  unfold zcl;rw [hgd,decide_eq_true_iff,Ne,zb6 (zmc hit e).nodes (hin d hd).1 (hin d hd).2.1,zbq (z4m t e)];simp [he]
 ·rw [if_neg he,decide_eq_true_iff,hgd]
  simp [he,eq_comm]
theorem ztt (hg:Gr n L t o) (hin:InE n L) (e d:Edg):zay n t o e=zay n t o d↔zfh ea eb (·∈t) (·∈o) e d:=by
 unfold zay;constructor
 ·intro h x hx
  obtain ⟨k,hk⟩:=List.getElem?_of_mem hx;have hl:=(List.getElem?_eq_some_iff.1 hk).1;have:=zjf h k hl;rw [<-ze3 hg hin hk,<-ze3 hg hin hk,this]
 ·intro h
  refine zff (λ i hi=>?_);have hk:o[i]? =some o[i]:=List.getElem?_eq_getElem hi;rw [Bool.eq_iff_iff,ze3 hg hin hk,ze3 hg hin hk];exact h _ (List.mem_of_getElem? hk)
theorem zhz:∀m,zaz (λ _=>false) m=0
 | 0=>rfl
 | m+1=>by simp [zaz,zhz m]
theorem zx9 (hg:Gr n L t o) (hin:InE n L) (e:Edg):zay n t o e=0↔∀x,x∈o->¬cov ea eb (·∈t) e x:=by
 unfold zay;constructor
 ·intro h x hx
  obtain ⟨k,hk⟩:=List.getElem?_of_mem hx;have hl:=(List.getElem?_eq_some_iff.1 hk).1;have:=zjf (d:=λ _=>false) (h.trans (zhz _).symm) k hl;rw [<-ze3 hg hin hk,this];simp
 ·intro h
  rw [<-zhz o.length];refine zff (λ i hi=>?_);have hk:o[i]? =some o[i]:=List.getElem?_eq_getElem hi;have:=h _ (List.mem_of_getElem? hk);rw [<-ze3 hg hin hk] at this
  simpa using this
theorem zg8 (hg:Gr n L t o):un (·∈t) (·∈o)=(·∈L):=by
 funext e;apply propext;exact (hg.mem e).symm
theorem zuo (hg:Gr n L t o) (hin:InE n L) {e:Edg} (he:e∈L):zay n t o e=0↔br ea eb (·∈L) e:=by
 rw [zx9 hg hin,<-zg8 hg,hg.forest.bridge ((hg.mem e).1 he)]
theorem z9b (hone:∀d∈L,∀e∈L,d.1=e.1->d=e) (hp:∀e,e∈R↔e∈L) {e:Edg} (he:e∈L):br ea eb (·∈L) e↔¬cnR (rest R e) (ea e) (eb e):=by
 have hRL:(·∈R)=(·∈L):=by funext x;exact propext (hp x)
 rw [zbq (zea (λ a ha b hb=>hone a ((hp a).1 ha) b ((hp b).1 hb)) ((hp e).2 he)),hRL];exact ⟨λ h=>h.2,λ h=>⟨he,h⟩⟩
theorem zlz {A B:List Edg} (hA:zbj n A) (hB:zbj n B) (hsub:∀x∈B,x∈A):nP n A<=nP n B/\(nP n A=nP n B↔∀u v,u<n->v<n->cnR A u v->cnR B u v):=by
 have h:=zsw (zcd hA) (zcd hB) (λ u v hu hv k=>(zb6 hA hu hv).2 (za4 ((zb6 hB hu hv).1 k) hsub));refine ⟨h.1,?_⟩;unfold nP;rw [h.2];constructor
 ·intro k u v hu hv hc
  rw [<-zb6 hB hu hv,k,zb6 hA hu hv];exact hc
 ·intro k
  exact zik (zcd hB) (zcd hA) (λ u v hu hv=>by
   rw [zb6 hB hu hv,zb6 hA hu hv];exact ⟨λ c=>za4 c hsub,k u v hu hv⟩)
theorem zlk {n:Nat} (h:zbj n R) (e:Edg):zbj n (rest R e):=λ d hd=>h d (List.mem_filter.1 hd).1
theorem zsg {n:Nat} (h:zbj n R) (e f:Edg):zbj n (za7 R e f):=λ d hd=>h d (List.mem_filter.1 hd).1
theorem zgq (hone:∀d∈R,∀e∈R,d.1=e.1->d=e) {e f:Edg} (he:e∈R) (hf:f∈R):(·∈za7 R e f)=but (but (·∈R) e) f:=by
 funext d;apply propext
 simp only [za7,List.mem_filter,Bool.and_eq_true,decide_eq_true_eq,but];constructor
 ·rintro ⟨h,k1,k2⟩;exact ⟨⟨h,λ c=>k1 (by rw [c])⟩,λ c=>k2 (by rw [c])⟩
 ·rintro ⟨⟨h,k1⟩,k2⟩;exact ⟨h,λ c=>k1 (hone d h e he c),λ c=>k2 (hone d h f hf c)⟩
theorem zkj (hin:zbj n R) (hone:∀d∈R,∀e∈R,d.1=e.1->d=e) {e:Edg} (he:e∈R):nP n (rest R e)=nP n R↔¬br ea eb (·∈R) e:=by
 rw [eq_comm,(zlz hin (zlk hin e) (λ x hx=>(List.mem_filter.1 hx).1)).2];have hm:=zea hone he;constructor
 ·intro k hb
  have:=k _ _ (hin e he).1 (hin e he).2 (zaj he);rw [zbq hm] at this;exact hb.2 this
 ·intro hb u v _ _ hc
  rw [zbq hm];exact ze7 (zld hb) hc
theorem yaae (hin:zbj n R) (hone:∀d∈R,∀e∈R,d.1=e.1->d=e) {e d:Edg} (he:e∈R) (hd:d∈R) (hne:e≠d):dq n R e d=true↔¬br ea eb (·∈R) e/\¬br ea eb (·∈R) d/\br ea eb (but (·∈R) e) d:=by
 unfold dq;rw [Bool.and_eq_true,Bool.and_eq_true,decide_eq_true_iff,decide_eq_true_iff,decide_eq_true_iff,zkj hin hone he,zkj hin hone hd,and_assoc];refine and_congr_right (λ he'=>and_congr_right (λ hd'=>?_));have h1:nP n (rest R e)=nP n R:=(zkj hin hone he).2 he';have hsub:∀x∈za7 R e d,x∈rest R e:=λ x hx=>by
  have hx':but (but (·∈R) e) d x:=by
   have:=zgq hone he hd;exact (congrFun this x)▸hx
  have h2:=zea hone he;exact (congrFun h2 x)▸hx'.1
 have h2:=zlz (zlk hin e) (zsg hin e d) hsub;rw [<-h1];have h3:nP n (rest R e)<nP n (za7 R e d)↔¬(nP n (rest R e)=nP n (za7 R e d)):=by have:=h2.1;omega
 rw [h3,h2.2];have m1:=zea hone he;have m2:=zgq hone he hd;constructor
 ·intro k
  refine ⟨⟨hd,λ c=>hne c.symm⟩,λ hc=>k (λ u v _ _ h4=>?_)⟩;rw [zbq m1] at h4;rw [zbq m2];exact ze7 (λ _=>hc) h4
 ·intro hb k
  have:=k _ _ (hin d hd).1 (hin d hd).2 ((zbq m1 _ _).2 (zaj ⟨hd,λ c=>hne c.symm⟩));rw [zbq m2] at this;exact hb.2 this
theorem zh8 {q q':Edg->Edg->Bool}:∀{R:List Edg},R.Nodup->(∀e∈R,∀d∈R,e≠d->q e d=q' e d)->zam R q=zam R q'
 | [],_,_=>rfl
 | e::R,hnd,h=>by
   rw [List.nodup_cons] at hnd;simp only [zam];rw [zh8 hnd.2 (λ a ha b hb=>h a (by simp [ha]) b (by simp [hb]))]
   congr 2
   apply List.filter_congr;intro d hd;exact h e (by simp) d (by simp [hd]) (λ c=>hnd.1 (c▸hd))
theorem z4h (hg:Gr n L t o) (hok:Ok n L) (hp:∀e,e∈R↔e∈L):zam (L.filter λ e=>decide (zay n t o e≠0)) (λ e d=>decide (zay n t o e=zay n t o d))=zam L (dq n R):=by
 rw [zhg];refine zh8 hok.nd (λ e he d hd hne=>?_);have hRL:(·∈R)=(·∈L):=by funext x;exact propext (hp x)
 have hinR:zbj n R:=λ e he=>hok.inn.nodes e ((hp e).1 he)
 rw [Bool.eq_iff_iff,yaae hinR (λ a ha b hb=>hok.one a ((hp a).1 ha) b ((hp b).1 hb)) ((hp e).2 he) ((hp d).2 hd) hne,hRL];rw [Bool.and_eq_true,Bool.and_eq_true,decide_eq_true_iff,decide_eq_true_iff,decide_eq_true_iff,Ne,Ne,zuo hg hok.inn he,zuo hg hok.inn hd,ztt hg hok.inn,and_assoc];refine and_congr_right (λ he'=>and_congr_right (λ hd'=>?_));have:=hg.forest.pair ((hg.mem e).1 he) ((hg.mem d).1 hd) hne (by rw [zg8 hg];exact he') (by rw [zg8 hg];exact hd');rw [zg8 hg] at this;exact this.symm
theorem zmo (q:Nat->Nat->Bool):∀{m x y:Nat},x<m->y<x->q x y=true->((0:Int),(x:Int),(y:Int))∈tri q m
 | 0,x,y,h,_,_=>by omega
 | m+1,x,y,h,hy,hq=>by
   rw [tri,List.mem_append];by_cases e:x=m
   ·right
    rw [<-e];exact List.mem_map.2 ⟨y,List.mem_filter.2 ⟨List.mem_range.2 hy,hq⟩,rfl⟩
   ·exact .inl (zmo q (by omega) hy hq)
theorem ztl (q:Nat->Nat->Bool):∀{m:Nat} {e:Edg},e∈tri q m->q (ea e) (eb e)=true
 | 0,e,h=>by simp [tri] at h
 | m+1,e,h=>by
   rw [tri,List.mem_append] at h;rcases h with h | h
   ·exact ztl q h
   ·obtain ⟨z,hz,rfl⟩:=List.mem_map.1 h
    have:=(List.mem_filter.1 hz).2
    simpa [ea,eb] using this
theorem zmt (Ls:List (List Nat)) (x y:Nat):alB Ls x y=true↔∀l∈Ls,l.getD x 0=l.getD y 0:=by simp [alB]
theorem z8v (S:List Edg) (f:Edg->Nat) {x y:Nat} (hx:x<n) (hy:y<n):(zfl n L S f).getD x 0=(zfl n L S f).getD y 0↔∀l∈rests n L S f,l.getD x 0=l.getD y 0:=by
 unfold zfl;rw [zb6 (zlp _ n n (Nat.le_refl _)) hx hy];constructor
 ·intro h
  refine zae.least (P:=λ x y=>∀l∈rests n L S f,l.getD x 0=l.getD y 0) h (λ x l _=>rfl) (λ x y k l hl=>(k l hl).symm) (λ x y z k1 k2 l hl=>(k1 l hl).trans (k2 l hl)) ?_;rintro x y ⟨e,he,rfl,rfl⟩;exact (zmt _ _ _).1 (ztl _ he)
 ·intro h
  rcases Nat.lt_trichotomy x y with hlt | rfl | hlt
  ·have:=zaj (a:=ea) (b:=eb) (T:=(·∈tri (alB (rests n L S f)) n)) (zmo (alB (rests n L S f)) hy hlt ((zmt _ _ _).2 λ l hl=>(h l hl).symm))
   exact zac (by simpa [ea,eb] using this)
  ·exact zaw _
  ·have:=zaj (a:=ea) (b:=eb) (T:=(·∈tri (alB (rests n L S f)) n)) (zmo (alB (rests n L S f)) hx hlt ((zmt _ _ _).2 h))
   simpa [ea,eb] using this
theorem zxb (hg:Gr n L t o) (hok:Ok n L) (hp:∀e,e∈R↔e∈L) {x y:Nat} (hx:x<n) (hy:y<n):
 (zfl n L (o++t) (zay n t o)).getD x 0=(zfl n L (o++t) (zay n t o)).getD y 0↔(cnR R x y/\∀e∈R,∀f∈R,cnR (za7 R e f) x y):=by
 have hRL:(·∈R)=(·∈L):=by funext x;exact propext (hp x)
 have hone:∀d∈R,∀e∈R,d.1=e.1->d=e:=λ a ha b hb=>hok.one a ((hp a).1 ha) b ((hp b).1 hb)
 have hfil:∀d,zbj n (L.filter λ e=>decide (zay n t o e≠zay n t o d)):=λ d e he=>hok.inn.nodes e (List.mem_filter.1 he).1
 have hmf:∀d,(·∈L.filter λ e=>decide (zay n t o e≠zay n t o d))=λ e=>un (·∈t) (·∈o) e/\¬zfh ea eb (·∈t) (·∈o) d e:=λ d=>by
  funext e;apply propext
  rw [zg8 hg,List.mem_filter,decide_eq_true_iff,Ne,<-ztt hg hok.inn,eq_comm]
 rw [z8v _ _ hx hy,zbq hRL];have h1:(∀l∈rests n L (o++t) (zay n t o),l.getD x 0=l.getD y 0)↔(cnR L x y/\∀e,un (·∈t) (·∈o) e->cn ea eb (λ d=>un (·∈t) (·∈o) d/\¬zfh ea eb (·∈t) (·∈o) e d) x y):=by
  unfold rests;constructor
  ·intro h
   refine ⟨(zb6 hok.inn.nodes hx hy).1 (h _ (by simp)),λ e he=>?_⟩;have he':e∈o++t:=List.mem_append.2 he.symm;have:=(zb6 (hfil e) hx hy).1 (h _ (List.mem_cons_of_mem _ (List.mem_map.2 ⟨e,he',rfl⟩)));rw [zbq (hmf e)] at this;exact this
  ·rintro ⟨h2,h3⟩ l hl
   rcases List.mem_cons.1 hl with rfl | hl
   ·exact (zb6 hok.inn.nodes hx hy).2 h2
   ·obtain ⟨e,he,rfl⟩:=List.mem_map.1 hl
    rw [zb6 (hfil e) hx hy,zbq (hmf e)];exact h3 e (List.mem_append.1 he).symm
 rw [h1,hg.forest.thrice L hg.mem,zg8 hg];refine and_congr_right (λ _=>?_);constructor
 ·intro h e he f hf
  rw [zbq (zgq hone he hf),hRL];exact h e f ((hp e).1 he) ((hp f).1 hf)
 ·intro h e f he hf
  have:=h e ((hp e).2 he) f ((hp f).2 hf);rw [zbq (zgq hone ((hp e).2 he) ((hp f).2 hf)),hRL] at this;exact this
end
end Go.Proofs.YtebcjaenhiiflaaGreatDoor.S
namespace Go.Proofs.YtebcjaenhiiflaaGreatDoor.S
open Go.RowKit Go.WideMaps Go.Maps Go.Proofs.Tryz
theorem zop (a1 a2:Option Addr) (c1 c2:Nat) (M:List (Int × Int)) (w:World) (hM:M.length<=100000)
 (h1:0<M.length->∃g,a1=some ⟨g,0,none⟩/\∀j x,M[j]? =some x->w.cell? ⟨g,j*2,none⟩=some (.int .i64 x.1)/\w.cell? ⟨g,j*2+1,none⟩=some (.int .i64 x.2))
 (h2:0<M.length->∃g,a2=some ⟨g,0,none⟩/\∀j x,M[j]? =some x->w.cell? ⟨g,j*2,none⟩=some (.int .i64 x.1)/\w.cell? ⟨g,j*2+1,none⟩=some (.int .i64 x.2)):
 Calls prog 64 #[.slice a1 M.length c1,.slice a2 M.length c2] w λ e w'=>e= .returned (.bool true)/\∃n,w'=w.drewN n:=by
 have H1:=kd h1;have H2:=kd h2;obtain ⟨m,hm⟩:∃m,M.length=m:=⟨_,rfl⟩;have HM:=kd hm;rw [hm] at H1 H2 hM ⊢;clear h1 h2 hm;go_enter func64,ntmps64;go_wp2_with fail;go_loopw [5] (λ s5 wq=>∃k t:Nat,k<=m/\s5= .int .i64 k/\wq=w.drewN t) (λ s5 _=>m-(intOf s5).toNat)
 case atStart=>exact ⟨0,0,Nat.zero_le _,rfl,rfl⟩
 case round=>
  obtain ⟨k,t,hk,rfl,rfl⟩:=hrel;by_cases hlt:k<m
  ·as_aux_lemma=>
   obtain ⟨x,hx⟩:∃x,M[k]? =some x:=⟨_,List.getElem?_eq_getElem (by rw [HM.out];exact hlt)⟩;obtain ⟨g1,rfl,hc1⟩:=H1.out (by omega);obtain ⟨g2,rfl,hc2⟩:=H2.out (by omega);obtain ⟨p1,p2⟩:=hc1 k x hx;obtain ⟨q1,q2⟩:=hc2 k x hx;obtain ⟨xa,xb⟩:=x;simp only at p1 p2 q1 q2;clear hc1 hc2 hx;go_upto_region 6 with fail
   go_quiet (fail);go_wp2_with fail;go_roundw;case rel=>exact ⟨k+1,t+nq,by omega,by go_num,rfl⟩
   case measure=>simp [intOf];omega
  ·as_aux_lemma=>
   have hke:k=m:=by omega
   go_wp2_with fail;go_ret;exact ⟨rfl,t,rfl⟩
theorem yaaa (x y cw n base:Nat) (v:Value) (P:List (Nat × List Nat)) (s:Bool) (w:World) (h:zb5 w base cw n v P) (hp:0<P.length) (hpl:P.length<=20000) (hx:x<n) (hy:y<n) (hs:s=true↔∀p∈P,p.2.getD x 0=p.2.getD y 0):
 Calls prog 74 #[.int .i64 (x:Int),.int .i64 (y:Int),.pointer (some ⟨cw,0,none⟩)] w λ e w'=>e= .returned (.bool s)/\∃n,w'=w.drewN n:=by
 have HH:=kd h;obtain ⟨g,cap,rfl,hcells⟩:=h.shape hp;have HC:=kd hcells;have hbox:w.cell? ⟨cw,0,none⟩=some (.slice (some ⟨g,0,none⟩) P.length cap):=by simp [World.cell?,h.box]
 have HS:=kd hs;obtain ⟨m,hm⟩:∃m,P.length=m:=⟨_,rfl⟩;have HM:=kd hm;rw [hm] at hbox hpl;clear h hcells hs hm hp;go_enter func74,ntmps74;go_wp2_with fail;go_loopw [7,10] (λ _ s10 wq=>∃j:Nat,j<=m/\s10= .int .i64 j/\(∀i p,i<j->P[i]? =some p->p.2.getD x 0=p.2.getD y 0)/\∃q,wq=w.drewN q) (λ _ s10 _=>m-(intOf s10).toNat)
 case atStart=>exact ⟨0,Nat.zero_le _,rfl,λ i p hi=>by omega,0,rfl⟩
 case round=>
  obtain ⟨j,hj,rfl,hall,q,hq0⟩:=hrel;have HQ:=kd hq0;clear hq0;have HALL:=kd hall;clear hall;by_cases hlt:j<m
  ·obtain ⟨⟨b,l⟩,hpj⟩:∃p,P[j]? =some p:=⟨_,List.getElem?_eq_getElem (by rw [HM.out];exact hlt)⟩
   have HPJ:=kd hpj;have hrow:=HH.out.rows _ (List.mem_of_getElem? hpj);have c0:wr.cell? ⟨g,j,none⟩=some (.slice (some ⟨b,0,none⟩) n n):=by rw [HQ.out];exact HC.out j (b,l) hpj
   have cx:wr.cell? ⟨b,x,none⟩=some (.int .i64 ((l.getD x 0:Nat):Int)):=by rw [HQ.out];exact hrow.1.cell x (by rw [hrow.2];exact hx)
   have cy:wr.cell? ⟨b,y,none⟩=some (.int .i64 ((l.getD y 0:Nat):Int)):=by rw [HQ.out];exact hrow.1.cell y (by rw [hrow.2];exact hy)
   obtain ⟨X,hX⟩:∃X,l.getD x 0=X:=⟨_,rfl⟩;obtain ⟨Y,hY⟩:∃Y,l.getD y 0=Y:=⟨_,rfl⟩;rw [hX] at cx;rw [hY] at cy;have HXY:=kd (And.intro hX hY);clear hX hY hpj hrow hbox;by_cases hxy:X=Y
   ·subst hxy
    go_wp2_with fail;go_quiet (fail);clear c0 cx cy;go_wp2_with fail;go_roundw;case rel=>
     refine ⟨j+1,by omega,by go_num,λ i p hi hpi=>?_,q+nq,by rw [HQ.out,drewN_drewN]⟩;by_cases hij:i=j
     ·subst hij
      rw [HPJ.out] at hpi;injection hpi with hpi
      rw [<-hpi,HXY.out.1,HXY.out.2]
     ·exact HALL.out i p (by omega) hpi
    case measure=>simp [intOf];omega
   ·have hq:((X:Int)==(Y:Int))=false:=beq_eq_false_iff_ne.2 (by omega)
    have HF:Hid (s=false):=by
     show s=false;cases s with
     | false=>rfl
     | true=>
       have:=HS.out.1 rfl (b,l) (List.mem_of_getElem? HPJ.out);rw [HXY.out.1,HXY.out.2] at this;exact absurd this hxy
    go_wp2_with fail;go_quiet (fail);clear c0 cx cy;go_wp2_with fail;go_ret;exact ⟨by rw [HF.out];rfl,q+nq,by rw [HQ.out,drewN_drewN]⟩
  ·have hje:j=m:=by omega
   subst hje;have HF:Hid (s=true):=HS.out.2 (λ p hp=>by
    obtain ⟨i,hi,hpi⟩:=List.mem_iff_getElem.1 hp;exact HALL.out i p (by rw [<-HM.out];exact hi) (by rw [List.getElem?_eq_getElem hi,hpi]))
   go_wp2_with fail;go_ret;exact ⟨by rw [HF.out];rfl,q,HQ.out⟩
def Says (n:Nat) (R:List (Int × Int × Int)) (P:List (Nat × List Nat)) (j:Nat):Prop:=
 ∀x y,x<n->y<n->((∀p∈P,p.2.getD x 0=p.2.getD y 0)↔(cnR R x y/\∀e∈R.take j,cnR (rest R e) x y))
theorem zw9 {n b:Nat} {R:List (Int × Int × Int)} {l:List Nat} (h:∀u v,u<n->v<n->(l.getD u 0=l.getD v 0↔cnR R u v)):Says n R [(b,l)] 0:=by
 intro x y hx hy;simp only [List.mem_singleton,forall_eq,List.take_zero,List.not_mem_nil,false_implies,implies_true,and_true];exact h x y hx hy
theorem zy3 {n b j:Nat} {R:List (Int × Int × Int)} {l:List Nat} {P:List (Nat × List Nat)} {e:Int × Int × Int} (h:Says n R P j) (hj:R[j]? =some e) (hl:∀u v,u<n->v<n->(l.getD u 0=l.getD v 0↔cnR (rest R e) u v)):Says n R (P++[(b,l)]) (j+1):=by
 intro x y hx hy;have h1:=h x y hx hy;have h2:=hl x y hx hy;rw [List.take_add_one,hj];simp only [Option.toList_some,List.mem_append,List.mem_singleton];constructor
 ·intro k
  have k1:=h1.1 (λ p hp=>k p (.inl hp));refine ⟨k1.1,?_⟩;rintro d (hd | rfl)
  ·exact k1.2 d hd
  ·exact h2.1 (k (b,l) (.inr rfl))
 ·rintro ⟨k1,k2⟩ p (hp | rfl)
  ·exact h1.2 ⟨k1,λ d hd=>k2 d (.inl hd)⟩ p hp
  ·exact h2.2 (k2 e (.inr rfl))
theorem zxh (n B q:Nat) (u:Value) (R:List (Int × Int × Int)) (L:List Nat) (w:World) (h:G.GAt w B 40 61 q (n:Int) u R) (hl:R.length<=120) (hn:n<=40) (hin:Inn n R) (hg:Good n L) (hL:∀x y,x<n->y<n->(L.getD x 0=L.getD y 0↔(cnR R x y/\∀e∈R,cnR (rest R e) x y))):
 Calls prog 25 #[.pointer (some ⟨q,0,none⟩)] w (zb9 w (zao L n)):=by
 have HG:=kd h;have HLL:=kd hL;have HIN:=kd hin;have hmf':=hmf;obtain ⟨i0,hi0,hz0,hz1,hz2⟩:=info_parts Tryz.info48;obtain ⟨m,hm⟩:∃m,m=R.length:=⟨_,rfl⟩;have HM:=kd hm;obtain ⟨ua,uc,hv⟩:=h.row.zal;rw [<-hm] at hv hl;have HV:=kd hv;clear h hL hin hm hv;go_enter func25,ntmps25;go_wp2_with fail;refine (zbk n B q u R w HG.out (by rw [<-HM.out];exact hl) hn HIN.out).mono ?_;rintro e w1 ⟨b0,l0,rfl,hr,hb,hll,hlab,hbl⟩;have HA0:Hid (zb5 ((w1.alloc (.cells #[.slice (some ⟨b0,0,none⟩) n n] 48)).alloc (.cells #[.slice (some ⟨w1.heap.size,0,none⟩) 1 1] 51)) w1.heap.size (w1.heap.size+1) n (.slice (some ⟨w1.heap.size,0,none⟩) 1 1) [(b0,l0)]):=zlc (Nat.le_refl _) hr hll;have HS0:Hid (Says n R [(b0,l0)] 0):=zw9 hlab;have HB0:Hid (Below w.heap.size w ((w1.alloc (.cells #[.slice (some ⟨b0,0,none⟩) n n] 48)).alloc (.cells #[.slice (some ⟨w1.heap.size,0,none⟩) 1 1] 51))):=hbl.trans ((za9 _ _ _).mono hbl.size);have hws:=hbl.size;have hg0:=HG.out.below HB0.out;have hu1:((w1.alloc (.cells #[.slice (some ⟨b0,0,none⟩) n n] 48)).alloc (.cells #[.slice (some ⟨w1.heap.size,0,none⟩) 1 1] 51)).cell? ⟨q,1,none⟩=some (.slice ua m uc):=by have:=hg0.c1;rwa [HV.out] at this
 clear hr hb hlab hbl hg0;go_wp2_with fail;go_loopw [5,14] (λ _ s14 wq=>∃(j:Nat) (v:Value) (P:List (Nat × List Nat)),j<=m/\s14= .int .i64 j/\P.length=j+1/\zb5 wq w1.heap.size (w1.heap.size+1) n v P/\Says n R P j/\Below w.heap.size w wq) (λ _ s14 _=>m-(intOf s14).toNat)
 case atStart=>exact ⟨0,_,_,Nat.zero_le _,rfl,rfl,HA0.out,HS0.out,HB0.out⟩
 case round=>
  obtain ⟨j,v,P,hj,rfl,hPl,hA,hS,hb⟩:=hrel;have HA:=kd hA;have HS:=kd hS;have HB:=kd hb;have hbs:=hb.size;clear hA hS hb HA0 HS0 HB0 hu1;by_cases hlt:j<m
  ·obtain ⟨⟨x0,x1,x2⟩,hx⟩:∃e,R[j]? =some e:=⟨_,List.getElem?_eq_getElem (by rw [<-HM.out];exact hlt)⟩
   have HX:=kd hx;obtain ⟨g,hua⟩:∃g,ua=some ⟨g,0,none⟩:=by
    rcases HG.out.row.shape with ⟨_,e⟩ | ⟨g,cap,e,_⟩
    ·rw [e] at hx;simp at hx
    ·rw [HV.out] at e
     injection e with e1 _ _
     exact ⟨g,e1⟩
   obtain ⟨r0,r1,r2⟩:=(HG.out.below HB.out).row.at (g:=g) (by rw [HV.out,hua];rfl) hx;simp only at r0 r1 r2;subst hua;clear hx;obtain ⟨W1,hW1⟩:∃W1,W1=wr.alloc (.cells #[.int .i64 x0,.int .i64 x1,.int .i64 x2] 61):=⟨_,rfl⟩;have hh:W1.heap[wr.heap.size]? =some (.cells #[.int .i64 x0,.int .i64 x1,.int .i64 x2] 61):=by rw [hW1];exact heap_alloc_new wr _
   have hbW:Below wr.heap.size wr W1:=by rw [hW1];exact (Below.refl _ _).alloc (Nat.le_refl _) _
   have HBX:=kd hh;have HBW:Hid (Below w.heap.size w W1):=HB.out.trans (hbW.mono hbs);have HAW:Hid (zb5 W1 w1.heap.size (w1.heap.size+1) n v P):=HA.out.below hbW;have HW1:=kd hW1.symm;have hsz:W1.heap.size=wr.heap.size+1:=by rw [hW1];simp
   have HPK:Hid (∀w',Below W1.heap.size W1 w'->w'.cell? ⟨wr.heap.size,0,none⟩=some (.int .i64 x0)/\w'.cell? ⟨w1.heap.size+1,0,none⟩=some v/\zb5 w' w1.heap.size (w1.heap.size+1) n v P/\w'.heap[wr.heap.size]? =some (.cells #[.int .i64 x0,.int .i64 x1,.int .i64 x2] 61)):=λ w' hb=>by
    have h1:w'.heap[wr.heap.size]? =some (.cells #[.int .i64 x0,.int .i64 x1,.int .i64 x2] 61):=(hb.block _ (by omega)).trans HBX.out;exact ⟨by simp [World.cell?,h1],zj3 (HAW.out.below hb).box,HAW.out.below hb,h1⟩
   have hlt1:w1.heap.size+1<W1.heap.size:=lt_of_some HAW.out.box;have HWO:Hid (Calls prog 58 #[.pointer (some ⟨q,0,none⟩),.slice (some ⟨wr.heap.size+1,0,none⟩) 1 1,.slice none 0 0] (W1.alloc (.cells #[.int .i64 x0] 3)).drew λ e w'=>∃q' v',e= .returned (.pointer (some ⟨q',0,none⟩))/\G.GAt w' W1.heap.size 40 61 q' (n:Int) v' (rest R (x0,x1,x2))/\Below W1.heap.size W1 w'):=by
    have hb2:Below W1.heap.size W1 (W1.alloc (.cells #[.int .i64 x0] 3)).drew:=((Below.refl _ _).alloc (Nat.le_refl _) _).drew;have hgW:=(HG.out.below HBW.out).below hb2;have h1i:G.Ints (W1.alloc (.cells #[.int .i64 x0] 3)).drew (some ⟨wr.heap.size+1,0,none⟩) 1 (λ _=>x0):=by
     have:=zq7 W1 x0;rw [hsz] at this;exact this.below ((Below.refl _ _).drew)
    refine (G.zbw (n:Int) B q u R _ none 1 0 1 0 (λ _=>x0) (λ _=>0) _ hgW (by rw [<-HM.out];omega) h1i (zlq _) (by omega) (by omega)).mono ?_;rintro e w' ⟨q',v',rfl,hg',hb'⟩;rw [zna R (x0,x1,x2)] at hg';refine ⟨q',v',rfl,⟨hg'.hp,hg'.row.mono ?_,hg'.ne⟩,hb2.trans (hb'.mono ?_)⟩
    ·exact hb2.size
    ·exact hb2.size
   have hk1:W1.drew.cell? ⟨wr.heap.size,0,none⟩=some (.int .i64 x0):=(HPK.out W1 (Below.refl _ _)).1;have hk2:W1.drew.cell? ⟨w1.heap.size+1,0,none⟩=some v:=(HPK.out W1 (Below.refl _ _)).2.1;have hk3:(W1.alloc (.cells #[.int .i64 x0] 3)).drew.cell? ⟨w1.heap.size+1,0,none⟩=some v:=(HPK.out _ (((Below.refl _ _).alloc (Nat.le_refl _) _).drew)).2.1;have hk4:W1.cell? ⟨w1.heap.size+1,0,none⟩=some v:=hk2;have hk5:(W1.alloc (.cells #[.int .i64 x0] 3)).cell? ⟨w1.heap.size+1,0,none⟩=some v:=hk3;clear hh hbW hW1;go_upto_region 5 with fail
   rw [HW1.out]
   go_region_law
    (first
      | (obtain ⟨v5,w5,hrun,hown5,hgrow5,_,_⟩:=run_append_own_at (P:=prog) (w3.alloc (.cells #[.slice (some ⟨b,0,none⟩) n n] 48)) w1.heap.size 51 51 48 i0 (.slice none 0 0) 1 24 underlying51 hi0 hz0 hz1 hz2 rfl (by decide) v P.length _ (HA3.out.own.alloc _) ⟨w3.heap.size,0,none⟩ 1 1 [.slice (some ⟨b,0,none⟩) n n] rfl (cell_one_new _ _ _) (zcu _ _ _) (by unfold maxLen;omega) (by omega) (by simp;omega)
         obtain ⟨g5,cap5,rfl⟩:=zn9 hown5 (by omega);refine G.zau rfl (.tmp 18) (.tmp 25) 51 51 rfl v (.slice (some ⟨w3.heap.size,0,none⟩) 1 1) (by first | rfl | (simp [Act.eval];done) | (simp [Act.eval,Act.put];done)) (by first | rfl | (simp [Act.eval];done) | (simp [Act.eval,Act.put];done)) hrun ?_;obtain ⟨hA5,c5,f5⟩:=HA3.out.push HR3.out.1 HR3.out.2.1 hown5 hgrow5)
      | (go_simp;go_at_call 58;refine Calls.mono HWO.out ?_;rintro e' w2 ⟨q',v',rfl,hg2,hb2⟩;obtain ⟨m1,m2,m3,m4⟩:=HPK.out w2 hb2;have HG2:Hid (G.GAt w2 W1.heap.size 40 61 q' (n:Int) v' (rest R (x0,x1,x2))/\Below W1.heap.size W1 w2):=⟨hg2,hb2⟩;clear hg2 hb2 m3 m4)
      | (go_simp;go_at_call 59;refine (zbk n W1.heap.size q' v' (rest R (x0,x1,x2)) w2 HG2.out.1 (Nat.le_trans (zke _ _) (by rw [<-HM.out];exact hl)) hn (zhp HIN.out _)).mono ?_;rintro e' w3 ⟨b,l,rfl,hr,hbb,hll',hlab,hb3⟩;have HW3:Hid (Below W1.heap.size W1 w3):=HG2.out.2.trans (hb3.mono HG2.out.2.size);obtain ⟨m5,m6,m7,m8⟩:=HPK.out w3 HW3.out;have m9:(w3.alloc (.cells #[.slice (some ⟨b,0,none⟩) n n] 48)).cell? ⟨w1.heap.size+1,0,none⟩=some v:=(HPK.out _ (HW3.out.alloc HW3.out.size _)).2.1;have HA3:Hid (zb5 w3 w1.heap.size (w1.heap.size+1) n v P):=m7;have HR3:Hid (zak w3 b l/\l.length=n/\(∀u v,u<n->v<n->(l.getD u 0=l.getD v 0↔cnR (rest R (x0,x1,x2)) u v))):=⟨hr,hll',hlab⟩;have hs3:=HW3.out.size;clear hr hbb hlab hb3 m7 m8 hll'))
   all_goals
    have hF0:(zb5 (w5.setCell ⟨w1.heap.size+1,0,none⟩ (.slice (some ⟨g5,0,none⟩) (P.length+1) cap5)) w1.heap.size (w1.heap.size+1) n (.slice (some ⟨g5,0,none⟩) (P.length+1) cap5) (P++[(b,l)])/\Below w.heap.size w (w5.setCell ⟨w1.heap.size+1,0,none⟩ (.slice (some ⟨g5,0,none⟩) (P.length+1) cap5))):=by
     refine ⟨hA5,?_⟩;have hb3:Below w.heap.size w w3:=HBW.out.trans (HW3.out.mono HBW.out.size);exact (hb3.grown ((World.grownBy_alloc w3 _ _).trans hgrow5) hb3.size (λ j hj=>Nat.le_trans hws (HA3.out.own.lt j hj).1)).setCell (show w.heap.size<=w1.heap.size+1 by omega) _
    rw [hPl] at hF0;have HF:Hid _:=hF0;clear hA5 hgrow5 hown5 hrun c5 f5 hF0;go_wp2_with fail;go_roundw;case rel=>exact ⟨j+1,_,P++[(b,l)],by omega,by go_num,by simp [hPl],HF.out.1,zy3 HS.out HX.out HR3.out.2.2,HF.out.2⟩
    case measure=>simp [intOf];omega
  ·have hje:j=m:=by omega
   subst hje;have hgr:=HG.out.below HB.out;have hc:=hgr.c0;have HAL:Hid (Alike 74 wr n (w1.heap.size+1) L):=by
    intro W' hW' x y s hx hy hs;refine yaaa x y (w1.heap.size+1) n w1.heap.size v P s W' (HA.out.below hW') (by omega) (by omega) hx hy ?_;have ht:R.take j=R:=List.take_of_length_le (by rw [<-HM.out];omega);have h1:=HS.out x y hx hy;rw [ht] at h1;rw [h1,<-HLL.out x y hx hy,<-hs,beq_iff_eq];omega
   clear hgr;go_wp2_with fail;refine (zsk n (w1.heap.size+1) L wr HAL.out hg hn).mono ?_;rintro e w2 ⟨t,r,c,rfl,hP,hb2⟩;have HF:Hid (zb9 w (zao L n) (.returned t) w2):=zgy hP hb2 HB.out;clear hP hb2;go_wp2;go_ret;exact HF.out
theorem zv8 (a1 a2:Option Addr) (gl c1 c2:Nat) (F:Nat->Int) (w:World) (h:0<gl->∃r1 r2,a1=some ⟨r1,0,none⟩/\a2=some ⟨r2,0,none⟩/\(∀j,j<gl->w.cell? ⟨r1,j,none⟩=some (.int .i64 (F j)))/\∀j,j<gl->w.cell? ⟨r2,j,none⟩=some (.int .i64 (F j))) (hgl:gl<=1000000):
 Calls prog 60 #[.slice a1 gl c1,.slice a2 gl c2] w λ e w'=>e= .returned (.bool true)/\∃n,w'=w.drewN n:=by
 have HH:=(show Hid _ from h);clear h;go_enter func60,ntmps60;go_wp2_with fail;go_loopw [5] (λ s5 wq=>∃j:Nat,j<=gl/\s5= .int .i64 j/\∃q,wq=w.drewN q) (λ s5 _=>gl-(intOf s5).toNat)
 case atStart=>exact ⟨0,Nat.zero_le _,rfl,0,rfl⟩
 case round=>
  obtain ⟨j,hj,rfl,q,hq0⟩:=hrel;have HQ:=kd hq0;clear hq0;by_cases hlt:j<gl
  ·obtain ⟨r1,r2,rfl,rfl,h1,h2⟩:=HH.out (by omega)
   have c1':wr.cell? ⟨r1,j,none⟩=some (.int .i64 (F j)):=by rw [HQ.out];exact h1 j hlt
   have c2':wr.cell? ⟨r2,j,none⟩=some (.int .i64 (F j)):=by rw [HQ.out];exact h2 j hlt
   generalize F j=x at*;clear h1 h2;go_wp2_with fail;go_quiet (fail);clear c1' c2';go_wp2_with fail;go_roundw;case rel=>exact ⟨j+1,by omega,by go_num,q+nq,by rw [HQ.out,drewN_drewN]⟩
   case measure=>simp [intOf];omega
  ·go_wp2_with fail
   go_ret;exact ⟨rfl,q,HQ.out⟩
def Has (F:Nat->Nat) (k x:Nat):Prop:=∃j,j<k/\F j=x
theorem zpo (F:Nat->Nat) (x:Nat):¬Has F 0 x:=λ ⟨_,h,_⟩=>by omega
theorem zc6 {F:Nat->Nat} {k x:Nat} (h:F k=x):Has F (k+1) x:=⟨k,by omega,h⟩
theorem zeh {F:Nat->Nat} {k x:Nat} (h:Has F k x):Has F (k+1) x:=by
 obtain ⟨j,h1,h2⟩:=h;exact ⟨j,by omega,h2⟩
theorem zdk {F:Nat->Nat} {k x:Nat} (h:¬Has F k x) (hk:F k≠x):¬Has F (k+1) x:=by
 rintro ⟨j,h1,h2⟩;by_cases hj:j=k
 ·subst hj;exact hk h2
 ·exact h ⟨j,by omega,h2⟩
def zes (F:Nat->Nat) (k a b:Nat) (s9:Value):Prop:=
 (s9= .int .i64 0/\¬Has F k a/\¬Has F k b)\/(s9= .int .i64 1/\Has F k a/\¬Has F k b)\/(s9= .int .i64 2/\¬Has F k a/\Has F k b)\/(s9= .int .i64 3/\Has F k a/\Has F k b)
theorem z7e (ad:Option Addr) (c cap a b:Nat) (Gs:List (List Nat)) (s:Bool) (w:World) (h:0<c->∃g,ad=some ⟨g,0,none⟩/\zcf w g Gs c) (hc:c<=1000) (hgl:∀i,(Gs.getD i []).length<=1000) (hs:s=true↔∃i,i<c/\Has (λ j=>(Gs.getD i []).getD j 0) (Gs.getD i []).length a/\Has (λ j=>(Gs.getD i []).getD j 0) (Gs.getD i []).length b):
 Calls prog 28 #[.slice ad c cap,.int .i64 (a:Int),.int .i64 (b:Int)] w λ e w'=>e= .returned (.bool s)/\w'=w:=by
 have HH:=(show Hid _ from h);have HS:=(show Hid _ from hs);clear h hs;go_enter func28,ntmps28;go_wp2_with fail;go_loopw [14] (λ s14 wq=>∃i:Nat,i<=c/\s14= .int .i64 i/\(∀i',i'<i->¬(Has (λ j=>(Gs.getD i' []).getD j 0) (Gs.getD i' []).length a/\Has (λ j=>(Gs.getD i' []).getD j 0) (Gs.getD i' []).length b))/\wq=w) (λ s14 _=>c-(intOf s14).toNat)
 case atStart=>exact ⟨0,Nat.zero_le _,rfl,λ i' hi=>by omega,rfl⟩
 case round=>
  obtain ⟨i,hi,rfl,hno,hw⟩:=hrel;subst hw;have HNO:=(show Hid _ from hno);clear hno;by_cases hlt:i<c
  ·obtain ⟨g,rfl,hrows⟩:=HH.out (by omega)
   obtain ⟨r,cp,c0,cells⟩:=hrows i hlt;have hgl':=hgl i;obtain ⟨gl,hgle⟩:∃gl,(Gs.getD i []).length=gl:=⟨_,rfl⟩;obtain ⟨F,hF⟩:∃F,F=λ j=>(Gs.getD i []).getD j 0:=⟨_,rfl⟩
   have HGL:=kd (And.intro hgle hF);have HC:Hid (∀j,j<gl->wr.cell? ⟨r,j,none⟩=some (.int .i64 ((F j:Nat):Int))):=λ j hj=>by
    rw [hF];exact cells j (by rw [hgle];exact hj)
   rw [hgle] at c0 hgl';clear cells hrows hgle hF;go_wp2_with fail;clear c0;go_loopw [9,20] (λ s9 s20 wq=>∃k:Nat,k<=gl/\s20= .int .i64 k/\zes F k a b s9/\wq=wr) (λ _ s20 _=>gl-(intOf s20).toNat)
   case atStart=>exact ⟨0,Nat.zero_le _,rfl,.inl ⟨rfl,zpo _ _,zpo _ _⟩,rfl⟩
   case round=>
    obtain ⟨k,hk,rfl,hin,hw'⟩:=hrel;subst hw';by_cases hlt':k<gl
    ·have ck:=HC.out k hlt'
     obtain ⟨z,hz⟩:∃z,F k=z:=⟨_,rfl⟩;have HZ:=kd hz;rw [hz] at ck;clear hz;by_cases hza:z=a <;> by_cases hzb:z=b
     ·subst hza
      subst hzb;have HF:Hid (zes F (k+1) z z (.int .i64 3)):=.inr (.inr (.inr ⟨rfl,zc6 HZ.out,zc6 HZ.out⟩));rcases hin with ⟨rfl,h1,h2⟩ | ⟨rfl,h1,h2⟩ | ⟨rfl,h1,h2⟩ | ⟨rfl,h1,h2⟩
      all_goals
       clear h1 h2;go_wp2_with fail;go_roundw;case rel=>exact ⟨k+1,by omega,by go_num,HF.out,by first | trivial | rfl⟩
       case measure=>simp [intOf];omega
     ·subst hza
      have hq:((z:Int)==(b:Int))=false:=beq_eq_false_iff_ne.2 (by omega);have hne:F k≠b:=by rw [HZ.out];exact hzb
      rcases hin with ⟨rfl,h1,h2⟩ | ⟨rfl,h1,h2⟩ | ⟨rfl,h1,h2⟩ | ⟨rfl,h1,h2⟩
      ·have HF:Hid (zes F (k+1) z b (.int .i64 1)):=.inr (.inl ⟨rfl,zc6 HZ.out,zdk h2 hne⟩)
       clear h1 h2 hne;go_wp2_with fail;go_roundw;case rel=>exact ⟨k+1,by omega,by go_num,HF.out,by first | trivial | rfl⟩
       case measure=>simp [intOf];omega
      ·have HF:Hid (zes F (k+1) z b (.int .i64 1)):=.inr (.inl ⟨rfl,zc6 HZ.out,zdk h2 hne⟩)
       clear h1 h2 hne;go_wp2_with fail;go_roundw;case rel=>exact ⟨k+1,by omega,by go_num,HF.out,by first | trivial | rfl⟩
       case measure=>simp [intOf];omega
      ·have HF:Hid (zes F (k+1) z b (.int .i64 3)):=.inr (.inr (.inr ⟨rfl,zc6 HZ.out,zeh h2⟩))
       clear h1 h2 hne;go_wp2_with fail;go_roundw;case rel=>exact ⟨k+1,by omega,by go_num,HF.out,by first | trivial | rfl⟩
       case measure=>simp [intOf];omega
      ·have HF:Hid (zes F (k+1) z b (.int .i64 3)):=.inr (.inr (.inr ⟨rfl,zc6 HZ.out,zeh h2⟩))
       clear h1 h2 hne;go_wp2_with fail;go_roundw;case rel=>exact ⟨k+1,by omega,by go_num,HF.out,by first | trivial | rfl⟩
       case measure=>simp [intOf];omega
     ·subst hzb
      have hq:((z:Int)==(a:Int))=false:=beq_eq_false_iff_ne.2 (by omega);have hne:F k≠a:=by rw [HZ.out];exact hza
      rcases hin with ⟨rfl,h1,h2⟩ | ⟨rfl,h1,h2⟩ | ⟨rfl,h1,h2⟩ | ⟨rfl,h1,h2⟩
      ·have HF:Hid (zes F (k+1) a z (.int .i64 2)):=.inr (.inr (.inl ⟨rfl,zdk h1 hne,zc6 HZ.out⟩))
       clear h1 h2 hne;go_wp2_with fail;go_roundw;case rel=>exact ⟨k+1,by omega,by go_num,HF.out,by first | trivial | rfl⟩
       case measure=>simp [intOf];omega
      ·have HF:Hid (zes F (k+1) a z (.int .i64 3)):=.inr (.inr (.inr ⟨rfl,zeh h1,zc6 HZ.out⟩))
       clear h1 h2 hne;go_wp2_with fail;go_roundw;case rel=>exact ⟨k+1,by omega,by go_num,HF.out,by first | trivial | rfl⟩
       case measure=>simp [intOf];omega
      ·have HF:Hid (zes F (k+1) a z (.int .i64 2)):=.inr (.inr (.inl ⟨rfl,zdk h1 hne,zc6 HZ.out⟩))
       clear h1 h2 hne;go_wp2_with fail;go_roundw;case rel=>exact ⟨k+1,by omega,by go_num,HF.out,by first | trivial | rfl⟩
       case measure=>simp [intOf];omega
      ·have HF:Hid (zes F (k+1) a z (.int .i64 3)):=.inr (.inr (.inr ⟨rfl,zeh h1,zc6 HZ.out⟩))
       clear h1 h2 hne;go_wp2_with fail;go_roundw;case rel=>exact ⟨k+1,by omega,by go_num,HF.out,by first | trivial | rfl⟩
       case measure=>simp [intOf];omega
     ·have hq:((z:Int)==(a:Int))=false:=beq_eq_false_iff_ne.2 (by omega)
      have hq2:((z:Int)==(b:Int))=false:=beq_eq_false_iff_ne.2 (by omega);have hne:F k≠a:=by rw [HZ.out];exact hza
      have hne2:F k≠b:=by rw [HZ.out];exact hzb
      have HF:Hid (zes F (k+1) a b u9):=by
       rcases hin with ⟨h0,h1,h2⟩ | ⟨h0,h1,h2⟩ | ⟨h0,h1,h2⟩ | ⟨h0,h1,h2⟩
       ·exact .inl ⟨h0,zdk h1 hne,zdk h2 hne2⟩
       ·exact .inr (.inl ⟨h0,zeh h1,zdk h2 hne2⟩)
       ·exact .inr (.inr (.inl ⟨h0,zdk h1 hne,zeh h2⟩))
       ·exact .inr (.inr (.inr ⟨h0,zeh h1,zeh h2⟩))
      clear hin hne hne2;go_wp2_with fail;go_roundw;case rel=>exact ⟨k+1,by omega,by go_num,HF.out,by first | trivial | rfl⟩
      case measure=>simp [intOf];omega
    ·have hke:k=gl:=by omega
     subst hke;have HOUT:Hid (∀{i':Nat},i'<i+1->¬(Has F k a/\Has F k b)->¬(Has (λ j=>(Gs.getD i' []).getD j 0) (Gs.getD i' []).length a/\Has (λ j=>(Gs.getD i' []).getD j 0) (Gs.getD i' []).length b)):=λ {i'} hi' hno=>by
      by_cases he:i'=i
      ·subst he
       rw [<-HGL.out.2,HGL.out.1];exact hno
      ·exact HNO.out i' (by omega)
     rcases hin with ⟨rfl,h1,h2⟩ | ⟨rfl,h1,h2⟩ | ⟨rfl,h1,h2⟩ | ⟨rfl,h1,h2⟩
     ·have HN:Hid (¬(Has F k a/\Has F k b)):=λ k=>h1 k.1
      clear h1 h2;go_wp2_with fail;go_roundw;case rel=>exact ⟨i+1,by omega,by go_num,λ i' hi'=>HOUT.out hi' HN.out,by first | trivial | rfl⟩
      case measure=>simp [intOf];omega
     ·have HN:Hid (¬(Has F k a/\Has F k b)):=λ k=>h2 k.2
      clear h1 h2;go_wp2_with fail;go_roundw;case rel=>exact ⟨i+1,by omega,by go_num,λ i' hi'=>HOUT.out hi' HN.out,by first | trivial | rfl⟩
      case measure=>simp [intOf];omega
     ·have HN:Hid (¬(Has F k a/\Has F k b)):=λ k=>h1 k.1
      clear h1 h2;go_wp2_with fail;go_roundw;case rel=>exact ⟨i+1,by omega,by go_num,λ i' hi'=>HOUT.out hi' HN.out,by first | trivial | rfl⟩
      case measure=>simp [intOf];omega
     ·have HF:Hid (s=true):=HS.out.2 ⟨i,hlt,by rw [<-HGL.out.2,HGL.out.1];exact h1,by rw [<-HGL.out.2,HGL.out.1];exact h2⟩
      clear h1 h2;go_wp2_with fail;go_ret;exact ⟨by rw [HF.out];rfl,rfl⟩
  ·have hie:i=c:=by omega
   subst hie;have HF:Hid (s=false):=by
    show s=false;cases s with
    | false=>rfl
    | true=>
      obtain ⟨i',hi',h1⟩:=HS.out.1 rfl;exact absurd h1 (HNO.out i' hi')
   go_wp2_with fail;go_ret;exact ⟨by rw [HF.out];rfl,rfl⟩
theorem z5g {n:Nat} {L:List Nat} (g:Good n L) {a b:Nat} (ha:a<n) (hb:b<n):
 L.getD a 0=L.getD b 0↔∃i,i<(zao L n).length/\Has (λ j=>((zao L n).getD i []).getD j 0) ((zao L n).getD i []).length a/\Has (λ j=>((zao L n).getD i []).getD j 0) ((zao L n).getD i []).length b:=by
 have key:∀(K:List Nat) (x:Nat),Has (λ j=>K.getD j 0) K.length x↔x∈K:=by
  intro K x;constructor
  ·rintro ⟨j,hj,rfl⟩
   simp [hj]
  ·intro hx
   obtain ⟨j,hj,rfl⟩:=List.mem_iff_getElem.1 hx;exact ⟨j,hj,by simp [hj]⟩
 simp only [key];constructor
 ·intro e
  have hlt:L.getD a 0<n:=Nat.lt_of_le_of_lt (g.le a ha) ha;have hm:∀x,x<n->L.getD x 0=L.getD a 0->x∈grp L n (L.getD a 0):=λ x hx hxe=>by
   unfold grp;rw [List.mem_filter];exact ⟨by simpa using hx,by simpa using hxe⟩
  have hG:grp L n (L.getD a 0)∈zao L n:=by
   unfold zao;rw [List.mem_filter];refine ⟨List.mem_map.2 ⟨L.getD a 0,by simpa using hlt,by rw [g.len]⟩,?_⟩;have:=hm a ha rfl;cases hh:grp L n (L.getD a 0) with
   | nil=>rw [hh] at this;simp at this
   | cons x xs=>rfl
  obtain ⟨i,hi,hie⟩:=List.mem_iff_getElem.1 hG;refine ⟨i,hi,?_,?_⟩
  ·have:(zao L n).getD i []=grp L n (L.getD a 0):=by simp [hi,hie]
   rw [this];exact hm a ha rfl
  ·have:(zao L n).getD i []=grp L n (L.getD a 0):=by simp [hi,hie]
   rw [this];exact hm b hb e.symm
 ·rintro ⟨i,hi,h1,h2⟩
  obtain ⟨x,_,_,hx⟩:=ztk g i hi;rw [hx] at h1 h2;unfold grp at h1 h2;rw [List.mem_filter] at h1 h2;have e1:L.getD a 0=x:=by simpa using h1.2
  have e2:L.getD b 0=x:=by simpa using h2.2
  rw [e1,e2]
open Go.RowKit Go.WideMaps Go.Maps
theorem zx5 {n M:Nat} {R L:List (Int × Int × Int)} (h:Ed n M L) (hi:G.Inv R L):Inn n R:=λ e he=>by
 have hn:=h.nat (hi.perm.subset he);exact ⟨hn.2.2.1,hn.2.2.2.1,hn.1,hn.2.1⟩
theorem yaby {n:Nat} {R:List (Int × Int × Int)} (h:Inn n R) (x:Nat) (Fe:Nat->Int):R.filter (G.stays Fe (λ _=>(x:Int)) 0 1)=wo R x:=by
 unfold wo;apply List.filter_congr;intro e he;obtain ⟨_,_,h1,h2⟩:=h e he;unfold G.stays G.among;rw [h1,h2,Bool.eq_iff_iff];simp;omega
theorem zzt {n:Nat} {R:List (Int × Int × Int)} (h:Inn n R) (x:Nat):Inn n (wo R x):=λ e he=>h e (zdm.1 he).1
theorem z0k (R:List (Int × Int × Int)) (x:Nat):(wo R x).length<=R.length:=List.length_filter_le _ _
theorem zmk {R L:List (Int × Int × Int)} (h:R.Perm L) {u v:Nat}:cnR R u v↔cnR L u v:=
 ⟨λ k=>za4 k λ _ he=>h.subset he,λ k=>za4 k λ _ he=>h.symm.subset he⟩
theorem zum {R L:List (Int × Int × Int)} (h:R.Perm L) (x:Nat):(wo R x).Perm (wo L x):=h.filter _
theorem one_id' (w:World) (x:Int):G.Ints (w.alloc (.cells #[.int .i64 x] 3)) (some ⟨w.heap.size,0,none⟩) 1 (λ _=>x):=
 ⟨λ _=>⟨w.heap.size,0,rfl,λ t ht=>by
   have:t=0:=by omega
   subst this;simp⟩⟩
theorem yacd {n:Nat} {L:List (Int × Int × Int)} (hin:∀e∈L,ea e<n/\eb e<n) {u v:Nat} (h:cnR L u v):u=v\/(u<n/\v<n):=
 zae.least (P:=λ u v=>u=v\/(u<n/\v<n)) h (λ _=>.inl rfl) (by rintro x y (h | h);exact .inl h.symm;exact .inr ⟨h.2,h.1⟩) (by
  rintro x y z (rfl | h) (rfl | k)
  ·exact .inl rfl
  ·exact .inr k
  ·exact .inr h
  ·exact .inr ⟨h.1,k.2⟩) (by
  rintro _ _ ⟨e,he,rfl,rfl⟩;exact .inr (hin e he))
def gd (was l:List Nat) (x a b:Nat):Prop:=a≠x/\b≠x/\was.getD a 0=was.getD b 0/\l.getD a 0≠l.getD b 0
theorem z92 {n M x:Nat} {L:List (Int × Int × Int)} {was l:List Nat} (h:Ed n M L) (hw:∀u v,u<n->v<n->(was.getD u 0=was.getD v 0↔cnR L u v)) (hl:∀u v,u<n->v<n->(l.getD u 0=l.getD v 0↔cnR (wo L x) u v)):
 (∃a,a<n/\∃b,b<a/\gd was l x a b)↔zh7 L x:=by
 unfold zh7;rw [<-z7s h.proper];constructor
 ·rintro ⟨a,ha,b,hb,h1,h2,h3,h4⟩
  exact ⟨a,b,h1,h2,(hw a b ha (by omega)).1 h3,λ c=>h4 ((hl a b ha (by omega)).2 c)⟩
 ·rintro ⟨u,v,h1,h2,h3,h4⟩
  have hlt:u<n/\v<n:=by
   rcases yacd h.inn h3 with rfl | k
   ·exact absurd (zaw _) h4
   ·exact k
  have hg:gd was l x u v:=⟨h1,h2,(hw u v hlt.1 hlt.2).2 h3,λ c=>h4 ((hl u v hlt.1 hlt.2).1 c)⟩;rcases Nat.lt_trichotomy u v with c | c | c
  ·exact ⟨v,hlt.2,u,c,h2,h1,hg.2.2.1.symm,λ k=>hg.2.2.2 k.symm⟩
  ·subst c;exact absurd (zaw _) h4
  ·exact ⟨u,hlt.1,v,c,hg⟩
def Pb (was l:List Nat) (x a b:Nat) (pb:Bool):Prop:=pb=true↔((∃a',a'<a/\∃b',b'<a'/\gd was l x a' b')\/∃b',b'<b/\gd was l x a b')
theorem z2c (was l:List Nat) (x:Nat):Pb was l x 0 0 false:=by
 unfold Pb;refine ⟨λ h=>(by cases h),?_⟩;rintro (⟨a,h,_⟩ | ⟨b,h,_⟩) <;> omega
theorem zxk {was l:List Nat} {x a b:Nat} {pb:Bool} (h:Pb was l x a b pb) (hg:pb=true\/gd was l x a b):Pb was l x a (b+1) true:=by
 unfold Pb at h ⊢;refine ⟨λ _=>?_,λ _=>rfl⟩;rcases hg with hg | hg
 ·rcases h.1 hg with k | ⟨b',hb,k⟩
  ·exact .inl k
  ·exact .inr ⟨b',by omega,k⟩
 ·exact .inr ⟨b,by omega,hg⟩
theorem zo1 {was l:List Nat} {x a b:Nat} (h:Pb was l x a b false) (hg:¬gd was l x a b):Pb was l x a (b+1) false:=by
 unfold Pb at h ⊢;refine ⟨λ c=>(by cases c),?_⟩;rintro (k | ⟨b',hb,k⟩)
 ·exact h.2 (.inl k)
 ·by_cases c:b'=b
  ·subst c;exact absurd k hg
  ·exact h.2 (.inr ⟨b',by omega,k⟩)
theorem z6g {was l:List Nat} {x a:Nat} {pb:Bool} (h:Pb was l x a a pb):Pb was l x (a+1) 0 pb:=by
 unfold Pb at h ⊢;rw [h];constructor
 ·rintro (⟨a',ha,k⟩ | k)
  ·exact .inl ⟨a',by omega,k⟩
  ·exact .inl ⟨a,by omega,k⟩
 ·rintro (⟨a',ha,k⟩ | ⟨b',hb,_⟩)
  ·by_cases c:a'=a
   ·subst c;exact .inr k
   ·exact .inl ⟨a',by omega,k⟩
  ·omega
theorem yaa7 {was l:List Nat} {x n:Nat} {pb:Bool} (h:Pb was l x n 0 pb):pb=true↔∃a,a<n/\∃b,b<a/\gd was l x a b:=by
 unfold Pb at h;rw [h];constructor
 ·rintro (k | ⟨b',hb,_⟩)
  ·exact k
  ·omega
 ·exact λ k=>.inl k
end Go.Proofs.YtebcjaenhiiflaaGreatDoor.S
