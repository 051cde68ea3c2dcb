import Derived.Test.YtebcjaenhiiflaaGreatDoorQJeQc
import Derived.Test.YtebcjaenhiiflaaGreatDoorQKVxKT
import Derived.Test.YtebcjaenhiiflaaGreatDoorQXfFl
set_option maxHeartbeats 1000000
set_option maxRecDepth 100000
namespace Go.Proofs.Y.S
open Go.Proofs.Tryz
open Go.RowKit Go.WideMaps Go.Maps
theorem Re (n:Nat)(L S:List Edg)(f:Edg->Nat):Good n (Ku n L S f):=Er (Vn _ n n (aF _))
theorem zpg (n:Nat)(t o:List Edg)(e:Edg)(h:o.length<=127):Be n t o e<340282366920938463463374607431768211456:=by
 have h1:=Mj (Xm n t o e) o.length;have h2:2^o.length<=2^128:=Nat.pow_le_pow_right (by omega) (by omega);unfold Be;have h3:(2:Nat)^128=340282366920938463463374607431768211456:=by decide
 omega
theorem Cv.cx {w0 w:World}{c mb rest:Nat}{S L:List Edg}{f:Edg->Nat}(h:Cv w0 w c mb rest S f)(hS:∀e,e∈S↔e∈L)(JD:(L.map (·.1)).Pairwise (·<·))(GL:∀e∈L,(Lit.int .i64 e.1).wf=true)(hl:L.length<=120)(hSl:S.length<=120):Cx w c mb rest S L f:=by
 refine⟨h.co,hS,JD,GL,hl,λ D N ho hm=>?_⟩;obtain⟨D0,N0,k1,k2,k3⟩:=h.mp;obtain⟨es,clock,j4,F1,EK,rfl⟩:=k1;obtain⟨es',clock',j5,F2,DJ,rfl⟩:=ho;rw[j4] at j5;cases j5;exact⟨es,clock,j4,F2,by omega,rfl⟩
structure Cw (w:World) (c mb q bq n:Nat) (L:List Edg):Prop where
 cx:Cx w c mb (grw n L).2.length ((grw n L).2++(grw n L).1) L (Be n (grw n L).1 (grw n L).2)
 hc:∃x y,w.heap[c]? =some (.cells #[x,y,.pointer q] 206)
 sets:Aa w q bq (Ku n L ((grw n L).2++(grw n L).1) (Be n (grw n L).1 (grw n L).2))
theorem zck (n B p:Nat)(v:Value)(L:List Edg)(w:World)(h:G.GAt w B 168 61 p (n:Int) v L)(p8:Ok n L)(JD:(L.map (·.1)).Pairwise (·<·)):
 Calls prog 82 #[.pointer p] w λ e w'=>∃c mb q bq,e=Value.pointer (some ⟨c,0,none⟩)/\Cw w' c mb q bq n L/\Below w w w':=by
 have hg:=P6 L p8.nd p8.inn.nodes;have hS:∀e,e∈(grw n L).2++(grw n L).1↔e∈L:=λ e=>by rw[aK,hg.mem e];exact or_comm
 have hl:=p8.len;have hSl:((grw n L).2++(grw n L).1).length<=120:=by rw[aM];have:=hg.len;omega
 have hf:∀d,Be n (grw n L).1 (grw n L).2 d<340282366920938463463374607431768211456:=λ d=>zpg n _ _ d (by have:=hg.len;omega)
 refine(zpw n B p v L _ w h p8 (λ W c mb MU=>yt n B p c mb _ v L _ _ w W (h.below MU.below) MU p8 hS hf hSl)).mono ?_;rintro e w' ⟨c,mb,q,bq,rfl,MU,hc,hs⟩;exact⟨c,mb,q,bq,rfl,⟨MU.cx hS JD p8.wf p8.len hSl,⟨_,_,hc⟩,hs⟩,MU.below⟩
end Go.Proofs.Y.S
namespace Go.Proofs.Y.I
open Go.Proofs.Tryz
open Go.RowKit Go.WideMaps Go.Maps Go.Lib
variable {w0 w w':World} {a b x p q n:Nat} {v:Value} {L R B:List G.E} {W T:List Nat} {D:DataW Unit} {pw bw pt bt mp N g:Nat}
theorem Ok.inE (h:Ok n L):S.InE n L:=by
 intro e he;have:=h.ed e he;unfold S.ea S.eb;omega
theorem Ok.ed' (h:Ok n L):S.Ed n 120 L:=by
 refine⟨h.up,λ e he=>(h.ed e he).1,λ e he=>?_,h.len⟩;have:=h.ed e he;refine⟨e.2.1.toNat,e.2.2.toNat,by omega,by omega,?_⟩;rw[kW (by omega),kW (by omega)]
theorem Ok.ups (h:Ok n L):(L.map (·.1)).Pairwise (·<·):=iB.2 h.up
theorem Ok.cyc (h:Ok n L):S.Ok n L:=by
 have JD:L.Pairwise λ x y=>x.1<y.1:=h.up
 exact⟨h.inE,JD.imp (λ h k=>by rw[k] at h;omega),S.Wj h.ups,λ e he=>S.zed (h.ed e he).1,h.len,h.n40⟩
noncomputable def Gc (n:Nat)(L:List G.E):List Int:=open Classical in ((List.range n).filter λ x=>decide (S.Nn L x)).map λ x:Nat=>(x:Int)
theorem Rq {cs:List Nat}(h:S.Dq L n cs):(cs.map λ x:Nat=>(x:Int))=Gc n L:=by
 have e:cs=open Classical in (List.range n).filter λ x=>decide (S.Nn L x):=by
  refine jY (le:=(·<·)) (λ a b _ _ h1 h2=>by omega) h.up ?_ ?_
  ·exact eG _ iA
  ·refine(List.perm_ext_iff_of_nodup (h.up.imp (λ {a b} k=>by omega)) ?_).2 λ y=>?_
   ·exact eG _ List.nodup_range
   ·rw[h.mem y,aO,bF]
    simp
 unfold Gc;rw[<-e]
noncomputable def blz (n:Nat)(L:List G.E):List (List Nat):=
 open Classical in if h:∃M,S.Bs L n [] M then S.Ha L h.choose else []
theorem zi1 {M:List Nat}(h:S.Bs L n [] M):S.Ha L M=blz n L:=by
 have hx:∃M,S.Bs L n [] M:=⟨M,h⟩;unfold blz;rw[kL hx];have k:=hx.choose_spec;rw[S.Wp h.good k.good (λ u v=>(h.alike u v).trans (k.alike u v).symm)]
def thz (n:Nat)(L:List G.E):List (List Nat):=S.Ar (S.Ku n L ((S.grw n L).2++(S.grw n L).1) (S.Be n (S.grw n L).1 (S.grw n L).2)) n
def prz (n:Nat)(L:List G.E):List (Int × Int):=S.Ak (L.filter λ e=>decide (S.Be n (S.grw n L).1 (S.grw n L).2 e≠0)) λ e d=>decide (S.Be n (S.grw n L).1 (S.grw n L).2 e=S.Be n (S.grw n L).1 (S.grw n L).2 d)
noncomputable def spz (n:Nat)(L:List G.E):List (Nat × Nat):=open Classical in S.X.Bj (λ a b=>decide (S.X.Mt L n a b)) n n
theorem zuk (h:IV w a b x n L):
 Calls prog 34 #[.pointer x] w λ e w'=>∃a c,e=Value.slice a (Gc n L).length c/\Zs w' a (Gc n L)/\Below w w w':=by
 obtain⟨p,q,v,R,B,W,T,D,pw,bw,pt,bt,mp,N,g,h⟩:=h;have HO:Hid _:=S.zbi n g p 120 v L w h.gra h.ok.n40 h.ok.ed' (aF _);have hn:=h.ok.n40;have hc:=h.ix.c0;clear h;go_enter func34,ntmps34;go_wp2_with fail;refine aA HO.o ?_;rintro e w1 ⟨pb,mb,Nb,Db,vb,Lb,cs,rfl,BH,hN,QM,EI,KC,o7,hb⟩;have HB:Hid _:=S.zhu pb mb Nb w Db vb cs w1 BH o7 (by have:=KC.len;omega);have HC:=kd (And.intro KC hb);clear BH QM EI KC o7 hb HO hc;go_wp2_with fail;refine aA HB.o ?_;rintro e w2 ⟨v',rfl,hr,j5⟩;have HR:Hid _:=hr;have y5:Hid _:=j5;clear hr j5 HB;go_wp2_with fail;go_ret;have hr:=HR.o;have e1:S.Cy cs=(Gc n L).map (Value.int .i64):=by
  rw[<-Rq HC.o.1,fB];rfl
 have e2:cs.length=(Gc n L).length:=by rw[<-Rq HC.o.1,aS]
 rw[e1,e2] at hr;obtain⟨a',c,rfl,hs⟩:=K9 hr;exact⟨a',c,rfl,hs,HC.o.2.tr y5.o⟩
theorem zrk (h:IV w a b x n L):
 Calls prog 36 #[.pointer x] w λ e w'=>∃v,e= .returned v/\S.Hf w' v (blz n L)/\Below w w w':=by
 obtain⟨p,q,v,R,B,W,T,D,pw,bw,pt,bt,mp,N,g,h⟩:=h;have HO:Hid _:=S.zbi n g p 120 v L w h.gra h.ok.n40 h.ok.ed' (aF _);have HK:=kd h.ok;have hc:=h.ix.c0;clear h;go_enter func36,ntmps36;go_wp2_with fail;refine aA HO.o ?_;rintro e w1 ⟨pb,mb,Nb,Db,vb,Lb,cs,rfl,BH,hN,QM,EI,KC,o7,hb⟩;have HB:Hid _:=S.zc3 pb mb Nb Db vb w1 BH QM EI.good HK.o.up (λ e he=>(HK.o.ed e he).1) HK.o.len (by omega);have HC:=kd (And.intro EI hb);clear BH QM EI KC o7 hb HO hc;go_wp2_with fail;refine aA HB.o ?_;rintro e w2 ⟨v',rfl,hr,j5⟩;have HR:Hid _:=hr;have y5:Hid _:=j5;clear hr j5 HB;go_wp2_with fail;go_ret;exact⟨_,rfl,by rw[<-zi1 HC.o.1];exact HR.o,HC.o.2.tr y5.o⟩
theorem zq8 (h:IV w a b x n L):
 Calls prog 37 #[.pointer x] w λ e w'=>∃v,e= .returned v/\S.Hf w' v (thz n L)/\Below w w w':=by
 obtain⟨p,q,v,R,B,W,T,D,pw,bw,pt,bt,mp,N,g,h⟩:=h;have HO:Hid _:=S.zck n g p v L w h.gra h.ok.cyc h.ok.ups;have hn:=h.ok.n40;have hc:=h.ix.c0;clear h;go_enter func37,ntmps37;go_wp2_with fail;refine aA HO.o ?_;rintro e w1 ⟨c,mb,qc,bq,rfl,hcw,hb⟩;obtain⟨c1,c2,LU⟩:=hcw.hc;have HB:Hid _:=S.zax c qc bq n c1 c2 _ w1 LU hcw.sets (S.Re _ _ _ _) hn;have HC:=kd hb;clear hcw hb LU HO hc;go_wp2_with fail;refine aA HB.o ?_;rintro e w2 ⟨v',rfl,hr,j5⟩;have HR:Hid _:=hr;have y5:Hid _:=j5;clear hr j5 HB;go_wp2_with fail;go_ret;exact⟨_,rfl,HR.o,HC.o.tr y5.o⟩
theorem zr5 (h:IV w a b x n L):
 Calls prog 38 #[.pointer x] w λ e w'=>∃v,e= .returned v/\S.Aq w' w v (prz n L)/\Below w w w':=by
 obtain⟨p,q,v,R,B,W,T,D,pw,bw,pt,bt,mp,N,g,h⟩:=h;have HO:Hid _:=S.zck n g p v L w h.gra h.ok.cyc h.ok.ups;have hc:=h.ix.c0;clear h;go_enter func38,ntmps38;go_wp2_with fail;refine aA HO.o ?_;rintro e w1 ⟨c,mb,qc,bq,rfl,hcw,hb⟩;have HB:Hid _:=S.ze2 c mb _ _ L _ w1 hcw.cx;have HC:=kd hb;clear hcw hb HO hc;go_wp2_with fail;refine aA HB.o ?_;rintro e w2 ⟨v',rfl,hr,j5⟩;have HR:Hid _:=hr;have y5:Hid _:=j5;clear hr j5 HB;go_wp2_with fail;go_ret;exact⟨_,rfl,ownsRow_base_a HR.o HC.o.size,HC.o.tr y5.o⟩
theorem zo1 (h:IV w a b x n L):
 Calls prog 39 #[.pointer x] w λ e w'=>∃v,e= .returned v/\S.X.Aq w' w v (spz n L)/\Below w w w':=by
 obtain⟨p,q,v,R,B,W,T,D,pw,bw,pt,bt,mp,N,g,h⟩:=h;have HO:Hid _:=S.X.ze9 n g p v L (open Classical in λ a b=>decide (S.X.Mt L n a b)) w h.gra h.ok.n40 h.ok.inE h.ok.len (λ a b _ _=>by simp);have hc:=h.ix.c0;clear h;go_enter func39,ntmps39;go_wp2_with fail;refine aA HO.o ?_;rintro e w1 ⟨v',rfl,hr,hb⟩;have HR:Hid _:=hr;have HB:Hid _:=hb;clear hr hb HO hc;go_wp2_with fail;go_ret;exact⟨_,rfl,HR.o,HB.o⟩
end Go.Proofs.Y.I
namespace Go.Proofs.Y.S
open Go.RowKit Go.WideMaps Go.Maps
theorem zek {ss K:List Int}(h:ss.Perm K)(hK:K.Pairwise (·<·)):(ss.mergeSort λ x y=>decide (x<=y))=K:=by
 have tr:∀a b c:Int,decide (a<=b)=true->decide (b<=c)=true->decide (a<=c)=true:=λ a b c h1 h2=>by simp only[dO] at*;omega
 have tot:∀a b:Int,(decide (a<=b) || decide (b<=a))=true:=λ a b=>by simp only[lV,dO];omega
 exact jY (le:=λ a b=>decide (a<=b)=true) (λ a b _ _ h1 h2=>by simp only[dO] at h1 h2;omega) (List.pairwise_mergeSort tr tot ss) (hK.imp λ {a b} h=>by simp only[dO];omega) ((List.mergeSort_perm ss _).trans h)
end Go.Proofs.Y.S
namespace Go.Proofs.Y.I
open Go.RowKit Go.WideMaps Go.Maps Go.Lib
variable {w0 w w':World} {a b x p q n:Nat} {v:Value} {L R B:List G.E} {W T:List Nat} {D:DataW Unit} {pw bw pt bt mp N g:Nat}
theorem Rp (s:S.St n R W T B)(hp:R.Perm L):S.St n L W T B:=by
 have hm:(λ e=>e∈R)=λ e=>e∈L:=by funext e;exact propext hp.mem_iff
 exact⟨s.gw,s.gt,λ e he=>s.inn e (hp.mem_iff.2 he),λ e he=>s.nat e (hp.mem_iff.2 he),λ e he d hd=>s.one e (hp.mem_iff.2 he) d (hp.mem_iff.2 hd),
  λ u v=>by rw[s.hW];simp only[S.cnR];rw[hm],λ u v=>by rw[s.hT];simp only[S.twR];rw[hm],λ e=>by rw[s.hB];simp only[S.brR];rw[hm]⟩
theorem IV.st (h:IV w a b x n L):∃W T B,S.St n L W T B:=by
 obtain⟨p,q,v,R,B,W,T,D,pw,bw,pt,bt,mp,N,g,h⟩:=h;exact⟨W,T,B,Rp h.now.st h.perm⟩
theorem Wn (s:S.St n L W T B)(p8:Ok n L):brz n L=S.Az L B:=by
 rw[<-zib s (eO _) p8.unl];unfold S.ups;exact S.zek (eO _) (S.znk p8.up)
theorem zcn (s:S.St n L W T B)(p8:Ok n L)(id:Int):id∈brz n L↔∃e∈B,e.1=id:=by
 rw[Wn s p8];exact S.zrr (λ e he=>((s.hB e).1 he).1) id
end Go.Proofs.Y.I
namespace Go.Proofs.Y.I
open Go.RowKit Go.WideMaps Go.Maps Go.Lib Go.Proofs.Tryz
variable {w0 w w':World} {a b x p q n:Nat} {v:Value} {L R B:List G.E} {W T:List Nat} {D:DataW Unit} {pw bw pt bt mp N:Nat}
def ah (w1:World)(x n:Nat)(wq:World):Prop:=
 ∃p q v L R B W T D pw bw pt bt mp N,IAt w1 wq x p q n v L R B W T D pw bw pt bt mp N/\∀e∈L,e.1<30
theorem ah.below' {w1:World}(h:ah w1 x n w)(hb:Below w w w'):ah w1 x n w':=by
 obtain⟨p,q,v,L,R,B,W,T,D,pw,bw,pt,bt,mp,N,h,hl⟩:=h;exact⟨p,q,v,L,R,B,W,T,D,pw,bw,pt,bt,mp,N,h.below' hb,hl⟩
theorem ah.base {w1:World}(h:ah w1 x n w):Below w1 w1 w:=by
 obtain⟨p,q,v,L,R,B,W,T,D,pw,bw,pt,bt,mp,N,h,hl⟩:=h;exact h.rn.below
theorem zr1 (h:IV w a b x n L):
 Calls prog 14 #[.pointer x] w λ e w'=>∃u,e= .returned u/\G.Ad w' w 61 u L/\Below w w w':=by
 obtain⟨p,q,v,R,B,W,T,D,pw,bw,pt,bt,mp,N,g,h⟩:=h;have HE:Hid _:=G.Dv (n:Int) g p v L w h.gra h.ok.len;have hc:=h.ix.c0;clear h;go_enter func14,ntmps14;go_wp2_with (go_at_call 48;refine aA HE.o ?_;rintro e w1 ⟨u,rfl,ho,hb⟩);go_ret;exact⟨u,rfl,ho,hb⟩
structure Ask (wG w:World) (x o n:Nat) (L:List G.E):Prop where
 ix:∃a b,IV w a b x n L
 io:∃a b,IV w a b o n L
 vars:Vars w
 below:Below wG wG w
theorem Ask.next {wG:World}{o:Nat}(h:Ask wG w x o n L)(hb:Below w w w'):Ask wG w' x o n L:=by
 obtain⟨⟨a,b,h1⟩,⟨c,d,h2⟩,h3,h4⟩:=h;exact⟨⟨a,b,h1.below hb⟩,⟨c,d,h2.below hb⟩,h3.below hb,h4.tr hb⟩
end Go.Proofs.Y.I
