import Derived.Test.YtebcjaenhiiflaaGreatDoorQJeQc
import Derived.Test.YtebcjaenhiiflaaGreatDoorQKVxKT
import Derived.Test.YtebcjaenhiiflaaGreatDoorQXf
set_option maxHeartbeats 1000000
set_option maxRecDepth 100000
namespace Go.Proofs.YtebcjaenhiiflaaGreatDoor.S
open Go.RowKit Go.WideMaps Go.Maps
theorem lab3_good (n:Nat) (L S:List Edg) (f:Edg->Nat):Good n (lab3 n L S f):=lb_good (tri_in _ n n (Nat.le_refl _))
theorem covN_lt (n:Nat) (t o:List Edg) (e:Edg) (h:o.length<=127):covN n t o e<340282366920938463463374607431768211456:=by
 have h1:=bitsN_lt (covB n t o e) o.length;have h2:2^o.length<=2^128:=Nat.pow_le_pow_right (by omega) (by omega);unfold covN;have h3:(2:Nat)^128=340282366920938463463374607431768211456:=by decide
 omega
theorem Cv.cx {w0 w:World} {c mb rest:Nat} {S L:List Edg} {f:Edg->Nat} (h:Cv w0 w c mb rest S f) (hS:∀e,e∈S↔e∈L) (hup:(L.map (·.1)).Pairwise (·<·)) (hwf:∀e∈L,(Lit.int .i64 e.1).wf=true) (hl:L.length<=120) (hSl:S.length<=120):Cx w c mb rest S L f:=by
 refine ⟨h.co,hS,hup,hwf,hl,λ D N ho hm=>?_⟩;obtain ⟨D0,N0,k1,k2,k3⟩:=h.mp;obtain ⟨es,clock,hb1,F1,hs1,rfl⟩:=k1;obtain ⟨es',clock',hb2,F2,hs2,rfl⟩:=ho;rw [hb1] at hb2;cases hb2;exact ⟨es,clock,hb1,F2,by omega,rfl⟩
structure Cw (w:World) (c mb q bq n:Nat) (L:List Edg):Prop where
 cx:Cx w c mb (grw n L).2.length ((grw n L).2++(grw n L).1) L (covN n (grw n L).1 (grw n L).2)
 hc:∃x y,w.heap[c]? =some (.cells #[x,y,.pointer (some ⟨q,0,none⟩)] 206)
 sets:SetsAt w q bq (lab3 n L ((grw n L).2++(grw n L).1) (covN n (grw n L).1 (grw n L).2))
theorem cyc_any (n B p:Nat) (v:Value) (L:List Edg) (w:World) (h:G.GAt w B 168 61 p (n:Int) v L) (hok:Ok n L) (hup:(L.map (·.1)).Pairwise (·<·)):
 Calls Tryz.prog 82 #[.pointer (some ⟨p,0,none⟩)] w λ e w'=>∃c mb q bq,e= .returned (.pointer (some ⟨c,0,none⟩))/\Cw w' c mb q bq n L/\Below w.heap.size w w':=by
 have hg:=gr_all L hok.nd hok.inn.nodes;have hS:∀e,e∈(grw n L).2++(grw n L).1↔e∈L:=λ e=>by rw [List.mem_append,hg.mem e];exact or_comm
 have hl:=hok.len;have hSl:((grw n L).2++(grw n L).1).length<=120:=by rw [List.length_append];have:=hg.len;omega
 have hf:∀d,covN n (grw n L).1 (grw n L).2 d<340282366920938463463374607431768211456:=λ d=>covN_lt n _ _ d (by have:=hg.len;omega)
 refine (cof_any n B p v L _ w h hok (λ W c mb hcv=>unparted_any n B p c mb _ v L _ _ w W (h.below hcv.below) hcv hok hS hf hSl)).mono ?_;rintro e w' ⟨c,mb,q,bq,rfl,hcv,hc,hs⟩;exact ⟨c,mb,q,bq,rfl,⟨hcv.cx hS hup hok.wf hok.len hSl,⟨_,_,hc⟩,hs⟩,hcv.below⟩
end Go.Proofs.YtebcjaenhiiflaaGreatDoor.S
namespace Go.Proofs.YtebcjaenhiiflaaGreatDoor.I
open Go.RowKit Go.WideMaps Go.Maps Go.Lib
variable {w0 w w':World} {a b x p q n:Nat} {v:Value} {L R B:List G.E} {W T:List Nat} {D:DataW Unit} {pw bw pt bt mp N g:Nat}
theorem Ok.inE (h:Ok n L):S.InE n L:=by
 intro e he;have:=h.ed e he;unfold S.ea S.eb;omega
theorem Ok.ed' (h:Ok n L):S.Ed n 120 L:=by
 refine ⟨h.up,λ e he=>(h.ed e he).1,λ e he=>?_,h.len⟩;have:=h.ed e he;refine ⟨e.2.1.toNat,e.2.2.toNat,by omega,by omega,?_⟩;rw [Int.toNat_of_nonneg (by omega),Int.toNat_of_nonneg (by omega)]
theorem Ok.ups (h:Ok n L):(L.map (·.1)).Pairwise (·<·):=List.pairwise_map.2 h.up
theorem Ok.cyc (h:Ok n L):S.Ok n L:=by
 have hup:L.Pairwise λ x y=>x.1<y.1:=h.up
 exact ⟨h.inE,hup.imp (λ h k=>by rw [k] at h;omega),S.ids_one h.ups,λ e he=>S.wf_id (h.ed e he).1,h.len,h.n40⟩
noncomputable def cutz (n:Nat) (L:List G.E):List Int:=open Classical in ((List.range n).filter λ x=>decide (S.cutP L x)).map λ x:Nat=>(x:Int)
theorem cutz_eq {cs:List Nat} (h:S.CutsB L n cs):(cs.map λ x:Nat=>(x:Int))=cutz n L:=by
 have e:cs=open Classical in (List.range n).filter λ x=>decide (S.cutP L x):=by
  refine List.Perm.eq_of_pairwise (le:=(·<·)) (λ a b _ _ h1 h2=>by omega) h.up ?_ ?_
  ·exact List.Pairwise.filter _ List.pairwise_lt_range
  ·refine (List.perm_ext_iff_of_nodup (h.up.imp (λ {a b} k=>by omega)) ?_).2 λ y=>?_
   ·exact List.Pairwise.filter _ List.nodup_range
   ·rw [h.mem y,List.mem_filter,List.mem_range]
    simp
 unfold cutz;rw [<-e]
noncomputable def blz (n:Nat) (L:List G.E):List (List Nat):=
 open Classical in if h:∃M,S.Bs L n [] M then S.blks L h.choose else []
theorem blz_eq {M:List Nat} (h:S.Bs L n [] M):S.blks L M=blz n L:=by
 have hx:∃M,S.Bs L n [] M:=⟨M,h⟩;unfold blz;rw [dif_pos hx];have k:=hx.choose_spec;rw [S.good_eq h.good k.good (λ u v=>(h.alike u v).trans (k.alike u v).symm)]
def thz (n:Nat) (L:List G.E):List (List Nat):=S.grps (S.lab3 n L ((S.grw n L).2++(S.grw n L).1) (S.covN n (S.grw n L).1 (S.grw n L).2)) n
def prz (n:Nat) (L:List G.E):List (Int × Int):=S.pairsOf (L.filter λ e=>decide (S.covN n (S.grw n L).1 (S.grw n L).2 e≠0)) λ e d=>decide (S.covN n (S.grw n L).1 (S.grw n L).2 e=S.covN n (S.grw n L).1 (S.grw n L).2 d)
noncomputable def spz (n:Nat) (L:List G.E):List (Nat × Nat):=open Classical in S.X.allK (λ a b=>decide (S.X.PartP L n a b)) n n
theorem icuts (h:IV w a b x n L):
 Calls Tryz.prog 34 #[.pointer (some ⟨x,0,none⟩)] w λ e w'=>∃a c,e= .returned (.slice a (cutz n L).length c)/\Zs w' a (cutz n L)/\Below w.heap.size w w':=by
 obtain ⟨p,q,v,R,B,W,T,D,pw,bw,pt,bt,mp,N,g,h⟩:=h;have HO:Hid _:=S.bof_any n g p 120 v L w h.gra h.ok.n40 h.ok.ed' (Nat.le_refl _);have hn:=h.ok.n40;have hc:=h.ix.c0;clear h;go_enter Tryz.func34,Tryz.ntmps34;go_wp2_with fail;refine Calls.mono HO.out ?_;rintro e w1 ⟨pb,mb,Nb,Db,vb,Lb,cs,rfl,hbl,hN,hlm,hbs,hcs,hrow,hb⟩;have HB:Hid _:=S.bcuts_any pb mb Nb w.heap.size Db vb cs w1 hbl hrow (by have:=hcs.len;omega);have HC:Hid (S.CutsB L n cs/\Below w.heap.size w w1):=⟨hcs,hb⟩;clear hbl hlm hbs hcs hrow hb HO hc;go_wp2_with fail;refine Calls.mono HB.out ?_;rintro e w2 ⟨v',rfl,hr,hb2⟩;have HR:Hid _:=hr;have HB2:Hid _:=hb2;clear hr hb2 HB;go_wp2_with fail;go_ret;have hr:=HR.out;have e1:S.natsV cs=(cutz n L).map (Value.int .i64):=by
  rw [<-cutz_eq HC.out.1,List.map_map];rfl
 have e2:cs.length=(cutz n L).length:=by rw [<-cutz_eq HC.out.1,List.length_map]
 rw [e1,e2] at hr;obtain ⟨a',c,rfl,hs⟩:=ints_shape hr;exact ⟨a',c,rfl,hs,HC.out.2.trans (HB2.out.mono HC.out.2.size)⟩
theorem iblocks (h:IV w a b x n L):
 Calls Tryz.prog 36 #[.pointer (some ⟨x,0,none⟩)] w λ e w'=>∃v,e= .returned v/\S.AllAt w' v (blz n L)/\Below w.heap.size w w':=by
 obtain ⟨p,q,v,R,B,W,T,D,pw,bw,pt,bt,mp,N,g,h⟩:=h;have HO:Hid _:=S.bof_any n g p 120 v L w h.gra h.ok.n40 h.ok.ed' (Nat.le_refl _);have HK:Hid (Ok n L):=h.ok;have hc:=h.ix.c0;clear h;go_enter Tryz.func36,Tryz.ntmps36;go_wp2_with fail;refine Calls.mono HO.out ?_;rintro e w1 ⟨pb,mb,Nb,Db,vb,Lb,cs,rfl,hbl,hN,hlm,hbs,hcs,hrow,hb⟩;have HB:Hid _:=S.bparts_any pb mb Nb Db vb w1 hbl hlm hbs.good HK.out.up (λ e he=>(HK.out.ed e he).1) HK.out.len (by omega);have HC:Hid (S.Bs L n [] Lb/\Below w.heap.size w w1):=⟨hbs,hb⟩;clear hbl hlm hbs hcs hrow hb HO hc;go_wp2_with fail;refine Calls.mono HB.out ?_;rintro e w2 ⟨v',rfl,hr,hb2⟩;have HR:Hid _:=hr;have HB2:Hid _:=hb2;clear hr hb2 HB;go_wp2_with fail;go_ret;exact ⟨_,rfl,by rw [<-blz_eq HC.out.1];exact HR.out,HC.out.2.trans (HB2.out.mono HC.out.2.size)⟩
theorem ithrice (h:IV w a b x n L):
 Calls Tryz.prog 37 #[.pointer (some ⟨x,0,none⟩)] w λ e w'=>∃v,e= .returned v/\S.AllAt w' v (thz n L)/\Below w.heap.size w w':=by
 obtain ⟨p,q,v,R,B,W,T,D,pw,bw,pt,bt,mp,N,g,h⟩:=h;have HO:Hid _:=S.cyc_any n g p v L w h.gra h.ok.cyc h.ok.ups;have hn:=h.ok.n40;have hc:=h.ix.c0;clear h;go_enter Tryz.func37,Tryz.ntmps37;go_wp2_with fail;refine Calls.mono HO.out ?_;rintro e w1 ⟨c,mb,qc,bq,rfl,hcw,hb⟩;obtain ⟨c1,c2,hcc⟩:=hcw.hc;have HB:Hid _:=S.cthrice_any c qc bq n c1 c2 _ w1 hcc hcw.sets (S.lab3_good _ _ _ _) hn;have HC:Hid (Below w.heap.size w w1):=hb;clear hcw hb hcc HO hc;go_wp2_with fail;refine Calls.mono HB.out ?_;rintro e w2 ⟨v',rfl,hr,hb2⟩;have HR:Hid _:=hr;have HB2:Hid _:=hb2;clear hr hb2 HB;go_wp2_with fail;go_ret;exact ⟨_,rfl,HR.out,HC.out.trans (HB2.out.mono HC.out.size)⟩
theorem ipairs (h:IV w a b x n L):
 Calls Tryz.prog 38 #[.pointer (some ⟨x,0,none⟩)] w λ e w'=>∃v,e= .returned v/\S.OwnsP w' w.heap.size v (prz n L)/\Below w.heap.size w w':=by
 obtain ⟨p,q,v,R,B,W,T,D,pw,bw,pt,bt,mp,N,g,h⟩:=h;have HO:Hid _:=S.cyc_any n g p v L w h.gra h.ok.cyc h.ok.ups;have hc:=h.ix.c0;clear h;go_enter Tryz.func38,Tryz.ntmps38;go_wp2_with fail;refine Calls.mono HO.out ?_;rintro e w1 ⟨c,mb,qc,bq,rfl,hcw,hb⟩;have HB:Hid _:=S.cpairs_any c mb _ _ L _ w1 hcw.cx;have HC:Hid (Below w.heap.size w w1):=hb;clear hcw hb HO hc;go_wp2_with fail;refine Calls.mono HB.out ?_;rintro e w2 ⟨v',rfl,hr,hb2⟩;have HR:Hid _:=hr;have HB2:Hid _:=hb2;clear hr hb2 HB;go_wp2_with fail;go_ret;exact ⟨_,rfl,ownsRow_base_a HR.out HC.out.size,HC.out.trans (HB2.out.mono HC.out.size)⟩
theorem isplits (h:IV w a b x n L):
 Calls Tryz.prog 39 #[.pointer (some ⟨x,0,none⟩)] w λ e w'=>∃v,e= .returned v/\S.X.OwnsP w' w.heap.size v (spz n L)/\Below w.heap.size w w':=by
 obtain ⟨p,q,v,R,B,W,T,D,pw,bw,pt,bt,mp,N,g,h⟩:=h;have HO:Hid _:=S.X.spairs_any n g p v L (open Classical in λ a b=>decide (S.X.PartP L n a b)) w h.gra h.ok.n40 h.ok.inE h.ok.len (λ a b _ _=>by simp);have hc:=h.ix.c0;clear h;go_enter Tryz.func39,Tryz.ntmps39;go_wp2_with fail;refine Calls.mono HO.out ?_;rintro e w1 ⟨v',rfl,hr,hb⟩;have HR:Hid _:=hr;have HB:Hid _:=hb;clear hr hb HO hc;go_wp2_with fail;go_ret;exact ⟨_,rfl,HR.out,HB.out⟩
end Go.Proofs.YtebcjaenhiiflaaGreatDoor.I
namespace Go.Proofs.YtebcjaenhiiflaaGreatDoor.S
open Go.RowKit Go.WideMaps Go.Maps
theorem sorted_ids {ss K:List Int} (h:ss.Perm K) (hK:K.Pairwise (·<·)):(ss.mergeSort λ x y=>decide (x<=y))=K:=by
 have tr:∀a b c:Int,decide (a<=b)=true->decide (b<=c)=true->decide (a<=c)=true:=λ a b c h1 h2=>by simp only [decide_eq_true_eq] at*;omega
 have tot:∀a b:Int,(decide (a<=b) || decide (b<=a))=true:=λ a b=>by simp only [Bool.or_eq_true,decide_eq_true_eq];omega
 exact List.Perm.eq_of_pairwise (le:=λ a b=>decide (a<=b)=true) (λ a b _ _ h1 h2=>by simp only [decide_eq_true_eq] at h1 h2;omega) (List.pairwise_mergeSort tr tot ss) (hK.imp λ {a b} h=>by simp only [decide_eq_true_eq];omega) ((List.mergeSort_perm ss _).trans h)
end Go.Proofs.YtebcjaenhiiflaaGreatDoor.S
namespace Go.Proofs.YtebcjaenhiiflaaGreatDoor.I
open Go.RowKit Go.WideMaps Go.Maps Go.Lib
variable {w0 w w':World} {a b x p q n:Nat} {v:Value} {L R B:List G.E} {W T:List Nat} {D:DataW Unit} {pw bw pt bt mp N g:Nat}
theorem st_perm (s:S.St n R W T B) (hp:R.Perm L):S.St n L W T B:=by
 have hm:(λ e=>e∈R)=λ e=>e∈L:=by funext e;exact propext hp.mem_iff
 exact ⟨s.gw,s.gt,λ e he=>s.inn e (hp.mem_iff.2 he),λ e he=>s.nat e (hp.mem_iff.2 he),λ e he d hd=>s.one e (hp.mem_iff.2 he) d (hp.mem_iff.2 hd),
  λ u v=>by rw [s.hW];simp only [S.cnR];rw [hm],λ u v=>by rw [s.hT];simp only [S.twR];rw [hm],λ e=>by rw [s.hB];simp only [S.brR];rw [hm]⟩
theorem IV.st (h:IV w a b x n L):∃W T B,S.St n L W T B:=by
 obtain ⟨p,q,v,R,B,W,T,D,pw,bw,pt,bt,mp,N,g,h⟩:=h;exact ⟨W,T,B,st_perm h.now.st h.perm⟩
theorem brz_ids (s:S.St n L W T B) (hok:Ok n L):brz n L=S.idsOf L B:=by
 rw [<-brz_eq s (List.Perm.refl _) hok.unl];unfold S.ups;exact S.sorted_ids (List.Perm.refl _) (S.ids_rise hok.up)
theorem mem_brz (s:S.St n L W T B) (hok:Ok n L) (id:Int):id∈brz n L↔∃e∈B,e.1=id:=by
 rw [brz_ids s hok];exact S.mem_ids (λ e he=>((s.hB e).1 he).1) id
end Go.Proofs.YtebcjaenhiiflaaGreatDoor.I
namespace Go.Proofs.YtebcjaenhiiflaaGreatDoor.I
open Go.RowKit Go.WideMaps Go.Maps Go.Lib
variable {w0 w w':World} {a b x p q n:Nat} {v:Value} {L R B:List G.E} {W T:List Nat} {D:DataW Unit} {pw bw pt bt mp N:Nat}
def Rel1 (w1:World) (x n:Nat) (wq:World):Prop:=
 ∃p q v L R B W T D pw bw pt bt mp N,IAt w1 wq x p q n v L R B W T D pw bw pt bt mp N/\∀e∈L,e.1<30
theorem Rel1.below' {w1:World} (h:Rel1 w1 x n w) (hb:Below w.heap.size w w'):Rel1 w1 x n w':=by
 obtain ⟨p,q,v,L,R,B,W,T,D,pw,bw,pt,bt,mp,N,h,hl⟩:=h;exact ⟨p,q,v,L,R,B,W,T,D,pw,bw,pt,bt,mp,N,h.below' hb,hl⟩
theorem Rel1.base {w1:World} (h:Rel1 w1 x n w):Below w1.heap.size w1 w:=by
 obtain ⟨p,q,v,L,R,B,W,T,D,pw,bw,pt,bt,mp,N,h,hl⟩:=h;exact h.rn.below
theorem iedges (h:IV w a b x n L):
 Calls Tryz.prog 14 #[.pointer (some ⟨x,0,none⟩)] w λ e w'=>∃u,e= .returned u/\G.Owns w' w.heap.size 61 u L/\Below w.heap.size w w':=by
 obtain ⟨p,q,v,R,B,W,T,D,pw,bw,pt,bt,mp,N,g,h⟩:=h;have HE:Hid _:=G.edges_any (n:Int) g p v L w h.gra h.ok.len;have hc:=h.ix.c0;clear h;go_enter Tryz.func14,Tryz.ntmps14;go_wp2_with (go_at_call 48;refine Calls.mono HE.out ?_;rintro e w1 ⟨u,rfl,ho,hb⟩);go_ret;exact ⟨u,rfl,ho,hb⟩
structure Ask (wG w:World) (x o n:Nat) (L:List G.E):Prop where
 ix:∃a b,IV w a b x n L
 io:∃a b,IV w a b o n L
 vars:Vars w
 below:Below wG.heap.size wG w
theorem Ask.next {wG:World} {o:Nat} (h:Ask wG w x o n L) (hb:Below w.heap.size w w'):Ask wG w' x o n L:=by
 obtain ⟨⟨a,b,h1⟩,⟨c,d,h2⟩,h3,h4⟩:=h;exact ⟨⟨a,b,h1.below hb⟩,⟨c,d,h2.below hb⟩,h3.below hb,h4.trans (hb.mono h4.size)⟩
end Go.Proofs.YtebcjaenhiiflaaGreatDoor.I
