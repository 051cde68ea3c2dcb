import Derived.Test.YtebcjaenhiiflaaGreatDoorQKVdKVj
import Derived.Test.YtebcjaenhiiflaaGreatDoorQBbBl
import Derived.Test.YtebcjaenhiiflaaGreatDoorQMrMe
set_option maxHeartbeats 4000000
set_option maxRecDepth 100000
namespace Go.Proofs.YtebcjaenhiiflaaGreatDoor.S
open Go.RowKit Go.WideMaps Go.Maps
def ringL:List Value->Option (DataW Unit × List MemPlace)
 | [.int .u64 a,.int .u64 b]=>some (.agg [.lit (.int .u64 a),.lit (.int .u64 b)],[])
 | _=>none
def ringR:Value->Option (DataW Unit × List MemPlace)
 | .agg cs=>ringL cs.toList
 | _=>none
def ringD (x:Nat):DataW Unit:=.agg [.lit (.int .u64 (lo64 x:Int)),.lit (.int .u64 (hi64 x:Int))]
theorem ringR_mk (x:Nat):ringR (ringV x)=some (ringD x,[]):=rfl
theorem ringL_inv {l:List Value} {y:DataW Unit × List MemPlace} (h:ringL l=some y):∃a b:Int,l=[.int .u64 a,.int .u64 b]/\y=(.agg [.lit (.int .u64 a),.lit (.int .u64 b)],[]):=by
 unfold ringL at h;split at h
 ·next a b=>cases h;exact ⟨a,b,rfl,rfl⟩
 ·cases h
theorem ringR_inv {v:Value} {y:DataW Unit × List MemPlace} (h:ringR v=some y):∃c:Int × Int,v= .agg #[.int .u64 c.1,.int .u64 c.2]/\y=(.agg [.lit (.int .u64 c.1),.lit (.int .u64 c.2)],[]):=by
 unfold ringR at h;split at h
 ·next cs=>
  obtain ⟨a,b,h1,h2⟩:=ringL_inv h;exact ⟨(a,b),by rw [<-Array.toArray_toList (xs:=cs),h1],h2⟩
 ·cases h
structure Rm (D:DataW Unit) (S:List Edg) (f:Edg->Nat):Prop where
 key:∀kl,Maps.has D kl=true↔∃e∈S,kl= .int .i64 e.1
 val:∀e∈S,∀zd,D.atKey (.int .i64 e.1) zd=ringD (f e)
 tidy:Tidy D
theorem Rm.start (f:Edg->Nat):Rm (.map []) [] f:=⟨λ kl=>by simp [Maps.has],λ e he=>by simp at he,tidy_empty⟩
theorem Rm.put {D:DataW Unit} {S:List Edg} {f:Edg->Nat} (h:Rm D S f) (e:Edg) (hn:∀d∈S,d.1≠e.1):Rm (D.put (.int .i64 e.1) (ringD (f e))) (S++[e]) f:=by
 refine ⟨λ kl=>?_,λ d hd zd=>?_,h.tidy.put (isKeyLit _) _⟩
 ·by_cases hx:kl= .int .i64 e.1
  ·rw [hx,has_put_same h.tidy.isMap (isKeyLit _)]
   exact ⟨λ _=>⟨e,by simp,rfl⟩,λ _=>rfl⟩
  ·rw [has_put_other hx,h.key]
   constructor
   ·rintro ⟨d,hd,k⟩;exact ⟨d,by simp [hd],k⟩
   ·rintro ⟨d,hd,k⟩
    rcases List.mem_append.1 hd with hd | hd
    ·exact ⟨d,hd,k⟩
    ·rw [List.mem_singleton.1 hd] at k;exact absurd k hx
 ·rcases List.mem_append.1 hd with hd | hd
  ·rw [atKey_put_other (by have:=hn d hd;simpa using this)]
   exact h.val d hd zd
  ·rw [List.mem_singleton.1 hd,atKey_put_same h.tidy.isMap (isKeyLit _)]
structure Cv (w0 w:World) (c mb rest:Nat) (S:List Edg) (f:Edg->Nat):Prop where
 st:∃v,w.heap[c]? =some (.cells #[.int .i64 (rest:Int),.map (some mb),v] 206)
 mp:∃D N,w.ownsMap Tryz.prog 3 ringR mb N D/\Rm D S f/\N=S.length
 ne:c≠mb
 lc:w0.heap.size<=c
 lm:w0.heap.size<=mb
 below:Below w0.heap.size w0 w
section
variable {w0 w w':World} {c mb rest:Nat} {S:List Edg} {f:Edg->Nat}
theorem Cv.below' (h:Cv w0 w c mb rest S f) (hb:Below w.heap.size w w'):Cv w0 w' c mb rest S f:=by
 obtain ⟨v,hv⟩:=h.st;obtain ⟨D,N,h1,h2,h3⟩:=h.mp;exact {h with st:=⟨v,(hb.block c (lt_of_some hv)).trans hv⟩,mp:=⟨D,N,h1.kept (grown_below hb) (by simp),h2,h3⟩,below:=h.below.trans (hb.mono h.below.size)}
theorem Cv.cell1 (h:Cv w0 w c mb rest S f):w.cell? ⟨c,1,none⟩=some (.map (some mb)):=by
 obtain ⟨v,hv⟩:=h.st;simp [World.cell?,hv]
theorem Cv.more (h:Cv w0 w c mb rest S f) (e:Edg) (hn:∀d∈S,d.1≠e.1) (hw:(Lit.int .i64 e.1).wf=true) (hl:S.length<=1000):
 ∃w2,(Instr.mapUpdate 204 (.map (some mb)) (.int .i64 e.1) (ringV (f e))).run Tryz.prog w= .ok () w2/\Cv w0 w2 c mb rest (S++[e]) f/\w.grownBy w2 (some mb):=by
 obtain ⟨v,hv⟩:=h.st;obtain ⟨D,N,h1,h2,h3⟩:=h.mp;obtain ⟨w2,r,ho,hg⟩:=h1.update law3 Tryz.underlying204 (by unfold maxLen;omega) (key3 e.1 hw) (ringR_mk (f e));refine ⟨w2,r,{h with st:=⟨v,(hg.block c (lt_of_some hv) (by simp;exact h.ne)).trans hv⟩,mp:=⟨_,_,ho,h2.put e hn,by simp [h3]⟩,below:=h.below.grown hg h.below.size (λ j hj=>by injection hj with hj;have:=h.lm;omega)},hg⟩
end
end Go.Proofs.YtebcjaenhiiflaaGreatDoor.S
namespace Go.Proofs.YtebcjaenhiiflaaGreatDoor.S
open Go.RowKit Go.WideMaps Go.Maps
def covB (n:Nat) (t o:List Edg) (e:Edg) (i:Nat):Bool:=if e∈t then tcov n t o e i else decide (o.getD i (0,0,0)=e)
def covN (n:Nat) (t o:List Edg) (e:Edg):Nat:=bitsN (covB n t o e) o.length
theorem bitsN_one {c:Nat->Bool} {k:Nat}:∀{m},k<m->(∀i,i<m->c i=decide (i=k))->bitsN c m=2^k
 | 0,h,_=>by omega
 | m+1,h,hc=>by
   simp only [bitsN,hc m (by omega)];by_cases e:m=k
   ·subst e
    have:bitsN c m=0:=by
     have h2:bitsN c m=bitsN (λ _=>false) m:=bitsN_congr (λ i hi=>by rw [hc i (by omega)];exact decide_eq_false (by omega));rw [h2];clear h2 hc h;induction m with
     | zero=>rfl
     | succ m ih=>simp [bitsN,ih]
    rw [this];simp
   ·rw [decide_eq_false e,bitsN_one (m:=m) (by omega) (λ i hi=>hc i (by omega))];simp
theorem covN_other {n:Nat} {t o:List Edg} {k:Nat} {e:Edg} (hnd:o.Nodup) (hk:o[k]? =some e) (hne:e∉t):covN n t o e=2^k:=by
 obtain ⟨hlt,he⟩:=List.getElem?_eq_some_iff.1 hk;refine bitsN_one hlt (λ i hi=>?_);unfold covB;rw [if_neg hne];have h1:o.getD i (0,0,0)=o[i]:=by simp [hi]
 rw [h1,<-he];by_cases e2:i=k
 ·subst e2;simp
 ·rw [decide_eq_false e2,decide_eq_false]
  intro c;exact e2 ((List.getElem_inj hnd).1 c)
theorem covN_tree {n:Nat} {t o:List Edg} {e:Edg} (he:e∈t):covN n t o e=bitsN (tcov n t o e) o.length:=
 bitsN_congr (λ i _=>by unfold covB;rw [if_pos he])
theorem take_one {L:List Edg} {k:Nat} {x:Edg} (h:L[k]? =some x):L.take (k+1)=L.take k++[x]:=by
 obtain ⟨hlt,he⟩:=List.getElem?_eq_some_iff.1 h;rw [List.take_succ_eq_append_getElem hlt,he]
theorem not_before {L:List Edg} {k:Nat} {x:Edg} (hnd:L.Nodup) (h:L[k]? =some x):x∉L.take k:=by
 intro hx;obtain ⟨i,hi⟩:=List.getElem?_of_mem hx;obtain ⟨hil,hie⟩:=List.getElem?_eq_some_iff.1 hi;rw [List.length_take] at hil;rw [List.getElem?_take_of_lt (by omega)] at hi;obtain ⟨h1,h2⟩:=List.getElem?_eq_some_iff.1 hi;obtain ⟨h3,h4⟩:=List.getElem?_eq_some_iff.1 h;have:=(List.getElem_inj hnd).1 (h2.trans h4.symm);omega
structure Ok (n:Nat) (R:List Edg):Prop where
 inn:InE n R
 nd:R.Nodup
 one:∀d∈R,∀e∈R,d.1=e.1->d=e
 wf:∀e∈R,(Lit.int .i64 e.1).wf=true
 len:R.length<=120
 n16:n<=40
theorem Cv.base {w w1 W:World} {c mb rest:Nat} {S:List Edg} {f:Edg->Nat} (h:Cv w1 W c mb rest S f) (hb:Below w.heap.size w w1):Cv w W c mb rest S f:=
 {h with lc:=Nat.le_trans hb.size h.lc,lm:=Nat.le_trans hb.size h.lm,below:=hb.trans (h.below.mono hb.size)}
theorem cof_any (n B p:Nat) (v:Value) (R:List Edg) (L3:List Nat) (w:World) (h:G.GAt w B 168 61 p (n:Int) v R) (hok:Ok n R)
 (hun:∀W c mb,Cv w W c mb (grw n R).2.length ((grw n R).2++(grw n R).1) (covN n (grw n R).1 (grw n R).2)->Calls Tryz.prog 142 #[.pointer (some ⟨c,0,none⟩),.pointer (some ⟨p,0,none⟩)] W λ e w'=>∃q bq,e= .returned (.pointer (some ⟨q,0,none⟩))/\SetsAt w' q bq L3/\W.heap.size<=q/\W.heap.size<=bq/\Below W.heap.size W w'):
 Calls Tryz.prog 82 #[.pointer (some ⟨p,0,none⟩)] w λ e w'=>∃c mb q bq,e= .returned (.pointer (some ⟨c,0,none⟩))/\Cv w w' c mb (grw n R).2.length ((grw n R).2++(grw n R).1) (covN n (grw n R).1 (grw n R).2)/\w'.heap[c]? =some (.cells #[.int .i64 ((grw n R).2.length:Int),.map (some mb),.pointer (some ⟨q,0,none⟩)] 206)/\SetsAt w' q bq L3:=by
 have HG:Hid (G.GAt w B 168 61 p (n:Int) v R/\Ok n R):=⟨h,hok⟩;have HU:Hid (∀W c mb,Cv w W c mb (grw n R).2.length ((grw n R).2++(grw n R).1) (covN n (grw n R).1 (grw n R).2)->Calls Tryz.prog 142 #[.pointer (some ⟨c,0,none⟩),.pointer (some ⟨p,0,none⟩)] W λ e w'=>∃q bq,e= .returned (.pointer (some ⟨q,0,none⟩))/\SetsAt w' q bq L3/\W.heap.size<=q/\W.heap.size<=bq/\Below W.heap.size W w'):=hun;have HGR:Hid (Gr n R (grw n R).1 (grw n R).2):=gr_all R hok.nd hok.inn.nodes;have hn16:=hok.n16;have hlen:=hok.len;clear h hok hun;go_enter Tryz.func82,Tryz.ntmps82;go_wp2_with fail;refine (grow_any n B p v R w HG.out.1 (by omega) HG.out.2.inn HG.out.2.nd (by omega)).mono ?_;rintro e w1 ⟨vt,vo,B1,rfl,hot,hoo,hB1,hb1⟩;obtain ⟨t,ht⟩:∃t,(grw n R).1=t:=⟨_,rfl⟩;obtain ⟨o,ho⟩:∃o,(grw n R).2=o:=⟨_,rfl⟩;rw [ht,ho] at HU HGR;rw [ht] at hot;rw [ho] at hoo;have HTO:Hid ((grw n R).1=t/\(grw n R).2=o):=⟨ht,ho⟩;have HO:Hid (G.Owns w1 B1 61 vt t/\G.Owns w1 B1 61 vo o/\Below w.heap.size w w1):=⟨hot,hoo,hb1⟩;obtain ⟨mt,hmt⟩:∃mt,t.length=mt:=⟨_,rfl⟩;obtain ⟨mo,hmo⟩:∃mo,o.length=mo:=⟨_,rfl⟩;have HM:Hid (t.length=mt/\o.length=mo):=⟨hmt,hmo⟩;have hsum:mt+mo<=120:=by have:=HGR.out.len;omega
 obtain ⟨ta,tc,hvt⟩:=hot.slice_len;obtain ⟨oa,oc,hvo⟩:=hoo.slice_len;rw [hmt] at hvt;rw [hmo] at hvo;subst hvt;subst hvo;have hmm:=@run_makeMap Tryz.prog;have HIO:Hid (InE n o/\InE n t/\o.Nodup/\t.Nodup/\(∀e∈o,e∉t)/\(∀e∈o++t,e∈R)):=⟨HG.out.2.inn.sub (λ e he=>(HGR.out.mem e).2 (.inr he)),HG.out.2.inn.sub (λ e he=>(HGR.out.mem e).2 (.inl he)),HG.out.2.nd.sublist HGR.out.osub,HG.out.2.nd.sublist HGR.out.tsub,λ e he k=>HGR.out.forest.apart e k he,λ e he=>(HGR.out.mem e).2 ((List.mem_append.1 he).symm)⟩;clear ht ho hot hoo hb1 hmt hmo;have HC0:Hid (Cv w1 ((w1.alloc (.map #[] 0)).alloc (.cells #[.int .i64 (mo:Int),.map (some w1.heap.size),.pointer none] 206)) (w1.heap.size+1) w1.heap.size mo (o.take 0) (covN n t o)):=by
  have h1:Below w1.heap.size w1 (w1.alloc (.map #[] 0)):=(Below.refl _ _).alloc (Nat.le_refl _) _;have h2:Below (w1.alloc (.map #[] 0)).heap.size (w1.alloc (.map #[] 0)) ((w1.alloc (.map #[] 0)).alloc (.cells #[.int .i64 (mo:Int),.map (some w1.heap.size),.pointer none] 206)):=(Below.refl _ _).alloc (Nat.le_refl _) _;have h3:=heap_alloc_new (w1.alloc (.map #[] 0)) (.cells #[.int .i64 (mo:Int),.map (some w1.heap.size),.pointer none] 206);rw [World.size_alloc] at h3;exact ⟨⟨_,h3⟩,⟨_,0,(World.ownsMap_made w1 Tryz.prog 3 ringR).alloc _,Rm.start _,rfl⟩,by omega,by omega,Nat.le_refl _,h1.trans (h2.mono h1.size)⟩
 obtain ⟨mb,hmb⟩:∃mb,w1.heap.size=mb:=⟨_,rfl⟩;go_wp2_with fail;rw [hmb] at HC0;have HMB:Hid (w1.heap.size=mb):=hmb;clear hmm hmb;go_loopw [23] (λ s23 wq=>∃k:Nat,k<=mo/\s23= .int .i64 k/\Cv w1 wq (mb+1) mb mo (o.take k) (covN n t o)) (λ s23 _=>mo-(intOf s23).toNat)
 case atStart=>exact ⟨0,Nat.zero_le _,rfl,HC0.out⟩
 case round=>
  clear HC0;obtain ⟨k,hk,rfl,hcv⟩:=hrel;have HC:Hid (Cv w1 wr (mb+1) mb mo (o.take k) (covN n t o)):=hcv;clear hcv;by_cases hlt:k<mo
  ·as_aux_lemma=>
   obtain ⟨x0,xa,xb,hx,han,hbn,hxa,hxb⟩:=row_edge HIO.out.1 (by rw [HM.out.2];exact hlt);obtain ⟨g',rfl⟩:=owns_block HO.out.2.1 (by rw [HM.out.2];exact hlt);obtain ⟨r0,r1,r2⟩:=(HO.out.2.1.below HC.out.below).at (g:=g') rfl hx;have r0':wr.cell? ⟨g',k*3,none⟩=some (.int .i64 x0):=r0;have r1':wr.cell? ⟨g',k*3+1,none⟩=some (.int .i64 (xa:Int)):=r1;have r2':wr.cell? ⟨g',k*3+2,none⟩=some (.int .i64 (xb:Int)):=r2;have hxm:(x0,(xa:Int),(xb:Int))∈o:=List.mem_of_getElem? hx;have HX:Hid (o[k]? =some (x0,(xa:Int),(xb:Int))/\covN n t o (x0,(xa:Int),(xb:Int))=2^k):=⟨hx,covN_other HIO.out.2.2.1 hx (HIO.out.2.2.2.2.1 _ hxm)⟩;have HN:Hid (∀d∈o.take k,d.1≠x0):=λ d hd e=>by
    have:=HG.out.2.one d (HIO.out.2.2.2.2.2 d (List.mem_append_left _ (List.mem_of_mem_take hd))) _ (HIO.out.2.2.2.2.2 _ (List.mem_append_left _ hxm)) e;rw [this] at hd;exact not_before HIO.out.2.2.1 hx hd
   have hwf:(Lit.int .i64 x0).wf=true:=HG.out.2.wf _ (HIO.out.2.2.2.2.2 _ (List.mem_append_left _ hxm));clear r0 r1 r2 hx hxa hxb hxm;have hring:RingAt ((wr.alloc (.cells #[.int .i64 x0,.int .i64 (xa:Int),.int .i64 (xb:Int)] 61)).alloc (.cells #[.int .u64 0,.int .u64 0] 208)) (wr.heap.size+1) 0:=by
    have:=heap_alloc_new (wr.alloc (.cells #[.int .i64 x0,.int .i64 (xa:Int),.int .i64 (xb:Int)] 61)) (.cells #[.int .u64 0,.int .u64 0] 208);rw [World.size_alloc] at this;exact ringAt_zero this
   have HR:Hid (RingAt ((wr.alloc (.cells #[.int .i64 x0,.int .i64 (xa:Int),.int .i64 (xb:Int)] 61)).alloc (.cells #[.int .u64 0,.int .u64 0] 208)) (wr.heap.size+1) 0):=hring;clear hring;go_wp2_with fail;refine (put_any (wr.heap.size+1) k 0 _ HR.out (by omega) (Nat.two_pow_pos k)).mono ?_;rintro e w3 ⟨rfl,hr3,hb3⟩;rw [Nat.zero_add] at hr3;have hbel:Below wr.heap.size wr w3:=(((Below.refl _ _).alloc (Nat.le_refl _) _).alloc (by simp) _).trans (hb3.below (by omega) (by simp;omega));have hbx:w3.heap[wr.heap.size]? =some (.cells #[.int .i64 x0,.int .i64 (xa:Int),.int .i64 (xb:Int)] 61):=by
    rw [hb3.block wr.heap.size (by simp;omega) (by omega),Below.heap_alloc _ _ _ (by simp)];exact heap_alloc_new wr _
   have HC3:Hid (Cv w1 w3.drew (mb+1) mb mo (o.take k) (covN n t o)):=HC.out.below' (hbel.trans ((Below.refl _ _).drew.mono hbel.size));obtain ⟨w4,hup,hcv4,_⟩:=HC3.out.more (x0,(xa:Int),(xb:Int)) HN.out hwf (by rw [List.length_take];omega);rw [HX.out.2] at hup;rw [<-take_one HX.out.1] at hcv4;have HC4:Hid (Cv w1 w4 (mb+1) mb mo (o.take (k+1)) (covN n t o)):=hcv4;have d1:=(HC.out.below' hbel).cell1;have q0:w3.cell? ⟨wr.heap.size,0,none⟩=some (.int .i64 x0):=by simp [World.cell?,hbx]
   have s0:w3.cell? ⟨wr.heap.size+1,0,none⟩=some (.int .u64 (lo64 (2^k):Int)):=by simp [World.cell?,hr3]
   have s1:w3.cell? ⟨wr.heap.size+1,1,none⟩=some (.int .u64 (hi64 (2^k):Int)):=by simp [World.cell?,hr3]
   unfold ringV at hup;obtain ⟨Y,hY⟩:∃Y:Nat,lo64 (2^k)=Y:=⟨_,rfl⟩;obtain ⟨Z,hZ⟩:∃Z:Nat,hi64 (2^k)=Z:=⟨_,rfl⟩;rw [hY,hZ] at hup;rw [hY] at s0;rw [hZ] at s1;simp only at hup;clear hr3 hb3 hbel hbx HC3 hcv4 HR HC r0' r1' r2' hY hZ;go_upto_region 8 with fail
   go_region
   all_goals
    go_wp2_with fail;go_roundw;case rel=>exact ⟨k+1,by omega,by go_num,HC4.out⟩
    case measure=>simp [intOf];omega
  ·have hke:k=mo:=by omega
   have HC1:Hid (Cv w1 wr (mb+1) mb mo (o++t.take 0) (covN n t o)):=by
    have h2:=HC.out;rw [hke,<-HM.out.2,List.take_length,HM.out.2] at h2;rw [List.take_zero,List.append_nil];exact h2
   clear HC hke;go_wp2_with fail;go_loopw [40] (λ s40 wq=>∃j:Nat,j<=mt/\s40= .int .i64 j/\Cv w1 wq (mb+1) mb mo (o++t.take j) (covN n t o)) (λ s40 _=>mt-(intOf s40).toNat)
   case atStart=>exact ⟨0,Nat.zero_le _,rfl,HC1.out⟩
   case round=>
    clear HC1;obtain ⟨j,hj,rfl,hcv⟩:=hrel;have HC:Hid (Cv w1 wr (mb+1) mb mo (o++t.take j) (covN n t o)):=hcv;clear hcv;by_cases hltj:j<mt
    ·as_aux_lemma=>
     obtain ⟨x0,xa,xb,hx,han,hbn,hxa,hxb⟩:=row_edge HIO.out.2.1 (by rw [HM.out.1];exact hltj);obtain ⟨g',rfl⟩:=owns_block HO.out.1 (by rw [HM.out.1];exact hltj);obtain ⟨r0,r1,r2⟩:=(HO.out.1.below HC.out.below).at (g:=g') rfl hx;have r0':wr.cell? ⟨g',j*3,none⟩=some (.int .i64 x0):=r0;have r1':wr.cell? ⟨g',j*3+1,none⟩=some (.int .i64 (xa:Int)):=r1;have r2':wr.cell? ⟨g',j*3+2,none⟩=some (.int .i64 (xb:Int)):=r2;have hxm:(x0,(xa:Int),(xb:Int))∈t:=List.mem_of_getElem? hx;have hwf:(Lit.int .i64 x0).wf=true:=HG.out.2.wf _ (HIO.out.2.2.2.2.2 _ (List.mem_append_right _ hxm));have HN:Hid (∀d∈o++t.take j,d.1≠x0):=λ d hd e=>by
      have hdR:d∈R:=HIO.out.2.2.2.2.2 d (by
       rcases List.mem_append.1 hd with h1 | h1
       ·exact List.mem_append_left _ h1
       ·exact List.mem_append_right _ (List.mem_of_mem_take h1))
      have:=HG.out.2.one d hdR _ (HIO.out.2.2.2.2.2 _ (List.mem_append_right _ hxm)) e;rw [this] at hd;rcases List.mem_append.1 hd with h1 | h1
      ·exact HIO.out.2.2.2.2.1 _ h1 hxm
      ·exact not_before HIO.out.2.2.2.1 hx h1
     have hbel:Below wr.heap.size wr ((wr.alloc (.cells #[.int .i64 x0,.int .i64 (xa:Int),.int .i64 (xb:Int)] 61)).drew):=((Below.refl _ _).alloc (Nat.le_refl _) _).drew;have HC2:Hid (Cv w1 ((wr.alloc (.cells #[.int .i64 x0,.int .i64 (xa:Int),.int .i64 (xb:Int)] 61)).drew) (mb+1) mb mo (o++t.take j) (covN n t o)):=HC.out.below' hbel;have HT:Hid (Calls Tryz.prog 141 #[.int .i64 (n:Int),.slice (some ⟨g',0,none⟩) mt tc,.agg #[.int .i64 x0,.int .i64 (xa:Int),.int .i64 (xb:Int)],.slice oa mo oc] ((wr.alloc (.cells #[.int .i64 x0,.int .i64 (xa:Int),.int .i64 (xb:Int)] 61)).drew) λ e w'=>∃X Y W2,e= .returned (.agg #[.int .u64 (X:Int),.int .u64 (Y:Int)])/\(w'.cell? ⟨mb+1,1,none⟩=some (.map (some mb))/\w'.cell? ⟨wr.heap.size,0,none⟩=some (.int .i64 x0)/\w'.cell? ⟨wr.heap.size,1,none⟩=some (.int .i64 (xa:Int))/\w'.cell? ⟨wr.heap.size,2,none⟩=some (.int .i64 (xb:Int)))/\(Instr.mapUpdate 204 (.map (some mb)) (.int .i64 x0) (.agg #[.int .u64 (X:Int),.int .u64 (Y:Int)])).run Tryz.prog w'= .ok () W2/\(W2.cell? ⟨mb+1,1,none⟩=some (.map (some mb))/\W2.cell? ⟨wr.heap.size,0,none⟩=some (.int .i64 x0)/\W2.cell? ⟨wr.heap.size,1,none⟩=some (.int .i64 (xa:Int))/\W2.cell? ⟨wr.heap.size,2,none⟩=some (.int .i64 (xb:Int)))/\Hid (Cv w1 W2 (mb+1) mb mo (o++t.take (j+1)) (covN n t o))):=by
      have hq0:((wr.alloc (.cells #[.int .i64 x0,.int .i64 (xa:Int),.int .i64 (xb:Int)] 61)).drew).cell? ⟨wr.heap.size,0,none⟩=some (.int .i64 x0):=by simp
      have hq1:((wr.alloc (.cells #[.int .i64 x0,.int .i64 (xa:Int),.int .i64 (xb:Int)] 61)).drew).cell? ⟨wr.heap.size,1,none⟩=some (.int .i64 (xa:Int)):=by simp
      have hq2:((wr.alloc (.cells #[.int .i64 x0,.int .i64 (xa:Int),.int .i64 (xb:Int)] 61)).drew).cell? ⟨wr.heap.size,2,none⟩=some (.int .i64 (xb:Int)):=by simp
      have hmbl:mb<wr.heap.size:=by
       obtain ⟨D,N,h1,_,_⟩:=HC.out.mp;obtain ⟨es,clock,h1,_⟩:=h1;exact lt_of_some h1
      refine (through_any n B1 B1 _ _ t o (x0,(xa:Int),(xb:Int)) _ (HO.out.1.below HC2.out.below) (HO.out.2.1.below HC2.out.below) HIO.out.2.1 HIO.out.1 hxm (by omega) (by rw [HM.out.1];omega) (by rw [HM.out.2];omega)).mono ?_;rintro e w' ⟨rfl,hb'⟩;have HC3:=HC2.out.below' hb';obtain ⟨W2,hup,hcv2,hgr⟩:=HC3.more (x0,(xa:Int),(xb:Int)) HN.out hwf (by rw [List.length_append,List.length_take,HM.out.2];omega);rw [covN_tree hxm] at hup;rw [List.append_assoc,<-take_one hx] at hcv2;have k0:=cell_below hq0 hb';have k1:=cell_below hq1 hb';have k2:=cell_below hq2 hb';have kg:∀{i:Nat} {u:Value},w'.cell? ⟨wr.heap.size,i,none⟩=some u->W2.cell? ⟨wr.heap.size,i,none⟩=some u:=λ {i u} hk=>by
       have hl:=lt_of_cell hk;simp only [World.cell?] at hk ⊢;rw [hgr.block wr.heap.size hl (by simp;omega)];exact hk
      exact ⟨_,_,W2,rfl,⟨HC3.cell1,k0,k1,k2⟩,hup,⟨hcv2.cell1,kg k0,kg k1,kg k2⟩,hcv2⟩
     have HG2:Hid (G.GAt ((wr.alloc (.cells #[.int .i64 x0,.int .i64 (xa:Int),.int .i64 (xb:Int)] 61)).drew) B 168 61 p (n:Int) v R):=(HG.out.1.below HO.out.2.2).below HC2.out.below;have hS0:(((wr.alloc (.cells #[.int .i64 x0,.int .i64 (xa:Int),.int .i64 (xb:Int)] 61)).drew).cell? ⟨mb+1,1,none⟩=some (.map (some mb))/\((wr.alloc (.cells #[.int .i64 x0,.int .i64 (xa:Int),.int .i64 (xb:Int)] 61)).drew).cell? ⟨wr.heap.size,0,none⟩=some (.int .i64 x0)/\((wr.alloc (.cells #[.int .i64 x0,.int .i64 (xa:Int),.int .i64 (xb:Int)] 61)).drew).cell? ⟨wr.heap.size,1,none⟩=some (.int .i64 (xa:Int))/\((wr.alloc (.cells #[.int .i64 x0,.int .i64 (xa:Int),.int .i64 (xb:Int)] 61)).drew).cell? ⟨wr.heap.size,2,none⟩=some (.int .i64 (xb:Int))):=⟨HC2.out.cell1,by simp,by simp,by simp⟩;clear r0 r1 r2 hx hxa hxb hxm hbel HC2 HC HN;go_upto_region 13 with fail
     clear r0' r1' r2';go_region_held (λ w'=>(w'.cell? ⟨mb+1,1,none⟩=some (.map (some mb))/\w'.cell? ⟨wr.heap.size,0,none⟩=some (.int .i64 x0)/\w'.cell? ⟨wr.heap.size,1,none⟩=some (.int .i64 (xa:Int))/\w'.cell? ⟨wr.heap.size,2,none⟩=some (.int .i64 (xb:Int)))) (with_reducible assumption)
      (first
      | (go_at_call 52;refine (G.nodes_any (n:Int) B p v R _ HG2.out).mono ?_;rintro e w' ⟨rfl,rfl⟩)
      | (go_at_call 141;refine HT.out.mono ?_;rintro e w' ⟨X,Y,W2,rfl,hS1,hup,hS2,hcv2⟩))
     all_goals
      go_wp2_with fail;go_roundw;case rel=>exact ⟨j+1,by omega,by go_num,hcv2.out⟩
      case measure=>simp [intOf];omega
    ·as_aux_lemma=>
     have HC1:Hid (Cv w wr (mb+1) mb mo (o++t) (covN n t o)):=by
      have hje:j=mt:=by omega
      have h2:=HC.out;rw [hje,<-HM.out.1,List.take_length] at h2;exact h2.base HO.out.2.2
     have HUN:Hid _:=HU.out wr (mb+1) mb (by rw [HM.out.2];exact HC1.out);clear HC;go_wp2_with fail;refine Calls.mono HUN.out ?_;rintro e w5 ⟨q,bq,rfl,hs5,hq5,hbq5,hb5⟩;have HC5:Hid (Cv w w5 (mb+1) mb mo (o++t) (covN n t o)):=HC1.out.below' hb5;obtain ⟨u2,hst⟩:=HC5.out.st;have k2:w5.cell? ⟨mb+1,2,none⟩=some u2:=by simp [World.cell?,hst]
     have f2:w5.frozen? ⟨mb+1,2,none⟩=false:=by simp [World.frozen?,hst]
     have hcl:mb+1<wr.heap.size:=by obtain ⟨u,hu⟩:=HC1.out.st;exact lt_of_some hu
     have HF:Hid (Cv w (w5.setCell ⟨mb+1,2,none⟩ (.pointer (some ⟨q,0,none⟩))) (mb+1) mb mo (o++t) (covN n t o)/\(w5.setCell ⟨mb+1,2,none⟩ (.pointer (some ⟨q,0,none⟩))).heap[mb+1]? =some (.cells #[.int .i64 (mo:Int),.map (some mb),.pointer (some ⟨q,0,none⟩)] 206)/\SetsAt (w5.setCell ⟨mb+1,2,none⟩ (.pointer (some ⟨q,0,none⟩))) q bq L3):=by
      have hnew:(w5.setCell ⟨mb+1,2,none⟩ (.pointer (some ⟨q,0,none⟩))).heap[mb+1]? =some (.cells #[.int .i64 (mo:Int),.map (some mb),.pointer (some ⟨q,0,none⟩)] 206):=by
       simp only [World.setCell,Array.getElem?_modify,hst];simp
      have hg:w5.grownBy (w5.setCell ⟨mb+1,2,none⟩ (.pointer (some ⟨q,0,none⟩))) (some (mb+1)):=⟨rfl,rfl,rfl,by simp,λ k _ hne=>Below.heap_setCell _ _ _ _ (λ e=>hne (by rw [e]))⟩;obtain ⟨D,N,h1,h2,h3⟩:=HC5.out.mp;refine ⟨{HC5.out with st:=⟨_,hnew⟩,mp:=⟨D,N,h1.kept hg (by simp),h2,h3⟩,below:=HC5.out.below.grown hg HC5.out.below.size (λ j hj=>by injection hj with hj;have:=HC5.out.lc;omega)},hnew,?_⟩;exact ⟨(Below.heap_setCell _ _ _ _ (show q≠mb+1 by omega)).trans hs5.hp,(Below.heap_setCell _ _ _ _ (show bq≠mb+1 by omega)).trans hs5.hb⟩
     clear hst hs5 hb5 HC5 HUN;go_wp2_with fail;go_ret;refine ⟨mb+1,mb,q,bq,rfl,?_,?_,HF.out.2.2⟩
     ·rw [HTO.out.1,HTO.out.2,HM.out.2];exact HF.out.1
     ·rw [HTO.out.2,HM.out.2];exact HF.out.2.1
theorem zero208 (w:World):(zeroValue 208).run Tryz.prog w= .ok (ringV 0) w:=by kernel_rfl
theorem ring_back {v:Value} {x:Nat} {ps:List MemPlace} (h:ringR v=some (ringD x,ps)):v=ringV x:=by
 obtain ⟨c,rfl,hy⟩:=ringR_inv h;have h1:=congrArg Prod.fst hy;simp only [ringD,DataW.agg.injEq,List.cons.injEq,DataW.lit.injEq,Lit.int.injEq,true_and,and_true] at h1;obtain ⟨h2,h3⟩:=h1;rw [<-h2,<-h3];rfl
structure Co (w:World) (c mb rest:Nat) (S:List Edg) (f:Edg->Nat):Prop where
 st:∃v,w.heap[c]? =some (.cells #[.int .i64 (rest:Int),.map (some mb),v] 206)
 mp:∃D N,w.ownsMap Tryz.prog 3 ringR mb N D/\Rm D S f
theorem Cv.co {w0 w:World} {c mb rest:Nat} {S:List Edg} {f:Edg->Nat} (h:Cv w0 w c mb rest S f):Co w c mb rest S f:=by
 obtain ⟨D,N,h1,h2,_⟩:=h.mp;exact ⟨h.st,D,N,h1,h2⟩
section
variable {w w':World} {c mb rest:Nat} {S:List Edg} {f:Edg->Nat}
theorem Co.below (h:Co w c mb rest S f) (hb:Below w.heap.size w w'):Co w' c mb rest S f:=by
 obtain ⟨v,hv⟩:=h.st;obtain ⟨D,N,h1,h2⟩:=h.mp;exact ⟨⟨v,(hb.block c (lt_of_some hv)).trans hv⟩,D,N,h1.kept (grown_below hb) (by simp),h2⟩
theorem Co.cell1 (h:Co w c mb rest S f):w.cell? ⟨c,1,none⟩=some (.map (some mb)):=by
 obtain ⟨v,hv⟩:=h.st;simp [World.cell?,hv]
theorem Co.look_in (h:Co w c mb rest S f) {e:Edg} (he:e∈S) (hw:(Lit.int .i64 e.1).wf=true):
 (Instr.lookup 204 (.map (some mb)) (.int .i64 e.1) true).run Tryz.prog w= .ok (.tuple #[ringV (f e),.bool true]) w/\(Instr.lookup 204 (.map (some mb)) (.int .i64 e.1) false).run Tryz.prog w= .ok (ringV (f e)) w:=by
 obtain ⟨D,N,h1,h2⟩:=h.mp;have hh:Maps.has D (.int .i64 e.1)=true:=(h2.key _).2 ⟨e,he,rfl⟩;obtain ⟨v,ps,r1,r2⟩:=h1.look_ok law3 Tryz.underlying204 (zero208 w) (ringR_mk 0) (key3 e.1 hw);obtain ⟨v',ps',q1,q2⟩:=h1.lookup law3 Tryz.underlying204 (zero208 w) (ringR_mk 0) (key3 e.1 hw);rw [h2.val e he] at r2 q2;rw [r1,q1,hh,ring_back r2,ring_back q2];exact ⟨rfl,rfl⟩
end
theorem eq101 (a b c d:Int) (w:World):(Op.equalIn 10000 208 (.agg #[.int .u64 a,.int .u64 b]) (.agg #[.int .u64 c,.int .u64 d])).run Tryz.prog w= .ok (a==c&&b==d) w:=by
 have u3:=Tryz.underlying132;have a3:=Tryz.isAgg132;have z3:=Tryz.sizeOf132;rw [show (10000:Nat)=9999+1 from rfl,Op.equalIn];simp only [Sem.run_bind,run_underlying Tryz.underlying208,Result.andThen_ok];simp only [Std.Legacy.Range.forIn_eq_forIn_range',Std.Legacy.Range.size,Nat.sub_zero,Nat.add_sub_cancel,Nat.div_one,List.range'_succ,List.range'_zero,List.forIn_cons,List.forIn_nil];go_simp;by_cases h1:a=c <;> by_cases h2:b=d <;> simp [h1,h2]
end Go.Proofs.YtebcjaenhiiflaaGreatDoor.S
namespace Go.Proofs.YtebcjaenhiiflaaGreatDoor.S
open Go.RowKit Go.WideMaps Go.Maps
structure Ed (n i:Nat) (L:List (Int × Int × Int)):Prop where
 up:G.Up L
 ids:∀e∈L,0<=e.1/\e.1<=1099511627776
 ends:∀e∈L,∃x y:Nat,x<y/\y<n/\e=(e.1,(x:Int),(y:Int))
 len:L.length<=i
theorem wf_small {x:Int} (h0:0<=x) (h1:x<=1099511627776):(Lit.int .i64 x).wf=true:=WalkArith.wf_i64 (by omega)
theorem Ed.mono {n i j:Nat} {L:List (Int × Int × Int)} (h:Ed n i L) (hij:i<=j):Ed n j L:=
 ⟨h.up,λ e he=>by have:=h.ids e he;omega,h.ends,by have:=h.len;omega⟩
theorem Ed.nat {n i:Nat} {L:List (Int × Int × Int)} (h:Ed n i L) {e:Int × Int × Int} (he:e∈L):e.2.1=(ea e:Int)/\e.2.2=(eb e:Int)/\ea e<n/\eb e<n/\ea e<eb e:=by
 obtain ⟨x,y,hxy,hy,hq⟩:=h.ends e he;have h1:e.2.1=(x:Int):=by rw [hq]
 have h2:e.2.2=(y:Int):=by rw [hq]
 have h3:ea e=x:=by unfold ea;rw [h1];simp
 have h4:eb e=y:=by unfold eb;rw [h2];simp
 rw [h3,h4];exact ⟨h1,h2,by omega,by omega,by omega⟩
theorem Ed.inn {n i:Nat} {L:List (Int × Int × Int)} (h:Ed n i L):∀e∈L,ea e<n/\eb e<n:=λ _ he=>⟨(h.nat he).2.2.1,(h.nat he).2.2.2.1⟩
theorem wo_stays {n i:Nat} {L:List (Int × Int × Int)} (h:Ed n i L) (x:Nat) (Fe:Nat->Int):L.filter (G.stays Fe (λ _=>(x:Int)) 0 1)=wo L x:=by
 unfold wo;apply List.filter_congr;intro e he;have hn:=h.nat he;unfold G.stays G.among;rw [hn.1,hn.2.1,Bool.eq_iff_iff];simp;omega
theorem kx_joins {n i:Nat} {L:List (Int × Int × Int)} (h:Ed n i L) (x:Nat):Good n (joins (List.range n) (wo L x))/\Kx n L x (joins (List.range n) (wo L x)):=by
 have hin:∀d∈wo L x,ea d<n/\eb d<n:=λ d hd=>h.inn d (mem_wo.1 hd).1
 have hg:=good_joins (wo L x) _ (good_range n) hin;refine ⟨hg,λ u v hu hv=>?_⟩;rw [<-Lk.iff hu hv,Lk_joins (wo L x) _ (good_range n) hin];constructor
 ·intro c
  refine Conn.lift c ?_;rintro p q (c | ⟨e,he,rfl,rfl⟩)
  ·rcases c with rfl | ⟨h1,h2,h3⟩
   ·exact Conn.refl _
   ·have e1:(List.range n).getD p 0=p:=by simp [h1]
    have e2:(List.range n).getD q 0=q:=by simp [h2]
    rw [e1,e2] at h3;subst h3;exact Conn.refl _
  ·exact cn_edge he
 ·intro c
  refine Conn.lift c ?_;rintro p q ⟨e,he,rfl,rfl⟩;exact Conn.base (.inr ⟨e,he,rfl,rfl⟩)
theorem But.cell {b:Nat} {w w':World} (h:But b w w') {g i:Nat} {v:Value} (hg:w.cell? ⟨g,i,none⟩=some v) (h1:g≠b):w'.cell? ⟨g,i,none⟩=some v:=by
 have hl:=lt_of_cell hg;simp only [World.cell?] at hg ⊢;rw [h.block g hl h1];exact hg
theorem joins_snoc (L:List Nat) (ds:List (Int × Int × Int)) (d:Int × Int × Int):joins L (ds++[d])=joinL (joins L ds) (ea d) (eb d):=by
 rw [joins_append];rfl
theorem bwo_any (x n B0 q M:Nat) (u:Value) (R:List (Int × Int × Int)) (w:World) (h:G.GAt w B0 168 61 q (n:Int) u R) (hn:n<=40) (hed:Ed n M R) (hM:M<=120):
 Calls Tryz.prog 246 #[.pointer (some ⟨q,0,none⟩),.int .i64 (x:Int)] w λ e w'=>∃p b K,e= .returned (.pointer (some ⟨p,0,none⟩))/\SetsAt w' p b K/\Good n K/\Kx n R x K/\Below w.heap.size w w'/\w.heap.size<=p/\w.heap.size<=b:=by
 have HG:Hid (G.GAt w B0 168 61 q (n:Int) u R):=h;have HE:Hid (Ed n M R):=hed;have HKX:=(show Hid _ from kx_joins hed x);have hlen:=hed.len;clear h hed;go_enter Tryz.func246,Tryz.ntmps246;go_wp2_with fail;refine (G.nodes_any (n:Int) B0 q u R w HG.out).mono ?_;rintro e w1 ⟨rfl,hw1⟩;subst hw1;go_wp2_with fail;refine (new_in n w1 hn).mono ?_;rintro e w2 ⟨rfl,hs2,hb2⟩;have HS2:Hid (SetsAt w2 (w1.heap.size+1) w1.heap.size (List.range n)/\Below w1.heap.size w1 w2):=⟨hs2,hb2⟩;have hsz:w1.heap.size+1<w2.heap.size:=hs2.plt;obtain ⟨W1,hW1⟩:∃W1,W1=w2.alloc (.cells #[.int .i64 (x:Int)] 3):=⟨_,rfl⟩;have hbW:Below w2.heap.size w2 W1:=by rw [hW1];exact (Below.refl _ _).alloc (Nat.le_refl _) _
 have hcW:W1.cell? ⟨w2.heap.size,0,none⟩=some (.int .i64 (x:Int)):=by rw [hW1,World.cell?_alloc_at _ _ _ _ rfl];rfl
 have HW1:Hid (w2.alloc (.cells #[.int .i64 (x:Int)] 3)=W1):=hW1.symm;have HBW:Hid (Below w2.heap.size w2 W1/\W1.cell? ⟨w2.heap.size,0,none⟩=some (.int .i64 (x:Int))):=⟨hbW,hcW⟩;clear hs2 hb2 hW1 hbW hcW;go_wp2_with fail;rw [HW1.out];refine (G.without_any (n:Int) B0 q u R none (some ⟨w2.heap.size,0,none⟩) 0 1 0 1 (λ _=>0) (λ _=>(x:Int)) W1 ((HG.out.below HS2.out.2).below HBW.out.1) (by omega) ⟨λ h=>by omega⟩ ⟨λ _=>⟨w2.heap.size,0,rfl,λ t ht=>by
  obtain rfl:t=0:=by omega
  exact HBW.out.2⟩⟩ (by omega) (by omega)).mono ?_
 rintro e w3 ⟨p',v',rfl,hg3,hb3⟩;rw [wo_stays HE.out] at hg3;have HG3:Hid (G.GAt w3 W1.heap.size 168 61 p' (n:Int) v' (wo R x)):=hg3;have HB3:Hid (Below w2.heap.size w2 w3):=HBW.out.1.trans (hb3.mono HBW.out.1.size);have hwl:(wo R x).length<=R.length:=List.length_filter_le _ _;clear hg3 hb3 HBW HW1;go_wp2_with fail;refine (G.edges_any (n:Int) _ p' v' (wo R x) w3 HG3.out (by omega)).mono ?_;rintro e w4 ⟨v,rfl,ho,hb4⟩;obtain ⟨m,hm⟩:∃m,m=(wo R x).length:=⟨_,rfl⟩;have HM':Hid (m=(wo R x).length):=hm;obtain ⟨va,vc,hv⟩:=ho.slice_len;rw [<-hm] at hv hwl;subst hv;have HO:Hid (G.Owns w4 w3.heap.size 61 (.slice va m vc) (wo R x)):=ho;have HB4:Hid (Below w2.heap.size w2 w4):=HB3.out.trans (hb4.mono HB3.out.size);have HS4:Hid (SetsAt w4 (w1.heap.size+1) w1.heap.size (List.range n)):=HS2.out.1.below HB4.out hsz (by omega);have hs34:w2.heap.size<=w3.heap.size:=HB3.out.size;clear ho hb4 hm;go_wp2_with fail;go_loopw [21] (λ s21 wq=>∃j:Nat,j<=m/\s21= .int .i64 j/\SetsAt wq (w1.heap.size+1) w1.heap.size (joins (List.range n) ((wo R x).take j))/\But w1.heap.size w4 wq) (λ s21 _=>m-(intOf s21).toNat)
 case atStart=>exact ⟨0,Nat.zero_le _,rfl,by simpa [joins] using HS4.out,But.refl _ _⟩
 case round=>
  clear HS4;obtain ⟨j,hj,rfl,hs,hk⟩:=hrel;have HR:Hid (SetsAt wr (w1.heap.size+1) w1.heap.size (joins (List.range n) ((wo R x).take j))/\But w1.heap.size w4 wr):=⟨hs,hk⟩;clear hs hk;by_cases hlt:j<m
  ·obtain ⟨e,hxe⟩:∃e,(wo R x)[j]? =some e:=⟨_,List.getElem?_eq_getElem (by rw [<-HM'.out];exact hlt)⟩
   have heL:=(mem_wo.1 (List.mem_of_getElem? hxe)).1;have hnat:=HE.out.nat heL;obtain ⟨g,hva⟩:∃g,va=some ⟨g,0,none⟩:=by
    rcases HO.out.shape with ⟨_,k⟩ | ⟨g,cap,k,_⟩
    ·rw [k] at hxe;simp at hxe
    ·injection k with e1 _ _
     exact ⟨g,e1⟩
   subst hva;obtain ⟨r0,r1,r2⟩:=HO.out.at (g:=g) rfl hxe;have hgb:=World.ownsRow.lt HO.out g rfl;have q0:=(HR.out.2.cell (g:=g) r0 (by omega));have q1:=(HR.out.2.cell (g:=g) r1 (by omega));have q2:=(HR.out.2.cell (g:=g) r2 (by omega));have HTK:Hid ((wo R x).take (j+1)=(wo R x).take j++[e]):=by
    show (wo R x).take (j+1)=_;rw [List.take_add_one,hxe];rfl
   rw [hnat.1] at q1;rw [hnat.2.1] at q2;obtain ⟨hA,hE,hAE⟩:=hnat.2.2;have HAE:Hid (joins (List.range n) ((wo R x).take (j+1))=joinL (joins (List.range n) ((wo R x).take j)) (ea e) (eb e)):=by
    show joins _ _=_;rw [HTK.out,joins_snoc]
   have hgl:(joins (List.range n) ((wo R x).take j)).length=n:=(good_joins ((wo R x).take j) _ (good_range n) (λ d hd=>HE.out.inn d (mem_wo.1 (List.mem_of_mem_take hd)).1)).len;generalize ea e=A at*;generalize eb e=E at*;generalize e.1=x0 at*;generalize joins (List.range n) ((wo R x).take j)=J at*;clear hxe r0 r1 r2 heL hnat HTK;obtain ⟨W1,hW1⟩:∃W1,W1=wr.alloc (.cells #[.int .i64 x0,.int .i64 (A:Int),.int .i64 (E:Int)] 61):=⟨_,rfl⟩;have hh:W1.heap[wr.heap.size]? =some (.cells #[.int .i64 x0,.int .i64 (A:Int),.int .i64 (E:Int)] 61):=by rw [hW1];exact heap_alloc_new wr _
   have p0:W1.cell? ⟨wr.heap.size,0,none⟩=some (.int .i64 x0):=by simp [World.cell?,hh]
   have p1:W1.cell? ⟨wr.heap.size,1,none⟩=some (.int .i64 (A:Int)):=by simp [World.cell?,hh]
   have p2:W1.cell? ⟨wr.heap.size,2,none⟩=some (.int .i64 (E:Int)):=by simp [World.cell?,hh]
   have hbW:Below wr.heap.size wr W1:=by rw [hW1];exact (Below.refl _ _).alloc (Nat.le_refl _) _
   have HR1:Hid (SetsAt W1 (w1.heap.size+1) w1.heap.size J/\But w1.heap.size w4 W1):=⟨HR.out.1.below hbW HR.out.1.plt HR.out.1.blt,HR.out.2.trans (But.of_below hbW)⟩;have HW1:Hid (wr.alloc (.cells #[.int .i64 x0,.int .i64 (A:Int),.int .i64 (E:Int)] 61)=W1):=hW1.symm;clear hh hW1 hbW HR;go_wp2_with fail;rw [HW1.out];refine (join_nm A E _ _ J _ W1 HR1.out.1 (by omega) (by omega) (by omega) rfl).mono ?_;rintro e' w5 ⟨rfl,hs5,hk5⟩;have HR5:Hid (SetsAt w5 (w1.heap.size+1) w1.heap.size (joins (List.range n) ((wo R x).take (j+1)))/\But w1.heap.size w4 w5):=by
    rw [HAE.out];exact ⟨hs5,HR1.out.2.trans hk5⟩
   clear hs5 hk5 HR1 p0 p1 p2;go_wp2_with fail;go_roundw;case rel=>exact ⟨j+1,by omega,by go_num,HR5.out.1,HR5.out.2⟩
   case measure=>simp [intOf];omega
  ·have hje:j=m:=by omega
   subst hje;have HF:Hid (SetsAt wr (w1.heap.size+1) w1.heap.size (joins (List.range n) (wo R x))):=by
    have:=HR.out.1;rw [List.take_of_length_le (by rw [<-HM'.out];omega)] at this;exact this
   have HBF:Hid (Below w1.heap.size w1 wr):=(HS2.out.2.trans (HB4.out.mono HS2.out.2.size)).trans (HR.out.2.below (Nat.le_refl _) (by have:=HB4.out.size;omega));clear HR;go_wp2_with fail;go_ret;exact ⟨_,_,_,rfl,HF.out,HKX.out.1,HKX.out.2,HBF.out,Nat.le_succ _,Nat.le_refl _⟩
def idAt (R:List (Int × Int × Int)) (j:Nat):Int:=(R.getD j (0,0,0)).1
theorem idAt_of {R:List (Int × Int × Int)} {i:Nat} {e:Int × Int × Int} (h:R[i]? =some e):idAt R i=e.1:=by simp [idAt,h]
theorem idAt_lt {R:List (Int × Int × Int)} (hu:G.Up R) {i j:Nat} (h:i<j) (hj:j<R.length):idAt R i<idAt R j:=by
 have:=List.pairwise_iff_getElem.1 hu i j (by omega) hj h
 simpa [idAt,hj,show i<R.length by omega] using this
theorem idAt_inj {R:List (Int × Int × Int)} (hu:G.Up R) {i j:Nat} (hi:i<R.length) (hj:j<R.length) (h:idAt R i=idAt R j):i=j:=by
 rcases Nat.lt_trichotomy i j with c | c | c
 ·have:=idAt_lt hu c hj;omega
 ·exact c
 ·have:=idAt_lt hu c hi;omega
structure Lm (D:DataW Unit) (R:List (Int × Int × Int)) (L:List Nat):Prop where
 key:∀x:Int,Maps.has D (.int .i64 x)=true↔∃e∈R,e.1=x
 val:∀i e,R[i]? =some e->∀zd,D.atKey (.int .i64 e.1) zd= .lit (.int .i64 (idAt R (L.getD i 0)))
structure BlAt (w:World) (p m N:Nat) (D:DataW Unit) (v:Value):Prop where
 hp:w.heap[p]? =some (.cells #[.map (some m),v] 196)
 hm:w.ownsMap Tryz.prog 3 (plainElem Tryz.prog 3) m N D
namespace BlAt
variable {w w':World} {p m N:Nat} {D D':DataW Unit} {v:Value}
theorem plt (h:BlAt w p m N D v):p<w.heap.size:=lt_of_some h.hp
theorem c0 (h:BlAt w p m N D v):w.cell? ⟨p,0,none⟩=some (.map (some m)):=by simp [World.cell?,h.hp]
theorem c1 (h:BlAt w p m N D v):w.cell? ⟨p,1,none⟩=some v:=by simp [World.cell?,h.hp]
theorem ne (h:BlAt w p m N D v):p≠m:=by
 obtain ⟨es,c,hb,_⟩:=h.hm;rintro rfl;rw [h.hp] at hb;simp at hb
theorem below (h:BlAt w p m N D v) (hb:Below w.heap.size w w'):BlAt w' p m N D v:=
 ⟨by rw [hb.block p h.plt];exact h.hp,h.hm.kept (row:=none) ⟨hb.os,hb.tape,hb.output,hb.size,λ k hk _=>hb.block k hk⟩ (by simp)⟩
theorem drewN (h:BlAt w p m N D v) (n:Nat):BlAt (w.drewN n) p m N D v:=⟨h.hp,h.hm⟩
end BlAt
def nm (lo hi l:Int):Int:=if l=hi then lo else l
theorem nm_id {R:List (Int × Int × Int)} {L:List Nat} (hu:G.Up R) (g:Good R.length L) {x y i:Nat} (hx:x<R.length) (hy:y<R.length) (hi:i<R.length):
 nm (min (idAt R (L.getD x 0)) (idAt R (L.getD y 0))) (max (idAt R (L.getD x 0)) (idAt R (L.getD y 0))) (idAt R (L.getD i 0))=idAt R ((joinL L x y).getD i 0):=by
 have lx:=g.le x hx;have ly:=g.le y hy;have li:=g.le i hi;rw [joinL_at _ _ _ _ (by rw [g.len];exact hi)];generalize L.getD x 0=X at*;generalize L.getD y 0=Y at*;generalize L.getD i 0=I at*;have hmin:min (idAt R X) (idAt R Y)=idAt R (min X Y):=by
  rcases Nat.lt_trichotomy X Y with c | c | c
  ·have:=idAt_lt hu c (by omega);rw [Nat.min_eq_left (by omega)];omega
  ·subst c;rw [Nat.min_self];omega
  ·have:=idAt_lt hu c (by omega);rw [Nat.min_eq_right (by omega)];omega
 have hmax:max (idAt R X) (idAt R Y)=idAt R (max X Y):=by
  rcases Nat.lt_trichotomy X Y with c | c | c
  ·have:=idAt_lt hu c (by omega);rw [Nat.max_eq_right (by omega)];omega
  ·subst c;rw [Nat.max_self];omega
  ·have:=idAt_lt hu c (by omega);rw [Nat.max_eq_left (by omega)];omega
 rw [hmin,hmax];unfold nm named;by_cases c:I=max X Y
 ·rw [if_pos (by rw [c]),if_pos c]
 ·rw [if_neg (λ k=>c (idAt_inj hu (by omega) (by omega) k)),if_neg c]
structure Mid (D:DataW Unit) (R:List (Int × Int × Int)) (L:List Nat) (lo hi:Int) (left:Lit->Bool):Prop where
 key:∀x:Int,Maps.has D (.int .i64 x)=true↔∃e∈R,e.1=x
 old:∀i e,R[i]? =some e->left (.int .i64 e.1)=true->∀zd,D.atKey (.int .i64 e.1) zd= .lit (.int .i64 (idAt R (L.getD i 0)))
 new:∀i e,R[i]? =some e->left (.int .i64 e.1)=false->∀zd,D.atKey (.int .i64 e.1) zd= .lit (.int .i64 (nm lo hi (idAt R (L.getD i 0))))
theorem mid_start {D:DataW Unit} {R:List (Int × Int × Int)} {L:List Nat} (h:Lm D R L) (lo hi:Int):Mid D R L lo hi (Maps.has D):=
 ⟨h.key,λ i e he _=>h.val i e he,λ i e he hl=>by
   rw [(h.key e.1).2 ⟨e,List.mem_of_getElem? he,rfl⟩] at hl;cases hl⟩
theorem mid_end {D:DataW Unit} {R:List (Int × Int × Int)} {L:List Nat} {x y:Nat} {left:Lit->Bool} (hu:G.Up R) (g:Good R.length L) (hx:x<R.length) (hy:y<R.length)
 (h:Mid D R L (min (idAt R (L.getD x 0)) (idAt R (L.getD y 0))) (max (idAt R (L.getD x 0)) (idAt R (L.getD y 0))) left) (hl:∀kl,left kl=false):Lm D R (joinL L x y):=
 ⟨h.key,λ i e he zd=>by
   rw [h.new i e he (hl _) zd,nm_id hu g hx hy (List.getElem?_eq_some_iff.1 he).1]⟩
theorem key_self (x y:Int):(Lit.int .i64 x).sameKey (.int .i64 y)=decide (x=y):=by
 by_cases h:x=y
 ·subst h;rw [WideAt.sameKey_self (isKeyLit x)];simp
 ·rw [sameKey_ne (by simpa using h)];simp [h]
theorem up_one {R:List (Int × Int × Int)} (hu:G.Up R) {i j:Nat} {e f:Int × Int × Int} (hi:R[i]? =some e) (hj:R[j]? =some f) (h:e.1=f.1):i=j/\e=f:=by
 have e1:=idAt_of hi;have e2:=idAt_of hj;have hij:=idAt_inj hu (List.getElem?_eq_some_iff.1 hi).1 (List.getElem?_eq_some_iff.1 hj).1 (by rw [e1,e2,h]);subst hij;rw [hi] at hj;cases hj;exact ⟨rfl,rfl⟩
theorem mid_stay {D:DataW Unit} {R:List (Int × Int × Int)} {L:List Nat} {lo hi:Int} {left:Lit->Bool} (hu:G.Up R) (h:Mid D R L lo hi left) {i:Nat} {e:Int × Int × Int} (he:R[i]? =some e) (hl:left (.int .i64 e.1)=true) (hne:idAt R (L.getD i 0)≠hi):
 Mid D R L lo hi (λ z=>left z&&!z.sameKey (.int .i64 e.1)):=by
 refine ⟨h.key,λ j f hf hlf zd=>?_,λ j f hf hlf zd=>?_⟩
 ·simp only [Bool.and_eq_true] at hlf
  exact h.old j f hf hlf.1 zd
 ·by_cases c:f.1=e.1
  ·obtain ⟨rfl,rfl⟩:=up_one hu hf he c
   rw [h.old j f hf hl zd];unfold nm;rw [if_neg hne]
  ·simp only [key_self,c,decide_false,Bool.not_false,Bool.and_true] at hlf
   exact h.new j f hf hlf zd
theorem mid_turn {D:DataW Unit} {R:List (Int × Int × Int)} {L:List Nat} {lo hi:Int} {left:Lit->Bool} (hD:IsMap D) (hu:G.Up R) (h:Mid D R L lo hi left) {i:Nat} {e:Int × Int × Int} (he:R[i]? =some e) (heq:idAt R (L.getD i 0)=hi):
 Mid (D.put (.int .i64 e.1) (.lit (.int .i64 lo))) R L lo hi (λ z=>left z&&!z.sameKey (.int .i64 e.1)):=by
 refine ⟨λ x=>?_,λ j f hf hlf zd=>?_,λ j f hf hlf zd=>?_⟩
 ·by_cases c:x=e.1
  ·subst c
   rw [has_put_same hD (isKeyLit _)];exact ⟨λ _=>⟨e,List.mem_of_getElem? he,rfl⟩,λ _=>rfl⟩
  ·rw [has_put_other (by simpa using c)];exact h.key x
 ·by_cases c:f.1=e.1
  ·simp [key_self,c] at hlf
  ·rw [atKey_put_other (by simpa using c)]
   simp only [Bool.and_eq_true] at hlf;exact h.old j f hf hlf.1 zd
 ·by_cases c:f.1=e.1
  ·obtain ⟨rfl,rfl⟩:=up_one hu hf he c
   rw [atKey_put_same hD (isKeyLit _)];unfold nm;rw [if_pos heq]
  ·rw [atKey_put_other (by simpa using c)]
   simp only [key_self,c,decide_false,Bool.not_false,Bool.and_true] at hlf;exact h.new j f hf hlf zd
theorem But.next {m r:Nat} {w w1 w2:World} (h:But m w w1) (hr:w.heap.size<=r) (hg:w1.grownBy w2 (some r)):But m w w2:=
 ⟨hg.os.trans h.os,hg.tape.trans h.tape,hg.output.trans h.output,Nat.le_trans h.size hg.size,λ k hk hn=>(hg.block k (Nat.lt_of_lt_of_le hk h.size) (λ e=>by injection e with e;omega)).trans (h.block k hk hn)⟩
theorem But.turned {m:Nat} {w w1 w2:World} (h:But m w w1) (hg:w1.mapTurned w2 m):But m w w2:=
 ⟨hg.grown.os.trans h.os,hg.grown.tape.trans h.tape,hg.grown.output.trans h.output,Nat.le_trans h.size hg.grown.size,λ k hk hn=>(hg.grown.block k (Nat.lt_of_lt_of_le hk h.size) (λ e=>by injection e with e;omega)).trans (h.block k hk hn)⟩
theorem zero3 (w:World):(zeroValue 3).run Tryz.prog w= .ok (.int .i64 0) w:=by kernel_rfl
theorem lit_inj {a b:Int} (h:(DataW.lit (.int .i64 a):DataW Unit)= .lit (.int .i64 b)):a=b:=by
 injection h with h
 injection h
theorem look_least {w:World} {m N:Nat} {D:DataW Unit} {R:List (Int × Int × Int)} {L:List Nat} (hm:w.ownsMap Tryz.prog 3 (plainElem Tryz.prog 3) m N D) (hl:Lm D R L) {i:Nat} {e:Int × Int × Int} (he:R[i]? =some e) (hw:(Lit.int .i64 e.1).wf=true):
 (Instr.lookup 183 (.map (some m)) (.int .i64 e.1) false).run Tryz.prog w= .ok (.int .i64 (idAt R (L.getD i 0))) w:=by
 obtain ⟨c,hrun,hat,_⟩:=hm.lookup_int law3 Tryz.underlying183 Tryz.underlying3 (zero3 w) (key3 e.1 hw);rw [hl.val i e he] at hat;have:c=idAt R (L.getD i 0):=by
  have h2:=lit_inj hat;exact h2.symm
 rw [hrun,this]
theorem bjoin_any {R:List (Int × Int × Int)} {L:List Nat} {e f:Int × Int × Int} (x y p m N:Nat) (D:DataW Unit) (v:Value) (w:World) (h:BlAt w p m N D v) (hl:Lm D R L) (g:Good R.length L) (hu:G.Up R) (hx:R[x]? =some e) (hy:R[y]? =some f) (hid:∀e∈R,0<=e.1/\e.1<=1099511627776):
 Calls Tryz.prog 249 #[.pointer (some ⟨p,0,none⟩),.int .i64 e.1,.int .i64 f.1] w λ en w'=>en= .returned (.tuple #[])/\∃D',BlAt w' p m N D' v/\Lm D' R (joinL L x y)/\But m w w':=by
 have hxl:=(List.getElem?_eq_some_iff.1 hx).1;have hyl:=(List.getElem?_eq_some_iff.1 hy).1;have hwf:∀e∈R,(Lit.int .i64 e.1).wf=true:=λ e he=>wf_small (hid e he).1 (hid e he).2
 have hix:0<=idAt R (L.getD x 0)/\idAt R (L.getD x 0)<=1099511627776:=by
  have hl:=Nat.lt_of_le_of_lt (g.le x hxl) hxl;have:=idAt_of (List.getElem?_eq_getElem hl);rw [this];exact hid _ (List.getElem_mem hl)
 have hiy:0<=idAt R (L.getD y 0)/\idAt R (L.getD y 0)<=1099511627776:=by
  have hl:=Nat.lt_of_le_of_lt (g.le y hyl) hyl;have:=idAt_of (List.getElem?_eq_getElem hl);rw [this];exact hid _ (List.getElem_mem hl)
 have lk1:=λ n=>look_least (h.drewN n).hm hl hx (hwf e (List.mem_of_getElem? hx))
 have lk2:=λ n=>look_least (h.drewN n).hm hl hy (hwf f (List.mem_of_getElem? hy))
 have hc0:=h.c0;have HB:Hid (BlAt w p m N D v):=h;have HL:Hid (Lm D R L):=hl;have HGD:Hid (Good R.length L/\G.Up R/\x<R.length/\y<R.length):=⟨g,hu,hxl,hyl⟩;have HWF:Hid (∀e∈R,(Lit.int .i64 e.1).wf=true):=hwf;obtain ⟨X,hX⟩:∃X,idAt R (L.getD x 0)=X:=⟨_,rfl⟩;obtain ⟨Y,hY⟩:∃Y,idAt R (L.getD y 0)=Y:=⟨_,rfl⟩;rw [hX] at lk1 hix;rw [hY] at lk2 hiy;have HXY:Hid (idAt R (L.getD x 0)=X/\idAt R (L.getD y 0)=Y):=⟨hX,hY⟩;have HSM:Hid (X=Y->joinL L x y=L):=λ k=>by
  apply joinL_same;exact idAt_inj hu (Nat.lt_of_le_of_lt (g.le x hxl) hxl) (Nat.lt_of_le_of_lt (g.le y hyl) hyl) (by rw [hX,hY];exact k)
 have hwX:(Lit.int .i64 X).wf=true:=wf_small hix.1 hix.2;have hwY:(Lit.int .i64 Y).wf=true:=wf_small hiy.1 hiy.2;clear h hl g hu hxl hyl hwf hX hY hid hx hy;generalize e.1=e1 at*;generalize f.1=f1 at*;by_cases heq:X=Y
 ·subst heq
  go_enter Tryz.func249,Tryz.ntmps249;go_wp2_with fail;go_quiet (fail);go_wp2_with fail;refine bodyPost_ret (results_none rfl _ _ _) rfl ?_;exact ⟨rfl,D,HB.out.drewN _,by rw [HSM.out trivial];exact HL.out,But.of_below (below_drewN (Below.refl _ _) _)⟩
 ·obtain ⟨lo,hlo⟩:∃lo,min X Y=lo:=⟨_,rfl⟩
  obtain ⟨hi,hhi⟩:∃hi,max X Y=hi:=⟨_,rfl⟩;have hwlo:(Lit.int .i64 lo).wf=true:=by
   rcases Int.le_total X Y with c | c
   ·rw [<-hlo,Int.min_eq_left c];exact hwX
   ·rw [<-hlo,Int.min_eq_right c];exact hwY
  have hne:(lo==hi)=false:=beq_eq_false_iff_ne.2 (by omega);have HMM:Hid (min (idAt R (L.getD x 0)) (idAt R (L.getD y 0))=lo/\max (idAt R (L.getD x 0)) (idAt R (L.getD y 0))=hi):=by
   refine ⟨?_,?_⟩ <;> rw [HXY.out.1,HXY.out.2] <;> assumption
  have hmsz:=HB.out.hm.lt;have hpsz:=HB.out.plt;have hpm:=HB.out.ne;rcases Int.lt_or_gt_of_ne heq with hlt | hgt
  ·obtain ⟨rfl,rfl⟩:X=lo/\Y=hi:=by omega
   go_enter Tryz.func249,Tryz.ntmps249;go_wp2_with fail;go_quiet (fail);have HPW:Hid (w.heap[p]? =some (.cells #[.map (some m),v] 196)):=HB.out.hp;have HOW:Hid (BlAt (w.drewN nq) p m N D v/\But m w (w.drewN nq)):=⟨HB.out.drewN nq,But.of_below (below_drewN (Below.refl _ _) nq)⟩;have HSZ:Hid ((w.drewN nq).heap.size=w.heap.size):=rfl;generalize w.drewN nq=W at*;have hown:=HOW.out.1.hm;have hc0:=HOW.out.1.c0;clear lk1 lk2 HB HXY HSM heq;go_wp2_with (first
    | (at_range;refine wpList_range_own _ rfl _ 183 rfl 3 3 law3 Tryz.underlying183 (plainElem Tryz.prog 3) m N D rfl hown ?_;intro w0 hrg0 hg0 hs0)
    | fail)
   go_frame
   have HR0:Hid (w0.ranges Tryz.prog 3 (plainElem Tryz.prog 3) m W.heap.size N D (Maps.has D) (Maps.size D)):=hrg0;have HG0:Hid (But m w w0):=HOW.out.2.trans ⟨hg0.os,hg0.tape,hg0.output,hg0.size,λ k hk _=>hg0.block k hk (by simp)⟩;clear hrg0 hg0 hs0 hown hc0;go_loopw [8] (λ _ wr=>∃(Dc:DataW Unit) (left:Lit->Bool) (cnt:Nat),wr.ranges Tryz.prog 3 (plainElem Tryz.prog 3) m W.heap.size N Dc left cnt/\Mid Dc R L X Y left/\But m w wr) (λ _ wr=>wr.rangeLeft m W.heap.size)
   case atStart=>exact ⟨D,_,_,HR0.out,mid_start HL.out _ _,HG0.out⟩
   case round=>
    obtain ⟨Dc,left,cnt,hrg,hmid,hbt⟩:=hrel;have HRG:Hid (wr.ranges Tryz.prog 3 (plainElem Tryz.prog 3) m W.heap.size N Dc left cnt):=hrg;have HMD:Hid (Mid Dc R L X Y left):=hmid;have HBT:Hid (But m w wr):=hbt;clear hrg hmid hbt HR0 HG0;go_wp2_with (first
     | (at_next;refine wpList_next_ranges_ii _ rfl _ rfl 3 3 .i64 .i64 law3 Tryz.underlying3 Tryz.underlying3 m W.heap.size N Dc left cnt rfl HRG.out ?_ ?_)
     | fail)
    ·intro _ hl0
     have HL0:Hid (∀kl,left kl=false):=hl0;clear hl0;go_wp2
     go_end0
     refine ⟨rfl,Dc,⟨?_,HRG.out.owns⟩,mid_end HGD.out.2.1 HGD.out.1 HGD.out.2.2.1 HGD.out.2.2.2 (by rw [HMM.out.1,HMM.out.2];exact HMD.out) HL0.out,HBT.out⟩;rw [HBT.out.block p hpsz hpm];exact HPW.out
    ·intro x1 c w1 cnt1 hwx hwc hlx hat hrg1 hlt1 hg1 hs1 hen
     obtain ⟨d,hdR,rfl⟩:=(HMD.out.key x1).1 (has_true_of_atKey hat);obtain ⟨t,ht⟩:=List.getElem?_of_mem hdR;have hc:c=idAt R (L.getD t 0):=by
      have h1:=HMD.out.old t d ht hlx .nil;rw [hat] at h1;exact lit_inj h1
     have HB1:Hid (But m w w1):=HBT.out.next (by rw [HSZ.out];exact Nat.le_refl _) hg1;have HR1:Hid (w1.ranges Tryz.prog 3 (plainElem Tryz.prog 3) m W.heap.size N Dc (λ z=>left z&&!z.sameKey (.int .i64 d.1)) cnt1/\cnt1<cnt):=⟨hrg1,hlt1⟩;have HLX:Hid (left (.int .i64 d.1)=true):=hlx;have HT:Hid (R[t]? =some d/\c=idAt R (L.getD t 0)):=⟨ht,hc⟩;have hkey:=key3 d.1 hwx;have HHAS:Hid (Maps.has Dc (.int .i64 d.1)=true):=has_true_of_atKey hat;have hp1:w1.heap[p]? =some (.cells #[.map (some m),v] 196):=by rw [HB1.out.block p hpsz hpm];exact HPW.out
     have hc1:w1.cell? ⟨p,0,none⟩=some (.map (some m)):=by simp [World.cell?,hp1]
     clear hwx hwc hlx hat hrg1 hlt1 hg1 hs1 hdR ht hc hp1;by_cases hch:c=Y
     ·as_aux_lemma=>
      have hcb:(c==Y)=true:=beq_iff_eq.2 hch;have HMT:=(show Hid _ from mid_turn HR1.out.1.owns.isMap HGD.out.2.1 HMD.out HT.out.1 (HT.out.2.symm.trans hch));generalize d.1=x1 at*;clear hch;go_wp2_with (first
       | (at_mapUpdate;refine wpList_mapUpdate_ranges _ rfl _ _ _ 183 rfl 3 3 law3 Tryz.underlying183 (plainElem Tryz.prog 3) m W.heap.size N Dc _ cnt1 rfl HR1.out.1 _ _ _ rfl rfl hkey _ [] (plainElem_int Tryz.underlying3 hwlo) HHAS.out ?_;intro w2 hrg2 hturn2)
       | fail)
      go_frame
      go_roundw;case rel=>exact ⟨_,_,cnt1,hrg2,HMT.out,HB1.out.turned hturn2⟩
      case measure=>rw [hrg2.left_eq,HRG.out.left_eq];exact HR1.out.2
     ·as_aux_lemma=>
      have hcb:(c==Y)=false:=beq_eq_false_iff_ne.2 hch;have HMT:=(show Hid _ from mid_stay HGD.out.2.1 HMD.out HT.out.1 HLX.out (λ k=>hch (HT.out.2.trans k)));generalize d.1=x1 at*;clear hch;go_wp2_with fail;go_roundw;case rel=>exact ⟨_,_,cnt1,HR1.out.1,HMT.out,HB1.out⟩
      case measure=>rw [HR1.out.1.left_eq,HRG.out.left_eq];exact HR1.out.2
  ·obtain ⟨rfl,rfl⟩:Y=lo/\X=hi:=by omega
   go_enter Tryz.func249,Tryz.ntmps249;go_wp2_with fail;go_quiet (fail);have HPW:Hid (w.heap[p]? =some (.cells #[.map (some m),v] 196)):=HB.out.hp;have HOW:Hid (BlAt (w.drewN nq) p m N D v/\But m w (w.drewN nq)):=⟨HB.out.drewN nq,But.of_below (below_drewN (Below.refl _ _) nq)⟩;have HSZ:Hid ((w.drewN nq).heap.size=w.heap.size):=rfl;generalize w.drewN nq=W at*;have hown:=HOW.out.1.hm;have hc0:=HOW.out.1.c0;clear lk1 lk2 HB HXY HSM heq;go_wp2_with (first
    | (at_range;refine wpList_range_own _ rfl _ 183 rfl 3 3 law3 Tryz.underlying183 (plainElem Tryz.prog 3) m N D rfl hown ?_;intro w0 hrg0 hg0 hs0)
    | fail)
   go_frame
   have HR0:Hid (w0.ranges Tryz.prog 3 (plainElem Tryz.prog 3) m W.heap.size N D (Maps.has D) (Maps.size D)):=hrg0;have HG0:Hid (But m w w0):=HOW.out.2.trans ⟨hg0.os,hg0.tape,hg0.output,hg0.size,λ k hk _=>hg0.block k hk (by simp)⟩;clear hrg0 hg0 hs0 hown hc0;go_loopw [8] (λ _ wr=>∃(Dc:DataW Unit) (left:Lit->Bool) (cnt:Nat),wr.ranges Tryz.prog 3 (plainElem Tryz.prog 3) m W.heap.size N Dc left cnt/\Mid Dc R L Y X left/\But m w wr) (λ _ wr=>wr.rangeLeft m W.heap.size)
   case atStart=>exact ⟨D,_,_,HR0.out,mid_start HL.out _ _,HG0.out⟩
   case round=>
    obtain ⟨Dc,left,cnt,hrg,hmid,hbt⟩:=hrel;have HRG:Hid (wr.ranges Tryz.prog 3 (plainElem Tryz.prog 3) m W.heap.size N Dc left cnt):=hrg;have HMD:Hid (Mid Dc R L Y X left):=hmid;have HBT:Hid (But m w wr):=hbt;clear hrg hmid hbt HR0 HG0;go_wp2_with (first
     | (at_next;refine wpList_next_ranges_ii _ rfl _ rfl 3 3 .i64 .i64 law3 Tryz.underlying3 Tryz.underlying3 m W.heap.size N Dc left cnt rfl HRG.out ?_ ?_)
     | fail)
    ·intro _ hl0
     have HL0:Hid (∀kl,left kl=false):=hl0;clear hl0;go_wp2
     go_end0
     refine ⟨rfl,Dc,⟨?_,HRG.out.owns⟩,mid_end HGD.out.2.1 HGD.out.1 HGD.out.2.2.1 HGD.out.2.2.2 (by rw [HMM.out.1,HMM.out.2];exact HMD.out) HL0.out,HBT.out⟩;rw [HBT.out.block p hpsz hpm];exact HPW.out
    ·intro x1 c w1 cnt1 hwx hwc hlx hat hrg1 hlt1 hg1 hs1 hen
     obtain ⟨d,hdR,rfl⟩:=(HMD.out.key x1).1 (has_true_of_atKey hat);obtain ⟨t,ht⟩:=List.getElem?_of_mem hdR;have hc:c=idAt R (L.getD t 0):=by
      have h1:=HMD.out.old t d ht hlx .nil;rw [hat] at h1;exact lit_inj h1
     have HB1:Hid (But m w w1):=HBT.out.next (by rw [HSZ.out];exact Nat.le_refl _) hg1;have HR1:Hid (w1.ranges Tryz.prog 3 (plainElem Tryz.prog 3) m W.heap.size N Dc (λ z=>left z&&!z.sameKey (.int .i64 d.1)) cnt1/\cnt1<cnt):=⟨hrg1,hlt1⟩;have HLX:Hid (left (.int .i64 d.1)=true):=hlx;have HT:Hid (R[t]? =some d/\c=idAt R (L.getD t 0)):=⟨ht,hc⟩;have hkey:=key3 d.1 hwx;have HHAS:Hid (Maps.has Dc (.int .i64 d.1)=true):=has_true_of_atKey hat;have hp1:w1.heap[p]? =some (.cells #[.map (some m),v] 196):=by rw [HB1.out.block p hpsz hpm];exact HPW.out
     have hc1:w1.cell? ⟨p,0,none⟩=some (.map (some m)):=by simp [World.cell?,hp1]
     clear hwx hwc hlx hat hrg1 hlt1 hg1 hs1 hdR ht hc hp1;by_cases hch:c=X
     ·as_aux_lemma=>
      have hcb:(c==X)=true:=beq_iff_eq.2 hch;have HMT:=(show Hid _ from mid_turn HR1.out.1.owns.isMap HGD.out.2.1 HMD.out HT.out.1 (HT.out.2.symm.trans hch));generalize d.1=x1 at*;clear hch;go_wp2_with (first
       | (at_mapUpdate;refine wpList_mapUpdate_ranges _ rfl _ _ _ 183 rfl 3 3 law3 Tryz.underlying183 (plainElem Tryz.prog 3) m W.heap.size N Dc _ cnt1 rfl HR1.out.1 _ _ _ rfl rfl hkey _ [] (plainElem_int Tryz.underlying3 hwlo) HHAS.out ?_;intro w2 hrg2 hturn2)
       | fail)
      go_frame
      go_roundw;case rel=>exact ⟨_,_,cnt1,hrg2,HMT.out,HB1.out.turned hturn2⟩
      case measure=>rw [hrg2.left_eq,HRG.out.left_eq];exact HR1.out.2
     ·as_aux_lemma=>
      have hcb:(c==X)=false:=beq_eq_false_iff_ne.2 hch;have HMT:=(show Hid _ from mid_stay HGD.out.2.1 HMD.out HT.out.1 HLX.out (λ k=>hch (HT.out.2.trans k)));generalize d.1=x1 at*;clear hch;go_wp2_with fail;go_roundw;case rel=>exact ⟨_,_,cnt1,HR1.out.1,HMT.out,HB1.out⟩
      case measure=>rw [HR1.out.1.left_eq,HRG.out.left_eq];exact HR1.out.2
end Go.Proofs.YtebcjaenhiiflaaGreatDoor.S
namespace Go.Proofs.YtebcjaenhiiflaaGreatDoor.S
open Go.RowKit Go.WideMaps Go.Maps
def plc (R:List (Int × Int × Int)) (x:Nat):List Nat:=(List.range R.length).filter λ i=>decide (tch (R.getD i (0,0,0)) x)
theorem list_places (R:List (Int × Int × Int)):(List.range R.length).map (λ i=>R.getD i (0,0,0))=R:=by
 apply List.ext_getElem
 ·simp
 ·intro i h1 h2
  simp [h2]
theorem at_places {n M:Nat} {R:List (Int × Int × Int)} (h:Ed n M R) (x:Nat):R.filter (G.ofNode (x:Int))=(plc R x).map λ i=>R.getD i (0,0,0):=by
 have h1:R.filter (G.ofNode (x:Int))=R.filter λ e=>decide (tch e x):=by
  apply List.filter_congr;intro e he;have hn:=h.nat he;unfold G.ofNode;rw [hn.1,hn.2.1,Bool.eq_iff_iff];simp only [Bool.or_eq_true,beq_iff_eq,decide_eq_true_eq];unfold tch;omega
 rw [h1];unfold plc;conv=>lhs;rw [<-list_places R]
 rw [List.filter_map];rfl
theorem mem_plc {R:List (Int × Int × Int)} {x i:Nat}:i∈plc R x↔∃e,R[i]? =some e/\tch e x:=by
 unfold plc;rw [List.mem_filter,List.mem_range,decide_eq_true_eq];constructor
 ·rintro ⟨h1,h2⟩
  refine ⟨R[i],List.getElem?_eq_getElem h1,?_⟩
  simpa [h1] using h2
 ·rintro ⟨e,he,ht⟩
  refine ⟨(List.getElem?_eq_some_iff.1 he).1,?_⟩;rw [getD_of he];exact ht
theorem plc_len (R:List (Int × Int × Int)) (x:Nat):(plc R x).length<=R.length:=by
 unfold plc;exact Nat.le_trans (List.length_filter_le _ _) (by simp)
theorem other_any (x0:Int) (A E x z:Nat) (w:World) (hz:(if x=A then E else A)=z):
 Calls Tryz.prog 248 #[.agg #[.int .i64 x0,.int .i64 (A:Int),.int .i64 (E:Int)],.int .i64 (x:Int)] w λ e w'=>e= .returned (.int .i64 (z:Int))/\Below w.heap.size w w':=by
 by_cases h:x=A
 ·rw [if_pos h] at hz
  subst hz h;go_enter Tryz.func248,Tryz.ntmps248;go_wp2;go_ret;exact ⟨rfl,(Below.refl _ _).alloc (Nat.le_refl _) _⟩
 ·rw [if_neg h] at hz
  subst hz;have hne:((x:Int)==(A:Int))=false:=beq_eq_false_iff_ne.2 (by omega);go_enter Tryz.func248,Tryz.ntmps248;go_wp2;go_ret;exact ⟨rfl,(Below.refl _ _).alloc (Nat.le_refl _) _⟩
structure Fm (D:DataW Unit) (R:List (Int × Int × Int)) (ks:List (Nat × Nat)):Prop where
 key:∀z:Nat,Maps.has D (.int .i64 (z:Int))=true↔∃p∈ks,p.1=z
 val:∀p∈ks,∀zd,D.atKey (.int .i64 (p.1:Int)) zd= .lit (.int .i64 (idAt R p.2))
 tidy:Tidy D
 size:Maps.size D=ks.length
theorem Fm.start (R:List (Int × Int × Int)):Fm (.map []) R []:=⟨λ z=>by simp [Maps.has],by simp,tidy_empty,rfl⟩
theorem Fm.put {D:DataW Unit} {R:List (Int × Int × Int)} {ks:List (Nat × Nat)} (h:Fm D R ks) (z i:Nat) (hno:∀p∈ks,p.1≠z):Fm (D.put (.int .i64 (z:Int)) (.lit (.int .i64 (idAt R i)))) R (ks++[(z,i)]):=by
 have hnh:Maps.has D (.int .i64 (z:Int))=false:=by
  rw [Bool.eq_false_iff];intro c;obtain ⟨p,hp,hpz⟩:=(h.key z).1 c;exact hno p hp hpz
 refine ⟨λ y=>?_,λ p hp zd=>?_,h.tidy.put (isKeyLit _) _,?_⟩
 ·by_cases c:y=z
  ·subst c
   rw [has_put_same h.tidy.isMap (isKeyLit _)];exact ⟨λ _=>⟨(y,i),by simp,rfl⟩,λ _=>rfl⟩
  ·rw [has_put_other (by simp;omega),h.key]
   constructor
   ·rintro ⟨p,hp,hpy⟩;exact ⟨p,List.mem_append_left _ hp,hpy⟩
   ·rintro ⟨p,hp,hpy⟩
    rcases List.mem_append.1 hp with hp | hp
    ·exact ⟨p,hp,hpy⟩
    ·rw [List.mem_singleton.1 hp] at hpy;exact absurd hpy.symm c
 ·rcases List.mem_append.1 hp with hp | hp
  ·have:=hno p hp
   rw [atKey_put_other (by simp;omega)];exact h.val p hp zd
  ·rw [List.mem_singleton.1 hp,atKey_put_same h.tidy.isMap (isKeyLit _)]
 ·rw [size_put h.tidy,hnh,h.size];simp
def cutP (R:List (Int × Int × Int)) (x:Nat):Prop:=∃e∈R,∃f∈R,tch e x/\tch f x/\¬cnR (wo R x) (ot e x) (ot f x)
theorem SetsAt.bk {a b c p q:Nat} {L:List Nat} {w w':World} (h:SetsAt w p q L) (k:Bk a b c w w') (h1:p≠a/\p≠b/\p≠c) (h2:q≠a/\q≠b/\q≠c):SetsAt w' p q L:=
 ⟨by rw [k.block p h.plt h1.1 h1.2.1 h1.2.2];exact h.hp,by rw [k.block q h.blt h2.1 h2.2.1 h2.2.2];exact h.hb⟩
theorem gather_any (x n B0 q M p m N:Nat) (u v:Value) (R:List (Int × Int × Int)) (L:List Nat) (D:DataW Unit) (w:World) (h:G.GAt w B0 168 61 q (n:Int) u R) (hn:n<=40) (hx:x<n) (hed:Ed n M R) (hM:M<=120)
 (hb:BlAt w p m N D v) (hl:Lm D R L) (hs:Bs R x [] L):
 Calls Tryz.prog 135 #[.pointer (some ⟨p,0,none⟩),.pointer (some ⟨q,0,none⟩),.int .i64 (x:Int)] w λ e w'=>∃(k:Nat) (D':DataW Unit) (L':List Nat),e= .returned (.int .i64 (k:Int))/\BlAt w' p m N D' v/\Lm D' R L'/\Bs R (x+1) [] L'/\But m w w'/\(1<k↔cutP R x):=by
 have hpm:=hb.ne;have hpw:=hb.plt;have hmw:=hb.hm.lt;have hlen:=hed.len;have hpl:=plc_len R x;have HG:Hid (G.GAt w B0 168 61 q (n:Int) u R):=h;have HE:Hid (Ed n M R):=hed;have HB:Hid (BlAt w p m N D v):=hb;have HL:Hid (Lm D R L):=hl;have HS:Hid (Bs R x [] L):=hs;have HID:Hid (∀e∈R,0<=e.1/\e.1<=1099511627776):=λ e he=>by have:=hed.ids e he;omega
 clear h hed hb hl hs;go_enter Tryz.func135,Tryz.ntmps135;go_wp2_with fail;refine (G.at_in (x:Int) (n:Int) B0 q u R w HG.out (by omega) (by omega)).mono ?_;rintro e w1 ⟨v1,rfl,ho1,hb1⟩;rw [at_places HE.out] at ho1;obtain ⟨va,vc,hv⟩:=ho1.slice_len;obtain ⟨len,hlenv⟩:∃len,(plc R x).length=len:=⟨_,rfl⟩;rw [List.length_map,hlenv] at hv;rw [hlenv] at hpl;subst hv;have HLEN:Hid ((plc R x).length=len):=hlenv;have HO1:Hid (G.Owns w1 w.heap.size 61 (.slice va len vc) ((plc R x).map λ i=>R.getD i (0,0,0))/\Below w.heap.size w w1):=⟨ho1,hb1⟩;clear ho1 hb1 hlenv;go_wp2_with fail;refine (bwo_any x n B0 q M u R w1 (HG.out.below HO1.out.2) hn HE.out hM).mono ?_;rintro e w2 ⟨ps,bs,K,rfl,hs2,hgK,hKx,hb2,hps,hbs⟩;have hsz1:=HO1.out.2.size;have HB2:Hid (Below w.heap.size w w2):=HO1.out.2.trans (hb2.mono HO1.out.2.size);have HO2:Hid (G.Owns w2 w.heap.size 61 (.slice va len vc) ((plc R x).map λ i=>R.getD i (0,0,0))):=HO1.out.1.below hb2;have HS2:Hid (SetsAt w2 ps bs K/\Good n K/\Kx n R x K):=⟨hs2,hgK,hKx⟩;have hps2:=hs2.plt;have hbs2:=hs2.blt;obtain ⟨w3,hw3⟩:∃w3,w3=w2.alloc (.map #[] 0):=⟨_,rfl⟩;have hb3:Below w2.heap.size w2 w3:=by rw [hw3];exact (Below.refl _ _).alloc (Nat.le_refl _) _
 have hm3:w3.ownsMap Tryz.prog 3 (plainElem (H:=Unit) Tryz.prog 3) w2.heap.size 0 (.map []):=by rw [hw3];exact World.ownsMap_made w2 _ _ _
 have HW3:Hid (w2.alloc (.map #[] 0)=w3):=hw3.symm;have HB3:Hid (Below w.heap.size w w3/\Below w2.heap.size w2 w3):=⟨HB2.out.trans (hb3.mono HB2.out.size),hb3⟩;have HM3:Hid (w3.ownsMap Tryz.prog 3 (plainElem (H:=Unit) Tryz.prog 3) w2.heap.size 0 (.map [])):=hm3;have hsz2:=HB2.out.size;have hmm:=@run_makeMap Tryz.prog;clear hs2 hgK hKx hb2 hw3 hb3 hm3 HO1;go_wp2_with fail;rw [HW3.out];clear hmm;go_loopw [29] (λ s29 wq=>∃(t N1:Nat) (Dt Df:DataW Unit) (Lt:List Nat) (ks:List (Nat × Nat)),t<=len/\s29= .int .i64 t/\BlAt wq p m N Dt v/\Lm Dt R Lt/\Bs R x ((plc R x).take t) Lt/\Gth R x K ((plc R x).take t) ks/\wq.ownsMap Tryz.prog 3 (plainElem Tryz.prog 3) w2.heap.size N1 Df/\N1<=t/\Fm Df R ks/\Bk m w2.heap.size w2.heap.size w3 wq) (λ s29 _=>len-(intOf s29).toNat)
 case atStart=>exact ⟨0,0,D,.map [],L,[],Nat.zero_le _,rfl,HB.out.below HB3.out.1,HL.out,HS.out,gth_start R x K,HM3.out,Nat.le_refl _,Fm.start R,Bk.refl _⟩
 case round=>
  clear HB HL HS HM3;obtain ⟨t,N1,Dt,Df,Lt,ks,ht,rfl,hbl,hlm,hbs',hgth,hmf,hN1,hfm,hbk⟩:=hrel;have HBL:Hid (BlAt wr p m N Dt v/\Lm Dt R Lt):=⟨hbl,hlm⟩;have HBS:Hid (Bs R x ((plc R x).take t) Lt/\Gth R x K ((plc R x).take t) ks):=⟨hbs',hgth⟩;have HFM:Hid (wr.ownsMap Tryz.prog 3 (plainElem Tryz.prog 3) w2.heap.size N1 Df/\Fm Df R ks):=⟨hmf,hfm⟩;have HBK:Hid (Bk m w2.heap.size w2.heap.size w3 wr):=hbk;clear hbl hlm hbs' hgth hmf hfm hbk;by_cases hlt:t<len
  ·obtain ⟨i,hi⟩:∃i,(plc R x)[t]? =some i:=⟨_,List.getElem?_eq_getElem (by rw [HLEN.out];exact hlt)⟩
   obtain ⟨e,he,hte⟩:=mem_plc.1 (List.mem_of_getElem? hi);have hnat:=HE.out.nat (List.mem_of_getElem? he);have hxe:((plc R x).map λ i=>R.getD i (0,0,0))[t]? =some e:=by rw [List.getElem?_map,hi];simp [he]
   obtain ⟨g,hva⟩:∃g,va=some ⟨g,0,none⟩:=by
    rcases HO2.out.shape with ⟨_,k⟩ | ⟨g,cap,k,_⟩
    ·rw [k] at hxe;simp at hxe
    ·injection k with e1 _ _
     exact ⟨g,e1⟩
   subst hva;have hO3:=HO2.out.below HB3.out.2;obtain ⟨r0,r1,r2⟩:=hO3.at (g:=g) rfl hxe;have hgb:=World.ownsRow.lt HO2.out g rfl;have q0:=HBK.out.cell r0 (by omega) (by omega) (by omega);have q1:=HBK.out.cell r1 (by omega) (by omega) (by omega);have q2:=HBK.out.cell r2 (by omega) (by omega) (by omega);rw [hnat.1] at q1;rw [hnat.2.1] at q2;have HTK:Hid ((plc R x).take (t+1)=(plc R x).take t++[i]):=by
    show (plc R x).take (t+1)=_;rw [List.take_add_one,hi];rfl
   have HIE:Hid (R[i]? =some e/\tch e x):=⟨he,hte⟩;obtain ⟨z,hz⟩:∃z,(if x=ea e then eb e else ea e)=z:=⟨_,rfl⟩;have hzn:z<n:=by rw [<-hz];have:=hnat.2.2;split <;> omega
   obtain ⟨k,hk⟩:∃k,K.getD z 0=k:=⟨_,rfl⟩;have HLB:Hid (lb R x K i=k):=by
    show lb R x K i=k;unfold lb ot;rw [getD_of he,hz,hk]
   have hkn:k<n:=by rw [<-hk];exact Nat.lt_of_le_of_lt (HS2.out.2.1.le z hzn) hzn
   have hidw:=HE.out.ids e (List.mem_of_getElem? he);have hwid0:(Lit.int .i64 e.1).wf=true:=wf_small hidw.1 (by omega);have hkey:=key3 (k:Int) (wf_small (by omega) (by omega));obtain ⟨x0,hx0⟩:∃x0,e.1=x0:=⟨_,rfl⟩;obtain ⟨A,hA⟩:∃A,ea e=A:=⟨_,rfl⟩;obtain ⟨E,hE⟩:∃E,eb e=E:=⟨_,rfl⟩;have HXE:Hid (x0=e.1):=hx0.symm;rw [hA,hE] at hz;have HZ:Hid ((if x=A then E else A)=z/\K.getD z 0=k):=⟨hz,hk⟩;have hwid:(Lit.int .i64 x0).wf=true:=by rw [<-hx0];exact hwid0
   rw [hx0] at q0;rw [hA] at q1;rw [hE] at q2;obtain ⟨W1,hW1⟩:∃W1,W1=wr.alloc (.cells #[.int .i64 x0,.int .i64 (A:Int),.int .i64 (E:Int)] 61):=⟨_,rfl⟩;have hh:W1.heap[wr.heap.size]? =some (.cells #[.int .i64 x0,.int .i64 (A:Int),.int .i64 (E:Int)] 61):=by rw [hW1];exact heap_alloc_new wr _
   have hbW:Below wr.heap.size wr W1:=by rw [hW1];exact (Below.refl _ _).alloc (Nat.le_refl _) _
   have HBX:Hid (W1.heap[wr.heap.size]? =some (.cells #[.int .i64 x0,.int .i64 (A:Int),.int .i64 (E:Int)] 61)/\Below wr.heap.size wr W1):=⟨hh,hbW⟩;have p0:W1.cell? ⟨wr.heap.size,0,none⟩=some (.int .i64 x0):=by simp [World.cell?,hh]
   have p1:W1.cell? ⟨wr.heap.size,1,none⟩=some (.int .i64 (A:Int)):=by simp [World.cell?,hh]
   have p2:W1.cell? ⟨wr.heap.size,2,none⟩=some (.int .i64 (E:Int)):=by simp [World.cell?,hh]
   have HW1:Hid (wr.alloc (.cells #[.int .i64 x0,.int .i64 (A:Int),.int .i64 (E:Int)] 61)=W1):=hW1.symm;have hwr1:wr.heap.size<W1.heap.size:=lt_of_some hh;have hwrs:=HBK.out.size;have hw3s:=HB3.out.2.size;clear hi he hte hnat hxe hO3 r0 r1 r2 hz hk hh hW1 hbW hidw hx0 hA hE hwid0;go_wp2_with fail;rw [HW1.out];refine (other_any x0 A E x z W1 HZ.out.1).mono ?_;rintro e' w4 ⟨rfl,hb4⟩;have HB4:Hid (Below W1.heap.size W1 w4/\Below wr.heap.size wr w4):=⟨hb4,HBX.out.2.trans (hb4.mono HBX.out.2.size)⟩;clear hb4 p0 p1 p2;go_wp2_with fail;refine (least_n z ps bs K w4 ((HS2.out.1.below HB3.out.2 hps2 hbs2 |>.bk HBK.out (by omega) (by omega)).below HB4.out.2 (by omega) (by omega)) HS2.out.2.1 hzn HZ.out.2).mono ?_;rintro e' w5 ⟨rfl,hb5⟩;have HB5:Hid (Below wr.heap.size wr w5):=HB4.out.2.trans (hb5.mono HB4.out.2.size);have hh5:w5.heap[wr.heap.size]? =some (.cells #[.int .i64 x0,.int .i64 (A:Int),.int .i64 (E:Int)] 61):=by
    rw [hb5.block _ (Nat.lt_of_lt_of_le hwr1 HB4.out.1.size),HB4.out.1.block _ hwr1];exact HBX.out.1
   have p0:w5.cell? ⟨wr.heap.size,0,none⟩=some (.int .i64 x0):=by simp [World.cell?,hh5]
   have hown:w5.ownsMap Tryz.prog 3 (plainElem Tryz.prog 3) w2.heap.size N1 Df:=HFM.out.1.kept (row:=none) ⟨HB5.out.os,HB5.out.tape,HB5.out.output,HB5.out.size,λ k hk _=>HB5.out.block k hk⟩ (by simp);have HBL5:Hid (BlAt w5 p m N Dt v):=HBL.out.1.below HB5.out;have HBK5:Hid (Bk m w2.heap.size w2.heap.size w3 w5):=HBK.out.trans (Bk.of_below HB5.out);clear hb5 hh5 HB4 HBX HW1 hwr1;by_cases hc:∃pq∈ks,pq.1=k
   ·as_aux_lemma=>
    obtain ⟨⟨k',j⟩,hpq,hk'⟩:=hc;simp only at hk';subst hk';have hj:=HBS.out.2.at_ _ hpq;simp only at hj;obtain ⟨f,hf,htf⟩:=mem_plc.1 (List.mem_of_mem_take hj.1);have hhas:Maps.has Df (.int .i64 (k':Int))=true:=(HFM.out.2.key k').2 ⟨_,hpq,rfl⟩;have hval:=HFM.out.2.val _ hpq (.lit (.int .i64 0));simp only at hval;rw [idAt_of hf] at hval;have HVAL:Hid (Df.atKey (.int .i64 (k':Int)) (.lit (.int .i64 0))= .lit (.int .i64 f.1)):=hval;have hrx:Rx R x j i:=(Rx_lb HS2.out.2.2 HE.out.inn hf HIE.out.1 htf HIE.out.2).2 (by rw [hj.2,HLB.out]);have HNX:Hid (Bs R x ((plc R x).take (t+1)) (joinL Lt j i)/\Gth R x K ((plc R x).take (t+1)) ks):=by
     rw [HTK.out];exact ⟨bs_join HBS.out.1 hj.1 hrx,gth_old HBS.out.2 hpq HLB.out.symm⟩
    have HF:Hid (R[j]? =some f):=hf;have HHAS:Hid (Maps.has Df (.int .i64 (k':Int))=true):=hhas;clear hj hf htf hhas hval hrx hpq;go_wp2_with (first
     | (at_lookup;refine wpList_lookup_own_ok_int _ rfl _ _ 183 rfl 3 3 .i64 law3 Tryz.underlying183 Tryz.underlying3 (zero3 _) w2.heap.size N1 Df rfl hown _ _ rfl hkey ?_;intro c hat hwc;rw [HVAL.out] at hat;obtain rfl:=lit_inj hat;rw [HHAS.out];clear hat hwc)
     | fail)
    rw [HXE.out];refine (bjoin_any j i p m N Dt v w5 HBL5.out HBL.out.2 HBS.out.1.good HE.out.up HF.out HIE.out.1 HID.out).mono ?_;rintro e' w6 ⟨rfl,D6,hb6,hl6,hk6⟩;have hm6:w6.ownsMap Tryz.prog 3 (plainElem Tryz.prog 3) w2.heap.size N1 Df:=hown.kept (row:=some m) ⟨hk6.os,hk6.tape,hk6.output,hk6.size,λ k hk hn=>hk6.block k hk (λ c=>hn (by rw [c]))⟩ (by simp;omega);have HR6:Hid (BlAt w6 p m N D6 v/\Lm D6 R (joinL Lt j i)/\w6.ownsMap Tryz.prog 3 (plainElem Tryz.prog 3) w2.heap.size N1 Df/\Bk m w2.heap.size w2.heap.size w3 w6):=⟨hb6,hl6,hm6,HBK5.out.trans (Bk.of_w hk6)⟩;clear hb6 hl6 hk6 hm6 hown p0;go_wp2_with fail;go_roundw;case rel=>exact ⟨t+1,N1,D6,Df,joinL Lt j i,ks,by omega,by go_num,HR6.out.1,HR6.out.2.1,HNX.out.1,HNX.out.2,HR6.out.2.2.1,by omega,HFM.out.2,HR6.out.2.2.2⟩
    case measure=>simp [intOf];omega
   ·as_aux_lemma=>
    have hno:∀pq∈ks,pq.1≠k:=λ pq hp c=>hc ⟨pq,hp,c⟩
    have hhas:Maps.has Df (.int .i64 (k:Int))=false:=by
     rw [Bool.eq_false_iff];intro c;obtain ⟨pq,hp,hpk⟩:=(HFM.out.2.key k).1 c;exact hno pq hp hpk
    have HHAS:Hid (Maps.has Df (.int .i64 (k:Int))=false):=hhas;have HVAL:Hid (Df.atKey (.int .i64 (k:Int)) (.lit (.int .i64 0))= .lit (.int .i64 0)):=atKey_of_not_has hhas _;have HNX:Hid (Bs R x ((plc R x).take (t+1)) Lt/\Gth R x K ((plc R x).take (t+1)) (ks++[(k,i)])/\Fm (Df.put (.int .i64 (k:Int)) (.lit (.int .i64 x0))) R (ks++[(k,i)])):=by
     rw [HTK.out];refine ⟨bs_new HBS.out.1 (λ j hj hr=>?_),?_,?_⟩
     ·obtain ⟨f,hf,htf⟩:=mem_plc.1 (List.mem_of_mem_take hj)
      obtain ⟨pq,hp,hpk⟩:=HBS.out.2.all j hj;refine hno pq hp ?_;rw [hpk,(Rx_lb HS2.out.2.2 HE.out.inn hf HIE.out.1 htf HIE.out.2).1 hr,HLB.out]
     ·have:=gth_new (i:=i) HBS.out.2 (λ pq hp=>by rw [HLB.out];exact hno pq hp)
      rw [HLB.out] at this;exact this
     ·have:=HFM.out.2.put k i hno
      rw [idAt_of HIE.out.1,<-HXE.out] at this;exact this
    have hNm:N1<maxLen:=by unfold maxLen;omega
    clear hc hno hhas;go_wp2_with (first
     | (at_lookup;refine wpList_lookup_own_ok_int _ rfl _ _ 183 rfl 3 3 .i64 law3 Tryz.underlying183 Tryz.underlying3 (zero3 _) w2.heap.size N1 Df rfl hown _ _ rfl hkey ?_;intro c hat hwc;rw [HVAL.out] at hat;obtain rfl:=lit_inj hat;rw [HHAS.out];clear hat hwc)
     | (at_mapUpdate;refine wpList_mapUpdate_own _ rfl _ _ _ 183 rfl 3 3 law3 Tryz.underlying183 (plainElem Tryz.prog 3) w2.heap.size N1 Df rfl hown hNm _ _ _ rfl rfl hkey _ [] (plainElem_int Tryz.underlying3 hwid) ?_;intro w6 hown6 hgrow6)
     | fail)
    go_roundw;case rel=>exact ⟨t+1,N1+1,Dt,_,Lt,ks++[(k,i)],by omega,by go_num,⟨by rw [hgrow6.block p HBL5.out.plt (by simp;omega)];exact HBL5.out.hp,HBL5.out.hm.kept hgrow6 (by simp;omega)⟩,HBL.out.2,HNX.out.1,HNX.out.2.1,hown6,by omega,HNX.out.2.2,HBK5.out.trans (Bk.of_m hgrow6)⟩
    case measure=>simp [intOf];omega
  ·have hte:t=len:=by omega
   subst hte;have htk:(plc R x).take t=plc R x:=by rw [<-HLEN.out];exact List.take_length
   have hbs9:=HBS.out;rw [htk] at hbs9;have HBS9:Hid (Bs R (x+1) [] Lt):=bs_next hbs9.1 (λ i e he ht=>mem_plc.2 ⟨e,he,ht⟩);have HCUT:Hid (1<ks.length↔cutP R x):=gth_cut hbs9.2 HS2.out.2.2 HE.out.inn (λ i=>mem_plc);have HBT:Hid (But m w wr):=⟨HBK.out.os.trans HB3.out.1.os,HBK.out.tape.trans HB3.out.1.tape,HBK.out.output.trans HB3.out.1.output,Nat.le_trans HB3.out.1.size HBK.out.size,λ k hk hn=>(HBK.out.block k (by have:=HB3.out.1.size;omega) hn (by omega) (by omega)).trans (HB3.out.1.block k hk)⟩;have hown:=HFM.out.1;have hsz:=HFM.out.2.size;have HSZ:Hid (Maps.size Df=ks.length):=hsz;clear htk hbs9 hsz;go_wp2_with (first
    | (at_len;refine wpList_len_own _ rfl _ 183 rfl 3 3 Tryz.underlying183 (plainElem Tryz.prog 3) w2.heap.size N1 Df rfl hown ?_)
    | fail)
   go_ret;exact ⟨ks.length,Dt,Lt,by rw [HSZ.out];rfl,HBL.out.1,HBL.out.2,HBS9.out,HBT.out,HCUT.out⟩
theorem Lm.start:Lm (.map []) [] []:=⟨λ x=>by simp [Maps.has],λ i e h=>by simp at h⟩
theorem Lm.snoc {D:DataW Unit} {R:List (Int × Int × Int)} {k:Nat} {e:Int × Int × Int} (hu:G.Up R) (hD:IsMap D) (h:Lm D (R.take k) (List.range k)) (he:R[k]? =some e):
 Lm (D.put (.int .i64 e.1) (.lit (.int .i64 e.1))) (R.take (k+1)) (List.range (k+1)):=by
 have hk:k<R.length:=(List.getElem?_eq_some_iff.1 he).1;have ht:R.take (k+1)=R.take k++[e]:=by rw [List.take_add_one,he];rfl
 have hne:∀i f,i<k->R[i]? =some f->f.1≠e.1:=λ i f hi hf c=>by
  have:=(up_one hu hf he c).1;omega
 refine ⟨λ x=>?_,λ i f hf zd=>?_⟩
 ·by_cases c:x=e.1
  ·subst c
   rw [has_put_same hD (isKeyLit _)];exact ⟨λ _=>⟨e,by rw [ht];simp,rfl⟩,λ _=>rfl⟩
  ·rw [has_put_other (by simpa using c),h.key]
   constructor
   ·rintro ⟨f,hf,hx⟩;exact ⟨f,by rw [ht];exact List.mem_append_left _ hf,hx⟩
   ·rintro ⟨f,hf,hx⟩
    rw [ht] at hf;rcases List.mem_append.1 hf with hf | hf
    ·exact ⟨f,hf,hx⟩
    ·rw [List.mem_singleton.1 hf] at hx;exact absurd hx.symm c
 ·have hi:i<k+1:=by have:=(List.getElem?_eq_some_iff.1 hf).1;simp at this;omega
  rw [List.getElem?_take,if_pos hi] at hf;have hid:idAt (R.take (k+1)) ((List.range (k+1)).getD i 0)=f.1:=by
   have e1:(List.range (k+1)).getD i 0=i:=by simp [hi]
   rw [e1];apply idAt_of;rw [List.getElem?_take,if_pos hi];exact hf
  rw [hid];by_cases c:i=k
  ·subst c
   rw [he] at hf;cases hf;rw [atKey_put_same hD (isKeyLit _)]
  ·have hik:i<k:=by omega
   rw [atKey_put_other (by simpa using hne i f hik hf)];have hf':(R.take k)[i]? =some f:=by rw [List.getElem?_take,if_pos hik];exact hf
   rw [h.val i f hf' zd];have e2:(List.range k).getD i 0=i:=by simp [hik]
   rw [e2,idAt_of hf']
structure CutsB (R:List (Int × Int × Int)) (x:Nat) (cs:List Nat):Prop where
 up:cs.Pairwise (·<·)
 mem:∀y,y∈cs↔y<x/\cutP R y
theorem CutsB.start (R:List (Int × Int × Int)):CutsB R 0 []:=⟨.nil,λ y=>by simp⟩
theorem CutsB.yes {R:List (Int × Int × Int)} {x:Nat} {cs:List Nat} (h:CutsB R x cs) (hc:cutP R x):CutsB R (x+1) (cs++[x]):=by
 refine ⟨?_,λ y=>?_⟩
 ·rw [List.pairwise_append]
  exact ⟨h.up,List.pairwise_singleton _ _,λ a ha b hb=>by rw [List.mem_singleton.1 hb];exact ((h.mem a).1 ha).1⟩
 ·rw [List.mem_append,h.mem,List.mem_singleton]
  constructor
  ·rintro (⟨h1,h2⟩ | rfl)
   ·exact ⟨by omega,h2⟩
   ·exact ⟨by omega,hc⟩
  ·rintro ⟨h1,h2⟩
   by_cases c:y=x
   ·exact .inr c
   ·exact .inl ⟨by omega,h2⟩
theorem CutsB.no {R:List (Int × Int × Int)} {x:Nat} {cs:List Nat} (h:CutsB R x cs) (hc:¬cutP R x):CutsB R (x+1) cs:=by
 refine ⟨h.up,λ y=>?_⟩;rw [h.mem];constructor
 ·rintro ⟨h1,h2⟩;exact ⟨by omega,h2⟩
 ·rintro ⟨h1,h2⟩
  by_cases c:y=x
  ·subst c;exact absurd h2 hc
  ·exact ⟨by omega,h2⟩
theorem rise_len:∀(cs:List Nat) (lo x:Nat),cs.Pairwise (·<·)->(∀y∈cs,lo<=y/\y<x)->cs.length<=x-lo
 | [],_,_,_,_=>by simp
 | a::cs,lo,x,hp,hm=>by
   have h1:=List.pairwise_cons.1 hp;have ha:=hm a (by simp);have:=rise_len cs (a+1) x h1.2 (λ y hy=>⟨h1.1 y hy,(hm y (List.mem_cons_of_mem _ hy)).2⟩);simp;omega
theorem CutsB.len {R:List (Int × Int × Int)} {x:Nat} {cs:List Nat} (h:CutsB R x cs):cs.length<=x:=by
 have:=rise_len cs 0 x h.up (λ y hy=>⟨Nat.zero_le _,((h.mem y).1 hy).1⟩);omega
def natsV (l:List Nat):List Value:=l.map λ x:Nat=>.int .i64 (x:Int)
theorem gat_but {w w':World} {B0 gT eT q m:Nat} {n:Int} {u:Value} {L:List (Int × Int × Int)} (h:G.GAt w B0 gT eT q n u L) (k:But m w w') (hm:∃es c,w.heap[m]? =some (.map es c)):G.GAt w' B0 gT eT q n u L:=by
 obtain ⟨es,c,hm⟩:=hm;refine ⟨?_,⟨h.row.1,?_⟩,h.ne⟩
 ·rw [k.block q h.plt (by rintro rfl;have:=h.hp.symm.trans hm;simp at this)];exact h.hp
 ·rcases h.row.2 with hn | ⟨g,cap,cur,rfl,hB,hg,rest⟩
  ·exact .inl hn
  ·refine .inr ⟨g,cap,cur,rfl,hB,?_,rest⟩
   rw [k.block g (lt_of_some hg) (by rintro rfl;have:=hg.symm.trans hm;simp at this)];exact hg
theorem row_slice {w:World} {base e s:Nat} {v:Value} {n:Nat} {xs:List Value} (h:w.ownsRow base e s v n xs):∃a c,v= .slice a n c:=by
 rcases h.2 with ⟨rfl,rfl⟩ | ⟨g,cap,cur,rfl,_⟩
 ·exact ⟨none,0,rfl⟩
 ·exact ⟨_,cap,rfl⟩
theorem BlAt.store {w:World} {p m N:Nat} {D:DataW Unit} {v:Value} (h:BlAt w p m N D v) (v':Value):BlAt (w.setCell ⟨p,1,none⟩ v') p m N D v':=by
 refine ⟨?_,h.hm.setCell (Ne.symm h.ne) _⟩;simp only [World.setCell,Array.getElem?_modify,h.hp];simp
theorem gat_row {w w':World} {B0 gT q base k:Nat} {n:Int} {u v:Value} {L:List (Int × Int × Int)} {xs:List Value} (h:G.GAt w B0 gT 61 q n u L) (hg:w.grownBy w' v.ownBlock) (hr:w.ownsRow base 3 1 v k xs) (hgT:gT≠3:=by decide):G.GAt w' B0 gT 61 q n u L:=by
 have hne:∀g cur t,w.heap[g]? =some (.cells cur t)->t≠3->some g≠v.ownBlock:=by
  intro g cur t hc ht he;rcases hr.2 with ⟨rfl,_⟩ | ⟨g',cap,cur',rfl,_,hg',_⟩
  ·simp [Value.ownBlock] at he
  ·simp only [Value.ownBlock,Option.some.injEq] at he
   subst he;rw [hc] at hg';injection hg' with hg'
   injection hg' with _ hg' _
   exact ht hg'
 refine ⟨?_,⟨h.row.1,?_⟩,h.ne⟩
 ·rw [hg.block q h.plt (hne q _ gT h.hp hgT)];exact h.hp
 ·rcases h.row.2 with hn | ⟨g,cap,cur,rfl,hB,hg',rest⟩
  ·exact .inl hn
  ·refine .inr ⟨g,cap,cur,rfl,hB,?_,rest⟩
   rw [hg.block g (lt_of_some hg') (hne g _ 61 hg' (by decide))];exact hg'
theorem gat_but' {w w':World} {B0 q p:Nat} {n:Int} {u:Value} {L:List (Int × Int × Int)} {cs:Array Value} (h:G.GAt w B0 168 61 q n u L) (k:But p w w') (hp:w.heap[p]? =some (.cells cs 196)):G.GAt w' B0 168 61 q n u L:=by
 refine ⟨?_,⟨h.row.1,?_⟩,h.ne⟩
 ·rw [k.block q h.plt (by rintro rfl;have:=h.hp.symm.trans hp;simp at this)];exact h.hp
 ·rcases h.row.2 with hn | ⟨g,cap,cur,rfl,hB,hg,rest⟩
  ·exact .inl hn
  ·refine .inr ⟨g,cap,cur,rfl,hB,?_,rest⟩
   rw [k.block g (lt_of_some hg) (by rintro rfl;have:=hg.symm.trans hp;simp at this)];exact hg
def OfPost (R:List (Int × Int × Int)) (n:Nat) (w:World) (e:Ending) (w':World):Prop:=
 ∃(p m N:Nat) (D:DataW Unit) (v:Value) (L cs:List Nat),e= .returned (.pointer (some ⟨p,0,none⟩))/\BlAt w' p m N D v/\N<=120/\Lm D R L/\Bs R n [] L/\CutsB R n cs/\w'.ownsRow w.heap.size 3 1 v cs.length (natsV cs)/\Below w.heap.size w w'
theorem bof_any (n B0 q M:Nat) (u:Value) (R:List (Int × Int × Int)) (w:World) (h:G.GAt w B0 168 61 q (n:Int) u R) (hn:n<=40) (hed:Ed n M R) (hM:M<=120):
 Calls Tryz.prog 79 #[.pointer (some ⟨q,0,none⟩)] w (OfPost R n w):=by
 have hlen:=hed.len;have HG:Hid (G.GAt w B0 168 61 q (n:Int) u R):=h;have HE:Hid (Ed n M R):=hed;have hmm:=@run_makeMap Tryz.prog;obtain ⟨w1,hw1⟩:∃w1,w1=(w.alloc (.map #[] 0)).alloc (.cells #[.map (some w.heap.size),.slice none 0 0] 196):=⟨_,rfl⟩;have hb1:Below w.heap.size w w1:=by rw [hw1];exact ((Below.refl _ _).alloc (Nat.le_refl _) _).alloc (by simp) _
 have hbl1:BlAt w1 (w.heap.size+1) w.heap.size 0 (.map []) (.slice none 0 0):=by
  rw [hw1];refine ⟨?_,(World.ownsMap_made w _ _ _).alloc _⟩;have:=heap_alloc_new (w.alloc (.map #[] 0)) (.cells #[.map (some w.heap.size),.slice none 0 0] 196);rw [World.size_alloc] at this;exact this
 have HW1:Hid ((w.alloc (.map #[] 0)).alloc (.cells #[.map (some w.heap.size),.slice none 0 0] 196)=w1):=hw1.symm;have HBL1:Hid (BlAt w1 (w.heap.size+1) w.heap.size 0 (.map []) (.slice none 0 0)/\Below w.heap.size w w1):=⟨hbl1,hb1⟩;have hw1s:=hbl1.plt;clear h hed hw1 hb1 hbl1;go_enter Tryz.func79,Tryz.ntmps79;go_wp2_with fail;rw [HW1.out];refine (G.edges_any (n:Int) B0 q u R w1 (HG.out.below HBL1.out.2) (by omega)).mono ?_;rintro e w2 ⟨vr,rfl,ho,hb2⟩;obtain ⟨len,hm⟩:∃len,R.length=len:=⟨_,rfl⟩;have HLEN:Hid (R.length=len):=hm;obtain ⟨va,vc,hv⟩:=ho.slice_len;rw [hm] at hv hlen;subst hv;have HO:Hid (G.Owns w2 w1.heap.size 61 (.slice va len vc) R):=ho;have HBL2:Hid (BlAt w2 (w.heap.size+1) w.heap.size 0 (.map []) (.slice none 0 0)/\Below w.heap.size w w2):=⟨HBL1.out.1.below hb2,HBL1.out.2.trans (hb2.mono HBL1.out.2.size)⟩;have hw2s:=hb2.size;clear ho hb2 hm hmm;go_wp2_with fail;go_loopw [13] (λ s13 wq=>∃(j:Nat) (Dj:DataW Unit),j<=len/\s13= .int .i64 j/\BlAt wq (w.heap.size+1) w.heap.size j Dj (.slice none 0 0)/\Lm Dj (R.take j) (List.range j)/\But w.heap.size w2 wq) (λ s13 _=>len-(intOf s13).toNat)
 case atStart=>exact ⟨0,_,Nat.zero_le _,rfl,HBL2.out.1,Lm.start,But.refl _ _⟩
 case round=>
  obtain ⟨j,Dj,hj,rfl,hbl,hlm,hbt⟩:=hrel;have HBL:Hid (BlAt wr (w.heap.size+1) w.heap.size j Dj (.slice none 0 0)/\Lm Dj (R.take j) (List.range j)/\But w.heap.size w2 wr):=⟨hbl,hlm,hbt⟩;clear hbl hlm hbt;by_cases hlt:j<len
  ·obtain ⟨e,hx⟩:∃e,R[j]? =some e:=⟨_,List.getElem?_eq_getElem (by rw [HLEN.out];exact hlt)⟩
   have hnat:=HE.out.nat (List.mem_of_getElem? hx);have hids:=HE.out.ids e (List.mem_of_getElem? hx);obtain ⟨g,hva⟩:∃g,va=some ⟨g,0,none⟩:=by
    rcases HO.out.shape with ⟨_,k⟩ | ⟨g,cap,k,_⟩
    ·rw [k] at hx;simp at hx
    ·injection k with e1 _ _
     exact ⟨g,e1⟩
   subst hva;obtain ⟨r0,r1,r2⟩:=HO.out.at (g:=g) rfl hx;have hgb:=World.ownsRow.lt HO.out g rfl;have q0:=HBL.out.2.2.cell r0 (by omega);have q1:=HBL.out.2.2.cell r1 (by omega);have q2:=HBL.out.2.2.cell r2 (by omega);have HLM:Hid (Lm (Dj.put (.int .i64 e.1) (.lit (.int .i64 e.1))) (R.take (j+1)) (List.range (j+1))):=Lm.snoc HE.out.up HBL.out.1.hm.isMap HBL.out.2.1 hx;have hwid:(Lit.int .i64 e.1).wf=true:=wf_small hids.1 (by omega);generalize e.1=x0 at*;generalize e.2.1=x1 at*;generalize e.2.2=x2 at*;obtain ⟨W1,hW1⟩:∃W1,W1=wr.alloc (.cells #[.int .i64 x0,.int .i64 x1,.int .i64 x2] 61):=⟨_,rfl⟩;have hh:W1.heap[wr.heap.size]? =some (.cells #[.int .i64 x0,.int .i64 x1,.int .i64 x2] 61):=by rw [hW1];exact heap_alloc_new wr _
   have hbW:Below wr.heap.size wr W1:=by rw [hW1];exact (Below.refl _ _).alloc (Nat.le_refl _) _
   have p0:W1.drew.cell? ⟨wr.heap.size,0,none⟩=some (.int .i64 x0):=by
    show W1.cell? ⟨wr.heap.size,0,none⟩=_;simp [World.cell?,hh]
   have hblW:=HBL.out.1.below hbW;have c0:W1.drew.cell? ⟨w.heap.size+1,0,none⟩=some (.map (some w.heap.size)):=hblW.c0;obtain ⟨W2,hup,hown2,hgr2⟩:=World.ownsMap.update (w:=W1.drew) (hblW.hm) law3 Tryz.underlying183 (by unfold maxLen;omega) (key3 x0 hwid) (plainElem_int Tryz.underlying3 hwid);have HR2:Hid (BlAt W2 (w.heap.size+1) w.heap.size (j+1) (Dj.put (.int .i64 x0) (.lit (.int .i64 x0))) (.slice none 0 0)/\But w.heap.size w2 W2):=
    ⟨⟨(hgr2.block _ hblW.plt (by simp)).trans hblW.hp,hown2⟩,(HBL.out.2.2.trans (But.of_below hbW)).trans ⟨hgr2.os,hgr2.tape,hgr2.output,hgr2.size,λ k hk hn=>hgr2.block k hk (λ c=>hn (by injection c))⟩⟩
   have HW1:Hid (wr.alloc (.cells #[.int .i64 x0,.int .i64 x1,.int .i64 x2] 61)=W1):=hW1.symm;clear hx hnat hids r0 r1 r2 hW1 hh hbW hblW hown2 hgr2 hwid HBL;go_upto_region 5 with fail
   rw [HW1.out];go_region
   all_goals
    go_wp2_with fail;go_roundw;case rel=>exact ⟨j+1,_,by omega,by go_num,HR2.out.1,HLM.out,HR2.out.2⟩
    case measure=>simp [intOf];omega
  ·have hje:j=len:=by omega
   subst hje;have htk:R.take j=R:=List.take_of_length_le (by rw [HLEN.out];exact Nat.le_refl _);have hbl9:=HBL.out;rw [htk] at hbl9;have hBt:Below w.heap.size w wr:=HBL2.out.2.trans (hbl9.2.2.below (Nat.le_refl _) HBL2.out.2.size);have HF:Hid (BlAt wr (w.heap.size+1) w.heap.size j Dj (.slice none 0 0)/\Lm Dj R (List.range R.length)/\Below w.heap.size w wr/\G.GAt wr B0 168 61 q (n:Int) u R):=⟨hbl9.1,by rw [HLEN.out];exact hbl9.2.1,hBt,HG.out.below hBt⟩;obtain ⟨i0,hi0,hz0,hz1,hz2⟩:=info_parts Tryz.info3;clear htk hbl9 hBt HBL HBL2 HO HBL1 HW1;generalize wr=W0 at*;go_wp2_with fail;refine (G.nodes_any (n:Int) B0 q u R W0 HF.out.2.2.2).mono ?_;rintro e w3 ⟨rfl,hw3⟩;subst hw3;go_wp2_with fail;go_loopw [28] (λ s28 wq=>∃(x:Nat) (Dx:DataW Unit) (Lx cs:List Nat) (v:Value),x<=n/\CutsB R x cs/\s28= .int .i64 x/\G.GAt wq B0 168 61 q (n:Int) u R/\BlAt wq (w.heap.size+1) w.heap.size j Dx v/\Lm Dx R Lx/\Bs R x [] Lx/\wq.ownsRow w.heap.size 3 1 v cs.length (natsV cs)/\v.ownBlock≠some (w.heap.size+1)/\v.ownBlock≠some w.heap.size/\Below w.heap.size w wq) (λ s28 _=>n-(intOf s28).toNat)
   case atStart=>exact ⟨0,Dj,_,[],_,Nat.zero_le _,CutsB.start R,rfl,HF.out.2.2.2,HF.out.1,HF.out.2.1,bs_start R,World.ownsRow_nil _ _ _ _,by simp [Value.ownBlock],by simp [Value.ownBlock],HF.out.2.2.1⟩
   case round=>
    clear HF;obtain ⟨x,Dx,Lx,cs,v,hx,hcs,rfl,hgx,hbx,hlx,hsx,hox,hv1,hv2,hBx⟩:=hrel;have HX:Hid (G.GAt wr B0 168 61 q (n:Int) u R/\BlAt wr (w.heap.size+1) w.heap.size j Dx v/\Lm Dx R Lx/\Bs R x [] Lx):=⟨hgx,hbx,hlx,hsx⟩;have HOX:Hid (wr.ownsRow w.heap.size 3 1 v cs.length (natsV cs)/\v.ownBlock≠some (w.heap.size+1)/\v.ownBlock≠some w.heap.size/\Below w.heap.size w wr):=⟨hox,hv1,hv2,hBx⟩;have HCS:Hid (CutsB R x cs):=hcs;clear hgx hbx hlx hsx hox hv1 hv2 hBx hcs;by_cases hlt2:x<n
    ·go_wp2_with fail
     refine (gather_any x n B0 q M _ _ j u v R Lx Dx wr HX.out.1 hn hlt2 HE.out hM HX.out.2.1 HX.out.2.2.1 HX.out.2.2.2).mono ?_;rintro e w4 ⟨k,D4,L4,rfl,hb4,hl4,hs4,hk4,hcut4⟩;have hg4:=gat_but HX.out.1 hk4 (by obtain ⟨es,c,hb,_⟩:=HX.out.2.1.hm;exact ⟨es,c,hb⟩);have hgr4:wr.grownBy w4 (some w.heap.size):=⟨hk4.os,hk4.tape,hk4.output,hk4.size,λ i hi hne=>hk4.block i hi (λ c=>hne (by rw [c]))⟩;have ho4:=HOX.out.1.kept hgr4 (.inr HOX.out.2.2.1);have hB4:Below w.heap.size w w4:=HOX.out.2.2.2.trans (hk4.below (Nat.le_refl _) HOX.out.2.2.2.size);have H4:Hid (G.GAt w4 B0 168 61 q (n:Int) u R/\BlAt w4 (w.heap.size+1) w.heap.size j D4 v/\Lm D4 R L4/\Bs R (x+1) [] L4/\Below w.heap.size w w4):=⟨hg4,hb4,hl4,hs4,hB4⟩;have HOV:Hid (v.ownBlock≠some (w.heap.size+1)/\v.ownBlock≠some w.heap.size):=⟨HOX.out.2.1,HOX.out.2.2.1⟩;have HCUT:Hid (1<k↔cutP R x):=hcut4;clear hk4 hcut4 hg4 hgr4 hl4 hs4 HX HOX;by_cases hk1:1<k
     ·as_aux_lemma=>
      have HC:Hid (CutsB R (x+1) (cs++[x])):=HCS.out.yes (HCUT.out.1 hk1);have hcl:=HCS.out.len;have hc1:=hb4.c1;have hpl:=hb4.plt;have hsz:=hB4.size;have HFZ:Hid (∀w',(w4.alloc (.cells #[.int .i64 (x:Int)] 3)).grownBy w' v.ownBlock->w'.heap[w.heap.size+1]? =some (.cells #[.map (some w.heap.size),v] 196)):=λ w' hg=>by
       rw [hg.block _ (by simp;omega) (λ c=>HOV.out.1 c.symm),Below.heap_alloc _ _ _ hpl];exact hb4.hp
      have HO4:Hid (w4.ownsRow w.heap.size 3 1 v cs.length (natsV cs)):=ho4;clear hb4 hB4 HCUT;go_wp2_with (first
       | (at_builtin;refine wpList_append_own_at _ rfl _ _ 48 rfl w.heap.size 3 i0 (.int .i64 0) 1 8 Tryz.underlying48 hi0 hz0 hz1 hz2 rfl (by decide) v _ _ rfl (ho4.alloc _) ⟨w4.heap.size,0,none⟩ 1 1 [.int .i64 (x:Int)] rfl rfl (cell_one_new _ _ _) (ints_oneCell .i64 [(x:Int)]) (by unfold maxLen;omega) (by omega) (by simp;omega) ?_;intro v5 w5 hown5 hgrow5 hnil5 hloc5;obtain ⟨a5,c5,rfl⟩:=row_slice hown5;have hp5:=HFZ.out w5 hgrow5;have hf5:w5.frozen? ⟨w.heap.size+1,1,none⟩=false:=(by simp [World.frozen?,hp5]);have hc5:w5.cell? ⟨w.heap.size+1,1,none⟩=some v:=(by simp [World.cell?,hp5]))
       | fail)
      have hbl5:BlAt w5 (w.heap.size+1) w.heap.size j D4 v:=⟨hp5,(H4.out.2.1.hm.alloc _).kept hgrow5 (λ c=>HOV.out.2 c.symm)⟩;have hg5:G.GAt w5 B0 168 61 q (n:Int) u R:=gat_row (H4.out.1.below ((Below.refl _ _).alloc (Nat.le_refl _) _)) hgrow5 (HO4.out.alloc _);have hB5:Below w.heap.size w w5:=(H4.out.2.2.2.2.trans (((Below.refl _ _).alloc (Nat.le_refl _) _).mono H4.out.2.2.2.2.size)).grown hgrow5 (by simp;omega) (λ i hi=>(World.ownsRow.lt HO4.out i hi).1);have hne5:(Value.slice a5 (cs.length+1) c5).ownBlock≠some (w.heap.size+1)/\(Value.slice a5 (cs.length+1) c5).ownBlock≠some w.heap.size:=by
       rcases hloc5 with c | c
       ·rw [c];exact HOV.out
       ·rw [c];refine ⟨?_,?_⟩ <;> simp <;> omega
      have hbt:But (w.heap.size+1) w5 (w5.setCell ⟨w.heap.size+1,1,none⟩ (.slice a5 (cs.length+1) c5)):=(But.refl _ _).setCell _ _;have HR6:Hid (G.GAt (w5.setCell ⟨w.heap.size+1,1,none⟩ (.slice a5 (cs.length+1) c5)) B0 168 61 q (n:Int) u R/\BlAt (w5.setCell ⟨w.heap.size+1,1,none⟩ (.slice a5 (cs.length+1) c5)) (w.heap.size+1) w.heap.size j D4 (.slice a5 (cs.length+1) c5)/\(w5.setCell ⟨w.heap.size+1,1,none⟩ (.slice a5 (cs.length+1) c5)).ownsRow w.heap.size 3 1 (.slice a5 (cs.length+1) c5) (cs++[x]).length (natsV (cs++[x]))/\Below w.heap.size w (w5.setCell ⟨w.heap.size+1,1,none⟩ (.slice a5 (cs.length+1) c5))):=by
       refine ⟨gat_but' hg5 hbt hp5,hbl5.store _,?_,hB5.trans (hbt.below (by omega) hB5.size)⟩;have:=hown5.kept (w':=w5.setCell ⟨w.heap.size+1,1,none⟩ (.slice a5 (cs.length+1) c5)) (row:=some (w.heap.size+1)) ⟨hbt.os,hbt.tape,hbt.output,hbt.size,λ i hi hne=>hbt.block i hi (λ c=>hne (by rw [c]))⟩ (.inr hne5.1)
       simpa [natsV] using this
      have HNE:Hid ((Value.slice a5 (cs.length+1) c5).ownBlock≠some (w.heap.size+1)/\(Value.slice a5 (cs.length+1) c5).ownBlock≠some w.heap.size):=hne5;clear hbl5 hg5 hB5 hne5 hbt hown5 hgrow5 hnil5 hloc5 hp5 hf5 hc5;generalize w5.setCell ⟨w.heap.size+1,1,none⟩ (.slice a5 (cs.length+1) c5)=w6 at*;go_wp2_with fail;go_roundw;case rel=>exact ⟨x+1,D4,L4,cs++[x],_,by omega,HC.out,by go_num,HR6.out.1,HR6.out.2.1,H4.out.2.2.1,H4.out.2.2.2.1,HR6.out.2.2.1,HNE.out.1,HNE.out.2,HR6.out.2.2.2⟩
      case measure=>simp [intOf];omega
     ·as_aux_lemma=>
      have HC:Hid (CutsB R (x+1) cs):=HCS.out.no (λ c=>hk1 (HCUT.out.2 c));have HO4:Hid (w4.ownsRow w.heap.size 3 1 v cs.length (natsV cs)):=ho4;clear hb4 hB4 HCUT ho4;go_wp2_with fail;go_roundw;case rel=>exact ⟨x+1,D4,L4,cs,v,by omega,HC.out,by go_num,H4.out.1,H4.out.2.1,H4.out.2.2.1,H4.out.2.2.2.1,HO4.out,HOV.out.1,HOV.out.2,H4.out.2.2.2.2⟩
      case measure=>simp [intOf];omega
    ·have hxe:x=n:=by omega
     subst hxe;go_wp2_with fail;go_ret;exact ⟨_,_,j,Dx,v,Lx,cs,rfl,HX.out.2.1,by omega,HX.out.2.2.1,HX.out.2.2.2,HCS.out,HOX.out.1,HOX.out.2.2.2⟩
end Go.Proofs.YtebcjaenhiiflaaGreatDoor.S
namespace Go.Proofs
open Go.Shelf
def Tryz.keysL_ren:Go.Shelf.Ren:=⟨λ | 7=>137 | 10=>250 | n=>n,λ | 23=>183 | 26=>3 | 3=>3 | 28=>193 | 0=>0 | 27=>192 | 33=>173 | 4=>4 | n=>n,λ | n=>n⟩
theorem Tryz.keysL:Go.Proofs.SlLaysZI.n7 Tryz.prog Tryz.keysL_ren:={
 mixed:=by kernel_rfl
 f7:=⟨Tryz.f137.name,by decide,Tryz.func137.trans (congrArg some (by kernel_rfl))⟩
 f10:=⟨Tryz.f250.name,by decide,Tryz.func250.trans (congrArg some (by kernel_rfl))⟩
 t0:=Tryz.underlying0
 a0:=Tryz.isAgg0
 z0:=Tryz.sizeOf0
 v0:=Tryz.zeroValue0
 t4:=Tryz.underlying4
 a4:=Tryz.isAgg4
 z4:=Tryz.sizeOf4
 v4:=Tryz.zeroValue4
 t23:=Tryz.underlying183
 a23:=Tryz.isAgg183
 z23:=Tryz.sizeOf183
 v23:=Tryz.zeroValue183
 t26:=Tryz.underlying3
 a26:=Tryz.isAgg3
 z26:=Tryz.sizeOf3
 v26:=Tryz.zeroValue3
 t27:=Tryz.underlying192
 a27:=Tryz.isAgg192
 z27:=Tryz.sizeOf192
 v27:=Tryz.zeroValue192
 t28:=Tryz.underlying193
 a28:=Tryz.isAgg193
 z28:=Tryz.sizeOf193
 v28:=Tryz.zeroValue193
 t33:=Tryz.underlying173
 a33:=Tryz.isAgg173
 z33:=Tryz.sizeOf173
 v33:=Tryz.zeroValue173}
def Tryz.keysG_ren:Go.Shelf.Ren:=⟨λ | 7=>138 | 10=>251 | n=>n,λ | 23=>199 | 26=>3 | 3=>48 | 28=>193 | 0=>0 | 27=>192 | 33=>173 | 4=>4 | n=>n,λ | n=>n⟩
theorem Tryz.keysG:Go.Proofs.SlLaysZI.n7 Tryz.prog Tryz.keysG_ren:={
 mixed:=by kernel_rfl
 f7:=⟨Tryz.f138.name,by decide,Tryz.func138.trans (congrArg some (by kernel_rfl))⟩
 f10:=⟨Tryz.f251.name,by decide,Tryz.func251.trans (congrArg some (by kernel_rfl))⟩
 t0:=Tryz.underlying0
 a0:=Tryz.isAgg0
 z0:=Tryz.sizeOf0
 v0:=Tryz.zeroValue0
 t4:=Tryz.underlying4
 a4:=Tryz.isAgg4
 z4:=Tryz.sizeOf4
 v4:=Tryz.zeroValue4
 t23:=Tryz.underlying199
 a23:=Tryz.isAgg199
 z23:=Tryz.sizeOf199
 v23:=Tryz.zeroValue199
 t26:=Tryz.underlying3
 a26:=Tryz.isAgg3
 z26:=Tryz.sizeOf3
 v26:=Tryz.zeroValue3
 t27:=Tryz.underlying192
 a27:=Tryz.isAgg192
 z27:=Tryz.sizeOf192
 v27:=Tryz.zeroValue192
 t28:=Tryz.underlying193
 a28:=Tryz.isAgg193
 z28:=Tryz.sizeOf193
 v28:=Tryz.zeroValue193
 t33:=Tryz.underlying173
 a33:=Tryz.isAgg173
 z33:=Tryz.sizeOf173
 v33:=Tryz.zeroValue173}
end Go.Proofs
namespace Go.Proofs.YtebcjaenhiiflaaGreatDoor.S
open Go.RowKit Go.WideMaps Go.Maps Go.Shelf
theorem keysL_any (mb:Option Nat) (W:World):Calls Tryz.prog 137 #[.map mb] W λ e w'=>e= .returned (.func (.func 250) #[] #[.pointer (some ⟨W.heap.size,0,none⟩)])/\w'=W.alloc (.cells #[.map mb] 183):=
 (callsIn_wide (n:=5)).1 (AnyZI.keys_in Tryz.keysL Fence.wide 5 trivial rfl mb W)
theorem keysL_sorted (R:Value->Option (DataW Unit × List MemPlace)) (m N:Nat) (D:DataW Unit) (w:World) (hown:w.ownsMap Tryz.prog 3 R m N D) (hN:N<=1000):
 Calls Tryz.prog 133 #[.func (.func 250) #[] #[.pointer (some ⟨w.heap.size,0,none⟩)]] (w.alloc (.cells #[.map (some m)] 183)) λ e w'=>∃(v:Value) (ss:List Int),e= .returned v/\ss.Perm (intKeys D)/\
  w'.ownsRow w.heap.size 3 1 v ss.length ((ss.mergeSort (λ x y=>decide (x<=y))).map encZ)/\Below w.heap.size w w':=by
 have hmax:Maps.size D<=maxLen:=Nat.le_trans hown.size_le (by unfold maxLen;omega);have hbytes:Maps.size D*8<=140737488355328:=by have:=hown.size_le;omega
 have hbl:=hown.lt;have hseq:SeqGives Fence.wide 2 Tryz.prog 250 #[.pointer (some ⟨w.heap.size,0,none⟩)] encZ (λ ss=>ss.Perm (intKeys D)) (Maps.size D) (w.alloc (.cells #[.map (some m)] 183)):=
  AnyZI.keys_gives (ρ:=Tryz.keysL_ren) {Tryz.keysL with} Fence.wide _ trivial rfl (by omega) w.heap.size m N D _ (by simp) (by simp) (by
   obtain ⟨es,clock,hb,Ft,hs,hD⟩:=hown;exact ⟨es,clock,(Below.heap_alloc _ _ m hbl).trans hb,Ft,hs,hD⟩)
 have cS:=AnyZI.sorted_in Tryz.sortedA Fence.wide 5 trivial trivial trivial trivial rfl (by omega) (sortsA _) (enters_of Tryz.func243 (by kernel_rfl) rfl) 250 #[.pointer (some ⟨w.heap.size,0,none⟩)] trivial (enters_of Tryz.func250 (by kernel_rfl) rfl) _ _ hmax hbytes _ hseq;change CallsIn _ _ Tryz.prog 133 _ _ _ at cS
 refine (callsIn_wide.1 cS).mono ?_;rintro e w' ⟨v,ss,rfl,hS,hrow,hnil,hb⟩;exact ⟨v,ss,rfl,hS,ownsRow_base_a hrow (by simp),((Below.refl _ w).alloc (Nat.le_refl _) _).trans (hb.mono (by simp))⟩
theorem keysG_any (mb:Option Nat) (W:World):Calls Tryz.prog 138 #[.map mb] W λ e w'=>e= .returned (.func (.func 251) #[] #[.pointer (some ⟨W.heap.size,0,none⟩)])/\w'=W.alloc (.cells #[.map mb] 199):=
 (callsIn_wide (n:=5)).1 (AnyZI.keys_in Tryz.keysG Fence.wide 5 trivial rfl mb W)
theorem keysG_sorted (R:Value->Option (DataW Unit × List MemPlace)) (m N:Nat) (D:DataW Unit) (w:World) (hown:w.ownsMap Tryz.prog 3 R m N D) (hN:N<=1000):
 Calls Tryz.prog 133 #[.func (.func 251) #[] #[.pointer (some ⟨w.heap.size,0,none⟩)]] (w.alloc (.cells #[.map (some m)] 199)) λ e w'=>∃(v:Value) (ss:List Int),e= .returned v/\ss.Perm (intKeys D)/\
  w'.ownsRow w.heap.size 3 1 v ss.length ((ss.mergeSort (λ x y=>decide (x<=y))).map encZ)/\Below w.heap.size w w':=by
 have hmax:Maps.size D<=maxLen:=Nat.le_trans hown.size_le (by unfold maxLen;omega);have hbytes:Maps.size D*8<=140737488355328:=by have:=hown.size_le;omega
 have hbl:=hown.lt;have hseq:SeqGives Fence.wide 2 Tryz.prog 251 #[.pointer (some ⟨w.heap.size,0,none⟩)] encZ (λ ss=>ss.Perm (intKeys D)) (Maps.size D) (w.alloc (.cells #[.map (some m)] 199)):=
  AnyZI.keys_gives (ρ:=Tryz.keysG_ren) {Tryz.keysG with} Fence.wide _ trivial rfl (by omega) w.heap.size m N D _ (by simp) (by simp) (by
   obtain ⟨es,clock,hb,Ft,hs,hD⟩:=hown;exact ⟨es,clock,(Below.heap_alloc _ _ m hbl).trans hb,Ft,hs,hD⟩)
 have cS:=AnyZI.sorted_in Tryz.sortedA Fence.wide 5 trivial trivial trivial trivial rfl (by omega) (sortsA _) (enters_of Tryz.func243 (by kernel_rfl) rfl) 251 #[.pointer (some ⟨w.heap.size,0,none⟩)] trivial (enters_of Tryz.func251 (by kernel_rfl) rfl) _ _ hmax hbytes _ hseq;change CallsIn _ _ Tryz.prog 133 _ _ _ at cS
 refine (callsIn_wide.1 cS).mono ?_;rintro e w' ⟨v,ss,rfl,hS,hrow,hnil,hb⟩;exact ⟨v,ss,rfl,hS,ownsRow_base_a hrow (by simp),((Below.refl _ w).alloc (Nat.le_refl _) _).trans (hb.mono (by simp))⟩
theorem keys_up {w:World} {m N:Nat} {R:Value->Option (DataW Unit × List MemPlace)} {D:DataW Unit} (hm:w.ownsMap Tryz.prog 3 R m N D) {K ss:List Int} (hK:K.Pairwise (·<·)) (hk:∀x:Int,Maps.has D (.int .i64 x)=true↔x∈K) (hp:ss.Perm (intKeys D)):
 (ss.mergeSort λ x y=>decide (x<=y))=K/\ss.length=K.length:=by
 have hc:CollectedI D (λ _=>false) K:=⟨hK.imp (λ h=>by omega),λ x=>by rw [hk x];simp⟩;have hp':ss.Perm K:=hp.trans (hc.perm hm law3 Tryz.underlying3 (λ _=>rfl)).symm;refine ⟨?_,hp'.length_eq⟩;rw [mergeSort_of_perm_i hp'];exact List.mergeSort_of_pairwise (hK.imp (λ h=>by simp;omega))
end Go.Proofs.YtebcjaenhiiflaaGreatDoor.S
