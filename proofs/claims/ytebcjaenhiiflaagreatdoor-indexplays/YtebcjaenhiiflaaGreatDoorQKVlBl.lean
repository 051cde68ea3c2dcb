import Derived.Lib.SlKeysI
import Derived.Test.YtebcjaenhiiflaaGreatDoorQKVdKVk
set_option maxHeartbeats 4000000
set_option maxRecDepth 100000
namespace Go.Proofs.YtebcjaenhiiflaaGreatDoor.S
open Go.RowKit Go.WideMaps Go.Maps Go.Proofs.Tryz
def zm2 (n:Nat) (t o:List Edg) (e:Edg) (i:Nat):Bool:=if e∈t then zcl n t o e i else decide (o.getD i (0,0,0)=e)
def zay (n:Nat) (t o:List Edg) (e:Edg):Nat:=zaz (zm2 n t o e) o.length
theorem zny {c:Nat->Bool} {k:Nat}:∀{m},k<m->(∀i,i<m->c i=decide (i=k))->zaz c m=2^k
 | 0,h,_=>by omega
 | m+1,h,hc=>by
   simp only [zaz,hc m (by omega)];by_cases e:m=k
   ·subst e
    have:zaz c m=0:=by
     have h2:zaz c m=zaz (λ _=>false) m:=zff (λ i hi=>by rw [hc i (by omega)];exact decide_eq_false (by omega));rw [h2];clear h2 hc h;induction m with
     | zero=>rfl
     | succ m ih=>simp [zaz,ih]
    rw [this];simp
   ·rw [decide_eq_false e,zny (m:=m) (by omega) (λ i hi=>hc i (by omega))];simp
theorem zwv {n:Nat} {t o:List Edg} {k:Nat} {e:Edg} (hnd:o.Nodup) (hk:o[k]? =some e) (hne:e∉t):zay n t o e=2^k:=by
 obtain ⟨hlt,he⟩:=List.getElem?_eq_some_iff.1 hk;refine zny hlt (λ i hi=>?_);unfold zm2;rw [if_neg hne];have h1:o.getD i (0,0,0)=o[i]:=by simp [hi]
 rw [h1,<-he];by_cases e2:i=k
 ·subst e2;simp
 ·rw [decide_eq_false e2,decide_eq_false]
  intro c;exact e2 ((List.getElem_inj hnd).1 c)
theorem zyl {n:Nat} {t o:List Edg} {e:Edg} (he:e∈t):zay n t o e=zaz (zcl n t o e) o.length:=
 zff (λ i _=>by unfold zm2;rw [if_pos he])
theorem take_one {L:List Edg} {k:Nat} {x:Edg} (h:L[k]? =some x):L.take (k+1)=L.take k++[x]:=by
 obtain ⟨hlt,he⟩:=List.getElem?_eq_some_iff.1 h;rw [List.take_succ_eq_append_getElem hlt,he]
theorem zl0 {L:List Edg} {k:Nat} {x:Edg} (hnd:L.Nodup) (h:L[k]? =some x):x∉L.take k:=by
 intro hx;obtain ⟨i,hi⟩:=List.getElem?_of_mem hx;obtain ⟨hil,hie⟩:=List.getElem?_eq_some_iff.1 hi;rw [List.length_take] at hil;rw [List.getElem?_take_of_lt (by omega)] at hi;obtain ⟨h1,h2⟩:=List.getElem?_eq_some_iff.1 hi;obtain ⟨h3,h4⟩:=List.getElem?_eq_some_iff.1 h;have:=(List.getElem_inj hnd).1 (h2.trans h4.symm);omega
structure Ok (n:Nat) (R:List Edg):Prop where
 inn:InE n R
 nd:R.Nodup
 one:∀d∈R,∀e∈R,d.1=e.1->d=e
 wf:∀e∈R,(Lit.int .i64 e.1).wf=true
 len:R.length<=120
 n16:n<=40
theorem Cv.base {w w1 W:World} {c mb rest:Nat} {S:List Edg} {f:Edg->Nat} (h:Cv w1 W c mb rest S f) (hb:Below w.heap.size w w1):Cv w W c mb rest S f:=
 {h with lc:=Nat.le_trans hb.size h.lc,lm:=Nat.le_trans hb.size h.lm,below:=hb.trans (h.below.mono hb.size)}
theorem z7y (n B p:Nat) (v:Value) (R:List Edg) (L3:List Nat) (w:World) (h:G.GAt w B 168 61 p (n:Int) v R) (hok:Ok n R)
 (hun:∀W c mb,Cv w W c mb (grw n R).2.length ((grw n R).2++(grw n R).1) (zay n (grw n R).1 (grw n R).2)->Calls prog 142 #[.pointer (some ⟨c,0,none⟩),.pointer (some ⟨p,0,none⟩)] W λ e w'=>∃q bq,e= .returned (.pointer (some ⟨q,0,none⟩))/\zab w' q bq L3/\W.heap.size<=q/\W.heap.size<=bq/\Below W.heap.size W w'):
 Calls prog 82 #[.pointer (some ⟨p,0,none⟩)] w λ e w'=>∃c mb q bq,e= .returned (.pointer (some ⟨c,0,none⟩))/\Cv w w' c mb (grw n R).2.length ((grw n R).2++(grw n R).1) (zay n (grw n R).1 (grw n R).2)/\w'.heap[c]? =some (.cells #[.int .i64 ((grw n R).2.length:Int),.map (some mb),.pointer (some ⟨q,0,none⟩)] 206)/\zab w' q bq L3:=by
 have HG:=kd (And.intro h hok);have HU:=kd hun;have HGR:Hid (Gr n R (grw n R).1 (grw n R).2):=zi7 R hok.nd hok.inn.nodes;have hn16:=hok.n16;have hlen:=hok.len;clear h hok hun;go_enter func82,ntmps82;go_wp2_with fail;refine (z15 n B p v R w HG.out.1 (by omega) HG.out.2.inn HG.out.2.nd (by omega)).mono ?_;rintro e w1 ⟨vt,vo,B1,rfl,hot,hoo,hB1,hb1⟩;obtain ⟨t,ht⟩:∃t,(grw n R).1=t:=⟨_,rfl⟩;obtain ⟨o,ho⟩:∃o,(grw n R).2=o:=⟨_,rfl⟩;rw [ht,ho] at HU HGR;rw [ht] at hot;rw [ho] at hoo;have HTO:=kd (And.intro ht ho);have HO:Hid (G.zad w1 B1 61 vt t/\G.zad w1 B1 61 vo o/\Below w.heap.size w w1):=⟨hot,hoo,hb1⟩;obtain ⟨mt,hmt⟩:∃mt,t.length=mt:=⟨_,rfl⟩;obtain ⟨mo,hmo⟩:∃mo,o.length=mo:=⟨_,rfl⟩;have HM:=kd (And.intro hmt hmo);have hsum:mt+mo<=120:=by have:=HGR.out.len;omega
 obtain ⟨ta,tc,hvt⟩:=hot.zal;obtain ⟨oa,oc,hvo⟩:=hoo.zal;rw [hmt] at hvt;rw [hmo] at hvo;subst hvt;subst hvo;have hmm:=@run_makeMap prog;have HIO:Hid (InE n o/\InE n t/\o.Nodup/\t.Nodup/\(∀e∈o,e∉t)/\(∀e∈o++t,e∈R)):=⟨HG.out.2.inn.sub (λ e he=>(HGR.out.mem e).2 (.inr he)),HG.out.2.inn.sub (λ e he=>(HGR.out.mem e).2 (.inl he)),HG.out.2.nd.sublist HGR.out.osub,HG.out.2.nd.sublist HGR.out.tsub,λ e he k=>HGR.out.forest.apart e k he,λ e he=>(HGR.out.mem e).2 ((List.mem_append.1 he).symm)⟩;clear ht ho hot hoo hb1 hmt hmo;have HC0:Hid (Cv w1 ((w1.alloc (.map #[] 0)).alloc (.cells #[.int .i64 (mo:Int),.map (some w1.heap.size),.pointer none] 206)) (w1.heap.size+1) w1.heap.size mo (o.take 0) (zay n t o)):=by
  have h1:Below w1.heap.size w1 (w1.alloc (.map #[] 0)):=(Below.refl _ _).alloc (Nat.le_refl _) _;have h2:Below (w1.alloc (.map #[] 0)).heap.size (w1.alloc (.map #[] 0)) ((w1.alloc (.map #[] 0)).alloc (.cells #[.int .i64 (mo:Int),.map (some w1.heap.size),.pointer none] 206)):=(Below.refl _ _).alloc (Nat.le_refl _) _;have h3:=heap_alloc_new (w1.alloc (.map #[] 0)) (.cells #[.int .i64 (mo:Int),.map (some w1.heap.size),.pointer none] 206);rw [World.size_alloc] at h3;exact ⟨⟨_,h3⟩,⟨_,0,(World.ownsMap_made w1 prog 3 zb1).alloc _,Rm.start _,rfl⟩,by omega,by omega,Nat.le_refl _,h1.trans (h2.mono h1.size)⟩
 obtain ⟨mb,hmb⟩:∃mb,w1.heap.size=mb:=⟨_,rfl⟩;go_wp2_with fail;rw [hmb] at HC0;have HMB:=kd hmb;clear hmm hmb;go_loopw [23] (λ s23 wq=>∃k:Nat,k<=mo/\s23= .int .i64 k/\Cv w1 wq (mb+1) mb mo (o.take k) (zay n t o)) (λ s23 _=>mo-(intOf s23).toNat)
 case atStart=>exact ⟨0,Nat.zero_le _,rfl,HC0.out⟩
 case round=>
  clear HC0;obtain ⟨k,hk,rfl,hcv⟩:=hrel;have HC:=kd hcv;clear hcv;by_cases hlt:k<mo
  ·as_aux_lemma=>
   obtain ⟨x0,xa,xb,hx,han,hbn,hxa,hxb⟩:=zf5 HIO.out.1 (by rw [HM.out.2];exact hlt);obtain ⟨g',rfl⟩:=zdo HO.out.2.1 (by rw [HM.out.2];exact hlt);obtain ⟨r0,r1,r2⟩:=(HO.out.2.1.below HC.out.below).at (g:=g') rfl hx;have r0':wr.cell? ⟨g',k*3,none⟩=some (.int .i64 x0):=r0;have r1':wr.cell? ⟨g',k*3+1,none⟩=some (.int .i64 (xa:Int)):=r1;have r2':wr.cell? ⟨g',k*3+2,none⟩=some (.int .i64 (xb:Int)):=r2;have hxm:(x0,(xa:Int),(xb:Int))∈o:=List.mem_of_getElem? hx;have HX:Hid (o[k]? =some (x0,(xa:Int),(xb:Int))/\zay n t o (x0,(xa:Int),(xb:Int))=2^k):=⟨hx,zwv HIO.out.2.2.1 hx (HIO.out.2.2.2.2.1 _ hxm)⟩;have HN:Hid (∀d∈o.take k,d.1≠x0):=λ d hd e=>by
    have:=HG.out.2.one d (HIO.out.2.2.2.2.2 d (List.mem_append_left _ (List.mem_of_mem_take hd))) _ (HIO.out.2.2.2.2.2 _ (List.mem_append_left _ hxm)) e;rw [this] at hd;exact zl0 HIO.out.2.2.1 hx hd
   have hwf:(Lit.int .i64 x0).wf=true:=HG.out.2.wf _ (HIO.out.2.2.2.2.2 _ (List.mem_append_left _ hxm));clear r0 r1 r2 hx hxa hxb hxm;have hring:RingAt ((wr.alloc (.cells #[.int .i64 x0,.int .i64 (xa:Int),.int .i64 (xb:Int)] 61)).alloc (.cells #[.int .u64 0,.int .u64 0] 208)) (wr.heap.size+1) 0:=by
    have:=heap_alloc_new (wr.alloc (.cells #[.int .i64 x0,.int .i64 (xa:Int),.int .i64 (xb:Int)] 61)) (.cells #[.int .u64 0,.int .u64 0] 208);rw [World.size_alloc] at this;exact zg2 this
   have HR:=kd hring;clear hring;go_wp2_with fail;refine (ztw (wr.heap.size+1) k 0 _ HR.out (by omega) (Nat.two_pow_pos k)).mono ?_;rintro e w3 ⟨rfl,hr3,hb3⟩;rw [Nat.zero_add] at hr3;have hbel:Below wr.heap.size wr w3:=(((Below.refl _ _).alloc (Nat.le_refl _) _).alloc (by simp) _).trans (hb3.below (by omega) (by simp;omega));have hbx:w3.heap[wr.heap.size]? =some (.cells #[.int .i64 x0,.int .i64 (xa:Int),.int .i64 (xb:Int)] 61):=by
    rw [hb3.block wr.heap.size (by simp;omega) (by omega),Below.heap_alloc _ _ _ (by simp)];exact heap_alloc_new wr _
   have HC3:Hid (Cv w1 w3.drew (mb+1) mb mo (o.take k) (zay n t o)):=HC.out.below' (hbel.trans ((Below.refl _ _).drew.mono hbel.size));obtain ⟨w4,hup,hcv4,_⟩:=HC3.out.more (x0,(xa:Int),(xb:Int)) HN.out hwf (by rw [List.length_take];omega);rw [HX.out.2] at hup;rw [<-take_one HX.out.1] at hcv4;have HC4:=kd hcv4;have d1:=(HC.out.below' hbel).cell1;have q0:w3.cell? ⟨wr.heap.size,0,none⟩=some (.int .i64 x0):=by simp [World.cell?,hbx]
   have s0:w3.cell? ⟨wr.heap.size+1,0,none⟩=some (.int .u64 (zbh (2^k):Int)):=by simp [World.cell?,hr3]
   have s1:w3.cell? ⟨wr.heap.size+1,1,none⟩=some (.int .u64 (hi64 (2^k):Int)):=by simp [World.cell?,hr3]
   unfold zdp at hup;obtain ⟨Y,hY⟩:∃Y:Nat,zbh (2^k)=Y:=⟨_,rfl⟩;obtain ⟨Z,hZ⟩:∃Z:Nat,hi64 (2^k)=Z:=⟨_,rfl⟩;rw [hY,hZ] at hup;rw [hY] at s0;rw [hZ] at s1;simp only at hup;clear hr3 hb3 hbel hbx HC3 hcv4 HR HC r0' r1' r2' hY hZ;go_upto_region 8 with fail
   go_region
   all_goals
    go_wp2_with fail;go_roundw;case rel=>exact ⟨k+1,by omega,by go_num,HC4.out⟩
    case measure=>simp [intOf];omega
  ·have hke:k=mo:=by omega
   have HC1:Hid (Cv w1 wr (mb+1) mb mo (o++t.take 0) (zay n t o)):=by
    have h2:=HC.out;rw [hke,<-HM.out.2,List.take_length,HM.out.2] at h2;rw [List.take_zero,List.append_nil];exact h2
   clear HC hke;go_wp2_with fail;go_loopw [40] (λ s40 wq=>∃j:Nat,j<=mt/\s40= .int .i64 j/\Cv w1 wq (mb+1) mb mo (o++t.take j) (zay n t o)) (λ s40 _=>mt-(intOf s40).toNat)
   case atStart=>exact ⟨0,Nat.zero_le _,rfl,HC1.out⟩
   case round=>
    clear HC1;obtain ⟨j,hj,rfl,hcv⟩:=hrel;have HC:=kd hcv;clear hcv;by_cases hltj:j<mt
    ·as_aux_lemma=>
     obtain ⟨x0,xa,xb,hx,han,hbn,hxa,hxb⟩:=zf5 HIO.out.2.1 (by rw [HM.out.1];exact hltj);obtain ⟨g',rfl⟩:=zdo HO.out.1 (by rw [HM.out.1];exact hltj);obtain ⟨r0,r1,r2⟩:=(HO.out.1.below HC.out.below).at (g:=g') rfl hx;have r0':wr.cell? ⟨g',j*3,none⟩=some (.int .i64 x0):=r0;have r1':wr.cell? ⟨g',j*3+1,none⟩=some (.int .i64 (xa:Int)):=r1;have r2':wr.cell? ⟨g',j*3+2,none⟩=some (.int .i64 (xb:Int)):=r2;have hxm:(x0,(xa:Int),(xb:Int))∈t:=List.mem_of_getElem? hx;have hwf:(Lit.int .i64 x0).wf=true:=HG.out.2.wf _ (HIO.out.2.2.2.2.2 _ (List.mem_append_right _ hxm));have HN:Hid (∀d∈o++t.take j,d.1≠x0):=λ d hd e=>by
      have hdR:d∈R:=HIO.out.2.2.2.2.2 d (by
       rcases List.mem_append.1 hd with h1 | h1
       ·exact List.mem_append_left _ h1
       ·exact List.mem_append_right _ (List.mem_of_mem_take h1))
      have:=HG.out.2.one d hdR _ (HIO.out.2.2.2.2.2 _ (List.mem_append_right _ hxm)) e;rw [this] at hd;rcases List.mem_append.1 hd with h1 | h1
      ·exact HIO.out.2.2.2.2.1 _ h1 hxm
      ·exact zl0 HIO.out.2.2.2.1 hx h1
     have hbel:Below wr.heap.size wr ((wr.alloc (.cells #[.int .i64 x0,.int .i64 (xa:Int),.int .i64 (xb:Int)] 61)).drew):=((Below.refl _ _).alloc (Nat.le_refl _) _).drew;have HC2:Hid (Cv w1 ((wr.alloc (.cells #[.int .i64 x0,.int .i64 (xa:Int),.int .i64 (xb:Int)] 61)).drew) (mb+1) mb mo (o++t.take j) (zay n t o)):=HC.out.below' hbel;have HT:Hid (Calls prog 141 #[.int .i64 (n:Int),.slice (some ⟨g',0,none⟩) mt tc,.agg #[.int .i64 x0,.int .i64 (xa:Int),.int .i64 (xb:Int)],.slice oa mo oc] ((wr.alloc (.cells #[.int .i64 x0,.int .i64 (xa:Int),.int .i64 (xb:Int)] 61)).drew) λ e w'=>∃X Y W2,e= .returned (.agg #[.int .u64 (X:Int),.int .u64 (Y:Int)])/\(w'.cell? ⟨mb+1,1,none⟩=some (.map (some mb))/\w'.cell? ⟨wr.heap.size,0,none⟩=some (.int .i64 x0)/\w'.cell? ⟨wr.heap.size,1,none⟩=some (.int .i64 (xa:Int))/\w'.cell? ⟨wr.heap.size,2,none⟩=some (.int .i64 (xb:Int)))/\(Instr.mapUpdate 204 (.map (some mb)) (.int .i64 x0) (.agg #[.int .u64 (X:Int),.int .u64 (Y:Int)])).run prog w'= .ok () W2/\(W2.cell? ⟨mb+1,1,none⟩=some (.map (some mb))/\W2.cell? ⟨wr.heap.size,0,none⟩=some (.int .i64 x0)/\W2.cell? ⟨wr.heap.size,1,none⟩=some (.int .i64 (xa:Int))/\W2.cell? ⟨wr.heap.size,2,none⟩=some (.int .i64 (xb:Int)))/\Hid (Cv w1 W2 (mb+1) mb mo (o++t.take (j+1)) (zay n t o))):=by
      have hq0:((wr.alloc (.cells #[.int .i64 x0,.int .i64 (xa:Int),.int .i64 (xb:Int)] 61)).drew).cell? ⟨wr.heap.size,0,none⟩=some (.int .i64 x0):=by simp
      have hq1:((wr.alloc (.cells #[.int .i64 x0,.int .i64 (xa:Int),.int .i64 (xb:Int)] 61)).drew).cell? ⟨wr.heap.size,1,none⟩=some (.int .i64 (xa:Int)):=by simp
      have hq2:((wr.alloc (.cells #[.int .i64 x0,.int .i64 (xa:Int),.int .i64 (xb:Int)] 61)).drew).cell? ⟨wr.heap.size,2,none⟩=some (.int .i64 (xb:Int)):=by simp
      have hmbl:mb<wr.heap.size:=by
       obtain ⟨D,N,h1,_,_⟩:=HC.out.mp;obtain ⟨es,clock,h1,_⟩:=h1;exact lt_of_some h1
      refine (zsx n B1 B1 _ _ t o (x0,(xa:Int),(xb:Int)) _ (HO.out.1.below HC2.out.below) (HO.out.2.1.below HC2.out.below) HIO.out.2.1 HIO.out.1 hxm (by omega) (by rw [HM.out.1];omega) (by rw [HM.out.2];omega)).mono ?_;rintro e w' ⟨rfl,hb'⟩;have HC3:=HC2.out.below' hb';obtain ⟨W2,hup,hcv2,hgr⟩:=HC3.more (x0,(xa:Int),(xb:Int)) HN.out hwf (by rw [List.length_append,List.length_take,HM.out.2];omega);rw [zyl hxm] at hup;rw [List.append_assoc,<-take_one hx] at hcv2;have k0:=cell_below hq0 hb';have k1:=cell_below hq1 hb';have k2:=cell_below hq2 hb';have kg:∀{i:Nat} {u:Value},w'.cell? ⟨wr.heap.size,i,none⟩=some u->W2.cell? ⟨wr.heap.size,i,none⟩=some u:=λ {i u} hk=>by
       have hl:=lt_of_cell hk;simp only [World.cell?] at hk ⊢;rw [hgr.block wr.heap.size hl (by simp;omega)];exact hk
      exact ⟨_,_,W2,rfl,⟨HC3.cell1,k0,k1,k2⟩,hup,⟨hcv2.cell1,kg k0,kg k1,kg k2⟩,hcv2⟩
     have HG2:Hid (G.GAt ((wr.alloc (.cells #[.int .i64 x0,.int .i64 (xa:Int),.int .i64 (xb:Int)] 61)).drew) B 168 61 p (n:Int) v R):=(HG.out.1.below HO.out.2.2).below HC2.out.below;have hS0:(((wr.alloc (.cells #[.int .i64 x0,.int .i64 (xa:Int),.int .i64 (xb:Int)] 61)).drew).cell? ⟨mb+1,1,none⟩=some (.map (some mb))/\((wr.alloc (.cells #[.int .i64 x0,.int .i64 (xa:Int),.int .i64 (xb:Int)] 61)).drew).cell? ⟨wr.heap.size,0,none⟩=some (.int .i64 x0)/\((wr.alloc (.cells #[.int .i64 x0,.int .i64 (xa:Int),.int .i64 (xb:Int)] 61)).drew).cell? ⟨wr.heap.size,1,none⟩=some (.int .i64 (xa:Int))/\((wr.alloc (.cells #[.int .i64 x0,.int .i64 (xa:Int),.int .i64 (xb:Int)] 61)).drew).cell? ⟨wr.heap.size,2,none⟩=some (.int .i64 (xb:Int))):=⟨HC2.out.cell1,by simp,by simp,by simp⟩;clear r0 r1 r2 hx hxa hxb hxm hbel HC2 HC HN;go_upto_region 13 with fail
     clear r0' r1' r2';go_region_held (λ w'=>(w'.cell? ⟨mb+1,1,none⟩=some (.map (some mb))/\w'.cell? ⟨wr.heap.size,0,none⟩=some (.int .i64 x0)/\w'.cell? ⟨wr.heap.size,1,none⟩=some (.int .i64 (xa:Int))/\w'.cell? ⟨wr.heap.size,2,none⟩=some (.int .i64 (xb:Int)))) (with_reducible assumption)
      (first
      | (go_at_call 52;refine (G.zbb (n:Int) B p v R _ HG2.out).mono ?_;rintro e w' ⟨rfl,rfl⟩)
      | (go_at_call 141;refine HT.out.mono ?_;rintro e w' ⟨X,Y,W2,rfl,hS1,hup,hS2,hcv2⟩))
     all_goals
      go_wp2_with fail;go_roundw;case rel=>exact ⟨j+1,by omega,by go_num,hcv2.out⟩
      case measure=>simp [intOf];omega
    ·as_aux_lemma=>
     have HC1:Hid (Cv w wr (mb+1) mb mo (o++t) (zay n t o)):=by
      have hje:j=mt:=by omega
      have h2:=HC.out;rw [hje,<-HM.out.1,List.take_length] at h2;exact h2.base HO.out.2.2
     have HUN:Hid _:=HU.out wr (mb+1) mb (by rw [HM.out.2];exact HC1.out);clear HC;go_wp2_with fail;refine Calls.mono HUN.out ?_;rintro e w5 ⟨q,bq,rfl,hs5,hq5,hbq5,hb5⟩;have HC5:Hid (Cv w w5 (mb+1) mb mo (o++t) (zay n t o)):=HC1.out.below' hb5;obtain ⟨u2,hst⟩:=HC5.out.st;have k2:w5.cell? ⟨mb+1,2,none⟩=some u2:=by simp [World.cell?,hst]
     have f2:w5.frozen? ⟨mb+1,2,none⟩=false:=by simp [World.frozen?,hst]
     have hcl:mb+1<wr.heap.size:=by obtain ⟨u,hu⟩:=HC1.out.st;exact lt_of_some hu
     have HF:Hid (Cv w (w5.setCell ⟨mb+1,2,none⟩ (.pointer (some ⟨q,0,none⟩))) (mb+1) mb mo (o++t) (zay n t o)/\(w5.setCell ⟨mb+1,2,none⟩ (.pointer (some ⟨q,0,none⟩))).heap[mb+1]? =some (.cells #[.int .i64 (mo:Int),.map (some mb),.pointer (some ⟨q,0,none⟩)] 206)/\zab (w5.setCell ⟨mb+1,2,none⟩ (.pointer (some ⟨q,0,none⟩))) q bq L3):=by
      have hnew:(w5.setCell ⟨mb+1,2,none⟩ (.pointer (some ⟨q,0,none⟩))).heap[mb+1]? =some (.cells #[.int .i64 (mo:Int),.map (some mb),.pointer (some ⟨q,0,none⟩)] 206):=by
       simp only [World.setCell,Array.getElem?_modify,hst];simp
      have hg:w5.grownBy (w5.setCell ⟨mb+1,2,none⟩ (.pointer (some ⟨q,0,none⟩))) (some (mb+1)):=⟨rfl,rfl,rfl,by simp,λ k _ hne=>Below.heap_setCell _ _ _ _ (λ e=>hne (by rw [e]))⟩;obtain ⟨D,N,h1,h2,h3⟩:=HC5.out.mp;refine ⟨{HC5.out with st:=⟨_,hnew⟩,mp:=⟨D,N,h1.kept hg (by simp),h2,h3⟩,below:=HC5.out.below.grown hg HC5.out.below.size (λ j hj=>by injection hj with hj;have:=HC5.out.lc;omega)},hnew,?_⟩;exact ⟨(Below.heap_setCell _ _ _ _ (show q≠mb+1 by omega)).trans hs5.hp,(Below.heap_setCell _ _ _ _ (show bq≠mb+1 by omega)).trans hs5.hb⟩
     clear hst hs5 hb5 HC5 HUN;go_wp2_with fail;go_ret;refine ⟨mb+1,mb,q,bq,rfl,?_,?_,HF.out.2.2⟩
     ·rw [HTO.out.1,HTO.out.2,HM.out.2];exact HF.out.1
     ·rw [HTO.out.2,HM.out.2];exact HF.out.2.1
theorem ztr (w:World):(zeroValue 208).run prog w= .ok (zdp 0) w:=by kernel_rfl
theorem znr {v:Value} {x:Nat} {ps:List MemPlace} (h:zb1 v=some (zjl x,ps)):v=zdp x:=by
 obtain ⟨c,rfl,hy⟩:=zie h;have h1:=congrArg Prod.fst hy;simp only [zjl,DataW.agg.injEq,List.cons.injEq,DataW.lit.injEq,Lit.int.injEq,true_and,and_true] at h1;obtain ⟨h2,h3⟩:=h1;rw [<-h2,<-h3];rfl
structure Co (w:World) (c mb rest:Nat) (S:List Edg) (f:Edg->Nat):Prop where
 st:∃v,w.heap[c]? =some (.cells #[.int .i64 (rest:Int),.map (some mb),v] 206)
 mp:∃D N,w.ownsMap prog 3 zb1 mb N D/\Rm D S f
theorem Cv.co {w0 w:World} {c mb rest:Nat} {S:List Edg} {f:Edg->Nat} (h:Cv w0 w c mb rest S f):Co w c mb rest S f:=by
 obtain ⟨D,N,h1,h2,_⟩:=h.mp;exact ⟨h.st,D,N,h1,h2⟩
section
variable {w w':World} {c mb rest:Nat} {S:List Edg} {f:Edg->Nat}
theorem Co.below (h:Co w c mb rest S f) (hb:Below w.heap.size w w'):Co w' c mb rest S f:=by
 obtain ⟨v,hv⟩:=h.st;obtain ⟨D,N,h1,h2⟩:=h.mp;exact ⟨⟨v,(hb.block c (lt_of_some hv)).trans hv⟩,D,N,h1.kept (zai hb) (by simp),h2⟩
theorem Co.cell1 (h:Co w c mb rest S f):w.cell? ⟨c,1,none⟩=some (.map (some mb)):=by
 obtain ⟨v,hv⟩:=h.st;simp [World.cell?,hv]
theorem Co.zmm (h:Co w c mb rest S f) {e:Edg} (he:e∈S) (hw:(Lit.int .i64 e.1).wf=true):
 (Instr.lookup 204 (.map (some mb)) (.int .i64 e.1) true).run prog w= .ok (.tuple #[zdp (f e),.bool true]) w/\(Instr.lookup 204 (.map (some mb)) (.int .i64 e.1) false).run prog w= .ok (zdp (f e)) w:=by
 obtain ⟨D,N,h1,h2⟩:=h.mp;have hh:Maps.has D (.int .i64 e.1)=true:=(h2.key _).2 ⟨e,he,rfl⟩;obtain ⟨v,ps,r1,r2⟩:=h1.look_ok za6 underlying204 (ztr w) (zki 0) (zdt e.1 hw);obtain ⟨v',ps',q1,q2⟩:=h1.lookup za6 underlying204 (ztr w) (zki 0) (zdt e.1 hw);rw [h2.val e he] at r2 q2;rw [r1,q1,hh,znr r2,znr q2];exact ⟨rfl,rfl⟩
end
theorem z4t (a b c d:Int) (w:World):(Op.equalIn 10000 208 (.agg #[.int .u64 a,.int .u64 b]) (.agg #[.int .u64 c,.int .u64 d])).run prog w= .ok (a==c&&b==d) w:=by
 have u3:=underlying132;have a3:=isAgg132;have z3:=sizeOf132;rw [show (10000:Nat)=9999+1 from rfl,Op.equalIn];simp only [Sem.run_bind,run_underlying underlying208,Result.andThen_ok];simp only [Std.Legacy.Range.forIn_eq_forIn_range',Std.Legacy.Range.size,Nat.sub_zero,Nat.add_sub_cancel,Nat.div_one,List.range'_succ,List.range'_zero,List.forIn_cons,List.forIn_nil];go_simp;by_cases h1:a=c <;> by_cases h2:b=d <;> simp [h1,h2]
end Go.Proofs.YtebcjaenhiiflaaGreatDoor.S
namespace Go.Proofs.YtebcjaenhiiflaaGreatDoor.G
open Go.RowKit Go.Proofs.Tryz
theorem z0f (a:Option Addr) (m cap:Nat) (F:Nat->Int) (x:Int) (w:World) (h:Ints w a m F) (hm:m<=1000):
 Calls prog 361 #[.slice a m cap,.int .i64 x] w λ e w'=>∃r:Int,e= .returned (.int .i64 r)/\decide (0<=r)=among F m x/\w'=w:=by
 have HI:=kd h;clear h;go_enter func361,ntmps361;go_wp2_with fail;go_loopg [5,8] m (λ r _ s8 wq=>∃k:Nat,s8= .int .i64 k/\k+r=m/\(∀t,t<k->F t≠x)/\wq=w)
 case atStart=>exact ⟨0,rfl,by omega,λ t ht=>by omega,rfl⟩
 case round=>
  obtain ⟨k,rfl,hk,hno,rfl⟩:=hrel;by_cases hlt:k<m
  ·obtain ⟨bl,off,ha,hc⟩:=HI.out.some_ (by omega)
   have c:=hc k hlt;subst ha;clear hc;by_cases hy:x=F k
   ·as_aux_lemma=>
    have HA:Hid (decide (0<=(k:Int))=among F m x):=by
     show decide (0<=(k:Int))=among F m x;rw [zi2 hlt hy.symm];simp
    clear hno;generalize F k=y at*;subst hy;go_wp2_with fail;go_ret;exact ⟨k,rfl,HA.out,rfl⟩
   ·as_aux_lemma=>
    have HN:Hid (∀t,t<k+1->F t≠x):=by
     intro t ht;rcases Nat.lt_succ_iff_lt_or_eq.1 ht with h | h
     ·exact hno t h
     ·subst h;exact λ e=>hy e.symm
    clear hno;generalize F k=y at*;have hyb:(x==y)=false:=beq_eq_false_iff_ne.2 hy;clear hy;go_wp2_with fail;go_roundg (gk-1);case measure=>omega
    case rel=>exact ⟨k+1,by go_num,by omega,HN.out,rfl⟩
  ·have hke:m=k:=by omega
   have HA:Hid (decide (0<=(-1:Int))=among F m x):=by
    show decide (0<=(-1:Int))=among F m x;rw [zh2 (λ t ht=>hno t (by omega))];rfl
   clear hno;go_wp2_with fail;go_ret;exact ⟨-1,rfl,HA.out,rfl⟩
theorem zcr (a:Option Addr) (m cap:Nat) (F:Nat->Int) (x:Int) (ok:Bool) (w:World) (h:Ints w a m F) (hm:m<=1000) (hok:among F m x=ok):
 Calls prog 324 #[.slice a m cap,.int .i64 x] w λ e w'=>e= .returned (.bool ok)/\w'=w:=by
 have HI:=kd h;have HO:=kd hok;clear h hok;go_enter func324,ntmps324;go_wp2_with fail;refine (z0f a m cap F x w HI.out hm).mono ?_;rintro e w' ⟨r,rfl,hr,rfl⟩;have HR:Hid (decide (0<=r)=ok):=hr.trans HO.out;clear hr;go_wp2_with fail;go_ret;exact ⟨by rw [<-HR.out];rfl,rfl⟩
theorem z7z (x0 x1 x2 y:Int) (xb:Nat) (ok:Bool) (w:World) (hc:w.cell? ⟨xb,0,none⟩=some (.int .i64 y)) (hok:(x1==y || x2==y)=ok):
 Calls prog 321 #[.agg #[.int .i64 x0,.int .i64 x1,.int .i64 x2],.pointer (some ⟨xb,0,none⟩)] w λ e w'=>e= .returned (.bool ok)/\Below w.heap.size w w':=by
 have hlt:xb<w.heap.size:=lt_of_cell hc;by_cases h1:x1=y
 ·have HO:Hid (ok=true):=by
   show ok=true;rw [<-hok,h1];simp
  clear hok;subst h1;go_enter func321,ntmps321;go_wp2;go_ret;exact ⟨by rw [HO.out];rfl,zat _ _⟩
 ·have h1b:(x1==y)=false:=beq_eq_false_iff_ne.2 h1
  by_cases h2:x2=y
  ·have HO:Hid (ok=true):=by
    show ok=true;rw [<-hok,h2];simp
   clear hok h1;subst h2;go_enter func321,ntmps321;go_wp2;go_ret;exact ⟨by rw [HO.out];rfl,zat _ _⟩
  ·have h2b:(x2==y)=false:=beq_eq_false_iff_ne.2 h2
   have HO:Hid (ok=false):=by
    show ok=false;rw [<-hok,h1b,h2b];rfl
   clear hok h1 h2;go_enter func321,ntmps321;go_wp2;go_ret;exact ⟨by rw [HO.out];rfl,zat _ _⟩
theorem z7n (x0 x1 x2:Int) (eb nb:Nat) (ae an:Option Addr) (me mn ce cn:Nat) (Fe Fn:Nat->Int) (ok:Bool) (w:World) (he:w.cell? ⟨eb,0,none⟩=some (.slice ae me ce)) (hn:w.cell? ⟨nb,0,none⟩=some (.slice an mn cn))
 (hie:Ints w ae me Fe) (hin:Ints w an mn Fn) (hme:me<=1000) (hmn:mn<=1000) (hok:(!among Fe me x0&&!among Fn mn x1&&!among Fn mn x2)=ok):
 Calls prog 323 #[.agg #[.int .i64 x0,.int .i64 x1,.int .i64 x2],.pointer (some ⟨eb,0,none⟩),.pointer (some ⟨nb,0,none⟩)] w λ e w'=>e= .returned (.bool ok)/\Below w.heap.size w w':=by
 have hlt:eb<w.heap.size:=lt_of_cell he;have hlt2:nb<w.heap.size:=lt_of_cell hn;have HE:Hid (∀o,Ints (w.alloc o) ae me Fe):=λ o=>hie.below (zat w o)
 have HN:Hid (∀o,Ints (w.alloc o) an mn Fn):=λ o=>hin.below (zat w o)
 clear hie hin;cases hc1:among Fe me x0 with
 | true=>
   have HC1:=kd hc1;have HO:Hid (ok=false):=by
    show ok=false;rw [<-hok,hc1];rfl
   clear hok hc1;go_enter func323,ntmps323;go_wp2_with fail;refine (zcr ae me ce Fe x0 true _ (HE.out _) hme HC1.out).mono ?_;rintro e w1 ⟨rfl,rfl⟩;go_wp2_with fail;go_ret;exact ⟨by rw [HO.out];rfl,zat _ _⟩
 | false=>
   have HC1:=kd hc1;rw [hc1] at hok;clear hc1;cases hc2:among Fn mn x1 with
   | true=>
     have HC2:=kd hc2;have HO:Hid (ok=false):=by
      show ok=false;rw [<-hok,hc2];rfl
     clear hok hc2;go_enter func323,ntmps323;go_wp2_with fail;refine (zcr ae me ce Fe x0 false _ (HE.out _) hme HC1.out).mono ?_;rintro e w1 ⟨rfl,rfl⟩;go_wp2_with fail;refine (zcr an mn cn Fn x1 true _ (HN.out _) hmn HC2.out).mono ?_;rintro e w1 ⟨rfl,rfl⟩;go_wp2_with fail;go_ret;exact ⟨by rw [HO.out];rfl,zat _ _⟩
   | false=>
     have HC2:=kd hc2;rw [hc2] at hok;clear hc2;have HC3:Hid (among Fn mn x2=!ok):=by
      show among Fn mn x2=!ok;rw [<-hok];simp
     clear hok;go_enter func323,ntmps323;go_wp2_with fail;refine (zcr ae me ce Fe x0 false _ (HE.out _) hme HC1.out).mono ?_;rintro e w1 ⟨rfl,rfl⟩;go_wp2_with fail;refine (zcr an mn cn Fn x1 false _ (HN.out _) hmn HC2.out).mono ?_;rintro e w1 ⟨rfl,rfl⟩;go_wp2_with fail;refine (zcr an mn cn Fn x2 (!ok) _ (HN.out _) hmn HC3.out).mono ?_;rintro e w1 ⟨rfl,rfl⟩;cases ok
     ·go_wp2_with fail
      go_ret;exact ⟨rfl,zat _ _⟩
     ·go_wp2_with fail
      go_ret;exact ⟨rfl,zat _ _⟩
theorem z3l (pf:E->Bool) (n:Int) (B p:Nat) (xb:Nat) (v:Value) (L:List E) (w:World) (h:GAt w B 168 61 p n v L) (hl:L.length<=120)
 (hf:∀W x0 x1 x2,Below w.heap.size w W->Calls prog 321 #[.agg #[.int .i64 x0,.int .i64 x1,.int .i64 x2],.pointer (some ⟨xb,0,none⟩)] W λ e w'=>e= .returned (.bool (pf (x0,x1,x2)))/\Below W.heap.size W w'):
 Calls prog 105 #[.pointer (some ⟨p,0,none⟩),.func (.func 321) #[] #[.pointer (some ⟨xb,0,none⟩)]] w λ e w'=>∃u,e= .returned u/\zad w' w.heap.size 61 u (L.filter pf)/\Below w.heap.size w w':=zil 321 _ (.inr (.inl ⟨xb,rfl,rfl⟩)) pf n B p v L w h hl hf
theorem z1n (pf:E->Bool) (n:Int) (B p:Nat) (eb nb:Nat) (v:Value) (L:List E) (w:World) (h:GAt w B 168 61 p n v L) (hl:L.length<=120)
 (hf:∀W x0 x1 x2,Below w.heap.size w W->Calls prog 323 #[.agg #[.int .i64 x0,.int .i64 x1,.int .i64 x2],.pointer (some ⟨eb,0,none⟩),.pointer (some ⟨nb,0,none⟩)] W λ e w'=>e= .returned (.bool (pf (x0,x1,x2)))/\Below W.heap.size W w'):
 Calls prog 105 #[.pointer (some ⟨p,0,none⟩),.func (.func 323) #[] #[.pointer (some ⟨eb,0,none⟩),.pointer (some ⟨nb,0,none⟩)]] w λ e w'=>∃u,e= .returned u/\zad w' w.heap.size 61 u (L.filter pf)/\Below w.heap.size w w':=zil 323 _ (.inr (.inr ⟨eb,nb,rfl,rfl⟩)) pf n B p v L w h hl hf
def zg7 (x:Int):E->Bool:=λ e=>e.2.1==x || e.2.2==x
theorem yabr (x n:Int) (B p:Nat) (v:Value) (L:List E) (w:World) (h:GAt w B 168 61 p n v L) (hl:L.length<=120) (hx:0<=x/\x<n):
 Calls prog 245 #[.pointer (some ⟨p,0,none⟩),.int .i64 x] w λ e w'=>∃u,e= .returned (.tuple #[u,.nilIface])/\zad w' w.heap.size 61 u (L.filter (zg7 x))/\Below w.heap.size w w':=by
 have hb0:=zat w (.cells #[.int .i64 x] 3);have HC:Hid (Calls prog 116 #[.pointer (some ⟨p,0,none⟩),.int .i64 x] (w.alloc (.cells #[.int .i64 x] 3)) λ e w'=>e= .returned (.bool true)/\w'=w.alloc (.cells #[.int .i64 x] 3)):=zd2 x n B p v L _ (h.below hb0) hx;have HD:Hid (Calls prog 105 #[.pointer (some ⟨p,0,none⟩),.func (.func 321) #[] #[.pointer (some ⟨w.heap.size,0,none⟩)]] (w.alloc (.cells #[.int .i64 x] 3)) λ e w'=>∃u,e= .returned u/\zad w' w.heap.size 61 u (L.filter (zg7 x))/\Below w.heap.size w w'):=by
  have hc:(w.alloc (.cells #[.int .i64 x] 3)).cell? ⟨w.heap.size,0,none⟩=some (.int .i64 x):=by rw [World.cell?_alloc_at _ _ _ _ rfl];rfl
  have:=z3l (zg7 x) n B p w.heap.size v L _ (h.below hb0) hl (λ W x0 x1 x2 hb=>z7z x0 x1 x2 x w.heap.size _ W ((hb.cell (p:=⟨w.heap.size,0,none⟩) (by simp)).trans hc) rfl);refine this.mono ?_;rintro e w' ⟨u,he,ho,hb⟩;exact ⟨u,he,ho.mono (by simp),hb0.trans (hb.mono (by simp))⟩
 clear h hx hb0;go_enter func245,ntmps245;go_wp2_with fail;refine HC.out.mono ?_;rintro e w1 ⟨rfl,hw⟩;have HW:=kd hw;clear hw HC;go_wp2_with fail;rw [HW.out];refine HD.out.mono ?_;rintro e w2 ⟨u,rfl,ho,hb⟩;have HR:=kd (And.intro ho hb);clear ho hb HD HW;go_wp2_with fail;go_ret2;exact ⟨_,rfl,HR.out⟩
theorem zjy (n:Int) (B p:Nat) (v:Value) (L:List E) (ae an:Option Addr) (me mn ce cn:Nat) (Fe Fn:Nat->Int) (w:World) (h:GAt w B 168 61 p n v L) (hl:L.length<=120) (hie:Ints w ae me Fe) (hin:Ints w an mn Fn) (hme:me<=1000) (hmn:mn<=1000):
 Calls prog 257 #[.pointer (some ⟨p,0,none⟩),.slice ae me ce,.slice an mn cn] w λ e w'=>∃p' v',e= .returned (.pointer (some ⟨p',0,none⟩))/\GAt w' w.heap.size 168 61 p' n v' (L.filter (stays Fe Fn me mn))/\Below w.heap.size w w':=by
 obtain ⟨W0,hW0⟩:∃W0,W0=(w.alloc (.cells #[.slice ae me ce] 48)).alloc (.cells #[.slice an mn cn] 48):=⟨_,rfl⟩;have hb0:Below w.heap.size w W0:=by rw [hW0];exact ((Below.refl _ _).alloc (Nat.le_refl _) _).alloc (by simp) _
 have hs0:W0.heap.size=w.heap.size+1+1:=by rw [hW0];simp
 have he0:W0.cell? ⟨w.heap.size,0,none⟩=some (.slice ae me ce):=by
  rw [hW0,World.cell?_alloc_lt _ _ ⟨w.heap.size,0,none⟩ (by simp),World.cell?_alloc_at _ _ _ _ rfl];rfl
 have hn0:W0.cell? ⟨w.heap.size+1,0,none⟩=some (.slice an mn cn):=by
  rw [hW0,World.cell?_alloc_at _ _ _ _ (by simp)];rfl
 have hg0:=h.below hb0;have hc0:=hg0.c0;have HD:Hid (Calls prog 105 #[.pointer (some ⟨p,0,none⟩),.func (.func 323) #[] #[.pointer (some ⟨w.heap.size,0,none⟩),.pointer (some ⟨w.heap.size+1,0,none⟩)]] W0.drew λ e w'=>∃a m c,e= .returned (.slice a m c)/\w'.cell? ⟨p,0,none⟩=some (.int .i64 n)/\Hid (zad w' w.heap.size 61 (.slice a m c) (L.filter (stays Fe Fn me mn))/\Below w.heap.size w w')):=by
  have hbd:Below W0.heap.size W0 W0.drew:=⟨rfl,rfl,rfl,Nat.le_refl _,λ _ _=>rfl⟩;have hbd2:Below w.heap.size w W0.drew:=hb0.trans (hbd.mono hb0.size);have:=z1n (stays Fe Fn me mn) n B p w.heap.size (w.heap.size+1) v L W0.drew (hg0.below hbd) hl (λ W x0 x1 x2 hb=>by
   have hbW:Below w.heap.size w W:=hbd2.trans (hb.mono (by show w.heap.size<=W0.heap.size;omega));exact z7n x0 x1 x2 w.heap.size (w.heap.size+1) ae an me mn ce cn Fe Fn _ W ((hb.cell (p:=⟨w.heap.size,0,none⟩) (by show w.heap.size<W0.heap.size;omega)).trans he0) ((hb.cell (p:=⟨w.heap.size+1,0,none⟩) (by show w.heap.size+1<W0.heap.size;omega)).trans hn0) (hie.below hbW) (hin.below hbW) hme hmn rfl)
  refine this.mono ?_;rintro e w' ⟨u,he,ho,hb⟩;obtain ⟨a,m,c,rfl⟩:=ho.slice;exact ⟨a,m,c,he,(hb.cell (p:=⟨p,0,none⟩) (hg0.below hbd).plt).trans hc0,ho.mono (by show w.heap.size<=W0.heap.size;omega),hbd2.trans (hb.mono (by show w.heap.size<=W0.heap.size;omega))⟩
 have HW0:=kd hW0;have hplt:=h.plt;clear hW0 hb0 hs0 he0 hn0 hg0 h hie hin;go_enter func257,ntmps257;go_wp2_with fail;rw [<-HW0.out];go_region_held (λ w'=>w'.cell? ⟨p,0,none⟩=some (.int .i64 n)) (go_keep) (first | (go_at_call 105;refine HD.out.mono ?_;rintro e w2 ⟨a',m',c',rfl,hq,hr⟩))
 all_goals
  go_wp2_with fail;go_ret;refine ⟨_,_,rfl,⟨heap_alloc_new _ _,hr.out.1.below (zat _ _),?_⟩,hr.out.2.trans ((zat _ _).mono hr.out.2.size)⟩;intro e;have:=(World.ownsRow.lt hr.out.1 _ e).2;omega
end Go.Proofs.YtebcjaenhiiflaaGreatDoor.G
namespace Go.Proofs.YtebcjaenhiiflaaGreatDoor.S
open Go.RowKit Go.WideMaps Go.Maps
structure Ed (n i:Nat) (L:List (Int × Int × Int)):Prop where
 up:G.Up L
 ids:∀e∈L,0<=e.1/\e.1<=1099511627776
 ends:∀e∈L,∃x y:Nat,x<y/\y<n/\e=(e.1,(x:Int),(y:Int))
 len:L.length<=i
theorem zar {x:Int} (h0:0<=x) (h1:x<=1099511627776):(Lit.int .i64 x).wf=true:=WalkArith.wf_i64 (by omega)
theorem below_kept' {w0 w w':World} {q:Nat} {o:Option Nat} (h:Below w0.heap.size w0 w) (k:G.Kept q o w w') (h1:w0.heap.size<=q) (h2:∀j,o=some j->w0.heap.size<=j):Below w0.heap.size w0 w':=
 ⟨k.os.trans h.os,k.tape.trans h.tape,k.output.trans h.output,Nat.le_trans h.size k.size,λ j hj=>(k.block j (Nat.lt_of_lt_of_le hj h.size) (by omega) (λ e=>by have:=h2 j e.symm;omega)).trans (h.block j hj)⟩
theorem Ed.mono {n i j:Nat} {L:List (Int × Int × Int)} (h:Ed n i L) (hij:i<=j):Ed n j L:=
 ⟨h.up,λ e he=>by have:=h.ids e he;omega,h.ends,by have:=h.len;omega⟩
theorem zla {n:Nat} {A B:List Nat} (ha:A.length=n) (hb:B.length=n) (h:∀i,i<n->A.getD i 0=B.getD i 0):A=B:=by
 apply List.ext_getElem
 ·omega
 ·intro i h1 h2
  have:=h i (by omega)
  simpa [h1,h2] using this
variable {n:Nat} {R B:List (Int × Int × Int)} {W T:List Nat}
theorem zmb {L M:List Nat} (g:Good n L) (h:Good n M) (e:∀u v,Lk n L u v↔Lk n M u v):L=M:=by
 have key:∀{L M:List Nat},Good n L->Good n M->(∀u v,Lk n L u v↔Lk n M u v)->∀i,i<n->M.getD i 0<=L.getD i 0:=by
  intro L M g h e i hi;have hl:L.getD i 0<n:=Nat.lt_of_le_of_lt (g.le i hi) hi;have h1:Lk n L (L.getD i 0) i:=(Lk.iff hl hi).2 (g.idem i hi);have h2:=(Lk.iff hl hi).1 ((e _ _).1 h1);rw [<-h2];exact h.le _ hl
 refine zla g.len h.len (λ i hi=>?_);have h1:=key g h e i hi;have h2:=key h g (λ u v=>(e u v).symm) i hi;omega
def brs (R B:List (Int × Int × Int)):List (Int × Int × Int):=R.filter λ e=>decide (e∈B)
theorem zt2 (s:St n R W T B) (e:Int × Int × Int):e∈brs R B↔brR R e:=by
 unfold brs;rw [List.mem_filter,decide_eq_true_eq,s.hB];exact ⟨λ h=>h.2,λ h=>⟨h.1,h⟩⟩
def Unl (R:List (Int × Int × Int)):Prop:=R.Pairwise λ x y=>x.1≠y.1
theorem zgx (h:Unl R):(zav R B).Nodup:=by
 unfold zav;rw [List.Nodup,List.pairwise_map];exact List.Pairwise.filter _ h
def ups (R B:List (Int × Int × Int)):List Int:=(zav R B).mergeSort λ x y=>decide (x<=y)
theorem zln (R B:List (Int × Int × Int)):(ups R B).length=(zav R B).length:=by
 unfold ups;exact List.length_mergeSort _
theorem zin (s:St n R W T B) (x:Int):x∈zav R B↔∃e,brR R e/\e.1=x:=by
 unfold zav;rw [List.mem_map];constructor
 ·rintro ⟨e,he,rfl⟩;exact ⟨e,(zt2 s e).1 he,rfl⟩
 ·rintro ⟨e,he,rfl⟩;exact ⟨e,(zt2 s e).2 he,rfl⟩
theorem zkq {R' B':List (Int × Int × Int)} {W' T':List Nat} (s:St n R W T B) (s':St n R' W' T' B') (hp:R.Perm R') (h:Unl R):W=W'/\T=T'/\ups R B=ups R' B':=by
 have hm:(λ e=>e∈R)=λ e=>e∈R':=by funext e;exact propext hp.mem_iff
 have h':Unl R':=hp.pairwise h (λ {a b} k=>k.symm);refine ⟨zmb s.gw s'.gw (λ u v=>?_),zmb s.gt s'.gt (λ u v=>?_),?_⟩
 ·rw [s.hW,s'.hW];simp only [cnR];rw [hm]
 ·rw [s.hT,s'.hT];simp only [twR];rw [hm]
 ·unfold ups
  refine mergeSort_of_perm_i ((List.perm_ext_iff_of_nodup (zgx h) (zgx h')).2 λ x=>?_);rw [zin s,zin s'];simp only [brR];rw [hm]
end Go.Proofs.YtebcjaenhiiflaaGreatDoor.S
namespace Go.Proofs.YtebcjaenhiiflaaGreatDoor.S
def tch (e:Int × Int × Int) (x:Nat):Prop:=ea e=x\/eb e=x
instance (e:Int × Int × Int) (x:Nat):Decidable (tch e x):=inferInstanceAs (Decidable (_\/_))
def ot (e:Int × Int × Int) (x:Nat):Nat:=if x=ea e then eb e else ea e
def wo (R:List (Int × Int × Int)) (x:Nat):List (Int × Int × Int):=R.filter λ d=>decide (ea d≠x/\eb d≠x)
def Rx (R:List (Int × Int × Int)) (x i j:Nat):Prop:=∃e f,R[i]? =some e/\R[j]? =some f/\tch e x/\tch f x/\cnR (wo R x) (ot e x) (ot f x)
def Blk (R:List (Int × Int × Int)):Nat->Nat->Prop:=zae λ i j=>∃x,Rx R x i j
section
variable {R:List (Int × Int × Int)} {x y z i j k u v:Nat} {e f:Int × Int × Int}
theorem zdm:e∈wo R x↔e∈R/\ea e≠x/\eb e≠x:=by simp [wo]
theorem zy6 (_:tch e x) (hp:ea e≠eb e):tch e (ot e x)/\ot e x≠x:=by
 unfold tch ot at*;split
 ·next k=>exact ⟨.inr rfl,λ c=>hp (by omega)⟩
 ·next k=>exact ⟨.inl rfl,λ c=>k c.symm⟩
theorem zdn (h:tch e x) (hy:tch e y) (hne:y≠x):ot e x=y:=by
 unfold tch ot at*;split <;> omega
theorem zma (he:e∈R) (hy:tch e y) (hz:tch e z) (hyx:y≠x) (hzx:z≠x):cnR (wo R x) y z:=by
 by_cases hyz:y=z
 ·subst hyz;exact zaw _
 ·unfold tch at hy hz
  rcases hy with hy | hy <;> rcases hz with hz | hz
  ·omega
  ·have:=zaj (a:=ea) (b:=eb) (T:=(·∈wo R x)) (zdm.2 ⟨he,by omega,by omega⟩)
   rw [hy,hz] at this;exact this
  ·have:=zaj (a:=ea) (b:=eb) (T:=(·∈wo R x)) (zdm.2 ⟨he,by omega,by omega⟩)
   rw [hy,hz] at this;exact zac this
  ·omega
theorem alone (h:cnR (wo R x) x y):y=x:=by
 have:(x=x↔y=x):=zae.least (P:=λ u v=>(u=x↔v=x)) h (λ _=>Iff.rfl) (λ _ _ h=>h.symm) (λ _ _ _ h k=>h.trans k) (by
  rintro _ _ ⟨e,he,rfl,rfl⟩;have:=zdm.1 he;constructor <;> intro c <;> omega)
 exact this.1 rfl
theorem Rx.symm (h:Rx R x i j):Rx R x j i:=by
 obtain ⟨e,f,h1,h2,h3,h4,h5⟩:=h;exact ⟨f,e,h2,h1,h4,h3,zac h5⟩
theorem Rx.trans (h:Rx R x i j) (k':Rx R x j k):Rx R x i k:=by
 obtain ⟨e,f,h1,h2,h3,h4,h5⟩:=h;obtain ⟨f',g,k1,k2,k3,k4,k5⟩:=k';rw [h2] at k1;cases k1;exact ⟨e,g,h1,k2,h3,k4,zaa h5 k5⟩
theorem Rx.refl (h:R[i]? =some e) (ht:tch e x):Rx R x i i:=⟨e,e,h,h,ht,ht,zaw _⟩
theorem yabo (hp:∀e∈R,ea e≠eb e) (h:Blk R i j) (hi:R[i]? =some e) (hj:R[j]? =some f) (hy:tch e y) (hz:tch f z) (hyx:y≠x) (hzx:z≠x):cnR (wo R x) y z:=by
 have key:i=j\/∃e f,R[i]? =some e/\R[j]? =some f/\∀y z,tch e y->tch f z->y≠x->z≠x->cnR (wo R x) y z:=by
  refine zae.least (P:=λ i j=>i=j\/∃e f,R[i]? =some e/\R[j]? =some f/\∀y z,tch e y->tch f z->y≠x->z≠x->cnR (wo R x) y z) h (λ _=>.inl rfl) ?_ ?_ ?_
  ·rintro i j (h | ⟨e,f,h1,h2,h3⟩)
   ·exact .inl h.symm
   ·exact .inr ⟨f,e,h2,h1,λ y z hy hz hyx hzx=>zac (h3 z y hz hy hzx hyx)⟩
  ·rintro i j k (rfl | ⟨e,f,h1,h2,h3⟩) (rfl | ⟨f',g,k1,k2,k3⟩)
   ·exact .inl rfl
   ·exact .inr ⟨f',g,k1,k2,k3⟩
   ·exact .inr ⟨e,f,h1,h2,h3⟩
   ·rw [h2] at k1;cases k1
    refine .inr ⟨e,g,h1,k2,λ y z hy hz hyx hzx=>?_⟩;have hpf:=hp f (List.mem_of_getElem? h2);by_cases hc:ea f=x
    ·exact zaa (h3 y (eb f) hy (.inr rfl) hyx (by omega)) (k3 (eb f) z (.inr rfl) hz (by omega) hzx)
    ·exact zaa (h3 y (ea f) hy (.inl rfl) hyx hc) (k3 (ea f) z (.inl rfl) hz hc hzx)
  ·rintro i j ⟨w,e,f,h1,h2,h3,h4,h5⟩
   refine .inr ⟨e,f,h1,h2,λ y z hy hz hyx hzx=>?_⟩;by_cases hw:w=x
   ·subst hw
    rw [zdn h3 hy hyx,zdn h4 hz hzx] at h5;exact h5
   ·exact zaa (zma (List.mem_of_getElem? h1) hy h3 hyx hw) (zma (List.mem_of_getElem? h2) h4 hz hw hzx)
 rcases key with rfl | ⟨e',f',h1,h2,h3⟩
 ·rw [hi] at hj;cases hj
  exact zma (List.mem_of_getElem? hi) hy hz hyx hzx
 ·rw [hi] at h1;rw [hj] at h2;cases h1;cases h2
  exact h3 y z hy hz hyx hzx
theorem getElem?_inj_of {i j:Nat} (hn:R.Pairwise λ a b=>a.1<b.1) (h:R[i]? =some e) (k:R[j]? =some e):i=j:=by
 obtain ⟨hi,h⟩:=List.getElem?_eq_some_iff.1 h;obtain ⟨hj,k⟩:=List.getElem?_eq_some_iff.1 k;rw [List.pairwise_iff_getElem] at hn;rcases Nat.lt_trichotomy i j with c | c | c
 ·have:=hn i j hi hj c;rw [h,k] at this;omega
 ·exact c
 ·have:=hn j i hj hi c;rw [h,k] at this;omega
theorem yaav (hp:∀e∈R,ea e≠eb e) (hn:R.Pairwise λ a b=>a.1<b.1) (hi:R[i]? =some e):brR R e↔∀j,Blk R i j->j=i:=by
 have heR:=List.mem_of_getElem? hi;have hpe:=hp e heR;constructor
 ·rintro ⟨_,hb⟩ j h
  have:(i=i↔j=i):=zae.least (P:=λ u v=>(u=i↔v=i)) h (λ _=>Iff.rfl) (λ _ _ h=>h.symm) (λ _ _ _ h k=>h.trans k) (by
   have key:∀{x v},Rx R x i v->v=i:=by
    rintro x v ⟨e',f,h1,h2,h3,h4,h5⟩;rw [hi] at h1;cases h1;refine Classical.byContradiction λ hv=>hb ?_
    have hef:f≠e:=λ c=>hv (getElem?_inj_of hn h2 (c▸hi))
    have a1:cn ea eb (but (·∈R) e) (ot e x) (ot f x):=za4 h5 (λ d hd=>⟨(zdm.1 hd).1,λ c=>by
     subst c;have:=(zdm.1 hd).2;unfold tch at h3;omega⟩)
    have a2:cn ea eb (but (·∈R) e) (ea f) (eb f):=zaj ⟨List.mem_of_getElem? h2,hef⟩;have hpf:=hp f (List.mem_of_getElem? h2);have a3:cn ea eb (but (·∈R) e) (ot f x) x:=by
     rcases h4 with h4 | h4
     ·rw [zdn (y:=eb f) (.inl h4) (.inr rfl) (by omega)]
      rw [h4] at a2;exact zac a2
     ·rw [zdn (y:=ea f) (.inr h4) (.inl rfl) (by omega)]
      rw [h4] at a2;exact a2
    have a4:=zaa a1 a3;rcases h3 with h3 | h3
    ·rw [zdn (y:=eb e) (.inl h3) (.inr rfl) (by omega)] at a4
     rw [h3];exact zac a4
    ·rw [zdn (y:=ea e) (.inr h3) (.inl rfl) (by omega)] at a4
     rw [h3];exact a4
   rintro u v ⟨x,hr⟩;constructor
   ·intro c;rw [c] at hr;exact key hr
   ·intro c;rw [c] at hr;exact key hr.symm)
  exact this.1 rfl
 ·intro h
  refine ⟨heR,λ hc=>?_⟩;have hno:∀f∈R,f≠e->tch f (ea e)->¬cnR (wo R (ea e)) (eb e) (ot f (ea e)):=by
   intro f hf hfe ht hcn;obtain ⟨j,hj⟩:=List.getElem?_of_mem hf;have:j=i:=h j (zae.base ⟨ea e,e,f,hi,hj,.inl rfl,ht,by rw [zdn (y:=eb e) (.inl rfl) (.inr rfl) hpe.symm];exact hcn⟩);subst this;rw [hi] at hj;cases hj;exact hfe rfl
  have hx:¬cnR (wo R (ea e)) (eb e) (ea e):=λ c=>hpe (alone (zac c)).symm
  have:(cnR (wo R (ea e)) (eb e) (ea e)↔cnR (wo R (ea e)) (eb e) (eb e)):=zae.least (P:=λ u v=>(cnR (wo R (ea e)) (eb e) u↔cnR (wo R (ea e)) (eb e) v)) hc (λ _=>Iff.rfl) (λ _ _ h=>h.symm) (λ _ _ _ h k=>h.trans k) (by
   rintro _ _ ⟨d,⟨hd,hde⟩,rfl,rfl⟩;have hpd:=hp d hd;by_cases ht:tch d (ea e)
   ·have h1:=hno d hd hde ht
    rcases ht with ht | ht
    ·rw [zdn (y:=eb d) (.inl ht) (.inr rfl) (by omega)] at h1
     rw [ht];exact ⟨λ c=>absurd c hx,λ c=>absurd c h1⟩
    ·rw [zdn (y:=ea d) (.inr ht) (.inl rfl) (by omega)] at h1
     rw [ht];exact ⟨λ c=>absurd c h1,λ c=>absurd c hx⟩
   ·have hd':cnR (wo R (ea e)) (ea d) (eb d):=zaj (zdm.2 ⟨hd,λ c=>ht (.inl c),λ c=>ht (.inr c)⟩)
    exact ⟨λ c=>zaa c hd',λ c=>zaa c (zac hd')⟩)
  exact hx (this.2 (zaw _))
theorem z7s (hp:∀e∈R,ea e≠eb e):(∃u v,u≠x/\v≠x/\cnR R u v/\¬cnR (wo R x) u v)↔∃e∈R,∃f∈R,tch e x/\tch f x/\¬cnR (wo R x) (ot e x) (ot f x):=by
 have edge:∀{e},e∈R->tch e x->cnR R (ot e x) x:=by
  intro e he ht;have hpe:=hp e he;have:=zaj (a:=ea) (b:=eb) (T:=(·∈R)) he;rcases ht with h | h
  ·rw [zdn (y:=eb e) (.inl h) (.inr rfl) (by omega)];rw [h] at this;exact zac this
  ·rw [zdn (y:=ea e) (.inr h) (.inl rfl) (by omega)];rw [h] at this;exact this
 constructor
 ·rintro ⟨u,v,hu,hv,h,hn⟩
  refine Classical.byContradiction λ hno=>?_
  have hall:∀e∈R,∀f∈R,tch e x->tch f x->cnR (wo R x) (ot e x) (ot f x):=λ e he f hf h1 h2=>Classical.byContradiction λ c=>hno ⟨e,he,f,hf,h1,h2,c⟩
  have key:=zae.least (P:=λ u v=>((u=x\/∃e∈R,tch e x/\cnR (wo R x) u (ot e x))/\(v=x\/∃e∈R,tch e x/\cnR (wo R x) v (ot e x)))\/cnR (wo R x) u v) h (λ _=>.inr (zaw _)) ?_ ?_ ?_
  ·rcases key with ⟨h1,h2⟩ | h1
   ·rcases h1 with h1 | ⟨e,he,ht,h1⟩
    ·exact hu h1
    ·rcases h2 with h2 | ⟨f,hf,ht',h2⟩
     ·exact hv h2
     ·exact hn (zaa h1 (zaa (hall e he f hf ht ht') (zac h2)))
   ·exact hn h1
  ·rintro u v (⟨h1,h2⟩ | h)
   ·exact .inl ⟨h2,h1⟩
   ·exact .inr (zac h)
  ·have go:∀{v w},(v=x\/∃e∈R,tch e x/\cnR (wo R x) v (ot e x))->cnR (wo R x) v w->(w=x\/∃e∈R,tch e x/\cnR (wo R x) w (ot e x)):=by
    rintro v w (rfl | ⟨e,he,ht,h⟩) hc
    ·exact .inl (alone hc)
    ·exact .inr ⟨e,he,ht,zaa (zac hc) h⟩
   rintro u v w (⟨h1,h2⟩ | h) (⟨k1,k2⟩ | k)
   ·exact .inl ⟨h1,k2⟩
   ·exact .inl ⟨h1,go h2 k⟩
   ·exact .inl ⟨go k1 (zac h),k2⟩
   ·exact .inr (zaa h k)
  ·rintro _ _ ⟨d,hd,rfl,rfl⟩
   have hpd:=hp d hd;by_cases ht:tch d x
   ·refine .inl ?_
    rcases ht with h | h
    ·exact ⟨.inl h,.inr ⟨d,hd,.inl h,by rw [zdn (y:=eb d) (.inl h) (.inr rfl) (by omega)];exact zaw _⟩⟩
    ·exact ⟨.inr ⟨d,hd,.inr h,by rw [zdn (y:=ea d) (.inr h) (.inl rfl) (by omega)];exact zaw _⟩,.inl h⟩
   ·exact .inr (zaj (zdm.2 ⟨hd,λ c=>ht (.inl c),λ c=>ht (.inr c)⟩))
 ·rintro ⟨e,he,f,hf,h1,h2,h3⟩
  exact ⟨ot e x,ot f x,(zy6 h1 (hp e he)).2,(zy6 h2 (hp f hf)).2,zaa (edge he h1) (zac (edge hf h2)),h3⟩
structure Bs (R:List (Int × Int × Int)) (x:Nat) (D L:List Nat):Prop where
 good:Good R.length L
 alike:∀u v,Lk R.length L u v↔zae (λ i j=>(∃y,y<x/\Rx R y i j)\/(i∈D/\j∈D/\Rx R x i j)) u v
variable {D L:List Nat}
theorem z3g (R:List (Int × Int × Int)):Bs R 0 [] (List.range R.length):=by
 refine ⟨zbi _,λ u v=>⟨?_,λ h=>?_⟩⟩
 ·rintro (rfl | ⟨h1,h2,h3⟩)
  ·exact zae.refl _
  ·have e1:(List.range R.length).getD u 0=u:=by simp [h1]
   have e2:(List.range R.length).getD v 0=v:=by simp [h2]
   rw [e1,e2] at h3;subst h3;exact zae.refl _
 ·exact zae.least (P:=Lk R.length (List.range R.length)) h (λ _=>Lk.refl _) (λ _ _ h=>h.symm) (λ _ _ _ h k=>h.trans k) (by
   rintro i j (⟨y,hy,_⟩ | ⟨h,_⟩)
   ·omega
   ·simp at h)
theorem Rx.lt (h:Rx R x i j):i<R.length/\j<R.length:=by
 obtain ⟨e,f,h1,h2,_⟩:=h;exact ⟨(List.getElem?_eq_some_iff.1 h1).1,(List.getElem?_eq_some_iff.1 h2).1⟩
theorem yaa4 (s:Bs R x D L) (hno:∀j∈D,¬Rx R x j i):Bs R x (D++[i]) L:=by
 refine ⟨s.good,λ u v=>?_⟩;rw [s.alike];constructor
 ·intro h
  refine zae.lift h ?_;rintro p q (h | ⟨h1,h2,h3⟩)
  ·exact zae.base (.inl h)
  ·exact zae.base (.inr ⟨List.mem_append_left _ h1,List.mem_append_left _ h2,h3⟩)
 ·intro h
  refine zae.lift h ?_;rintro p q (h | ⟨h1,h2,h3⟩)
  ·exact zae.base (.inl h)
  ·rcases List.mem_append.1 h1 with h1 | h1
   ·rcases List.mem_append.1 h2 with h2 | h2
    ·exact zae.base (.inr ⟨h1,h2,h3⟩)
    ·rw [List.mem_singleton.1 h2] at h3
     exact absurd h3 (hno p h1)
   ·rcases List.mem_append.1 h2 with h2 | h2
    ·rw [List.mem_singleton.1 h1] at h3
     exact absurd h3.symm (hno q h2)
    ·rw [List.mem_singleton.1 h1,List.mem_singleton.1 h2];exact zae.refl _
theorem z6w (s:Bs R x D L) (hj:j∈D) (h:Rx R x j i):Bs R x (D++[i]) (joinL L j i):=by
 have hl:=h.lt;refine ⟨zgl s.good hl.1 hl.2,λ u v=>?_⟩;rw [zei s.good.len hl.1 hl.2];have up:∀{u v},Lk R.length L u v->zae (λ p q=>(∃y,y<x/\Rx R y p q)\/(p∈D++[i]/\q∈D++[i]/\Rx R x p q)) u v:=by
  intro u v h;refine zae.lift ((s.alike u v).1 h) ?_;rintro p q (h | ⟨h1,h2,h3⟩)
  ·exact zae.base (.inl h)
  ·exact zae.base (.inr ⟨List.mem_append_left _ h1,List.mem_append_left _ h2,h3⟩)
 have b:zae (λ p q=>(∃y,y<x/\Rx R y p q)\/(p∈D++[i]/\q∈D++[i]/\Rx R x p q)) j i:=zae.base (.inr ⟨List.mem_append_left _ hj,by simp,h⟩);constructor
 ·rintro (h | ⟨h,k⟩ | ⟨h,k⟩)
  ·exact up h
  ·exact (up h).trans (b.trans (up k))
  ·exact (up h).trans (b.symm.trans (up k))
 ·intro h'
  have key:Lk R.length (joinL L j i) u v:=zae.least (P:=Lk R.length (joinL L j i)) h' (λ _=>Lk.refl _) (λ _ _ h=>h.symm) (λ _ _ _ h k=>h.trans k) (by
   have old:∀{p q},Lk R.length L p q->Lk R.length (joinL L j i) p q:=λ h=>(zei s.good.len hl.1 hl.2).2 (.inl h)
   have ji:Lk R.length (joinL L j i) j i:=(zei s.good.len hl.1 hl.2).2 (.inr (.inl ⟨Lk.refl _,Lk.refl _⟩));rintro p q (h1 | ⟨h1,h2,h3⟩)
   ·exact old ((s.alike p q).2 (zae.base (.inl h1)))
   ·rcases List.mem_append.1 h1 with h1 | h1
    ·rcases List.mem_append.1 h2 with h2 | h2
     ·exact old ((s.alike p q).2 (zae.base (.inr ⟨h1,h2,h3⟩)))
     ·rw [List.mem_singleton.1 h2] at h3 ⊢
      exact (old ((s.alike p j).2 (zae.base (.inr ⟨h1,hj,h3.trans h.symm⟩)))).trans ji
    ·rw [List.mem_singleton.1 h1] at h3 ⊢
     rcases List.mem_append.1 h2 with h2 | h2
     ·exact (ji.symm).trans (old ((s.alike j q).2 (zae.base (.inr ⟨hj,h2,h.trans h3⟩))))
     ·rw [List.mem_singleton.1 h2];exact Lk.refl _)
  exact (zei s.good.len hl.1 hl.2).1 key
theorem z5x (s:Bs R x D L) (hD:∀i e,R[i]? =some e->tch e x->i∈D):Bs R (x+1) [] L:=by
 refine ⟨s.good,λ u v=>?_⟩;rw [s.alike];constructor
 ·intro h
  refine zae.lift h ?_;rintro p q (⟨y,hy,h⟩ | ⟨_,_,h3⟩)
  ·exact zae.base (.inl ⟨y,by omega,h⟩)
  ·exact zae.base (.inl ⟨x,by omega,h3⟩)
 ·intro h
  refine zae.lift h ?_;rintro p q (⟨y,hy,h⟩ | ⟨h,_⟩)
  ·by_cases c:y=x
   ·rw [c] at h
    obtain ⟨e,f,h1,h2,h3,h4,_⟩:=id h;exact zae.base (.inr ⟨hD p e h1 h3,hD q f h2 h4,h⟩)
   ·exact zae.base (.inl ⟨y,by omega,h⟩)
  ·simp at h
def lb (R:List (Int × Int × Int)) (x:Nat) (K:List Nat) (j:Nat):Nat:=K.getD (ot (R.getD j (0,0,0)) x) 0
structure Gth (R:List (Int × Int × Int)) (x:Nat) (K D:List Nat) (ks:List (Nat × Nat)):Prop where
 nd:ks.Pairwise λ p q=>p.1≠q.1
 at_:∀p∈ks,p.2∈D/\lb R x K p.2=p.1
 all:∀j∈D,∃p∈ks,p.1=lb R x K j
theorem zz4 (R:List (Int × Int × Int)) (x:Nat) (K:List Nat):Gth R x K [] []:=⟨.nil,by simp,by simp⟩
theorem z5a {K:List Nat} {ks:List (Nat × Nat)} (g:Gth R x K D ks) (hno:∀p∈ks,p.1≠lb R x K i):Gth R x K (D++[i]) (ks++[(lb R x K i,i)]):=by
 refine ⟨?_,?_,?_⟩
 ·rw [List.pairwise_append]
  exact ⟨g.nd,List.pairwise_singleton _ _,λ p hp q hq=>by rw [List.mem_singleton.1 hq];exact hno p hp⟩
 ·intro p hp
  rcases List.mem_append.1 hp with h | h
  ·exact ⟨List.mem_append_left _ (g.at_ p h).1,(g.at_ p h).2⟩
  ·rw [List.mem_singleton.1 h];exact ⟨by simp,rfl⟩
 ·intro j hj
  rcases List.mem_append.1 hj with h | h
  ·obtain ⟨p,h1,h2⟩:=g.all j h
   exact ⟨p,List.mem_append_left _ h1,h2⟩
  ·rw [List.mem_singleton.1 h];exact ⟨(lb R x K i,i),by simp,rfl⟩
theorem z6s {K:List Nat} {ks:List (Nat × Nat)} (g:Gth R x K D ks) {p:Nat × Nat} (hp:p∈ks) (h:p.1=lb R x K i):Gth R x K (D++[i]) ks:=by
 refine ⟨g.nd,λ p hp=>⟨List.mem_append_left _ (g.at_ p hp).1,(g.at_ p hp).2⟩,?_⟩;intro j hj;rcases List.mem_append.1 hj with h' | h'
 ·exact g.all j h'
 ·rw [List.mem_singleton.1 h'];exact ⟨p,hp,h⟩
theorem zf2 {i:Nat} (h:R[i]? =some e):R.getD i (0,0,0)=e:=by simp [h]
def Kx (n:Nat) (R:List (Int × Int × Int)) (x:Nat) (K:List Nat):Prop:=∀u v,u<n->v<n->(K.getD u 0=K.getD v 0↔cnR (wo R x) u v)
theorem zoz {n:Nat} (hin:∀e∈R,ea e<n/\eb e<n) (he:e∈R):ot e x<n:=by
 have:=hin e he;unfold ot;split <;> omega
theorem z4o {n:Nat} {K:List Nat} (hK:Kx n R x K) (hin:∀e∈R,ea e<n/\eb e<n) (hi:R[i]? =some e) (hj:R[j]? =some f) (he:tch e x) (hf:tch f x):Rx R x i j↔lb R x K i=lb R x K j:=by
 unfold lb;rw [zf2 hi,zf2 hj,hK _ _ (zoz hin (List.mem_of_getElem? hi)) (zoz hin (List.mem_of_getElem? hj))];constructor
 ·rintro ⟨e',f',h1,h2,_,_,h5⟩
  rw [hi] at h1;rw [hj] at h2;cases h1;cases h2;exact h5
 ·exact λ h=>⟨e,f,hi,hj,he,hf,h⟩
theorem z6x {n:Nat} {K:List Nat} {ks:List (Nat × Nat)} (g:Gth R x K D ks) (hK:Kx n R x K) (hin:∀e∈R,ea e<n/\eb e<n) (hD:∀i,i∈D↔∃e,R[i]? =some e/\tch e x):
 1<ks.length↔∃e∈R,∃f∈R,tch e x/\tch f x/\¬cnR (wo R x) (ot e x) (ot f x):=by
 have key:∀{i j e f},R[i]? =some e->R[j]? =some f->(lb R x K i=lb R x K j↔cnR (wo R x) (ot e x) (ot f x)):=by
  intro i j e f hi hj;unfold lb;rw [zf2 hi,zf2 hj,hK _ _ (zoz hin (List.mem_of_getElem? hi)) (zoz hin (List.mem_of_getElem? hj))]
 constructor
 ·intro h
  match ks,g,h with
  | p::q::r,g,_=>
    have h1:=g.at_ p (by simp);have h2:=g.at_ q (by simp);obtain ⟨e,he,ht⟩:=(hD _).1 h1.1;obtain ⟨f,hf,ht'⟩:=(hD _).1 h2.1;refine ⟨e,List.mem_of_getElem? he,f,List.mem_of_getElem? hf,ht,ht',λ c=>?_⟩;rw [<-key he hf,h1.2,h2.2] at c;exact (List.pairwise_cons.1 g.nd).1 q (by simp) c
 ·rintro ⟨e,he,f,hf,ht,ht',h⟩
  obtain ⟨i,hi⟩:=List.getElem?_of_mem he;obtain ⟨j,hj⟩:=List.getElem?_of_mem hf;obtain ⟨p,hp,hp'⟩:=g.all i ((hD i).2 ⟨e,hi,ht⟩);obtain ⟨q,hq,hq'⟩:=g.all j ((hD j).2 ⟨f,hj,ht'⟩);rw [<-key hi hj,<-hp',<-hq'] at h
  match ks,hp,hq with
  | [],hp,_=>simp at hp
  | [r],hp,hq=>
    rw [List.mem_singleton.1 hp,List.mem_singleton.1 hq] at h;exact absurd rfl h
  | _::_::_,_,_=>simp
def Lbs (R:List (Int × Int × Int)) (l:List Nat):Prop:=l.length=R.length/\∀i,i<R.length->l.getD i 0<=i/\Blk R i (l.getD i 0)
theorem zzx (R:List (Int × Int × Int)):Lbs R (List.range R.length):=⟨by simp,λ i hi=>by
 have e:(List.range R.length).getD i 0=i:=by simp [hi]
 rw [e];exact ⟨Nat.le_refl _,zae.refl _⟩⟩
theorem z2q {l:List Nat} (h:Lbs R l) (hr:Rx R x i k) (hlt:l.getD i 0<l.getD k 0):Lbs R (l.set k (l.getD i 0))/\(l.set k (l.getD i 0)).sum<l.sum:=by
 have hl:=hr.lt;refine ⟨⟨by simp [h.1],λ j hj=>?_⟩,?_⟩
 ·by_cases c:k=j
  ·subst c
   have e:(l.set k (l.getD i 0)).getD k 0=l.getD i 0:=by simp [h.1,hl.2]
   rw [e];have h1:=h.2 k hl.2;exact ⟨by omega,(zae.base ⟨x,hr.symm⟩:Blk R k i).trans (h.2 i hl.1).2⟩
  ·have e:(l.set k (l.getD i 0)).getD j 0=l.getD j 0:=by simp [c]
   rw [e];exact h.2 j hj
 ·have:=zjo l k (l.getD i 0) (by rw [h.1];exact hl.2)
  omega
theorem z2h {l:List Nat} (h:Lbs R l) (hd:∀x i k,Rx R x i k->¬l.getD i 0<l.getD k 0):Good R.length l/\∀u v,Lk R.length l u v↔Blk R u v:=by
 have hiff:∀u v,Lk R.length l u v↔Blk R u v:=by
  intro u v;constructor
  ·rintro (rfl | ⟨h1,h2,h3⟩)
   ·exact zae.refl _
   ·have a:=(h.2 u h1).2
    have b:=(h.2 v h2).2;rw [h3] at a;exact zae.trans a (zae.symm b)
  ·intro k
   exact zae.least (P:=Lk R.length l) k (λ _=>Lk.refl _) (λ _ _ h=>h.symm) (λ _ _ _ h k=>h.trans k) (by
    rintro p q ⟨x,hr⟩;have h1:=hd x p q hr;have h2:=hd x q p hr.symm;exact .inr ⟨hr.lt.1,hr.lt.2,by omega⟩)
 refine ⟨⟨h.1,λ i hi=>(h.2 i hi).1,λ i hi=>?_⟩,hiff⟩;have h1:=(hiff i (l.getD i 0)).2 (h.2 i hi).2;rcases h1 with h1 | ⟨_,_,h3⟩
 ·rw [<-h1,<-h1]
 ·exact h3.symm
end
end Go.Proofs.YtebcjaenhiiflaaGreatDoor.S
