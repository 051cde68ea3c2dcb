import Derived.Test.YtebcjaenhiiflaaGreatDoorQZw
import Derived.Test.YtebcjaenhiiflaaGreatDoorQZx
set_option maxHeartbeats 4000000
set_option maxRecDepth 100000
namespace Go.Proofs.YtebcjaenhiiflaaGreatDoor.I
open Go.RowKit Go.WideMaps Go.Maps Go.Lib
variable {w0 wa w w':World} {d dm n:Nat} {L:List G.E}
noncomputable def doD (f n:Nat) (L:List G.E):List Int->Out
 | []=>
   if f=152 then (.ok ([98,108,111,99,107,115]++[32]++tellN (blz n L)),n,L)
   else if f=153 then (.ok ([98,114,105,100,103,101,115]++[32]++lineI (brz n L)),n,L)
   else if f=154 then (.ok ([99,117,116,115]++[32]++lineI (cutz n L)),n,L)
   else if f=156 then (.ok ([101,100,103,101,115]++[32]++tellE L),n,L)
   else if f=157 then (.ok helpT,n,L)
   else if f=159 then (.ok ([112,97,105,114,115]++[32]++tellP (prz n L)),n,L)
   else if f=160 then (.ok [114,101,108,111,97,100],n,L)
   else if f=161 then (.ok ([115,112,108,105,116,115]++[32]++tellP (spi n L)),n,L)
   else (.ok ([116,104,114,105,99,101]++[32]++tellN (thz n L)),n,L)
 | [i]=>if f=155 then dkDrop n L i else dkNodes n L i
 | [i,j]=>if f=163 then dkTwice n L i j else if f=164 then dkWays n L i j else dkWhole n L i j
 | [i,a,b]=>dkAdd n L i a b
 | _=>(.error 3,n,L)
theorem ways_there {a b x:Nat} (h:IV w a b x n L) (i j:Int):∃k1 k2 c,S.WE n L i j k1 c/\S.WN n L i j k2 c:=by
 obtain ⟨_,_,_,⟨k1,c1,h1,_⟩,_⟩:=ibyE h i j [];obtain ⟨_,_,_,⟨k2,c2,h2,_⟩,_⟩:=ibyN h i j [];obtain rfl:=S.we_wn h1 h2;exact ⟨k1,k2,c1,h1,h2⟩
theorem deed_any {t:List UInt8 × Int × Nat} {ns:List Int} {u:Value} (ht:t∈deedsT) (h:DkS w0 wa d dm n L) (hn:InAt wa w ns u) (hl:(ns.length:Int)=t.2.1) (hv:Vars wa):
 Calls Tryz.prog t.2.2 #[.pointer (some ⟨d,0,none⟩),u] w (DkPost w0 d dm (doD t.2.2 n L ns) wa):=by
 obtain ⟨a,b,x,hiv,hc⟩:=(h.below' hn.2).iv;have hvw:=hv.below hn.2;have rd:∀{f:Nat} {bs:List UInt8},(Calls Tryz.prog f #[.pointer (some ⟨d,0,none⟩),u] w λ e w'=>e= .returned (.string ⟨bs.toArray⟩)/\Below w.heap.size w w')->Calls Tryz.prog f #[.pointer (some ⟨d,0,none⟩),u] w (DkPost w0 d dm (.ok bs,n,L) wa):=λ {f bs} k=>
  k.mono (by rintro e w' ⟨rfl,hb⟩;exact post_read h rfl (hn.2.trans (hb.mono hn.2.size)))
 simp only [deedsT,List.mem_cons,List.not_mem_nil,or_false] at ht
 match ns,hn,hl with
 | [],hn,hl=>
   rcases ht with rfl | rfl | rfl | rfl | rfl | rfl | rfl | rfl | rfl | rfl | rfl | rfl | rfl | rfl | rfl <;> first
    | (exfalso;simp at hl;done)
    | exact rd (dk_blocks u hiv hc hvw)
    | exact rd (dk_bridges u hiv hc hvw)
    | exact rd (dk_cuts u hiv hc hvw)
    | exact rd (dk_edges u hiv hc hvw)
    | exact rd (help_any d u w)
    | exact rd (dk_pairs u hiv hc hvw)
    | exact dk_reload u h hn.2 hvw
    | exact rd (dk_splits u hiv hc hvw)
    | exact rd (dk_thrice u hiv hc hvw)
 | [i],hn,hl=>
   rcases ht with rfl | rfl | rfl | rfl | rfl | rfl | rfl | rfl | rfl | rfl | rfl | rfl | rfl | rfl | rfl <;> first
    | (exfalso;simp at hl;done)
    | exact dk_drop h hn
    | exact dk_nodes h hn
 | [i,j],hn,hl=>
   rcases ht with rfl | rfl | rfl | rfl | rfl | rfl | rfl | rfl | rfl | rfl | rfl | rfl | rfl | rfl | rfl <;> first
    | (exfalso;simp at hl;done)
    | exact dk_twice h hn
    | exact dk_ways h hn hv (ways_there hiv i j)
    | exact dk_whole h hn
 | [i,a,b],hn,hl=>
   rcases ht with rfl | rfl | rfl | rfl | rfl | rfl | rfl | rfl | rfl | rfl | rfl | rfl | rfl | rfl | rfl <;> first
    | (exfalso;simp at hl;done)
    | exact dk_add h hn
 | i::j::k::m::r,hn,hl=>
   exfalso;simp only [List.length_cons] at hl;rcases ht with rfl | rfl | rfl | rfl | rfl | rfl | rfl | rfl | rfl | rfl | rfl | rfl | rfl | rfl | rfl <;> (dsimp only at hl;omega)
theorem deed_enters {t:List UInt8 × Int × Nat} (ht:t∈deedsT):∀args w,(callFunc t.2.2 args).run Tryz.prog w= .ok (.enter t.2.2 args) w:=by
 simp only [deedsT,List.mem_cons,List.not_mem_nil,or_false] at ht;rcases ht with rfl | rfl | rfl | rfl | rfl | rfl | rfl | rfl | rfl | rfl | rfl | rfl | rfl | rfl | rfl
 ·exact enters_of Tryz.func151 (by kernel_rfl) rfl
 ·exact enters_of Tryz.func152 (by kernel_rfl) rfl
 ·exact enters_of Tryz.func153 (by kernel_rfl) rfl
 ·exact enters_of Tryz.func154 (by kernel_rfl) rfl
 ·exact enters_of Tryz.func155 (by kernel_rfl) rfl
 ·exact enters_of Tryz.func156 (by kernel_rfl) rfl
 ·exact enters_of Tryz.func157 (by kernel_rfl) rfl
 ·exact enters_of Tryz.func158 (by kernel_rfl) rfl
 ·exact enters_of Tryz.func159 (by kernel_rfl) rfl
 ·exact enters_of Tryz.func160 (by kernel_rfl) rfl
 ·exact enters_of Tryz.func161 (by kernel_rfl) rfl
 ·exact enters_of Tryz.func162 (by kernel_rfl) rfl
 ·exact enters_of Tryz.func163 (by kernel_rfl) rfl
 ·exact enters_of Tryz.func164 (by kernel_rfl) rfl
 ·exact enters_of Tryz.func165 (by kernel_rfl) rfl
theorem doD_err {f:Nat} {ns:List Int} {c:Int} (hk:∀i j,∃k1 k2 c,S.WE n L i j k1 c/\S.WN n L i j k2 c) (h:(doD f n L ns).1= .error c):0<=c/\c<=100:=by
 have ha:∀i a b,0<=addC n L i a b/\addC n L i a b<=100:=λ i a b=>by
  unfold addC
  repeat' split
  all_goals omega
 match ns with
 | []=>
   exfalso;simp only [doD] at h
   repeat' split at h
   all_goals cases h
 | [i]=>
   simp only [doD] at h;split at h
   ·unfold dkDrop dropC at h
    repeat' split at h
    all_goals first | cases h | (injection h with h;omega)
    all_goals omega
   ·unfold dkNodes at h
    split at h
    ·cases h
    ·injection h with h;omega
 | [i,j]=>
   simp only [doD] at h;split at h
   ·unfold dkTwice at h
    split at h
    ·cases h
    ·injection h with h;omega
   ·split at h
    ·unfold dkWays at h
     split at h
     ·cases h
     ·injection h with h
      obtain ⟨k1,k2,c',h1,h2⟩:=hk i j;rw [weZ_eq h1] at h;have:=(we_bounds h1).2;dsimp only at h;omega
    ·unfold dkWhole at h
     split at h
     ·cases h
     ·injection h with h;omega
 | [i,a,b]=>
   simp only [doD] at h;unfold dkAdd at h;split at h
   ·cases h
   ·injection h with h
    have:=ha i a b;omega
 | i::j::k::m::r=>
   simp only [doD] at h;injection h with h
   omega
noncomputable def dkWords (n:Nat) (L:List G.E):List (List UInt8)->Out
 | []=>(.ok [111,107],n,L)
 | x::r=>match deedOf x with
   | none=>(.error 3,n,L)
   | some t=>if (r.length:Int)=t.2.1 then (match numsD r with
     | none=>(.error 3,n,L)
     | some ns=>doD t.2.2 n L ns) else (.error 3,n,L)
def tellO:Except Int (List UInt8)->List UInt8
 | .ok b=>b
 | .error c=>[101,114,114,111,114,32]++Lib.itoa c
end Go.Proofs.YtebcjaenhiiflaaGreatDoor.I
namespace Go.Proofs.YtebcjaenhiiflaaGreatDoor.I
open Go.RowKit Go.WideMaps Go.Maps Go.Lib
variable {w0 wa w w':World} {d dm n:Nat} {L:List G.E}
def AnPost (w0:World) (d dm:Nat) (o:Out) (w:World) (e:Ending) (w':World):Prop:=
 e= .returned (.string ⟨(tellO o.1).toArray⟩)/\DkS w0 w' d dm o.2.1 o.2.2/\KD dm w w'
def Tab (w:World) (d dm:Nat):Prop:=w.ownsMap Tryz.prog 9 S.hold dm 15 (fill d (.map []) deedsT)
theorem Tab.same (h:Tab w d dm) (hk:w'.heap[dm]? =w.heap[dm]?):Tab w' d dm:=by
 obtain ⟨es,c,hm,r⟩:=h;exact ⟨es,c,hk.trans hm,r⟩
theorem Tab.lt (h:Tab w d dm):dm<w.heap.size:=World.ownsMap.lt h
theorem DkS.cell9 {rc:Nat} {x:ByteArray} {v:Value} (h:DkS w0 w d dm n L) (hr:Rc w rc x) (hw:w0.heap.size<=rc):DkS w0 (w.setCell ⟨rc,0,none⟩ v) d dm n L:=by
 obtain ⟨y,p,q,u,R,B,W,T,D,pw,bw,pt,bt,mp,N,h⟩:=h;have oth:∀k,k≠rc->(w.setCell ⟨rc,0,none⟩ v).heap[k]? =w.heap[k]? :=λ k hk=>Below.heap_setCell _ _ _ _ hk
 have aa:=h.at_.rn.now.at_;obtain ⟨es,c,hm⟩:=h.mo;obtain ⟨a1,a2,a3,a4,a5,a6,a7⟩:=h.off (k:=rc) hr rfl;have hb:=h.at_.rn.below;refine ⟨y,p,q,u,R,B,W,T,D,pw,bw,pt,bt,mp,N,h.at_.same ?_ (λ k hk=>oth k ?_),(oth d a7.symm).trans h.cell,h.hd,h.ne,es,c,(oth dm (notM hm hr)).trans hm⟩
 ·exact ⟨hb.os,hb.tape,hb.output,by simp;exact hb.size,λ j hj=>(oth j (by omega)).trans (hb.block j hj)⟩
 ·rcases hk with rfl | rfl | e | rfl | rfl | rfl | rfl | rfl | rfl
  ·exact a6.symm
  ·exact a1.symm
  ·rintro rfl
   exact a2 e.symm
  ·exact notC aa.hp hr (by decide)
  ·exact notC aa.sw.hp hr (by decide)
  ·exact a3.symm
  ·exact notC aa.st.hp hr (by decide)
  ·exact a4.symm
  ·exact a5.symm
theorem KD.cellNew {rc:Nat} {v:Value} (h:KD dm w w') (hm:dm<w.heap.size) (hr:w.heap.size<=rc):KD dm w (w'.setCell ⟨rc,0,none⟩ v):=by
 have oth:∀k,k<w.heap.size->(w'.setCell ⟨rc,0,none⟩ v).heap[k]? =w'.heap[k]? :=λ k hk=>Below.heap_setCell _ _ _ _ (by show k≠rc;omega)
 exact ⟨h.os,h.tape,h.output,by simp;exact h.size,λ k o h1 h2=>(oth k (G.lt_of_some h1)).trans (h.same k o h1 h2),(oth dm hm).trans h.map⟩
theorem an_end {o:Out} {rc:Nat} {x:ByteArray} (h:DkS w0 w' d dm o.2.1 o.2.2) (k:KD dm w w') (hr:Rc w' rc x) (hm:dm<w.heap.size) (hw:w.heap.size<=rc) (hw0:w0.heap.size<=w.heap.size):
 AnPost w0 d dm o w (.returned (.string ⟨(tellO o.1).toArray⟩)) (w'.setCell ⟨rc,0,none⟩ (.string ⟨(tellO o.1).toArray⟩)):=
 ⟨rfl,h.cell9 hr (by omega),k.cellNew hm hw⟩
theorem err3:(⟨(tellO (.error 3)).toArray⟩:ByteArray)=⟨#[101,114,114,111,114,32,51]⟩:=by kernel_rfl
theorem numbers_tail (A m:Nat) (x:List UInt8) (r:List (List UInt8)) (W:World) (hm:m=r.length+1) (h3:m<=10000) (hc:∀(j:Nat) y,(x::r)[j]? =some y->W.cell? ⟨A,j,none⟩=some (.string ⟨y.toArray⟩)) (hl:∀y∈r,y.length<=100000) (hv:Vars W):
 Calls Tryz.prog 172 #[.slice (if m=1 then some ⟨A,0,none⟩ else some ⟨A,1,none⟩) (m-1) (m-1)] W (NumsPost r W):=by
 refine dnums_any _ _ (m-1) r W (by omega) (by omega) (λ h0=>?_) hl hv;rw [if_neg (by omega)];refine ⟨A,1,rfl,λ j y hy=>?_⟩;have:=hc (j+1) y (by simpa using hy)
 rwa [Nat.add_comm j 1] at this
theorem answer_any (s:ByteArray) (h:DkS w0 w d dm n L) (ht:Tab w d dm) (hv:Vars w0) (hg:G.Gl w0) (hs:s.size<=5000):
 Calls Tryz.prog 90 #[.map (some dm),.string s] w (AnPost w0 d dm (dkWords n L (wordsOf s)) w):=by
 have hb0:=h.base;have hvw:∀{W:World},Below w0.heap.size w0 W->Vars W:=λ hb=>hv.on hb hv.big
 have hgw:∀{W:World},Below w0.heap.size w0 W->G.Gl W:=λ hb=>gl_on hg hb (by have:=hv.big;omega)
 have up:∀{W:World},Below w.heap.size w W->Below w0.heap.size w0 W:=λ hb=>hb0.trans (hb.mono hb0.size)
 have hF:=ff_any s w (by omega);have hfew:=words_few s;have hsm:=words_small s;have h3:∀(o:Out),o=(.error 3,n,L)->Err3 w (AnPost w0 d dm o w):=by
  rintro o rfl W hW y hr;refine ⟨?_,λ w1 hb1=>?_⟩
  ·have:=told_any w.heap.size 3 y W hr (by decide) (hvw (up hW)) (hgw (up hW))
   have e3:(⟨([101,114,114,111,114,32]++Lib.itoa 3).toArray⟩:ByteArray)=⟨#[101,114,114,111,114,32,51]⟩:=err3
   rwa [e3] at this
  ·have hb:=hW.trans (hb1.mono hW.size)
   have hr1:Rc w1 w.heap.size y:=(hb1.block _ (G.lt_of_some hr)).trans hr;have:=an_end (o:=(.error 3,n,L)) (h.below' hb) (KD.of_below hb ht.lt) hr1 ht.lt (Nat.le_refl _) hb0.size;dsimp only at this
   rwa [err3] at this
 cases hw:wordsOf s with
 | nil=>
   rw [hw] at hF;refine answer_none dm s w _ hF (λ W hW y hr=>?_);exact an_end (o:=(.ok [111,107],n,L)) (h.below' hW) (KD.of_below hW ht.lt) hr ht.lt (Nat.le_refl _) hb0.size
 | cons x r=>
   rw [hw] at hF hfew hsm;have hx:x.length<=1000000:=by have:=hsm x (by simp);omega
   have hm2:r.length+1<=10000:=by simp only [List.length_cons] at hfew;omega
   have hLk:∀W,Below w.heap.size w W->(Instr.lookup 110 (.map (some dm)) (.string ⟨x.toArray⟩) true).run Tryz.prog W= .ok (match deedOf x with | some t=>.tuple #[deedV d t,.bool true] | none=>.tuple #[.agg #[.int .i64 0,.nilFunc],.bool false]) W:=
    λ W hW=>deeds_look (ht.same (hW.block dm ht.lt)) x hx
   cases hd:deedOf x with
   | none=>
     rw [hd] at hLk;exact answer_unknown dm (r.length+1) s x r w _ hF rfl (by omega) hLk (h3 _ (by simp only [dkWords,hd]))
   | some t=>
     rw [hd] at hLk;have htm:t∈deedsT:=List.mem_of_find?_eq_some hd;by_cases hk:(r.length:Int)=t.2.1
     ·have hkk:((((r.length+1:Nat):Int)-1) != t.2.1)=false:=by
       rw [bne_eq_false_iff_eq];omega
      refine answer_do dm (r.length+1) s x r t.2.1 d t.2.2 w _ hF rfl (by omega) hLk hkk (deed_enters htm) (λ A W hW hc=>?_);refine (numbers_tail A (r.length+1) x r W rfl hm2 hc (λ y hy=>by have:=hsm y (List.mem_cons_of_mem _ hy);omega) (hvw (up hW))).mono ?_;rintro e w4 ⟨hpo,hb4⟩;refine ⟨hb4,?_⟩;cases hns:numsD r with
      | none=>
        rw [hns] at hpo;exact .inl ⟨hpo,h3 _ (by simp only [dkWords,hd,if_pos hk,hns])⟩
      | some ns=>
        rw [hns] at hpo;obtain ⟨u,rfl,hin⟩:=hpo;refine .inr ⟨u,rfl,?_⟩;have hlen:(ns.length:Int)=t.2.1:=by rw [numsD_len hns];exact hk
        have eo:dkWords n L (x::r)=doD t.2.2 n L ns:=by simp only [dkWords,hd,if_pos hk,hns]
        rw [eo];have hdW:=h.below' hW;refine (deed_any htm hdW hin hlen (hvw (up hW))).mono ?_;rintro e w5 ⟨he,hs5,hk5⟩;have hkw:=(KD.of_below hW ht.lt).trans hk5;refine ⟨λ j o hj ho=>hk5.same j o hj (by obtain ⟨cs,t',rfl,rfl | rfl⟩:=ho <;> rfl),?_⟩;have hEnd:∀y,Rc w5 w.heap.size y->_:=λ y hr=>an_end (o:=doD t.2.2 n L ns) hs5 hkw hr ht.lt (Nat.le_refl _) hb0.size
        cases ho5:(doD t.2.2 n L ns).1 with
        | ok b=>
          refine .inl ⟨⟨b.toArray⟩,by rw [he,ho5];rfl,λ y hr=>?_⟩;have:=hEnd y hr;rw [ho5] at this;exact this
        | error c=>
          obtain ⟨a,b,z,hiv,_⟩:=hdW.iv;have hcb:=doD_err (λ i j=>ways_there hiv i j) ho5;refine .inr ⟨c,⟨([101,114,114,111,114,32]++Lib.itoa c).toArray⟩,by rw [he,ho5];rfl,λ y hr=>⟨told_any w.heap.size c y w5 hr (by omega) (hvw hs5.base) (hgw hs5.base),λ w1 hb1=>?_⟩⟩;have hr1:Rc w1 w.heap.size y:=(hb1.block _ (G.lt_of_some hr)).trans hr;have:=an_end (o:=doD t.2.2 n L ns) (hs5.below' hb1) (hkw.trans (KD.of_below hb1 hs5.lm)) hr1 ht.lt (Nat.le_refl _) hb0.size;rw [ho5] at this;exact this
     ·have hkk:((((r.length+1:Nat):Int)-1) != t.2.1)=true:=by
       rw [bne_iff_ne];omega
      exact answer_count dm (r.length+1) s x r t.2.1 d t.2.2 w _ hF rfl (by omega) hLk hkk (h3 _ (by simp only [dkWords,hd,if_neg hk]))
end Go.Proofs.YtebcjaenhiiflaaGreatDoor.I
namespace Go.Proofs.YtebcjaenhiiflaaGreatDoor.I
open Go.RowKit Go.Shelf Go.WideMaps Go.Maps
attribute [local go_sem] Oper.semAt_some
abbrev Ses:=Nat × List G.E × List UInt8
noncomputable def sesS (st:Ses) (l:List UInt8):Ses:=
 ((dkWords st.1 st.2.1 (wordsOf ⟨l.toArray⟩)).2.1,(dkWords st.1 st.2.1 (wordsOf ⟨l.toArray⟩)).2.2,st.2.2++tellO (dkWords st.1 st.2.1 (wordsOf ⟨l.toArray⟩)).1++[10])
noncomputable def sesL (ls:List (List UInt8)):Ses:=ls.foldl sesS (10,[],[])
theorem sesL_snoc (ls:List (List UInt8)) (l:List UInt8):sesL (ls++[l])=sesS (sesL ls) l:=by
 unfold sesL;rw [List.foldl_append];rfl
theorem line_small {ns:List Int} (h:∀x∈ns,0<=x/\x<=9223372036854775807) (hl:ns.length<=1000):(lineI ns).length<=30000000:=by
 have:=line_len h;omega
theorem itoa_small {c:Int} (h:0<=c/\c<=100):(Lib.itoa c).length<=21:=by
 have:=line_len (ns:=[c]) (λ y hy=>by simp at hy;subst hy;omega)
 simpa [lineI,joinB] using this
theorem fbool_len (b:Bool):(Lib.formatBool b).length<=5:=by cases b <;> decide
theorem doD_len {w:World} {a b x n f:Nat} {L:List G.E} {ns:List Int} (h:IV w a b x n L):(tellO (doD f n L ns).1).length<=40000000:=by
 have hk:=λ i j=>ways_there h i j
 cases ho:(doD f n L ns).1 with
 | error c=>
   have:=itoa_small (doD_err hk ho);unfold tellO;rw [List.length_append];simp;omega
 | ok bs=>
   show bs.length<=40000000
   match ns with
   | []=>
     have l1:=tellN_len (blz_bounds h).1 (blz_bounds h).2;have l2:=line_small (brz_bounds h) (by have:=brz_few h;omega);have l3:=line_small (cutz_bounds h) (by have:=cutz_few h;omega);have l4:=tellE_len (eds_bounds h).1 (eds_bounds h).2;have l5:=tellP_len (prz_bounds h).1 (prz_bounds h).2;have l6:=tellP_len (spi_bounds h).1 (spi_bounds h).2;have l7:=tellN_len (thz_bounds h).1 (thz_bounds h).2;have l8:helpT.length<=100:=by decide
     simp only [doD] at ho
     repeat' split at ho
     all_goals
      injection ho with ho
      subst ho
      first
       | omega
       | (simp only [List.length_append,List.length_cons,List.length_nil];omega)
   | [i]=>
     simp only [doD] at ho;split at ho
     ·unfold dkDrop at ho
      split at ho
      ·injection ho with ho;subst ho;decide
      ·cases ho
     ·unfold dkNodes at ho
      split at ho
      ·injection ho with ho;subst ho;decide
      ·cases ho
   | [i,j]=>
     simp only [doD] at ho;split at ho
     ·unfold dkTwice at ho
      split at ho
      ·injection ho with ho;subst ho;have:=fbool_len (twB n L i j);omega
      ·cases ho
     ·split at ho
      ·unfold dkWays at ho
       split at ho
       ·injection ho with ho
        subst ho;obtain ⟨k1,k2,c,h1,h2⟩:=hk i j;rw [weZ_eq h1,wnZ_eq h2];have b1:=(we_bounds h1).1;have b2:=wn_bounds h2;have:=line_small (ns:=[k1,k2]) (λ y hy=>by simp at hy;rcases hy with rfl | rfl <;> omega) (by simp);dsimp only;omega
       ·cases ho
      ·unfold dkWhole at ho
       split at ho
       ·injection ho with ho;subst ho;have:=fbool_len (whB n L i j);omega
       ·cases ho
   | [i,a,b]=>
     simp only [doD] at ho;unfold dkAdd at ho;split at ho
     ·injection ho with ho;subst ho;have:=fbool_len (decide (i∈brz n (addL n L i a b)));omega
     ·cases ho
   | i::j::k::m::r=>
     simp only [doD] at ho;cases ho
theorem words_len {w:World} {a b x n:Nat} {L:List G.E} {ws:List (List UInt8)} (h:IV w a b x n L):(tellO (dkWords n L ws).1).length<=40000000:=by
 have h3:(tellO (.error 3)).length<=40000000:=by
  have:=itoa_small (c:=3) (by decide);unfold tellO;rw [List.length_append];simp;omega
 match ws with
 | []=>
   show ([111,107]:List UInt8).length<=40000000
   decide
 | x::r=>
   simp only [dkWords];split
   ·exact h3
   ·split
    ·split
     ·exact h3
     ·exact doD_len h
    ·exact h3
end Go.Proofs.YtebcjaenhiiflaaGreatDoor.I
namespace Go.Proofs.YtebcjaenhiiflaaGreatDoor.I
open Go.RowKit Go.Shelf Go.WideMaps Go.Maps
attribute [local go_sem] Oper.semAt_some
theorem extra167:Builder.Extra Tryz.prog Tryz.lays167_ren:=
 {sizeBuilder:=by kernel_rfl,liesBuilder:=by kernel_rfl,t5:=Tryz.underlying5,a5:=Tryz.isAgg5,z5:=Tryz.sizeOf5,v5:=Tryz.zeroValue5,infoByte:=by kernel_rfl,cellsByte:=by kernel_rfl,sizeByte:=by kernel_rfl,neB5:=by decide}
variable {w W W':World} {d dm bd b n:Nat} {L:List G.E} {st:Ses} {m:Nat}
theorem DkS.same' (h:DkS w W d dm n L) (hb:Below w.heap.size w W') (hc:∀(k:Nat) (cs:Array Value) (t:TypeId),t≠5->t≠117->W.heap[k]? =some (.cells cs t)->W'.heap[k]? =some (.cells cs t)) (hm:∀(k:Nat) (es:Array MapEntry) (c:Nat),W.heap[k]? =some (.map es c)->W'.heap[k]? =some (.map es c)):DkS w W' d dm n L:=by
 obtain ⟨y,p,q,u,R,B,Wl,T,D,pw,bw,pt,bt,mp,N,h⟩:=h;have aa:=h.at_.rn.now.at_;obtain ⟨es,c,hmo⟩:=h.mo;obtain ⟨es',c',hmp⟩:=aa.mobj;have cc:∀{k:Nat} {cs:Array Value} {t:TypeId},t≠5->t≠117->W.heap[k]? =some (.cells cs t)->W'.heap[k]? =W.heap[k]? :=λ h1 h2 hk=>(hc _ _ _ h1 h2 hk).trans hk.symm
 refine ⟨y,p,q,u,R,B,Wl,T,D,pw,bw,pt,bt,mp,N,h.at_.same hb (λ k hk=>?_),hc _ _ _ (by decide) (by decide) h.cell,h.hd,h.ne,es,c,hm _ _ _ hmo⟩;rcases hk with rfl | rfl | e | rfl | rfl | rfl | rfl | rfl | rfl
 ·exact cc (by decide) (by decide) h.at_.ix
 ·exact cc (by decide) (by decide) h.at_.gra.hp
 ·obtain ⟨cur,hcur⟩:=own61 h.at_.gra.row e
  exact cc (by decide) (by decide) hcur
 ·exact cc (by decide) (by decide) aa.hp
 ·exact cc (by decide) (by decide) aa.sw.hp
 ·exact cc (by decide) (by decide) aa.sw.hb
 ·exact cc (by decide) (by decide) aa.st.hp
 ·exact cc (by decide) (by decide) aa.st.hb
 ·exact (hm _ _ _ hmp).trans hmp.symm
theorem bld_same {B:Nat} {bs:List Value} (h:Lib.IsBuilderF 117 5 B b bs W) (hc:∀(k:Nat) (cs:Array Value) (t:TypeId) (fz:Nat × Nat),t=5\/t=117->W.heap[k]? =some (.cells cs t fz)->W'.heap[k]? =some (.cells cs t fz)):Lib.IsBuilderF 117 5 B b bs W':=by
 have key:∀{p:Value},Lib.BuilderAtF 117 5 B b p bs W->Lib.BuilderAtF 117 5 B b p bs W':=by
  rintro p ⟨hB,v,hb,hown,hne⟩;refine ⟨hB,v,hc _ _ _ _ (.inr rfl) hb,⟨hown.1,?_⟩,hne⟩;rcases hown.2 with hn | ⟨g,cap,cur,fz,rfl,h1,h2,rest⟩
  ·exact .inl hn
  ·exact .inr ⟨g,cap,cur,fz,rfl,h1,hc _ _ _ _ (.inl rfl) h2,rest⟩
 exact h.elim (λ x=>.inl (key x)) (λ x=>.inr (key x))
structure SesI (w W:World) (d dm bd b:Nat) (st:Ses) (m:Nat):Prop where
 dk:DkS w W d dm st.1 st.2.1
 tab:Tab W d dm
 box:Boxed W bd 110 (.map (some dm))
 bld:Lib.IsBuilderF 117 5 b b (Lib.byteCells st.2.2) W
 len:st.2.2.length<=50000000*m
 hb:w.heap.size<=b
 hw:b<=W.heap.size
theorem SesI.below' (h:SesI w W d dm bd b st m) (hb:Below W.heap.size W W'):SesI w W' d dm bd b st m:=
 ⟨h.dk.below' hb,h.tab.same (hb.block dm h.tab.lt),boxed_below h.box hb,bld_same h.bld (λ k _ _ _ _ hk=>(hb.block k (G.lt_of_some hk)).trans hk),h.len,h.hb,Nat.le_trans h.hw hb.size⟩
theorem SesI.mark (h:SesI w W d dm bd b st m) {k:Nat} {o:Obj} (o':Obj) (hk:w.heap.size<=k) (ho:W.heap[k]? =some o) (hm:marks o=true):SesI w (W.putObj k o') d dm bd b st m:=by
 have oth:∀{j:Nat} {x:Obj},W.heap[j]? =some x->marks x=false->(W.putObj k o').heap[j]? =some x:=λ {j x} hj hx=>by
  refine (World.putObj_heap_other (λ e=>?_)).trans hj;subst e;rw [ho] at hj;injection hj with hj
  rw [hj,hx] at hm;cases hm
 have hb0:=h.dk.base;obtain ⟨es,c,hmo,r⟩:=h.tab;refine ⟨h.dk.same' ⟨hb0.os,hb0.tape,hb0.output,by simp [World.putObj];exact hb0.size,λ j hj=>(World.putObj_heap_other (by omega)).trans (hb0.block j hj)⟩ (λ _ _ _ _ _ hj=>oth hj rfl) (λ _ _ _ hj=>oth hj rfl),⟨es,c,oth hmo rfl,r⟩,oth h.box rfl,bld_same h.bld (λ _ _ _ _ _ hj=>oth hj rfl),h.len,h.hb,by simp [World.putObj];exact h.hw⟩
theorem SesI.built {bs:List Value} (h:DkS w W d dm n L) (ht:Tab W d dm) (hx:Boxed W bd 110 (.map (some dm))) (hbl:Lib.IsBuilderF 117 5 b b bs W) (hwb:w.heap.size<=b) (hb:Below b W W') (ho:Lib.OthersKept 5 (some b) W W'):DkS w W' d dm n L/\Tab W' d dm/\Boxed W' bd 110 (.map (some dm))/\∀(k:Nat) (o:Obj),W.heap[k]? =some o->marks o=true->W'.heap[k]? =some o:=by
 obtain ⟨cs,fz,hbb⟩:∃cs fz,W.heap[b]? =some (.cells cs 117 fz):=by
  rcases hbl with ⟨_,v,h1,_⟩ | ⟨_,v,h1,_⟩ <;> exact ⟨_,_,h1⟩
 have key:∀{j:Nat} {x:Obj},W.heap[j]? =some x->(∀c f,x≠ .cells c 117 f)->(∀c f,x≠ .cells c 5 f)->W'.heap[j]? =some x:=λ {j x} hj h1 h2=>by
  refine ho j x hj (λ e=>?_) h2;injection e with e
  subst e;rw [hbb] at hj;injection hj with hj
  exact h1 _ _ hj.symm
 have hb0:=h.base;obtain ⟨es,c,hmo,r⟩:=ht;refine ⟨h.same' (hb0.trans (hb.mono hwb)) (λ k cs t h5 h7 hj=>key hj (λ c f e=>h7 (by injection e)) (λ c f e=>h5 (by injection e))) (λ k es c hj=>key hj (λ _ _ e=>by cases e) (λ _ _ e=>by cases e)),⟨es,c,key hmo (λ _ _ e=>by cases e) (λ _ _ e=>by cases e),r⟩,key hx (λ _ _ e=>by cases e) (λ _ _ e=>by cases e),λ k o hk hm=>key hk ?_ ?_⟩
 ·rintro c f rfl;cases hm
 ·rintro c f rfl;cases hm
end Go.Proofs.YtebcjaenhiiflaaGreatDoor.I
namespace Go.Proofs.YtebcjaenhiiflaaGreatDoor.I
open Go.RowKit Go.Shelf Go.WideMaps Go.Maps
attribute [local go_sem] Oper.semAt_some
theorem lines_stops (tb:Nat) (s:ByteArray) (w:World) (hsz:s.size<=100000) (hB:w.heap[tb]? =some (.cells #[.string s] 9)) (I:List (List UInt8)->World->Prop) (hv:∀pre X,I pre X->Vars X):
 ∀(l:Nat) (J:List (List UInt8)->World->Prop) (W:World),Below w.heap.size w W->(∀pre X Y,J pre X->Below X.heap.size X Y->J pre Y)->(∀pre X,J pre X->I pre X)->
  (∀pre x X,pre++[x]<+:linesOf s.data.toList->J pre X->YieldAt Fence.wide (5-1-1) Tryz.prog l #[.string ⟨x.toArray⟩] X λ e Y=>e= .returned (.bool true)/\J (pre++[x]) Y)->J [] W->
  CallsIn Fence.wide (5-1) Tryz.prog 166 (#[.func (.yield l) #[] #[]]++#[.pointer (some ⟨tb,0,none⟩)]) W λ e Y=>(∃v,e= .returned v)/\J (linesOf s.data.toList) Y:=
 λ l J W hW hJb hJI hY h0=>lines1_in 4 (by decide) l tb s hsz J hJb (λ pre X h=>hv pre X (hJI pre X h)) hY W ((hW.block tb (G.lt_of_some hB)).trans hB) h0
theorem ln_small:∀(l:List UInt8),∀y∈ln l,y.length<=l.length
 | [],y,hy=>by simp [ln] at hy;subst hy;simp
 | c::r,y,hy=>by
   have ih:=ln_small r;rw [ln] at hy;split at hy
   ·rcases List.mem_cons.1 hy with rfl | hy
    ·simp
    ·have:=ih y hy
     simp;omega
   ·split at hy
    ·rename_i h
     exact absurd h (ln_ne r)
    ·rename_i h t e
     rcases List.mem_cons.1 hy with rfl | hy
     ·have:=ih h (by rw [e];simp)
      simp;exact this
     ·have:=ih y (by rw [e];exact List.mem_cons_of_mem _ hy)
      simp;omega
theorem ln_few:∀(l:List UInt8),(ln l).length<=l.length+1
 | []=>by simp [ln]
 | c::r=>by
   have ih:=ln_few r;rw [ln];split
   ·simp only [List.length_cons]
    omega
   ·split
    ·simp
    ·rename_i h t e
     rw [e] at ih;simp only [List.length_cons] at ih ⊢;omega
theorem lines_few (s:List UInt8):(linesOf s).length<=s.length+1:=by
 have h1:=ln_few (Lib.trimSuffix s [10]);have h2:=trim_len s [10];unfold linesOf;omega
theorem lines_small {s y:List UInt8} (h:y∈linesOf s):y.length<=s.length:=Nat.le_trans (ln_small _ y h) (trim_len s [10])
noncomputable def sesOf (s:List UInt8):List UInt8:=(sesL (linesOf s)).2.2
theorem session_any (s:ByteArray) (w:World) (hs:s.size<=5000) (hv:Vars w) (hg:G.Gl w):Calls Tryz.prog 40 #[.string s] w λ e w'=>e= .returned (.string ⟨(sesOf s.data.toList).toArray⟩)/\Below w.heap.size w w':=by
 have HV:=kd hv;have HG:=kd hg;have HS:=kd hs;have hro:Fence.wide.round=none:=rfl;have hsz:decide ((20000:Int)<(s.size:Int))=false:=decide_eq_false (by omega);have HN:=kd (inew_in 10 w (by decide));clear hv hg hs;refine (callsIn_wide (n:=5)).1 ?_;refine callsIn_of_wp_marks Tryz.func40 rfl trivial ?_ hro;simp only [Tryz.ntmps40,List.size_toArray,List.length_cons,List.length_nil,Nat.reduceAdd,Nat.reduceSub,Array.replicate_succ,Array.replicate_zero,List.push_toArray,List.append_toArray,List.nil_append,List.cons_append]
 gi_wp2_with fail
 refine ⟨trivial,?_⟩;refine CallsIn.mono (callsIn_wide.2 HN.out) ?_;rintro e w1 ⟨x,p,q,v,B,Wl,T,D,pw,bw,pt,bt,mp,N,rfl,hI1⟩;have HI1:=kd hI1;have HD:=kd (deeds_any w1.heap.size (w1.alloc (.cells #[.pointer (some ⟨x,0,none⟩)] 113)));rw [World.size_alloc] at HD;clear hI1 HN
 gi_wp2_with fail
 refine ⟨trivial,?_⟩;refine CallsIn.mono (callsIn_wide.2 HD.out) ?_;rintro e w3 ⟨rfl,ht3,hb3⟩;have HT3:=kd ht3;have HB3:=kd hb3;clear ht3 hb3 HD
 gi_wp2_with fail
 refine ⟨trivial,?_⟩;refine CallsIn.mono (callsIn_wide.2 (lines_in _ _)) ?_;rintro e w6 ⟨rfl,hw6⟩;rw [World.size_alloc,World.size_alloc];have HW6:=kd hw6;clear hw6;have HSI:Hid (SesI w w6 w1.heap.size (w1.heap.size+1) w3.heap.size (w3.heap.size+1) (sesL []) 0/\w6.heap[w3.heap.size+1+1]? =some (.cells #[.string s] 9)):=by
  have hbA:Below w1.heap.size w1 (w1.alloc (.cells #[.pointer (some ⟨x,0,none⟩)] 113)):=(Below.refl _ _).alloc (Nat.le_refl _) _;have hb3:Below (w1.alloc (.cells #[.pointer (some ⟨x,0,none⟩)] 113)).heap.size (w1.alloc (.cells #[.pointer (some ⟨x,0,none⟩)] 113)) w3:=by rw [World.size_alloc];exact HB3.out
  have hs3:w1.heap.size+1<=w3.heap.size:=by have:=hb3.size;rwa [World.size_alloc] at this
  have hw1:=HI1.out.rn.below.size;have hmp:=map_lt HI1.out.rn.now.at_;have hd3:w3.heap[w1.heap.size]? =some (.cells #[.pointer (some ⟨x,0,none⟩)] 113):=(hb3.block _ (by simp)).trans (World.alloc_heap_new w1 _);have hdk3:DkS w w3 w1.heap.size (w1.heap.size+1) 10 []:=by
   obtain ⟨es,c,hm,_⟩:=HT3.out;exact ⟨x,p,q,v,[],B,Wl,T,D,pw,bw,pt,bt,mp,N,(HI1.out.below' hbA).below' hb3,hd3,by omega,by omega,es,c,hm⟩
  have hb6:Below w3.heap.size w3 w6:=by
   rw [HW6.out];exact (((Below.refl _ _).alloc (Nat.le_refl _) _).alloc (by simp) _).alloc (by simp;omega) _
  have e6:w6.heap.size=w3.heap.size+3:=by rw [HW6.out];simp
  refine ⟨⟨hdk3.below' hb6,Tab.same (show Tab w3 _ _ from HT3.out) (hb6.block _ (World.ownsMap.lt HT3.out)),?_,?_,Nat.le_refl _,by omega,by omega⟩,?_⟩
  ·rw [HW6.out]
   exact ((Boxed.new w3 110 _).alloc _).alloc _
  ·have:=Lib.IsBuilderF.of (Lib.fresh_isBuilder 117 5 (w3.alloc (.cells #[.map (some (w1.heap.size+1))] 110)))
   rw [World.size_alloc] at this;rw [HW6.out];exact this.alloc _
  ·rw [HW6.out]
   have:=World.alloc_heap_new ((w3.alloc (.cells #[.map (some (w1.heap.size+1))] 110)).alloc (.cells #[.pointer none,.slice none 0 0] 117)) (.cells #[.string s] 9)
   rwa [World.size_alloc,World.size_alloc] at this
 clear HW6 HI1 HT3 HB3
 gi_wp2_with fail
 refine range_marks (n:=5) (by decide) (gf:=166) (lb:=#[.pointer (some ⟨w3.heap.size+1+1,0,none⟩)]) rfl (enters_of Tryz.func166 (by kernel_rfl) rfl) (linesOf s.data.toList) (λ y:List UInt8=>#[Value.string ⟨y.toArray⟩]) (λ _=>rfl)
  (λ pre X=>SesI w X w1.heap.size (w1.heap.size+1) w3.heap.size (w3.heap.size+1) (sesL pre) pre.length)
  (lines_stops (w3.heap.size+1+1) s w6 (by have:=HS.out;omega) HSI.out.2 _ (λ pre X h=>HV.out.on h.dk.base HV.out.big))
  (λ pre X Y h hb=>h.below' hb) (λ pre X k o o' hk h ho hm=>h.mark o' (Nat.le_trans HSI.out.1.dk.base.size hk) ho hm) HSI.out.1
  (λ y=>{tmps:=#[.string s,undef,.string ⟨#[]⟩,.pointer (some ⟨x,0,none⟩),.nilIface,.pointer (some ⟨w3.heap.size,0,none⟩),.pointer (some ⟨w3.heap.size+1,0,none⟩),.string ⟨y.toArray⟩,.string s,.int .i64 s.size,.bool false,undef,undef,
    .tuple #[.pointer (some ⟨x,0,none⟩),.nilIface],.tuple #[.pointer (some ⟨x,0,none⟩),.nilIface],.pointer (some ⟨x,0,none⟩),.nilIface,.pointer (some ⟨x,0,none⟩),.agg #[.pointer (some ⟨x,0,none⟩)],.pointer (some ⟨w1.heap.size,0,none⟩),.map (some (w1.heap.size+1)),.string s,
    .func (.func 166) #[] #[.pointer (some ⟨w3.heap.size+1+1,0,none⟩)],.string ⟨y.toArray⟩,undef,undef,undef,undef,undef,undef],defers:=[]}) ?assign ?body ?done
 case assign=>
  intro l y W1 K hK
  gi_wp2
  exact hK
 case body=>
  rintro l pre y W1 hpx hsi;have hy:y.length<=5000:=by
   have h1:=lines_small (s:=s.data.toList) (y:=y) (hpx.subset (by simp));have h2:=HS.out;simp at h1;omega
  have hpl:pre.length<=5001:=by
   have h1:=hpx.length_le;have h2:=lines_few s.data.toList;have h3:=HS.out;simp at h1 h2;omega
  have HA:=kd (answer_any ⟨y.toArray⟩ hsi.dk hsi.tab HV.out HG.out (by show y.toArray.size<=5000;simpa using hy));have HSN:=kd (sesL_snoc pre y);have hbx:=hsi.box.cell;have HI:=kd hsi;have HPL:=kd hpl;clear hpx hsi hy hpl;generalize hst:sesL pre=st at*;have HWL:=kd (words_len (ws:=wordsOf ⟨y.toArray⟩) (HI.out.dk.iv.choose_spec.choose_spec.choose_spec.1));unfold sesS at HSN;generalize dkWords st.1 st.2.1 (wordsOf ⟨y.toArray⟩)=o at*;clear hst
  gi_wp2_with fail
  refine ⟨trivial,?_⟩;refine CallsIn.mono (CallsIn.inRound l (callsIn_wide.2 HA.out)) ?_;rintro e W2 ⟨rfl,hd2,hk2⟩;have hbl2:Lib.IsBuilderF 117 5 (w3.heap.size+1) (w3.heap.size+1) (Lib.byteCells st.2.2) W2:=bld_same HI.out.bld (λ k cs t fz ht hk=>hk2.same k _ hk (by rcases ht with rfl | rfl <;> rfl));have ht2:=HI.out.tab.same hk2.map;have hx2:Boxed W2 w3.heap.size 110 (.map (some (w1.heap.size+1))):=hk2.same _ _ HI.out.box rfl;have hw2:w3.heap.size+1<=W2.heap.size:=Nat.le_trans HI.out.hw hk2.size;have HM2:=kd (show ∀(k:Nat) (o:Obj),W1.heap[k]? =some o->marks o=true->W2.heap[k]? =some o from λ k o hk hm=>hk2.same k o hk (by cases o <;> first | rfl | cases hm));have HWS:=kd (Any.Builder_WriteString_k (ρ:=Tryz.lays156_ren) {Tryz.lays156 with} extra156 (w3.heap.size+1) (w3.heap.size+1) (Lib.byteCells st.2.2) ⟨(tellO o.1).toArray⟩ W2 hbl2 (by
   have h1:=HI.out.len;have h2:=HWL.out;have h3:=HPL.out;have h4:50000000*pre.length<=50000000*5001:=Nat.mul_le_mul_left _ h3;rw [Lib.byteCells_length];show st.2.2.length+(tellO o.1).toArray.size<=_;rw [List.size_toArray];omega) hw2)
  have H2:=kd (And.intro hd2 (And.intro ht2 (And.intro hx2 (And.intro hbl2 hw2))));clear hd2 hk2 hbl2 ht2 hx2 hw2 HA hbx
  gi_wp2_with fail
  refine ⟨trivial,?_⟩;refine CallsIn.mono (CallsIn.inRound l (callsIn_wide.2 HWS.out)) ?_;rintro e W3 ⟨rfl,hbl3,hb3,ho3⟩;obtain ⟨hd2,ht2,hx2,hbl2,hw2⟩:=H2.out;obtain ⟨hd3,ht3,hx3,hm3⟩:=SesI.built hd2 ht2 hx2 hbl2 HI.out.hb hb3 ho3;rw [Lib.strCells_toArray,<-Lib.byteCells_append] at hbl3;have hbl3':Lib.IsBuilderF 117 5 (w3.heap.size+1) (w3.heap.size+1) (Lib.byteCells (st.2.2++tellO o.1)) W3:=.inr hbl3;have hw3:w3.heap.size+1<=W3.heap.size:=Nat.le_trans hw2 hb3.size;have HWB:=kd (Any.Builder_WriteByte_k Tryz.lays167 extra167 (w3.heap.size+1) (w3.heap.size+1) (Lib.byteCells (st.2.2++tellO o.1)) 10 W3 hbl3' (by
   have h1:=HI.out.len;have h2:=HWL.out;have h3:=HPL.out;have h4:50000000*pre.length<=50000000*5001:=Nat.mul_le_mul_left _ h3;rw [Lib.byteCells_length,List.length_append];omega) hw3)
  have H3:=kd (And.intro hd3 (And.intro ht3 (And.intro hx3 (And.intro hbl3' (And.intro hw3 hm3)))));clear hd2 ht2 hx2 hbl2 hw2 hd3 ht3 hx3 hm3 hbl3 hbl3' hw3 hb3 ho3 H2 HWS
  gi_wp2_with fail
  refine ⟨trivial,?_⟩;refine CallsIn.mono (CallsIn.inRound l (callsIn_wide.2 HWB.out)) ?_;rintro e W4 ⟨rfl,hbl4,hb4,ho4⟩;obtain ⟨hd3,ht3,hx3,hbl3,hw3,hm3⟩:=H3.out;obtain ⟨hd4,ht4,hx4,hm4⟩:=SesI.built hd3 ht3 hx3 hbl3 HI.out.hb hb4 ho4;have H4:=kd (And.intro hd4 (And.intro ht4 (And.intro hx4 (And.intro hbl4 (And.intro (Nat.le_trans hw3 hb4.size) hm4)))));clear hd3 ht3 hx3 hbl3 hw3 hm3 hd4 ht4 hx4 hm4 hbl4 hb4 ho4 HWB
  gi_wp2_with fail
  obtain ⟨hd4,ht4,hx4,hbl4,hw4,hm4⟩:=H4.out;obtain ⟨_,_,_,_,_,hm3⟩:=H3.out;refine ⟨λ k o hk hm=>hm4 k o (hm3 k o (HM2.out k o hk hm) hm) hm,?_⟩;rw [HSN.out];refine ⟨hd4,ht4,hx4,?_,?_,HI.out.hb,hw4⟩
  ·refine .inr ?_
   have e:Lib.byteCells (st.2.2++tellO o.1)++[.int .u8 10]=Lib.byteCells (st.2.2++tellO o.1++[10]):=by simp [Lib.byteCells]
   rw [e] at hbl4;exact hbl4
  ·have h1:=HI.out.len
   have h2:=HWL.out;simp only [List.length_append,List.length_cons,List.length_nil];omega
 case done=>
  rintro D9 W9 hD9 hsi hK9;have HST:=kd (Any.Builder_String_any_k (ρ:=Tryz.lays156_ren) {Tryz.lays156 with} extra156 (w3.heap.size+1) (w3.heap.size+1) _ W9 hsi.bld hsi.hw);have HI:=kd hsi;have HK:=kd hK9;have HD:=kd hD9;clear hsi hK9 hD9
  gi_wp2_with fail
  refine ⟨trivial,?_⟩;refine CallsIn.mono (callsIn_wide.2 HST.out) ?_;rintro e V ⟨rfl,hblV,hbV,hoV⟩;have HBV:=kd hbV;have HKV:=kd (hoV D9 _ HK.out (λ e=>by
   injection e with e
   subst e;rcases HI.out.bld with ⟨_,v,h1,_⟩ | ⟨_,v,h1,_⟩ <;> (rw [HK.out] at h1;cases h1)) (λ _ _ e=>by cases e))
  clear hblV hbV hoV HST
  gi_wp2_with fail
  refine ⟨by simp,.inl ⟨_,_,rfl,run_takeDeferred HKV.out,?_⟩⟩;have hb0:=HI.out.dk.base;have hb1:=hb0.trans (HBV.out.mono HI.out.hb);refine ⟨_,results_tmp rfl _ _ _,rfl,hb1.os,hb1.tape,hb1.output,by simp [World.putObj];exact hb1.size,λ j hj=>(World.putObj_heap_other ?_).trans (hb1.block j hj)⟩;have:=HSI.out.1.dk.base.size;have:=HD.out;omega
end Go.Proofs.YtebcjaenhiiflaaGreatDoor.I
namespace Go.Proofs.YtebcjaenhiiflaaGreatDoor.I
open Go.RowKit Go.WideMaps Go.Maps Go.Lib
theorem ln_app:∀(p r:List UInt8),ln (p++10::r)=ln p++ln r
 | [],r=>by
   show ln (10::r)=[]::ln r;rw [ln,if_pos rfl]
 | c::p,r=>by
   have ih:=ln_app p r;show ln (c::(p++10::r))=_;rw [ln];conv=>rhs;rw [ln]
   split
   ·rw [ih];rfl
   ·rw [ih]
    cases h:ln p with
    | nil=>exact absurd h (ln_ne p)
    | cons x t=>rfl
theorem trim_snoc (a:List UInt8):Lib.trimSuffix (a++[10]) [10]=a:=by
 have h:Lib.hasSuffix (a++[10]) [10]=true:=by
  unfold Lib.hasSuffix;rw [List.isSuffixOf_iff_suffix];exact ⟨a,rfl⟩
 unfold Lib.trimSuffix;rw [if_pos h];simp
theorem trim_other {a:List UInt8} {c:UInt8} (hc:c≠10):Lib.trimSuffix (a++[c]) [10]=a++[c]:=by
 have h:¬Lib.hasSuffix (a++[c]) [10]=true:=by
  unfold Lib.hasSuffix;rw [List.isSuffixOf_iff_suffix];rintro ⟨t,ht⟩;have:=List.append_inj_right' ht rfl;simp at this;exact hc this.symm
 unfold Lib.trimSuffix;rw [if_neg h]
theorem lines_more (a b:List UInt8):linesOf (a++[10])<+:linesOf (a++[10]++b):=by
 unfold linesOf;rw [trim_snoc];rcases List.eq_nil_or_concat b with rfl | ⟨b',c,rfl⟩
 ·rw [List.append_nil,trim_snoc]
  exact List.prefix_refl _
 ·by_cases hc:c=10
  ·subst hc
   rw [List.concat_eq_append,<-List.append_assoc,trim_snoc,List.append_assoc];show ln a<+:ln (a++10::b');rw [ln_app];exact List.prefix_append _ _
  ·rw [List.concat_eq_append,<-List.append_assoc,trim_other hc,List.append_assoc,List.append_assoc]
   show ln a<+:ln (a++10::(b'++[c]));rw [ln_app];exact List.prefix_append _ _
theorem ses_grows:∀(R:List (List UInt8)) (st:Ses),st.2.2<+:(R.foldl sesS st).2.2
 | [],st=>List.prefix_refl _
 | l::R,st=>by
   refine List.IsPrefix.trans ?_ (ses_grows R (sesS st l));unfold sesS;dsimp only;rw [List.append_assoc];exact List.prefix_append _ _
theorem ses_more (a b:List UInt8):sesOf (a++[10])<+:sesOf (a++[10]++b):=by
 obtain ⟨R,hR⟩:=lines_more a b;unfold sesOf sesL;rw [<-hR,List.foldl_append];exact ses_grows R _
theorem one_bridge (w:World):(1:Int)∈brz 10 [((1:Int),(2:Int),(3:Int))]:=by
 obtain ⟨_,w1,_,⟨x,p,q,v,B,W,T,D,pw,bw,pt,bt,mp,N,_,h1⟩,_⟩:=inew_in 10 w (by decide) [];have hf:Fits 10 [] 1 ((2:Nat):Int) ((3:Nat):Int):=⟨by decide,by decide,by decide,by decide,by simp,by decide⟩;obtain ⟨_,w2,_,⟨ok,v',B',W',T',D',N',_,h2,_⟩,_⟩:=iadd_ok 1 2 3 w1 h1 hf [];have s:=st_perm h2.rn.now.st h2.perm;have e:G.putE [] (edg 1 ((2:Nat):Int) ((3:Nat):Int))=[((1:Int),(2:Int),(3:Int))]:=by decide
 rw [e] at s;have hok:Ok 10 [((1:Int),(2:Int),(3:Int))]:=by
  have:=h2.ok
  rwa [e] at this
 rw [mem_brz s hok];refine ⟨((1:Int),(2:Int),(3:Int)),(s.hB _).2 ⟨by simp,λ h=>?_⟩,rfl⟩;have:=S.Conn.least (P:=λ u v=>u=v) h (λ _=>rfl) (λ _ _ h=>h.symm) (λ _ _ _ h k=>h.trans k) (λ x y ⟨e,he,_,_⟩=>by
  have h1:=he.1;have h2:=he.2;simp at h1;exact absurd h1 h2)
 simp [S.ea,S.eb] at this
theorem first_told (w:World):(⟨(sesOf [97,100,100,32,49,32,50,32,51,10,120,10]).toArray⟩:ByteArray)=⟨#[116,114,117,101,10,101,114,114,111,114,32,51,10]⟩:=by
 have e1:linesOf [97,100,100,32,49,32,50,32,51,10,120,10]=[[97,100,100,32,49,32,50,32,51],[120]]:=by decide+kernel
 have e2:wordsOf ⟨[97,100,100,32,49,32,50,32,51].toArray⟩=[[97,100,100],[49],[50],[51]]:=by decide+kernel
 have e3:wordsOf ⟨[120].toArray⟩=[[120]]:=by decide+kernel
 have e4:deedOf [97,100,100]=some ([97,100,100],3,151):=by decide+kernel
 have e5:deedOf [120]=none:=by decide+kernel
 have e6:numsD [[49],[50],[51]]=some [1,2,3]:=by decide+kernel
 have e7:addC 10 [] 1 2 3=0:=by decide+kernel
 have e8:addL 10 [] 1 2 3=[((1:Int),(2:Int),(3:Int))]:=by decide+kernel
 have d1:dkWords 10 [] [[97,100,100],[49],[50],[51]]=(.ok (Lib.formatBool true),10,[((1:Int),(2:Int),(3:Int))]):=by
  simp only [dkWords,e4,e6];rw [if_pos (by decide)];simp only [doD];unfold dkAdd;rw [if_pos e7,e8,decide_eq_true (one_bridge w)]
 have d2:∀L,dkWords 10 L [[120]]=(.error 3,10,L):=λ L=>by simp only [dkWords,e5]
 have e9:sesOf [97,100,100,32,49,32,50,32,51,10,120,10]=Lib.formatBool true++[10]++tellO (.error 3)++[10]:=by
  unfold sesOf;rw [e1];simp only [sesL,List.foldl_cons,List.foldl_nil,sesS,e2,d1,e3,d2,List.nil_append];rfl
 have e10:(⟨(Lib.formatBool true++[10]++tellO (.error 3)++[10]).toArray⟩:ByteArray)=⟨#[116,114,117,101,10,101,114,114,111,114,32,51,10]⟩:=by kernel_rfl
 rw [e9];exact e10
theorem pre_extract {X Y:List UInt8} (h:X<+:Y):(⟨Y.toArray⟩:ByteArray).extract 0 X.length=⟨X.toArray⟩:=by
 obtain ⟨Z,rfl⟩:=h;apply ByteArray.ext;apply Array.toList_inj.1;rw [Lib.extract_data];simp
theorem bytes_lf (a:ByteArray):(a++(⟨#[10]⟩:ByteArray)).data.toList=a.data.toList++[10]:=by
 rw [ByteArray.data_append,Array.toList_append]
theorem bytes_two (a b:ByteArray):(a++(⟨#[10]⟩:ByteArray)++b).data.toList=a.data.toList++[10]++b.data.toList:=by
 rw [ByteArray.data_append,Array.toList_append,bytes_lf]
theorem pieces_any (a b:ByteArray) (w:World) (ha:a.size<=140737488355328) (hb:b.size<=140737488355328) (hv:Vars w) (hg:G.Gl w):Calls Tryz.prog 6 #[.string a,.string b] w λ e w'=>e= .returned (.bool true)/\Below w.heap.size w w':=by
 have hwr:wrap64 ((a.size:Int)+(b.size:Int))=(a.size:Int)+(b.size:Int):=IntWalk.wrap64_in _ (by omega);by_cases hs:1500<a.size+b.size
 ·have h1:decide ((1500:Int)<(a.size:Int)+(b.size:Int))=true:=decide_eq_true (by omega)
  clear hv hg;go_enter Tryz.func6,Tryz.ntmps6;go_wp2_with fail;go_ret;exact ⟨rfl,Below.refl _ _⟩
 ·have h1:decide ((1500:Int)<(a.size:Int)+(b.size:Int))=false:=decide_eq_false (by omega)
  have HV:=kd hv;have HG:=kd hg;have H0:=kd (session_any ⟨#[97,100,100,32,49,32,50,32,51,10,120,10]⟩ w (by decide) hv hg);rw [show (⟨#[97,100,100,32,49,32,50,32,51,10,120,10]⟩:ByteArray).data.toList=[97,100,100,32,49,32,50,32,51,10,120,10] from rfl,first_told w] at H0;have HS:=kd hs;clear hv hg;go_enter Tryz.func6,Tryz.ntmps6;go_wp2_with fail;refine Calls.mono H0.out ?_;rintro e w1 ⟨rfl,hb1⟩;have HB1:=kd hb1;have H1:=kd (session_any (a++⟨#[10]⟩) w1 (by rw [ByteArray.size_append];show a.size+1<=5000;omega) (HV.out.below hb1) (HG.out.below hb1));rw [bytes_lf] at H1;clear hb1 H0;go_wp2_with fail;refine Calls.mono H1.out ?_;rintro e w2 ⟨rfl,hb2⟩;have HB2:=kd (HB1.out.trans (hb2.mono HB1.out.size));have H2:=kd (session_any (a++⟨#[10]⟩++b) w2 (by rw [ByteArray.size_append,ByteArray.size_append];show a.size+1+b.size<=5000;omega) (HV.out.below HB2.out) (HG.out.below HB2.out));rw [bytes_two] at H2;have HP:=kd (ses_more a.data.toList b.data.toList);generalize sesOf (a.data.toList++[10])=X at*;generalize sesOf (a.data.toList++[10]++b.data.toList)=Y at*;clear hb2 H1;go_wp2_with fail;refine Calls.mono H2.out ?_;rintro e w3 ⟨rfl,hb3⟩;have HB3:=kd (HB2.out.trans (hb3.mono HB2.out.size));clear hb3 H2;have hle:X.length<=Y.length:=HP.out.length_le;have hex:=pre_extract HP.out;go_wp2_with fail;go_ret;exact ⟨rfl,HB3.out⟩
end Go.Proofs.YtebcjaenhiiflaaGreatDoor.I
