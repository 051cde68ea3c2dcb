import Derived.Test.YtebcjaenhiiflaaGreatDoorQSy
import Derived.Test.YtebcjaenhiiflaaGreatDoorQZp
set_option maxHeartbeats 2000000
set_option maxRecDepth 100000
namespace Go.Proofs.YtebcjaenhiiflaaGreatDoor.I
open Go.RowKit Go.WideMaps Go.Maps Go.Lib
def blk (r:Nat):Bool:=r==32
def wordsOf (s:ByteArray):List (List UInt8):=(Lib.goFieldsP blk s).map (·.data.toList)
theorem blank_any (x:Nat) (W:World):FnGives Tryz.prog 171 #[] #[encR x] (.bool (blk x)) W:=by
 have hx:((x:Int)==32)=blk x:=by
  unfold blk;rw [Bool.eq_iff_iff];simp;omega
 generalize blk x=t at*;show Calls Tryz.prog 171 #[.int .i32 (x:Int)] W _;go_enter Tryz.func171,Tryz.ntmps171;go_wp2_with fail;go_ret;exact ⟨rfl,0,rfl⟩
theorem spans_few (p:Nat->Bool) (s:ByteArray):∀(f pos:Nat) (st:Option Nat) (acc:List (Nat × Nat)),(spansFromP p s f pos st acc).1.length<=acc.length+f
 | 0,_,_,acc=>by simp [spansFromP]
 | f+1,pos,st,acc=>by
   unfold spansFromP;split
   ·split
    ·cases st with
     | some a=>
       have:=spans_few p s f (pos+(Utf8.decode s pos).2) none (acc++[(a,pos)]);simp at this ⊢;omega
     | none=>
       have:=spans_few p s f (pos+(Utf8.decode s pos).2) none acc;simp;omega
    ·cases st with
     | some a=>
       have:=spans_few p s f (pos+(Utf8.decode s pos).2) (some a) acc;simp;omega
     | none=>
       have:=spans_few p s f (pos+(Utf8.decode s pos).2) (some pos) acc;simp;omega
   ·simp
theorem words_few (s:ByteArray):(wordsOf s).length<=s.size+1:=by
 unfold wordsOf goFieldsP spansOfP;rw [List.length_map,List.length_map];have h:=spans_few blk s s.size 0 none [];simp only [List.length_nil,Nat.zero_add] at h;unfold closeSpans;split
 ·rw [List.length_append]
  simp;exact h
 ·omega
theorem words_small (s:ByteArray):∀x∈wordsOf s,x.length<=s.size:=by
 intro x hx;unfold wordsOf goFieldsP at hx;rw [List.map_map,List.mem_map] at hx;obtain ⟨p,_,rfl⟩:=hx;show (s.extract p.1 p.2).data.toList.length<=s.size;rw [Lib.extract_data];have:s.data.toList.length=s.size:=by simp
 rw [List.length_take,List.length_drop];omega
theorem ff_any (s:ByteArray) (w:World) (hs:s.size<=100000):FF s (wordsOf s) (wordsOf s).length w:=by
 unfold FF;have h:=Any.strings_FieldsFunc Tryz.lays229 171 #[] (enters_of Tryz.func171 (by kernel_rfl) rfl) blk s (w.alloc (.cells #[.string ⟨#[]⟩] 9)) (by omega) (λ W x _=>blank_any x W) (by kernel_rfl) (by kernel_rfl);refine Calls.mono h ?_;rintro e w' ⟨A,rfl,_,hrow,hb⟩;have e1:(wordsOf s).length=(Lib.goFieldsP blk s).length:=by unfold wordsOf;rw [List.length_map]
 refine ⟨A,by rw [e1],hb,λ j y hy=>?_⟩;unfold wordsOf at hy;rw [List.getElem?_map] at hy;obtain ⟨z,hz,rfl⟩:=Option.map_eq_some_iff.1 hy;have:=World.ownsRow.cells hrow rfl j (.string z) (by rw [List.getElem?_map,hz];rfl)
 rwa [G.addr0_add] at this
open Go.RowKit Go.Shelf Go.WideMaps Go.Maps
attribute [local go_sem] Oper.semAt_some
def marks:Obj->Bool
 | .loop _=>true
 | .deferred _=>true
 | _=>false
theorem range_marks {α:Type} {n gf:Nat} {P:Program} {g:Operand} {ps:Array Tmp} {assign body:Code} {Q:Exit->Act->World->Prop} {a:Act} {w:World} {lb:Array Value} (h1:1<=n)
 (hg:a.eval g= .func (.func gf) #[] lb) (eg:∀args w,(callFunc gf args).run P w= .ok (.enter gf args) w) (xs:List α) (encs:α->Array Value) (hps:∀x,(encs x).size=ps.size) (I:List α->World->Prop)
 (hseq:∀(l:Nat) (J:List α->World->Prop) (W:World),Below w.heap.size w W->(∀pre X Y,J pre X->Below X.heap.size X Y->J pre Y)->(∀pre X,J pre X->I pre X)->
   (∀pre x X,pre++[x]<+:xs->J pre X->YieldAt Fence.wide (n-1-1) P l (encs x) X λ e Y=>e= .returned (.bool true)/\J (pre++[x]) Y)->J [] W->
   CallsIn Fence.wide (n-1) P gf (#[.func (.yield l) #[] #[]]++lb) W λ e Y=>(∃v,e= .returned v)/\J xs Y)
 (hIb:∀pre X Y,I pre X->Below X.heap.size X Y->I pre Y) (hIm:∀pre X k o o',w.heap.size<=k->I pre X->X.heap[k]? =some o->marks o=true->I pre (X.putObj k o')) (h0:I [] w) (a₁:α->Act)
 (hassign:∀(l:Nat) (x:α) (W:World) (K:Act->World->Prop),K (a₁ x) W->
   assign.wpIn (Fence.wide.inRound l) (n-1-1) P (Exit.then K (λ _ _ _=>False)) {tmps:=(ps.zip (encs x)).foldl (λ t (p,v)=>t.setIfInBounds p v) a.tmps,defers:=[]} W)
 (hbody:∀(l:Nat) (pre:List α) (x:α) (W:World),pre++[x]<+:xs->I pre W->body.wpIn (Fence.wide.inRound l) (n-1-1) P (λ e _ Y=>e= .normal/\(∀(k:Nat) (o:Obj),W.heap[k]? =some o->marks o=true->Y.heap[k]? =some o)/\I (pre++[x]) Y) (a₁ x) W)
 (hdone:∀(D:Nat) (W:World),w.heap.size<=D->I xs W->W.heap[D]? =some (.deferred (some []))->Q .normal {a with defers:={target:=.collected D,args:=#[]}::a.defers} W):
 (Code.rangeFunc g ps assign body).wpIn Fence.wide n P Q a w:=by
 refine wpIn_rangeFunc λ fn hfn=>?_
 let rc:LoopState->Loop:=λ st=>{state:=st,pending:=none,fn,tmps:=a.tmps,params:=ps,assign,body,defers:=w.heap.size}
 have hL1:((w.alloc (.deferred (some []))).alloc (.loop (rc .ready))).heap[w.heap.size+1]? =some (.loop (rc .ready)):=by
  have:=World.alloc_heap_new (w.alloc (.deferred (some []))) (.loop (rc .ready))
  rwa [World.size_alloc] at this
 have hb1:Below w.heap.size w ((w.alloc (.deferred (some []))).alloc (.loop (rc .ready))):=((Below.refl _ w).alloc (Nat.le_refl _) _).alloc (by simp) _;have hD1:((w.alloc (.deferred (some []))).alloc (.loop (rc .ready))).heap[w.heap.size]? =some (.deferred (some [])):=(Below.heap_alloc _ _ _ (by simp)).trans (World.alloc_heap_new w _);refine ⟨w.heap.size+1,[{target:=.collected w.heap.size,args:=#[]}],_,{target:=.fn (.func gf) lb,args:=#[.func (.yield (w.heap.size+1)) #[] #[]]},_,gf,#[.func (.yield (w.heap.size+1)) #[] #[]]++lb,_,
  run_enterLoop_outer _ _ _ _ _,by simp only [resolve,hg];simp [go_sem];rfl,λ _ _=>trivial,by simp [invoke,go_sem,eg];rfl,λ _=>h1,?_⟩
 refine (hseq (w.heap.size+1) (λ pre W=>I pre W/\W.heap[w.heap.size+1]? =some (.loop (rc .ready))/\W.heap[w.heap.size]? =some (.deferred (some []))) _ hb1
  (λ pre X Y h hb=>⟨hIb pre X Y h.1 hb,(hb.block _ (Array.getElem?_eq_some_iff.1 h.2.1).1).trans h.2.1,(hb.block _ (Array.getElem?_eq_some_iff.1 h.2.2).1).trans h.2.2⟩) (λ _ _ h=>h.1) ?_ ⟨hIb _ _ _ h0 hb1,hL1,hD1⟩).mono ?_
 ·rintro pre x X hx ⟨hi,hl,hd⟩
  have hlt:=(Array.getElem?_eq_some_iff.1 hl).1;refine ⟨fn,_,assign,body,run_yield hl (hps x),roundIn_of_wpIn hfn (hassign _ x X _ ⟨_,run_beginRound hl rfl,?_⟩)⟩;have hl2:(X.putObj (w.heap.size+1) (.loop {rc .ready with state:=.busy})).heap[w.heap.size+1]? =some (.loop {rc .ready with state:=.busy}):=World.putObj_heap_same hlt;have hd2:(X.putObj (w.heap.size+1) (.loop {rc .ready with state:=.busy})).heap[w.heap.size]? =some (.deferred (some [])):=(World.putObj_heap_other (by omega)).trans hd;refine wpIn_mono (hbody _ pre x _ hx (hIm _ _ _ _ _ (by omega) hi hl rfl)) ?_;rintro e a3 Y ⟨rfl,hk,hi3⟩;have hl3:=hk _ _ hl2 rfl;have hd3:=hk _ _ hd2 rfl;refine ⟨_,_,run_endRound none hl3,rfl,hIm _ _ _ _ _ (by omega) hi3 hl3 rfl,World.putObj_heap_same (Array.getElem?_eq_some_iff.1 hl3).1,(World.putObj_heap_other (by omega)).trans hd3⟩
 ·rintro e Y ⟨⟨v,rfl⟩,hi,hl,hd⟩
  exact ⟨none,_,run_endLoop hl (by simp [rc]),hdone _ _ (Nat.le_refl _) (hIm _ _ _ _ _ (by omega) hi hl rfl) ((World.putObj_heap_other (by omega)).trans hd)⟩
def ln:List UInt8->List (List UInt8)
 | []=>[[]]
 | c::r=>if c=10 then []::ln r else
   match ln r with
   | []=>[[c]]
   | h::t=>(c::h)::t
theorem ln_ne:∀l:List UInt8,ln l≠[]
 | []=>by simp [ln]
 | c::r=>by
   unfold ln;split
   ·simp
   ·split <;> simp
theorem ln_no:∀{l:List UInt8},10∉l->ln l=[l]
 | [],_=>rfl
 | c::r,h=>by
   have h1:c≠10:=λ e=>h (by simp [e])
   have h2:=ln_no (l:=r) (λ k=>h (List.mem_cons_of_mem _ k));unfold ln;rw [if_neg h1,h2]
theorem ln_at:∀{p:List UInt8} (r:List UInt8),10∉p->ln (p++10::r)=p::ln r
 | [],r,_=>by
   show ln (10::r)=_;rw [ln,if_pos rfl]
 | c::p,r,h=>by
   have h1:c≠10:=λ e=>h (by simp [e])
   have h2:=ln_at (p:=p) r (λ k=>h (List.mem_cons_of_mem _ k));show ln (c::(p++10::r))=_;rw [ln,if_neg h1,h2]
theorem parts_at (l:List UInt8):10∉l\/∃p r,l=p++10::r/\10∉p:=by
 induction l with
 | nil=>exact .inl (by simp)
 | cons c l ih=>
   by_cases h:c=10
   ·exact .inr ⟨[],l,by rw [h];rfl,by simp⟩
   ·rcases ih with h2 | ⟨p,r,rfl,hp⟩
    ·refine .inl (λ k=>?_)
     rcases List.mem_cons.1 k with e | e
     ·exact h e.symm
     ·exact h2 e
    ·refine .inr ⟨c::p,r,rfl,λ k=>?_⟩
     rcases List.mem_cons.1 k with e | e
     ·exact h e.symm
     ·exact hp e
theorem cut_no {l:List UInt8} (h:10∉l):Lib.cut l [10]=(l,[],false):=by
 have hi:Lib.index l [10]= -1:=by
  rcases Lib.index_spec l [10] with ⟨h1,_⟩ | ⟨i,_,_,h3,_⟩
  ·exact h1
  ·exfalso
   rw [occ_iff] at h3;exact h (List.mem_of_getElem? h3)
 unfold Lib.cut;rw [hi];rfl
theorem ln_cut {l h r:List UInt8} {m:Bool} (hc:Lib.cut l [10]=(h,r,m)):(m=true->ln l=h::ln r/\r.length<l.length)/\(m=false->ln l=[h]/\r=[])/\r.length<=l.length/\h.length<=l.length:=by
 rcases parts_at l with hl | ⟨p,q,rfl,hp⟩
 ·rw [cut_no hl] at hc
  injection hc with h1 h2
  injection h2 with h2 h3
  subst h1 h2 h3;exact ⟨λ k=>(by cases k),λ _=>⟨ln_no hl,rfl⟩,by simp,Nat.le_refl _⟩
 ·rw [cut_at hp] at hc
  injection hc with h1 h2
  injection h2 with h2 h3
  subst h1 h2 h3;refine ⟨λ _=>⟨ln_at _ hp,by simp;omega⟩,λ k=>(by cases k),by simp;omega,by simp⟩
def linesOf (s:List UInt8):List (List UInt8):=ln (Lib.trimSuffix s [10])
theorem trim_any (s p:ByteArray) (w:World) (hs:s.size<=100000):
 Calls Tryz.prog 167 #[.string s,.string p] w λ e w'=>e= .returned (.string ⟨(Lib.trimSuffix s.data.toList p.data.toList).toArray⟩)/\w'=w:=
 Any.strings_TrimSuffix Tryz.lays102 s p w (by omega)
theorem trim_len (s p:List UInt8):(Lib.trimSuffix s p).length<=s.length:=by
 unfold Lib.trimSuffix;split
 ·rw [List.length_take];omega
 ·exact Nat.le_refl _
def textLen:Value->Nat
 | .string s=>s.size
 | _=>0
def oneIf:Value->Nat
 | .bool true=>1
 | _=>0
theorem lines1_in (n:Nat) (hn:1<=n) (l Bs:Nat) (s:ByteArray) (hsz:s.size<=100000) (J:List (List UInt8)->World->Prop) (hJb:∀pre X Y,J pre X->Below X.heap.size X Y->J pre Y) (hJv:∀pre X,J pre X->Vars X)
 (hY:∀pre x W,pre++[x]<+:linesOf s.data.toList->J pre W->YieldAt Fence.wide (n-1) Tryz.prog l #[.string ⟨x.toArray⟩] W λ e W'=>e= .returned (.bool true)/\J (pre++[x]) W')
 (W:World) (hBs:W.heap[Bs]? =some (.cells #[.string s] 9)) (h0:J [] W):
 CallsIn Fence.wide n Tryz.prog 166 #[.func (.yield l) #[] #[],.pointer (some ⟨Bs,0,none⟩)] W λ e W'=>(∃v,e= .returned v)/\J (linesOf s.data.toList) W':=by
 have hro:Fence.wide.round=none:=rfl;have HY:=kd hY;have HJB:=kd hJb;have HJV:=kd hJv;have hc:W.cell? ⟨Bs,0,none⟩=some (.string s):=by simp [World.cell?,hBs]
 have HT:=kd (trim_any s ⟨#[10]⟩ W hsz);have HTL:=kd (trim_len s.data.toList [10]);clear hY hBs hJb hJv;unfold linesOf at*;rw [show ((⟨#[10]⟩:ByteArray).data.toList)=[10] from rfl] at HT;have hl0:s.data.toList.length=s.size:=by simp
 rw [hl0] at HTL;generalize Lib.trimSuffix s.data.toList [10]=t0 at*;clear hl0;refine callsIn_of_wp Tryz.func166 rfl trivial ?_ hro;simp only [Tryz.ntmps166,List.size_toArray,List.length_cons,List.length_nil,Nat.reduceAdd,Nat.reduceSub,Array.replicate_succ,Array.replicate_zero,List.push_toArray,List.append_toArray,List.nil_append,List.cons_append]
 gi_wp2_with fail
 refine ⟨trivial,?_⟩;refine CallsIn.mono (callsIn_wide.2 HT.out) ?_;rintro e w1 ⟨rfl,hw1⟩;subst w1;clear hc HT
 gi_wp2_with fail
 gi_loopw [3,4] (λ s3 s4 wr=>∃(pre:List (List UInt8)) (rs:List UInt8) (mr:Bool),s3= .string ⟨rs.toArray⟩/\s4= .bool mr/\rs.length<=100000/\(mr=true->ln t0=pre++ln rs)/\(mr=false->ln t0=pre/\rs=[])/\J pre wr)
  (λ s3 s4 _=>textLen s3+oneIf s4)
 case atStart=>exact ⟨[],t0,true,rfl,rfl,by have:=HTL.out;omega,λ _=>rfl,λ k=>(by cases k),h0⟩
 case round=>
  obtain ⟨pre,rs,mr,rfl,rfl,hrs,hmt,hmf,hJ⟩:=hrel;have HJ:=kd hJ;cases mr with
  | false=>
    have HE:=kd (hmf rfl).1;clear hmt hmf hJ
    gi_wp2_with fail
    go_end0
    exact ⟨⟨_,rfl⟩,by rw [HE.out];exact HJ.out⟩
  | true=>
    have HE:=kd (hmt rfl);obtain ⟨h,r,m,hcut⟩:∃h r m,Lib.cut rs [10]=(h,r,m):=⟨_,_,_,rfl⟩;have HLC:=kd (ln_cut hcut);have HRS:=kd hrs;have HC:=kd (cut_any ⟨rs.toArray⟩ ⟨#[10]⟩ wr (by show rs.toArray.size<=100000;simpa using hrs) (HJV.out _ _ hJ));rw [show ((⟨#[10]⟩:ByteArray).data.toList)=[10] from rfl,show (⟨rs.toArray⟩:ByteArray).data.toList=rs from rfl,hcut] at HC;clear hmt hmf hJ hcut hrs
    gi_wp2_with fail
    refine ⟨trivial,?_⟩;refine CallsIn.mono (callsIn_wide.2 HC.out) ?_;rintro e w2 ⟨rfl,hb2⟩;have HPX:Hid (pre++[h]<+:ln t0):=by
     show _<+:_;rw [HE.out];cases m with
     | true=>rw [(HLC.out.1 rfl).1];exact ⟨ln r,by simp⟩
     | false=>rw [(HLC.out.2.1 rfl).1];exact ⟨[],by simp⟩
    obtain ⟨fn,tmps,assign,body,hy,hR⟩:=HY.out pre h w2 HPX.out (HJB.out _ _ _ HJ.out hb2);have HR:=kd hR;clear hR hb2 HC
    gi_wp2_with fail
    refine RoundIn.mono HR.out ?_;rintro e W3 ⟨rfl,hJ3⟩;have HJ3:=kd hJ3;clear hJ3
    gi_wp2_with fail
    go_roundw;case rel=>
     refine ⟨pre++[h],r,m,rfl,rfl,?_,λ hm=>?_,λ hm=>?_,HJ3.out⟩
     ·have:=HLC.out.2.2.1
      have:=HRS.out;omega
     ·subst hm
      rw [HE.out,(HLC.out.1 rfl).1];simp
     ·subst hm
      rw [HE.out,(HLC.out.2.1 rfl).1];exact ⟨by simp,(HLC.out.2.1 rfl).2⟩
    case measure=>
     have h1:=HLC.out;show r.toArray.size+oneIf (.bool m)<rs.toArray.size+1;simp only [List.size_toArray];cases m with
     | true=>have:=(h1.1 rfl).2;simp [oneIf];omega
     | false=>rw [(h1.2.1 rfl).2];simp [oneIf]
theorem lines_in (s:ByteArray) (w:World):
 Calls Tryz.prog 88 #[.string s] w λ e w'=>e= .returned (.func (.func 166) #[] #[.pointer (some ⟨w.heap.size,0,none⟩)])/\w'=w.alloc (.cells #[.string s] 9):=by
 have hmf:∀(fn:Fn) (first cap:Array Value) (w:World),(Instr.makeFunc fn first cap).run Tryz.prog w= .ok (.func fn first cap) w:=λ _ _ _ _=>rfl
 go_enter Tryz.func88,Tryz.ntmps88;go_wp2_with fail;go_ret;exact ⟨rfl,rfl⟩
end Go.Proofs.YtebcjaenhiiflaaGreatDoor.I
