import Derived.Test.YtebcjaenhiiflaaGreatDoorQKVwFe
import Derived.ArgAppend
set_option maxHeartbeats 4000000
set_option maxRecDepth 100000
namespace Go.Proofs.YtebcjaenhiiflaaGreatDoor.S
open Go Go.ChangeMaps Go.MapKept Go.WideShapes
open Go.RowKit Go.WideMaps Go.Maps F
def lD (ss:List (Stp × Int)):List Stp:=ss.foldl (λ D t=>D++[t.1,bk t.1]) []
def lr (ss:List (Stp × Int)):Stp->Int:=ss.foldl (λ r t=>λ q=>if q=bk t.1 then t.2 else if q=t.1 then 1 else r q) (λ _=>0)
def lg (ss:List (Stp × Int)):Int->List Stp:=ss.foldl (λ g t=>gput (gput g t.1) (bk t.1)) (λ _=>[])
theorem lD_snoc (ss:List (Stp × Int)) (t:Stp × Int):lD (ss++[t])=lD ss++[t.1,bk t.1]:=by simp [lD]
theorem lr_snoc (ss:List (Stp × Int)) (t:Stp × Int):lr (ss++[t])=λ q=>if q=bk t.1 then t.2 else if q=t.1 then 1 else lr ss q:=by simp [lr]
theorem lg_snoc (ss:List (Stp × Int)) (t:Stp × Int):lg (ss++[t])=gput (gput (lg ss) t.1) (bk t.1):=by simp [lg]
theorem snoc_ind {α:Type} {P:List α->Prop} (h0:P []) (h1:∀l a,P l->P (l++[a])) (l:List α):P l:=by
 have:∀n (l:List α),l.length=n->P l:=by
  intro n;induction n with
  | zero=>intro l hl;rw [List.eq_nil_of_length_eq_zero hl];exact h0
  | succ n ih=>
    intro l hl;have hne:l≠[]:=λ e=>by rw [e] at hl;simp at hl
    rw [<-List.dropLast_concat_getLast hne];exact h1 _ _ (ih _ (by simp [hl]))
 exact this _ l rfl
theorem lD_mem (ss:List (Stp × Int)) (q:Stp):q∈lD ss↔∃t∈ss,q=t.1\/q=bk t.1:=by
 induction ss using snoc_ind with
 | h0=>simp [lD]
 | h1 l a ih=>
   rw [lD_snoc,List.mem_append,ih];constructor
   ·rintro (⟨t,h1,h2⟩ | h)
    ·exact ⟨t,by simp [h1],h2⟩
    ·exact ⟨a,by simp,by simpa using h⟩
   ·rintro ⟨t,h1,h2⟩
    rcases List.mem_append.1 h1 with h1 | h1
    ·exact .inl ⟨t,h1,h2⟩
    ·rw [List.mem_singleton.1 h1] at h2
     exact .inr (by simpa using h2)
theorem lr_off (ss:List (Stp × Int)) {q:Stp} (h:q∉lD ss):lr ss q=0:=by
 induction ss using snoc_ind with
 | h0=>rfl
 | h1 l a ih=>
   rw [lD_snoc,List.mem_append] at h;have h1:q≠a.1:=λ e=>h (.inr (by simp [e]))
   have h2:q≠bk a.1:=λ e=>h (.inr (by simp [e]))
   rw [lr_snoc];simp only [if_neg h1,if_neg h2];exact ih (λ k=>h (.inl k))
theorem gput_len (g:Int->List Stp) (s:Stp) (x:Int):(gput g s x).length<=(g x).length+1:=by
 unfold gput;by_cases h:x=fr s
 ·rw [if_pos h,h];simp
 ·rw [if_neg h];omega
theorem lg_len (ss:List (Stp × Int)) (x:Int):(lg ss x).length<=2*ss.length:=by
 induction ss using snoc_ind with
 | h0=>simp [lg]
 | h1 l a ih=>
   rw [lg_snoc];have h1:=gput_len (gput (lg l) a.1) (bk a.1) x;have h2:=gput_len (lg l) a.1 x;simp;omega
theorem gput_mem (g:Int->List Stp) (s q:Stp) (x:Int):q∈gput g s x↔q∈g x\/(q=s/\x=fr s):=by
 unfold gput;by_cases h:x=fr s
 ·rw [if_pos h,List.mem_append,<-h];simp [h]
 ·rw [if_neg h];simp [h]
theorem lg_mem (ss:List (Stp × Int)) (q:Stp) (x:Int):q∈lg ss x↔q∈lD ss/\fr q=x:=by
 induction ss using snoc_ind with
 | h0=>simp [lg,lD]
 | h1 l a ih=>
   rw [lg_snoc,gput_mem,gput_mem,ih,lD_snoc,List.mem_append];simp only [List.mem_cons,List.not_mem_nil,or_false];constructor
   ·rintro ((⟨h1,h2⟩ | ⟨h1,h2⟩) | ⟨h1,h2⟩)
    ·exact ⟨.inl h1,h2⟩
    ·exact ⟨.inr (.inl h1),by rw [h1,h2]⟩
    ·exact ⟨.inr (.inr h1),by rw [h1,h2]⟩
   ·rintro ⟨h1 | h1 | h1,h2⟩
    ·exact .inl (.inl ⟨h1,h2⟩)
    ·exact .inl (.inr ⟨h1,by rw [<-h2,h1]⟩)
    ·exact .inr ⟨h1,by rw [<-h2,h1]⟩
def Laid (w:World) (p lm rm N B:Nat) (ss:List (Stp × Int)) (f:Int->Value):Prop:=∃M L,NetA w p lm rm N B M L (lD ss) (lr ss) f (lg ss)
theorem Laid.below {w w':World} {p lm rm N B:Nat} {ss:List (Stp × Int)} {f:Int->Value} (h:Laid w p lm rm N B ss f) (hb:Below w.heap.size w w'):Laid w' p lm rm N B ss f:=by
 obtain ⟨M,L,h⟩:=h;exact ⟨M,L,h.below hb⟩
theorem lay_more {w:World} {p lm rm N B:Nat} {ss:List (Stp × Int)} {f:Int->Value} (h:Laid w p lm rm N B ss f) {s:Stp} {c:Int} (hs:wfS s) (hne:fr s≠tt s) (hc0:0<=c) (hc:c<=1000) (hN:N<=4*ss.length) (hl:ss.length<=400) (h1:s∉lD ss) (h2:bk s∉lD ss):
 Calls Tryz.prog 314 #[.pointer (some ⟨p,0,none⟩),vS s,.int .i64 c] w λ e w'=>e= .returned (.tuple #[])/\∃f',Laid w' p lm rm (N+4) B (ss++[(s,c)]) f'/\Out lm rm f f' w w':=by
 obtain ⟨M,L,h⟩:=h;refine (lay_any p lm rm N B M L _ _ f _ s c w h hs hne hc0 hc (by omega) (λ x=>by have:=lg_len ss x;omega) (lr_off ss h1) (lr_off ss h2)).mono ?_;rintro e w' ⟨rfl,M',L',f',k1,k2⟩;refine ⟨rfl,f',⟨M',L',?_⟩,k2⟩;rw [lD_snoc,lr_snoc,lg_snoc];exact k1
theorem Out.refl (lm rm:Nat) (f:Int->Value) (w:World):Out lm rm f f w w:=⟨rfl,rfl,rfl,Nat.le_refl _,λ _ _ _ _ _=>rfl,λ _ _ h=>h⟩
theorem Out.trans {lm rm:Nat} {f0 f1 f2:Int->Value} {a b c:World} (h:Out lm rm f0 f1 a b) (k:Out lm rm f1 f2 b c):Out lm rm f0 f2 a c:=
 ⟨k.os.trans h.os,k.tape.trans h.tape,k.output.trans h.output,Nat.le_trans h.size k.size,λ i h1 h2 h3 h4=>(k.block i (Nat.lt_of_lt_of_le h1 h.size) h2 h3 (h.norow i h1 h4)).trans (h.block i h1 h2 h3 h4),λ i h1 h4=>k.norow i (Nat.lt_of_lt_of_le h1 h.size) (h.norow i h1 h4)⟩
theorem Out.below {lm rm:Nat} {f0 f1:Int->Value} {a b c:World} (h:Out lm rm f0 f1 a b) (k:Below b.heap.size b c):Out lm rm f0 f1 a c:=
 ⟨k.os.trans h.os,k.tape.trans h.tape,k.output.trans h.output,Nat.le_trans h.size k.size,λ i h1 h2 h3 h4=>(k.block i (Nat.lt_of_lt_of_le h1 h.size)).trans (h.block i h1 h2 h3 h4),h.norow⟩
theorem Out.old {lm rm B:Nat} {f0 f1:Int->Value} {a b:World} (h:Out lm rm f0 f1 a b) (hB:B<=a.heap.size) (h1:B<=lm) (h2:B<=rm) (h3:∀k,k<B->NoRow f0 k):Below B a b:=
 ⟨h.os,h.tape,h.output,h.size,λ k hk=>h.block k (by omega) (by omega) (by omega) (h3 k hk)⟩
theorem Out.cell {lm rm:Nat} {f0 f1:Int->Value} {a b:World} (h:Out lm rm f0 f1 a b) {k o:Nat} {v:Value} (hc:a.cell? ⟨k,o,none⟩=some v) (h1:k≠lm) (h2:k≠rm) (h3:NoRow f0 k):b.cell? ⟨k,o,none⟩=some v:=by
 have hl:=lt_of_cell hc;simp only [World.cell?] at hc ⊢;rw [h.block k hl h1 h2 h3];exact hc
def edS (L:List Stp):List (Stp × Int):=L.map λ e=>(e,1)
theorem edS_off {L:List Stp} {e:Stp} (h:∀d∈L,d.1≠e.1):e∉lD (edS L)/\bk e∉lD (edS L):=by
 have key:∀q:Stp,q.1=e.1->q∉lD (edS L):=λ q hq k=>by
  obtain ⟨t,h1,h2⟩:=(lD_mem _ _).1 k;obtain ⟨d,hd,rfl⟩:=List.mem_map.1 h1;rcases h2 with h2 | h2
  ·exact h d hd (by rw [<-hq,h2])
  ·exact h d hd (by rw [<-hq,h2];rfl)
 exact ⟨key e rfl,key (bk e) rfl⟩
theorem byEdges_any (n B0 q:Nat) (u:Value) (L:List (Int × Int × Int)) (w:World) (h:G.GAt w B0 168 61 q (n:Int) u L) (hn:n<=40) (hed:Ed n 120 L):
 Calls Tryz.prog 235 #[.pointer (some ⟨q,0,none⟩)] w λ e w'=>∃p lm rm N B f,e= .returned (.pointer (some ⟨p,0,none⟩))/\Laid w' p lm rm N B (edS L) f/\N<=480/\Below w.heap.size w w'/\w.heap.size<=p/\w.heap.size<=lm/\w.heap.size<=rm/\w.heap.size<=B:=by
 have HG:Hid (G.GAt w B0 168 61 q (n:Int) u L):=h;have HE:Hid (Ed n 120 L):=hed;have hlen:=hed.len;clear h hed;go_enter Tryz.func235,Tryz.ntmps235;go_wp2_with fail;refine (newNet_any w).mono ?_;rintro e w2 ⟨p,lm,rm,rfl,hA2,h2,h3,h4,hb2⟩;have HB2:Hid (Below w.heap.size w w2/\w.heap.size<=p/\w.heap.size<=lm/\w.heap.size<=rm):=⟨hb2,h2,h3,h4⟩;have HL2:Hid (Laid w2 p lm rm 0 w2.heap.size [] (λ _=>.slice none 0 0)):=⟨_,_,hA2⟩;have hlr:lm<w2.heap.size/\rm<w2.heap.size:=⟨hA2.lv.lt,hA2.rb⟩;clear hA2 h2 h3 h4 hb2;go_wp2_with fail;refine (G.edges_any (n:Int) B0 q u L w2 (HG.out.below HB2.out.1) (by omega)).mono ?_;rintro e w3 ⟨v,rfl,ho,hb3⟩;obtain ⟨m,hm⟩:∃m,m=L.length:=⟨_,rfl⟩;have HM:Hid (m=L.length):=hm;obtain ⟨va,vc,hv⟩:=ho.slice_len;rw [<-hm] at hv hlen;subst hv;have HO:Hid (G.Owns w3 w2.heap.size 61 (.slice va m vc) L):=ho;have HS3:Hid (Laid w3 p lm rm 0 w2.heap.size [] (λ _=>.slice none 0 0)):=HL2.out.below hb3;have HB3:Hid (Below w2.heap.size w2 w3):=hb3;clear ho hb3 HL2 hm;go_wp2_with fail;go_loopw [10] (λ s10 wq=>∃(j:Nat) (f:Int->Value),j<=m/\s10= .int .i64 j/\Laid wq p lm rm (4*j) w2.heap.size (edS (L.take j)) f/\Out lm rm (λ _=>.slice none 0 0) f w3 wq) (λ s10 _=>m-(intOf s10).toNat)
 case atStart=>exact ⟨0,_,Nat.zero_le _,rfl,by simpa [edS] using HS3.out,Out.refl _ _ _ _⟩
 case round=>
  clear HS3;obtain ⟨j,f,hj,rfl,hr,hk⟩:=hrel;have HR:Hid (Laid wr p lm rm (4*j) w2.heap.size (edS (L.take j)) f/\Out lm rm (λ _=>.slice none 0 0) f w3 wr):=⟨hr,hk⟩;clear hr hk;by_cases hlt:j<m
  ·obtain ⟨e,hx⟩:∃e,L[j]? =some e:=⟨_,List.getElem?_eq_getElem (by rw [<-HM.out];exact hlt)⟩
   have heL:=List.mem_of_getElem? hx;obtain ⟨x,y,hxy,hyn,he⟩:=HE.out.ends e heL;have hids:=HE.out.ids e heL;obtain ⟨g,hva⟩:∃g,va=some ⟨g,0,none⟩:=by
    rcases HO.out.shape with ⟨_,k⟩ | ⟨g,cap,k,_⟩
    ·rw [k] at hx;simp at hx
    ·injection k with e1 _ _
     exact ⟨g,e1⟩
   subst hva;obtain ⟨r0,r1,r2⟩:=HO.out.at (g:=g) rfl hx;have hgb:w2.heap.size<=g:=(World.ownsRow.lt HO.out g rfl).1;have hnr:NoRow (λ _=>Value.slice none 0 0) g:=λ _ k=>by simp [Value.ownBlock] at k
   have q0:=HR.out.2.cell r0 (by omega) (by omega) hnr;have q1:=HR.out.2.cell r1 (by omega) (by omega) hnr;have q2:=HR.out.2.cell r2 (by omega) (by omega) hnr;have HTK:Hid (L.take (j+1)=L.take j++[e]):=by
    show L.take (j+1)=_;rw [List.take_add_one,hx];rfl
   have hone:∀d∈L.take j,d.1≠e.1:=by
    intro d hd k;obtain ⟨i,hi,hie⟩:=List.mem_iff_getElem.1 hd;obtain ⟨hjl,hje⟩:=List.getElem?_eq_some_iff.1 hx;have hij:i<j:=by simp at hi;omega
    rw [List.getElem_take] at hie;have:=List.pairwise_iff_getElem.1 HE.out.up i j (by omega) hjl hij;rw [hie,hje] at this;omega
   obtain ⟨x0,hx0⟩:∃x0,e.1=x0:=⟨_,rfl⟩;rw [hx0] at he hids hone q0;subst he;simp only at q0 q1 q2;obtain ⟨W1,hW1⟩:∃W1,W1=wr.alloc (.cells #[.int .i64 x0,.int .i64 (x:Int),.int .i64 (y:Int)] 61):=⟨_,rfl⟩;have hh:W1.heap[wr.heap.size]? =some (.cells #[.int .i64 x0,.int .i64 (x:Int),.int .i64 (y:Int)] 61):=by rw [hW1];exact heap_alloc_new wr _
   have p0:W1.cell? ⟨wr.heap.size,0,none⟩=some (.int .i64 x0):=by simp [World.cell?,hh]
   have p1:W1.cell? ⟨wr.heap.size,1,none⟩=some (.int .i64 (x:Int)):=by simp [World.cell?,hh]
   have p2:W1.cell? ⟨wr.heap.size,2,none⟩=some (.int .i64 (y:Int)):=by simp [World.cell?,hh]
   have hbW:Below wr.heap.size wr W1:=by rw [hW1];exact (Below.refl _ _).alloc (Nat.le_refl _) _
   have HR1:Hid (Laid W1 p lm rm (4*j) w2.heap.size (edS (L.take j)) f/\Out lm rm (λ _=>.slice none 0 0) f w3 W1):=⟨HR.out.1.below hbW,HR.out.2.below hbW⟩;have HW1:Hid (wr.alloc (.cells #[.int .i64 x0,.int .i64 (x:Int),.int .i64 (y:Int)] 61)=W1):=hW1.symm;have hoff:=edS_off (e:=(x0,(x:Int),(y:Int))) hone;have hln:(edS (L.take j)).length=j:=by
    have:=HM.out;simp [edS];omega
   have hw3:wfS (x0,(x:Int),(y:Int)):=⟨wf_small (x:=x0) (by omega) (by omega),wf_small (x:=(x:Int)) (by omega) (by omega),wf_small (x:=(y:Int)) (by omega) (by omega)⟩;have HC:Hid _:=lay_more HR1.out.1 (s:=(x0,(x:Int),(y:Int))) (c:=1) hw3 (by show (x:Int)≠(y:Int);omega) (by omega) (by omega) (by omega) (by omega) hoff.1 hoff.2;unfold vS at HC;simp only at HC;clear hx r0 r1 r2 hone hx0 heL hh hW1 hbW HR hoff hln hw3;go_wp2_with fail;rw [HW1.out];refine Calls.mono HC.out ?_;rintro e' w4 ⟨rfl,f',hr4,hk4⟩;have HR4:Hid (Laid w4 p lm rm (4*(j+1)) w2.heap.size (edS (L.take (j+1))) f'/\Out lm rm (λ _=>.slice none 0 0) f' w3 w4):=by
    rw [HTK.out];refine ⟨?_,HR1.out.2.trans hk4⟩;have:edS (L.take j++[(x0,(x:Int),(y:Int))])=edS (L.take j)++[((x0,(x:Int),(y:Int)),1)]:=by simp [edS]
    rw [this];exact hr4
   clear hr4 hk4 HR1 p0 p1 p2 HC;go_wp2_with fail;go_roundw;case rel=>exact ⟨j+1,f',by omega,by go_num,HR4.out.1,HR4.out.2⟩
   case measure=>simp [intOf];omega
  ·have hje:j=m:=by omega
   subst hje;have HF:Hid (Laid wr p lm rm (4*j) w2.heap.size (edS L) f/\Below w.heap.size w wr):=by
    have h1:=HR.out.1;rw [List.take_of_length_le (by rw [<-HM.out];omega)] at h1;refine ⟨h1,?_⟩;have hs:=HB2.out.1.size;have h2:=HR.out.2.old (B:=w.heap.size) (Nat.le_trans hs HB3.out.size) HB2.out.2.2.1 HB2.out.2.2.2 (λ k _ _ e=>by simp [Value.ownBlock] at e);exact (HB2.out.1.trans (HB3.out.mono hs)).trans h2
   clear HR;go_wp2_with fail;go_ret;exact ⟨p,lm,rm,4*j,w2.heap.size,f,rfl,HF.out.1,by omega,HF.out.2,HB2.out.2.1,HB2.out.2.2.1,HB2.out.2.2.2,HB2.out.1.size⟩
theorem ahead_any (x:Int) (h0:0<=x) (h1:x<=1000) (w:World):Calls Tryz.prog 239 #[.int .i64 x] w λ e w'=>e= .returned (.int .i64 (2*x))/\w'=w:=by
 have hw:IntKind.i64.wrap (2*x)=2*x:=by rw [IntKind.wrap_i64];omega
 go_enter Tryz.func239,Tryz.ntmps239;go_wp2_with fail;go_ret
 first | exact ⟨rfl,rfl⟩ | (rw [hw];exact ⟨rfl,rfl⟩)
theorem behind_any (x:Int) (h0:0<=x) (h1:x<=1000) (w:World):Calls Tryz.prog 238 #[.int .i64 x] w λ e w'=>e= .returned (.int .i64 (2*x+1))/\w'=w:=by
 have hw:IntKind.i64.wrap (2*x)=2*x:=by rw [IntKind.wrap_i64];omega
 have hv:IntKind.i64.wrap (2*x+1)=2*x+1:=by rw [IntKind.wrap_i64];omega
 go_enter Tryz.func238,Tryz.ntmps238;go_wp2_with fail;go_ret
 first | exact ⟨rfl,rfl⟩ | (rw [hw,hv];exact ⟨rfl,rfl⟩)
def ndS (n:Nat):List (Stp × Int):=(List.range n).map λ (x:Nat)=>((0,2*(x:Int),2*(x:Int)+1),0)
def edN (e:Stp):List (Stp × Int):=[((e.1,2*e.2.1+1,2*e.2.2),0),((e.1,2*e.2.2+1,2*e.2.1),0)]
def noS (n:Nat) (L:List Stp):List (Stp × Int):=ndS n++L.flatMap edN
theorem ndS_succ (j:Nat):ndS (j+1)=ndS j++[((0,2*(j:Int),2*(j:Int)+1),0)]:=by simp [ndS,List.range_succ]
theorem noS_snoc (n:Nat) (L:List Stp) (e:Stp):noS n (L++[e])=(noS n L++[((e.1,2*e.2.1+1,2*e.2.2),0)])++[((e.1,2*e.2.2+1,2*e.2.1),0)]:=by simp [noS,edN]
theorem ndS_len (n:Nat):(ndS n).length=n:=by simp [ndS]
theorem edN_len:∀L:List Stp,(L.flatMap edN).length=2*L.length
 | []=>rfl
 | e::L=>by rw [List.flatMap_cons,List.length_append,edN_len L];simp [edN];omega
theorem noS_len (n:Nat) (L:List Stp):(noS n L).length=n+2*L.length:=by rw [noS,List.length_append,ndS_len,edN_len]
theorem nd_off (j:Nat):((0,2*(j:Int),2*(j:Int)+1):Stp)∉lD (ndS j)/\bk ((0,2*(j:Int),2*(j:Int)+1):Stp)∉lD (ndS j):=by
 constructor <;>
 ·intro k
  obtain ⟨t,h1,h2⟩:=(lD_mem _ _).1 k;obtain ⟨x,hx,rfl⟩:=List.mem_map.1 h1;have:=List.mem_range.1 hx;rcases h2 with h2 | h2 <;> simp [bk] at h2 <;> omega
theorem noS_off {n:Nat} {L:List Stp} {i a b:Int} (h:∀d∈L,d.1≠i) (hab:a≠b) (q:Stp) (hq:q=(i,2*a+1,2*b)\/q=(i,2*b,2*a+1)):q∉lD (noS n L):=by
 intro k;obtain ⟨t,h1,h2⟩:=(lD_mem _ _).1 k;rcases List.mem_append.1 h1 with h1 | h1
 ·obtain ⟨x,hx,rfl⟩:=List.mem_map.1 h1
  rcases hq with rfl | rfl <;> rcases h2 with h2 | h2 <;> simp [bk] at h2 <;> omega
 ·obtain ⟨d,hd,h1⟩:=List.mem_flatMap.1 h1
  have hne:=h d hd;have hi:q.1=i:=by rcases hq with rfl | rfl <;> rfl
  simp [edN] at h1;apply hne;rw [<-hi];rcases h1 with rfl | rfl <;> rcases h2 with h2 | h2 <;> rw [h2] <;> rfl
theorem noS_off2 {n:Nat} {L:List Stp} {i a b:Int} (h:∀d∈L,d.1≠i) (hab:a≠b) (q:Stp) (hq:q=(i,2*b+1,2*a)\/q=(i,2*a,2*b+1)):q∉lD (noS n L++[((i,2*a+1,2*b),0)]):=by
 rw [lD_snoc,List.mem_append];rintro (k | k)
 ·exact noS_off h (λ e=>hab e.symm) q hq k
 ·simp [bk] at k
  rcases hq with rfl | rfl <;> simp at k <;> omega
theorem Laid.fresh {w:World} {p lm rm N B:Nat} {ss:List (Stp × Int)} {f:Int->Value} (h:Laid w p lm rm N B ss f) {k:Nat} (hk:w.heap.size<=k):NoRow f k:=λ x e=>by
 obtain ⟨M,L,h⟩:=h;have:=(h.lv.off e).2;omega
theorem Laid.lt {w:World} {p lm rm N B:Nat} {ss:List (Stp × Int)} {f:Int->Value} (h:Laid w p lm rm N B ss f):lm<w.heap.size/\rm<w.heap.size:=by
 obtain ⟨M,L,h⟩:=h;have:=h.lv.le;have:=h.lv.lt;have:=h.rb;constructor <;> omega
def C3 (w:World) (bx:Nat) (x y z:Int):Prop:=w.cell? ⟨bx,0,none⟩=some (.int .i64 x)/\w.cell? ⟨bx,1,none⟩=some (.int .i64 y)/\w.cell? ⟨bx,2,none⟩=some (.int .i64 z)
theorem lay_keep {w:World} {p lm rm N B:Nat} {ss:List (Stp × Int)} {f:Int->Value} (h:Laid w p lm rm N B ss f) {s:Stp} (hs:wfS s) (hne:fr s≠tt s) (hN:N<=4*ss.length) (hl:ss.length<=400) (h1:s∉lD ss) (h2:bk s∉lD ss) {bx:Nat} {x y z:Int} (hc:C3 w bx x y z) (hr:NoRow f bx) (hb1:bx≠lm) (hb2:bx≠rm):
 Calls Tryz.prog 314 #[.pointer (some ⟨p,0,none⟩),vS s,.int .i64 0] w.drew λ e w'=>e= .returned (.tuple #[])/\C3 w' bx x y z/\Hid (∃f',Laid w' p lm rm (N+4) B (ss++[(s,0)]) f'/\Out lm rm f f' w w'/\NoRow f' bx):=by
 have hd:Below w.heap.size w w.drew:=(Below.refl _ _).drew;refine (lay_more (h.below hd) hs hne (by omega) (by omega) hN hl h1 h2).mono ?_;rintro e w' ⟨rfl,f',k1,k2⟩;have ho:Out lm rm f f' w w':=((Out.refl lm rm f w).below hd).trans k2;exact ⟨rfl,⟨ho.cell hc.1 hb1 hb2 hr,ho.cell hc.2.1 hb1 hb2 hr,ho.cell hc.2.2 hb1 hb2 hr⟩,f',k1,ho,ho.norow bx (lt_of_cell hc.1) hr⟩
theorem byNodes_any (n B0 q:Nat) (u:Value) (L:List (Int × Int × Int)) (w:World) (h:G.GAt w B0 168 61 q (n:Int) u L) (hn:n<=40) (hed:Ed n 120 L):
 Calls Tryz.prog 237 #[.pointer (some ⟨q,0,none⟩)] w λ e w'=>∃p lm rm N B f,e= .returned (.pointer (some ⟨p,0,none⟩))/\Laid w' p lm rm N B (noS n L) f/\N<=1120/\Below w.heap.size w w'/\w.heap.size<=p/\w.heap.size<=lm/\w.heap.size<=rm/\w.heap.size<=B:=by
 have HG:Hid (G.GAt w B0 168 61 q (n:Int) u L):=h;have HE:Hid (Ed n 120 L):=hed;have hlen:=hed.len;clear h hed;go_enter Tryz.func237,Tryz.ntmps237;go_wp2_with fail;refine (newNet_any w).mono ?_;rintro e w2 ⟨p,lm,rm,rfl,hA2,h2,h3,h4,hb2⟩;have HB2:Hid (Below w.heap.size w w2/\w.heap.size<=p/\w.heap.size<=lm/\w.heap.size<=rm):=⟨hb2,h2,h3,h4⟩;have HL2:Hid (Laid w2 p lm rm 0 w2.heap.size [] (λ _=>.slice none 0 0)):=⟨_,_,hA2⟩;clear hA2 h2 h3 h4 hb2;go_wp2_with fail;refine (G.nodes_any (n:Int) B0 q u L w2 (HG.out.below HB2.out.1)).mono ?_;rintro e w3 ⟨rfl,hw3⟩;subst hw3;go_wp2_with fail;go_loopw [10] (λ s10 wq=>∃(j:Nat) (f:Int->Value),j<=n/\s10= .int .i64 j/\Laid wq p lm rm (4*j) w3.heap.size (ndS j) f/\Out lm rm (λ _=>.slice none 0 0) f w3 wq) (λ s10 _=>n-(intOf s10).toNat)
 case atStart=>exact ⟨0,_,Nat.zero_le _,rfl,by simpa [ndS] using HL2.out,Out.refl _ _ _ _⟩
 case round=>
  clear HL2;obtain ⟨j,f,hj,rfl,hr,hk⟩:=hrel;have HR:Hid (Laid wr p lm rm (4*j) w3.heap.size (ndS j) f/\Out lm rm (λ _=>.slice none 0 0) f w3 wr):=⟨hr,hk⟩;clear hr hk;by_cases hlt:j<n
  ·have hoff:=nd_off j
   have hws:wfS (0,2*(j:Int),2*(j:Int)+1):=⟨wf_small (x:=0) (by omega) (by omega),wf_small (x:=2*(j:Int)) (by omega) (by omega),wf_small (x:=2*(j:Int)+1) (by omega) (by omega)⟩;have HC:Hid _:=lay_more HR.out.1 (s:=(0,2*(j:Int),2*(j:Int)+1)) (c:=0) hws (by show 2*(j:Int)≠2*(j:Int)+1;omega) (by omega) (by omega) (by rw [ndS_len];omega) (by rw [ndS_len];omega) hoff.1 hoff.2;unfold vS at HC;simp only at HC;clear hoff hws;go_wp2_with fail;refine (ahead_any (j:Int) (by omega) (by omega) wr).mono ?_;rintro e w4 ⟨rfl,hw4⟩;subst hw4;go_wp2_with fail;refine (behind_any (j:Int) (by omega) (by omega) w4).mono ?_;rintro e w5 ⟨rfl,hw5⟩;subst hw5;go_wp2_with fail;refine Calls.mono HC.out ?_;rintro e' w6 ⟨rfl,f',hr4,hk4⟩;have HR4:Hid (Laid w6 p lm rm (4*(j+1)) w3.heap.size (ndS (j+1)) f'/\Out lm rm (λ _=>.slice none 0 0) f' w3 w6):=by
    rw [ndS_succ];exact ⟨hr4,HR.out.2.trans hk4⟩
   clear hr4 hk4 HR HC;go_wp2_with fail;go_roundw;case rel=>exact ⟨j+1,f',by omega,by go_num,HR4.out.1,HR4.out.2⟩
   case measure=>simp [intOf];omega
  ·have hje:n=j:=by omega
   subst hje;have hbw:Below w.heap.size w wr:=HB2.out.1.trans (HR.out.2.old (B:=w.heap.size) HB2.out.1.size HB2.out.2.2.1 HB2.out.2.2.2 (λ k _ _ e=>by simp [Value.ownBlock] at e));have HWR:Hid (Below w.heap.size w wr):=hbw;have HN:Hid (Laid wr p lm rm (4*n) w3.heap.size (noS n []) f):=by
    have e:noS n []=ndS n:=by simp [noS]
    show Laid wr p lm rm (4*n) w3.heap.size (noS n []) f;rw [e];exact HR.out.1
   clear hbw HR hlt hj;obtain ⟨wy,hwy⟩:∃wy,wy=wr:=⟨_,rfl⟩;subst hwy;go_wp2_with fail;refine (G.edges_any (n:Int) B0 q u L wy (HG.out.below HWR.out) (by omega)).mono ?_;rintro e w7 ⟨v,rfl,ho,hb7⟩;obtain ⟨m,hm⟩:∃m,m=L.length:=⟨_,rfl⟩;have HM:Hid (m=L.length):=hm;obtain ⟨va,vc,hv⟩:=ho.slice_len;rw [<-hm] at hv hlen;subst hv;have HO:Hid (G.Owns w7 wy.heap.size 61 (.slice va m vc) L):=ho;have HB7:Hid (Below wy.heap.size wy w7):=hb7;have hlr:=HN.out.lt;clear ho hb7 hm;go_wp2_with fail;go_loopw [24] (λ s24 wq=>∃(i:Nat) (f':Int->Value),i<=m/\s24= .int .i64 i/\Laid wq p lm rm (4*(n+2*i)) w3.heap.size (noS n (L.take i)) f'/\Out lm rm f f' w7 wq) (λ s24 _=>m-(intOf s24).toNat)
   case atStart=>exact ⟨0,f,Nat.zero_le _,rfl,by simpa using HN.out.below HB7.out,Out.refl _ _ _ _⟩
   case round=>
    obtain ⟨i,f',hi,rfl,hr,hk⟩:=hrel;have HR:Hid (Laid wr p lm rm (4*(n+2*i)) w3.heap.size (noS n (L.take i)) f'/\Out lm rm f f' w7 wr):=⟨hr,hk⟩;clear hr hk;by_cases hlt:i<m
    ·obtain ⟨e,hx⟩:∃e,L[i]? =some e:=⟨_,List.getElem?_eq_getElem (by rw [<-HM.out];exact hlt)⟩
     have heL:=List.mem_of_getElem? hx;obtain ⟨x,y,hxy,hyn,he⟩:=HE.out.ends e heL;have hids:=HE.out.ids e heL;obtain ⟨g,hva⟩:∃g,va=some ⟨g,0,none⟩:=by
      rcases HO.out.shape with ⟨_,k⟩ | ⟨g,cap,k,_⟩
      ·rw [k] at hx;simp at hx
      ·injection k with e1 _ _
       exact ⟨g,e1⟩
     subst hva;obtain ⟨r0,r1,r2⟩:=HO.out.at (g:=g) rfl hx;have hgb:wy.heap.size<=g:=(World.ownsRow.lt HO.out g rfl).1;have hnr:NoRow f g:=HN.out.fresh hgb;have q0:=HR.out.2.cell r0 (by omega) (by omega) hnr;have q1:=HR.out.2.cell r1 (by omega) (by omega) hnr;have q2:=HR.out.2.cell r2 (by omega) (by omega) hnr;have HTK:Hid (L.take (i+1)=L.take i++[e]):=by
      show L.take (i+1)=_;rw [List.take_add_one,hx];rfl
     have hone:∀d∈L.take i,d.1≠e.1:=by
      intro d hd k;obtain ⟨l,hl,hle⟩:=List.mem_iff_getElem.1 hd;obtain ⟨hjl,hje⟩:=List.getElem?_eq_some_iff.1 hx;have hij:l<i:=by simp at hl;omega
      rw [List.getElem_take] at hle;have:=List.pairwise_iff_getElem.1 HE.out.up l i (by omega) hjl hij;rw [hle,hje] at this;omega
     obtain ⟨x0,hx0⟩:∃x0,e.1=x0:=⟨_,rfl⟩;rw [hx0] at he hids hone q0;subst he;simp only at q0 q1 q2;obtain ⟨bx,hbx⟩:∃bx,wr.heap.size=bx:=⟨_,rfl⟩;obtain ⟨W1,hW1⟩:∃W1,W1=wr.alloc (.cells #[.int .i64 x0,.int .i64 (x:Int),.int .i64 (y:Int)] 61):=⟨_,rfl⟩;have hh:W1.heap[bx]? =some (.cells #[.int .i64 x0,.int .i64 (x:Int),.int .i64 (y:Int)] 61):=by rw [hW1,<-hbx];exact heap_alloc_new wr _
     have hc1:C3 W1 bx x0 x y:=by refine ⟨?_,?_,?_⟩ <;> simp [World.cell?,hh]
     have hbW:Below wr.heap.size wr W1:=by rw [hW1];exact (Below.refl _ _).alloc (Nat.le_refl _) _
     have hL1:=HR.out.1.below hbW;have hlz:=HR.out.1.lt;have hbl:bx≠lm:=by omega
     have hbr:bx≠rm:=by omega
     have hln:(noS n (L.take i)).length=n+2*i:=by
      have:=HM.out;rw [noS_len];simp;omega
     have hxy':(x:Int)≠(y:Int):=by omega
     have hw1:wfS (x0,2*(x:Int)+1,2*(y:Int)):=⟨wf_small (x:=x0) (by omega) (by omega),wf_small (x:=2*(x:Int)+1) (by omega) (by omega),wf_small (x:=2*(y:Int)) (by omega) (by omega)⟩;have hw2:wfS (x0,2*(y:Int)+1,2*(x:Int)):=⟨wf_small (x:=x0) (by omega) (by omega),wf_small (x:=2*(y:Int)+1) (by omega) (by omega),wf_small (x:=2*(x:Int)) (by omega) (by omega)⟩;have HC:Hid (Calls Tryz.prog 314 #[.pointer (some ⟨p,0,none⟩),vS (x0,2*(x:Int)+1,2*(y:Int)),.int .i64 0] W1.drew λ e w8=>e= .returned (.tuple #[])/\C3 w8 bx x0 x y/\Hid (C3 w8.drew bx x0 x y/\Calls Tryz.prog 314 #[.pointer (some ⟨p,0,none⟩),vS (x0,2*(y:Int)+1,2*(x:Int)),.int .i64 0] w8.drew λ e w9=>e= .returned (.tuple #[])/\C3 w9 bx x0 x y/\Hid (∃f2,Laid w9 p lm rm (4*(n+2*(i+1))) w3.heap.size (noS n (L.take (i+1))) f2/\Out lm rm f f2 w7 w9))):=by
      refine (lay_keep hL1 (s:=(x0,2*(x:Int)+1,2*(y:Int))) hw1 (by show 2*(x:Int)+1≠2*(y:Int);omega) (by omega) (by omega) (noS_off hone hxy' _ (.inl rfl)) (noS_off hone hxy' _ (.inr rfl)) hc1 (HR.out.1.fresh (by omega)) hbl hbr).mono ?_;rintro e w8 ⟨rfl,hc8,f1,hL8,ho8,hr8⟩;refine ⟨rfl,hc8,hc8,?_⟩;refine (lay_keep hL8 (s:=(x0,2*(y:Int)+1,2*(x:Int))) hw2 (by show 2*(y:Int)+1≠2*(x:Int);omega) (by simp;omega) (by simp;omega) (noS_off2 hone hxy' _ (.inl rfl)) (noS_off2 hone hxy' _ (.inr rfl)) hc8 hr8 hbl hbr).mono ?_;rintro e w9 ⟨rfl,hc9,f2,hL9,ho9,hr9⟩;refine ⟨rfl,hc9,f2,?_,((HR.out.2.below hbW).trans ho8).trans ho9⟩;rw [HTK.out,noS_snoc];exact hL9
     have hc1d:C3 W1.drew bx x0 x y:=hc1;have HW1:Hid (wr.alloc (.cells #[.int .i64 x0,.int .i64 (x:Int),.int .i64 (y:Int)] 61)=W1):=hW1.symm;have HBX:Hid (wr.heap.size=bx):=hbx;unfold C3 vS at HC;unfold C3 at hc1d;simp only at HC;clear hx r0 r1 r2 hone hx0 heL hh hW1 hbW HR hln hw1 hw2 hL1 hlz hc1 hbx hnr hgb hbl hbr hxy';go_upto_region 10 with fail
     rw [HW1.out,HBX.out];clear q0 q1 q2;go_region_held (λ w'=>(w'.cell? ⟨bx,0,none⟩=some (.int .i64 x0)/\w'.cell? ⟨bx,1,none⟩=some (.int .i64 (x:Int))/\w'.cell? ⟨bx,2,none⟩=some (.int .i64 (y:Int)))) (with_reducible assumption)
      (first
      | (go_at_call 238;refine (behind_any (x:Int) (by omega) (by omega) _).mono ?_;rintro e w' ⟨rfl,rfl⟩)
      | (go_at_call 239;refine (ahead_any (y:Int) (by omega) (by omega) _).mono ?_;rintro e w' ⟨rfl,rfl⟩)
      | (go_at_call 314;refine Calls.mono HC.out ?_;rintro e w8 ⟨rfl,hc8,HC2⟩))
     all_goals
      obtain ⟨hc8d,hC2⟩:=HC2.out;have HC3:Hid _:=hC2;clear hC2 HC2 HC hc1d;go_upto_region 11 with fail
      go_region_held (λ w'=>(w'.cell? ⟨bx,0,none⟩=some (.int .i64 x0)/\w'.cell? ⟨bx,1,none⟩=some (.int .i64 (x:Int))/\w'.cell? ⟨bx,2,none⟩=some (.int .i64 (y:Int)))) (with_reducible assumption)
       (first
       | (go_at_call 238;refine (behind_any (y:Int) (by omega) (by omega) _).mono ?_;rintro e w' ⟨rfl,rfl⟩)
       | (go_at_call 239;refine (ahead_any (x:Int) (by omega) (by omega) _).mono ?_;rintro e w' ⟨rfl,rfl⟩)
       | (go_at_call 314;refine Calls.mono HC3.out ?_;rintro e w9 ⟨rfl,hc9,HF⟩))
      all_goals
       have hbxe:=HBX.out;subst hbxe;go_wp2_with fail;go_roundw;case rel=>
        obtain ⟨f2,h1,h2⟩:=HF.out;exact ⟨i+1,f2,by omega,by go_num,h1,h2⟩
       case measure=>simp [intOf];omega
    ·have hie:m=i:=by omega
     subst hie;have HF:Hid (Laid wr p lm rm (4*(n+2*m)) w3.heap.size (noS n L) f'/\Below w.heap.size w wr):=by
      have h1:=HR.out.1;rw [List.take_of_length_le (by rw [<-HM.out];omega)] at h1;refine ⟨h1,?_⟩;have hs:=HWR.out.size;have h2:=HR.out.2.old (B:=w.heap.size) (Nat.le_trans hs HB7.out.size) HB2.out.2.2.1 HB2.out.2.2.2 (λ k hk=>?_)
      ·exact (HWR.out.trans (HB7.out.mono hs)).trans h2
      ·obtain ⟨M,Lm,hA⟩:=HN.out
       intro z e;have:=(hA.lv.off e).1;have:=HB2.out.1.size;omega
     clear HR;go_wp2_with fail;go_ret;exact ⟨p,lm,rm,4*(n+2*m),w3.heap.size,f',rfl,HF.out.1,by omega,HF.out.2,HB2.out.2.1,HB2.out.2.2.1,HB2.out.2.2.2,HB2.out.1.size⟩
theorem strange_any (n B0 q b x:Nat) (u:Value) (L:List (Int × Int × Int)) (w:World) (h:G.GAt w B0 168 61 q (n:Int) u L) (hb:w.cell? ⟨b,0,none⟩=some (.pointer (some ⟨q,0,none⟩))) (hx:x<n):
 Calls Tryz.prog 312 #[.int .i64 (x:Int),.pointer (some ⟨b,0,none⟩)] w λ e w'=>e= .returned (.bool false)/\w'=w:=by
 have HG:Hid (G.GAt w B0 168 61 q (n:Int) u L):=h;have h1:¬((x:Int)<0):=by omega
 have h2:¬((n:Int)<=(x:Int)):=by omega
 clear h;go_enter Tryz.func312,Tryz.ntmps312;go_wp2_with fail;refine (G.nodes_any (n:Int) B0 q u L w HG.out).mono ?_;rintro e w1 ⟨rfl,hw1⟩;subst hw1;go_wp2_with fail;go_ret;have h4:decide (n<=x)=false:=decide_eq_false (by omega);rw [h4];exact ⟨rfl,rfl⟩
theorem check_any (n B0 q a b m:Nat) (u:Value) (L:List (Int × Int × Int)) (w:World) (h:G.GAt w B0 168 61 q (n:Int) u L) (ha:a<n) (hb:b<n) (hab:a≠b) (hm:m<=120):
 Calls Tryz.prog 234 #[.pointer (some ⟨q,0,none⟩),.int .i64 (a:Int),.int .i64 (b:Int),.int .i64 (m:Int)] w λ e w'=>e= .returned .nilIface/\Below w.heap.size w w':=by
 have HG:Hid (G.GAt w B0 168 61 q (n:Int) u L):=h;have h1:¬((m:Int)<0):=by omega
 have h2:¬((m:Int) > 120):=by omega
 have h3:¬((a:Int)=(b:Int)):=by omega
 clear h;go_enter Tryz.func234,Tryz.ntmps234;go_wp2_with fail;have HG1:Hid (G.GAt (w.alloc (.cells #[.pointer (some ⟨q,0,none⟩)] 82)) B0 168 61 q (n:Int) u L):=HG.out.below ((Below.refl _ _).alloc (Nat.le_refl _) _);have hc:(w.alloc (.cells #[.pointer (some ⟨q,0,none⟩)] 82)).cell? ⟨w.heap.size,0,none⟩=some (.pointer (some ⟨q,0,none⟩)):=by simp
 refine (strange_any n B0 q w.heap.size a u L _ HG1.out hc ha).mono ?_;rintro e w1 ⟨rfl,hw1⟩;rw [hw1];go_wp2_with fail;refine (strange_any n B0 q w.heap.size b u L _ HG1.out hc hb).mono ?_;rintro e w2 ⟨rfl,hw2⟩;rw [hw2];go_wp2_with fail;go_ret;exact ⟨rfl,(Below.refl _ _).alloc (Nat.le_refl _) _⟩
structure Que (w:World) (B g o cap:Nat) (xs:List Int):Prop where
 le:xs.length<=cap
 gB:B<=g
 lt:g<w.heap.size
 got:∀(j:Nat) (x:Int),xs[j]? =some x->w.cell? ⟨g,o+j,none⟩=some (.int .i64 x)
 spare:∀j,j<cap->(w.cell? ⟨g,o+j,none⟩).isSome=true/\w.frozen? ⟨g,o+j,none⟩=false
section
variable {w w':World} {B g o cap:Nat} {xs:List Int}
theorem Que.tail {x:Int} (h:Que w B g o cap (x::xs)):Que w B g (o+1) (cap-1) xs:=by
 have hl:=h.le;simp at hl;refine ⟨by omega,h.gB,h.lt,λ j y hy=>?_,λ j hj=>?_⟩
 ·have:=h.got (j+1) y (by simpa using hy)
  rwa [show o+1+j=o+(j+1) by omega]
 ·have:=h.spare (j+1) (by omega)
  rwa [show o+1+j=o+(j+1) by omega]
theorem Que.kept {r:Option Nat} (h:Que w B g o cap xs) (hg:w.grownBy w' r) (hne:some g≠r):Que w' B g o cap xs:=by
 have hb:w'.heap[g]? =w.heap[g]? :=hg.block g h.lt hne;refine ⟨h.le,h.gB,Nat.lt_of_lt_of_le h.lt hg.size,λ j x hx=>?_,λ j hj=>?_⟩
 ·have:=h.got j x hx
  simp only [World.cell?] at this ⊢;rw [hb];exact this
 ·have:=h.spare j hj
  simp only [World.cell?,World.frozen?] at this ⊢;rw [hb];exact this
theorem info3q:∃i,Tryz.prog.info? 3=some i/\i.size=1/\i.bytes=8/\i.zero=some (.int .i64 0):=
 ⟨(Tryz.prog.info? 3).get (by kernel_rfl),by kernel_rfl,by kernel_rfl,by kernel_rfl,by kernel_rfl⟩
theorem Que.push (h:Que w B g o cap xs) (ty:TypeId) {x:Int} {l:Nat} (hl:w.heap[l]? =some (.cells #[.int .i64 x] 3)) (hB:B<=w.heap.size) (hn:xs.length<=100000):
 ∃v' w' g' o' cap',(Builtin.append_ #[48,48] ty #[.slice (some ⟨g,o,none⟩) xs.length cap,.slice (some ⟨l,0,none⟩) 1 1]).run Tryz.prog w= .ok v' w'/\v'= .slice (some ⟨g',o',none⟩) (xs.length+1) cap'/\Que w' B g' o' cap' (xs++[x])/\w.grownBy w' (some g):=by
 obtain ⟨i,hi,hs,hb,hz⟩:=info3q;have hnews:∀j u,[Value.int .i64 x][j]? =some u->w.cell? ((⟨l,0,none⟩:Addr).add j)=some u:=by
  intro j u hj
  match j,hj with
  | 0,hj=>
    simp at hj;subst hj;simp [World.cell?,Addr.add,hl]
  | j+1,hj=>simp at hj
 by_cases hr:xs.length+1<=cap
 ·have hrun:=run_append_room_cells (P:=Tryz.prog) w 48 ty 3 i Tryz.underlying48 hi g o xs.length cap ⟨l,0,none⟩ 1 1 [.int .i64 x] (by rw [hs];rfl) hnews (λ u hu=>by simp at hu;subst hu;rfl) hr (λ j hj=>by
   have hj0:j=0:=by simp at hj;omega
   subst hj0;rw [hs]
   simpa using (h.spare xs.length (by omega)).1) (λ j hj=>by
   have hj0:j=0:=by simp at hj;omega
   subst hj0;rw [hs]
   simpa using (h.spare xs.length (by omega)).2)
  rw [hs,Nat.mul_one] at hrun;refine ⟨_,_,g,o,cap,hrun,rfl,⟨by simp;omega,h.gB,?_,λ j y hy=>?_,λ j hj=>?_⟩,?_⟩
  ·show g<(w.setCell ⟨g,o+xs.length,none⟩ (.int .i64 x)).heap.size
   rw [World.size_setCell];exact h.lt
  ·rcases Nat.lt_or_ge j xs.length with hj | hj
   ·rw [List.getElem?_append_left hj] at hy
    rw [World.cell?_setCells_out g [.int .i64 x] (o+xs.length) w ⟨g,o+j,none⟩ (λ _ _=>.inl (by simp only;omega))];exact h.got j y hy
   ·have hje:j=xs.length:=by
     have:=(List.getElem?_eq_some_iff.1 hy).1;simp at this;omega
    subst hje;simp at hy;subst hy;have:=World.cell?_setCells_in g [.int .i64 x] (o+xs.length) w (λ j hj=>by
     have hj0:j=0:=by simp at hj;omega
     subst hj0;exact (h.spare xs.length (by omega)).1) 0 (by simp)
    simpa using this
  ·have:=h.spare j hj
   exact ⟨World.isSome_setCells g [.int .i64 x] (o+xs.length) w _ this.1,by rw [World.frozen?_setCells];exact this.2⟩
  ·exact ⟨rfl,rfl,rfl,by show _<=(w.setCell ⟨g,o+xs.length,none⟩ (.int .i64 x)).heap.size;rw [World.size_setCell];exact Nat.le_refl _,λ k hk hne=>Below.heap_setCell _ _ _ _ (λ e=>hne (by rw [e]))⟩
 ·obtain ⟨v',w',hrun,ho,hg⟩:=run_append_arg_grows (P:=Tryz.prog) w 48 ty 3 i (.int .i64 0) 1 8 Tryz.underlying48 hi hz hs hb rfl (by omega) ⟨g,o,none⟩ xs.length cap (xs.map (Value.int .i64)) (by simp) (λ j u hj=>by
   rw [Addr.add_lit];rw [List.getElem?_map] at hj;obtain ⟨y,hy,rfl⟩:=Option.map_eq_some_iff.1 hj;exact h.got j y hy) ⟨l,0,none⟩ 1 1 [.int .i64 x] (by rfl) hnews (by omega) (by unfold maxLen;omega) (by omega)
  rcases ho.2 with ⟨_,h0⟩ | ⟨g',cap',cur,hv,h1,h2,h3,h4,h5,h6⟩
  ·omega
  ·refine ⟨v',w',g',0,cap',hrun,hv,⟨by simp;omega,Nat.le_trans hB h1,lt_of_some h2,λ j y hy=>?_,λ j hj=>?_⟩,⟨hg.os,hg.tape,hg.output,hg.size,λ k hk _=>hg.block k hk (by simp)⟩⟩
   ·have hj:j<xs.length+1:=by
     have:=(List.getElem?_eq_some_iff.1 hy).1
     simpa using this
    have e:(cur.toList.take ((xs.length+1)*1))[j]? =some (.int .i64 y):=by
     rw [h6];have:=congrArg (Option.map (Value.int .i64)) hy;rw [<-List.getElem?_map] at this
     simpa using this
    rw [List.getElem?_take_of_lt (by omega)] at e;simp only [World.cell?,Nat.zero_add,h2]
    simpa using e
   ·have hjc:j<cur.size:=by omega
    simp [World.cell?,World.frozen?,h2,hjc]
end
end Go.Proofs.YtebcjaenhiiflaaGreatDoor.S
namespace Go.Proofs.YtebcjaenhiiflaaGreatDoor.S
open Go Go.ChangeMaps Go.MapKept Go.WideShapes
open Go.RowKit Go.WideMaps Go.Maps F
theorem zero346 (w:World):(zeroValue 346).run Tryz.prog w= .ok (vS (0,0,0)) w:=by kernel_rfl
structure Cm (w:World) (cb N:Nat) (C:DataW Value) (c:Int->Option Stp):Prop where
 mp:w.ownsMap Tryz.prog 3 hold cb N C
 tidy:Tidy C
 has:∀x,Maps.has C (.int .i64 x)=(c x).isSome
 at_:∀x s,c x=some s->∀zd,C.atKey (.int .i64 x) zd= .held (vS s)
section
variable {w w':World} {cb N:Nat} {C:DataW Value} {c:Int->Option Stp}
theorem Cm.kept {r:Option Nat} (h:Cm w cb N C c) (hg:w.grownBy w' r) (hne:some cb≠r):Cm w' cb N C c:={h with mp:=h.mp.kept hg hne}
theorem Cm.below (h:Cm w cb N C c) (hb:Below w.heap.size w w'):Cm w' cb N C c:={h with mp:=h.mp.kept (grown_below hb) (by simp)}
theorem Cm.val (h:Cm w cb N C c) (x:Int):C.atKey (.int .i64 x) (.held (vS (0,0,0)))= .held (vS ((c x).getD (0,0,0))):=by
 cases hc:c x with
 | none=>
   have:Maps.has C (.int .i64 x)=false:=by rw [h.has,hc];rfl
   rw [atKey_of_not_has this];rfl
 | some s=>exact h.at_ x s hc _
theorem Cm.look (h:Cm w cb N C c) {x:Int} (hx:(Lit.int .i64 x).wf=true):
 (Instr.lookup 381 (.map (some cb)) (.int .i64 x) true).run Tryz.prog w= .ok (.tuple #[vS ((c x).getD (0,0,0)),.bool (c x).isSome]) w/\(Instr.lookup 381 (.map (some cb)) (.int .i64 x) false).run Tryz.prog w= .ok (vS ((c x).getD (0,0,0))) w:=by
 obtain ⟨v,ps,h1,h2⟩:=h.mp.look_ok law3 Tryz.underlying381 (zero346 w) (zd:=.held (vS (0,0,0))) (zp:=[]) rfl (key3 x hx);obtain ⟨v',ps',h3,h4⟩:=h.mp.lookup law3 Tryz.underlying381 (zero346 w) (zd:=.held (vS (0,0,0))) (zp:=[]) rfl (key3 x hx);rw [h.val x] at h2 h4;simp [hold] at h2 h4;rw [h1,h3,h2.1,h4.1,h.has];exact ⟨rfl,rfl⟩
theorem Cm.put (h:Cm w cb N C c) {x:Int} (hx:(Lit.int .i64 x).wf=true) (s:Stp) (hN:N<=1000000):
 ∃w',(Instr.mapUpdate 381 (.map (some cb)) (.int .i64 x) (vS s)).run Tryz.prog w= .ok () w'/\(∃C',Cm w' cb (N+1) C' (λ y=>if y=x then some s else c y))/\w.grownBy w' (some cb):=by
 obtain ⟨w2,r2,m2,g2⟩:=h.mp.update law3 Tryz.underlying381 (by unfold maxLen;omega) (key3 x hx) (val:=vS s) (d:=.held (vS s)) (ps:=[]) rfl;refine ⟨w2,r2,⟨_,m2,h.tidy.put (ik x) _,λ y=>?_,λ y t ht zd=>?_⟩,g2⟩
 ·by_cases e:y=x
  ·rw [if_pos e,e]
   exact has_put_same h.tidy.isMap (ik x) _
  ·rw [has_put_other (λ k=>e (by injection k)),h.has,if_neg e]
 ·by_cases e:y=x
  ·rw [if_pos e] at ht
   have ht':s=t:=Option.some.inj ht;rw [e,atKey_put_same h.tidy.isMap (ik x),ht']
  ·rw [if_neg e] at ht
   rw [atKey_put_other (λ k=>e (by injection k))];exact h.at_ y t ht zd
theorem cm_new (w:World):Cm (w.alloc (.map #[] 0)) w.heap.size 0 (.map []) (λ _=>none):=
 ⟨World.ownsMap_made w _ _ _,tidy_empty,λ _=>rfl,λ _ _ h=>by cases h⟩
end
end Go.Proofs.YtebcjaenhiiflaaGreatDoor.S
namespace Go.Proofs.YtebcjaenhiiflaaGreatDoor.S
open Go Go.ChangeMaps Go.MapKept Go.WideShapes
open Go.RowKit Go.WideMaps Go.Maps F
theorem nodup_int:∀(M:Nat) (ks:List Int),ks.Nodup->(∀c∈ks,0<=c/\c<M)->ks.length<=M
 | 0,ks,_,h=>by
   cases ks with
   | nil=>simp
   | cons x l=>have:=h x (by simp);omega
 | M+1,ks,hn,h=>by
   by_cases hm:(M:Int)∈ks
   ·have h1:=nodup_int M (ks.erase (M:Int)) (hn.erase _) (λ c hc=>by
     have h2:=(List.Nodup.mem_erase_iff hn).1 hc;have:=h c h2.2;have:=h2.1;omega)
    rw [List.length_erase_of_mem hm] at h1;omega
   ·have h1:=nodup_int M ks hn (λ c hc=>by
     have h2:c≠M:=λ e=>hm (e▸hc)
     have:=h c hc;omega)
    omega
theorem nodup_sub {α:Type} [DecidableEq α]:∀(l m:List α),l.Nodup->(∀x∈l,x∈m)->l.length<=m.length
 | [],m,_,_=>by simp
 | x::l,m,hn,h=>by
   rw [List.nodup_cons] at hn;have h1:=nodup_sub l (m.erase x) hn.2 (λ y hy=>(List.mem_erase_of_ne (λ e:y=x=>hn.1 (by rw [<-e];exact hy))).2 (h y (by simp [hy])));have h2:x∈m:=h x (by simp);rw [List.length_erase_of_mem h2] at h1;have:=List.length_pos_of_mem h2;simp;omega
theorem below_of_grown {w w':World} {B k:Nat} (hg:w.grownBy w' (some k)) (hB:B<=w.heap.size) (hk:B<=k):Below B w w':=
 ⟨hg.os,hg.tape,hg.output,hg.size,λ i hi=>hg.block i (by omega) (λ e=>by injection e with e;omega)⟩
def Qv (w:World) (B:Nat) (v:Value) (xs:List Int):Prop:=∃ad cap,v= .slice ad xs.length cap/\(xs≠[]->∃g o,ad=some ⟨g,o,none⟩/\Que w B g o cap xs)
structure Sea (w0 w:World) (cb:Nat) (g:Int->List Stp) (inn:Stp->Bool) (a:Int) (q:List Int) (c:Int->Option Stp):Prop where
 bfs:Bfs g inn a q (λ x=>(c x).getD (0,0,0))
 cm:∃N C,Cm w cb N C c/\N<=q.length
 has:∀x,(c x).isSome=true↔x∈q
 rng:∀x∈q,0<=x/\x<1000
 bel:Below w0.heap.size w0 w
 cb0:w0.heap.size<=cb
def Dn (g:Int->List Stp) (inn:Stp->Bool) (q:List Int) (i:Nat):Prop:=∀k y,k<i->q[k]? =some y->∀s∈g y,inn s=true->tt s∈q
section
variable {w0 w w':World} {cb:Nat} {g:Int->List Stp} {inn:Stp->Bool} {a:Int} {q:List Int} {c:Int->Option Stp}
theorem Sea.len (h:Sea w0 w cb g inn a q c):q.length<=1000:=nodup_int 1000 q h.bfs.nd (λ x hx=>by have:=h.rng x hx;omega)
theorem Sea.below (h:Sea w0 w cb g inn a q c) (hb:Below w.heap.size w w'):Sea w0 w' cb g inn a q c:=by
 obtain ⟨N,C,h1,h2⟩:=h.cm;exact {h with cm:=⟨N,C,h1.below hb,h2⟩,bel:=h.bel.trans (hb.mono h.bel.size)}
theorem Sea.grown (h:Sea w0 w cb g inn a q c) {k:Nat} (hg:w.grownBy w' (some k)) (hk:k≠cb) (hk0:w0.heap.size<=k):Sea w0 w' cb g inn a q c:=by
 obtain ⟨N,C,h1,h2⟩:=h.cm;exact {h with cm:=⟨N,C,h1.kept hg (λ e=>hk (by injection e with e;exact e.symm)),h2⟩,bel:=h.bel.trans (below_of_grown hg h.bel.size hk0)}
theorem Cm.ne_cells {N:Nat} {C:DataW Value} (h:Cm w cb N C c) {k:Nat} {o:Nat} {v:Value} (hk:w.cell? ⟨k,o,none⟩=some v):k≠cb:=λ e=>by
 obtain ⟨es,clock,hb,_⟩:=h.mp;rw [<-e] at hb;simp [World.cell?,hb] at hk
theorem Sea.look (h:Sea w0 w cb g inn a q c) {x:Int} (h0:0<=x) (h1:x<1000):
 (Instr.lookup 381 (.map (some cb)) (.int .i64 x) true).run Tryz.prog w= .ok (.tuple #[vS ((c x).getD (0,0,0)),.bool (c x).isSome]) w/\(Instr.lookup 381 (.map (some cb)) (.int .i64 x) false).run Tryz.prog w= .ok (vS ((c x).getD (0,0,0))) w:=by
 obtain ⟨N,C,hc,_⟩:=h.cm;exact hc.look (wf_small h0 (by omega))
theorem Qv.below {B:Nat} {v:Value} {xs:List Int} (h:Qv w B v xs) (hb:Below w.heap.size w w'):Qv w' B v xs:=by
 obtain ⟨ad,cap,h1,h2⟩:=h;refine ⟨ad,cap,h1,λ hx=>?_⟩;obtain ⟨gq,o,h3,h4⟩:=h2 hx;exact ⟨gq,o,h3,h4.kept (grown_below hb) (by simp)⟩
theorem sea_start (w:World) {a:Int} (g:Int->List Stp) (inn:Stp->Bool) (h0:0<=a) (h1:a<1000):
 ∃w1,(Instr.mapUpdate 381 (.map (some w.heap.size)) (.int .i64 a) (vS (0,0,0))).run Tryz.prog (w.alloc (.map #[] 0))= .ok () w1/\w.heap.size+1<=w1.heap.size/\∃c,Sea w (w1.alloc (.cells #[.int .i64 a] 3)) w.heap.size g inn a [a] c/\Qv (w1.alloc (.cells #[.int .i64 a] 3)) w.heap.size (.slice (some ⟨w1.heap.size,0,none⟩) 1 1) [a]:=by
 obtain ⟨w1,r1,⟨C',hc⟩,hg⟩:=(cm_new w).put (x:=a) (wf_small h0 (by omega)) (0,0,0) (by omega);have hsz:w.heap.size+1<=w1.heap.size:=by have:=hg.size;simpa using this
 have hb1:Below w.heap.size w w1:=((Below.refl _ _).alloc (Nat.le_refl _) _).trans (below_of_grown hg (by simp) (Nat.le_refl _));have hbA:Below w1.heap.size w1 (w1.alloc (.cells #[.int .i64 a] 3)):=(Below.refl _ _).alloc (Nat.le_refl _) _;refine ⟨w1,r1,hsz,_,⟨Bfs.start _ _ _ _,⟨_,_,hc.below hbA,by simp⟩,λ x=>?_,λ x hx=>?_,hb1.trans (hbA.mono hb1.size),Nat.le_refl _⟩,some ⟨w1.heap.size,0,none⟩,1,rfl,λ _=>⟨_,_,rfl,?_⟩⟩
 ·by_cases e:x=a
  ·simp [e]
  ·simp [e]
 ·rw [List.mem_singleton.1 hx];exact ⟨h0,h1⟩
 ·obtain ⟨W,hW⟩:∃W,w1.alloc (.cells #[.int .i64 a] 3)=W:=⟨_,rfl⟩
  have hh:=heap_alloc_new w1 (.cells #[.int .i64 a] 3);rw [hW] at hh ⊢;refine ⟨Nat.le_refl _,by omega,lt_of_some hh,λ j x hx=>?_,λ j hj=>?_⟩
  ·have hj:j=0:=by have:=(List.getElem?_eq_some_iff.1 hx).1;simp at this;omega
   subst hj;simp at hx;subst hx;simp [World.cell?,hh]
  ·have hj:j=0:=by omega
   subst hj;simp [World.cell?,World.frozen?,hh]
theorem drop_snoc {α:Type} {q:List α} {i:Nat} (x:α) (h:i<=q.length):(q++[x]).drop i=q.drop i++[x]:=List.drop_append_of_le_length h
theorem sea_more {i:Nat} {gq o cap:Nat} {s:Stp} (h:Sea w0 w cb g inn a q c) (hq:Que w w0.heap.size gq o cap (q.drop i)) (hi:q[i]? =some (fr s)) (hs:s∈g (fr s)) (hin:inn s=true) (hn:c (tt s)=none) (h0:0<=tt s) (h1:tt s<1000):
 ∃w1,(Instr.mapUpdate 381 (.map (some cb)) (.int .i64 (tt s)) (vS s)).run Tryz.prog w= .ok () w1/\w.grownBy w1 (some cb)/\∃w3 v' g' o' cap',(Builtin.append_ #[48,48] 48 #[.slice (some ⟨gq,o,none⟩) (q.length-i) cap,.slice (some ⟨w1.heap.size,0,none⟩) 1 1]).run Tryz.prog (w1.alloc (.cells #[.int .i64 (tt s)] 3))= .ok v' w3/\v'= .slice (some ⟨g',o',none⟩) (q.length+1-i) cap'/\Sea w0 w3 cb g inn a (q++[tt s]) (λ y=>if y=tt s then some s else c y)/\Que w3 w0.heap.size g' o' cap' ((q++[tt s]).drop i):=by
 obtain ⟨N,C,hc,hN⟩:=h.cm;have hlen:=h.len;have hil:=(List.getElem?_eq_some_iff.1 hi).1;obtain ⟨w1,r1,⟨C',hc1⟩,hg1⟩:=hc.put (x:=tt s) (wf_small h0 (by omega)) s (by omega);have hgne:gq≠cb:=by
  have:(q.drop i)[0]? =some (fr s):=by rw [List.getElem?_drop];simpa using hi
  exact hc.ne_cells (hq.got 0 _ this)
 have hq1:=hq.kept hg1 (λ e=>hgne (by injection e));have hbA:Below w1.heap.size w1 (w1.alloc (.cells #[.int .i64 (tt s)] 3)):=(Below.refl _ _).alloc (Nat.le_refl _) _;have hq2:=hq1.kept (grown_below hbA) (by simp);have hb1:Below w0.heap.size w0 w1:=h.bel.trans (below_of_grown hg1 h.bel.size h.cb0);obtain ⟨v',w3,g',o',cap',r3,e3,hq3,hg3⟩:=hq2.push 48 (heap_alloc_new w1 _) (Nat.le_trans hb1.size hbA.size) (by simp;omega);have hdl:(q.drop i).length=q.length-i:=by simp
 rw [hdl] at r3 e3;have hnq:tt s∉q:=λ k=>by
  have:=(h.has (tt s)).2 k;rw [hn] at this;cases this
 refine ⟨w1,r1,hg1,w3,v',g',o',cap',r3,by rw [e3,show q.length-i+1=q.length+1-i by omega],⟨?_,?_,λ x=>?_,λ x hx=>?_,?_,h.cb0⟩,by rw [drop_snoc _ (by omega)];exact hq3⟩
 ·refine h.bfs.more hi hs hin hnq (λ x hx=>?_) ?_
  ·have hxn:x≠tt s:=λ e=>hnq (by rw [<-e];exact hx)
   simp only [if_neg hxn]
  ·simp only [if_pos];rfl
 ·have hne3:some cb≠some gq:=λ e=>hgne (Option.some.inj e).symm
  exact ⟨N+1,C',(hc1.below hbA).kept hg3 hne3,by rw [List.length_append];exact Nat.add_le_add hN (Nat.le_refl 1)⟩
 ·by_cases e:x=tt s
  ·simp [e]
  ·rw [if_neg e,h.has,List.mem_append]
   simp [e]
 ·rcases List.mem_append.1 hx with hx | hx
  ·exact h.rng x hx
  ·rw [List.mem_singleton.1 hx];exact ⟨h0,h1⟩
 ·have hb2:=hb1.trans (hbA.mono hb1.size)
  exact hb2.trans (below_of_grown hg3 hb2.size hq.gB)
end
def InR (w0:World) (cb:Nat) (g:Int->List Stp) (inn:Stp->Bool) (a:Int) (i:Nat) (x:Int) (j:Nat) (v:Value) (wq:World):Prop:=
 ∃q c gq o cap,Sea w0 wq cb g inn a q c/\q[i]? =some x/\v= .slice (some ⟨gq,o,none⟩) (q.length-i) cap/\Que wq w0.heap.size gq o cap (q.drop i)/\Dn g inn q i/\(∀s∈(g x).take j,inn s=true->tt s∈q)
def OutR (w0:World) (cb:Nat) (g:Int->List Stp) (inn:Stp->Bool) (a:Int) (i:Nat) (v:Value) (wq:World):Prop:=
 ∃q c,Sea w0 wq cb g inn a q c/\i<=q.length/\Qv wq w0.heap.size v (q.drop i)/\Dn g inn q i
section
variable {w0 w w':World} {cb:Nat} {g:Int->List Stp} {inn:Stp->Bool} {a:Int} {q:List Int} {c:Int->Option Stp} {i j:Nat} {x:Int} {v:Value}
theorem take_step {α:Type} {l:List α} {j:Nat} {s:α} (h:l[j]? =some s) {t:α} (ht:t∈l.take (j+1)):t∈l.take j\/t=s:=by
 rw [List.take_add_one,h] at ht
 simpa using ht
theorem InR.skip (h:Sea w0 w cb g inn a q c) {gq o cap:Nat} (hi:q[i]? =some x) (hq:Que w w0.heap.size gq o cap (q.drop i)) (hd:Dn g inn q i) (hj:∀s∈(g x).take j,inn s=true->tt s∈q) {s:Stp} (hs:(g x)[j]? =some s) (hn:inn s=true->tt s∈q) (hb:Below w.heap.size w w'):InR w0 cb g inn a i x (j+1) (.slice (some ⟨gq,o,none⟩) (q.length-i) cap) w':=by
 refine ⟨q,c,gq,o,cap,h.below hb,hi,rfl,hq.kept (grown_below hb) (by simp),hd,λ t ht hin=>?_⟩;rcases take_step hs ht with ht | rfl
 ·exact hj t ht hin
 ·exact hn hin
theorem InR.more {gq o cap:Nat} {s:Stp} (hi:q[i]? =some x) (hd:Dn g inn q i) (hj:∀s∈(g x).take j,inn s=true->tt s∈q) (hs:(g x)[j]? =some s) (h:Sea w0 w cb g inn a (q++[tt s]) c) (hq:Que w w0.heap.size gq o cap ((q++[tt s]).drop i)):InR w0 cb g inn a i x (j+1) (.slice (some ⟨gq,o,none⟩) (q.length+1-i) cap) w:=by
 have hil:=(List.getElem?_eq_some_iff.1 hi).1;refine ⟨q++[tt s],c,gq,o,cap,h,by rw [List.getElem?_append_left hil];exact hi,by simp,hq,λ k y hk hy t ht hin=>?_,λ t ht hin=>?_⟩
 ·rw [List.getElem?_append_left (by omega)] at hy
  exact List.mem_append_left _ (hd k y hk hy t ht hin)
 ·rcases take_step hs ht with ht | rfl
  ·exact List.mem_append_left _ (hj t ht hin)
  ·simp
theorem InR.done (h:InR w0 cb g inn a i x j v w) (hj:(g x).length<=j):∃gq o len cap,v= .slice (some ⟨gq,o,none⟩) (len+1) (cap+1)/\len<=cap/\OutR w0 cb g inn a (i+1) (.slice (some ⟨gq,o+1,none⟩) len cap) w/\(len=0->∀ad cap',OutR w0 cb g inn a (i+1) (.slice ad 0 cap') w):=by
 obtain ⟨q,c,gq,o,cap,h1,hi,rfl,hq,hd,hjj⟩:=h;have hil:=(List.getElem?_eq_some_iff.1 hi).1;have hle:=hq.le;simp at hle;obtain ⟨cap',rfl⟩:∃k,cap=k+1:=⟨cap-1,by omega⟩;have hd':Dn g inn q (i+1):=λ k y hk hy s hs hin=>by
  by_cases e:k<i
  ·exact hd k y e hy s hs hin
  ·have:k=i:=by omega
   subst this;rw [hi] at hy;injection hy with hy
   subst hy;exact hjj s (by rw [List.take_of_length_le hj];exact hs) hin
 refine ⟨gq,o,q.length-(i+1),cap',by rw [show q.length-i=q.length-(i+1)+1 by omega],by omega,⟨q,c,h1,by omega,⟨some ⟨gq,o+1,none⟩,cap',by rw [List.length_drop],λ _=>⟨gq,o+1,rfl,?_⟩⟩,hd'⟩,λ h0 ad cap2=>⟨q,c,h1,by omega,⟨ad,cap2,by rw [List.length_drop,h0],λ hne=>?_⟩,hd'⟩⟩
 ·have hx:q.drop i=x::q.drop (i+1):=by
   rw [List.drop_eq_getElem_cons hil,(List.getElem?_eq_some_iff.1 hi).2]
  rw [hx] at hq;exact hq.tail
 ·exact absurd (List.eq_nil_of_length_eq_zero (by rw [List.length_drop,h0])) hne
theorem sea_closed (h:Sea w0 w cb g inn a q c) (hd:Dn g inn q q.length) {D:List Stp} (hg:∀s∈D,s∈g (fr s)) {b:Int} (hb:c b=none):∃S:Int->Bool,S a=true/\S b=false/\∀s∈D,out S s=true->inn s=false:=by
 refine ⟨λ x=>decide (x∈q),?_,?_,λ s hs ho=>?_⟩
 ·exact decide_eq_true (List.mem_of_getElem? h.bfs.first)
 ·refine decide_eq_false (λ k=>?_)
  have:=(h.has b).2 k;rw [hb] at this;cases this
 ·cases hin:inn s with
  | false=>rfl
  | true=>
    exfalso;unfold out at ho;simp at ho;obtain ⟨k,hk,hke⟩:=List.mem_iff_getElem.1 ho.1;exact ho.2 (hd k (fr s) hk (by rw [List.getElem?_eq_getElem hk,hke]) s (hg s hs) hin)
end
theorem more_S (ty:TypeId) (w:World) (B:Nat) (v:Value) (L:List Stp) (s:Stp) (h:G.Owns w B 346 v L) (hB:B<=w.heap.size) (hl:L.length<=90000):
 ∃v' w',(Builtin.append_ #[347,347] ty #[v,.slice (some ⟨w.heap.size,0,none⟩) 1 1]).run Tryz.prog (w.alloc (.cells #[.int .i64 s.1,.int .i64 s.2.1,.int .i64 s.2.2] 346))= .ok v' w'/\G.Owns w' B 346 v' (L++[s])/\w.grownBy w' v.ownBlock:=by
 have hb:Below w.heap.size w (w.alloc (.cells #[.int .i64 s.1,.int .i64 s.2.1,.int .i64 s.2.2] 346)):=(Below.refl _ _).alloc (Nat.le_refl _) _;have hn:=heap_alloc_new w (.cells #[.int .i64 s.1,.int .i64 s.2.1,.int .i64 s.2.2] 346);have hM:∀j u,(G.rowV [s])[j]? =some u->(w.alloc (.cells #[.int .i64 s.1,.int .i64 s.2.1,.int .i64 s.2.2] 346)).cell? ((⟨w.heap.size,0,none⟩:Addr).add j)=some u:=by
  intro j u hu;rw [G.addr0_add];have e:G.rowV [s]=G.encE s:=by simp [G.rowV]
  rw [e] at hu;simp only [World.cell?,hn]
  simpa [G.encE] using hu
 obtain ⟨v',w',r1,o1,g1,_⟩:=append_S ty _ B v L [s] (h.below hb) (Nat.le_trans hB hb.size) ⟨w.heap.size,0,none⟩ 1 1 rfl hM (by simp;omega);exact ⟨v',w',r1,o1,⟨g1.os.trans hb.os,g1.tape.trans hb.tape,g1.output.trans hb.output,Nat.le_trans hb.size g1.size,λ k hk hne=>(g1.block k (Nat.lt_of_lt_of_le hk hb.size) hne).trans (hb.block k hk)⟩⟩
theorem Sea.row {w0 w w':World} {cb:Nat} {g:Int->List Stp} {inn:Stp->Bool} {a:Int} {q:List Int} {c:Int->Option Stp} (h:Sea w0 w cb g inn a q c) {v:Value} {P:List Stp} (ho:G.Owns w (cb+1) 346 v P) (hg:w.grownBy w' v.ownBlock):Sea w0 w' cb g inn a q c:=by
 cases hv:v.ownBlock with
 | none=>
   rw [hv] at hg;exact h.below ⟨hg.os,hg.tape,hg.output,hg.size,λ k hk=>hg.block k hk (by simp)⟩
 | some k=>
   rw [hv] at hg;have:=(World.ownsRow.lt ho k hv).1;have:=h.cb0;exact h.grown hg (by omega) (by omega)
end Go.Proofs.YtebcjaenhiiflaaGreatDoor.S
