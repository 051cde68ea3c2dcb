import Derived.Test.YtebcjaenhiiflaaGreatDoorQKVlBl
set_option maxHeartbeats 4000000
set_option maxRecDepth 100000
namespace Go.Proofs.YtebcjaenhiiflaaGreatDoor.S
open Go.RowKit Go.WideMaps Go.Maps Go.Proofs.Tryz
theorem Ed.nat {n i:Nat} {L:List (Int × Int × Int)} (h:Ed n i L) {e:Int × Int × Int} (he:e∈L):e.2.1=(ea e:Int)/\e.2.2=(eb e:Int)/\ea e<n/\eb e<n/\ea e<eb e:=by
 obtain ⟨x,y,hxy,hy,hq⟩:=h.ends e he;have h1:e.2.1=(x:Int):=by rw [hq]
 have h2:e.2.2=(y:Int):=by rw [hq]
 have h3:ea e=x:=by unfold ea;rw [h1];simp
 have h4:eb e=y:=by unfold eb;rw [h2];simp
 rw [h3,h4];exact ⟨h1,h2,by omega,by omega,by omega⟩
theorem Ed.inn {n i:Nat} {L:List (Int × Int × Int)} (h:Ed n i L):∀e∈L,ea e<n/\eb e<n:=λ _ he=>⟨(h.nat he).2.2.1,(h.nat he).2.2.2.1⟩
theorem Ed.proper {n i:Nat} {L:List (Int × Int × Int)} (h:Ed n i L):∀e∈L,ea e≠eb e:=λ e he=>by have:=(h.nat he).2.2.2.2;omega
theorem z2a {n i:Nat} {L:List (Int × Int × Int)} (h:Ed n i L) (x:Nat) (Fe:Nat->Int):L.filter (G.stays Fe (λ _=>(x:Int)) 0 1)=wo L x:=by
 unfold wo;apply List.filter_congr;intro e he;have hn:=h.nat he;unfold G.stays G.among;rw [hn.1,hn.2.1,Bool.eq_iff_iff];simp;omega
theorem z2x {n i:Nat} {L:List (Int × Int × Int)} (h:Ed n i L) (x:Nat):Good n (joins (List.range n) (wo L x))/\Kx n L x (joins (List.range n) (wo L x)):=by
 have hin:∀d∈wo L x,ea d<n/\eb d<n:=λ d hd=>h.inn d (zdm.1 hd).1
 have hg:=zce (wo L x) _ (zbi n) hin;refine ⟨hg,λ u v hu hv=>?_⟩;rw [<-Lk.iff hu hv,zf7 (wo L x) _ (zbi n) hin];constructor
 ·intro c
  refine zae.lift c ?_;rintro p q (c | ⟨e,he,rfl,rfl⟩)
  ·rcases c with rfl | ⟨h1,h2,h3⟩
   ·exact zae.refl _
   ·have e1:(List.range n).getD p 0=p:=by simp [h1]
    have e2:(List.range n).getD q 0=q:=by simp [h2]
    rw [e1,e2] at h3;subst h3;exact zae.refl _
  ·exact zaj he
 ·intro c
  refine zae.lift c ?_;rintro p q ⟨e,he,rfl,rfl⟩;exact zae.base (.inr ⟨e,he,rfl,rfl⟩)
theorem But.cell {b:Nat} {w w':World} (h:But b w w') {g i:Nat} {v:Value} (hg:w.cell? ⟨g,i,none⟩=some v) (h1:g≠b):w'.cell? ⟨g,i,none⟩=some v:=by
 have hl:=lt_of_cell hg;simp only [World.cell?] at hg ⊢;rw [h.block g hl h1];exact hg
theorem zhl (L:List Nat) (ds:List (Int × Int × Int)) (d:Int × Int × Int):joins L (ds++[d])=joinL (joins L ds) (ea d) (eb d):=by
 rw [zf4];rfl
theorem z8s (x n B0 q M:Nat) (u:Value) (R:List (Int × Int × Int)) (w:World) (h:G.GAt w B0 168 61 q (n:Int) u R) (hn:n<=40) (hed:Ed n M R) (hM:M<=120):
 Calls prog 246 #[.pointer (some ⟨q,0,none⟩),.int .i64 (x:Int)] w λ e w'=>∃p b K,e= .returned (.pointer (some ⟨p,0,none⟩))/\zab w' p b K/\Good n K/\Kx n R x K/\Below w.heap.size w w'/\w.heap.size<=p/\w.heap.size<=b:=by
 have HG:=kd h;have HE:=kd hed;have HKX:=(show Hid _ from z2x hed x);have hlen:=hed.len;clear h hed;go_enter func246,ntmps246;go_wp2_with fail;refine (G.zbb (n:Int) B0 q u R w HG.out).mono ?_;rintro e w1 ⟨rfl,hw1⟩;subst hw1;go_wp2_with fail;refine (zfk n w1 hn).mono ?_;rintro e w2 ⟨rfl,hs2,hb2⟩;have HS2:=kd (And.intro hs2 hb2);have hsz:w1.heap.size+1<w2.heap.size:=hs2.plt;obtain ⟨W1,hW1⟩:∃W1,W1=w2.alloc (.cells #[.int .i64 (x:Int)] 3):=⟨_,rfl⟩;have hbW:Below w2.heap.size w2 W1:=by rw [hW1];exact (Below.refl _ _).alloc (Nat.le_refl _) _
 have hcW:W1.cell? ⟨w2.heap.size,0,none⟩=some (.int .i64 (x:Int)):=by rw [hW1,World.cell?_alloc_at _ _ _ _ rfl];rfl
 have HW1:=kd hW1.symm;have HBW:=kd (And.intro hbW hcW);clear hs2 hb2 hW1 hbW hcW;go_wp2_with fail;rw [HW1.out];refine (G.zjy (n:Int) B0 q u R none (some ⟨w2.heap.size,0,none⟩) 0 1 0 1 (λ _=>0) (λ _=>(x:Int)) W1 ((HG.out.below HS2.out.2).below HBW.out.1) (by omega) ⟨λ h=>by omega⟩ ⟨λ _=>⟨w2.heap.size,0,rfl,λ t ht=>by
  obtain rfl:t=0:=by omega
  exact HBW.out.2⟩⟩ (by omega) (by omega)).mono ?_
 rintro e w3 ⟨p',v',rfl,hg3,hb3⟩;rw [z2a HE.out] at hg3;have HG3:=kd hg3;have HB3:Hid (Below w2.heap.size w2 w3):=HBW.out.1.trans (hb3.mono HBW.out.1.size);have hwl:(wo R x).length<=R.length:=List.length_filter_le _ _;clear hg3 hb3 HBW HW1;go_wp2_with fail;refine (G.zbv (n:Int) _ p' v' (wo R x) w3 HG3.out (by omega)).mono ?_;rintro e w4 ⟨v,rfl,ho,hb4⟩;obtain ⟨m,hm⟩:∃m,m=(wo R x).length:=⟨_,rfl⟩;have HM':=kd hm;obtain ⟨va,vc,hv⟩:=ho.zal;rw [<-hm] at hv hwl;subst hv;have HO:=kd ho;have HB4:Hid (Below w2.heap.size w2 w4):=HB3.out.trans (hb4.mono HB3.out.size);have HS4:Hid (zab w4 (w1.heap.size+1) w1.heap.size (List.range n)):=HS2.out.1.below HB4.out hsz (by omega);have hs34:w2.heap.size<=w3.heap.size:=HB3.out.size;clear ho hb4 hm;go_wp2_with fail;go_loopw [21] (λ s21 wq=>∃j:Nat,j<=m/\s21= .int .i64 j/\zab wq (w1.heap.size+1) w1.heap.size (joins (List.range n) ((wo R x).take j))/\But w1.heap.size w4 wq) (λ s21 _=>m-(intOf s21).toNat)
 case atStart=>exact ⟨0,Nat.zero_le _,rfl,by simpa [joins] using HS4.out,But.refl _ _⟩
 case round=>
  clear HS4;obtain ⟨j,hj,rfl,hs,hk⟩:=hrel;have HR:=kd (And.intro hs hk);clear hs hk;by_cases hlt:j<m
  ·obtain ⟨e,hxe⟩:∃e,(wo R x)[j]? =some e:=⟨_,List.getElem?_eq_getElem (by rw [<-HM'.out];exact hlt)⟩
   have heL:=(zdm.1 (List.mem_of_getElem? hxe)).1;have hnat:=HE.out.nat heL;obtain ⟨g,hva⟩:∃g,va=some ⟨g,0,none⟩:=by
    rcases HO.out.shape with ⟨_,k⟩ | ⟨g,cap,k,_⟩
    ·rw [k] at hxe;simp at hxe
    ·injection k with e1 _ _
     exact ⟨g,e1⟩
   subst hva;obtain ⟨r0,r1,r2⟩:=HO.out.at (g:=g) rfl hxe;have hgb:=World.ownsRow.lt HO.out g rfl;have q0:=(HR.out.2.cell (g:=g) r0 (by omega));have q1:=(HR.out.2.cell (g:=g) r1 (by omega));have q2:=(HR.out.2.cell (g:=g) r2 (by omega));have HTK:Hid ((wo R x).take (j+1)=(wo R x).take j++[e]):=by
    show (wo R x).take (j+1)=_;rw [List.take_add_one,hxe];rfl
   rw [hnat.1] at q1;rw [hnat.2.1] at q2;obtain ⟨hA,hE,hAE⟩:=hnat.2.2;have HAE:Hid (joins (List.range n) ((wo R x).take (j+1))=joinL (joins (List.range n) ((wo R x).take j)) (ea e) (eb e)):=by
    show joins _ _=_;rw [HTK.out,zhl]
   have hgl:(joins (List.range n) ((wo R x).take j)).length=n:=(zce ((wo R x).take j) _ (zbi n) (λ d hd=>HE.out.inn d (zdm.1 (List.mem_of_mem_take hd)).1)).len;generalize ea e=A at*;generalize eb e=E at*;generalize e.1=x0 at*;generalize joins (List.range n) ((wo R x).take j)=J at*;clear hxe r0 r1 r2 heL hnat HTK;obtain ⟨W1,hW1⟩:∃W1,W1=wr.alloc (.cells #[.int .i64 x0,.int .i64 (A:Int),.int .i64 (E:Int)] 61):=⟨_,rfl⟩;have hh:W1.heap[wr.heap.size]? =some (.cells #[.int .i64 x0,.int .i64 (A:Int),.int .i64 (E:Int)] 61):=by rw [hW1];exact heap_alloc_new wr _
   have p0:W1.cell? ⟨wr.heap.size,0,none⟩=some (.int .i64 x0):=by simp [World.cell?,hh]
   have p1:W1.cell? ⟨wr.heap.size,1,none⟩=some (.int .i64 (A:Int)):=by simp [World.cell?,hh]
   have p2:W1.cell? ⟨wr.heap.size,2,none⟩=some (.int .i64 (E:Int)):=by simp [World.cell?,hh]
   have hbW:Below wr.heap.size wr W1:=by rw [hW1];exact (Below.refl _ _).alloc (Nat.le_refl _) _
   have HR1:Hid (zab W1 (w1.heap.size+1) w1.heap.size J/\But w1.heap.size w4 W1):=⟨HR.out.1.below hbW HR.out.1.plt HR.out.1.blt,HR.out.2.trans (But.of_below hbW)⟩;have HW1:=kd hW1.symm;clear hh hW1 hbW HR;go_wp2_with fail;rw [HW1.out];refine (zms A E _ _ J _ W1 HR1.out.1 (by omega) (by omega) (by omega) rfl).mono ?_;rintro e' w5 ⟨rfl,hs5,hk5⟩;have HR5:Hid (zab w5 (w1.heap.size+1) w1.heap.size (joins (List.range n) ((wo R x).take (j+1)))/\But w1.heap.size w4 w5):=by
    rw [HAE.out];exact ⟨hs5,HR1.out.2.trans hk5⟩
   clear hs5 hk5 HR1 p0 p1 p2;go_wp2_with fail;go_roundw;case rel=>exact ⟨j+1,by omega,by go_num,HR5.out.1,HR5.out.2⟩
   case measure=>simp [intOf];omega
  ·have hje:j=m:=by omega
   subst hje;have HF:Hid (zab wr (w1.heap.size+1) w1.heap.size (joins (List.range n) (wo R x))):=by
    have:=HR.out.1;rw [List.take_of_length_le (by rw [<-HM'.out];omega)] at this;exact this
   have HBF:Hid (Below w1.heap.size w1 wr):=(HS2.out.2.trans (HB4.out.mono HS2.out.2.size)).trans (HR.out.2.below (Nat.le_refl _) (by have:=HB4.out.size;omega));clear HR;go_wp2_with fail;go_ret;exact ⟨_,_,_,rfl,HF.out,HKX.out.1,HKX.out.2,HBF.out,Nat.le_succ _,Nat.le_refl _⟩
open Go Go.ChangeMaps Go.MapKept Go.WideShapes
open Go.WideElems (Fit rd rg pl rd_key rd_val rg_of rd_mk other_key)
open Go.Maps (Keyed)
section
variable {H:Type} {P:Program} {k:TypeId} {R:Value->Option (DataW H × List MemPlace)} {w:World} {b r n:Nat} {D:DataW H} {left:Lit->Bool} {cnt:Nat}
theorem zpk {t e:TypeId} (h:w.ranges P k R b r n D left cnt) (K:Keyed P k) (ht:P.underlying t=some (.map k e)) {key val:Value} {kl:Lit} {d:DataW H} {ps:List MemPlace}
 (hkey:keyOf P k key=some kl) (hv:R val=some (d,ps)) (hhas:Maps.has D kl=true):
 ∃w',(Instr.mapUpdate t (.map (some b)) key val).run P w= .ok () w'/\w'.ranges P k R b r n (D.put kl d) left cnt/\w.mapTurned w' b:=by
 have hne:=h.ne;obtain ⟨es,clock,since,seen,c0,hb,F,hs,rfl,hr,hold,rfl,hl1,hl2,hsc,hsk⟩:=h;rcases K.find w hkey es.toList F.keys with ⟨h1,h2⟩ | ⟨j,e0,h1,h2,h3⟩
 ·exfalso
  rw [Maps.has_eq,List.any_eq_true] at hhas;obtain ⟨p,hp,hpk⟩:=hhas;obtain ⟨x,hx,rfl⟩:=List.mem_map.1 (mem_sorted.1 hp);obtain ⟨y,hy⟩:=F.reads x hx;have e1:=WideAt.sameKey_eq hpk;rw [rg_of hy] at e1;exact h2 x hx (K.inj (e1▸rd_key hy) hkey)
 ·have hj:es[j]? =some e0:=by simpa using h2
  have hjl:j<es.toList.length:=(List.getElem?_eq_some_iff.1 h2).1;have hkeyf:∀e',es[j]? =some e'->({e' with key:=key,val:=val}:MapEntry).key=e'.key:=λ e' he'=>by rw [hj] at he';cases he';exact h3.symm
  have hlist:(es.modify j (λ e'=>{e' with key:=key,val:=val})).toList=es.toList.set j {e0 with key:=key,val:=val}:=by rw [Array.toList_modify,modify_eq_set _ _ _ _ h2]
  have who:∀x∈es.toList.set j {e0 with key:=key,val:=val},x={e0 with key:=key,val:=val}\/(x∈es.toList/\x.key≠key):=by
   intro x hx;obtain ⟨i,hi,ex⟩:=List.getElem_of_mem hx;rw [List.getElem_set] at ex;split at ex
   ·exact Or.inl ex.symm
   ·rename_i hne
    have hi':i<es.toList.length:=by simpa using hi
    refine Or.inr ⟨ex▸List.getElem_mem hi',?_⟩;rw [<-h3];exact other_key F h2 (by rw [List.getElem?_eq_getElem hi',ex]) (λ e1=>hne e1.symm)
  have he0:e0∈es.toList:=List.mem_of_getElem? h2;have hrg0:(rg P k R e0).1=kl:=by
   obtain ⟨y,hy⟩:=F.reads e0 he0;have m0:=rd_key hy;rw [h3,hkey] at m0;rw [rg_of hy];exact (Option.some.inj m0).symm
  have hrgn:(rg P k R {e0 with key:=key,val:=val}).1=kl:=by rw [rg_of (rd_mk hkey hv)]
  refine ⟨_,?_,⟨es.modify j (λ e'=>{e' with key:=key,val:=val}),clock,since,seen,c0,heap_setBlock_same hb _,⟨by simpa using F.size,stamped_modify F.stamped _ _ (λ _ _=>rfl) (λ e' _ he'=>hkeyf e' he'),?_⟩,by simpa using hs,?_,(heap_setBlock_other hb _ hne).trans hr,?_,?_,?_,?_,hsc,hsk⟩,⟨es,clock,_,clock,hb,rfl⟩⟩
  ·simp [Instr.mapUpdate,run_underlying ht,MapKept.run_getObj_map hb,K.check w false hkey,h1,hj,h3,K.stays w hkey,MapKept.run_setObj_map _ hb,Result.andThen,setBlock]
  ·intro x hx
   rw [hlist] at hx;rcases who x hx with rfl | ⟨hx',_⟩
   ·exact ⟨_,rd_mk hkey hv⟩
   ·exact F.reads x hx'
  ·rw [DataW.put_eq]
   congr 1
   symm;refine Maps.sorted_put K.one ⟨key,hkey⟩ (Maps.fit_keys F) (Maps.fit_apart K F) ?_;rw [Maps.filter_one K F hkey h2 h3,hlist,List.map_set,rg_of (rd_mk hkey hv)];exact set_perm _ _ (by simpa using hjl) _
  ·intro x hx
   rw [hlist] at hx;rcases who x hx with rfl | ⟨hx',_⟩
   ·exact hold e0 he0
   ·exact hold x hx'
  ·have e1:∀a:Array MapEntry,(leftOf a seen).size=((a.toList.map MapEntry.born).filter λ e=>!seen.contains e).length:=λ a=>by
    unfold leftOf;rw [<-Array.length_toList,Array.toList_filter,List.filter_map,List.length_map];rfl
   rw [e1,e1,hlist,List.map_set];have e2:(es.toList.map MapEntry.born).set j e0.born=es.toList.map MapEntry.born:=by
    apply List.ext_getElem
    ·simp
    ·intro i h1' h2'
     rw [List.getElem_set];split
     ·next hji=>
      subst hji;rw [List.getElem_map];have:=(List.getElem?_eq_some_iff.1 h2).2;rw [this]
     ·rfl
   rw [e2]
  ·intro x hx
   rw [hlist] at hx;rcases who x hx with rfl | ⟨hx',_⟩
   ·rw [hrgn,<-hrg0,hl1 e0 he0]
   ·exact hl1 x hx'
  ·intro kl' hk
   obtain ⟨x,hx,rfl⟩:=hl2 kl' hk;by_cases hxk:x.key=key
   ·have:(rg P k R x).1=kl:=by
     obtain ⟨y,hy⟩:=F.reads x hx;have m0:=rd_key hy;rw [hxk,hkey] at m0;rw [rg_of hy];exact (Option.some.inj m0).symm
    refine ⟨{e0 with key:=key,val:=val},?_,by rw [hrgn,this]⟩;rw [hlist];exact List.mem_iff_getElem.2 ⟨j,by simpa using hjl,by simp⟩
   ·refine ⟨x,?_,rfl⟩
    rw [hlist];obtain ⟨i,hi⟩:=List.getElem?_of_mem hx;obtain ⟨hil,hie⟩:=List.getElem?_eq_some_iff.1 hi;have hij:j≠i:=by
     rintro rfl;rw [h2] at hi;cases hi;exact hxk h3
    exact List.mem_iff_getElem.2 ⟨i,by simpa using hil,by rw [List.getElem_set,if_neg hij];exact hie⟩
end
section
variable {H:Type} {P:Program} (w:World) {ops:Array Oper} {rest:List Oper} {o:Oper} {a:Act} {Q:Exit->Act->World->Prop}
theorem zds (hg:o.guard=none) (m x v:Operand) (t:TypeId) (hop:o.op=Op.mapUpdate t m x v)
 (k e:TypeId) (K:Keyed P k) (ht:P.underlying t=some (.map k e)) (R:Value->Option (DataW H × List MemPlace)) (b r n:Nat) (D:DataW H) (left:Lit->Bool) (cnt:Nat)
 (hm:a.eval m= .map (some b)) (h:w.ranges P k R b r n D left cnt) (key val:Value) (kl:Lit) (hx:a.eval x=key) (hv:a.eval v=val) (hkey:keyOf P k key=some kl)
 (d:DataW H) (ps:List MemPlace) (hval:R val=some (d,ps)) (hhas:Maps.has D kl=true)
 (hK:∀w',w'.ranges P k R b r n (D.put kl d) left cnt->w.mapTurned w' b->wpList P ops Q rest (a.put o.dst undef) w'):
 wpList P ops Q (o::rest) a w:=by
 refine wpList_plain hg λ K' hK'=>?_
 obtain ⟨w',hrun,r1,r2⟩:=zpk h K ht hkey hval hhas;unfold Oper.wp;simp [execOp,hop,hm,hx,hv,hrun,Result.andThen];exact hK' _ _ (hK w' r1 r2)
end
end Go.Proofs.YtebcjaenhiiflaaGreatDoor.S
namespace Go.Proofs.YtebcjaenhiiflaaGreatDoor.S
open Go.Proofs.Tryz
open Go.RowKit Go.WideMaps Go.Maps
def zas (R:List (Int × Int × Int)) (j:Nat):Int:=(R.getD j (0,0,0)).1
theorem zcs {R:List (Int × Int × Int)} {i:Nat} {e:Int × Int × Int} (h:R[i]? =some e):zas R i=e.1:=by simp [zas,h]
theorem ze5 {R:List (Int × Int × Int)} (hu:G.Up R) {i j:Nat} (h:i<j) (hj:j<R.length):zas R i<zas R j:=by
 have:=List.pairwise_iff_getElem.1 hu i j (by omega) hj h
 simpa [zas,hj,show i<R.length by omega] using this
theorem zh3 {R:List (Int × Int × Int)} (hu:G.Up R) {i j:Nat} (hi:i<R.length) (hj:j<R.length) (h:zas R i=zas R j):i=j:=by
 rcases Nat.lt_trichotomy i j with c | c | c
 ·have:=ze5 hu c hj;omega
 ·exact c
 ·have:=ze5 hu c hi;omega
structure Lm (D:DataW Unit) (R:List (Int × Int × Int)) (L:List Nat):Prop where
 key:∀x:Int,Maps.has D (.int .i64 x)=true↔∃e∈R,e.1=x
 val:∀i e,R[i]? =some e->∀zd,D.atKey (.int .i64 e.1) zd= .lit (.int .i64 (zas R (L.getD i 0)))
structure za5 (w:World) (p m N:Nat) (D:DataW Unit) (v:Value):Prop where
 hp:w.heap[p]? =some (.cells #[.map (some m),v] 196)
 hm:w.ownsMap prog 3 (plainElem prog 3) m N D
namespace za5
open Go.Proofs.Tryz
variable {w w':World} {p m N:Nat} {D D':DataW Unit} {v:Value}
theorem plt (h:za5 w p m N D v):p<w.heap.size:=lt_of_some h.hp
theorem c0 (h:za5 w p m N D v):w.cell? ⟨p,0,none⟩=some (.map (some m)):=by simp [World.cell?,h.hp]
theorem c1 (h:za5 w p m N D v):w.cell? ⟨p,1,none⟩=some v:=by simp [World.cell?,h.hp]
theorem ne (h:za5 w p m N D v):p≠m:=by
 obtain ⟨es,c,hb,_⟩:=h.hm;rintro rfl;rw [h.hp] at hb;simp at hb
theorem below (h:za5 w p m N D v) (hb:Below w.heap.size w w'):za5 w' p m N D v:=
 ⟨by rw [hb.block p h.plt];exact h.hp,h.hm.kept (row:=none) ⟨hb.os,hb.tape,hb.output,hb.size,λ k hk _=>hb.block k hk⟩ (by simp)⟩
theorem drewN (h:za5 w p m N D v) (n:Nat):za5 (w.drewN n) p m N D v:=⟨h.hp,h.hm⟩
end za5
def nm (lo hi l:Int):Int:=if l=hi then lo else l
theorem yab9 {R:List (Int × Int × Int)} {L:List Nat} (hu:G.Up R) (g:Good R.length L) {x y i:Nat} (hx:x<R.length) (hy:y<R.length) (hi:i<R.length):
 nm (min (zas R (L.getD x 0)) (zas R (L.getD y 0))) (max (zas R (L.getD x 0)) (zas R (L.getD y 0))) (zas R (L.getD i 0))=zas R ((joinL L x y).getD i 0):=by
 have lx:=g.le x hx;have ly:=g.le y hy;have li:=g.le i hi;rw [zdi _ _ _ _ (by rw [g.len];exact hi)];generalize L.getD x 0=X at*;generalize L.getD y 0=Y at*;generalize L.getD i 0=I at*;have hmin:min (zas R X) (zas R Y)=zas R (min X Y):=by
  rcases Nat.lt_trichotomy X Y with c | c | c
  ·have:=ze5 hu c (by omega);rw [Nat.min_eq_left (by omega)];omega
  ·subst c;rw [Nat.min_self];omega
  ·have:=ze5 hu c (by omega);rw [Nat.min_eq_right (by omega)];omega
 have hmax:max (zas R X) (zas R Y)=zas R (max X Y):=by
  rcases Nat.lt_trichotomy X Y with c | c | c
  ·have:=ze5 hu c (by omega);rw [Nat.max_eq_right (by omega)];omega
  ·subst c;rw [Nat.max_self];omega
  ·have:=ze5 hu c (by omega);rw [Nat.max_eq_left (by omega)];omega
 rw [hmin,hmax];unfold nm named;by_cases c:I=max X Y
 ·rw [if_pos (by rw [c]),if_pos c]
 ·rw [if_neg (λ k=>c (zh3 hu (by omega) (by omega) k)),if_neg c]
structure Mid (D:DataW Unit) (R:List (Int × Int × Int)) (L:List Nat) (lo hi:Int) (left:Lit->Bool):Prop where
 key:∀x:Int,Maps.has D (.int .i64 x)=true↔∃e∈R,e.1=x
 old:∀i e,R[i]? =some e->left (.int .i64 e.1)=true->∀zd,D.atKey (.int .i64 e.1) zd= .lit (.int .i64 (zas R (L.getD i 0)))
 new:∀i e,R[i]? =some e->left (.int .i64 e.1)=false->∀zd,D.atKey (.int .i64 e.1) zd= .lit (.int .i64 (nm lo hi (zas R (L.getD i 0))))
theorem zn3 {D:DataW Unit} {R:List (Int × Int × Int)} {L:List Nat} (h:Lm D R L) (lo hi:Int):Mid D R L lo hi (Maps.has D):=
 ⟨h.key,λ i e he _=>h.val i e he,λ i e he hl=>by
   rw [(h.key e.1).2 ⟨e,List.mem_of_getElem? he,rfl⟩] at hl;cases hl⟩
theorem mid_end {D:DataW Unit} {R:List (Int × Int × Int)} {L:List Nat} {x y:Nat} {left:Lit->Bool} (hu:G.Up R) (g:Good R.length L) (hx:x<R.length) (hy:y<R.length)
 (h:Mid D R L (min (zas R (L.getD x 0)) (zas R (L.getD y 0))) (max (zas R (L.getD x 0)) (zas R (L.getD y 0))) left) (hl:∀kl,left kl=false):Lm D R (joinL L x y):=
 ⟨h.key,λ i e he zd=>by
   rw [h.new i e he (hl _) zd,yab9 hu g hx hy (List.getElem?_eq_some_iff.1 he).1]⟩
theorem zj6 (x y:Int):(Lit.int .i64 x).sameKey (.int .i64 y)=decide (x=y):=by
 by_cases h:x=y
 ·subst h;rw [WideAt.sameKey_self (zbe x)];simp
 ·rw [sameKey_ne (by simpa using h)];simp [h]
theorem zrw {R:List (Int × Int × Int)} (hu:G.Up R) {i j:Nat} {e f:Int × Int × Int} (hi:R[i]? =some e) (hj:R[j]? =some f) (h:e.1=f.1):i=j/\e=f:=by
 have e1:=zcs hi;have e2:=zcs hj;have hij:=zh3 hu (List.getElem?_eq_some_iff.1 hi).1 (List.getElem?_eq_some_iff.1 hj).1 (by rw [e1,e2,h]);subst hij;rw [hi] at hj;cases hj;exact ⟨rfl,rfl⟩
theorem zp4 {D:DataW Unit} {R:List (Int × Int × Int)} {L:List Nat} {lo hi:Int} {left:Lit->Bool} (hu:G.Up R) (h:Mid D R L lo hi left) {i:Nat} {e:Int × Int × Int} (he:R[i]? =some e) (hl:left (.int .i64 e.1)=true) (hne:zas R (L.getD i 0)≠hi):
 Mid D R L lo hi (λ z=>left z&&!z.sameKey (.int .i64 e.1)):=by
 refine ⟨h.key,λ j f hf hlf zd=>?_,λ j f hf hlf zd=>?_⟩
 ·simp only [Bool.and_eq_true] at hlf
  exact h.old j f hf hlf.1 zd
 ·by_cases c:f.1=e.1
  ·obtain ⟨rfl,rfl⟩:=zrw hu hf he c
   rw [h.old j f hf hl zd];unfold nm;rw [if_neg hne]
  ·simp only [zj6,c,decide_false,Bool.not_false,Bool.and_true] at hlf
   exact h.new j f hf hlf zd
theorem zrg {D:DataW Unit} {R:List (Int × Int × Int)} {L:List Nat} {lo hi:Int} {left:Lit->Bool} (hD:IsMap D) (hu:G.Up R) (h:Mid D R L lo hi left) {i:Nat} {e:Int × Int × Int} (he:R[i]? =some e) (heq:zas R (L.getD i 0)=hi):
 Mid (D.put (.int .i64 e.1) (.lit (.int .i64 lo))) R L lo hi (λ z=>left z&&!z.sameKey (.int .i64 e.1)):=by
 refine ⟨λ x=>?_,λ j f hf hlf zd=>?_,λ j f hf hlf zd=>?_⟩
 ·by_cases c:x=e.1
  ·subst c
   rw [has_put_same hD (zbe _)];exact ⟨λ _=>⟨e,List.mem_of_getElem? he,rfl⟩,λ _=>rfl⟩
  ·rw [has_put_other (by simpa using c)];exact h.key x
 ·by_cases c:f.1=e.1
  ·simp [zj6,c] at hlf
  ·rw [atKey_put_other (by simpa using c)]
   simp only [Bool.and_eq_true] at hlf;exact h.old j f hf hlf.1 zd
 ·by_cases c:f.1=e.1
  ·obtain ⟨rfl,rfl⟩:=zrw hu hf he c
   rw [atKey_put_same hD (zbe _)];unfold nm;rw [if_pos heq]
  ·rw [atKey_put_other (by simpa using c)]
   simp only [zj6,c,decide_false,Bool.not_false,Bool.and_true] at hlf;exact h.new j f hf hlf zd
theorem But.next {m r:Nat} {w w1 w2:World} (h:But m w w1) (hr:w.heap.size<=r) (hg:w1.grownBy w2 (some r)):But m w w2:=
 ⟨hg.os.trans h.os,hg.tape.trans h.tape,hg.output.trans h.output,Nat.le_trans h.size hg.size,λ k hk hn=>(hg.block k (Nat.lt_of_lt_of_le hk h.size) (λ e=>by injection e with e;omega)).trans (h.block k hk hn)⟩
theorem But.turned {m:Nat} {w w1 w2:World} (h:But m w w1) (hg:w1.mapTurned w2 m):But m w w2:=
 ⟨hg.grown.os.trans h.os,hg.grown.tape.trans h.tape,hg.grown.output.trans h.output,Nat.le_trans h.size hg.grown.size,λ k hk hn=>(hg.grown.block k (Nat.lt_of_lt_of_le hk h.size) (λ e=>by injection e with e;omega)).trans (h.block k hk hn)⟩
theorem zdy (w:World):(zeroValue 3).run prog w= .ok (.int .i64 0) w:=by kernel_rfl
theorem zfa {a b:Int} (h:(DataW.lit (.int .i64 a):DataW Unit)= .lit (.int .i64 b)):a=b:=by
 injection h with h
 injection h
theorem zhy {w:World} {m N:Nat} {D:DataW Unit} {R:List (Int × Int × Int)} {L:List Nat} (hm:w.ownsMap prog 3 (plainElem prog 3) m N D) (hl:Lm D R L) {i:Nat} {e:Int × Int × Int} (he:R[i]? =some e) (hw:(Lit.int .i64 e.1).wf=true):
 (Instr.lookup 183 (.map (some m)) (.int .i64 e.1) false).run prog w= .ok (.int .i64 (zas R (L.getD i 0))) w:=by
 obtain ⟨c,hrun,hat,_⟩:=hm.lookup_int za6 underlying183 underlying3 (zdy w) (zdt e.1 hw);rw [hl.val i e he] at hat;have:c=zas R (L.getD i 0):=by
  have h2:=zfa hat;exact h2.symm
 rw [hrun,this]
theorem zxt {R:List (Int × Int × Int)} {L:List Nat} {e f:Int × Int × Int} (x y p m N:Nat) (D:DataW Unit) (v:Value) (w:World) (h:za5 w p m N D v) (hl:Lm D R L) (g:Good R.length L) (hu:G.Up R) (hx:R[x]? =some e) (hy:R[y]? =some f) (hid:∀e∈R,0<=e.1/\e.1<=1099511627776):
 Calls prog 249 #[.pointer (some ⟨p,0,none⟩),.int .i64 e.1,.int .i64 f.1] w λ en w'=>en= .returned (.tuple #[])/\∃D',za5 w' p m N D' v/\Lm D' R (joinL L x y)/\But m w w':=by
 have hxl:=(List.getElem?_eq_some_iff.1 hx).1;have hyl:=(List.getElem?_eq_some_iff.1 hy).1;have hwf:∀e∈R,(Lit.int .i64 e.1).wf=true:=λ e he=>zar (hid e he).1 (hid e he).2
 have hix:0<=zas R (L.getD x 0)/\zas R (L.getD x 0)<=1099511627776:=by
  have hl:=Nat.lt_of_le_of_lt (g.le x hxl) hxl;have:=zcs (List.getElem?_eq_getElem hl);rw [this];exact hid _ (List.getElem_mem hl)
 have hiy:0<=zas R (L.getD y 0)/\zas R (L.getD y 0)<=1099511627776:=by
  have hl:=Nat.lt_of_le_of_lt (g.le y hyl) hyl;have:=zcs (List.getElem?_eq_getElem hl);rw [this];exact hid _ (List.getElem_mem hl)
 have lk1:=λ n=>zhy (h.drewN n).hm hl hx (hwf e (List.mem_of_getElem? hx))
 have lk2:=λ n=>zhy (h.drewN n).hm hl hy (hwf f (List.mem_of_getElem? hy))
 have hc0:=h.c0;have HB:=kd h;have HL:=kd hl;have HGD:Hid (Good R.length L/\G.Up R/\x<R.length/\y<R.length):=⟨g,hu,hxl,hyl⟩;have HWF:=kd hwf;obtain ⟨X,hX⟩:∃X,zas R (L.getD x 0)=X:=⟨_,rfl⟩;obtain ⟨Y,hY⟩:∃Y,zas R (L.getD y 0)=Y:=⟨_,rfl⟩;rw [hX] at lk1 hix;rw [hY] at lk2 hiy;have HXY:=kd (And.intro hX hY);have HSM:Hid (X=Y->joinL L x y=L):=λ k=>by
  apply zlh;exact zh3 hu (Nat.lt_of_le_of_lt (g.le x hxl) hxl) (Nat.lt_of_le_of_lt (g.le y hyl) hyl) (by rw [hX,hY];exact k)
 have hwX:(Lit.int .i64 X).wf=true:=zar hix.1 hix.2;have hwY:(Lit.int .i64 Y).wf=true:=zar hiy.1 hiy.2;clear h hl g hu hxl hyl hwf hX hY hid hx hy;generalize e.1=e1 at*;generalize f.1=f1 at*;by_cases heq:X=Y
 ·subst heq
  go_enter func249,ntmps249;go_wp2_with fail;go_quiet (fail);go_wp2_with fail;refine bodyPost_ret (results_none rfl _ _ _) rfl ?_;exact ⟨rfl,D,HB.out.drewN _,by rw [HSM.out trivial];exact HL.out,But.of_below (below_drewN (Below.refl _ _) _)⟩
 ·obtain ⟨lo,hlo⟩:∃lo,min X Y=lo:=⟨_,rfl⟩
  obtain ⟨hi,hhi⟩:∃hi,max X Y=hi:=⟨_,rfl⟩;have hwlo:(Lit.int .i64 lo).wf=true:=by
   rcases Int.le_total X Y with c | c
   ·rw [<-hlo,Int.min_eq_left c];exact hwX
   ·rw [<-hlo,Int.min_eq_right c];exact hwY
  have hne:(lo==hi)=false:=beq_eq_false_iff_ne.2 (by omega);have HMM:Hid (min (zas R (L.getD x 0)) (zas R (L.getD y 0))=lo/\max (zas R (L.getD x 0)) (zas R (L.getD y 0))=hi):=by
   refine ⟨?_,?_⟩ <;> rw [HXY.out.1,HXY.out.2] <;> assumption
  have hmsz:=HB.out.hm.lt;have hpsz:=HB.out.plt;have hpm:=HB.out.ne;rcases Int.lt_or_gt_of_ne heq with hlt | hgt
  ·obtain ⟨rfl,rfl⟩:X=lo/\Y=hi:=by omega
   go_enter func249,ntmps249;go_wp2_with fail;go_quiet (fail);have HPW:=kd HB.out.hp;have HOW:Hid (za5 (w.drewN nq) p m N D v/\But m w (w.drewN nq)):=⟨HB.out.drewN nq,But.of_below (below_drewN (Below.refl _ _) nq)⟩;have HSZ:Hid ((w.drewN nq).heap.size=w.heap.size):=rfl;generalize w.drewN nq=W at*;have hown:=HOW.out.1.hm;have hc0:=HOW.out.1.c0;clear lk1 lk2 HB HXY HSM heq;go_wp2_with (first
    | (at_range;refine wpList_range_own _ rfl _ 183 rfl 3 3 za6 underlying183 (plainElem prog 3) m N D rfl hown ?_;intro w0 hrg0 hg0 hs0)
    | fail)
   go_frame
   have HR0:=kd hrg0;have HG0:Hid (But m w w0):=HOW.out.2.trans ⟨hg0.os,hg0.tape,hg0.output,hg0.size,λ k hk _=>hg0.block k hk (by simp)⟩;clear hrg0 hg0 hs0 hown hc0;go_loopw [8] (λ _ wr=>∃(Dc:DataW Unit) (left:Lit->Bool) (cnt:Nat),wr.ranges prog 3 (plainElem prog 3) m W.heap.size N Dc left cnt/\Mid Dc R L X Y left/\But m w wr) (λ _ wr=>wr.rangeLeft m W.heap.size)
   case atStart=>exact ⟨D,_,_,HR0.out,zn3 HL.out _ _,HG0.out⟩
   case round=>
    obtain ⟨Dc,left,cnt,hrg,hmid,hbt⟩:=hrel;have HRG:=kd hrg;have HMD:=kd hmid;have HBT:=kd hbt;clear hrg hmid hbt HR0 HG0;go_wp2_with (first
     | (at_next;refine wpList_next_ranges_ii _ rfl _ rfl 3 3 .i64 .i64 za6 underlying3 underlying3 m W.heap.size N Dc left cnt rfl HRG.out ?_ ?_)
     | fail)
    ·intro _ hl0
     have HL0:=kd hl0;clear hl0;go_wp2
     go_end0
     refine ⟨rfl,Dc,⟨?_,HRG.out.owns⟩,mid_end HGD.out.2.1 HGD.out.1 HGD.out.2.2.1 HGD.out.2.2.2 (by rw [HMM.out.1,HMM.out.2];exact HMD.out) HL0.out,HBT.out⟩;rw [HBT.out.block p hpsz hpm];exact HPW.out
    ·intro x1 c w1 cnt1 hwx hwc hlx hat hrg1 hlt1 hg1 hs1 hen
     obtain ⟨d,hdR,rfl⟩:=(HMD.out.key x1).1 (has_true_of_atKey hat);obtain ⟨t,ht⟩:=List.getElem?_of_mem hdR;have hc:c=zas R (L.getD t 0):=by
      have h1:=HMD.out.old t d ht hlx .nil;rw [hat] at h1;exact zfa h1
     have HB1:Hid (But m w w1):=HBT.out.next (by rw [HSZ.out];exact Nat.le_refl _) hg1;have HR1:=kd (And.intro hrg1 hlt1);have HLX:=kd hlx;have HT:=kd (And.intro ht hc);have hkey:=zdt d.1 hwx;have HHAS:Hid (Maps.has Dc (.int .i64 d.1)=true):=has_true_of_atKey hat;have hp1:w1.heap[p]? =some (.cells #[.map (some m),v] 196):=by rw [HB1.out.block p hpsz hpm];exact HPW.out
     have hc1:w1.cell? ⟨p,0,none⟩=some (.map (some m)):=by simp [World.cell?,hp1]
     clear hwx hwc hlx hat hrg1 hlt1 hg1 hs1 hdR ht hc hp1;by_cases hch:c=Y
     ·as_aux_lemma=>
      have hcb:(c==Y)=true:=beq_iff_eq.2 hch;have HMT:=(show Hid _ from zrg HR1.out.1.owns.isMap HGD.out.2.1 HMD.out HT.out.1 (HT.out.2.symm.trans hch));generalize d.1=x1 at*;clear hch;go_wp2_with (first
       | (at_mapUpdate;refine zds _ rfl _ _ _ 183 rfl 3 3 za6 underlying183 (plainElem prog 3) m W.heap.size N Dc _ cnt1 rfl HR1.out.1 _ _ _ rfl rfl hkey _ [] (plainElem_int underlying3 hwlo) HHAS.out ?_;intro w2 hrg2 hturn2)
       | fail)
      go_frame
      go_roundw;case rel=>exact ⟨_,_,cnt1,hrg2,HMT.out,HB1.out.turned hturn2⟩
      case measure=>rw [hrg2.left_eq,HRG.out.left_eq];exact HR1.out.2
     ·as_aux_lemma=>
      have hcb:(c==Y)=false:=beq_eq_false_iff_ne.2 hch;have HMT:=(show Hid _ from zp4 HGD.out.2.1 HMD.out HT.out.1 HLX.out (λ k=>hch (HT.out.2.trans k)));generalize d.1=x1 at*;clear hch;go_wp2_with fail;go_roundw;case rel=>exact ⟨_,_,cnt1,HR1.out.1,HMT.out,HB1.out⟩
      case measure=>rw [HR1.out.1.left_eq,HRG.out.left_eq];exact HR1.out.2
  ·obtain ⟨rfl,rfl⟩:Y=lo/\X=hi:=by omega
   go_enter func249,ntmps249;go_wp2_with fail;go_quiet (fail);have HPW:=kd HB.out.hp;have HOW:Hid (za5 (w.drewN nq) p m N D v/\But m w (w.drewN nq)):=⟨HB.out.drewN nq,But.of_below (below_drewN (Below.refl _ _) nq)⟩;have HSZ:Hid ((w.drewN nq).heap.size=w.heap.size):=rfl;generalize w.drewN nq=W at*;have hown:=HOW.out.1.hm;have hc0:=HOW.out.1.c0;clear lk1 lk2 HB HXY HSM heq;go_wp2_with (first
    | (at_range;refine wpList_range_own _ rfl _ 183 rfl 3 3 za6 underlying183 (plainElem prog 3) m N D rfl hown ?_;intro w0 hrg0 hg0 hs0)
    | fail)
   go_frame
   have HR0:=kd hrg0;have HG0:Hid (But m w w0):=HOW.out.2.trans ⟨hg0.os,hg0.tape,hg0.output,hg0.size,λ k hk _=>hg0.block k hk (by simp)⟩;clear hrg0 hg0 hs0 hown hc0;go_loopw [8] (λ _ wr=>∃(Dc:DataW Unit) (left:Lit->Bool) (cnt:Nat),wr.ranges prog 3 (plainElem prog 3) m W.heap.size N Dc left cnt/\Mid Dc R L Y X left/\But m w wr) (λ _ wr=>wr.rangeLeft m W.heap.size)
   case atStart=>exact ⟨D,_,_,HR0.out,zn3 HL.out _ _,HG0.out⟩
   case round=>
    obtain ⟨Dc,left,cnt,hrg,hmid,hbt⟩:=hrel;have HRG:=kd hrg;have HMD:=kd hmid;have HBT:=kd hbt;clear hrg hmid hbt HR0 HG0;go_wp2_with (first
     | (at_next;refine wpList_next_ranges_ii _ rfl _ rfl 3 3 .i64 .i64 za6 underlying3 underlying3 m W.heap.size N Dc left cnt rfl HRG.out ?_ ?_)
     | fail)
    ·intro _ hl0
     have HL0:=kd hl0;clear hl0;go_wp2
     go_end0
     refine ⟨rfl,Dc,⟨?_,HRG.out.owns⟩,mid_end HGD.out.2.1 HGD.out.1 HGD.out.2.2.1 HGD.out.2.2.2 (by rw [HMM.out.1,HMM.out.2];exact HMD.out) HL0.out,HBT.out⟩;rw [HBT.out.block p hpsz hpm];exact HPW.out
    ·intro x1 c w1 cnt1 hwx hwc hlx hat hrg1 hlt1 hg1 hs1 hen
     obtain ⟨d,hdR,rfl⟩:=(HMD.out.key x1).1 (has_true_of_atKey hat);obtain ⟨t,ht⟩:=List.getElem?_of_mem hdR;have hc:c=zas R (L.getD t 0):=by
      have h1:=HMD.out.old t d ht hlx .nil;rw [hat] at h1;exact zfa h1
     have HB1:Hid (But m w w1):=HBT.out.next (by rw [HSZ.out];exact Nat.le_refl _) hg1;have HR1:=kd (And.intro hrg1 hlt1);have HLX:=kd hlx;have HT:=kd (And.intro ht hc);have hkey:=zdt d.1 hwx;have HHAS:Hid (Maps.has Dc (.int .i64 d.1)=true):=has_true_of_atKey hat;have hp1:w1.heap[p]? =some (.cells #[.map (some m),v] 196):=by rw [HB1.out.block p hpsz hpm];exact HPW.out
     have hc1:w1.cell? ⟨p,0,none⟩=some (.map (some m)):=by simp [World.cell?,hp1]
     clear hwx hwc hlx hat hrg1 hlt1 hg1 hs1 hdR ht hc hp1;by_cases hch:c=X
     ·as_aux_lemma=>
      have hcb:(c==X)=true:=beq_iff_eq.2 hch;have HMT:=(show Hid _ from zrg HR1.out.1.owns.isMap HGD.out.2.1 HMD.out HT.out.1 (HT.out.2.symm.trans hch));generalize d.1=x1 at*;clear hch;go_wp2_with (first
       | (at_mapUpdate;refine zds _ rfl _ _ _ 183 rfl 3 3 za6 underlying183 (plainElem prog 3) m W.heap.size N Dc _ cnt1 rfl HR1.out.1 _ _ _ rfl rfl hkey _ [] (plainElem_int underlying3 hwlo) HHAS.out ?_;intro w2 hrg2 hturn2)
       | fail)
      go_frame
      go_roundw;case rel=>exact ⟨_,_,cnt1,hrg2,HMT.out,HB1.out.turned hturn2⟩
      case measure=>rw [hrg2.left_eq,HRG.out.left_eq];exact HR1.out.2
     ·as_aux_lemma=>
      have hcb:(c==X)=false:=beq_eq_false_iff_ne.2 hch;have HMT:=(show Hid _ from zp4 HGD.out.2.1 HMD.out HT.out.1 HLX.out (λ k=>hch (HT.out.2.trans k)));generalize d.1=x1 at*;clear hch;go_wp2_with fail;go_roundw;case rel=>exact ⟨_,_,cnt1,HR1.out.1,HMT.out,HB1.out⟩
      case measure=>rw [HR1.out.1.left_eq,HRG.out.left_eq];exact HR1.out.2
end Go.Proofs.YtebcjaenhiiflaaGreatDoor.S
namespace Go.Proofs.YtebcjaenhiiflaaGreatDoor.S
open Go.RowKit Go.WideMaps Go.Maps Go.Proofs.Tryz
def plc (R:List (Int × Int × Int)) (x:Nat):List Nat:=(List.range R.length).filter λ i=>decide (tch (R.getD i (0,0,0)) x)
theorem zst (R:List (Int × Int × Int)):(List.range R.length).map (λ i=>R.getD i (0,0,0))=R:=by
 apply List.ext_getElem
 ·simp
 ·intro i h1 h2
  simp [h2]
theorem zx3 {n M:Nat} {R:List (Int × Int × Int)} (h:Ed n M R) (x:Nat):R.filter (G.zg7 (x:Int))=(plc R x).map λ i=>R.getD i (0,0,0):=by
 have h1:R.filter (G.zg7 (x:Int))=R.filter λ e=>decide (tch e x):=by
  apply List.filter_congr;intro e he;have hn:=h.nat he;unfold G.zg7;rw [hn.1,hn.2.1,Bool.eq_iff_iff];simp only [Bool.or_eq_true,beq_iff_eq,decide_eq_true_eq];unfold tch;omega
 rw [h1];unfold plc;conv=>lhs;rw [<-zst R]
 rw [List.filter_map];rfl
theorem zg3 {R:List (Int × Int × Int)} {x i:Nat}:i∈plc R x↔∃e,R[i]? =some e/\tch e x:=by
 unfold plc;rw [List.mem_filter,List.mem_range,decide_eq_true_eq];constructor
 ·rintro ⟨h1,h2⟩
  refine ⟨R[i],List.getElem?_eq_getElem h1,?_⟩
  simpa [h1] using h2
 ·rintro ⟨e,he,ht⟩
  refine ⟨(List.getElem?_eq_some_iff.1 he).1,?_⟩;rw [zf2 he];exact ht
theorem z7g (R:List (Int × Int × Int)) (x:Nat):(plc R x).length<=R.length:=by
 unfold plc;exact Nat.le_trans (List.length_filter_le _ _) (by simp)
theorem zyg (x0:Int) (A E x z:Nat) (w:World) (hz:(if x=A then E else A)=z):
 Calls prog 248 #[.agg #[.int .i64 x0,.int .i64 (A:Int),.int .i64 (E:Int)],.int .i64 (x:Int)] w λ e w'=>e= .returned (.int .i64 (z:Int))/\Below w.heap.size w w':=by
 by_cases h:x=A
 ·rw [if_pos h] at hz
  subst hz h;go_enter func248,ntmps248;go_wp2;go_ret;exact ⟨rfl,(Below.refl _ _).alloc (Nat.le_refl _) _⟩
 ·rw [if_neg h] at hz
  subst hz;have hne:((x:Int)==(A:Int))=false:=beq_eq_false_iff_ne.2 (by omega);go_enter func248,ntmps248;go_wp2;go_ret;exact ⟨rfl,(Below.refl _ _).alloc (Nat.le_refl _) _⟩
structure Fm (D:DataW Unit) (R:List (Int × Int × Int)) (ks:List (Nat × Nat)):Prop where
 key:∀z:Nat,Maps.has D (.int .i64 (z:Int))=true↔∃p∈ks,p.1=z
 val:∀p∈ks,∀zd,D.atKey (.int .i64 (p.1:Int)) zd= .lit (.int .i64 (zas R p.2))
 tidy:Tidy D
 size:Maps.size D=ks.length
theorem Fm.start (R:List (Int × Int × Int)):Fm (.map []) R []:=⟨λ z=>by simp [Maps.has],by simp,tidy_empty,rfl⟩
theorem Fm.put {D:DataW Unit} {R:List (Int × Int × Int)} {ks:List (Nat × Nat)} (h:Fm D R ks) (z i:Nat) (hno:∀p∈ks,p.1≠z):Fm (D.put (.int .i64 (z:Int)) (.lit (.int .i64 (zas R i)))) R (ks++[(z,i)]):=by
 have hnh:Maps.has D (.int .i64 (z:Int))=false:=by
  rw [Bool.eq_false_iff];intro c;obtain ⟨p,hp,hpz⟩:=(h.key z).1 c;exact hno p hp hpz
 refine ⟨λ y=>?_,λ p hp zd=>?_,h.tidy.put (zbe _) _,?_⟩
 ·by_cases c:y=z
  ·subst c
   rw [has_put_same h.tidy.isMap (zbe _)];exact ⟨λ _=>⟨(y,i),by simp,rfl⟩,λ _=>rfl⟩
  ·rw [has_put_other (by simp;omega),h.key]
   constructor
   ·rintro ⟨p,hp,hpy⟩;exact ⟨p,List.mem_append_left _ hp,hpy⟩
   ·rintro ⟨p,hp,hpy⟩
    rcases List.mem_append.1 hp with hp | hp
    ·exact ⟨p,hp,hpy⟩
    ·rw [List.mem_singleton.1 hp] at hpy;exact absurd hpy.symm c
 ·rcases List.mem_append.1 hp with hp | hp
  ·have:=hno p hp
   rw [atKey_put_other (by simp;omega)];exact h.val p hp zd
  ·rw [List.mem_singleton.1 hp,atKey_put_same h.tidy.isMap (zbe _)]
 ·rw [size_put h.tidy,hnh,h.size];simp
def zh7 (R:List (Int × Int × Int)) (x:Nat):Prop:=∃e∈R,∃f∈R,tch e x/\tch f x/\¬cnR (wo R x) (ot e x) (ot f x)
theorem zab.bk {a b c p q:Nat} {L:List Nat} {w w':World} (h:zab w p q L) (k:Bk a b c w w') (h1:p≠a/\p≠b/\p≠c) (h2:q≠a/\q≠b/\q≠c):zab w' p q L:=
 ⟨by rw [k.block p h.plt h1.1 h1.2.1 h1.2.2];exact h.hp,by rw [k.block q h.blt h2.1 h2.2.1 h2.2.2];exact h.hb⟩
theorem zuu (x n B0 q M p m N:Nat) (u v:Value) (R:List (Int × Int × Int)) (L:List Nat) (D:DataW Unit) (w:World) (h:G.GAt w B0 168 61 q (n:Int) u R) (hn:n<=40) (hx:x<n) (hed:Ed n M R) (hM:M<=120)
 (hb:za5 w p m N D v) (hl:Lm D R L) (hs:Bs R x [] L):
 Calls prog 135 #[.pointer (some ⟨p,0,none⟩),.pointer (some ⟨q,0,none⟩),.int .i64 (x:Int)] w λ e w'=>∃(k:Nat) (D':DataW Unit) (L':List Nat),e= .returned (.int .i64 (k:Int))/\za5 w' p m N D' v/\Lm D' R L'/\Bs R (x+1) [] L'/\But m w w'/\(1<k↔zh7 R x):=by
 have hpm:=hb.ne;have hpw:=hb.plt;have hmw:=hb.hm.lt;have hlen:=hed.len;have hpl:=z7g R x;have HG:=kd h;have HE:=kd hed;have HB:=kd hb;have HL:=kd hl;have HS:=kd hs;have HID:Hid (∀e∈R,0<=e.1/\e.1<=1099511627776):=λ e he=>by have:=hed.ids e he;omega
 clear h hed hb hl hs;go_enter func135,ntmps135;go_wp2_with fail;refine (G.yabr (x:Int) (n:Int) B0 q u R w HG.out (by omega) (by omega)).mono ?_;rintro e w1 ⟨v1,rfl,ho1,hb1⟩;rw [zx3 HE.out] at ho1;obtain ⟨va,vc,hv⟩:=ho1.zal;obtain ⟨len,hlenv⟩:∃len,(plc R x).length=len:=⟨_,rfl⟩;rw [List.length_map,hlenv] at hv;rw [hlenv] at hpl;subst hv;have HLEN:=kd hlenv;have HO1:=kd (And.intro ho1 hb1);clear ho1 hb1 hlenv;go_wp2_with fail;refine (z8s x n B0 q M u R w1 (HG.out.below HO1.out.2) hn HE.out hM).mono ?_;rintro e w2 ⟨ps,bs,K,rfl,hs2,hgK,hKx,hb2,hps,hbs⟩;have hsz1:=HO1.out.2.size;have HB2:Hid (Below w.heap.size w w2):=HO1.out.2.trans (hb2.mono HO1.out.2.size);have HO2:Hid (G.zad w2 w.heap.size 61 (.slice va len vc) ((plc R x).map λ i=>R.getD i (0,0,0))):=HO1.out.1.below hb2;have HS2:Hid (zab w2 ps bs K/\Good n K/\Kx n R x K):=⟨hs2,hgK,hKx⟩;have hps2:=hs2.plt;have hbs2:=hs2.blt;obtain ⟨w3,hw3⟩:∃w3,w3=w2.alloc (.map #[] 0):=⟨_,rfl⟩;have hb3:Below w2.heap.size w2 w3:=by rw [hw3];exact (Below.refl _ _).alloc (Nat.le_refl _) _
 have hm3:w3.ownsMap prog 3 (plainElem (H:=Unit) prog 3) w2.heap.size 0 (.map []):=by rw [hw3];exact World.ownsMap_made w2 _ _ _
 have HW3:=kd hw3.symm;have HB3:Hid (Below w.heap.size w w3/\Below w2.heap.size w2 w3):=⟨HB2.out.trans (hb3.mono HB2.out.size),hb3⟩;have HM3:=kd hm3;have hsz2:=HB2.out.size;have hmm:=@run_makeMap prog;clear hs2 hgK hKx hb2 hw3 hb3 hm3 HO1;go_wp2_with fail;rw [HW3.out];clear hmm;go_loopw [29] (λ s29 wq=>∃(t N1:Nat) (Dt Df:DataW Unit) (Lt:List Nat) (ks:List (Nat × Nat)),t<=len/\s29= .int .i64 t/\za5 wq p m N Dt v/\Lm Dt R Lt/\Bs R x ((plc R x).take t) Lt/\Gth R x K ((plc R x).take t) ks/\wq.ownsMap prog 3 (plainElem prog 3) w2.heap.size N1 Df/\N1<=t/\Fm Df R ks/\Bk m w2.heap.size w2.heap.size w3 wq) (λ s29 _=>len-(intOf s29).toNat)
 case atStart=>exact ⟨0,0,D,.map [],L,[],Nat.zero_le _,rfl,HB.out.below HB3.out.1,HL.out,HS.out,zz4 R x K,HM3.out,Nat.le_refl _,Fm.start R,Bk.refl _⟩
 case round=>
  clear HB HL HS HM3;obtain ⟨t,N1,Dt,Df,Lt,ks,ht,rfl,hbl,hlm,hbs',hgth,hmf,hN1,hfm,hbk⟩:=hrel;have HBL:=kd (And.intro hbl hlm);have HBS:=kd (And.intro hbs' hgth);have HFM:=kd (And.intro hmf hfm);have HBK:=kd hbk;clear hbl hlm hbs' hgth hmf hfm hbk;by_cases hlt:t<len
  ·obtain ⟨i,hi⟩:∃i,(plc R x)[t]? =some i:=⟨_,List.getElem?_eq_getElem (by rw [HLEN.out];exact hlt)⟩
   obtain ⟨e,he,hte⟩:=zg3.1 (List.mem_of_getElem? hi);have hnat:=HE.out.nat (List.mem_of_getElem? he);have hxe:((plc R x).map λ i=>R.getD i (0,0,0))[t]? =some e:=by rw [List.getElem?_map,hi];simp [he]
   obtain ⟨g,hva⟩:∃g,va=some ⟨g,0,none⟩:=by
    rcases HO2.out.shape with ⟨_,k⟩ | ⟨g,cap,k,_⟩
    ·rw [k] at hxe;simp at hxe
    ·injection k with e1 _ _
     exact ⟨g,e1⟩
   subst hva;have hO3:=HO2.out.below HB3.out.2;obtain ⟨r0,r1,r2⟩:=hO3.at (g:=g) rfl hxe;have hgb:=World.ownsRow.lt HO2.out g rfl;have q0:=HBK.out.cell r0 (by omega) (by omega) (by omega);have q1:=HBK.out.cell r1 (by omega) (by omega) (by omega);have q2:=HBK.out.cell r2 (by omega) (by omega) (by omega);rw [hnat.1] at q1;rw [hnat.2.1] at q2;have HTK:Hid ((plc R x).take (t+1)=(plc R x).take t++[i]):=by
    show (plc R x).take (t+1)=_;rw [List.take_add_one,hi];rfl
   have HIE:=kd (And.intro he hte);obtain ⟨z,hz⟩:∃z,(if x=ea e then eb e else ea e)=z:=⟨_,rfl⟩;have hzn:z<n:=by rw [<-hz];have:=hnat.2.2;split <;> omega
   obtain ⟨k,hk⟩:∃k,K.getD z 0=k:=⟨_,rfl⟩;have HLB:Hid (lb R x K i=k):=by
    show lb R x K i=k;unfold lb ot;rw [zf2 he,hz,hk]
   have hkn:k<n:=by rw [<-hk];exact Nat.lt_of_le_of_lt (HS2.out.2.1.le z hzn) hzn
   have hidw:=HE.out.ids e (List.mem_of_getElem? he);have hwid0:(Lit.int .i64 e.1).wf=true:=zar hidw.1 (by omega);have hkey:=zdt (k:Int) (zar (by omega) (by omega));obtain ⟨x0,hx0⟩:∃x0,e.1=x0:=⟨_,rfl⟩;obtain ⟨A,hA⟩:∃A,ea e=A:=⟨_,rfl⟩;obtain ⟨E,hE⟩:∃E,eb e=E:=⟨_,rfl⟩;have HXE:=kd hx0.symm;rw [hA,hE] at hz;have HZ:=kd (And.intro hz hk);have hwid:(Lit.int .i64 x0).wf=true:=by rw [<-hx0];exact hwid0
   rw [hx0] at q0;rw [hA] at q1;rw [hE] at q2;obtain ⟨W1,hW1⟩:∃W1,W1=wr.alloc (.cells #[.int .i64 x0,.int .i64 (A:Int),.int .i64 (E:Int)] 61):=⟨_,rfl⟩;have hh:W1.heap[wr.heap.size]? =some (.cells #[.int .i64 x0,.int .i64 (A:Int),.int .i64 (E:Int)] 61):=by rw [hW1];exact heap_alloc_new wr _
   have hbW:Below wr.heap.size wr W1:=by rw [hW1];exact (Below.refl _ _).alloc (Nat.le_refl _) _
   have HBX:=kd (And.intro hh hbW);have p0:W1.cell? ⟨wr.heap.size,0,none⟩=some (.int .i64 x0):=by simp [World.cell?,hh]
   have p1:W1.cell? ⟨wr.heap.size,1,none⟩=some (.int .i64 (A:Int)):=by simp [World.cell?,hh]
   have p2:W1.cell? ⟨wr.heap.size,2,none⟩=some (.int .i64 (E:Int)):=by simp [World.cell?,hh]
   have HW1:=kd hW1.symm;have hwr1:wr.heap.size<W1.heap.size:=lt_of_some hh;have hwrs:=HBK.out.size;have hw3s:=HB3.out.2.size;clear hi he hte hnat hxe hO3 r0 r1 r2 hz hk hh hW1 hbW hidw hx0 hA hE hwid0;go_wp2_with fail;rw [HW1.out];refine (zyg x0 A E x z W1 HZ.out.1).mono ?_;rintro e' w4 ⟨rfl,hb4⟩;have HB4:Hid (Below W1.heap.size W1 w4/\Below wr.heap.size wr w4):=⟨hb4,HBX.out.2.trans (hb4.mono HBX.out.2.size)⟩;clear hb4 p0 p1 p2;go_wp2_with fail;refine (zts z ps bs K w4 ((HS2.out.1.below HB3.out.2 hps2 hbs2 |>.bk HBK.out (by omega) (by omega)).below HB4.out.2 (by omega) (by omega)) HS2.out.2.1 hzn HZ.out.2).mono ?_;rintro e' w5 ⟨rfl,hb5⟩;have HB5:Hid (Below wr.heap.size wr w5):=HB4.out.2.trans (hb5.mono HB4.out.2.size);have hh5:w5.heap[wr.heap.size]? =some (.cells #[.int .i64 x0,.int .i64 (A:Int),.int .i64 (E:Int)] 61):=by
    rw [hb5.block _ (Nat.lt_of_lt_of_le hwr1 HB4.out.1.size),HB4.out.1.block _ hwr1];exact HBX.out.1
   have p0:w5.cell? ⟨wr.heap.size,0,none⟩=some (.int .i64 x0):=by simp [World.cell?,hh5]
   have hown:w5.ownsMap prog 3 (plainElem prog 3) w2.heap.size N1 Df:=HFM.out.1.kept (row:=none) ⟨HB5.out.os,HB5.out.tape,HB5.out.output,HB5.out.size,λ k hk _=>HB5.out.block k hk⟩ (by simp);have HBL5:Hid (za5 w5 p m N Dt v):=HBL.out.1.below HB5.out;have HBK5:Hid (Bk m w2.heap.size w2.heap.size w3 w5):=HBK.out.trans (Bk.of_below HB5.out);clear hb5 hh5 HB4 HBX HW1 hwr1;by_cases hc:∃pq∈ks,pq.1=k
   ·as_aux_lemma=>
    obtain ⟨⟨k',j⟩,hpq,hk'⟩:=hc;simp only at hk';subst hk';have hj:=HBS.out.2.at_ _ hpq;simp only at hj;obtain ⟨f,hf,htf⟩:=zg3.1 (List.mem_of_mem_take hj.1);have hhas:Maps.has Df (.int .i64 (k':Int))=true:=(HFM.out.2.key k').2 ⟨_,hpq,rfl⟩;have hval:=HFM.out.2.val _ hpq (.lit (.int .i64 0));simp only at hval;rw [zcs hf] at hval;have HVAL:=kd hval;have hrx:Rx R x j i:=(z4o HS2.out.2.2 HE.out.inn hf HIE.out.1 htf HIE.out.2).2 (by rw [hj.2,HLB.out]);have HNX:Hid (Bs R x ((plc R x).take (t+1)) (joinL Lt j i)/\Gth R x K ((plc R x).take (t+1)) ks):=by
     rw [HTK.out];exact ⟨z6w HBS.out.1 hj.1 hrx,z6s HBS.out.2 hpq HLB.out.symm⟩
    have HF:=kd hf;have HHAS:=kd hhas;clear hj hf htf hhas hval hrx hpq;go_wp2_with (first
     | (at_lookup;refine wpList_lookup_own_ok_int _ rfl _ _ 183 rfl 3 3 .i64 za6 underlying183 underlying3 (zdy _) w2.heap.size N1 Df rfl hown _ _ rfl hkey ?_;intro c hat hwc;rw [HVAL.out] at hat;obtain rfl:=zfa hat;rw [HHAS.out];clear hat hwc)
     | fail)
    rw [HXE.out];refine (zxt j i p m N Dt v w5 HBL5.out HBL.out.2 HBS.out.1.good HE.out.up HF.out HIE.out.1 HID.out).mono ?_;rintro e' w6 ⟨rfl,D6,hb6,hl6,hk6⟩;have hm6:w6.ownsMap prog 3 (plainElem prog 3) w2.heap.size N1 Df:=hown.kept (row:=some m) ⟨hk6.os,hk6.tape,hk6.output,hk6.size,λ k hk hn=>hk6.block k hk (λ c=>hn (by rw [c]))⟩ (by simp;omega);have HR6:Hid (za5 w6 p m N D6 v/\Lm D6 R (joinL Lt j i)/\w6.ownsMap prog 3 (plainElem prog 3) w2.heap.size N1 Df/\Bk m w2.heap.size w2.heap.size w3 w6):=⟨hb6,hl6,hm6,HBK5.out.trans (Bk.yabb hk6)⟩;clear hb6 hl6 hk6 hm6 hown p0;go_wp2_with fail;go_roundw;case rel=>exact ⟨t+1,N1,D6,Df,joinL Lt j i,ks,by omega,by go_num,HR6.out.1,HR6.out.2.1,HNX.out.1,HNX.out.2,HR6.out.2.2.1,by omega,HFM.out.2,HR6.out.2.2.2⟩
    case measure=>simp [intOf];omega
   ·as_aux_lemma=>
    have hno:∀pq∈ks,pq.1≠k:=λ pq hp c=>hc ⟨pq,hp,c⟩
    have hhas:Maps.has Df (.int .i64 (k:Int))=false:=by
     rw [Bool.eq_false_iff];intro c;obtain ⟨pq,hp,hpk⟩:=(HFM.out.2.key k).1 c;exact hno pq hp hpk
    have HHAS:=kd hhas;have HVAL:Hid (Df.atKey (.int .i64 (k:Int)) (.lit (.int .i64 0))= .lit (.int .i64 0)):=atKey_of_not_has hhas _;have HNX:Hid (Bs R x ((plc R x).take (t+1)) Lt/\Gth R x K ((plc R x).take (t+1)) (ks++[(k,i)])/\Fm (Df.put (.int .i64 (k:Int)) (.lit (.int .i64 x0))) R (ks++[(k,i)])):=by
     rw [HTK.out];refine ⟨yaa4 HBS.out.1 (λ j hj hr=>?_),?_,?_⟩
     ·obtain ⟨f,hf,htf⟩:=zg3.1 (List.mem_of_mem_take hj)
      obtain ⟨pq,hp,hpk⟩:=HBS.out.2.all j hj;refine hno pq hp ?_;rw [hpk,(z4o HS2.out.2.2 HE.out.inn hf HIE.out.1 htf HIE.out.2).1 hr,HLB.out]
     ·have:=z5a (i:=i) HBS.out.2 (λ pq hp=>by rw [HLB.out];exact hno pq hp)
      rw [HLB.out] at this;exact this
     ·have:=HFM.out.2.put k i hno
      rw [zcs HIE.out.1,<-HXE.out] at this;exact this
    have hNm:N1<maxLen:=by unfold maxLen;omega
    clear hc hno hhas;go_wp2_with (first
     | (at_lookup;refine wpList_lookup_own_ok_int _ rfl _ _ 183 rfl 3 3 .i64 za6 underlying183 underlying3 (zdy _) w2.heap.size N1 Df rfl hown _ _ rfl hkey ?_;intro c hat hwc;rw [HVAL.out] at hat;obtain rfl:=zfa hat;rw [HHAS.out];clear hat hwc)
     | (at_mapUpdate;refine wpList_mapUpdate_own _ rfl _ _ _ 183 rfl 3 3 za6 underlying183 (plainElem prog 3) w2.heap.size N1 Df rfl hown hNm _ _ _ rfl rfl hkey _ [] (plainElem_int underlying3 hwid) ?_;intro w6 hown6 hgrow6)
     | fail)
    go_roundw;case rel=>exact ⟨t+1,N1+1,Dt,_,Lt,ks++[(k,i)],by omega,by go_num,⟨by rw [hgrow6.block p HBL5.out.plt (by simp;omega)];exact HBL5.out.hp,HBL5.out.hm.kept hgrow6 (by simp;omega)⟩,HBL.out.2,HNX.out.1,HNX.out.2.1,hown6,by omega,HNX.out.2.2,HBK5.out.trans (Bk.z2t hgrow6)⟩
    case measure=>simp [intOf];omega
  ·have hte:t=len:=by omega
   subst hte;have htk:(plc R x).take t=plc R x:=by rw [<-HLEN.out];exact List.take_length
   have hbs9:=HBS.out;rw [htk] at hbs9;have HBS9:Hid (Bs R (x+1) [] Lt):=z5x hbs9.1 (λ i e he ht=>zg3.2 ⟨e,he,ht⟩);have HCUT:Hid (1<ks.length↔zh7 R x):=z6x hbs9.2 HS2.out.2.2 HE.out.inn (λ i=>zg3);have HBT:Hid (But m w wr):=⟨HBK.out.os.trans HB3.out.1.os,HBK.out.tape.trans HB3.out.1.tape,HBK.out.output.trans HB3.out.1.output,Nat.le_trans HB3.out.1.size HBK.out.size,λ k hk hn=>(HBK.out.block k (by have:=HB3.out.1.size;omega) hn (by omega) (by omega)).trans (HB3.out.1.block k hk)⟩;have hown:=HFM.out.1;have hsz:=HFM.out.2.size;have HSZ:=kd hsz;clear htk hbs9 hsz;go_wp2_with (first
    | (at_len;refine wpList_len_own _ rfl _ 183 rfl 3 3 underlying183 (plainElem prog 3) w2.heap.size N1 Df rfl hown ?_)
    | fail)
   go_ret;exact ⟨ks.length,Dt,Lt,by rw [HSZ.out];rfl,HBL.out.1,HBL.out.2,HBS9.out,HBT.out,HCUT.out⟩
end Go.Proofs.YtebcjaenhiiflaaGreatDoor.S
