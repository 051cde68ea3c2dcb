import Derived.DeepKeys4
import Derived.Maps.GroupsBeside
import Derived.Test.YtebcjaenhiiflaaGreatDoorQJhJi
import Derived.Test.YtebcjaenhiiflaaGreatDoorQKVqKVt
set_option maxHeartbeats 4000000
set_option maxRecDepth 100000
namespace Go.Proofs.YtebcjaenhiiflaaGreatDoor.I
open Go.RowKit Go.WideMaps Go.Maps Go.Lib Go.Proofs.Tryz
structure IVx (w:World) (a b x n:Nat) (L:List G.E) (p q:Nat) (v:Value) (R B:List G.E) (W T:List Nat) (D:DataW Unit) (pw bw pt bt mp N g:Nat):Prop where
 ix:Ix w x p q
 gra:G.GAt w g 168 61 p (n:Int) v L
 now:S.Now w q pw bw pt bt mp N n R B W T D
 ok:Ok n L
 perm:R.Perm L
 nl:N<=120
 ip:a<=p/\p<b
 iw:a<=bw/\bw<b
 it:a<=bt/\bt<b
 im:a<=mp/\mp<b
 iv:∀k,v.ownBlock=some k->a<=k/\k<b
def IV (w:World) (a b x n:Nat) (L:List G.E):Prop:=
 ∃p q v R B W T D pw bw pt bt mp N g,IVx w a b x n L p q v R B W T D pw bw pt bt mp N g
variable {w0 w w':World} {a b x p q n:Nat} {v:Value} {L R B:List G.E} {W T:List Nat} {D:DataW Unit} {pw bw pt bt mp N g:Nat}
theorem Ok.unl (h:Ok n L):S.Unl L:=by
 unfold S.Unl;have hu:L.Pairwise (λ x y=>x.1<y.1):=h.up;exact hu.imp (λ {x y} (k:x.1<y.1)=>by omega)
theorem IVx.unl (h:IVx w a b x n L p q v R B W T D pw bw pt bt mp N g):S.Unl R:=
 h.perm.symm.pairwise h.ok.unl (λ {_ _} k=>k.symm)
theorem IVx.below (h:IVx w a b x n L p q v R B W T D pw bw pt bt mp N g) (hb:Below w.heap.size w w'):IVx w' a b x n L p q v R B W T D pw bw pt bt mp N g:=
 {h with ix:=h.ix.below hb h.ix.lt,gra:=h.gra.below hb,now:=h.now.below hb}
theorem IV.below (h:IV w a b x n L) (hb:Below w.heap.size w w'):IV w' a b x n L:=by
 obtain ⟨p,q,v,R,B,W,T,D,pw,bw,pt,bt,mp,N,g,h⟩:=h;exact ⟨p,q,v,R,B,W,T,D,pw,bw,pt,bt,mp,N,g,h.below hb⟩
theorem map_lt {w:World} {p pw bw pt bt m N:Nat} {W T:List Nat} {D:DataW Unit} (h:S.BAt w p pw bw pt bt m N W T D):m<w.heap.size:=by
 obtain ⟨es,c,hm⟩:=h.zgz;exact G.lt_of_some hm
theorem IAt.iv (h:IAt w0 w x p q n v L R B W T D pw bw pt bt mp N) (hb:w.heap.size<=b) (ha:a<=w0.heap.size):IV w a b x n L:=by
 have h1:=h.rn.now.at_.sw.blt;have h2:=h.rn.now.at_.st.blt;have h3:=map_lt h.rn.now.at_;have h4:=h.gra.plt;have h5:=h.rn.hb;have h6:=h.hp;refine ⟨p,q,v,R,B,W,T,D,pw,bw,pt,bt,mp,N,w0.heap.size,h.ix,h.gra,h.rn.now,h.ok,h.perm,by have:=h.rn.nl;have:=h.rn.rl;omega,⟨by omega,by omega⟩,⟨by omega,by omega⟩,⟨by omega,by omega⟩,⟨by omega,by omega⟩,λ k hk=>?_⟩;have:=h.gra.lt hk;omega
noncomputable def brz (n:Nat) (L:List G.E):List Int:=
 open Classical in if h:∃RB:List G.E × List G.E,(∃W T,S.St n RB.1 W T RB.2)/\RB.1.Perm L then S.ups h.choose.1 h.choose.2 else []
noncomputable def twz (n:Nat) (L:List G.E):List Nat:=
 open Classical in if h:∃T:List Nat,∃R B W,S.St n R W T B/\R.Perm L then h.choose else []
theorem zpd {R B:List G.E} (s:S.St n R W T B) (hp:R.Perm L) (hL:S.Unl L):S.ups R B=brz n L:=by
 have hu:S.Unl R:=hp.symm.pairwise hL (λ {_ _} k=>k.symm);have h:∃RB:List G.E × List G.E,(∃W T,S.St n RB.1 W T RB.2)/\RB.1.Perm L:=⟨(R,B),⟨W,T,s⟩,hp⟩;unfold brz;rw [dif_pos h];obtain ⟨⟨W',T',s'⟩,hp'⟩:=h.choose_spec;exact (S.zkq s s' (hp.trans hp'.symm) hu).2.2
theorem zzn {R B:List G.E} (s:S.St n R W T B) (hp:R.Perm L) (hL:S.Unl L):T=twz n L:=by
 have hu:S.Unl R:=hp.symm.pairwise hL (λ {_ _} k=>k.symm);have h:∃T:List Nat,∃R B W,S.St n R W T B/\R.Perm L:=⟨T,R,B,W,s,hp⟩;unfold twz;rw [dif_pos h];obtain ⟨R',B',W',s',hp'⟩:=h.choose_spec;exact (S.zkq s s' (hp.trans hp'.symm) hu).2.1
theorem zfq {base:Nat} {v:Value} {K:List Int} (h:w.ownsRow base 3 1 v K.length (K.map (Value.int .i64))):∃a cap,v= .slice a K.length cap/\(0<K.length->∃g,a=some ⟨g,0,none⟩/\∀j,j<K.length->w.cell? ⟨g,j,none⟩=some (.int .i64 (K.getD j 0))):=by
 have h0:=h;rcases h.2 with ⟨rfl,hz⟩ | ⟨g,cap,cur,rfl,hb,hg,_⟩
 ·exact ⟨none,0,by rw [hz],λ k=>by omega⟩
 ·refine ⟨_,cap,rfl,λ _=>⟨g,rfl,λ j hj=>?_⟩⟩
  rw [h0.cellAt j (by omega)];simp [hj]
def Zs (w:World) (a:Option Addr) (K:List Int):Prop:=0<K.length->∃g,a=some ⟨g,0,none⟩/\∀j,j<K.length->w.cell? ⟨g,j,none⟩=some (.int .i64 (K.getD j 0))
theorem Zs.below {a:Option Addr} {K:List Int} (h:Zs w a K) (hb:Below w.heap.size w w'):Zs w' a K:=by
 intro hk;obtain ⟨g,e,hc⟩:=h hk;exact ⟨g,e,λ j hj=>S.cell_below (hc j hj) hb⟩
theorem zzb (h:IV w a b x n L) (hv:Vars w):
 Calls prog 16 #[.pointer (some ⟨x,0,none⟩)] w λ e w'=>e= .returned (.string ⟨(svI n L).toArray⟩)/\Below w.heap.size w w':=by
 obtain ⟨p,q,v,R,B,W,T,D,pw,bw,pt,bt,mp,N,g,h⟩:=h;exact zn0 x p q n g v L w h.ix h.gra h.ok hv
theorem z0r (h:IVx w a b x n L p q v R B W T D pw bw pt bt mp N g):
 Calls prog 78 #[.pointer (some ⟨q,0,none⟩)] w λ e w'=>∃a c,e= .returned (.slice a (brz n L).length c)/\Zs w' a (brz n L)/\Below w.heap.size w w':=by
 refine (S.z8f w h.now.at_ (by have:=h.nl;omega)).mono ?_;rintro e w' ⟨v',ss,rfl,hp,hrow,_,hb⟩;have hunl:=h.unl;have hc:CollectedI D (λ _=>false) (S.zav R B):=by
  refine ⟨S.zgx hunl,λ x=>?_⟩;rw [h.now.dis.key x,S.zin h.now.st];constructor
  ·rintro ⟨e,he,k⟩;exact ⟨⟨e,(h.now.st.hB e).2 he,k⟩,rfl⟩
  ·rintro ⟨⟨e,he,k⟩,_⟩;exact ⟨e,(h.now.st.hB e).1 he,k⟩
 have hp':ss.Perm (S.zav R B):=hp.trans (hc.perm h.now.at_.hm S.za6 underlying3 (λ _=>rfl)).symm;have e1:(ss.mergeSort λ x y=>decide (x<=y))=S.ups R B:=mergeSort_of_perm_i hp';rw [e1,hp'.length_eq,<-S.zln R B,zpd h.now.st h.perm h.ok.unl] at hrow;obtain ⟨a',c,rfl,hs⟩:=zfq (K:=brz n L) hrow;exact ⟨a',c,rfl,hs,hb⟩
theorem z18 (h:IV w a b x n L):
 Calls prog 33 #[.pointer (some ⟨x,0,none⟩)] w λ e w'=>∃a c,e= .returned (.slice a (brz n L).length c)/\Zs w' a (brz n L)/\Below w.heap.size w w':=by
 obtain ⟨p,q,v,R,B,W,T,D,pw,bw,pt,bt,mp,N,g,h⟩:=h;have HI:Hid _:=z0r h;have hc:=h.ix.c1;clear h;go_enter func33,ntmps33;go_wp2_with (go_at_call 78;refine Calls.mono HI.out ?_;rintro e w1 ⟨a',c,rfl,hz,hb⟩);go_ret;exact ⟨a',c,rfl,hz,hb⟩
theorem yaac (h:IV w a b x n L) (i j:Nat) (hi:i<n) (hj:j<n):
 Calls prog 27 #[.pointer (some ⟨x,0,none⟩),.int .i64 (i:Int),.int .i64 (j:Int)] w λ e w'=>e= .returned (.tuple #[.bool ((((twz n L).getD i 0:Nat):Int)==(((twz n L).getD j 0:Nat):Int)),.nilIface])/\Below w.heap.size w w':=by
 obtain ⟨p,q,v,R,B,W,T,D,pw,bw,pt,bt,mp,N,g,h⟩:=h;have hT:=zzn h.now.st h.perm h.ok.unl;have hl:=h.now.st.gt.len;have HI:Hid _:=S.z1f i j _ w h.now.at_ (by rw [hl];exact hi) (by rw [hl];exact hj) rfl;have hc:=h.ix.c1;rw [<-hT];clear h hT hl;go_enter func27,ntmps27;go_wp2_with (go_at_call 76;refine Calls.mono HI.out ?_;rintro e w1 ⟨rfl,hb⟩);go_ret2;exact ⟨rfl,hb⟩
end Go.Proofs.YtebcjaenhiiflaaGreatDoor.I
namespace Go.Proofs.YtebcjaenhiiflaaGreatDoor.S
open Go.Proofs.Tryz
open Go.RowKit Go.WideMaps Go.Maps Go.Shelf
open Go.ChangeShapes (lits)
theorem zue (y:Nat) (h:y<=1099511627776):keyOf prog 3 (.int .i64 (y:Int))=some (.int .i64 (y:Int)):=keyOf_int_mk underlying3 (WalkArith.wf_i64 (by omega))
def idN (R:List (Int × Int × Int)) (j:Nat):Nat:=(zas R j).toNat
theorem zby {R:List (Int × Int × Int)} (h:∀e∈R,0<=e.1/\e.1<=1099511627776) {j:Nat} (hj:j<R.length):((idN R j:Nat):Int)=zas R j/\idN R j<=1099511627776:=by
 have h1:=zcs (List.getElem?_eq_getElem hj);have h2:=h _ (List.getElem_mem hj);unfold idN;rw [h1];omega
theorem z6a {R:List (Int × Int × Int)} (hu:G.Up R) (h:∀e∈R,0<=e.1/\e.1<=1099511627776) {i j:Nat} (hi:i<R.length) (hj:j<R.length) (he:idN R i=idN R j):i=j:=by
 have h1:=zby h hi;have h2:=zby h hj;exact zh3 hu hi hj (by omega)
def gN (R:List (Int × Int × Int)) (L:List Nat) (k y:Nat):List Nat:=((List.range k).filter λ i=>idN R (L.getD i 0)==y).map (idN R)
theorem zrz (R:List (Int × Int × Int)) (L:List Nat) (k:Nat):gN R L (k+1) (idN R (L.getD k 0))=gN R L k (idN R (L.getD k 0))++[idN R k]:=by
 simp [gN,List.range_succ]
theorem zox (R:List (Int × Int × Int)) (L:List Nat) (k y:Nat) (h:idN R (L.getD k 0)≠y):gN R L (k+1) y=gN R L k y:=by
 have hb:(idN R (L.getD k 0)==y)=false:=beq_eq_false_iff_ne.2 h;unfold gN;rw [List.range_succ,List.filter_append,List.filter_cons,hb];simp
structure gI (R:List (Int × Int × Int)) (L:List Nat) (k:Nat) (D:DataW Unit):Prop where
 map:IsMap D
 at_:∀(y:Nat) (zd:DataW Unit),D.atKey (.int .i64 (y:Int)) zd=if gN R L k y=[] then zd else .slice (lits .i64 (ints (gN R L k y))) []
 neg:∀(x:Int),x<0->∀zd:DataW Unit,D.atKey (.int .i64 x) zd=zd
theorem z2r (R:List (Int × Int × Int)) (L:List Nat):gI R L 0 (.map []):=⟨isMap_empty,λ y zd=>by simp [gN];rfl,λ x _ zd=>rfl⟩
theorem zo6 {R:List (Int × Int × Int)} {L:List Nat} {k y:Nat} {D:DataW Unit} (h:gI R L k D) {w:World} {base:Nat} {e:TypeId} {v:Value} {zs:List Int} (ho:w.ownsInts base e .i64 v zs)
 (hat:D.atKey (.int .i64 (y:Int)) .nil=rowDatum .i64 v zs):zs=ints (gN R L k y):=by
 rw [h.at_] at hat;split at hat
 ·next hg=>
  rw [hg];rcases ho.datum (H:=Unit) with ⟨_,h2⟩ | h2
  ·exact h2
  ·rw [h2] at hat;cases hat
 ·next hg=>
  rcases ho.datum (H:=Unit) with ⟨h1,_⟩ | h2
  ·rw [h1] at hat;cases hat
  ·rw [h2] at hat
   injection hat with h3 _
   exact (zh0 h3).symm
theorem z6d {R:List (Int × Int × Int)} {L:List Nat} {k:Nat} {D:DataW Unit} (h:gI R L k D) {w w1:World} {base:Nat} {e:TypeId} {v v':Value} {zs:List Int} (ho:w.ownsInts base e .i64 v zs)
 (hat:D.atKey (.int .i64 ((idN R (L.getD k 0):Nat):Int)) .nil=rowDatum .i64 v zs) (ho':w1.ownsInts base e .i64 v' (zs++[((idN R k:Nat):Int)])):
 gI R L (k+1) (D.put (.int .i64 ((idN R (L.getD k 0):Nat):Int)) (rowDatum .i64 v' (zs++[((idN R k:Nat):Int)]))):=by
 have hz:=zo6 h ho hat;refine ⟨h.map.put _ _,λ y zd=>?_,λ x hx zd=>?_⟩
 ·by_cases e:idN R (L.getD k 0)=y
  ·subst e
   rw [atKey_put_same h.map (by trivial),zrz,if_neg (by simp),ho'.datum_pos (by simp),hz,zfd];rfl
  ·have hne:Lit.int .i64 (y:Int)≠Lit.int .i64 ((idN R (L.getD k 0):Nat):Int):=λ h=>e (by injection h with _ h2;omega)
   rw [atKey_put_other hne,h.at_,zox R L k y e]
 ·have hne:Lit.int .i64 x≠Lit.int .i64 ((idN R (L.getD k 0):Nat):Int):=λ h=>by injection h with _ h2;omega
  rw [atKey_put_other hne];exact h.neg x hx zd
def zdb (R:List (Int × Int × Int)) (L:List Nat):List (List Nat):=(lst L R.length).map λ r=>(grp L R.length r).map (idN R)
theorem zxo {R:List (Int × Int × Int)} {L:List Nat} (hu:G.Up R) (hid:∀e∈R,0<=e.1/\e.1<=1099511627776) (g:Good R.length L) {r:Nat} (hr:r<R.length):gN R L R.length (idN R r)=(grp L R.length r).map (idN R):=by
 unfold gN grp
 congr 1
 apply List.filter_congr;intro i hi;have hi':=List.mem_range.1 hi;have:=g.le i hi';rw [Bool.eq_iff_iff,beq_iff_eq,beq_iff_eq];exact ⟨λ h=>z6a hu hid (by omega) hr h,λ h=>by rw [h]⟩
theorem z5o {R:List (Int × Int × Int)} {L:List Nat} {D:DataW Unit} (hu:G.Up R) (hid:∀e∈R,0<=e.1/\e.1<=1099511627776) (g:Good R.length L) (h:gI R L R.length D) (x:Int):Maps.has D (.int .i64 x)=true↔x∈(lst L R.length).map (zas R):=by
 by_cases hx:x<0
 ·rw [has_false_of_atKey (h.neg x hx)]
  simp only [Bool.false_eq_true,false_iff,List.mem_map,not_exists,not_and];intro r hr c;have:=zby hid (zcp.1 hr).1;omega
 ·obtain ⟨y,rfl⟩:=Int.eq_ofNat_of_zero_le (show 0<=x by omega)
  by_cases hg:gN R L R.length y=[]
  ·have hf:Maps.has D (.int .i64 (y:Int))=false:=has_false_of_atKey (λ z=>by rw [h.at_,if_pos hg])
   rw [hf];simp only [Bool.false_eq_true,false_iff,List.mem_map,not_exists,not_and];intro r hr c;obtain ⟨hrl,hrr⟩:=zcp.1 hr;have h1:=zby hid hrl;obtain rfl:idN R r=y:=by omega
   rw [zxo hu hid g hrl] at hg;have:r∈grp L R.length r:=zek.2 ⟨hrl,hrr⟩;rw [List.map_eq_nil_iff] at hg;rw [hg] at this;cases this
  ·have ht:Maps.has D (.int .i64 (y:Int))=true:=has_true_of_atKey (λ z=>by rw [h.at_,if_neg hg])
   rw [ht];simp only [true_iff,List.mem_map];obtain ⟨z,hz⟩:=List.exists_mem_of_ne_nil _ hg;unfold gN at hz;obtain ⟨i,hi,rfl⟩:=List.mem_map.1 hz;rw [List.mem_filter,List.mem_range,beq_iff_eq] at hi;have hl:=Nat.lt_of_le_of_lt (g.le i hi.1) hi.1;refine ⟨L.getD i 0,zcp.2 ⟨hl,g.idem i hi.1⟩,?_⟩;have:=zby hid hl;omega
theorem yaao (L:List Nat) (n:Nat):(lst L n).Pairwise (·<·):=by
 unfold lst;exact List.Pairwise.filter _ List.pairwise_lt_range
theorem z98 {R:List (Int × Int × Int)} (hu:G.Up R):(R.map (·.1)).Pairwise (·<·):=by
 rw [List.pairwise_map];exact hu
theorem zvi {R:List (Int × Int × Int)} (hu:G.Up R) (L:List Nat):((lst L R.length).map (zas R)).Pairwise (·<·):=by
 rw [List.pairwise_map];refine List.Pairwise.imp_of_mem ?_ (yaao L R.length);intro a b _ hb hab;exact ze5 hu hab (zcp.1 hb).1
theorem z6v {R:List (Int × Int × Int)} {L:List Nat} {t r:Nat} (h:(lst L R.length)[t]? =some r):(zdb R L)[t]? =some ((grp L R.length r).map (idN R)):=by
 unfold zdb;rw [List.getElem?_map,h];rfl
theorem z4c {P:Program} {wl wr:World} {t k E base e b n y:Nat} {R:List (Int × Int × Int)} {L:List Nat} {m:Nat} {D:DataW Unit} (hg:wl.ownsGroups P k base e .i64 b n D) (hD:gI R L m D) (hb:Below wl.heap.size wl wr)
 (K:Keyed P k) (ht:P.underlying t=some (.map k E)) (hz:(zeroValue E).run P wr= .ok (.slice none 0 0) wr) (hkey:keyOf P k (.int .i64 (y:Int))=some (.int .i64 (y:Int))) (hy:gN R L m y≠[]):
 ∃r c,(Instr.lookup t (.map (some b)) (.int .i64 (y:Int)) false).run P wr= .ok (.slice (some ⟨r,0,none⟩) (gN R L m y).length c) wr/\wl.ownsInts base e .i64 (.slice (some ⟨r,0,none⟩) (gN R L m y).length c) (ints (gN R L m y)):=by
 obtain ⟨es,clock,hh,F,hs,rfl,hbb,hlen,hap⟩:=hg;have hh':wr.heap[b]? =some (.map es clock):=(hb.block b (lt_of_some hh)).trans hh;rcases Maps.fit_look false K ht hz hh' F hkey with ⟨hrun,_,hat⟩ | ⟨e0,y0,hm0,h3,hrun,hR,hat,_⟩
 ·have h1:=hat .nil
  rw [hD.at_,if_neg hy] at h1;cases h1
 ·obtain ⟨zs,ho,rfl⟩:=rowElem_inv hR
  have hzs:=zo6 hD ho (hat .nil);subst hzs;rcases ho.1.2 with ⟨_,h0⟩ | ⟨g,cap,cur,hv,_⟩
  ·rw [zbc] at h0
   exact absurd (List.length_eq_zero_iff.1 h0) hy
  ·rw [zbc] at hv
   simp only [Bool.false_eq_true,if_false] at hrun;rw [hv] at hrun ho;exact ⟨g,cap,hrun,ho⟩
end Go.Proofs.YtebcjaenhiiflaaGreatDoor.S
namespace Go.Proofs.YtebcjaenhiiflaaGreatDoor.S
open Go.Proofs.Tryz
open Go.RowKit Go.WideMaps Go.Maps Go.Shelf
theorem zni {w:World} {base:Nat} {v:Value} {K:List Int} (h:w.ownsRow base 3 1 v K.length (K.map encZ)):∃a cap,v= .slice a K.length cap/\∀t x,K[t]? =some x->∃g,a=some ⟨g,0,none⟩/\base<=g/\g<w.heap.size/\w.cell? ⟨g,t,none⟩=some (.int .i64 x):=by
 have h0:=h;rcases h.2 with ⟨rfl,hz⟩ | ⟨g,cap,cur,rfl,hb,hg,_⟩
 ·refine ⟨none,0,by rw [hz],λ t x ht=>?_⟩
  have:=(List.getElem?_eq_some_iff.1 ht).1;omega
 ·refine ⟨_,cap,rfl,λ t x ht=>⟨g,rfl,hb,lt_of_some hg,?_⟩⟩
  have hl:=(List.getElem?_eq_some_iff.1 ht).1;rw [h0.cellAt t (by omega),List.getElem?_map,ht];rfl
theorem zqq {wl:World} {base:Nat} {vs:List Value} {Gs:List (List Nat)} {t:Nat} {G:List Nat} {r c:Nat} (h:zcq wl base vs (Gs.take t)) (hG:Gs[t]? =some G) (ho:wl.ownsInts base 3 .i64 (.slice (some ⟨r,0,none⟩) G.length c) (ints G)):
 zcq wl base (vs++[.slice (some ⟨r,0,none⟩) G.length c]) (Gs.take (t+1)):=by
 have e:Gs.take (t+1)=Gs.take t++[G]:=by rw [List.take_add_one,hG];rfl
 rw [e];exact ziw h ho
theorem zur {R:List (Int × Int × Int)} {L:List Nat} (p m N:Nat) (D:DataW Unit) (v:Value) (w:World) (h:za5 w p m N D v) (hl:Lm D R L) (g:Good R.length L) (hu:G.Up R) (hid:∀e∈R,0<=e.1/\e.1<=1099511627776) (hR:R.length<=120) (hN:N<=1000):
 Calls prog 81 #[.pointer (some ⟨p,0,none⟩)] w λ e w'=>∃v',e= .returned v'/\zdd w' v' (zdb R L)/\Below w.heap.size w w':=by
 have HB:Hid (∀w',Below w.heap.size w w'->za5 w' p m N D v):=λ w' hb=>h.below hb
 have HL:Hid (Lm D R L/\Good R.length L/\G.Up R/\∀e∈R,0<=e.1/\e.1<=1099511627776):=⟨hl,g,hu,hid⟩;have hmm:=@run_makeMap prog;have hp0:=h.plt;obtain ⟨w1,hw1⟩:∃w1,w1=w.alloc (.map #[] 0):=⟨_,rfl⟩;have hb1:Below w.heap.size w w1:=by rw [hw1];exact (Below.refl _ _).alloc (Nat.le_refl _) _
 have hm1:w1.heap[w.heap.size]? =some (.map #[] 0):=by rw [hw1];exact heap_alloc_new w _
 have HW1:=kd hw1.symm;have HB1:=kd (And.intro hb1 hm1);have hc0:(w.alloc (.map #[] 0)).cell? ⟨p,0,none⟩=some (.map (some m)):=by rw [World.cell?_alloc_lt _ _ _ hp0];exact h.c0
 obtain ⟨i0,hi0,hz0,hz1,hz2⟩:=info_parts Tryz.info3;clear h hl g hu hid hw1 hb1 hm1;go_enter func81,ntmps81;go_wp2_with fail;rw [HW1.out];refine (zx4 (some m) w1).mono ?_;rintro e w2 ⟨rfl,rfl⟩;clear hc0 hmm;go_wp2_with fail;refine (zrl (plainElem prog 3) m N D w1 (HB.out w1 HB1.out.1).hm hN).mono ?_;rintro e w3 ⟨v3,ss,rfl,hperm,hrow3,hb3⟩;obtain ⟨e1,e2⟩:=zm5 (K:=R.map (·.1)) (HB.out w1 HB1.out.1).hm (z98 HL.out.2.2.1) (λ x=>by rw [HL.out.1.key x];simp) hperm;rw [e1,e2] at hrow3;obtain ⟨va,vc,rfl,hcell3⟩:=zni hrow3;rw [List.length_map];obtain ⟨len,hlen⟩:∃len,R.length=len:=⟨_,rfl⟩;rw [hlen] at hR ⊢;have HLEN:=kd hlen;have HC3:Hid (∀t,t<len->∃g,va=some ⟨g,0,none⟩/\w1.heap.size<=g/\g<w3.heap.size/\w3.cell? ⟨g,t,none⟩=some (.int .i64 ((idN R t:Nat):Int))):=λ t ht=>by
  have htl:t<R.length:=by rw [hlen];exact ht
  obtain ⟨g,h1,h2,h3,h4⟩:=hcell3 t (zas R t) (by rw [List.getElem?_map,List.getElem?_eq_getElem htl];simp [zas,htl]);exact ⟨g,h1,h2,h3,by rw [(zby HL.out.2.2.2 htl).1];exact h4⟩
 have hw1s:w.heap.size<w1.heap.size:=lt_of_some HB1.out.2;have hm3:w3.heap[w.heap.size]? =some (.map #[] 0):=(hb3.block _ hw1s).trans HB1.out.2;have HB3:Hid (Below w.heap.size w w3/\w3.ownsGroups (H:=Unit) prog 3 w3.heap.size 3 .i64 w.heap.size 0 (.map [])):=
  ⟨HB1.out.1.trans (hb3.mono HB1.out.1.size),#[],0,hm3,⟨by simp,Go.MapKept.stamped_empty 0,by simp⟩,Nat.le_refl _,rfl,lt_of_some hm3,by simp,by simp⟩
 have hw3s:=hb3.size;clear hperm hrow3 hcell3 e1 e2 hb3 hm3 hlen HB1 HW1;go_wp2_with fail;go_loopw [18] (λ s18 wr=>∃(t:Nat) (Dt:DataW Unit),t<=len/\s18= .int .i64 t/\gI R L t Dt/\wr.ownsGroups prog 3 w3.heap.size 3 .i64 w.heap.size t Dt/\But w.heap.size w3 wr) (λ s18 _=>len-(intOf s18).toNat)
 case atStart=>exact ⟨0,.map [],Nat.zero_le _,rfl,z2r R L,HB3.out.2,But.refl _ _⟩
 case round=>
  obtain ⟨t,Dt,ht,rfl,hgi,hown,hbt⟩:=hrel;have HGI:=kd hgi;have HBT:=kd hbt;have hbw:Below w.heap.size w wr:=HB3.out.1.trans (hbt.below (Nat.le_refl _) HB3.out.1.size);have HBW:=kd hbw;have hwrs:=hbt.size;clear hgi hbt;by_cases hlt:t<len
  ·obtain ⟨g,rfl,hg1,hg2,hg3⟩:=HC3.out t hlt
   have htl:t<R.length:=by rw [HLEN.out];exact hlt
   have hc:wr.cell? ⟨g,t,none⟩=some (.int .i64 ((idN R t:Nat):Int)):=HBT.out.cell hg3 (by omega);have hLt:=Nat.lt_of_le_of_lt (HL.out.2.1.le t htl) htl;have i1:=zby HL.out.2.2.2 htl;have i2:=zby HL.out.2.2.2 hLt;have hbl:=HB.out wr hbw;have hc0:=hbl.c0;have hlk:=zhy hbl.hm HL.out.1 (List.getElem?_eq_getElem htl) (zar (HL.out.2.2.2 _ (List.getElem_mem htl)).1 (HL.out.2.2.2 _ (List.getElem_mem htl)).2);rw [<-zcs (List.getElem?_eq_getElem htl),<-i1.1,<-i2.1] at hlk;have hkey:=zue (idN R (L.getD t 0)) i2.2;have hwk:(Lit.int .i64 ((idN R t:Nat):Int)).wf=true:=zar (by omega) (by omega);obtain ⟨X,hX⟩:∃X,idN R t=X:=⟨_,rfl⟩;obtain ⟨Y,hY⟩:∃Y,idN R (L.getD t 0)=Y:=⟨_,rfl⟩;rw [hX] at hc hlk hwk;rw [hY] at hlk hkey;have HXY:=kd (And.intro hX hY);clear hg3 hLt i1 i2 hbl hX hY htl hbw;go_upto_region 6 with fail
   go_wp2_with (first
    | (at_lookup;refine wpList_lookup_groups _ rfl _ _ 199 rfl 3 48 3 .i64 za6 underlying199 (zf9 _) w3.heap.size w.heap.size t _ rfl hown (by unfold maxLen;omega) _ _ rfl hkey ?_;intro v6 zs hat hoi hzl hback)
    | (at_builtin;refine wpList_append_own_at _ rfl _ _ 48 rfl w3.heap.size 3 i0 (.int .i64 0) 1 8 underlying48 hi0 hz0 hz1 hz2 rfl (by decide) _ _ _ rfl (hoi.1.alloc _) ⟨wr.heap.size,0,none⟩ 1 1 [.int .i64 (X:Int)] rfl rfl (cell_one_new _ _ _) (ints_oneCell .i64 [(X:Int)]) (by unfold maxLen;omega) (by omega) (by simp;omega) ?_;intro v' w5 hown' hgrow hnil hloc)
    | (at_mapUpdate;refine wpList_mapUpdate_back _ rfl _ _ _ 199 rfl hback rfl rfl rfl ((World.grownBy_alloc _ _ _).trans hgrow) (hoi.appended hown' hwk) (by simp;omega) (hloc.imp id (λ h=>⟨_,h,by simp⟩)) ?_;intro w6 hown6 hgrow6)
    | fail)
   have hall:=(World.grownBy_alloc wr _ _).trans hgrow;have ho':=hoi.appended hown' hwk;rw [<-HXY.out.2] at hat hown6;rw [<-HXY.out.1] at ho' hown6;have hst:=z6d HGI.out hoi hat ho';have hbt6:But w.heap.size w3 w6:=by
    refine ⟨hgrow6.os.trans (hall.os.trans HBT.out.os),hgrow6.tape.trans (hall.tape.trans HBT.out.tape),hgrow6.output.trans (hall.output.trans HBT.out.output),Nat.le_trans HBT.out.size (Nat.le_trans hall.size hgrow6.size),λ k hk hne=>?_⟩;have hkr:k<wr.heap.size:=Nat.lt_of_lt_of_le hk HBT.out.size;rw [hgrow6.block k (Nat.lt_of_lt_of_le hkr hall.size) (by simpa using hne),hall.block k hkr (λ c=>by have:=(hoi.1.lt k c.symm).1;omega)];exact HBT.out.block k hk hne
   go_roundw;case rel=>exact ⟨t+1,_,by omega,by go_num,hst,hown6,hbt6⟩
   case measure=>simp [intOf];omega
  ·have hte:t=len:=by omega
   subst hte;obtain ⟨km,hkm,hlenm⟩:=zlj hown underlying199;obtain ⟨j0,hj,hj0,hj1,hj2⟩:=info_parts Tryz.info48;have HG:Hid (gI R L R.length Dt):=by
    show gI R L R.length Dt;rw [HLEN.out];exact HGI.out
   have HO:=kd hown;have hmlt:w.heap.size<wr.heap.size:=by omega
   rename World=>wl
   clear HGI HC3 HB HBT hown hi0 hz0 hz1 hz2;go_wp2_with (first
    | (at_make;refine wpList_make_own _ rfl _ _ 51 rfl wl.heap.size 48 j0 (.slice none 0 0) 1 underlying51 hj hj0 hj1 .i64 .i64 _ km rfl rfl rfl (by rw [hj2];omega) (by unfold maxLen;omega) (Nat.le_refl _) ?_;intro w5 hown5 hgrow5)
    | fail)
   have HB5:Hid (Below wl.heap.size wl w5):=(Below.refl _ _).grown hgrow5 (Nat.le_refl _) (by simp);have HO5:=kd hown5;clear hgrow5 hlenm hown5;have HM5:Hid (w5.ownsMap prog 3 (rowElem (H:=Unit) wl w3.heap.size 3 .i64) w.heap.size t Dt):=by
    obtain ⟨es,clock,hb,F,hs,hD,_⟩:=HO.out;exact ⟨es,clock,(HB5.out.block _ hmlt).trans hb,F,hs,hD⟩
   go_wp2_with fail;refine (zym (some w.heap.size) w5).mono ?_;rintro e w6 ⟨rfl,rfl⟩;go_wp2_with fail;refine (zpp _ w.heap.size t Dt w5 HM5.out (by omega)).mono ?_;rintro e w7 ⟨v7,ss7,rfl,hperm7,hrow7,hb7⟩;obtain ⟨f1,f2⟩:=zm5 (K:=(lst L R.length).map (zas R)) HM5.out (zvi HL.out.2.2.1 L) (z5o HL.out.2.2.1 HL.out.2.2.2 HL.out.2.1 HG.out) hperm7;rw [f1,f2] at hrow7;obtain ⟨vb,vd,rfl,hcell7⟩:=zni hrow7;rw [List.length_map];obtain ⟨k2,hk2⟩:∃k2,(lst L R.length).length=k2:=⟨_,rfl⟩;rw [hk2];have HK2:=kd hk2;have hk2l:k2<=120:=by
    rw [<-hk2];have:(lst L R.length).length<=R.length:=by unfold lst;exact Nat.le_trans (List.length_filter_le _ _) (by simp)
    have:=HLEN.out;omega
   have HC7:Hid (∀t',t'<k2->∃g r,vb=some ⟨g,0,none⟩/\(lst L R.length)[t']? =some r/\w5.heap.size<=g/\w7.cell? ⟨g,t',none⟩=some (.int .i64 ((idN R r:Nat):Int))):=λ t' ht'=>by
    have htl:t'<(lst L R.length).length:=by rw [hk2];exact ht'
    have hr:=List.getElem?_eq_getElem htl;obtain ⟨g,h1,h2,_,h4⟩:=hcell7 t' (zas R (lst L R.length)[t']) (by rw [List.getElem?_map,hr];rfl);exact ⟨g,_,h1,hr,h2,by rw [(zby HL.out.2.2.2 (zcp.1 (List.getElem_mem htl)).1).1];exact h4⟩
   have HB7:Hid (Below wl.heap.size wl w7/\Below w5.heap.size w5 w7):=⟨HB5.out.trans (hb7.mono HB5.out.size),hb7⟩;have HO7:Hid (w7.ownsRow wl.heap.size 48 1 (.slice (some ⟨wl.heap.size,0,none⟩) 0 km) 0 []):=HO5.out.kept (row:=none) ⟨hb7.os,hb7.tape,hb7.output,hb7.size,λ k hk _=>hb7.block k hk⟩ (.inr (by simp [Value.ownBlock]));have hw7s:=HB7.out.1.size;have hw5s:wl.heap.size<w5.heap.size:=(World.ownsRow.lt HO5.out wl.heap.size rfl).2;clear hperm7 hrow7 hcell7 hb7 f1 f2 hk2 HM5 HO5;go_wp2_with fail;go_loopw [7,44] (λ s7 s44 wq=>∃(t':Nat) (vs:List Value),t'<=k2/\s44= .int .i64 t'/\zcq wl w3.heap.size vs ((zdb R L).take t')/\wq.ownsRow wl.heap.size 48 1 s7 vs.length vs/\s7≠ .slice none 0 0/\(s7.ownBlock=some wl.heap.size\/∃g,s7.ownBlock=some g/\w7.heap.size<=g)/\Below wl.heap.size wl wq/\But wl.heap.size w7 wq) (λ _ s44 _=>k2-(intOf s44).toNat)
   case atStart=>exact ⟨0,[],Nat.zero_le _,rfl,⟨rfl,by simp⟩,HO7.out,by simp,.inl rfl,HB7.out.1,But.refl _ _⟩
   case round=>
    obtain ⟨t',vs,ht',rfl,hrows,howk,htn,hob,hbk,hbt'⟩:=hrel;have hvl:=hrows.1;have hbl:(zdb R L).length=k2:=by unfold zdb;rw [List.length_map,HK2.out]
    have hvl2:vs.length<=120:=by rw [hvl];simp;omega
    clear HO7;by_cases hlt:t'<k2
    ·obtain ⟨g,r,rfl,hr,hg1,hg2⟩:=HC7.out t' hlt
     obtain ⟨hrl,hrr⟩:=zcp.1 (List.mem_of_getElem? hr);have hc:wr.cell? ⟨g,t',none⟩=some (.int .i64 ((idN R r:Nat):Int)):=hbt'.cell hg2 (by omega);have hgn:=zxo HL.out.2.2.1 HL.out.2.2.2 HL.out.2.1 hrl;have hne:gN R L R.length (idN R r)≠[]:=by
      rw [hgn];intro c;rw [List.map_eq_nil_iff] at c;have:r∈grp L R.length r:=zek.2 ⟨hrl,hrr⟩;rw [c] at this;cases this
     obtain ⟨rr,cc,hrun,hoi⟩:=z4c HO.out HG.out hbk za6 underlying199 (zf9 wr) (zue (idN R r) (zby HL.out.2.2.2 hrl).2) hne;rw [hgn] at hrun hoi;have HR:Hid (zcq wl w3.heap.size (vs++[.slice (some ⟨rr,0,none⟩) ((grp L R.length r).map (idN R)).length cc]) ((zdb R L).take (t'+1))):=zqq hrows (z6v hr) hoi;have HBT:=kd (And.intro hbt' hbk);have HOB:=kd hob;have hbks:=hbk.size;have hbts:=hbt'.size;generalize idN R r=X at*;generalize ((grp L R.length r).map (idN R)).length=gl at*;clear hrows hoi hgn hne hr hrl hrr hg2 hob hbk hbt';go_wp2_with (first
      | (at_builtin;refine wpList_append_own_at _ rfl _ _ 51 rfl wl.heap.size 48 j0 (.slice none 0 0) 1 24 underlying51 hj hj0 hj1 hj2 rfl (by decide) u7 vs.length vs rfl (howk.alloc _) ⟨wr.heap.size,0,none⟩ 1 1 [.slice (some ⟨rr,0,none⟩) gl cc] rfl rfl (cell_one_new _ _ _) (zcu _ _ _) (by unfold maxLen;omega) (by omega) (by simp;omega) ?_;intro v9 w9 hown9 hgrow9 hnil9 hloc9)
      | fail)
     have hall:=(World.grownBy_alloc wr _ _).trans hgrow9;have hbt9:But wl.heap.size w7 w9:=by
      refine ⟨hall.os.trans HBT.out.1.os,hall.tape.trans HBT.out.1.tape,hall.output.trans HBT.out.1.output,Nat.le_trans HBT.out.1.size hall.size,λ k hk hne=>?_⟩;rw [hall.block k (by omega) (λ c=>?_)]
      ·exact HBT.out.1.block k hk hne
      ·rcases HOB.out with c1 | ⟨g',c1,c2⟩
       ·rw [c1] at c;injection c with c;exact hne c
       ·rw [c1] at c;injection c with c;omega
     have hob9:v9.ownBlock=some wl.heap.size\/∃g,v9.ownBlock=some g/\w7.heap.size<=g:=by
      rcases hloc9 with c | c
      ·rw [c];exact HOB.out
      ·exact .inr ⟨_,c,by simp;omega⟩
     go_roundw;case rel=>exact ⟨t'+1,_,by omega,by go_num,HR.out,by simpa using hown9,λ h=>htn (hnil9.1 h).1,hob9,HBT.out.2.grown hall HBT.out.2.size (λ j hj=>(howk.lt j hj).1),hbt9⟩
     case measure=>simp [intOf];omega
    ·have hke:t'=k2:=by omega
     subst hke;have HA:Hid (zdd wr u7 (zdb R L)):=by
      have htk:(zdb R L).take t'=zdb R L:=List.take_of_length_le (by omega);rw [htk] at hrows;exact zrh hrows howk htn hbk
     have HBF:Hid (Below w.heap.size w wr):=HBW.out.trans (hbk.mono HBW.out.size);clear hrows howk hbk hbt' hob;go_wp2;go_ret;exact ⟨_,rfl,HA.out,HBF.out⟩
end Go.Proofs.YtebcjaenhiiflaaGreatDoor.S
namespace Go.Proofs.YtebcjaenhiiflaaGreatDoor.S
open Go.Proofs.Tryz
open Go.RowKit Go.WideMaps Go.Maps
theorem z4a (cs:List Nat):∀u∈zbl cs,u.oneCell'=true:=by
 intro u hu;unfold zbl at hu;obtain ⟨x,_,rfl⟩:=List.mem_map.1 hu;rfl
theorem zzv (w:World):(w.alloc (.cells #[] 3)).ownsRow w.heap.size 3 1 (.slice (some ⟨w.heap.size,0,none⟩) 0 0) 0 []:=
 ⟨rfl,.inr ⟨w.heap.size,0,#[],rfl,Nat.le_refl _,heap_alloc_new w _,Nat.le_refl _,by unfold maxLen;omega,rfl,rfl⟩⟩
theorem zyv (v:Value) (B0:Nat) (cs:List Nat) (w:World) (h:w.ownsRow B0 3 1 v cs.length (zbl cs)) (hcs:cs.length<=1000):
 Calls prog 136 #[v] w λ e w'=>∃v',e= .returned v'/\w'.ownsRow w.heap.size 3 1 v' cs.length (zbl cs)/\Below w.heap.size w w':=by
 have h0:=h;have hq:=λ (a:Option Addr) (n c:Nat) (W:World)=>Lib.run_eql_slice_nil (P:=prog) W 48 3 a n c 0 0 underlying48
 rcases h.2 with ⟨rfl,hz⟩ | ⟨g,cap,cur,rfl,hB,hg,_⟩
 ·have HN:Hid (cs=[]):=List.eq_nil_of_length_eq_zero hz
  clear h h0 hz;go_enter func136,ntmps136;go_wp2;go_ret;exact ⟨_,rfl,by rw [HN.out];exact World.ownsRow_nil _ _ _ _,Below.refl _ _⟩
 ·obtain ⟨i0,hi0,hz0,hz1,hz2⟩:=info_parts Tryz.info3
  have hlt:=lt_of_some hg;have hcells:∀j u,(zbl cs)[j]? =some u->(w.alloc (.cells #[] 3)).cell? ((⟨g,0,none⟩:Addr).add j)=some u:=λ j u hj=>World.ownsRow.cells (h0.alloc _) rfl j u hj
  have hnl:(zbl cs).length=cs.length*1:=by simp [zbl]
  clear h h0 hg hB;go_enter func136,ntmps136;go_wp2_with (first
   | (at_builtin;refine wpList_append_own_at _ rfl _ _ 48 rfl w.heap.size 3 i0 (.int .i64 0) 1 8 underlying48 hi0 hz0 hz1 hz2 rfl (by decide) (.slice (some ⟨w.heap.size,0,none⟩) 0 0) 0 [] rfl (zzv w) ⟨g,0,none⟩ cs.length cap (zbl cs) rfl hnl hcells (z4a cs) (by unfold maxLen;omega) (by omega) (by simp) ?_;intro v5 w5 hown5 hgrow5 hnil5 hloc5)
   | fail)
  go_ret;refine ⟨_,rfl,by simpa using hown5,?_⟩;exact ((Below.refl _ w).alloc (Nat.le_refl _) _).grown hgrow5 (by simp) (λ j hj=>by simp [Value.ownBlock] at hj;omega)
theorem zx8 (p m N B0:Nat) (D:DataW Unit) (v:Value) (cs:List Nat) (w:World) (h:za5 w p m N D v) (hr:w.ownsRow B0 3 1 v cs.length (zbl cs)) (hcs:cs.length<=1000):
 Calls prog 80 #[.pointer (some ⟨p,0,none⟩)] w λ e w'=>∃v',e= .returned v'/\w'.ownsRow w.heap.size 3 1 v' cs.length (zbl cs)/\Below w.heap.size w w':=by
 have hc1:=h.c1;have HC:Hid _:=zyv v B0 cs w hr hcs;clear h hr;go_enter func80,ntmps80;go_wp2_with fail;refine Calls.mono HC.out ?_;rintro e w1 ⟨v',rfl,ho,hb⟩;have HR:=kd (And.intro ho hb);clear ho hb HC hc1;go_wp2_with fail;go_ret;exact ⟨_,rfl,HR.out⟩
open Go Go.ChangeMaps Go.MapKept Go.WideShapes
open Go.WideElems (Fit rd rg pl rd_key rd_val rg_of rd_mk other_key)
open Go.Maps (Keyed)
theorem zlv {es:Array MapEntry} {j c:Nat} {e0:MapEntry} (h:es.toList[j]? =some e0) (hc:e0.born=c) (hu:∀i x,es.toList[i]? =some x->x.born=c->i=j):es.findIdx? (λ e=>((e.born:Int)==(c:Int)))=some j:=by
 rw [Array.findIdx?_eq_some_iff_getElem];obtain ⟨hj,he⟩:=List.getElem?_eq_some_iff.1 h;refine ⟨by simpa using hj,?_,λ i hi=>?_⟩
 ·have:es[j]'(by simpa using hj)=e0:=by simpa using he
  rw [this,hc];simp
 ·have hil:i<es.toList.length:=Nat.lt_trans hi hj
  intro hp;have:=hu i es.toList[i] (List.getElem?_eq_getElem hil) (by have h5:=beq_iff_eq.1 hp;simp;omega);omega
theorem zio (w:World) (b:Nat) (o o':Obj):setBlock (setBlock w b o) b o'=setBlock w b o':=by
 simp [setBlock]
section
variable {H:Type} {P:Program} {k:TypeId} {w:World} {base b n:Nat} {D:DataW H}
theorem zrn {t E e:TypeId} {q:IntKind} (h:w.ownsGroups P k base e q b n D) (K:Keyed P k) (ht:P.underlying t=some (.map k E)) (hz:(zeroValue E).run P w= .ok (.slice none 0 0) w) (hn:n<maxLen) {key:Value} {kl:Lit} (hkey:keyOf P k key=some kl):
 ∃v zs st w1,(Instr.mapEntry t (.map (some b)) key).run P w= .ok (.tuple #[v,.int .i64 st]) w1/\D.atKey kl .nil=rowDatum q v zs/\w1.ownsInts base e q v zs/\zs.length<=n/\w.grownBy w1 (some b)/\w1.heap.size=w.heap.size/\
  ∀(w2:World) (v':Value) (zs':List Int),w1.grownBy w2 v.ownBlock->w2.ownsInts base e q v' zs'->zs'.length<=n+1->(v'.ownBlock=v.ownBlock\/∃g,v'.ownBlock=some g/\w1.heap.size<=g)->
   ∃w3,(Instr.entryStore t (.map (some b)) (.int .i64 st) v').run P w2= .ok () w3/\w3.ownsGroups P k base e q b (n+1) (D.put kl (rowDatum q v' zs'))/\w2.grownBy w3 (some b):=by
 obtain ⟨v,zs,hlk,hat,hoi,hzl,hback⟩:=h.at K ht hz hn hkey;obtain ⟨es,clock,hb,F,hs,hD,hbb,_,_⟩:=h;have hst:=(stamped_iff es clock).1 F.stamped;have notb:∀{W:World} {u:Value} {ys:List Int},W.ownsInts base e q u ys->u.ownBlock≠some b:=λ ho hu=>by
  have:=(World.ownsRow.lt ho.1 b hu).1;omega
 have core:∀(es1:Array MapEntry) (clock1 st:Nat) (w1:World),w1=setBlock w b (.map es1 clock1)->
  (∀(w2:World) (v':Value),w2.heap[b]? =some (.map es1 clock1)->∀w3,(Instr.mapUpdate t (.map (some b)) key v').run P (setBlock w2 b (.map es clock))= .ok () w3->(Instr.entryStore t (.map (some b)) (.int .i64 st) v').run P w2= .ok () w3)->
  (Instr.mapEntry t (.map (some b)) key).run P w= .ok (.tuple #[v,.int .i64 st]) w1->
  ∃v zs st w1,(Instr.mapEntry t (.map (some b)) key).run P w= .ok (.tuple #[v,.int .i64 st]) w1/\D.atKey kl .nil=rowDatum q v zs/\w1.ownsInts base e q v zs/\zs.length<=n/\w.grownBy w1 (some b)/\w1.heap.size=w.heap.size/\
  ∀(w2:World) (v':Value) (zs':List Int),w1.grownBy w2 v.ownBlock->w2.ownsInts base e q v' zs'->zs'.length<=n+1->(v'.ownBlock=v.ownBlock\/∃g,v'.ownBlock=some g/\w1.heap.size<=g)->
   ∃w3,(Instr.entryStore t (.map (some b)) (.int .i64 st) v').run P w2= .ok () w3/\w3.ownsGroups P k base e q b (n+1) (D.put kl (rowDatum q v' zs'))/\w2.grownBy w3 (some b):=by
  intro es1 clock1 st w1 hw1 hsame hrun;have hg1:w.grownBy w1 (some b):=by rw [hw1];exact ⟨rfl,rfl,rfl,by simp [setBlock],λ i _ hi=>heap_setBlock_other hb _ (λ e=>hi (by rw [e]))⟩
  have hs1:w1.heap.size=w.heap.size:=by rw [hw1];simp [setBlock]
  have hb1:w1.heap[b]? =some (.map es1 clock1):=by rw [hw1];exact heap_setBlock_same hb _
  refine ⟨v,zs,st,w1,hrun,hat,hoi.kept hg1 (.inr (notb hoi)),hzl,hg1,hs1,λ w2 v' zs' hg2 ho2 hl2 hloc=>?_⟩;have hb2:w2.heap[b]? =some (.map es1 clock1):=by
   rw [hg2.block b (lt_of_some hb1) (λ e=>notb hoi e.symm)];exact hb1
  have hg2':w2.grownBy (setBlock w2 b (.map es clock)) (some b):=⟨rfl,rfl,rfl,by simp [setBlock],λ i _ hi=>heap_setBlock_other hb2 _ (λ e=>hi (by rw [e]))⟩;have hgw:w.grownBy (setBlock w2 b (.map es clock)) v.ownBlock:=by
   refine ⟨hg2.os.trans hg1.os,hg2.tape.trans hg1.tape,hg2.output.trans hg1.output,?_,λ i hi hne=>?_⟩
   ·have:=hg2.size
    simp [setBlock];omega
   ·by_cases e:i=b
    ·rw [e,heap_setBlock_same hb2];exact hb.symm
    ·rw [heap_setBlock_other hb2 _ e,hg2.block i (by omega) hne,hg1.block i hi (by simpa using e)]
  obtain ⟨w3,r1,r2,r3⟩:=hback _ v' zs' hgw (ho2.kept hg2' (.inr (notb ho2))) hl2 (by rw [hs1] at hloc;exact hloc);refine ⟨w3,hsame w2 v' hb2 w3 r1,r2,⟨r3.os,r3.tape,r3.output,?_,λ i hi hne=>?_⟩⟩
  ·have:=r3.size
   simp [setBlock] at this;exact this
  ·rw [r3.block i (by simp [setBlock];exact hi) hne,hg2'.block i hi hne]
 rcases K.find w hkey es.toList F.keys with ⟨h1,h2⟩ | ⟨j,e0,h1,h2,h3⟩
 ·have hvz:v= .slice none 0 0:=by
   rcases Maps.fit_look false K ht hz hb F hkey with ⟨hrun,_,_⟩ | ⟨e0,y,hm0,h3,_⟩
   ·rw [hrun] at hlk;injection hlk with hlk;exact hlk.symm
   ·exact absurd h3 (h2 e0 hm0)
  refine core (es.push ⟨key,.slice none 0 0,clock⟩) (clock+1) clock _ rfl (λ w2 v' hb2 w3 hup=>?_) ?_
  ·obtain ⟨W,hW⟩:∃W,setBlock w2 b (.map es clock)=W:=⟨_,rfl⟩
   rw [hW] at hup;have hbs:W.heap[b]? =some (.map es clock):=by rw [<-hW];exact heap_setBlock_same hb2 _
   rcases K.find W hkey es.toList F.keys with ⟨g1,g2⟩ | ⟨j,e0,g1,g2,g3⟩
   ·have hup2:(Instr.mapUpdate t (.map (some b)) key v').run P W= .ok () (setBlock W b (.map (es.push ⟨key,v',clock⟩) (clock+1))):=by
     simp [Instr.mapUpdate,run_underlying ht,MapKept.run_getObj_map hbs,K.check W false hkey,g1,MapKept.run_setObj_map _ hbs,Result.andThen,setBlock]
    rw [hup] at hup2;injection hup2 with _ hw
    rw [<-hW,zio] at hw;subst hw;have hf:(es.push ⟨key,.slice none 0 0,clock⟩).findIdx? (λ e=>((e.born:Int)==(clock:Int)))=some es.size:=by
     refine zlv (e0:=⟨key,.slice none 0 0,clock⟩) (by simp) rfl (λ i x hx hxb=>?_);simp only [Array.toList_push] at hx;rcases Nat.lt_or_ge i es.toList.length with hi | hi
     ·rw [List.getElem?_append_left hi] at hx
      have:=F.stamped.1 x (List.mem_of_getElem? hx);omega
     ·have:=(List.getElem?_eq_some_iff.1 hx).1
      simp at this hi;omega
    have hmod:(es.push ⟨key,.slice none 0 0,clock⟩).modify es.size (λ e=>{e with val:=v'})=es.push ⟨key,v',clock⟩:=by
     apply Array.ext
     ·simp
     ·intro i h1 h2
      simp only [Array.getElem_modify,Array.getElem_push];split <;> split <;> simp_all <;> omega
    simp [Instr.entryStore,MapKept.run_getObj_map hb2,asInt,asIntOf,hf,hmod,MapKept.run_setObj_map _ hb2,Result.andThen];simp [setBlock]
   ·exact absurd g3 (h2 e0 (List.mem_of_getElem? g2))
  ·rw [hvz]
   simp [Instr.mapEntry,run_underlying ht,MapKept.run_getObj_map hb,K.check w false hkey,h1,hz,MapKept.run_setObj_map _ hb,Result.andThen,setBlock,goInt]
 ·have hj:es[j]? =some e0:=by simpa using h2
  have hjl:j<es.size:=(Array.getElem?_eq_some_iff.1 hj).1;have hje:es[j]=e0:=(Array.getElem?_eq_some_iff.1 hj).2;have hvz:v=e0.val:=by
   have:(Instr.lookup t (.map (some b)) key false).run P w= .ok e0.val w:=by
    simp [Instr.lookup,run_underlying ht,MapKept.run_getObj_map hb,K.check w _ hkey,h1,Result.andThen]
   rw [this] at hlk;injection hlk with hlk;exact hlk.symm
  refine core (es.modify j λ e=>{e with key:=key}) clock e0.born _ rfl (λ w2 v' hb2 w3 hup=>?_) ?_
  ·obtain ⟨W,hW⟩:∃W,setBlock w2 b (.map es clock)=W:=⟨_,rfl⟩
   rw [hW] at hup;have hbs:W.heap[b]? =some (.map es clock):=by rw [<-hW];exact heap_setBlock_same hb2 _
   rcases K.find W hkey es.toList F.keys with ⟨g1,g2⟩ | ⟨j',e0',g1,g2,g3⟩
   ·exact absurd h3 (g2 e0 (List.mem_of_getElem? h2))
   ·have hjj:j'=j:=by
     by_cases hij:j'=j
     ·exact hij
     ·have h5:=other_key F h2 g2 hij
      rw [g3,h3] at h5;exact absurd rfl h5
    subst hjj;have hee:e0'=e0:=by rw [h2] at g2;exact (Option.some.inj g2).symm
    subst hee;have hup2:(Instr.mapUpdate t (.map (some b)) key v').run P W= .ok () (setBlock W b (.map (es.modify j' λ e=>{e with key:=key,val:=v'}) clock)):=by
     simp [Instr.mapUpdate,run_underlying ht,MapKept.run_getObj_map hbs,K.check W false hkey,g1,hj,h3,K.stays W hkey,MapKept.run_setObj_map _ hbs,Result.andThen,setBlock]
    rw [hup] at hup2;injection hup2 with _ hw
    rw [<-hW,zio] at hw;subst hw;have hf:(es.modify j' λ e=>{e with key:=key}).findIdx? (λ e=>((e.born:Int)==(e0'.born:Int)))=some j':=by
     refine zlv (e0:={e0' with key:=key}) ?_ rfl (λ i x hx hxb=>?_)
     ·rw [Array.toList_modify,modify_eq_set _ _ _ _ h2,List.getElem?_set]
      simp [hjl]
     ·rw [Array.toList_modify,modify_eq_set _ _ _ _ h2,List.getElem?_set] at hx
      split at hx
      ·next hij=>exact hij.symm
      ·have hxm:=List.mem_of_getElem? hx
       have hem:e0'∈es.toList:=List.mem_of_getElem? h2;obtain rfl:=born_inj hst.2.1 hxm hem hxb;by_cases hij:i=j'
       ·exact hij
       ·exact absurd rfl (other_key F h2 hx hij)
    have hmod:(es.modify j' λ e=>{e with key:=key}).modify j' (λ e=>{e with val:=v'})=es.modify j' λ e=>{e with key:=key,val:=v'}:=by
     apply Array.ext
     ·simp
     ·intro i h1 h2
      simp only [Array.getElem_modify];split <;> simp_all
    simp [Instr.entryStore,MapKept.run_getObj_map hb2,asInt,asIntOf,hf,hmod,MapKept.run_setObj_map _ hb2,Result.andThen];simp [setBlock]
  ·rw [hvz]
   simp [Instr.mapEntry,run_underlying ht,MapKept.run_getObj_map hb,K.check w false hkey,h1,hj,h3,K.stays w hkey,MapKept.run_setObj_map _ hb,Result.andThen,setBlock,goInt]
end
end Go.Proofs.YtebcjaenhiiflaaGreatDoor.S
namespace Go.Proofs.YtebcjaenhiiflaaGreatDoor.S
open Go.RowKit Go.WideMaps Go.Maps Go.ChangeShapes Go.Proofs.Tryz
theorem z8w:laidOutB prog=true:=by kernel_rfl
theorem zya:208<prog.types.size:=of_decide_eq_true (by kernel_rfl)
theorem z5j:(match prog.underlying 208 with | some (.array _ _) | some (.struct _)=>true | _=>false)=true:=by kernel_rfl
theorem zi1:Keyed prog 208:=Keyed.of_law (deep_law_laid z8w (m:=2) (by omega) zya (by kernel_rfl) z5j)
theorem yab1:prog.keyType 208=true:=by kernel_rfl
theorem yabf (p q:Int):(Value.agg #[.int .u64 p,.int .u64 q]).formed prog 208=true:=by kernel_rfl
theorem yabt:prog.cellsOf 208=2:=by kernel_rfl
theorem yadh:prog.cellsOf 132=1:=by kernel_rfl
theorem yab0:∃m,prog.types.size=m+1:=⟨prog.types.size-1,by have:=zya;omega⟩
theorem wf_u64 {x:Nat} (h:x<18446744073709551616):(Lit.int .u64 (x:Int)).wf=true:=by
 simp only [Lit.wf,IntKind.min,IntKind.max,IntKind.signed,IntKind.bits];simp;omega
theorem zw0 {P:Program} {k t m:Nat} (hu:P.underlying k=some (.array 2 t)) (ht:P.underlying t=some (.int .u64)) (ck:P.cellsOf k=2) (ct:P.cellsOf t=1) (hs:P.types.size=m+1) (hkt:P.keyType k=true)
 {p q:Int} (hf:(Value.agg #[.int .u64 p,.int .u64 q]).formed P k=true) (hp:(Lit.int .u64 p).wf=true) (hq:(Lit.int .u64 q).wf=true):keyOf P k (.agg #[.int .u64 p,.int .u64 q])=some (.string (keyBytes [.int .u64 p,.int .u64 q])):=by
 unfold keyOf;rw [hu];simp only [hkt,hf,Bool.and_self,if_true,hs];have e1:∀x:Int,(Lit.int .u64 x).wf=true->P.keyLits (m+1) t [.int .u64 x]=some [.int .u64 x]:=λ x hx=>by simp [Program.keyLits,ht,hx]
 have:P.keyLits (m+1+1) k (Value.agg #[.int .u64 p,.int .u64 q]).cells.toList=some [.int .u64 p,.int .u64 q]:=by
  unfold Program.keyLits;rw [hu];simp [Value.cells,ck,ct,e1 p hp,e1 q hq,List.range_succ]
 rw [this];rfl
def rk (x:Nat):Lit:=.string (keyBytes [.int .u64 (zbh x:Int),.int .u64 (hi64 x:Int)])
theorem zqd {x:Nat} (h:x<340282366920938463463374607431768211456):keyOf prog 208 (.agg #[.int .u64 (zbh x:Int),.int .u64 (hi64 x:Int)])=some (rk x):=by
 obtain ⟨m,hm⟩:=yab0;exact zw0 underlying208 underlying132 yabt yadh hm yab1 (yabf _ _) (wf_u64 (yabu x)) (wf_u64 (yabs h))
theorem zr0 {x y:Nat} (hx:x<340282366920938463463374607431768211456) (hy:y<340282366920938463463374607431768211456) (h:rk x=rk y):x=y:=by
 have:=zi1.inj (zqd hx) (h▸zqd hy);simp only [Value.agg.injEq,Array.mk.injEq,List.cons.injEq,Value.int.injEq,true_and,and_true] at this;exact z4b (by omega) (by omega)
theorem zps (x:Nat):WideAt.IsKeyLit (rk x):=trivial
structure Ga (D:DataW Unit) (Dn:Edg->Prop) (f:Edg->Nat):Prop where
 yes:∀y,(∃e,Dn e/\f e=y)->∃zs,D.atKey (rk y) .nil= .slice (lits .i64 zs) []/\∀x,x∈zs↔∃d,Dn d/\f d=y/\d.1=x
 no:∀y,y<340282366920938463463374607431768211456->(¬∃e,Dn e/\f e=y)->D.atKey (rk y) .nil= .nil
 key:∀kl,Maps.has D kl=true↔∃e,Dn e/\kl=rk (f e)
 tidy:Tidy D
theorem Ga.start (f:Edg->Nat):Ga (.map []) (λ _=>False) f:=
 ⟨λ y ⟨_,h,_⟩=>h.elim,λ y _ _=>rfl,λ kl=>by simp [Maps.has],tidy_empty⟩
theorem Ga.congr {D:DataW Unit} {Dn Dn':Edg->Prop} {f:Edg->Nat} (h:Ga D Dn f) (e:∀d,Dn d↔Dn' d):Ga D Dn' f:=by
 have:Dn=Dn':=funext λ d=>propext (e d)
 rw [<-this];exact h
theorem Ga.more {D:DataW Unit} {Dn:Edg->Prop} {f:Edg->Nat} (h:Ga D Dn f) (hs:∀d,f d<340282366920938463463374607431768211456) (e:Edg) {v v':Value} {zs:List Int} {w:World} {base:Nat} (hat:D.atKey (rk (f e)) .nil=rowDatum .i64 v zs) (ho:w.ownsInts base 3 .i64 v zs) (hv':∀n c,v'≠ .slice none n c):
 Ga (D.put (rk (f e)) (rowDatum .i64 v' (zs++[e.1]))) (λ d=>Dn d\/d=e) f:=by
 have hrd:(rowDatum .i64 v' (zs++[e.1]):DataW Unit)= .slice (lits .i64 (zs++[e.1])) []:=by
  unfold rowDatum;split
  ·next n c=>exact absurd rfl (hv' n c)
  ·rfl
 have hold:∀x,x∈zs↔∃d,Dn d/\f d=f e/\d.1=x:=by
  by_cases hex:∃d,Dn d/\f d=f e
  ·obtain ⟨ys,h1,h2⟩:=h.yes (f e) hex
   rw [h1] at hat;unfold rowDatum at hat;split at hat
   ·cases hat
   ·injection hat with hat _
    rw [<-zh0 hat];exact h2
  ·have h1:=h.no (f e) (hs e) hex
   rw [h1] at hat;have hz:zs=[]:=by
    unfold rowDatum at hat;split at hat
    ·rcases ho.1.2 with ⟨_,h0⟩ | ⟨g,cap,cur,hh,_⟩
     ·exact List.eq_nil_of_length_eq_zero h0
     ·cases hh
    ·cases hat
   intro x;rw [hz];constructor
   ·intro hx;simp at hx
   ·rintro ⟨d,h2,h3,_⟩;exact absurd ⟨d,h2,h3⟩ hex
 rw [hrd];refine ⟨λ y hy=>?_,λ y hyl hy=>?_,λ kl=>?_,h.tidy.put (zps _) _⟩
 ·by_cases hye:y=f e
  ·rw [hye,atKey_put_same h.tidy.isMap (zps _)]
   refine ⟨_,rfl,λ x=>?_⟩;rw [List.mem_append,hold,List.mem_singleton];constructor
   ·rintro (⟨d,h1,h2,h3⟩ | rfl)
    ·exact ⟨d,.inl h1,h2,h3⟩
    ·exact ⟨e,.inr rfl,rfl,rfl⟩
   ·rintro ⟨d,h1 | rfl,h2,h3⟩
    ·exact .inl ⟨d,h1,h2,h3⟩
    ·exact .inr h3.symm
  ·obtain ⟨d,hd,hdy⟩:=hy
   have hdn:Dn d:=hd.resolve_right (λ k=>hye (by rw [<-hdy,k]));have hyl:y<340282366920938463463374607431768211456:=by rw [<-hdy];exact hs d
   rw [atKey_put_other (λ k=>hye (zr0 hyl (hs e) k))];obtain ⟨ys,h1,h2⟩:=h.yes y ⟨d,hdn,hdy⟩;refine ⟨ys,h1,λ x=>?_⟩;rw [h2];constructor
   ·rintro ⟨d,k1,k2,k3⟩;exact ⟨d,.inl k1,k2,k3⟩
   ·rintro ⟨d,k1 | rfl,k2,k3⟩
    ·exact ⟨d,k1,k2,k3⟩
    ·exact absurd k2.symm hye
 ·have hye:y≠f e:=λ k=>hy ⟨e,.inr rfl,k.symm⟩
  rw [atKey_put_other (λ k=>hye (zr0 hyl (hs e) k))];exact h.no y hyl (λ ⟨d,k1,k2⟩=>hy ⟨d,.inl k1,k2⟩)
 ·by_cases hk:kl=rk (f e)
  ·rw [hk,has_put_same h.tidy.isMap (zps _)]
   exact ⟨λ _=>⟨e,.inr rfl,rfl⟩,λ _=>rfl⟩
  ·rw [has_put_other hk,h.key]
   constructor
   ·rintro ⟨d,k1,k2⟩;exact ⟨d,.inl k1,k2⟩
   ·rintro ⟨d,k1 | rfl,k2⟩
    ·exact ⟨d,k1,k2⟩
    ·exact absurd k2 hk
structure Rs (w:World) (B n:Nat) (t:Value) (ps:List (Nat × Nat × List Nat)):Prop where
 row:w.ownsRow B 175 1 t ps.length (ps.map λ q=>Value.pointer (some ⟨q.1,0,none⟩))
 sets:∀q∈ps,zab w q.1 q.2.1 q.2.2
 len:∀q∈ps,q.2.2.length=n
 off:∀k,t.ownBlock=some k->∀q∈ps,q.1≠k/\q.2.1≠k
theorem Rs.below {w w':World} {B n:Nat} {t:Value} {ps:List (Nat × Nat × List Nat)} (h:Rs w B n t ps) (hb:Below w.heap.size w w'):Rs w' B n t ps:=
 {h with row:=World.ownsRow.kept h.row (zai hb) (by by_cases e:t.ownBlock=none;exact .inl e;exact .inr e),sets:=λ q hq=>(h.sets q hq).below hb (h.sets q hq).plt (h.sets q hq).blt}
def apB (ps:List (Nat × Nat × List Nat)) (x y:Nat):Bool:=ps.any λ q=>decide (q.2.2.getD x 0≠q.2.2.getD y 0)
theorem zok {ps:List (Nat × Nat × List Nat)} {x y:Nat}:apB ps x y=false↔∀q∈ps,q.2.2.getD x 0=q.2.2.getD y 0:=by
 simp [apB]
theorem z4k (x y p b cx cy:Nat) (L:List Nat) (s:Bool) (w:World) (hs:zab w p b L) (hx:x<L.length) (hy:y<L.length) (kx:w.cell? ⟨cx,0,none⟩=some (.int .i64 (x:Int))) (ky:w.cell? ⟨cy,0,none⟩=some (.int .i64 (y:Int))) (hv:s=true↔L.getD x 0≠L.getD y 0):
 Calls prog 259 #[.pointer (some ⟨p,0,none⟩),.pointer (some ⟨cx,0,none⟩),.pointer (some ⟨cy,0,none⟩)] w λ e w'=>e= .returned (.bool s)/\Below w.heap.size w w':=by
 have HC:Hid _:=zlg x y p b L s w hs hx hy hv;clear hs hx hy hv;go_enter func259,ntmps259;go_wp2_with fail;refine Calls.mono HC.out ?_;rintro e w1 ⟨rfl,hb⟩;have HB:=kd hb;clear hb HC;go_wp2_with fail;go_ret;exact ⟨rfl,HB.out⟩
theorem zwb (x y cx cy n g m cap B:Nat) (ps:List (Nat × Nat × List Nat)) (w:World) (h:Rs w B n (.slice (some ⟨g,0,none⟩) m cap) ps) (hx:x<n) (hy:y<n) (kx:w.cell? ⟨cx,0,none⟩=some (.int .i64 (x:Int))) (ky:w.cell? ⟨cy,0,none⟩=some (.int .i64 (y:Int))) (hm:ps.length=m) (hl:m<=1000):
 Calls prog 325 #[.slice (some ⟨g,0,none⟩) m cap,.func (.func 259) #[] #[.pointer (some ⟨cx,0,none⟩),.pointer (some ⟨cy,0,none⟩)]] w λ e w'=>((∃i,i<m/\e= .returned (.int .i64 ((i:Nat):Int))/\apB ps x y=true)\/(e= .returned (.int .i64 (-1))/\apB ps x y=false))/\Below w.heap.size w w':=by
 have HO:=kd (And.intro h hm);have HK:=kd (And.intro kx ky);clear h hm kx ky;go_enter func325,ntmps325;go_wp2_with fail;go_loopw [8] (λ s8 wq=>∃k:Nat,k<=m/\s8= .int .i64 k/\(∀j q,j<k->ps[j]? =some q->q.2.2.getD x 0=q.2.2.getD y 0)/\Below w.heap.size w wq) (λ s8 _=>m-(intOf s8).toNat)
 case atStart=>exact ⟨0,Nat.zero_le _,rfl,λ j q hj=>by omega,Below.refl _ _⟩
 case round=>
  obtain ⟨k,hk,rfl,hno,hb⟩:=hrel;have HB:=kd (And.intro hno hb);clear hno hb;by_cases hlt:k<m
  ·obtain ⟨q,hq⟩:∃q,ps[k]? =some q:=⟨_,List.getElem?_eq_getElem (by rw [HO.out.2];exact hlt)⟩
   have hR:=HO.out.1.below HB.out.2;have hqm:=List.mem_of_getElem? hq;have r0:wr.cell? ⟨g,k,none⟩=some (.pointer (some ⟨q.1,0,none⟩)):=by
    have h1:=hR.row;rw [HO.out.2] at h1;rw [h1.cellAt k (by omega)];simp [hq]
   have HX:=kd hq;have hs:=hR.sets q hqm;have hln:=hR.len q hqm;have HC:Hid _:=z4k x y q.1 q.2.1 cx cy q.2.2 (decide (q.2.2.getD x 0≠q.2.2.getD y 0)) wr hs (by omega) (by omega) (cell_below HK.out.1 HB.out.2) (cell_below HK.out.2 HB.out.2) (by simp);clear hR hs hln hq;by_cases hxd:q.2.2.getD x 0≠q.2.2.getD y 0
   ·as_aux_lemma=>
    have HT:Hid (apB ps x y=true):=List.any_eq_true.2 ⟨q,hqm,decide_eq_true hxd⟩;rw [decide_eq_true hxd] at HC;clear hqm hxd;go_wp2_with fail;refine Calls.mono HC.out ?_;rintro e w2 ⟨rfl,hb2⟩;have HB2:Hid (Below w.heap.size w w2):=HB.out.2.trans (hb2.mono HB.out.2.size);clear hb2 HC;go_wp2_with fail;go_ret;exact ⟨.inl ⟨k,hlt,rfl,HT.out⟩,HB2.out⟩
   ·as_aux_lemma=>
    rw [decide_eq_false hxd] at HC;have hxe:q.2.2.getD x 0=q.2.2.getD y 0:=by omega
    have HN:=kd hxe;clear hqm hxd hxe;go_wp2_with fail;refine Calls.mono HC.out ?_;rintro e w2 ⟨rfl,hb2⟩;have HB2:Hid (Below w.heap.size w w2/\∀j q,j<k+1->ps[j]? =some q->q.2.2.getD x 0=q.2.2.getD y 0):=⟨HB.out.2.trans (hb2.mono HB.out.2.size),λ j q' hj hq'=>by
     by_cases e:j=k
     ·rw [e,HX.out] at hq';injection hq' with hq';rw [<-hq'];exact HN.out
     ·exact HB.out.1 j q' (by omega) hq'⟩
    clear hb2 HC;go_wp2_with fail;go_roundw;case rel=>exact ⟨k+1,by omega,by go_num,HB2.out.2,HB2.out.1⟩
    case measure=>simp [intOf];omega
  ·as_aux_lemma=>
   have hke:k=m:=by omega
   have HF:Hid (apB ps x y=false):=zok.2 (λ q hq=>by
    obtain ⟨j,hj⟩:=List.getElem?_of_mem hq;have:=(List.getElem?_eq_some_iff.1 hj).1;exact HB.out.1 j q (by have:=HO.out.2;omega) hj)
   go_wp2_with fail;go_ret;exact ⟨.inr ⟨rfl,HF.out⟩,HB.out.2⟩
theorem zor (x y cx cy n g m cap B:Nat) (ps:List (Nat × Nat × List Nat)) (w:World) (h:Rs w B n (.slice (some ⟨g,0,none⟩) m cap) ps) (hx:x<n) (hy:y<n) (kx:w.cell? ⟨cx,0,none⟩=some (.int .i64 (x:Int))) (ky:w.cell? ⟨cy,0,none⟩=some (.int .i64 (y:Int))) (hm:ps.length=m) (hl:m<=1000):
 Calls prog 258 #[.slice (some ⟨g,0,none⟩) m cap,.func (.func 259) #[] #[.pointer (some ⟨cx,0,none⟩),.pointer (some ⟨cy,0,none⟩)]] w λ e w'=>e= .returned (.bool (apB ps x y))/\Below w.heap.size w w':=by
 have HC:Hid _:=zwb x y cx cy n g m cap B ps w h hx hy kx ky hm hl;clear h hx hy kx ky hm hl;go_enter func258,ntmps258;go_wp2_with fail;refine Calls.mono HC.out ?_;rintro e w1 ⟨he,hb⟩;have HB:=kd hb;clear hb HC;rcases he with ⟨i,hi,rfl,ht⟩ | ⟨rfl,ht⟩
 ·as_aux_lemma=>
  have h0:(0:Int)<=(i:Int):=by omega
  have HT:=kd ht;clear ht;go_wp2_with fail;go_ret;exact ⟨by simp [HT.out],HB.out⟩
 ·as_aux_lemma=>
  have HT:=kd ht;clear ht;go_wp2_with fail;go_ret;exact ⟨by simp [HT.out],HB.out⟩
end Go.Proofs.YtebcjaenhiiflaaGreatDoor.S
