import Derived.Maps.RangeWalk
import Derived.Maps.OwnSet
namespace Go.Proofs.Y.S
open Go Go.ChangeMaps Go.MapKept Go.WideShapes
open Go.WideElems (Fit rd rg pl rd_key rd_val rg_of rd_mk other_key)
open Go.Maps (Keyed)
section
variable {H:Type} {P:Program} {k:TypeId} {R:Value->Option (DataW H × List MemPlace)} {w:World} {b r n:Nat} {D:DataW H} {left:Lit->Bool} {cnt:Nat}
theorem yf {t e:TypeId}(h:w.ranges P k R b r n D left cnt)(K:Keyed P k)(ht:P.underlying t=some (.map k e)){key val:Value}{kl:Lit}{d:DataW H}{ps:List MemPlace}
 (o9:keyOf P k key=some kl) (hv:R val=some (d,ps)) (JM:Maps.has D kl=true):
 ∃w',(Instr.mapUpdate t (.map (some b)) key val).run P w= .ok () w'/\w'.ranges P k R b r n (D.put kl d) left cnt/\w.mapTurned w' b:=by
 have l9:=h.ne;obtain⟨es,clock,since,seen,c0,hb,F,hs,rfl,hr,hold,rfl,hl1,KS,hsc,hsk⟩:=h;rcases K.find w o9 es.toList F.keys with⟨h1,h2⟩|⟨j,e0,h1,h2,h3⟩
 ·exfalso
  rw[Maps.has_eq,List.any_eq_true] at JM;obtain⟨p,hp,TS⟩:=JM;obtain⟨x,hx,rfl⟩:=List.mem_map.1 (mem_sorted.1 hp);obtain⟨y,hy⟩:=F.reads x hx;have e1:=WideAt.sameKey_eq TS;rw[rg_of hy] at e1;exact h2 x hx (K.inj (e1▸rd_key hy) o9)
 ·have hj:es[j]? =some e0:=by simpa using h2
  have MF:j<es.toList.length:=(List.getElem?_eq_some_iff.1 h2).1;have hkeyf:∀e',es[j]? =some e'->({e' with key:=key,val:=val}:MapEntry).key=e'.key:=λ e' he'=>by rw[hj] at he';cases he';exact h3.symm
  have JN:(es.modify j (λ e'=>{e' with key:=key,val:=val})).toList=es.toList.set j {e0 with key:=key,val:=val}:=by rw[Array.toList_modify,modify_eq_set _ _ _ _ h2]
  have who:∀x∈es.toList.set j {e0 with key:=key,val:=val},x={e0 with key:=key,val:=val}\/(x∈es.toList/\x.key≠key):=by
   intro x hx;obtain⟨i,hi,ex⟩:=List.getElem_of_mem hx;rw[List.getElem_set] at ex;split at ex
   ·exact Or.inl ex.symm
   ·rename_i l9
    have hi':i<es.toList.length:=by simpa using hi
    refine Or.inr ⟨ex▸List.getElem_mem hi',?_⟩;rw[<-h3];exact other_key F h2 (by rw[List.getElem?_eq_getElem hi',ex]) (λ e1=>l9 e1.symm)
  have he0:e0∈es.toList:=List.mem_of_getElem? h2;have JZ:(rg P k R e0).1=kl:=by
   obtain⟨y,hy⟩:=F.reads e0 he0;have m0:=rd_key hy;rw[h3,o9] at m0;rw[rg_of hy];exact(Option.some.inj m0).symm
  have hrgn:(rg P k R {e0 with key:=key,val:=val}).1=kl:=by rw[rg_of (rd_mk o9 hv)]
  refine⟨_,?_,⟨es.modify j (λ e'=>{e' with key:=key,val:=val}),clock,since,seen,c0,heap_setBlock_same hb _,⟨by simpa using F.size,stamped_modify F.stamped _ _ (λ _ _=>rfl) (λ e' _ he'=>hkeyf e' he'),?_⟩,by simpa using hs,?_,(heap_setBlock_other hb _ l9).trans hr,?_,?_,?_,?_,hsc,hsk⟩,⟨es,clock,_,clock,hb,rfl⟩⟩
  ·simp[Instr.mapUpdate,run_underlying ht,MapKept.run_getObj_map hb,K.check w false o9,h1,hj,h3,K.stays w o9,MapKept.run_setObj_map _ hb,Result.andThen,setBlock]
  ·intro x hx
   rw[JN] at hx;rcases who x hx with rfl|⟨hx',_⟩
   ·exact⟨_,rd_mk o9 hv⟩
   ·exact F.reads x hx'
  ·rw[DataW.put_eq]
   congr 1
   symm;refine Maps.sorted_put K.one ⟨key,o9⟩ (Maps.fit_keys F) (Maps.fit_apart K F) ?_;rw[Maps.filter_one K F o9 h2 h3,JN,List.map_set,rg_of (rd_mk o9 hv)];exact set_perm _ _ (by simpa using MF) _
  ·intro x hx
   rw[JN] at hx;rcases who x hx with rfl|⟨hx',_⟩
   ·exact hold e0 he0
   ·exact hold x hx'
  ·have e1:∀a:Array MapEntry,(leftOf a seen).size=((a.toList.map MapEntry.born).filter λ e=>!seen.contains e).length:=λ a=>by
    unfold leftOf;rw[<-Array.length_toList,Array.toList_filter,List.filter_map,List.length_map];rfl
   rw[e1,e1,JN,List.map_set];have e2:(es.toList.map MapEntry.born).set j e0.born=es.toList.map MapEntry.born:=by
    apply List.ext_getElem
    ·simp
    ·intro i h1' h2'
     rw[List.getElem_set];split
     ·next hji=>
      subst hji;rw[List.getElem_map];have:=(List.getElem?_eq_some_iff.1 h2).2;rw[this]
     ·rfl
   rw[e2]
  ·intro x hx
   rw[JN] at hx;rcases who x hx with rfl|⟨hx',_⟩
   ·rw[hrgn,<-JZ,hl1 e0 he0]
   ·exact hl1 x hx'
  ·intro kl' hk
   obtain⟨x,hx,rfl⟩:=KS kl' hk;by_cases hxk:x.key=key
   ·have:(rg P k R x).1=kl:=by
     obtain⟨y,hy⟩:=F.reads x hx;have m0:=rd_key hy;rw[hxk,o9] at m0;rw[rg_of hy];exact(Option.some.inj m0).symm
    refine⟨{e0 with key:=key,val:=val},?_,by rw[hrgn,this]⟩;rw[JN];exact List.mem_iff_getElem.2 ⟨j,by simpa using MF,by simp⟩
   ·refine⟨x,?_,rfl⟩
    rw[JN];obtain⟨i,hi⟩:=List.getElem?_of_mem hx;obtain⟨LY,CR⟩:=List.getElem?_eq_some_iff.1 hi;have hij:j≠i:=by
     rintro rfl;rw[h2] at hi;cases hi;exact hxk h3
    exact List.mem_iff_getElem.2 ⟨i,by simpa using LY,by rw[List.getElem_set,if_neg hij];exact CR⟩
end
section
variable {H:Type} {P:Program} (w:World) {ops:Array Oper} {rest:List Oper} {o:Oper} {a:Act} {Q:Exit->Act->World->Prop}
theorem H5 (hg:o.guard=none)(m x v:Operand)(t:TypeId)(WU:o.op=Op.mapUpdate t m x v)
 (k e:TypeId) (K:Keyed P k) (ht:P.underlying t=some (.map k e)) (R:Value->Option (DataW H × List MemPlace)) (b r n:Nat) (D:DataW H) (left:Lit->Bool) (cnt:Nat)
 (hm:a.eval m= .map (some b)) (h:w.ranges P k R b r n D left cnt) (key val:Value) (kl:Lit) (hx:a.eval x=key) (hv:a.eval v=val) (o9:keyOf P k key=some kl)
 (d:DataW H) (ps:List MemPlace) (JO:R val=some (d,ps)) (JM:Maps.has D kl=true)
 (hK:∀w',w'.ranges P k R b r n (D.put kl d) left cnt->w.mapTurned w' b->wpList P ops Q rest (a.put o.dst undef) w'):
 wpList P ops Q (o::rest) a w:=by
 refine wpList_plain hg λ K' hK'=>?_
 obtain⟨w',AQ,r1,r2⟩:=yf h K ht o9 JO JM;unfold Oper.wp;simp[execOp,WU,hm,hx,hv,AQ,Result.andThen];exact hK' _ _ (hK w' r1 r2)
end
end Go.Proofs.Y.S
namespace Go.Proofs.Y.S
open Go Go.ChangeMaps Go.MapKept Go.WideShapes
open Go.WideElems (Fit rd rg pl rd_key rd_val rg_of rd_mk other_key)
open Go.Maps (Keyed)
theorem find_born {es:Array MapEntry}{j c:Nat}{e0:MapEntry}(h:es.toList[j]? =some e0)(hc:e0.born=c)(hu:∀i x,es.toList[i]? =some x->x.born=c->i=j):es.findIdx? (λ e=>((e.born:Int)==(c:Int)))=some j:=by
 rw[Array.findIdx?_eq_some_iff_getElem];obtain⟨hj,he⟩:=List.getElem?_eq_some_iff.1 h;refine⟨by simpa using hj,?_,λ i hi=>?_⟩
 ·have:es[j]'(by simpa using hj)=e0:=by simpa using he
  rw[this,hc];simp
 ·have LY:i<es.toList.length:=Nat.lt_trans hi hj
  intro hp;have:=hu i es.toList[i] (List.getElem?_eq_getElem LY) (by have h5:=beq_iff_eq.1 hp;simp;omega);omega
section
variable {H:Type} {P:Program} {k:TypeId} {R:Value->Option (DataW H × List MemPlace)} {w:World} {b n:Nat} {D:DataW H}
theorem Vg {t e:TypeId}(h:w.ownsMap P k R b n D)(K:Keyed P k)(ht:P.underlying t=some (.map k e))(hn:n<maxLen){z:Value}(hz:(zeroValue e).run P w= .ok z w){key:Value}{kl:Lit}(o9:keyOf P k key=some kl):
 ∃v st w1,(Instr.mapEntry t (.map (some b)) key).run P w= .ok (.tuple #[v,.int .i64 st]) w1/\w.grownBy w1 (some b)/\w1.heap.size=w.heap.size/\
  ∀val d ps,R val=some (d,ps)->∃w2,(Instr.entryStore t (.map (some b)) (.int .i64 st) val).run P w1= .ok () w2/\w2.ownsMap P k R b (n+1) (D.put kl d)/\w.grownBy w2 (some b):=by
 have h0:=h;obtain⟨es,clock,hb,F,hs,rfl⟩:=h;have CU:=(stamped_iff es clock).1 F.stamped;rcases K.find w o9 es.toList F.keys with⟨h1,h2⟩|⟨j,e0,h1,h2,h3⟩
 ·refine⟨z,clock,setBlock w b (.map (es.push ⟨key,z,clock⟩) (clock+1)),?_,⟨rfl,rfl,rfl,by simp[setBlock],λ i _ hi=>heap_setBlock_other hb _ (λ e=>hi (by rw[e]))⟩,by simp[setBlock],λ val d ps hv=>?_⟩
  ·simp[Instr.mapEntry,run_underlying ht,MapKept.run_getObj_map hb,K.check w false o9,h1,hz,MapKept.run_setObj_map _ hb,Result.andThen,setBlock,goInt]
  ·obtain⟨w',AQ,o8,FR⟩:=h0.update K ht hn o9 hv
   refine⟨w',?_,o8,FR⟩;have NM:(Instr.mapUpdate t (.map (some b)) key val).run P w= .ok () (setBlock w b (.map (es.push ⟨key,val,clock⟩) (clock+1))):=by
    simp[Instr.mapUpdate,run_underlying ht,MapKept.run_getObj_map hb,K.check w false o9,h1,MapKept.run_setObj_map _ hb,Result.andThen,setBlock]
   rw[AQ] at NM;injection NM with _ hw
   subst hw;have hf:(es.push ⟨key,z,clock⟩).findIdx? (λ e=>((e.born:Int)==(clock:Int)))=some es.size:=by
    refine find_born (e0:=⟨key,z,clock⟩) (by simp) rfl (λ i x hx GA=>?_);simp only[Array.toList_push] at hx;rcases Nat.lt_or_ge i es.toList.length with hi|hi
    ·rw[List.getElem?_append_left hi] at hx
     have:=F.stamped.1 x (List.mem_of_getElem? hx);omega
    ·have:=(List.getElem?_eq_some_iff.1 hx).1
     simp at this hi;omega
   have j4:(setBlock w b (.map (es.push ⟨key,z,clock⟩) (clock+1))).heap[b]? =some (.map (es.push ⟨key,z,clock⟩) (clock+1)):=heap_setBlock_same hb _;have PG:(es.push ⟨key,z,clock⟩).modify es.size (λ e=>{e with val:=val})=es.push ⟨key,val,clock⟩:=by
    apply Array.ext
    ·simp
    ·intro i h1 h2
     simp only[Array.getElem_modify,Array.getElem_push];split <;> split <;> simp_all <;> omega
   simp[Instr.entryStore,MapKept.run_getObj_map j4,asInt,asIntOf,hf,PG,MapKept.run_setObj_map _ j4,Result.andThen];simp[setBlock]
 ·have hj:es[j]? =some e0:=by simpa using h2
  refine⟨e0.val,e0.born,setBlock w b (.map (es.modify j λ e=>{e with key:=key}) clock),?_,⟨rfl,rfl,rfl,by simp[setBlock],λ i _ hi=>heap_setBlock_other hb _ (λ e=>hi (by rw[e]))⟩,by simp[setBlock],λ val d ps hv=>?_⟩
  ·simp[Instr.mapEntry,run_underlying ht,MapKept.run_getObj_map hb,K.check w false o9,h1,hj,h3,K.stays w o9,MapKept.run_setObj_map _ hb,Result.andThen,setBlock,goInt]
  ·obtain⟨w',AQ,o8,FR⟩:=h0.update K ht hn o9 hv
   refine⟨w',?_,o8,FR⟩;have NM:(Instr.mapUpdate t (.map (some b)) key val).run P w= .ok () (setBlock w b (.map (es.modify j λ e=>{e with key:=key,val:=val}) clock)):=by
    simp[Instr.mapUpdate,run_underlying ht,MapKept.run_getObj_map hb,K.check w false o9,h1,hj,h3,K.stays w o9,MapKept.run_setObj_map _ hb,Result.andThen,setBlock]
   rw[AQ] at NM;injection NM with _ hw
   subst hw;have MF:j<es.size:=(Array.getElem?_eq_some_iff.1 hj).1;have CE:es[j]=e0:=(Array.getElem?_eq_some_iff.1 hj).2;have hf:(es.modify j λ e=>{e with key:=key}).findIdx? (λ e=>((e.born:Int)==(e0.born:Int)))=some j:=by
    refine find_born (e0:={e0 with key:=key}) ?_ rfl (λ i x hx GA=>?_)
    ·rw[Array.toList_modify,modify_eq_set _ _ _ _ h2,List.getElem?_set]
     simp[MF]
    ·rw[Array.toList_modify,modify_eq_set _ _ _ _ h2,List.getElem?_set] at hx
     split at hx
     ·next hij=>exact hij.symm
     ·obtain⟨LY,CR⟩:=List.getElem?_eq_some_iff.1 hx
      have KL:=List.mem_of_getElem? hx;have hem:e0∈es.toList:=List.mem_of_getElem? h2;obtain rfl:=born_inj CU.2.1 KL hem GA;by_cases hij:i=j
      ·exact hij
      ·exact absurd rfl (other_key F h2 hx hij)
   have j4:(setBlock w b (.map (es.modify j λ e=>{e with key:=key}) clock)).heap[b]? =some (.map (es.modify j λ e=>{e with key:=key}) clock):=heap_setBlock_same hb _;have PG:(es.modify j λ e=>{e with key:=key}).modify j (λ e=>{e with val:=val})=es.modify j λ e=>{e with key:=key,val:=val}:=by
    apply Array.ext
    ·simp
    ·intro i h1 h2
     simp only[Array.getElem_modify];split <;> simp_all
   simp[Instr.entryStore,MapKept.run_getObj_map j4,asInt,asIntOf,hf,PG,MapKept.run_setObj_map _ j4,Result.andThen];simp[setBlock]
end
end Go.Proofs.Y.S
