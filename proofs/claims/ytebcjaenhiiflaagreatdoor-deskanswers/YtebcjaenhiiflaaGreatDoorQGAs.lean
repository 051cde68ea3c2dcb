import Derived.Test.YtebcjaenhiiflaaGreatDoorQHi
import Derived.Test.YtebcjaenhiiflaaGreatDoorProg
import Derived.RowKit
import Derived.WalkKit
import Derived.LaidEql
import Derived.Stop.Asserts
import Derived.RowKitTokens
set_option maxHeartbeats 4000000
set_option maxRecDepth 100000
namespace Go.Proofs.Y.G
open Go.RowKit Go.Extern.Stop Go.Stop Go.Extern Go.Proofs.Tryz
theorem Uf {P:Program}{W:World}{z:Sem Value}{f:TypeId->Addr->Nat->Nat->Sem Value}{v:Value}{t:TypeId}{a:Addr}{fl:Nat}
 (hp:(ReflectliteValue.parts v).run P W= .ok (some (t,a,fl)) W):(ReflectliteValue.method z f #[v]).run P W=(f t a fl (fl%32)).run P W:=by
 show Sem.run P (ReflectliteValue.parts v >>=_) W=_;rw[jS,hp];rfl
theorem zoz {P:Program}{W W':World}{v x val:Value}{dst src:TypeId}{a b:Addr}{fl fl':Nat}(h1:(ReflectliteValue.parts v).run P W= .ok (some (dst,a,fl)) W)(h2:(ReflectliteValue.parts x).run P W= .ok (some (src,b,fl')) W)
 (hfl:(fl/ReflectliteValue.flagAddr%2==0)=false) (hl:(loadVar src b).run P W= .ok val W) (hd:(Rtype.directlyAssignable dst src).run P W= .ok true W) (hs:(storeVar dst a val).run P W= .ok () W'):
 (ReflectliteValue.set #[v,x]).run P W= .ok (.tuple #[]) W':=by
 show Sem.run P (ReflectliteValue.parts v >>=_) W=_;rw[jS,h1];show Sem.run P (ReflectliteValue.parts x >>=_) W=_;rw[jS,h2];simp[hfl,hl,hd,hs,Result.andThen]
theorem Tryz.valueOf246 (t:Addr)(w:World):(ReflectliteValue.unpack (.iface 246 (.pointer (some t)))).run prog w
 = .ok (.agg #[.pointer (9,246),.pointer w,.int .u64 150]) (w.alloc (.cells #[.pointer (some t)] 246)):=by kernel_rfl
theorem Tryz.type246 (a:Addr)(w:World):(ReflectliteValue.methodAny (ReflectliteValue.valueError "reflectlite.Value.Type" 0) (λ t _ _ _=>ReflectliteType.toType t) #[.agg #[.pointer (9,246),.pointer (some a),.int .u64 150]]).run prog w
 = .ok (.iface 248 (.agg #[.pointer (9,246)])) w:=by kernel_rfl
theorem Tryz.methodKind (h:Value)(w:World):(Go.method 546 248 (.agg #[h]) "Kind").run prog w= .ok (402,h) w:=by kernel_rfl
theorem Tryz.kind246 (w:World):((ReflectliteType.abiMethod λ t=>(λ a:Nat=>Value.int IntKind.u8 (a:Int))<$> Rtype.kind t) #[.pointer (9,246)]).run prog w= .ok (.int .u8 22) w:=by kernel_rfl
theorem Tryz.kind23 (w:World):((ReflectliteType.abiMethod λ t=>(λ a:Nat=>Value.int IntKind.u8 (a:Int))<$> Rtype.kind t) #[.pointer (9,23)]).run prog w= .ok (.int .u8 2) w:=by kernel_rfl
theorem Tryz.parts246 (a:Addr)(w:World):(ReflectliteValue.parts (.agg #[.pointer (9,246),.pointer (some a),.int .u64 150])).run prog w= .ok (some (246,a,150)) w:=by kernel_rfl
theorem Tryz.isNil246 (a p:Addr)(W:World)(ha:W.cell? a=some (.pointer (some p))):
 (ReflectliteValue.method (ReflectliteValue.valueError "reflectlite.Value.IsNil" 0) ReflectliteValue.isNil #[.agg #[.pointer (9,246),.pointer (some a),.int .u64 150]]).run prog W= .ok (.bool false) W:=by
 rw[Uf (Tryz.parts246 a W)];simp[ReflectliteValue.isNil,loadVar,isAgg,underlying,underlying246,ha,Result.andThen]
theorem Tryz.methodElem (h:Value)(w:World):(Go.method 546 248 (.agg #[h]) "Elem").run prog w= .ok (415,.agg #[h]) w:=by kernel_rfl
theorem Tryz.methodImplements (h:Value)(w:World):(Go.method 546 248 (.agg #[h]) "Implements").run prog w= .ok (416,.agg #[h]) w:=by kernel_rfl
theorem Tryz.methodAssignableTo (h:Value)(w:World):(Go.method 546 248 (.agg #[h]) "AssignableTo").run prog w= .ok (414,.agg #[h]) w:=by kernel_rfl
theorem Tryz.elem246 (w:World):(ReflectliteType.method ReflectliteType.elem #[.agg #[.pointer (9,246)]]).run prog w= .ok (.iface 248 (.agg #[.pointer (9,23)])) w:=by kernel_rfl
theorem Tryz.implements23 (w:World):(ReflectliteType.relation "Implements" ReflectliteType.implements_ #[.agg #[.pointer (9,23)],.iface 248 (.agg #[.pointer (9,28)])]).run prog w= .ok (.bool true) w:=by kernel_rfl
theorem Tryz.typeOf23 (v:Value)(w:World):(ReflectliteType.typeOf #[.iface 23 v]).run prog w= .ok (.iface 248 (.agg #[.pointer (9,23)])) w:=by kernel_rfl
theorem Tryz.assignable23 (w:World):(ReflectliteType.relation "AssignableTo" ReflectliteType.assignableTo #[.agg #[.pointer (9,23)],.iface 248 (.agg #[.pointer (9,23)])]).run prog w= .ok (.bool true) w:=by kernel_rfl
theorem Tryz.valueOf23 (e:Int)(w:World):(ReflectliteValue.unpack (.iface 23 e)).run prog w
 = .ok (.agg #[.pointer (9,23),.pointer w,.int .u64 130]) (w.alloc (.cells #[e] 23)):=by kernel_rfl
theorem Tryz.elemOf246 (w:World):(Rtype.elem? 246).run prog w= .ok (some 23) w:=by kernel_rfl
theorem Tryz.mk23 (p:Addr)(w:World):(ReflectliteValue.mk 23 p ReflectliteValue.flagAddr).run prog w= .ok (.agg #[.pointer (9,23),.pointer (some p),.int .u64 386]) w:=by kernel_rfl
theorem Tryz.elemV246 (a p:Addr)(W:World)(ha:W.cell? a=some (.pointer (some p))):
 (ReflectliteValue.method (ReflectliteValue.valueError "reflectlite.Value.Elem" 0) ReflectliteValue.elem #[.agg #[.pointer (9,246),.pointer (some a),.int .u64 150]]).run prog W
   = .ok (.agg #[.pointer (9,23),.pointer (some p),.int .u64 386]) W:=by
 rw[Uf (Tryz.parts246 a W)];simp[ReflectliteValue.elem,loadVar,isAgg,underlying,underlying246,ha,Result.andThen,Tryz.elemOf246,Tryz.mk23]
theorem Tryz.parts23a (a:Addr)(w:World):(ReflectliteValue.parts (.agg #[.pointer (9,23),.pointer (some a),.int .u64 386])).run prog w= .ok (some (23,a,386)) w:=by kernel_rfl
theorem Tryz.parts23 (a:Addr)(w:World):(ReflectliteValue.parts (.agg #[.pointer (9,23),.pointer (some a),.int .u64 130])).run prog w= .ok (some (23,a,130)) w:=by kernel_rfl
theorem Tryz.direct23 (w:World):(Rtype.directlyAssignable 23 23).run prog w= .ok true w:=by kernel_rfl
theorem Tryz.set23 (ta b:Addr)(e:Int)(old:Value)(W:World)(hb:W.cell? b=e)(ht:W.cell? ta=some old)(hf:W.frozen? ta=false):
 (ReflectliteValue.set #[.agg #[.pointer (9,23),.pointer (some ta),.int .u64 386],.agg #[.pointer (9,23),.pointer (some b),.int .u64 130]]).run prog W
   = .ok (.tuple #[]) (W.setCell ta e):=by
 refine zoz (Tryz.parts23a ta W) (Tryz.parts23 b W) rfl (val:=.int .i64 e) ?_ (Tryz.direct23 W) ?_
 ·simp[loadVar,isAgg,underlying,underlying23,hb,Result.andThen]
 ·simp[storeVar,Result.andThen,Value.cells,storeCells,Addr.add]
  rw[run_store prog W ta _ _ (by rfl)];simp[ht,hf]
theorem ztw (e:Int)(t:Addr)(old:Value)(w:World)(hg:w.cell? ⟨0,0,none⟩=some (.iface 248 (.agg #[.pointer (9,28)])))(ht0:w.cell? t=some old)(hf0:w.frozen? t=false):
 Calls prog 203 #[.iface 23 e,.iface 246 (.pointer (some t))] w λ ev w'=>ev= .returned (.bool true)/\w'=((((w.alloc (.cells #[.pointer (some t)] 246)).alloc (.cells #[.pointer (9,246),.pointer w,.int .u64 150] 158)).alloc (.cells #[.pointer (9,246),.pointer w,.int .u64 150] 158)).alloc (.cells #[e] 23)).setCell t e:=by
 have h6:=@run_callFunc_extern prog 107 _ (λ args=>ReflectliteValue.unpack (args.getD 0 (.tuple #[]))) func107 (by kernel_rfl) (by kernel_rfl) (by kernel_rfl) (by kernel_rfl);have h7:=@run_callFunc_extern prog 298 _ (ReflectliteValue.methodAny (ReflectliteValue.valueError "reflectlite.Value.Type" 0) (λ t _ _ _=>ReflectliteType.toType t)) func298 (by kernel_rfl) (by kernel_rfl) (by kernel_rfl) (by kernel_rfl);have h8:=@run_callFunc_extern prog 299 _ (ReflectliteValue.method (ReflectliteValue.valueError "reflectlite.Value.IsNil" 0) ReflectliteValue.isNil) func299 (by kernel_rfl) (by kernel_rfl) (by kernel_rfl) (by kernel_rfl);have h27:=@run_callFunc_extern prog 402 _ (ReflectliteType.abiMethod λ t=>do pure (.int .u8 (<-Rtype.kind t))) func402 (by kernel_rfl) (by kernel_rfl) (by kernel_rfl) (by kernel_rfl);have h37:=@run_callFunc_extern prog 415 _ (ReflectliteType.method ReflectliteType.elem) func415 (by kernel_rfl) (by kernel_rfl) (by kernel_rfl) (by kernel_rfl);have h38:=@run_callFunc_extern prog 416 _ (ReflectliteType.relation "Implements" ReflectliteType.implements_) func416 (by kernel_rfl) (by kernel_rfl) (by kernel_rfl) (by kernel_rfl);have h10:=@run_callFunc_extern prog 344 _ ReflectliteType.typeOf func344 (by kernel_rfl) (by kernel_rfl) (by kernel_rfl) (by kernel_rfl);have h35:=@run_callFunc_extern prog 414 _ (ReflectliteType.relation "AssignableTo" ReflectliteType.assignableTo) func414 (by kernel_rfl) (by kernel_rfl) (by kernel_rfl) (by kernel_rfl);have h11:=@run_callFunc_extern prog 345 _ (ReflectliteValue.method (ReflectliteValue.valueError "reflectlite.Value.Elem" 0) ReflectliteValue.elem) func345 (by kernel_rfl) (by kernel_rfl) (by kernel_rfl) (by kernel_rfl);have h12:=@run_callFunc_extern prog 346 _ ReflectliteValue.set func346 (by kernel_rfl) (by kernel_rfl) (by kernel_rfl) (by kernel_rfl);have tO:=Tryz.typeOf23;have mA:=Tryz.methodAssignableTo;have a25:=Tryz.assignable23;have v25:=Tryz.valueOf23;have f6:=Tryz.valueOf246;have f7:=Tryz.type246;have mK:=Tryz.methodKind;have mE:=Tryz.methodElem;have mI:=Tryz.methodImplements;have k27:=Tryz.kind246;have k25:=Tryz.kind23;have e27:=Tryz.elem246;have i25:=Tryz.implements23;have n8:=Tryz.isNil246 w t ((w.alloc (.cells #[.pointer (some t)] 246)).alloc (.cells #[.pointer (9,246),.pointer w,.int .u64 150] 158)) (by simp);have j6:0<w.heap.size:=by
  rcases Nat.eq_zero_or_pos w.heap.size with h0|h
  ·simp[World.cell?,h0] at hg
  ·exact h
 have AU:((w.alloc (.cells #[.pointer (some t)] 246)).alloc (.cells #[.pointer (9,246),.pointer w,.int .u64 150] 158)).cell? ⟨0,0,none⟩=some (.iface 248 (.agg #[.pointer (9,28)])):=by
  rw[dA _ _ ⟨0,0,none⟩ (by simp),dA _ _ ⟨0,0,none⟩ j6];exact hg
 have KJ:t.block<w:=by
  rcases eH t.block w.heap.size with h|h
  ·exact h
  ·simp[World.cell?,Array.getElem?_eq_none h] at ht0
 have el:=Tryz.elemV246 w t (((w.alloc (.cells #[.pointer (some t)] 246)).alloc (.cells #[.pointer (9,246),.pointer w,.int .u64 150] 158)).alloc (.cells #[.pointer (9,246),.pointer w,.int .u64 150] 158)) (by rw[dA _ _ w (by simp;omega)];simp);have st:=Tryz.set23 t (w.heap.size+1+1+1:Nat) e old ((((w.alloc (.cells #[.pointer (some t)] 246)).alloc (.cells #[.pointer (9,246),.pointer w,.int .u64 150] 158)).alloc (.cells #[.pointer (9,246),.pointer w,.int .u64 150] 158)).alloc (.cells #[e] 23))
  (by rw[World.cell?_alloc_at _ _ _ _ (by simp)];rfl)
  (by rw[dA _ _ t (by simp;omega),dA _ _ t (by simp;omega),dA _ _ t (by simp;omega),dA _ _ t KJ];exact ht0)
  (by rw[gU _ _ t (by simp;omega),gU _ _ t (by simp;omega),gU _ _ t (by simp;omega),gU _ _ t (Nat.ne_of_lt KJ)];exact hf0)
 go_enter func203,ntmps203;go_wp2;refine wp_loop_rounds 1 ?_;rw[rounds_succ];go_wp2;go_ret;exact⟨rfl,rfl⟩
end Go.Proofs.Y.G
