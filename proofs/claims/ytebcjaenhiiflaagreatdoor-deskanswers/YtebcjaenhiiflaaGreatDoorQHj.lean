import Derived.Test.YtebcjaenhiiflaaGreatDoorQHi
import Derived.Deep.RegionHeld
namespace Go.Proofs.Y
open Go.RowKit
variable {P:Program} {ops:Array Oper} {Q:Exit->Act->World->Prop} {md:Region.Mode} {S:World->Prop}
theorem tk (i:Nat){d:Nat}{v:Value}{fuel:Nat}{listed:Array Bool}{t t':Array Value}{D:List Deferred}{w:World}{oi:Oper}
 (h:wpAnyH P md ops Q S fuel (listed.setIfInBounds i true) ⟨t',D⟩ w)
 (hi:ops[i]? =some oi:=by rfl) (hd:oi.dst=some d:=by rfl) (hg:Region.wanted oi (yielded ops t)=true:=by rfl)
 (hv:∀w,S w->(execOp (Act.eval ⟨t,D⟩) oi).run P w= .ok (.value v) w:=by
   intro w XZ;try dsimp only at XZ
   first|(go_simp;done)|(go_simp;with_reducible rfl))
 (ht:t.setIfInBounds d v=t':=by
   simp only[List.setIfInBounds_toArray,List.set_cons_zero,List.set_cons_succ];exact rfl)
 (hs:Region.noSelect ops=true:=by kernel_rfl) (hf:Region.free md ops listed i=true:=by kernel_rfl) (hr:(Region.ready md ops listed).contains i=true:=by kernel_rfl)
 (hQ:∀c a w,Q (.panic c) (a.put oi.dst v) w->Q (.panic c) a w:=by exact λ _ _ _ h=>h) (hS:S w:=by assumption):
 wpAnyH P md ops Q S (fuel+1) listed ⟨t,D⟩ w:=by
 refine wpAnyH_take hi hs hf hr hQ (Or.inl ⟨hg,hv⟩) hS ?_;subst ht;rw[hd];exact h
theorem tn (i:Nat){d:Nat}{fuel:Nat}{listed:Array Bool}{t t':Array Value}{D:List Deferred}{w:World}{oi:Oper}
 (h:wpAnyH P md ops Q S fuel (listed.setIfInBounds i true) ⟨t',D⟩ w)
 (hi:ops[i]? =some oi:=by rfl) (hd:oi.dst=some d:=by rfl) (hg:Region.wanted oi (yielded ops t)=false:=by rfl)
 (ht:t.setIfInBounds d undef=t':=by
   simp only[List.setIfInBounds_toArray,List.set_cons_zero,List.set_cons_succ];exact rfl)
 (hs:Region.noSelect ops=true:=by kernel_rfl) (hf:Region.free md ops listed i=true:=by kernel_rfl) (hr:(Region.ready md ops listed).contains i=true:=by kernel_rfl)
 (hQ:∀c a w,Q (.panic c) (a.put oi.dst undef) w->Q (.panic c) a w:=by exact λ _ _ _ h=>h) (hS:S w:=by assumption):
 wpAnyH P md ops Q S (fuel+1) listed ⟨t,D⟩ w:=by
 refine wpAnyH_take hi hs hf hr hQ (Or.inr ⟨hg,rfl⟩) hS ?_;subst ht;rw[hd];exact h
theorem rd (i:Nat){fuel:Nat}{listed:Array Bool}{a:Act}{w:World}{o:Oper}
 (h:∀K':Act->World->Prop,Shut (∀a w,S w->(S w->wpAnyH P md ops Q S fuel (listed.setIfInBounds i true) a w)->K' a w)->if Region.wanted o (yielded ops a.tmps)=true then Oper.wp P o a w K' Q else K' (a.put o.dst undef) w)
 (hr:Region.ready md ops listed=[i]:=by kernel_rfl) (ho:ops[i]? =some o:=by rfl):wpAnyH P md ops Q S (fuel+1) listed a w:=
 wpAnyH_ready hr (by simp) (AllReadyH.cons ho h AllReadyH.nil)
end Go.Proofs.Y
