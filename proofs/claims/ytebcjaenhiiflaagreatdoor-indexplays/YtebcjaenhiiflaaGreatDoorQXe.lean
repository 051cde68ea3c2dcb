import Derived.Test.YtebcjaenhiiflaaGreatDoorQKVwFf
import Derived.Test.YtebcjaenhiiflaaGreatDoorQDaDf
namespace Go.Proofs.YtebcjaenhiiflaaGreatDoor.S.X
open Go.RowKit Go.WideMaps Go.Maps
section
variable {n:Nat} {R:List (Int × Int × Int)}
theorem znk (hin:Inn n R) (p:Int × Int × Int->Bool):Inn n (R.filter p):=λ e he=>hin e (List.mem_filter.1 he).1
theorem zoe (hin:Inn n R) {S:List Nat} {Fe Fn:Nat->Int} {mn:Nat} (hS:∀z:Nat,G.among Fn mn (z:Int)=true↔z∈S) (e:Int × Int × Int):e∈R.filter (G.stays Fe Fn 0 mn)↔e∈R/\ea e∉S/\eb e∉S:=by
 rw [List.mem_filter];constructor
 ·rintro ⟨h1,h2⟩
  obtain ⟨_,_,e1,e2⟩:=hin e h1;simp only [G.stays,Bool.and_eq_true,Bool.not_eq_true'] at h2;refine ⟨h1,λ k=>?_,λ k=>?_⟩
  ·have:=(hS _).2 k
   rw [<-e1,h2.1.2] at this;cases this
  ·have:=(hS _).2 k
   rw [<-e2,h2.2] at this;cases this
 ·rintro ⟨h1,h2,h3⟩
  obtain ⟨_,_,e1,e2⟩:=hin e h1;refine ⟨h1,?_⟩;simp only [G.stays,Bool.and_eq_true,Bool.not_eq_true'];refine ⟨⟨rfl,?_⟩,?_⟩
  ·rw [Bool.eq_false_iff];intro k;rw [e1] at k;exact h2 ((hS _).1 k)
  ·rw [Bool.eq_false_iff];intro k;rw [e2] at k;exact h3 ((hS _).1 k)
theorem zxr (hin:Inn n R) {S:List Nat} {Fe Fn:Nat->Int} {mn:Nat} (hS:∀z:Nat,G.among Fn mn (z:Int)=true↔z∈S) {l:List Nat} (hl:l.length=n) (hi:∀u v,u<n->v<n->(l.getD u 0=l.getD v 0↔cnR (R.filter (G.stays Fe Fn 0 mn)) u v)):Lw n R S l:=by
 refine ⟨hl,λ u v hu hv=>?_⟩;rw [hi u v hu hv];constructor
 ·intro h;exact za4 h λ e he=>(zoe hin hS e).1 he
 ·intro h;exact za4 h λ e he=>(zoe hin hS e).2 he
theorem zyb (k z:Nat):G.among (λ _=>(k:Int)) 1 (z:Int)=true↔z∈[k]:=by
 simp only [G.among,List.any_eq_true,List.mem_range,List.mem_singleton];constructor
 ·rintro ⟨t,_,h⟩;have:=beq_iff_eq.1 h;omega
 ·rintro rfl;exact ⟨0,by omega,by simp⟩
def zkc (a b:Nat) (i:Nat):Int:=if i=0 then (a:Int) else (b:Int)
theorem zzh (a b z:Nat):G.among (zkc a b) 2 (z:Int)=true↔z∈[a,b]:=by
 simp only [G.among,List.any_eq_true,List.mem_range,List.mem_cons,List.not_mem_nil,or_false];constructor
 ·rintro ⟨t,ht,h⟩
  have:=beq_iff_eq.1 h;unfold zkc at this;split at this <;> omega
 ·rintro (rfl | rfl)
  ·exact ⟨0,by omega,by simp [zkc]⟩
  ·exact ⟨1,by omega,by simp [zkc]⟩
theorem znx (w:World) (F:Nat->Int):G.Ints w none 0 F:=⟨λ h=>absurd h (by omega)⟩
theorem z1o (w:World) (k:Nat):G.Ints (w.alloc (.cells #[.int .i64 (k:Int)] 3)) (some ⟨w.heap.size,0,none⟩) 1 (λ _=>(k:Int)):=by
 refine ⟨λ _=>⟨w.heap.size,0,rfl,λ t ht=>?_⟩⟩;have:t=0:=by omega
 subst this;simp
theorem z3p (w:World) (a b:Nat):G.Ints (w.alloc (.cells #[.int .i64 (a:Int),.int .i64 (b:Int)] 3)) (some ⟨w.heap.size,0,none⟩) 2 (zkc a b):=by
 refine ⟨λ _=>⟨w.heap.size,0,rfl,λ t ht=>?_⟩⟩;have:t=0\/t=1:=by omega
 rcases this with rfl | rfl <;> simp [zkc]
end
structure Rr (w0 w:World) (n k:Nat) (R:List (Int × Int × Int)) (t:Value) (r:Nat->Nat) (l:Nat->List Nat):Prop where
 own:w.ownsRow w0.heap.size 48 1 t k ((List.range k).map λ i=>Value.slice (some ⟨r i,0,none⟩) n n)
 row:∀i,i<k->zak w (r i) (l i)/\Lw n R [i] (l i)
 below:Below w0.heap.size w0 w
section
variable {w0 w w':World} {n k:Nat} {R:List (Int × Int × Int)} {t t':Value} {r:Nat->Nat} {l:Nat->List Nat}
theorem Rr.below' (h:Rr w0 w n k R t r l) (hb:Below w.heap.size w w'):Rr w0 w' n k R t r l:=
 ⟨h.own.kept (zai hb) (Classical.em _),λ i hi=>⟨(h.row i hi).1.below hb (h.row i hi).1.lt,(h.row i hi).2⟩,h.below.trans (hb.mono h.below.size)⟩
theorem Rr.ne (h:Rr w0 w n k R t r l) {b:Nat} {x:List Nat} (hr:zak w b x):t.ownBlock≠some b:=by
 intro e;rcases h.own.2 with ⟨rfl,_⟩ | ⟨g,cap,cur,rfl,_,hg,_⟩
 ·cases e
 ·have hgb:g=b:=by simpa [Value.ownBlock] using e
  subst hgb;unfold zak at hr;rw [hg] at hr;simp at hr
theorem Rr.more (h:Rr w0 w n k R t r l) {rk:Nat} {lk:List Nat} (hr:zak w rk lk) (hl:Lw n R [k] lk) (o:Obj) (ho:w'.ownsRow w0.heap.size 48 1 t' (k+1) (((List.range k).map λ i=>Value.slice (some ⟨r i,0,none⟩) n n)++[Value.slice (some ⟨rk,0,none⟩) n n])) (hg:(w.alloc o).grownBy w' t.ownBlock):
 Rr w0 w' n (k+1) R t' (λ i=>if i<k then r i else rk) (λ i=>if i<k then l i else lk):=by
 have hb:Below w.heap.size w (w.alloc o):=(Below.refl _ _).alloc (Nat.le_refl _) _;have keep:∀{b x},zak w b x->zak w' b x:=λ {b x} hx=>(hg.block b (Nat.lt_of_lt_of_le hx.lt hb.size) (λ e=>h.ne hx e.symm)).trans ((hb.block b hx.lt).trans hx)
 refine ⟨?_,λ i hi=>?_,(h.below.trans (hb.mono h.below.size)).grown hg (Nat.le_trans h.below.size hb.size) (λ j hj=>(h.own.lt j hj).1)⟩
 ·have e:((List.range (k+1)).map λ i=>Value.slice (some ⟨if i<k then r i else rk,0,none⟩) n n)=((List.range k).map λ i=>Value.slice (some ⟨r i,0,none⟩) n n)++[Value.slice (some ⟨rk,0,none⟩) n n]:=by
   rw [List.range_succ,List.map_append]
   congr 1
   ·apply List.map_congr_left
    intro i hi;rw [if_pos (List.mem_range.1 hi)]
   ·simp
  rw [e];exact ho
 ·by_cases hik:i<k
  ·simp only [if_pos hik]
   exact ⟨keep (h.row i hik).1,(h.row i hik).2⟩
  ·have:i=k:=by omega
   subst this;simp only [if_neg hik];exact ⟨keep hr,hl⟩
theorem Rr.shape (h:Rr w0 w n k R t r l) (hk:0<k):∃g cap,t= .slice (some ⟨g,0,none⟩) k cap/\∀i,i<k->w.cell? ⟨g,i,none⟩=some (.slice (some ⟨r i,0,none⟩) n n):=by
 have h0:=h.own;rcases h.own.2 with ⟨rfl,hz⟩ | ⟨g,cap,cur,rfl,_⟩
 ·omega
 ·refine ⟨g,cap,rfl,λ i hi=>?_⟩
  rw [h0.cellAt i (by omega)];simp [hi]
end
end Go.Proofs.YtebcjaenhiiflaaGreatDoor.S.X
