import Derived.Test.YtebcjaenhiiflaaGreatDoorQKVwFe
import Derived.Test.YtebcjaenhiiflaaGreatDoorQDaTh
namespace Go.Proofs.YtebcjaenhiiflaaGreatDoor.S.X
open Go.RowKit Go.WideMaps Go.Maps
section
variable {n:Nat} {R:List (Int × Int × Int)}
end
structure Rr (w0 w:World) (n k:Nat) (R:List (Int × Int × Int)) (t:Value) (r:Nat->Nat) (l:Nat->List Nat):Prop where
 own:w.ownsRow w0.heap.size 48 1 t k ((List.range k).map λ i=>Value.slice (some ⟨r i,0,none⟩) n n)
 row:∀i,i<k->RowL w (r i) (l i)/\Lw n R [i] (l i)
 below:Below w0.heap.size w0 w
section
variable {w0 w w':World} {n k:Nat} {R:List (Int × Int × Int)} {t t':Value} {r:Nat->Nat} {l:Nat->List Nat}
theorem Rr.below' (h:Rr w0 w n k R t r l) (hb:Below w.heap.size w w'):Rr w0 w' n k R t r l:=
 ⟨h.own.kept (grown_below hb) (Classical.em _),λ i hi=>⟨(h.row i hi).1.below hb (h.row i hi).1.lt,(h.row i hi).2⟩,h.below.trans (hb.mono h.below.size)⟩
theorem Rr.ne (h:Rr w0 w n k R t r l) {b:Nat} {x:List Nat} (hr:RowL w b x):t.ownBlock≠some b:=by
 intro e;rcases h.own.2 with ⟨rfl,_⟩ | ⟨g,cap,cur,rfl,_,hg,_⟩
 ·cases e
 ·have hgb:g=b:=by simpa [Value.ownBlock] using e
  subst hgb;unfold RowL at hr;rw [hg] at hr;simp at hr
theorem Rr.more (h:Rr w0 w n k R t r l) {rk:Nat} {lk:List Nat} (hr:RowL w rk lk) (hl:Lw n R [k] lk) (o:Obj) (ho:w'.ownsRow w0.heap.size 48 1 t' (k+1) (((List.range k).map λ i=>Value.slice (some ⟨r i,0,none⟩) n n)++[Value.slice (some ⟨rk,0,none⟩) n n])) (hg:(w.alloc o).grownBy w' t.ownBlock):
 Rr w0 w' n (k+1) R t' (λ i=>if i<k then r i else rk) (λ i=>if i<k then l i else lk):=by
 have hb:Below w.heap.size w (w.alloc o):=(Below.refl _ _).alloc (Nat.le_refl _) _;have keep:∀{b x},RowL w b x->RowL w' b x:=λ {b x} hx=>(hg.block b (Nat.lt_of_lt_of_le hx.lt hb.size) (λ e=>h.ne hx e.symm)).trans ((hb.block b hx.lt).trans hx)
 refine ⟨?_,λ i hi=>?_,(h.below.trans (hb.mono h.below.size)).grown hg (Nat.le_trans h.below.size hb.size) (λ j hj=>(h.own.lt j hj).1)⟩
 ·have e:((List.range (k+1)).map λ i=>Value.slice (some ⟨if i<k then r i else rk,0,none⟩) n n)=((List.range k).map λ i=>Value.slice (some ⟨r i,0,none⟩) n n)++[Value.slice (some ⟨rk,0,none⟩) n n]:=by
   rw [List.range_succ,List.map_append]
   congr 1
   ·apply List.map_congr_left
    intro i hi;rw [if_pos (List.mem_range.1 hi)]
   ·simp
  rw [e];exact ho
 ·by_cases hik:i<k
  ·simp only [if_pos hik]
   exact ⟨keep (h.row i hik).1,(h.row i hik).2⟩
  ·have:i=k:=by omega
   subst this;simp only [if_neg hik];exact ⟨keep hr,hl⟩
theorem Rr.shape (h:Rr w0 w n k R t r l) (hk:0<k):∃g cap,t= .slice (some ⟨g,0,none⟩) k cap/\∀i,i<k->w.cell? ⟨g,i,none⟩=some (.slice (some ⟨r i,0,none⟩) n n):=by
 have h0:=h.own;rcases h.own.2 with ⟨rfl,hz⟩ | ⟨g,cap,cur,rfl,_⟩
 ·omega
 ·refine ⟨g,cap,rfl,λ i hi=>?_⟩
  rw [h0.cellAt i (by omega)];simp [hi]
end
end Go.Proofs.YtebcjaenhiiflaaGreatDoor.S.X
