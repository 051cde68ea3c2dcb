import Derived.Test.YtebcjaenhiiflaaGreatDoorQKVpFDe
import Derived.Test.YtebcjaenhiiflaaGreatDoorQDaTh
namespace Go.Proofs.YtebcjaenhiiflaaGreatDoor.S
open Go.RowKit Go.WideMaps Go.Maps
structure AloneL (w:World) (base n:Nat) (v:Value) (P:List (Nat × List Nat)):Prop where
 own:w.ownsRow base 48 1 v P.length (P.map λ p=>.slice (some ⟨p.1,0,none⟩) n n)
 rows:∀p∈P,RowL w p.1 p.2/\p.2.length=n
theorem AloneL.below {w w':World} {base n:Nat} {v:Value} {P:List (Nat × List Nat)} (h:AloneL w base n v P) (hb:Below w.heap.size w w'):AloneL w' base n v P:=
 ⟨h.own.kept (grown_below hb) (by cases v.ownBlock <;> simp),λ p hp=>⟨(h.rows p hp).1.below hb (h.rows p hp).1.lt,(h.rows p hp).2⟩⟩
theorem AloneL.shape {w:World} {base n:Nat} {v:Value} {P:List (Nat × List Nat)} (h:AloneL w base n v P):∃a cap,v= .slice a P.length cap/\∀i p,P[i]? =some p->∃g,a=some ⟨g,0,none⟩/\base<=g/\g<w.heap.size/\w.cell? ⟨g,i,none⟩=some (.slice (some ⟨p.1,0,none⟩) n n):=by
 have h0:=h.own;rcases h.own.2 with ⟨rfl,hz⟩ | ⟨g,cap,cur,rfl,hb,hg,_⟩
 ·refine ⟨none,0,by rw [hz],λ i p hi=>?_⟩
  have:=(List.getElem?_eq_some_iff.1 hi).1;omega
 ·refine ⟨_,cap,rfl,λ i p hi=>⟨g,rfl,hb,lt_of_some hg,?_⟩⟩
  rw [h0.cellAt i (by have:=(List.getElem?_eq_some_iff.1 hi).1;omega)];simp [hi]
theorem own_blk {w:World} {base:Nat} {v:Value} {k:Nat} {xs:List Value} (h:w.ownsRow base 48 1 v k xs) {g:Nat} (hg:v.ownBlock=some g):∃cur,w.heap[g]? =some (.cells cur 48):=by
 rcases h.2 with ⟨rfl,_⟩ | ⟨g',cap,cur,rfl,_,hc,_⟩
 ·simp [Value.ownBlock] at hg
 ·simp [Value.ownBlock] at hg
  subst hg;exact ⟨_,hc⟩
theorem AloneL.push {w w4:World} {base n b:Nat} {v v':Value} {P:List (Nat × List Nat)} {l:List Nat} {o:Obj} (h:AloneL w base n v P) (hr:RowL w b l) (hl:l.length=n) (hown:w4.ownsRow base 48 1 v' (P.length+1) ((P.map λ p=>.slice (some ⟨p.1,0,none⟩) n n)++[.slice (some ⟨b,0,none⟩) n n]))
 (hg:(w.alloc o).grownBy w4 v.ownBlock):AloneL w4 base n v' (P++[(b,l)]):=by
 refine ⟨by simpa using hown,λ p hp=>?_⟩;have h1:RowL w p.1 p.2/\p.2.length=n:=by
  rcases List.mem_append.1 hp with hp | hp
  ·exact h.rows p hp
  ·rw [List.mem_singleton.1 hp];exact ⟨hr,hl⟩
 refine ⟨?_,h1.2⟩;have h2:(w.alloc o).heap[p.1]? =w.heap[p.1]? :=Below.heap_alloc w o p.1 h1.1.lt;show w4.heap[p.1]? =_;rw [hg.block p.1 (by have:=h1.1.lt;simp;omega) (λ e=>?_),h2]
 ·exact h1.1
 ·obtain ⟨cur,hc⟩:=own_blk h.own e.symm
  have:=h1.1;unfold RowL at this;rw [this] at hc;simp at hc
def Prog (s:Value) (l l':List Nat) (D:Prop):Prop:=(s= .bool false/\l'=l/\D)\/(s= .bool true/\l'.sum<l.sum)
theorem Prog.imp {s:Value} {l l':List Nat} {D D':Prop} (h:Prog s l l' D) (k:l'=l->D->D'):Prog s l l' D':=by
 rcases h with ⟨h1,h2,h3⟩ | h
 ·exact .inl ⟨h1,h2,k h2 h3⟩
 ·exact .inr h
theorem Prog.le {s:Value} {l l':List Nat} {D:Prop} (h:Prog s l l' D):l'.sum<=l.sum:=by
 rcases h with ⟨_,rfl,_⟩ | ⟨_,h⟩
 ·exact Nat.le_refl _
 ·exact Nat.le_of_lt h
end Go.Proofs.YtebcjaenhiiflaaGreatDoor.S
namespace Go.Proofs.YtebcjaenhiiflaaGreatDoor.S
open Go.RowKit Go.WideMaps Go.Maps
theorem POut.kept {w w':World} {base:Nat} {t:Value} {Gs:List (List Nat)} {r c:Nat->Nat} {row:Option Nat} (h:POut w base t Gs r c) (hg:w.grownBy w' row) (hr:∀m,row=some m->m<base):POut w' base t Gs r c:=by
 have hne:∀{v:Value} {e k:Nat} {xs:List Value},w.ownsRow base e 1 v k xs->v.ownBlock=none\/v.ownBlock≠row:=by
  intro v e k xs ho;cases hv:v.ownBlock with
  | none=>exact .inl rfl
  | some b=>
    refine .inr (λ c=>?_);have h1:=(ho.lt b hv).1;have h2:=hr b c.symm;omega
 exact ⟨h.own.kept hg (hne h.own),λ i hi=>⟨(h.each i hi).1.kept hg (hne (h.each i hi).1),(h.each i hi).2⟩,h.apart⟩
theorem POut.lt {w:World} {base:Nat} {t:Value} {Gs:List (List Nat)} {r c:Nat->Nat} (h:POut w base t Gs r c) (i:Nat) (hi:i<Gs.length):base<=r i/\r i<w.heap.size:=(h.each i hi).1.lt (r i) rfl
structure Am (D:DataW Unit) (ks:List Nat):Prop where
 key:∀y:Nat,Maps.has D (.int .i64 (y:Int))=true↔y∈ks
 val:∀(i y:Nat),ks[i]? =some y->∀zd,D.atKey (.int .i64 (y:Int)) zd= .lit (.int .i64 (i:Int))
theorem Am.start:Am (.map []) []:=⟨λ y=>by simp [Maps.has],λ i y h=>by simp at h⟩
theorem Am.put {D:DataW Unit} {ks:List Nat} (h:Am D ks) (hD:IsMap D) {y:Nat} (hy:y∉ks):Am (D.put (.int .i64 (y:Int)) (.lit (.int .i64 (ks.length:Int)))) (ks++[y]):=by
 refine ⟨λ z=>?_,λ i z hz zd=>?_⟩
 ·by_cases c:z=y
  ·subst c
   rw [has_put_same hD (isKeyLit _)];simp
  ·rw [has_put_other (by simp;omega),h.key];simp [c]
 ·rcases Nat.lt_or_ge i ks.length with c | c
  ·rw [List.getElem?_append_left c] at hz
   have hne:z≠y:=λ e=>hy (e▸List.mem_of_getElem? hz)
   rw [atKey_put_other (by simp;omega)];exact h.val i z hz zd
  ·rw [List.getElem?_append_right c] at hz
   have h0:i-ks.length=0:=by
    have:=(List.getElem?_eq_some_iff.1 hz).1;simp at this;omega
   rw [h0] at hz;have hzy:z=y:=by simpa using hz.symm
   have hik:i=ks.length:=by omega
   rw [hzy,hik,atKey_put_same hD (isKeyLit _)]
end Go.Proofs.YtebcjaenhiiflaaGreatDoor.S
