import Derived.Test.YtebcjaenhiiflaaGreatDoorQJyJj
import Derived.Test.YtebcjaenhiiflaaGreatDoorQJcJd
import Derived.Test.YtebcjaenhiiflaaGreatDoorQGYd
namespace Go.Proofs.Y.I
open Go.RowKit Go.Proofs.Tryz
def zmx (w:World)(B q n:Nat)(u:Value)(R L:List G.E)(id a b:Int)(e:Ending)(w':World):Prop:=
 e=(Bn n L id a b:Int)/\((Bn n L id a b=0/\G.Jd w w' B 40 q (n:Int) u (R++[edg id a b]))\/(Bn n L id a b≠0/\Below w w w'))
theorem zmk (q n B:Nat)(u:Value)(R L:List G.E)(id a b:Int)(w:World)(hg:G.GAt w B 40 61 q (n:Int) u R)(hB:B<=w)(p8:Ok n L)(hp:R.Perm L):
 Calls prog 20 #[.pointer q,id,a,b] w (zmx w B q n u R L id a b):=by
 have h40:=p8.n40;have hl:R.length=L.length:=hp.length_eq;by_cases hr:G.Ec id a b (n:Int)
 ·by_cases BJ:a=b
  ·subst BJ
   refine(G.znf id a (n:Int) B q u R w hg (by omega) (by omega) hr).mono ?_;rintro e w' ⟨rfl,hb⟩;have e1:Bn n L id a a=1:=by unfold Bn;rw[aL (by simpa using hr),aP rfl]
   exact⟨by rw[e1],.inr ⟨by rw[e1];decide,hb⟩⟩
  ·refine(G.zpx id a b (n:Int) (min a b) (max a b) B q u R w hg hB (by have:=p8.len;omega) (by omega) (by omega) hr BJ rfl rfl).mono ?_
   rintro e w' (⟨⟨x,hx,hxi⟩,rfl,hb⟩|⟨AA,hf,rfl,hb⟩|⟨AA,hf,rfl,hs⟩)
   ·have e1:Bn n L id a b=9:=by
     unfold Bn;rw[aL (by simpa using hr),aL BJ,aP (by rw[G.Qq p8.up (hp.mem_iff.1 hx) hxi];rfl)]
    exact⟨by rw[e1],.inr ⟨by rw[e1];decide,hb⟩⟩
   ·have hs:G.seen L id=none:=G.seen_none (λ x hx=>AA x (hp.mem_iff.2 hx))
    have e1:Bn n L id a b=12:=by
     unfold Bn;rw[aL (by simpa using hr),aL BJ,aL (by rw[hs];simp),aP (by omega)]
    exact⟨by rw[e1],.inr ⟨by rw[e1];decide,hb⟩⟩
   ·have hs':G.seen L id=none:=G.seen_none (λ x hx=>AA x (hp.mem_iff.2 hx))
    have e1:Bn n L id a b=0:=by
     unfold Bn;rw[aL (by simpa using hr),aL BJ,aL (by rw[hs'];simp),aL (by omega)]
    exact⟨by rw[e1],.inl ⟨e1,hs⟩⟩
 ·refine(G.zdj id a b (n:Int) B q u R w hg (by omega) (by omega) hr).mono ?_
  rintro e w' ⟨rfl,hb⟩;have e1:Bn n L id a b=2:=by unfold Bn;rw[aP hr]
  exact⟨by rw[e1],.inr ⟨by rw[e1];decide,hb⟩⟩
end Go.Proofs.Y.I
