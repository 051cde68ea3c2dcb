import Derived.Test.YtebcjaenhiiflaaGreatDoorQZaZc
import Derived.Test.YtebcjaenhiiflaaGreatDoorQQbQe
set_option maxHeartbeats 1000000
set_option maxRecDepth 100000
namespace Go.Proofs.Y.I
open Go.RowKit Go.WideMaps Go.Maps Go.Lib Go.Proofs.Tryz
variable {w w':World} {a b x n d:Nat} {L:List G.E}
theorem Jh (h:IV w a b x n L):∀y∈brz n L,0<=y/\y<=9223372036854775807:=by
 intro y hy;obtain⟨W,T,B,s⟩:=h.st;obtain⟨e,he,rfl⟩:=(zcn s h.ok y).1 hy;have:=h.ok.ed e ((s.hB e).1 he).1;omega
theorem R5 (h:IV w a b x n L):(brz n L).length<=120:=by
 obtain⟨W,T,B,s⟩:=h.st;rw[Wn s h.ok];have:=h.ok.len;refine aD ?_ this;unfold S.Az;rw[aS];exact aW _ _
theorem Ib (h:IV w a b x n L):∀y∈Gc n L,0<=y/\y<=9223372036854775807:=by
 intro y hy;unfold Gc at hy;rw[aY] at hy;obtain⟨k,hk,rfl⟩:=hy;have h1:=bF.1 (aO.1 hk).1;have h2:=h.ok.n40;omega
theorem Te (h:IV w a b x n L):(Gc n L).length<=40:=by
 unfold Gc;rw[aS];refine aD (aW _ _) ?_;rw[gM];exact h.ok.n40
theorem zdg (s:Value)(h:IV w a b x n L)(hd:w.cell? d=some (.pointer x))(hv:Vars w):
 Calls prog 153 #[.pointer d,s] w λ e w'=>e=Value.string ⟨([98,114,105,100,103,101,115]++[32]++Ah (brz n L)).toArray⟩/\Below w w w':=by
 have HB:=kd (zlx h);have HR:=kd (Jh h);have hl:=R5 h;have FK:=Ce (Jh h);have HV:=kd hv;generalize brz n L=K at*;clear h hv;go_enter func153,ntmps153;go_wp2_with fail;refine aA HB.o ?_;rintro e w1 ⟨a',c,rfl,hz,j4⟩;have x8:=kd j4;have HI:=kd (Le a' c K.length K w1 rfl hz HR.o (by omega) (HV.o.below j4));clear hz j4 HB;go_wp2_with fail;refine aA HI.o ?_;rintro e w2 ⟨rfl,j5⟩;have y5:=kd (x8.o.tr j5);have HJ:=kd (Cq [98,114,105,100,103,101,115] (Ah K) w2 (by simp;omega));clear j5 HI;go_wp2_with fail;refine aA HJ.o ?_;rintro e w3 ⟨rfl,hw⟩;subst w3;clear HJ;go_wp2_with fail;go_ret;exact⟨rfl,y5.o⟩
theorem zpm (s:Value)(h:IV w a b x n L)(hd:w.cell? d=some (.pointer x))(hv:Vars w):
 Calls prog 154 #[.pointer d,s] w λ e w'=>e=Value.string ⟨([99,117,116,115]++[32]++Ah (Gc n L)).toArray⟩/\Below w w w':=by
 have HB:=kd (zuk h);have HR:=kd (Ib h);have hl:=Te h;have FK:=Ce (Ib h);have HV:=kd hv;generalize Gc n L=K at*;clear h hv;go_enter func154,ntmps154;go_wp2_with fail;refine aA HB.o ?_;rintro e w1 ⟨a',c,rfl,hz,j4⟩;have x8:=kd j4;have HI:=kd (Le a' c K.length K w1 rfl hz HR.o (by omega) (HV.o.below j4));clear hz j4 HB;go_wp2_with fail;refine aA HI.o ?_;rintro e w2 ⟨rfl,j5⟩;have y5:=kd (x8.o.tr j5);have HJ:=kd (Cq [99,117,116,115] (Ah K) w2 (by simp;omega));clear j5 HI;go_wp2_with fail;refine aA HJ.o ?_;rintro e w3 ⟨rfl,hw⟩;subst w3;clear HJ;go_wp2_with fail;go_ret;exact⟨rfl,y5.o⟩
end Go.Proofs.Y.I
namespace Go.Proofs.Y.I
open Go.RowKit Go.WideMaps Go.Maps Go.Lib Go.Proofs.Tryz
variable {w w':World} {a b x n d:Nat} {L:List G.E}
theorem zm0 (sep x y:List UInt8)(r:List (List UInt8)):Lib.join (x::y::r) sep=x++(sep++Lib.join (y::r) sep):=by
 unfold Lib.join List.intercalate;simp[List.intersperse]
theorem Rl (sep:List UInt8)(K:Nat):∀xs:List (List UInt8),(∀x∈xs,x.length<=K)->(Lib.join xs sep).length<=xs.length*(K+sep.length)
 |[],_=>by simp[Lib.join,List.intercalate]
 |[x],h=>by
  rw[Lib.join_one];have:=h x (by simp);simp;omega
 |x::y::r,h=>by
  have ih:=Rl sep K (y::r) (λ z hz=>h z (bS _ hz));have h1:=h x (by simp);rw[zm0,bD,Nat.add_one_mul];simp only[aM];omega
def Vq (l:List Nat):List UInt8:=Ah (l.map λ x:Nat=>(x:Int))
theorem zjg {l:List Nat}(h:∀x∈l,x<=9223372036854775807):(Vq l).length<=21*l.length:=by
 have:=Ce (ns:=l.map λ x:Nat=>(x:Int)) (λ y hy=>by
  rw[aY] at hy;obtain⟨x,hx,rfl⟩:=hy;have:=h x hx;omega)
 rwa[aS] at this
def Fb (Gs:List (List Nat)):List UInt8:=Lib.join (Gs.map Vq) [44,32]
theorem Fx {Gs:List (List Nat)}(hg:∀l∈Gs,l.length<=1000/\∀x∈l,x<=9223372036854775807)(hl:Gs.length<=1000):(Fb Gs).length<=30000000:=by
 have h:=Rl [44,32] 21000 (Gs.map Vq) (λ x hx=>by
  rw[aY] at hx;obtain⟨l,h1,rfl⟩:=hx;have h2:=hg l h1;have h3:=zjg h2.2;omega)
 rw[aS] at h;unfold Fb;have:Gs.length*(21000+[44,32].length (α:=UInt8))<=1000*21002:=fU hl (by simp);simp at this h;omega
theorem Ym {v:Value}{Gs:List (List Nat)}(h:S.Hf w v Gs)(hg:∀l∈Gs,l.length<=1000/\∀x∈l,x<=9223372036854775807)(hl:Gs.length<=1000)(hv:Vars w):
 Calls prog 264 #[v,.func (.func 265) #[] #[]] w λ e w'=>e=Value.string ⟨(Fb Gs).toArray⟩/\Below w w w':=by
 obtain⟨g,cap,rfl,hr⟩:=h;refine zdx (some ⟨g,0,none⟩) cap Gs.length (Gs.map Vq) w (by simp) (by omega) (λ _=>⟨g,rfl,λ j x hx=>?_⟩) ?_
 ·rw[bJ] at hx
  obtain⟨l,hl',rfl⟩:=gF.1 hx;have hj:j<Gs.length:=(aC.1 hl').1;obtain⟨r,c,h1,h2⟩:=hr j hj;have e:Gs.getD j []=l:=by rw[bH,hl'];rfl
  rw[e] at h1 h2;obtain⟨k1,k2⟩:=hg l (aG hl');refine⟨_,_,_,h1,λ W hW=>?_⟩;refine zmo (some ⟨r,0,none⟩) c l.length (l.map λ x:Nat=>(x:Int)) W (by simp) (λ _=>⟨r,rfl,λ i hi=>?_⟩) (λ y hy=>?_) (by simp;omega) (hv.below hW)
  ·rw[aS] at hi
   have h3:=h2 i hi;rw[(hW.cell (p:=⟨r,i,none⟩) (G.lt_of_cell h3)).trans h3];simp[List.getD_eq_getElem?_getD,hi]
  ·rw[aY] at hy
   obtain⟨z,hz,rfl⟩:=hy;have:=k2 z hz;omega
 ·have:=Fx hg hl
  unfold Fb at this;omega
theorem Hm (h:IV w a b x n L):(∀l∈blz n L,l.length<=1000/\∀y∈l,y<=9223372036854775807)/\(blz n L).length<=1000:=by
 have hlen:=h.ok.len;have AV:=h.ok.ed;unfold blz;split
 ·rename_i hx
  generalize hx.choose=M;unfold S.Ha;refine⟨λ l hl=>?_,?_⟩
  ·rw[aY] at hl
   obtain⟨r,_,rfl⟩:=hl;refine⟨?_,λ y hy=>?_⟩
   ·rw[aS]
    unfold S.grp;refine aD (aW _ _) ?_;rw[gM];omega
   ·rw[aY] at hy
    obtain⟨i,hi,rfl⟩:=hy;unfold S.grp at hi;have h1:=bF.1 (aO.1 hi).1;have h2:=S.Et (aB h1);have h3:=(AV _ (dF h1)).1;unfold S.idN;rw[h2];omega
  ·rw[aS]
   unfold S.lst;refine aD (aW _ _) ?_;rw[gM];omega
 ·exact⟨λ l hl=>absurd hl (by simp),by simp⟩
theorem Hg (h:IV w a b x n L):(∀l∈thz n L,l.length<=1000/\∀y∈l,y<=9223372036854775807)/\(thz n L).length<=1000:=by
 have hn:=h.ok.n40;have JH:=(S.Re n L ((S.grw n L).2++(S.grw n L).1) (S.Be n (S.grw n L).1 (S.grw n L).2)).1;unfold thz;generalize S.Ku n L ((S.grw n L).2++(S.grw n L).1) (S.Be n (S.grw n L).1 (S.grw n L).2)=M at*;refine⟨λ l hl=>?_,aD (S.Wi _ _) (by omega)⟩;unfold S.Ar at hl;have h1:=(aO.1 hl).1;rw[aY] at h1;obtain⟨k,_,rfl⟩:=h1;unfold S.grp;refine⟨aD (aW _ _) (by rw[gM];omega),λ y hy=>?_⟩;have h2:=bF.1 (aO.1 hy).1;omega
theorem zh9 (s:Value)(h:IV w a b x n L)(hd:w.cell? d=some (.pointer x))(hv:Vars w):
 Calls prog 152 #[.pointer d,s] w λ e w'=>e=Value.string ⟨([98,108,111,99,107,115]++[32]++Fb (blz n L)).toArray⟩/\Below w w w':=by
 have HB:=kd (zrk h);have HR:=kd (Hm h);have HV:=kd hv;generalize blz n L=K at*;clear h hv;go_enter func152,ntmps152;go_wp2_with fail;refine aA HB.o ?_;rintro e w1 ⟨v,rfl,hz,j4⟩;have x8:=kd j4;have HI:=kd (Ym hz HR.o.1 HR.o.2 (HV.o.below j4));clear hz j4 HB;go_wp2_with fail;refine aA HI.o ?_;rintro e w2 ⟨rfl,j5⟩;have y5:=kd (x8.o.tr j5);have HJ:=kd (Cq [98,108,111,99,107,115] (Fb K) w2 (by have:=Fx HR.o.1 HR.o.2;simp;omega));clear j5 HI;go_wp2_with fail;refine aA HJ.o ?_;rintro e w3 ⟨rfl,hw⟩;subst w3;clear HJ;go_wp2_with fail;go_ret;exact⟨rfl,y5.o⟩
theorem zi5 (s:Value)(h:IV w a b x n L)(hd:w.cell? d=some (.pointer x))(hv:Vars w):
 Calls prog 162 #[.pointer d,s] w λ e w'=>e=Value.string ⟨([116,104,114,105,99,101]++[32]++Fb (thz n L)).toArray⟩/\Below w w w':=by
 have HB:=kd (zq8 h);have HR:=kd (Hg h);have HV:=kd hv;generalize thz n L=K at*;clear h hv;go_enter func162,ntmps162;go_wp2_with fail;refine aA HB.o ?_;rintro e w1 ⟨v,rfl,hz,j4⟩;have x8:=kd j4;have HI:=kd (Ym hz HR.o.1 HR.o.2 (HV.o.below j4));clear hz j4 HB;go_wp2_with fail;refine aA HI.o ?_;rintro e w2 ⟨rfl,j5⟩;have y5:=kd (x8.o.tr j5);have HJ:=kd (Cq [116,104,114,105,99,101] (Fb K) w2 (by have:=Fx HR.o.1 HR.o.2;simp;omega));clear j5 HI;go_wp2_with fail;refine aA HJ.o ?_;rintro e w3 ⟨rfl,hw⟩;subst w3;clear HJ;go_wp2_with fail;go_ret;exact⟨rfl,y5.o⟩
end Go.Proofs.Y.I
