import Derived.Test.YtebcjaenhiiflaaGreatDoorQKVwFg
import Derived.Test.YtebcjaenhiiflaaGreatDoorQDaDf
set_option maxHeartbeats 4000000
set_option maxRecDepth 100000
namespace Go.Proofs.Y.S.X
open Go.RowKit Go.WideMaps Go.Maps
section
variable {n:Nat} {R:List (Int × Int × Int)}
theorem Yi (p9:Inn n R)(p:Int × Int × Int->Bool):Inn n (R.filter p):=λ e he=>p9 e (aO.1 he).1
theorem X8 (p9:Inn n R){S:List Nat}{Fe Fn:Nat->Int}{mn:Nat}(hS:∀z:Nat,G.among Fn mn (z:Int)=true↔z∈S)(e:Int × Int × Int):e∈R.filter (G.stays Fe Fn 0 mn)↔e∈R/\ea e∉S/\eb e∉S:=by
 rw[aO];constructor
 ·rintro⟨h1,h2⟩
  obtain⟨_,_,e1,e2⟩:=p9 e h1;simp only[G.stays,cZ,eF] at h2;refine⟨h1,λ k=>?_,λ k=>?_⟩
  ·have:=(hS _).2 k
   rw[<-e1,h2.1.2] at this;cases this
  ·have:=(hS _).2 k
   rw[<-e2,h2.2] at this;cases this
 ·rintro⟨h1,h2,h3⟩
  obtain⟨_,_,e1,e2⟩:=p9 e h1;refine⟨h1,?_⟩;simp only[G.stays,cZ,eF];refine⟨⟨rfl,?_⟩,?_⟩
  ·rw[fG];intro k;rw[e1] at k;exact h2 ((hS _).1 k)
  ·rw[fG];intro k;rw[e2] at k;exact h3 ((hS _).1 k)
theorem zjk (p9:Inn n R){S:List Nat}{Fe Fn:Nat->Int}{mn:Nat}(hS:∀z:Nat,G.among Fn mn (z:Int)=true↔z∈S){l:List Nat}(hl:l.length=n)(hi:∀u v,u<n->v<n->(l.getD u 0=l.getD v 0↔cnR (R.filter (G.stays Fe Fn 0 mn)) u v)):Lw n R S l:=by
 refine⟨hl,λ u v hu hv=>?_⟩;rw[hi u v hu hv];constructor
 ·intro h;exact Bi h λ e he=>(X8 p9 hS e).1 he
 ·intro h;exact Bi h λ e he=>(X8 p9 hS e).2 he
theorem zjl (k z:Nat):G.among (λ _=>(k:Int)) 1 (z:Int)=true↔z∈[k]:=by
 simp only[G.among,fM,bF,aJ];constructor
 ·rintro⟨t,_,h⟩;have:=bX.1 h;omega
 ·rintro rfl;exact⟨0,by omega,by simp⟩
def Td (a b:Nat)(i:Nat):Int:=if i=0 then(a:Int) else(b:Int)
theorem zii (a b z:Nat):G.among (Td a b) 2 (z:Int)=true↔z∈[a,b]:=by
 simp only[G.among,fM,bF,cO,gD,kC];constructor
 ·rintro⟨t,ht,h⟩
  have:=bX.1 h;unfold Td at this;split at this <;> omega
 ·rintro(rfl|rfl)
  ·exact⟨0,by omega,by simp[Td]⟩
  ·exact⟨1,by omega,by simp[Td]⟩
theorem X4 (w:World)(F:Nat->Int):G.Ints w none 0 F:=⟨λ h=>absurd h (by omega)⟩
theorem zli (w:World)(k:Nat):G.Ints (w.alloc (.cells #[k] 3)) (some ⟨w.heap.size,0,none⟩) 1 (λ _=>(k:Int)):=by
 refine⟨λ _=>⟨w.heap.size,0,rfl,λ t ht=>?_⟩⟩;have:t=0:=by omega
 subst this;simp
theorem zme (w:World)(a b:Nat):G.Ints (w.alloc (.cells #[a,b] 3)) (some ⟨w.heap.size,0,none⟩) 2 (Td a b):=by
 refine⟨λ _=>⟨w.heap.size,0,rfl,λ t ht=>?_⟩⟩;have:t=0\/t=1:=by omega
 rcases this with rfl|rfl <;> simp[Td]
end
structure Rr (w0 w:World) (n k:Nat) (R:List (Int × Int × Int)) (t:Value) (r:Nat->Nat) (l:Nat->List Nat):Prop where
 own:w.ownsRow w0 48 1 t k ((List.range k).map λ i=>Value.slice (r i:Nat) n n)
 row:∀i,i<k->Aj w (r i) (l i)/\Lw n R [i] (l i)
 below:Below w0 w0 w
section
variable {w0 w w':World} {n k:Nat} {R:List (Int × Int × Int)} {t t':Value} {r:Nat->Nat} {l:Nat->List Nat}
theorem Rr.below' (h:Rr w0 w n k R t r l)(hb:Below w w w'):Rr w0 w' n k R t r l:=
 ⟨h.own.kept (Ai hb) (iI _),λ i hi=>⟨(h.row i hi).1.below hb (h.row i hi).1.lt,(h.row i hi).2⟩,h.below.tr hb⟩
theorem Rr.ne (h:Rr w0 w n k R t r l){b:Nat}{x:List Nat}(hr:Aj w b x):t.ownBlock≠some b:=by
 intro e;rcases h.own.2 with⟨rfl,_⟩|⟨g,cap,cur,rfl,_,hg,_⟩
 ·cases e
 ·have hgb:g=b:=by simpa[Value.ownBlock] using e
  subst hgb;unfold Aj at hr;rw[hg] at hr;simp at hr
theorem Rr.more (h:Rr w0 w n k R t r l){rk:Nat}{lk:List Nat}(hr:Aj w rk lk)(hl:Lw n R [k] lk)(o:Obj)(ho:w'.ownsRow w0 48 1 t' (k+1) (((List.range k).map λ i=>Value.slice (r i:Nat) n n)++[Value.slice rk n n]))(hg:(w.alloc o).grownBy w' t.ownBlock):
 Rr w0 w' n (k+1) R t' (λ i=>if i<k then r i else rk) (λ i=>if i<k then l i else lk):=by
 have hb:Below w w (w.alloc o):=b_;have keep:∀{b x},Aj w b x->Aj w' b x:=λ {b x} hx=>(hg.block b (aR hx.lt hb.size) (λ e=>h.ne hx e.symm)).trans ((hb.block b hx.lt).trans hx)
 refine⟨?_,λ i hi=>?_,(h.below.tr hb).grown hg (aD h.below.size hb.size) (λ j hj=>(h.own.lt j hj).1)⟩
 ·have e:((List.range (k+1)).map λ i=>Value.slice (if i<k then r i else rk:Nat) n n)=((List.range k).map λ i=>Value.slice (r i:Nat) n n)++[Value.slice rk n n]:=by
   rw[dN,dL]
   congr 1
   ·apply fH
    intro i hi;rw[aP (bF.1 hi)]
   ·simp
  rw[e];exact ho
 ·by_cases LQ:i<k
  ·simp only[aP LQ]
   exact⟨keep (h.row i LQ).1,(h.row i LQ).2⟩
  ·have:i=k:=by omega
   subst this;simp only[aL LQ];exact⟨keep hr,hl⟩
theorem Rr.shape (h:Rr w0 w n k R t r l)(hk:0<k):∃g cap,t= .slice (some ⟨g,0,none⟩) k cap/\∀i,i<k->w.cell? ⟨g,i,none⟩=some (.slice (r i:Nat) n n):=by
 have h0:=h.own;rcases h.own.2 with⟨rfl,hz⟩|⟨g,cap,cur,rfl,_⟩
 ·omega
 ·refine⟨g,cap,rfl,λ i hi=>?_⟩
  rw[h0.cellAt i (by omega)];simp[hi]
end
end Go.Proofs.Y.S.X
namespace Go.Proofs.Y.S.X
open Go.RowKit Go.WideMaps Go.Maps Go.Proofs.Tryz
theorem zd1 (n B q:Nat)(u:Value)(R:List (Int × Int × Int))(P:Nat->Nat->Bool)(w:World)(h:G.GAt w B 40 61 q (n:Int) u R)(hn:n<=40)(p9:Inn n R)(hl:R.length<=120)(hP:∀a b,a<n->b<n->(P a b=true↔Mt R n a b)):
 Calls prog 66 #[.pointer q] w λ e w'=>∃v,e= .returned v/\Aq w' w v (Bj P n n)/\Below w w w':=by
 have HG:=kd h;have BG:=kd (And.intro p9 hl);have HP:=kd hP;have hc:=h.c0;obtain⟨j0,hj,JE,hj1,hj2⟩:=info_parts Tryz.info48;clear h p9 hl hP;go_enter func66,ntmps66;go_wp2_with fail;clear hc;go_loopw [3,16] (λ s3 s16 wq=>∃(k:Nat) (r:Nat->Nat) (l:Nat->List Nat),k<=n/\s16=k/\Rr w wq n k R s3 r l) (λ _ s16 _=>n-(intOf s16).toNat)
 case atStart=>exact⟨0,λ _=>0,λ _=>[],aN _,rfl,aX _ _ _ _,λ i hi=>by omega,aI _ _⟩
 case round=>
  obtain⟨k,r,l,hk,rfl,hrr⟩:=hrel;have HR:=kd hrr;clear hrr;by_cases j6:k<n
  ·as_aux_lemma=>
   have j4:Below wr wr (wr.alloc (.cells #[k] 3)):=b_;have BZ:Hid (Rr w (wr.alloc (.cells #[k] 3)) n k R u3 r l):=HR.o.below' j4;clear HR j4;go_wp2_with fail;refine(G.Du (n:Int) B q u R none (some ⟨wr.heap.size,0,none⟩) 0 1 0 1 (λ _=>0) (λ _=>(k:Int)) _ (HG.o.below BZ.o.below) BG.o.2 (X4 _ _) (zli wr k) (by omega) (by omega)).mono ?_;rintro e w2 ⟨q2,v2,rfl,AU,j5⟩;have GD:=kd AU;have CB:Hid (Rr w w2 n k R u3 r l):=BZ.o.below' j5;clear AU j5 BZ;go_wp2_with fail;refine(De n _ q2 v2 _ w2 GD.o (aD (aW _ _) BG.o.2) (by omega) (Yi BG.o.1 _)).mono ?_;rintro e w3 ⟨b3,l3,rfl,FO,_,FK,hli,y8⟩;have DR:Hid (Rr w w3 n k R u3 r l):=CB.o.below' y8;have WL:Hid (Aj w3 b3 l3/\Lw n R [k] l3):=⟨FO,zjk BG.o.1 (zjl k) FK hli⟩;have o8:=DR.o.own;have hsz3:=DR.o.below.size;clear FO FK hli y8 CB GD;go_wp2_with (first
    |(at_builtin;refine wpList_append_own_at _ rfl _ _ 51 rfl w.heap.size 48 j0 (.slice none 0 0) 1 24 underlying51 hj JE hj1 hj2 rfl (by decide) u3 k _ rfl (o8.alloc _) w3 1 1 [.slice b3 n n] rfl rfl (cell_one_new _ _ _) (Fv _ _ _) (by unfold maxLen;omega) (by omega) (by simp;omega) ?_;intro v9 w9 QP LJ VU VV)
    |fail)
   have HR9:Hid (Rr w w9 n (k+1) R v9 (λ i=>if i<k then r i else b3) (λ i=>if i<k then l i else l3)):=DR.o.more WL.o.1 WL.o.2 _ QP LJ;clear QP LJ VU VV o8;go_wp2_with fail;go_roundw;case rel=>exact⟨k+1,_,_,by omega,by go_num,HR9.o⟩
   case measure=>simp[intOf];omega
  ·have CF:k=n:=by omega
   subst CF;have PI:Hid (Pr wr wr (.slice none 0 0) (Bj P k 0)):=⟨aX _ _ _ _,aI _ _⟩;have BV:=(HG.o.below HR.o.below).c0;go_wp2_with fail;clear BV;obtain⟨W1,AJ⟩:∃W1,wr=W1:=⟨_,rfl⟩;obtain⟨t3,PN⟩:∃t3,u3=t3:=⟨_,rfl⟩;rw[AJ] at HR PI ⊢;rw[PN] at HR ⊢;clear AJ PN;go_loopw [5,32] (λ s5 s32 wq=>∃a:Nat,a<=k/\s32=a/\Pr W1 wq s5 (Bj P k a)) (λ _ s32 _=>k-(intOf s32).toNat)
   case atStart=>exact⟨0,aN _,rfl,PI.o⟩
   case round=>
    clear PI;obtain⟨a,ha,rfl,EG⟩:=hrel;have JX:=kd EG;clear EG;by_cases hla:a<k
    ·have GG:Hid (Pr W1 wr u5 (Bj P k a++Cf P a (a+1))):=by
      show Pr _ _ _ _;rw[U3,eX];exact JX.o
     go_wp2_with fail;go_loopw [5,7] (λ s5 s7 wq=>∃b:Nat,b<=k/\a<b/\s7=b/\Pr W1 wq s5 (Bj P k a++Cf P a b)) (λ _ s7 _=>k-(intOf s7).toNat)
     case atStart=>exact⟨a+1,by omega,by omega,by go_num,GG.o⟩
     case round=>
      clear GG JX;obtain⟨b,hb,BJ,rfl,EG⟩:=hrel;have JX:=kd EG;clear EG;have BV:=((HG.o.below HR.o.below).below JX.o.below).c0;by_cases RZ:b<k
      ·have j4:Below wr wr (wr.alloc (.cells #[a,b] 3)):=b_
       have HP1:Hid (Pr W1 (wr.alloc (.cells #[a,b] 3)) u5 (Bj P k a++Cf P a b)):=JX.o.below' j4;clear JX j4;go_wp2_with fail;clear BV;refine(G.Du (k:Int) B q u R none (some ⟨wr.heap.size,0,none⟩) 0 2 0 2 (λ _=>0) (Td a b) _ ((HG.o.below HR.o.below).below HP1.o.below) BG.o.2 (X4 _ _) (zme wr a b) (by omega) (by omega)).mono ?_;rintro e w2 ⟨q2,v2,rfl,AU,j5⟩;have GD:=kd AU;have HP2:Hid (Pr W1 w2 u5 (Bj P k a++Cf P a b)):=HP1.o.below' j5;clear AU j5 HP1;go_wp2_with fail;refine(De k _ q2 v2 _ w2 GD.o (aD (aW _ _) BG.o.2) (by omega) (Yi BG.o.1 _)).mono ?_;rintro e w3 ⟨b3,l3,rfl,FO,_,FK,hli,y8⟩;have HP3:Hid (Pr W1 w3 u5 (Bj P k a++Cf P a b)):=HP2.o.below' y8;have WL:Hid (Aj w3 b3 l3/\Lw k R [a,b] l3):=⟨FO,zjk BG.o.1 (zii a b) FK hli⟩;have DR:Hid (Rr w w3 k k R t3 r l):=HR.o.below' HP3.o.below;obtain⟨g3,c3,PN,GQ⟩:=DR.o.shape (by omega);subst PN;have ML:=GQ a (by omega);have hgb:=GQ b RZ;have VZ:Hid (∀W,Below w3 w3 W->(W.cell? (g3,a)=some (.slice (r a:Nat) k k)/\W.cell? (g3,b)=some (.slice (r b:Nat) k k))/\∀x,x<k->W.cell? ⟨r a,x,none⟩=(((l a).getD x 0:Nat):Int)/\W.cell? (r b,x)=(((l b).getD x 0:Nat):Int)/\W.cell? (b3,x)=((l3.getD x 0:Nat):Int)):=λ W hW=>by
        have h1:=DR.o.row a (by omega);have h2:=DR.o.row b RZ;refine⟨⟨cell_below ML hW,cell_below hgb hW⟩,λ x hx=>⟨cell_below (h1.1.cell x (by rw[h1.2.len];exact hx)) hW,cell_below (h2.1.cell x (by rw[h2.2.len];exact hx)) hW,cell_below (WL.o.1.cell x (by rw[WL.o.2.len];exact hx)) hW⟩⟩
       have HDOC:Hid (∀x y,x<k->y<k->(Eo R a b x y↔¬(x=a\/x=b\/y=a\/y=b)/\(l a).getD x 0=(l a).getD y 0/\(l b).getD x 0=(l b).getD y 0/\l3.getD x 0≠l3.getD y 0)):=λ x y hx hy=>by
        unfold Eo;rw[((DR.o.row a (by omega)).2).iff x y hx hy,((DR.o.row b RZ).2).iff x y hx hy,<-not_congr (WL.o.2.iff x y hx hy)]
       obtain⟨la,hla'⟩:∃la,l a=la:=⟨_,rfl⟩;obtain⟨lb,hlb'⟩:∃lb,l b=lb:=⟨_,rfl⟩;rw[hla',hlb'] at VZ HDOC;have hN3:=((HG.o.below HR.o.below).below HP3.o.below).c0;clear FO FK hli y8 HP2 GD ML hgb GQ DR hla' hlb';go_wp2_with fail;go_loopw [9,55] (λ s9 s55 wq=>∃(x:Nat) (bz:Bool),x<=k/\s55=x/\s9= .bool bz/\(bz=true↔∃x' y',y'<x'/\x'<x/\Eo R a b x' y')/\Below w3 w3 wq) (λ _ s55 _=>k-(intOf s55).toNat)
       case atStart=>exact⟨0,false,aN _,rfl,rfl,⟨λ h=>absurd h (by simp),λ⟨x',y',_,h,_⟩=>absurd h (by omega)⟩,aI _ _⟩
       case round=>
        clear hN3;obtain⟨x,bz,hx,rfl,rfl,hbz,BI⟩:=hrel;have KW:=kd (And.intro hbz BI);clear hbz BI;by_cases SC:x<k
        ·have HZS:Hid (bz=true↔∃x' y',y'<x'/\(x'<x\/(x'=x/\y'<0))/\Eo R a b x' y'):=by
          rw[KW.o.1];exact⟨λ⟨x',y',h1,h2,h3⟩=>⟨x',y',h1,.inl h2,h3⟩,λ⟨x',y',h1,h2,h3⟩=>⟨x',y',h1,by omega,h3⟩⟩
         go_wp2_with fail;go_loopw [9,59] (λ s9 s59 wq=>∃(y:Nat) (bz:Bool),y<=x/\s59=y/\s9= .bool bz/\(bz=true↔∃x' y',y'<x'/\(x'<x\/(x'=x/\y'<y))/\Eo R a b x' y')/\Below w3 w3 wq) (λ _ s59 _=>x-(intOf s59).toNat)
         case atStart=>exact⟨0,bz,aN _,rfl,rfl,HZS.o,KW.o.2⟩
         case round=>
          clear HZS KW;obtain⟨y,bz,hy,rfl,rfl,hbz,BI⟩:=hrel;have KW:=kd (And.intro hbz BI);clear hbz BI;by_cases hly:y<x
          ·have GK:Hid (∀b2:Bool,(b2=true↔bz=true\/Eo R a b x y)->(b2=true↔∃x' y',y'<x'/\(x'<x\/(x'=x/\y'<y+1))/\Eo R a b x' y')):=λ b2 h2=>by
            rw[h2,KW.o.1];constructor
            ·rintro(⟨x',y',h1,h3,h4⟩|h4)
             ·exact⟨x',y',h1,by omega,h4⟩
             ·exact⟨x,y,hly,by omega,h4⟩
            ·rintro⟨x',y',h1,h3,h4⟩
             by_cases he:x'=x/\y'=y
             ·rw[he.1,he.2] at h4;exact .inr h4
             ·exact .inl ⟨x',y',h1,by omega,h4⟩
           obtain⟨⟨ML,hgb⟩,o7⟩:=VZ.o wr KW.o.2;obtain⟨x1,x2,x3⟩:=o7 x SC;obtain⟨y1,y2,y3⟩:=o7 y (by omega);have HD:Hid _:=HDOC.o x y SC (by omega);clear o7;by_cases hc:x=a\/x=b\/y=a\/y=b
           ·have HZ:Hid (bz=true↔∃x' y',y'<x'/\(x'<x\/(x'=x/\y'<y+1))/\Eo R a b x' y'):=GK.o bz ⟨.inl,λ h=>h.elim id (λ d=>absurd hc d.1)⟩
            clear x1 x2 x3 y1 y2 y3 HD GK ML hgb;by_cases e1:x=a
            ·have f1:((x:Int)==(a:Int))=true:=bX.2 (by omega)
             clear e1 hc
             as_aux_lemma=>
             go_wp2_with fail;go_roundw;case rel=>exact⟨y+1,bz,by omega,by go_num,rfl,HZ.o,KW.o.2⟩
             case measure=>simp[intOf];omega
            ·have f1:((x:Int)==(a:Int))=false:=aH.2 (by omega)
             by_cases e2:x=b
             ·have f2:((x:Int)==(b:Int))=true:=bX.2 (by omega)
              clear e1 e2 hc
              as_aux_lemma=>
              go_wp2_with fail;go_roundw;case rel=>exact⟨y+1,bz,by omega,by go_num,rfl,HZ.o,KW.o.2⟩
              case measure=>simp[intOf];omega
             ·have f2:((x:Int)==(b:Int))=false:=aH.2 (by omega)
              by_cases e3:y=a
              ·have f3:((y:Int)==(a:Int))=true:=bX.2 (by omega)
               clear e1 e2 e3 hc
               as_aux_lemma=>
               go_wp2_with fail;go_roundw;case rel=>exact⟨y+1,bz,by omega,by go_num,rfl,HZ.o,KW.o.2⟩
               case measure=>simp[intOf];omega
              ·have f3:((y:Int)==(a:Int))=false:=aH.2 (by omega)
               have f4:((y:Int)==(b:Int))=true:=bX.2 (by omega);clear e1 e2 e3 hc
               as_aux_lemma=>
               go_wp2_with fail;go_roundw;case rel=>exact⟨y+1,bz,by omega,by go_num,rfl,HZ.o,KW.o.2⟩
               case measure=>simp[intOf];omega
           ·have f1:((x:Int)==(a:Int))=false:=aH.2 (by omega)
            have f2:((x:Int)==(b:Int))=false:=aH.2 (by omega);have f3:((y:Int)==(a:Int))=false:=aH.2 (by omega);have f4:((y:Int)==(b:Int))=false:=aH.2 (by omega);have WG:=kd KW.o.2.drew;have hly':y<k:=by omega
            obtain⟨X1,hX1⟩:∃X1,la.getD x 0=X1:=⟨_,rfl⟩;obtain⟨Y1,hY1⟩:∃Y1,la.getD y 0=Y1:=⟨_,rfl⟩;obtain⟨X2,hX2⟩:∃X2,lb.getD x 0=X2:=⟨_,rfl⟩;obtain⟨Y2,hY2⟩:∃Y2,lb.getD y 0=Y2:=⟨_,rfl⟩;obtain⟨X3,hX3⟩:∃X3,l3.getD x 0=X3:=⟨_,rfl⟩;obtain⟨Y3,hY3⟩:∃Y3,l3.getD y 0=Y3:=⟨_,rfl⟩;have HD':Hid (Eo R a b x y↔X1=Y1/\X2=Y2/\X3≠Y3):=by
             rw[<-hX1,<-hY1,<-hX2,<-hY2,<-hX3,<-hY3];show Eo R a b x y↔_;rw[HD.o];exact⟨λ h=>h.2,λ h=>⟨hc,h⟩⟩
            rw[hX1] at x1;rw[hX2] at x2;rw[hX3] at x3;rw[hY1] at y1;rw[hY2] at y2;rw[hY3] at y3;clear hX1 hX2 hX3 hY1 hY2 hY3 HD hc;cases bz with
            |true=>
             as_aux_lemma=>
             have HZ:Hid (true=true↔∃x' y',y'<x'/\(x'<x\/(x'=x/\y'<y+1))/\Eo R a b x' y'):=GK.o true ⟨λ _=>.inl rfl,λ _=>rfl⟩;clear GK HD';go_upto_region 23 with fail
             go_quiet (fail);go_wp2_with fail;go_roundw;case rel=>exact⟨y+1,true,by omega,by go_num,(by first|rfl|(simp only[bne,g3];rfl)),HZ.o,below_drewN KW.o.2 _⟩
             case measure=>simp[intOf];omega
            |false=>
             by_cases h1:X1=Y1
             ·have g1:((X1:Int)==(Y1:Int))=true:=bX.2 (by omega)
              by_cases h2:X2=Y2
              ·have g2:((X2:Int)==(Y2:Int))=true:=bX.2 (by omega)
               by_cases h3:X3=Y3
               ·as_aux_lemma=>
                have g3:((X3:Int)==(Y3:Int))=true:=bX.2 (by omega);have HZ:Hid (false=true↔∃x' y',y'<x'/\(x'<x\/(x'=x/\y'<y+1))/\Eo R a b x' y'):=GK.o false ⟨λ h=>.inl h,λ h=>h.elim id (λ d=>absurd h3 (HD'.o.1 d).2.2)⟩;clear GK HD' h1 h2 h3;go_upto_region 23 with fail
                go_quiet (fail);go_wp2_with fail;go_roundw;case rel=>exact⟨y+1,false,by omega,by go_num,(by first|rfl|(simp only[bne,g3];rfl)),HZ.o,below_drewN KW.o.2 _⟩
                case measure=>simp[intOf];omega
               ·as_aux_lemma=>
                have g3:((X3:Int)==(Y3:Int))=false:=aH.2 (by omega);have HZ:Hid (true=true↔∃x' y',y'<x'/\(x'<x\/(x'=x/\y'<y+1))/\Eo R a b x' y'):=GK.o true ⟨λ _=>.inr (HD'.o.2 ⟨h1,h2,h3⟩),λ _=>rfl⟩;clear GK HD' h1 h2 h3;go_upto_region 23 with fail
                go_quiet (fail);go_wp2_with fail;go_roundw;case rel=>exact⟨y+1,true,by omega,by go_num,(by first|rfl|(simp only[bne,g3];rfl)),HZ.o,below_drewN KW.o.2 _⟩
                case measure=>simp[intOf];omega
              ·as_aux_lemma=>
               have g2:((X2:Int)==(Y2:Int))=false:=aH.2 (by omega);have HZ:Hid (false=true↔∃x' y',y'<x'/\(x'<x\/(x'=x/\y'<y+1))/\Eo R a b x' y'):=GK.o false ⟨λ h=>.inl h,λ h=>h.elim id (λ d=>absurd (HD'.o.1 d).2.1 h2)⟩;clear GK HD' h1 h2;go_upto_region 23 with fail
               go_quiet (fail);go_wp2_with fail;go_roundw;case rel=>exact⟨y+1,false,by omega,by go_num,(by first|rfl|(simp only[bne,g3];rfl)),HZ.o,below_drewN KW.o.2 _⟩
               case measure=>simp[intOf];omega
             ·as_aux_lemma=>
              have g1:((X1:Int)==(Y1:Int))=false:=aH.2 (by omega);have HZ:Hid (false=true↔∃x' y',y'<x'/\(x'<x\/(x'=x/\y'<y+1))/\Eo R a b x' y'):=GK.o false ⟨λ h=>.inl h,λ h=>h.elim id (λ d=>absurd (HD'.o.1 d).1 h1)⟩;clear GK HD' h1;go_upto_region 23 with fail
              go_quiet (fail);go_wp2_with fail;go_roundw;case rel=>exact⟨y+1,false,by omega,by go_num,(by first|rfl|(simp only[bne,g3];rfl)),HZ.o,below_drewN KW.o.2 _⟩
              case measure=>simp[intOf];omega
          ·as_aux_lemma=>
           have NF:y=x:=by omega
           have HF:Hid (bz=true↔∃x' y',y'<x'/\x'<x+1/\Eo R a b x' y'):=by
            rw[KW.o.1];exact⟨λ⟨x',y',h1,h2,h3⟩=>⟨x',y',h1,by omega,h3⟩,λ⟨x',y',h1,h2,h3⟩=>⟨x',y',h1,by omega,h3⟩⟩
           clear NF;go_wp2_with fail;go_roundw;case rel=>exact⟨x+1,bz,by omega,by go_num,rfl,HF.o,KW.o.2⟩
           case measure=>simp[intOf];omega
        ·have DK:x=k:=by omega
         have hPb:P a b=bz:=by
          have h1:=HP.o a b (by omega) RZ;rw[Sm] at h1;have h2:=KW.o.1;rw[DK,<-h1] at h2;cases hz:bz <;> cases hp:P a b <;> simp_all
         have hlen:(Bj P k a++Cf P a b).length<=10000:=by
          have h1:=yu P (n:=k) (a:=a);have h2:=Sw P (a:=a) (b:=b);have h3:a*k<=40*40:=fU (by omega) hn;rw[aM];omega
         have QR:Hid (Pr W1 wr u5 (Bj P k a++Cf P a b)):=HP3.o.below' KW.o.2;clear DK;cases hz:bz with
         |true=>
          as_aux_lemma=>
          rw[hz] at hPb;obtain⟨v',w4,hr,GX,KQ,QF⟩:=Kt 65 wr W1 u5 _ a b QR.o.own QR.o.below.size hlen;have HRR:=kd hr;have HN:Hid (Pr W1 w4 v' (Bj P k a++Cf P a (b+1))):=by
           refine⟨?_,QR.o.below.grown KQ QR.o.below.size (λ j hj=>(aU QR.o.own j hj).1)⟩;rw[dW,<-jv P BJ hPb] at GX;exact GX
          clear hr GX KQ QF QR hPb;go_wp2_with (at_builtin;refine Lib.wpList_append_run _ rfl _ _ _ _ rfl _ _ rfl rfl _ _ HRR.o ?_);go_roundw;case rel=>exact⟨b+1,by omega,by omega,by go_num,HN.o⟩
          case measure=>simp[intOf];omega
         |false=>
          as_aux_lemma=>
          rw[hz] at hPb;have HN:Hid (Pr W1 wr u5 (Bj P k a++Cf P a (b+1))):=by
           show Pr _ _ _ _;rw[zce P hPb];exact QR.o
          clear hPb;go_wp2_with fail;go_roundw;case rel=>exact⟨b+1,by omega,by omega,by go_num,HN.o⟩
          case measure=>simp[intOf];omega
      ·as_aux_lemma=>
       have NV:b=k:=by omega
       have HF:Hid (Pr W1 wr u5 (Bj P k (a+1))):=by
        have:=JX.o;rw[NV,<-Qg] at this;exact this
       clear NV;go_wp2_with fail;go_roundw;case rel=>exact⟨a+1,by omega,by go_num,HF.o⟩
       case measure=>simp[intOf];omega
    ·as_aux_lemma=>
     have FT:a=k:=by omega
     subst FT;have HF:Hid (Aq wr w u5 (Bj P a a)/\Below w w wr):=by
      have j5:=HR.o.below;have y8:=JX.o.below;exact⟨JX.o.own.mono j5.size,j5.tr y8⟩
     go_wp2_with fail;go_ret;exact⟨_,rfl,HF.o.1,HF.o.2⟩
end Go.Proofs.Y.S.X
