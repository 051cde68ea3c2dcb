import Derived.Test.YtebcjaenhiiflaaGreatDoorQPbZl
import Derived.Test.YtebcjaenhiiflaaGreatDoorQSy
set_option maxHeartbeats 4000000
set_option maxRecDepth 100000
namespace Go.Proofs.Y.I
open Go.RowKit Go.WideMaps Go.Maps Go.Lib Go.Proofs.Tryz
variable {w0 wa w w':World} {d dm n:Nat} {L:List G.E}
theorem Kr (b:Bool)(w:World):Calls prog 173 #[b] w λ e w'=>e=Value.string ⟨(Lib.formatBool b).toArray⟩/\w'=w:=
 Any.strconv_FormatBool Tryz.lays121 b w
noncomputable def Pj (n:Nat)(L:List G.E)(i a b:Int):Out:=
 if Bn n L i a b=0 then(.ok (Lib.formatBool (decide (i∈brz n (Fh n L i a b)))),n,Fh n L i a b) else(.error (Bn n L i a b),n,L)
def Mk (n:Nat)(L:List G.E)(i:Int):Out:=if Gf L i=0 then(.ok [100,114,111,112],n,Ey L i) else(.error (Gf L i),n,L)
noncomputable def Jp (n:Nat)(L:List G.E)(i j:Int):Out:=if inB n i j then(.ok (Lib.formatBool (whB n L i j)),n,L) else(.error 2,n,L)
noncomputable def Jv (n:Nat)(L:List G.E)(i j:Int):Out:=if inB n i j then(.ok (Lib.formatBool (twB n L i j)),n,L) else(.error 2,n,L)
theorem ztn {i a b:Int}{u:Value}(h:DkS w0 wa d dm n L)(hn:F7 wa w [i,a,b] u):
 Calls prog 151 #[.pointer d,u] w (G7 w0 d dm (Pj n L i a b) wa):=by
 obtain⟨g,c,rfl,AX,AU,hc⟩:=Jz hn (by simp);have FQ:=kd h;obtain⟨x,p,q,v,R,B,W,T,D,pw,bw,pt,bt,mp,N,h⟩:=h;have DW:Below wa wa w.drew:=hn.2.trans ((aI _ _).drew);have FX:=kd DW;have HH:=kd (h.below' DW);have hS:w.drew.cell? d=some (.pointer x)/\w.drew.cell? g=i/\w.drew.cell? (g,1)=a/\w.drew.cell? (g,2)=b:=
  ⟨(Ki HH.o.cell).1,hc 0 i rfl,hc 1 a rfl,hc 2 b rfl⟩
 have HA:=kd (zo3 h DW i a b);have HG:=kd (show wa.heap.size<=g/\g<w.drew.heap.size from⟨AX,AU⟩);clear h hn hc DW AX AU;unfold Pj;by_cases hz:Bn n L i a b=0
 ·rw[aP hz]
  have MN:Hid (Calls prog 21 #[.pointer x,i,a,b] w.drew λ e w'=>e=Value.tuple #[(decide (i∈brz n (Fh n L i a b))),.nilIface]/\Dw w0 wa w.drew d dm n (Fh n L i a b) w'):=by
   refine kd (aA HA.o ?_);rintro e w' ⟨ok,rfl,hd,hk⟩;have h1:ok=decide (i∈brz n (Fh n L i a b)):=by
    have h2:=hk hz;cases ok
    ·exact(bM (λ k=>by have:=h2.2 k;cases this)).symm
    ·exact(bI (h2.1 rfl)).symm
   rw[h1];exact⟨by rw[hz];simp[G.Ef],hd⟩
  clear HA hz;generalize decide (i∈brz n (Fh n L i a b))=t at*;generalize Fh n L i a b=L2 at*;go_enter func151,ntmps151;go_wp2_with fail;go_region_held (λ w'=>w'.cell? d=some (.pointer x)/\w'.cell? g=i/\w'.cell? (g,1)=a/\w'.cell? (g,2)=b) (with_reducible assumption)
   (first
     |(go_at_call 21;refine aA MN.o ?_;rintro e w1 ⟨rfl,hd⟩;have HD:=kd hd;have CO:w1.cell? d=some (.pointer x)/\w1.cell? g=i/\w1.cell? (g,1)=a/\w1.cell? (g,2)=b:=⟨A9 hd.dsk hS.1,A9 (hd.new g HG.o.1 HG.o.2) hS.2.1,A9 (hd.new g HG.o.1 HG.o.2) hS.2.2.1,A9 (hd.new g HG.o.1 HG.o.2) hS.2.2.2⟩;clear hd MN)
     |(go_at_call 262;refine aA (O0 _ _) ?_;rintro e w2 ⟨rfl,BL⟩;subst BL)
     |(go_at_call 173;refine aA (Kr _ _) ?_;rintro e w3 ⟨rfl,EX⟩;subst EX))
  all_goals
   go_wp2_with fail;go_ret;exact⟨rfl,HD.o.s,HD.o.k⟩
 ·rw[aL hz]
  have MN:Hid (Calls prog 21 #[.pointer x,i,a,b] w.drew λ e w'=>∃ok,e=Value.tuple #[.bool ok,.iface 23 (Bn n L i a b:Int)]/\Dw w0 wa w.drew d dm n L w'):=by
   refine kd (aA HA.o ?_);rintro e w' ⟨ok,rfl,hd,hk⟩;refine⟨ok,by simp[G.Ef,hz],?_⟩;unfold Fh at hd
   rwa[aL hz] at hd
  clear HA hz;generalize Bn n L i a b=k at*;go_enter func151,ntmps151;go_wp2_with fail;refine wp_region_held_drew (S:=(λ w'=>w'.cell? d=some (.pointer x)/\w'.cell? g=i/\w'.cell? (g,1)=a/\w'.cell? (g,2)=b)) (by kernel_rfl) ?_ (λ hHeld=>?_)
  ·exact hS
  refine tk 0 ?_;refine tk 1 ?_;refine tk 2 ?_;refine tk 3 ?_;refine tk 4 ?_;refine tk 5 ?_;refine tk 6 ?_;refine tk 7 ?_;refine tk 8 ?_;refine tk 9 ?_;refine tk 10 ?_;refine tk 11 ?_;refine tk 12 ?_;refine rd 13 (λ K hK=>?_);go_simp;refine aA MN.o ?_;rintro e w1 ⟨ok,rfl,hd⟩;have HD:=kd hd;have CO:w1.cell? d=some (.pointer x)/\w1.cell? g=i/\w1.cell? (g,1)=a/\w1.cell? (g,2)=b:=⟨A9 hd.dsk hS.1,A9 (hd.new g HG.o.1 HG.o.2) hS.2.1,A9 (hd.new g HG.o.1 HG.o.2) hS.2.2.1,A9 (hd.new g HG.o.1 HG.o.2) hS.2.2.2⟩;clear hd MN;refine hK.out _ _ ?_ (λ hHeld=>?_)
  ·exact CO
  clear hK K;refine tk 14 ?_;refine tk 15 ?_;refine rd 16 (λ K hK=>?_);go_simp;refine aA (Qa _ _ _ _) ?_;rintro e w2 ⟨rfl,BL⟩;subst BL;exact⟨rfl,rfl,HD.o.s,HD.o.k⟩
theorem zpq {i:Int}{u:Value}(h:DkS w0 wa d dm n L)(hn:F7 wa w [i] u):
 Calls prog 155 #[.pointer d,u] w (G7 w0 d dm (Mk n L i) wa):=by
 obtain⟨g,c,rfl,AX,AU,hc⟩:=Jz hn (by simp);obtain⟨x,p,q,v,R,B,W,T,D,pw,bw,pt,bt,mp,N,h⟩:=h;have DW:Below wa wa w.drew:=hn.2.trans ((aI _ _).drew);have HH:=kd (h.below' DW);have hS:w.drew.cell? d=some (.pointer x)/\w.drew.cell? g=i:=⟨(Ki HH.o.cell).1,hc 0 i rfl⟩;have HA:=kd (zl8 h DW i);have HG:=kd (show wa.heap.size<=g/\g<w.drew.heap.size from⟨AX,AU⟩);clear h hn hc DW AX AU;unfold Mk;by_cases hz:Gf L i=0
 ·rw[aP hz]
  rw[hz] at HA;have MN:Hid (Calls prog 18 #[.pointer x,i] w.drew λ e w'=>e= .returned .nilIface/\Dw w0 wa w.drew d dm n (Ey L i) w'):=by
   refine kd (aA HA.o ?_);rintro e w' ⟨rfl,hd⟩;exact⟨by simp[G.Ef],hd⟩
  clear HA hz;generalize Ey L i=L2 at*;go_enter func155,ntmps155;go_wp2_with fail;go_region_held (λ w'=>w'.cell? d=some (.pointer x)/\w'.cell? g=i) (with_reducible assumption)
   (first
     |(go_at_call 18;refine aA MN.o ?_;rintro e w1 ⟨rfl,hd⟩;have HD:=kd hd;have CO:w1.cell? d=some (.pointer x)/\w1.cell? g=i:=⟨A9 hd.dsk hS.1,A9 (hd.new g HG.o.1 HG.o.2) hS.2⟩;clear hd MN)
     |(go_at_call 267;refine aA (Lc _) ?_;rintro e w2 ⟨rfl,BL⟩;subst BL))
  all_goals
   go_wp2_with fail;go_ret;exact⟨rfl,HD.o.s,HD.o.k⟩
 ·rw[aL hz]
  have MN:Hid (Calls prog 18 #[.pointer x,i] w.drew λ e w'=>e=Value.iface 23 (Gf L i:Int)/\Dw w0 wa w.drew d dm n L w'):=by
   refine kd (aA HA.o ?_);rintro e w' ⟨rfl,hd⟩;refine⟨by simp[G.Ef,hz],?_⟩;have e1:Ey L i=L:=by
    unfold Gf at hz;unfold Ey;split at hz
    ·exact absurd rfl hz
    ·next h=>rw[aL h]
   rwa[e1] at hd
  clear HA hz;generalize Gf L i=k at*;go_enter func155,ntmps155;go_wp2_with fail;refine wp_region_held_drew (S:=(λ w'=>w'.cell? d=some (.pointer x)/\w'.cell? g=i)) (by kernel_rfl) ?_ (λ hHeld=>?_)
  ·exact hS
  refine tk 0 ?_;refine tk 1 ?_;refine tk 2 ?_;refine tk 3 ?_;refine tk 4 ?_;refine tk 5 ?_;refine tk 6 ?_;refine rd 7 (λ K hK=>?_);go_simp;refine aA MN.o ?_;rintro e w1 ⟨rfl,hd⟩;have HD:=kd hd;have CO:w1.cell? d=some (.pointer x)/\w1.cell? g=i:=⟨A9 hd.dsk hS.1,A9 (hd.new g HG.o.1 HG.o.2) hS.2⟩;clear hd MN;refine hK.out _ _ ?_ (λ hHeld=>?_)
  ·exact CO
  clear hK K;refine rd 8 (λ K hK=>?_);go_simp;refine aA (G5 _ _ _) ?_;rintro e w2 ⟨rfl,BL⟩;subst BL;exact⟨rfl,rfl,HD.o.s,HD.o.k⟩
theorem zki {i j:Int}{u:Value}(h:DkS w0 wa d dm n L)(hn:F7 wa w [i,j] u):
 Calls prog 165 #[.pointer d,u] w (G7 w0 d dm (Jp n L i j) wa):=by
 obtain⟨g,c,rfl,AX,AU,hc⟩:=Jz hn (by simp);have FQ:=kd h;have DW:Below wa wa w.drew:=hn.2.trans ((aI _ _).drew);have FX:=kd DW;obtain⟨a,b,x,EZ,NZ⟩:=(h.below' DW).iv;have hS:w.drew.cell? d=some (.pointer x)/\w.drew.cell? g=i/\w.drew.cell? (g,1)=j:=⟨NZ,hc 0 i rfl,hc 1 j rfl⟩;unfold Jp;by_cases hz:inB n i j
 ·rw[aP hz]
  have HA:=kd (zjt EZ hz);clear h hn hc DW AX AU hz EZ NZ;generalize whB n L i j=t at*;go_enter func165,ntmps165;go_wp2_with fail;go_region_held (λ w'=>w'.cell? d=some (.pointer x)/\w'.cell? g=i/\w'.cell? (g,1)=j) (with_reducible assumption)
   (first
     |(go_at_call 26;refine aA HA.o ?_;rintro e w1 ⟨rfl,j4⟩;have x8:=kd j4;have CO:w1.cell? d=some (.pointer x)/\w1.cell? g=i/\w1.cell? (g,1)=j:=⟨S.cell_below hS.1 j4,S.cell_below hS.2.1 j4,S.cell_below hS.2.2 j4⟩;clear j4 HA)
     |(go_at_call 262;refine aA (O0 _ _) ?_;rintro e w2 ⟨rfl,BL⟩;subst BL)
     |(go_at_call 173;refine aA (Kr _ _) ?_;rintro e w3 ⟨rfl,EX⟩;subst EX))
  all_goals
   go_wp2_with fail;go_ret;exact Mo FQ.o rfl (FX.o.tr x8.o)
 ·rw[aL hz]
  have HA:=kd (zc2 EZ hz);clear h hn hc DW AX AU hz EZ NZ;go_enter func165,ntmps165;go_wp2_with fail;refine wp_region_held_drew (S:=(λ w'=>w'.cell? d=some (.pointer x)/\w'.cell? g=i/\w'.cell? (g,1)=j)) (by kernel_rfl) ?_ (λ hHeld=>?_)
  ·exact hS
  refine tk 0 ?_;refine tk 1 ?_;refine tk 2 ?_;refine tk 3 ?_;refine tk 4 ?_;refine tk 5 ?_;refine tk 6 ?_;refine tk 7 ?_;refine tk 8 ?_;refine tk 9 ?_;refine rd 10 (λ K hK=>?_);go_simp;refine aA HA.o ?_;rintro e w1 ⟨rfl,j4⟩;have x8:=kd j4;have CO:w1.cell? d=some (.pointer x)/\w1.cell? g=i/\w1.cell? (g,1)=j:=⟨S.cell_below hS.1 j4,S.cell_below hS.2.1 j4,S.cell_below hS.2.2 j4⟩;clear j4 HA;refine hK.out _ _ ?_ (λ hHeld=>?_)
  ·exact CO
  clear hK K;refine tk 11 ?_;refine tk 12 ?_;refine rd 13 (λ K hK=>?_);go_simp;refine aA (Qa _ _ _ _) ?_;rintro e w2 ⟨rfl,BL⟩;subst BL;exact⟨rfl,O1 FQ.o rfl (FX.o.tr x8.o)⟩
theorem zlo {i j:Int}{u:Value}(h:DkS w0 wa d dm n L)(hn:F7 wa w [i,j] u):
 Calls prog 163 #[.pointer d,u] w (G7 w0 d dm (Jv n L i j) wa):=by
 obtain⟨g,c,rfl,AX,AU,hc⟩:=Jz hn (by simp);have FQ:=kd h;have DW:Below wa wa w.drew:=hn.2.trans ((aI _ _).drew);have FX:=kd DW;obtain⟨a,b,x,EZ,NZ⟩:=(h.below' DW).iv;have hS:w.drew.cell? d=some (.pointer x)/\w.drew.cell? g=i/\w.drew.cell? (g,1)=j:=⟨NZ,hc 0 i rfl,hc 1 j rfl⟩;unfold Jv;by_cases hz:inB n i j
 ·rw[aP hz]
  have HA:=kd (zhz EZ hz);clear h hn hc DW AX AU hz EZ NZ;generalize twB n L i j=t at*;go_enter func163,ntmps163;go_wp2_with fail;go_region_held (λ w'=>w'.cell? d=some (.pointer x)/\w'.cell? g=i/\w'.cell? (g,1)=j) (with_reducible assumption)
   (first
     |(go_at_call 27;refine aA HA.o ?_;rintro e w1 ⟨rfl,j4⟩;have x8:=kd j4;have CO:w1.cell? d=some (.pointer x)/\w1.cell? g=i/\w1.cell? (g,1)=j:=⟨S.cell_below hS.1 j4,S.cell_below hS.2.1 j4,S.cell_below hS.2.2 j4⟩;clear j4 HA)
     |(go_at_call 262;refine aA (O0 _ _) ?_;rintro e w2 ⟨rfl,BL⟩;subst BL)
     |(go_at_call 173;refine aA (Kr _ _) ?_;rintro e w3 ⟨rfl,EX⟩;subst EX))
  all_goals
   go_wp2_with fail;go_ret;exact Mo FQ.o rfl (FX.o.tr x8.o)
 ·rw[aL hz]
  have HA:=kd (zdc EZ hz);clear h hn hc DW AX AU hz EZ NZ;go_enter func163,ntmps163;go_wp2_with fail;refine wp_region_held_drew (S:=(λ w'=>w'.cell? d=some (.pointer x)/\w'.cell? g=i/\w'.cell? (g,1)=j)) (by kernel_rfl) ?_ (λ hHeld=>?_)
  ·exact hS
  refine tk 0 ?_;refine tk 1 ?_;refine tk 2 ?_;refine tk 3 ?_;refine tk 4 ?_;refine tk 5 ?_;refine tk 6 ?_;refine tk 7 ?_;refine tk 8 ?_;refine tk 9 ?_;refine rd 10 (λ K hK=>?_);go_simp;refine aA HA.o ?_;rintro e w1 ⟨rfl,j4⟩;have x8:=kd j4;have CO:w1.cell? d=some (.pointer x)/\w1.cell? g=i/\w1.cell? (g,1)=j:=⟨S.cell_below hS.1 j4,S.cell_below hS.2.1 j4,S.cell_below hS.2.2 j4⟩;clear j4 HA;refine hK.out _ _ ?_ (λ hHeld=>?_)
  ·exact CO
  clear hK K;refine tk 11 ?_;refine tk 12 ?_;refine rd 13 (λ K hK=>?_);go_simp;refine aA (Qa _ _ _ _) ?_;rintro e w2 ⟨rfl,BL⟩;subst BL;exact⟨rfl,O1 FQ.o rfl (FX.o.tr x8.o)⟩
end Go.Proofs.Y.I
namespace Go.Proofs.Y.I
open Go.RowKit Go.WideMaps Go.Maps Go.Lib Go.Proofs.Tryz
variable {w0 wa w w':World} {d dm n:Nat} {L:List G.E}
noncomputable def weZ (n:Nat)(L:List G.E)(i j:Int):Int × Int:=open Classical in if h:∃p:Int × Int,S.WE n L i j p.1 p.2 then h.choose else(0,0)
noncomputable def wnZ (n:Nat)(L:List G.E)(i j:Int):Int × Int:=open Classical in if h:∃p:Int × Int,S.WN n L i j p.1 p.2 then h.choose else(0,0)
theorem Uq {i j k c:Int}(h:S.WE n L i j k c):weZ n L i j=(k,c):=by
 have hx:∃p:Int × Int,S.WE n L i j p.1 p.2:=⟨(k,c),h⟩;unfold weZ;rw[kL hx];obtain⟨h1,h2⟩:=S.WE.one hx.choose_spec h;exact kP h1 h2
theorem qp {i j k c:Int}(h:S.WN n L i j k c):wnZ n L i j=(k,c):=by
 have hx:∃p:Int × Int,S.WN n L i j p.1 p.2:=⟨(k,c),h⟩;unfold wnZ;rw[kL hx];obtain⟨h1,h2⟩:=S.WN.one hx.choose_spec h;exact kP h1 h2
theorem Na {i j k c:Int}(h:S.WE n L i j k c):(0<=k/\k<=120)/\0<=c/\c<=2:=by
 rcases h with⟨h1,rfl⟩|⟨x,y,_,_,_,_,_,rfl,hv⟩
 ·rcases h1 with⟨_,rfl⟩|⟨_,_,rfl⟩ <;> omega
 ·have h1:=hv.pos
  have h2:=hv.le;omega
theorem Qm {i j k c:Int}(h:S.WN n L i j k c):0<=k/\k<=120:=by
 rcases h with⟨h1,rfl⟩|⟨x,y,_,_,_,_,_,rfl,hv⟩
 ·omega
 ·exact⟨hv.pos,hv.le⟩
noncomputable def Km (n:Nat)(L:List G.E)(i j:Int):Out:=if (weZ n L i j).2=0 then(.ok (Ah [(weZ n L i j).1,(wnZ n L i j).1]),n,L) else(.error (weZ n L i j).2,n,L)
theorem zor {i j:Int}{u:Value}(h:DkS w0 wa d dm n L)(hn:F7 wa w [i,j] u)(hv:Vars wa)(hk:∃k1 k2 c,S.WE n L i j k1 c/\S.WN n L i j k2 c):
 Calls prog 164 #[.pointer d,u] w (G7 w0 d dm (Km n L i j) wa):=by
 obtain⟨g,c,rfl,AX,AU,hc⟩:=Jz hn (by simp);have FQ:=kd h;have HV:=kd hv;have DW:Below wa wa w.drew:=hn.2.trans ((aI _ _).drew);have FX:=kd DW;obtain⟨a,b,x,EZ,NZ⟩:=(h.below' DW).iv;have hS:w.drew.cell? d=some (.pointer x)/\w.drew.cell? g=i/\w.drew.cell? (g,1)=j:=⟨NZ,hc 0 i rfl,hc 1 j rfl⟩;obtain⟨k1,k2,cc,TD,NP⟩:=hk;unfold Km;rw[Uq TD,qp NP];dsimp only;by_cases hz:cc=0
 ·rw[aP hz]
  subst hz;have HE:Hid (Calls prog 70 #[.pointer x,i,j] w.drew λ e w'=>e=Value.tuple #[k1,.nilIface]/\Below w.drew w.drew w'):=by
   refine kd (aA (zky EZ i j) ?_);rintro e w' ⟨k,c',h1,rfl,hb⟩;obtain⟨rfl,rfl⟩:=S.WE.one h1 TD;exact⟨by simp[G.Ef],hb⟩
  have HN:Hid (∀W,Below w.drew w.drew W->Calls prog 71 #[.pointer x,i,j] W λ e w'=>e=Value.tuple #[k2,.nilIface]/\Below W W w'):=by
   refine kd (λ W hW=>aA (zsu (EZ.below hW) i j) ?_);rintro e w' ⟨k,c',h1,rfl,hb⟩;obtain⟨rfl,rfl⟩:=S.WN.one h1 NP;exact⟨by simp[G.Ef],hb⟩
  have HK:Hid (∀y∈[k1,k2],0<=y/\y<=9223372036854775807):=kd (λ y hy=>by
   have h1:=(Na TD).1;have h2:=Qm NP;simp at hy;rcases hy with rfl|rfl <;> omega)
  clear h hn hc DW AX AU EZ NZ TD NP hv;go_enter func164,ntmps164;go_wp2_with fail;refine wp_region_held_drew (S:=(λ w'=>w'.cell? d=some (.pointer x)/\w'.cell? g=i/\w'.cell? (g,1)=j)) (by kernel_rfl) ?_ (λ hHeld=>?_)
  ·exact hS
  refine tk 0 ?_;refine tk 1 ?_;refine tk 2 ?_;refine tk 3 ?_;refine tk 4 ?_;refine tk 5 ?_;refine tk 6 ?_;refine tk 7 ?_;refine tk 8 ?_;refine tk 9 ?_;refine tk 14 ?_;refine tk 15 ?_;refine tk 16 ?_;refine tk 17 ?_;refine tk 18 ?_;refine tk 19 ?_;refine tk 20 ?_;refine tk 21 ?_;refine tk 22 ?_;refine tk 23 ?_;refine rd 10 (λ K hK=>?_);go_simp;refine aA HE.o ?_;rintro e w1 ⟨rfl,j4⟩;have CO:w1.cell? d=some (.pointer x)/\w1.cell? g=i/\w1.cell? (g,1)=j:=⟨S.cell_below hS.1 j4,S.cell_below hS.2.1 j4,S.cell_below hS.2.2 j4⟩;have x8:=kd (FX.o.tr j4);have HN1:=kd (HN.o w1 j4);clear j4 HE HN;refine hK.out _ _ ?_ (λ hHeld=>?_)
  ·exact CO
  clear hK K;refine tk 11 ?_;refine tk 12 ?_;refine rd 13 (λ K hK=>?_);go_simp;refine aA (Si _ _) ?_;rintro e w2 ⟨rfl,BL⟩;subst BL;refine hK.out _ _ ?_ (λ hHeld=>?_)
  ·exact CO
  clear hK K;refine rd 24 (λ K hK=>?_);go_simp;refine aA HN1.o ?_;rintro e w3 ⟨rfl,y8⟩;have NY:w3.cell? d=some (.pointer x)/\w3.cell? g=i/\w3.cell? (g,1)=j:=⟨S.cell_below CO.1 y8,S.cell_below CO.2.1 y8,S.cell_below CO.2.2 y8⟩;have AZ:=kd (x8.o.tr y8);clear y8 HN1;refine hK.out _ _ ?_ (λ hHeld=>?_)
  ·exact NY
  clear hK K;refine tk 25 ?_;refine tk 26 ?_;refine rd 27 (λ K hK=>?_);go_simp;refine aA (Si _ _) ?_;rintro e w4 ⟨rfl,NG⟩;subst NG;refine hK.out _ _ ?_ (λ hHeld=>?_)
  ·exact NY
  clear hK K;refine rd 28 (λ K hK=>?_);go_simp;have CV:Below w4 w4 (w4.alloc (.cells #[k1,k2] 3)):=b_;have WH:(w4.alloc (.cells #[k1,k2] 3)).cell? d=some (.pointer x)/\(w4.alloc (.cells #[k1,k2] 3)).cell? g=i/\(w4.alloc (.cells #[k1,k2] 3)).cell? (g,1)=j:=⟨S.cell_below NY.1 CV,S.cell_below NY.2.1 CV,S.cell_below NY.2.2 CV⟩;refine hK.out _ _ ?_ (λ hHeld=>?_)
  ·exact WH
  clear hK K;refine rd 29 (λ K hK=>?_);go_simp;have HR:=kd (Le (some ⟨w4.heap.size,0,none⟩) 2 2 [k1,k2] (w4.alloc (.cells #[k1,k2] 3)) rfl (pg w4 k1 k2) HK.o (by simp) (((HV.o.on AZ.o HV.o.big)).below CV));have OZ:=kd (AZ.o.tr CV);refine aA HR.o ?_;rintro e w6 ⟨rfl,FJ⟩;have HB6:=kd (OZ.o.tr FJ);have hS6:w6.cell? d=some (.pointer x)/\w6.cell? g=i/\w6.cell? (g,1)=j:=⟨S.cell_below WH.1 FJ,S.cell_below WH.2.1 FJ,S.cell_below WH.2.2 FJ⟩;refine hK.out _ _ ?_ (λ hHeld=>?_)
  ·exact hS6
  clear hK K;refine tk 30 ?_;refine wpAnyH_done (by kernel_rfl) ?_ _;go_wp2_with fail;go_ret;exact Mo (b:=Ah [k1,k2]) FQ.o (by first|rfl|simp) HB6.o
 ·rw[aL hz]
  have HE:Hid (Calls prog 70 #[.pointer x,i,j] w.drew λ e w'=>∃k,e=Value.tuple #[.int .i64 k,.iface 23 cc]/\Below w.drew w.drew w'):=by
   refine kd (aA (zky EZ i j) ?_);rintro e w' ⟨k,c',h1,rfl,hb⟩;obtain⟨rfl,rfl⟩:=S.WE.one h1 TD;exact⟨k,by simp[G.Ef,hz],hb⟩
  clear h hn hc DW AX AU EZ NZ TD NP hv hz;go_enter func164,ntmps164;go_wp2_with fail;refine wp_region_held_drew (S:=(λ w'=>w'.cell? d=some (.pointer x)/\w'.cell? g=i/\w'.cell? (g,1)=j)) (by kernel_rfl) ?_ (λ hHeld=>?_)
  ·exact hS
  refine tk 0 ?_;refine tk 1 ?_;refine tk 2 ?_;refine tk 3 ?_;refine tk 4 ?_;refine tk 5 ?_;refine tk 6 ?_;refine tk 7 ?_;refine tk 8 ?_;refine tk 9 ?_;refine tk 14 ?_;refine tk 15 ?_;refine tk 16 ?_;refine tk 17 ?_;refine tk 18 ?_;refine tk 19 ?_;refine tk 20 ?_;refine tk 21 ?_;refine tk 22 ?_;refine tk 23 ?_;refine rd 10 (λ K hK=>?_);go_simp;refine aA HE.o ?_;rintro e w1 ⟨k,rfl,j4⟩;have CO:w1.cell? d=some (.pointer x)/\w1.cell? g=i/\w1.cell? (g,1)=j:=⟨S.cell_below hS.1 j4,S.cell_below hS.2.1 j4,S.cell_below hS.2.2 j4⟩;have x8:=kd (FX.o.tr j4);clear j4 HE;refine hK.out _ _ ?_ (λ hHeld=>?_)
  ·exact CO
  clear hK K;refine tk 11 ?_;refine tk 12 ?_;refine rd 13 (λ K hK=>?_);go_simp;refine aA (zdl _ _ _ _) ?_;rintro e w2 ⟨rfl,BL⟩;subst BL;exact⟨rfl,O1 FQ.o rfl x8.o⟩
end Go.Proofs.Y.I
