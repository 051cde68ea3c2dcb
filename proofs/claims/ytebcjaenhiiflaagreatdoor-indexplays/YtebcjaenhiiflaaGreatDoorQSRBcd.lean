import Derived.Deep.RegionHeld
import Derived.Deep.DeepCutAuto
import Derived.Deep.LoopGhost
import Derived.Shelf.SlIterI.Nil
import Derived.Shelf.SortM.Plain
import Derived.Shelf.SortM.SortNone
import Derived.Ground.GgzProg
import Derived.Ground.SlgmProg
import Derived.Maps.RangeWalk
import Derived.Maps.OwnSet
import Derived.Maps.OwnOps
import Derived.Test.YtebcjaenhiiflaaGreatDoorQBMSPQ
set_option maxHeartbeats 4000000
set_option maxRecDepth 100000
namespace Go.Proofs.YtebcjaenhiiflaaGreatDoor.S
open Go.RowKit Go.WideMaps Go.Maps Go.Proofs.Tryz
def Alike (f:Nat) (w:World) (n cw:Nat) (L:List Nat):Prop:=
 ∀W',Below w.heap.size w W'->∀(x y:Nat) (s:Bool),x<n->y<n->(((L.getD x 0:Nat):Int)==((L.getD y 0:Nat):Int))=s->Calls prog f #[.int .i64 (x:Int),.int .i64 (y:Int),.pointer (some ⟨cw,0,none⟩)] W' λ e w'=>e= .returned (.bool s)/\∃n,w'=W'.drewN n
theorem zsu (w:World) (o:Obj) (v:Value) (t:TypeId):∀j u,[v][j]? =some u->((w.alloc o).alloc (.cells #[v] t)).cell? ((⟨w.heap.size+1,0,none⟩:Addr).add j)=some u:=by
 have:=cell_one_new (w.alloc o) v t;rw [World.size_alloc] at this;exact this
theorem zlw {w w1:World} {base g m cap k:Nat} {v':Value} {Gs:List (List Nat)} {r c:Nat->Nat} {o:Obj} {x:Nat} (h:za2 w base (.slice (some ⟨g,0,none⟩) m cap) Gs r c) (hm:m=Gs.length) (hk:k<Gs.length)
 (hown:w1.ownsRow base 3 1 v' ((ints (Gs.getD k [])).length+1) ((ints (Gs.getD k [])).map (Value.int .i64)++[.int .i64 (x:Int)])) (hg:(w.alloc o).grownBy w1 (some (r k))):
 (∃ρ κ,v'= .slice (some ⟨ρ,0,none⟩) ((Gs.getD k []).length+1) κ)/\w1.cell? ⟨g,k,none⟩=some (.slice (some ⟨r k,0,none⟩) (Gs.getD k []).length (c k))/\w1.frozen? ⟨g,k,none⟩=false:=by
 subst hm;have ht1:w1.ownsRow base 48 1 (.slice (some ⟨g,0,none⟩) Gs.length cap) Gs.length (za8 Gs r c):=(h.own.alloc o).kept hg (Or.inr (λ e=>h.ne k hk e));refine ⟨?_,?_,ht1.frozenAt k⟩
 ·rcases hown.2 with ⟨_,h0⟩ | ⟨ρ,κ,cur,hv,_⟩
  ·omega
  ·exact ⟨ρ,κ,by rw [hv,zbc]⟩
 ·rw [ht1.cellAt k (by omega),zpe _ _ _ _ hk]
theorem zir (f n cw:Nat) (L:List Nat) (w:World) (hf:f=73\/f=74\/f=124) (hal:Alike f w n cw L) (hgd:Good n L) (hn:n<=40):
 Calls prog 72 #[.int .i64 (n:Int),.func (.func f) #[] #[.pointer (some ⟨cw,0,none⟩)]] w λ e w'=>∃t r c,e= .returned t/\za2 w' w.heap.size t (zao L n) r c/\Below w.heap.size w w':=by
 rcases hf with rfl | rfl | rfl
 all_goals
  obtain ⟨i0,hi0,hz0,hz1,hz2⟩:=info_parts Tryz.info3;obtain ⟨j0,hj0,hy0,hy1,hy2⟩:=info_parts Tryz.info48;have HAL:=kd hal;have HG:=kd hgd;clear hal hgd;go_enter func72,ntmps72;go_wp2_with fail;go_loopw [5,6,7,8,9,11] (λ s5 _ _ _ _ s11 wq=>∃x:Nat,x<=n/\s11= .int .i64 x/\(∃r c,za2 wq w.heap.size s5 (pgr L x) r c)/\Below w.heap.size w wq) (λ _ _ _ _ _ s11 _=>n-(intOf s11).toNat)
  case atStart=>exact ⟨0,Nat.zero_le _,rfl,⟨λ _=>0,λ _=>0,zlu _ _ _ _⟩,Below.refl _ _⟩
  case round=>
   obtain ⟨x,hx,rfl,⟨r,c,hP⟩,hbx⟩:=hrel;by_cases hlt:x<n
   ·obtain ⟨a,cap,rfl,ha⟩:=hP.shape
    have hml:(pgr L x).length<=40:=by
     have:=List.length_filter_le (λ y=>L.getD y 0==y) (List.range x);rw [List.length_range] at this;rw [zfu];unfold lst;omega
    have HP:=kd hP;have HA:=kd ha;have HM:Hid ((pgr L x).length=(lst L x).length):=zfu L x;have HBX:=kd hbx;generalize hm:(pgr L x).length=m at*;have HML:=kd hm;clear hP ha hbx hm;rename World=>wo
    go_wp2_with fail;go_loopw [7,8,9,16] (λ s7 _ _ s16 wq=>∃i:Nat,i<=m/\s16= .int .i64 i/\s7= .int .i64 (-1)/\(∀j,j<i->(lst L x).getD j 0≠L.getD x 0)/\∃q,wq=wo.drewN q) (λ _ _ _ s16 _=>m-(intOf s16).toNat)
    case atStart=>exact ⟨0,Nat.zero_le _,rfl,rfl,λ j hj=>absurd hj (by omega),0,rfl⟩
    case round=>
     obtain ⟨i,him,rfl,rfl,hno,q,hq⟩:=hrel;have hPq:=zl3 HP.out q;have hBq:=below_drewN HBX.out q;rw [<-hq] at hPq hBq;have HQ:=kd hq;clear hq;have HPQ:=kd hPq;have HBQ:=kd hBq;have HNO:=kd hno;clear hPq hBq hno;by_cases hil:i<m
     ·obtain ⟨g,hag⟩:=HA.out (by omega)
      subst hag;have hil':i<(pgr L x).length:=by rw [HML.out];exact hil
      have hil2:i<(lst L x).length:=by rw [<-zfu];exact hil'
      obtain ⟨hyx,hyy⟩:=z0n hil2;have hGi:=zyh L x i hil2;have hhd:=grp_head' HG.out hx hyx hyy;have hps:=z6o hyx hyy;rw [<-hGi] at hhd hps;have c1:=HPQ.out.zmq HML.out.symm i hil';have c2:=HPQ.out.head i hil' hps;rw [hhd] at c2;have HGi:=kd hGi;have hLl:=HG.out.len;have HYL:=kd hyy;generalize hyd:(lst L x).getD i 0=y at*;have HYD:=kd hyd;clear hGi hhd hyy hyd hLl;generalize hgl:((pgr L x).getD i []).length=gl at*;have HGL:=kd hgl;have hgp:(0:Int)<(gl:Int):=by omega
      clear hgl hps;go_wp2_with fail;by_cases he:y=L.getD x 0
      ·have hv:(((L.getD y 0:Nat):Int)==((L.getD x 0:Nat):Int))=true:=by rw [HYL.out,<-he];simp
       refine (HAL.out _ HBQ.out y x true (by omega) hlt hv).mono ?_;rintro e w' ⟨rfl,q',hq'⟩;have HPV:Hid (za2 w' w.heap.size (.slice (some ⟨g,0,none⟩) m cap) (pgr L x) r c):=by rw [hq'];exact zl3 HPQ.out q'
       have HBV:Hid (Below w.heap.size w w'):=by rw [hq'];exact below_drewN HBQ.out q'
       have c1':w'.cell? ⟨g,i,none⟩=some (.slice (some ⟨r i,0,none⟩) gl (c i)):=by rw [hq'];exact c1
       have hoi:=HPV.out.each i hil';rw [HGL.out] at hoi;have hle:(ints ((pgr L x).getD i [])).length<=40:=by
        rw [zbc,HGi.out,zhn];have:=zi6 (λ i=>L.getD i 0==y) x;omega
       have hws:=HBV.out.size;have HE:=kd he;clear hv hq' c1 c2 he;go_wp2_with (first
        | (at_builtin;refine wpList_append_own_at _ rfl _ _ 48 rfl w.heap.size 3 i0 (.int .i64 0) 1 8 underlying48 hi0 hz0 hz1 hz2 rfl (by decide) (.slice (some ⟨r i,0,none⟩) gl (c i)) _ _ rfl (hoi.1.alloc _) ⟨w'.heap.size,0,none⟩ 1 1 [.int .i64 x] rfl rfl (cell_one_new _ _ _) (ints_oneCell .i64 [(x:Int)]) (by unfold maxLen;omega) (by omega) (by simp;omega) ?_;intro v' w1 hown' hgrow hnil hloc;obtain ⟨⟨ρ,κ,hv'⟩,c3,f3⟩:=zlw HPV.out HML.out.symm hil' hown' hgrow;rw [HGL.out] at hv' c3;rw [hv'])
        | fail)
       have ho2:=hoi.appended hown' (WalkArith.wf_i64 (by omega));have hio:w.heap.size<=r i:=(hoi.1.lt (r i) rfl).1;have hgo:w.heap.size<=g:=(HPV.out.own.lt g rfl).1;rw [hv'] at ho2 hloc;rw [<-HGL.out] at ho2;have hloc':ρ=r i\/ρ=w'.heap.size+1:=by simpa [Value.ownBlock] using hloc
       have ho3:w1.ownsInts w.heap.size 3 .i64 (.slice (some ⟨ρ,0,none⟩) (((pgr L x).getD i []).length+1) κ) (ints ((pgr L x).getD i []++[x])):=by
        rw [zfd];exact ho2
       have hgw:=HPV.out.grow HML.out.symm hil' x _ ho3 hgrow hloc';rw [HGL.out] at hgw;have hpf:=zn5 hil2 (HYD.out.trans HE.out);rw [HYD.out,<-HGi.out] at hpf;rw [<-hpf] at hgw;have hbw:Below w.heap.size w (w1.setCell ⟨g,i,none⟩ (.slice (some ⟨ρ,0,none⟩) (gl+1) κ)):=(HBV.out.grown ((World.grownBy_alloc w' _ _).trans hgrow) hws (λ j hj=>(hoi.1.lt j hj).1)).setCell hgo _;go_roundw;case rel=>exact ⟨x+1,by omega,by go_num,⟨_,_,hgw⟩,hbw⟩
       case measure=>simp [intOf];omega
      ·have hv:(((L.getD y 0:Nat):Int)==((L.getD x 0:Nat):Int))=false:=by rw [HYL.out];exact beq_eq_false_iff_ne.2 (by omega)
       refine (HAL.out _ HBQ.out y x false (by omega) hlt hv).mono ?_;rintro e w' ⟨rfl,q',hq'⟩;have HNE:=kd he;have HQ':=kd hq';clear hv hq' he;go_wp2_with fail;go_roundw;case rel=>exact ⟨i+1,by omega,by go_num,rfl,λ j hj=>if e:j=i then by rw [e,HYD.out];exact HNE.out else HNO.out j (by omega),q+q',by rw [HQ'.out,HQ.out,drewN_drewN]⟩
       case measure=>simp [intOf];omega
     ·have hie:i=m:=by omega
      subst hie;have howt:=HPQ.out.own;rw [HML.out] at howt;have hws:=HBQ.out.size;go_wp2_with (first
       | (at_builtin;refine wpList_append_own_at _ rfl _ _ 51 rfl w.heap.size 48 j0 (.slice none 0 0) 1 24 underlying51 hj0 hy0 hy1 hy2 rfl (by decide) (.slice a i cap) _ _ rfl ((howt.alloc _).alloc _) ⟨wr.heap.size+1,0,none⟩ 1 1 [.slice (some ⟨wr.heap.size,0,none⟩) 1 1] rfl rfl (zsu _ _ _ _) (zcu _ _ _) (by unfold maxLen;omega) (by omega) (by simp;omega) ?_;intro v' w1 hown' hgrow hnil hloc)
       | fail)
      have hown2:w1.ownsRow w.heap.size 48 1 v' ((pgr L x).length+1) (za8 (pgr L x) r c++[.slice (some ⟨wr.heap.size,0,none⟩) 1 1]):=by
       rw [HML.out];exact hown'
      obtain ⟨r',c',hsn⟩:=HPQ.out.snoc hws x _ hown2 hgrow (by omega);rw [<-zri HG.out hlt (by rw [<-HM.out];exact HNO.out)] at hsn;have hbw:Below w.heap.size w w1:=HBQ.out.grown (((World.grownBy_alloc wr _ _).trans (World.grownBy_alloc _ _ _)).trans hgrow) hws (λ j hj=>(HPQ.out.own.lt j hj).1);go_roundw;case rel=>exact ⟨x+1,by omega,by go_num,⟨r',c',hsn⟩,hbw⟩
      case measure=>simp [intOf];omega
   ·have hxe:x=n:=by omega
    subst hxe;have HP:Hid (∃r c,za2 wr w.heap.size u5 (zao L x) r c):=by
     rw [<-z5b HG.out];exact ⟨r,c,hP⟩
    have HBX:=kd hbx;clear hP hbx;go_wp2_with fail;go_ret;obtain ⟨r',c',hP'⟩:=HP.out;exact ⟨_,r',c',rfl,hP',HBX.out⟩
theorem zsh (n cw:Nat) (L:List Nat) (w:World) (hal:Alike 73 w n cw L) (hgd:Good n L) (hn:n<=40):
 Calls prog 72 #[.int .i64 (n:Int),.func (.func 73) #[] #[.pointer (some ⟨cw,0,none⟩)]] w λ e w'=>∃t r c,e= .returned t/\za2 w' w.heap.size t (zao L n) r c/\Below w.heap.size w w':=zir 73 n cw L w (.inl rfl) hal hgd hn
theorem zsk (n cw:Nat) (L:List Nat) (w:World) (hal:Alike 74 w n cw L) (hgd:Good n L) (hn:n<=40):
 Calls prog 72 #[.int .i64 (n:Int),.func (.func 74) #[] #[.pointer (some ⟨cw,0,none⟩)]] w λ e w'=>∃t r c,e= .returned t/\za2 w' w.heap.size t (zao L n) r c/\Below w.heap.size w w':=zir 74 n cw L w (.inr (.inl rfl)) hal hgd hn
theorem zsq (n cw:Nat) (L:List Nat) (w:World) (hal:Alike 124 w n cw L) (hgd:Good n L) (hn:n<=40):
 Calls prog 72 #[.int .i64 (n:Int),.func (.func 124) #[] #[.pointer (some ⟨cw,0,none⟩)]] w λ e w'=>∃t r c,e= .returned t/\za2 w' w.heap.size t (zao L n) r c/\Below w.heap.size w w':=zir 124 n cw L w (.inr (.inr rfl)) hal hgd hn
open Go.Proofs.Tryz
open Go.RowKit
theorem zi8 (r1 r2 gl c1 c2:Nat) (G:Nat->Nat) (w:World) (h1:∀j,j<gl->w.cell? ⟨r1,j,none⟩=some (.int .i64 (G j:Int))) (h2:∀j,j<gl->w.cell? ⟨r2,j,none⟩=some (.int .i64 (G j:Int))) (hgl:gl<=1000000):
 Calls prog 60 #[.slice (some ⟨r1,0,none⟩) gl c1,.slice (some ⟨r2,0,none⟩) gl c2] w λ e w'=>e= .returned (.bool true)/\∃n,w'=w.drewN n:=by
 have H1:=(show Hid _ from h1);have H2:=(show Hid _ from h2);clear h1 h2;go_enter func60,ntmps60;go_wp2_with fail;go_loopw [5] (λ s5 wq=>∃j:Nat,j<=gl/\s5= .int .i64 j/\∃q,wq=w.drewN q) (λ s5 _=>gl-(intOf s5).toNat)
 case atStart=>exact ⟨0,Nat.zero_le _,rfl,0,rfl⟩
 case round=>
  obtain ⟨j,hj,rfl,q,hq⟩:=hrel;have HQ:=kd hq;clear hq;by_cases hlt:j<gl
  ·have c1':wr.cell? ⟨r1,j,none⟩=some (.int .i64 (G j:Int)):=by rw [HQ.out];exact H1.out j hlt
   have c2':wr.cell? ⟨r2,j,none⟩=some (.int .i64 (G j:Int)):=by rw [HQ.out];exact H2.out j hlt
   generalize G j=x at*;go_wp2_with fail;go_quiet (fail);go_wp2_with fail;go_roundw;case rel=>exact ⟨j+1,by omega,by go_num,_,by rw [HQ.out];exact drewN_drewN _ _ _⟩
   case measure=>simp [intOf];omega
  ·go_wp2_with fail
   go_ret;exact ⟨rfl,q,HQ.out⟩
def zcf (w:World) (g:Nat) (Gs:List (List Nat)) (c:Nat):Prop:=
 ∀i,i<c->∃r cap,w.cell? ⟨g,i,none⟩=some (.slice (some ⟨r,0,none⟩) (Gs.getD i []).length cap)/\∀j,j<(Gs.getD i []).length->w.cell? ⟨r,j,none⟩=some (.int .i64 (((Gs.getD i []).getD j 0:Nat):Int))
theorem zk8 (a1 a2:Option Addr) (c cap1 cap2:Nat) (Gs:List (List Nat)) (w:World) (h:0<c->∃g1 g2,a1=some ⟨g1,0,none⟩/\a2=some ⟨g2,0,none⟩/\zcf w g1 Gs c/\zcf w g2 Gs c) (hc:c<=1000000) (hgl:∀i,(Gs.getD i []).length<=1000000):
 Calls prog 61 #[.slice a1 c cap1,.slice a2 c cap2] w λ e w'=>e= .returned (.bool true)/\∃n,w'=w.drewN n:=by
 have HH:=(show Hid _ from h);have HL:=(show Hid _ from hgl);clear h hgl;go_enter func61,ntmps61;go_wp2_with fail;go_loopw [5] (λ s5 wq=>∃j:Nat,j<=c/\s5= .int .i64 j/\∃q,wq=w.drewN q) (λ s5 _=>c-(intOf s5).toNat)
 case atStart=>exact ⟨0,Nat.zero_le _,rfl,0,rfl⟩
 case round=>
  obtain ⟨j,hj,rfl,q,hq⟩:=hrel;have HQ:=kd hq;clear hq;by_cases hlt:j<c
  ·obtain ⟨g1,g2,e1,e2,R1,R2⟩:=HH.out (by omega)
   subst e1 e2;obtain ⟨r1,k1,a1',b1⟩:=R1 j hlt;obtain ⟨r2,k2,a2',b2⟩:=R2 j hlt;have hgl:=HL.out j;have HS:Hid (∀Q,Calls prog 60 #[.slice (some ⟨r1,0,none⟩) (Gs.getD j []).length k1,.slice (some ⟨r2,0,none⟩) (Gs.getD j []).length k2] (wr.drewN Q) λ e w'=>e= .returned (.bool true)/\∃n,w'=(wr.drewN Q).drewN n):=λ Q=>
    zi8 r1 r2 (Gs.getD j []).length k1 k2 (λ i=>(Gs.getD j []).getD i 0) (wr.drewN Q) (by rw [HQ.out];exact b1) (by rw [HQ.out];exact b2) hgl
   have d1:wr.cell? ⟨g1,j,none⟩=some (.slice (some ⟨r1,0,none⟩) (Gs.getD j []).length k1):=by rw [HQ.out];exact a1'
   have d2:wr.cell? ⟨g2,j,none⟩=some (.slice (some ⟨r2,0,none⟩) (Gs.getD j []).length k2):=by rw [HQ.out];exact a2'
   clear R1 R2 b1 b2 HH HL a1' a2';generalize (Gs.getD j []).length=gl at*;go_wp2_with fail;go_quiet ((go_at_call 60;go_must (exact Calls.quiet_of (HS.out _))));go_wp2_with fail;go_roundw;case rel=>exact ⟨j+1,by omega,by go_num,_,by rw [HQ.out];exact drewN_drewN _ _ _⟩
   case measure=>simp [intOf];omega
  ·go_wp2_with fail
   go_ret;exact ⟨rfl,q,HQ.out⟩
end Go.Proofs.YtebcjaenhiiflaaGreatDoor.S
namespace Go.Proofs.YtebcjaenhiiflaaGreatDoor.S
open Go.Proofs.Tryz
open Go.RowKit
theorem zne {w:World} {p b:Nat} {L:List Nat} (h:zab w p b L):zab w.drew p b L:=⟨h.hp,h.hb⟩
theorem zms (x y p b:Nat) (L:List Nat) (ok:Bool) (w:World) (hs:zab w p b L) (hx:x<L.length) (hy:y<L.length) (hlen:L.length<=40) (hok:decide (L.getD x 0≠L.getD y 0)=ok):
 Calls prog 119 #[.pointer (some ⟨p,0,none⟩),.int .i64 (x:Int),.int .i64 (y:Int)] w λ e w'=>e= .returned (.tuple #[.bool ok,.nilIface])/\zab w' p b (joinL L x y)/\But b w w':=by
 rw [<-hok];exact zhc x y p b L w hs hx hy hlen
theorem zts {n X:Nat} (x p b:Nat) (L:List Nat) (w:World) (hs:zab w p b L) (hg:Good n L) (hx:x<n) (hX:L.getD x 0=X):
 Calls prog 247 #[.pointer (some ⟨p,0,none⟩),.int .i64 (x:Int)] w λ e w'=>e= .returned (.tuple #[.int .i64 (X:Int),.nilIface])/\Below w.heap.size w w':=by
 have:=zo4 (x:Int) p b L w hs (by omega) (by rw [hg.len];omega);rw [Int.toNat_natCast,hX] at this;exact this
theorem cell_below {w w':World} {k i:Nat} {v:Value} (h:w.cell? ⟨k,i,none⟩=some v) (hb:Below w.heap.size w w'):w'.cell? ⟨k,i,none⟩=some v:=
 (hb.cell (p:=⟨k,i,none⟩) (lt_of_cell h)).trans h
theorem zcf.below {w w':World} {g c:Nat} {Gs:List (List Nat)} (h:zcf w g Gs c) (hb:Below w.heap.size w w'):zcf w' g Gs c:=by
 intro i hi;obtain ⟨r,cap,h1,h2⟩:=h i hi;exact ⟨r,cap,cell_below h1 hb,λ j hj=>cell_below (h2 j hj) hb⟩
theorem za2.rows {w:World} {base g m cap:Nat} {Gs:List (List Nat)} {r c:Nat->Nat} (h:za2 w base (.slice (some ⟨g,0,none⟩) m cap) Gs r c) (hm:m=Gs.length):zcf w g Gs m:=by
 intro i hi;refine ⟨r i,c i,h.zmq hm i (by omega),λ j hj=>?_⟩;have h1:=(h.each i (by omega)).1;rw [zbc] at h1;rw [h1.cellAt j (by omega)];generalize Gs.getD i []=G at*;simp [ints,hj]
theorem zwz {n:Nat} {L:List Nat} (g:Good n L) (i:Nat):((zao L n).getD i []).length<=n:=by
 rcases Nat.lt_or_ge i (zao L n).length with h | h
 ·obtain ⟨x,_,_,e⟩:=ztk g i h
  rw [e,zhn];exact zi6 _ _
 ·simp [List.getElem?_eq_none h]
end Go.Proofs.YtebcjaenhiiflaaGreatDoor.S
namespace Go.Proofs
open Go.Shelf Go.Proofs.Tryz
def Tryz.keysA_ren:Go.Shelf.Ren:=⟨λ | 7=>134 | 10=>244 | n=>n,λ | 23=>176 | 26=>3 | 3=>180 | 28=>193 | 0=>0 | 27=>192 | 33=>173 | 4=>4 | n=>n,λ | n=>n⟩
theorem Tryz.keysA:Go.Proofs.SlLaysZI.n7 prog Tryz.keysA_ren:={
 mixed:=by kernel_rfl
 f7:=⟨Tryz.f134.name,by decide,func134.trans (congrArg some (by kernel_rfl))⟩
 f10:=⟨Tryz.f244.name,by decide,func244.trans (congrArg some (by kernel_rfl))⟩
 t0:=underlying0
 a0:=isAgg0
 z0:=sizeOf0
 v0:=zeroValue0
 t4:=underlying4
 a4:=isAgg4
 z4:=sizeOf4
 v4:=zeroValue4
 t23:=underlying176
 a23:=isAgg176
 z23:=sizeOf176
 v23:=zeroValue176
 t26:=underlying3
 a26:=isAgg3
 z26:=sizeOf3
 v26:=zeroValue3
 t27:=underlying192
 a27:=isAgg192
 z27:=sizeOf192
 v27:=zeroValue192
 t28:=underlying193
 a28:=isAgg193
 z28:=sizeOf193
 v28:=zeroValue193
 t33:=underlying173
 a33:=isAgg173
 z33:=sizeOf173
 v33:=zeroValue173}
def Tryz.sortedA_ren:Go.Shelf.Ren:=⟨λ | 6=>133 | 8=>242 | 9=>243 | 11=>319 | 13=>110 | 12=>320 | 23=>213 | 24=>214 | 14=>352 | 15=>353 | 16=>354 | 17=>355 | 18=>356 | 19=>357 | 20=>358 | 21=>359 | 22=>360 | 25=>368 | 26=>369 | 27=>370 | 28=>371 | 29=>372 | 30=>307 | 31=>382 | n=>n,λ | 26=>3 | 28=>193 | 24=>48 | 0=>0 | 3=>3 | 37=>103 | 48=>135 | 50=>132 | 4=>4 | 40=>387 | 39=>386 | 45=>76 | 5=>5 | 9=>9 | 51=>404 | 55=>338 | 57=>413 | 58=>373 | 33=>173 | n=>n,λ | n=>n⟩
theorem Tryz.sortedA:Go.Proofs.SlLaysZI.n6 prog Tryz.sortedA_ren:={
 mixed:=by kernel_rfl
 f6:=⟨Tryz.f133.name,by decide,func133.trans (congrArg some (by kernel_rfl))⟩
 f8:=⟨Tryz.f242.name,by decide,func242.trans (congrArg some (by kernel_rfl))⟩
 f11:=⟨Tryz.f319.name,by decide,func319.trans (congrArg some (by kernel_rfl))⟩
 t0:=underlying0
 a0:=isAgg0
 z0:=sizeOf0
 v0:=zeroValue0
 t24:=underlying48
 a24:=isAgg48
 z24:=sizeOf48
 v24:=zeroValue48
 t26:=underlying3
 a26:=isAgg3
 z26:=sizeOf3
 v26:=zeroValue3
 t28:=underlying193
 a28:=isAgg193
 z28:=sizeOf193
 v28:=zeroValue193
 i26:=by kernel_rfl}
def Tryz.sortA_ren:Go.Shelf.Ren:=⟨λ | 5=>243 | 8=>110 | 7=>320 | 19=>213 | 20=>214 | 10=>352 | 11=>353 | 12=>354 | 13=>355 | 14=>356 | 15=>357 | 16=>358 | 17=>359 | 18=>360 | 30=>368 | 31=>369 | 32=>370 | 33=>371 | 34=>372 | 35=>307 | 40=>382 | n=>n,λ | 23=>48 | 25=>3 | 3=>3 | 32=>103 | 22=>48 | 0=>0 | 44=>135 | 46=>132 | 4=>4 | 36=>387 | 35=>386 | 41=>76 | 5=>5 | 9=>9 | 53=>404 | 57=>338 | 63=>413 | 64=>373 | n=>n,λ | n=>n⟩
theorem Tryz.sortA:Go.Proofs.SlLaysM.n5 prog Tryz.sortA_ren:={
 mixed:=by kernel_rfl
 f5:=⟨Tryz.f243.name,by decide,func243.trans (congrArg some (by kernel_rfl))⟩
 f7:=⟨Tryz.f320.name,by decide,func320.trans (congrArg some (by kernel_rfl))⟩
 f8:=func110.trans (congrArg some (by kernel_rfl))
 f10:=⟨Tryz.f352.name,by decide,func352.trans (congrArg some (by kernel_rfl))⟩
 f11:=⟨Tryz.f353.name,by decide,func353.trans (congrArg some (by kernel_rfl))⟩
 f12:=⟨Tryz.f354.name,by decide,func354.trans (congrArg some (by kernel_rfl))⟩
 f13:=⟨Tryz.f355.name,by decide,func355.trans (congrArg some (by kernel_rfl))⟩
 f14:=⟨Tryz.f356.name,by decide,func356.trans (congrArg some (by kernel_rfl))⟩
 f15:=⟨Tryz.f357.name,by decide,func357.trans (congrArg some (by kernel_rfl))⟩
 f16:=⟨Tryz.f358.name,by decide,func358.trans (congrArg some (by kernel_rfl))⟩
 f17:=⟨Tryz.f359.name,by decide,func359.trans (congrArg some (by kernel_rfl))⟩
 f18:=⟨Tryz.f360.name,by decide,func360.trans (congrArg some (by kernel_rfl))⟩
 f19:=func213.trans (congrArg some (by kernel_rfl))
 f20:=func214.trans (congrArg some (by kernel_rfl))
 f30:=⟨Tryz.f368.name,by decide,func368.trans (congrArg some (by kernel_rfl))⟩
 f31:=func369.trans (congrArg some (by kernel_rfl))
 f32:=func370.trans (congrArg some (by kernel_rfl))
 f33:=⟨Tryz.f371.name,by decide,func371.trans (congrArg some (by kernel_rfl))⟩
 f34:=⟨Tryz.f372.name,by decide,func372.trans (congrArg some (by kernel_rfl))⟩
 f35:=⟨Tryz.f307.name,by decide,func307.trans (congrArg some (by kernel_rfl))⟩
 f40:=⟨Tryz.f382.name,by decide,func382.trans (congrArg some (by kernel_rfl))⟩
 t0:=underlying0
 a0:=isAgg0
 z0:=sizeOf0
 v0:=zeroValue0
 t3:=underlying3
 a3:=isAgg3
 z3:=sizeOf3
 v3:=zeroValue3
 t4:=underlying4
 a4:=isAgg4
 z4:=sizeOf4
 v4:=zeroValue4
 t5:=underlying5
 a5:=isAgg5
 z5:=sizeOf5
 v5:=zeroValue5
 t9:=underlying9
 a9:=isAgg9
 z9:=sizeOf9
 v9:=zeroValue9
 t22:=underlying48
 a22:=isAgg48
 z22:=sizeOf48
 v22:=zeroValue48
 t23:=underlying48
 a23:=isAgg48
 z23:=sizeOf48
 v23:=zeroValue48
 t25:=underlying3
 a25:=isAgg3
 z25:=sizeOf3
 v25:=zeroValue3
 t32:=underlying103
 a32:=isAgg103
 z32:=sizeOf103
 v32:=zeroValue103
 t35:=underlying386
 a35:=isAgg386
 z35:=sizeOf386
 v35:=zeroValue386
 t36:=underlying387
 a36:=isAgg387
 z36:=sizeOf387
 v36:=zeroValue387
 t41:=underlying76
 a41:=isAgg76
 z41:=sizeOf76
 v41:=zeroValue76
 t44:=underlying135
 a44:=isAgg135
 z44:=sizeOf135
 v44:=zeroValue135
 t46:=underlying132
 a46:=isAgg132
 z46:=sizeOf132
 v46:=zeroValue132
 t53:=underlying404
 a53:=isAgg404
 z53:=sizeOf404
 v53:=zeroValue404
 t57:=underlying338
 a57:=isAgg338
 z57:=sizeOf338
 v57:=zeroValue338
 t63:=underlying413
 a63:=isAgg413
 z63:=sizeOf413
 v63:=zeroValue413
 t64:=underlying373
 a64:=isAgg373
 z64:=sizeOf373
 v64:=zeroValue373}
end Go.Proofs
namespace Go.Proofs.YtebcjaenhiiflaaGreatDoor.S
open Go.Proofs.Tryz
open Go.RowKit Go.WideMaps Go.Maps
def zvg:List Value->Option (DataW Unit × List MemPlace)
 | [.int .i64 a,.int .i64 b]=>some (.agg [.lit (.int .i64 a),.lit (.int .i64 b)],[])
 | _=>none
def zd1:Value->Option (DataW Unit × List MemPlace)
 | .agg cs=>zvg cs.toList
 | _=>none
def zoy (a b:Int):Value:=.agg #[.int .i64 a,.int .i64 b]
def zdq (a b:Int):DataW Unit:=.agg [.lit (.int .i64 a),.lit (.int .i64 b)]
theorem zj7 (a b:Int):zd1 (zoy a b)=some (zdq a b,[]):=rfl
theorem zzq {l:List Value} {y:DataW Unit × List MemPlace} (h:zvg l=some y):∃a b:Int,l=[.int .i64 a,.int .i64 b]/\y=(zdq a b,[]):=by
 unfold zvg at h;split at h
 ·next a b=>cases h;exact ⟨a,b,rfl,rfl⟩
 ·cases h
theorem zoi {v:Value} {y:DataW Unit × List MemPlace} (h:zd1 v=some y):∃c:Int × Int,v=zoy c.1 c.2/\y=(zdq c.1 c.2,[]):=by
 unfold zd1 at h;split at h
 ·next cs=>
  obtain ⟨a,b,h1,h2⟩:=zzq h;exact ⟨(a,b),by rw [zoy,<-Array.toArray_toList (xs:=cs),h1],h2⟩
 ·cases h
theorem zol {a b c d:Int} (h:zdq a b=zdq c d):a=c/\b=d:=by
 simpa [zdq] using h
structure Dis (D:DataW Unit) (B:List (Int × Int × Int)):Prop where
 key:∀x:Int,Maps.has D (.int .i64 x)=true↔∃e∈B,e.1=x
 val:∀e∈B,∀zd,D.atKey (.int .i64 e.1) zd=zdq e.2.1 e.2.2
theorem zdt (x:Int) (h:(Lit.int .i64 x).wf=true):keyOf prog 3 (.int .i64 x)=some (.int .i64 x):=keyOf_int_mk underlying3 h
theorem zbe (x:Int):WideAt.IsKeyLit (.int .i64 x):=trivial
theorem Dis.put {D:DataW Unit} {B:List (Int × Int × Int)} (h:Dis D B) (hD:IsMap D) (f:Int × Int × Int) (hn:∀e∈B,e.1≠f.1):Dis (D.put (.int .i64 f.1) (zdq f.2.1 f.2.2)) (B++[f]):=by
 refine ⟨λ x=>?_,λ e he zd=>?_⟩
 ·by_cases hx:x=f.1
  ·subst hx
   rw [has_put_same hD (zbe _)];exact ⟨λ _=>⟨f,by simp,rfl⟩,λ _=>rfl⟩
  ·rw [has_put_other (by simpa using hx),h.key]
   constructor
   ·rintro ⟨e,he,k⟩;exact ⟨e,by simp [he],k⟩
   ·rintro ⟨e,he,k⟩
    rcases List.mem_append.1 he with he | he
    ·exact ⟨e,he,k⟩
    ·rw [List.mem_singleton.1 he] at k;exact absurd k.symm hx
 ·rcases List.mem_append.1 he with he | he
  ·rw [atKey_put_other (by simpa using hn e he)];exact h.val e he zd
  ·rw [List.mem_singleton.1 he,atKey_put_same hD (zbe _)]
theorem Dis.del {D:DataW Unit} {B B':List (Int × Int × Int)} (h:Dis D B) (f:Int × Int × Int) (hone:∀e∈B,e.1=f.1->e=f) (hB:∀e,e∈B'↔e∈B/\e≠f):Dis (D.del (.int .i64 f.1)) B':=by
 refine ⟨λ x=>?_,λ e he zd=>?_⟩
 ·by_cases hx:x=f.1
  ·subst hx
   rw [has_del_same];refine ⟨λ k=>by simp at k,?_⟩;rintro ⟨e,he,k⟩;exact absurd (hone e ((hB e).1 he).1 k) ((hB e).1 he).2
  ·rw [has_del_other (by simpa using hx),h.key]
   constructor
   ·rintro ⟨e,he,k⟩;exact ⟨e,(hB e).2 ⟨he,λ c=>hx (by rw [<-k,c])⟩,k⟩
   ·rintro ⟨e,he,k⟩;exact ⟨e,((hB e).1 he).1,k⟩
 ·have h1:=(hB e).1 he
  rw [atKey_del_other (by
   intro c;have:e.1=f.1:=by simpa using c
   exact h1.2 (hone e h1.1 this))]
  exact h.val e h1.1 zd
theorem Dis.empty:Dis (.map []) []:=⟨λ x=>by simp [Maps.has],λ e he=>by simp at he⟩
structure BAt (w:World) (p pw bw pt bt m N:Nat) (W T:List Nat) (D:DataW Unit):Prop where
 hp:w.heap[p]? =some (.cells #[.pointer (some ⟨pw,0,none⟩),.pointer (some ⟨pt,0,none⟩),.map (some m)] 178)
 sw:zab w pw bw W
 st:zab w pt bt T
 hm:w.ownsMap prog 3 zd1 m N D
 pp:pw≠pt
 bb:bw≠bt
namespace BAt
open Go.Proofs.Tryz
variable {w w':World} {p pw bw pt bt m N:Nat} {W T:List Nat} {D:DataW Unit}
theorem c0 (h:BAt w p pw bw pt bt m N W T D):w.cell? ⟨p,0,none⟩=some (.pointer (some ⟨pw,0,none⟩)):=by simp [World.cell?,h.hp]
theorem c1 (h:BAt w p pw bw pt bt m N W T D):w.cell? ⟨p,1,none⟩=some (.pointer (some ⟨pt,0,none⟩)):=by simp [World.cell?,h.hp]
theorem c2 (h:BAt w p pw bw pt bt m N W T D):w.cell? ⟨p,2,none⟩=some (.map (some m)):=by simp [World.cell?,h.hp]
theorem plt (h:BAt w p pw bw pt bt m N W T D):p<w.heap.size:=lt_of_some h.hp
theorem below (h:BAt w p pw bw pt bt m N W T D) (hb:Below w.heap.size w w'):BAt w' p pw bw pt bt m N W T D:=
 ⟨by rw [hb.block p h.plt];exact h.hp,h.sw.below hb h.sw.plt h.sw.blt,h.st.below hb h.st.plt h.st.blt,h.hm.kept (row:=none) ⟨hb.os,hb.tape,hb.output,hb.size,λ k hk _=>hb.block k hk⟩ (by simp),h.pp,h.bb⟩
theorem drewN (h:BAt w p pw bw pt bt m N W T D) (n:Nat):BAt (w.drewN n) p pw bw pt bt m N W T D:=⟨h.hp,zep h.sw n,zep h.st n,h.hm,h.pp,h.bb⟩
theorem drew (h:BAt w p pw bw pt bt m N W T D):BAt w.drew p pw bw pt bt m N W T D:=⟨h.hp,zne h.sw,zne h.st,h.hm,h.pp,h.bb⟩
theorem zgz (h:BAt w p pw bw pt bt m N W T D):∃es c,w.heap[m]? =some (.map es c):=by
 obtain ⟨es,c,hb,_⟩:=h.hm;exact ⟨es,c,hb⟩
theorem z3y (h:BAt w p pw bw pt bt m N W T D):m≠p/\m≠pw/\m≠bw/\m≠pt/\m≠bt:=by
 obtain ⟨es,c,hb⟩:=h.zgz;refine ⟨?_,?_,?_,?_,?_⟩ <;> rintro rfl
 ·rw [h.hp] at hb;simp at hb
 ·rw [h.sw.hp] at hb;simp at hb
 ·rw [h.sw.hb] at hb;simp at hb
 ·rw [h.st.hp] at hb;simp at hb
 ·rw [h.st.hb] at hb;simp at hb
theorem yaas (h:BAt w p pw bw pt bt m N W T D):p≠pw/\p≠bw/\p≠pt/\p≠bt:=by
 refine ⟨?_,?_,?_,?_⟩ <;> rintro rfl
 ·have:=h.hp.symm.trans h.sw.hp;simp at this
 ·have:=h.hp.symm.trans h.sw.hb;simp at this
 ·have:=h.hp.symm.trans h.st.hp;simp at this
 ·have:=h.hp.symm.trans h.st.hb;simp at this
theorem z97 (h:BAt w p pw bw pt bt m N W T D):pw≠bt/\pt≠bw:=by
 refine ⟨?_,?_⟩ <;> rintro rfl
 ·have:=h.sw.hp.symm.trans h.st.hb;simp at this
 ·have:=h.st.hp.symm.trans h.sw.hb;simp at this
theorem yabd {W':List Nat} (h:BAt w p pw bw pt bt m N W T D) (hs:zab w' pw bw W') (k:But bw w w'):BAt w' p pw bw pt bt m N W' T D:=by
 refine ⟨by rw [k.block p h.plt h.yaas.2.1];exact h.hp,hs,⟨?_,?_⟩,h.hm.kept (row:=some bw) ⟨k.os,k.tape,k.output,k.size,λ i hi hn=>k.block i hi (λ e=>hn (by rw [e]))⟩ (by simpa using h.z3y.2.2.1),h.pp,h.bb⟩
 ·rw [k.block pt h.st.plt h.z97.2];exact h.st.hp
 ·rw [k.block bt h.st.blt (Ne.symm h.bb)];exact h.st.hb
theorem yabw {T':List Nat} (h:BAt w p pw bw pt bt m N W T D) (hs:zab w' pt bt T') (k:But bt w w'):BAt w' p pw bw pt bt m N W T' D:=by
 refine ⟨by rw [k.block p h.plt h.yaas.2.2.2];exact h.hp,⟨?_,?_⟩,hs,h.hm.kept (row:=some bt) ⟨k.os,k.tape,k.output,k.size,λ i hi hn=>k.block i hi (λ e=>hn (by rw [e]))⟩ (by simpa using h.z3y.2.2.2.2),h.pp,h.bb⟩
 ·rw [k.block pw h.sw.plt h.z97.1];exact h.sw.hp
 ·rw [k.block bw h.sw.blt h.bb];exact h.sw.hb
theorem mapped {D':DataW Unit} {N':Nat} (h:BAt w p pw bw pt bt m N W T D) (hm:w'.ownsMap prog 3 zd1 m N' D') (k:w.grownBy w' (some m)):BAt w' p pw bw pt bt m N' W T D':=by
 obtain ⟨n1,n2,n3,n4,n5⟩:=h.z3y;have hk:∀i,i<w.heap.size->m≠i->w'.heap[i]? =w.heap[i]? :=λ i hi hn=>k.block i hi (λ e=>hn (by injection e with e;exact e.symm))
 exact ⟨by rw [hk p h.plt n1];exact h.hp,⟨by rw [hk pw h.sw.plt n2];exact h.sw.hp,by rw [hk bw h.sw.blt n3];exact h.sw.hb⟩,⟨by rw [hk pt h.st.plt n4];exact h.st.hp,by rw [hk bt h.st.blt n5];exact h.st.hb⟩,hm,h.pp,h.bb⟩
end BAt
end Go.Proofs.YtebcjaenhiiflaaGreatDoor.S
namespace Go.Proofs.YtebcjaenhiiflaaGreatDoor.S
open Go.Proofs.Tryz
open Go.RowKit Go.WideMaps Go.Maps
theorem zj2 (w:World) (o1 o2:Obj):((w.alloc o1).alloc o2).heap[w.heap.size+1]? =some o2:=by
 have:=heap_alloc_new (w.alloc o1) o2
 rwa [World.size_alloc] at this
theorem z9k {w w1 w2:World} {n:Nat} (h1:zab w1 (w.heap.size+1) w.heap.size (List.range n)) (h2:zab w2 (w1.heap.size+1) w1.heap.size (List.range n)) (b2:Below w1.heap.size w1 w2):
 BAt ((w2.alloc (.map #[] 0)).alloc (.cells #[.pointer (some ⟨w.heap.size+1,0,none⟩),.pointer (some ⟨w1.heap.size+1,0,none⟩),.map (some w2.heap.size)] 178)) (w2.heap.size+1) (w.heap.size+1) w.heap.size (w1.heap.size+1) w1.heap.size w2.heap.size 0 (List.range n) (List.range n) (.map []):=by
 have hb:Below w2.heap.size w2 ((w2.alloc (.map #[] 0)).alloc (.cells #[.pointer (some ⟨w.heap.size+1,0,none⟩),.pointer (some ⟨w1.heap.size+1,0,none⟩),.map (some w2.heap.size)] 178)):=za9 _ _ _;have s1:w1.heap.size<=w2.heap.size:=b2.size;have l1:=h1.plt;have l2:=h2.plt;refine ⟨zj2 _ _ _,?_,?_,?_,by omega,by omega⟩
 ·exact (h1.below b2 h1.plt h1.blt).below hb (by omega) (by omega)
 ·exact h2.below hb (by omega) (by omega)
 ·exact (World.ownsMap_made w2 prog 3 zd1).alloc _
theorem z7q (n:Nat) (w:World) (hn:n<=40):
 Calls prog 113 #[.int .i64 (n:Int)] w λ e w'=>∃p pw bw pt bt m,e= .returned (.tuple #[.pointer (some ⟨p,0,none⟩),.nilIface])/\BAt w' p pw bw pt bt m 0 (List.range n) (List.range n) (.map [])/\Below w.heap.size w w'/\w.heap.size<=p/\w.heap.size<=bw/\w.heap.size<=bt/\w.heap.size<=m:=by
 have hmm:=@run_makeMap prog;go_enter func113,ntmps113;go_wp2_with fail;refine (zfk n w hn).mono ?_;rintro e w1 ⟨rfl,h1,b1⟩;have H1:=kd h1;have B1:=kd b1;clear h1 b1;go_wp2_with fail;refine (zfk n w1 hn).mono ?_;rintro e w2 ⟨rfl,h2,b2⟩;have H2:=kd h2;have B2:=kd b2;clear h2 b2;go_wp2;go_ret2;have hh:=z9k H1.out H2.out B2.out;have hs1:=B1.out.size;have hs2:=B2.out.size;refine ⟨_,_,_,_,_,_,rfl,hh,?_,by omega,by omega,by omega,by omega⟩;exact (B1.out.trans (B2.out.mono hs1)).trans ((za9 _ _ _).mono (by omega))
variable {p pw bw pt bt m N n:Nat} {W T:List Nat} {D:DataW Unit}
theorem zko (x y:Nat) (s:Bool) (w:World) (h:BAt w p pw bw pt bt m N W T D) (hx:x<W.length) (hy:y<W.length) (hv:(((W.getD x 0:Nat):Int)==((W.getD y 0:Nat):Int))=s):
 Calls prog 75 #[.pointer (some ⟨p,0,none⟩),.int .i64 (x:Int),.int .i64 (y:Int)] w λ e w'=>e= .returned (.tuple #[.bool s,.nilIface])/\Below w.heap.size w w':=by
 have hc:=h.c0;go_enter func75,ntmps75;go_wp2_with fail;refine (znb x y pw bw W s w h.sw hx hy hv).mono ?_;rintro e w1 ⟨rfl,b1⟩;have B1:=kd b1;clear b1 h hc hv;go_wp2;go_ret2;exact ⟨rfl,B1.out⟩
theorem z1f (x y:Nat) (s:Bool) (w:World) (h:BAt w p pw bw pt bt m N W T D) (hx:x<T.length) (hy:y<T.length) (hv:(((T.getD x 0:Nat):Int)==((T.getD y 0:Nat):Int))=s):
 Calls prog 76 #[.pointer (some ⟨p,0,none⟩),.int .i64 (x:Int),.int .i64 (y:Int)] w λ e w'=>e= .returned (.tuple #[.bool s,.nilIface])/\Below w.heap.size w w':=by
 have hc:=h.c1;go_enter func76,ntmps76;go_wp2_with fail;refine (znb x y pt bt T s w h.st hx hy hv).mono ?_;rintro e w1 ⟨rfl,b1⟩;have B1:=kd b1;clear b1 h hc hv;go_wp2;go_ret2;exact ⟨rfl,B1.out⟩
theorem zel {X:Nat} (x:Nat) (w:World) (h:BAt w p pw bw pt bt m N W T D) (hg:Good n T) (hx:x<n) (hX:T.getD x 0=X):
 Calls prog 231 #[.pointer (some ⟨p,0,none⟩),.int .i64 (x:Int)] w λ e w'=>e= .returned (.int .i64 (X:Int))/\Below w.heap.size w w':=by
 have hc:=h.c1;go_enter func231,ntmps231;go_wp2_with fail;refine (zts x pt bt T w h.st hg hx hX).mono ?_;rintro e w1 ⟨rfl,b1⟩;have B1:=kd b1;clear b1 h hc hX;go_wp2;go_ret;exact ⟨rfl,B1.out⟩
end Go.Proofs.YtebcjaenhiiflaaGreatDoor.S
namespace Go.Proofs.YtebcjaenhiiflaaGreatDoor.S
open Go.Proofs.Tryz
open Go.RowKit Go.WideMaps Go.Maps
variable {p pw bw pt bt m N n:Nat} {W T:List Nat} {D:DataW Unit}
theorem zmr (w:World) (u v:Value):(w.alloc (.cells #[u,v] 180)).cell? ⟨w.heap.size,0,none⟩=some u/\(w.alloc (.cells #[u,v] 180)).cell? ⟨w.heap.size,1,none⟩=some v:=by
 constructor <;> simp
theorem zdz {w w':World} {u v:Value} (h:Below (w.alloc (.cells #[u,v] 180)).heap.size (w.alloc (.cells #[u,v] 180)) w'):w'.cell? ⟨w.heap.size,0,none⟩=some u/\w'.cell? ⟨w.heap.size,1,none⟩=some v:=by
 have hb:=zmr w u v;constructor
 ·rw [h.cell (p:=⟨w.heap.size,0,none⟩) (by simp)];exact hb.1
 ·rw [h.cell (p:=⟨w.heap.size,1,none⟩) (by simp)];exact hb.2
theorem zeb {w w':World} {o:Obj} (h:Below (w.alloc o).heap.size (w.alloc o) w'):Below w.heap.size w w':=
 ((Below.refl _ w).alloc (Nat.le_refl _) o).trans (h.mono (by simp))
theorem zwd (a b X Y:Nat) (w:World) (h:BAt w p pw bw pt bt m N W T D) (hg:Good n T) (ha:a<n) (hb:b<n) (hX:T.getD a 0=X) (hY:T.getD b 0=Y):
 Calls prog 309 #[.pointer (some ⟨p,0,none⟩),.agg #[.int .i64 (a:Int),.int .i64 (b:Int)],.int .i64 (X:Int)] w λ e w'=>e= .returned (.int .i64 (Y:Int))/\Below w.heap.size w w':=by
 have HW:Hid (∀w',Below w.heap.size w w'->BAt w' p pw bw pt bt m N W T D):=λ w' hb=>h.below hb
 clear h;go_enter func309,ntmps309;go_wp2_with fail;refine (zel a _ (HW.out _ ((Below.refl _ w).alloc (Nat.le_refl _) _)) hg ha hX).mono ?_;rintro e w1 ⟨rfl,b1⟩;have c1:=(zdz b1).2;have B1:Hid (Below w.heap.size w w1):=zeb b1;clear b1;go_wp2_with fail;refine (zel b w1 (HW.out _ B1.out) hg hb hY).mono ?_;rintro e w2 ⟨rfl,b2⟩;have B2:Hid (Below w.heap.size w w2):=B1.out.trans (b2.mono B1.out.size);clear b2;go_wp2;go_ret;exact ⟨rfl,B2.out⟩
theorem zu8 (a b X Y:Nat) (w:World) (h:BAt w p pw bw pt bt m N W T D) (hg:Good n T) (ha:a<n) (hb:b<n) (hX:T.getD a 0=X) (hY:T.getD b 0=Y) (hne:Y≠X):
 Calls prog 309 #[.pointer (some ⟨p,0,none⟩),.agg #[.int .i64 (a:Int),.int .i64 (b:Int)],.int .i64 (Y:Int)] w λ e w'=>e= .returned (.int .i64 (X:Int))/\Below w.heap.size w w':=by
 have HW:Hid (∀w',Below w.heap.size w w'->BAt w' p pw bw pt bt m N W T D):=λ w' hb=>h.below hb
 clear h;go_enter func309,ntmps309;go_wp2_with fail;refine (zel a _ (HW.out _ ((Below.refl _ w).alloc (Nat.le_refl _) _)) hg ha hX).mono ?_;rintro e w1 ⟨rfl,b1⟩;have c1:=(zdz b1).2;have c0:=(zdz b1).1;have B1:Hid (Below w.heap.size w w1):=zeb b1;have hl:w.heap.size<w1.heap.size:=by have:=b1.size;simp at this;omega
 clear b1;go_wp2_with fail;refine (zel b w1 (HW.out _ B1.out) hg hb hY).mono ?_;rintro e w2 ⟨rfl,b2⟩;have c2:w2.cell? ⟨w.heap.size,0,none⟩=some (.int .i64 (a:Int)):=(b2.cell (p:=⟨w.heap.size,0,none⟩) hl).trans c0;have B2:Hid (Below w.heap.size w w2):=B1.out.trans (b2.mono B1.out.size);clear b2 c0 c1;go_wp2_with fail;refine (zel a w2 (HW.out _ B2.out) hg ha hX).mono ?_;rintro e w3 ⟨rfl,b3⟩;have B3:Hid (Below w.heap.size w w3):=B2.out.trans (b3.mono B2.out.size);clear b3;go_wp2;go_ret;exact ⟨rfl,B3.out⟩
theorem zsn (a b X Y fr:Nat) (w:World) (h:BAt w p pw bw pt bt m N W T D) (hg:Good n T) (ha:a<n) (hb:b<n) (hX:T.getD a 0=X) (hY:T.getD b 0=Y) (h1:fr≠X) (h2:fr≠Y):
 Calls prog 309 #[.pointer (some ⟨p,0,none⟩),.agg #[.int .i64 (a:Int),.int .i64 (b:Int)],.int .i64 (fr:Int)] w λ e w'=>e= .returned (.int .i64 (-1))/\Below w.heap.size w w':=by
 have HW:Hid (∀w',Below w.heap.size w w'->BAt w' p pw bw pt bt m N W T D):=λ w' hb=>h.below hb
 clear h;go_enter func309,ntmps309;go_wp2_with fail;refine (zel a _ (HW.out _ ((Below.refl _ w).alloc (Nat.le_refl _) _)) hg ha hX).mono ?_;rintro e w1 ⟨rfl,b1⟩;have c1:=(zdz b1).2;have B1:Hid (Below w.heap.size w w1):=zeb b1;clear b1;go_wp2_with fail;refine (zel b w1 (HW.out _ B1.out) hg hb hY).mono ?_;rintro e w2 ⟨rfl,b2⟩;have B2:Hid (Below w.heap.size w w2):=B1.out.trans (b2.mono B1.out.size);clear b2 c1;go_wp2;go_ret;exact ⟨rfl,B2.out⟩
end Go.Proofs.YtebcjaenhiiflaaGreatDoor.S
namespace Go.Proofs.YtebcjaenhiiflaaGreatDoor.S
open Go.Proofs.Tryz
open Go.RowKit Go.WideMaps Go.Maps
variable {p pw bw pt bt m N n:Nat} {R B:List (Int × Int × Int)} {W T:List Nat} {D:DataW Unit}
theorem zv1 (a b fr:Nat) (w:World) (h:BAt w p pw bw pt bt m N W T D) (hg:Good n T) (ha:a<n) (hb:b<n):
 ∃nx:Int,Calls prog 309 #[.pointer (some ⟨p,0,none⟩),.agg #[.int .i64 (a:Int),.int .i64 (b:Int)],.int .i64 (fr:Int)] w (λ e w'=>e= .returned (.int .i64 nx)/\Below w.heap.size w w')/\
  ((nx= -1/\T.getD a 0≠fr/\T.getD b 0≠fr)\/∃u v,((a=u/\b=v)\/(b=u/\a=v))/\T.getD u 0=fr/\nx=(T.getD v 0:Nat)):=by
 by_cases h1:T.getD a 0=fr
 ·exact ⟨_,zwd a b fr _ w h hg ha hb h1 rfl,.inr ⟨a,b,.inl ⟨rfl,rfl⟩,h1,rfl⟩⟩
 ·by_cases h2:T.getD b 0=fr
  ·exact ⟨_,zu8 a b _ fr w h hg ha hb rfl h2 (λ e=>h1 e.symm),.inr ⟨b,a,.inr ⟨rfl,rfl⟩,h2,rfl⟩⟩
  ·exact ⟨_,zsn a b _ _ fr w h hg ha hb rfl rfl (λ e=>h1 e.symm) (λ e=>h2 e.symm),.inl ⟨rfl,h1,h2⟩⟩
def zm9 (R:List (Int × Int × Int)) (T:List Nat) (fr tg:Nat) (back:Int) (e:Int × Int × Int):Prop:=
 ∀u v,Ends e u v->T.getD u 0=fr->((T.getD v 0:Nat):Int)≠back->¬cn ea eb (but (·∈R) e) (T.getD v 0) tg
theorem zp6 (s:St n R W T B) {e:Int × Int × Int} (he:e∈B) {u v u' v':Nat} (h:Ends e u v) (h':Ends e u' v') (hu:T.getD u 0=T.getD u' 0):u=u'/\v=v':=by
 have hbr:=(s.hB e).1 he;have hlt:=s.inn e hbr.1;have hnt:T.getD (ea e) 0≠T.getD (eb e) 0:=λ k=>zij hbr ((s.tw hlt.1 hlt.2).2 k)
 rcases h with ⟨rfl,rfl⟩ | ⟨rfl,rfl⟩ <;> rcases h' with ⟨rfl,rfl⟩ | ⟨rfl,rfl⟩
 ·exact ⟨rfl,rfl⟩
 ·exact absurd hu hnt
 ·exact absurd hu.symm hnt
 ·exact ⟨rfl,rfl⟩
theorem zw8 (s:St n R W T B) (hd:Dis D B) {x c1 c2:Int} {y:DataW Unit × List MemPlace} (hy:y=(zdq c1 c2,[])) (hat:∀zd,D.atKey (.int .i64 x) zd=y.1):∃e∈B,e.1=x/\c1=(ea e:Nat)/\c2=(eb e:Nat):=by
 obtain ⟨e,he,hx⟩:=(hd.key x).1 (has_true_of_atKey hat);refine ⟨e,he,hx,?_⟩;have h1:=hd.val e he .nil;rw [hx,hat,hy] at h1;obtain ⟨h2,h3⟩:=zol h1;have hn:=s.nat e ((s.hB e).1 he).1;exact ⟨h2.trans hn.1,h3.trans hn.2⟩
theorem struck {left:Lit->Bool} {x z:Int} (h:(left (.int .i64 z)&&!(Lit.int .i64 z).sameKey (.int .i64 x))=false) (hne:z≠x):left (.int .i64 z)=false:=by
 rw [sameKey_ne (by simpa using hne)] at h
 simpa using h
def zvd (ds:List (Int × Int × Int)):List Value:=ds.map λ e=>.int .i64 e.1
def zmv (R:List (Int × Int × Int)) (fr tg:Nat) (Z:Int × Int × Int->Prop) (k:Nat) (w:World) (e:Ending) (w':World):Prop:=
 Below w.heap.size w w'/\((cn ea eb Z fr tg/\∃v ds,e= .returned (.tuple #[v,.bool true])/\Way R fr tg ds/\ds.length<=k/\w'.ownsRow w.heap.size 3 1 v ds.length (zvd ds))\/(¬cn ea eb Z fr tg/\e= .returned (.tuple #[.slice none 0 0,.bool false])))
theorem zai {w w':World} (h:Below w.heap.size w w'):w.grownBy w' none:=⟨h.os,h.tape,h.output,h.size,λ k hk _=>h.block k hk⟩
theorem zl4 {w w1 w2:World} {r:Nat} (h:Below w.heap.size w w1) (hr:w.heap.size<=r) (hg:w1.grownBy w2 (some r)):Below w.heap.size w w2:=
 h.grown hg h.size (λ j hj=>by cases hj;exact hr)
theorem z05 (k:Nat)
 (IH:∀k'<k,∀(fr tg:Nat) (back:Int) (Z:Int × Int × Int->Prop) (L:List (Int × Int × Int)) (w:World),BAt w p pw bw pt bt m N W T D->Hop R T fr back Z->Met R fr Z L->L.length<=k'->fr<n->T.getD fr 0=fr->tg<n->T.getD tg 0=tg->
   Calls prog 230 #[.pointer (some ⟨p,0,none⟩),.int .i64 (fr:Int),.int .i64 (tg:Int),.int .i64 back] w (zmv R fr tg Z k' w))
 (s:St n R W T B) (hd:Dis D B) (hk:k<=1000) (fr tg:Nat) (back:Int) (Z:Int × Int × Int->Prop) (L:List (Int × Int × Int)) (w:World) (h:BAt w p pw bw pt bt m N W T D) (hop:Hop R T fr back Z) (hmet:Met R fr Z L) (hL:L.length<=k) (hfr:fr<n) (hrep:T.getD fr 0=fr) (hto:tg<n) (hrept:T.getD tg 0=tg):
 Calls prog 230 #[.pointer (some ⟨p,0,none⟩),.int .i64 (fr:Int),.int .i64 (tg:Int),.int .i64 back] w (zmv R fr tg Z k w):=by
 have hc:=h.c2;have hown:=h.hm;have HW:Hid (∀w',Below w.heap.size w w'->BAt w' p pw bw pt bt m N W T D):=λ w' hb=>h.below hb
 have HS:=kd s;have HD:=kd hd;have HOP:=kd hop;have HMET:=kd hmet;clear h s hd hop hmet;by_cases hft:fr=tg
 ·subst hft
  go_enter func230,ntmps230;go_wp2;go_ret2;exact ⟨Below.refl _ _,.inl ⟨zaw _,_,[],rfl,z81 _,Nat.zero_le _,World.ownsRow_nil _ _ _ _⟩⟩
 ·have HFT:=kd hft
  obtain ⟨i0,hi0,hz0,hz1,hz2⟩:=info_parts Tryz.info3;have hbq:((fr:Int)==(tg:Int))=false:=beq_eq_false_iff_ne.2 (by omega);go_enter func230,ntmps230;go_wp2_with (first
   | (at_range;refine wpList_range_own _ rfl _ 176 rfl 3 180 za6 underlying176 zd1 m N D rfl hown ?_;intro w0 hrg0 hg0 hs0)
   | fail)
  go_frame
  have HR0:=kd hrg0;have HG0:Hid (Below w.heap.size w w0):=⟨hg0.os,hg0.tape,hg0.output,hg0.size,λ k hk=>hg0.block k hk (by simp)⟩;clear hrg0 hg0 hs0 hown hc;go_loopw [10] (λ _ wr=>∃(left:Lit->Bool) (cnt:Nat),wr.ranges prog 3 zd1 m w.heap.size N D left cnt/\(∀e∈B,left (.int .i64 e.1)=false->zm9 R T fr tg back e)/\Below w.heap.size w wr) (λ _ wr=>wr.rangeLeft m w.heap.size)
  case atStart=>
   refine ⟨_,_,HR0.out,λ e he hl=>?_,HG0.out⟩;rw [(HD.out.key e.1).2 ⟨e,he,rfl⟩] at hl;cases hl
  case round=>
   obtain ⟨left,cnt,hrg,hno,hbl⟩:=hrel;have HRG:=kd hrg;have HNO:=kd hno;have HBL:=kd hbl;clear hrg hno hbl HR0 HG0;go_wp2_with (first
    | (at_next;refine wpList_next_ranges _ rfl _ rfl 3 za6 zd1 (Value.int .i64) (λ c:Int × Int=>.agg #[.int .i64 c.1,.int .i64 c.2]) (λ key kl hkey=>by obtain ⟨x,rfl,_⟩:=Maps.keyOf_int_inv underlying3 hkey;exact ⟨x,rfl⟩) (λ v y hv=>by obtain ⟨c,rfl,_⟩:=zoi hv;exact ⟨c,rfl⟩) m w.heap.size N D left cnt rfl HRG.out ?_ ?_)
    | fail)
   ·intro _ hl0
    have HL0:=kd hl0;clear hl0;go_wp2;go_ret2;exact ⟨HBL.out,.inr ⟨z3r HS.out HOP.out hfr hrep hto hrept HFT.out (λ e he=>HNO.out e he (HL0.out _)),rfl⟩⟩
   ·intro x c1 c2 kl y1 y2 w1 cnt1 hkey hlk hRv hat hrg1 hlt hg1 hs1 hen
    obtain ⟨x',hxe,rfl,_⟩:=Maps.keyOf_int_inv underlying3 hkey;obtain rfl:x=x':=by injection hxe
    have hyy:(y1,y2)=(zdq c1 c2,[]):=by
     have:=hRv.symm.trans (zj7 c1 c2);injection this
    obtain ⟨e,he,hex,rfl,rfl⟩:=zw8 HS.out HD.out hyy hat;have hlte:=HS.out.inn e ((HS.out.hB e).1 he).1;have HE:=kd (And.intro he hex);have HB1:Hid (Below w.heap.size w w1):=zl4 HBL.out (Nat.le_refl _) hg1;have HR1:=kd (And.intro hrg1 hlt);clear hkey hlk hRv hat hrg1 hlt hg1 hs1 hxe hyy he hex;obtain ⟨W1,hW1⟩:∃W1,W1=w1.alloc (.cells #[.int .i64 (ea e:Int),.int .i64 (eb e:Int)] 180):=⟨_,rfl⟩;have hbW:Below w1.heap.size w1 W1:=by rw [hW1];exact (Below.refl _ _).alloc (Nat.le_refl _) _
    have HB2:Hid (Below w.heap.size w W1):=HB1.out.trans (hbW.mono HB1.out.size);have HR2:Hid (∀w',Below W1.heap.size W1 w'->w'.ranges prog 3 zd1 m w.heap.size N D (λ z=>left z&&!z.sameKey (.int .i64 x)) cnt1):=λ w' hb=>
     (HR1.out.1.kept (zai hbW) (by simp) (by simp)).kept (zai hb) (by simp) (by simp)
    have HW1:=kd hW1.symm;have p0:W1.cell? ⟨w1.heap.size,0,none⟩=some (.int .i64 (ea e:Int)):=by rw [hW1];exact (zmr w1 _ _).1
    have p1:W1.cell? ⟨w1.heap.size,1,none⟩=some (.int .i64 (eb e:Int)):=by rw [hW1];exact (zmr w1 _ _).2
    clear hbW hW1;obtain ⟨nx,hacr,hnx⟩:=zv1 (ea e) (eb e) fr W1 (HW.out _ HB2.out) HS.out.gt hlte.1 hlte.2;have HNX:=kd hnx;have HAC:Hid _:=hacr;clear hacr hnx hlte;go_wp2_with fail;rw [HW1.out];refine Calls.mono HAC.out ?_;rintro e' w2 ⟨rfl,b2⟩;have HB3:Hid (Below w.heap.size w w2):=HB2.out.trans (b2.mono HB2.out.size);have HR3:Hid (w2.ranges prog 3 zd1 m w.heap.size N D (λ z=>left z&&!z.sameKey (.int .i64 x)) cnt1):=HR2.out w2 b2;clear b2 p0 p1 HR2 hen HAC;have HNN:Hid (zm9 R T fr tg back e->∀d∈B,(left (.int .i64 d.1)&&!(Lit.int .i64 d.1).sameKey (.int .i64 x))=false->zm9 R T fr tg back d):=λ hn d hd hl=>by
     by_cases hdx:d.1=x
     ·have:d=e:=HS.out.one d ((HS.out.hB d).1 hd).1 e ((HS.out.hB e).1 HE.out.1).1 (hdx.trans HE.out.2.symm)
      rw [this];exact hn
     ·exact HNO.out d hd (struck hl hdx)
    by_cases hm1:nx= -1
    ·as_aux_lemma=>
     subst hm1;have HNP:Hid (zm9 R T fr tg back e):=by
      rcases HNX.out with ⟨_,h1,h2⟩ | ⟨u,v,_,_,h3⟩
      ·rintro u v (⟨rfl,rfl⟩ | ⟨rfl,rfl⟩) hu
       ·exact absurd hu h1
       ·exact absurd hu h2
      ·exfalso;omega
     go_wp2_with fail;go_roundw;case rel=>exact ⟨_,cnt1,HR3.out,HNN.out HNP.out,HB3.out⟩
     case measure=>rw [HR3.out.left_eq,HRG.out.left_eq];exact HR1.out.2
    ·obtain ⟨u,v,huv,hu,rfl⟩:∃u v,Ends e u v/\T.getD u 0=fr/\nx=(T.getD v 0:Nat):=by
      rcases HNX.out with ⟨h0,_⟩ | h
      ·exact absurd h0 hm1
      ·exact h
     have HUV:=kd (And.intro huv hu);have HVL:Hid (v<n):=(huv.lt HS.out ((HS.out.hB e).1 HE.out.1).1).2;clear HNX huv hu;by_cases hbk:((T.getD v 0:Nat):Int)=back
     ·as_aux_lemma=>
      have HNP:Hid (zm9 R T fr tg back e):=by
       intro u' v' h' hu' hv';have:=zp6 HS.out HE.out.1 h' HUV.out.1 (hu'.trans HUV.out.2.symm);exact absurd (by rw [this.2];exact hbk) hv'
      generalize T.getD v 0=X at*;have hq1:((X:Int)== -1)=false:=beq_eq_false_iff_ne.2 hm1;have hq2:((X:Int)==back)=true:=beq_iff_eq.2 hbk;clear hbk;go_wp2_with fail;go_roundw;case rel=>exact ⟨_,cnt1,HR3.out,HNN.out HNP.out,HB3.out⟩
      case measure=>rw [HR3.out.left_eq,HRG.out.left_eq];exact HR1.out.2
     ·obtain ⟨n1,n2,n3,n4⟩:=z3d (tg:=tg) HS.out HOP.out HMET.out hfr hrep ((HS.out.hB e).1 HE.out.1) HUV.out.1 HUV.out.2 hbk
      have hlf:(L.filter λ d=>decide (d≠e)).length<L.length:=List.length_filter_lt_length_iff_exists.2 ⟨e,n2,by simp⟩;have hIH:=IH _ (Nat.lt_of_lt_of_le hlf hL) (T.getD v 0) tg fr _ _ w2 (HW.out _ HB3.out) n1 n3 (Nat.le_refl _) (HS.out.lab HVL.out) (HS.out.gt.idem v HVL.out) hto hrept;have HIH:Hid _:=hIH;have HN4:=kd n4;have HLF:Hid ((L.filter λ d=>decide (d≠e)).length<k):=Nat.lt_of_lt_of_le hlf hL;clear hIH n1 n2 n3 n4 hlf;generalize hX:T.getD v 0=X at*;have HX:=kd hX;clear hX;have hq1:((X:Int)== -1)=false:=beq_eq_false_iff_ne.2 hm1;have hq2:((X:Int)==back)=false:=beq_eq_false_iff_ne.2 hbk;go_wp2_with fail;refine Calls.mono HIH.out ?_;rintro e' w3 ⟨b3,hpost⟩;have HB4:Hid (Below w.heap.size w w3):=HB3.out.trans (b3.mono HB3.out.size);have HR4:Hid (w3.ranges prog 3 zd1 m w.heap.size N D (λ z=>left z&&!z.sameKey (.int .i64 x)) cnt1):=HR3.out.kept (zai b3) (by simp) (by simp);have hw23:w.heap.size<=w2.heap.size:=HB3.out.size;clear b3 HIH;rcases hpost with ⟨hcn,v',ds,rfl,hway,hlen,hrow⟩ | ⟨hncn,rfl⟩
      ·as_aux_lemma=>
       have hrow':=ownsRow_base_a hrow hw23;have hsz:=HB4.out.size;have hdl:ds.length<1000:=by have:=HLF.out;omega
       have HCN:Hid (cn ea eb Z fr tg):=HN4.out hcn;have HWY:Hid (Way R fr tg (ds++[e])/\ds.length+1<=k):=⟨z3n HS.out hfr hrep ((HS.out.hB e).1 HE.out.1) HUV.out.1 HUV.out.2 (by rw [HX.out];exact hcn) (by rw [HX.out];exact hway),by have:=HLF.out;omega⟩;have HLT:=hrow'.lt;clear hcn hway hlen hrow HN4 HLF;go_wp2_with (first
        | (at_builtin;refine wpList_append_own_at _ rfl _ _ 48 rfl w.heap.size 3 i0 (.int .i64 0) 1 8 underlying48 hi0 hz0 hz1 hz2 rfl (by decide) v' _ _ rfl (hrow'.alloc _) ⟨w3.heap.size,0,none⟩ 1 1 [.int .i64 x] rfl rfl (cell_one_new _ _ _) (ints_oneCell .i64 [x]) (by unfold maxLen;omega) (by omega) (by simp;omega) ?_;intro v'' w4 hown' hgrow hnil hloc)
        | fail)
       go_ret2;refine ⟨HB4.out.grown ((World.grownBy_alloc w3 _ _).trans hgrow) hsz (λ j hj=>(HLT j hj).1),.inl ⟨HCN.out,v'',ds++[e],rfl,HWY.out.1,by simpa using HWY.out.2,?_⟩⟩;have hex:=HE.out.2;subst hex
       simpa [zvd] using hown'
      ·as_aux_lemma=>
       have HNP:Hid (zm9 R T fr tg back e):=by
        intro u' v' h' hu' _;have:=zp6 HS.out HE.out.1 h' HUV.out.1 (hu'.trans HUV.out.2.symm);rw [this.2,HX.out];exact hncn
       clear hncn;go_wp2_with fail;go_roundw;case rel=>exact ⟨_,cnt1,HR4.out,HNN.out HNP.out,HB4.out⟩
       case measure=>rw [HR4.out.left_eq,HRG.out.left_eq];exact HR1.out.2
theorem z7r (k:Nat) (s:St n R W T B) (hd:Dis D B) (hk:k<=1000):∀(fr tg:Nat) (back:Int) (Z:Int × Int × Int->Prop) (L:List (Int × Int × Int)) (w:World),BAt w p pw bw pt bt m N W T D->Hop R T fr back Z->Met R fr Z L->L.length<=k->fr<n->T.getD fr 0=fr->tg<n->T.getD tg 0=tg->
 Calls prog 230 #[.pointer (some ⟨p,0,none⟩),.int .i64 (fr:Int),.int .i64 (tg:Int),.int .i64 back] w (zmv R fr tg Z k w):=by
 induction k using Nat.strongRecOn with
 | _ k ih=>
   intro fr tg back Z L w h1 h2 h3 h4 h5 h6 h7 h8;exact z05 k (λ k' hk' fr tg back Z L w a b c d e f g i=>ih k' hk' (by omega) fr tg back Z L w a b c d e f g i) s hd hk fr tg back Z L w h1 h2 h3 h4 h5 h6 h7 h8
end Go.Proofs.YtebcjaenhiiflaaGreatDoor.S
