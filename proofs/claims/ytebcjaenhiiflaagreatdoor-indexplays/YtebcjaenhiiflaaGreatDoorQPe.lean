import Derived.Test.YtebcjaenhiiflaaGreatDoorQPbPd
set_option maxHeartbeats 8000000
set_option maxRecDepth 100000
namespace Go.Proofs.YtebcjaenhiiflaaGreatDoor.I
open Go.RowKit Go.WideMaps Go.Maps Go.Lib Go.Proofs.Tryz
structure zpr (w:World) (bl off m:Nat) (ps:Nat->Int × Int × Int × Bool):Prop where
 i:∀k,k<m->w.cell? ⟨bl,off+k*4,none⟩=some (.int .i64 (ps k).1)
 a:∀k,k<m->w.cell? ⟨bl,off+k*4+1,none⟩=some (.int .i64 (ps k).2.1)
 b:∀k,k<m->w.cell? ⟨bl,off+k*4+2,none⟩=some (.int .i64 (ps k).2.2.1)
 g:∀k,k<m->w.cell? ⟨bl,off+k*4+3,none⟩=some (.bool (ps k).2.2.2)
theorem z2m {w w1:World} {x p q n:Nat} {v:Value} {B:List G.E} {W T:List Nat} {D:DataW Unit} {pw bw pt bt mp N:Nat} (hat:IAt w w1 x p q n v [] [] B W T D pw bw pt bt mp N):
 Pl w (w1.alloc (.cells #[.int .i64 (n:Int),.slice none 0 0] 40)) x n [] [] w1.heap.size:=by
 have hb:Below w1.heap.size w1 (w1.alloc (.cells #[.int .i64 (n:Int),.slice none 0 0] 40)):=(Below.refl _ _).alloc (Nat.le_refl _) _;exact ⟨p,q,v,[],B,W,T,D,pw,bw,pt,bt,mp,N,.slice none 0 0,[],hat.below' hb,⟨World.alloc_heap_new w1 _,World.ownsRow_nil _ _ _ _,by simp [Value.ownBlock]⟩,List.Perm.refl _,λ k hk e=>by simp [Value.ownBlock] at e,hat.rn.below.size⟩
structure Pst (w0 w:World) (x n:Nat) (L Ld:List G.E) (qd xb:Nat) (cs:Array Value):Prop where
 pl:Pl w0 w x n L Ld qd
 hx:w.heap[xb]? =some (.cells cs 42)
theorem Pst.cells {w0 w:World} {x n qd xb:Nat} {L Ld:List G.E} {x0 x1 x2:Int} {g:Bool} (h:Pst w0 w x n L Ld qd xb #[.int .i64 x0,.int .i64 x1,.int .i64 x2,.bool g]):
 w.cell? ⟨xb,0,none⟩=some (.int .i64 x0)/\w.cell? ⟨xb,1,none⟩=some (.int .i64 x1)/\w.cell? ⟨xb,2,none⟩=some (.int .i64 x2):=by
 refine ⟨?_,?_,?_⟩ <;> simp [World.cell?,h.hx]
theorem Pst.below' {w0 w w':World} {x n qd xb:Nat} {L Ld:List G.E} {cs:Array Value} (h:Pst w0 w x n L Ld qd xb cs) (hb:Below w.heap.size w w'):Pst w0 w' x n L Ld qd xb cs:=
 ⟨h.pl.below' hb,(hb.block xb (G.lt_of_some h.hx)).trans h.hx⟩
theorem KT.step {w w':World} {xb:Nat} {cs:Array Value} (k:KT w w') (h:w.heap[xb]? =some (.cells cs 42)):w'.heap[xb]? =some (.cells cs 42):=
 k xb 42 cs (by decide) (by decide) (by decide) (by decide) (by decide) h
theorem Pl.gl {w0 w:World} {x n qd:Nat} {L Ld:List G.E} (h:Pl w0 w x n L Ld qd) (hg:G.Gl w0):G.Gl w:=hg.below h.base
theorem Pl.kn {w0 w:World} {x n qd:Nat} {L:List G.E} (h:Pl w0 w x n L L qd) (hg:G.Gl w0):Kn w w x n L qd:=⟨h.iv,h.dv,h.gl hg,Below.refl _ _⟩
theorem Pl.st {w0 w:World} {x n qd:Nat} {L Ld:List G.E} (h:Pl w0 w x n L Ld qd):∃W T B,S.St n L W T B:=by
 obtain ⟨a,b,h⟩:=h.iv;exact h.st
theorem zwp {n:Nat} {L:List G.E} (h:Ok n L):(⟨(svI n L).toArray⟩:ByteArray).size<=100000:=by
 have h1:=zl8 h L.length;rw [List.take_length] at h1;show (svI n L).toArray.size<=100000;rw [List.size_toArray];have:=h.len;omega
theorem zxn {t ok:Bool} (h:t=true↔ok=true):t=ok:=by
 cases t <;> cases ok <;> simp at h ⊢
structure zpb (w0 w:World) (x n:Nat) (L:List G.E) (qd:Nat) (aw at_:Option Addr) (W T:List Nat):Prop where
 pl:Pl w0 w x n L L qd
 rw_:S.Rd w aw (S.zao W n) (S.zao W n).length
 rt_:S.Rd w at_ (S.zao T n) (S.zao T n).length
theorem zpb.below' {w0 w w':World} {x n qd:Nat} {L:List G.E} {aw at_:Option Addr} {W T:List Nat} (h:zpb w0 w x n L qd aw at_ W T) (hb:Below w.heap.size w w'):zpb w0 w' x n L qd aw at_ W T:=
 ⟨h.pl.below' hb,h.rw_.below hb,h.rt_.below hb⟩
theorem z3t (n:Nat) (ld:Int) (a:Option Addr) (bl off m cap:Nat) (ps:Nat->Int × Int × Int × Bool) (w:World) (hm:m<=30) (hn:n<=12) (hv:Vars w) (hgl:G.Gl w)
 (ha:0<m->a=some ⟨bl,off,none⟩) (hps:zpr w bl off m ps) (hbl:0<m->bl<w.heap.size):
 Calls prog 4 #[.int .i64 (n:Int),.slice a m cap,.int .i64 ld] w λ e w'=>e= .returned (.bool true)/\Below w.heap.size w w':=by
 have g1:¬((30:Int)<(m:Int)):=by omega
 have g2:¬((12:Int)<(n:Int)):=by omega
 have g3:¬((n:Int)<0):=by omega
 have HAA:=kd ha;have HBL:=kd hbl;have HP:=kd hps;have HV:=kd hv;have HGL:=kd hgl;clear ha hbl hps hv hgl;go_enter func4,ntmps4;go_wp2_with fail;refine (ztc n w (by omega)).mono ?_;rintro e w1 ⟨x,p,q,v,B,W,T,D,pw,bw,pt,bt,mp,N,rfl,hat⟩;have HR0:Hid (Pl w (w1.alloc (.cells #[.int .i64 (n:Int),.slice none 0 0] 40)) x n [] [] w1.heap.size):=z2m hat;clear hat;obtain ⟨qd,hqd⟩:∃qd,w1.heap.size=qd:=⟨_,rfl⟩;have HQ:=kd hqd;rw [hqd] at HR0;clear hqd;go_wp2_with fail;simp only [HQ.out];go_loopw [7,8,10] (λ s7 s8 s10 wq=>∃(i y:Nat) (L:List G.E),i<=m/\s10= .int .i64 i/\s7= .pointer (some ⟨y,0,none⟩)/\s8= .nilIface/\Pl w wq y n L L qd) (λ _ _ s10 _=>m-(intOf s10).toNat)
 case atStart=>exact ⟨0,x,[],Nat.zero_le _,rfl,rfl,rfl,HR0.out⟩
 case round=>
  clear HR0 HQ;obtain ⟨i,y,L,hi,rfl,rfl,rfl,hpl⟩:=hrel;have HR:Hid (Pl w wr y n L L qd):=hpl;clear hpl;by_cases hlt:i<m
  ·as_aux_lemma=>
   have haa:=HAA.out (by omega);have hbl:=HBL.out (by omega);subst haa;have hblr:∀o,wr.cell? ⟨bl,o,none⟩=w.cell? ⟨bl,o,none⟩:=λ o=>HR.out.base.cell (p:=⟨bl,o,none⟩) hbl
   have c0:=(hblr _).trans (HP.out.i i hlt);have c1:=(hblr _).trans (HP.out.a i hlt);have c2:=(hblr _).trans (HP.out.b i hlt);have c3:=(hblr _).trans (HP.out.g i hlt);generalize (ps i).1=x0 at*;generalize (ps i).2.1=x1 at*;generalize (ps i).2.2.1=x2 at*;generalize (ps i).2.2.2=gn at*;clear hblr hbl;obtain ⟨W1,hW1⟩:∃W1,W1=wr.alloc (.cells #[.int .i64 x0,.int .i64 x1,.int .i64 x2,.bool gn] 42):=⟨_,rfl⟩;obtain ⟨xb,hxb⟩:∃xb,xb=wr.heap.size:=⟨_,rfl⟩;have HR1:Hid (Pst w W1 y n L L qd xb #[.int .i64 x0,.int .i64 x1,.int .i64 x2,.bool gn]):=by
    refine ⟨HR.out.below' ?_,?_⟩
    ·rw [hW1];exact (Below.refl _ _).alloc (Nat.le_refl _) _
    ·rw [hW1,hxb];exact World.alloc_heap_new wr _
   have c3':W1.cell? ⟨xb,3,none⟩=some (.bool gn):=by simp [World.cell?,HR1.out.hx]
   have HW1:=kd hW1.symm;have HXB:=kd hxb.symm;clear hW1 hxb HR;go_upto_region 13 with fail
   rw [HW1.out,HXB.out];clear c0 c1 c2 c3
   go_upto_if 66 with fail
   go_cut [11] (λ _ wx=>∃M,Pl w wx y n M M qd)
   case first=>
    obtain ⟨d0,d1,d2⟩:=HR1.out.cells;cases gn with
    | true=>
      as_aux_lemma=>
      have HR1d:Hid (Pst w W1.drew y n L L qd xb #[.int .i64 x0,.int .i64 x1,.int .i64 x2,.bool true]):=HR1.out.below' ⟨rfl,rfl,rfl,Nat.le_refl _,λ _ _=>rfl⟩;go_wp2_with fail;go_region_held (λ w'=>w'.cell? ⟨xb,0,none⟩=some (.int .i64 x0)) (go_keep)
       (first
         | (go_at_call 18;refine (HR1d.out.pl.yabn x0).mono ?_;rintro e w2 ⟨rfl,hp2,hk2⟩;have HR2:Hid (Pst w w2 y n (zc1 L x0) L qd xb #[.int .i64 x0,.int .i64 x1,.int .i64 x2,.bool true]):=⟨hp2,hk2.step HR1d.out.hx⟩;have k2:=HR2.out.cells.1;clear hp2 hk2)
         | (go_at_call 19;refine (HR2.out.pl.yabi HR1d.out.pl.ok x0).mono ?_;rintro e w3 ⟨rfl,hp3,hk3⟩;have HR3:Hid (Pst w w3 y n (zc1 L x0) (zc1 L x0) qd xb #[.int .i64 x0,.int .i64 x1,.int .i64 x2,.bool true]):=⟨hp3,hk3.step HR2.out.hx⟩;have k3:=HR3.out.cells.1;clear hp3 hk3)
         | (go_at_call 12;refine (G.zga _ _ _ (HR3.out.pl.gl HGL.out) rfl).mono ?_;rintro e w4 ⟨rfl,hb4⟩;have HR4:Hid (Pst w w4 y n (zc1 L x0) (zc1 L x0) qd xb #[.int .i64 x0,.int .i64 x1,.int .i64 x2,.bool true]):=HR3.out.below' hb4;have k4:=HR4.out.cells.1;clear hb4))
      all_goals
       go_wp2_with fail
       go_meet
       case rel=>exact ⟨_,HR4.out.pl⟩
    | false=>
      as_aux_lemma=>
      go_wp2_with fail;refine (HR1.out.pl.yac2 x0 x1 x2).mono ?_;rintro e w2 ⟨rfl,hp2,hk2⟩;have HR2:Hid (Pst w w2 y n L (zgw n L x0 x1 x2) qd xb #[.int .i64 x0,.int .i64 x1,.int .i64 x2,.bool false]):=⟨hp2,hk2.step HR1.out.hx⟩;obtain ⟨e0,e1,e2⟩:=HR2.out.cells;clear hp2 hk2 HR1 d0 d1 d2 c3';go_wp2_with fail;refine (HR2.out.pl.yact x0 x1 x2).mono ?_;rintro e w3 ⟨ok,rfl,hp3,hk3,hok⟩;obtain ⟨M,hM⟩:∃M,zgw n L x0 x1 x2=M:=⟨_,rfl⟩;obtain ⟨c,hc⟩:∃c,zbp n L x0 x1 x2=c:=⟨_,rfl⟩;rw [hM] at hp3 hok;rw [hc] at hok ⊢;have HR3:Hid (Pst w w3 y n M M qd xb #[.int .i64 x0,.int .i64 x1,.int .i64 x2,.bool false]):=⟨hp3,hk3.step HR2.out.hx⟩;have HOK:=kd hok;obtain ⟨ev,hev⟩:∃ev,ev=G.zb8 c:=⟨_,rfl⟩;rw [<-hev];have HEV:=kd hev;clear hp3 hk3 hok HR2 e0 e1 e2 hM hc hev;go_wp2_with fail;refine (G.zga ev c w3 (HR3.out.pl.gl HGL.out) HEV.out).mono ?_;rintro e w4 ⟨rfl,hb4⟩;have HR4:Hid (Pst w w4 y n M M qd xb #[.int .i64 x0,.int .i64 x1,.int .i64 x2,.bool false]):=HR3.out.below' hb4;clear hb4 HR3 HEV;by_cases hc0:c=0
      ·as_aux_lemma=>
       have HOK0:Hid (ok=true↔x0∈brz n M):=HOK.out hc0;subst hc0;clear HOK;obtain ⟨Ws,Ts,Bs,hst⟩:=HR4.out.pl.st;have HC:Hid _:=zrm HR4.out.pl.dv HR4.out.pl.ok hst;have hbl:(brz n M).length<=120:=by
        obtain ⟨_,_,hq⟩:=HR4.out.pl.iv;exact zt0 hq
       clear hst;go_wp2_with fail;refine Calls.mono HC.out ?_;rintro e w5 ⟨a5,c5,rfl,hz,hb5⟩;have HR5:Hid (Pst w w5 y n M M qd xb #[.int .i64 x0,.int .i64 x1,.int .i64 x2,.bool false]):=HR4.out.below' hb5;have HZ:=kd hz;obtain ⟨K,hK⟩:∃K,brz n M=K:=⟨_,rfl⟩;rw [hK] at HZ HOK0 hbl ⊢;obtain ⟨gl,hgl⟩:∃gl,K.length=gl:=⟨_,rfl⟩;have HLEN:=kd hgl;rw [hgl] at hbl ⊢;clear hgl hK hz hb5 HR4 HC;go_wp2_with fail;go_loopw [16,17] (λ s16 s17 wq=>∃(k:Nat) (t:Bool),k<=gl/\s17= .int .i64 k/\s16= .bool t/\(t=true↔∃j,j<k/\K.getD j 0=x0)/\∃nq,wq=w5.drewN nq) (λ _ s17 _=>gl-(intOf s17).toNat)
       case atStart=>exact ⟨0,false,Nat.zero_le _,rfl,rfl,⟨λ k=>(by cases k),λ ⟨j,hj,_⟩=>(by omega)⟩,0,rfl⟩
       case round=>
        obtain ⟨k,t,hk,rfl,rfl,ht,nq,hwq⟩:=hrel;have HT:=kd ht;have HWQ:=kd hwq;clear ht hwq;by_cases hltk:k<gl
        ·obtain ⟨g,hga,hcell⟩:=HZ.out (by rw [HLEN.out];omega)
         subst hga;have ck:wr.cell? ⟨g,k,none⟩=some (.int .i64 (K.getD k 0)):=by rw [HWQ.out];exact hcell k (by rw [HLEN.out];exact hltk)
         have c0:wr.cell? ⟨xb,0,none⟩=some (.int .i64 x0):=by rw [HWQ.out];exact HR5.out.cells.1
         have HN:Hid ((t || (K.getD k 0==x0))=true↔∃j,j<k+1/\K.getD j 0=x0):=S.zu6 HT.out;obtain ⟨z,hz⟩:∃z,K.getD k 0=z:=⟨_,rfl⟩;rw [hz] at ck HN;clear hcell hz;cases t with
         | true=>
           as_aux_lemma=>
           have HN3:Hid (∃j,j<k+1/\K.getD j 0=x0):=HN.out.1 (by simp);go_wp2_with fail;go_quiet (fail);clear ck c0;go_wp2_with fail;go_roundw;case rel=>exact ⟨k+1,true,by omega,by go_num,rfl,⟨λ _=>HN3.out,λ _=>rfl⟩,_,by rw [HWQ.out,S.drewN_drewN]⟩
           case measure=>simp [intOf];omega
         | false=>
           by_cases hzx:z=x0
           ·as_aux_lemma=>
            subst hzx;have HN2:Hid (∃j,j<k+1/\K.getD j 0=z):=HN.out.1 (by simp);go_wp2_with fail;go_quiet (fail);clear ck c0;go_wp2_with fail;go_roundw;case rel=>exact ⟨k+1,true,by omega,by go_num,rfl,⟨λ _=>HN2.out,λ _=>rfl⟩,_,by rw [HWQ.out,S.drewN_drewN]⟩
            case measure=>simp [intOf];omega
           ·as_aux_lemma=>
            have hq:(z==x0)=false:=beq_eq_false_iff_ne.2 hzx;have HN2:Hid (¬∃j,j<k+1/\K.getD j 0=x0):=λ c=>by
             have:=HN.out.2 c;rw [hq] at this;cases this
            go_wp2_with fail;go_quiet (fail);clear ck c0;go_wp2_with fail;go_roundw;case rel=>exact ⟨k+1,false,by omega,by go_num,rfl,⟨λ c=>(by cases c),λ c=>absurd c HN2.out⟩,_,by rw [HWQ.out,S.drewN_drewN]⟩
            case measure=>simp [intOf];omega
        ·as_aux_lemma=>
         have hke:k=gl:=by omega
         have hto:t=ok:=by
          have h1:=HT.out;rw [hke,<-HLEN.out,S.zxi,<-HOK0.out] at h1;exact zxn h1
         subst hto;have HR6:Hid (Pl w wr y n M M qd):=by
          show Pl _ _ _ _ _ _ _;rw [HWQ.out];exact HR5.out.pl.below' (below_drewN _ _)
         clear HT hke;cases t with
         | true=>
           go_wp2_with fail
           go_meet
           case rel=>exact ⟨_,HR6.out⟩
         | false=>
           go_wp2_with fail
           go_meet
           case rel=>exact ⟨_,HR6.out⟩
      ·as_aux_lemma=>
       have hcb:(c==0)=false:=beq_eq_false_iff_ne.2 hc0;clear hc0 HOK;go_wp2_with fail
       go_meet
       case rel=>exact ⟨_,HR4.out.pl⟩
   case rest=>
    obtain ⟨M,hpl⟩:=hcut;obtain ⟨wd,hwd⟩:∃wd,wc=wd:=⟨_,rfl⟩;rw [hwd] at hpl ⊢;have HD:=kd hpl;clear hpl hwd HR1 HW1 HXB c3'
    go_upto_if 125 with fail
    go_cut [7,8] (λ s7 s8 wx=>∃z:Nat,s7= .pointer (some ⟨z,0,none⟩)/\s8= .nilIface/\Pl w wx z n M M qd)
    case first=>
     by_cases hld:(i:Int)=ld
     ·as_aux_lemma=>
      have hb:((i:Int)==ld)=true:=beq_iff_eq.2 hld;obtain ⟨_,_,hq⟩:=HD.out.iv;have HS:Hid _:=zzb hq (HV.out.below HD.out.base);clear hq hld;go_wp2_with fail;refine Calls.mono HS.out ?_;rintro e w2 ⟨rfl,hb2⟩;have HD2:Hid (Pl w w2 y n M M qd):=HD.out.below' hb2;have HL:Hid _:=z4i ⟨(svI n M).toArray⟩ w2 (zwp HD.out.ok) (HV.out.below HD2.out.base);clear hb2 HS HD;go_wp2_with fail;refine Calls.mono HL.out ?_;rintro e w3 (⟨n',L',ht',z,p',q',v',R',B',W',T',D',pw',bw',pt',bt',mp',N',rfl,hat⟩ | ⟨hno,_,_⟩)
      ·obtain ⟨rfl,rfl⟩:=z6z ht'.1 HD2.out.ok (ht'.2.symm.trans (by rw [zjc HD2.out.ok]))
       have HD3:Hid (Pl w w3 z n' L' L' qd):=HD2.out.load hat.rn.below hat;clear ht' hat HL HD2;go_wp2_with fail
       go_meet
       case rel=>exact ⟨_,rfl,rfl,HD3.out⟩
      ·exact absurd ⟨HD2.out.ok,by rw [zjc HD2.out.ok]⟩ (hno n M)
     ·as_aux_lemma=>
      have hb:((i:Int)==ld)=false:=beq_eq_false_iff_ne.2 hld;clear hld;go_wp2_with fail
      go_meet
      case rel=>exact ⟨_,rfl,rfl,HD.out⟩
    case rest=>
     obtain ⟨z,rfl,rfl,hpl⟩:=hcut;obtain ⟨we,hwe⟩:∃we,wc=we:=⟨_,rfl⟩;rw [hwe] at hpl ⊢;have HE:=kd hpl;clear hpl hwe HD;have hw0:IntKind.i64.wrap ((i:Int).tmod 4)=(i:Int).tmod 4:=by
      rw [Int.tmod_eq_emod_of_nonneg (by omega),IntKind.wrap_i64];omega
     obtain ⟨r,hr⟩:∃r:Int,(i:Int).tmod 4=r:=⟨_,rfl⟩;rw [hr] at hw0;go_upto_region 33 with fail
     go_cut [146] (λ s146 wx=>s146= .bool false/\Pl w wx z n M M qd)
     case first=>
      by_cases hr3:r=3
      ·as_aux_lemma=>
       have hb:(r==3)=true:=beq_iff_eq.2 hr3;obtain ⟨Ws,Ts,Bs,hst⟩:=HE.out.st;have HC:Hid _:=zn7 (HE.out.kn HGL.out) HE.out.ok hst;clear hst hr3;go_wp2_with fail;refine Calls.mono HC.out ?_;rintro e w2 ⟨rfl,hb2⟩;have HE2:Hid (Pl w w2 z n M M qd):=HE.out.below' hb2;clear hb2 HC HE;go_wp2_with fail
       go_meet
       case rel=>exact ⟨rfl,HE2.out⟩
      ·as_aux_lemma=>
       have hb:(r==3)=false:=beq_eq_false_iff_ne.2 hr3;clear hr3;go_wp2_with fail
       go_meet
       case rel=>exact ⟨rfl,HE.out⟩
     case rest=>
      obtain ⟨rfl,hpl⟩:=hcut;obtain ⟨wf,hwf⟩:∃wf,wc=wf:=⟨_,rfl⟩;rw [hwf] at hpl ⊢;have HF:=kd hpl;clear hpl hwf HE hw0 hr;obtain ⟨Ws,Ts,Bs,hst⟩:=HF.out.st;have HST:=kd hst;have HC:Hid _:=z9n HF.out.dv HF.out.ok hst;clear hst;go_wp2_with fail;refine Calls.mono HC.out ?_;rintro e w2 ⟨aw,cw,rfl,hrw,hb2⟩;have HF2:Hid (Pl w w2 z n M M qd):=HF.out.below' hb2;have HRW:Hid (S.Rd w2 aw (S.zao Ws n) (S.zao Ws n).length):=hrw;have HC2:Hid _:=z9x HF2.out.dv HF2.out.ok HST.out;obtain ⟨lw,hlw⟩:∃lw,(S.zao Ws n).length=lw:=⟨_,rfl⟩;rw [hlw];have HLW:=kd hlw;clear hrw hb2 HF HC hlw;go_wp2_with fail;refine Calls.mono HC2.out ?_;rintro e w3 ⟨at_,ct,rfl,hrt,hb3⟩;have HF3:Hid (zpb w w3 z n M qd aw at_ Ws Ts):=⟨HF2.out.below' hb3,HRW.out.below hb3,hrt⟩;obtain ⟨lt,hlt'⟩:∃lt,(S.zao Ts n).length=lt:=⟨_,rfl⟩;rw [hlt'];have HLT:=kd hlt';clear hrt hb3 HF2 HRW HC2 hlt';go_wp2_with fail;go_loopw [20] (λ s20 wq=>∃j:Nat,j<=n/\s20= .int .i64 j/\zpb w wq z n M qd aw at_ Ws Ts) (λ s20 _=>n-(intOf s20).toNat)
      case atStart=>exact ⟨0,Nat.zero_le _,rfl,HF3.out⟩
      case round=>
       clear HF3;obtain ⟨j,hj,rfl,hf⟩:=hrel;have HJ:=kd hf;clear hf;by_cases hltj:j<n
       ·as_aux_lemma=>
        obtain ⟨k,hk⟩:∃k:Nat,(j+i)%n=k:=⟨_,rfl⟩;have hkn:k<n:=by rw [<-hk];exact Nat.mod_lt _ (by omega)
        have hw1:IntKind.i64.wrap ((j:Int)+(i:Int))=(j:Int)+(i:Int):=by rw [IntKind.wrap_i64];omega
        have hw2:((j:Int)+(i:Int)).tmod (n:Int)=(k:Int):=by
         rw [show ((j:Int)+(i:Int))=((j+i:Nat):Int) by omega,Int.tmod_eq_emod_of_nonneg (by omega),<-hk];exact (Int.natCast_emod _ _).symm
        have hw3:IntKind.i64.wrap (k:Int)=(k:Int):=by rw [IntKind.wrap_i64];omega
        have hn0:¬((n:Int)=0):=by omega
        obtain ⟨s1,hs1⟩:∃s1:Bool,(((Ws.getD j 0:Nat):Int)==((Ws.getD k 0:Nat):Int))=s1:=⟨_,rfl⟩;obtain ⟨s2,hs2⟩:∃s2:Bool,(((Ts.getD j 0:Nat):Int)==((Ts.getD k 0:Nat):Int))=s2:=⟨_,rfl⟩;have HS1:=kd hs1;have HS2:=kd hs2;have HI1:Hid (∀W',Below wr.heap.size wr W'->Calls prog 26 #[.pointer (some ⟨z,0,none⟩),.int .i64 (j:Int),.int .i64 (k:Int)] W' λ e w'=>e= .returned (.tuple #[.bool s1,.nilIface])/\Below W'.heap.size W' w'):=λ W' hb=>by
         obtain ⟨_,_,hq⟩:=(HJ.out.below' hb).pl.iv;have:=yaaw hq HST.out j k hltj hkn;rw [HS1.out] at this;exact this
        have HI2:Hid (∀W',Below wr.heap.size wr W'->Calls prog 27 #[.pointer (some ⟨z,0,none⟩),.int .i64 (j:Int),.int .i64 (k:Int)] W' λ e w'=>e= .returned (.tuple #[.bool s2,.nilIface])/\Below W'.heap.size W' w'):=λ W' hb=>by
         obtain ⟨_,_,hq⟩:=(HJ.out.below' hb).pl.iv;have:=yaac hq j k hltj hkn;rw [<-zzn HST.out (List.Perm.refl _) HJ.out.pl.ok.unl,HS2.out] at this;exact this
        clear hk hs1 hs2;go_wp2_with fail;clear hw1 hw2 hw3 hn0;refine Calls.mono (HI1.out wr (Below.refl _ _)) ?_;rintro e v1 ⟨rfl,hb1⟩;have HB1:=kd hb1;clear hb1;go_wp2_with fail;refine Calls.mono (HI2.out v1 HB1.out) ?_;rintro e v2 ⟨rfl,hb2⟩;have HB2:Hid (Below wr.heap.size wr v2):=HB1.out.trans (hb2.mono HB1.out.size);have HJ2:Hid (zpb w v2 z n M qd aw at_ Ws Ts):=HJ.out.below' HB2.out;have HN1:Hid (Calls prog 28 #[.slice aw lw cw,.int .i64 (j:Int),.int .i64 (k:Int)] v2 λ e w'=>e= .returned (.bool s1)/\w'=v2):=by
         have:=S.zt8 Ws HST.out.gw (by omega) aw cw j k s1 v2 HJ2.out.rw_ hltj hkn HS1.out;rw [HLW.out] at this;exact this
        have HN2:Hid (Calls prog 28 #[.slice at_ lt ct,.int .i64 (j:Int),.int .i64 (k:Int)] v2 λ e w'=>e= .returned (.bool s2)/\w'=v2):=by
         have:=S.zt8 Ts HST.out.gt (by omega) at_ ct j k s2 v2 HJ2.out.rt_ hltj hkn HS2.out;rw [HLT.out] at this;exact this
        clear hb2 HB1 HI1 HI2 HJ;go_wp2_with fail;refine Calls.mono HN1.out ?_;rintro e v3 ⟨rfl,hv3⟩;subst hv3;have hss1:(s1 != s1)=false:=by simp
        go_wp2_with fail;refine Calls.mono HN2.out ?_;rintro e v4 ⟨rfl,hv4⟩;subst hv4;have hss2:(s2 != s2)=false:=by simp
        go_wp2_with fail;go_roundw;case rel=>exact ⟨j+1,by omega,by go_num,HJ2.out⟩
        case measure=>simp [intOf];omega
       ·as_aux_lemma=>
        go_wp2_with fail;go_roundw;case rel=>exact ⟨i+1,z,M,by omega,by go_num,rfl,rfl,HJ.out.pl⟩
        case measure=>simp [intOf];omega
  ·as_aux_lemma=>
   obtain ⟨Ws,Ts,Bs,hst⟩:=HR.out.st;have HC:Hid _:=zn7 (HR.out.kn HGL.out) HR.out.ok hst;have hie:¬((i:Int)<(m:Int)):=by omega
   clear hst;go_wp2_with fail;refine Calls.mono HC.out ?_;rintro e w2 ⟨rfl,hb2⟩;have HE2:Hid (Pl w w2 y n L L qd):=HR.out.below' hb2;obtain ⟨_,_,hq⟩:=HE2.out.iv;have HS:Hid _:=zzb hq (HV.out.below HE2.out.base);clear hq hb2 HC HR;go_wp2_with fail;refine Calls.mono HS.out ?_;rintro e w3 ⟨rfl,hb3⟩;have HE3:Hid (Pl w w3 y n L L qd):=HE2.out.below' hb3;have HC:Hid _:=z94 HE3.out.dv HE3.out.ok (HV.out.below HE3.out.base);clear hb3 HS HE2;go_wp2_with fail;refine Calls.mono HC.out ?_;rintro e w4 ⟨rfl,hb4⟩;have HE4:Hid (Pl w w4 y n L L qd):=HE3.out.below' hb4;clear hb4 HC HE3;go_wp2_with fail;go_ret;exact ⟨rfl,HE4.out.base⟩
end Go.Proofs.YtebcjaenhiiflaaGreatDoor.I
