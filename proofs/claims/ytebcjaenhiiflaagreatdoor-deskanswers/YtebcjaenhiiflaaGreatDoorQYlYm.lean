import Derived.Test.YtebcjaenhiiflaaGreatDoorQZrYk
set_option maxHeartbeats 8000000
set_option maxRecDepth 100000
namespace Go.Proofs.Y.I
open Go.RowKit Go.WideMaps Go.Maps Go.Lib Go.Proofs.Tryz
def zvw (w:World)(q mb:Nat)(sp:List (List UInt8))(o:Out)(s12 s13:Value)(wq:World):Prop:=
 ∃a c,s12= .string a/\s13= .int .i64 c/\((∃b,o.1= .ok b/\a=⟨b.toArray⟩/\c=0)\/(o.1= .error c/\c≠0/\0<=c/\c<=100))/\DG w wq q o.2.1 o.2.2/\Ll wq mb/\wq.heap[w.heap.size]? =some (.cells (I7 sp).toArray 9)
theorem zaw:∀t∈Bb,0<=t.2.1/\t.2.1<=3:=by decide
theorem zi8 {W:World}{mb:Nat}(h:Ll W mb)(y:List UInt8)(hy:y.length<=1000000):∃(k0:Int) (b0:Bool),(Instr.lookup 124 (.map mb) (.string ⟨y.toArray⟩) true).run prog W= .ok (.tuple #[k0,b0]) W/\(0<=k0/\k0<=3)/\((b0=false/\Ck y=none)\/∃t,b0=true/\Ck y=some t/\k0=t.2.1):=by
 have h:=zil h y hy;cases hd:Ck y with
 |none=>
  rw[hd] at h;exact⟨0,false,h,by omega,.inl ⟨rfl,rfl⟩⟩
 |some t=>
  rw[hd] at h;exact⟨t.2.1,true,h,zaw t (iH hd),.inr ⟨t,rfl,rfl,rfl⟩⟩
theorem zc5 {y:List UInt8}{r:List (List UInt8)}{n:Nat}{L:List G.E}{k0:Int}{b0 ok0:Bool}(hkb:(b0=false/\Ck y=none)\/∃t,b0=true/\Ck y=some t/\k0=t.2.1)(p8:ok0=true↔b0=true/\(r.length:Int)=k0)(h:(ok0&&okN r)=true):
 ∃t,Ck y=some t/\(r.length:Int)=t.2.1/\Ch n L (y::r)=doD t.2.2 n L (nz r):=by
 rw[cZ] at h;obtain⟨h1,h2⟩:=p8.1 h.1;rcases hkb with⟨h3,_⟩|⟨t,_,hd,h4⟩
 ·rw[h3] at h1;cases h1
 ·have h5:(r.length:Int)=t.2.1:=h2.trans h4
  refine⟨t,hd,h5,?_⟩;simp only[Ch,hd,aP h5,Xj r,aP h.2]
theorem zgu {y:List UInt8}{r:List (List UInt8)}{n:Nat}{L:List G.E}{k0:Int}{b0 ok0:Bool}(hkb:(b0=false/\Ck y=none)\/∃t,b0=true/\Ck y=some t/\k0=t.2.1)(p8:ok0=true↔b0=true/\(r.length:Int)=k0)(h:(ok0&&okN r)=false):
 Ch n L (y::r)=(.error 3,n,L):=by
 rcases hkb with⟨_,hd⟩|⟨t,h3,hd,h4⟩
 ·simp only[Ch,hd]
 ·simp only[Ch,hd]
  by_cases h5:(r.length:Int)=t.2.1
  ·have h6:ok0=true:=p8.2 ⟨h3,h5.trans h4.symm⟩
   rw[h6,Bool.true_and] at h;rw[aP h5,Xj r,aL (by rw[h];simp)]
  ·rw[aL h5]
theorem zk1 {w2 w4:World}{q:Nat}{ns:List Int}{u:Value}(h:F7 w2 w4 ns u)(hq:q<w2):zsr w4 q ns u:=λ l9=>by
 rcases h.1.2 with⟨_,hz⟩|⟨g,cap,cur,rfl,hb,hg,_,_⟩
 ·exact absurd (bW.1 hz) l9
 ·refine⟨g,cap,cur,rfl,hg,by omega,λ j x hx=>?_⟩
  have:=h.1.cells rfl j x (by unfold inV;rw[bJ,hx];rfl)
  rwa[G.Bh] at this
theorem znp (A b:List UInt8):(⟨A.toArray⟩:ByteArray)++(⟨b.toArray⟩++⟨#[10]⟩)=⟨(A++b++[10]).toArray⟩:=by
 have h1:(⟨#[10]⟩:ByteArray)=⟨[10].toArray⟩:=rfl;rw[h1,Bv,Bv,dW]
theorem zln (s:ByteArray)(w:World)(hs:s.size<=5000)(hv:Vars w):
 Calls prog 41 #[.string s] w λ e w'=>e=Value.string ⟨(zeb s.data.toList).toArray⟩/\Below w w w':=by
 have HV:=kd hv;obtain⟨hc,hk0,GH,hkx⟩:=zh8 s 10 w (by omega) hv;have HC:=kd hc;have HL:=kd (zk2 s.data.toList);unfold dl at HL;generalize Lib.split s.data.toList [10]=sp at*;have HKX:=kd hkx;clear hv hc hkx;unfold zeb;generalize Ee s.data.toList=ls at*;obtain⟨k,hk⟩:∃k,k=sp.length:=⟨_,rfl⟩;rw[<-hk] at hk0 GH HC HL;have HK:=kd hk;obtain⟨x9,hx9⟩:∃x9,sp[k-1]? =some x9:=⟨_,aB (by omega)⟩;have HX9:=kd hx9;go_enter func41,ntmps41;go_wp2_with fail;refine aA HC.o ?_;rintro e w1 ⟨rfl,AR⟩;have x8:=kd (show Below w w w1 by rw[AR];exact b_);have HLS:=kd (show w1.heap[w.heap.size]? =some (.cells (I7 sp).toArray 9) by rw[AR];exact World.alloc_heap_new w _);have hc9:=Mr HLS.o hx9;clear HC AR hx9 hk;go_upto_region 4 with fail
 go_cut [37] from 26 (λ s37 wq=>wq=w1/\∃b:Bool,s37= .bool b/\((b=true/\ls.length+1=k)\/(b=false/\ls.length=k))/\ls=sp.take ls.length)
 case first=>
  by_cases h1:1<k
  ·obtain⟨k',rfl⟩:∃k',k=k'+1:=⟨k-1,by omega⟩
   rw[Nat.add_sub_cancel] at hc9;by_cases h2:x9=[]
   ·subst h2
    have HE:=kd (show ls.length=k'/\ls=sp.take k' by
     have hl:sp.getLast? =some []:=by
      rw[List.getLast?_eq_getElem?,<-HK.o];exact HX9.o
     have e:=HL.o;rw[aP ⟨h1,hl⟩] at e;subst e;rw[List.length_dropLast,<-HK.o,List.dropLast_eq_take,<-HK.o];exact⟨rfl,rfl⟩)
    clear HL HX9;go_wp2_with fail
    go_meet
    case rel=>exact⟨rfl,true,rfl,.inl ⟨rfl,by rw[HE.o.1]⟩,by rw[HE.o.1];exact HE.o.2⟩
   ·have HE:=kd (show ls.length=k'+1/\ls=sp.take (k'+1) by
     have e:=HL.o;rw[aL (λ⟨_,hl⟩=>h2 (by
      rw[List.getLast?_eq_getElem?,<-HK.o] at hl;have:=HX9.o;rw[hl] at this;exact(dG this).symm))] at e
     subst e;refine⟨HK.o.symm,?_⟩;rw[HK.o,bK])
    have he':(⟨x9.toArray⟩:ByteArray).toList.isEmpty=false:=by
     rw[ByteArray.toList_eq];cases x9 with
     |nil=>exact absurd rfl h2
     |cons _ _=>rfl
    generalize (⟨x9.toArray⟩:ByteArray)=tx at*;clear HL HX9;go_wp2_with fail
    go_meet
    case rel=>exact⟨rfl,false,rfl,.inr ⟨rfl,HE.o.1⟩,by rw[HE.o.1];exact HE.o.2⟩
  ·have HE:=kd (show ls.length=k/\ls=sp.take k by
    have e:=HL.o;rw[aL (λ⟨hl,_⟩=>h1 hl)] at e;subst e;refine⟨HK.o.symm,?_⟩;rw[HK.o,bK])
   obtain rfl:k=1:=by omega
   clear HL HX9;go_wp2_with fail
   go_meet
   case rel=>exact⟨rfl,false,rfl,.inr ⟨rfl,HE.o.1⟩,by rw[HE.o.1];exact HE.o.2⟩
 case rest=>
  obtain⟨rfl,b,rfl,CG,j6⟩:=hcut;have TJ:=kd j6;clear j6 hc9 HL HX9
  go_upto_if 37 with fail
  go_cut [3] from 38 (λ s3 wq=>wq=wc/\∃c:Nat,s3= .slice w ls.length c)
  case first=>
   rcases CG with⟨rfl,CK⟩|⟨rfl,CK⟩
   ·subst CK
    clear TJ;go_wp2_with fail
    go_meet
    case rel=>exact⟨rfl,_,rfl⟩
   ·subst CK
    clear TJ;go_wp2_with fail
    go_meet
    case rel=>exact⟨rfl,_,rfl⟩
  case rest=>
   obtain⟨rfl,c,rfl⟩:=hcut;clear CG;obtain⟨W1,W2,W3,W4,W5,W6,W7,W8,W9,W10,W11,W12,W13,W14,W15,r0,r1,r2,r3,r4,r5,r6,r7,r8,r9,r10,r11,r12,r13,r14,hm,hb⟩:=zgo wc;have HM:=kd hm;have y5:=kd (x8.o.tr hb);have HLS2:=kd ((hb.block w (G.lt_of_some HLS.o)).trans HLS.o);have FC:=@run_makeMap prog;clear hm hb;go_wp2_with fail;clear FC r0 r1 r2 r3 r4 r5 r6 r7 r8 r9 r10 r11 r12 r13 r14;have HQ0:Hid (Q4 w (W15.alloc (.cells #[(10:Int),.slice none 0 0] 40)) W15.heap.size wc w sp (Gv []) 0):=by
    refine kd ⟨⟨.slice none 0 0,[],⟨World.alloc_heap_new W15 _,aX _ _ _ _,by simp[Value.ownBlock]⟩,eO _,Ok.nil (by decide),y5.o.alloc y5.o.size _,y5.o.size⟩,HM.o.same (bG _ _ _ HM.o.lt),(bG _ _ _ (G.lt_of_some HLS2.o)).trans HLS2.o,by simp[Gv]⟩
   obtain⟨m,hm⟩:∃m,m=ls.length:=⟨_,rfl⟩;have OX:=kd hm;rw[<-hm];rw[<-hm] at TJ;clear hm HM x8 y5 HLS HLS2;generalize W15.alloc (.cells #[(10:Int),.slice none 0 0] 40)=X0 at*;generalize W15.heap.size=q at*;generalize wc.heap.size=mb at*;clear W1 W2 W3 W4 W5 W6 W7 W8 W9 W10 W11 W12 W13 W14 W15;go_loopw [6,49] (λ s6 s49 wq=>∃j:Nat,j<=m/\s49=j/\s6= .string ⟨(Gv (ls.take j)).2.2.toArray⟩/\Q4 w wq q mb w sp (Gv (ls.take j)) j) (λ _ s49 _=>m-(RowKit.intOf s49).toNat)
   case atStart=>exact⟨0,aN _,rfl,rfl,HQ0.o⟩
   case round=>
    obtain⟨j,hj,rfl,rfl,QE⟩:=hrel;have KP:=kd QE;clear QE HQ0;by_cases j6:j<m
    ·obtain⟨x,hx⟩:∃x,ls[j]? =some x:=⟨_,aB (by rw[<-OX.o];exact j6)⟩
     have KI:sp[j]? =some x:=by
      have h1:=hx;rw[TJ.o,dY,aP j6] at h1;exact h1
     have WC:=kd (show Gv (ls.take (j+1))=iq (Gv (ls.take j)) x by
      rw[bL,hx];exact Yy _ _)
     have JA:=Mr KP.o.ls KI;have hxl:x.length<=5000:=aD (HKX.o x (aG KI)) hs;obtain⟨wo,rfl⟩:∃wo:World,wo=wr:=⟨_,rfl⟩;have HVO:=kd (HV.o.on KP.o.dg.base HV.o.big);obtain⟨KC,ZW,AR,BL⟩:=zh8 ⟨x.toArray⟩ 32 wo (by show x.toArray.size<=_;rw[bZ];omega) HVO.o;have HWD:=kd (zkc ⟨x.toArray⟩);unfold dw at HWD;have hw1':(Lib.split (⟨x.toArray⟩:ByteArray).data.toList [32]).length<=5001:=by
      have h1:(⟨x.toArray⟩:ByteArray).size=x.length:=by show x.toArray.size=_;simp
      omega
     have hw2':∀y∈Lib.split (⟨x.toArray⟩:ByteArray).data.toList [32],y.length<=5000:=λ y hy=>by
      have h1:(⟨x.toArray⟩:ByteArray).size=x.length:=by show x.toArray.size=_;simp
      have h2:=BL y hy;omega
     generalize Lib.split (⟨x.toArray⟩:ByteArray).data.toList [32]=sw at*;unfold iq at WC;generalize Ca ⟨x.toArray⟩=ws at*;generalize Gv (ls.take j)=st at*;have TT:=kd KC;have EE:=kd hw2';obtain⟨kw,hkw⟩:∃kw,kw=sw.length:=⟨_,rfl⟩;rw[<-hkw] at TT ZW hw1';have HKW:=kd hkw;clear KC AR BL hw2' hkw hx KI HKX;obtain⟨i0,GJ,BR,BU,BM⟩:=info_parts Ou;go_wp2_with fail;refine aA TT.o ?_;rintro e w1 ⟨rfl,AR⟩;have x8:=kd (show Below wo wo w1 by rw[AR];exact b_);have VA:=kd (show w1.heap[wo.heap.size]? =some (.cells (I7 sw).toArray 9) by rw[AR];exact World.alloc_heap_new wo _);clear TT AR;go_wp2_with fail;have YB:Hid (F8 w1 w1 (sw.filter λ x=>x≠[]) ((sw.take 0).filter λ x=>x≠[]).length (.slice none 0 0)):=kd ⟨aX _ _ _ _,aI _ _⟩;go_loopw [9,56] (λ s9 s56 wq=>∃i:Nat,i<=kw/\s56=i/\F8 w1 wq (sw.filter λ x=>x≠[]) ((sw.take i).filter λ x=>x≠[]).length s9) (λ _ s56 _=>kw-(RowKit.intOf s56).toNat)
     case atStart=>exact⟨0,aN _,rfl,YB.o⟩
     case round=>
      obtain⟨i,hi,rfl,q9⟩:=hrel;have FV:=kd q9;clear q9 YB;by_cases ZF:i<kw
      ·obtain⟨y,hy⟩:∃y,sw[i]? =some y:=⟨_,aB (by rw[<-HKW.o];exact ZF)⟩
       have NR:wr.cell? (wo,i)=some (.string ⟨y.toArray⟩):=(FV.o.2.cell (p:=⟨wo.heap.size,i,none⟩) (G.lt_of_cell (Mr VA.o hy))).trans (Mr VA.o hy);by_cases NF:y=[]
       ·have HN:=kd (zc0 (p:=λ x:List UInt8=>decide (x≠[])) hy (by simp[NF]))
        subst NF;clear hy;go_wp2_with fail;go_roundw;case rel=>exact⟨i+1,by omega,by go_num,by rw[HN.o];exact FV.o⟩
        case measure=>simp[RowKit.intOf];omega
       ·have HF:=kd (zg0 (p:=λ x:List UInt8=>decide (x≠[])) hy (by simp[NF]))
        have he':(⟨y.toArray⟩:ByteArray).toList.isEmpty=false:=by
         rw[ByteArray.toList_eq];cases y with
         |nil=>exact absurd rfl NF
         |cons _ _=>rfl
        have GV:((sw.take i).filter λ x=>decide (x≠[])).length<=5001:=by
         have h1:=aW (λ x:List UInt8=>decide (x≠[])) (sw.take i);rw[bN] at h1;omega
        have o7:=FV.o.1;have BS:=FV.o.2.size;generalize LX:((sw.take i).filter λ x=>decide (x≠[])).length=cn at*;have LU:=cell_one_new wr (.string ⟨y.toArray⟩) 9;clear NF hy;generalize hyb:(⟨y.toArray⟩:ByteArray)=yb at*;go_wp2_with (at_builtin;refine wpList_append_own_at _ rfl _ _ 70 rfl w1.heap.size 9 i0 (.string ByteArray.empty) 1 16 underlying70 GJ BR BU BM rfl (by decide) u9 _ _ rfl (o7.alloc _) wr 1 1 [.string yb] rfl rfl LU (by simp[Value.oneCell']) (by unfold maxLen;omega) (by omega) (by simp;omega) ?_;intro v2 w2 z8 AU _ _);have HT2:Hid (F8 w1 w2 (sw.filter λ x=>x≠[]) (cn+1) v2):=by
         subst hyb;exact kd (Nt FV.o (aI _ _) HF.o.1 z8 AU)
        clear z8 AU o7;go_wp2_with fail;go_roundw;case rel=>exact⟨i+1,by omega,by go_num,by rw[HF.o.2];exact HT2.o⟩
        case measure=>simp[RowKit.intOf];omega
      ·have LQ:i=kw:=by omega
       subst LQ;have OP:F8 w1 wr ws ws.length u9:=by
        have h1:=FV.o;rw[HKW.o,bK,<-HWD.o] at h1;exact h1
       have hwl:ws.length<=5001:=by
        have h1:=aW (λ x:List UInt8=>decide (x≠[])) sw;rw[<-HWD.o,<-HKW.o] at h1;omega
       have HWS:=kd (show ∀y∈ws,y.length<=5000 from λ y hy=>EE.o y (by
        rw[HWD.o] at hy;exact(aO.1 hy).1))
       have ZV:=kd OP;have CB:=kd (KP.o.below' (x8.o.tr FV.o.2));obtain⟨w2,rfl⟩:∃w2:World,w2=wr:=⟨_,rfl⟩;obtain⟨va,vc,hvs⟩:=Fz OP.1;subst hvs;obtain⟨o,ho⟩:∃o,o=Ch st.1 st.2.1 ws:=⟨_,rfl⟩;rw[<-ho] at WC;have HO:=kd ho;obtain⟨wl,NP⟩:∃wl,wl=ws.length:=⟨_,rfl⟩;rw[<-NP] at hwl ZV ⊢;have HWN:=kd NP;clear ho OP EE HKW HWD VA FV x8 KP hi ZF NP
       go_upto_if 69 with fail
       go_cut [12,13] from 70 to 127 (λ s12 s13 wq=>zvw w q mb sp o s12 s13 wq)
       case first=>
        cases ws with
        |nil=>
         have hw9:wl=0:=HWN.o;subst hw9;go_wp2_with fail
         go_meet
         case rel=>exact⟨_,_,rfl,rfl,.inl ⟨[111,107],by rw[HO.o];rfl,rfl,rfl⟩,by rw[HO.o];exact CB.o.dg,CB.o.tab,CB.o.ls⟩
        |cons y0 r=>
         obtain⟨rl,FO⟩:∃rl,wl=rl+1:=⟨r.length,HWN.o⟩;subst FO;have WL:=kd (show rl=r.length by have:=HWN.o;simpa using this);obtain⟨g,cc,hv,LU,hg,AP⟩:=Lu ZV.o HWN.o.symm (by omega);injection hv with XK ZH hv3
         subst XK;subst hv3;have ZT:=kd AP;have JU:=AP 0 y0 rfl;obtain⟨k0,b0,IY,hk03,hkb⟩:=zi8 CB.o.tab y0 (by have:=HWS.o y0 (by simp);omega);have HKB:=kd hkb;have HTB:=kd ZV.o.2;clear AP hkb ZH ZV HWN;go_upto_region 22 with fail
         go_cut [15] from 78 to 127 (λ s15 wq=>wq=w2/\∃ok0:Bool,s15= .bool ok0/\(ok0=true↔b0=true/\(rl:Int)=k0))
         case first=>
          cases b0 with
          |false=>
           go_wp2_with fail
           go_meet
           case rel=>exact⟨rfl,false,rfl,by simp⟩
          |true=>
           go_wp2_with fail
           go_meet
           case rel=>
            refine⟨rfl,_,rfl,?_⟩;simp
         case rest=>
          obtain⟨rfl,ok0,rfl,p8⟩:=hcut;have HOK0:=kd p8;clear p8 IY;obtain⟨i1,JE,LV,OB,WV⟩:=info_parts S.Tryz.info3;have hvc:rl+1<=vc:=LU;obtain⟨w2,rfl⟩:∃w2:World,w2=wc:=⟨_,rfl⟩;go_upto_region 24 with fail
          go_cut [87,88,89] from 86 to 127 (λ s87 s88 s89 wq=>wq=w2/\s88=rl/\s89=(0:Int)/\∃sa sc,s87= .slice sa rl sc/\(0<rl->sa=some ⟨g,1,none⟩))
          case first=>
           go_wp2_with fail
           ·have h9:vc=1:=by assumption
            subst h9
            go_meet
            case rel=>exact⟨rfl,rfl,rfl,_,_,rfl,λ h=>by exfalso;omega⟩
           ·go_meet
            case rel=>exact⟨rfl,rfl,rfl,_,_,rfl,λ _=>rfl⟩
          case rest=>
           obtain⟨rfl,rfl,rfl,sa,sc,rfl,hsa⟩:=hcut;have HSA:=kd hsa;obtain⟨w2,rfl⟩:∃w2:World,w2=wc:=⟨_,rfl⟩;clear hsa LU hvc JU;have KU:Hid (F7 w2 w2 (nz (r.take 0)) (.slice none 0 0)):=kd ⟨aX _ _ _ _,aI _ _⟩;go_wp2_with fail;go_loopw [15,16,89] (λ s15 s16 s89 wq=>∃i:Nat,i<=rl/\s89=i/\s15= .bool (ok0&&okN (r.take i))/\F7 w2 wq (nz (r.take i)) s16) (λ _ _ s89 _=>rl-(RowKit.intOf s89).toNat)
           case atStart=>exact⟨0,aN _,rfl,by simp[okN],KU.o⟩
           case round=>
            obtain⟨i2,hi2,rfl,rfl,q9⟩:=hrel;have FV:=kd q9;clear q9 KU;by_cases ZF:i2<rl
            ·obtain⟨y,hy⟩:∃y,r[i2]? =some y:=⟨_,aB (by rw[<-WL.o];exact ZF)⟩
             have hsa:=HSA.o (by omega);subst hsa;have BV:=ZT.o (i2+1) y (by simpa using hy);have NR:wr.cell? (g,1+i2)=some (.string ⟨y.toArray⟩):=by
              rw[lC 1 i2];exact(FV.o.2.cell (p:=⟨g,i2+1,none⟩) (G.lt_of_cell BV)).trans BV
             have SA:=HWS.o y (by simp[List.mem_of_getElem? hy]);have HNT:=kd (zru hy);have HNU:=kd (zdp ⟨y.toArray⟩ wr (by show y.toArray.size<=_;rw[bZ];omega) (HV.o.on ((CB.o.dg.below' FV.o.2).base) HV.o.big));have hnl:(nz (r.take i2)).length=i2:=by
              unfold nz;rw[aS,bN,<-WL.o];omega
             clear hy BV SA;unfold zb0 at HNU;have hdl:(⟨y.toArray⟩:ByteArray).data.toList=y:=rfl;rw[hdl] at HNU;generalize (Bl y).getD 0=v at*;generalize (Bl y).isSome=fine at*;generalize okN (r.take i2)=okp at*;generalize nz (r.take i2)=np at*;clear hdl;go_wp2_with fail;refine aA HNU.o ?_;rintro e w4 ⟨rfl,BB⟩;have o7:=Cz FV.o.1 BB;have BS:=aD FV.o.2.size BB.size;have LU:=cell_one_new w4 v 3;rw[hnl] at o7;have EP:=kd BB;clear HNU BB;obtain⟨bb,EN⟩:∃bb,(ok0&&okp)=bb:=⟨_,rfl⟩;rw[EN];cases bb;all_goals
              go_wp2_with (at_builtin;refine wpList_append_own_at _ rfl _ _ 48 rfl w2.heap.size 3 i1 (0:Int) 1 8 underlying48 JE LV OB WV rfl (by decide) u16 _ _ rfl (o7.alloc _) w4 1 1 [v] rfl rfl LU (by simp[Value.oneCell']) (by unfold maxLen;omega) (by omega) (by simp;omega) ?_;intro v2 w5 z8 AU _ _);have HT2:Hid (F7 w2 w5 (np++[v]) v2):=kd (zcu FV.o EP.o (by rw[hnl];exact z8) AU);clear z8 AU o7;go_wp2_with fail;go_roundw;case rel=>(repeat apply Exists.intro);exact⟨⟨i2+1,by omega,by go_num,by rw[HNT.o.2,<-Bool.and_assoc,EN];rfl,by rw[HNT.o.1];exact HT2.o⟩,rfl⟩
              case measure=>simp[RowKit.intOf];omega
            ·have hir:i2=rl:=by omega
             subst hir;have y7:r.take i2=r:=by rw[WL.o];exact bK
             have BG:=kd (show F7 w2 wr (nz r) u16 by
              have h1:=FV.o;rw[y7] at h1;exact h1)
             rw[y7];obtain⟨w4,rfl⟩:∃w4:World,w4=wr:=⟨_,rfl⟩;have LC:=kd (CB.o.below' FV.o.2);have JU:w4.cell? g=some (.string ⟨y0.toArray⟩):=(FV.o.2.cell (p:=g) (G.lt_of_cell (ZT.o 0 y0 rfl))).trans (ZT.o 0 y0 rfl);obtain⟨okk,WT⟩:∃okk,(ok0&&okN r)=okk:=⟨_,rfl⟩;rw[WT];rw[WL.o] at HOK0;cases okk with
             |false=>
              have HE3:=kd (HO.o.trans (zgu HKB.o HOK0.o WT));clear y7 WT;go_wp2_with fail
              go_meet
              case rel=>exact⟨_,3,rfl,rfl,.inr ⟨by rw[HE3.o],by decide,by decide,by decide⟩,by rw[HE3.o];exact LC.o.dg,LC.o.tab,LC.o.ls⟩
             |true=>
              obtain⟨t,hd,hcnt,hdk⟩:=zc5 (n:=st.1) (L:=st.2.1) HKB.o HOK0.o WT;have HOD:=kd (HO.o.trans hdk);have hty:t.1=y0:=by simpa using List.find?_some hd
              obtain⟨w9,a9,b9,x9',EZ⟩:=Dk w4 LC.o.dg.ok;have HCB:=kd (show ∀c,o.1= .error c->0<=c/\c<=100 by
               rw[HOD.o];exact λ c hc=>Xd (λ i j=>I6 EZ i j) hc)
              obtain⟨cq,hcq⟩:=CB.o.dg.cell;have HDO:=kd (zkn (iH hd) LC.o.dg (zk1 BG.o (G.lt_of_some hcq)) (by unfold nz;rw[aS];exact hcnt) (HV.o.on LC.o.dg.base HV.o.big));rw[hty,<-HOD.o] at HDO;clear y7 WT hd hcnt hdk hty EZ hcq;go_wp2_with fail;refine aA HDO.o ?_;rintro e w5 ⟨⟨a,c5,rfl,ZG⟩,hdg5,hkr5⟩;have XJ:=kd ZG;have HDG5:=kd hdg5;have HTB5:=kd (LC.o.kr hkr5);clear ZG hdg5 hkr5 HDO;go_wp2_with fail
              go_meet
              case rel=>exact⟨a,c5,rfl,rfl,XJ.o.imp id (λ⟨h1,h2⟩=>⟨h1,h2,HCB.o _ h1⟩),HDG5.o,HTB5.o.1,HTB5.o.2⟩
       case rest=>
        obtain⟨a,c5,rfl,rfl,ZG,hdg,hmy,hls⟩:=hcut;have HDG:=kd hdg;have HMY:=kd hmy;have HLS:=kd hls;have hol:(El o.1).length<=40000000:=by
         obtain⟨w9,a9,b9,x9',EZ⟩:=Dk w2 CB.o.dg.ok;rw[HO.o];exact Y8 EZ
        have RO:=CB.o.len;have ZM:m<=5001:=by
         have h1:=congrArg List.length TJ.o;rw[bN,<-OX.o] at h1;have h2:=HK.o;omega
        have HRN:=kd (show Q4 w wc q mb w.heap.size sp (Gv (ls.take (j+1))) (j+1) by
         rw[WC.o];refine⟨HDG.o,HMY.o,HLS.o,?_⟩;simp only[aM,bD,dU];omega)
        have NH:=kd (show ∀b:List UInt8,El o.1=b->(⟨st.2.2.toArray⟩:ByteArray)++(⟨b.toArray⟩++⟨#[10]⟩)=⟨(Gv (ls.take (j+1))).2.2.toArray⟩ by
         rintro b rfl;rw[WC.o];exact znp _ _)
        clear hdg hmy hls WC HO TJ CB ZV HWN HWS;rcases ZG with⟨b5,VH,rfl,rfl⟩|⟨VH,l9,FZ,BV⟩
        ·have CV:b5.length<=40000000:=by rw[VH] at hol;exact hol
         have VT:=kd (NH.o b5 (by rw[VH];rfl));clear VH hol NH;go_wp2_with fail;go_roundw;case rel=>first
          |exact⟨j+1,by omega,by go_num,by rw[<-VT.o],HRN.o⟩
          |((repeat apply Exists.intro);exact⟨⟨j+1,by omega,by go_num,by rw[<-VT.o],HRN.o⟩,rfl⟩)
         case measure=>simp[RowKit.intOf];omega
        ·have LY:=Oo ⟨FZ,BV⟩
         have HT:=kd (show Calls prog 77 #[.slice wc 1 1] (wc.alloc (.cells #[c5] 3)) λ e w'=>e=Value.string ⟨(Lib.itoa c5).toArray⟩/\Below wc wc w' by
          have hb:Below wc wc (wc.alloc (.cells #[c5] 3)):=b_;have OC:=World.alloc_heap_new wc (.cells #[c5] 3);have e1:Ah [c5]=Lib.itoa c5:=by simp[Ah,Bu]
          rw[<-e1];refine aA (Nu (ns:=[c5]) 1 (λ _=>⟨wc.heap.size,rfl,λ i hi=>?_⟩) (λ y hy=>by simp at hy;subst hy;omega) (by simp) ((HV.o.on HDG.o.base HV.o.big).below hb)) ?_
          ·have:i=0:=by simpa using hi
           subst this;unfold World.cell?;rw[OC];rfl
          ·rintro e w' ⟨rfl,j5⟩
           exact⟨rfl,hb.tr j5⟩)
         have VT:=kd (show(⟨st.2.2.toArray⟩:ByteArray)++(((⟨#[101,114,114,111,114,32]⟩:ByteArray)++⟨(Lib.itoa c5).toArray⟩)++⟨#[10]⟩)=⟨(Gv (ls.take (j+1))).2.2.toArray⟩ by
          have h2:(⟨#[101,114,114,111,114,32]⟩:ByteArray)++⟨(Lib.itoa c5).toArray⟩=⟨([101,114,114,111,114,32]++Lib.itoa c5).toArray⟩:=Bv [101,114,114,111,114,32] _;rw[h2];exact NH.o _ (by rw[VH];rfl))
         clear VH hol NH FZ BV;generalize Lib.itoa c5=tc at*;go_wp2_with fail;refine aA HT.o ?_;rintro e w6 ⟨rfl,FJ⟩;have HRN6:=kd (HRN.o.below' FJ);clear FJ HT;go_wp2_with fail;go_roundw;case rel=>first
          |exact⟨j+1,by omega,by go_num,by rw[<-VT.o],HRN6.o⟩
          |((repeat apply Exists.intro);exact⟨⟨j+1,by omega,by go_num,by rw[<-VT.o],HRN6.o⟩,rfl⟩)
         case measure=>simp[RowKit.intOf];omega
    ·have hjm:j=m:=by omega
     subst hjm;have y7:ls.take j=ls:=by rw[OX.o];exact bK
     rw[y7];have XI:=kd KP.o.dg.base;clear y7 KP;go_wp2_with fail;go_ret;exact⟨rfl,XI.o⟩
open Go.RowKit Go.Shelf Go.WideMaps Go.Maps Go.Proofs.Tryz
attribute [local go_sem] Oper.semAt_some
theorem yn (s:ByteArray)(w:World)(hs:20000<s.size)(hv:Vars w):Calls prog 40 #[.string s] w λ e w'=>e=Value.string ⟨#[101,114,114,111,114,32,52,10]⟩/\Below w w w':=by
 have XC:Fence.wide.round=none:=rfl;have BS:decide ((20000:Int)<(s.size:Int))=true:=bI (by omega);have HF:=kd (Vo 4 (by decide) w hv);have e4:(⟨([101,114,114,111,114,32]++Lib.itoa 4).toArray⟩:ByteArray)=⟨#[101,114,114,111,114,32,52]⟩:=by kernel_rfl
 rw[e4] at HF;have e5:((⟨#[101,114,114,111,114,32,52]⟩:ByteArray)++⟨#[10]⟩)=⟨#[101,114,114,111,114,32,52,10]⟩:=by kernel_rfl
 rw[<-e5];clear e4 e5 hv hs;refine(callsIn_wide (n:=5)).1 ?_;refine callsIn_of_wp_marks func40 rfl trivial ?_ XC;simp only[ntmps40,bZ,bD,dU,Nat.reduceAdd,Nat.reduceSub,fE,fF,fZ,fI,dX,dZ]
 gi_wp2_with fail
 refine⟨trivial,?_⟩;refine CallsIn.mono (callsIn_wide.2 HF.o) ?_;rintro e w1 ⟨rfl,j4⟩;have HB:=kd j4;clear j4 HF
 gi_wp2_with fail
 exact⟨_,results_tmp rfl _ _ _,rfl,HB.o⟩
theorem zgm (s:ByteArray)(w:World)(hs:20000<s.size):Calls prog 41 #[.string s] w λ e w'=>e=Value.string ⟨#[101,114,114,111,114,32,52,10]⟩/\Below w w w':=by
 have BS:decide ((20000:Int)<(s.size:Int))=true:=bI (by omega);go_enter func41,ntmps41;go_wp2_with fail;go_ret;exact⟨rfl,aI _ _⟩
theorem zm9 (s:ByteArray)(w:World)(hs:s.size<=5000\/20000<s.size)(hv:Vars w)(hg:G.Gl w):∃x:ByteArray,(Calls prog 40 #[.string s] w λ e w'=>e=Value.string x/\Below w w w')/\∀W,Below w w W->Calls prog 41 #[.string s] W λ e w'=>e=Value.string x/\Below W W w':=by
 rcases hs with hs|hs
 ·exact⟨_,zao s w hs hv hg,λ W hW=>zln s W hs (hv.below hW)⟩
 ·exact⟨_,yn s w hs hv,λ W _=>zgm s W hs⟩
theorem zan (s:ByteArray)(w:World)(hv:Vars w)(hg:G.Gl w):Calls prog 7 #[.string s] w λ e w'=>e=true/\Below w w w':=by
 by_cases h0:s.size<=5000\/20000<s.size
 ·obtain⟨x,h1,h2⟩:=zm9 s w h0 hv hg
  have H1:=kd h1;have H2:=kd h2;clear h1 h2 hv hg;by_cases ha:1500<s.size
  ·by_cases hb:s.size<=20000
   ·go_enter func7,ntmps7
    go_wp2_with fail;go_ret;exact⟨rfl,aI _ _⟩
   ·by_cases hc:30000<s.size
    ·go_enter func7,ntmps7
     go_wp2_with fail;go_ret;exact⟨rfl,aI _ _⟩
    ·go_enter func7,ntmps7
     go_wp2_with fail;refine aA H1.o ?_;rintro e w1 ⟨rfl,j4⟩;have x8:=kd j4;have H3:=kd (H2.o w1 j4);clear j4 H1 H2;go_wp2_with fail;refine aA H3.o ?_;rintro e w2 ⟨rfl,j5⟩;have y5:=kd (x8.o.tr j5);clear j5 H3;go_wp2_with fail;go_ret;exact⟨rfl,y5.o⟩
  ·go_enter func7,ntmps7
   go_wp2_with fail;refine aA H1.o ?_;rintro e w1 ⟨rfl,j4⟩;have x8:=kd j4;have H3:=kd (H2.o w1 j4);clear j4 H1 H2;go_wp2_with fail;refine aA H3.o ?_;rintro e w2 ⟨rfl,j5⟩;have y5:=kd (x8.o.tr j5);clear j5 H3;go_wp2_with fail;go_ret;exact⟨rfl,y5.o⟩
 ·have ha:1500<s.size:=by omega
  have hb:s.size<=20000:=by omega
  clear h0 hv hg;go_enter func7,ntmps7;go_wp2_with fail;go_ret;exact⟨rfl,aI _ _⟩
end Go.Proofs.Y.I
