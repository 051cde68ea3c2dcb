import Derived.Test.YtebcjaenhiiflaaGreatDoorQPaPc
import Derived.Test.YtebcjaenhiiflaaGreatDoorQFnFDq
import Derived.Test.YtebcjaenhiiflaaGreatDoorQZgZh
set_option maxHeartbeats 2000000
set_option maxRecDepth 100000
namespace Go.Proofs.Y.S
open Go.Proofs.Tryz
open Go Go.ChangeMaps Go.MapKept Go.WideShapes Go.Proofs.Tryz
open Go.RowKit Go.WideMaps Go.Maps F
theorem zft {n:Nat}{R L:List Stp}(hp:R.Perm L)(he:Ed n 120 L)(hn:n<=40){a b:Nat}(ha:a<n)(hb:b<n)(BJ:a≠b){PR:List (Int × Int)}(EG:Iq a b R R.length PR){m k k':Int}(hv:Val (Ky n a b PR) a ((n+b:Nat):Int) m k')(h:Val (cap (lD (noS n L)) (lr (noS n L))) (2*(a:Int)+1) (2*(b:Int)) m k):
 k=min m (((R.filter (Cc a b)).length:Int)+k'):=by
 have hj:Joins (L.filter λ e=>!Cc a b e) PR:=by
  rw[Iq,bK] at EG;refine⟨λ d hd=>?_,λ e he=>?_⟩
  ·obtain⟨e,h1,h2,h3⟩:=(EG d).1 hd
   exact⟨e,aO.2 ⟨hp.mem_iff.1 h1,by rw[h2];rfl⟩,h3⟩
  ·obtain⟨h1,h2⟩:=aO.1 he
   have h2:Cc a b e=false:=by simpa using h2
   exact⟨(EG _).2 ⟨e,hp.mem_iff.2 h1,h2,.inl rfl⟩,(EG _).2 ⟨e,hp.mem_iff.2 h1,h2,.inr rfl⟩⟩
 rw[zeh he hn hj ha hb BJ h hv,(hp.filter (Cc a b)).length_eq]
def WE (n:Nat)(L:List Stp)(a b k c:Int):Prop:=
 (Fg n a b 120 c/\k=0)\/(∃x y:Nat,a=(x:Int)/\b=(y:Int)/\x<n/\y<n/\x≠y/\c=0/\Val (cap (lD (edS L)) (lr (edS L))) x y 120 k)
def WN (n:Nat)(L:List Stp)(a b k c:Int):Prop:=
 (Fg n a b 120 c/\k=0)\/(∃x y:Nat,a=(x:Int)/\b=(y:Int)/\x<n/\y<n/\x≠y/\c=0/\Val (cap (lD (noS n L)) (lr (noS n L))) (2*x+1) (2*y) 120 k)
theorem Mv (n:Nat)(a b:Int):(∃c,Fg n a b 120 c)\/∃x y:Nat,a=(x:Int)/\b=(y:Int)/\x<n/\y<n/\x≠y:=by
 by_cases h:Vp n a b 120
 ·by_cases BJ:a=b
  ·exact .inl ⟨1,.inr ⟨h,BJ,rfl⟩⟩
  ·right
   obtain⟨h1,h2,_⟩:=h;exact⟨a.toNat,b.toNat,by omega,by omega,by omega,by omega,by omega⟩
 ·exact .inl ⟨2,.inl ⟨h,rfl⟩⟩
theorem Nc {n:Nat}{a b m c c':Int}(h:Fg n a b m c)(h':Fg n a b m c'):c=c':=by
 rcases h with⟨h1,rfl⟩|⟨h1,_,rfl⟩ <;> rcases h' with⟨h2,rfl⟩|⟨h2,_,rfl⟩
 ·rfl
 ·exact absurd h2 h1
 ·exact absurd h1 h2
 ·rfl
theorem Fu {n x y:Nat}{c:Int}(h:Fg n (x:Int) (y:Int) 120 c)(hx:x<n)(hy:y<n)(BO:x≠y):False:=by
 rcases h with⟨h1,_⟩|⟨_,h2,_⟩
 ·exact h1 ⟨⟨by omega,by omega⟩,⟨by omega,by omega⟩,by omega,by omega⟩
 ·omega
theorem WE.one {n:Nat}{L:List Stp}{a b k c k' c':Int}(h:WE n L a b k c)(h':WE n L a b k' c'):k=k'/\c=c':=by
 rcases h with⟨h1,rfl⟩|⟨x,y,rfl,rfl,hx,hy,BO,rfl,hv⟩ <;> rcases h' with⟨h2,rfl⟩|⟨x',y',e1,e2,hx',hy',hxy',rfl,hv'⟩
 ·exact⟨rfl,Nc h1 h2⟩
 ·rw[e1,e2] at h1
  exact(Fu h1 hx' hy' hxy').elim
 ·exact(Fu h2 hx hy BO).elim
 ·obtain rfl:x=x':=by omega
  obtain rfl:y=y':=by omega
  exact⟨U1 hv hv',rfl⟩
theorem WN.one {n:Nat}{L:List Stp}{a b k c k' c':Int}(h:WN n L a b k c)(h':WN n L a b k' c'):k=k'/\c=c':=by
 rcases h with⟨h1,rfl⟩|⟨x,y,rfl,rfl,hx,hy,BO,rfl,hv⟩ <;> rcases h' with⟨h2,rfl⟩|⟨x',y',e1,e2,hx',hy',hxy',rfl,hv'⟩
 ·exact⟨rfl,Nc h1 h2⟩
 ·rw[e1,e2] at h1
  exact(Fu h1 hx' hy' hxy').elim
 ·exact(Fu h2 hx hy BO).elim
 ·obtain rfl:x=x':=by omega
  obtain rfl:y=y':=by omega
  exact⟨U1 hv hv',rfl⟩
def DN (n:Nat)(L:List Stp)(a b k c:Int):Prop:=
 (Fg n a b 120 c/\k=0)\/(∃x y:Nat,a=(x:Int)/\b=(y:Int)/\x<n/\y<n/\x≠y/\c=0/\∃(R:List Stp) (PR:List (Int × Int)) (k':Nat),R.Perm L/\Iq x y R R.length PR/\Val (Ky n x y PR) x ((n+y:Nat):Int) 120 k'/\k=min (120:Int) (((R.filter (Cc x y)).length:Int)+(k':Int)))
theorem zuz {n:Nat}{L:List Stp}(he:Ed n 120 L)(hn:n<=40){a b k c k' c':Int}(h:WN n L a b k c)(h':DN n L a b k' c'):k=k'/\c=c':=by
 rcases h with⟨h1,rfl⟩|⟨x,y,rfl,rfl,hx,hy,BO,rfl,hv⟩ <;> rcases h' with⟨h2,rfl⟩|⟨x',y',e1,e2,hx',hy',hxy',rfl,R,PR,m,hp,EG,hv',rfl⟩
 ·exact⟨rfl,Nc h1 h2⟩
 ·rw[e1,e2] at h1
  exact(Fu h1 hx' hy' hxy').elim
 ·exact(Fu h2 hx hy BO).elim
 ·obtain rfl:x=x':=by omega
  obtain rfl:y=y':=by omega
  exact⟨zft hp he hn hx hy BO EG hv' hv,rfl⟩
theorem zt1 {n:Nat}{L:List Stp}{a b k c k' c':Int}(h:WE n L a b k c)(h':WN n L a b k' c'):c=c':=by
 rcases h with⟨h1,rfl⟩|⟨x,y,rfl,rfl,hx,hy,BO,rfl,hv⟩ <;> rcases h' with⟨h2,rfl⟩|⟨x',y',e1,e2,hx',hy',hxy',rfl,hv'⟩
 ·exact Nc h1 h2
 ·rw[e1,e2] at h1
  exact(Fu h1 hx' hy' hxy').elim
 ·exact(Fu h2 hx hy BO).elim
 ·rfl
theorem zb4 {n:Nat}{a b m c:Int}(h:Fg n a b m c):Value.iface 23 c=G.Ef c:=by
 simp[G.Ef,h.ne]
end Go.Proofs.Y.S
namespace Go.Proofs.Y.I
open Go.Proofs.Tryz
open Go.RowKit Go.WideMaps Go.Maps Go.Lib
variable {w w':World} {a b x q n:Nat} {L R B:List G.E}
theorem zcx (h:Ok n L)(hp:R.Perm L):S.zlm n R:=λ e he=>by
 have:=h.ed e (hp.mem_iff.1 he);exact⟨e.2.1.toNat,e.2.2.toNat,by omega,by omega,by omega,by omega,by omega⟩
theorem zss {B0 p:Nat}{v:Value}(i j:Int)(w:World)(h:G.GAt w B0 168 61 p (n:Int) v L)(p8:Ok n L):
 Calls prog 128 #[.pointer p,i,j,(120:Int)] w λ e w'=>∃k c,S.WE n L i j k c/\e=Value.tuple #[.int .i64 k,G.Ef c]/\Below w w w':=by
 rcases S.Mv n i j with⟨c,AA⟩|⟨x,y,rfl,rfl,hx,hy,BO⟩
 ·refine(S.Zn n B0 p i j 120 c v L w h AA).mono ?_
  rintro e w' ⟨rfl,hb⟩;exact⟨0,c,.inl ⟨AA,rfl⟩,by rw[S.zb4 AA],hb⟩
 ·refine(S.Zl n B0 p x y 120 v L w h p8.n40 p8.ed' hx hy BO (aF _)).mono ?_
  rintro e w' ⟨k,rfl,hv,hb⟩;exact⟨k,0,.inr ⟨x,y,rfl,rfl,hx,hy,BO,rfl,hv⟩,by simp[G.Ef],hb⟩
theorem zr2 {B0 p:Nat}{v:Value}(i j:Int)(w:World)(h:G.GAt w B0 168 61 p (n:Int) v L)(p8:Ok n L):
 Calls prog 129 #[.pointer p,i,j,(120:Int)] w λ e w'=>∃k c,S.WN n L i j k c/\e=Value.tuple #[.int .i64 k,G.Ef c]/\Below w w w':=by
 rcases S.Mv n i j with⟨c,AA⟩|⟨x,y,rfl,rfl,hx,hy,BO⟩
 ·refine(S.Zp n B0 p i j 120 c v L w h AA).mono ?_
  rintro e w' ⟨rfl,hb⟩;exact⟨0,c,.inl ⟨AA,rfl⟩,by rw[S.zb4 AA],hb⟩
 ·refine(S.Zo n B0 p x y 120 v L w h p8.n40 p8.ed' hx hy BO (aF _)).mono ?_
  rintro e w' ⟨k,rfl,hv,hb⟩;exact⟨k,0,.inr ⟨x,y,rfl,rfl,hx,hy,BO,rfl,hv⟩,by simp[G.Ef],hb⟩
theorem zky (h:IV w a b x n L)(i j:Int):
 Calls prog 70 #[.pointer x,i,j] w λ e w'=>∃k c,S.WE n L i j k c/\e=Value.tuple #[.int .i64 k,G.Ef c]/\Below w w w':=by
 obtain⟨p,q,v,R,B,W,T,D,pw,bw,pt,bt,mp,N,g,h⟩:=h;have HI:Hid _:=zss i j w h.gra h.ok;have hc:=h.ix.c0;clear h;go_enter func70,ntmps70;go_wp2_with fail;refine aA HI.o ?_;rintro e w1 ⟨k,c,hk,rfl,hb⟩;have HK:Hid _:=hk;have HB:Hid _:=hb;obtain⟨ev,hev⟩:∃ev,G.Ef c=ev:=⟨_,rfl⟩;rw[hev];have HE:=kd hev;clear hk hb hc HI hev;go_wp2_with fail;go_ret2;exact⟨k,c,HK.o,by rw[HE.o];rfl,HB.o⟩
theorem zsu (h:IV w a b x n L)(i j:Int):
 Calls prog 71 #[.pointer x,i,j] w λ e w'=>∃k c,S.WN n L i j k c/\e=Value.tuple #[.int .i64 k,G.Ef c]/\Below w w w':=by
 obtain⟨p,q,v,R,B,W,T,D,pw,bw,pt,bt,mp,N,g,h⟩:=h;have HI:Hid _:=zr2 i j w h.gra h.ok;have hc:=h.ix.c0;clear h;go_enter func71,ntmps71;go_wp2_with fail;refine aA HI.o ?_;rintro e w1 ⟨k,c,hk,rfl,hb⟩;have HK:Hid _:=hk;have HB:Hid _:=hb;obtain⟨ev,hev⟩:∃ev,G.Ef c=ev:=⟨_,rfl⟩;rw[hev];have HE:=kd hev;clear hk hb hc HI hev;go_wp2_with fail;go_ret2;exact⟨k,c,HK.o,by rw[HE.o];rfl,HB.o⟩
theorem zvg (h:DV w q n L)(p8:Ok n L)(i j:Int):
 Calls prog 68 #[.pointer q,i,j,(120:Int)] w λ e w'=>∃k c,S.WE n L i j k c/\e=Value.tuple #[.int .i64 k,.int .i64 c]/\Below w w w':=by
 obtain⟨B0,u,R,h1,h2⟩:=h;have hl:=h2.length_eq;have KS:=p8.len;have hn:=p8.n40;rcases S.Mv n i j with⟨c,AA⟩|⟨x,y,rfl,rfl,hx,hy,BO⟩
 ·refine(S.zri n B0 q u R i j 120 c w h1 (by omega) AA).mono ?_
  rintro e w' ⟨rfl,hw⟩;subst hw;exact⟨0,c,.inl ⟨AA,rfl⟩,rfl,aI _ _⟩
 ·refine(S.zp4 n B0 q x y 120 u R w h1 hn (zcx p8 h2) (by omega) hx hy BO (aF _)).mono ?_
  rintro e w' ⟨k,rfl,hv,hb⟩;refine⟨k,0,.inr ⟨x,y,rfl,rfl,hx,hy,BO,rfl,?_⟩,rfl,hb⟩;have hc:F.cap (S.lD (S.edS L)) (S.lr (S.edS L))=λ Z=>((R.filter (S.crs Z)).length:Int):=by
   funext Z
   rw[S.zp8 p8.ed' Z,(h2.filter (S.crs Z)).length_eq]
  rw[hc];exact hv
theorem zv2 (h:DV w q n L)(p8:Ok n L)(i j:Int):
 Calls prog 69 #[.pointer q,i,j,(120:Int)] w λ e w'=>∃k c,S.DN n L i j k c/\e=Value.tuple #[.int .i64 k,.int .i64 c]/\Below w w w':=by
 obtain⟨B0,u,R,h1,h2⟩:=h;have hl:=h2.length_eq;have KS:=p8.len;have hn:=p8.n40;rcases S.Mv n i j with⟨c,AA⟩|⟨x,y,rfl,rfl,hx,hy,BO⟩
 ·refine(S.zpk n B0 q u R i j 120 c w h1 (by omega) AA).mono ?_
  rintro e w' ⟨rfl,hw⟩;subst hw;exact⟨0,c,.inl ⟨AA,rfl⟩,rfl,aI _ _⟩
 ·refine(S.zpb n B0 q x y 120 u R w h1 hn (zcx p8 h2) (by omega) hx hy BO (aF _)).mono ?_
  rintro e w' ⟨k,PR,rfl,EG,hv,hb⟩;exact⟨_,0,.inr ⟨x,y,rfl,rfl,hx,hy,BO,rfl,R,PR,k,h2,EG,hv,rfl⟩,rfl,hb⟩
end Go.Proofs.Y.I
namespace Go.Proofs.Y.I
open Go.RowKit Go.WideMaps Go.Maps Go.Lib Go.Proofs.Tryz
variable {w w' wG:World} {a b x q n:Nat} {L R B:List G.E} {W T:List Nat}
def Ps (w:World)(a:Option Addr)(M:List (Int × Int)):Prop:=0<M.length->∃g,a=some ⟨g,0,none⟩/\∀j x,M[j]? =some x->w.cell? ⟨g,j*2,none⟩=some (.int .i64 x.1)/\w.cell? (g,j*2+1)=some (.int .i64 x.2)
theorem Ps.below {a:Option Addr}{M:List (Int × Int)}(h:Ps w a M)(hb:Below w w w'):Ps w' a M:=by
 intro hk;obtain⟨g,e,hc⟩:=h hk;exact⟨g,e,λ j x hx=>⟨S.cell_below (hc j x hx).1 hb,S.cell_below (hc j x hx).2 hb⟩⟩
noncomputable def spi (n:Nat)(L:List G.E):List (Int × Int):=(spz n L).map λ p=>((p.1:Int),(p.2:Int))
theorem zg4 {a:Option Addr}{M:List (Nat × Nat)}(h:0<M.length->∃g,a=some ⟨g,0,none⟩/\∀j x,M[j]? =some x->w.cell? ⟨g,j*2,none⟩=some (.int .i64 (x.1:Int))/\w.cell? (g,j*2+1)=some (.int .i64 (x.2:Int))):Ps w a (M.map λ p=>((p.1:Int),(p.2:Int))):=by
 intro hk;rw[aS] at hk;obtain⟨g,e,hc⟩:=h hk;refine⟨g,e,λ j x hx=>?_⟩;rw[bJ] at hx;cases hy:M[j]? with
 |none=>rw[hy] at hx;cases hx
 |some y=>
  rw[hy] at hx;injection hx with hx
  rw[<-hx];exact hc j y hy
theorem ipairs' (h:IV w a b x n L):
 Calls prog 38 #[.pointer x] w λ e w'=>∃a c,e=Value.slice a (prz n L).length c/\Ps w' a (prz n L)/\Below w w w':=by
 refine(zr5 h).mono ?_;rintro e w' ⟨v,rfl,ho,hb⟩;obtain⟨a',c,rfl,hs⟩:=ho.shape;exact⟨a',c,rfl,hs,hb⟩
theorem dpairs' (h:DV w q n L)(p8:Ok n L):
 Calls prog 65 #[.pointer q] w λ e w'=>∃a c,e=Value.slice a (prz n L).length c/\Ps w' a (prz n L)/\Below w w w':=by
 refine(zte h p8).mono ?_;rintro e w' ⟨v,rfl,ho,hb⟩;obtain⟨a',c,rfl,hs⟩:=ho.shape;exact⟨a',c,rfl,hs,hb⟩
theorem Vx (n:Nat)(L:List G.E):(spz n L).length=(spi n L).length:=by simp[spi]
theorem isplits' (h:IV w a b x n L):
 Calls prog 39 #[.pointer x] w λ e w'=>∃a c,e=Value.slice a (spi n L).length c/\Ps w' a (spi n L)/\Below w w w':=by
 refine(zo1 h).mono ?_;rintro e w' ⟨v,rfl,ho,hb⟩;obtain⟨a',c,rfl,hs⟩:=ho.shape;exact⟨a',c,by rw[Vx],zg4 hs,hb⟩
theorem dsplits' (h:DV w q n L)(p8:Ok n L):
 Calls prog 66 #[.pointer q] w λ e w'=>∃a c,e=Value.slice a (spi n L).length c/\Ps w' a (spi n L)/\Below w w w':=by
 refine(zqb h p8).mono ?_;rintro e w' ⟨v,rfl,ho,hb⟩;obtain⟨a',c,rfl,hs⟩:=ho.shape;exact⟨a',c,by rw[Vx],zg4 hs,hb⟩
structure Kn (wG w:World) (x n:Nat) (L:List G.E) (q:Nat):Prop where
 iv:∃a b,IV w a b x n L
 dv:DV w q n L
 gl:G.Gl w
 below:Below wG wG w
theorem Kn.next (h:Kn wG w x n L q)(hb:Below w w w'):Kn wG w' x n L q:=by
 obtain⟨⟨a,b,h1⟩,h2,h3,h4⟩:=h;exact⟨⟨a,b,h1.below hb⟩,h2.below hb,h3.below hb,h4.tr hb⟩
theorem Kn.c0 (h:Kn wG w x n L q):w.cell? q=n:=by
 obtain⟨B,u,R,h1,_⟩:=h.dv;exact h1.c0
end Go.Proofs.Y.I
namespace Go.Proofs.Y.I
open Go.RowKit Go.WideMaps Go.Maps Go.Lib Go.Proofs.Tryz
variable {w w':World} {a b x n d:Nat} {L:List G.E}
def Em (y:Int):Prop:=0<=y/\y<=9223372036854775807
def Ex (M:List (Int × Int)):List UInt8:=Lib.join (M.map λ p=>Ah [p.1,p.2]) [44,32]
def J6 (M:List G.E):List UInt8:=Lib.join (M.map λ p=>Ah [p.1,p.2.1,p.2.2]) [44,32]
theorem F3 {M:List (Int × Int)}(hg:∀p∈M,Em p.1/\Em p.2)(hl:M.length<=20000):(Ex M).length<=30000000:=by
 have h:=Rl [44,32] 42 (M.map λ p=>Ah [p.1,p.2]) (λ z hz=>by
  rw[aY] at hz;obtain⟨p,hp,rfl⟩:=hz;have h1:=hg p hp;exact Ce (ns:=[p.1,p.2]) (λ y hy=>by
   simp at hy;rcases hy with rfl|rfl
   ·exact h1.1
   ·exact h1.2))
 rw[aS] at h;unfold Ex;simp at h;omega
theorem M7 {M:List G.E}(hg:∀p∈M,Em p.1/\Em p.2.1/\Em p.2.2)(hl:M.length<=20000):(J6 M).length<=30000000:=by
 have h:=Rl [44,32] 63 (M.map λ p=>Ah [p.1,p.2.1,p.2.2]) (λ z hz=>by
  rw[aY] at hz;obtain⟨p,hp,rfl⟩:=hz;have h1:=hg p hp;exact Ce (ns:=[p.1,p.2.1,p.2.2]) (λ y hy=>by
   simp at hy;rcases hy with rfl|rfl|rfl
   ·exact h1.1
   ·exact h1.2.1
   ·exact h1.2.2))
 rw[aS] at h;unfold J6;simp at h;omega
theorem vz {q:Option Addr}{c:Nat}{M:List (Int × Int)}(h:Ps w q M)(hg:∀p∈M,Em p.1/\Em p.2)(hl:M.length<=20000)(hv:Vars w):
 Calls prog 273 #[.slice q M.length c,.func (.func 274) #[] #[]] w λ e w'=>e=Value.string ⟨(Ex M).toArray⟩/\Below w w w':=by
 have hlen:=F3 hg hl;unfold Ex at hlen ⊢;obtain⟨xs,KI⟩:∃xs,xs=M.map λ p=>Ah [p.1,p.2]:=⟨_,rfl⟩
 rw[<-KI] at hlen ⊢;have hk:M.length=xs.length:=by rw[KI,aS]
 have hf:∀W (j:Nat) (z:List UInt8) (x0 x1:Int),Below w w W->M[j]? =some (x0,x1)->xs[j]? =some z->Calls prog 274 #[.agg #[x0,x1]] W λ e w'=>e=Value.string ⟨z.toArray⟩/\Below W W w':=by
  intro W j z x0 x1 hW hM hx;rw[KI,bJ,hM] at hx;injection hx with hx
  subst hx;have h1:=hg _ (aG hM);exact zqg x0 x1 W h1.1 h1.2 (hv.below hW)
 clear KI;exact zfp q c M.length M xs w hk rfl hl h hf (by omega)
theorem zqy {v:Value}{B:Nat}{M:List G.E}(h:G.Ad w B 61 v M)(hg:∀p∈M,Em p.1/\Em p.2.1/\Em p.2.2)(hl:M.length<=20000)(hv:Vars w):
 Calls prog 268 #[v,.func (.func 269) #[] #[]] w λ e w'=>e=Value.string ⟨(J6 M).toArray⟩/\Below w w w':=by
 have key:∃q c,v= .slice q M.length c/\(0<M.length->∃g,q=some ⟨g,0,none⟩/\∀(j:Nat) x,M[j]? =some x->w.cell? ⟨g,j*3,none⟩=x.1/\w.cell? (g,j*3+1)=x.2.1/\w.cell? (g,j*3+2)=x.2.2):=by
  rcases h.shape with⟨e,e2⟩|⟨g,cap,e,_⟩
  ·exact⟨none,0,by rw[e,e2];rfl,λ k=>by rw[e2] at k;simp at k⟩
  ·exact⟨_,_,e,λ _=>⟨g,rfl,λ j x hx=>h.at (by rw[e];rfl) hx⟩⟩
 obtain⟨q,c,rfl,hc⟩:=key;have hlen:=M7 hg hl;unfold J6 at hlen ⊢;obtain⟨xs,KI⟩:∃xs,xs=M.map λ p=>Ah [p.1,p.2.1,p.2.2]:=⟨_,rfl⟩
 rw[<-KI] at hlen ⊢;have hk:M.length=xs.length:=by rw[KI,aS]
 have hf:∀W (j:Nat) (z:List UInt8) (x0 x1 x2:Int),Below w w W->M[j]? =some (x0,x1,x2)->xs[j]? =some z->Calls prog 269 #[.agg #[x0,x1,x2]] W λ e w'=>e=Value.string ⟨z.toArray⟩/\Below W W w':=by
  intro W j z x0 x1 x2 hW hM hx;rw[KI,bJ,hM] at hx;injection hx with hx
  subst hx;have h1:=hg _ (aG hM);exact znc x0 x1 x2 W h1.1 h1.2.1 h1.2.2 (hv.below hW)
 clear KI;exact zdo q c M.length M xs w hk rfl hl hc hf (by omega)
theorem Vm {q:S.Edg->S.Edg->Bool}:∀{R:List S.Edg} {p:Int × Int},p∈S.Ak R q->(∃e∈R,e.1=p.1)/\∃e∈R,e.1=p.2
 |[],_,h=>by simp[S.Ak] at h
 |e::R,p,h=>by
  unfold S.Ak at h;rw[aK] at h;rcases h with h|h
  ·rw[aY] at h
   obtain⟨k,hk,rfl⟩:=h;exact⟨⟨e,by simp,rfl⟩,k,bS _ (aO.1 hk).1,rfl⟩
  ·obtain⟨⟨k,hk,h1⟩,m,hm,h2⟩:=Vm h
   exact⟨⟨k,bS _ hk,h1⟩,m,bS _ hm,h2⟩
theorem Sb {q:S.Edg->S.Edg->Bool}:∀(R:List S.Edg),(S.Ak R q).length<=R.length*R.length
 |[]=>by simp[S.Ak]
 |e::R=>by
  have ih:=Sb (q:=q) R;have h1:=aW (q e) R;unfold S.Ak;rw[aM,aS,bD,lG,lH];omega
theorem Hw (h:IV w a b x n L):(∀p∈prz n L,Em p.1/\Em p.2)/\(prz n L).length<=20000:=by
 have AV:=h.ok.ed;have hlen:=h.ok.len;unfold prz;refine⟨λ p hp=>?_,?_⟩
 ·obtain⟨⟨e,he,h1⟩,k,hk,h2⟩:=Vm hp
  have h3:=(AV e (aO.1 he).1).1;have h4:=(AV k (aO.1 hk).1).1;unfold Em;omega
 ·refine aD (Sb _) ?_
  have h1:=aW (λ e=>decide (S.Be n (S.grw n L).1 (S.grw n L).2 e≠0)) L;have h2:(L.filter λ e=>decide (S.Be n (S.grw n L).1 (S.grw n L).2 e≠0)).length<=120:=by omega
  exact aD (fU h2 h2) (by omega)
theorem Z0 (P:Nat->Nat->Bool)(n:Nat):∀k,(S.X.Bj P n k).length<=k*n
 |0=>by simp[S.X.Bj]
 |k+1=>by
  have ih:=Z0 P n k;have h1:(S.X.Bj P n (k+1)).length=(S.X.Bj P n k).length+(S.X.Cf P k n).length:=by
   unfold S.X.Bj;rw[dN,jD];simp
  have h2:(S.X.Cf P k n).length<=n:=by
   unfold S.X.Cf;rw[aS];refine aD (aW _ _) ?_;rw[gM];omega
  rw[h1,Nat.add_one_mul];omega
theorem Hr (h:IV w a b x n L):(∀p∈spi n L,Em p.1/\Em p.2)/\(spi n L).length<=20000:=by
 have hn:=h.ok.n40;refine⟨λ p hp=>?_,?_⟩
 ·unfold spi at hp
  rw[aY] at hp;obtain⟨k,hk,rfl⟩:=hp;unfold spz S.X.Bj at hk;rw[fC] at hk;obtain⟨i,hi,hk⟩:=hk;unfold S.X.Cf at hk;rw[aY] at hk;obtain⟨j,hj,rfl⟩:=hk;have h1:=bF.1 hi;have h2:=bF.1 (aO.1 hj).1;unfold Em;simp only;omega
 ·rw[<-Vx]
  unfold spz;exact aD (Z0 _ _ _) (aD (fU hn hn) (by omega))
theorem Gb (h:IV w a b x n L):(∀p∈L,Em p.1/\Em p.2.1/\Em p.2.2)/\L.length<=20000:=by
 have hn:=h.ok.n40;have hlen:=h.ok.len;refine⟨λ p hp=>?_,by omega⟩;have:=h.ok.ed p hp;unfold Em;omega
theorem zl0 (s:Value)(h:IV w a b x n L)(hd:w.cell? d=some (.pointer x))(hv:Vars w):
 Calls prog 159 #[.pointer d,s] w λ e w'=>e=Value.string ⟨([112,97,105,114,115]++[32]++Ex (prz n L)).toArray⟩/\Below w w w':=by
 have HB:=kd (ipairs' h);have HR:=kd (Hw h);have HV:=kd hv;generalize prz n L=K at*;clear h hv;go_enter func159,ntmps159;go_wp2_with fail;refine aA HB.o ?_;rintro e w1 ⟨a',c,rfl,hz,j4⟩;have x8:=kd j4;have HI:=kd (vz (c:=c) hz HR.o.1 HR.o.2 (HV.o.below j4));clear hz j4 HB;go_wp2_with fail;refine aA HI.o ?_;rintro e w2 ⟨rfl,j5⟩;have y5:=kd (x8.o.tr j5);have HJ:=kd (Cq [112,97,105,114,115] (Ex K) w2 (by have:=F3 HR.o.1 HR.o.2;simp;omega));clear j5 HI;go_wp2_with fail;refine aA HJ.o ?_;rintro e w3 ⟨rfl,hw⟩;subst w3;clear HJ;go_wp2_with fail;go_ret;exact⟨rfl,y5.o⟩
theorem zj3 (s:Value)(h:IV w a b x n L)(hd:w.cell? d=some (.pointer x))(hv:Vars w):
 Calls prog 161 #[.pointer d,s] w λ e w'=>e=Value.string ⟨([115,112,108,105,116,115]++[32]++Ex (spi n L)).toArray⟩/\Below w w w':=by
 have HB:=kd (isplits' h);have HR:=kd (Hr h);have HV:=kd hv;generalize spi n L=K at*;clear h hv;go_enter func161,ntmps161;go_wp2_with fail;refine aA HB.o ?_;rintro e w1 ⟨a',c,rfl,hz,j4⟩;have x8:=kd j4;have HI:=kd (vz (c:=c) hz HR.o.1 HR.o.2 (HV.o.below j4));clear hz j4 HB;go_wp2_with fail;refine aA HI.o ?_;rintro e w2 ⟨rfl,j5⟩;have y5:=kd (x8.o.tr j5);have HJ:=kd (Cq [115,112,108,105,116,115] (Ex K) w2 (by have:=F3 HR.o.1 HR.o.2;simp;omega));clear j5 HI;go_wp2_with fail;refine aA HJ.o ?_;rintro e w3 ⟨rfl,hw⟩;subst w3;clear HJ;go_wp2_with fail;go_ret;exact⟨rfl,y5.o⟩
theorem zkr (s:Value)(h:IV w a b x n L)(hd:w.cell? d=some (.pointer x))(hv:Vars w):
 Calls prog 156 #[.pointer d,s] w λ e w'=>e=Value.string ⟨([101,100,103,101,115]++[32]++J6 L).toArray⟩/\Below w w w':=by
 have HB:=kd (zr1 h);have HR:=kd (Gb h);have HV:=kd hv;generalize L=K at*;clear h hv;go_enter func156,ntmps156;go_wp2_with fail;refine aA HB.o ?_;rintro e w1 ⟨v,rfl,hz,j4⟩;have x8:=kd j4;have HI:=kd (zqy hz HR.o.1 HR.o.2 (HV.o.below j4));clear hz j4 HB;go_wp2_with fail;refine aA HI.o ?_;rintro e w2 ⟨rfl,j5⟩;have y5:=kd (x8.o.tr j5);have HJ:=kd (Cq [101,100,103,101,115] (J6 K) w2 (by have:=M7 HR.o.1 HR.o.2;simp;omega));clear j5 HI;go_wp2_with fail;refine aA HJ.o ?_;rintro e w3 ⟨rfl,hw⟩;subst w3;clear HJ;go_wp2_with fail;go_ret;exact⟨rfl,y5.o⟩
end Go.Proofs.Y.I
namespace Go.Proofs.Y.I
open Go.RowKit Go.WideMaps Go.Maps Go.Lib Go.Proofs.Tryz
theorem zfs (a:Option Addr)(c m:Nat)(xs:List (List UInt8))(w:World)(hm:m=xs.length)(h3:m<=20000)
 (hc:0<m->∃g,a=some ⟨g,0,none⟩/\∀(j:Nat) (x:List UInt8),xs[j]? =some x->∃ta tk tc,w.cell? ⟨g,j,none⟩=some (.slice ta tk tc)/\∀W,Below w w W->Calls prog 77 #[.slice ta tk tc] W λ e w'=>e=Value.string ⟨x.toArray⟩/\Below W W w')
 (hlen:(Lib.join xs [44,32]).length<=1000000000):
 Calls prog 174 #[.slice a m c] w λ e w'=>e=Value.string ⟨(Lib.join xs [44,32]).toArray⟩/\Below w w w':=by
 have HC:=kd hc;have HM:=kd hm;have HL:=kd hlen;obtain⟨i0,hi,BR,BU,BM⟩:=info_parts Ou;clear hc hm hlen;go_enter func174,ntmps174;go_wp2_with fail;have FN:Hid (F8 w w xs 0 (.slice none 0 0)):=⟨aX _ _ _ _,aI _ _⟩;go_loopw [3,8] (λ s3 s8 wq=>∃j:Nat,j<=m/\s8=j/\F8 w wq xs j s3) (λ _ s8 _=>m-(RowKit.intOf s8).toNat)
 case atStart=>exact⟨0,aN _,rfl,FN.o⟩
 case round=>
  clear FN;obtain⟨j,hj,rfl,q9⟩:=hrel;have HW:=kd q9;clear q9;by_cases j6:j<m
  ·obtain⟨nb,FT,AO⟩:=HC.o (by omega)
   subst FT;obtain⟨x,hx⟩:∃x,xs[j]? =some x:=⟨_,aB (by rw[<-HM.o];exact j6)⟩;have HX:=kd hx;obtain⟨ta,tk,tc,ED,hf⟩:=AO j x hx;have HI:=kd (hf wr HW.o.2);have JA:wr.cell? (nb,j)=some (.slice ta tk tc):=(HW.o.2.cell (p:=⟨nb,j,none⟩) (G.lt_of_cell ED)).trans ED;clear hx AO ED hf;go_wp2_with (first
    |(go_at_call 77;refine aA HI.o ?_;rintro e w1 ⟨rfl,j4⟩;have o7:=Cz HW.o.1 j4;have BS:=aD HW.o.2.size j4.size)
    |(at_builtin;refine wpList_append_own_at _ rfl _ _ 70 rfl w.heap.size 9 i0 (.string ByteArray.empty) 1 16 underlying70 hi BR BU BM rfl (by decide) u3 _ _ rfl (o7.alloc _) w1 1 1 [.string ⟨x.toArray⟩] rfl rfl (cell_one_new _ _ _) (by simp[Value.oneCell']) (by unfold maxLen;omega) (by omega) (by simp;omega) ?_;intro v2 w2 z8 AU _ _))
   have EE:Hid (F8 w w2 xs (j+1) v2):=Nt HW.o j4 HX.o z8 AU;clear z8 AU o7 j4;go_wp2_with fail;go_roundw;case rel=>exact⟨j+1,by omega,by go_num,EE.o⟩
   case measure=>simp[RowKit.intOf];omega
  ·obtain rfl:j=m:=by omega
   by_cases h0:j=0
   ·subst h0
    have hn:xs=[]:=bW.1 (by have:=HM.o;omega);obtain⟨aa,cc,hu⟩:=Fz HW.o.1;subst hu;subst hn;go_wp2_with (go_at_call 132;refine aA (Ig aa cc _ wr) ?_;rintro e w1 ⟨rfl,AR⟩;subst w1);go_ret;exact⟨rfl,HW.o.2⟩
   ·obtain⟨g,cc,hu,LU,hg,AP⟩:=Lu HW.o HM.o.symm (by omega)
    have HJ:Hid _:=Lg g cc j xs ⟨#[44,32]⟩ wr HM.o AP hg (by have:=HM.o;omega) (by have:=HM.o;omega) HL.o;subst hu;clear AP;go_wp2_with (go_at_call 132;refine aA HJ.o ?_;rintro e w1 ⟨rfl,j4⟩);go_ret;exact⟨rfl,HW.o.2.tr j4⟩
theorem Nu {W:World}{ns:List Int}{a:Option Addr}(c:Nat)(hz:Zs W a ns)(hr:∀x∈ns,0<=x/\x<=9223372036854775807)(h3:ns.length<=10000)(hv:Vars W):
 Calls prog 77 #[.slice a ns.length c] W λ e w'=>e=Value.string ⟨(Ah ns).toArray⟩/\Below W W w':=by
 by_cases h0:0<ns.length
 ·obtain⟨g,rfl,hc⟩:=hz h0
  refine Yj _ g ns.length c ns W rfl (λ _=>rfl) (λ j x hx=>?_) hr h3 hv;have hj:=(aC.1 hx).1;have:=hc j hj
  rwa[bH,hx] at this
 ·refine Yj a 0 ns.length c ns W rfl (λ h=>absurd h h0) (λ j x hx=>?_) hr h3 hv
  have hj:=(aC.1 hx).1;omega
theorem R9 {w:World}{a:Option Addr}{c:Nat}{Gs:List (List Nat)}(h:S.Rd w a Gs Gs.length)(hg:∀l∈Gs,l.length<=1000/\∀x∈l,x<=9223372036854775807)(hl:Gs.length<=1000)(hv:Vars w):
 Calls prog 174 #[.slice a Gs.length c] w λ e w'=>e=Value.string ⟨(Fb Gs).toArray⟩/\Below w w w':=by
 refine zfs a c Gs.length (Gs.map Vq) w (by simp) (by omega) (λ h0=>?_) ?_
 ·obtain⟨g,rfl,hr⟩:=h h0
  refine⟨g,rfl,λ j x hx=>?_⟩;rw[bJ] at hx;obtain⟨l,hl',rfl⟩:=gF.1 hx;have hj:j<Gs.length:=(aC.1 hl').1;obtain⟨r,c',h1,h2⟩:=hr j hj;have e:Gs.getD j []=l:=by rw[bH,hl'];rfl
  rw[e] at h1 h2;obtain⟨k1,k2⟩:=hg l (aG hl');refine⟨_,_,_,h1,λ W hW=>?_⟩;have hz:Zs W (some ⟨r,0,none⟩) (l.map λ x:Nat=>(x:Int)):=λ _=>⟨r,rfl,λ i hi=>by
   rw[aS] at hi;have h3:=h2 i hi;rw[(hW.cell (p:=⟨r,i,none⟩) (G.lt_of_cell h3)).trans h3];simp[List.getD_eq_getElem?_getD,hi]⟩
  have:=Nu c' hz (λ y hy=>by
   rw[aY] at hy;obtain⟨z,hz',rfl⟩:=hy;have:=k2 z hz';omega) (by simp;omega) (hv.below hW)
  rw[aS] at this;exact this
 ·have:=Fx hg hl
  unfold Fb at this;omega
def Lo (w0 w:World)(xs:List (List Int))(j:Nat)(v:Value):Prop:=
 ∃sl,w.ownsRow w0 48 1 v j sl/\(∀(i:Nat) l,i<j->xs[i]? =some l->∃g,sl[i]? =some (.slice (some ⟨g,0,none⟩) l.length l.length)/\w.heap[g]? =some (.cells (inV l).toArray 3))/\Below w0 w0 w
theorem zbw {w0 w w1 w2:World}{xs:List (List Int)}{j g:Nat}{v v2:Value}{sl:List Value}{l:List Int}(h:w.ownsRow w0 48 1 v j sl)(he:∀(i:Nat) l,i<j->xs[i]? =some l->∃g,sl[i]? =some (.slice (some ⟨g,0,none⟩) l.length l.length)/\w.heap[g]? =some (.cells (inV l).toArray 3))(BP:Below w0 w0 w)
 (hb:Below w w w1) (hx:xs[j]? =some l) (ET:w1.heap[g]? =some (.cells (inV l).toArray 3)) (h2:w2.ownsRow w0 48 1 v2 (j+1) (sl++[.slice g l.length l.length])) (hg:w1.grownBy w2 v.ownBlock):Lo w0 w2 xs (j+1) v2:=by
 have j4:=BP.tr hb;have h1:=Cz h hb;have keep:∀{k:Nat} {cs:Array Value},w1.heap[k]? =some (.cells cs 3)->w2.heap[k]? =some (.cells cs 3):=λ {k cs} hk=>by
  refine(hg.block k (G.lt_of_some hk) (λ e=>?_)).trans hk;rcases h1.2 with⟨rfl,_⟩|⟨g',cap,cur,rfl,_,hc,_⟩
  ·simp[Value.ownBlock] at e
  ·simp[Value.ownBlock] at e
   subst e;rw[hk] at hc;simp at hc
 have hl:sl.length=j:=by have:=h.1;omega
 refine⟨_,h2,λ i y hi hy=>?_,j4.grown hg j4.size λ k hk=>(h1.lt k hk).1⟩;by_cases hij:i<j
 ·obtain⟨g1,a1,a2⟩:=he i y hij hy
  exact⟨g1,by rw[dR (by omega)];exact a1,keep ((hb.block g1 (G.lt_of_some a2)).trans a2)⟩
 ·obtain rfl:i=j:=by omega
  rw[hx] at hy;injection hy with hy
  subst hy;exact⟨g,by rw[fK (by omega),hl];simp,keep ET⟩
theorem zb1 {w0 w:World}{xs:List (List Int)}{m:Nat}{v:Value}(h:Lo w0 w xs m v)(hm:xs.length=m)(h3:m<=20000)(hr:∀l∈xs,l.length<=10/\∀x∈l,0<=x/\x<=9223372036854775807)(hlen:(Lib.join (xs.map Ah) [44,32]).length<=1000000000)(hv:Vars w):
 Calls prog 174 #[v] w λ e w'=>e=Value.string ⟨(Lib.join (xs.map Ah) [44,32]).toArray⟩/\Below w w w':=by
 obtain⟨sl,h1,h2,_⟩:=h;obtain⟨a,c,rfl⟩:=Fz h1;refine zfs a c m (xs.map Ah) w (by simp[hm]) h3 (λ h0=>?_) hlen;rcases h1.2 with⟨_,hz⟩|⟨g,cap,cur,e,_,hg,_⟩
 ·omega
 ·injection e with e1 e2 e3
  subst e1;refine⟨g,rfl,λ j x hx=>?_⟩;rw[bJ] at hx;obtain⟨l,hl,rfl⟩:=gF.1 hx;have hj:j<m:=by rw[<-hm];exact(aC.1 hl).1
  obtain⟨r,a1,a2⟩:=h2 j l hj hl;have c1:=h1.cells rfl j _ a1;rw[G.Bh] at c1;obtain⟨k1,k2⟩:=hr l (aG hl);refine⟨_,_,_,c1,λ W hW=>?_⟩;refine Nu l.length (λ _=>⟨r,rfl,λ i hi=>?_⟩) k2 (by omega) (hv.below hW);have hr':W.heap[r]? =some (.cells (inV l).toArray 3):=(hW.block r (G.lt_of_some a2)).trans a2;simp[World.cell?,hr',inV,hi,List.getD_eq_getElem?_getD]
theorem zob {q:Option Addr}{c:Nat}{M:List (Int × Int)}{w:World}(h:Ps w q M)(hg:∀p∈M,Em p.1/\Em p.2)(hl:M.length<=20000)(hv:Vars w):
 Calls prog 175 #[.slice q M.length c] w λ e w'=>e=Value.string ⟨(Ex M).toArray⟩/\Below w w w':=by
 have HC:=kd h;have HV:=kd hv;have QD:=kd (F3 hg hl);have HG:=kd hg;obtain⟨m,hm⟩:∃m,m=M.length:=⟨_,rfl⟩;rw[<-hm];have EJ:m<=20000:=by omega
 have HM:=kd hm;obtain⟨xs,KI⟩:∃xs,xs=M.map λ p=>[p.1,p.2]:=⟨_,rfl⟩
 have HXS:=kd KI;have ht:Ex M=Lib.join (xs.map Ah) [44,32]:=by
  unfold Ex;rw[KI,fB];rfl
 rw[ht] at QD ⊢;obtain⟨i0,hi,BR,BU,BM⟩:=info_parts S.Tryz.info48;clear h hg hl hv hm KI ht;go_enter func175,ntmps175;go_wp2_with fail;have FN:Hid (Lo w w xs 0 (.slice none 0 0)):=⟨[],aX _ _ _ _,λ i l hi=>absurd hi (kG _),aI _ _⟩;go_loopw [3,5,8] (λ s3 _ s8 wq=>∃j:Nat,j<=m/\s8=j/\Lo w wq xs j s3) (λ _ _ s8 _=>m-(RowKit.intOf s8).toNat)
 case atStart=>exact⟨0,aN _,rfl,FN.o⟩
 case round=>
  clear FN;obtain⟨j,hj,rfl,q9⟩:=hrel;have HW:=kd q9;clear q9;by_cases j6:j<m
  ·have hjM:j<M.length:=by have:=HM.o;omega
   obtain⟨nb,FT,AO⟩:=HC.o (by omega);subst FT;obtain⟨x0,x1,hy⟩:∃x0 x1,M[j]? =some (x0,x1):=⟨_,_,aB hjM⟩;have HX:Hid (xs[j]? =some [x0,x1]):=by
    show _=_;rw[HXS.o,bJ,hy];rfl
   obtain⟨sl,o7,NQ,BI⟩:=HW.o;obtain⟨r0,r1⟩:=AO j _ hy;have r0':wr.cell? (nb,j*2)=x0:=(BI.cell (p:=⟨nb,j*2,none⟩) (G.lt_of_cell r0)).trans r0;have r1':wr.cell? (nb,j*2+1)=x1:=(BI.cell (p:=⟨nb,j*2+1,none⟩) (G.lt_of_cell r1)).trans r1;have HR:=kd (And.intro o7 (And.intro NQ BI));have BS:=BI.size;clear r0 r1 AO hy NQ BI hjM;have LX:=cell_one_new ((wr.alloc (.cells #[x0,x1] 180)).alloc (.cells #[x0,x1] 3)) (.slice (wr.heap.size+1:Nat) 2 2) 48;rw[aT,aT] at LX;have UT:=kd LX;have SN:=kd o7;clear LX o7;go_wp2_with (at_builtin;refine wpList_append_own_at _ rfl _ _ 51 rfl w.heap.size 48 i0 (.slice none 0 0) 1 24 underlying51 hi BR BU BM rfl (by decide) u3 _ _ rfl (((SN.o.alloc _).alloc _).alloc _) (wr.heap.size+1+1:Nat) 1 1 [.slice (wr.heap.size+1:Nat) 2 2] rfl rfl UT.o (by simp[Value.oneCell']) (by unfold maxLen;omega) (by omega) (by simp;omega) ?_;intro v2 w2 z8 AU _ _);have EE:Hid (Lo w w2 xs (j+1) v2):=by
    refine zbw (g:=wr.heap.size+1) HR.o.1 HR.o.2.1 HR.o.2.2 (((b_).alloc (by simp) _).alloc (by simp;omega) _) HX.o ?_ z8 AU;rw[bG _ _ _ (by simp)];have:=World.alloc_heap_new (wr.alloc (.cells #[x0,x1] 180)) (.cells #[x0,x1] 3)
    rwa[aT] at this
   clear z8 AU;go_wp2_with fail;go_roundw;case rel=>exact⟨j+1,by omega,by go_num,EE.o⟩
   case measure=>simp[RowKit.intOf];omega
  ·obtain rfl:j=m:=by omega
   obtain⟨sl,_,_,BI⟩:=HW.o;have HB:=kd BI;have HT:=kd (zb1 HW.o (by rw[HXS.o,aS,<-HM.o]) EJ (λ l hl=>by
    rw[HXS.o,aY] at hl;obtain⟨p,hp,rfl⟩:=hl;have h1:=HG.o p hp;refine⟨by simp,λ x hx=>?_⟩;simp at hx;rcases hx with rfl|rfl
    ·exact h1.1
    ·exact h1.2) (by have:=QD.o;omega) (HV.o.below BI))
   clear BI;go_wp2_with (go_at_call 174;refine aA HT.o ?_;rintro e w1 ⟨rfl,j4⟩);go_ret;exact⟨rfl,HB.o.tr j4⟩
open Go.RowKit Go.WideMaps Go.Maps Go.Lib
def calm:Obj->Bool
 | .cells _ t _=>t != 168&&t != 61&&t != 3&&t != 85&&t != 113
 | .map _ _=>false
 |_=>true
structure KD (dm:Nat) (w w':World):Prop where
 os:w'.os=w.os
 tape:w'.tape=w.tape
 output:w'.output=w.output
 size:w.heap.size<=w'.heap.size
 same:∀(k:Nat) (o:Obj),w.heap[k]? =some o->calm o=true->w'.heap[k]? =some o
 map:w'.heap[dm]? =w.heap[dm]?
structure DkX (w0 w:World) (d dm n:Nat) (L:List G.E) (x p q:Nat) (v:Value) (R B:List G.E) (W T:List Nat) (D:DataW Unit) (pw bw pt bt mp N:Nat):Prop where
 at_:IAt w0 w x p q n v L R B W T D pw bw pt bt mp N
 cell:w.heap[d]? =some (.cells #[.pointer x] 113)
 hd:w0<=d
 ne:mp≠dm
 mo:∃es c,w.heap[dm]? =some (.map es c)
def DkS (w0 w:World)(d dm n:Nat)(L:List G.E):Prop:=
 ∃x p q v R B W T D pw bw pt bt mp N,DkX w0 w d dm n L x p q v R B W T D pw bw pt bt mp N
variable {w0 w w':World} {d dm n x p q:Nat} {v:Value} {L R B:List G.E} {W T:List Nat} {D:DataW Unit} {pw bw pt bt mp N:Nat}
theorem KD.trans {w2:World}(h:KD dm w w')(k:KD dm w' w2):KD dm w w2:=
 ⟨k.os.trans h.os,k.tape.trans h.tape,k.output.trans h.output,aD h.size k.size,λ j o h1 h2=>k.same j o (h.same j o h1 h2) h2,k.map.trans h.map⟩
theorem KD.of_below (hb:Below w w w')(hm:dm<w):KD dm w w':=
 ⟨hb.os,hb.tape,hb.output,hb.size,λ j _ h1 _=>(hb.block j (G.lt_of_some h1)).trans h1,hb.block dm hm⟩
theorem DkX.lm (h:DkX w0 w d dm n L x p q v R B W T D pw bw pt bt mp N):dm<w:=by
 obtain⟨es,c,hm⟩:=h.mo;exact G.lt_of_some hm
theorem DkX.below' (h:DkX w0 w d dm n L x p q v R B W T D pw bw pt bt mp N)(hb:Below w w w'):DkX w0 w' d dm n L x p q v R B W T D pw bw pt bt mp N:=by
 obtain⟨es,c,hm⟩:=h.mo;exact⟨h.at_.below' hb,(hb.block d (G.lt_of_some h.cell)).trans h.cell,h.hd,h.ne,es,c,(hb.block dm h.lm).trans hm⟩
theorem DkS.below' (h:DkS w0 w d dm n L)(hb:Below w w w'):DkS w0 w' d dm n L:=by
 obtain⟨x,p,q,v,R,B,W,T,D,pw,bw,pt,bt,mp,N,h⟩:=h;exact⟨x,p,q,v,R,B,W,T,D,pw,bw,pt,bt,mp,N,h.below' hb⟩
theorem DkS.lm (h:DkS w0 w d dm n L):dm<w:=by
 obtain⟨x,p,q,v,R,B,W,T,D,pw,bw,pt,bt,mp,N,h⟩:=h;exact h.lm
theorem DkS.base (h:DkS w0 w d dm n L):Below w0 w0 w:=by
 obtain⟨x,p,q,v,R,B,W,T,D,pw,bw,pt,bt,mp,N,h⟩:=h;exact h.at_.rn.below
theorem DkS.ok (h:DkS w0 w d dm n L):Ok n L:=by
 obtain⟨x,p,q,v,R,B,W,T,D,pw,bw,pt,bt,mp,N,h⟩:=h;exact h.at_.ok
theorem DkS.iv (h:DkS w0 w d dm n L):∃a b x,IV w a b x n L/\w.cell? d=some (.pointer (some ⟨x,0,none⟩)):=by
 obtain⟨x,p,q,v,R,B,W,T,D,pw,bw,pt,bt,mp,N,h⟩:=h;exact⟨_,_,x,h.at_.iv (aF _) (aF _),by simp[World.cell?,h.cell]⟩
theorem DkX.off (h:DkX w0 w d dm n L x p q v R B W T D pw bw pt bt mp N){k:Nat}{o:Obj}(hk:w.heap[k]? =some o)(ho:calm o=true):
 k≠p/\some k≠v.ownBlock/\k≠bw/\k≠bt/\k≠mp/\k≠x/\k≠d:=by
 have aa:=h.at_.rn.now.at_;obtain⟨es,c,hm⟩:=aa.Mc;have key:∀{j t:Nat} {cs:Array Value},w.heap[j]? =some (.cells cs t)->calm (.cells cs t)=false->k≠j:=by
  rintro j t cs hj hc rfl;rw[hk] at hj;injection hj with hj
  rw[hj,hc] at ho;cases ho
 refine⟨key h.at_.gra.hp rfl,λ e=>?_,key aa.sw.hb rfl,key aa.st.hb rfl,?_,key h.at_.ix rfl,key h.cell rfl⟩
 ·obtain⟨cur,EM⟩:=Hz h.at_.gra.row e.symm
  exact key EM rfl rfl
 ·rintro rfl
  rw[hk] at hm;injection hm with hm
  rw[hm] at ho;cases ho
theorem DkX.zsg (h:DkX w0 w d dm n L x p q v R B W T D pw bw pt bt mp N):
 dm≠p/\some dm≠v.ownBlock/\dm≠bw/\dm≠bt/\dm≠mp/\dm≠x/\dm≠d:=by
 have aa:=h.at_.rn.now.at_;obtain⟨es,c,hm⟩:=h.mo;exact⟨notM hm h.at_.gra.hp,zst h.at_.gra.row hm,notM hm aa.sw.hb,notM hm aa.st.hb,h.ne.symm,notM hm (show w.heap[x]? =_ from h.at_.ix),notM hm h.cell⟩
theorem DkX.ikp (h:DkX w0 w d dm n L x p q v R B W T D pw bw pt bt mp N)(k:Ikp p v.ownBlock bw bt mp w w'):KD dm w w':=by
 refine⟨k.os,k.tape,k.output,k.size,λ j o h1 h2=>?_,?_⟩
 ·obtain⟨a1,a2,a3,a4,a5,_,_⟩:=h.off h1 h2
  exact(k.block j (G.lt_of_some h1) a1 a2 a3 a4 a5).trans h1
 ·obtain⟨a1,a2,a3,a4,a5,_,_⟩:=h.zsg
  exact k.block dm h.lm a1 a2 a3 a4 a5
def zu6:Except Int (List UInt8)->Ending
 | .ok b=>.returned (.string ⟨b.toArray⟩)
 | .error c=>thrown c
def G7 (w0:World)(d dm:Nat)(o:Except Int (List UInt8) × Nat × List G.E)(w:World)(e:Ending)(w':World):Prop:=
 e=zu6 o.1/\DkS w0 w' d dm o.2.1 o.2.2/\KD dm w w'
theorem Mo {b:List UInt8}{e:Ending}(h:DkS w0 w d dm n L)(he:e=Value.string ⟨b.toArray⟩)(hb:Below w w w'):G7 w0 d dm (.ok b,n,L) w e w':=
 ⟨he,h.below' hb,KD.of_below hb h.lm⟩
theorem O1 {c:Int}{e:Ending}(h:DkS w0 w d dm n L)(he:e=thrown c)(hb:Below w w w'):G7 w0 d dm (.error c,n,L) w e w':=
 ⟨he,h.below' hb,KD.of_below hb h.lm⟩
theorem DkX.put (h:DkX w0 w d dm n L x p q v R B W T D pw bw pt bt mp N){w1:World}{n' y p' q':Nat}{v':Value}{L' R' B':List G.E}{W' T':List Nat}{D':DataW Unit}{pw' bw' pt' bt' mp' N':Nat}
 (hb:Below w w w1) (hy:IAt w w1 y p' q' n' v' L' R' B' W' T' D' pw' bw' pt' bt' mp' N'):
 DkS w0 (w1.setCell d (.pointer y)) d dm n' L'/\KD dm w (w1.setCell d (.pointer y)):=by
 have hdl:=G.lt_of_some h.cell;have hd1:w1.heap[d]? =some (.cells #[.pointer x] 113):=(hb.block d hdl).trans h.cell;have oth:∀k,k≠d->(w1.setCell d (.pointer y)).heap[k]? =w1.heap[k]? :=λ k hk=>aV _ _ _ _ hk
 have BP:=h.at_.rn.below;obtain⟨es,c,hm⟩:=h.mo;have hmd:dm≠d:=notM hm h.cell;refine⟨⟨y,p',q',v',R',B',W',T',D',pw',bw',pt',bt',mp',N',(hy.base BP).same ?_ (λ k hk=>oth k ?_),?_,h.hd,?_,es,c,?_⟩,hb.os,hb.tape,hb.output,?_,λ k o h1 h2=>?_,?_⟩
 ·have h2:=(hy.base BP).rn.below
  exact⟨h2.os,h2.tape,h2.output,by simp;exact h2.size,λ j hj=>(oth j (by have:=h.hd;omega)).trans (h2.block j hj)⟩
 ·have aa:=hy.rn.now.at_
  have g1:=hy.hx;have g2:=hy.hp;have g3:=hy.rn.hb;rintro rfl;rcases hk with e|e|e|e|e|e|e|e|e
  ·omega
  ·omega
  ·have:=(hy.gra.lt e).1
   omega
  ·exact P8 hd1 aa.hp (by decide) e
  ·exact P8 hd1 aa.sw.hp (by decide) e
  ·omega
  ·exact P8 hd1 aa.st.hp (by decide) e
  ·omega
  ·omega
 ·simp only[World.setCell,dC,hd1]
  simp
 ·have:=hy.rn.hb
  have:=h.lm;omega
 ·exact(oth dm hmd).trans ((hb.block dm h.lm).trans hm)
 ·simp
  exact hb.size
 ·exact(oth k (h.off h1 h2).2.2.2.2.2.2).trans ((hb.block k (G.lt_of_some h1)).trans h1)
 ·exact(oth dm hmd).trans (hb.block dm h.lm)
end Go.Proofs.Y.I
namespace Go.Proofs.Y.I
open Go.RowKit Go.WideMaps Go.Maps Go.Lib Go.Proofs.Tryz
variable {w0 wa w w':World} {d dm n x p q:Nat} {v:Value} {L R B:List G.E} {W T:List Nat} {D:DataW Unit} {pw bw pt bt mp N:Nat}
structure Dw (w0 wa w:World) (d dm n:Nat) (L:List G.E) (w':World):Prop where
 s:DkS w0 w' d dm n L
 k:KD dm wa w'
 new:∀k,wa.heap.size<=k->k<w.heap.size->w'.heap[k]? =w.heap[k]?
 dsk:w'.heap[d]? =w.heap[d]?
theorem Dw.still (h:DkS w0 wa d dm n L)(hb:Below wa wa w)(j5:Below w w w'):Dw w0 wa w d dm n L w':=by
 obtain⟨x,p,q,v,R,B,W,T,D,pw,bw,pt,bt,mp,N,h⟩:=h;have h1:=h.below' hb;exact⟨⟨x,p,q,v,R,B,W,T,D,pw,bw,pt,bt,mp,N,h1.below' j5⟩,(KD.of_below hb h.lm).trans (KD.of_below j5 h1.lm),λ k _ hk=>j5.block k hk,j5.block d (G.lt_of_some h1.cell)⟩
theorem zo3 (h:DkX w0 wa d dm n L x p q v R B W T D pw bw pt bt mp N)(hb:Below wa wa w)(id a b:Int):
 Calls prog 21 #[.pointer x,id,a,b] w λ e w'=>∃ok,e=Value.tuple #[.bool ok,G.Ef (Bn n L id a b)]/\Dw w0 wa w d dm n (Fh n L id a b) w'/\(Bn n L id a b=0->(ok=true↔id∈brz n (Fh n L id a b))):=by
 have h1:=h.below' hb;by_cases hc:Bn n L id a b=0
 ·have hf:=(Ra h.at_.ok id a b).1 hc
  obtain⟨a,rfl⟩:=dE hf.2.1.1;obtain⟨b,rfl⟩:=dE hf.2.2.1.1;refine(zbp id a b w h1.at_ hf).mono ?_;rintro e w' ⟨ok,v',B',W',T',D',N',rfl,h2,p8,hk,OG⟩;have e1:Fh n L id (a:Int) (b:Int)=G.Ej L (edg id (a:Int) (b:Int)):=by unfold Fh;rw[aP hc]
  have hkd:=h1.ikp hk;have aa:=h.at_.rn.now.at_;have hd:w'.heap[d]? =some (.cells #[.pointer x] 113):=G6 h1.at_ hk h1.cell (by decide) (by decide) (by decide);obtain⟨es,c,hm⟩:=h1.mo;refine⟨ok,by rw[hc];simp[G.Ef],⟨?_,(KD.of_below hb h.lm).trans hkd,λ k k1 k2=>?_,hd.trans h1.cell.symm⟩,λ _=>?_⟩
  ·rw[e1]
   exact⟨x,p,q,v',_,B',W',T',D',pw,bw,pt,bt,mp,N',h2,hd,h.hd,h.ne,es,c,hkd.map.trans hm⟩
  ·have l1:=h.at_.gra.plt
   have l2:=aa.sw.blt;have l3:=aa.st.blt;have l4:=map_lt aa;refine hk.block k k2 (by omega) (λ e=>?_) (by omega) (by omega) (by omega);have:=(h.at_.gra.lt e.symm).2;omega
  ·rw[e1,zcn (Rp h2.rn.now.st h2.perm) h2.ok,p8]
   constructor
   ·exact λ k=>⟨_,k,rfl⟩
   ·rintro⟨e,he,hei⟩
    have hL:=((h2.rn.now.st.hB e).1 he).1;have hu:=h2.rn.now.st.one e hL (edg id (a:Int) (b:Int)) (by simp) hei;rw[<-hu];exact he
 ·refine(zch id a b w h1.at_ hc).mono ?_
  rintro e w' ⟨rfl,j5⟩;refine⟨false,by simp[G.Ef,hc],?_,λ k=>absurd k hc⟩;unfold Fh;rw[aL hc];exact Dw.still ⟨x,p,q,v,R,B,W,T,D,pw,bw,pt,bt,mp,N,h⟩ hb j5
theorem zl8 (h:DkX w0 wa d dm n L x p q v R B W T D pw bw pt bt mp N)(hb:Below wa wa w)(id:Int):
 Calls prog 18 #[.pointer x,id] w λ e w'=>e=(G.Ef (Gf L id))/\Dw w0 wa w d dm n (Ey L id) w':=by
 have h1:=h.below' hb;rcases Uc h.at_.ok.up id with⟨z,k1,k2,k3⟩|⟨k1,k3⟩
 ·refine(zfx id (G.place L id) z w h1.at_ rfl k1 k3).mono ?_
  rintro e w' ⟨rfl,q',v',R',B',W',T',D',pw',bw',pt',bt',mp',N',h4,_,BS,hk⟩;have e1:Ey L id=L.take (G.place L id)++L.drop (G.place L id+1):=by simp[Ey,k3]
  obtain⟨es,c,hm⟩:=h1.mo;have MR:w'.heap[dm]? =w.heap[dm]? :=by
   obtain⟨a1,a2,_,_,_,a6,_⟩:=h1.zsg;exact hk dm h1.lm a1 a2 a6
  have SB:w.heap[x]? =_:=h1.at_.ix;have hd:w'.heap[d]? =w.heap[d]? :=hk d (G.lt_of_some h1.cell) (P8 h1.cell h1.at_.gra.hp (by decide)) (zug h1.at_.gra.row h1.cell (by decide)) (P8 h1.cell SB (by decide));have EN:=h4.rn.below;have MM:=h1.at_.rn.below;refine⟨by simp[Gf,k3,G.Ef],?_,(KD.of_below hb h.lm).trans ⟨EN.os.trans MM.os.symm,EN.tape.trans MM.tape.symm,EN.output.trans MM.output.symm,BS.2,λ k o j1 j2=>?_,MR⟩,λ k j1 j2=>?_,hd⟩
  ·rw[e1]
   exact⟨x,p,q',v',R',B',W',T',D',pw',bw',pt',bt',mp',N',h4,hd.trans h1.cell,h.hd,by have:=h1.lm;omega,es,c,MR.trans hm⟩
  ·obtain⟨a1,a2,_,_,_,a6,_⟩:=h1.off j1 j2
   exact(hk k (G.lt_of_some j1) a1 a2 a6).trans j1
  ·have l1:=h.at_.gra.plt
   have l2:=h.at_.ix.lt;refine hk k j2 (by omega) (λ e=>?_) (by omega);have:=(h.at_.gra.lt e.symm).2;omega
 ·refine(zm4 id w h1.at_ k3).mono ?_
  rintro e w' ⟨rfl,j5⟩;have e1:Ey L id=L:=by simp[Ey,k3]
  refine⟨by simp[Gf,k3,G.Ef],?_⟩;rw[e1];exact Dw.still ⟨x,p,q,v,R,B,W,T,D,pw,bw,pt,bt,mp,N,h⟩ hb j5
theorem Jz {ns:List Int}{u:Value}(h:F7 wa w ns u)(h0:0<ns.length):∃g c,u= .slice (some ⟨g,0,none⟩) ns.length c/\wa.heap.size<=g/\g<w.heap.size/\∀(j:Nat) y,ns[j]? =some y->w.cell? ⟨g,j,none⟩=y:=by
 rcases h.1.2 with⟨_,hz⟩|⟨g,cap,cur,rfl,hb,hg,hc,_⟩
 ·omega
 ·refine⟨g,cap,rfl,hb,G.lt_of_some hg,λ j y hy=>?_⟩
  have:=h.1.cells rfl j y (by unfold inV;rw[bJ,hy];rfl)
  rwa[G.Bh] at this
theorem A9 {g j:Nat}{u:Value}(hk:w'.heap[g]? =w.heap[g]?)(hc:w.cell? (g,j)=some u):w'.cell? (g,j)=some u:=
 (fD (a:=⟨g,j,none⟩) hk).trans hc
def inB (n:Nat)(i j:Int):Prop:=(0<=i/\i<(n:Int))/\0<=j/\j<(n:Int)
instance (n:Nat) (i j:Int):Decidable (inB n i j):=by unfold inB;infer_instance
noncomputable def wlz (n:Nat)(L:List G.E):List Nat:=
 open Classical in if h:∃W:List Nat,∃R B T,S.St n R W T B/\R.Perm L then h.choose else []
theorem zg2 (s:S.St n R W T B)(hp:R.Perm L)(hL:S.Unl L):W=wlz n L:=by
 have hu:S.Unl R:=hp.symm.pairwise hL (λ {_ _} k=>k.symm);have h:∃W:List Nat,∃R B T,S.St n R W T B/\R.Perm L:=⟨W,R,B,T,s,hp⟩;unfold wlz;rw[kL h];obtain⟨R',B',T',s',hp'⟩:=h.choose_spec;exact(S.Ov s s' (hp.trans hp'.symm) hu).1
noncomputable def whB (n:Nat)(L:List G.E)(i j:Int):Bool:=(((wlz n L).getD i.toNat 0:Nat):Int)==(((wlz n L).getD j.toNat 0:Nat):Int)
noncomputable def twB (n:Nat)(L:List G.E)(i j:Int):Bool:=(((twz n L).getD i.toNat 0:Nat):Int)==(((twz n L).getD j.toNat 0:Nat):Int)
theorem R3 {i j:Int}(h:inB n i j):∃a b:Nat,i=(a:Int)/\j=(b:Int)/\a<n/\b<n:=by
 obtain⟨⟨h1,h2⟩,h3,h4⟩:=h;exact⟨i.toNat,j.toNat,by omega,by omega,by omega,by omega⟩
theorem zcb {i j:Int}(h:¬inB n i j):S.Bw n i\/S.Bw n j:=by
 unfold inB at h;unfold S.Bw;omega
theorem zjt {a b:Nat}(h:IV w a b x n L){i j:Int}(hi:inB n i j):
 Calls prog 26 #[.pointer x,i,j] w λ e w'=>e=Value.tuple #[(whB n L i j),.nilIface]/\Below w w w':=by
 obtain⟨c,e,rfl,rfl,h1,h2⟩:=R3 hi;obtain⟨W,T,B,s⟩:=h.st;have:=zsf h s c e h1 h2;unfold whB;rw[<-zg2 s (eO _) h.ok.unl]
 simpa using this
theorem zhz {a b:Nat}(h:IV w a b x n L){i j:Int}(hi:inB n i j):
 Calls prog 27 #[.pointer x,i,j] w λ e w'=>e=Value.tuple #[(twB n L i j),.nilIface]/\Below w w w':=by
 obtain⟨c,e,rfl,rfl,h1,h2⟩:=R3 hi;have:=zsl h c e h1 h2;unfold twB
 simpa using this
theorem zc2 {a b:Nat}(h:IV w a b x n L){i j:Int}(hi:¬inB n i j):
 Calls prog 26 #[.pointer x,i,j] w λ e w'=>e=Value.tuple #[false,.iface 23 (2:Int)]/\Below w w w':=by
 obtain⟨p,q,v,R,B',W',T',D,pw,bw,pt,bt,mp,N,g,h⟩:=h;have hl:=h.now.st.gw.len;have HI:=kd (S.zf9 i j w h.now.at_ (by rw[hl];exact zcb hi));have hc:=h.ix.c1;clear h hl hi;go_enter func26,ntmps26;go_wp2_with (go_at_call 75;refine aA HI.o ?_;rintro e w1 ⟨rfl,hb⟩);go_ret2;exact⟨rfl,hb⟩
theorem zdc {a b:Nat}(h:IV w a b x n L){i j:Int}(hi:¬inB n i j):
 Calls prog 27 #[.pointer x,i,j] w λ e w'=>e=Value.tuple #[false,.iface 23 (2:Int)]/\Below w w w':=by
 obtain⟨p,q,v,R,B',W',T',D,pw,bw,pt,bt,mp,N,g,h⟩:=h;have hl:=h.now.st.gt.len;have HI:=kd (S.zi0 i j w h.now.at_ (by rw[hl];exact zcb hi));have hc:=h.ix.c1;clear h hl hi;go_enter func27,ntmps27;go_wp2_with (go_at_call 76;refine aA HI.o ?_;rintro e w1 ⟨rfl,hb⟩);go_ret2;exact⟨rfl,hb⟩
end Go.Proofs.Y.I
namespace Go.Proofs.Y.I
open Go.RowKit Go.WideMaps Go.Maps Go.Lib Go.Proofs.Tryz
variable {w0 wa w w':World} {d dm n:Nat} {L:List G.E}
abbrev Out:=Except Int (List UInt8) × Nat × List G.E
def Jo (n:Nat)(L:List G.E)(k:Int):Out:=if 0<=k/\k<=40 then(.ok [110,111,100,101,115],k.toNat,[]) else(.error 2,n,L)
theorem Ki {x:Nat}(h:w.heap[d]? =some (.cells #[.pointer x] 113)):w.cell? d=some (.pointer x)/\w.frozen? d=false:=by
 constructor
 ·simp[World.cell?,h]
 ·simp[World.frozen?,h]
theorem zmb {k:Int}{u:Value}(h:DkS w0 wa d dm n L)(hn:F7 wa w [k] u):
 Calls prog 158 #[.pointer d,u] w (G7 w0 d dm (Jo n L k) wa):=by
 obtain⟨g,c,rfl,_,_,hc⟩:=Jz hn (by simp);have h0:=hc 0 k rfl;have FX:=kd hn.2;clear hc;unfold Jo;by_cases hk:0<=k/\k<=40
 ·rw[aP hk]
  obtain⟨m,rfl⟩:=dE hk.1;obtain⟨x,p,q,v,R,B,W,T,D,pw,bw,pt,bt,mp,N,h⟩:=h;have HH:=kd h;have HH1:=kd (h.below' hn.2);have HN:=kd (V5 m w (by omega));clear h hk hn;go_enter func158,ntmps158;go_wp2_with fail;refine aA HN.o ?_;rintro e w1 ⟨y,p',q',v',B',W',T',D',pw',bw',pt',bt',mp',N',rfl,hy⟩;have HY:=kd hy;obtain⟨BV,hf1⟩:=Ki ((hy.rn.below.block d (G.lt_of_some HH1.o.cell)).trans HH1.o.cell);have HS:=kd (Sd (some ⟨y,0,none⟩) w1);clear hy HN;go_wp2_with fail;refine aA HS.o ?_;rintro e w2 ⟨rfl,BL⟩;subst w2;go_wp2_with fail;go_ret;have hp:=HH1.o.put HY.o.rn.below HY.o;exact⟨rfl,hp.1,(KD.of_below FX.o HH.o.lm).trans hp.2⟩
 ·rw[aL hk]
  have HH:=kd h;have HN:=kd (nk k w (by omega));have HS:=kd (zc6 none 23 (2:Int) w);clear h hk hn;go_enter func158,ntmps158;go_wp2_with fail;refine aA HN.o ?_;rintro e w1 ⟨rfl,AR⟩;subst w1;go_wp2_with fail;refine aA HS.o ?_;rintro e w2 ⟨rfl,BL⟩;subst w2;exact⟨rfl,O1 HH.o rfl FX.o⟩
theorem zay (h:Ok n L):(⟨(svI n L).toArray⟩:ByteArray).size<=100000:=by
 have h1:=zca h L.length;rw[bK] at h1;show(svI n L).toArray.size<=100000;rw[bZ];omega
theorem zjw (u:Value)(h:DkS w0 wa d dm n L)(hb:Below wa wa w)(hv:Vars w):
 Calls prog 160 #[.pointer d,u] w (G7 w0 d dm (.ok [114,101,108,111,97,100],n,L) wa):=by
 obtain⟨x,p,q,v,R,B,W,T,D,pw,bw,pt,bt,mp,N,h⟩:=h;have FX:=kd hb;have HL:=kd h.lm;have HH:=kd (h.below' hb);have HV:=kd hv;have II:=kd h.at_.ok;have HS:=kd (zs7 (HH.o.at_.iv (aF _) (aF _)) hv);obtain⟨hc,_⟩:=Ki HH.o.cell;obtain⟨s,hs⟩:∃s,s=(⟨(svI n L).toArray⟩:ByteArray):=⟨_,rfl⟩;rw[<-hs] at HS;have HSS:=kd hs;clear h hb hv hs;go_enter func160,ntmps160;go_wp2_with fail;refine aA HS.o ?_;rintro e w1 ⟨rfl,j4⟩;have x8:=kd j4;have HLO:=kd (zj8 s w1 (by rw[HSS.o];exact zay II.o) (HV.o.below j4));have HH1:=kd (HH.o.below' j4);clear j4 hc HS;go_wp2_with fail;refine aA HLO.o ?_;rintro e w2 (⟨n',L',ht,y,p',q',v',R',B',W',T',D',pw',bw',pt',bt',mp',N',rfl,hy⟩|⟨AA,_⟩)
 ·have p9:n'=n/\L'=L:=zqz ht.1 II.o (by
   have h2:=ht.2;rw[HSS.o] at h2;rw[<-h2,P9 II.o])
  obtain⟨rfl,rfl⟩:=p9;have HY:=kd hy;obtain⟨BV,hf1⟩:=Ki ((hy.rn.below.block d (G.lt_of_some HH1.o.cell)).trans HH1.o.cell);have HSO:=kd (Sd (some ⟨y,0,none⟩) w2);clear hy ht HLO;go_wp2_with fail;refine aA HSO.o ?_;rintro e w3 ⟨rfl,EX⟩;subst w3;go_wp2_with fail;go_ret;have hp:=HH1.o.put HY.o.rn.below HY.o;exact⟨rfl,hp.1,(KD.of_below FX.o HL.o).trans ((KD.of_below x8.o HH.o.lm).trans hp.2)⟩
 ·exact absurd (⟨II.o,by rw[HSS.o,P9 II.o]⟩:Ut s.data.toList n L) (AA n L)
end Go.Proofs.Y.I
