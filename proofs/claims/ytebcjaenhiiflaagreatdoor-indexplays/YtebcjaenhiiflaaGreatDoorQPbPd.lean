import Derived.Test.YtebcjaenhiiflaaGreatDoorQPaPc
import Derived.Test.YtebcjaenhiiflaaGreatDoorQFnFDq
set_option maxHeartbeats 8000000
set_option maxRecDepth 100000
namespace Go.Proofs.YtebcjaenhiiflaaGreatDoor.S
open Go.Proofs.Tryz
open Go Go.ChangeMaps Go.MapKept Go.WideShapes Go.Proofs.Tryz
open Go.RowKit Go.WideMaps Go.Maps F
theorem zz9 {n:Nat} {R L:List Stp} (hp:R.Perm L) (he:Ed n 120 L) (hn:n<=40) {a b:Nat} (ha:a<n) (hb:b<n) (hab:a≠b) {PR:List (Int × Int)} (hpr:zd7 a b R R.length PR) {m k k':Int} (hv:Val (zfn n a b PR) a ((n+b:Nat):Int) m k') (h:Val (cap (lD (noS n L)) (lr (noS n L))) (2*(a:Int)+1) (2*(b:Int)) m k):
 k=min m (((R.filter (zba a b)).length:Int)+k'):=by
 have hj:Joins (L.filter λ e=>!zba a b e) PR:=by
  rw [zd7,List.take_length] at hpr;refine ⟨λ d hd=>?_,λ e he=>?_⟩
  ·obtain ⟨e,h1,h2,h3⟩:=(hpr d).1 hd
   exact ⟨e,List.mem_filter.2 ⟨hp.mem_iff.1 h1,by rw [h2];rfl⟩,h3⟩
  ·obtain ⟨h1,h2⟩:=List.mem_filter.1 he
   have h2:zba a b e=false:=by simpa using h2
   exact ⟨(hpr _).2 ⟨e,hp.mem_iff.2 h1,h2,.inl rfl⟩,(hpr _).2 ⟨e,hp.mem_iff.2 h1,h2,.inr rfl⟩⟩
 rw [zwk he hn hj ha hb hab h hv,(hp.filter (zba a b)).length_eq]
def WE (n:Nat) (L:List Stp) (a b k c:Int):Prop:=
 (zcn n a b 120 c/\k=0)\/(∃x y:Nat,a=(x:Int)/\b=(y:Int)/\x<n/\y<n/\x≠y/\c=0/\Val (cap (lD (edS L)) (lr (edS L))) x y 120 k)
def WN (n:Nat) (L:List Stp) (a b k c:Int):Prop:=
 (zcn n a b 120 c/\k=0)\/(∃x y:Nat,a=(x:Int)/\b=(y:Int)/\x<n/\y<n/\x≠y/\c=0/\Val (cap (lD (noS n L)) (lr (noS n L))) (2*x+1) (2*y) 120 k)
theorem zgo (n:Nat) (a b:Int):(∃c,zcn n a b 120 c)\/∃x y:Nat,a=(x:Int)/\b=(y:Int)/\x<n/\y<n/\x≠y:=by
 by_cases h:zlm n a b 120
 ·by_cases hab:a=b
  ·exact .inl ⟨1,.inr ⟨h,hab,rfl⟩⟩
  ·right
   obtain ⟨h1,h2,_⟩:=h;exact ⟨a.toNat,b.toNat,by omega,by omega,by omega,by omega,by omega⟩
 ·exact .inl ⟨2,.inl ⟨h,rfl⟩⟩
theorem zih {n:Nat} {a b m c c':Int} (h:zcn n a b m c) (h':zcn n a b m c'):c=c':=by
 rcases h with ⟨h1,rfl⟩ | ⟨h1,_,rfl⟩ <;> rcases h' with ⟨h2,rfl⟩ | ⟨h2,_,rfl⟩
 ·rfl
 ·exact absurd h2 h1
 ·exact absurd h1 h2
 ·rfl
theorem zej {n x y:Nat} {c:Int} (h:zcn n (x:Int) (y:Int) 120 c) (hx:x<n) (hy:y<n) (hxy:x≠y):False:=by
 rcases h with ⟨h1,_⟩ | ⟨_,h2,_⟩
 ·exact h1 ⟨⟨by omega,by omega⟩,⟨by omega,by omega⟩,by omega,by omega⟩
 ·omega
theorem WE.one {n:Nat} {L:List Stp} {a b k c k' c':Int} (h:WE n L a b k c) (h':WE n L a b k' c'):k=k'/\c=c':=by
 rcases h with ⟨h1,rfl⟩ | ⟨x,y,rfl,rfl,hx,hy,hxy,rfl,hv⟩ <;> rcases h' with ⟨h2,rfl⟩ | ⟨x',y',e1,e2,hx',hy',hxy',rfl,hv'⟩
 ·exact ⟨rfl,zih h1 h2⟩
 ·rw [e1,e2] at h1
  exact (zej h1 hx' hy' hxy').elim
 ·exact (zej h2 hx hy hxy).elim
 ·obtain rfl:x=x':=by omega
  obtain rfl:y=y':=by omega
  exact ⟨zv0 hv hv',rfl⟩
def DN (n:Nat) (L:List Stp) (a b k c:Int):Prop:=
 (zcn n a b 120 c/\k=0)\/(∃x y:Nat,a=(x:Int)/\b=(y:Int)/\x<n/\y<n/\x≠y/\c=0/\∃(R:List Stp) (PR:List (Int × Int)) (k':Nat),R.Perm L/\zd7 x y R R.length PR/\Val (zfn n x y PR) x ((n+y:Nat):Int) 120 k'/\k=min (120:Int) (((R.filter (zba x y)).length:Int)+(k':Int)))
theorem yabh {n:Nat} {L:List Stp} (he:Ed n 120 L) (hn:n<=40) {a b k c k' c':Int} (h:WN n L a b k c) (h':DN n L a b k' c'):k=k'/\c=c':=by
 rcases h with ⟨h1,rfl⟩ | ⟨x,y,rfl,rfl,hx,hy,hxy,rfl,hv⟩ <;> rcases h' with ⟨h2,rfl⟩ | ⟨x',y',e1,e2,hx',hy',hxy',rfl,R,PR,m,hp,hpr,hv',rfl⟩
 ·exact ⟨rfl,zih h1 h2⟩
 ·rw [e1,e2] at h1
  exact (zej h1 hx' hy' hxy').elim
 ·exact (zej h2 hx hy hxy).elim
 ·obtain rfl:x=x':=by omega
  obtain rfl:y=y':=by omega
  exact ⟨zz9 hp he hn hx hy hxy hpr hv' hv,rfl⟩
theorem yaca {n:Nat} {L:List Stp} {a b k c k' c':Int} (h:WE n L a b k c) (h':WN n L a b k' c'):c=c':=by
 rcases h with ⟨h1,rfl⟩ | ⟨x,y,rfl,rfl,hx,hy,hxy,rfl,hv⟩ <;> rcases h' with ⟨h2,rfl⟩ | ⟨x',y',e1,e2,hx',hy',hxy',rfl,hv'⟩
 ·exact zih h1 h2
 ·rw [e1,e2] at h1
  exact (zej h1 hx' hy' hxy').elim
 ·exact (zej h2 hx hy hxy).elim
 ·rfl
theorem zug {n:Nat} {a b m c:Int} (h:zcn n a b m c):Value.iface 23 (.int .i64 c)=G.zb8 c:=by
 simp [G.zb8,h.ne]
end Go.Proofs.YtebcjaenhiiflaaGreatDoor.S
namespace Go.Proofs.YtebcjaenhiiflaaGreatDoor.I
open Go.Proofs.Tryz
open Go.RowKit Go.WideMaps Go.Maps Go.Lib
variable {w w':World} {a b x q n:Nat} {L R B:List G.E}
theorem ztz (h:Ok n L) (hp:R.Perm L):S.z02 n R:=λ e he=>by
 have:=h.ed e (hp.mem_iff.1 he);exact ⟨e.2.1.toNat,e.2.2.toNat,by omega,by omega,by omega,by omega,by omega⟩
theorem yaai {B0 p:Nat} {v:Value} (i j:Int) (w:World) (h:G.GAt w B0 168 61 p (n:Int) v L) (hok:Ok n L):
 Calls prog 128 #[.pointer (some ⟨p,0,none⟩),.int .i64 i,.int .i64 j,.int .i64 120] w λ e w'=>∃k c,S.WE n L i j k c/\e= .returned (.tuple #[.int .i64 k,G.zb8 c])/\Below w.heap.size w w':=by
 rcases S.zgo n i j with ⟨c,hno⟩ | ⟨x,y,rfl,rfl,hx,hy,hxy⟩
 ·refine (S.zow n B0 p i j 120 c v L w h hno).mono ?_
  rintro e w' ⟨rfl,hb⟩;exact ⟨0,c,.inl ⟨hno,rfl⟩,by rw [S.zug hno],hb⟩
 ·refine (S.zov n B0 p x y 120 v L w h hok.n40 hok.ed' hx hy hxy (Nat.le_refl _)).mono ?_
  rintro e w' ⟨k,rfl,hv,hb⟩;exact ⟨k,0,.inr ⟨x,y,rfl,rfl,hx,hy,hxy,rfl,hv⟩,by simp [G.zb8],hb⟩
theorem yaak {B0 p:Nat} {v:Value} (i j:Int) (w:World) (h:G.GAt w B0 168 61 p (n:Int) v L) (hok:Ok n L):
 Calls prog 129 #[.pointer (some ⟨p,0,none⟩),.int .i64 i,.int .i64 j,.int .i64 120] w λ e w'=>∃k c,S.WN n L i j k c/\e= .returned (.tuple #[.int .i64 k,G.zb8 c])/\Below w.heap.size w w':=by
 rcases S.zgo n i j with ⟨c,hno⟩ | ⟨x,y,rfl,rfl,hx,hy,hxy⟩
 ·refine (S.zos n B0 p i j 120 c v L w h hno).mono ?_
  rintro e w' ⟨rfl,hb⟩;exact ⟨0,c,.inl ⟨hno,rfl⟩,by rw [S.zug hno],hb⟩
 ·refine (S.zoq n B0 p x y 120 v L w h hok.n40 hok.ed' hx hy hxy (Nat.le_refl _)).mono ?_
  rintro e w' ⟨k,rfl,hv,hb⟩;exact ⟨k,0,.inr ⟨x,y,rfl,rfl,hx,hy,hxy,rfl,hv⟩,by simp [G.zb8],hb⟩
theorem yach (h:IV w a b x n L) (i j:Int):
 Calls prog 70 #[.pointer (some ⟨x,0,none⟩),.int .i64 i,.int .i64 j] w λ e w'=>∃k c,S.WE n L i j k c/\e= .returned (.tuple #[.int .i64 k,G.zb8 c])/\Below w.heap.size w w':=by
 obtain ⟨p,q,v,R,B,W,T,D,pw,bw,pt,bt,mp,N,g,h⟩:=h;have HI:Hid _:=yaai i j w h.gra h.ok;have hc:=h.ix.c0;clear h;go_enter func70,ntmps70;go_wp2_with fail;refine Calls.mono HI.out ?_;rintro e w1 ⟨k,c,hk,rfl,hb⟩;have HK:Hid _:=hk;have HB:Hid _:=hb;obtain ⟨ev,hev⟩:∃ev,G.zb8 c=ev:=⟨_,rfl⟩;rw [hev];have HE:=kd hev;clear hk hb hc HI hev;go_wp2_with fail;go_ret2;exact ⟨k,c,HK.out,by rw [HE.out];rfl,HB.out⟩
theorem yadd (h:IV w a b x n L) (i j:Int):
 Calls prog 71 #[.pointer (some ⟨x,0,none⟩),.int .i64 i,.int .i64 j] w λ e w'=>∃k c,S.WN n L i j k c/\e= .returned (.tuple #[.int .i64 k,G.zb8 c])/\Below w.heap.size w w':=by
 obtain ⟨p,q,v,R,B,W,T,D,pw,bw,pt,bt,mp,N,g,h⟩:=h;have HI:Hid _:=yaak i j w h.gra h.ok;have hc:=h.ix.c0;clear h;go_enter func71,ntmps71;go_wp2_with fail;refine Calls.mono HI.out ?_;rintro e w1 ⟨k,c,hk,rfl,hb⟩;have HK:Hid _:=hk;have HB:Hid _:=hb;obtain ⟨ev,hev⟩:∃ev,G.zb8 c=ev:=⟨_,rfl⟩;rw [hev];have HE:=kd hev;clear hk hb hc HI hev;go_wp2_with fail;go_ret2;exact ⟨k,c,HK.out,by rw [HE.out];rfl,HB.out⟩
theorem yace (h:DV w q n L) (hok:Ok n L) (i j:Int):
 Calls prog 68 #[.pointer (some ⟨q,0,none⟩),.int .i64 i,.int .i64 j,.int .i64 120] w λ e w'=>∃k c,S.WE n L i j k c/\e= .returned (.tuple #[.int .i64 k,.int .i64 c])/\Below w.heap.size w w':=by
 obtain ⟨B0,u,R,h1,h2⟩:=h;have hl:=h2.length_eq;have hl2:=hok.len;have hn:=hok.n40;rcases S.zgo n i j with ⟨c,hno⟩ | ⟨x,y,rfl,rfl,hx,hy,hxy⟩
 ·refine (S.z8m n B0 q u R i j 120 c w h1 (by omega) hno).mono ?_
  rintro e w' ⟨rfl,hw⟩;subst hw;exact ⟨0,c,.inl ⟨hno,rfl⟩,rfl,Below.refl _ _⟩
 ·refine (S.z8z n B0 q x y 120 u R w h1 hn (ztz hok h2) (by omega) hx hy hxy (Nat.le_refl _)).mono ?_
  rintro e w' ⟨k,rfl,hv,hb⟩;refine ⟨k,0,.inr ⟨x,y,rfl,rfl,hx,hy,hxy,rfl,?_⟩,rfl,hb⟩;have hc:F.cap (S.lD (S.edS L)) (S.lr (S.edS L))=λ Z=>((R.filter (S.crs Z)).length:Int):=by
   funext Z
   rw [S.z88 hok.ed' Z,(h2.filter (S.crs Z)).length_eq]
  rw [hc];exact hv
theorem yacr (h:DV w q n L) (hok:Ok n L) (i j:Int):
 Calls prog 69 #[.pointer (some ⟨q,0,none⟩),.int .i64 i,.int .i64 j,.int .i64 120] w λ e w'=>∃k c,S.DN n L i j k c/\e= .returned (.tuple #[.int .i64 k,.int .i64 c])/\Below w.heap.size w w':=by
 obtain ⟨B0,u,R,h1,h2⟩:=h;have hl:=h2.length_eq;have hl2:=hok.len;have hn:=hok.n40;rcases S.zgo n i j with ⟨c,hno⟩ | ⟨x,y,rfl,rfl,hx,hy,hxy⟩
 ·refine (S.z8u n B0 q u R i j 120 c w h1 (by omega) hno).mono ?_
  rintro e w' ⟨rfl,hw⟩;subst hw;exact ⟨0,c,.inl ⟨hno,rfl⟩,rfl,Below.refl _ _⟩
 ·refine (S.z8y n B0 q x y 120 u R w h1 hn (ztz hok h2) (by omega) hx hy hxy (Nat.le_refl _)).mono ?_
  rintro e w' ⟨k,PR,rfl,hpr,hv,hb⟩;exact ⟨_,0,.inr ⟨x,y,rfl,rfl,hx,hy,hxy,rfl,R,PR,k,h2,hpr,hv,rfl⟩,rfl,hb⟩
end Go.Proofs.YtebcjaenhiiflaaGreatDoor.I
namespace Go.Proofs.YtebcjaenhiiflaaGreatDoor.I
open Go.RowKit Go.WideMaps Go.Maps Go.Lib Go.Proofs.Tryz
variable {w w' wG:World} {a b x q n:Nat} {L R B:List G.E} {W T:List Nat}
def Ps (w:World) (a:Option Addr) (M:List (Int × Int)):Prop:=0<M.length->∃g,a=some ⟨g,0,none⟩/\∀j x,M[j]? =some x->w.cell? ⟨g,j*2,none⟩=some (.int .i64 x.1)/\w.cell? ⟨g,j*2+1,none⟩=some (.int .i64 x.2)
theorem Ps.below {a:Option Addr} {M:List (Int × Int)} (h:Ps w a M) (hb:Below w.heap.size w w'):Ps w' a M:=by
 intro hk;obtain ⟨g,e,hc⟩:=h hk;exact ⟨g,e,λ j x hx=>⟨S.cell_below (hc j x hx).1 hb,S.cell_below (hc j x hx).2 hb⟩⟩
noncomputable def spi (n:Nat) (L:List G.E):List (Int × Int):=(spz n L).map λ p=>((p.1:Int),(p.2:Int))
theorem zxm {a:Option Addr} {M:List (Nat × Nat)} (h:0<M.length->∃g,a=some ⟨g,0,none⟩/\∀j x,M[j]? =some x->w.cell? ⟨g,j*2,none⟩=some (.int .i64 (x.1:Int))/\w.cell? ⟨g,j*2+1,none⟩=some (.int .i64 (x.2:Int))):Ps w a (M.map λ p=>((p.1:Int),(p.2:Int))):=by
 intro hk;rw [List.length_map] at hk;obtain ⟨g,e,hc⟩:=h hk;refine ⟨g,e,λ j x hx=>?_⟩;rw [List.getElem?_map] at hx;cases hy:M[j]? with
 | none=>rw [hy] at hx;cases hx
 | some y=>
   rw [hy] at hx;injection hx with hx
   rw [<-hx];exact hc j y hy
theorem ipairs' (h:IV w a b x n L):
 Calls prog 38 #[.pointer (some ⟨x,0,none⟩)] w λ e w'=>∃a c,e= .returned (.slice a (prz n L).length c)/\Ps w' a (prz n L)/\Below w.heap.size w w':=by
 refine (yaay h).mono ?_;rintro e w' ⟨v,rfl,ho,hb⟩;obtain ⟨a',c,rfl,hs⟩:=ho.shape;exact ⟨a',c,rfl,hs,hb⟩
theorem dpairs' (h:DV w q n L) (hok:Ok n L):
 Calls prog 65 #[.pointer (some ⟨q,0,none⟩)] w λ e w'=>∃a c,e= .returned (.slice a (prz n L).length c)/\Ps w' a (prz n L)/\Below w.heap.size w w':=by
 refine (yaag h hok).mono ?_;rintro e w' ⟨v,rfl,ho,hb⟩;obtain ⟨a',c,rfl,hs⟩:=ho.shape;exact ⟨a',c,rfl,hs,hb⟩
theorem znd (n:Nat) (L:List G.E):(spz n L).length=(spi n L).length:=by simp [spi]
theorem isplits' (h:IV w a b x n L):
 Calls prog 39 #[.pointer (some ⟨x,0,none⟩)] w λ e w'=>∃a c,e= .returned (.slice a (spi n L).length c)/\Ps w' a (spi n L)/\Below w.heap.size w w':=by
 refine (z8d h).mono ?_;rintro e w' ⟨v,rfl,ho,hb⟩;obtain ⟨a',c,rfl,hs⟩:=ho.shape;exact ⟨a',c,by rw [znd],zxm hs,hb⟩
theorem dsplits' (h:DV w q n L) (hok:Ok n L):
 Calls prog 66 #[.pointer (some ⟨q,0,none⟩)] w λ e w'=>∃a c,e= .returned (.slice a (spi n L).length c)/\Ps w' a (spi n L)/\Below w.heap.size w w':=by
 refine (z8t h hok).mono ?_;rintro e w' ⟨v,rfl,ho,hb⟩;obtain ⟨a',c,rfl,hs⟩:=ho.shape;exact ⟨a',c,by rw [znd],zxm hs,hb⟩
theorem z5w (h:Ok n L):(prz n L).length<=14400:=by
 unfold prz;have h1:=S.zfb (λ e d=>decide (S.zay n (S.grw n L).1 (S.grw n L).2 e=S.zay n (S.grw n L).1 (S.grw n L).2 d)) (L.filter λ e=>decide (S.zay n (S.grw n L).1 (S.grw n L).2 e≠0));have h2:(L.filter λ e=>decide (S.zay n (S.grw n L).1 (S.grw n L).2 e≠0)).length<=120:=Nat.le_trans (List.length_filter_le _ _) h.len;have h3:=Nat.mul_le_mul h2 h2;omega
theorem yaaf (h:Ok n L):(spi n L).length<=1600:=by
 rw [<-znd];unfold spz;have h1:=S.X.zkm (open Classical in λ a b=>decide (S.X.zfz L n a b)) (n:=n) (a:=n);have h2:=Nat.mul_le_mul h.n40 h.n40;omega
theorem zi0 {a1 a2:Option Addr} {M:List (Int × Int)} (c1 c2:Nat) (h1:Ps w a1 M) (h2:Ps w a2 M) (hM:M.length<=100000):
 Calls prog 64 #[.slice a1 M.length c1,.slice a2 M.length c2] w λ e w'=>e= .returned (.bool true)/\∃n,w'=w.drewN n:=S.zop a1 a2 c1 c2 M w hM h1 h2
theorem zpu {a1 a2:Option Addr} {K:List Int} (c1 c2:Nat) (h1:Zs w a1 K) (h2:Zs w a2 K) (hK:K.length<=1000):
 Calls prog 60 #[.slice a1 K.length c1,.slice a2 K.length c2] w λ e w'=>e= .returned (.bool true)/\∃n,w'=w.drewN n:=
 S.zv8 a1 a2 K.length c1 c2 (λ j=>K.getD j 0) w (λ h=>by
  obtain ⟨g1,e1,f1⟩:=h1 h;obtain ⟨g2,e2,f2⟩:=h2 h;exact ⟨g1,g2,e1,e2,f1,f2⟩) (by omega)
theorem zlo {u1:Value} {a2:Option Addr} {Gs:List (List Nat)} (c2:Nat) (h1:S.zdd w u1 Gs) (h2:S.Rd w a2 Gs Gs.length) (hl:Gs.length<=1000) (hg:∀i,(Gs.getD i []).length<=1000):
 Calls prog 61 #[u1,.slice a2 Gs.length c2] w λ e w'=>e= .returned (.bool true)/\∃n,w'=w.drewN n:=by
 obtain ⟨g1,c1,rfl,r1⟩:=h1;refine S.zk8 _ a2 Gs.length c1 c2 Gs w (λ hc=>?_) (by omega) (λ i=>by have:=hg i;omega);obtain ⟨g2,e2,r2⟩:=h2 hc;exact ⟨g1,g2,rfl,e2,r1,r2⟩
structure Kn (wG w:World) (x n:Nat) (L:List G.E) (q:Nat):Prop where
 iv:∃a b,IV w a b x n L
 dv:DV w q n L
 gl:G.Gl w
 below:Below wG.heap.size wG w
theorem Kn.next (h:Kn wG w x n L q) (hb:Below w.heap.size w w'):Kn wG w' x n L q:=by
 obtain ⟨⟨a,b,h1⟩,h2,h3,h4⟩:=h;exact ⟨⟨a,b,h1.below hb⟩,h2.below hb,h3.below hb,h4.trans (hb.mono h4.size)⟩
theorem Kn.c0 (h:Kn wG w x n L q):w.cell? ⟨q,0,none⟩=some (.int .i64 (n:Int)):=by
 obtain ⟨B,u,R,h1,_⟩:=h.dv;exact h1.c0
theorem zn7 (h:Kn w w x n L q) (hok:Ok n L) (s:S.St n L W T B):
 Calls prog 23 #[.pointer (some ⟨x,0,none⟩),.pointer (some ⟨q,0,none⟩)] w λ e w'=>e= .returned (.bool true)/\Below w.heap.size w w':=by
 have HK0:=kd h;have HS:=kd s;have HOK:=kd hok;have hn40:=hok.n40;have hl120:=hok.len;clear h s hok;go_enter func23,ntmps23;go_wp2_with fail;obtain ⟨_,_,hq⟩:=HK0.out.iv;have HC:Hid _:=yaam hq;clear hq;refine Calls.mono HC.out ?_;rintro e K1 ⟨u1,rfl,hz,hb⟩;have HK1:Hid (Kn w K1 x n L q):=HK0.out.next hb;have HZ1:Hid (∃B0,G.zad K1 B0 61 u1 L):=⟨_,hz⟩;clear hz hb HC HK0;go_wp2_with fail;have hq:=HK1.out.dv;have HC:Hid _:=z8h hq HOK.out;clear hq;refine Calls.mono HC.out ?_;rintro e K2 ⟨u2,rfl,hz,hb⟩;have HK2:Hid (Kn w K2 x n L q):=HK1.out.next hb;have HZ2:Hid (∃B0,G.zad K2 B0 61 u2 L):=⟨_,hz⟩;have HM:=kd hb;clear hz hb HC HK1;obtain ⟨B1,hz1⟩:=HZ1.out;obtain ⟨B2,hz2⟩:=HZ2.out;have HE:Hid _:=G.zu3 B1 B2 u1 u2 L K2 (hz1.below HM.out) hz2 (by omega);clear hz1 hz2;go_wp2_with fail;have HC:Hid _:=HE.out;refine Calls.mono HC.out ?_;rintro e K3 ⟨rfl,hb⟩;have HK3:Hid (Kn w K3 x n L q):=HK2.out.next hb;clear hb HC HZ1 HZ2 HM HK2;clear HE;go_wp2_with fail;obtain ⟨_,_,hq⟩:=HK3.out.iv;have HC:Hid _:=z18 hq;clear hq;refine Calls.mono HC.out ?_;rintro e K4 ⟨a1,c1,rfl,hz,hb⟩;have HK4:Hid (Kn w K4 x n L q):=HK3.out.next hb;have HZ1:=kd hz;clear hz hb HC HK3;have hbl:=zt0 (HK4.out.iv.choose_spec.choose_spec);go_wp2_with fail;have hq:=HK4.out.dv;have HC:Hid _:=zrm hq HOK.out HS.out;clear hq;refine Calls.mono HC.out ?_;rintro e K5 ⟨a2,c2,rfl,hz,hb⟩;have HK5:Hid (Kn w K5 x n L q):=HK4.out.next hb;have HZ2:=kd hz;have HM:=kd hb;clear hz hb HC HK4;go_wp2_with fail;have HC:Hid _:=zpu (K:=brz n L) c1 c2 (HZ1.out.below HM.out) HZ2.out (by omega);refine Calls.mono HC.out ?_;rintro e K6 ⟨rfl,nq,hw⟩;have hb:Below K5.heap.size K5 K6:=by rw [hw];exact below_drewN _ _
 have HK6:Hid (Kn w K6 x n L q):=HK5.out.next hb;clear hb hw HC HZ1 HZ2 HM HK5;clear hbl;go_wp2_with fail;obtain ⟨_,_,hq⟩:=HK6.out.iv;have HC:Hid _:=z5q hq;clear hq;refine Calls.mono HC.out ?_;rintro e K7 ⟨u1,rfl,hz,hb⟩;have HK7:Hid (Kn w K7 x n L q):=HK6.out.next hb;have HZ1:=kd hz;clear hz hb HC HK6;go_wp2_with fail;have hq:=HK7.out.dv;have HC:Hid _:=z5i hq HOK.out;clear hq;refine Calls.mono HC.out ?_;rintro e K8 ⟨a2,c2,rfl,hz,hb⟩;have HK8:Hid (Kn w K8 x n L q):=HK7.out.next hb;have HZ2:=kd hz;have HM:=kd hb;clear hz hb HC HK7;go_wp2_with fail;have HC:Hid _:=zlo (Gs:=blz n L) c2 (zj4 HZ1.out HM.out) HZ2.out (by have:=(zs8 n L).1;omega) (λ i=>by have:=(zs8 n L).2 i;omega);refine Calls.mono HC.out ?_;rintro e K9 ⟨rfl,nq,hw⟩;have hb:Below K8.heap.size K8 K9:=by rw [hw];exact below_drewN _ _
 have HK9:Hid (Kn w K9 x n L q):=HK8.out.next hb;clear hb hw HC HZ1 HZ2 HM HK8;go_wp2_with fail;obtain ⟨_,_,hq⟩:=HK9.out.iv;have HC:Hid _:=yabv hq;clear hq;refine Calls.mono HC.out ?_;rintro e K10 ⟨a1,c1,rfl,hz,hb⟩;have HK10:Hid (Kn w K10 x n L q):=HK9.out.next hb;have HZ1:=kd hz;clear hz hb HC HK9;go_wp2_with fail;have hq:=HK10.out.dv;have HC:Hid _:=yab5 hq HOK.out;clear hq;refine Calls.mono HC.out ?_;rintro e K11 ⟨a2,c2,rfl,hz,hb⟩;have HK11:Hid (Kn w K11 x n L q):=HK10.out.next hb;have HZ2:=kd hz;have HM:=kd hb;clear hz hb HC HK10;go_wp2_with fail;have HC:Hid _:=zpu (K:=ze8 n L) c1 c2 (HZ1.out.below HM.out) HZ2.out (by have:=z1c n L;omega);refine Calls.mono HC.out ?_;rintro e K12 ⟨rfl,nq,hw⟩;have hb:Below K11.heap.size K11 K12:=by rw [hw];exact below_drewN _ _
 have HK12:Hid (Kn w K12 x n L q):=HK11.out.next hb;clear hb hw HC HZ1 HZ2 HM HK11;go_wp2_with fail;obtain ⟨_,_,hq⟩:=HK12.out.iv;have HC:Hid _:=ipairs' hq;clear hq;refine Calls.mono HC.out ?_;rintro e K13 ⟨a1,c1,rfl,hz,hb⟩;have HK13:Hid (Kn w K13 x n L q):=HK12.out.next hb;have HZ1:=kd hz;clear hz hb HC HK12;go_wp2_with fail;have hq:=HK13.out.dv;have HC:Hid _:=dpairs' hq HOK.out;clear hq;refine Calls.mono HC.out ?_;rintro e K14 ⟨a2,c2,rfl,hz,hb⟩;have HK14:Hid (Kn w K14 x n L q):=HK13.out.next hb;have HZ2:=kd hz;have HM:=kd hb;clear hz hb HC HK13;go_wp2_with fail;have HC:Hid _:=zi0 (M:=prz n L) c1 c2 (HZ1.out.below HM.out) HZ2.out (by have:=z5w HOK.out;omega);refine Calls.mono HC.out ?_;rintro e K15 ⟨rfl,nq,hw⟩;have hb:Below K14.heap.size K14 K15:=by rw [hw];exact below_drewN _ _
 have HK15:Hid (Kn w K15 x n L q):=HK14.out.next hb;clear hb hw HC HZ1 HZ2 HM HK14;go_wp2_with fail;obtain ⟨_,_,hq⟩:=HK15.out.iv;have HC:Hid _:=isplits' hq;clear hq;refine Calls.mono HC.out ?_;rintro e K16 ⟨a1,c1,rfl,hz,hb⟩;have HK16:Hid (Kn w K16 x n L q):=HK15.out.next hb;have HZ1:=kd hz;clear hz hb HC HK15;go_wp2_with fail;have hq:=HK16.out.dv;have HC:Hid _:=dsplits' hq HOK.out;clear hq;refine Calls.mono HC.out ?_;rintro e K17 ⟨a2,c2,rfl,hz,hb⟩;have HK17:Hid (Kn w K17 x n L q):=HK16.out.next hb;have HZ2:=kd hz;have HM:=kd hb;clear hz hb HC HK16;go_wp2_with fail;have HC:Hid _:=zi0 (M:=spi n L) c1 c2 (HZ1.out.below HM.out) HZ2.out (by have:=yaaf HOK.out;omega);refine Calls.mono HC.out ?_;rintro e K18 ⟨rfl,nq,hw⟩;have hb:Below K17.heap.size K17 K18:=by rw [hw];exact below_drewN _ _
 have HK18:Hid (Kn w K18 x n L q):=HK17.out.next hb;clear hb hw HC HZ1 HZ2 HM HK17;go_wp2_with fail;obtain ⟨_,_,hq⟩:=HK18.out.iv;have HC:Hid _:=z6b hq;clear hq;refine Calls.mono HC.out ?_;rintro e K19 ⟨u1,rfl,hz,hb⟩;have HK19:Hid (Kn w K19 x n L q):=HK18.out.next hb;have HZ1:=kd hz;clear hz hb HC HK18;go_wp2_with fail;have hq:=HK19.out.dv;have HC:Hid _:=z6h hq HOK.out;clear hq;refine Calls.mono HC.out ?_;rintro e K20 ⟨a2,c2,rfl,hz,hb⟩;have HK20:Hid (Kn w K20 x n L q):=HK19.out.next hb;have HZ2:=kd hz;have HM:=kd hb;clear hz hb HC HK19;go_wp2_with fail;have HC:Hid _:=zlo (Gs:=thz n L) c2 (zj4 HZ1.out HM.out) HZ2.out (by have:=(ztd n L).1;omega) (λ i=>by have:=(ztd n L).2 i;omega);refine Calls.mono HC.out ?_;rintro e K21 ⟨rfl,nq,hw⟩;have hb:Below K20.heap.size K20 K21:=by rw [hw];exact below_drewN _ _
 have HK21:Hid (Kn w K21 x n L q):=HK20.out.next hb;clear hb hw HC HZ1 HZ2 HM HK20;go_wp2_with fail;go_loopw [5] (λ s5 wq=>∃i:Nat,i<=n+2/\s5= .int .i64 ((i:Int)-1)/\Kn w wq x n L q) (λ s5 _=>((n:Int)+2-(intOf s5)).toNat)
 case atStart=>exact ⟨0,by omega,rfl,HK21.out⟩
 case round=>
  clear HK21;obtain ⟨i,hi,rfl,hk⟩:=hrel;have HA:=kd hk;have hc0:=hk.c0;clear hk;obtain ⟨A,hA⟩:∃A:Int,(i:Int)-1=A:=⟨_,rfl⟩;rw [hA];have HAE:=kd hA;by_cases hlt:i<=n+1
  ·have hle:A<=(n:Int):=by omega
   obtain ⟨h,hh⟩:∃h:Int,A.tdiv 2=h:=⟨_,rfl⟩;have hh1:-1<=h/\h<=40:=by
    rw [<-hh];rcases Int.lt_or_le A 0 with k | k
    ·have:A= -1:=by omega
     subst this
     decide
    ·rw [Int.tdiv_eq_ediv_of_nonneg k];omega
   have hw1:IntKind.i64.wrap h=h:=by rw [IntKind.wrap_i64];omega
   have hw2:IntKind.i64.wrap (h+1)=h+1:=by rw [IntKind.wrap_i64];omega
   have hA1:-1<=A:=by omega
   clear hA;go_wp2_with fail;clear hc0 hw1 hw2;obtain ⟨Bv,hBv⟩:∃Bv:Int,h+1=Bv:=⟨_,rfl⟩;rw [hBv];clear hBv hh1 hh;have HC:Hid _:=yace HA.out.dv HOK.out A Bv;refine Calls.mono HC.out ?_;rintro e M1 ⟨k1,c,hwe,rfl,hb⟩;have HA1:Hid (Kn w M1 x n L q):=HA.out.next hb;have HWE:=kd hwe;clear hb hwe HC HA;go_wp2_with fail;have HC:Hid _:=yacr HA1.out.dv HOK.out A Bv;refine Calls.mono HC.out ?_;rintro e M2 ⟨k2,c2,hdn,rfl,hb⟩;have HA2:Hid (Kn w M2 x n L q):=HA1.out.next hb;have HDN:=kd hdn;clear hb hdn HC HA1;go_wp2_with fail;obtain ⟨_,_,hq⟩:=HA2.out.iv;have HC:Hid _:=yach hq A Bv;clear hq;refine Calls.mono HC.out ?_;rintro e M3 ⟨k3,c3,hwe,rfl,hb⟩;have HA3:Hid (Kn w M3 x n L q):=HA2.out.next hb;obtain ⟨rfl,rfl⟩:=S.WE.one hwe HWE.out;obtain ⟨ev,hev⟩:∃ev,ev=G.zb8 c3:=⟨_,rfl⟩;rw [<-hev];have HEV:=kd hev;clear hb hwe HC HA2 hev;go_wp2_with fail;obtain ⟨_,_,hq⟩:=HA3.out.iv;have HC:Hid _:=yadd hq A Bv;clear hq;refine Calls.mono HC.out ?_;rintro e M4 ⟨k4,c4,hwn,rfl,hb⟩;have HA4:Hid (Kn w M4 x n L q):=HA3.out.next hb;obtain ⟨hk4,hc4⟩:=S.yabh HOK.out.ed' HOK.out.n40 hwn HDN.out;have hc4':=S.yaca HWE.out hwn;rw [<-hc4'];subst hk4;obtain ⟨ew,hew⟩:∃ew,ew=G.zb8 c3:=⟨_,rfl⟩;rw [<-hew];have HEW:=kd hew;clear hb hwn HC HA3 hc4 hc4' hew HDN;go_wp2_with fail;refine (G.zga ev c3 M4 HA4.out.gl HEV.out).mono ?_;rintro e M5 ⟨rfl,hb⟩;have HA5:Hid (Kn w M5 x n L q):=HA4.out.next hb;clear hb HA4;go_wp2_with fail;refine (G.zga ew c3 M5 HA5.out.gl HEW.out).mono ?_;rintro e M6 ⟨rfl,hb⟩;have HA6:Hid (Kn w M6 x n L q):=HA5.out.next hb;clear hb HA5;go_wp2_with fail;go_roundw;case rel=>exact ⟨i+1,by omega,by have:=HAE.out;go_num,HA6.out⟩
   case measure=>simp [intOf];omega
  ·have hgt:¬A<=(n:Int):=by omega
   clear hA;go_wp2_with fail;go_ret;exact ⟨rfl,HA.out.below⟩
end Go.Proofs.YtebcjaenhiiflaaGreatDoor.I
