import Derived.Test.YtebcjaenhiiflaaGreatDoorQGYfGI
set_option maxHeartbeats 4000000
set_option maxRecDepth 100000
namespace Go.Proofs.YtebcjaenhiiflaaGreatDoor.G
open Go.RowKit Go.Proofs.Tryz
theorem zd2 (x n:Int) (B p:Nat) (v:Value) (L:List E) (w:World) (h:GAt w B 168 61 p n v L) (hx:0<=x/\x<n):
 Calls prog 116 #[.pointer (some ⟨p,0,none⟩),.int .i64 x] w λ e w'=>e= .returned (.bool true)/\w'=w:=zs9 x n B p v L true w h (decide_eq_true hx).symm
theorem zpw {w w1 w2:World} {B gT p:Nat} {n:Int} {v u:Value} {L M:List E} (h:GAt w1 B gT 61 p n v L) (hb:Below w.heap.size w w1) (hg:w1.grownBy w2 v.ownBlock) (hr:zad w2 B 61 u M) (hf:zbr w1 v u) (hp:p<w.heap.size):zfx w (w2.setCell ⟨p,1,none⟩ u) B gT p n v M:=by
 have hu:u.ownBlock≠some p:=by
  intro e;rcases hf p e with h1 | h1
  ·exact h.ne h1
  ·have:=hb.size;omega
 refine ⟨u,h.store hg hr hu,((Kept.of_below hb).trans (Kept.zgj hg)).setCell 1 u,λ k hk=>?_⟩;rcases hf k hk with h1 | h1
 ·exact Or.inl h1
 ·exact Or.inr (Nat.le_trans hb.size h1)
theorem z9w (id a b n lo hi:Int) (B p:Nat) (v:Value) (L M:List E) (w:World) (h:GAt w B 168 61 p n v L) (hB:B<=w.heap.size) (hu:Up L) (hl:L.length<120) (hr:zb4 id a b n) (hab:a≠b) (hs:seen L id=none) (hlo:lo=min a b) (hhi:hi=max a b) (hM:M=zca L (id,lo,hi)):
 Calls prog 56 #[.pointer (some ⟨p,0,none⟩),.int .i64 id,.int .i64 a,.int .i64 b] w λ e w'=>e= .returned .nilIface/\zfx w w' B 168 p n v M:=by
 obtain ⟨k,hk⟩:∃k,k=place L id:=⟨_,rfl⟩;have hkl:k<=L.length:=by rw [hk];exact zhq L id
 have HC:Hid (Calls prog 114 #[.pointer (some ⟨p,0,none⟩),.int .i64 id] w λ e w'=>e= .returned (.tuple #[.int .i64 (k:Int),.bool false])/\Below w.heap.size w w'):=zge id B p k n v L false w h hu (by omega) hk (by rw [hs];rfl);have HG:=kd h;have h1:¬id<0:=by have:=hr.1.1;omega
 have h2:¬1099511627776<id:=by have:=hr.1.2;omega
 have H3:=kd hr.2.1;have H4:=kd hr.2.2;have h5:(a==b)=false:=beq_eq_false_iff_ne.2 hab;have HM:Hid (M=L.take k++(id,lo,hi)::L.drop k):=by
  show M=_;rw [hM,hk];rfl
 have HL:Hid (k<=L.length/\L.length<=1000):=⟨hkl,by omega⟩;have HBB:=kd hB;have hsl:=h.row.zal;obtain ⟨va,vc,hv⟩:=hsl;obtain ⟨m,hm⟩:∃m,m=L.length:=⟨_,rfl⟩;rw [<-hm] at hl hv hkl;have hl':¬((120:Int)<=(m:Int)):=by omega
 have HV:=kd hv;clear hr h hu hs hM hm hB hv hk;have fin:∀(w3:World),Below w.heap.size w w3->Calls prog 117 #[.slice va m vc,.int .i64 (k:Int),.slice (some ⟨w3.heap.size,0,none⟩) 1 1] (w3.alloc (.cells #[.int .i64 id,.int .i64 lo,.int .i64 hi] 61)) λ e w4=>∃a' m' c',e= .returned (.slice a' m' c')/\zfx w (w4.setCell ⟨p,1,none⟩ (.slice a' m' c')) B 168 p n v M/\w4.cell? ⟨p,1,none⟩=some v/\w4.frozen? ⟨p,1,none⟩=false:=by
  intro w3 hb;have hb2:Below w.heap.size w (w3.alloc (.cells #[.int .i64 id,.int .i64 lo,.int .i64 hi] 61)):=hb.alloc hb.size _;have hg:=HG.out.below hb2;rw [<-HV.out];refine (zu9 B k w3.heap.size v L M (id,lo,hi) _ hg.row (Nat.le_trans HBB.out hb2.size) (heap_alloc_new w3 _) (λ e=>?_) HL.out.1 HL.out.2 HM.out).mono ?_
  ·have:=(HG.out.lt e).2
   have:=hb.size;omega
  ·rintro e w4 ⟨v',rfl,i1,i2,i3⟩
   obtain ⟨a',m',c',rfl⟩:=i1.slice;exact ⟨a',m',c',rfl,zpw hg hb2 i2 i1 i3 HG.out.plt,(zhb hg i2).1,(zhb hg i2).2⟩
 have HFIN:=kd fin;clear fin;rcases Int.lt_or_gt_of_ne hab with hlt | hgt
 ·obtain rfl:lo=a:=by rw [hlo];omega
  obtain rfl:hi=b:=by rw [hhi];omega
  clear hlo hhi hab;go_enter func56,ntmps56;go_wp2_with fail;refine (zd2 lo n B p v L w HG.out H3.out).mono ?_;rintro e w1 ⟨rfl,rfl⟩;go_wp2_with fail;refine (zd2 hi n B p v L w1 HG.out H4.out).mono ?_;rintro e w2 ⟨rfl,rfl⟩;go_wp2_with fail;refine HC.out.mono ?_;rintro e w3 ⟨rfl,hb⟩;have HB:=kd hb;have hp:=(HG.out.below hb).c1;rw [HV.out] at hp;clear hb HC;go_wp2_with fail;refine (HFIN.out w3 HB.out).mono ?_;rintro e w4 ⟨a',m',c',rfl,hst,q1,q2⟩;have HST:=kd hst;clear hst;go_wp2_with fail;go_ret;exact ⟨rfl,HST.out⟩
 ·obtain rfl:lo=b:=by rw [hlo];omega
  obtain rfl:hi=a:=by rw [hhi];omega
  clear hlo hhi hab;go_enter func56,ntmps56;go_wp2_with fail;refine (zd2 hi n B p v L w HG.out H3.out).mono ?_;rintro e w1 ⟨rfl,rfl⟩;go_wp2_with fail;refine (zd2 lo n B p v L w1 HG.out H4.out).mono ?_;rintro e w2 ⟨rfl,rfl⟩;go_wp2_with fail;refine HC.out.mono ?_;rintro e w3 ⟨rfl,hb⟩;have HB:=kd hb;have hp:=(HG.out.below hb).c1;rw [HV.out] at hp;clear hb HC;go_wp2_with fail;refine (HFIN.out w3 HB.out).mono ?_;rintro e w4 ⟨a',m',c',rfl,hst,q1,q2⟩;have HST:=kd hst;clear hst;go_wp2_with fail;go_ret;exact ⟨rfl,HST.out⟩
end Go.Proofs.YtebcjaenhiiflaaGreatDoor.G
