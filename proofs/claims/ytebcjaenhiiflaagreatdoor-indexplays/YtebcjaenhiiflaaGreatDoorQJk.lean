import Derived.Test.YtebcjaenhiiflaaGreatDoorQJj
import Derived.Test.YtebcjaenhiiflaaGreatDoorQJcJd
import Derived.Test.YtebcjaenhiiflaaGreatDoorQGYd
set_option maxHeartbeats 2000000
set_option maxRecDepth 100000
namespace Go.Proofs.YtebcjaenhiiflaaGreatDoor.I
open Go.RowKit Go.Proofs.Tryz
theorem zmg (a b:List UInt8):(⟨a.toArray⟩:ByteArray)++(⟨b.toArray⟩:ByteArray)=⟨(a++b).toArray⟩:=by
 apply WideShapes.bytes_inj;rw [ByteArray.data_append];simp
theorem zyp:(⟨#[10]⟩:ByteArray)=⟨([10]:List UInt8).toArray⟩:=rfl
theorem zzj {w0 w:World} {e0 e1 e2:Int} (hb:Below w0.heap.size w0 w) (hv:Vars w0) (h0:0<=e0/\e0<=9223372036854775807) (h1:0<=e1/\e1<=9223372036854775807) (h2:0<=e2/\e2<=9223372036854775807):
 Calls prog 77 #[.slice (some ⟨w.heap.size+1,0,none⟩) 3 3] ((w.alloc (.cells #[.int .i64 e0,.int .i64 e1,.int .i64 e2] 61)).alloc (.cells #[.int .i64 e0,.int .i64 e1,.int .i64 e2] 3)) λ e w'=>e= .returned (.string ⟨(zax [e0,e1,e2]).toArray⟩)/\Below w.heap.size w w':=by
 have hb1:Below w.heap.size w ((w.alloc (.cells #[.int .i64 e0,.int .i64 e1,.int .i64 e2] 61)).alloc (.cells #[.int .i64 e0,.int .i64 e1,.int .i64 e2] 3)):=((Below.refl _ w).alloc (Nat.le_refl _) _).alloc (by simp) _;have hnew:=World.alloc_heap_new (w.alloc (.cells #[.int .i64 e0,.int .i64 e1,.int .i64 e2] 61)) (.cells #[.int .i64 e0,.int .i64 e1,.int .i64 e2] 3);rw [World.size_alloc] at hnew;refine (zn1 (some ⟨w.heap.size+1,0,none⟩) (w.heap.size+1) 3 3 [e0,e1,e2] _ rfl (λ _=>rfl) (λ j x hx=>?_) (λ x hx=>?_) (by simp) ((hv.on hb hv.big).below hb1)).mono ?_
 ·exact zi5 (ns:=[e0,e1,e2]) hnew hx
 ·simp at hx
  rcases hx with rfl | rfl | rfl <;> assumption
 ·rintro e w' ⟨rfl,hb2⟩
  exact ⟨rfl,hb1.trans (hb2.mono hb1.size)⟩
theorem zw7 (q n B:Nat) (u:Value) (R L:List G.E) (w:World) (hg:G.GAt w B 40 61 q (n:Int) u R) (hok:Ok n L) (hp:R.Perm L) (hv:Vars w):
 Calls prog 29 #[.pointer (some ⟨q,0,none⟩)] w λ e w'=>e= .returned (.string ⟨(svI n L).toArray⟩)/\Below w.heap.size w w':=by
 have HG:=kd hg;have HOK:=kd hok;have HP:=kd hp;have HV:=kd hv;have hc:=hg.c0;have hn0:(0:Int)<=(n:Int)/\(n:Int)<=40:=by have:=hok.n40;omega
 clear hg hok hp hv;go_enter func29,ntmps29;go_wp2_with fail;have hb1:Below w.heap.size w (w.alloc (.cells #[.int .i64 (n:Int)] 3)):=(Below.refl _ w).alloc (Nat.le_refl _) _;refine Calls.mono (zn1 (some ⟨w.heap.size,0,none⟩) w.heap.size 1 1 [(n:Int)] _ rfl (λ _=>rfl) (λ j x hx=>zi5 (ns:=[(n:Int)]) (World.alloc_heap_new w _) hx) (λ x hx=>by simp at hx;omega) (by simp) (HV.out.below hb1)) ?_;rintro e w2 ⟨rfl,hb2⟩;have HB2:Hid (Below w.heap.size w w2):=hb1.trans (hb2.mono hb1.size);have HE:Hid _:=G.zer B q (n:Int) u R L w2 (HG.out.below HB2.out) ⟨HOK.out.up,HP.out,HOK.out.len⟩;have hlen:L.length<=120:=HOK.out.len;have hst:(⟨(zax [(n:Int)]).toArray⟩:ByteArray)++⟨#[10]⟩=⟨(svI n (L.take 0)).toArray⟩:=by
  rw [zyp,zmg];simp [svI]
 have hsz1:¬9223372036854775807<(zax [(n:Int)]).length+1:=by
  have:=zdf (ns:=[(n:Int)]) (λ x hx=>by simp at hx;omega);simp at this;omega
 generalize hll:L.length=len at hlen;have HLL:=kd hll;clear hll hb1 hb2 hc;go_wp2_with (go_at_call 15;refine Calls.mono HE.out ?_;rintro e w3 ⟨u3,rfl,hu3,hb3⟩;obtain ⟨a3,c3,hu3e⟩:=hu3.zal;rw [HLL.out] at hu3e;subst hu3e);have HB3:Hid (Below w.heap.size w w3):=HB2.out.trans (hb3.mono HB2.out.size);have HU:=kd hu3;have HST:Hid _:=hst;clear hb3 HE hu3 hst;go_loopw [3,16] (λ s3 s16 wq=>∃j:Nat,j<=len/\s16= .int .i64 j/\s3= .string ⟨(svI n (L.take j)).toArray⟩/\Below w.heap.size w wq/\G.zad wq w2.heap.size 61 (.slice a3 len c3) L) (λ _ s16 _=>len-(RowKit.intOf s16).toNat)
 case atStart=>exact ⟨0,Nat.zero_le _,rfl,rfl,HB3.out,HU.out⟩
 case round=>
  obtain ⟨j,hj,rfl,rfl,hbr,how⟩:=hrel;have HBR:=kd hbr;have HO:=kd how;clear hbr how;by_cases hlt:j<len
  ·have hjn:j<L.length:=by have:=HLL.out;omega
   have hx:L[j]? =some L[j]:=List.getElem?_eq_getElem hjn;have HXE:=kd hx;have HXR:Hid _:=HOK.out.ed _ (List.mem_of_getElem? hx);obtain ⟨g3,rfl⟩:=ztp HO.out (by omega);obtain ⟨hc0,hc1,hc2⟩:=zr3 HO.out rfl hx;have HNX:Hid (svI n (L.take (j+1))=svI n (L.take j)++edI L[j]):=zp9 hx;generalize L[j]=ee at*;obtain ⟨e0,e1,e2⟩:=ee;dsimp only at hc0 hc1 hc2;have hxr:=HXR.out;dsimp only at hxr;have HD:Hid _:=zzj (e0:=e0) (e1:=e1) (e2:=e2) HBR.out HV.out (by omega) (by omega) (by omega);have hst:(⟨(svI n (L.take j)).toArray⟩:ByteArray)++((⟨(zax [e0,e1,e2]).toArray⟩:ByteArray)++⟨#[10]⟩)=⟨(svI n (L.take (j+1))).toArray⟩:=by
    rw [zyp,zmg,zmg,HNX.out];rfl
   have HST2:Hid _:=hst;have hsz2:¬9223372036854775807<(zax [e0,e1,e2]).length+1:=by
    have:=zdf (ns:=[e0,e1,e2]) (λ x hx=>by simp at hx;rcases hx with rfl | rfl | rfl <;> omega);simp at this;omega
   have hsz3:¬9223372036854775807<(svI n (L.take j)).length+((zax [e0,e1,e2]).length+1):=by
    have h1:=zdf (ns:=[e0,e1,e2]) (λ x hx=>by simp at hx;rcases hx with rfl | rfl | rfl <;> omega);have h2:=zl8 HOK.out j;simp at h1;omega
   clear hx hjn hst hxr;go_wp2_with fail;refine Calls.mono HD.out ?_;rintro e w4 ⟨rfl,hb4⟩;have HB4:Hid (Below w.heap.size w w4):=HBR.out.trans (hb4.mono HBR.out.size);have HO4:Hid (G.zad w4 w2.heap.size 61 (.slice (some ⟨g3,0,none⟩) len c3) L):=HO.out.below hb4;clear hb4 hc0 hc1 hc2;go_wp2_with fail;go_roundw;case rel=>exact ⟨j+1,by omega,by go_num,by rw [HST2.out],HB4.out,HO4.out⟩
   case measure=>simp [RowKit.intOf];omega
  ·obtain rfl:j=len:=by omega
   have HTK:Hid (L.take j=L):=by show L.take j=L;rw [<-HLL.out];exact List.take_length
   go_wp2_with fail;go_ret;exact ⟨by rw [HTK.out];rfl,HBR.out⟩
def z4g (w:World) (B q n:Nat) (u:Value) (R L:List G.E) (id a b:Int) (e:Ending) (w':World):Prop:=
 e= .returned (.int .i64 (zbp n L id a b))/\((zbp n L id a b=0/\G.zfx w w' B 40 q (n:Int) u (R++[edg id a b]))\/(zbp n L id a b≠0/\Below w.heap.size w w'))
theorem z0s (q n B:Nat) (u:Value) (R L:List G.E) (id a b:Int) (w:World) (hg:G.GAt w B 40 61 q (n:Int) u R) (hB:B<=w.heap.size) (hok:Ok n L) (hp:R.Perm L):
 Calls prog 20 #[.pointer (some ⟨q,0,none⟩),.int .i64 id,.int .i64 a,.int .i64 b] w (z4g w B q n u R L id a b):=by
 have h40:=hok.n40;have hl:R.length=L.length:=hp.length_eq;by_cases hr:G.zb4 id a b (n:Int)
 ·by_cases hab:a=b
  ·subst hab
   refine (G.z1v id a (n:Int) B q u R w hg (by omega) (by omega) hr).mono ?_;rintro e w' ⟨rfl,hb⟩;have e1:zbp n L id a a=1:=by unfold zbp;rw [if_neg (by simpa using hr),if_pos rfl]
   exact ⟨by rw [e1],.inr ⟨by rw [e1];decide,hb⟩⟩
  ·refine (G.z7t id a b (n:Int) (min a b) (max a b) B q u R w hg hB (by have:=hok.len;omega) (by omega) (by omega) hr hab rfl rfl).mono ?_
   rintro e w' (⟨⟨x,hx,hxi⟩,rfl,hb⟩ | ⟨hno,hf,rfl,hb⟩ | ⟨hno,hf,rfl,hs⟩)
   ·have e1:zbp n L id a b=9:=by
     unfold zbp;rw [if_neg (by simpa using hr),if_neg hab,if_pos (by rw [G.zix hok.up (hp.mem_iff.1 hx) hxi];rfl)]
    exact ⟨by rw [e1],.inr ⟨by rw [e1];decide,hb⟩⟩
   ·have hs:G.seen L id=none:=G.seen_none (λ x hx=>hno x (hp.mem_iff.2 hx))
    have e1:zbp n L id a b=12:=by
     unfold zbp;rw [if_neg (by simpa using hr),if_neg hab,if_neg (by rw [hs];simp),if_pos (by omega)]
    exact ⟨by rw [e1],.inr ⟨by rw [e1];decide,hb⟩⟩
   ·have hs':G.seen L id=none:=G.seen_none (λ x hx=>hno x (hp.mem_iff.2 hx))
    have e1:zbp n L id a b=0:=by
     unfold zbp;rw [if_neg (by simpa using hr),if_neg hab,if_neg (by rw [hs'];simp),if_neg (by omega)]
    exact ⟨by rw [e1],.inl ⟨e1,hs⟩⟩
 ·refine (G.zva id a b (n:Int) B q u R w hg (by omega) (by omega) hr).mono ?_
  rintro e w' ⟨rfl,hb⟩;have e1:zbp n L id a b=2:=by unfold zbp;rw [if_pos hr]
  exact ⟨by rw [e1],.inr ⟨by rw [e1];decide,hb⟩⟩
end Go.Proofs.YtebcjaenhiiflaaGreatDoor.I
