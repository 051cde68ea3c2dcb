import Derived.Lib.Split
import Derived.Lib.ParseIntB
import Derived.Lib.ItoaNum
import Derived.Shelf.LaysM
import Derived.Shelf.LaysC
import Derived.Ground.NamesProg
import Derived.Shelf.Strconv.AppendIntPublic10
import Derived.Shelf.Strconv.ErrVarAll
import Derived.Shelf.Strings.Cut
import Derived.Shelf.Strings.Split
import Derived.Lib.AppendIntMem
import Derived.Lib.OthersKept
import Derived.WalkSmall
import Derived.OwnWalk
import Derived.Maps.AppendAt
import Derived.RangeFuncBox
import Derived.Lib.SlBytesRow
import Derived.Test.YtebcjaenhiiflaaGreatDoorQGXKVi
set_option maxHeartbeats 2000000
set_option maxRecDepth 100000
namespace Go.Proofs.YtebcjaenhiiflaaGreatDoor.I
open Go.Lib
theorem zg1 {d:Nat} (h:d<10):(UInt8.ofNat (48+d)).toNat=48+d:=by
 rw [UInt8.toNat_ofNat'];omega
theorem zgb:∀(l:List UInt8) (acc v:Nat) {d:Nat},parseUint10 acc l= .ok v->d<10->v<1844674407370955161->parseUint10 acc (l++[UInt8.ofNat (48+d)])= .ok (v*10+d)
 | [],acc,v,d,h,hd,hv=>by
   simp only [parseUint10] at h;injection h with h
   subst h;have e:=zg1 hd;simp only [List.nil_append,parseUint10,e];rw [if_pos ⟨by omega,by omega⟩,if_neg (by omega),show 48+d-48=d by omega,if_neg (by omega)]
 | c::r,acc,v,d,h,hd,hv=>by
   simp only [List.cons_append,parseUint10] at h ⊢;split at h
   ·next k=>
    rw [if_pos k];split at h
    ·cases h
    ·next k2=>
     rw [if_neg k2];split at h
     ·cases h
     ·next k3=>
      rw [if_neg k3];exact zgb r _ v h hd hv
   ·cases h
theorem zfj {u:Nat} (h:u<10):decDigits u=[UInt8.ofNat (48+u)]:=by rw [decDigits,dif_pos h]
theorem zjq {u:Nat} (h:¬u<10):decDigits u=decDigits (u/10)++[UInt8.ofNat (48+u%10)]:=by rw [decDigits,dif_neg h]
theorem zs7 (u:Nat) (h:u<=9223372036854775807):parseUint10 0 (decDigits u)= .ok u:=by
 induction u using Nat.strongRecOn with
 | ind u ih=>
   by_cases c:u<10
   ·rw [zfj c]
    have:=zgb [] 0 0 (d:=u) rfl c (by omega)
    simpa using this
   ·rw [zjq c]
    have h1:=ih (u/10) (by omega) (by omega);have:=zgb (decDigits (u/10)) 0 (u/10) (d:=u%10) h1 (by omega) (by omega);rw [this]
    congr 1
    omega
theorem zng (u:Nat):∀c∈decDigits u,48<=c.toNat/\c.toNat<=57:=by
 induction u using Nat.strongRecOn with
 | ind u ih=>
   intro c hc;by_cases k:u<10
   ·rw [zfj k] at hc
    rw [List.mem_singleton.1 hc,zg1 k];omega
   ·rw [zjq k] at hc
    rcases List.mem_append.1 hc with hc | hc
    ·exact ih (u/10) (by omega) c hc
    ·rw [List.mem_singleton.1 hc,zg1 (by omega)]
     omega
theorem z99 (u:Nat):decDigits u≠[]:=by
 by_cases k:u<10
 ·rw [zfj k];simp
 ·rw [zjq k];simp
theorem zkh (u:Nat):itoa (u:Int)=decDigits u:=by
 unfold itoa;rw [if_neg (by omega)];simp
theorem zxy (u:Nat) (h:u<=9223372036854775807):atoiAll (itoa (u:Int))= .ok (u:Int):=by
 rw [zkh];cases hd:decDigits u with
 | nil=>exact absurd hd (z99 u)
 | cons c r=>
   have hc:=zng u c (by rw [hd];simp);have hp:parseMag (c::r)= .ok u:=by
    unfold parseMag;rw [if_neg (by simp),<-hd];exact zs7 u h
   unfold atoiAll;simp only;rw [if_neg (by omega),hp];simp only;rw [if_neg (by omega),if_neg (by omega),if_neg (by omega)]
end Go.Proofs.YtebcjaenhiiflaaGreatDoor.I
namespace Go.Proofs.YtebcjaenhiiflaaGreatDoor.I
open Go.Lib
theorem ztx (s:List UInt8) (b:UInt8) (j:Nat):occAt s [b] j=true↔s[j]? =some b:=by
 unfold occAt;rw [<-List.head?_drop];cases s.drop j with
 | nil=>simp [List.isPrefixOf]
 | cons c r=>
   simp [List.isPrefixOf];exact eq_comm
theorem z01 {p r:List UInt8} {b:UInt8} (hp:b∉p):index (p++b::r) [b]=(p.length:Int):=by
 have hat:occAt (p++b::r) [b] p.length=true:=by
  rw [ztx,List.getElem?_append_right (Nat.le_refl _),Nat.sub_self];rfl
 rcases index_spec (p++b::r) [b] with ⟨_,h2⟩ | ⟨i,h1,_,h3,h4⟩
 ·have:=h2 p.length (by simp)
  rw [hat] at this;cases this
 ·rw [h1]
  rcases Nat.lt_trichotomy i p.length with c | c | c
  ·rw [ztx,List.getElem?_append_left c] at h3
   exact absurd (List.mem_of_getElem? h3) hp
  ·rw [c]
  ·have:=h4 p.length c
   rw [hat] at this;cases this
theorem z96 {p r:List UInt8} {b:UInt8} (hp:b∉p):cut (p++b::r) [b]=(p,r,true):=by
 have hi:=z01 (r:=r) hp;have hd:(p++b::r).drop (p.length+[b].length)=r:=by
  rw [<-List.drop_drop,List.drop_append_of_le_length (Nat.le_refl _),List.drop_length];rfl
 unfold cut;rw [if_pos (by rw [hi];omega),hi];simp only [Int.toNat_natCast];rw [hd,List.take_append_of_le_length (Nat.le_refl _),List.take_length]
def textOf (ls:List (List UInt8)):List UInt8:=ls.flatMap (·++[10])
def zbg:List (List UInt8)->List UInt8
 | []=>[]
 | [x]=>x
 | x::y::r=>x++32::zbg (y::r)
def wds:List UInt8->List UInt8->List (List UInt8)
 | _,[]=>[]
 | acc,c::r=>if c=32\/c=10 then acc::wds [] r else wds (acc++[c]) r
theorem zkb:∀{p:List UInt8} {acc r:List UInt8} {c:UInt8},(∀x∈p,x≠32/\x≠10)->(c=32\/c=10)->wds acc (p++c::r)=(acc++p)::wds [] r
 | [],acc,r,c,_,hc=>by simp [wds,hc]
 | x::p,acc,r,c,h,hc=>by
   have hx:=h x (by simp);rw [List.cons_append,wds,if_neg (by simp [hx]),zkb (λ y hy=>h y (by simp [hy])) hc];simp
theorem zqm:∀{ws:List (List UInt8)} {r:List UInt8},ws≠[]->(∀l∈ws,∀x∈l,x≠32/\x≠10)->wds [] (zbg ws++10::r)=ws++wds [] r
 | [],_,h,_=>absurd rfl h
 | [x],r,_,h=>by
   rw [zbg,zkb (h x (by simp)) (.inr rfl)];rfl
 | x::y::t,r,_,h=>by
   rw [zbg,List.append_assoc,List.cons_append,zkb (h x (by simp)) (.inl rfl),zqm (by simp) (λ l hl=>h l (by simp at hl ⊢;exact .inr hl))];rfl
def zdl (ns:List Nat):List UInt8:=zbg (ns.map λ n:Nat=>itoa (n:Int))
theorem zl1 (n:Nat):∀x∈itoa (n:Int),x≠32/\x≠10:=λ x hx=>by
 rw [zkh] at hx;have:=zng n x hx;constructor
 ·rintro rfl;simp at this
 ·rintro rfl;simp at this
def svB (n:Nat) (L:List (Nat × Nat × Nat)):List UInt8:=textOf (zdl [n]::L.map λ e=>zdl [e.1,e.2.1,e.2.2])
theorem z9o (n:Nat) (L:List (Nat × Nat × Nat)):cut (svB n L) [10]=(itoa (n:Int),textOf (L.map λ e=>zdl [e.1,e.2.1,e.2.2]),true):=by
 have e:svB n L=itoa (n:Int)++10::textOf (L.map λ e=>zdl [e.1,e.2.1,e.2.2]):=by simp [svB,textOf,zdl,zbg]
 rw [e];exact z96 (λ k=>(zl1 n _ k).2 rfl)
theorem zr1:∀(L:List (Nat × Nat × Nat)),wds [] (textOf (L.map λ e=>zdl [e.1,e.2.1,e.2.2]))=L.flatMap λ e=>[itoa (e.1:Int),itoa (e.2.1:Int),itoa (e.2.2:Int)]
 | []=>rfl
 | e::L=>by
   have h1:textOf ((e::L).map λ e=>zdl [e.1,e.2.1,e.2.2])=zbg ([e.1,e.2.1,e.2.2].map λ n:Nat=>itoa (n:Int))++10::textOf (L.map λ e=>zdl [e.1,e.2.1,e.2.2]):=by simp [textOf,zdl]
   rw [h1,zqm (by simp) (λ l hl x hx=>by
    obtain ⟨n,_,rfl⟩:=List.mem_map.1 hl;exact zl1 n x hx),zr1 L]
   rfl
end Go.Proofs.YtebcjaenhiiflaaGreatDoor.I
namespace Go.Proofs.YtebcjaenhiiflaaGreatDoor.I
open Go.Lib
theorem zk7:∀{L:List G.E} {id:Int},(∀x∈L,x.1<id)->G.place L id=L.length
 | [],_,_=>rfl
 | x::L,id,h=>by
   have h1:=h x (by simp);have ih:=zk7 (L:=L) (λ y hy=>h y (by simp [hy]));simp [G.place,h1,ih]
theorem z3q {L:List G.E} {e:G.E} (h:∀x∈L,x.1<e.1):G.zca L e=L++[e]:=by
 unfold G.zca;rw [zk7 h,List.take_length,List.drop_length]
theorem zz7 {L:List G.E} (hu:G.Up L) {i:Nat} {e:G.E} (he:L[i]? =some e):G.zca (L.take i) e=L.take (i+1):=by
 rw [z3q,List.take_add_one,he]
 ·rfl
 ·intro x hx
  obtain ⟨j,hj⟩:=List.getElem?_of_mem hx;rw [List.getElem?_take] at hj;split at hj
  ·next c=>
   obtain ⟨l1,l2⟩:=List.getElem?_eq_some_iff.1 hj;obtain ⟨l3,l4⟩:=List.getElem?_eq_some_iff.1 he;have:=List.pairwise_iff_getElem.1 hu j i l1 l3 c;rw [l2,l4] at this;exact this
  ·cases hj
theorem z3s {L:List G.E} (hu:G.Up L) {i:Nat} {e:G.E} (he:L[i]? =some e):∀x∈L.take i,x.1≠e.1:=by
 intro x hx k;obtain ⟨j,hj⟩:=List.getElem?_of_mem hx;rw [List.getElem?_take] at hj;split at hj
 ·next c=>
  obtain ⟨l1,l2⟩:=List.getElem?_eq_some_iff.1 hj;obtain ⟨l3,l4⟩:=List.getElem?_eq_some_iff.1 he;have:=List.pairwise_iff_getElem.1 hu j i l1 l3 c;rw [l2,l4,k] at this;omega
 ·cases hj
def zqe (e:G.E):Nat × Nat × Nat:=(e.1.toNat,e.2.1.toNat,e.2.2.toNat)
def svE (n:Nat) (L:List G.E):List UInt8:=svB n (L.map zqe)
theorem zzu {L:List G.E} (h:∀e∈L,0<=e.1/\0<=e.2.1/\0<=e.2.2):wds [] (textOf ((L.map zqe).map λ e=>zdl [e.1,e.2.1,e.2.2]))=L.flatMap λ e=>[itoa e.1,itoa e.2.1,itoa e.2.2]:=by
 rw [zr1,List.flatMap_map];induction L with
 | nil=>rfl
 | cons e L ih=>
   have he:=h e (by simp);rw [List.flatMap_cons,List.flatMap_cons,ih (λ x hx=>h x (by simp [hx]))];simp [zqe,Int.toNat_of_nonneg he.1,Int.toNat_of_nonneg he.2.1,Int.toNat_of_nonneg he.2.2]
end Go.Proofs.YtebcjaenhiiflaaGreatDoor.I
namespace Go.Proofs.YtebcjaenhiiflaaGreatDoor.I
open Go.Lib
structure Ok (n:Nat) (L:List G.E):Prop where
 n40:n<=40
 up:G.Up L
 len:L.length<=120
 ed:∀e∈L,(0<=e.1/\e.1<=1099511627776)/\0<=e.2.1/\e.2.1<e.2.2/\e.2.2<(n:Int)
def Fits (n:Nat) (L:List G.E) (id a b:Int):Prop:=
 (0<=id/\id<=1099511627776)/\(0<=a/\a<(n:Int))/\(0<=b/\b<(n:Int))/\a≠b/\(∀x∈L,x.1≠id)/\L.length<120
instance (n:Nat) (L:List G.E) (id a b:Int):Decidable (Fits n L id a b):=by unfold Fits;infer_instance
def edg (id a b:Int):G.E:=(id,min a b,max a b)
theorem Ok.nil {n:Nat} (h:n<=40):Ok n []:=⟨h,List.Pairwise.nil,by simp,by simp⟩
theorem Ok.put {n:Nat} {L:List G.E} (h:Ok n L) {id a b:Int} (f:Fits n L id a b):Ok n (G.zca L (edg id a b)):=by
 obtain ⟨h1,h2,h3,h4,h5,h6⟩:=f;refine ⟨h.n40,G.zuk L _ h.up h5,by rw [G.zse];omega,λ e he=>?_⟩;rcases List.mem_cons.1 ((G.zeg L _).mem_iff.1 he) with rfl | he
 ·unfold edg
  dsimp only;omega
 ·exact h.ed e he
def zet (n:Nat) (s:Option (List Int × List G.E)) (w:List UInt8):Option (List Int × List G.E):=
 match s,atoiAll w with
 | some ([],L),.ok v=>some ([v],L)
 | some ([i],L),.ok v=>some ([i,v],L)
 | some ([i,a],L),.ok v=>if Fits n L i a v then some ([],G.zca L (edg i a v)) else none
 | _,_=>none
def rdP (n:Nat) (ws:List (List UInt8)):Option (List Int × List G.E):=ws.foldl (zet n) (some ([],[]))
theorem zd6 (n:Nat) (ws:List (List UInt8)) (w:List UInt8):rdP n (ws++[w])=zet n (rdP n ws) w:=by
 unfold rdP;rw [List.foldl_append];rfl
theorem zwj (n:Nat) (w:List UInt8):zet n none w=none:=by
 unfold zet;rfl
theorem zp5 {n:Nat}:∀(ws:List (List UInt8)),ws.foldl (zet n) none=none
 | []=>rfl
 | w::ws=>by rw [List.foldl_cons,zwj];exact zp5 ws
theorem zez {v:Int} (h0:0<=v) (h1:v<=9223372036854775807):atoiAll (itoa v)= .ok v:=by
 obtain ⟨u,rfl⟩:=Int.eq_ofNat_of_zero_le h0;exact zxy u (by omega)
theorem z7o {n:Nat} {L:List G.E} (h:Ok n L) {e:G.E} (he:e∈L):edg e.1 e.2.1 e.2.2=e:=by
 have:=h.ed e he;obtain ⟨i,a,b⟩:=e;unfold edg;dsimp only at this ⊢;rw [show min a b=a by omega,show max a b=b by omega]
theorem zzr {n:Nat} {L:List G.E} (h:Ok n L) {i:Nat} {e:G.E} (he:L[i]? =some e):Fits n (L.take i) e.1 e.2.1 e.2.2:=by
 have h1:=h.ed e (List.mem_of_getElem? he);have hi:=(List.getElem?_eq_some_iff.1 he).1;have:=h.len;exact ⟨h1.1,by omega,by omega,by omega,z3s h.up he,by simp;omega⟩
theorem zx7 {n:Nat} {L:List G.E} (h:Ok n L):rdP n (L.flatMap λ e=>[itoa e.1,itoa e.2.1,itoa e.2.2])=some ([],L):=by
 have key:∀i,i<=L.length->rdP n ((L.take i).flatMap λ e=>[itoa e.1,itoa e.2.1,itoa e.2.2])=some ([],L.take i):=by
  intro i;induction i with
  | zero=>intro _;rfl
  | succ i ih=>
    intro hi;have he:L[i]? =some L[i]:=List.getElem?_eq_getElem (by omega);have h1:=h.ed L[i] (List.mem_of_getElem? he);have hm:=List.mem_of_getElem? he;rw [List.take_add_one,he,Option.toList_some,List.flatMap_append];have e1:([L[i]].flatMap λ e:G.E=>[itoa e.1,itoa e.2.1,itoa e.2.2])=[itoa L[i].1]++[itoa L[i].2.1]++[itoa L[i].2.2]:=by simp
    rw [e1,<-List.append_assoc,<-List.append_assoc,zd6,zd6,zd6,ih (by omega)];unfold zet;rw [zez (v:=L[i].1) (by omega) (by omega),zez (v:=L[i].2.1) (by omega) (by have:=h.n40;omega),zez (v:=L[i].2.2) (by omega) (by have:=h.n40;omega)];dsimp only;rw [if_pos (zzr h he),z7o h hm,zz7 h.up he,List.take_add_one,he,Option.toList_some]
 have:=key L.length (Nat.le_refl _)
 rwa [List.take_length] at this
def yac6 (w:List UInt8):Option Int:=
 match parseIntB 64 w with
 | .ok v=>if itoa v=w then some v else none
 | _=>none
def three (l:List UInt8) (j:Nat):Int:=(((split l [32])[j]?).bind yac6).getD 0
def z4q (n:Nat) (R:List G.E) (l:List UInt8):List G.E:=
 if Fits n R (three l 0) (three l 1) (three l 2) then R++[edg (three l 0) (three l 1) (three l 2)] else R
def Rd (n:Nat) (R:List G.E):Prop:=∃L,Ok n L/\R.Perm L
theorem Rd.step {n:Nat} {R:List G.E} (h:Rd n R) (l:List UInt8):Rd n (z4q n R l):=by
 unfold z4q;split
 ·next f=>
  obtain ⟨L,h1,h2⟩:=h;have f':Fits n L (three l 0) (three l 1) (three l 2):=⟨f.1,f.2.1,f.2.2.1,f.2.2.2.1,λ x hx=>f.2.2.2.2.1 x (h2.mem_iff.2 hx),by rw [<-h2.length_eq];exact f.2.2.2.2.2⟩;refine ⟨_,h1.put f',?_⟩;exact (List.perm_append_comm.trans (List.Perm.cons _ h2)).trans (G.zeg L _).symm
 ·exact h
theorem zhw {n:Nat} {L:List G.E} (h:Ok n L):∃rest,cut (svE n L) [10]=(itoa (n:Int),rest,true)/\rdP n (wds [] rest)=some ([],L):=by
 refine ⟨_,z9o n (L.map zqe),?_⟩;rw [zzu (λ e he=>by have:=h.ed e he;omega)];exact zx7 h
theorem z6z {n m:Nat} {L M:List G.E} (h:Ok n L) (k:Ok m M) (e:svE n L=svE m M):n=m/\L=M:=by
 obtain ⟨r1,c1,p1⟩:=zhw h;obtain ⟨r2,c2,p2⟩:=zhw k;rw [e,c2] at c1;injection c1 with c1 c3
 injection c3 with c3 _
 have a1:=zez (v:=(n:Int)) (by omega) (by have:=h.n40;omega);have a2:=zez (v:=(m:Int)) (by omega) (by have:=k.n40;omega);rw [<-c1,a2] at a1;injection a1 with a1
 have hnm:n=m:=by omega
 subst hnm;subst c3;rw [p1] at p2;injection p2 with p2
 injection p2 with _ p2
 exact ⟨rfl,p2⟩
end Go.Proofs.YtebcjaenhiiflaaGreatDoor.I
namespace Go.Proofs
open Go.Shelf Go.Proofs.Tryz
def Tryz.lays145_ren:Go.Shelf.Ren:=⟨λ | 145=>101 | 220=>200 | 219=>288 | 217=>332 | 225=>333 | 224=>334 | 267=>335 | 266=>364 | 314=>365 | n=>n,λ | 9=>9 | 4=>4 | 59=>145 | 3=>3 | 5=>5 | 46=>103 | 146=>399 | 51=>135 | n=>n,λ | 1=>1 | n=>n⟩
theorem Tryz.lays145:Go.Proofs.Lays.n145 prog Tryz.lays145_ren:={
 mixed:=by kernel_rfl
 f145:=func101.trans (congrArg some (by kernel_rfl))
 f217:=func332.trans (congrArg some (by kernel_rfl))
 f219:=func288.trans (congrArg some (by kernel_rfl))
 f220:=func200.trans (congrArg some (by kernel_rfl))
 f224:=func334.trans (congrArg some (by kernel_rfl))
 f225:=func333.trans (congrArg some (by kernel_rfl))
 f266:=func364.trans (congrArg some (by kernel_rfl))
 f267:=func335.trans (congrArg some (by kernel_rfl))
 f314:=func365.trans (congrArg some (by kernel_rfl))
 t3:=underlying3
 a3:=isAgg3
 z3:=sizeOf3
 v3:=zeroValue3
 t4:=underlying4
 a4:=isAgg4
 z4:=sizeOf4
 v4:=zeroValue4
 t5:=underlying5
 a5:=isAgg5
 z5:=sizeOf5
 v5:=zeroValue5
 t9:=underlying9
 a9:=isAgg9
 z9:=sizeOf9
 v9:=zeroValue9
 t46:=underlying103
 a46:=isAgg103
 z46:=sizeOf103
 v46:=zeroValue103
 t51:=underlying135
 a51:=isAgg135
 z51:=sizeOf135
 v51:=zeroValue135
 t59:=underlying145
 a59:=isAgg145
 z59:=sizeOf145
 v59:=zeroValue145
 t146:=underlying399
 a146:=isAgg399
 z146:=sizeOf399
 v146:=zeroValue399
 g1:=by kernel_rfl}
def Tryz.laysC172_ren:Go.Shelf.Ren:=⟨λ | 172=>102 | 244=>201 | 245=>198 | 247=>197 | 279=>290 | 280=>291 | 281=>292 | 282=>293 | 287=>289 | 316=>338 | 171=>131 | 205=>339 | 321=>336 | 322=>337 | 243=>240 | 246=>199 | 283=>294 | 284=>295 | 285=>296 | 286=>297 | 129=>214 | 317=>340 | 318=>341 | 319=>342 | 320=>343 | 337=>366 | 338=>367 | n=>n,λ | 9=>9 | 3=>3 | 75=>28 | 76=>99 | 4=>4 | 5=>5 | 167=>318 | 37=>88 | 0=>0 | 85=>142 | 2=>2 | 168=>321 | 53=>132 | 175=>319 | 46=>103 | 210=>358 | 127=>224 | 145=>403 | 143=>401 | 21=>21 | 171=>324 | 173=>326 | 212=>361 | 51=>135 | 20=>20 | 213=>362 | 232=>411 | 233=>412 | 80=>35 | n=>n,λ | 15=>2 | 16=>3 | 17=>4 | 18=>7 | 19=>8 | n=>n⟩
theorem Tryz.laysC172:Go.Proofs.LaysC.n172 prog Tryz.laysC172_ren:={
 mixed:=by kernel_rfl
 f129:=func214.trans (congrArg some (by kernel_rfl))
 f171:=func131.trans (congrArg some (by kernel_rfl))
 f172:=func102.trans (congrArg some (by kernel_rfl))
 f205:=func339.trans (congrArg some (by kernel_rfl))
 f243:=func240.trans (congrArg some (by kernel_rfl))
 f244:=func201.trans (congrArg some (by kernel_rfl))
 f245:=func198.trans (congrArg some (by kernel_rfl))
 f246:=func199.trans (congrArg some (by kernel_rfl))
 f247:=func197.trans (congrArg some (by kernel_rfl))
 f279:=func290.trans (congrArg some (by kernel_rfl))
 f280:=func291.trans (congrArg some (by kernel_rfl))
 f281:=func292.trans (congrArg some (by kernel_rfl))
 f282:=func293.trans (congrArg some (by kernel_rfl))
 f283:=func294.trans (congrArg some (by kernel_rfl))
 f284:=func295.trans (congrArg some (by kernel_rfl))
 f285:=func296.trans (congrArg some (by kernel_rfl))
 f286:=func297.trans (congrArg some (by kernel_rfl))
 f287:=func289.trans (congrArg some (by kernel_rfl))
 f316:=func338.trans (congrArg some (by kernel_rfl))
 f317:=func340.trans (congrArg some (by kernel_rfl))
 f318:=func341.trans (congrArg some (by kernel_rfl))
 f319:=func342.trans (congrArg some (by kernel_rfl))
 f320:=func343.trans (congrArg some (by kernel_rfl))
 f321:=func336.trans (congrArg some (by kernel_rfl))
 f322:=func337.trans (congrArg some (by kernel_rfl))
 f337:=func366.trans (congrArg some (by kernel_rfl))
 f338:=func367.trans (congrArg some (by kernel_rfl))
 t0:=underlying0
 a0:=isAgg0
 z0:=sizeOf0
 v0:=zeroValue0
 t2:=underlying2
 a2:=isAgg2
 z2:=sizeOf2
 v2:=zeroValue2
 t3:=underlying3
 a3:=isAgg3
 z3:=sizeOf3
 v3:=zeroValue3
 t4:=underlying4
 a4:=isAgg4
 z4:=sizeOf4
 v4:=zeroValue4
 t5:=underlying5
 a5:=isAgg5
 z5:=sizeOf5
 v5:=zeroValue5
 t9:=underlying9
 a9:=isAgg9
 z9:=sizeOf9
 v9:=zeroValue9
 t20:=underlying20
 a20:=isAgg20
 z20:=sizeOf20
 v20:=zeroValue20
 t21:=underlying21
 a21:=isAgg21
 z21:=sizeOf21
 v21:=zeroValue21
 t37:=underlying88
 a37:=isAgg88
 z37:=sizeOf88
 v37:=zeroValue88
 t46:=underlying103
 a46:=isAgg103
 z46:=sizeOf103
 v46:=zeroValue103
 t51:=underlying135
 a51:=isAgg135
 z51:=sizeOf135
 v51:=zeroValue135
 t53:=underlying132
 a53:=isAgg132
 z53:=sizeOf132
 v53:=zeroValue132
 t75:=underlying28
 a75:=isAgg28
 z75:=sizeOf28
 v75:=zeroValue28
 t76:=underlying99
 a76:=isAgg99
 z76:=sizeOf99
 v76:=zeroValue99
 t85:=underlying142
 a85:=isAgg142
 z85:=sizeOf142
 v85:=zeroValue142
 t127:=underlying224
 a127:=isAgg224
 z127:=sizeOf224
 v127:=zeroValue224
 t143:=underlying401
 a143:=isAgg401
 z143:=sizeOf401
 v143:=zeroValue401
 t145:=underlying403
 a145:=isAgg403
 z145:=sizeOf403
 v145:=zeroValue403
 t167:=underlying318
 a167:=isAgg318
 z167:=sizeOf318
 v167:=zeroValue318
 t168:=underlying321
 a168:=isAgg321
 z168:=sizeOf321
 v168:=zeroValue321
 t171:=underlying324
 a171:=isAgg324
 z171:=sizeOf324
 v171:=zeroValue324
 t173:=underlying326
 a173:=isAgg326
 z173:=sizeOf326
 v173:=zeroValue326
 t175:=underlying319
 a175:=isAgg319
 z175:=sizeOf319
 v175:=zeroValue319
 t210:=underlying358
 a210:=isAgg358
 z210:=sizeOf358
 v210:=zeroValue358
 t212:=underlying361
 a212:=isAgg361
 z212:=sizeOf361
 v212:=zeroValue361
 t213:=underlying362
 a213:=isAgg362
 z213:=sizeOf362
 t232:=underlying411
 a232:=isAgg411
 z232:=sizeOf411
 v232:=zeroValue411
 t233:=underlying412
 a233:=isAgg412
 z233:=sizeOf412
 v233:=zeroValue412
 g15:=by kernel_rfl
 g16:=by kernel_rfl
 g17:=by kernel_rfl
 g18:=by kernel_rfl
 g19:=by kernel_rfl
 t80:=underlying35
 a80:=isAgg35
 z80:=sizeOf35
 v80:=zeroValue35
 i0:=by kernel_rfl
 i2:=by kernel_rfl
 i3:=by kernel_rfl
 i4:=by kernel_rfl
 i5:=by kernel_rfl
 i9:=by kernel_rfl
 i20:=by kernel_rfl
 i21:=by kernel_rfl
 i37:=by kernel_rfl
 i46:=by kernel_rfl
 i51:=by kernel_rfl
 i53:=by kernel_rfl
 i75:=by kernel_rfl
 i76:=by kernel_rfl
 i80:=by kernel_rfl
 i85:=by kernel_rfl
 i127:=by kernel_rfl
 i143:=by kernel_rfl
 i145:=by kernel_rfl
 i167:=by kernel_rfl
 i168:=by kernel_rfl
 i171:=by kernel_rfl
 i173:=by kernel_rfl
 i175:=by kernel_rfl
 i210:=by kernel_rfl
 i212:=by kernel_rfl
 i232:=by kernel_rfl
 i233:=by kernel_rfl
 m15:=by kernel_rfl
 m16:=by kernel_rfl
 m17:=by kernel_rfl
 m18:=by kernel_rfl
 m19:=by kernel_rfl
 c0:=by kernel_rfl
 c2:=by kernel_rfl
 c3:=by kernel_rfl
 c4:=by kernel_rfl
 c5:=by kernel_rfl
 c9:=by kernel_rfl
 c20:=by kernel_rfl
 c21:=by kernel_rfl
 c37:=by kernel_rfl
 c46:=by kernel_rfl
 c51:=by kernel_rfl
 c53:=by kernel_rfl
 c75:=by kernel_rfl
 c76:=by kernel_rfl
 c80:=by kernel_rfl
 c85:=by kernel_rfl
 c127:=by kernel_rfl
 c143:=by kernel_rfl
 c145:=by kernel_rfl
 c167:=by kernel_rfl
 c168:=by kernel_rfl
 c171:=by kernel_rfl
 c173:=by kernel_rfl
 c175:=by kernel_rfl
 c210:=by kernel_rfl
 c212:=by kernel_rfl
 c213:=by kernel_rfl
 c232:=by kernel_rfl
 c233:=by kernel_rfl}
def Tryz.laysM171_ren:Go.Shelf.Ren:=⟨λ | 171=>131 | 243=>240 | 246=>199 | 283=>294 | 284=>295 | 285=>296 | 286=>297 | 129=>214 | 317=>340 | 318=>341 | 319=>342 | 320=>343 | 337=>366 | 338=>367 | n=>n,λ | 3=>3 | 9=>9 | 2=>2 | 4=>4 | 171=>324 | 0=>0 | 53=>132 | 37=>88 | 5=>5 | 173=>326 | 212=>361 | 51=>135 | 20=>20 | 213=>362 | 46=>103 | 232=>411 | 233=>412 | n=>n,λ | 17=>4 | 18=>7 | 19=>8 | n=>n⟩
theorem Tryz.laysM171:Go.Proofs.LaysM.n171 prog Tryz.laysM171_ren:={
 mixed:=by kernel_rfl
 f129:=func214.trans (congrArg some (by kernel_rfl))
 f171:=func131.trans (congrArg some (by kernel_rfl))
 f243:=func240.trans (congrArg some (by kernel_rfl))
 f246:=func199.trans (congrArg some (by kernel_rfl))
 f283:=func294.trans (congrArg some (by kernel_rfl))
 f284:=func295.trans (congrArg some (by kernel_rfl))
 f285:=func296.trans (congrArg some (by kernel_rfl))
 f286:=func297.trans (congrArg some (by kernel_rfl))
 f317:=func340.trans (congrArg some (by kernel_rfl))
 f318:=func341.trans (congrArg some (by kernel_rfl))
 f319:=func342.trans (congrArg some (by kernel_rfl))
 f320:=func343.trans (congrArg some (by kernel_rfl))
 f337:=func366.trans (congrArg some (by kernel_rfl))
 f338:=func367.trans (congrArg some (by kernel_rfl))
 t0:=underlying0
 a0:=isAgg0
 z0:=sizeOf0
 v0:=zeroValue0
 t2:=underlying2
 a2:=isAgg2
 z2:=sizeOf2
 v2:=zeroValue2
 t3:=underlying3
 a3:=isAgg3
 z3:=sizeOf3
 v3:=zeroValue3
 t4:=underlying4
 a4:=isAgg4
 z4:=sizeOf4
 v4:=zeroValue4
 t5:=underlying5
 a5:=isAgg5
 z5:=sizeOf5
 v5:=zeroValue5
 t9:=underlying9
 a9:=isAgg9
 z9:=sizeOf9
 v9:=zeroValue9
 t20:=underlying20
 a20:=isAgg20
 z20:=sizeOf20
 v20:=zeroValue20
 t37:=underlying88
 a37:=isAgg88
 z37:=sizeOf88
 v37:=zeroValue88
 t46:=underlying103
 a46:=isAgg103
 z46:=sizeOf103
 v46:=zeroValue103
 t51:=underlying135
 a51:=isAgg135
 z51:=sizeOf135
 v51:=zeroValue135
 t53:=underlying132
 a53:=isAgg132
 z53:=sizeOf132
 v53:=zeroValue132
 t171:=underlying324
 a171:=isAgg324
 z171:=sizeOf324
 v171:=zeroValue324
 t173:=underlying326
 a173:=isAgg326
 z173:=sizeOf326
 v173:=zeroValue326
 t212:=underlying361
 a212:=isAgg361
 z212:=sizeOf361
 v212:=zeroValue361
 t213:=underlying362
 a213:=isAgg362
 z213:=sizeOf362
 t232:=underlying411
 a232:=isAgg411
 z232:=sizeOf411
 v232:=zeroValue411
 t233:=underlying412
 a233:=isAgg412
 z233:=sizeOf412
 v233:=zeroValue412
 g17:=by kernel_rfl
 g18:=by kernel_rfl
 g19:=by kernel_rfl
 i0:=by kernel_rfl
 i2:=by kernel_rfl
 i3:=by kernel_rfl
 i4:=by kernel_rfl
 i5:=by kernel_rfl
 i9:=by kernel_rfl
 i20:=by kernel_rfl
 i37:=by kernel_rfl
 i46:=by kernel_rfl
 i51:=by kernel_rfl
 i53:=by kernel_rfl
 i171:=by kernel_rfl
 i173:=by kernel_rfl
 i212:=by kernel_rfl
 i232:=by kernel_rfl
 i233:=by kernel_rfl
 m17:=by kernel_rfl
 m18:=by kernel_rfl
 m19:=by kernel_rfl}
def Tryz.laysM176_ren:Go.Shelf.Ren:=⟨λ | 176=>112 | 249=>223 | 288=>306 | 283=>294 | 284=>295 | 285=>296 | 286=>297 | 129=>214 | 317=>340 | 318=>341 | 319=>342 | 320=>343 | 337=>366 | 338=>367 | n=>n,λ | 37=>88 | 2=>2 | 3=>3 | 53=>132 | 4=>4 | 9=>9 | 171=>324 | 0=>0 | 173=>326 | 212=>361 | 51=>135 | 5=>5 | 20=>20 | 213=>362 | 46=>103 | 232=>411 | 233=>412 | n=>n,λ | 17=>4 | 18=>7 | 19=>8 | n=>n⟩
theorem Tryz.laysM176:Go.Proofs.LaysM.n176 prog Tryz.laysM176_ren:={
 mixed:=by kernel_rfl
 f129:=func214.trans (congrArg some (by kernel_rfl))
 f176:=func112.trans (congrArg some (by kernel_rfl))
 f249:=func223.trans (congrArg some (by kernel_rfl))
 f283:=func294.trans (congrArg some (by kernel_rfl))
 f284:=func295.trans (congrArg some (by kernel_rfl))
 f285:=func296.trans (congrArg some (by kernel_rfl))
 f286:=func297.trans (congrArg some (by kernel_rfl))
 f288:=func306.trans (congrArg some (by kernel_rfl))
 f317:=func340.trans (congrArg some (by kernel_rfl))
 f318:=func341.trans (congrArg some (by kernel_rfl))
 f319:=func342.trans (congrArg some (by kernel_rfl))
 f320:=func343.trans (congrArg some (by kernel_rfl))
 f337:=func366.trans (congrArg some (by kernel_rfl))
 f338:=func367.trans (congrArg some (by kernel_rfl))
 t0:=underlying0
 a0:=isAgg0
 z0:=sizeOf0
 v0:=zeroValue0
 t2:=underlying2
 a2:=isAgg2
 z2:=sizeOf2
 v2:=zeroValue2
 t3:=underlying3
 a3:=isAgg3
 z3:=sizeOf3
 v3:=zeroValue3
 t4:=underlying4
 a4:=isAgg4
 z4:=sizeOf4
 v4:=zeroValue4
 t5:=underlying5
 a5:=isAgg5
 z5:=sizeOf5
 v5:=zeroValue5
 t9:=underlying9
 a9:=isAgg9
 z9:=sizeOf9
 v9:=zeroValue9
 t20:=underlying20
 a20:=isAgg20
 z20:=sizeOf20
 v20:=zeroValue20
 t37:=underlying88
 a37:=isAgg88
 z37:=sizeOf88
 v37:=zeroValue88
 t46:=underlying103
 a46:=isAgg103
 z46:=sizeOf103
 v46:=zeroValue103
 t51:=underlying135
 a51:=isAgg135
 z51:=sizeOf135
 v51:=zeroValue135
 t53:=underlying132
 a53:=isAgg132
 z53:=sizeOf132
 v53:=zeroValue132
 t171:=underlying324
 a171:=isAgg324
 z171:=sizeOf324
 v171:=zeroValue324
 t173:=underlying326
 a173:=isAgg326
 z173:=sizeOf326
 v173:=zeroValue326
 t212:=underlying361
 a212:=isAgg361
 z212:=sizeOf361
 v212:=zeroValue361
 t213:=underlying362
 a213:=isAgg362
 z213:=sizeOf362
 t232:=underlying411
 a232:=isAgg411
 z232:=sizeOf411
 v232:=zeroValue411
 t233:=underlying412
 a233:=isAgg412
 z233:=sizeOf412
 v233:=zeroValue412
 g17:=by kernel_rfl
 g18:=by kernel_rfl
 g19:=by kernel_rfl
 i0:=by kernel_rfl
 i2:=by kernel_rfl
 i3:=by kernel_rfl
 i4:=by kernel_rfl
 i5:=by kernel_rfl
 i9:=by kernel_rfl
 i20:=by kernel_rfl
 i37:=by kernel_rfl
 i46:=by kernel_rfl
 i51:=by kernel_rfl
 i53:=by kernel_rfl
 i171:=by kernel_rfl
 i173:=by kernel_rfl
 i212:=by kernel_rfl
 i232:=by kernel_rfl
 i233:=by kernel_rfl
 m17:=by kernel_rfl
 m18:=by kernel_rfl
 m19:=by kernel_rfl}
def Tryz.lays156_ren:Go.Shelf.Ren:=⟨λ | 156=>132 | 165=>241 | 166=>89 | 169=>92 | 240=>168 | 241=>318 | 276=>277 | 277=>351 | n=>n,λ | 31=>70 | 9=>9 | 3=>3 | 4=>4 | 0=>0 | 20=>20 | 72=>117 | 76=>99 | 70=>115 | 37=>88 | 75=>28 | 127=>224 | 164=>155 | 5=>5 | 80=>35 | n=>n,λ | n=>n⟩
theorem Tryz.lays156:Go.Proofs.Lays.n156 prog Tryz.lays156_ren:={
 mixed:=by kernel_rfl
 f156:=func132.trans (congrArg some (by kernel_rfl))
 f165:=func241.trans (congrArg some (by kernel_rfl))
 f166:=func89.trans (congrArg some (by kernel_rfl))
 f169:=func92.trans (congrArg some (by kernel_rfl))
 f240:=func168.trans (congrArg some (by kernel_rfl))
 f241:=func318.trans (congrArg some (by kernel_rfl))
 f276:=func277.trans (congrArg some (by kernel_rfl))
 f277:=func351.trans (congrArg some (by kernel_rfl))
 t0:=underlying0
 a0:=isAgg0
 z0:=sizeOf0
 v0:=zeroValue0
 t3:=underlying3
 a3:=isAgg3
 z3:=sizeOf3
 v3:=zeroValue3
 t4:=underlying4
 a4:=isAgg4
 z4:=sizeOf4
 v4:=zeroValue4
 t9:=underlying9
 a9:=isAgg9
 z9:=sizeOf9
 v9:=zeroValue9
 t20:=underlying20
 a20:=isAgg20
 z20:=sizeOf20
 v20:=zeroValue20
 t31:=underlying70
 a31:=isAgg70
 z31:=sizeOf70
 v31:=zeroValue70
 t37:=underlying88
 a37:=isAgg88
 z37:=sizeOf88
 v37:=zeroValue88
 t70:=underlying115
 a70:=isAgg115
 z70:=sizeOf115
 v70:=zeroValue115
 t72:=underlying117
 a72:=isAgg117
 z72:=sizeOf117
 v72:=zeroValue117
 t75:=underlying28
 a75:=isAgg28
 z75:=sizeOf28
 v75:=zeroValue28
 t76:=underlying99
 a76:=isAgg99
 z76:=sizeOf99
 v76:=zeroValue99
 t127:=underlying224
 a127:=isAgg224
 z127:=sizeOf224
 v127:=zeroValue224
 t164:=underlying155
 a164:=isAgg155
 z164:=sizeOf155
 v164:=zeroValue155}
end Go.Proofs
namespace Go.Proofs.YtebcjaenhiiflaaGreatDoor.I
open Go.RowKit Go.Proofs.Tryz
abbrev TB (B:Nat) (w:World):Prop:=Lib.TabBelow prog B w "internal/strconv.uint64pow10" .u64 Lib.pow10Tab
theorem z4p:prog.globalNamed "internal/strconv.uint64pow10"=some 4:=by kernel_rfl
structure Vars (w:World):Prop where
 mx:∃m,w.cell? ⟨1,0,none⟩=some (.int .i64 m)
 sy:∃t p,w.cell? ⟨2,0,none⟩=some (.iface t p)
 ra:∃t p,w.cell? ⟨3,0,none⟩=some (.iface t p)
 tab:Lib.TabIs prog w "internal/strconv.uint64pow10" .u64 Lib.pow10Tab
 big:9<w.heap.size
theorem Vars.on {w w':World} {B:Nat} (h:Vars w) (hb:Below B w w') (hB:9<B):Vars w':=by
 obtain ⟨m,hm⟩:=h.mx;obtain ⟨t,p,hs⟩:=h.sy;obtain ⟨t',p',hr⟩:=h.ra;exact ⟨⟨m,(hb.cell (p:=⟨1,0,none⟩) (show 1<B by omega)).trans hm⟩,⟨t,p,(hb.cell (p:=⟨2,0,none⟩) (show 2<B by omega)).trans hs⟩,⟨t',p',(hb.cell (p:=⟨3,0,none⟩) (show 3<B by omega)).trans hr⟩,var?_below hb z4p (by omega) h.tab,Nat.lt_of_lt_of_le h.big hb.size⟩
theorem Vars.below {w w':World} (h:Vars w) (hb:Below w.heap.size w w'):Vars w':=h.on hb h.big
theorem Vars.tb {w:World} (h:Vars w) {B:Nat} (hB:9<B):TB B w:=λ _ hb=>var?_below hb z4p (by omega) h.tab
theorem zh9 (B n:Nat) (i:Int) (h0:0<=i) (h1:i<=9223372036854775807) (sv:Value) (xs:List Value) (w:World) (hown:w.ownsRow B 5 1 sv n xs) (hB:B<=w.heap.size) (hlim:n<=100000) (htab:TB B w):
 Calls prog 112 #[sv,.int .i64 i,.int .i64 10] w λ e w'=>∃v',e= .returned v'/\w'.ownsRow B 5 1 v' (n+(Lib.itoa i).length) (xs++Lib.byteCells (Lib.itoa i))/\Below B w w'/\Lib.OthersKept 5 none w w':=
 Any.strconv_AppendInt_10 Tryz.laysM176 B n i (by omega) h1 sv xs w hown hB (by omega) htab
def z4n (s:ByteArray) (w:World) (e:Ending) (w':World):Prop:=
 ((∃v,Lib.atoiAll s.data.toList= .ok v/\e= .returned (.tuple #[.int .i64 v,.nilIface]))\/((∀v,Lib.atoiAll s.data.toList≠ .ok v)/\∃v t p,e= .returned (.tuple #[.int .i64 v,.iface t p])))/\Below w.heap.size w w'
theorem zpx (s:ByteArray) (w:World) (hs:s.size<=100000) (hv:Vars w):Calls prog 102 #[.string s] w (z4n s w):=by
 cases h:Lib.atoiAll s.data.toList with
 | ok v=>
   refine (Any.strconv_Atoi_ok Tryz.laysC172 s (by omega) v h w).mono ?_;rintro e w' ⟨rfl,hw⟩;refine ⟨.inl ⟨v,h,rfl⟩,?_⟩;rcases hw with rfl | ⟨t,rfl⟩
   ·exact Below.refl _ _
   ·exact Lib.bytesWorld_below _ _ _
 | «syntax»=>
   obtain ⟨t,p,hc⟩:=hv.sy;refine (Any.strconv_Atoi_syntax Tryz.laysC172 s (by omega) h (.iface t p) w hc (.inr ⟨t,p,rfl⟩)).mono ?_;rintro e w' ⟨N,rfl,_,_,hb⟩;exact ⟨.inr ⟨λ v k=>(by rw [h] at k;cases k),_,_,_,rfl⟩,hb⟩
 | range=>
   obtain ⟨t,p,hc⟩:=hv.ra;refine (Any.strconv_Atoi_range Tryz.laysC172 s (by omega) h (.iface t p) w hc (.inr ⟨t,p,rfl⟩)).mono ?_;rintro e w' ⟨N,rfl,_,_,hb⟩;exact ⟨.inr ⟨λ v k=>(by rw [h] at k;cases k),_,_,_,rfl⟩,hb⟩
theorem z7u (s sep:ByteArray) (w:World) (hs:s.size<=100000) (hv:Vars w):
 Calls prog 101 #[.string s,.string sep] w λ e w'=>e= .returned (.tuple #[.string ⟨(Lib.cut s.data.toList sep.data.toList).1.toArray⟩,.string ⟨(Lib.cut s.data.toList sep.data.toList).2.1.toArray⟩,.bool (Lib.cut s.data.toList sep.data.toList).2.2])/\Below w.heap.size w w':=by
 obtain ⟨m,hm⟩:=hv.mx;refine (Any.strings_Cut Tryz.lays145 s sep m w (by omega) hm).mono ?_;rintro e w' ⟨rfl,n,rfl⟩;exact ⟨rfl,below_drewN (Below.refl _ _) n⟩
open Go.RowKit Go.Lib Go.Proofs.Tryz
def zax (ns:List Int):List UInt8:=zbg (ns.map itoa)
theorem zky:∀(l:List (List UInt8)) (x:List UInt8),zbg (l++[x])=zbg l++(if l=[] then x else 32::x)
 | [],x=>by simp [zbg]
 | [y],x=>by simp [zbg]
 | y::z::r,x=>by
   have ih:=zky (z::r) x;simp only [List.cons_append,zbg] at ih ⊢;rw [ih];simp
theorem zvx (ns:List Int) (x:Int):zax (ns++[x])=zax ns++(if ns=[] then itoa x else 32::itoa x):=by
 unfold zax;rw [List.map_append,List.map_cons,List.map_nil,zky];cases ns <;> simp
theorem z0y {i:Int} (h0:0<=i) (h1:i<=9223372036854775807):(itoa i).length<=20:=by
 obtain ⟨u,rfl⟩:=Int.eq_ofNat_of_zero_le h0;rw [zkh];have key:∀(k u:Nat),u<10^(k+1)->(decDigits u).length<=k+1:=by
  intro k;induction k with
  | zero=>intro u hu;rw [zfj (by simpa using hu)];simp
  | succ k ih=>
    intro u hu;by_cases c:u<10
    ·rw [zfj c];simp
    ·rw [zjq c,List.length_append,List.length_singleton]
     have:=ih (u/10) (by rw [Nat.div_lt_iff_lt_mul (by omega)];rw [Nat.pow_succ] at hu;exact hu);omega
 exact key 19 u (by omega)
theorem yacb:(prog.info? 5).map (λ i=>(i.zero,i.size,i.bytes))=some (some (.int .u8 0),1,1):=by kernel_rfl
theorem info5:∃i,prog.info? 5=some i/\i.zero=some (.int .u8 0)/\i.size=1/\i.bytes=1:=info_parts yacb
def zgg (w0 w:World) (B k:Nat) (xs:List Value) (ns:List Int) (j:Nat) (v:Value):Prop:=
 w.ownsRow B 5 1 v (k+(zax (ns.take j)).length) (xs++Lib.byteCells (zax (ns.take j)))/\Below B w0 w/\OthersKept 5 none w0 w
theorem zi5 {w:World} {nb:Nat} {ns:List Int} (h:w.heap[nb]? =some (.cells (ns.map (Value.int .i64)).toArray 3)) {j:Nat} {x:Int} (hx:ns[j]? =some x):w.cell? ⟨nb,j,none⟩=some (.int .i64 x):=by
 simp [World.cell?,h,hx]
theorem zql:∀{ws:List (List UInt8)},(∀x∈ws,x.length<=20)->(zbg ws).length<=21*ws.length
 | [],_=>by simp [zbg]
 | [x],h=>by have:=h x (by simp);simp [zbg];omega
 | x::y::r,h=>by
   have h1:=zql (ws:=y::r) (λ z hz=>h z (by simp at hz ⊢;exact .inr hz));have h2:=h x (by simp);rw [zbg,List.length_append,List.length_cons,List.length_cons];omega
theorem zdf {ns:List Int} (hr:∀x∈ns,0<=x/\x<=9223372036854775807):(zax ns).length<=21*ns.length:=by
 have:=zql (ws:=ns.map itoa) (λ x hx=>by
  obtain ⟨i,hi,rfl⟩:=List.mem_map.1 hx;exact z0y (hr i hi).1 (hr i hi).2)
 rwa [List.length_map] at this
theorem bytes_append (a b:List UInt8):Lib.byteCells (a++b)=Lib.byteCells a++Lib.byteCells b:=by simp [Lib.byteCells]
theorem ziy {ns:List Int} {j:Nat} {x:Int} (hx:ns[j]? =some x):ns.take (j+1)=ns.take j++[x]:=by rw [List.take_add_one,hx];rfl
theorem zwr {w0 w w1:World} {B k:Nat} {xs:List Value} {ns:List Int} {u v1:Value} {x:Int} (h:zgg w0 w B k xs ns 0 u) (hx:ns[0]? =some x) (h1:w1.ownsRow B 5 1 v1 (k+(zax (ns.take 0)).length+(itoa x).length) (xs++Lib.byteCells (zax (ns.take 0))++Lib.byteCells (itoa x))) (hb:Below B w w1) (hk:OthersKept 5 none w w1):zgg w0 w1 B k xs ns 1 v1:=by
 refine ⟨?_,h.2.1.trans hb,h.2.2.trans hk⟩;rw [ziy hx,List.take_zero,List.nil_append]
 simpa [zax,zbg,Lib.byteCells] using h1
def z4s (w0 w:World) (B k:Nat) (xs:List Value) (ns:List Int) (j:Nat) (v:Value):Prop:=
 w.ownsRow B 5 1 v (k+(zax (ns.take j)).length+1) (xs++Lib.byteCells (zax (ns.take j))++[.int .u8 32])/\Below B w0 w/\OthersKept 5 none w0 w/\B<=w.heap.size
theorem one_byte {b:Int}:∀u∈[Value.int .u8 b],u.oneCell'=true:=by simp [Value.oneCell']
theorem z1j {w w1:World} {B n:Nat} {xs:List Value} {u:Value} {o:Obj} (hu:w.ownsRow B 5 1 u n xs) (hg:(w.alloc o).grownBy w1 u.ownBlock):OthersKept 5 none w w1:=by
 intro k c hk _ hc;have hlt:=G.lt_of_some hk;rw [hg.block k (by simp;omega) ?_,Below.heap_alloc _ _ _ hlt]
 ·exact hk
 ·rcases hu.2 with ⟨rfl,_⟩ | ⟨g,cap,cur,rfl,_,hgb,_⟩
  ·simp [Value.ownBlock]
  ·intro e
   simp [Value.ownBlock] at e;subst e;rw [hgb] at hk;injection hk with hk
   exact hc _ _ hk.symm
theorem zn4 {w0 w w1:World} {B n:Nat} {xs:List Value} {u:Value} {o:Obj} (hu:w.ownsRow B 5 1 u n xs) (hb:Below B w0 w) (hn:OthersKept 5 none w0 w) (hB:B<=w.heap.size) (hg:(w.alloc o).grownBy w1 u.ownBlock):
 Below B w0 w1/\OthersKept 5 none w0 w1/\B<=w1.heap.size:=by
 have hs:=hg.size;rw [World.size_alloc] at hs;exact ⟨hb.trans (((Below.refl B w).alloc hB o).grown hg (by simp;omega) λ j hj=>(hu.lt j hj).1),hn.trans (z1j hu hg),by omega⟩
theorem zus {w0 w w1:World} {B k j:Nat} {xs:List Value} {ns:List Int} {u v1:Value} {o:Obj} (h:zgg w0 w B k xs ns j u) (hB:B<=w.heap.size) (h1:w1.ownsRow B 5 1 v1 (k+(zax (ns.take j)).length+1) (xs++Lib.byteCells (zax (ns.take j))++[.int .u8 32])) (hg:(w.alloc o).grownBy w1 u.ownBlock):z4s w0 w1 B k xs ns j v1:=
 ⟨h1,zn4 h.1 h.2.1 h.2.2 hB hg⟩
theorem zzl {w0 w w1:World} {B k j:Nat} {xs:List Value} {ns:List Int} {u v1:Value} {x:Int} (h:z4s w0 w B k xs ns j u) (hj:¬j=0) (hx:ns[j]? =some x) (h1:w1.ownsRow B 5 1 v1 (k+(zax (ns.take j)).length+1+(itoa x).length) (xs++Lib.byteCells (zax (ns.take j))++[.int .u8 32]++Lib.byteCells (itoa x))) (hb:Below B w w1) (hk:OthersKept 5 none w w1):zgg w0 w1 B k xs ns (j+1) v1:=by
 have hne:ns.take j≠[]:=by
  intro k;have hl:=(List.getElem?_eq_some_iff.1 hx).1;have:=congrArg List.length k;rw [List.length_take,List.length_nil] at this;omega
 refine ⟨?_,h.2.1.trans hb,h.2.2.1.trans hk⟩;rw [ziy hx,zvx,if_neg hne,List.length_append,List.length_cons];have e:k+((zax (ns.take j)).length+((itoa x).length+1))=k+(zax (ns.take j)).length+1+(itoa x).length:=by omega
 rw [e,bytes_append]
 simpa [Lib.byteCells] using h1
theorem z1k {w0 w w1:World} {B k m:Nat} {xs:List Value} {ns:List Int} {u v1:Value} {o:Obj} (h:zgg w0 w B k xs ns m u) (hm:m=ns.length) (hB:B<=w.heap.size) (h1:w1.ownsRow B 5 1 v1 (k+(zax (ns.take m)).length+1) (xs++Lib.byteCells (zax (ns.take m))++[.int .u8 10])) (hg:(w.alloc o).grownBy w1 u.ownBlock):
 w1.ownsRow B 5 1 v1 (k+(zax ns).length+1) (xs++Lib.byteCells (zax ns++[10]))/\Below B w0 w1/\OthersKept 5 none w0 w1:=by
 subst hm;rw [List.take_length] at h1;have hm:=zn4 h.1 h.2.1 h.2.2 hB hg;refine ⟨?_,hm.1,hm.2.1⟩;rw [bytes_append,<-List.append_assoc];exact h1
theorem zpz (B nb m c k:Nat) (v:Value) (xs:List Value) (ns:List Int) (w:World) (hown:w.ownsRow B 5 1 v k xs) (hB:B<=w.heap.size) (hm:m=ns.length) (hnb:w.heap[nb]? =some (.cells (ns.map (Value.int .i64)).toArray 3)) (hr:∀x∈ns,0<=x/\x<=9223372036854775807) (hk:k<=90000) (h3:ns.length<=3) (htab:TB B w):
 Calls prog 51 #[v,.slice (some ⟨nb,0,none⟩) m c] w λ e w'=>∃v',e= .returned v'/\w'.ownsRow B 5 1 v' (k+(zax ns).length+1) (xs++Lib.byteCells (zax ns++[10]))/\Below B w w'/\OthersKept 5 none w w':=by
 have H0:Hid (zgg w w B k xs ns 0 v):=⟨by simpa [zax,zbg,Lib.byteCells] using hown,Below.refl _ _,OthersKept.refl _ _ _⟩;have HNB:=kd hnb;have HR:=kd hr;have HT:=kd htab;have HM:=kd hm;have HB:=kd hB;have HK:=kd (And.intro hk h3);have hm3:m<=3:=by omega
 clear hown hnb hr htab hB hm hk h3;go_enter func51,ntmps51;go_wp2_with fail;go_loopw [0,9] (λ s0 s9 wq=>∃j:Nat,j<=m/\s9= .int .i64 j/\zgg w wq B k xs ns j s0) (λ _ s9 _=>m-(RowKit.intOf s9).toNat)
 case atStart=>exact ⟨0,Nat.zero_le _,rfl,H0.out⟩
 case round=>
  obtain ⟨j,hj,rfl,hat⟩:=hrel;have HA:=kd hat;clear hat;by_cases hlt:j<m
  ·have hjn:j<ns.length:=by have:=HM.out;omega
   have hx:ns[j]? =some ns[j]:=List.getElem?_eq_getElem hjn;have HX:=kd hx;have HXR:Hid (0<=ns[j]/\ns[j]<=9223372036854775807):=HR.out _ (List.mem_of_getElem? hx);have hc:=zi5 (HA.out.2.2 _ _ HNB.out (by simp) (by simp)) hx;generalize ns[j]=x at*;have HBW:Hid (B<=wr.heap.size):=Nat.le_trans HB.out HA.out.2.1.size;have HL:Hid (k+(zax (ns.take j)).length<=99000):=by
    have hl:=zdf (ns:=ns.take j) (λ y hy=>HR.out y (List.mem_of_mem_take hy));rw [List.length_take] at hl;have:=HK.out;show _<=_;omega
   clear hx hjn;by_cases hj0:j=0
   ·subst hj0
    have HC:Hid _:=zh9 B _ x HXR.out.1 HXR.out.2 u0 _ wr HA.out.1 HBW.out (by have:=HL.out;omega) (HT.out.on HA.out.2.1);go_wp2_with (go_at_call 112;refine Calls.mono HC.out ?_;rintro e w1 ⟨v1,rfl,hown1,hb1,hk1⟩);go_wp2_with fail;go_roundw;case rel=>exact ⟨1,by omega,by go_num,zwr HA.out HX.out hown1 hb1 hk1⟩
    case measure=>simp [RowKit.intOf];omega
   ·obtain ⟨i0,hi,hz,hs,hb⟩:=info5
    have hrow:=HA.out.1;have hl9:=HL.out;have hbw:=HBW.out;go_wp2_with (first
     | (at_builtin;refine wpList_append_own_at _ rfl _ _ 88 rfl B 5 i0 (.int .u8 0) 1 1 underlying88 hi hz hs hb rfl (by decide) u0 _ _ rfl (hrow.alloc _) ⟨wr.heap.size,0,none⟩ 1 1 [.int .u8 32] rfl rfl (cell_one_new _ _ _) one_byte (by unfold maxLen;omega) (by omega) (by simp;omega) ?_;intro v1 w1 hown1 hg1 _ _)
     | fail)
    have HS1:Hid (z4s w w1 B k xs ns j v1):=zus HA.out HBW.out hown1 hg1;clear hrow hown1 hg1;have HC:Hid _:=zh9 B _ x HXR.out.1 HXR.out.2 v1 _ w1 HS1.out.1 HS1.out.2.2.2 (by have:=HL.out;omega) (HT.out.on HS1.out.2.1);go_wp2_with (go_at_call 112;refine Calls.mono HC.out ?_;rintro e w2 ⟨v2,rfl,hown2,hb2,hk2⟩);go_wp2_with fail;go_roundw;case rel=>exact ⟨j+1,by omega,by go_num,zzl HS1.out hj0 HX.out hown2 hb2 hk2⟩
    case measure=>simp [RowKit.intOf];omega
  ·obtain rfl:j=m:=by omega
   obtain ⟨i0,hi,hz,hs,hb⟩:=info5;have hrow:=HA.out.1;have HBW:Hid (B<=wr.heap.size):=Nat.le_trans HB.out HA.out.2.1.size;have hbw:=HBW.out;have hl9:k+(zax (ns.take j)).length<=99000:=by
    have hl:=zdf (ns:=ns.take j) (λ y hy=>HR.out y (List.mem_of_mem_take hy));rw [List.length_take] at hl;have:=HK.out;omega
   go_wp2_with (first
    | (at_builtin;refine wpList_append_own_at _ rfl _ _ 88 rfl B 5 i0 (.int .u8 0) 1 1 underlying88 hi hz hs hb rfl (by decide) u0 _ _ rfl (hrow.alloc _) ⟨wr.heap.size,0,none⟩ 1 1 [.int .u8 10] rfl rfl (cell_one_new _ _ _) one_byte (by unfold maxLen;omega) (by omega) (by simp;omega) ?_;intro v1 w1 hown1 hg1 _ _)
    | fail)
   go_ret;exact ⟨v1,rfl,z1k HA.out HM.out HBW.out hown1 hg1⟩
def edI (e:G.E):List UInt8:=zax [e.1,e.2.1,e.2.2]++[10]
def svI (n:Nat) (L:List G.E):List UInt8:=zax [(n:Int)]++[10]++L.flatMap edI
theorem yaa8 {n:Nat} {L:List G.E} (h:∀e∈L,0<=e.1/\0<=e.2.1/\0<=e.2.2):svE n L=svI n L:=by
 unfold svE svB svI textOf;rw [List.flatMap_cons,List.map_map,List.flatMap_map]
 congr 1
 induction L with
 | nil=>rfl
 | cons e L ih=>
   have he:=h e (by simp);rw [List.flatMap_cons,List.flatMap_cons,ih (λ x hx=>h x (by simp [hx]))]
   congr 1
   simp [zqe,zdl,edI,zax,Int.toNat_of_nonneg he.1,Int.toNat_of_nonneg he.2.1,Int.toNat_of_nonneg he.2.2]
theorem zjc {n:Nat} {L:List G.E} (h:Ok n L):svE n L=svI n L:=yaa8 (λ e he=>by have:=h.ed e he;omega)
theorem z9f {n:Nat} {L:List G.E} (h:Ok n L) {e:G.E} (he:e∈L):(edI e).length<=64:=by
 have h1:=h.ed e he;have h40:=h.n40;have:=zdf (ns:=[e.1,e.2.1,e.2.2]) (λ x hx=>by
  simp at hx;rcases hx with rfl | rfl | rfl <;> omega)
 unfold edI;rw [List.length_append];simp at this ⊢;omega
theorem zl8 {n:Nat} {L:List G.E} (h:Ok n L) (j:Nat):(svI n (L.take j)).length<=22+64*120:=by
 have h1:=zdf (ns:=[(n:Int)]) (λ x hx=>by have:=h.n40;simp at hx;omega);have key:∀M:List G.E,(∀e∈M,e∈L)->(M.flatMap edI).length<=64*M.length:=by
  intro M;induction M with
  | nil=>simp
  | cons e M ih=>
    intro hM;have a:=z9f h (hM e (by simp));have b:=ih (λ x hx=>hM x (by simp [hx]));rw [List.flatMap_cons,List.length_append,List.length_cons];omega
 have h2:=key (L.take j) (λ e he=>List.mem_of_mem_take he);have h3:=h.len;rw [List.length_take] at h2;unfold svI;rw [List.length_append,List.length_append];simp only [List.length_singleton] at h1 ⊢;omega
theorem zp9 {n:Nat} {L:List G.E} {j:Nat} {e:G.E} (he:L[j]? =some e):svI n (L.take (j+1))=svI n (L.take j)++edI e:=by
 unfold svI;rw [List.take_add_one,he,Option.toList_some,List.flatMap_append];simp
def Ix (w:World) (x p q:Nat):Prop:=w.heap[x]? =some (.cells #[.pointer (some ⟨p,0,none⟩),.pointer (some ⟨q,0,none⟩)] 85)
theorem Ix.lt {w:World} {x p q:Nat} (h:Ix w x p q):x<w.heap.size:=G.lt_of_some h
theorem Ix.below {w w':World} {x p q B:Nat} (h:Ix w x p q) (hb:Below B w w') (hB:x<B):Ix w' x p q:=(hb.block x hB).trans h
theorem Ix.c0 {w:World} {x p q:Nat} (h:Ix w x p q):w.cell? ⟨x,0,none⟩=some (.pointer (some ⟨p,0,none⟩)):=by simp [World.cell?,show w.heap[x]? =_ from h]
theorem Ix.c1 {w:World} {x p q:Nat} (h:Ix w x p q):w.cell? ⟨x,1,none⟩=some (.pointer (some ⟨q,0,none⟩)):=by simp [World.cell?,show w.heap[x]? =_ from h]
theorem zuy {w:World} {B k:Nat} {v:Value} {l:List UInt8} (h:w.ownsRow B 5 1 v k (Lib.byteCells l)) (hk:k=l.length) (hne:l≠[]):(convert 88 9 v).run prog w= .ok (.string ⟨l.toArray⟩) w:=by
 subst hk;rcases h.2 with ⟨rfl,hz⟩ | ⟨g,cap,cur,rfl,hb,hg,_⟩
 ·exact absurd (List.length_eq_zero_iff.1 hz) hne
 ·refine run_convert_whole (P:=prog) w 88 5 9 underlying88 underlying5 underlying9 g 0 ⟨l.toArray⟩ ?_ cap
  intro i hi;have hi':i<l.length:=hi;have e:(Lib.byteCells l)[i]? =some (.int .u8 (l[i].toNat:Int)):=by simp [Lib.byteCells,hi']
  have hc:=h.cells rfl i _ e;rw [G.zbm] at hc;rw [Nat.zero_add];exact hc
def zmw (w0 w:World) (n:Nat) (L:List G.E) (j:Nat) (v:Value):Prop:=
 w.ownsRow w0.heap.size 5 1 v (svI n (L.take j)).length (Lib.byteCells (svI n (L.take j)))/\Below w0.heap.size w0 w
theorem zr3 {w:World} {B b:Nat} {v:Value} {L:List G.E} (h:G.zad w B 61 v L) (hb:v.ownBlock=some b) {j:Nat} {e:G.E} (he:L[j]? =some e):
 w.cell? ⟨b,j*3,none⟩=some (.int .i64 e.1)/\w.cell? ⟨b,j*3+1,none⟩=some (.int .i64 e.2.1)/\w.cell? ⟨b,j*3+2,none⟩=some (.int .i64 e.2.2):=by
 obtain ⟨h1,h2,h3⟩:=G.zjn L j e he;have k1:=World.ownsRow.cells h hb _ _ h1;have k2:=World.ownsRow.cells h hb _ _ h2;have k3:=World.ownsRow.cells h hb _ _ h3;rw [G.zbm] at k1 k2 k3;exact ⟨k1,k2,k3⟩
theorem zhx {w w':World} {base e s n:Nat} {v:Value} {xs:List Value} (h:w.ownsRow base e s v n xs) (hb:Below w.heap.size w w'):w'.ownsRow base e s v n xs:=h.kept (G.zf8 hb (Nat.le_refl _) none) (by cases v.ownBlock <;> simp)
theorem zvw {w0 w:World} {n j:Nat} {L:List G.E} {u:Value} {e0 e1 e2:Int} (h:zmw w0 w n L j u) (hok:Ok n L) (he:L[j]? =some (e0,e1,e2)) (hv:Vars w0):
 Calls prog 51 #[u,.slice (some ⟨w.heap.size+1,0,none⟩) 3 3] ((w.alloc (.cells #[.int .i64 e0,.int .i64 e1,.int .i64 e2] 61)).alloc (.cells #[.int .i64 e0,.int .i64 e1,.int .i64 e2] 3)) λ e w'=>∃v',e= .returned v'/\zmw w0 w' n L (j+1) v'/\OthersKept 5 none w w':=by
 have hb:Below w0.heap.size w0 ((w.alloc (.cells #[.int .i64 e0,.int .i64 e1,.int .i64 e2] 61)).alloc (.cells #[.int .i64 e0,.int .i64 e1,.int .i64 e2] 3)):=h.2.trans (((Below.refl _ w).alloc h.2.size _).alloc (by have:=h.2.size;simp;omega) _);have h40:=hok.n40;have hed:=hok.ed _ (List.mem_of_getElem? he);dsimp only at hed;have hnew:=World.alloc_heap_new (w.alloc (.cells #[.int .i64 e0,.int .i64 e1,.int .i64 e2] 61)) (.cells #[.int .i64 e0,.int .i64 e1,.int .i64 e2] 3);rw [World.size_alloc] at hnew;have hsz:=zl8 hok j;have hle:=h.2.size;refine (zpz w0.heap.size (w.heap.size+1) 3 3 _ u _ [e0,e1,e2] _ ((h.1.alloc _).alloc _) (by simp;omega) rfl hnew (λ y hy=>by simp at hy;rcases hy with rfl | rfl | rfl <;> omega) (by omega) (by simp) ((hv.tb hv.big).on hb)).mono ?_;rintro e w' ⟨v',rfl,h1,h2,h3⟩;refine ⟨v',rfl,⟨?_,hb.trans h2⟩,OthersKept.trans (λ k o hk _ _=>?_) h3⟩
 ·rw [zp9 he,List.length_append,bytes_append]
  have e1:edI (e0,e1,e2)=zax [e0,e1,e2]++[10]:=rfl;rw [e1,List.length_append,List.length_singleton,<-Nat.add_assoc];exact h1
 ·have hk':=G.lt_of_some hk
  rw [Below.heap_alloc _ _ _ (by simp;omega),Below.heap_alloc _ _ _ hk'];exact hk
theorem ztp {w:World} {B n c:Nat} {a:Option Addr} {L:List G.E} (h:G.zad w B 61 (.slice a n c) L) (hn:0<L.length):∃g,a=some ⟨g,0,none⟩:=by
 rcases h.shape with ⟨_,k⟩ | ⟨g,c',k,_⟩
 ·subst k;simp at hn
 ·injection k with k _ _
  exact ⟨g,k⟩
theorem zs6 {w w':World} {B:Nat} {v:Value} {L:List G.E} (h:G.zad w B 61 v L) (k:OthersKept 5 none w w'):G.zad w' B 61 v L:=by
 refine ⟨h.1,?_⟩;rcases h.2 with h2 | ⟨g,cap,cur,a,b,c,d⟩
 ·exact .inl h2
 ·exact .inr ⟨g,cap,cur,a,b,k _ _ c (by simp) (by simp),d⟩
theorem zyu {w0 w:World} {n j:Nat} {L:List G.E} {u:Value} (h:zmw w0 w n L j u) (hl:L.length=j):(convert 88 9 u).run prog w= .ok (.string ⟨(svI n L).toArray⟩) w:=by
 subst hl;have h1:=h.1;rw [List.take_length] at h1;exact zuy h1 rfl (by unfold svI;simp)
theorem zn0 (x p q n B:Nat) (v:Value) (L:List G.E) (w:World) (hx:Ix w x p q) (hg:G.GAt w B 168 61 p (n:Int) v L) (hok:Ok n L) (hv:Vars w):
 Calls prog 16 #[.pointer (some ⟨x,0,none⟩)] w λ e w'=>e= .returned (.string ⟨(svI n L).toArray⟩)/\Below w.heap.size w w':=by
 have HG:=kd hg;have HOK:=kd hok;have HV:=kd hv;have HX:=kd hx;have hc:=hx.c0;have HN:Hid _:=G.zbb (n:Int) B p v L w hg;clear hg hok hv hx;go_enter func16,ntmps16;go_wp2_with (go_at_call 52;refine Calls.mono HN.out ?_;rintro e w1 ⟨rfl,hw1⟩;subst w1);have hn0:(0:Int)<=(n:Int)/\(n:Int)<=40:=by have:=HOK.out.n40;omega
 have HC:Hid _:=zpz w.heap.size w.heap.size 1 1 0 (.slice none 0 0) [] [(n:Int)] (w.alloc (.cells #[.int .i64 (n:Int)] 3)) (World.ownsRow_nil _ _ _ _) (by simp) rfl (World.alloc_heap_new w _) (λ y hy=>by simp at hy;omega) (by omega) (by simp) ((HV.out.tb HV.out.big).on ((Below.refl _ w).alloc (Nat.le_refl _) _));refine Calls.mono HC.out ?_;rintro e w2 ⟨v2,rfl,hown2,hb2,_⟩;have HB2:Hid (Below w.heap.size w w2):=((Below.refl _ w).alloc (Nat.le_refl _) _).trans hb2;have H0:Hid (zmw w w2 n L 0 v2):=⟨by simpa [svI] using hown2,HB2.out⟩;have hc2:=(HX.out.below HB2.out HX.out.lt).c0;have HE:Hid _:=G.zbv (n:Int) B p v L w2 (HG.out.below HB2.out) HOK.out.len;clear hown2 hb2 HC HN hc;have hlen:L.length<=120:=HOK.out.len;generalize hll:L.length=len at hlen;have HLL:=kd hll;clear hll;go_wp2_with (go_at_call 48;refine Calls.mono HE.out ?_;rintro e w3 ⟨u3,rfl,hu3,hb3⟩;obtain ⟨a3,c3,hu3e⟩:=hu3.zal;rw [HLL.out] at hu3e;subst hu3e);have HB3:Hid (Below w.heap.size w w3):=HB2.out.trans (hb3.mono HB2.out.size);have HU:=kd hu3;have H3:Hid (zmw w w3 n L 0 v2):=⟨zhx H0.out.1 hb3,HB3.out⟩;clear hb3 hc2 HE hu3;go_loopw [3,19] (λ s3 s19 wq=>∃j:Nat,j<=len/\s19= .int .i64 j/\zmw w wq n L j s3/\G.zad wq w2.heap.size 61 (.slice a3 len c3) L) (λ _ s19 _=>len-(RowKit.intOf s19).toNat)
 case atStart=>exact ⟨0,Nat.zero_le _,rfl,H3.out,HU.out⟩
 case round=>
  obtain ⟨j,hj,rfl,hat,how⟩:=hrel;have HA:=kd hat;have HO:=kd how;clear hat how;by_cases hlt:j<len
  ·have hjn:j<L.length:=by have:=HLL.out;omega
   have hx:L[j]? =some L[j]:=List.getElem?_eq_getElem hjn;have HXE:=kd hx;have HXR:Hid _:=HOK.out.ed _ (List.mem_of_getElem? hx);have HM:Hid _:=List.mem_of_getElem? hx;obtain ⟨g3,rfl⟩:=ztp HO.out (by omega)
   ·obtain ⟨hc0,hc1,hc2⟩:=zr3 HO.out rfl hx
    generalize L[j]=ee at*;obtain ⟨e0,e1,e2⟩:=ee;dsimp only at hc0 hc1 hc2;clear hx hjn;go_wp2_with fail;refine Calls.mono (zvw HA.out HOK.out HXE.out HV.out) ?_;rintro e w4 ⟨v4,rfl,hat4,hb4⟩;have HO4:Hid (G.zad w4 w2.heap.size 61 (.slice (some ⟨g3,0,none⟩) len c3) L):=zs6 HO.out hb4;have HA4:=kd hat4;clear hat4 hb4 hc0 hc1 hc2;go_wp2_with fail;go_roundw;case rel=>exact ⟨j+1,by omega,by go_num,HA4.out,HO4.out⟩
    case measure=>simp [RowKit.intOf];omega
  ·obtain rfl:j=len:=by omega
   have hrow:=HA.out.1;have hcv:(convert 88 9 u3).run prog wr= .ok (.string ⟨(svI n L).toArray⟩) wr:=zyu HA.out HLL.out;go_wp2_with fail;go_ret;exact ⟨rfl,HA.out.2⟩
end Go.Proofs.YtebcjaenhiiflaaGreatDoor.I
