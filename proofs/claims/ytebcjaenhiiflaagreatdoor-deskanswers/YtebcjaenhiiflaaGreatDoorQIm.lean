import Derived.Lib.Split
import Derived.Lib.ParseIntB
import Derived.Lib.ItoaNum
import Derived.Test.YtebcjaenhiiflaaGreatDoorQGMFm
namespace Go.Proofs.Y.I
open Go.Lib
theorem Ni {d:Nat}(h:d<10):(UInt8.ofNat (48+d)).toNat=48+d:=by
 rw[UInt8.toNat_ofNat'];omega
theorem Lr:∀(l:List UInt8) (acc v:Nat) {d:Nat},parseUint10 acc l= .ok v->d<10->v<1844674407370955161->parseUint10 acc (l++[UInt8.ofNat (48+d)])= .ok (v*10+d)
 |[],acc,v,d,h,hd,hv=>by
  simp only[parseUint10] at h;injection h with h
  subst h;have e:=Ni hd;simp only[List.nil_append,parseUint10,e];rw[if_pos ⟨by omega,by omega⟩,if_neg (by omega),show 48+d-48=d by omega,if_neg (by omega)]
 |c::r,acc,v,d,h,hd,hv=>by
  simp only[List.cons_append,parseUint10] at h ⊢;split at h
  ·next k=>
   rw[if_pos k];split at h
   ·cases h
   ·next k2=>
    rw[if_neg k2];split at h
    ·cases h
    ·next k3=>
     rw[if_neg k3];exact Lr r _ v h hd hv
  ·cases h
theorem Kl {u:Nat}(h:u<10):decDigits u=[UInt8.ofNat (48+u)]:=by rw[decDigits,dif_pos h]
theorem Ru {u:Nat}(h:¬u<10):decDigits u=decDigits (u/10)++[UInt8.ofNat (48+u%10)]:=by rw[decDigits,dif_neg h]
theorem zar (u:Nat)(h:u<=9223372036854775807):parseUint10 0 (decDigits u)= .ok u:=by
 induction u using Nat.strongRecOn with
 |ind u ih=>
  by_cases c:u<10
  ·rw[Kl c]
   have:=Lr [] 0 0 (d:=u) rfl c (by omega)
   simpa using this
  ·rw[Ru c]
   have h1:=ih (u/10) (by omega) (by omega);have:=Lr (decDigits (u/10)) 0 (u/10) (d:=u%10) h1 (by omega) (by omega);rw[this]
   congr 1
   omega
theorem Xw (u:Nat):∀c∈decDigits u,48<=c.toNat/\c.toNat<=57:=by
 induction u using Nat.strongRecOn with
 |ind u ih=>
  intro c hc;by_cases k:u<10
  ·rw[Kl k] at hc
   rw[List.mem_singleton.1 hc,Ni k];omega
  ·rw[Ru k] at hc
   rcases List.mem_append.1 hc with hc|hc
   ·exact ih (u/10) (by omega) c hc
   ·rw[List.mem_singleton.1 hc,Ni (by omega)]
    omega
theorem ztd (u:Nat):decDigits u≠[]:=by
 by_cases k:u<10
 ·rw[Kl k];simp
 ·rw[Ru k];simp
theorem Su (u:Nat):itoa (u:Int)=decDigits u:=by
 unfold itoa;rw[if_neg (by omega)];simp
theorem zg8 (u:Nat)(h:u<=9223372036854775807):atoiAll (itoa (u:Int))= .ok (u:Int):=by
 rw[Su];cases hd:decDigits u with
 |nil=>exact absurd hd (ztd u)
 |cons c r=>
  have hc:=Xw u c (by rw[hd];simp);have hp:parseMag (c::r)= .ok u:=by
   unfold parseMag;rw[if_neg (by simp),<-hd];exact zar u h
  unfold atoiAll;simp only;rw[if_neg (by omega),hp];simp only;rw[if_neg (by omega),if_neg (by omega),if_neg (by omega)]
end Go.Proofs.Y.I
namespace Go.Proofs.Y.I
open Go.Lib
theorem Rt (s:List UInt8)(b:UInt8)(j:Nat):occAt s [b] j=true↔s[j]? =some b:=by
 unfold occAt;rw[<-List.head?_drop];cases s.drop j with
 |nil=>simp[List.isPrefixOf]
 |cons c r=>
  simp[List.isPrefixOf];exact eq_comm
theorem bu {p r:List UInt8}{b:UInt8}(hp:b∉p):index (p++b::r) [b]=(p.length:Int):=by
 have q9:occAt (p++b::r) [b] p.length=true:=by
  rw[Rt,List.getElem?_append_right (Nat.le_refl _),Nat.sub_self];rfl
 rcases index_spec (p++b::r) [b] with⟨_,h2⟩|⟨i,h1,_,h3,h4⟩
 ·have:=h2 p.length (by simp)
  rw[q9] at this;cases this
 ·rw[h1]
  rcases Nat.lt_trichotomy i p.length with c|c|c
  ·rw[Rt,List.getElem?_append_left c] at h3
   exact absurd (List.mem_of_getElem? h3) hp
  ·rw[c]
  ·have:=h4 p.length c
   rw[q9] at this;cases this
theorem zl7 {p:List UInt8}{b:UInt8}(hp:b∉p):index p [b]= -1:=by
 rcases index_spec p [b] with⟨h1,_⟩|⟨i,_,_,h3,_⟩
 ·exact h1
 ·rw[Rt] at h3
  exact absurd (List.mem_of_getElem? h3) hp
theorem Ti {p r:List UInt8}{b:UInt8}(hp:b∉p):split (p++b::r) [b]=p::split r [b]:=by
 have hi:=bu (r:=r) hp;have hd:(p++b::r).drop (p.length+[b].length)=r:=by
  rw[<-List.drop_drop,List.drop_append_of_le_length (Nat.le_refl _),List.drop_length];rfl
 unfold split;rw[count_hit (by simp) hi,hd,Nat.add_comm,splitK,if_neg (by rw[hi];simp),hi];simp only[Int.toNat_natCast,Nat.add_zero];rw[List.take_append_of_le_length (Nat.le_refl _),List.take_length,hd]
theorem Oq {p:List UInt8}{b:UInt8}(hp:b∉p):split p [b]=[p]:=by
 unfold split;rw[count_miss (zl7 hp)];rfl
theorem zgr {p r:List UInt8}{b:UInt8}(hp:b∉p):cut (p++b::r) [b]=(p,r,true):=by
 have hi:=bu (r:=r) hp;have hd:(p++b::r).drop (p.length+[b].length)=r:=by
  rw[<-List.drop_drop,List.drop_append_of_le_length (Nat.le_refl _),List.drop_length];rfl
 unfold cut;rw[if_pos (by rw[hi];omega),hi];simp only[Int.toNat_natCast];rw[hd,List.take_append_of_le_length (Nat.le_refl _),List.take_length]
def textOf (ls:List (List UInt8)):List UInt8:=ls.flatMap (·++[10])
def Bu:List (List UInt8)->List UInt8
 |[]=>[]
 |[x]=>x
 |x::y::r=>x++32::Bu (y::r)
def wds:List UInt8->List UInt8->List (List UInt8)
 |_,[]=>[]
 |acc,c::r=>if c=32\/c=10 then acc::wds [] r else wds (acc++[c]) r
theorem Sz:∀{p:List UInt8} {acc r:List UInt8} {c:UInt8},(∀x∈p,x≠32/\x≠10)->(c=32\/c=10)->wds acc (p++c::r)=(acc++p)::wds [] r
 |[],acc,r,c,_,hc=>by simp[wds,hc]
 |x::p,acc,r,c,h,hc=>by
  have hx:=h x (by simp);rw[List.cons_append,wds,if_neg (by simp[hx]),Sz (λ y hy=>h y (by simp[hy])) hc];simp
theorem lh:∀{ws:List (List UInt8)} {r:List UInt8},ws≠[]->(∀l∈ws,∀x∈l,x≠32/\x≠10)->wds [] (Bu ws++10::r)=ws++wds [] r
 |[],_,h,_=>absurd rfl h
 |[x],r,_,h=>by
  rw[Bu,Sz (h x (by simp)) (.inr rfl)];rfl
 |x::y::t,r,_,h=>by
  rw[Bu,List.append_assoc,List.cons_append,Sz (h x (by simp)) (.inl rfl),lh (by simp) (λ l hl=>h l (by simp at hl ⊢;exact .inr hl))];rfl
def Gz (ns:List Nat):List UInt8:=Bu (ns.map λ n:Nat=>itoa (n:Int))
theorem Ui (n:Nat):∀x∈itoa (n:Int),x≠32/\x≠10:=λ x hx=>by
 rw[Su] at hx;have:=Xw n x hx;constructor
 ·rintro rfl;simp at this
 ·rintro rfl;simp at this
def svB (n:Nat)(L:List (Nat × Nat × Nat)):List UInt8:=textOf (Gz [n]::L.map λ e=>Gz [e.1,e.2.1,e.2.2])
theorem ztm (n:Nat)(L:List (Nat × Nat × Nat)):cut (svB n L) [10]=(itoa (n:Int),textOf (L.map λ e=>Gz [e.1,e.2.1,e.2.2]),true):=by
 have e:svB n L=itoa (n:Int)++10::textOf (L.map λ e=>Gz [e.1,e.2.1,e.2.2]):=by simp[svB,textOf,Gz,Bu]
 rw[e];exact zgr (λ k=>(Ui n _ k).2 rfl)
theorem dn:∀(L:List (Nat × Nat × Nat)),wds [] (textOf (L.map λ e=>Gz [e.1,e.2.1,e.2.2]))=L.flatMap λ e=>[itoa (e.1:Int),itoa (e.2.1:Int),itoa (e.2.2:Int)]
 |[]=>rfl
 |e::L=>by
  have h1:textOf ((e::L).map λ e=>Gz [e.1,e.2.1,e.2.2])=Bu ([e.1,e.2.1,e.2.2].map λ n:Nat=>itoa (n:Int))++10::textOf (L.map λ e=>Gz [e.1,e.2.1,e.2.2]):=by simp[textOf,Gz]
  rw[h1,lh (by simp) (λ l hl x hx=>by
   obtain⟨n,_,rfl⟩:=List.mem_map.1 hl;exact Ui n x hx),dn L]
  rfl
end Go.Proofs.Y.I
namespace Go.Proofs.Y.I
open Go.Lib
theorem T9:∀{L:List G.E} {id:Int},(∀x∈L,x.1<id)->G.place L id=L.length
 |[],_,_=>rfl
 |x::L,id,h=>by
  have h1:=h x (by simp);have ih:=T9 (L:=L) (λ y hy=>h y (by simp[hy]));simp[G.place,h1,ih]
theorem zmr {L:List G.E}{e:G.E}(h:∀x∈L,x.1<e.1):G.Ej L e=L++[e]:=by
 unfold G.Ej;rw[T9 h,List.take_length,List.drop_length]
theorem zid {L:List G.E}(hu:G.Up L){i:Nat}{e:G.E}(he:L[i]? =some e):G.Ej (L.take i) e=L.take (i+1):=by
 rw[zmr,List.take_add_one,he]
 ·rfl
 ·intro x hx
  obtain⟨j,hj⟩:=List.getElem?_of_mem hx;rw[List.getElem?_take] at hj;split at hj
  ·next c=>
   obtain⟨l1,l2⟩:=List.getElem?_eq_some_iff.1 hj;obtain⟨l3,l4⟩:=List.getElem?_eq_some_iff.1 he;have:=List.pairwise_iff_getElem.1 hu j i l1 l3 c;rw[l2,l4] at this;exact this
  ·cases hj
theorem znd {L:List G.E}(hu:G.Up L){i:Nat}{e:G.E}(he:L[i]? =some e):∀x∈L.take i,x.1≠e.1:=by
 intro x hx k;obtain⟨j,hj⟩:=List.getElem?_of_mem hx;rw[List.getElem?_take] at hj;split at hj
 ·next c=>
  obtain⟨l1,l2⟩:=List.getElem?_eq_some_iff.1 hj;obtain⟨l3,l4⟩:=List.getElem?_eq_some_iff.1 he;have:=List.pairwise_iff_getElem.1 hu j i l1 l3 c;rw[l2,l4,k] at this;omega
 ·cases hj
def ze (e:G.E):Nat × Nat × Nat:=(e.1.toNat,e.2.1.toNat,e.2.2.toNat)
def svE (n:Nat)(L:List G.E):List UInt8:=svB n (L.map ze)
theorem zic {L:List G.E}(h:∀e∈L,0<=e.1/\0<=e.2.1/\0<=e.2.2):wds [] (textOf ((L.map ze).map λ e=>Gz [e.1,e.2.1,e.2.2]))=L.flatMap λ e=>[itoa e.1,itoa e.2.1,itoa e.2.2]:=by
 rw[dn,List.flatMap_map];induction L with
 |nil=>rfl
 |cons e L ih=>
  have he:=h e (by simp);rw[List.flatMap_cons,List.flatMap_cons,ih (λ x hx=>h x (by simp[hx]))];simp[ze,Int.toNat_of_nonneg he.1,Int.toNat_of_nonneg he.2.1,Int.toNat_of_nonneg he.2.2]
end Go.Proofs.Y.I
namespace Go.Proofs.Y.I
open Go.Lib
structure Ok (n:Nat) (L:List G.E):Prop where
 n40:n<=40
 up:G.Up L
 len:L.length<=120
 ed:∀e∈L,(0<=e.1/\e.1<=1099511627776)/\0<=e.2.1/\e.2.1<e.2.2/\e.2.2<(n:Int)
def Fits (n:Nat)(L:List G.E)(id a b:Int):Prop:=
 (0<=id/\id<=1099511627776)/\(0<=a/\a<(n:Int))/\(0<=b/\b<(n:Int))/\a≠b/\(∀x∈L,x.1≠id)/\L.length<120
instance (n:Nat) (L:List G.E) (id a b:Int):Decidable (Fits n L id a b):=by unfold Fits;infer_instance
def edg (id a b:Int):G.E:=(id,min a b,max a b)
theorem Ok.nil {n:Nat}(h:n<=40):Ok n []:=⟨h,List.Pairwise.nil,by simp,by simp⟩
theorem Ok.put {n:Nat}{L:List G.E}(h:Ok n L){id a b:Int}(f:Fits n L id a b):Ok n (G.Ej L (edg id a b)):=by
 obtain⟨h1,h2,h3,h4,h5,h6⟩:=f;refine⟨h.n40,G.V4 L _ h.up h5,by rw[G.Sa];omega,λ e he=>?_⟩;rcases List.mem_cons.1 ((G.Gy L _).mem_iff.1 he) with rfl|he
 ·unfold edg
  dsimp only;omega
 ·exact h.ed e he
def Je (n:Nat)(s:Option (List Int × List G.E))(w:List UInt8):Option (List Int × List G.E):=
 match s,atoiAll w with
 |some ([],L),.ok v=>some ([v],L)
 |some ([i],L),.ok v=>some ([i,v],L)
 |some ([i,a],L),.ok v=>if Fits n L i a v then some ([],G.Ej L (edg i a v)) else none
 |_,_=>none
def rdP (n:Nat)(ws:List (List UInt8)):Option (List Int × List G.E):=ws.foldl (Je n) (some ([],[]))
theorem Ij (n:Nat)(ws:List (List UInt8))(w:List UInt8):rdP n (ws++[w])=Je n (rdP n ws) w:=by
 unfold rdP;rw[List.foldl_append];rfl
theorem zd7 (n:Nat)(w:List UInt8):Je n none w=none:=by
 unfold Je;rfl
theorem iy {n:Nat}:∀(ws:List (List UInt8)),ws.foldl (Je n) none=none
 |[]=>rfl
 |w::ws=>by rw[List.foldl_cons,zd7];exact iy ws
theorem J4 {v:Int}(h0:0<=v)(h1:v<=9223372036854775807):atoiAll (itoa v)= .ok v:=by
 obtain⟨u,rfl⟩:=Int.eq_ofNat_of_zero_le h0;exact zg8 u (by omega)
theorem zq4 {n:Nat}{L:List G.E}(h:Ok n L){e:G.E}(he:e∈L):edg e.1 e.2.1 e.2.2=e:=by
 have:=h.ed e he;obtain⟨i,a,b⟩:=e;unfold edg;dsimp only at this ⊢;rw[show min a b=a by omega,show max a b=b by omega]
theorem zio {n:Nat}{L:List G.E}(h:Ok n L){i:Nat}{e:G.E}(he:L[i]? =some e):Fits n (L.take i) e.1 e.2.1 e.2.2:=by
 have h1:=h.ed e (List.mem_of_getElem? he);have hi:=(List.getElem?_eq_some_iff.1 he).1;have:=h.len;exact⟨h1.1,by omega,by omega,by omega,znd h.up he,by simp;omega⟩
theorem zg3 {n:Nat}{L:List G.E}(h:Ok n L):rdP n (L.flatMap λ e=>[itoa e.1,itoa e.2.1,itoa e.2.2])=some ([],L):=by
 have key:∀i,i<=L.length->rdP n ((L.take i).flatMap λ e=>[itoa e.1,itoa e.2.1,itoa e.2.2])=some ([],L.take i):=by
  intro i;induction i with
  |zero=>intro _;rfl
  |succ i ih=>
   intro hi;have he:L[i]? =some L[i]:=List.getElem?_eq_getElem (by omega);have h1:=h.ed L[i] (List.mem_of_getElem? he);have hm:=List.mem_of_getElem? he;rw[List.take_add_one,he,Option.toList_some,List.flatMap_append];have e1:([L[i]].flatMap λ e:G.E=>[itoa e.1,itoa e.2.1,itoa e.2.2])=[itoa L[i].1]++[itoa L[i].2.1]++[itoa L[i].2.2]:=by simp
   rw[e1,<-List.append_assoc,<-List.append_assoc,Ij,Ij,Ij,ih (by omega)];unfold Je;rw[J4 (v:=L[i].1) (by omega) (by omega),J4 (v:=L[i].2.1) (by omega) (by have:=h.n40;omega),J4 (v:=L[i].2.2) (by omega) (by have:=h.n40;omega)];dsimp only;rw[if_pos (zio h he),zq4 h hm,zid h.up he,List.take_add_one,he,Option.toList_some]
 have:=key L.length (Nat.le_refl _)
 rwa[List.take_length] at this
def Bl (w:List UInt8):Option Int:=
 match parseIntB 64 w with
 | .ok v=>if itoa v=w then some v else none
 |_=>none
def three (l:List UInt8)(j:Nat):Int:=(((split l [32])[j]?).bind Bl).getD 0
def zn9 (n:Nat)(R:List G.E)(l:List UInt8):List G.E:=
 if Fits n R (three l 0) (three l 1) (three l 2) then R++[edg (three l 0) (three l 1) (three l 2)] else R
def Rd (n:Nat)(R:List G.E):Prop:=∃L,Ok n L/\R.Perm L
theorem Rd.step {n:Nat}{R:List G.E}(h:Rd n R)(l:List UInt8):Rd n (zn9 n R l):=by
 unfold zn9;split
 ·next f=>
  obtain⟨L,h1,h2⟩:=h;have f':Fits n L (three l 0) (three l 1) (three l 2):=⟨f.1,f.2.1,f.2.2.1,f.2.2.2.1,λ x hx=>f.2.2.2.2.1 x (h2.mem_iff.2 hx),by rw[<-h2.length_eq];exact f.2.2.2.2.2⟩;refine⟨_,h1.put f',?_⟩;exact(List.perm_append_comm.trans (List.Perm.cons _ h2)).trans (G.Gy L _).symm
 ·exact h
theorem Ph {n:Nat}{L:List G.E}(h:Ok n L):∃rest,cut (svE n L) [10]=(itoa (n:Int),rest,true)/\rdP n (wds [] rest)=some ([],L):=by
 refine⟨_,ztm n (L.map ze),?_⟩;rw[zic (λ e he=>by have:=h.ed e he;omega)];exact zg3 h
theorem zqz {n m:Nat}{L M:List G.E}(h:Ok n L)(k:Ok m M)(e:svE n L=svE m M):n=m/\L=M:=by
 obtain⟨r1,c1,p1⟩:=Ph h;obtain⟨r2,c2,p2⟩:=Ph k;rw[e,c2] at c1;injection c1 with c1 c3
 injection c3 with c3 _
 have a1:=J4 (v:=(n:Int)) (by omega) (by have:=h.n40;omega);have a2:=J4 (v:=(m:Int)) (by omega) (by have:=k.n40;omega);rw[<-c1,a2] at a1;injection a1 with a1
 have hnm:n=m:=by omega
 subst hnm;subst c3;rw[p1] at p2;injection p2 with p2
 injection p2 with _ p2
 exact⟨rfl,p2⟩
end Go.Proofs.Y.I
