import Derived.Lib.Split
import Derived.Lib.ParseIntB
import Derived.Lib.ItoaNum
import Derived.Test.YtebcjaenhiiflaaGreatDoorQGMFm
namespace Go.Proofs.YtebcjaenhiiflaaGreatDoor.I
open Go.Lib
theorem digit_toNat {d:Nat} (h:d<10):(UInt8.ofNat (48+d)).toNat=48+d:=by
 rw [UInt8.toNat_ofNat'];omega
theorem parse10_snoc:∀(l:List UInt8) (acc v:Nat) {d:Nat},parseUint10 acc l= .ok v->d<10->v<1844674407370955161->parseUint10 acc (l++[UInt8.ofNat (48+d)])= .ok (v*10+d)
 | [],acc,v,d,h,hd,hv=>by
   simp only [parseUint10] at h;injection h with h
   subst h;have e:=digit_toNat hd;simp only [List.nil_append,parseUint10,e];rw [if_pos ⟨by omega,by omega⟩,if_neg (by omega),show 48+d-48=d by omega,if_neg (by omega)]
 | c::r,acc,v,d,h,hd,hv=>by
   simp only [List.cons_append,parseUint10] at h ⊢;split at h
   ·next k=>
    rw [if_pos k];split at h
    ·cases h
    ·next k2=>
     rw [if_neg k2];split at h
     ·cases h
     ·next k3=>
      rw [if_neg k3];exact parse10_snoc r _ v h hd hv
   ·cases h
theorem dec_small {u:Nat} (h:u<10):decDigits u=[UInt8.ofNat (48+u)]:=by rw [decDigits,dif_pos h]
theorem dec_big {u:Nat} (h:¬u<10):decDigits u=decDigits (u/10)++[UInt8.ofNat (48+u%10)]:=by rw [decDigits,dif_neg h]
theorem parse10_dec (u:Nat) (h:u<=9223372036854775807):parseUint10 0 (decDigits u)= .ok u:=by
 induction u using Nat.strongRecOn with
 | ind u ih=>
   by_cases c:u<10
   ·rw [dec_small c]
    have:=parse10_snoc [] 0 0 (d:=u) rfl c (by omega)
    simpa using this
   ·rw [dec_big c]
    have h1:=ih (u/10) (by omega) (by omega);have:=parse10_snoc (decDigits (u/10)) 0 (u/10) (d:=u%10) h1 (by omega) (by omega);rw [this]
    congr 1
    omega
theorem dec_digit (u:Nat):∀c∈decDigits u,48<=c.toNat/\c.toNat<=57:=by
 induction u using Nat.strongRecOn with
 | ind u ih=>
   intro c hc;by_cases k:u<10
   ·rw [dec_small k] at hc
    rw [List.mem_singleton.1 hc,digit_toNat k];omega
   ·rw [dec_big k] at hc
    rcases List.mem_append.1 hc with hc | hc
    ·exact ih (u/10) (by omega) c hc
    ·rw [List.mem_singleton.1 hc,digit_toNat (by omega)]
     omega
theorem dec_ne (u:Nat):decDigits u≠[]:=by
 by_cases k:u<10
 ·rw [dec_small k];simp
 ·rw [dec_big k];simp
theorem itoa_nat (u:Nat):itoa (u:Int)=decDigits u:=by
 unfold itoa;rw [if_neg (by omega)];simp
theorem atoi_itoa (u:Nat) (h:u<=9223372036854775807):atoiAll (itoa (u:Int))= .ok (u:Int):=by
 rw [itoa_nat];cases hd:decDigits u with
 | nil=>exact absurd hd (dec_ne u)
 | cons c r=>
   have hc:=dec_digit u c (by rw [hd];simp);have hp:parseMag (c::r)= .ok u:=by
    unfold parseMag;rw [if_neg (by simp),<-hd];exact parse10_dec u h
   unfold atoiAll;simp only;rw [if_neg (by omega),hp];simp only;rw [if_neg (by omega),if_neg (by omega),if_neg (by omega)]
end Go.Proofs.YtebcjaenhiiflaaGreatDoor.I
namespace Go.Proofs.YtebcjaenhiiflaaGreatDoor.I
open Go.Lib
theorem occ_iff (s:List UInt8) (b:UInt8) (j:Nat):occAt s [b] j=true↔s[j]? =some b:=by
 unfold occAt;rw [<-List.head?_drop];cases s.drop j with
 | nil=>simp [List.isPrefixOf]
 | cons c r=>
   simp [List.isPrefixOf];exact eq_comm
theorem index_at {p r:List UInt8} {b:UInt8} (hp:b∉p):index (p++b::r) [b]=(p.length:Int):=by
 have hat:occAt (p++b::r) [b] p.length=true:=by
  rw [occ_iff,List.getElem?_append_right (Nat.le_refl _),Nat.sub_self];rfl
 rcases index_spec (p++b::r) [b] with ⟨_,h2⟩ | ⟨i,h1,_,h3,h4⟩
 ·have:=h2 p.length (by simp)
  rw [hat] at this;cases this
 ·rw [h1]
  rcases Nat.lt_trichotomy i p.length with c | c | c
  ·rw [occ_iff,List.getElem?_append_left c] at h3
   exact absurd (List.mem_of_getElem? h3) hp
  ·rw [c]
  ·have:=h4 p.length c
   rw [hat] at this;cases this
theorem cut_at {p r:List UInt8} {b:UInt8} (hp:b∉p):cut (p++b::r) [b]=(p,r,true):=by
 have hi:=index_at (r:=r) hp;have hd:(p++b::r).drop (p.length+[b].length)=r:=by
  rw [<-List.drop_drop,List.drop_append_of_le_length (Nat.le_refl _),List.drop_length];rfl
 unfold cut;rw [if_pos (by rw [hi];omega),hi];simp only [Int.toNat_natCast];rw [hd,List.take_append_of_le_length (Nat.le_refl _),List.take_length]
def textOf (ls:List (List UInt8)):List UInt8:=ls.flatMap (·++[10])
def joinB:List (List UInt8)->List UInt8
 | []=>[]
 | [x]=>x
 | x::y::r=>x++32::joinB (y::r)
def wds:List UInt8->List UInt8->List (List UInt8)
 | _,[]=>[]
 | acc,c::r=>if c=32\/c=10 then acc::wds [] r else wds (acc++[c]) r
theorem wds_word:∀{p:List UInt8} {acc r:List UInt8} {c:UInt8},(∀x∈p,x≠32/\x≠10)->(c=32\/c=10)->wds acc (p++c::r)=(acc++p)::wds [] r
 | [],acc,r,c,_,hc=>by simp [wds,hc]
 | x::p,acc,r,c,h,hc=>by
   have hx:=h x (by simp);rw [List.cons_append,wds,if_neg (by simp [hx]),wds_word (λ y hy=>h y (by simp [hy])) hc];simp
theorem wds_join:∀{ws:List (List UInt8)} {r:List UInt8},ws≠[]->(∀l∈ws,∀x∈l,x≠32/\x≠10)->wds [] (joinB ws++10::r)=ws++wds [] r
 | [],_,h,_=>absurd rfl h
 | [x],r,_,h=>by
   rw [joinB,wds_word (h x (by simp)) (.inr rfl)];rfl
 | x::y::t,r,_,h=>by
   rw [joinB,List.append_assoc,List.cons_append,wds_word (h x (by simp)) (.inl rfl),wds_join (by simp) (λ l hl=>h l (by simp at hl ⊢;exact .inr hl))];rfl
def lineOf (ns:List Nat):List UInt8:=joinB (ns.map λ n:Nat=>itoa (n:Int))
theorem itoa_plain (n:Nat):∀x∈itoa (n:Int),x≠32/\x≠10:=λ x hx=>by
 rw [itoa_nat] at hx;have:=dec_digit n x hx;constructor
 ·rintro rfl;simp at this
 ·rintro rfl;simp at this
def svB (n:Nat) (L:List (Nat × Nat × Nat)):List UInt8:=textOf (lineOf [n]::L.map λ e=>lineOf [e.1,e.2.1,e.2.2])
theorem sv_cut (n:Nat) (L:List (Nat × Nat × Nat)):cut (svB n L) [10]=(itoa (n:Int),textOf (L.map λ e=>lineOf [e.1,e.2.1,e.2.2]),true):=by
 have e:svB n L=itoa (n:Int)++10::textOf (L.map λ e=>lineOf [e.1,e.2.1,e.2.2]):=by simp [svB,textOf,lineOf,joinB]
 rw [e];exact cut_at (λ k=>(itoa_plain n _ k).2 rfl)
theorem sv_words:∀(L:List (Nat × Nat × Nat)),wds [] (textOf (L.map λ e=>lineOf [e.1,e.2.1,e.2.2]))=L.flatMap λ e=>[itoa (e.1:Int),itoa (e.2.1:Int),itoa (e.2.2:Int)]
 | []=>rfl
 | e::L=>by
   have h1:textOf ((e::L).map λ e=>lineOf [e.1,e.2.1,e.2.2])=joinB ([e.1,e.2.1,e.2.2].map λ n:Nat=>itoa (n:Int))++10::textOf (L.map λ e=>lineOf [e.1,e.2.1,e.2.2]):=by simp [textOf,lineOf]
   rw [h1,wds_join (by simp) (λ l hl x hx=>by
    obtain ⟨n,_,rfl⟩:=List.mem_map.1 hl;exact itoa_plain n x hx),sv_words L]
   rfl
end Go.Proofs.YtebcjaenhiiflaaGreatDoor.I
namespace Go.Proofs.YtebcjaenhiiflaaGreatDoor.I
open Go.Lib
theorem place_last:∀{L:List G.E} {id:Int},(∀x∈L,x.1<id)->G.place L id=L.length
 | [],_,_=>rfl
 | x::L,id,h=>by
   have h1:=h x (by simp);have ih:=place_last (L:=L) (λ y hy=>h y (by simp [hy]));simp [G.place,h1,ih]
theorem put_last {L:List G.E} {e:G.E} (h:∀x∈L,x.1<e.1):G.putE L e=L++[e]:=by
 unfold G.putE;rw [place_last h,List.take_length,List.drop_length]
theorem rise_next {L:List G.E} (hu:G.Up L) {i:Nat} {e:G.E} (he:L[i]? =some e):G.putE (L.take i) e=L.take (i+1):=by
 rw [put_last,List.take_add_one,he]
 ·rfl
 ·intro x hx
  obtain ⟨j,hj⟩:=List.getElem?_of_mem hx;rw [List.getElem?_take] at hj;split at hj
  ·next c=>
   obtain ⟨l1,l2⟩:=List.getElem?_eq_some_iff.1 hj;obtain ⟨l3,l4⟩:=List.getElem?_eq_some_iff.1 he;have:=List.pairwise_iff_getElem.1 hu j i l1 l3 c;rw [l2,l4] at this;exact this
  ·cases hj
theorem rise_new {L:List G.E} (hu:G.Up L) {i:Nat} {e:G.E} (he:L[i]? =some e):∀x∈L.take i,x.1≠e.1:=by
 intro x hx k;obtain ⟨j,hj⟩:=List.getElem?_of_mem hx;rw [List.getElem?_take] at hj;split at hj
 ·next c=>
  obtain ⟨l1,l2⟩:=List.getElem?_eq_some_iff.1 hj;obtain ⟨l3,l4⟩:=List.getElem?_eq_some_iff.1 he;have:=List.pairwise_iff_getElem.1 hu j i l1 l3 c;rw [l2,l4,k] at this;omega
 ·cases hj
def natE (e:G.E):Nat × Nat × Nat:=(e.1.toNat,e.2.1.toNat,e.2.2.toNat)
def svE (n:Nat) (L:List G.E):List UInt8:=svB n (L.map natE)
theorem sve_words {L:List G.E} (h:∀e∈L,0<=e.1/\0<=e.2.1/\0<=e.2.2):wds [] (textOf ((L.map natE).map λ e=>lineOf [e.1,e.2.1,e.2.2]))=L.flatMap λ e=>[itoa e.1,itoa e.2.1,itoa e.2.2]:=by
 rw [sv_words,List.flatMap_map];induction L with
 | nil=>rfl
 | cons e L ih=>
   have he:=h e (by simp);rw [List.flatMap_cons,List.flatMap_cons,ih (λ x hx=>h x (by simp [hx]))];simp [natE,Int.toNat_of_nonneg he.1,Int.toNat_of_nonneg he.2.1,Int.toNat_of_nonneg he.2.2]
end Go.Proofs.YtebcjaenhiiflaaGreatDoor.I
namespace Go.Proofs.YtebcjaenhiiflaaGreatDoor.I
open Go.Lib
structure Ok (n:Nat) (L:List G.E):Prop where
 n40:n<=40
 up:G.Up L
 len:L.length<=120
 ed:∀e∈L,(0<=e.1/\e.1<=1099511627776)/\0<=e.2.1/\e.2.1<e.2.2/\e.2.2<(n:Int)
def Fits (n:Nat) (L:List G.E) (id a b:Int):Prop:=
 (0<=id/\id<=1099511627776)/\(0<=a/\a<(n:Int))/\(0<=b/\b<(n:Int))/\a≠b/\(∀x∈L,x.1≠id)/\L.length<120
instance (n:Nat) (L:List G.E) (id a b:Int):Decidable (Fits n L id a b):=by unfold Fits;infer_instance
def edg (id a b:Int):G.E:=(id,min a b,max a b)
theorem Ok.nil {n:Nat} (h:n<=40):Ok n []:=⟨h,List.Pairwise.nil,by simp,by simp⟩
theorem Ok.put {n:Nat} {L:List G.E} (h:Ok n L) {id a b:Int} (f:Fits n L id a b):Ok n (G.putE L (edg id a b)):=by
 obtain ⟨h1,h2,h3,h4,h5,h6⟩:=f;refine ⟨h.n40,G.putE_up L _ h.up h5,by rw [G.putE_length];omega,λ e he=>?_⟩;rcases List.mem_cons.1 ((G.putE_perm L _).mem_iff.1 he) with rfl | he
 ·unfold edg
  dsimp only;omega
 ·exact h.ed e he
def stepP (n:Nat) (s:Option (List Int × List G.E)) (w:List UInt8):Option (List Int × List G.E):=
 match s,atoiAll w with
 | some ([],L),.ok v=>some ([v],L)
 | some ([i],L),.ok v=>some ([i,v],L)
 | some ([i,a],L),.ok v=>if Fits n L i a v then some ([],G.putE L (edg i a v)) else none
 | _,_=>none
def rdP (n:Nat) (ws:List (List UInt8)):Option (List Int × List G.E):=ws.foldl (stepP n) (some ([],[]))
theorem rdP_snoc (n:Nat) (ws:List (List UInt8)) (w:List UInt8):rdP n (ws++[w])=stepP n (rdP n ws) w:=by
 unfold rdP;rw [List.foldl_append];rfl
theorem stepP_none (n:Nat) (w:List UInt8):stepP n none w=none:=by
 unfold stepP;rfl
theorem rdP_none {n:Nat}:∀(ws:List (List UInt8)),ws.foldl (stepP n) none=none
 | []=>rfl
 | w::ws=>by rw [List.foldl_cons,stepP_none];exact rdP_none ws
theorem atoi_int {v:Int} (h0:0<=v) (h1:v<=9223372036854775807):atoiAll (itoa v)= .ok v:=by
 obtain ⟨u,rfl⟩:=Int.eq_ofNat_of_zero_le h0;exact atoi_itoa u (by omega)
theorem ed_self {n:Nat} {L:List G.E} (h:Ok n L) {e:G.E} (he:e∈L):edg e.1 e.2.1 e.2.2=e:=by
 have:=h.ed e he;obtain ⟨i,a,b⟩:=e;unfold edg;dsimp only at this ⊢;rw [show min a b=a by omega,show max a b=b by omega]
theorem fits_next {n:Nat} {L:List G.E} (h:Ok n L) {i:Nat} {e:G.E} (he:L[i]? =some e):Fits n (L.take i) e.1 e.2.1 e.2.2:=by
 have h1:=h.ed e (List.mem_of_getElem? he);have hi:=(List.getElem?_eq_some_iff.1 he).1;have:=h.len;exact ⟨h1.1,by omega,by omega,by omega,rise_new h.up he,by simp;omega⟩
theorem rdP_words {n:Nat} {L:List G.E} (h:Ok n L):rdP n (L.flatMap λ e=>[itoa e.1,itoa e.2.1,itoa e.2.2])=some ([],L):=by
 have key:∀i,i<=L.length->rdP n ((L.take i).flatMap λ e=>[itoa e.1,itoa e.2.1,itoa e.2.2])=some ([],L.take i):=by
  intro i;induction i with
  | zero=>intro _;rfl
  | succ i ih=>
    intro hi;have he:L[i]? =some L[i]:=List.getElem?_eq_getElem (by omega);have h1:=h.ed L[i] (List.mem_of_getElem? he);have hm:=List.mem_of_getElem? he;rw [List.take_add_one,he,Option.toList_some,List.flatMap_append];have e1:([L[i]].flatMap λ e:G.E=>[itoa e.1,itoa e.2.1,itoa e.2.2])=[itoa L[i].1]++[itoa L[i].2.1]++[itoa L[i].2.2]:=by simp
    rw [e1,<-List.append_assoc,<-List.append_assoc,rdP_snoc,rdP_snoc,rdP_snoc,ih (by omega)];unfold stepP;rw [atoi_int (v:=L[i].1) (by omega) (by omega),atoi_int (v:=L[i].2.1) (by omega) (by have:=h.n40;omega),atoi_int (v:=L[i].2.2) (by omega) (by have:=h.n40;omega)];dsimp only;rw [if_pos (fits_next h he),ed_self h hm,rise_next h.up he,List.take_add_one,he,Option.toList_some]
 have:=key L.length (Nat.le_refl _)
 rwa [List.take_length] at this
def numD (w:List UInt8):Option Int:=
 match parseIntB 64 w with
 | .ok v=>if itoa v=w then some v else none
 | _=>none
def three (l:List UInt8) (j:Nat):Int:=(((split l [32])[j]?).bind numD).getD 0
def stepD (n:Nat) (R:List G.E) (l:List UInt8):List G.E:=
 if Fits n R (three l 0) (three l 1) (three l 2) then R++[edg (three l 0) (three l 1) (three l 2)] else R
def Rd (n:Nat) (R:List G.E):Prop:=∃L,Ok n L/\R.Perm L
theorem Rd.step {n:Nat} {R:List G.E} (h:Rd n R) (l:List UInt8):Rd n (stepD n R l):=by
 unfold stepD;split
 ·next f=>
  obtain ⟨L,h1,h2⟩:=h;have f':Fits n L (three l 0) (three l 1) (three l 2):=⟨f.1,f.2.1,f.2.2.1,f.2.2.2.1,λ x hx=>f.2.2.2.2.1 x (h2.mem_iff.2 hx),by rw [<-h2.length_eq];exact f.2.2.2.2.2⟩;refine ⟨_,h1.put f',?_⟩;exact (List.perm_append_comm.trans (List.Perm.cons _ h2)).trans (G.putE_perm L _).symm
 ·exact h
theorem prog_reads {n:Nat} {L:List G.E} (h:Ok n L):∃rest,cut (svE n L) [10]=(itoa (n:Int),rest,true)/\rdP n (wds [] rest)=some ([],L):=by
 refine ⟨_,sv_cut n (L.map natE),?_⟩;rw [sve_words (λ e he=>by have:=h.ed e he;omega)];exact rdP_words h
theorem svE_inj {n m:Nat} {L M:List G.E} (h:Ok n L) (k:Ok m M) (e:svE n L=svE m M):n=m/\L=M:=by
 obtain ⟨r1,c1,p1⟩:=prog_reads h;obtain ⟨r2,c2,p2⟩:=prog_reads k;rw [e,c2] at c1;injection c1 with c1 c3
 injection c3 with c3 _
 have a1:=atoi_int (v:=(n:Int)) (by omega) (by have:=h.n40;omega);have a2:=atoi_int (v:=(m:Int)) (by omega) (by have:=k.n40;omega);rw [<-c1,a2] at a1;injection a1 with a1
 have hnm:n=m:=by omega
 subst hnm;subst c3;rw [p1] at p2;injection p2 with p2
 injection p2 with _ p2
 exact ⟨rfl,p2⟩
end Go.Proofs.YtebcjaenhiiflaaGreatDoor.I
