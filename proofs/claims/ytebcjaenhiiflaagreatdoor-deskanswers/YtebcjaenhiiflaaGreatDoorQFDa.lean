import Derived.Test.YtebcjaenhiiflaaGreatDoorQGMFm
namespace Go.Proofs.Y.F
def Ip (M:Nat->Nat->Int)(S:Int->Bool)(i:Nat):Nat->Int
 |0=>0
 |j+1=>Ip M S i j+(if S (i:Int)&&!S (j:Int) then M i j else 0)
def Kz (M:Nat->Nat->Int)(N:Nat)(S:Int->Bool):Nat->Int
 |0=>0
 |i+1=>Kz M N S i+Ip M S i N
def Ea (M:Nat->Nat->Int)(N:Nat)(S:Int->Bool):Int:=Kz M N S N
def D8 (M:Nat->Nat->Int)(x y:Nat)(d:Int):Nat->Nat->Int:=λ i j=>if i=x/\j=y then M i j+d else M i j
theorem Yq {M:Nat->Nat->Int}{x y i:Nat}{d:Int}(S:Int->Bool)(h:i≠x):∀n,Ip (D8 M x y d) S i n=Ip M S i n
 |0=>rfl
 |n+1=>by
  have:D8 M x y d i n=M i n:=if_neg (λ k=>h k.1);simp only[Ip,Yq S h n,this]
theorem zbk {M:Nat->Nat->Int}{x y:Nat}{d:Int}(S:Int->Bool):∀n,Ip (D8 M x y d) S x n=Ip M S x n+(if y<n then(if S (x:Int)&&!S (y:Int) then d else 0) else 0)
 |0=>by simp[Ip]
 |n+1=>by
  simp only[Ip,zbk S n];by_cases e:n=y
  ·subst e
   have:D8 M x n d x n=M x n+d:=if_pos ⟨rfl,rfl⟩;rw[this,if_neg (Nat.lt_irrefl n),if_pos (Nat.lt_succ_self n)];split <;> omega
  ·have:D8 M x y d x n=M x n:=if_neg (λ k=>e k.2)
   rw[this];by_cases c:y<n
   ·rw[if_pos c,if_pos (show y<n+1 by omega)];omega
   ·rw[if_neg c,if_neg (show ¬y<n+1 by omega)];omega
theorem sum_add {M:Nat->Nat->Int}{x y N:Nat}{d:Int}(hy:y<N)(S:Int->Bool):∀n,Kz (D8 M x y d) N S n=Kz M N S n+(if x<n then(if S (x:Int)&&!S (y:Int) then d else 0) else 0)
 |0=>by simp[Kz]
 |n+1=>by
  simp only[Kz,sum_add hy S n];by_cases e:n=x
  ·subst e
   rw[zbk S N,if_pos hy,if_neg (Nat.lt_irrefl n),if_pos (Nat.lt_succ_self n)];omega
  ·rw[Yq S e N]
   by_cases c:x<n
   ·rw[if_pos c,if_pos (show x<n+1 by omega)];omega
   ·rw[if_neg c,if_neg (show ¬x<n+1 by omega)];omega
theorem Iy {M:Nat->Nat->Int}{x y N:Nat}{d:Int}(hx:x<N)(hy:y<N)(S:Int->Bool):Ea (D8 M x y d) N S=Ea M N S+(if S (x:Int)&&!S (y:Int) then d else 0):=by
 unfold Ea;rw[sum_add hy S N,if_pos hx]
def tkM (M:Nat->Nat->Int)(x y:Nat):Nat->Nat->Int:=D8 (D8 M x y (-1)) y x 1
theorem zov {M:Nat->Nat->Int}{x y N:Nat}(hx:x<N)(hy:y<N)(S:Int->Bool):Ea (tkM M x y) N S=Ea M N S-(chi S x-chi S y):=by
 unfold tkM;rw[Iy hy hx,Iy hx hy];unfold chi;cases S (x:Int) <;> cases S (y:Int) <;> simp <;> omega
def tkP (M:Nat->Nat->Int):List Nat->Nat->Nat->Int
 |x::y::r=>tkM (tkP M (y::r)) x y
 |_=>M
theorem zbt {M:Nat->Nat->Int}{N:Nat}(S:Int->Bool):∀(vs:List Nat) (x to:Nat),vs.head? =some x->vs.getLast? =some to->(∀v∈vs,v<N)->Ea (tkP M vs) N S=Ea M N S-(chi S x-chi S to)
 |[],_,_,h,_,_=>by cases h
 |[v],x,to,h,h2,_=>by
  simp at h h2;subst h;subst h2;show Ea M N S=_;omega
 |v::y::r,x,to,h,h2,h3=>by
  have hv:v=x:=by simpa using h
  subst hv;have ih:=zbt (M:=M) S (y::r) y to rfl (by rw[List.getLast?_cons_cons] at h2;exact h2) (λ u hu=>h3 u (List.mem_cons_of_mem _ hu));show Ea (tkM (tkP M (y::r)) v y) N S=_;rw[zov (h3 v (by simp)) (h3 y (by simp)),ih];omega
theorem V3 {M:Nat->Nat->Int}:∀(vs:List Nat) (i j:Nat),i∉vs->tkP M vs i j=M i j/\tkP M vs j i=M j i
 |[],_,_,_=>⟨rfl,rfl⟩
 |[_],_,_,_=>⟨rfl,rfl⟩
 |x::y::r,i,j,h=>by
  have hx:i≠x:=λ e=>h (by simp[e])
  have hy:i≠y:=λ e=>h (by simp[e])
  have ih:=V3 (M:=M) (y::r) i j (λ k=>h (List.mem_cons_of_mem _ k));show tkM (tkP M (y::r)) x y i j=_/\tkM (tkP M (y::r)) x y j i=_;unfold tkM D8;rw[if_neg (λ k=>hy k.1),if_neg (λ k=>hx k.1),if_neg (λ k=>hx k.2),if_neg (λ k=>hy k.2)];exact ih
end Go.Proofs.Y.F
