import Derived.Test.YtebcjaenhiiflaaGreatDoorQGMFm
namespace Go.Proofs.YtebcjaenhiiflaaGreatDoor.F
def rowM (M:Nat->Nat->Int) (S:Int->Bool) (i:Nat):Nat->Int
 | 0=>0
 | j+1=>rowM M S i j+(if S (i:Int)&&!S (j:Int) then M i j else 0)
def sumM (M:Nat->Nat->Int) (N:Nat) (S:Int->Bool):Nat->Int
 | 0=>0
 | i+1=>sumM M N S i+rowM M S i N
def capM (M:Nat->Nat->Int) (N:Nat) (S:Int->Bool):Int:=sumM M N S N
def addM (M:Nat->Nat->Int) (x y:Nat) (d:Int):Nat->Nat->Int:=λ i j=>if i=x/\j=y then M i j+d else M i j
theorem row_other {M:Nat->Nat->Int} {x y i:Nat} {d:Int} (S:Int->Bool) (h:i≠x):∀n,rowM (addM M x y d) S i n=rowM M S i n
 | 0=>rfl
 | n+1=>by
   have:addM M x y d i n=M i n:=if_neg (λ k=>h k.1);simp only [rowM,row_other S h n,this]
theorem row_add {M:Nat->Nat->Int} {x y:Nat} {d:Int} (S:Int->Bool):∀n,rowM (addM M x y d) S x n=rowM M S x n+(if y<n then (if S (x:Int)&&!S (y:Int) then d else 0) else 0)
 | 0=>by simp [rowM]
 | n+1=>by
   simp only [rowM,row_add S n];by_cases e:n=y
   ·subst e
    have:addM M x n d x n=M x n+d:=if_pos ⟨rfl,rfl⟩;rw [this,if_neg (Nat.lt_irrefl n),if_pos (Nat.lt_succ_self n)];split <;> omega
   ·have:addM M x y d x n=M x n:=if_neg (λ k=>e k.2)
    rw [this];by_cases c:y<n
    ·rw [if_pos c,if_pos (show y<n+1 by omega)];omega
    ·rw [if_neg c,if_neg (show ¬y<n+1 by omega)];omega
theorem sum_add {M:Nat->Nat->Int} {x y N:Nat} {d:Int} (hy:y<N) (S:Int->Bool):∀n,sumM (addM M x y d) N S n=sumM M N S n+(if x<n then (if S (x:Int)&&!S (y:Int) then d else 0) else 0)
 | 0=>by simp [sumM]
 | n+1=>by
   simp only [sumM,sum_add hy S n];by_cases e:n=x
   ·subst e
    rw [row_add S N,if_pos hy,if_neg (Nat.lt_irrefl n),if_pos (Nat.lt_succ_self n)];omega
   ·rw [row_other S e N]
    by_cases c:x<n
    ·rw [if_pos c,if_pos (show x<n+1 by omega)];omega
    ·rw [if_neg c,if_neg (show ¬x<n+1 by omega)];omega
theorem cap_add {M:Nat->Nat->Int} {x y N:Nat} {d:Int} (hx:x<N) (hy:y<N) (S:Int->Bool):capM (addM M x y d) N S=capM M N S+(if S (x:Int)&&!S (y:Int) then d else 0):=by
 unfold capM;rw [sum_add hy S N,if_pos hx]
def tkM (M:Nat->Nat->Int) (x y:Nat):Nat->Nat->Int:=addM (addM M x y (-1)) y x 1
def tkP (M:Nat->Nat->Int):List Nat->Nat->Nat->Int
 | x::y::r=>tkM (tkP M (y::r)) x y
 | _=>M
end Go.Proofs.YtebcjaenhiiflaaGreatDoor.F
