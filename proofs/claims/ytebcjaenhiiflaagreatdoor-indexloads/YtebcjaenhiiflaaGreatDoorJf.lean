/- Reading an index's text. -/
import Derived.Test.YtebcjaenhiiflaaGreatDoorJe
namespace Go.Proofs.YtebcjaenhiiflaaGreatDoor.I
open Go.RowKit Go.Shelf Go.WideMaps Go.Maps

attribute [local go_sem] Oper.semAt_some

/-- What the program reads of a text. -/
def rdS (s : List UInt8) : Option (Nat × List Int × List G.E) :=
  match Lib.atoiAll (Lib.cut s [10]).1 with
  | .ok m => if 0 ≤ m ∧ m ≤ 40 then (rdP m.toNat (wds [] (Lib.cut s [10]).2.1)).map fun a => (m.toNat, a) else none
  | _ => none

/-- The iterator, as the caller sees it. -/
theorem words_stops (n : Nat) (hn : 1 ≤ n) (Bs : Nat) (s : ByteArray) (hsz : s.size ≤ 100000) (w : World) (hBs : w.heap[Bs]? = some (.cells #[.string s] 9)) :
    SeqStopsK Fence.wide n Tryz.prog 202 #[.pointer (some ⟨Bs, 0, none⟩)] (fun x : List UInt8 => #[Value.string ⟨(x.take 100000).toArray⟩]) (KpB Bs) (fun ys => ys = wds [] s.data.toList) (fun pre => ∃ k, pre = (wst (s.data.toList.take k)).1) (s.size + 1) w := fun l J Jx W hW _ _ hY h0 =>
  words1_in n hn l Bs s hsz J Jx hY W ((hW.block Bs (G.lt_of_some hBs)).trans hBs) h0

theorem words_in (s : ByteArray) (w : World) :
    Calls Tryz.prog 103 #[.string s] w fun e w' => e = .returned (.func (.func 202) #[] #[.pointer (some ⟨w.heap.size, 0, none⟩)]) ∧ w' = w.alloc (.cells #[.string s] 9) := by
  go_enter Tryz.func103, Tryz.ntmps103
  go_wp2_with fail
  go_ret
  exact ⟨rfl, rfl⟩

/-- What reading leaves. -/
def ReadPost (w : World) (s : ByteArray) (e : Ending) (w' : World) : Prop :=
  (∃ n acc L, rdS s.data.toList = some (n, acc, L) ∧ ∃ x p q v R B W T D pw bw pt bt mp N, e = .returned (.tuple #[.pointer (some ⟨x, 0, none⟩), .nilIface]) ∧ IAt w w' x p q n v L R B W T D pw bw pt bt mp N) ∨
  (rdS s.data.toList = none ∧ (∃ t p, e = .returned (.tuple #[.pointer none, .iface t p])) ∧ Below w.heap.size w w')

theorem IAt.base {w0 w1 w : World} {x p q n : Nat} {v : Value} {L R B : List G.E} {W T : List Nat} {D : DataW Unit} {pw bw pt bt mp N : Nat} (h : IAt w1 w x p q n v L R B W T D pw bw pt bt mp N) (hb : Below w0.heap.size w0 w1) : IAt w0 w x p q n v L R B W T D pw bw pt bt mp N := by
  have hs := hb.size
  have h1 := h.hx
  have h2 := h.hp
  have h3 := h.rn.hb
  exact { h with gra := ⟨h.gra.hp, G.Owns.mono h.gra.row hs, h.gra.ne⟩, rn := { h.rn with below := hb.trans (h.rn.below.mono hs), hb := ⟨by omega, by omega, by omega⟩ }, hx := by omega, hp := by omega }

/-- What is kept while rounds begin and end: all cells, and one map. -/
structure Kc (B mp : Nat) (X Y : World) : Prop where
  os : Y.os = X.os
  tape : Y.tape = X.tape
  output : Y.output = X.output
  size : X.heap.size ≤ Y.heap.size
  cells : ∀ (k : Nat) (c : Array Value) (t : TypeId) (f : Nat × Nat), X.heap[k]? = some (.cells c t f) → Y.heap[k]? = some (.cells c t f)
  low : ∀ k, k < B → k < X.heap.size → Y.heap[k]? = X.heap[k]?
  map : mp < B

theorem Kc.of {B mp : Nat} {X Y : World} {row : Option Nat} (hg : X.grownBy Y row) (hr : ∀ r, row = some r → B ≤ r ∧ ∃ o : Obj, X.heap[r]? = some o ∧ o.isCells = false) (hm : mp < B) : Kc B mp X Y := by
  refine ⟨hg.os, hg.tape, hg.output, hg.size, fun k c t f hk => ?_, fun k hk hk2 => hg.block k hk2 (fun e => ?_), hm⟩
  · rw [hg.block k (G.lt_of_some hk) (fun e => ?_)]
    · exact hk
    · obtain ⟨_, o, ho, hc⟩ := hr k e.symm
      rw [hk] at ho
      injection ho with ho
      subst ho
      cases hc
  · have := (hr k e.symm).1
    omega

theorem Kc.boxed {B mp b t : Nat} {X Y : World} {v : Value} (k : Kc B mp X Y) (h : Boxed X b t v) : Boxed Y b t v := k.cells _ _ _ _ h

theorem Kc.row {B mp base e s n : Nat} {X Y : World} {v : Value} {xs : List Value} (k : Kc B mp X Y) (h : X.ownsRow base e s v n xs) : Y.ownsRow base e s v n xs := by
  refine ⟨h.1, ?_⟩
  rcases h.2 with h2 | ⟨g, cap, cur, a, b, c, d⟩
  · exact .inl h2
  · exact .inr ⟨g, cap, cur, a, b, k.cells _ _ _ _ c, d⟩

theorem IAt.kc {w0 X Y : World} {x p q n C : Nat} {v : Value} {L R B : List G.E} {W T : List Nat} {D : DataW Unit} {pw bw pt bt mp N : Nat} (h : IAt w0 X x p q n v L R B W T D pw bw pt bt mp N) (k : Kc C mp X Y) (hC : w0.heap.size ≤ C) : IAt w0 Y x p q n v L R B W T D pw bw pt bt mp N := by
  obtain ⟨es, c, hm, F, hs, hD⟩ := h.rn.now.at_.hm
  have hb := h.rn.below
  refine { h with ix := k.cells _ _ _ _ h.ix, gra := ⟨k.cells _ _ _ _ h.gra.hp, k.row h.gra.row, h.gra.ne⟩, rn := { h.rn with now := ⟨⟨k.cells _ _ _ _ h.rn.now.at_.hp, ⟨k.cells _ _ _ _ h.rn.now.at_.sw.hp, k.cells _ _ _ _ h.rn.now.at_.sw.hb⟩, ⟨k.cells _ _ _ _ h.rn.now.at_.st.hp, k.cells _ _ _ _ h.rn.now.at_.st.hb⟩, ⟨es, c, ?_, F, hs, hD⟩, h.rn.now.at_.pp, h.rn.now.at_.bb⟩, h.rn.now.st, h.rn.now.dis⟩, below := ?_ } }
  · rw [k.low mp k.map (G.lt_of_some hm)]; exact hm
  · exact ⟨k.os.trans hb.os, k.tape.trans hb.tape, k.output.trans hb.output, Nat.le_trans hb.size k.size, fun j hj => (k.low j (by omega) (Nat.lt_of_lt_of_le hj hb.size)).trans (hb.block j hj)⟩

end Go.Proofs.YtebcjaenhiiflaaGreatDoor.I
