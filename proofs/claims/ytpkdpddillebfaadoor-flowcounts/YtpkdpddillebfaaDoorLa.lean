/- The two graphs of a law: the program's and the document's, edge by edge. -/
import Derived.Test.YtpkdpddillebfaaDoorYa
import Derived.Test.YtpkdpddillebfaaDoorOa
namespace Go.Proofs.YtpkdpddillebfaaDoor.G

theorem Inv.rlen {R L : List E} (h : Inv R L) : R.length = L.length := h.perm.length_eq

end Go.Proofs.YtpkdpddillebfaaDoor.G
namespace Go.Proofs.YtpkdpddillebfaaDoor.G

open Go.RowKit

theorem has_f (x n : Int) (B p : Nat) (v : Value) (L : List E) (w : World) (h : GAt w B 90 59 p n v L) (hx : ¬ (0 ≤ x ∧ x < n)) :
    Calls Tryd.prog 45 #[.pointer (some ⟨p, 0, none⟩), .int .i64 x] w fun e w' => e = .returned (.bool false) ∧ w' = w := has_any x n B p v L false w h (decide_eq_false hx).symm

set_option maxHeartbeats 2000000 in
set_option maxRecDepth 100000 in
theorem add_range (id a b n : Int) (B p : Nat) (v : Value) (L : List E) (w : World) (h : GAt w B 90 59 p n v L) (hr : ¬ InRange id a b n) :
    Calls Tryd.prog 20 #[.pointer (some ⟨p, 0, none⟩), .int .i64 id, .int .i64 a, .int .i64 b] w fun e w' => e = .returned (.iface 29 (.int .i64 2)) ∧ Below w.heap.size w w' := by
  have HG : Hid (GAt w B 90 59 p n v L) := h
  clear h
  by_cases h1 : id < 0
  · clear hr
    go_enter Tryd.func20, Tryd.ntmps20
    go_wp2_with fail
    go_ret
    exact ⟨rfl, Below.refl _ _⟩
  by_cases h2 : 1099511627776 < id
  · clear hr
    go_enter Tryd.func20, Tryd.ntmps20
    go_wp2_with fail
    go_ret
    exact ⟨rfl, Below.refl _ _⟩
  by_cases h3 : 0 ≤ a ∧ a < n
  · have h4 : ¬ (0 ≤ b ∧ b < n) := fun hb => hr ⟨⟨by omega, by omega⟩, h3, hb⟩
    have H3 : Hid (0 ≤ a ∧ a < n) := h3
    have H4 : Hid (¬ (0 ≤ b ∧ b < n)) := h4
    clear hr h3 h4
    go_enter Tryd.func20, Tryd.ntmps20
    go_wp2_with fail
    refine (has_t a n B p v L w HG.out H3.out).mono ?_
    rintro e w1 ⟨rfl, rfl⟩
    go_wp2_with fail
    refine (has_f b n B p v L w1 HG.out H4.out).mono ?_
    rintro e w2 ⟨rfl, rfl⟩
    go_wp2_with fail
    go_ret
    exact ⟨rfl, Below.refl _ _⟩
  · have H3 : Hid (¬ (0 ≤ a ∧ a < n)) := h3
    clear hr h3
    go_enter Tryd.func20, Tryd.ntmps20
    go_wp2_with fail
    refine (has_f a n B p v L w HG.out H3.out).mono ?_
    rintro e w1 ⟨rfl, rfl⟩
    go_wp2_with fail
    go_ret
    exact ⟨rfl, Below.refl _ _⟩

set_option maxHeartbeats 2000000 in
set_option maxRecDepth 100000 in
theorem add_arg (id a n : Int) (B p : Nat) (v : Value) (L : List E) (w : World) (h : GAt w B 90 59 p n v L) (hr : InRange id a a n) :
    Calls Tryd.prog 20 #[.pointer (some ⟨p, 0, none⟩), .int .i64 id, .int .i64 a, .int .i64 a] w fun e w' => e = .returned (.iface 29 (.int .i64 1)) ∧ Below w.heap.size w w' := by
  have HG : Hid (GAt w B 90 59 p n v L) := h
  have h1 : ¬ id < 0 := by have := hr.1.1; omega
  have h2 : ¬ 1099511627776 < id := by have := hr.1.2; omega
  have H3 : Hid (0 ≤ a ∧ a < n) := hr.2.1
  clear hr h
  go_enter Tryd.func20, Tryd.ntmps20
  go_wp2_with fail
  refine (has_t a n B p v L w HG.out H3.out).mono ?_
  rintro e w1 ⟨rfl, rfl⟩
  go_wp2_with fail
  refine (has_t a n B p v L w1 HG.out H3.out).mono ?_
  rintro e w2 ⟨rfl, rfl⟩
  go_wp2_with fail
  go_ret
  exact ⟨rfl, Below.refl _ _⟩

theorem inv_nil : Inv [] [] := ⟨List.Pairwise.nil, List.Perm.refl _, by simp⟩

/-- The program's graph and the document's, of one list. -/
structure Two (w0 w : World) (p q : Nat) (n : Int) (v u : Value) (R L : List E) : Prop where
  ga : GAt w w0.heap.size 90 59 p n v L
  ra : GAt w w0.heap.size 51 59 q n u R
  pq : p ≠ q
  vq : v.ownBlock ≠ some q
  up : u.ownBlock ≠ some p
  ap : v.ownBlock = none ∨ v.ownBlock ≠ u.ownBlock
  hp : w0.heap.size ≤ p
  hq : w0.heap.size ≤ q
  below : Below w0.heap.size w0 w

theorem Two.below' {w0 w w' : World} {p q : Nat} {n : Int} {v u : Value} {R L : List E} (h : Two w0 w p q n v u R L) (k : Below w.heap.size w w') : Two w0 w' p q n v u R L :=
  { h with ga := h.ga.below k, ra := h.ra.below k, below := h.below.trans (k.mono h.below.size) }

theorem below_kept {w0 w w' : World} {p : Nat} {o : Option Nat} (h : Below w0.heap.size w0 w) (k : Kept p o w w') (hp : w0.heap.size ≤ p) (ho : ∀ i, o = some i → w0.heap.size ≤ i) : Below w0.heap.size w0 w' :=
  ⟨k.os.trans h.os, k.tape.trans h.tape, k.output.trans h.output, Nat.le_trans h.size k.size, fun i hi => (k.block i (Nat.lt_of_lt_of_le hi h.size) (by omega) (fun e => by have := ho i e.symm; omega)).trans (h.block i hi)⟩

theorem Two.first {w0 w w' : World} {p q : Nat} {n : Int} {v v' u : Value} {R L L' : List E} (h : Two w0 w p q n v u R L) (g : GAt w' w0.heap.size 90 59 p n v' L') (k : Kept p v.ownBlock w w') (hf : Fresh w v v') : Two w0 w' p q n v' u R L' := by
  refine { h with ga := g, ra := h.ra.kept k h.pq.symm (fun e => h.vq e.symm) h.up ?_, vq := ?_, ap := ?_, below := below_kept h.below k h.hp (fun i hi => (h.ga.lt hi).1) }
  · rcases h.ap with h' | h'
    · rw [h']; cases u.ownBlock <;> simp
    · exact Or.inr h'.symm
  · intro e
    rcases hf q e with h1 | h1
    · exact h.vq h1
    · have := h.ra.plt; omega
  · cases e : v'.ownBlock with
    | none => exact Or.inl rfl
    | some i =>
      refine Or.inr (fun e2 => ?_)
      rcases hf i e with h1 | h1
      · rcases h.ap with h' | h'
        · rw [h'] at h1; cases h1
        · exact h' (h1.trans e2)
      · have := (h.ra.lt e2.symm).2
        omega

theorem Two.swap {w0 w : World} {p q : Nat} {n : Int} {v u : Value} {R L : List E} (h : Two w0 w p q n v u R L) : u.ownBlock = none ∨ u.ownBlock ≠ v.ownBlock := by
  rcases h.ap with h' | h'
  · rw [h']; cases u.ownBlock <;> simp
  · exact Or.inr h'.symm

theorem Two.second {w0 w w' : World} {p q : Nat} {n : Int} {v u u' : Value} {R R' L : List E} (h : Two w0 w p q n v u R L) (g : GAt w' w0.heap.size 51 59 q n u' R') (k : Kept q u.ownBlock w w') (hf : Fresh w u u') : Two w0 w' p q n v u' R' L := by
  refine { h with ra := g, ga := h.ga.kept k h.pq (fun e => h.up e.symm) h.vq ?_, up := ?_, ap := ?_, below := below_kept h.below k h.hq (fun i hi => (h.ra.lt hi).1) }
  · exact h.ap
  · intro e
    rcases hf p e with h1 | h1
    · exact h.up h1
    · have := h.ga.plt; omega
  · cases e : v.ownBlock with
    | none => exact Or.inl rfl
    | some i =>
      refine Or.inr (fun e2 => ?_)
      rcases hf i e2.symm with h1 | h1
      · rcases h.ap with h' | h'
        · rw [h'] at e; cases e
        · exact h' (e.trans h1.symm)
      · have := (h.ga.lt e).2
        omega

end Go.Proofs.YtpkdpddillebfaaDoor.G

namespace Go.Proofs.YtpkdpddillebfaaDoor.S

open Go.RowKit Go.WideMaps Go.Maps

/-- Both graphs behind i steps: the numbers are i times seven, less the sixty-ones in it. -/
structure Mk (w0 w : World) (p q n i : Nat) (v u : Value) (R L : List (Int × Int × Int)) : Prop where
  two : G.Two w0 w p q (n : Int) v u R L
  inv : G.Inv R L
  ids : ∀ e ∈ L, ∃ j, j < i ∧ e.1 = ((j * 7 % 61 : Nat) : Int)
  ends : ∀ e ∈ L, ∃ x y : Nat, x < y ∧ y < n ∧ e = (e.1, (x : Int), (y : Int))
  len : L.length ≤ i

variable {w0 w w' : World} {p q n i : Nat} {v u : Value} {R L : List (Int × Int × Int)}

theorem Mk.ed (h : Mk w0 w p q n i v u R L) (hi : i ≤ 60) : Ed n 70 L :=
  ⟨h.inv.up, fun e he => by obtain ⟨j, hj, hid⟩ := h.ids e he; rw [hid]; omega, h.ends, by have := h.len; omega⟩

theorem Mk.below' (h : Mk w0 w p q n i v u R L) (k : Below w.heap.size w w') : Mk w0 w' p q n i v u R L := { h with two := h.two.below' k }

theorem Mk.next (h : Mk w0 w p q n i v u R L) : Mk w0 w p q n (i + 1) v u R L :=
  { h with ids := fun e he => (by obtain ⟨j, hj, hid⟩ := h.ids e he; exact ⟨j, by omega, hid⟩), len := by have := h.len; omega }

theorem seven {i j : Nat} (h : i < 61) (hj : j < i) : j * 7 % 61 ≠ i * 7 % 61 := by omega

/-- One step on both. -/
theorem mk_step (a b : Int) (h : Mk w0 w p q n i v u R L) (hi : i < 60) (hn : n ≤ 16) :
    Calls Tryd.prog 20 #[.pointer (some ⟨p, 0, none⟩), .int .i64 ((i * 7 % 61 : Nat) : Int), .int .i64 a, .int .i64 b] w fun e w1 => ∃ c, e = .returned c ∧ Below w0.heap.size w0 w1 ∧
      ∀ W, Below w1.heap.size w1 W → Calls Tryd.prog 21 #[.pointer (some ⟨q, 0, none⟩), .int .i64 ((i * 7 % 61 : Nat) : Int), .int .i64 a, .int .i64 b] W fun e w2 => ∃ c v' u' R' L', e = .returned (.int .i64 c) ∧ Mk w0 w2 p q n (i + 1) v' u' R' L' := by
  have hnew : ∀ x ∈ L, x.1 ≠ ((i * 7 % 61 : Nat) : Int) := fun x hx e => by
    obtain ⟨j, hj, hid⟩ := h.ids x hx
    have := seven (show i < 61 by omega) hj
    omega
  have hlen := h.len
  by_cases hr : G.InRange ((i * 7 % 61 : Nat) : Int) a b (n : Int)
  · by_cases hab : a = b
    · subst hab
      refine (G.add_arg _ a (n : Int) w0.heap.size p v L w h.two.ga hr).mono ?_
      rintro e w1 ⟨rfl, hb⟩
      refine ⟨_, rfl, (h.below' hb).two.below, fun W hW => ?_⟩
      have h1 := (h.below' hb).below' hW
      refine (G.radd_arg _ a (n : Int) w0.heap.size q u R W h1.two.ra (by omega) (by omega) hr).mono ?_
      rintro e w2 ⟨rfl, hb2⟩
      exact ⟨_, v, u, R, L, rfl, (h1.below' hb2).next⟩
    · obtain ⟨x, rfl⟩ := Int.eq_ofNat_of_zero_le hr.2.1.1
      obtain ⟨y, rfl⟩ := Int.eq_ofNat_of_zero_le hr.2.2.1
      have hx : x < n := by have := hr.2.1.2; omega
      have hy : y < n := by have := hr.2.2.2; omega
      have hmin : min (x : Int) (y : Int) = ((min x y : Nat) : Int) := by omega
      have hmax : max (x : Int) (y : Int) = ((max x y : Nat) : Int) := by omega
      refine (G.add_ok _ (x : Int) (y : Int) (n : Int) _ _ w0.heap.size p v L _ w h.two.ga h.two.below.size h.inv.up (by omega) hr hab (G.seen_none hnew) rfl rfl rfl).mono ?_
      rintro e w1 ⟨rfl, v', g1, k1, f1⟩
      have hRl : R.length ≤ 120 := by rw [h.inv.rlen]; exact h.inv.len
      refine ⟨_, rfl, (h.two.first g1 k1 f1).below, fun W hW => ?_⟩
      have t1 := (h.two.first g1 k1 f1).below' hW
      refine (G.radd_in _ (x : Int) (y : Int) (n : Int) _ _ w0.heap.size q u R W t1.ra t1.below.size hRl (by omega) (by omega) hr hab rfl rfl).mono ?_
      rintro e w2 (⟨⟨z, hz, hid⟩, _⟩ | ⟨_, hl, _⟩ | ⟨_, _, rfl, u', g2, k2, f2⟩)
      · exact absurd hid (hnew z (h.inv.perm.mem_iff.1 hz))
      · rw [h.inv.rlen] at hl; omega
      · have t2 := t1.second g2 k2 f2
        refine ⟨_, v', u', _, _, rfl, t2, h.inv.put _ hnew (by omega), fun e he => ?_, fun e he => ?_, ?_⟩
        · rcases List.mem_cons.1 ((G.putE_perm L _).mem_iff.1 he) with rfl | he
          · exact ⟨i, by omega, rfl⟩
          · obtain ⟨j, hj, hid⟩ := h.ids e he
            exact ⟨j, by omega, hid⟩
        · rcases List.mem_cons.1 ((G.putE_perm L _).mem_iff.1 he) with rfl | he
          · exact ⟨min x y, max x y, by omega, by omega, by simp only [hmin, hmax]⟩
          · exact h.ends e he
        · rw [G.putE_length]; omega
  · refine (G.add_range _ a b (n : Int) w0.heap.size p v L w h.two.ga hr).mono ?_
    rintro e w1 ⟨rfl, hb⟩
    refine ⟨_, rfl, (h.below' hb).two.below, fun W hW => ?_⟩
    have h1 := (h.below' hb).below' hW
    refine (G.radd_range _ a b (n : Int) w0.heap.size q u R W h1.two.ra (by omega) (by omega) hr).mono ?_
    rintro e w2 ⟨rfl, hb2⟩
    exact ⟨_, v, u, R, L, rfl, (h1.below' hb2).next⟩

end Go.Proofs.YtpkdpddillebfaaDoor.S


