/- The two graphs of a law: the program's and the document's, edge by edge. -/
import Derived.Test.YtigodbamphejmaaGreatDoorKo
import Derived.Test.YtigodbamphejmaaGreatDoorK1
import Derived.Test.YtigodbamphejmaaGreatDoorGYa
import Derived.Test.YtigodbamphejmaaGreatDoorK2
import Derived.Test.YtigodbamphejmaaGreatDoorKfh
import Derived.Test.YtigodbamphejmaaGreatDoorD1
namespace Go.Proofs.YtigodbamphejmaaGreatDoor.G
open Go.RowKit

theorem has_f (x n : Int) (B p : Nat) (v : Value) (L : List E) (w : World) (h : GAt w B 124 55 p n v L) (hx : ¬ (0 ≤ x ∧ x < n)) :
    Calls Tryz.prog 86 #[.pointer (some ⟨p, 0, none⟩), .int .i64 x] w fun e w' => e = .returned (.bool false) ∧ w' = w := has_any x n B p v L false w h (decide_eq_false hx).symm

set_option maxHeartbeats 2000000 in
set_option maxRecDepth 100000 in
theorem add_range (id a b n : Int) (B p : Nat) (v : Value) (L : List E) (w : World) (h : GAt w B 124 55 p n v L) (hr : ¬ InRange id a b n) :
    Calls Tryz.prog 56 #[.pointer (some ⟨p, 0, none⟩), .int .i64 id, .int .i64 a, .int .i64 b] w fun e w' => e = .returned (.iface 29 (.int .i64 2)) ∧ Below w.heap.size w w' := by
  have HG : Hid (GAt w B 124 55 p n v L) := h
  clear h
  by_cases h1 : id < 0
  · clear hr
    go_enter Tryz.func56, Tryz.ntmps56
    go_wp2_with fail
    go_ret
    exact ⟨rfl, Below.refl _ _⟩
  by_cases h2 : 1099511627776 < id
  · clear hr
    go_enter Tryz.func56, Tryz.ntmps56
    go_wp2_with fail
    go_ret
    exact ⟨rfl, Below.refl _ _⟩
  by_cases h3 : 0 ≤ a ∧ a < n
  · have h4 : ¬ (0 ≤ b ∧ b < n) := fun hb => hr ⟨⟨by omega, by omega⟩, h3, hb⟩
    have H3 : Hid (0 ≤ a ∧ a < n) := h3
    have H4 : Hid (¬ (0 ≤ b ∧ b < n)) := h4
    clear hr h3 h4
    go_enter Tryz.func56, Tryz.ntmps56
    go_wp2_with fail
    refine (has_t a n B p v L w HG.out H3.out).mono ?_
    rintro e w1 ⟨rfl, rfl⟩
    go_wp2_with fail
    refine (has_f b n B p v L w1 HG.out H4.out).mono ?_
    rintro e w2 ⟨rfl, rfl⟩
    go_wp2_with fail
    go_ret
    exact ⟨rfl, Below.refl _ _⟩
  · have H3 : Hid (¬ (0 ≤ a ∧ a < n)) := h3
    clear hr h3
    go_enter Tryz.func56, Tryz.ntmps56
    go_wp2_with fail
    refine (has_f a n B p v L w HG.out H3.out).mono ?_
    rintro e w1 ⟨rfl, rfl⟩
    go_wp2_with fail
    go_ret
    exact ⟨rfl, Below.refl _ _⟩

set_option maxHeartbeats 2000000 in
set_option maxRecDepth 100000 in
theorem add_arg (id a n : Int) (B p : Nat) (v : Value) (L : List E) (w : World) (h : GAt w B 124 55 p n v L) (hr : InRange id a a n) :
    Calls Tryz.prog 56 #[.pointer (some ⟨p, 0, none⟩), .int .i64 id, .int .i64 a, .int .i64 a] w fun e w' => e = .returned (.iface 29 (.int .i64 1)) ∧ Below w.heap.size w w' := by
  have HG : Hid (GAt w B 124 55 p n v L) := h
  have h1 : ¬ id < 0 := by have := hr.1.1; omega
  have h2 : ¬ 1099511627776 < id := by have := hr.1.2; omega
  have H3 : Hid (0 ≤ a ∧ a < n) := hr.2.1
  clear hr h
  go_enter Tryz.func56, Tryz.ntmps56
  go_wp2_with fail
  refine (has_t a n B p v L w HG.out H3.out).mono ?_
  rintro e w1 ⟨rfl, rfl⟩
  go_wp2_with fail
  refine (has_t a n B p v L w1 HG.out H3.out).mono ?_
  rintro e w2 ⟨rfl, rfl⟩
  go_wp2_with fail
  go_ret
  exact ⟨rfl, Below.refl _ _⟩

theorem inv_nil : Inv [] [] := ⟨List.Pairwise.nil, List.Perm.refl _, by simp⟩

/-- The program's graph and the document's, of one list. -/
structure Two (w0 w : World) (p q : Nat) (n : Int) (v u : Value) (R L : List E) : Prop where
  ga : GAt w w0.heap.size 124 55 p n v L
  ra : GAt w w0.heap.size 33 55 q n u R
  pq : p ≠ q
  vq : v.ownBlock ≠ some q
  up : u.ownBlock ≠ some p
  ap : v.ownBlock = none ∨ v.ownBlock ≠ u.ownBlock
  hp : w0.heap.size ≤ p
  hq : w0.heap.size ≤ q
  below : Below w0.heap.size w0 w

theorem Two.below' {w0 w w' : World} {p q : Nat} {n : Int} {v u : Value} {R L : List E} (h : Two w0 w p q n v u R L) (k : Below w.heap.size w w') : Two w0 w' p q n v u R L :=
  { h with ga := h.ga.below k, ra := h.ra.below k, below := h.below.trans (k.mono h.below.size) }

theorem below_kept {w0 w w' : World} {p : Nat} {o : Option Nat} (h : Below w0.heap.size w0 w) (k : Kept p o w w') (hp : w0.heap.size ≤ p) (ho : ∀ i, o = some i → w0.heap.size ≤ i) : Below w0.heap.size w0 w' :=
  ⟨k.os.trans h.os, k.tape.trans h.tape, k.output.trans h.output, Nat.le_trans h.size k.size, fun i hi => (k.block i (Nat.lt_of_lt_of_le hi h.size) (by omega) (fun e => by have := ho i e.symm; omega)).trans (h.block i hi)⟩

theorem Two.first {w0 w w' : World} {p q : Nat} {n : Int} {v v' u : Value} {R L L' : List E} (h : Two w0 w p q n v u R L) (g : GAt w' w0.heap.size 124 55 p n v' L') (k : Kept p v.ownBlock w w') (hf : Fresh w v v') : Two w0 w' p q n v' u R L' := by
  refine { h with ga := g, ra := h.ra.kept k h.pq.symm (fun e => h.vq e.symm) h.up ?_, vq := ?_, ap := ?_, below := below_kept h.below k h.hp (fun i hi => (h.ga.lt hi).1) }
  · rcases h.ap with h' | h'
    · rw [h']; cases u.ownBlock <;> simp
    · exact Or.inr h'.symm
  · intro e
    rcases hf q e with h1 | h1
    · exact h.vq h1
    · have := h.ra.plt; omega
  · cases e : v'.ownBlock with
    | none => exact Or.inl rfl
    | some i =>
      refine Or.inr (fun e2 => ?_)
      rcases hf i e with h1 | h1
      · rcases h.ap with h' | h'
        · rw [h'] at h1; cases h1
        · exact h' (h1.trans e2)
      · have := (h.ra.lt e2.symm).2
        omega

theorem Two.swap {w0 w : World} {p q : Nat} {n : Int} {v u : Value} {R L : List E} (h : Two w0 w p q n v u R L) : u.ownBlock = none ∨ u.ownBlock ≠ v.ownBlock := by
  rcases h.ap with h' | h'
  · rw [h']; cases u.ownBlock <;> simp
  · exact Or.inr h'.symm

theorem Two.second {w0 w w' : World} {p q : Nat} {n : Int} {v u u' : Value} {R R' L : List E} (h : Two w0 w p q n v u R L) (g : GAt w' w0.heap.size 33 55 q n u' R') (k : Kept q u.ownBlock w w') (hf : Fresh w u u') : Two w0 w' p q n v u' R' L := by
  refine { h with ra := g, ga := h.ga.kept k h.pq (fun e => h.up e.symm) h.vq ?_, up := ?_, ap := ?_, below := below_kept h.below k h.hq (fun i hi => (h.ra.lt hi).1) }
  · exact h.ap
  · intro e
    rcases hf p e with h1 | h1
    · exact h.up h1
    · have := h.ga.plt; omega
  · cases e : v.ownBlock with
    | none => exact Or.inl rfl
    | some i =>
      refine Or.inr (fun e2 => ?_)
      rcases hf i e2.symm with h1 | h1
      · rcases h.ap with h' | h'
        · rw [h'] at e; cases e
        · exact h' (e.trans h1.symm)
      · have := (h.ga.lt e).2
        omega

end Go.Proofs.YtigodbamphejmaaGreatDoor.G

namespace Go.Proofs.YtigodbamphejmaaGreatDoor.S
open Go.RowKit Go.WideMaps Go.Maps

/-- Both graphs behind i steps: the numbers are i times seven, less the sixty-ones in it. -/
structure Mk (w0 w : World) (p q n i : Nat) (v u : Value) (R L : List (Int × Int × Int)) : Prop where
  two : G.Two w0 w p q (n : Int) v u R L
  inv : G.Inv R L
  ids : ∀ e ∈ L, ∃ j, j < i ∧ e.1 = ((j * 7 % 61 : Nat) : Int)
  ends : ∀ e ∈ L, ∃ x y : Nat, x < y ∧ y < n ∧ e = (e.1, (x : Int), (y : Int))
  len : L.length ≤ i

variable {w0 w w' : World} {p q n i : Nat} {v u : Value} {R L : List (Int × Int × Int)}

theorem Mk.ed (h : Mk w0 w p q n i v u R L) (hi : i ≤ 60) : Ed n (60 + 1) L :=
  ⟨h.inv.up, fun e he => by obtain ⟨j, hj, hid⟩ := h.ids e he; rw [hid]; omega, h.ends, by have := h.len; omega⟩

theorem Mk.below' (h : Mk w0 w p q n i v u R L) (k : Below w.heap.size w w') : Mk w0 w' p q n i v u R L := { h with two := h.two.below' k }

theorem Mk.next (h : Mk w0 w p q n i v u R L) : Mk w0 w p q n (i + 1) v u R L :=
  { h with ids := fun e he => (by obtain ⟨j, hj, hid⟩ := h.ids e he; exact ⟨j, by omega, hid⟩), len := by have := h.len; omega }

theorem seven {i j : Nat} (h : i < 61) (hj : j < i) : j * 7 % 61 ≠ i * 7 % 61 := by omega

/-- One step on both. -/
theorem mk_step (a b : Int) (h : Mk w0 w p q n i v u R L) (hi : i < 60) (hn : n ≤ 16) :
    Calls Tryz.prog 56 #[.pointer (some ⟨p, 0, none⟩), .int .i64 ((i * 7 % 61 : Nat) : Int), .int .i64 a, .int .i64 b] w fun e w1 => ∃ c, e = .returned c ∧ Below w0.heap.size w0 w1 ∧
      ∀ W, Below w1.heap.size w1 W → Calls Tryz.prog 8 #[.pointer (some ⟨q, 0, none⟩), .int .i64 ((i * 7 % 61 : Nat) : Int), .int .i64 a, .int .i64 b] W fun e w2 => ∃ c v' u' R' L', e = .returned (.int .i64 c) ∧ Mk w0 w2 p q n (i + 1) v' u' R' L' := by
  have hnew : ∀ x ∈ L, x.1 ≠ ((i * 7 % 61 : Nat) : Int) := fun x hx e => by
    obtain ⟨j, hj, hid⟩ := h.ids x hx
    have := seven (show i < 61 by omega) hj
    omega
  have hlen := h.len
  by_cases hr : G.InRange ((i * 7 % 61 : Nat) : Int) a b (n : Int)
  · by_cases hab : a = b
    · subst hab
      refine (G.add_arg _ a (n : Int) w0.heap.size p v L w h.two.ga hr).mono ?_
      rintro e w1 ⟨rfl, hb⟩
      refine ⟨_, rfl, (h.below' hb).two.below, fun W hW => ?_⟩
      have h1 := (h.below' hb).below' hW
      refine (G.radd_arg _ a (n : Int) w0.heap.size q u R W h1.two.ra (by omega) (by omega) hr).mono ?_
      rintro e w2 ⟨rfl, hb2⟩
      exact ⟨_, v, u, R, L, rfl, (h1.below' hb2).next⟩
    · obtain ⟨x, rfl⟩ := Int.eq_ofNat_of_zero_le hr.2.1.1
      obtain ⟨y, rfl⟩ := Int.eq_ofNat_of_zero_le hr.2.2.1
      have hx : x < n := by have := hr.2.1.2; omega
      have hy : y < n := by have := hr.2.2.2; omega
      have hmin : min (x : Int) (y : Int) = ((min x y : Nat) : Int) := by omega
      have hmax : max (x : Int) (y : Int) = ((max x y : Nat) : Int) := by omega
      refine (G.add_ok _ (x : Int) (y : Int) (n : Int) _ _ w0.heap.size p v L _ w h.two.ga h.two.below.size h.inv.up (by omega) hr hab (G.seen_none hnew) rfl rfl rfl).mono ?_
      rintro e w1 ⟨rfl, v', g1, k1, f1⟩
      have hRl : R.length ≤ 120 := by rw [h.inv.rlen]; exact h.inv.len
      refine ⟨_, rfl, (h.two.first g1 k1 f1).below, fun W hW => ?_⟩
      have t1 := (h.two.first g1 k1 f1).below' hW
      refine (G.radd_in _ (x : Int) (y : Int) (n : Int) _ _ w0.heap.size q u R W t1.ra t1.below.size hRl (by omega) (by omega) hr hab rfl rfl).mono ?_
      rintro e w2 (⟨⟨z, hz, hid⟩, _⟩ | ⟨_, hl, _⟩ | ⟨_, _, rfl, u', g2, k2, f2⟩)
      · exact absurd hid (hnew z (h.inv.perm.mem_iff.1 hz))
      · rw [h.inv.rlen] at hl; omega
      · have t2 := t1.second g2 k2 f2
        refine ⟨_, v', u', _, _, rfl, t2, h.inv.put _ hnew (by omega), fun e he => ?_, fun e he => ?_, ?_⟩
        · rcases List.mem_cons.1 ((G.putE_perm L _).mem_iff.1 he) with rfl | he
          · exact ⟨i, by omega, rfl⟩
          · obtain ⟨j, hj, hid⟩ := h.ids e he
            exact ⟨j, by omega, hid⟩
        · rcases List.mem_cons.1 ((G.putE_perm L _).mem_iff.1 he) with rfl | he
          · exact ⟨min x y, max x y, by omega, by omega, by simp only [hmin, hmax]⟩
          · exact h.ends e he
        · rw [G.putE_length]; omega
  · refine (G.add_range _ a b (n : Int) w0.heap.size p v L w h.two.ga hr).mono ?_
    rintro e w1 ⟨rfl, hb⟩
    refine ⟨_, rfl, (h.below' hb).two.below, fun W hW => ?_⟩
    have h1 := (h.below' hb).below' hW
    refine (G.radd_range _ a b (n : Int) w0.heap.size q u R W h1.two.ra (by omega) (by omega) hr).mono ?_
    rintro e w2 ⟨rfl, hb2⟩
    exact ⟨_, v, u, R, L, rfl, (h1.below' hb2).next⟩

end Go.Proofs.YtigodbamphejmaaGreatDoor.S
namespace Go.Proofs.YtigodbamphejmaaGreatDoor.S
open Go.RowKit Go.WideMaps Go.Maps

theorem zero3' : ∀ w, (zeroValue 3).run Tryz.prog w = .ok (.int .i64 0) w := zero3

theorem atKey_missing {D : DataW Unit} {x : Int} {zd : DataW Unit} (h : Maps.has D (.int .i64 x) = false) : D.atKey (.int .i64 x) zd = zd := atKey_of_not_has h zd

set_option maxHeartbeats 2000000 in
set_option maxRecDepth 100000 in
theorem bsame_in {R : List (Int × Int × Int)} {L : List Nat} {e f : Int × Int × Int} (x y p m N : Nat) (D : DataW Unit) (v : Value) (s : Bool) (w : World) (h : BlAt w p m N D v) (hl : Lm D R L) (g : Good R.length L) (hu : G.Up R) (hx : R[x]? = some e) (hy : R[y]? = some f) (hid : ∀ e ∈ R, 0 ≤ e.1 ∧ e.1 ≤ 1000000) (hs : s = true ↔ L.getD x 0 = L.getD y 0) :
    Calls Tryz.prog 28 #[.pointer (some ⟨p, 0, none⟩), .int .i64 e.1, .int .i64 f.1] w fun en w' => en = .returned (.tuple #[.bool s, .nilIface]) ∧ w' = w := by
  have hxl := (List.getElem?_eq_some_iff.1 hx).1
  have hyl := (List.getElem?_eq_some_iff.1 hy).1
  have hwf : ∀ e ∈ R, (Lit.int .i64 e.1).wf = true := fun e he => wf_small (hid e he).1 (hid e he).2
  have hc0 := h.c0
  have hown := h.hm
  have HS : Hid ((idAt R (L.getD x 0) == idAt R (L.getD y 0)) = s) := by
    show _ = s
    cases s with
    | true => exact beq_iff_eq.2 (by rw [hs.1 rfl])
    | false =>
      refine beq_eq_false_iff_ne.2 (fun c => ?_)
      have := hs.2 (idAt_inj hu (Nat.lt_of_le_of_lt (g.le x hxl) hxl) (Nat.lt_of_le_of_lt (g.le y hyl) hyl) c)
      cases this
  have k1 := key3 e.1 (hwf e (List.mem_of_getElem? hx))
  have k2 := key3 f.1 (hwf f (List.mem_of_getElem? hy))
  have HH1 : Hid (Maps.has D (.int .i64 e.1) = true) := (hl.key e.1).2 ⟨e, List.mem_of_getElem? hx, rfl⟩
  have HH2 : Hid (Maps.has D (.int .i64 f.1) = true) := (hl.key f.1).2 ⟨f, List.mem_of_getElem? hy, rfl⟩
  have HV1 : Hid (D.atKey (.int .i64 e.1) (.lit (.int .i64 0)) = .lit (.int .i64 (idAt R (L.getD x 0)))) := hl.val x e hx _
  have HV2 : Hid (D.atKey (.int .i64 f.1) (.lit (.int .i64 0)) = .lit (.int .i64 (idAt R (L.getD y 0)))) := hl.val y f hy _
  clear h hl g hu hx hy hid hs hwf
  generalize idAt R (L.getD x 0) = X at *
  generalize idAt R (L.getD y 0) = Y at *
  generalize e.1 = e1 at *
  generalize f.1 = f1 at *
  go_enter Tryz.func28, Tryz.ntmps28
  go_wp2_with (first
    | (at_lookup; refine wpList_lookup_own_ok_int _ rfl _ _ 83 rfl 3 3 .i64 law3 Tryz.underlying83 Tryz.underlying3 (zero3 _) m N D rfl hown _ _ rfl k1 ?_; intro c1 hat1 hwc1; rw [HV1.out] at hat1; obtain rfl := lit_inj hat1; rw [HH1.out]; clear hat1 hwc1 k1)
    | (at_lookup; refine wpList_lookup_own_ok_int _ rfl _ _ 83 rfl 3 3 .i64 law3 Tryz.underlying83 Tryz.underlying3 (zero3 _) m N D rfl hown _ _ rfl k2 ?_; intro c2 hat2 hwc2; rw [HV2.out] at hat2; obtain rfl := lit_inj hat2; rw [HH2.out]; clear hat2 hwc2 k2)
    | fail)
  go_ret2
  exact ⟨by rw [HS.out]; rfl, rfl⟩

set_option maxHeartbeats 2000000 in
set_option maxRecDepth 100000 in
theorem bsame_out {R : List (Int × Int × Int)} {L : List Nat} (x y : Int) (p m N : Nat) (D : DataW Unit) (v : Value) (w : World) (h : BlAt w p m N D v) (hl : Lm D R L) (hx : ∀ e ∈ R, e.1 ≠ x) (hwx : (Lit.int .i64 x).wf = true) (hwy : (Lit.int .i64 y).wf = true) :
    Calls Tryz.prog 28 #[.pointer (some ⟨p, 0, none⟩), .int .i64 x, .int .i64 y] w fun en w' => en = .returned (.tuple #[.bool false, .iface 29 (.int .i64 7)]) ∧ Below w.heap.size w w' := by
  have hc0 := h.c0
  have hown := h.hm
  have k1 := key3 x hwx
  have k2 := key3 y hwy
  have HH1 : Hid (Maps.has D (.int .i64 x) = false) := by
    show _ = false
    rw [Bool.eq_false_iff]
    exact fun c => by obtain ⟨e, he, hid⟩ := (hl.key x).1 c; exact hx e he hid
  obtain ⟨b2, hb2⟩ : ∃ b2, Maps.has D (.int .i64 y) = b2 := ⟨_, rfl⟩
  have HH2 : Hid (Maps.has D (.int .i64 y) = b2) := hb2
  have HV1 : Hid (D.atKey (.int .i64 x) (.lit (.int .i64 0)) = .lit (.int .i64 0)) := atKey_missing HH1.out
  clear h hl hx hb2
  go_enter Tryz.func28, Tryz.ntmps28
  go_wp2_with (first
    | (at_lookup; refine wpList_lookup_own_ok_int _ rfl _ _ 83 rfl 3 3 .i64 law3 Tryz.underlying83 Tryz.underlying3 (zero3 _) m N D rfl hown _ _ rfl k1 ?_; intro c1 hat1 hwc1; rw [HV1.out] at hat1; obtain rfl := lit_inj hat1; rw [HH1.out]; clear hat1 hwc1 k1)
    | (at_lookup; refine wpList_lookup_own_ok_int _ rfl _ _ 83 rfl 3 3 .i64 law3 Tryz.underlying83 Tryz.underlying3 (zero3 _) m N D rfl hown _ _ rfl k2 ?_; intro c2 hat2 hwc2; rw [HH2.out]; clear hat2 hwc2 k2)
    | fail)
  go_ret2
  exact ⟨rfl, Below.refl _ _⟩

theorem BlAt.drew {w : World} {p m N : Nat} {D : DataW Unit} {v : Value} (h : BlAt w p m N D v) : BlAt w.drew p m N D v := ⟨h.hp, h.hm⟩

end Go.Proofs.YtigodbamphejmaaGreatDoor.S
namespace Go.Proofs.YtigodbamphejmaaGreatDoor.S
open Go.RowKit Go.WideMaps Go.Maps

theorem has_mem (K : List Nat) (x : Nat) : Has (fun j => K.getD j 0) K.length x ↔ x ∈ K := by
  constructor
  · rintro ⟨j, hj, rfl⟩
    simp [hj]
  · intro hx
    obtain ⟨j, hj, rfl⟩ := List.mem_iff_getElem.1 hx
    exact ⟨j, hj, by simp [hj]⟩

theorem blks_len (R : List (Int × Int × Int)) (L : List Nat) : (blks R L).length ≤ R.length := by
  simp only [blks, List.length_map, lst]
  exact Nat.le_trans (List.length_filter_le _ _) (by simp)

theorem blks_row (R : List (Int × Int × Int)) (L : List Nat) (i : Nat) : ((blks R L).getD i []).length ≤ R.length := by
  rw [List.getD_eq_getElem?_getD]
  cases h : (blks R L)[i]? with
  | none => simp
  | some K =>
    obtain ⟨r, _, rfl⟩ := List.mem_map.1 (List.mem_of_getElem? h)
    simp only [Option.getD_some, List.length_map, grp]
    exact Nat.le_trans (List.length_filter_le _ _) (by simp)

theorem blks_in {R : List (Int × Int × Int)} {L : List Nat} (hu : G.Up R) (hid : ∀ e ∈ R, 0 ≤ e.1 ∧ e.1 ≤ 1000000) (g : Good R.length L) {a b : Nat} (ha : a < R.length) (hb : b < R.length) :
    L.getD a 0 = L.getD b 0 ↔ ∃ i, i < (blks R L).length ∧ Has (fun j => ((blks R L).getD i []).getD j 0) ((blks R L).getD i []).length (idN R a) ∧ Has (fun j => ((blks R L).getD i []).getD j 0) ((blks R L).getD i []).length (idN R b) := by
  simp only [has_mem]
  constructor
  · intro e
    have hr : L.getD a 0 ∈ lst L R.length := mem_lst.2 ⟨Nat.lt_of_le_of_lt (g.le a ha) ha, g.idem a ha⟩
    obtain ⟨t, ht⟩ := List.getElem?_of_mem hr
    have hrow := blks_at ht
    refine ⟨t, (List.getElem?_eq_some_iff.1 hrow).1, ?_, ?_⟩
    · rw [List.getD_eq_getElem?_getD, hrow]
      exact List.mem_map.2 ⟨a, mem_grp.2 ⟨ha, rfl⟩, rfl⟩
    · rw [List.getD_eq_getElem?_getD, hrow]
      exact List.mem_map.2 ⟨b, mem_grp.2 ⟨hb, e.symm⟩, rfl⟩
  · rintro ⟨i, hi, h1, h2⟩
    have hrow : (blks R L)[i]? = some ((blks R L)[i]) := List.getElem?_eq_getElem hi
    obtain ⟨r, _, hr⟩ := List.mem_map.1 (List.getElem_mem hi)
    rw [List.getD_eq_getElem?_getD, hrow, ← hr] at h1 h2
    obtain ⟨a', ha', e1⟩ := List.mem_map.1 h1
    obtain ⟨b', hb', e2⟩ := List.mem_map.1 h2
    obtain ⟨ha1, ha2⟩ := mem_grp.1 ha'
    obtain ⟨hb1, hb2⟩ := mem_grp.1 hb'
    obtain rfl := idN_inj hu hid ha1 ha e1
    obtain rfl := idN_inj hu hid hb1 hb e2
    rw [ha2, hb2]

theorem CutsB.eq {R : List (Int × Int × Int)} {x : Nat} {cs ds : List Nat} (h : CutsB R x cs) (k : CutsB R x ds) : cs = ds := by
  have n1 : cs.Nodup := h.up.imp (fun h => Nat.ne_of_lt h)
  have n2 : ds.Nodup := k.up.imp (fun h => Nat.ne_of_lt h)
  have hp : cs.Perm ds := (List.perm_ext_iff_of_nodup n1 n2).2 (fun y => by rw [h.mem, k.mem])
  exact hp.eq_of_pairwise (le := fun a b => a < b) (fun a b _ _ h1 h2 => by omega) h.up k.up

/-- What a row of numbers is. -/
theorem nats_shape {w : World} {base : Nat} {v : Value} {K : List Nat} (h : w.ownsRow base 3 1 v K.length (natsV K)) : ∃ a cap, v = .slice a K.length cap ∧ (0 < K.length → ∃ g, a = some ⟨g, 0, none⟩ ∧ ∀ j, j < K.length → w.cell? ⟨g, j, none⟩ = some (.int .i64 ((K.getD j 0 : Nat) : Int))) := by
  have h0 := h
  rcases h.2 with ⟨rfl, hz⟩ | ⟨g, cap, cur, rfl, hb, hg, _⟩
  · exact ⟨none, 0, by rw [hz], fun k => by omega⟩
  · refine ⟨_, cap, rfl, fun _ => ⟨g, rfl, fun j hj => ?_⟩⟩
    rw [h0.cellAt j (by omega)]
    simp [natsV, hj]

/-- Rows that can be read, of which there are so many. -/
def Rd (w : World) (a : Option Addr) (Gs : List (List Nat)) (c : Nat) : Prop := 0 < c → ∃ g, a = some ⟨g, 0, none⟩ ∧ RowsAt w g Gs c
theorem Rd.below {w w' : World} {a : Option Addr} {Gs : List (List Nat)} {c : Nat} (h : Rd w a Gs c) (hb : Below w.heap.size w w') : Rd w' a Gs c := fun hc => by
  obtain ⟨g, h1, h2⟩ := h hc
  exact ⟨g, h1, h2.below hb⟩

/-- All that is known behind the last question. -/
structure BFin (w0 w : World) (p m N n : Nat) (D : DataW Unit) (vb va : Value) (R : List (Int × Int × Int)) (L : List Nat) (B : Nat) (ap : Option Addr) : Prop where
  at_ : BlAt w p m N D vb
  lm : Lm D R L
  rows : Rd w ap (blks R L) (blks R L).length
  all : G.Owns w B 55 va R
  below : Below w0.heap.size w0 w

theorem BFin.below' {w0 w w' : World} {p m N n B : Nat} {D : DataW Unit} {vb va : Value} {R : List (Int × Int × Int)} {L : List Nat} {ap : Option Addr} (h : BFin w0 w p m N n D vb va R L B ap) (hb : Below w.heap.size w w') : BFin w0 w' p m N n D vb va R L B ap :=
  ⟨h.at_.below hb, h.lm, h.rows.below hb, h.all.below hb, h.below.trans (hb.mono h.below.size)⟩

theorem BFin.drew {w0 w : World} {p m N n B : Nat} {D : DataW Unit} {vb va : Value} {R : List (Int × Int × Int)} {L : List Nat} {ap : Option Addr} (h : BFin w0 w p m N n D vb va R L B ap) : BFin w0 w.drew p m N n D vb va R L B ap := h.below' (Below.refl _ _).drew

theorem row_below {w w' : World} {base e s n : Nat} {v : Value} {xs : List Value} (h : w.ownsRow base e s v n xs) (hb : Below w.heap.size w w') : w'.ownsRow base e s v n xs := h.kept (grown_below hb) (Classical.em _)

/-- Same, by the places of the edges. -/
theorem bsame_n {w0 w : World} {p m N n B : Nat} {D : DataW Unit} {vb va : Value} {R : List (Int × Int × Int)} {L : List Nat} {ap : Option Addr} (h : BFin w0 w p m N n D vb va R L B ap) (g : Good R.length L) (hu : G.Up R) (hid : ∀ e ∈ R, 0 ≤ e.1 ∧ e.1 ≤ 1000000) (x y X Y : Nat) (s : Bool) (hx : x < R.length) (hy : y < R.length) (hX : idN R x = X) (hY : idN R y = Y) (hs : s = true ↔ L.getD x 0 = L.getD y 0) :
    Calls Tryz.prog 28 #[.pointer (some ⟨p, 0, none⟩), .int .i64 (X : Int), .int .i64 (Y : Int)] w fun en w' => en = .returned (.tuple #[.bool s, .nilIface]) ∧ w' = w := by
  have e1 := List.getElem?_eq_getElem hx
  have e2 := List.getElem?_eq_getElem hy
  have f1 := (idN_cast hid hx).1
  have f2 := (idN_cast hid hy).1
  rw [idAt_of e1, hX] at f1
  rw [idAt_of e2, hY] at f2
  rw [f1, f2]
  exact bsame_in x y p m N D vb s w h.at_ h.lm g hu e1 e2 hid hs

/-- In, by the places of the edges. -/
theorem bin_n {w0 w : World} {p m N n B : Nat} {D : DataW Unit} {vb va : Value} {R : List (Int × Int × Int)} {L : List Nat} {ap : Option Addr} (h : BFin w0 w p m N n D vb va R L B ap) (g : Good R.length L) (hu : G.Up R) (hid : ∀ e ∈ R, 0 ≤ e.1 ∧ e.1 ≤ 1000000) (hR : R.length ≤ 100) (x y X Y c : Nat) (s : Bool) (hx : x < R.length) (hy : y < R.length) (hX : idN R x = X) (hY : idN R y = Y) (hs : s = true ↔ L.getD x 0 = L.getD y 0) (k : Nat) (hk : (blks R L).length = k) :
    Calls Tryz.prog 20 #[.slice ap k c, .int .i64 (X : Int), .int .i64 (Y : Int)] w fun e w' => e = .returned (.bool s) ∧ w' = w := by
  subst hk
  refine in_rows ap _ c X Y (blks R L) s w h.rows ?_ (fun i => Nat.le_trans (blks_row R L i) (by omega)) ?_
  · have := blks_len R L; omega
  · rw [hs, blks_in hu hid g hx hy, hX, hY]

theorem all_cell {w0 w : World} {p m N n B : Nat} {D : DataW Unit} {vb : Value} {R : List (Int × Int × Int)} {L : List Nat} {ap : Option Addr} {g k c : Nat} (h : BFin w0 w p m N n D vb (.slice (some ⟨g, 0, none⟩) k c) R L B ap) (hid : ∀ e ∈ R, 0 ≤ e.1 ∧ e.1 ≤ 1000000) {x X : Nat} (hx : x < R.length) (hX : idN R x = X) : w.cell? ⟨g, x * 3, none⟩ = some (.int .i64 (X : Int)) := by
  have e1 := List.getElem?_eq_getElem hx
  have f1 := (idN_cast hid hx).1
  rw [idAt_of e1, hX] at f1
  rw [f1]
  exact (h.all.at (g := g) rfl e1).1

end Go.Proofs.YtigodbamphejmaaGreatDoor.S
