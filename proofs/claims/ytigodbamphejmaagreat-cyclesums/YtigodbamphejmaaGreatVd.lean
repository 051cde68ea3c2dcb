/- Package cycle: together, apart, grow. -/
import Derived.Test.YtigodbamphejmaaGreatV1
import Derived.Test.YtigodbamphejmaaGreatGX
import Derived.Test.YtigodbamphejmaaGreatS1
namespace Go.Proofs.YtigodbamphejmaaGreat.S
open Go.RowKit

/-- All ends are nodes, and numbers. -/
def InE (n : Nat) (R : List Edg) : Prop := ∀ e ∈ R, ea e < n ∧ eb e < n ∧ e.2.1 = (ea e : Int) ∧ e.2.2 = (eb e : Int)
theorem InE.nodes {n : Nat} {R : List Edg} (h : InE n R) : Nodes n R := fun e he => ⟨(h e he).1, (h e he).2.1⟩
theorem InE.sub {n : Nat} {R S : List Edg} (h : InE n R) (hs : ∀ e ∈ S, e ∈ R) : InE n S := fun e he => h e (hs e he)

/-- An edge of a row, read. -/
theorem row_edge {n : Nat} {R : List Edg} (hin : InE n R) {k : Nat} (hk : k < R.length) : ∃ (x0 : Int) (xa xb : Nat), R[k]? = some (x0, (xa : Int), (xb : Int)) ∧ xa < n ∧ xb < n ∧ ea (x0, (xa : Int), (xb : Int)) = xa ∧ eb (x0, (xa : Int), (xb : Int)) = xb := by
  obtain ⟨e, he⟩ : ∃ e, R[k]? = some e := ⟨_, List.getElem?_eq_getElem hk⟩
  obtain ⟨h1, h2, h3, h4⟩ := hin e (List.mem_of_getElem? he)
  obtain ⟨x0, x1, x2⟩ := e
  obtain ⟨xa, hxa⟩ : ∃ xa, ea (x0, x1, x2) = xa := ⟨_, rfl⟩
  obtain ⟨xb, hxb⟩ : ∃ xb, eb (x0, x1, x2) = xb := ⟨_, rfl⟩
  rw [hxa] at h1 h3
  rw [hxb] at h2 h4
  simp only at h3 h4
  subst h3
  subst h4
  exact ⟨x0, xa, xb, he, h1, h2, hxa, hxb⟩

theorem owns_block {w : World} {B : Nat} {va : Option Addr} {m vc : Nat} {R : List Edg} (h : G.Owns w B 49 (.slice va m vc) R) {k : Nat} (hk : k < R.length) : ∃ g, va = some ⟨g, 0, none⟩ := by
  rcases h.shape with ⟨_, e⟩ | ⟨g, cap, e, _⟩
  · rw [e] at hk; simp at hk
  · injection e with e1 _ _
    exact ⟨g, e1⟩

theorem lb_take (n : Nat) {R : List Edg} {k : Nat} {x : Edg} (h : R[k]? = some x) : lbl n (R.take (k + 1)) = joinL (lbl n (R.take k)) (ea x) (eb x) := by
  obtain ⟨hlt, he⟩ := List.getElem?_eq_some_iff.1 h
  rw [List.take_succ_eq_append_getElem hlt, he, lb_snoc]

theorem nodes_take {n : Nat} {R : List Edg} (h : InE n R) (k : Nat) : Nodes n (R.take k) := fun e he => h.nodes e (List.mem_of_mem_take he)

set_option maxHeartbeats 2000000 in
set_option maxRecDepth 100000 in
theorem ctogether_any (n B0 : Nat) (u : Value) (R : List Edg) (w : World) (hR : G.Owns w B0 49 u R) (hn : n ≤ 40) (hin : InE n R) (hl : R.length ≤ 120) :
    Calls Tryz.prog 45 #[.int .i64 (n : Int), u] w fun e w' => ∃ p b, e = .returned (.pointer (some ⟨p, 0, none⟩)) ∧ SetsAt w' p b (lbl n R) ∧ w.heap.size ≤ p ∧ w.heap.size ≤ b ∧ Below w.heap.size w w' := by
  have HR : Hid (G.Owns w B0 49 u R ∧ InE n R) := ⟨hR, hin⟩
  obtain ⟨m, hm⟩ : ∃ m, R.length = m := ⟨_, rfl⟩
  have HM : Hid (R.length = m) := hm
  obtain ⟨va, vc, hv⟩ := hR.slice_len
  rw [hm] at hv hl
  subst hv
  clear hR hm hin
  go_enter Tryz.func45, Tryz.ntmps45
  go_wp2_with fail
  refine (new_in n w hn).mono ?_
  rintro e w1 ⟨rfl, hs1, hb1⟩
  have HS1 : Hid (SetsAt w1 (w.heap.size + 1) w.heap.size (List.range n) ∧ Below w.heap.size w w1) := ⟨hs1, hb1⟩
  clear hs1 hb1
  go_wp2_with fail
  go_loopw [16] (fun s16 wq => ∃ k : Nat, k ≤ m ∧ s16 = .int .i64 k ∧ SetsAt wq (w.heap.size + 1) w.heap.size (lbl n (R.take k)) ∧ Below w.heap.size w wq) (fun s16 _ => m - (intOf s16).toNat)
  case atStart => exact ⟨0, Nat.zero_le _, rfl, HS1.out.1, HS1.out.2⟩
  case round =>
    clear HS1
    obtain ⟨k, hk, rfl, hs, hb⟩ := hrel
    have HS : Hid (SetsAt wr (w.heap.size + 1) w.heap.size (lbl n (R.take k))) := hs
    have HB : Hid (Below w.heap.size w wr) := hb
    clear hs hb
    by_cases hlt : k < m
    · as_aux_lemma =>
      obtain ⟨x0, xa, xb, hx, han, hbn, hxa, hxb⟩ := row_edge HR.out.2 (by rw [HM.out]; exact hlt)
      have HX : Hid (R[k]? = some (x0, (xa : Int), (xb : Int)) ∧ ea (x0, (xa : Int), (xb : Int)) = xa ∧ eb (x0, (xa : Int), (xb : Int)) = xb) := ⟨hx, hxa, hxb⟩
      obtain ⟨g, rfl⟩ := owns_block HR.out.1 (by rw [HM.out]; exact hlt)
      obtain ⟨r0, r1, r2⟩ := (HR.out.1.below HB.out).at (g := g) rfl hx
      have r0' : wr.cell? ⟨g, k * 3, none⟩ = some (.int .i64 x0) := r0
      have r1' : wr.cell? ⟨g, k * 3 + 1, none⟩ = some (.int .i64 (xa : Int)) := r1
      have r2' : wr.cell? ⟨g, k * 3 + 2, none⟩ = some (.int .i64 (xb : Int)) := r2
      clear r0 r1 r2 hx hxa hxb
      have hb1 : Below wr.heap.size wr (wr.alloc (.cells #[.int .i64 x0, .int .i64 (xa : Int), .int .i64 (xb : Int)] 49)) := (Below.refl _ _).alloc (Nat.le_refl _) _
      have HB1 : Hid (Below w.heap.size w (wr.alloc (.cells #[.int .i64 x0, .int .i64 (xa : Int), .int .i64 (xb : Int)] 49))) := HB.out.trans (hb1.mono HB.out.size)
      have HSW : Hid (SetsAt (wr.alloc (.cells #[.int .i64 x0, .int .i64 (xa : Int), .int .i64 (xb : Int)] 49)) (w.heap.size + 1) w.heap.size (lbl n (R.take k))) := HS.out.below hb1 HS.out.plt HS.out.blt
      clear hb1
      go_wp2_with fail
      have g := lb_good (nodes_take HR.out.2 k)
      refine (join_in xa xb (w.heap.size + 1) w.heap.size _ _ HSW.out (by rw [g.len]; exact han) (by rw [g.len]; exact hbn) (by rw [g.len]; exact hn)).mono ?_
      rintro e w3 ⟨rfl, hs3, hb3⟩
      have HF3 : Hid (SetsAt w3 (w.heap.size + 1) w.heap.size (lbl n (R.take (k + 1))) ∧ Below w.heap.size w w3) := by
        refine ⟨?_, HB1.out.trans (hb3.below (Nat.le_refl _) HB1.out.size)⟩
        rw [lb_take n HX.out.1, HX.out.2.1, HX.out.2.2]
        exact hs3
      clear hs3 hb3 g HSW HS HB HB1 r0' r1' r2'
      go_wp2_with fail
      go_roundw
      case rel => exact ⟨k + 1, by omega, by go_num, HF3.out.1, HF3.out.2⟩
      case measure => simp [intOf]; omega
    · as_aux_lemma =>
      have hke : k = m := by omega
      have HF3 : Hid (SetsAt wr (w.heap.size + 1) w.heap.size (lbl n R)) := by
        have h2 := HS.out
        rw [hke, ← HM.out, List.take_length] at h2
        exact h2
      clear hke HS
      go_wp2_with fail
      go_ret
      exact ⟨_, _, rfl, HF3.out, by omega, by omega, HB.out⟩

theorem capart_any (x y p b : Nat) (L : List Nat) (s : Bool) (w : World) (hs : SetsAt w p b L) (hx : x < L.length) (hy : y < L.length) (hv : (s = true ↔ L.getD x 0 ≠ L.getD y 0)) :
    Calls Tryz.prog 50 #[.pointer (some ⟨p, 0, none⟩), .int .i64 (x : Int), .int .i64 (y : Int)] w fun e w' => e = .returned (.bool s) ∧ Below w.heap.size w w' := by
  have HC : Hid _ := same_in x y p b L (!s) w hs hx hy (by
    by_cases h : L.getD x 0 = L.getD y 0
    · have : s = false := by
        rw [Bool.eq_false_iff]; intro k; exact hv.1 k h
      rw [this, h]; simp
    · have : s = true := hv.2 h
      rw [this]; exact beq_eq_false_iff_ne.2 (by omega))
  clear hs hx hy hv
  go_enter Tryz.func50, Tryz.ntmps50
  go_wp2_with fail
  refine Calls.mono HC.out ?_
  rintro e w1 ⟨rfl, hb⟩
  have HB : Hid (Below w.heap.size w w1) := hb
  clear hb HC
  go_wp2_with fail
  go_ret
  exact ⟨by simp, HB.out⟩

end Go.Proofs.YtigodbamphejmaaGreat.S
