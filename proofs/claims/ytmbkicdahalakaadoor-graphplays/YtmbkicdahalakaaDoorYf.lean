/- The contracts of Tell, Bare and bare, of sameEdges and of Other. -/
import Derived.Test.YtmbkicdahalakaaDoorYa
import Derived.Test.YtmbkicdahalakaaDoorAs
namespace Go.Proofs.YtmbkicdahalakaaDoor
open Go.RowKit Go.Extern.Stop Go.Stop Go.Extern

/-- The type that package errors keeps of errors. -/
def Gl (w : World) : Prop := w.cell? ⟨0, 0, none⟩ = some (.iface 119 (.agg #[.pointer (some ⟨1, 25, none⟩)]))

theorem Gl.below {w w' : World} (h : Gl w) (hb : Below w.heap.size w w') : Gl w' :=
  (hb.cell (p := ⟨0, 0, none⟩) (lt_of_cell h)).trans h

theorem below_four (w : World) (o1 o2 o3 o4 : Obj) : Below w.heap.size w ((((w.alloc o1).alloc o2).alloc o3).alloc o4) :=
  ((((Below.refl _ _).alloc (Nat.le_refl _) _).alloc (by simp) _).alloc (by simp; omega) _).alloc (by simp; omega) _

theorem below_as (w : World) (t : Nat) (h : w.heap.size ≤ t) (o1 o2 o3 o4 o5 : Obj) (v : Value) : Below w.heap.size w ((((((w.alloc o1).alloc o2).alloc o3).alloc o4).alloc o5).setCell ⟨t, 0, none⟩ v) :=
  ((below_four w o1 o2 o3 o4).alloc (by simp; omega) _).setCell h _

set_option maxHeartbeats 400000 in
theorem tell_errno (n : Int) (w : World) (hg : Gl w) : Calls Tryd.prog 49 #[.iface 29 (.int .i64 n)] w fun e w' => e = .returned (.int .i64 n) ∧ Below w.heap.size w w' := by
  have hg1 : Gl (w.alloc (.cells #[.int .i64 0] 29)) := hg.below ((Below.refl _ _).alloc (Nat.le_refl _) _)
  have HG : Hid (Gl (w.alloc (.cells #[.int .i64 0] 29))) := hg1
  clear hg hg1
  go_enter Tryd.func49, Tryd.ntmps49
  go_wp2_with fail
  refine (as_hit n ⟨w.heap.size, 0, none⟩ (.int .i64 0) _ (by exact HG.out) (by simp) (by simp)).mono ?_
  rintro e w' ⟨rfl, hw⟩
  have hb : Below w.heap.size w w' := by rw [hw]; exact below_as w _ (Nat.le_refl _) _ _ _ _ _ _
  have hc : w'.cell? ⟨w.heap.size, 0, none⟩ = some (.int .i64 n) := by
    rw [hw]
    refine World.cell?_setCell_same _ _ _ (u := .int .i64 0) ?_
    have h1 : (w.alloc (.cells #[.int .i64 0] 29)).cell? ⟨w.heap.size, 0, none⟩ = some (.int .i64 0) := by simp
    refine (Below.cell (p := ⟨w.heap.size, 0, none⟩) (below_four (w.alloc (.cells #[.int .i64 0] 29)) _ _ _ _) (by simp)).trans h1
  have HB : Hid (Below w.heap.size w w') := hb
  clear hw hb HG
  go_wp2
  go_ret
  exact ⟨rfl, HB.out⟩

theorem noAt (v : Value) (w : World) : (Instr.typeAssert (.iface 29 v) 25 92 true).run Tryd.prog w = .ok (.tuple #[.pointer none, .bool false]) w := by kernel_rfl
theorem noUnwrap (v : Value) (w : World) : (Instr.typeAssert (.iface 29 v) 25 94 true).run Tryd.prog w = .ok (.tuple #[.nilIface, .bool false]) w := run_typeAssert_lacksB Tryd.underlying94 (by kernel_rfl) (by kernel_rfl) v 25 w

set_option maxRecDepth 100000 in
set_option maxHeartbeats 400000 in
theorem bare_errno (n : Int) (w : World) (hg : Gl w) : Calls Tryd.prog 30 #[.iface 29 (.int .i64 n)] w fun e w' => e = .returned (.tuple #[.int .i64 n, .bool true]) ∧ Below w.heap.size w w' := by
  go_enter Tryd.func30, Tryd.ntmps30
  go_wp2_with fail
  refine (tell_errno n _ hg).mono ?_
  rintro e w' ⟨rfl, hb⟩
  have na := noAt
  have nu := noUnwrap
  have HB : Hid (Below w.heap.size w w') := hb
  clear hb hg
  go_wp2_with fail
  refine wp_loop_rounds 1 ?_
  rw [rounds_succ]
  go_wp2
  go_ret2
  exact ⟨rfl, HB.out⟩

set_option maxHeartbeats 400000 in
theorem bare_no (n : Int) (w : World) (hg : Gl w) : Calls Tryd.prog 6 #[.iface 29 (.int .i64 n), .int .i64 n] w fun e w' => e = .returned (.bool true) ∧ Below w.heap.size w w' := by
  go_enter Tryd.func6, Tryd.ntmps6
  go_wp2_with fail
  refine (bare_errno n _ hg).mono ?_
  rintro e w' ⟨rfl, hb⟩
  have HB : Hid (Below w.heap.size w w') := hb
  clear hb hg
  go_wp2
  go_ret
  exact ⟨by simp, HB.out⟩

set_option maxRecDepth 100000 in
set_option maxHeartbeats 400000 in
theorem bare_ok (w : World) : Calls Tryd.prog 6 #[.nilIface, .int .i64 0] w fun e w' => e = .returned (.bool true) ∧ Below w.heap.size w w' := by
  go_enter Tryd.func6, Tryd.ntmps6
  go_wp2_with fail
  have h30 : Calls Tryd.prog 30 #[.nilIface] w fun e w' => e = .returned (.tuple #[.int .i64 0, .bool true]) ∧ w' = w := by
    go_enter Tryd.func30, Tryd.ntmps30
    go_wp2
    refine wp_loop_rounds 1 ?_
    rw [rounds_succ]
    go_wp2
    go_ret2
    exact ⟨rfl, rfl⟩
  refine h30.mono ?_
  rintro e w' ⟨rfl, rfl⟩
  go_wp2
  go_ret
  exact ⟨rfl, Below.refl _ _⟩

/-- An error as the program tells it. -/
def errV (c : Int) : Value := if c = 0 then .nilIface else .iface 29 (.int .i64 c)

theorem bare_any (v : Value) (c : Int) (w : World) (hg : Gl w) (hv : v = errV c) : Calls Tryd.prog 6 #[v, .int .i64 c] w fun e w' => e = .returned (.bool true) ∧ Below w.heap.size w w' := by
  subst hv
  by_cases h : c = 0
  · subst h; exact bare_ok w
  · have : errV c = .iface 29 (.int .i64 c) := by simp [errV, h]
    rw [this]; exact bare_no c w hg

set_option maxHeartbeats 2000000 in
set_option maxRecDepth 100000 in
theorem same_edges (B1 B2 : Nat) (a b : Value) (L : List E) (w : World) (ha : Owns w B1 59 a L) (hb : Owns w B2 59 b L) (hl : L.length ≤ 1000) :
    Calls Tryd.prog 24 #[a, b] w fun e w' => e = .returned (.bool true) ∧ Below w.heap.size w w' := by
  have HA : Hid (Owns w B1 59 a L) := ha
  have HB : Hid (Owns w B2 59 b L) := hb
  obtain ⟨m, hm⟩ : ∃ m, m = L.length := ⟨_, rfl⟩
  have HM : Hid (m = L.length) := hm
  obtain ⟨a1, c1, hva⟩ := ha.slice_len
  obtain ⟨a2, c2, hvb⟩ := hb.slice_len
  rw [← hm] at hva hvb hl
  subst hva hvb
  clear ha hb hm
  go_enter Tryd.func24, Tryd.ntmps24
  go_wp2_with fail
  go_loopg [5] m (fun r s5 wq => ∃ k : Nat, s5 = .int .i64 k ∧ k + r = m ∧ ∃ q, wq = w.drewN q)
  case atStart => exact ⟨0, rfl, by omega, 0, rfl⟩
  case round =>
    obtain ⟨k, rfl, hk, q, hq⟩ := hrel
    have HQ : Hid (wr = w.drewN q) := hq
    by_cases hlt : k < m
    · as_aux_lemma =>
      obtain ⟨x0, x1, x2, hx⟩ : ∃ x0 x1 x2, L[k]? = some (x0, x1, x2) := ⟨_, _, _, List.getElem?_eq_getElem (by rw [← HM.out]; exact hlt)⟩
      obtain ⟨g1, e1⟩ : ∃ g, a1 = some ⟨g, 0, none⟩ := by
        rcases HA.out.shape with ⟨_, e⟩ | ⟨g, cap, e, _⟩
        · rw [e] at hx; simp at hx
        · injection e with e1 _ _
          exact ⟨g, e1⟩
      obtain ⟨g2, e2⟩ : ∃ g, a2 = some ⟨g, 0, none⟩ := by
        rcases HB.out.shape with ⟨_, e⟩ | ⟨g, cap, e, _⟩
        · rw [e] at hx; simp at hx
        · injection e with e1 _ _
          exact ⟨g, e1⟩
      obtain ⟨r0, r1, r2⟩ := HA.out.at (g := g1) (by rw [e1]; rfl) hx
      obtain ⟨s0, s1, s2⟩ := HB.out.at (g := g2) (by rw [e2]; rfl) hx
      have hcell : ∀ p, wr.cell? p = w.cell? p := fun p => by rw [HQ.out]; rfl
      have r0' : wr.cell? ⟨g1, k * 3, none⟩ = some (.int .i64 x0) := (hcell _).trans r0
      have r1' : wr.cell? ⟨g1, k * 3 + 1, none⟩ = some (.int .i64 x1) := (hcell _).trans r1
      have r2' : wr.cell? ⟨g1, k * 3 + 2, none⟩ = some (.int .i64 x2) := (hcell _).trans r2
      have s0' : wr.cell? ⟨g2, k * 3, none⟩ = some (.int .i64 x0) := (hcell _).trans s0
      have s1' : wr.cell? ⟨g2, k * 3 + 1, none⟩ = some (.int .i64 x1) := (hcell _).trans s1
      have s2' : wr.cell? ⟨g2, k * 3 + 2, none⟩ = some (.int .i64 x2) := (hcell _).trans s2
      subst e1 e2
      clear hq r0 r1 r2 s0 s1 s2 hx hcell
      go_wp2_with fail
      go_quiet (fail)
      have HQ2 : Hid (wr.drewN nq = w.drewN (q + nq)) := by
        show wr.drewN nq = w.drewN (q + nq)
        rw [HQ.out]
        unfold World.drewN
        simp [Nat.add_assoc]
      clear r0' r1' r2' s0' s1' s2'
      generalize wr.drewN nq = wx at *
      go_wp2_with fail
      go_roundg (gk - 1)
      case measure => omega
      case rel => exact ⟨k + 1, by go_num, by omega, _, HQ2.out⟩
    · clear hq
      go_wp2_with fail
      go_ret
      refine ⟨rfl, ?_⟩
      rw [HQ.out]
      exact ⟨rfl, rfl, rfl, Nat.le_refl _, fun _ _ => rfl⟩

end Go.Proofs.YtmbkicdahalakaaDoor
