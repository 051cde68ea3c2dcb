/- Errors that are bare. -/
import Derived.Test.YtebcjaenhiiflaaGreatDoorGYa
import Derived.Test.YtebcjaenhiiflaaGreatDoorGAs
namespace Go.Proofs.YtebcjaenhiiflaaGreatDoor.G
open Go.RowKit Go.Extern.Stop Go.Stop Go.Extern

/-- The type that package errors keeps of errors. -/
def Gl (w : World) : Prop := w.cell? ⟨0, 0, none⟩ = some (.iface 248 (.agg #[.pointer (some ⟨9, 28, none⟩)]))

theorem Gl.below {w w' : World} (h : Gl w) (hb : Below w.heap.size w w') : Gl w' :=
  (hb.cell (p := ⟨0, 0, none⟩) (lt_of_cell h)).trans h

theorem below_four (w : World) (o1 o2 o3 o4 : Obj) : Below w.heap.size w ((((w.alloc o1).alloc o2).alloc o3).alloc o4) :=
  ((((Below.refl _ _).alloc (Nat.le_refl _) _).alloc (by simp) _).alloc (by simp; omega) _).alloc (by simp; omega) _

theorem below_as (w : World) (t : Nat) (h : w.heap.size ≤ t) (o1 o2 o3 o4 o5 : Obj) (v : Value) : Below w.heap.size w ((((((w.alloc o1).alloc o2).alloc o3).alloc o4).alloc o5).setCell ⟨t, 0, none⟩ v) :=
  ((below_four w o1 o2 o3 o4).alloc (by simp; omega) _).setCell h _

set_option maxHeartbeats 400000 in
theorem tell_errno (n : Int) (w : World) (hg : Gl w) : Calls Tryz.prog 104 #[.iface 23 (.int .i64 n)] w fun e w' => e = .returned (.int .i64 n) ∧ Below w.heap.size w w' := by
  have hg1 : Gl (w.alloc (.cells #[.int .i64 0] 23)) := hg.below ((Below.refl _ _).alloc (Nat.le_refl _) _)
  have HG : Hid (Gl (w.alloc (.cells #[.int .i64 0] 23))) := hg1
  clear hg hg1
  go_enter Tryz.func104, Tryz.ntmps104
  go_wp2_with fail
  refine (as_hit n ⟨w.heap.size, 0, none⟩ (.int .i64 0) _ (by exact HG.out) (by simp) (by simp)).mono ?_
  rintro e w' ⟨rfl, hw⟩
  have hb : Below w.heap.size w w' := by rw [hw]; exact below_as w _ (Nat.le_refl _) _ _ _ _ _ _
  have hc : w'.cell? ⟨w.heap.size, 0, none⟩ = some (.int .i64 n) := by
    rw [hw]
    refine World.cell?_setCell_same _ _ _ (u := .int .i64 0) ?_
    have h1 : (w.alloc (.cells #[.int .i64 0] 23)).cell? ⟨w.heap.size, 0, none⟩ = some (.int .i64 0) := by simp
    refine (Below.cell (p := ⟨w.heap.size, 0, none⟩) (below_four (w.alloc (.cells #[.int .i64 0] 23)) _ _ _ _) (by simp)).trans h1
  have HB : Hid (Below w.heap.size w w') := hb
  clear hw hb HG
  go_wp2
  go_ret
  exact ⟨rfl, HB.out⟩

theorem noAt (v : Value) (w : World) : (Instr.typeAssert (.iface 23 v) 28 148 true).run Tryz.prog w = .ok (.tuple #[.pointer none, .bool false]) w := by kernel_rfl

theorem noUnwrap (v : Value) (w : World) : (Instr.typeAssert (.iface 23 v) 28 150 true).run Tryz.prog w = .ok (.tuple #[.nilIface, .bool false]) w := run_typeAssert_lacksB Tryz.underlying150 (by kernel_rfl) (by kernel_rfl) v 28 w

set_option maxRecDepth 100000 in
set_option maxHeartbeats 400000 in
theorem bare_errno (n : Int) (w : World) (hg : Gl w) : Calls Tryz.prog 47 #[.iface 23 (.int .i64 n)] w fun e w' => e = .returned (.tuple #[.int .i64 n, .bool true]) ∧ Below w.heap.size w w' := by
  go_enter Tryz.func47, Tryz.ntmps47
  go_wp2_with fail
  refine (tell_errno n _ hg).mono ?_
  rintro e w' ⟨rfl, hb⟩
  have na := noAt
  have nu := noUnwrap
  have HB : Hid (Below w.heap.size w w') := hb
  clear hb hg
  go_wp2_with fail
  refine wp_loop_rounds 1 ?_
  rw [rounds_succ]
  go_wp2
  go_ret2
  exact ⟨rfl, HB.out⟩

set_option maxHeartbeats 400000 in
theorem bare_no (n : Int) (w : World) (hg : Gl w) : Calls Tryz.prog 12 #[.iface 23 (.int .i64 n), .int .i64 n] w fun e w' => e = .returned (.bool true) ∧ Below w.heap.size w w' := by
  go_enter Tryz.func12, Tryz.ntmps12
  go_wp2_with fail
  refine (bare_errno n _ hg).mono ?_
  rintro e w' ⟨rfl, hb⟩
  have HB : Hid (Below w.heap.size w w') := hb
  clear hb hg
  go_wp2
  go_ret
  exact ⟨by simp, HB.out⟩

set_option maxRecDepth 100000 in
set_option maxHeartbeats 400000 in
theorem bare_ok (w : World) : Calls Tryz.prog 12 #[.nilIface, .int .i64 0] w fun e w' => e = .returned (.bool true) ∧ Below w.heap.size w w' := by
  go_enter Tryz.func12, Tryz.ntmps12
  go_wp2_with fail
  have h30 : Calls Tryz.prog 47 #[.nilIface] w fun e w' => e = .returned (.tuple #[.int .i64 0, .bool true]) ∧ w' = w := by
    go_enter Tryz.func47, Tryz.ntmps47
    go_wp2
    refine wp_loop_rounds 1 ?_
    rw [rounds_succ]
    go_wp2
    go_ret2
    exact ⟨rfl, rfl⟩
  refine h30.mono ?_
  rintro e w' ⟨rfl, rfl⟩
  go_wp2
  go_ret
  exact ⟨rfl, Below.refl _ _⟩

/-- An error as the program tells it. -/
def errV (c : Int) : Value := if c = 0 then .nilIface else .iface 23 (.int .i64 c)

theorem bare_any (v : Value) (c : Int) (w : World) (hg : Gl w) (hv : v = errV c) : Calls Tryz.prog 12 #[v, .int .i64 c] w fun e w' => e = .returned (.bool true) ∧ Below w.heap.size w w' := by
  subst hv
  by_cases h : c = 0
  · subst h; exact bare_ok w
  · have : errV c = .iface 23 (.int .i64 c) := by simp [errV, h]
    rw [this]; exact bare_no c w hg

end Go.Proofs.YtebcjaenhiiflaaGreatDoor.G
