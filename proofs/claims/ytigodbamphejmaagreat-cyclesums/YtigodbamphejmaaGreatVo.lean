/- Package cycle: Rest, Covered, Alike. -/
import Derived.Test.YtigodbamphejmaaGreatVn
import Derived.Test.YtigodbamphejmaaGreatVl
namespace Go.Proofs.YtigodbamphejmaaGreat.S
open Go.RowKit Go.WideMaps Go.Maps

theorem zero66 (w : World) : (zeroValue 66).run Tryz.prog w = .ok (ringV 0) w := by kernel_rfl

theorem ring_back {v : Value} {x : Nat} {ps : List MemPlace} (h : ringR v = some (ringD x, ps)) : v = ringV x := by
  obtain ⟨c, rfl, hy⟩ := ringR_inv h
  have h1 := congrArg Prod.fst hy
  simp [ringD] at h1
  obtain ⟨h2, h3⟩ := h1
  rw [← h2, ← h3]
  rfl

/-- The Cover value, made: what is read of it. -/
structure Co (w : World) (c mb rest : Nat) (S : List Edg) (f : Edg → Nat) : Prop where
  st : ∃ v, w.heap[c]? = some (.cells #[.int .i64 (rest : Int), .map (some mb), v] 63)
  mp : ∃ D N, w.ownsMap Tryz.prog 3 ringR mb N D ∧ Rm D S f

theorem Cv.co {w0 w : World} {c mb rest : Nat} {S : List Edg} {f : Edg → Nat} (h : Cv w0 w c mb rest S f) : Co w c mb rest S f := by
  obtain ⟨D, N, h1, h2, _⟩ := h.mp
  exact ⟨h.st, D, N, h1, h2⟩

section
variable {w w' : World} {c mb rest : Nat} {S : List Edg} {f : Edg → Nat}
theorem Co.below (h : Co w c mb rest S f) (hb : Below w.heap.size w w') : Co w' c mb rest S f := by
  obtain ⟨v, hv⟩ := h.st
  obtain ⟨D, N, h1, h2⟩ := h.mp
  exact ⟨⟨v, (hb.block c (lt_of_some hv)).trans hv⟩, D, N, h1.kept (grown_below hb) (by simp), h2⟩

theorem Co.cell0 (h : Co w c mb rest S f) : w.cell? ⟨c, 0, none⟩ = some (.int .i64 (rest : Int)) := by
  obtain ⟨v, hv⟩ := h.st
  simp [World.cell?, hv]
theorem Co.cell1 (h : Co w c mb rest S f) : w.cell? ⟨c, 1, none⟩ = some (.map (some mb)) := by
  obtain ⟨v, hv⟩ := h.st
  simp [World.cell?, hv]

theorem Co.look_in (h : Co w c mb rest S f) {e : Edg} (he : e ∈ S) (hw : (Lit.int .i64 e.1).wf = true) :
    (Instr.lookup 60 (.map (some mb)) (.int .i64 e.1) true).run Tryz.prog w = .ok (.tuple #[ringV (f e), .bool true]) w ∧ (Instr.lookup 60 (.map (some mb)) (.int .i64 e.1) false).run Tryz.prog w = .ok (ringV (f e)) w := by
  obtain ⟨D, N, h1, h2⟩ := h.mp
  have hh : Maps.has D (.int .i64 e.1) = true := (h2.key _).2 ⟨e, he, rfl⟩
  obtain ⟨v, ps, r1, r2⟩ := h1.look_ok law3 Tryz.underlying60 (zero66 w) (ringR_mk 0) (key3 e.1 hw)
  obtain ⟨v', ps', q1, q2⟩ := h1.lookup law3 Tryz.underlying60 (zero66 w) (ringR_mk 0) (key3 e.1 hw)
  rw [h2.val e he] at r2 q2
  rw [r1, q1, hh, ring_back r2, ring_back q2]
  exact ⟨rfl, rfl⟩

theorem Co.look_out (h : Co w c mb rest S f) {x : Int} (hx : ∀ e ∈ S, e.1 ≠ x) (hw : (Lit.int .i64 x).wf = true) :
    (Instr.lookup 60 (.map (some mb)) (.int .i64 x) true).run Tryz.prog w = .ok (.tuple #[ringV 0, .bool false]) w := by
  obtain ⟨D, N, h1, h2⟩ := h.mp
  have hh : Maps.has D (.int .i64 x) = false := by
    rw [Bool.eq_false_iff]
    intro k
    obtain ⟨e, he, h3⟩ := (h2.key _).1 k
    injection h3 with _ h3
    exact hx e he h3.symm
  obtain ⟨v, ps, r1, r2⟩ := h1.look_ok law3 Tryz.underlying60 (zero66 w) (ringR_mk 0) (key3 x hw)
  rw [atKey_of_not_has hh] at r2
  rw [r1, hh, ring_back r2]
end

theorem crest_any (c mb rest : Nat) (S : List Edg) (f : Edg → Nat) (w : World) (h : Co w c mb rest S f) :
    Calls Tryz.prog 8 #[.pointer (some ⟨c, 0, none⟩)] w fun e w' => e = .returned (.int .i64 (rest : Int)) ∧ w' = w := by
  have h0 := h.cell0
  clear h
  go_enter Tryz.func8, Tryz.ntmps8
  go_wp2_with fail
  go_ret
  exact ⟨rfl, rfl⟩

set_option maxHeartbeats 1000000 in
set_option maxRecDepth 100000 in
theorem covered_in (c mb rest : Nat) (S : List Edg) (f : Edg → Nat) (e : Edg) (w : World) (h : Co w c mb rest S f) (he : e ∈ S) (hw : (Lit.int .i64 e.1).wf = true) (hf : f e < 18446744073709551616) :
    Calls Tryz.prog 17 #[.pointer (some ⟨c, 0, none⟩), .int .i64 e.1] w fun en w' => en = .returned (.tuple #[.int .i64 ((pc 64 (f e) : Nat) : Int), .nilIface]) ∧ Below w.heap.size w w' := by
  have h1 := h.cell1
  have lk := (h.look_in he hw).1
  obtain ⟨x, hx⟩ : ∃ x, f e = x := ⟨_, rfl⟩
  rw [hx] at lk hf ⊢
  unfold ringV at lk
  obtain ⟨X, hX⟩ : ∃ X, e.1 = X := ⟨_, rfl⟩
  rw [hX] at lk ⊢
  have HC : Hid _ := count_any x (w.alloc (.cells #[.int .u64 (x : Int), .int .u64 0] 66)) hf
  have HB : Hid (Below w.heap.size w (w.alloc (.cells #[.int .u64 (x : Int), .int .u64 0] 66))) := (Below.refl _ _).alloc (Nat.le_refl _) _
  clear h he hw hf hx hX
  go_enter Tryz.func17, Tryz.ntmps17
  go_wp2_with fail
  refine Calls.mono HC.out ?_
  rintro e w2 ⟨rfl, hb2⟩
  have HB2 : Hid (Below w.heap.size w w2) := HB.out.trans (hb2.mono HB.out.size)
  clear hb2
  go_wp2_with fail
  go_ret2
  exact ⟨rfl, HB2.out⟩

set_option maxHeartbeats 1000000 in
set_option maxRecDepth 100000 in
theorem covered_out (c mb rest : Nat) (S : List Edg) (f : Edg → Nat) (x : Int) (w : World) (h : Co w c mb rest S f) (hx : ∀ e ∈ S, e.1 ≠ x) (hw : (Lit.int .i64 x).wf = true) :
    Calls Tryz.prog 17 #[.pointer (some ⟨c, 0, none⟩), .int .i64 x] w fun en w' => en = .returned (.tuple #[.int .i64 0, .iface 87 (.int .i64 7)]) ∧ Below w.heap.size w w' := by
  have h1 := h.cell1
  have lk0 := h.look_out hx hw
  have lk : (Instr.lookup 60 (.map (some mb)) (.int .i64 x) true).run Tryz.prog w = .ok (.tuple #[.agg #[.int .u64 0, .int .u64 0], .bool false]) w := lk0
  have HB : Hid (Below w.heap.size w (w.alloc (.cells #[.int .u64 0, .int .u64 0] 66))) := (Below.refl _ _).alloc (Nat.le_refl _) _
  clear h hx hw lk0
  go_enter Tryz.func17, Tryz.ntmps17
  go_wp2_with fail
  go_ret2
  exact ⟨rfl, HB.out⟩

set_option maxRecDepth 100000 in
theorem eq101 (a b c d : Int) (w : World) : (Op.equalIn 10000 66 (.agg #[.int .u64 a, .int .u64 b]) (.agg #[.int .u64 c, .int .u64 d])).run Tryz.prog w = .ok (a == c && b == d) w := by
  have u3 := Tryz.underlying64
  have a3 := Tryz.isAgg64
  have z3 := Tryz.sizeOf64
  rw [show (10000 : Nat) = 9999 + 1 from rfl, Op.equalIn]
  simp only [Sem.run_bind, run_underlying Tryz.underlying66, Result.andThen_ok]
  simp only [Std.Legacy.Range.forIn_eq_forIn_range', Std.Legacy.Range.size, Nat.sub_zero, Nat.add_sub_cancel, Nat.div_one, List.range'_succ, List.range'_zero, List.forIn_cons, List.forIn_nil]
  go_simp
  by_cases h1 : a = c <;> by_cases h2 : b = d <;> simp [h1, h2]

set_option maxHeartbeats 1000000 in
set_option maxRecDepth 100000 in
theorem calike_in (c mb rest : Nat) (S : List Edg) (f : Edg → Nat) (d e : Edg) (w : World) (h : Co w c mb rest S f) (hd : d ∈ S) (he : e ∈ S) (hwd : (Lit.int .i64 d.1).wf = true) (hwe : (Lit.int .i64 e.1).wf = true) :
    Calls Tryz.prog 16 #[.pointer (some ⟨c, 0, none⟩), .int .i64 d.1, .int .i64 e.1] w fun en w' => en = .returned (.tuple #[.bool (decide (f d = f e)), .nilIface]) ∧ Below w.heap.size w w' := by
  have lk1 := (h.look_in hd hwd).1
  have hbd : Below w.heap.size w (w.alloc (.cells #[.int .u64 ((f d : Nat) : Int), .int .u64 0] 66)) := (Below.refl _ _).alloc (Nat.le_refl _) _
  have lk2 := ((h.below hbd).look_in he hwe).1
  have h1 := h.cell1
  have h2 := (h.below hbd).cell1
  unfold ringV at lk1 lk2
  obtain ⟨x, hx⟩ : ∃ x, f d = x := ⟨_, rfl⟩
  obtain ⟨y, hy⟩ : ∃ y, f e = y := ⟨_, rfl⟩
  rw [hx] at lk1 lk2 h2 hbd ⊢
  rw [hy] at lk2 ⊢
  obtain ⟨X, hX⟩ : ∃ X, d.1 = X := ⟨_, rfl⟩
  obtain ⟨Y, hY⟩ : ∃ Y, e.1 = Y := ⟨_, rfl⟩
  rw [hX] at lk1 ⊢
  rw [hY] at lk2 ⊢
  have HB : Hid (Below w.heap.size w ((w.alloc (.cells #[.int .u64 (x : Int), .int .u64 0] 66)).alloc (.cells #[.int .u64 (y : Int), .int .u64 0] 66))) := hbd.alloc hbd.size _
  clear h hd he hwd hwe hbd hx hy hX hY
  have heq := eq101
  by_cases hxy : x = y
  · subst hxy
    go_enter Tryz.func16, Tryz.ntmps16
    go_wp2_with fail
    go_ret2
    exact ⟨by simp, HB.out⟩
  · have hb : ((x : Int) == (y : Int)) = false := beq_eq_false_iff_ne.2 (by omega)
    have hb' : ¬ ((x : Int) = (y : Int)) := by omega
    go_enter Tryz.func16, Tryz.ntmps16
    go_wp2_with fail
    go_ret2
    exact ⟨by simp [hxy], HB.out⟩

set_option maxHeartbeats 1000000 in
set_option maxRecDepth 100000 in
theorem calike_out (c mb rest : Nat) (S : List Edg) (f : Edg → Nat) (x y : Int) (w : World) (h : Co w c mb rest S f) (hy : ∀ e ∈ S, e.1 ≠ y) (hwx : (Lit.int .i64 x).wf = true) (hwy : (Lit.int .i64 y).wf = true) :
    Calls Tryz.prog 16 #[.pointer (some ⟨c, 0, none⟩), .int .i64 x, .int .i64 y] w fun en w' => en = .returned (.tuple #[.bool false, .iface 87 (.int .i64 7)]) ∧ Below w.heap.size w w' := by
  obtain ⟨z, b, lk1⟩ : ∃ (z : Nat) (b : Bool), (Instr.lookup 60 (.map (some mb)) (.int .i64 x) true).run Tryz.prog w = .ok (.tuple #[.agg #[.int .u64 (z : Int), .int .u64 0], .bool b]) w := by
    by_cases hx : ∃ e ∈ S, e.1 = x
    · obtain ⟨e, he, rfl⟩ := hx
      exact ⟨f e, true, (h.look_in he hwx).1⟩
    · exact ⟨0, false, h.look_out (fun e he k => hx ⟨e, he, k⟩) hwx⟩
  have hbd : Below w.heap.size w (w.alloc (.cells #[.int .u64 (z : Int), .int .u64 0] 66)) := (Below.refl _ _).alloc (Nat.le_refl _) _
  have lk2 : (Instr.lookup 60 (.map (some mb)) (.int .i64 y) true).run Tryz.prog (w.alloc (.cells #[.int .u64 (z : Int), .int .u64 0] 66)) = .ok (.tuple #[.agg #[.int .u64 0, .int .u64 0], .bool false]) (w.alloc (.cells #[.int .u64 (z : Int), .int .u64 0] 66)) := (h.below hbd).look_out hy hwy
  have h1 := h.cell1
  have h2 := (h.below hbd).cell1
  have HB : Hid (Below w.heap.size w ((w.alloc (.cells #[.int .u64 (z : Int), .int .u64 0] 66)).alloc (.cells #[.int .u64 0, .int .u64 0] 66))) := hbd.alloc hbd.size _
  clear h hy hwx hwy hbd
  cases b with
  | true =>
    go_enter Tryz.func16, Tryz.ntmps16
    go_wp2_with fail
    go_ret2
    exact ⟨rfl, HB.out⟩
  | false =>
    go_enter Tryz.func16, Tryz.ntmps16
    go_wp2_with fail
    go_ret2
    exact ⟨rfl, HB.out⟩

end Go.Proofs.YtigodbamphejmaaGreat.S
