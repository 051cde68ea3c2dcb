/- Package flow: a queue, that is a row of numbers that need not begin at its block's head. -/
import Derived.Test.YtpkdpddillebfaaDoorFi
import Derived.ArgAppend
namespace Go.Proofs.YtpkdpddillebfaaDoor.S
open Go Go.ChangeMaps Go.MapKept Go.WideShapes
open Go.RowKit Go.WideMaps Go.Maps F

structure Que (w : World) (B g o cap : Nat) (xs : List Int) : Prop where
  le : xs.length ≤ cap
  gB : B ≤ g
  lt : g < w.heap.size
  got : ∀ (j : Nat) (x : Int), xs[j]? = some x → w.cell? ⟨g, o + j, none⟩ = some (.int .i64 x)
  spare : ∀ j, j < cap → (w.cell? ⟨g, o + j, none⟩).isSome = true ∧ w.frozen? ⟨g, o + j, none⟩ = false

section
variable {w w' : World} {B g o cap : Nat} {xs : List Int}

theorem Que.tail {x : Int} (h : Que w B g o cap (x :: xs)) : Que w B g (o + 1) (cap - 1) xs := by
  have hl := h.le
  simp at hl
  refine ⟨by omega, h.gB, h.lt, fun j y hy => ?_, fun j hj => ?_⟩
  · have := h.got (j + 1) y (by simpa using hy)
    rwa [show o + 1 + j = o + (j + 1) by omega]
  · have := h.spare (j + 1) (by omega)
    rwa [show o + 1 + j = o + (j + 1) by omega]

theorem Que.kept {r : Option Nat} (h : Que w B g o cap xs) (hg : w.grownBy w' r) (hne : some g ≠ r) : Que w' B g o cap xs := by
  have hb : w'.heap[g]? = w.heap[g]? := hg.block g h.lt hne
  refine ⟨h.le, h.gB, Nat.lt_of_lt_of_le h.lt hg.size, fun j x hx => ?_, fun j hj => ?_⟩
  · have := h.got j x hx
    simp only [World.cell?] at this ⊢
    rw [hb]; exact this
  · have := h.spare j hj
    simp only [World.cell?, World.frozen?] at this ⊢
    rw [hb]; exact this

theorem info3q : ∃ i, Tryd.prog.info? 3 = some i ∧ i.size = 1 ∧ i.bytes = 8 ∧ i.zero = some (.int .i64 0) :=
  ⟨(Tryd.prog.info? 3).get (by kernel_rfl), by kernel_rfl, by kernel_rfl, by kernel_rfl, by kernel_rfl⟩

/-- One more at the end. -/
theorem Que.push (h : Que w B g o cap xs) (ty : TypeId) {x : Int} {l : Nat} (hl : w.heap[l]? = some (.cells #[.int .i64 x] 3)) (hB : B ≤ w.heap.size) (hn : xs.length ≤ 100000) :
    ∃ v' w' g' o' cap', (Builtin.append_ #[30, 30] ty #[.slice (some ⟨g, o, none⟩) xs.length cap, .slice (some ⟨l, 0, none⟩) 1 1]).run Tryd.prog w = .ok v' w' ∧ v' = .slice (some ⟨g', o', none⟩) (xs.length + 1) cap' ∧ Que w' B g' o' cap' (xs ++ [x]) ∧ w.grownBy w' (some g) := by
  obtain ⟨i, hi, hs, hb, hz⟩ := info3q
  have hnews : ∀ j u, [Value.int .i64 x][j]? = some u → w.cell? ((⟨l, 0, none⟩ : Addr).add j) = some u := by
    intro j u hj
    match j, hj with
    | 0, hj =>
      simp at hj
      subst hj
      simp [World.cell?, Addr.add, hl]
    | j + 1, hj => simp at hj
  by_cases hr : xs.length + 1 ≤ cap
  · have hrun := run_append_room_cells (P := Tryd.prog) w 30 ty 3 i Tryd.underlying30 hi g o xs.length cap ⟨l, 0, none⟩ 1 1 [.int .i64 x] (by rw [hs]; rfl) hnews (fun u hu => by simp at hu; subst hu; rfl) hr (fun j hj => by
        have hj0 : j = 0 := by simp at hj; omega
        subst hj0
        rw [hs]
        simpa using (h.spare xs.length (by omega)).1) (fun j hj => by
        have hj0 : j = 0 := by simp at hj; omega
        subst hj0
        rw [hs]
        simpa using (h.spare xs.length (by omega)).2)
    rw [hs, Nat.mul_one] at hrun
    refine ⟨_, _, g, o, cap, hrun, rfl, ⟨by simp; omega, h.gB, ?_, fun j y hy => ?_, fun j hj => ?_⟩, ?_⟩
    · show g < (w.setCell ⟨g, o + xs.length, none⟩ (.int .i64 x)).heap.size
      rw [World.size_setCell]; exact h.lt
    · rcases Nat.lt_or_ge j xs.length with hj | hj
      · rw [List.getElem?_append_left hj] at hy
        rw [World.cell?_setCells_out g [.int .i64 x] (o + xs.length) w ⟨g, o + j, none⟩ (fun _ _ => .inl (by simp only; omega))]
        exact h.got j y hy
      · have hje : j = xs.length := by
          have := (List.getElem?_eq_some_iff.1 hy).1
          simp at this
          omega
        subst hje
        simp at hy
        subst hy
        have := World.cell?_setCells_in g [.int .i64 x] (o + xs.length) w (fun j hj => by
          have hj0 : j = 0 := by simp at hj; omega
          subst hj0
          exact (h.spare xs.length (by omega)).1) 0 (by simp)
        simpa using this
    · have := h.spare j hj
      exact ⟨World.isSome_setCells g [.int .i64 x] (o + xs.length) w _ this.1, by rw [World.frozen?_setCells]; exact this.2⟩
    · exact ⟨rfl, rfl, rfl, by show _ ≤ (w.setCell ⟨g, o + xs.length, none⟩ (.int .i64 x)).heap.size; rw [World.size_setCell]; exact Nat.le_refl _, fun k hk hne => Below.heap_setCell _ _ _ _ (fun e => hne (by rw [e]))⟩
  · obtain ⟨v', w', hrun, ho, hg⟩ := run_append_arg_grows (P := Tryd.prog) w 30 ty 3 i (.int .i64 0) 1 8 Tryd.underlying30 hi hz hs hb rfl (by omega) ⟨g, o, none⟩ xs.length cap (xs.map (Value.int .i64)) (by simp) (fun j u hj => by
        rw [Addr.add_lit]
        rw [List.getElem?_map] at hj
        obtain ⟨y, hy, rfl⟩ := Option.map_eq_some_iff.1 hj
        exact h.got j y hy) ⟨l, 0, none⟩ 1 1 [.int .i64 x] (by rfl) hnews (by omega) (by unfold maxLen; omega) (by omega)
    rcases ho.2 with ⟨_, h0⟩ | ⟨g', cap', cur, hv, h1, h2, h3, h4, h5, h6⟩
    · omega
    · refine ⟨v', w', g', 0, cap', hrun, hv, ⟨by simp; omega, Nat.le_trans hB h1, lt_of_some h2, fun j y hy => ?_, fun j hj => ?_⟩, ⟨hg.os, hg.tape, hg.output, hg.size, fun k hk _ => hg.block k hk (by simp)⟩⟩
      · have hj : j < xs.length + 1 := by
          have := (List.getElem?_eq_some_iff.1 hy).1
          simpa using this
        have e : (cur.toList.take ((xs.length + 1) * 1))[j]? = some (.int .i64 y) := by
          rw [h6]
          have := congrArg (Option.map (Value.int .i64)) hy
          rw [← List.getElem?_map] at this
          simpa using this
        rw [List.getElem?_take_of_lt (by omega)] at e
        simp only [World.cell?, Nat.zero_add, h2]
        simpa using e
      · have hjc : j < cur.size := by omega
        simp [World.cell?, World.frozen?, h2, hjc]

end

end Go.Proofs.YtpkdpddillebfaaDoor.S
