/- Package flow: what leaves each place; a net without places. -/
import Derived.Test.YtpkdpddillebfaaDoorFb
import Derived.Maps.AppendAt
namespace Go.Proofs.YtpkdpddillebfaaDoor.S
open Go Go.ChangeMaps Go.MapKept Go.WideShapes
open Go.RowKit Go.WideMaps Go.Maps F

theorem info136 : ∃ i, Tryd.prog.info? 136 = some i ∧ i.size = 3 ∧ i.bytes = 24 ∧ i.zero = some G.zE :=
  ⟨(Tryd.prog.info? 136).get (by kernel_rfl), by kernel_rfl, by kernel_rfl, by kernel_rfl, by kernel_rfl⟩

/-- append to a row of steps. -/
theorem append_S (ty : TypeId) (w : World) (B : Nat) (v : Value) (L M : List Stp) (h : G.Owns w B 136 v L) (hB : B ≤ w.heap.size) (a : Addr) (m c : Nat) (hm : m = M.length) (hM : ∀ j u, (G.rowV M)[j]? = some u → w.cell? (a.add j) = some u) (hl : L.length + M.length ≤ 100000) :
    ∃ v' w', (Builtin.append_ #[137, 137] ty #[v, .slice (some a) m c]).run Tryd.prog w = .ok v' w' ∧ G.Owns w' B 136 v' (L ++ M) ∧ w.grownBy w' v.ownBlock ∧ (v'.ownBlock = v.ownBlock ∨ v'.ownBlock = some w.heap.size) := by
  subst hm
  obtain ⟨i, hi, hs, hb, hz⟩ := info136
  obtain ⟨v', w', h1, h2, h3, _, h5⟩ := run_append_own_at (P := Tryd.prog) w B 137 ty 136 i G.zE 3 24 Tryd.underlying137 hi hz hs hb (by rw [G.zE_cells]; rfl) (by omega) v L.length (G.rowV L) h a M.length c (G.rowV M) (G.rowV_length M) hM (G.rowV_one M) (by simp only [maxLen]; omega) (by omega) hB
  refine ⟨v', w', h1, ?_, h3, h5⟩
  show w'.ownsRow B 136 3 v' (L ++ M).length (G.rowV (L ++ M))
  rw [List.length_append, G.rowV_append]
  exact h2

/-- An element as it is. -/
def hold : Value → Option (DataW Value × List MemPlace) := fun v => some (.held v, [])

theorem zero137 (w : World) : (zeroValue 137).run Tryd.prog w = .ok (.slice none 0 0) w := by kernel_rfl

theorem ik (x : Int) : WideAt.IsKeyLit (.int .i64 x) := trivial

/-- What leaves each place: rows apart from each other. -/
structure Lv (w : World) (lm N B : Nat) (L : DataW Value) (f : Int → Value) (g : Int → List Stp) : Prop where
  mp : w.ownsMap Tryd.prog 3 hold lm N L
  tidy : Tidy L
  at_ : ∀ x, L.atKey (.int .i64 x) (.held (.slice none 0 0)) = .held (f x)
  row : ∀ x, G.Owns w B 136 (f x) (g x)
  apart : ∀ x y k, x ≠ y → (f x).ownBlock = some k → (f y).ownBlock ≠ some k
  lt : lm < B
  le : B ≤ w.heap.size

section
variable {w w' : World} {lm N B : Nat} {L : DataW Value} {f : Int → Value} {g : Int → List Stp}

theorem Lv.below (h : Lv w lm N B L f g) (hb : Below w.heap.size w w') : Lv w' lm N B L f g :=
  { h with mp := h.mp.kept (grown_below hb) (by simp), row := fun x => (h.row x).below hb, le := Nat.le_trans h.le hb.size }

theorem Lv.off (h : Lv w lm N B L f g) {x : Int} {k : Nat} (hk : (f x).ownBlock = some k) : B ≤ k ∧ k < w.heap.size := World.ownsRow.lt (h.row x) k hk

/-- Another block was written. -/
theorem Lv.grown (h : Lv w lm N B L f g) {k : Nat} (hg : w.grownBy w' (some k)) (h1 : k ≠ lm) (h2 : k < B) : Lv w' lm N B L f g :=
  { h with mp := h.mp.kept hg (fun e => h1 (by injection e with e; exact e.symm)), le := Nat.le_trans h.le hg.size, row := fun x => World.ownsRow.kept (h.row x) hg (by
      cases hf : (f x).ownBlock with
      | none => exact .inl rfl
      | some j =>
        refine .inr (fun e => ?_)
        injection e with e
        have := (h.off hf).1
        omega) }

theorem Lv.look (h : Lv w lm N B L f g) {x : Int} (hx : (Lit.int .i64 x).wf = true) : (Instr.lookup 159 (.map (some lm)) (.int .i64 x) false).run Tryd.prog w = .ok (f x) w := by
  obtain ⟨v, ps, h1, h2⟩ := h.mp.lookup law3 Tryd.underlying159 (zero137 w) (zd := .held (.slice none 0 0)) (zp := []) rfl (key3 x hx)
  rw [h.at_ x] at h2
  simp [hold] at h2
  rw [h1, h2.1]

/-- One step more leaves a place. -/
theorem Lv.more (h : Lv w lm N B L f g) (ty : TypeId) {x : Int} (hx : (Lit.int .i64 x).wf = true) {s : Stp} {b : Nat} (hb : w.heap[b]? = some (.cells (G.encE s).toArray 136)) (hl : (g x).length ≤ 1000) (hN : N ≤ 1000000) :
    ∃ v' w1 w2 L', (Builtin.append_ #[137, 137] ty #[f x, .slice (some ⟨b, 0, none⟩) 1 1]).run Tryd.prog w = .ok v' w1 ∧ (Instr.mapUpdate 159 (.map (some lm)) (.int .i64 x) v').run Tryd.prog w1 = .ok () w2 ∧
      Lv w2 lm (N + 1) B L' (fun y => if y = x then v' else f y) (fun y => if y = x then g x ++ [s] else g y) ∧ w.grownBy w1 (f x).ownBlock ∧ w1.grownBy w2 (some lm) ∧ (v'.ownBlock = (f x).ownBlock ∨ v'.ownBlock = some w.heap.size) := by
  have hM : ∀ j u, (G.rowV [s])[j]? = some u → w.cell? ((⟨b, 0, none⟩ : Addr).add j) = some u := by
    intro j u hu
    rw [G.addr0_add]
    have e : G.rowV [s] = G.encE s := by simp [G.rowV]
    rw [e] at hu
    simp [World.cell?, hb, hu]
  obtain ⟨v', w1, r1, o1, g1, f1⟩ := append_S ty w B (f x) (g x) [s] (h.row x) h.le ⟨b, 0, none⟩ 1 1 rfl hM (by simp; omega)
  have hlm : (f x).ownBlock ≠ some lm := fun e => by have := (h.off e).1; have := h.lt; omega
  have m1 : w1.ownsMap Tryd.prog 3 hold lm N L := h.mp.kept g1 (fun e => hlm e.symm)
  obtain ⟨w2, r2, m2, g2⟩ := m1.update law3 Tryd.underlying159 (by unfold maxLen; omega) (key3 x hx) (val := v') (d := .held v') (ps := []) rfl
  refine ⟨v', w1, w2, _, r1, r2, ⟨m2, h.tidy.put (ik x) _, fun y => ?_, fun y => ?_, fun y z k hyz hk => ?_, h.lt, Nat.le_trans h.le (Nat.le_trans g1.size g2.size)⟩, g1, g2, f1⟩
  · by_cases e : y = x
    · rw [e, if_pos rfl, atKey_put_same h.tidy.isMap (ik x)]
    · rw [if_neg e, atKey_put_other (fun k => e (by injection k))]
      exact h.at_ y
  · have stay : ∀ {v : Value} {l : List Stp}, G.Owns w1 B 136 v l → G.Owns w2 B 136 v l := fun {v l} ho => World.ownsRow.kept ho g2 (by
      cases hv : v.ownBlock with
      | none => exact .inl rfl
      | some j =>
        refine .inr (fun e => ?_)
        injection e with e
        have := (World.ownsRow.lt ho j hv).1
        have := h.lt
        omega)
    by_cases e : y = x
    · simp only [if_pos e]; exact stay o1
    · simp only [if_neg e]
      refine stay (World.ownsRow.kept (h.row y) g1 ?_)
      cases hv : (f y).ownBlock with
      | none => exact .inl rfl
      | some j => exact .inr (fun k => h.apart y x j e hv k.symm)
  · have new : ∀ {u : Int} {k : Nat}, u ≠ x → v'.ownBlock = some k → (f u).ownBlock ≠ some k := fun {u k} hu hk hf => by
      rcases f1 with f1 | f1
      · rw [hk] at f1
        exact h.apart u x k hu hf f1.symm
      · rw [hk] at f1
        injection f1 with f1
        have := (h.off hf).2
        omega
    by_cases e1 : y = x
    · rw [if_pos e1] at hk
      rw [if_neg (fun e2 => hyz (e1.trans e2.symm))]
      exact new (fun e2 => hyz (e1.trans e2.symm)) hk
    · rw [if_neg e1] at hk
      by_cases e2 : z = x
      · rw [if_pos e2]; exact fun k2 => new e1 k2 hk
      · rw [if_neg e2]; exact h.apart y z k hyz hk

end

end Go.Proofs.YtpkdpddillebfaaDoor.S
