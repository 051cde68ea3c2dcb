/- Package flow: by which step each place was come to. -/
import Derived.Test.YtpkdpddillebfaaDoorFj
namespace Go.Proofs.YtpkdpddillebfaaDoor.S
open Go Go.ChangeMaps Go.MapKept Go.WideShapes
open Go.RowKit Go.WideMaps Go.Maps F

theorem zero136 (w : World) : (zeroValue 136).run Tryd.prog w = .ok (vS (0, 0, 0)) w := by kernel_rfl

/-- The map of the places that were come to. -/
structure Cm (w : World) (cb N : Nat) (C : DataW Value) (c : Int → Option Stp) : Prop where
  mp : w.ownsMap Tryd.prog 3 hold cb N C
  tidy : Tidy C
  has : ∀ x, Maps.has C (.int .i64 x) = (c x).isSome
  at_ : ∀ x s, c x = some s → ∀ zd, C.atKey (.int .i64 x) zd = .held (vS s)

section
variable {w w' : World} {cb N : Nat} {C : DataW Value} {c : Int → Option Stp}

theorem Cm.kept {r : Option Nat} (h : Cm w cb N C c) (hg : w.grownBy w' r) (hne : some cb ≠ r) : Cm w' cb N C c := { h with mp := h.mp.kept hg hne }

theorem Cm.below (h : Cm w cb N C c) (hb : Below w.heap.size w w') : Cm w' cb N C c := { h with mp := h.mp.kept (grown_below hb) (by simp) }

theorem Cm.val (h : Cm w cb N C c) (x : Int) : C.atKey (.int .i64 x) (.held (vS (0, 0, 0))) = .held (vS ((c x).getD (0, 0, 0))) := by
  cases hc : c x with
  | none =>
    have : Maps.has C (.int .i64 x) = false := by rw [h.has, hc]; rfl
    rw [atKey_of_not_has this]; rfl
  | some s => exact h.at_ x s hc _

/-- 'v, ok := came[x]' and 'came[x]'. -/
theorem Cm.look (h : Cm w cb N C c) {x : Int} (hx : (Lit.int .i64 x).wf = true) :
    (Instr.lookup 163 (.map (some cb)) (.int .i64 x) true).run Tryd.prog w = .ok (.tuple #[vS ((c x).getD (0, 0, 0)), .bool (c x).isSome]) w ∧ (Instr.lookup 163 (.map (some cb)) (.int .i64 x) false).run Tryd.prog w = .ok (vS ((c x).getD (0, 0, 0))) w := by
  obtain ⟨v, ps, h1, h2⟩ := h.mp.look_ok law3 Tryd.underlying163 (zero136 w) (zd := .held (vS (0, 0, 0))) (zp := []) rfl (key3 x hx)
  obtain ⟨v', ps', h3, h4⟩ := h.mp.lookup law3 Tryd.underlying163 (zero136 w) (zd := .held (vS (0, 0, 0))) (zp := []) rfl (key3 x hx)
  rw [h.val x] at h2 h4
  simp [hold] at h2 h4
  rw [h1, h3, h2.1, h4.1, h.has]
  exact ⟨rfl, rfl⟩

/-- One place more. -/
theorem Cm.put (h : Cm w cb N C c) {x : Int} (hx : (Lit.int .i64 x).wf = true) (s : Stp) (hN : N ≤ 1000000) :
    ∃ w', (Instr.mapUpdate 163 (.map (some cb)) (.int .i64 x) (vS s)).run Tryd.prog w = .ok () w' ∧ (∃ C', Cm w' cb (N + 1) C' (fun y => if y = x then some s else c y)) ∧ w.grownBy w' (some cb) := by
  obtain ⟨w2, r2, m2, g2⟩ := h.mp.update law3 Tryd.underlying163 (by unfold maxLen; omega) (key3 x hx) (val := vS s) (d := .held (vS s)) (ps := []) rfl
  refine ⟨w2, r2, ⟨_, m2, h.tidy.put (ik x) _, fun y => ?_, fun y t ht zd => ?_⟩, g2⟩
  · by_cases e : y = x
    · rw [if_pos e, e]
      exact has_put_same h.tidy.isMap (ik x) _
    · rw [has_put_other (fun k => e (by injection k)), h.has, if_neg e]
  · by_cases e : y = x
    · rw [if_pos e] at ht
      have ht' : s = t := Option.some.inj ht
      rw [e, atKey_put_same h.tidy.isMap (ik x), ht']
    · rw [if_neg e] at ht
      rw [atKey_put_other (fun k => e (by injection k))]
      exact h.at_ y t ht zd

/-- None yet. -/
theorem cm_new (w : World) : Cm (w.alloc (.map #[] 0)) w.heap.size 0 (.map []) (fun _ => none) :=
  ⟨World.ownsMap_made w _ _ _, tidy_empty, fun _ => rfl, fun _ _ h => by cases h⟩

end

end Go.Proofs.YtpkdpddillebfaaDoor.S
