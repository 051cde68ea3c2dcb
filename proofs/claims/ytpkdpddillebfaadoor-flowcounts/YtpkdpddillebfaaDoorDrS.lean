/- Numbers that were used: a map; edges of a way, as a graph tells them. -/
import Derived.Test.YtpkdpddillebfaaDoorDp
import Derived.Test.YtpkdpddillebfaaDoorDq
import Derived.Test.YtpkdpddillebfaaDoorLe
import Derived.Test.YtpkdpddillebfaaDoorGYf
namespace Go.Proofs.YtpkdpddillebfaaDoor.S
open Go Go.ChangeMaps Go.MapKept Go.WideShapes
open Go.RowKit Go.WideMaps Go.Maps F

theorem zero4 (w : World) : (zeroValue 4).run Tryd.prog w = .ok (.bool false) w := by kernel_rfl

/-- The map of numbers that were used. -/
structure Us (w : World) (ub N : Nat) (C : DataW Value) (U : List Int) : Prop where
  mp : w.ownsMap Tryd.prog 3 hold ub N C
  tidy : Tidy C
  has : ∀ x, Maps.has C (.int .i64 x) = decide (x ∈ U)
  at_ : ∀ x, x ∈ U → ∀ zd, C.atKey (.int .i64 x) zd = .held (.bool true)

section
variable {w w' : World} {ub N : Nat} {C : DataW Value} {U : List Int}

theorem Us.below (h : Us w ub N C U) (hb : Below w.heap.size w w') : Us w' ub N C U := { h with mp := h.mp.kept (grown_below hb) (by simp) }

theorem Us.look (h : Us w ub N C U) {x : Int} (hx : (Lit.int .i64 x).wf = true) : (Instr.lookup 77 (.map (some ub)) (.int .i64 x) false).run Tryd.prog w = .ok (.bool (decide (x ∈ U))) w := by
  obtain ⟨v', ps', h3, h4⟩ := h.mp.lookup law3 Tryd.underlying77 (zero4 w) (zd := .held (.bool false)) (zp := []) rfl (key3 x hx)
  have hv : C.atKey (.int .i64 x) (.held (.bool false)) = .held (.bool (decide (x ∈ U))) := by
    by_cases c : x ∈ U
    · rw [h.at_ x c, decide_eq_true c]
    · have : Maps.has C (.int .i64 x) = false := by rw [h.has, decide_eq_false c]
      rw [atKey_of_not_has this, decide_eq_false c]
  rw [hv] at h4
  simp [hold] at h4
  rw [h3, h4.1]

theorem Us.put (h : Us w ub N C U) {x : Int} (hx : (Lit.int .i64 x).wf = true) (hN : N ≤ 1000000) :
    ∃ w', (Instr.mapUpdate 77 (.map (some ub)) (.int .i64 x) (.bool true)).run Tryd.prog w = .ok () w' ∧ (∃ C', Us w' ub (N + 1) C' (U ++ [x])) ∧ w.grownBy w' (some ub) := by
  obtain ⟨w2, r2, m2, g2⟩ := h.mp.update law3 Tryd.underlying77 (by unfold maxLen; omega) (key3 x hx) (val := .bool true) (d := .held (.bool true)) (ps := []) rfl
  refine ⟨w2, r2, ⟨_, m2, h.tidy.put (ik x) _, fun y => ?_, fun y ht zd => ?_⟩, g2⟩
  · by_cases e : y = x
    · rw [e, has_put_same h.tidy.isMap (ik x) _]
      simp
    · rw [has_put_other (fun k => e (by injection k)), h.has]
      simp [e]
  · by_cases e : y = x
    · rw [e, atKey_put_same h.tidy.isMap (ik x)]
    · rw [atKey_put_other (fun k => e (by injection k))]
      refine h.at_ y ?_ zd
      rcases List.mem_append.1 ht with k | k
      · exact k
      · exact absurd (List.mem_singleton.1 k) e

theorem us_new (w : World) : Us (w.alloc (.map #[] 0)) w.heap.size 0 (.map []) [] :=
  ⟨World.ownsMap_made w _ _ _, tidy_empty, fun _ => by simp; rfl, fun _ h => by simp at h⟩

end

/-- The edge of a step, as it lies in the graph. -/
theorem step_edge {n : Nat} {L : List Stp} (h : Ed n 70 L) {s : Stp} (hs : s ∈ lD (edS L)) : ∃ x y : Nat, x < y ∧ y < n ∧ (s.1, (x : Int), (y : Int)) ∈ L ∧ 0 ≤ s.1 ∧ s.1 < 70 ∧ ((fr s = x ∧ tt s = y) ∨ (fr s = y ∧ tt s = x)) := by
  obtain ⟨t, h1, h2⟩ := (lD_mem _ _).1 hs
  obtain ⟨d, hd, rfl⟩ := List.mem_map.1 h1
  obtain ⟨x, y, hxy, hyn, he⟩ := h.ends d hd
  have hid := h.ids d hd
  rcases h2 with rfl | rfl
  · refine ⟨x, y, hxy, hyn, ?_, hid.1, by have := hid.2; omega, .inl ⟨?_, ?_⟩⟩
    · rw [← he]; exact hd
    · show s.2.1 = _; rw [he]
    · show s.2.2 = _; rw [he]
  · refine ⟨x, y, hxy, hyn, ?_, hid.1, by have := hid.2; show d.1 < 70; omega, .inr ⟨?_, ?_⟩⟩
    · show (d.1, _, _) ∈ L
      rw [← he]; exact hd
    · show d.2.2 = _; rw [he]
    · show d.2.1 = _; rw [he]

end Go.Proofs.YtpkdpddillebfaaDoor.S
namespace Go.Proofs.YtpkdpddillebfaaDoor.S
open Go Go.ChangeMaps Go.MapKept Go.WideShapes
open Go.RowKit Go.WideMaps Go.Maps F

theorem edges_one {n : Nat} {R L : List Stp} (hp : R.Perm L) (he : Ed n 70 L) {a b m k k' : Int} (h : Val (fun S => ((R.filter (crs S)).length : Int)) a b m k) (h' : Val (cap (lD (edS L)) (lr (edS L))) a b m k') : k = k' := by
  have hc : cap (lD (edS L)) (lr (edS L)) = fun S => ((R.filter (crs S)).length : Int) := by
    funext S
    rw [cap_edS he S, (hp.filter (crs S)).length_eq]
  rw [hc] at h'
  exact val_unique h h'

theorem nodes_one {n : Nat} {R L : List Stp} (hp : R.Perm L) (he : Ed n 70 L) (hn : n ≤ 16) {a b : Nat} (ha : a < n) (hb : b < n) (hab : a ≠ b) {PR : List (Int × Int)} (hpr : PrOf a b R R.length PR) {m k k' : Int} (hv : Val (docC n a b PR) a ((n + b : Nat) : Int) m k') (h : Val (cap (lD (noS n L)) (lr (noS n L))) (2 * (a : Int) + 1) (2 * (b : Int)) m k) :
    k = min m (((R.filter (dirB a b)).length : Int) + k') := by
  have hj : Joins (L.filter fun e => !dirB a b e) PR := by
    rw [PrOf, List.take_length] at hpr
    refine ⟨fun d hd => ?_, fun e he => ?_⟩
    · obtain ⟨e, h1, h2, h3⟩ := (hpr d).1 hd
      exact ⟨e, List.mem_filter.2 ⟨hp.mem_iff.1 h1, by rw [h2]; rfl⟩, h3⟩
    · obtain ⟨h1, h2⟩ := List.mem_filter.1 he
      have h2 : dirB a b e = false := by simpa using h2
      exact ⟨(hpr _).2 ⟨e, hp.mem_iff.2 h1, h2, .inl rfl⟩, (hpr _).2 ⟨e, hp.mem_iff.2 h1, h2, .inr rfl⟩⟩
  rw [nodes_same he (by omega) hj ha hb hab h hv, (hp.filter (dirB a b)).length_eq]

theorem ids_len {n : Nat} {L : List Stp} (he : Ed n 70 L) {a b : Int} {PS : List (List Stp)} (h : WaF (lD (edS L)) a b PS) : (PS.flatten.map (·.1)).length ≤ 70 := by
  have := nodup_sub _ ((List.range 70).map fun i : Nat => (i : Int)) h.one (fun x hx => by
    obtain ⟨s, hs, rfl⟩ := List.mem_map.1 hx
    obtain ⟨P, hP, hsP⟩ := List.mem_flatten.1 hs
    obtain ⟨_, _, _, _, _, h0, h1, _⟩ := step_edge he ((h.walk P hP).2 s hsP)
    exact List.mem_map.2 ⟨s.1.toNat, List.mem_range.2 (by omega), by omega⟩)
  simpa using this

theorem err_is {c : Int} (h : c ≠ 0) : Value.iface 29 (.int .i64 c) = G.errV c := by simp [G.errV, h]

set_option maxHeartbeats 4000000 in
set_option maxRecDepth 100000 in
theorem fc_none (n0 : Int) (a : Option Addr) (m cap : Nat) (x y most : Int) (w : World) (h : n0 < 0 ∨ 16 < n0 ∨ 60 < m) :
    Calls Tryd.prog 5 #[.int .i64 n0, .slice a m cap, .int .i64 x, .int .i64 y, .int .i64 most] w fun e w' => e = .returned (.bool true) ∧ Below w.heap.size w w' := by
  have HM : Hid _ := lmade_out n0 a m cap w h
  clear h
  go_enter Tryd.func5, Tryd.ntmps5
  go_wp2_with fail
  refine Calls.mono HM.out ?_
  rintro e w1 ⟨rfl, hb⟩
  have HB : Hid (Below w.heap.size w w1) := hb
  clear hb HM
  go_wp2_with fail
  go_ret
  exact ⟨rfl, HB.out⟩

set_option maxHeartbeats 4000000 in
set_option maxRecDepth 100000 in
theorem fc_err (n : Nat) (a : Option Addr) (m cap : Nat) (x y most c : Int) (w : World) (hn : n ≤ 16) (hgl : G.Gl w) (hmade : Calls Tryd.prog 31 #[.int .i64 (n : Int), .slice a m cap] w (LMade w n m)) (hno : AskNo n x y most c) :
    Calls Tryd.prog 5 #[.int .i64 (n : Int), .slice a m cap, .int .i64 x, .int .i64 y, .int .i64 most] w fun e w' => e = .returned (.bool true) ∧ Below w.heap.size w w' := by
  have HM : Hid _ := hmade
  have HNO : Hid (AskNo n x y most c) := hno
  have HGL : Hid (G.Gl w) := hgl
  clear hmade hno hgl
  go_enter Tryd.func5, Tryd.ntmps5
  go_wp2_with fail
  refine Calls.mono HM.out ?_
  rintro e w1 ⟨p, q, v, u, R, L, rfl, hmk⟩
  have HK : Hid (Mk w w1 p q n m v u R L) := hmk
  clear hmk HM
  go_wp2_with fail
  refine (byE_err n _ q u R x y most c w1 HK.out.two.ra (by omega) HNO.out).mono ?_
  rintro e w2 ⟨rfl, hw2⟩
  subst hw2
  go_wp2_with fail
  refine (byN_err n _ q u R x y most c w2 HK.out.two.ra (by omega) HNO.out).mono ?_
  rintro e w3 ⟨rfl, hw3⟩
  subst hw3
  go_wp2_with fail
  refine (flowEdges_err n _ p x y most c v L w3 HK.out.two.ga HNO.out).mono ?_
  rintro e w4 ⟨rfl, hb4⟩
  have HB4 : Hid (Below w3.heap.size w3 w4 ∧ Below w.heap.size w w4) := ⟨hb4, HK.out.two.below.trans (hb4.mono HK.out.two.below.size)⟩
  clear hb4
  go_wp2_with fail
  refine (flowNodes_err n _ p x y most c v L w4 (HK.out.two.ga.below HB4.out.1) HNO.out).mono ?_
  rintro e w5 ⟨rfl, hb5⟩
  have HB5 : Hid (Below w3.heap.size w3 w5 ∧ Below w.heap.size w w5) := ⟨HB4.out.1.trans (hb5.mono HB4.out.1.size), HB4.out.2.trans (hb5.mono HB4.out.2.size)⟩
  clear hb5
  go_wp2_with fail
  refine (ways_err n _ p x y most c v L w5 (HK.out.two.ga.below HB5.out.1) HNO.out).mono ?_
  rintro e w6 ⟨rfl, hb6⟩
  have HB6 : Hid (Below w.heap.size w w6) := HB5.out.2.trans (hb6.mono HB5.out.2.size)
  clear hb6
  have glo : ∀ {W : World}, Below w.heap.size w W → G.Gl W := fun hb => (hb.cell (p := ⟨0, 0, none⟩) (lt_of_cell HGL.out)).trans HGL.out
  have GLO : Hid (∀ {W : World}, Below w.heap.size w W → G.Gl W) := glo
  clear glo
  go_wp2_with fail
  refine (G.bare_any _ c w6 (GLO.out HB6.out) (err_is HNO.out.ne)).mono ?_
  rintro e w7 ⟨rfl, hb7⟩
  have HB7 : Hid (Below w.heap.size w w7) := HB6.out.trans (hb7.mono HB6.out.size)
  clear hb7
  go_wp2_with fail
  refine (G.bare_any _ c w7 (GLO.out HB7.out) (err_is HNO.out.ne)).mono ?_
  rintro e w8 ⟨rfl, hb8⟩
  have HB8 : Hid (Below w.heap.size w w8) := HB7.out.trans (hb8.mono HB7.out.size)
  clear hb8
  go_wp2_with fail
  refine (G.bare_any _ c w8 (GLO.out HB8.out) (err_is HNO.out.ne)).mono ?_
  rintro e w9 ⟨rfl, hb9⟩
  have HB9 : Hid (Below w.heap.size w w9) := HB8.out.trans (hb9.mono HB8.out.size)
  clear hb9
  have hmm := @run_makeMap Tryd.prog
  go_wp2_with fail
  refine wp_loop_rounds 1 ?_
  rw [rounds_succ]
  go_wp2_with fail
  go_ret
  exact ⟨rfl, HB9.out.trans ((Below.refl _ _).alloc HB9.out.size _)⟩

end Go.Proofs.YtpkdpddillebfaaDoor.S
