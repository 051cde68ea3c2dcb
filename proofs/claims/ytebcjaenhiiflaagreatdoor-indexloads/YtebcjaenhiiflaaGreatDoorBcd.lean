/- The contracts of package bridge's New, Whole, Twice, Wholes, Parts, part. -/
import Derived.Test.YtebcjaenhiiflaaGreatDoorBb
namespace Go.Proofs.YtebcjaenhiiflaaGreatDoor.S
open Go.RowKit Go.WideMaps Go.Maps

theorem heap_allocs (w : World) (o1 o2 : Obj) : ((w.alloc o1).alloc o2).heap[w.heap.size + 1]? = some o2 := by
  have := heap_alloc_new (w.alloc o1) o2
  rwa [World.size_alloc] at this

theorem bnew_at {w w1 w2 : World} {n : Nat} (h1 : SetsAt w1 (w.heap.size + 1) w.heap.size (List.range n)) (h2 : SetsAt w2 (w1.heap.size + 1) w1.heap.size (List.range n)) (b2 : Below w1.heap.size w1 w2) :
    BAt ((w2.alloc (.map #[] 0)).alloc (.cells #[.pointer (some ⟨w.heap.size + 1, 0, none⟩), .pointer (some ⟨w1.heap.size + 1, 0, none⟩), .map (some w2.heap.size)] 178)) (w2.heap.size + 1) (w.heap.size + 1) w.heap.size (w1.heap.size + 1) w1.heap.size w2.heap.size 0 (List.range n) (List.range n) (.map []) := by
  have hb : Below w2.heap.size w2 ((w2.alloc (.map #[] 0)).alloc (.cells #[.pointer (some ⟨w.heap.size + 1, 0, none⟩), .pointer (some ⟨w1.heap.size + 1, 0, none⟩), .map (some w2.heap.size)] 178)) := below_two _ _ _
  have s1 : w1.heap.size ≤ w2.heap.size := b2.size
  have l1 := h1.plt
  have l2 := h2.plt
  refine ⟨heap_allocs _ _ _, ?_, ?_, ?_, by omega, by omega⟩
  · exact (h1.below b2 h1.plt h1.blt).below hb (by omega) (by omega)
  · exact h2.below hb (by omega) (by omega)
  · exact (World.ownsMap_made w2 Tryz.prog 3 pairR).alloc _

set_option maxHeartbeats 1000000 in
theorem bnew_in (n : Nat) (w : World) (hn : n ≤ 40) :
    Calls Tryz.prog 113 #[.int .i64 (n : Int)] w fun e w' => ∃ p pw bw pt bt m, e = .returned (.tuple #[.pointer (some ⟨p, 0, none⟩), .nilIface]) ∧ BAt w' p pw bw pt bt m 0 (List.range n) (List.range n) (.map []) ∧ Below w.heap.size w w' ∧ w.heap.size ≤ p ∧ w.heap.size ≤ bw ∧ w.heap.size ≤ bt ∧ w.heap.size ≤ m := by
  have hmm := @run_makeMap Tryz.prog
  go_enter Tryz.func113, Tryz.ntmps113
  go_wp2_with fail
  refine (new_in n w hn).mono ?_
  rintro e w1 ⟨rfl, h1, b1⟩
  have H1 : Hid (SetsAt w1 (w.heap.size + 1) w.heap.size (List.range n)) := h1
  have B1 : Hid (Below w.heap.size w w1) := b1
  clear h1 b1
  go_wp2_with fail
  refine (new_in n w1 hn).mono ?_
  rintro e w2 ⟨rfl, h2, b2⟩
  have H2 : Hid (SetsAt w2 (w1.heap.size + 1) w1.heap.size (List.range n)) := h2
  have B2 : Hid (Below w1.heap.size w1 w2) := b2
  clear h2 b2
  go_wp2
  go_ret2
  have hh := bnew_at H1.out H2.out B2.out
  have hs1 := B1.out.size
  have hs2 := B2.out.size
  refine ⟨_, _, _, _, _, _, rfl, hh, ?_, by omega, by omega, by omega, by omega⟩
  exact (B1.out.trans (B2.out.mono hs1)).trans ((below_two _ _ _).mono (by omega))

set_option maxHeartbeats 400000 in
theorem bnew_out (n : Int) (w : World) (h : n < 0 ∨ 40 < n) :
    Calls Tryz.prog 113 #[.int .i64 n] w fun e w' => e = .returned (.tuple #[.pointer none, .iface 23 (.int .i64 2)]) ∧ Below w.heap.size w w' := by
  go_enter Tryz.func113, Tryz.ntmps113
  go_wp2_with fail
  refine (new_out n w h).mono ?_
  rintro e w1 ⟨rfl, b1⟩
  have B1 : Hid (Below w.heap.size w w1) := b1
  clear b1 h
  go_wp2
  go_ret2
  exact ⟨rfl, B1.out⟩

variable {p pw bw pt bt m N n : Nat} {W T : List Nat} {D : DataW Unit}

set_option maxHeartbeats 400000 in
theorem whole_in (x y : Nat) (s : Bool) (w : World) (h : BAt w p pw bw pt bt m N W T D) (hx : x < W.length) (hy : y < W.length) (hv : (((W.getD x 0 : Nat) : Int) == ((W.getD y 0 : Nat) : Int)) = s) :
    Calls Tryz.prog 75 #[.pointer (some ⟨p, 0, none⟩), .int .i64 (x : Int), .int .i64 (y : Int)] w fun e w' => e = .returned (.tuple #[.bool s, .nilIface]) ∧ Below w.heap.size w w' := by
  have hc := h.c0
  go_enter Tryz.func75, Tryz.ntmps75
  go_wp2_with fail
  refine (same_in x y pw bw W s w h.sw hx hy hv).mono ?_
  rintro e w1 ⟨rfl, b1⟩
  have B1 : Hid (Below w.heap.size w w1) := b1
  clear b1 h hc hv
  go_wp2
  go_ret2
  exact ⟨rfl, B1.out⟩

set_option maxHeartbeats 400000 in
theorem whole_out (x y : Int) (w : World) (h : BAt w p pw bw pt bt m N W T D) (hx : Strange W.length x ∨ Strange W.length y) :
    Calls Tryz.prog 75 #[.pointer (some ⟨p, 0, none⟩), .int .i64 x, .int .i64 y] w fun e w' => e = .returned (.tuple #[.bool false, .iface 23 (.int .i64 2)]) ∧ Below w.heap.size w w' := by
  have hc := h.c0
  have HX : Hid (Strange W.length x ∨ Strange W.length y) := hx
  clear hx
  go_enter Tryz.func75, Tryz.ntmps75
  go_wp2_with fail
  refine (same_out x y pw bw W w h.sw HX.out).mono ?_
  rintro e w1 ⟨rfl, b1⟩
  have B1 : Hid (Below w.heap.size w w1) := b1
  clear b1 h hc
  go_wp2
  go_ret2
  exact ⟨rfl, B1.out⟩

set_option maxHeartbeats 400000 in
theorem twice_in (x y : Nat) (s : Bool) (w : World) (h : BAt w p pw bw pt bt m N W T D) (hx : x < T.length) (hy : y < T.length) (hv : (((T.getD x 0 : Nat) : Int) == ((T.getD y 0 : Nat) : Int)) = s) :
    Calls Tryz.prog 76 #[.pointer (some ⟨p, 0, none⟩), .int .i64 (x : Int), .int .i64 (y : Int)] w fun e w' => e = .returned (.tuple #[.bool s, .nilIface]) ∧ Below w.heap.size w w' := by
  have hc := h.c1
  go_enter Tryz.func76, Tryz.ntmps76
  go_wp2_with fail
  refine (same_in x y pt bt T s w h.st hx hy hv).mono ?_
  rintro e w1 ⟨rfl, b1⟩
  have B1 : Hid (Below w.heap.size w w1) := b1
  clear b1 h hc hv
  go_wp2
  go_ret2
  exact ⟨rfl, B1.out⟩

set_option maxHeartbeats 400000 in
theorem twice_out (x y : Int) (w : World) (h : BAt w p pw bw pt bt m N W T D) (hx : Strange T.length x ∨ Strange T.length y) :
    Calls Tryz.prog 76 #[.pointer (some ⟨p, 0, none⟩), .int .i64 x, .int .i64 y] w fun e w' => e = .returned (.tuple #[.bool false, .iface 23 (.int .i64 2)]) ∧ Below w.heap.size w w' := by
  have hc := h.c1
  have HX : Hid (Strange T.length x ∨ Strange T.length y) := hx
  clear hx
  go_enter Tryz.func76, Tryz.ntmps76
  go_wp2_with fail
  refine (same_out x y pt bt T w h.st HX.out).mono ?_
  rintro e w1 ⟨rfl, b1⟩
  have B1 : Hid (Below w.heap.size w w1) := b1
  clear b1 h hc
  go_wp2
  go_ret2
  exact ⟨rfl, B1.out⟩

set_option maxHeartbeats 400000 in
theorem part_n {X : Nat} (x : Nat) (w : World) (h : BAt w p pw bw pt bt m N W T D) (hg : Good n T) (hx : x < n) (hX : T.getD x 0 = X) :
    Calls Tryz.prog 231 #[.pointer (some ⟨p, 0, none⟩), .int .i64 (x : Int)] w fun e w' => e = .returned (.int .i64 (X : Int)) ∧ Below w.heap.size w w' := by
  have hc := h.c1
  go_enter Tryz.func231, Tryz.ntmps231
  go_wp2_with fail
  refine (least_n x pt bt T w h.st hg hx hX).mono ?_
  rintro e w1 ⟨rfl, b1⟩
  have B1 : Hid (Below w.heap.size w w1) := b1
  clear b1 h hc hX
  go_wp2
  go_ret
  exact ⟨rfl, B1.out⟩

end Go.Proofs.YtebcjaenhiiflaaGreatDoor.S
namespace Go.Proofs.YtebcjaenhiiflaaGreatDoor.S
open Go.RowKit Go.WideMaps Go.Maps

variable {p pw bw pt bt m N n : Nat} {W T : List Nat} {D : DataW Unit}

theorem box_two (w : World) (u v : Value) : (w.alloc (.cells #[u, v] 180)).cell? ⟨w.heap.size, 0, none⟩ = some u ∧ (w.alloc (.cells #[u, v] 180)).cell? ⟨w.heap.size, 1, none⟩ = some v := by
  constructor <;> simp

theorem box_two_below {w w' : World} {u v : Value} (h : Below (w.alloc (.cells #[u, v] 180)).heap.size (w.alloc (.cells #[u, v] 180)) w') : w'.cell? ⟨w.heap.size, 0, none⟩ = some u ∧ w'.cell? ⟨w.heap.size, 1, none⟩ = some v := by
  have hb := box_two w u v
  constructor
  · rw [h.cell (p := ⟨w.heap.size, 0, none⟩) (by simp)]; exact hb.1
  · rw [h.cell (p := ⟨w.heap.size, 1, none⟩) (by simp)]; exact hb.2

theorem below_alloc_then {w w' : World} {o : Obj} (h : Below (w.alloc o).heap.size (w.alloc o) w') : Below w.heap.size w w' :=
  ((Below.refl _ w).alloc (Nat.le_refl _) o).trans (h.mono (by simp))

set_option maxHeartbeats 1000000 in
theorem across_one (a b X Y : Nat) (w : World) (h : BAt w p pw bw pt bt m N W T D) (hg : Good n T) (ha : a < n) (hb : b < n) (hX : T.getD a 0 = X) (hY : T.getD b 0 = Y) :
    Calls Tryz.prog 309 #[.pointer (some ⟨p, 0, none⟩), .agg #[.int .i64 (a : Int), .int .i64 (b : Int)], .int .i64 (X : Int)] w fun e w' => e = .returned (.int .i64 (Y : Int)) ∧ Below w.heap.size w w' := by
  have HW : Hid (∀ w', Below w.heap.size w w' → BAt w' p pw bw pt bt m N W T D) := fun w' hb => h.below hb
  clear h
  go_enter Tryz.func309, Tryz.ntmps309
  go_wp2_with fail
  refine (part_n a _ (HW.out _ ((Below.refl _ w).alloc (Nat.le_refl _) _)) hg ha hX).mono ?_
  rintro e w1 ⟨rfl, b1⟩
  have c1 := (box_two_below b1).2
  have B1 : Hid (Below w.heap.size w w1) := below_alloc_then b1
  clear b1
  go_wp2_with fail
  refine (part_n b w1 (HW.out _ B1.out) hg hb hY).mono ?_
  rintro e w2 ⟨rfl, b2⟩
  have B2 : Hid (Below w.heap.size w w2) := B1.out.trans (b2.mono B1.out.size)
  clear b2
  go_wp2
  go_ret
  exact ⟨rfl, B2.out⟩

set_option maxHeartbeats 1000000 in
theorem across_two (a b X Y : Nat) (w : World) (h : BAt w p pw bw pt bt m N W T D) (hg : Good n T) (ha : a < n) (hb : b < n) (hX : T.getD a 0 = X) (hY : T.getD b 0 = Y) (hne : Y ≠ X) :
    Calls Tryz.prog 309 #[.pointer (some ⟨p, 0, none⟩), .agg #[.int .i64 (a : Int), .int .i64 (b : Int)], .int .i64 (Y : Int)] w fun e w' => e = .returned (.int .i64 (X : Int)) ∧ Below w.heap.size w w' := by
  have HW : Hid (∀ w', Below w.heap.size w w' → BAt w' p pw bw pt bt m N W T D) := fun w' hb => h.below hb
  clear h
  go_enter Tryz.func309, Tryz.ntmps309
  go_wp2_with fail
  refine (part_n a _ (HW.out _ ((Below.refl _ w).alloc (Nat.le_refl _) _)) hg ha hX).mono ?_
  rintro e w1 ⟨rfl, b1⟩
  have c1 := (box_two_below b1).2
  have c0 := (box_two_below b1).1
  have B1 : Hid (Below w.heap.size w w1) := below_alloc_then b1
  have hl : w.heap.size < w1.heap.size := by have := b1.size; simp at this; omega
  clear b1
  go_wp2_with fail
  refine (part_n b w1 (HW.out _ B1.out) hg hb hY).mono ?_
  rintro e w2 ⟨rfl, b2⟩
  have c2 : w2.cell? ⟨w.heap.size, 0, none⟩ = some (.int .i64 (a : Int)) := (b2.cell (p := ⟨w.heap.size, 0, none⟩) hl).trans c0
  have B2 : Hid (Below w.heap.size w w2) := B1.out.trans (b2.mono B1.out.size)
  clear b2 c0 c1
  go_wp2_with fail
  refine (part_n a w2 (HW.out _ B2.out) hg ha hX).mono ?_
  rintro e w3 ⟨rfl, b3⟩
  have B3 : Hid (Below w.heap.size w w3) := B2.out.trans (b3.mono B2.out.size)
  clear b3
  go_wp2
  go_ret
  exact ⟨rfl, B3.out⟩

set_option maxHeartbeats 1000000 in
theorem across_none (a b X Y fr : Nat) (w : World) (h : BAt w p pw bw pt bt m N W T D) (hg : Good n T) (ha : a < n) (hb : b < n) (hX : T.getD a 0 = X) (hY : T.getD b 0 = Y) (h1 : fr ≠ X) (h2 : fr ≠ Y) :
    Calls Tryz.prog 309 #[.pointer (some ⟨p, 0, none⟩), .agg #[.int .i64 (a : Int), .int .i64 (b : Int)], .int .i64 (fr : Int)] w fun e w' => e = .returned (.int .i64 (-1)) ∧ Below w.heap.size w w' := by
  have HW : Hid (∀ w', Below w.heap.size w w' → BAt w' p pw bw pt bt m N W T D) := fun w' hb => h.below hb
  clear h
  go_enter Tryz.func309, Tryz.ntmps309
  go_wp2_with fail
  refine (part_n a _ (HW.out _ ((Below.refl _ w).alloc (Nat.le_refl _) _)) hg ha hX).mono ?_
  rintro e w1 ⟨rfl, b1⟩
  have c1 := (box_two_below b1).2
  have B1 : Hid (Below w.heap.size w w1) := below_alloc_then b1
  clear b1
  go_wp2_with fail
  refine (part_n b w1 (HW.out _ B1.out) hg hb hY).mono ?_
  rintro e w2 ⟨rfl, b2⟩
  have B2 : Hid (Below w.heap.size w w2) := B1.out.trans (b2.mono B1.out.size)
  clear b2 c1
  go_wp2
  go_ret
  exact ⟨rfl, B2.out⟩

end Go.Proofs.YtebcjaenhiiflaaGreatDoor.S
namespace Go.Proofs.YtebcjaenhiiflaaGreatDoor.S
open Go.RowKit Go.WideMaps Go.Maps

variable {p pw bw pt bt m N n : Nat} {R B : List (Int × Int × Int)} {W T : List Nat} {D : DataW Unit}

/-- What across answers. -/
theorem across_any (a b fr : Nat) (w : World) (h : BAt w p pw bw pt bt m N W T D) (hg : Good n T) (ha : a < n) (hb : b < n) :
    ∃ nx : Int, Calls Tryz.prog 309 #[.pointer (some ⟨p, 0, none⟩), .agg #[.int .i64 (a : Int), .int .i64 (b : Int)], .int .i64 (fr : Int)] w (fun e w' => e = .returned (.int .i64 nx) ∧ Below w.heap.size w w') ∧
      ((nx = -1 ∧ T.getD a 0 ≠ fr ∧ T.getD b 0 ≠ fr) ∨ ∃ u v, ((a = u ∧ b = v) ∨ (b = u ∧ a = v)) ∧ T.getD u 0 = fr ∧ nx = (T.getD v 0 : Nat)) := by
  by_cases h1 : T.getD a 0 = fr
  · exact ⟨_, across_one a b fr _ w h hg ha hb h1 rfl, .inr ⟨a, b, .inl ⟨rfl, rfl⟩, h1, rfl⟩⟩
  · by_cases h2 : T.getD b 0 = fr
    · exact ⟨_, across_two a b _ fr w h hg ha hb rfl h2 (fun e => h1 e.symm), .inr ⟨b, a, .inr ⟨rfl, rfl⟩, h2, rfl⟩⟩
    · exact ⟨_, across_none a b _ _ fr w h hg ha hb rfl rfl (fun e => h1 e.symm) (fun e => h2 e.symm), .inl ⟨rfl, h1, h2⟩⟩

/-- A bridge by which there is no way on. -/
def Nope (R : List (Int × Int × Int)) (T : List Nat) (fr tg : Nat) (back : Int) (e : Int × Int × Int) : Prop :=
  ∀ u v, Ends e u v → T.getD u 0 = fr → ((T.getD v 0 : Nat) : Int) ≠ back → ¬ cn ea eb (but (· ∈ R) e) (T.getD v 0) tg

theorem ends_one (s : St n R W T B) {e : Int × Int × Int} (he : e ∈ B) {u v u' v' : Nat} (h : Ends e u v) (h' : Ends e u' v') (hu : T.getD u 0 = T.getD u' 0) : u = u' ∧ v = v' := by
  have hbr := (s.hB e).1 he
  have hlt := s.inn e hbr.1
  have hnt : T.getD (ea e) 0 ≠ T.getD (eb e) 0 := fun k => br_not_tw hbr ((s.tw hlt.1 hlt.2).2 k)
  rcases h with ⟨rfl, rfl⟩ | ⟨rfl, rfl⟩ <;> rcases h' with ⟨rfl, rfl⟩ | ⟨rfl, rfl⟩
  · exact ⟨rfl, rfl⟩
  · exact absurd hu hnt
  · exact absurd hu.symm hnt
  · exact ⟨rfl, rfl⟩

/-- What the map's entry is. -/
theorem entry_edge (s : St n R W T B) (hd : Dis D B) {x c1 c2 : Int} {y : DataW Unit × List MemPlace} (hy : y = (pairD c1 c2, [])) (hat : ∀ zd, D.atKey (.int .i64 x) zd = y.1) : ∃ e ∈ B, e.1 = x ∧ c1 = (ea e : Nat) ∧ c2 = (eb e : Nat) := by
  obtain ⟨e, he, hx⟩ := (hd.key x).1 (has_true_of_atKey hat)
  refine ⟨e, he, hx, ?_⟩
  have h1 := hd.val e he .nil
  rw [hx, hat, hy] at h1
  obtain ⟨h2, h3⟩ := pairD_inj h1
  have hn := s.nat e ((s.hB e).1 he).1
  exact ⟨h2.trans hn.1, h3.trans hn.2⟩

theorem struck {left : Lit → Bool} {x z : Int} (h : (left (.int .i64 z) && !(Lit.int .i64 z).sameKey (.int .i64 x)) = false) (hne : z ≠ x) : left (.int .i64 z) = false := by
  rw [sameKey_ne (by simpa using hne)] at h
  simpa using h

/-- The numbers of a list of edges, as values. -/
def idsV (ds : List (Int × Int × Int)) : List Value := ds.map fun e => .int .i64 e.1

/-- What way answers. -/
def WayPost (R : List (Int × Int × Int)) (fr tg : Nat) (Z : Int × Int × Int → Prop) (k : Nat) (w : World) (e : Ending) (w' : World) : Prop :=
  Below w.heap.size w w' ∧ ((cn ea eb Z fr tg ∧ ∃ v ds, e = .returned (.tuple #[v, .bool true]) ∧ Way R fr tg ds ∧ ds.length ≤ k ∧ w'.ownsRow w.heap.size 3 1 v ds.length (idsV ds)) ∨ (¬ cn ea eb Z fr tg ∧ e = .returned (.tuple #[.slice none 0 0, .bool false])))

theorem grown_below {w w' : World} (h : Below w.heap.size w w') : w.grownBy w' none := ⟨h.os, h.tape, h.output, h.size, fun k hk _ => h.block k hk⟩

theorem below_next {w w1 w2 : World} {r : Nat} (h : Below w.heap.size w w1) (hr : w.heap.size ≤ r) (hg : w1.grownBy w2 (some r)) : Below w.heap.size w w2 :=
  h.grown hg h.size (fun j hj => by cases hj; exact hr)

set_option maxHeartbeats 4000000 in
set_option maxRecDepth 100000 in
theorem way_step (k : Nat)
    (IH : ∀ k' < k, ∀ (fr tg : Nat) (back : Int) (Z : Int × Int × Int → Prop) (L : List (Int × Int × Int)) (w : World), BAt w p pw bw pt bt m N W T D → Hop R T fr back Z → Met R fr Z L → L.length ≤ k' → fr < n → T.getD fr 0 = fr → tg < n → T.getD tg 0 = tg →
      Calls Tryz.prog 230 #[.pointer (some ⟨p, 0, none⟩), .int .i64 (fr : Int), .int .i64 (tg : Int), .int .i64 back] w (WayPost R fr tg Z k' w))
    (s : St n R W T B) (hd : Dis D B) (hk : k ≤ 1000) (fr tg : Nat) (back : Int) (Z : Int × Int × Int → Prop) (L : List (Int × Int × Int)) (w : World) (h : BAt w p pw bw pt bt m N W T D) (hop : Hop R T fr back Z) (hmet : Met R fr Z L) (hL : L.length ≤ k) (hfr : fr < n) (hrep : T.getD fr 0 = fr) (hto : tg < n) (hrept : T.getD tg 0 = tg) :
    Calls Tryz.prog 230 #[.pointer (some ⟨p, 0, none⟩), .int .i64 (fr : Int), .int .i64 (tg : Int), .int .i64 back] w (WayPost R fr tg Z k w) := by
  have hc := h.c2
  have hown := h.hm
  have HW : Hid (∀ w', Below w.heap.size w w' → BAt w' p pw bw pt bt m N W T D) := fun w' hb => h.below hb
  have HS : Hid (St n R W T B) := s
  have HD : Hid (Dis D B) := hd
  have HOP : Hid (Hop R T fr back Z) := hop
  have HMET : Hid (Met R fr Z L) := hmet
  clear h s hd hop hmet
  by_cases hft : fr = tg
  · subst hft
    go_enter Tryz.func230, Tryz.ntmps230
    go_wp2
    go_ret2
    exact ⟨Below.refl _ _, .inl ⟨cn_refl _, _, [], rfl, way_nil _, Nat.zero_le _, World.ownsRow_nil _ _ _ _⟩⟩
  · have HFT : Hid (fr ≠ tg) := hft
    obtain ⟨i0, hi0, hz0, hz1, hz2⟩ := info_parts Tryz.info3
    have hbq : ((fr : Int) == (tg : Int)) = false := beq_eq_false_iff_ne.2 (by omega)
    go_enter Tryz.func230, Tryz.ntmps230
    go_wp2_with (first
      | (at_range; refine wpList_range_own _ rfl _ 176 rfl 3 180 law3 Tryz.underlying176 pairR m N D rfl hown ?_; intro w0 hrg0 hg0 hs0)
      | fail)
    go_frame
    have HR0 : Hid (w0.ranges Tryz.prog 3 pairR m w.heap.size N D (Maps.has D) (Maps.size D)) := hrg0
    have HG0 : Hid (Below w.heap.size w w0) := ⟨hg0.os, hg0.tape, hg0.output, hg0.size, fun k hk => hg0.block k hk (by simp)⟩
    clear hrg0 hg0 hs0 hown hc
    go_loopw [10] (fun _ wr => ∃ (left : Lit → Bool) (cnt : Nat), wr.ranges Tryz.prog 3 pairR m w.heap.size N D left cnt ∧ (∀ e ∈ B, left (.int .i64 e.1) = false → Nope R T fr tg back e) ∧ Below w.heap.size w wr) (fun _ wr => wr.rangeLeft m w.heap.size)
    case atStart =>
      refine ⟨_, _, HR0.out, fun e he hl => ?_, HG0.out⟩
      rw [(HD.out.key e.1).2 ⟨e, he, rfl⟩] at hl
      cases hl
    case round =>
      obtain ⟨left, cnt, hrg, hno, hbl⟩ := hrel
      have HRG : Hid (wr.ranges Tryz.prog 3 pairR m w.heap.size N D left cnt) := hrg
      have HNO : Hid (∀ e ∈ B, left (.int .i64 e.1) = false → Nope R T fr tg back e) := hno
      have HBL : Hid (Below w.heap.size w wr) := hbl
      clear hrg hno hbl HR0 HG0
      go_wp2_with (first
        | (at_next; refine wpList_next_ranges _ rfl _ rfl 3 law3 pairR (Value.int .i64) (fun c : Int × Int => .agg #[.int .i64 c.1, .int .i64 c.2]) (fun key kl hkey => by obtain ⟨x, rfl, _⟩ := Maps.keyOf_int_inv Tryz.underlying3 hkey; exact ⟨x, rfl⟩) (fun v y hv => by obtain ⟨c, rfl, _⟩ := pairR_inv hv; exact ⟨c, rfl⟩) m w.heap.size N D left cnt rfl HRG.out ?_ ?_)
        | fail)
      · intro _ hl0
        have HL0 : Hid (∀ kl, left kl = false) := hl0
        clear hl0
        go_wp2
        go_ret2
        exact ⟨HBL.out, .inr ⟨hop_none HS.out HOP.out hfr hrep hto hrept HFT.out (fun e he => HNO.out e he (HL0.out _)), rfl⟩⟩
      · intro x c1 c2 kl y1 y2 w1 cnt1 hkey hlk hRv hat hrg1 hlt hg1 hs1 hen
        obtain ⟨x', hxe, rfl, _⟩ := Maps.keyOf_int_inv Tryz.underlying3 hkey
        obtain rfl : x = x' := by injection hxe
        have hyy : (y1, y2) = (pairD c1 c2, []) := by
          have := hRv.symm.trans (pairR_mk c1 c2)
          injection this
        obtain ⟨e, he, hex, rfl, rfl⟩ := entry_edge HS.out HD.out hyy hat
        have hlte := HS.out.inn e ((HS.out.hB e).1 he).1
        have HE : Hid (e ∈ B ∧ e.1 = x) := ⟨he, hex⟩
        have HB1 : Hid (Below w.heap.size w w1) := below_next HBL.out (Nat.le_refl _) hg1
        have HR1 : Hid (w1.ranges Tryz.prog 3 pairR m w.heap.size N D (fun z => left z && !z.sameKey (.int .i64 x)) cnt1 ∧ cnt1 < cnt) := ⟨hrg1, hlt⟩
        clear hkey hlk hRv hat hrg1 hlt hg1 hs1 hxe hyy he hex
        -- the world with the pair's box
        obtain ⟨W1, hW1⟩ : ∃ W1, W1 = w1.alloc (.cells #[.int .i64 (ea e : Int), .int .i64 (eb e : Int)] 180) := ⟨_, rfl⟩
        have hbW : Below w1.heap.size w1 W1 := by rw [hW1]; exact (Below.refl _ _).alloc (Nat.le_refl _) _
        have HB2 : Hid (Below w.heap.size w W1) := HB1.out.trans (hbW.mono HB1.out.size)
        have HR2 : Hid (∀ w', Below W1.heap.size W1 w' → w'.ranges Tryz.prog 3 pairR m w.heap.size N D (fun z => left z && !z.sameKey (.int .i64 x)) cnt1) := fun w' hb =>
          (HR1.out.1.kept (grown_below hbW) (by simp) (by simp)).kept (grown_below hb) (by simp) (by simp)
        have HW1 : Hid (w1.alloc (.cells #[.int .i64 (ea e : Int), .int .i64 (eb e : Int)] 180) = W1) := hW1.symm
        have p0 : W1.cell? ⟨w1.heap.size, 0, none⟩ = some (.int .i64 (ea e : Int)) := by rw [hW1]; exact (box_two w1 _ _).1
        have p1 : W1.cell? ⟨w1.heap.size, 1, none⟩ = some (.int .i64 (eb e : Int)) := by rw [hW1]; exact (box_two w1 _ _).2
        clear hbW hW1
        obtain ⟨nx, hacr, hnx⟩ := across_any (ea e) (eb e) fr W1 (HW.out _ HB2.out) HS.out.gt hlte.1 hlte.2
        have HNX : Hid (nx = -1 ∧ T.getD (ea e) 0 ≠ fr ∧ T.getD (eb e) 0 ≠ fr ∨ ∃ u v, (ea e = u ∧ eb e = v ∨ eb e = u ∧ ea e = v) ∧ T.getD u 0 = fr ∧ nx = (T.getD v 0 : Nat)) := hnx
        have HAC : Hid _ := hacr
        clear hacr hnx hlte
        go_wp2_with fail
        rw [HW1.out]
        refine Calls.mono HAC.out ?_
        rintro e' w2 ⟨rfl, b2⟩
        have HB3 : Hid (Below w.heap.size w w2) := HB2.out.trans (b2.mono HB2.out.size)
        have HR3 : Hid (w2.ranges Tryz.prog 3 pairR m w.heap.size N D (fun z => left z && !z.sameKey (.int .i64 x)) cnt1) := HR2.out w2 b2
        clear b2 p0 p1 HR2 hen HAC
        have HNN : Hid (Nope R T fr tg back e → ∀ d ∈ B, (left (.int .i64 d.1) && !(Lit.int .i64 d.1).sameKey (.int .i64 x)) = false → Nope R T fr tg back d) := fun hn d hd hl => by
          by_cases hdx : d.1 = x
          · have : d = e := HS.out.one d ((HS.out.hB d).1 hd).1 e ((HS.out.hB e).1 HE.out.1).1 (hdx.trans HE.out.2.symm)
            rw [this]; exact hn
          · exact HNO.out d hd (struck hl hdx)
        by_cases hm1 : nx = -1
        · as_aux_lemma =>
          subst hm1
          have HNP : Hid (Nope R T fr tg back e) := by
            rcases HNX.out with ⟨_, h1, h2⟩ | ⟨u, v, _, _, h3⟩
            · rintro u v (⟨rfl, rfl⟩ | ⟨rfl, rfl⟩) hu
              · exact absurd hu h1
              · exact absurd hu h2
            · exfalso; omega
          go_wp2_with fail
          go_roundw
          case rel => exact ⟨_, cnt1, HR3.out, HNN.out HNP.out, HB3.out⟩
          case measure => rw [HR3.out.left_eq, HRG.out.left_eq]; exact HR1.out.2
        · obtain ⟨u, v, huv, hu, rfl⟩ : ∃ u v, Ends e u v ∧ T.getD u 0 = fr ∧ nx = (T.getD v 0 : Nat) := by
            rcases HNX.out with ⟨h0, _⟩ | h
            · exact absurd h0 hm1
            · exact h
          have HUV : Hid (Ends e u v ∧ T.getD u 0 = fr) := ⟨huv, hu⟩
          have HVL : Hid (v < n) := (huv.lt HS.out ((HS.out.hB e).1 HE.out.1).1).2
          clear HNX huv hu
          by_cases hbk : ((T.getD v 0 : Nat) : Int) = back
          · as_aux_lemma =>
            have HNP : Hid (Nope R T fr tg back e) := by
              intro u' v' h' hu' hv'
              have := ends_one HS.out HE.out.1 h' HUV.out.1 (hu'.trans HUV.out.2.symm)
              exact absurd (by rw [this.2]; exact hbk) hv'
            generalize T.getD v 0 = X at *
            have hq1 : ((X : Int) == -1) = false := beq_eq_false_iff_ne.2 hm1
            have hq2 : ((X : Int) == back) = true := beq_iff_eq.2 hbk
            clear hbk
            go_wp2_with fail
            go_roundw
            case rel => exact ⟨_, cnt1, HR3.out, HNN.out HNP.out, HB3.out⟩
            case measure => rw [HR3.out.left_eq, HRG.out.left_eq]; exact HR1.out.2
          · obtain ⟨n1, n2, n3, n4⟩ := hop_next (tg := tg) HS.out HOP.out HMET.out hfr hrep ((HS.out.hB e).1 HE.out.1) HUV.out.1 HUV.out.2 hbk
            have hlf : (L.filter fun d => decide (d ≠ e)).length < L.length := List.length_filter_lt_length_iff_exists.2 ⟨e, n2, by simp⟩
            have hIH := IH _ (Nat.lt_of_lt_of_le hlf hL) (T.getD v 0) tg fr _ _ w2 (HW.out _ HB3.out) n1 n3 (Nat.le_refl _) (HS.out.lab HVL.out) (HS.out.gt.idem v HVL.out) hto hrept
            have HIH : Hid _ := hIH
            have HN4 : Hid (cn ea eb (but (· ∈ R) e) (T.getD v 0) tg → cn ea eb Z fr tg) := n4
            have HLF : Hid ((L.filter fun d => decide (d ≠ e)).length < k) := Nat.lt_of_lt_of_le hlf hL
            clear hIH n1 n2 n3 n4 hlf
            generalize hX : T.getD v 0 = X at *
            have HX : Hid (T.getD v 0 = X) := hX
            clear hX
            have hq1 : ((X : Int) == -1) = false := beq_eq_false_iff_ne.2 hm1
            have hq2 : ((X : Int) == back) = false := beq_eq_false_iff_ne.2 hbk
            go_wp2_with fail
            refine Calls.mono HIH.out ?_
            rintro e' w3 ⟨b3, hpost⟩
            have HB4 : Hid (Below w.heap.size w w3) := HB3.out.trans (b3.mono HB3.out.size)
            have HR4 : Hid (w3.ranges Tryz.prog 3 pairR m w.heap.size N D (fun z => left z && !z.sameKey (.int .i64 x)) cnt1) := HR3.out.kept (grown_below b3) (by simp) (by simp)
            have hw23 : w.heap.size ≤ w2.heap.size := HB3.out.size
            clear b3 HIH
            rcases hpost with ⟨hcn, v', ds, rfl, hway, hlen, hrow⟩ | ⟨hncn, rfl⟩
            · as_aux_lemma =>
              have hrow' := ownsRow_base_a hrow hw23
              have hsz := HB4.out.size
              have hdl : ds.length < 1000 := by have := HLF.out; omega
              have HCN : Hid (cn ea eb Z fr tg) := HN4.out hcn
              have HWY : Hid (Way R fr tg (ds ++ [e]) ∧ ds.length + 1 ≤ k) := ⟨way_snoc HS.out hfr hrep ((HS.out.hB e).1 HE.out.1) HUV.out.1 HUV.out.2 (by rw [HX.out]; exact hcn) (by rw [HX.out]; exact hway), by have := HLF.out; omega⟩
              have HLT := hrow'.lt
              clear hcn hway hlen hrow HN4 HLF
              go_wp2_with (first
                | (at_builtin; refine wpList_append_own_at _ rfl _ _ 48 rfl w.heap.size 3 i0 (.int .i64 0) 1 8 Tryz.underlying48 hi0 hz0 hz1 hz2 rfl (by decide) v' _ _ rfl (hrow'.alloc _) ⟨w3.heap.size, 0, none⟩ 1 1 [.int .i64 x] rfl rfl (cell_one_new _ _ _) (ints_oneCell .i64 [x]) (by unfold maxLen; omega) (by omega) (by simp; omega) ?_; intro v'' w4 hown' hgrow hnil hloc)
                | fail)
              go_ret2
              refine ⟨HB4.out.grown ((World.grownBy_alloc w3 _ _).trans hgrow) hsz (fun j hj => (HLT j hj).1), .inl ⟨HCN.out, v'', ds ++ [e], rfl, HWY.out.1, by simpa using HWY.out.2, ?_⟩⟩
              have hex := HE.out.2
              subst hex
              simpa [idsV] using hown'
            · as_aux_lemma =>
              have HNP : Hid (Nope R T fr tg back e) := by
                intro u' v' h' hu' _
                have := ends_one HS.out HE.out.1 h' HUV.out.1 (hu'.trans HUV.out.2.symm)
                rw [this.2, HX.out]; exact hncn
              clear hncn
              go_wp2_with fail
              go_roundw
              case rel => exact ⟨_, cnt1, HR4.out, HNN.out HNP.out, HB4.out⟩
              case measure => rw [HR4.out.left_eq, HRG.out.left_eq]; exact HR1.out.2

theorem way_any (k : Nat) (s : St n R W T B) (hd : Dis D B) (hk : k ≤ 1000) : ∀ (fr tg : Nat) (back : Int) (Z : Int × Int × Int → Prop) (L : List (Int × Int × Int)) (w : World), BAt w p pw bw pt bt m N W T D → Hop R T fr back Z → Met R fr Z L → L.length ≤ k → fr < n → T.getD fr 0 = fr → tg < n → T.getD tg 0 = tg →
      Calls Tryz.prog 230 #[.pointer (some ⟨p, 0, none⟩), .int .i64 (fr : Int), .int .i64 (tg : Int), .int .i64 back] w (WayPost R fr tg Z k w) := by
  induction k using Nat.strongRecOn with
  | _ k ih =>
    intro fr tg back Z L w h1 h2 h3 h4 h5 h6 h7 h8
    exact way_step k (fun k' hk' fr tg back Z L w a b c d e f g i => ih k' hk' (by omega) fr tg back Z L w a b c d e f g i) s hd hk fr tg back Z L w h1 h2 h3 h4 h5 h6 h7 h8

end Go.Proofs.YtebcjaenhiiflaaGreatDoor.S
