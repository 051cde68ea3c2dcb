/- Which two nodes part together: the plain mathematics; rows of pairs. -/
import Derived.Test.YtebcjaenhiiflaaGreatDoorBBh
import Derived.Test.YtebcjaenhiiflaaGreatDoorG5
import Derived.Test.YtebcjaenhiiflaaGreatDoorSBT
import Derived.DeepKeys4
import Derived.Maps.RangeWalk
import Derived.Maps.OwnSet
import Derived.Maps.OwnOps
import Derived.Deep.DeepFit
namespace Go.Proofs.YtebcjaenhiiflaaGreatDoor.S.X
open Go.RowKit

/-- The edges lie in n nodes. -/
def Inn (n : Nat) (R : List (Int × Int × Int)) : Prop := ∀ e ∈ R, ea e < n ∧ eb e < n ∧ e.2.1 = (ea e : Int) ∧ e.2.2 = (eb e : Int)

/-- Together, by the edges that have no end among S. -/
def cnw (R : List (Int × Int × Int)) (S : List Nat) : Nat → Nat → Prop := cn ea eb (fun e => e ∈ R ∧ ea e ∉ S ∧ eb e ∉ S)

section
variable {R R' : List (Int × Int × Int)} {S S' : List Nat} {x y a b n : Nat}

theorem cnw_alone (h : cnw R S x y) (hx : x ∈ S) : x = y := by
  have := Conn.least (P := fun u v => u = v ∨ (u ∉ S ∧ v ∉ S)) h (fun x => .inl rfl) ?_ ?_ ?_
  · rcases this with h | ⟨h, _⟩
    · exact h
    · exact absurd hx h
  · rintro x y (h | ⟨h, k⟩)
    · exact .inl h.symm
    · exact .inr ⟨k, h⟩
  · rintro x y z (rfl | ⟨h, k⟩) h2
    · exact h2
    · rcases h2 with rfl | ⟨h3, h4⟩
      · exact .inr ⟨h, k⟩
      · exact .inr ⟨h, h4⟩
  · rintro x y ⟨e, ⟨_, h1, h2⟩, rfl, rfl⟩
    exact .inr ⟨h1, h2⟩

theorem cnw_symm (h : cnw R S x y) : cnw R S y x := cn_symm h
theorem cnw_refl (x : Nat) : cnw R S x x := cn_refl x

theorem cnw_congr (hR : ∀ e, e ∈ R ↔ e ∈ R') (hS : ∀ z, z ∈ S ↔ z ∈ S') : cnw R S x y ↔ cnw R' S' x y :=
  ⟨fun h => cn_mono h fun e ⟨h1, h2, h3⟩ => ⟨(hR e).1 h1, fun k => h2 ((hS _).2 k), fun k => h3 ((hS _).2 k)⟩, fun h => cn_mono h fun e ⟨h1, h2, h3⟩ => ⟨(hR e).2 h1, fun k => h2 ((hS _).1 k), fun k => h3 ((hS _).1 k)⟩⟩

/-- Two nodes part together: as the program asks, and as the document does. -/
def PartP (R : List (Int × Int × Int)) (n a b : Nat) : Prop := ∃ x y, x < n ∧ y < n ∧ cnw R [a] x y ∧ cnw R [b] x y ∧ ¬ cnw R [a, b] x y
def DocP (R : List (Int × Int × Int)) (a b x y : Nat) : Prop := ¬ (x = a ∨ x = b ∨ y = a ∨ y = b) ∧ cnw R [a] x y ∧ cnw R [b] x y ∧ ¬ cnw R [a, b] x y

theorem DocP.swap (h : DocP R a b x y) : DocP R a b y x :=
  ⟨fun k => h.1 (by omega), cnw_symm h.2.1, cnw_symm h.2.2.1, fun k => h.2.2.2 (cnw_symm k)⟩

theorem part_doc : PartP R n a b ↔ ∃ x y, y < x ∧ x < n ∧ DocP R a b x y := by
  constructor
  · rintro ⟨x, y, hx, hy, h1, h2, h3⟩
    have hne : x ≠ y := fun e => h3 (e ▸ cnw_refl x)
    have hd : DocP R a b x y := by
      refine ⟨?_, h1, h2, h3⟩
      rintro (rfl | rfl | rfl | rfl)
      · exact hne (cnw_alone h1 (by simp))
      · exact hne (cnw_alone h2 (by simp))
      · exact hne (cnw_alone (cnw_symm h1) (by simp)).symm
      · exact hne (cnw_alone (cnw_symm h2) (by simp)).symm
    rcases Nat.lt_or_gt_of_ne hne with h | h
    · exact ⟨y, x, h, hy, hd.swap⟩
    · exact ⟨x, y, h, hx, hd⟩
  · rintro ⟨x, y, h, hx, _, h1, h2, h3⟩
    exact ⟨x, y, hx, by omega, h1, h2, h3⟩

/-- A row of labels that tells who is together without all edges of S. -/
structure Lw (n : Nat) (R : List (Int × Int × Int)) (S : List Nat) (l : List Nat) : Prop where
  len : l.length = n
  iff : ∀ u v, u < n → v < n → (l.getD u 0 = l.getD v 0 ↔ cnw R S u v)

/-- The edges whose ends both go in. -/
def kp (inn : Nat → Bool) (e : Int × Int × Int) : Bool := inn (ea e) && inn (eb e)

theorem joins_snoc (L : List Nat) (ds : List (Int × Int × Int)) (d : Int × Int × Int) : joins L (ds ++ [d]) = joinL (joins L ds) (ea d) (eb d) := by
  induction ds generalizing L with
  | nil => rfl
  | cons c ds ih => exact ih _

theorem Lk_range (n u v : Nat) : Lk n (List.range n) u v ↔ u = v := by
  constructor
  · rintro (h | ⟨h1, h2, h3⟩)
    · exact h
    · simpa [h1, h2] using h3
  · exact .inl

theorem inn_filter (hin : Inn n R) (p : Int × Int × Int → Bool) : ∀ d ∈ R.filter p, ea d < n ∧ eb d < n := fun d hd => by
  have := hin d (List.mem_filter.1 hd).1
  exact ⟨this.1, this.2.1⟩

theorem good_kept (hin : Inn n R) (inn : Nat → Bool) : Good n (joins (List.range n) (R.filter (kp inn))) := good_joins _ _ (good_range n) (inn_filter hin _)

theorem lw_joins (hin : Inn n R) (inn : Nat → Bool) (hS : ∀ z, inn z = true ↔ z ∉ S) : Lw n R S (joins (List.range n) (R.filter (kp inn))) := by
  have g := good_kept hin inn
  refine ⟨g.len, fun u v hu hv => ?_⟩
  rw [← Lk.iff hu hv, Lk_joins _ _ (good_range n) (inn_filter hin _)]
  constructor
  · intro h
    refine Conn.lift h ?_
    rintro x y (h | ⟨e, he, rfl, rfl⟩)
    · rw [(Lk_range n x y).1 h]; exact Conn.refl y
    · obtain ⟨h1, h2⟩ := List.mem_filter.1 he
      simp only [kp, Bool.and_eq_true, hS] at h2
      exact Conn.base ⟨e, ⟨h1, h2⟩, rfl, rfl⟩
  · intro h
    refine Conn.lift h ?_
    rintro x y ⟨e, ⟨h1, h2, h3⟩, rfl, rfl⟩
    exact Conn.base (.inr ⟨e, List.mem_filter.2 ⟨h1, by simp only [kp, Bool.and_eq_true, hS]; exact ⟨h2, h3⟩⟩, rfl, rfl⟩)
end

/-- Which pairs are told: those of one first node below k, and those of all first nodes below a. -/
def rowK (P : Nat → Nat → Bool) (a k : Nat) : List (Nat × Nat) := ((List.range k).filter fun b => decide (a < b) && P a b).map fun b => (a, b)
def allK (P : Nat → Nat → Bool) (n a : Nat) : List (Nat × Nat) := (List.range a).flatMap fun a => rowK P a n

section
variable (P : Nat → Nat → Bool) {a b n : Nat}
theorem rowK_start : rowK P a (a + 1) = [] := by
  unfold rowK
  rw [List.map_eq_nil_iff, List.filter_eq_nil_iff]
  intro b hb
  have := List.mem_range.1 hb
  simp; intro h; omega
theorem rowK_yes (hab : a < b) (h : P a b = true) : rowK P a (b + 1) = rowK P a b ++ [(a, b)] := by
  simp [rowK, List.range_succ, List.filter_append, hab, h]
theorem rowK_no (h : P a b = false) : rowK P a (b + 1) = rowK P a b := by
  simp [rowK, List.range_succ, List.filter_append, h]
theorem rowK_len : (rowK P a b).length ≤ b := by
  simp only [rowK, List.length_map]
  exact Nat.le_trans (List.length_filter_le _ _) (by simp)
theorem rowK_big (h : n ≤ a) : rowK P a n = [] := by
  unfold rowK
  rw [List.map_eq_nil_iff, List.filter_eq_nil_iff]
  intro b hb
  have := List.mem_range.1 hb
  simp; intro h; omega
theorem allK_succ : allK P n (a + 1) = allK P n a ++ rowK P a n := by simp [allK, List.range_succ]
theorem allK_len : (allK P n a).length ≤ a * n := by
  induction a with
  | zero => simp [allK]
  | succ a ih =>
    rw [allK_succ, List.length_append, Nat.succ_mul]
    have := rowK_len P (a := a) (b := n)
    omega
end

/-- A row of pairs. -/
def encP (x : Nat × Nat) : List Value := [.int .i64 (x.1 : Int), .int .i64 (x.2 : Int)]
def rowP (L : List (Nat × Nat)) : List Value := L.flatMap encP
theorem rowP_cons (x : Nat × Nat) (L : List (Nat × Nat)) : rowP (x :: L) = encP x ++ rowP L := rfl
theorem rowP_append (L M : List (Nat × Nat)) : rowP (L ++ M) = rowP L ++ rowP M := by simp [rowP]
theorem rowP_length : ∀ L : List (Nat × Nat), (rowP L).length = L.length * 2
  | [] => rfl
  | x :: L => by rw [rowP_cons, List.length_append, rowP_length L]; simp [encP]; omega
theorem rowP_one : ∀ (L : List (Nat × Nat)), ∀ u ∈ rowP L, u.oneCell' = true
  | [], u, h => by simp [rowP] at h
  | x :: L, u, h => by
    rw [rowP_cons, List.mem_append] at h
    rcases h with h | h
    · simp [encP] at h
      rcases h with rfl | rfl <;> rfl
    · exact rowP_one L u h
theorem rowP_at : ∀ (L : List (Nat × Nat)) (i : Nat) (x : Nat × Nat), L[i]? = some x → (rowP L)[i * 2]? = some (.int .i64 (x.1 : Int)) ∧ (rowP L)[i * 2 + 1]? = some (.int .i64 (x.2 : Int))
  | [], i, x, h => by simp at h
  | y :: L, 0, x, h => by
    simp at h; subst h
    simp [rowP_cons, encP]
  | y :: L, i + 1, x, h => by
    simp at h
    have := rowP_at L i x h
    rw [rowP_cons]
    have e1 : (i + 1) * 2 = (i * 2) + 2 := by omega
    rw [e1]
    simpa [encP] using this

def OwnsP (w : World) (B : Nat) (v : Value) (L : List (Nat × Nat)) : Prop := w.ownsRow B 180 2 v L.length (rowP L)

theorem OwnsP.below {w w' : World} {B : Nat} {v : Value} {L : List (Nat × Nat)} (h : OwnsP w B v L) (hb : Below w.heap.size w w') : OwnsP w' B v L := World.ownsRow.kept h (grown_below hb) (Classical.em _)

theorem OwnsP.shape {w : World} {B : Nat} {v : Value} {L : List (Nat × Nat)} (h : OwnsP w B v L) : ∃ a cap, v = .slice a L.length cap ∧ (0 < L.length → ∃ g, a = some ⟨g, 0, none⟩ ∧ ∀ j x, L[j]? = some x → w.cell? ⟨g, j * 2, none⟩ = some (.int .i64 (x.1 : Int)) ∧ w.cell? ⟨g, j * 2 + 1, none⟩ = some (.int .i64 (x.2 : Int))) := by
  have h0 := h
  unfold OwnsP at h0
  rcases h.2 with ⟨rfl, hz⟩ | ⟨g, cap, cur, rfl, hb, hg, _⟩
  · exact ⟨none, 0, by rw [hz], fun k => by omega⟩
  · refine ⟨_, cap, rfl, fun _ => ⟨g, rfl, fun j x hx => ?_⟩⟩
    obtain ⟨r0, r1⟩ := rowP_at L j x hx
    have hj := (List.getElem?_eq_some_iff.1 hx).1
    have hl := rowP_length L
    refine ⟨?_, ?_⟩
    · rw [h0.cellAt (j * 2) (by omega)]
      exact r0
    · rw [h0.cellAt (j * 2 + 1) (by omega)]
      exact r1

def zP : Value := .agg #[.int .i64 0, .int .i64 0]
theorem info180 : ∃ i, Tryz.prog.info? 180 = some i ∧ i.size = 2 ∧ i.bytes = 16 ∧ i.zero = some zP :=
  ⟨(Tryz.prog.info? 180).get (by kernel_rfl), by kernel_rfl, by kernel_rfl, by kernel_rfl, by kernel_rfl⟩
theorem zP_cells : zP.cells = #[.int .i64 0, .int .i64 0] := by kernel_rfl

theorem pair_cells (W : World) (x y : Nat) (j : Nat) (u : Value) (h : (rowP [(x, y)])[j]? = some u) : (W.alloc (.cells #[.int .i64 (x : Int), .int .i64 (y : Int)] 180)).cell? ((⟨W.heap.size, 0, none⟩ : Addr).add j) = some u := by
  rw [G.addr0_add]
  have hh := heap_alloc_new W (.cells #[.int .i64 (x : Int), .int .i64 (y : Int)] 180)
  simp only [World.cell?, hh]
  simpa [rowP, encP] using h

/-- One pair more. -/
theorem app_pair (ty : TypeId) (W : World) (B : Nat) (u : Value) (M : List (Nat × Nat)) (x y : Nat) (h : OwnsP W B u M) (hB : B ≤ W.heap.size) (hl : M.length ≤ 1000) :
    ∃ v' w', (Builtin.append_ #[65, 65] ty #[u, .slice (some ⟨W.heap.size, 0, none⟩) 1 1]).run Tryz.prog (W.alloc (.cells #[.int .i64 (x : Int), .int .i64 (y : Int)] 180)) = .ok v' w' ∧ OwnsP w' B v' (M ++ [(x, y)]) ∧ Below B W w' ∧ W.grownBy w' u.ownBlock := by
  obtain ⟨i, hi, hs, hb, hz⟩ := info180
  have hbx : Below W.heap.size W (W.alloc (.cells #[.int .i64 (x : Int), .int .i64 (y : Int)] 180)) := (Below.refl _ _).alloc (Nat.le_refl _) _
  obtain ⟨v', w', h1, h2, h3, _⟩ := run_append_own (P := Tryz.prog) (W.alloc (.cells #[.int .i64 (x : Int), .int .i64 (y : Int)] 180)) B 65 ty 180 i zP 2 16 Tryz.underlying65 hi hz hs hb (by rw [zP_cells]; rfl) (by omega) u M.length (rowP M) (h.below hbx) ⟨W.heap.size, 0, none⟩ 1 1 (rowP [(x, y)]) (by simp [rowP, encP]) (pair_cells W x y) (rowP_one _) (by simp only [maxLen]; omega) (by omega) (Nat.le_trans hB (by simp))
  have hg : W.grownBy w' u.ownBlock := ⟨h3.os.trans hbx.os, h3.tape.trans hbx.tape, h3.output.trans hbx.output, Nat.le_trans hbx.size h3.size, fun k hk hn => (h3.block k (Nat.lt_of_lt_of_le hk hbx.size) hn).trans (hbx.block k hk)⟩
  refine ⟨v', w', h1, ?_, ⟨hg.os, hg.tape, hg.output, hg.size, fun k hk => hg.block k (by omega) (fun e => ?_)⟩, hg⟩
  · show w'.ownsRow B 180 2 v' (M ++ [(x, y)]).length (rowP (M ++ [(x, y)]))
    rw [List.length_append, rowP_append]
    exact h2
  · have := (World.ownsRow.lt h k e.symm).1
    omega

end Go.Proofs.YtebcjaenhiiflaaGreatDoor.S.X
namespace Go.Proofs.YtebcjaenhiiflaaGreatDoor.S.X
open Go.RowKit Go.WideMaps Go.Maps

/-- What together gives. -/
def TogPost (w : World) (n : Nat) (R : List (Int × Int × Int)) (inn : Nat → Bool) (e : Ending) (w' : World) : Prop :=
  ∃ p b, e = .returned (.pointer (some ⟨p, 0, none⟩)) ∧ SetsAt w' p b (joins (List.range n) (R.filter (kp inn))) ∧ w.heap.size ≤ p ∧ w.heap.size ≤ b ∧ Below w.heap.size w w'

theorem take_kp {R : List (Int × Int × Int)} {k : Nat} {x : Int × Int × Int} (pf : Int × Int × Int → Bool) (h : R[k]? = some x) : (R.take (k + 1)).filter pf = (R.take k).filter pf ++ (if pf x then [x] else []) := G.take_filter pf h

theorem good_take {n : Nat} {R : List (Int × Int × Int)} (hin : Inn n R) (k : Nat) (inn : Nat → Bool) : Good n (joins (List.range n) ((R.take k).filter (kp inn))) :=
  good_joins _ _ (good_range n) (fun d hd => by
    have := hin d (List.mem_of_mem_take (List.mem_filter.1 hd).1)
    exact ⟨this.1, this.2.1⟩)

theorem in1_any (x : Nat) (c a : Nat) (w : World) (hc : w.cell? ⟨c, 0, none⟩ = some (.int .i64 (a : Int))) :
    Calls Tryz.prog 148 #[.int .i64 (x : Int), .pointer (some ⟨c, 0, none⟩)] w fun e w' => e = .returned (.bool (decide (x ≠ a))) ∧ w' = w := by
  by_cases hxa : x = a
  · subst hxa
    have hb : ((x : Int) != (x : Int)) = false := by simp
    go_enter Tryz.func148, Tryz.ntmps148
    go_wp2_with fail
    go_ret
    exact ⟨by simp, rfl⟩
  · have hb : ((x : Int) == (a : Int)) = false := beq_eq_false_iff_ne.2 (by omega)
    go_enter Tryz.func148, Tryz.ntmps148
    go_wp2_with fail
    go_ret
    exact ⟨by simp [hxa]; omega, rfl⟩

theorem in2_any (x : Nat) (c d a b : Nat) (w : World) (hc : w.cell? ⟨c, 0, none⟩ = some (.int .i64 (a : Int))) (hd : w.cell? ⟨d, 0, none⟩ = some (.int .i64 (b : Int))) :
    Calls Tryz.prog 149 #[.int .i64 (x : Int), .pointer (some ⟨c, 0, none⟩), .pointer (some ⟨d, 0, none⟩)] w fun e w' => e = .returned (.bool (decide (x ≠ a ∧ x ≠ b))) ∧ w' = w := by
  by_cases hxa : x = a
  · subst hxa
    have hb : ((x : Int) == (x : Int)) = true := by simp
    go_enter Tryz.func149, Tryz.ntmps149
    go_wp2_with fail
    go_ret
    exact ⟨by simp, rfl⟩
  · have hb : ((x : Int) == (a : Int)) = false := beq_eq_false_iff_ne.2 (by omega)
    by_cases hxb : x = b
    · subst hxb
      have hb2 : ((x : Int) == (x : Int)) = true := by simp
      go_enter Tryz.func149, Tryz.ntmps149
      go_wp2_with fail
      go_ret
      exact ⟨by simp, rfl⟩
    · have hb2 : ((x : Int) == (b : Int)) = false := beq_eq_false_iff_ne.2 (by omega)
      go_enter Tryz.func149, Tryz.ntmps149
      go_wp2_with fail
      go_ret
      exact ⟨by simp [hxa, hxb]; omega, rfl⟩

set_option maxHeartbeats 2000000 in
set_option maxRecDepth 100000 in
theorem together_one (n B0 c1 : Nat) (inn : Nat → Bool) (u : Value) (R : List (Int × Int × Int)) (w : World) (hR : G.Owns w B0 61 u R) (hn : n ≤ 40) (hin : Inn n R) (hl : R.length ≤ 120)
    (hf : ∀ W (x : Nat), Below w.heap.size w W → Calls Tryz.prog 148 #[.int .i64 (x : Int), .pointer (some ⟨c1, 0, none⟩)] W fun e w' => e = .returned (.bool (inn x)) ∧ w' = W) :
    Calls Tryz.prog 147 #[.int .i64 (n : Int), u, .func (.func 148) #[] #[.pointer (some ⟨c1, 0, none⟩)]] w (TogPost w n R inn) := by
  have HF : Hid (∀ W (x : Nat), Below w.heap.size w W → Calls Tryz.prog 148 #[.int .i64 (x : Int), .pointer (some ⟨c1, 0, none⟩)] W fun e w' => e = .returned (.bool (inn x)) ∧ w' = W) := hf
  have HR : Hid (G.Owns w B0 61 u R ∧ Inn n R) := ⟨hR, hin⟩
  obtain ⟨m, hm⟩ : ∃ m, R.length = m := ⟨_, rfl⟩
  have HM : Hid (R.length = m) := hm
  obtain ⟨va, vc, hv⟩ := hR.slice_len
  rw [hm] at hv hl
  subst hv
  clear hf hR hm hin
  go_enter Tryz.func147, Tryz.ntmps147
  go_wp2_with fail
  refine (new_in n w hn).mono ?_
  rintro e w1 ⟨rfl, hs1, hb1⟩
  have HS1 : Hid (SetsAt w1 (w.heap.size + 1) w.heap.size (List.range n) ∧ Below w.heap.size w w1) := ⟨hs1, hb1⟩
  clear hs1 hb1
  go_wp2_with fail
  go_loopw [18] (fun s18 wq => ∃ k : Nat, k ≤ m ∧ s18 = .int .i64 k ∧ SetsAt wq (w.heap.size + 1) w.heap.size (joins (List.range n) ((R.take k).filter (kp inn))) ∧ Below w.heap.size w wq) (fun s18 _ => m - (intOf s18).toNat)
  case atStart => exact ⟨0, Nat.zero_le _, rfl, HS1.out.1, HS1.out.2⟩
  case round =>
    clear HS1
    obtain ⟨k, hk, rfl, hs, hb⟩ := hrel
    have HS : Hid (SetsAt wr (w.heap.size + 1) w.heap.size (joins (List.range n) ((R.take k).filter (kp inn)))) := hs
    have HB : Hid (Below w.heap.size w wr) := hb
    clear hs hb
    by_cases hlt : k < m
    · obtain ⟨x0, x1, x2, hx⟩ : ∃ x0 x1 x2, R[k]? = some (x0, x1, x2) := ⟨_, _, _, List.getElem?_eq_getElem (by rw [HM.out]; exact hlt)⟩
      have HX : Hid (R[k]? = some (x0, x1, x2)) := hx
      obtain ⟨g, hva⟩ : ∃ g, va = some ⟨g, 0, none⟩ := by
        rcases HR.out.1.shape with ⟨_, e⟩ | ⟨g, cap, e, _⟩
        · rw [e] at hx; simp at hx
        · injection e with e1 _ _
          exact ⟨g, e1⟩
      obtain ⟨r0, r1, r2⟩ := (HR.out.1.below HB.out).at (g := g) (by rw [hva]; rfl) hx
      have hnat := HR.out.2 _ (List.mem_of_getElem? hx)
      obtain ⟨xa, hxa⟩ : ∃ xa, ea (x0, x1, x2) = xa := ⟨_, rfl⟩
      obtain ⟨xb, hxb⟩ : ∃ xb, eb (x0, x1, x2) = xb := ⟨_, rfl⟩
      rw [hxa, hxb] at hnat
      obtain ⟨han, hbn, h1, h2⟩ := hnat
      simp only at h1 h2
      subst h1
      subst h2
      have HE : Hid (ea (x0, (xa : Int), (xb : Int)) = xa ∧ eb (x0, (xa : Int), (xb : Int)) = xb) := ⟨hxa, hxb⟩
      have r0' : wr.cell? ⟨g, k * 3, none⟩ = some (.int .i64 x0) := r0
      have r1' : wr.cell? ⟨g, k * 3 + 1, none⟩ = some (.int .i64 (xa : Int)) := r1
      have r2' : wr.cell? ⟨g, k * 3 + 2, none⟩ = some (.int .i64 (xb : Int)) := r2
      clear r0 r1 r2 hx hxa hxb
      subst hva
      have hb1 : Below wr.heap.size wr (wr.alloc (.cells #[.int .i64 x0, .int .i64 (xa : Int), .int .i64 (xb : Int)] 61)) := (Below.refl _ _).alloc (Nat.le_refl _) _
      have HB1 : Hid (Below w.heap.size w (wr.alloc (.cells #[.int .i64 x0, .int .i64 (xa : Int), .int .i64 (xb : Int)] 61))) := HB.out.trans (hb1.mono HB.out.size)
      have HSW : Hid (SetsAt (wr.alloc (.cells #[.int .i64 x0, .int .i64 (xa : Int), .int .i64 (xb : Int)] 61)) (w.heap.size + 1) w.heap.size (joins (List.range n) ((R.take k).filter (kp inn)))) := HS.out.below hb1 HS.out.plt HS.out.blt
      have hc1 : (wr.alloc (.cells #[.int .i64 x0, .int .i64 (xa : Int), .int .i64 (xb : Int)] 61)).cell? ⟨wr.heap.size, 1, none⟩ = some (.int .i64 (xa : Int)) := by simp
      have hc2 : (wr.alloc (.cells #[.int .i64 x0, .int .i64 (xa : Int), .int .i64 (xb : Int)] 61)).cell? ⟨wr.heap.size, 2, none⟩ = some (.int .i64 (xb : Int)) := by simp
      clear hb1
      cases hia : inn xa with
      | true =>
        cases hib : inn xb with
        | true =>
          as_aux_lemma =>
          have HK : Hid (kp inn (x0, (xa : Int), (xb : Int)) = true) := by
            show kp inn (x0, (xa : Int), (xb : Int)) = true
            unfold kp; rw [HE.out.1, HE.out.2, hia, hib]; rfl
          go_wp2_with fail
          refine (HF.out _ xa HB1.out).mono ?_
          rintro e w2 ⟨rfl, rfl⟩
          rw [hia]
          go_wp2_with fail
          refine (HF.out _ xb HB1.out).mono ?_
          rintro e w2 ⟨rfl, rfl⟩
          rw [hib]
          go_wp2_with fail
          have g := good_take HR.out.2 k inn
          refine (join_in xa xb (w.heap.size + 1) w.heap.size _ _ HSW.out (by rw [g.len]; exact han) (by rw [g.len]; exact hbn) (by rw [g.len]; exact hn)).mono ?_
          rintro e w3 ⟨rfl, hs3, hb3⟩
          have HF3 : Hid (SetsAt w3 (w.heap.size + 1) w.heap.size (joins (List.range n) ((R.take (k + 1)).filter (kp inn))) ∧ Below w.heap.size w w3) := by
            refine ⟨?_, HB1.out.trans (hb3.below (Nat.le_refl _) HB1.out.size)⟩
            rw [take_kp (kp inn) HX.out, HK.out, if_pos rfl, joins_snoc, HE.out.1, HE.out.2]
            exact hs3
          clear hs3 hb3 g HSW HS HB HB1 hc1 hc2 hia hib r0' r1' r2'
          go_wp2_with fail
          go_roundw
          case rel => exact ⟨k + 1, by omega, by go_num, HF3.out.1, HF3.out.2⟩
          case measure => simp [intOf]; omega
        | false =>
          as_aux_lemma =>
          have HK : Hid (SetsAt (wr.alloc (.cells #[.int .i64 x0, .int .i64 (xa : Int), .int .i64 (xb : Int)] 61)) (w.heap.size + 1) w.heap.size (joins (List.range n) ((R.take (k + 1)).filter (kp inn)))) := by
            have : kp inn (x0, (xa : Int), (xb : Int)) = false := by unfold kp; rw [HE.out.1, HE.out.2, hia, hib]; rfl
            have h2 := HSW.out
            show SetsAt _ _ _ _
            rw [take_kp (kp inn) HX.out, this]
            simpa using h2
          go_wp2_with fail
          refine (HF.out _ xa HB1.out).mono ?_
          rintro e w2 ⟨rfl, rfl⟩
          rw [hia]
          go_wp2_with fail
          refine (HF.out _ xb HB1.out).mono ?_
          rintro e w2 ⟨rfl, rfl⟩
          rw [hib]
          clear hia hib
          go_wp2_with fail
          go_roundw
          case rel => exact ⟨k + 1, by omega, by go_num, HK.out, HB1.out⟩
          case measure => simp [intOf]; omega
      | false =>
        as_aux_lemma =>
        have HK : Hid (SetsAt (wr.alloc (.cells #[.int .i64 x0, .int .i64 (xa : Int), .int .i64 (xb : Int)] 61)) (w.heap.size + 1) w.heap.size (joins (List.range n) ((R.take (k + 1)).filter (kp inn)))) := by
          have : kp inn (x0, (xa : Int), (xb : Int)) = false := by unfold kp; rw [HE.out.1, HE.out.2, hia]; rfl
          have h2 := HSW.out
          show SetsAt _ _ _ _
          rw [take_kp (kp inn) HX.out, this]
          simpa using h2
        go_wp2_with fail
        refine (HF.out _ xa HB1.out).mono ?_
        rintro e w2 ⟨rfl, rfl⟩
        rw [hia]
        clear hia
        go_wp2_with fail
        go_roundw
        case rel => exact ⟨k + 1, by omega, by go_num, HK.out, HB1.out⟩
        case measure => simp [intOf]; omega
    · have hke : k = m := by omega
      have HF3 : Hid (SetsAt wr (w.heap.size + 1) w.heap.size (joins (List.range n) (R.filter (kp inn)))) := by
        have h2 := HS.out
        rw [hke, ← HM.out, List.take_length] at h2
        exact h2
      clear hke HS
      go_wp2_with fail
      go_ret
      exact ⟨_, _, rfl, HF3.out, by omega, by omega, HB.out⟩

set_option maxHeartbeats 2000000 in
set_option maxRecDepth 100000 in
theorem together_two (n B0 c1 c2 : Nat) (inn : Nat → Bool) (u : Value) (R : List (Int × Int × Int)) (w : World) (hR : G.Owns w B0 61 u R) (hn : n ≤ 40) (hin : Inn n R) (hl : R.length ≤ 120)
    (hf : ∀ W (x : Nat), Below w.heap.size w W → Calls Tryz.prog 149 #[.int .i64 (x : Int), .pointer (some ⟨c1, 0, none⟩), .pointer (some ⟨c2, 0, none⟩)] W fun e w' => e = .returned (.bool (inn x)) ∧ w' = W) :
    Calls Tryz.prog 147 #[.int .i64 (n : Int), u, .func (.func 149) #[] #[.pointer (some ⟨c1, 0, none⟩), .pointer (some ⟨c2, 0, none⟩)]] w (TogPost w n R inn) := by
  have HF : Hid (∀ W (x : Nat), Below w.heap.size w W → Calls Tryz.prog 149 #[.int .i64 (x : Int), .pointer (some ⟨c1, 0, none⟩), .pointer (some ⟨c2, 0, none⟩)] W fun e w' => e = .returned (.bool (inn x)) ∧ w' = W) := hf
  have HR : Hid (G.Owns w B0 61 u R ∧ Inn n R) := ⟨hR, hin⟩
  obtain ⟨m, hm⟩ : ∃ m, R.length = m := ⟨_, rfl⟩
  have HM : Hid (R.length = m) := hm
  obtain ⟨va, vc, hv⟩ := hR.slice_len
  rw [hm] at hv hl
  subst hv
  clear hf hR hm hin
  go_enter Tryz.func147, Tryz.ntmps147
  go_wp2_with fail
  refine (new_in n w hn).mono ?_
  rintro e w1 ⟨rfl, hs1, hb1⟩
  have HS1 : Hid (SetsAt w1 (w.heap.size + 1) w.heap.size (List.range n) ∧ Below w.heap.size w w1) := ⟨hs1, hb1⟩
  clear hs1 hb1
  go_wp2_with fail
  go_loopw [18] (fun s18 wq => ∃ k : Nat, k ≤ m ∧ s18 = .int .i64 k ∧ SetsAt wq (w.heap.size + 1) w.heap.size (joins (List.range n) ((R.take k).filter (kp inn))) ∧ Below w.heap.size w wq) (fun s18 _ => m - (intOf s18).toNat)
  case atStart => exact ⟨0, Nat.zero_le _, rfl, HS1.out.1, HS1.out.2⟩
  case round =>
    clear HS1
    obtain ⟨k, hk, rfl, hs, hb⟩ := hrel
    have HS : Hid (SetsAt wr (w.heap.size + 1) w.heap.size (joins (List.range n) ((R.take k).filter (kp inn)))) := hs
    have HB : Hid (Below w.heap.size w wr) := hb
    clear hs hb
    by_cases hlt : k < m
    · obtain ⟨x0, x1, x2, hx⟩ : ∃ x0 x1 x2, R[k]? = some (x0, x1, x2) := ⟨_, _, _, List.getElem?_eq_getElem (by rw [HM.out]; exact hlt)⟩
      have HX : Hid (R[k]? = some (x0, x1, x2)) := hx
      obtain ⟨g, hva⟩ : ∃ g, va = some ⟨g, 0, none⟩ := by
        rcases HR.out.1.shape with ⟨_, e⟩ | ⟨g, cap, e, _⟩
        · rw [e] at hx; simp at hx
        · injection e with e1 _ _
          exact ⟨g, e1⟩
      obtain ⟨r0, r1, r2⟩ := (HR.out.1.below HB.out).at (g := g) (by rw [hva]; rfl) hx
      have hnat := HR.out.2 _ (List.mem_of_getElem? hx)
      obtain ⟨xa, hxa⟩ : ∃ xa, ea (x0, x1, x2) = xa := ⟨_, rfl⟩
      obtain ⟨xb, hxb⟩ : ∃ xb, eb (x0, x1, x2) = xb := ⟨_, rfl⟩
      rw [hxa, hxb] at hnat
      obtain ⟨han, hbn, h1, h2⟩ := hnat
      simp only at h1 h2
      subst h1
      subst h2
      have HE : Hid (ea (x0, (xa : Int), (xb : Int)) = xa ∧ eb (x0, (xa : Int), (xb : Int)) = xb) := ⟨hxa, hxb⟩
      have r0' : wr.cell? ⟨g, k * 3, none⟩ = some (.int .i64 x0) := r0
      have r1' : wr.cell? ⟨g, k * 3 + 1, none⟩ = some (.int .i64 (xa : Int)) := r1
      have r2' : wr.cell? ⟨g, k * 3 + 2, none⟩ = some (.int .i64 (xb : Int)) := r2
      clear r0 r1 r2 hx hxa hxb
      subst hva
      have hb1 : Below wr.heap.size wr (wr.alloc (.cells #[.int .i64 x0, .int .i64 (xa : Int), .int .i64 (xb : Int)] 61)) := (Below.refl _ _).alloc (Nat.le_refl _) _
      have HB1 : Hid (Below w.heap.size w (wr.alloc (.cells #[.int .i64 x0, .int .i64 (xa : Int), .int .i64 (xb : Int)] 61))) := HB.out.trans (hb1.mono HB.out.size)
      have HSW : Hid (SetsAt (wr.alloc (.cells #[.int .i64 x0, .int .i64 (xa : Int), .int .i64 (xb : Int)] 61)) (w.heap.size + 1) w.heap.size (joins (List.range n) ((R.take k).filter (kp inn)))) := HS.out.below hb1 HS.out.plt HS.out.blt
      have hc1 : (wr.alloc (.cells #[.int .i64 x0, .int .i64 (xa : Int), .int .i64 (xb : Int)] 61)).cell? ⟨wr.heap.size, 1, none⟩ = some (.int .i64 (xa : Int)) := by simp
      have hc2 : (wr.alloc (.cells #[.int .i64 x0, .int .i64 (xa : Int), .int .i64 (xb : Int)] 61)).cell? ⟨wr.heap.size, 2, none⟩ = some (.int .i64 (xb : Int)) := by simp
      clear hb1
      cases hia : inn xa with
      | true =>
        cases hib : inn xb with
        | true =>
          as_aux_lemma =>
          have HK : Hid (kp inn (x0, (xa : Int), (xb : Int)) = true) := by
            show kp inn (x0, (xa : Int), (xb : Int)) = true
            unfold kp; rw [HE.out.1, HE.out.2, hia, hib]; rfl
          go_wp2_with fail
          refine (HF.out _ xa HB1.out).mono ?_
          rintro e w2 ⟨rfl, rfl⟩
          rw [hia]
          go_wp2_with fail
          refine (HF.out _ xb HB1.out).mono ?_
          rintro e w2 ⟨rfl, rfl⟩
          rw [hib]
          go_wp2_with fail
          have g := good_take HR.out.2 k inn
          refine (join_in xa xb (w.heap.size + 1) w.heap.size _ _ HSW.out (by rw [g.len]; exact han) (by rw [g.len]; exact hbn) (by rw [g.len]; exact hn)).mono ?_
          rintro e w3 ⟨rfl, hs3, hb3⟩
          have HF3 : Hid (SetsAt w3 (w.heap.size + 1) w.heap.size (joins (List.range n) ((R.take (k + 1)).filter (kp inn))) ∧ Below w.heap.size w w3) := by
            refine ⟨?_, HB1.out.trans (hb3.below (Nat.le_refl _) HB1.out.size)⟩
            rw [take_kp (kp inn) HX.out, HK.out, if_pos rfl, joins_snoc, HE.out.1, HE.out.2]
            exact hs3
          clear hs3 hb3 g HSW HS HB HB1 hc1 hc2 hia hib r0' r1' r2'
          go_wp2_with fail
          go_roundw
          case rel => exact ⟨k + 1, by omega, by go_num, HF3.out.1, HF3.out.2⟩
          case measure => simp [intOf]; omega
        | false =>
          as_aux_lemma =>
          have HK : Hid (SetsAt (wr.alloc (.cells #[.int .i64 x0, .int .i64 (xa : Int), .int .i64 (xb : Int)] 61)) (w.heap.size + 1) w.heap.size (joins (List.range n) ((R.take (k + 1)).filter (kp inn)))) := by
            have : kp inn (x0, (xa : Int), (xb : Int)) = false := by unfold kp; rw [HE.out.1, HE.out.2, hia, hib]; rfl
            have h2 := HSW.out
            show SetsAt _ _ _ _
            rw [take_kp (kp inn) HX.out, this]
            simpa using h2
          go_wp2_with fail
          refine (HF.out _ xa HB1.out).mono ?_
          rintro e w2 ⟨rfl, rfl⟩
          rw [hia]
          go_wp2_with fail
          refine (HF.out _ xb HB1.out).mono ?_
          rintro e w2 ⟨rfl, rfl⟩
          rw [hib]
          clear hia hib
          go_wp2_with fail
          go_roundw
          case rel => exact ⟨k + 1, by omega, by go_num, HK.out, HB1.out⟩
          case measure => simp [intOf]; omega
      | false =>
        as_aux_lemma =>
        have HK : Hid (SetsAt (wr.alloc (.cells #[.int .i64 x0, .int .i64 (xa : Int), .int .i64 (xb : Int)] 61)) (w.heap.size + 1) w.heap.size (joins (List.range n) ((R.take (k + 1)).filter (kp inn)))) := by
          have : kp inn (x0, (xa : Int), (xb : Int)) = false := by unfold kp; rw [HE.out.1, HE.out.2, hia]; rfl
          have h2 := HSW.out
          show SetsAt _ _ _ _
          rw [take_kp (kp inn) HX.out, this]
          simpa using h2
        go_wp2_with fail
        refine (HF.out _ xa HB1.out).mono ?_
        rintro e w2 ⟨rfl, rfl⟩
        rw [hia]
        clear hia
        go_wp2_with fail
        go_roundw
        case rel => exact ⟨k + 1, by omega, by go_num, HK.out, HB1.out⟩
        case measure => simp [intOf]; omega
    · have hke : k = m := by omega
      have HF3 : Hid (SetsAt wr (w.heap.size + 1) w.heap.size (joins (List.range n) (R.filter (kp inn)))) := by
        have h2 := HS.out
        rw [hke, ← HM.out, List.take_length] at h2
        exact h2
      clear hke HS
      go_wp2_with fail
      go_ret
      exact ⟨_, _, rfl, HF3.out, by omega, by omega, HB.out⟩

end Go.Proofs.YtebcjaenhiiflaaGreatDoor.S.X
namespace Go.Proofs.YtebcjaenhiiflaaGreatDoor.S.X
open Go.RowKit Go.WideMaps Go.Maps

theorem w_laid : laidOutB Tryz.prog = true := by kernel_rfl
theorem row130 : 292 < Tryz.prog.types.size := of_decide_eq_true (by kernel_rfl)
theorem wide130 : (match Tryz.prog.underlying 292 with | some (.array _ _) | some (.struct _) => true | _ => false) = true := by kernel_rfl
set_option maxRecDepth 100000 in
theorem law292 : Keyed Tryz.prog 292 := Keyed.of_law (deep_law_laid w_laid (m := 2) (by omega) row130 (by kernel_rfl) wide130)
theorem kt130 : Tryz.prog.keyType 292 = true := by kernel_rfl
theorem fm130 (p q : Int) : (Value.agg #[.int .i64 p, .int .i64 q]).formed Tryz.prog 292 = true := by kernel_rfl
theorem co130 : Tryz.prog.cellsOf 292 = 2 := by kernel_rfl
theorem w_co3 : Tryz.prog.cellsOf 3 = 1 := by kernel_rfl
theorem w_ts : ∃ m, Tryz.prog.types.size = m + 1 := ⟨Tryz.prog.types.size - 1, by have := row130; omega⟩
theorem w_wf {x : Int} (h0 : 0 ≤ x) (h1 : x ≤ 1000000) : (Lit.int .i64 x).wf = true := WalkArith.wf_i64 (by omega)
theorem w_zero3 (w : World) : (zeroValue 3).run Tryz.prog w = .ok (.int .i64 0) w := by kernel_rfl

theorem two_key_of {P : Program} {k t m : Nat} {f1 f2 : Field} (hu : P.underlying k = some (.struct #[f1, f2])) (h1 : f1.type = t) (h2 : f2.type = t) (o1 : f1.offset = 0) (o2 : f2.offset = 1) (n1 : (f1.name != "_") = true) (n2 : (f2.name != "_") = true) (ht : P.underlying t = some (.int .i64)) (ck : P.cellsOf k = 2) (ct : P.cellsOf t = 1) (hs : P.types.size = m + 1) (hkt : P.keyType k = true)
    {p q : Int} (hf : (Value.agg #[.int .i64 p, .int .i64 q]).formed P k = true) (hp : (Lit.int .i64 p).wf = true) (hq : (Lit.int .i64 q).wf = true) : keyOf P k (.agg #[.int .i64 p, .int .i64 q]) = some (.string (keyBytes [.int .i64 p, .int .i64 q])) := by
  unfold keyOf
  rw [hu]
  simp only [hkt, hf, Bool.and_self, if_true, hs]
  have e1 : ∀ x : Int, (Lit.int .i64 x).wf = true → P.keyLits (m + 1) t [.int .i64 x] = some [.int .i64 x] := fun x hx => by simp [Program.keyLits, ht, hx]
  have : P.keyLits (m + 1 + 1) k (Value.agg #[.int .i64 p, .int .i64 q]).cells.toList = some [.int .i64 p, .int .i64 q] := by
    unfold Program.keyLits
    rw [hu]
    simp [Value.cells, ck, n1, n2, h1, h2, o1, o2, ct, e1 p hp, e1 q hq]
  rw [this]; rfl

/-- The key of two places. -/
def wk (p q : Nat) : Lit := .string (keyBytes [.int .i64 (p : Int), .int .i64 (q : Int)])

theorem wk_key (p q : Nat) (hp : p ≤ 1000) (hq : q ≤ 1000) : keyOf Tryz.prog 292 (.agg #[.int .i64 (p : Int), .int .i64 (q : Int)]) = some (wk p q) := by
  obtain ⟨m, hm⟩ := w_ts
  exact two_key_of Tryz.underlying292 rfl rfl rfl rfl rfl rfl Tryz.underlying3 co130 w_co3 hm kt130 (fm130 p q) (w_wf (by omega) (by omega)) (w_wf (by omega) (by omega))

theorem wk_inj {p q p' q' : Nat} (hp : p ≤ 1000) (hq : q ≤ 1000) (hp' : p' ≤ 1000) (hq' : q' ≤ 1000) (h : wk p q = wk p' q') : p = p' ∧ q = q' := by
  have := law292.inj (wk_key p q hp hq) (h ▸ wk_key p' q' hp' hq')
  simp at this
  omega

theorem wk_lit (p q : Nat) : WideAt.IsKeyLit (wk p q) := trivial

/-- What the map has behind x nodes. -/
structure Wm (l1 l2 l3 : List Nat) (x : Nat) (D : DataW Unit) : Prop where
  key : ∀ kl, Maps.has D kl = true ↔ ∃ i, i < x ∧ kl = wk (l1.getD i 0) (l2.getD i 0)
  val : ∀ i, i < x → ∀ zd, D.atKey (wk (l1.getD i 0) (l2.getD i 0)) zd = .lit (.int .i64 ((l3.getD i 0 : Nat) : Int))
  tidy : Tidy D
  same : ∀ i j, i < x → j < x → l1.getD i 0 = l1.getD j 0 → l2.getD i 0 = l2.getD j 0 → l3.getD i 0 = l3.getD j 0

section
variable {l1 l2 l3 : List Nat} {x : Nat} {D : DataW Unit}
theorem Wm.start (l1 l2 l3 : List Nat) : Wm l1 l2 l3 0 (.map []) := ⟨fun kl => by simp [Maps.has], fun i hi => by omega, tidy_empty, fun i j hi => by omega⟩

theorem Wm.put (h : Wm l1 l2 l3 x D) (sm : ∀ i, i ≤ x → l1.getD i 0 ≤ 1000 ∧ l2.getD i 0 ≤ 1000) (hs : ∀ i, i < x → l1.getD i 0 = l1.getD x 0 → l2.getD i 0 = l2.getD x 0 → l3.getD i 0 = l3.getD x 0) :
    Wm l1 l2 l3 (x + 1) (D.put (wk (l1.getD x 0) (l2.getD x 0)) (.lit (.int .i64 ((l3.getD x 0 : Nat) : Int)))) := by
  refine ⟨fun kl => ?_, fun i hi zd => ?_, h.tidy.put (wk_lit _ _) _, fun i j hi hj e1 e2 => ?_⟩
  · by_cases e : kl = wk (l1.getD x 0) (l2.getD x 0)
    · rw [e, has_put_same h.tidy.isMap (wk_lit _ _)]
      exact ⟨fun _ => ⟨x, by omega, rfl⟩, fun _ => rfl⟩
    · rw [has_put_other e, h.key]
      constructor
      · rintro ⟨i, hi, k⟩; exact ⟨i, by omega, k⟩
      · rintro ⟨i, hi, k⟩
        refine ⟨i, ?_, k⟩
        have : i ≠ x := fun e' => e (by rw [k, e'])
        omega
  · by_cases e : wk (l1.getD i 0) (l2.getD i 0) = wk (l1.getD x 0) (l2.getD x 0)
    · have sx := sm x (by omega)
      have si := sm i (by omega)
      obtain ⟨e1, e2⟩ := wk_inj si.1 si.2 sx.1 sx.2 e
      rw [e, atKey_put_same h.tidy.isMap (wk_lit _ _)]
      by_cases hix : i = x
      · rw [hix]
      · rw [hs i (by omega) e1 e2]
    · have hix : i ≠ x := fun e' => e (by rw [e'])
      rw [atKey_put_other e]
      exact h.val i (by omega) zd
  · by_cases hi' : i = x
    · by_cases hj' : j = x
      · rw [hi', hj']
      · subst hi'
        exact (hs j (by omega) e1.symm e2.symm).symm
    · by_cases hj' : j = x
      · subst hj'
        exact hs i (by omega) e1 e2
      · exact h.same i j (by omega) (by omega) e1 e2
end

theorem grown_set (w : World) (b i : Nat) (v : Value) : w.grownBy (w.setCell ⟨b, i, none⟩ v) (some b) :=
  ⟨rfl, rfl, rfl, by simp, fun k _ hne => Below.heap_setCell _ _ _ _ (fun e => hne (by rw [e]))⟩

theorem least_k (x p b : Nat) (L : List Nat) (w : World) (hs : SetsAt w p b L) (hx : x < L.length) :
    Calls Tryz.prog 247 #[.pointer (some ⟨p, 0, none⟩), .int .i64 (x : Int)] w fun e w' => e = .returned (.tuple #[.int .i64 ((L.getD x 0 : Nat) : Int), .nilIface]) ∧ Below w.heap.size w w' := by
  have := least_in (x : Int) p b L w hs (by omega) (by omega)
  simpa using this

theorem set_first {W : World} {bx t : Nat} {x y : Value} (h : W.heap[bx]? = some (.cells #[x, y] t)) (v : Value) : (W.setCell ⟨bx, 0, none⟩ v).heap[bx]? = some (.cells #[v, y] t) := by
  simp only [World.setCell, Array.getElem?_modify, h]
  simp
theorem set_second {W : World} {bx t : Nat} {x y : Value} (h : W.heap[bx]? = some (.cells #[x, y] t)) (v : Value) : (W.setCell ⟨bx, 1, none⟩ v).heap[bx]? = some (.cells #[x, v] t) := by
  simp only [World.setCell, Array.getElem?_modify, h]
  simp

/-- What part holds on to: the three values, the map, the box of two numbers. -/
structure Pt (w0 W : World) (p1 b1 p2 b2 p3 b3 m N : Nat) (l1 l2 l3 : List Nat) (D : DataW Unit) : Prop where
  s1 : SetsAt W p1 b1 l1
  s2 : SetsAt W p2 b2 l2
  s3 : SetsAt W p3 b3 l3
  lt : p1 < w0.heap.size ∧ b1 < w0.heap.size ∧ p2 < w0.heap.size ∧ b2 < w0.heap.size ∧ p3 < w0.heap.size ∧ b3 < w0.heap.size
  own : W.ownsMap Tryz.prog 292 (plainElem Tryz.prog 3) m N D
  below : Below w0.heap.size w0 W

section
variable {w0 W W' : World} {p1 b1 p2 b2 p3 b3 m N : Nat} {l1 l2 l3 : List Nat} {D : DataW Unit}
theorem Pt.below' (h : Pt w0 W p1 b1 p2 b2 p3 b3 m N l1 l2 l3 D) (hb : Below W.heap.size W W') : Pt w0 W' p1 b1 p2 b2 p3 b3 m N l1 l2 l3 D :=
  ⟨h.s1.below hb h.s1.plt h.s1.blt, h.s2.below hb h.s2.plt h.s2.blt, h.s3.below hb h.s3.plt h.s3.blt, h.lt, h.own.kept (grown_below hb) (by simp), h.below.trans (hb.mono h.below.size)⟩

theorem Pt.set (h : Pt w0 W p1 b1 p2 b2 p3 b3 m N l1 l2 l3 D) {bx : Nat} (hx : w0.heap.size ≤ bx) (hm : bx ≠ m) (i : Nat) (v : Value) : Pt w0 (W.setCell ⟨bx, i, none⟩ v) p1 b1 p2 b2 p3 b3 m N l1 l2 l3 D := by
  have hlt := h.lt
  have hb : Below w0.heap.size W (W.setCell ⟨bx, i, none⟩ v) := ⟨rfl, rfl, rfl, by simp, fun k hk => Below.heap_setCell _ _ _ _ (show k ≠ bx by omega)⟩
  exact ⟨h.s1.below hb hlt.1 hlt.2.1, h.s2.below hb hlt.2.2.1 hlt.2.2.2.1, h.s3.below hb hlt.2.2.2.2.1 hlt.2.2.2.2.2, h.lt, h.own.kept (grown_set W bx i v) (by simp; omega), h.below.trans hb⟩

theorem Pt.upd (h : Pt w0 W p1 b1 p2 b2 p3 b3 w0.heap.size N l1 l2 l3 D) {N' : Nat} {D' : DataW Unit} (ho : W'.ownsMap Tryz.prog 292 (plainElem Tryz.prog 3) w0.heap.size N' D') (hg : W.grownBy W' (some w0.heap.size)) : Pt w0 W' p1 b1 p2 b2 p3 b3 w0.heap.size N' l1 l2 l3 D' := by
  have hlt := h.lt
  have hb : Below w0.heap.size W W' := ⟨hg.os, hg.tape, hg.output, hg.size, fun k hk => hg.block k (Nat.lt_of_lt_of_le hk h.below.size) (by simp; omega)⟩
  exact ⟨h.s1.below hb hlt.1 hlt.2.1, h.s2.below hb hlt.2.2.1 hlt.2.2.2.1, h.s3.below hb hlt.2.2.2.2.1 hlt.2.2.2.2.2, h.lt, ho, h.below.trans hb⟩
end

set_option maxHeartbeats 4000000 in
set_option maxRecDepth 100000 in
theorem part_any (n p1 b1 p2 b2 p3 b3 : Nat) (l1 l2 l3 : List Nat) (ok : Bool) (w : World) (h1 : SetsAt w p1 b1 l1) (h2 : SetsAt w p2 b2 l2) (h3 : SetsAt w p3 b3 l3) (hn : n ≤ 40) (g1 : Good n l1) (g2 : Good n l2) (g3 : Good n l3)
    (hok : ok = true ↔ ∃ x y, x < n ∧ y < n ∧ l1.getD x 0 = l1.getD y 0 ∧ l2.getD x 0 = l2.getD y 0 ∧ l3.getD x 0 ≠ l3.getD y 0) :
    Calls Tryz.prog 150 #[.int .i64 (n : Int), .pointer (some ⟨p1, 0, none⟩), .pointer (some ⟨p2, 0, none⟩), .pointer (some ⟨p3, 0, none⟩)] w fun e w' => e = .returned (.bool ok) ∧ Below w.heap.size w w' := by
  have HOK : Hid (ok = true ↔ ∃ x y, x < n ∧ y < n ∧ l1.getD x 0 = l1.getD y 0 ∧ l2.getD x 0 = l2.getD y 0 ∧ l3.getD x 0 ≠ l3.getD y 0) := hok
  have HG : Hid (Good n l1 ∧ Good n l2 ∧ Good n l3) := ⟨g1, g2, g3⟩
  have HS : Hid (Pt w (w.alloc (.map #[] 0)) p1 b1 p2 b2 p3 b3 w.heap.size 0 l1 l2 l3 (.map [])) := by
    have hb : Below w.heap.size w (w.alloc (.map #[] 0)) := (Below.refl _ _).alloc (Nat.le_refl _) _
    exact ⟨h1.below hb h1.plt h1.blt, h2.below hb h2.plt h2.blt, h3.below hb h3.plt h3.blt, ⟨h1.plt, h1.blt, h2.plt, h2.blt, h3.plt, h3.blt⟩, World.ownsMap_made w _ _ _, hb⟩
  have hmm := @run_makeMap Tryz.prog
  clear h1 h2 h3 g1 g2 g3 hok
  go_enter Tryz.func150, Tryz.ntmps150
  go_wp2_with fail
  clear hmm
  go_loopw [18] (fun s18 wq => ∃ (x : Nat) (D : DataW Unit), x ≤ n ∧ s18 = .int .i64 x ∧ Pt w wq p1 b1 p2 b2 p3 b3 w.heap.size x l1 l2 l3 D ∧ Wm l1 l2 l3 x D) (fun s18 _ => n - (intOf s18).toNat)
  case atStart => exact ⟨0, _, Nat.zero_le _, rfl, HS.out, Wm.start l1 l2 l3⟩
  case round =>
    clear HS
    obtain ⟨x, D, hx, rfl, hpt, hwm⟩ := hrel
    have HP : Hid (Pt w wr p1 b1 p2 b2 p3 b3 w.heap.size x l1 l2 l3 D) := hpt
    have HW : Hid (Wm l1 l2 l3 x D) := hwm
    clear hpt hwm
    by_cases hlt : x < n
    · have hmw : w.heap.size < wr.heap.size := by
        obtain ⟨es, clock, hb, _⟩ := HP.out.own
        exact lt_of_some hb
      have HP1 : Hid (Pt w (wr.alloc (.cells #[.int .i64 0, .int .i64 0] 292)) p1 b1 p2 b2 p3 b3 w.heap.size x l1 l2 l3 D) := HP.out.below' ((Below.refl _ _).alloc (Nat.le_refl _) _)
      obtain ⟨k1, hk1⟩ : ∃ k1, l1.getD x 0 = k1 := ⟨_, rfl⟩
      obtain ⟨k2, hk2⟩ : ∃ k2, l2.getD x 0 = k2 := ⟨_, rfl⟩
      obtain ⟨k3, hk3⟩ : ∃ k3, l3.getD x 0 = k3 := ⟨_, rfl⟩
      have HK : Hid (l1.getD x 0 = k1 ∧ l2.getD x 0 = k2 ∧ l3.getD x 0 = k3) := ⟨hk1, hk2, hk3⟩
      have hk1l : k1 ≤ x := by rw [← hk1]; exact HG.out.1.le x hlt
      have hk2l : k2 ≤ x := by rw [← hk2]; exact HG.out.2.1.le x hlt
      have hk3l : k3 ≤ x := by rw [← hk3]; exact HG.out.2.2.le x hlt
      obtain ⟨bx, hbx⟩ : ∃ bx, wr.heap.size = bx := ⟨_, rfl⟩
      obtain ⟨W1, hW1⟩ : ∃ W1, wr.alloc (.cells #[.int .i64 0, .int .i64 0] 292) = W1 := ⟨_, rfl⟩
      have c1 : W1.heap[bx]? = some (.cells #[.int .i64 0, .int .i64 0] 292) := by rw [← hW1, ← hbx]; exact heap_alloc_new wr _
      rw [hW1] at HP1
      rw [hbx] at hmw
      go_upto_region 6 with fail
      try rw [hW1, hbx]
      have HBX : Hid (wr.heap.size = bx) := hbx
      clear hbx hW1
      go_wp2_with fail
      refine (least_k x p1 b1 l1 _ HP1.out.s1 (by rw [HG.out.1.len]; exact hlt)).mono ?_
      rintro e W2 ⟨rfl, hb2⟩
      rw [HK.out.1]
      have HP2 : Hid (Pt w W2 p1 b1 p2 b2 p3 b3 w.heap.size x l1 l2 l3 D) := HP1.out.below' hb2
      have c2 : W2.heap[bx]? = some (.cells #[.int .i64 0, .int .i64 0] 292) := (hb2.block bx (lt_of_some c1)).trans c1
      have q0 : W2.cell? ⟨bx, 0, none⟩ = some (.int .i64 0) := by simp [World.cell?, c2]
      have f0 : W2.frozen? ⟨bx, 0, none⟩ = false := by simp [World.frozen?, c2]
      obtain ⟨W3, hW3⟩ : ∃ W3, W2.setCell ⟨bx, 0, none⟩ (.int .i64 (k1 : Int)) = W3 := ⟨_, rfl⟩
      have HP3 : Hid (Pt w W3 p1 b1 p2 b2 p3 b3 w.heap.size x l1 l2 l3 D) := by rw [← hW3]; exact HP2.out.set (by omega) (by omega) 0 _
      have c3 : W3.heap[bx]? = some (.cells #[.int .i64 (k1 : Int), .int .i64 0] 292) := by
        rw [← hW3]; exact set_first c2 _
      clear HP1 HP2 hb2 c1 c2
      go_upto_region 7 with fail
      try rw [hW3]
      clear hW3 q0 f0
      go_wp2_with fail
      refine (least_k x p2 b2 l2 _ HP3.out.s2 (by rw [HG.out.2.1.len]; exact hlt)).mono ?_
      rintro e W4 ⟨rfl, hb4⟩
      rw [HK.out.2.1]
      have HP4 : Hid (Pt w W4 p1 b1 p2 b2 p3 b3 w.heap.size x l1 l2 l3 D) := HP3.out.below' hb4
      have c4 : W4.heap[bx]? = some (.cells #[.int .i64 (k1 : Int), .int .i64 0] 292) := (hb4.block bx (lt_of_some c3)).trans c3
      have q0 : W4.cell? ⟨bx, 1, none⟩ = some (.int .i64 0) := by simp [World.cell?, c4]
      have f0 : W4.frozen? ⟨bx, 1, none⟩ = false := by simp [World.frozen?, c4]
      obtain ⟨W5, hW5⟩ : ∃ W5, W4.setCell ⟨bx, 1, none⟩ (.int .i64 (k2 : Int)) = W5 := ⟨_, rfl⟩
      have HP5 : Hid (Pt w W5 p1 b1 p2 b2 p3 b3 w.heap.size x l1 l2 l3 D) := by rw [← hW5]; exact HP4.out.set (by omega) (by omega) 1 _
      have c5 : W5.heap[bx]? = some (.cells #[.int .i64 (k1 : Int), .int .i64 (k2 : Int)] 292) := by
        rw [← hW5]; exact set_second c4 _
      clear HP3 HP4 hb4 c3 c4
      go_upto_region 8 with fail
      try rw [hW5]
      clear hW5 q0 f0
      go_wp2_with fail
      refine (least_k x p3 b3 l3 _ HP5.out.s3 (by rw [HG.out.2.2.len]; exact hlt)).mono ?_
      rintro e W6 ⟨rfl, hb6⟩
      rw [HK.out.2.2]
      have HP6 : Hid (Pt w W6 p1 b1 p2 b2 p3 b3 w.heap.size x l1 l2 l3 D) := HP5.out.below' hb6
      have c6 : W6.heap[bx]? = some (.cells #[.int .i64 (k1 : Int), .int .i64 (k2 : Int)] 292) := (hb6.block bx (lt_of_some c5)).trans c5
      have q0 : W6.cell? ⟨bx, 0, none⟩ = some (.int .i64 (k1 : Int)) := by simp [World.cell?, c6]
      have q1 : W6.cell? ⟨bx, 1, none⟩ = some (.int .i64 (k2 : Int)) := by simp [World.cell?, c6]
      have hown := HP6.out.own
      have hkey := wk_key k1 k2 (by omega) (by omega)
      have SM : Hid (∀ i, i ≤ x → l1.getD i 0 ≤ 1000 ∧ l2.getD i 0 ≤ 1000) := fun i hi => by
        have e1 := HG.out.1.le i (by omega)
        have e2 := HG.out.2.1.le i (by omega)
        omega
      clear HP5 hb6 c5 c6 hk1 hk2 hk3
      cases hh : Maps.has D (wk k1 k2) with
      | false =>
        as_aux_lemma =>
        have HN : Hid (Wm l1 l2 l3 (x + 1) (D.put (wk k1 k2) (.lit (.int .i64 (k3 : Int))))) := by
          have := HW.out.put SM.out (fun i hi e1 e2 => by
            have : Maps.has D (wk k1 k2) = true := (HW.out.key _).2 ⟨i, hi, by rw [e1, e2, HK.out.1, HK.out.2.1]⟩
            rw [hh] at this; cases this)
          rw [HK.out.1, HK.out.2.1, HK.out.2.2] at this
          exact this
        go_wp2_with (first
          | (at_lookup; refine wpList_lookup_own_ok_int _ rfl _ _ 290 rfl 292 3 .i64 law292 Tryz.underlying290 Tryz.underlying3 (w_zero3 _) w.heap.size x D rfl hown _ _ rfl hkey ?_; intro c hat hwc; rw [hh]; clear hat hwc)
          | (at_mapUpdate; refine wpList_mapUpdate_own _ rfl _ _ _ 290 rfl 292 3 law292 Tryz.underlying290 (plainElem Tryz.prog 3) w.heap.size x D rfl hown (by unfold maxLen; omega) _ _ _ rfl rfl hkey _ [] (plainElem_int Tryz.underlying3 (a := (k3 : Int)) (w_wf (by omega) (by omega))) ?_; intro w8 hown8 hgrow8)
          | fail)
        have HP8 : Hid (Pt w w8 p1 b1 p2 b2 p3 b3 w.heap.size (x + 1) l1 l2 l3 (D.put (wk k1 k2) (.lit (.int .i64 (k3 : Int))))) := HP6.out.upd hown8 hgrow8
        clear hown8 hgrow8
        go_wp2_with fail
        go_roundw
        case rel => exact ⟨x + 1, _, by omega, by go_num, HP8.out, HN.out⟩
        case measure => simp [intOf]; omega
      | true =>
        obtain ⟨i, hi, hki⟩ := (HW.out.key _).1 hh
        obtain ⟨e1, e2⟩ := wk_inj (by omega) (by omega) (SM.out i (by omega)).1 (SM.out i (by omega)).2 hki
        have HV : Hid (∀ c : Int, D.atKey (wk k1 k2) (.lit (.int .i64 0)) = .lit (.int .i64 c) → c = ((l3.getD i 0 : Nat) : Int)) := fun c hc => by
          have := HW.out.val i hi (.lit (.int .i64 0))
          rw [← hki, hc] at this
          exact (Lit.int.inj (DataW.lit.inj this)).2
        have HI : Hid (l1.getD i 0 = k1 ∧ l2.getD i 0 = k2) := ⟨e1.symm, e2.symm⟩
        obtain ⟨j3, hj3⟩ : ∃ j3, l3.getD i 0 = j3 := ⟨_, rfl⟩
        have HJ : Hid (l3.getD i 0 = j3) := hj3
        rw [hj3] at HV
        clear hki e1 e2 hj3
        by_cases h3 : j3 = k3
        · as_aux_lemma =>
          subst h3
          have hb3 : ((j3 : Int) == (j3 : Int)) = true := by simp
          have HN : Hid (Wm l1 l2 l3 (x + 1) (D.put (wk k1 k2) (.lit (.int .i64 (j3 : Int))))) := by
            have := HW.out.put SM.out (fun i' hi' e1 e2 => by
              rw [HK.out.2.2, HW.out.same i' i hi' hi (by rw [e1, HK.out.1, HI.out.1]) (by rw [e2, HK.out.2.1, HI.out.2])]
              exact HJ.out)
            rw [HK.out.1, HK.out.2.1, HK.out.2.2] at this
            exact this
          go_wp2_with (first
            | (at_lookup; refine wpList_lookup_own_ok_int _ rfl _ _ 290 rfl 292 3 .i64 law292 Tryz.underlying290 Tryz.underlying3 (w_zero3 _) w.heap.size x D rfl hown _ _ rfl hkey ?_; intro c hat hwc; obtain rfl := HV.out c hat; rw [hh]; clear hat hwc)
            | (at_mapUpdate; refine wpList_mapUpdate_own _ rfl _ _ _ 290 rfl 292 3 law292 Tryz.underlying290 (plainElem Tryz.prog 3) w.heap.size x D rfl hown (by unfold maxLen; omega) _ _ _ rfl rfl hkey _ [] (plainElem_int Tryz.underlying3 (a := (j3 : Int)) (w_wf (by omega) (by omega))) ?_; intro w8 hown8 hgrow8)
            | fail)
          have HP8 : Hid (Pt w w8 p1 b1 p2 b2 p3 b3 w.heap.size (x + 1) l1 l2 l3 (D.put (wk k1 k2) (.lit (.int .i64 (j3 : Int))))) := HP6.out.upd hown8 hgrow8
          clear hown8 hgrow8
          go_wp2_with fail
          go_roundw
          case rel => exact ⟨x + 1, _, by omega, by go_num, HP8.out, HN.out⟩
          case measure => simp [intOf]; omega
        · as_aux_lemma =>
          have hb3 : ((j3 : Int) == (k3 : Int)) = false := beq_eq_false_iff_ne.2 (by omega)
          have HO : Hid (ok = true) := HOK.out.2 ⟨i, x, by omega, hlt, by rw [HI.out.1, HK.out.1], by rw [HI.out.2, HK.out.2.1], by rw [HJ.out, HK.out.2.2]; exact h3⟩
          go_wp2_with (first
            | (at_lookup; refine wpList_lookup_own_ok_int _ rfl _ _ 290 rfl 292 3 .i64 law292 Tryz.underlying290 Tryz.underlying3 (w_zero3 _) w.heap.size x D rfl hown _ _ rfl hkey ?_; intro c hat hwc; obtain rfl := HV.out c hat; rw [hh]; clear hat hwc)
            | fail)
          go_ret
          exact ⟨by rw [HO.out]; rfl, HP6.out.below⟩
    · have hxe : x = n := by omega
      have HO : Hid (ok = false) := by
        rw [Bool.eq_false_iff]
        intro hc
        obtain ⟨x', y', hx', hy', e1, e2, e3⟩ := HOK.out.1 hc
        exact e3 (HW.out.same x' y' (by omega) (by omega) e1 e2)
      clear hxe
      go_wp2_with fail
      go_ret
      exact ⟨by rw [HO.out]; rfl, HP.out.below⟩

end Go.Proofs.YtebcjaenhiiflaaGreatDoor.S.X
namespace Go.Proofs.YtebcjaenhiiflaaGreatDoor.S.X
open Go.RowKit Go.WideMaps Go.Maps

theorem OwnsP.mono {w : World} {B B' : Nat} {v : Value} {L : List (Nat × Nat)} (h : OwnsP w B v L) (hB : B' ≤ B) : OwnsP w B' v L := by
  refine ⟨h.1, ?_⟩
  rcases h.2 with hh | ⟨g, cap, cur, h1, h2, h3, h4⟩
  · exact Or.inl hh
  · exact Or.inr ⟨g, cap, cur, h1, by omega, h3, h4⟩

theorem append_P (ty : TypeId) (w : World) (B : Nat) (v : Value) (L M : List (Nat × Nat)) (h : OwnsP w B v L) (hB : B ≤ w.heap.size) (a : Addr) (m c : Nat) (hm : m = M.length) (hM : ∀ j u, (rowP M)[j]? = some u → w.cell? (a.add j) = some u) (hl : L.length + M.length ≤ 100000) :
    ∃ v' w', (Builtin.append_ #[65, 65] ty #[v, .slice (some a) m c]).run Tryz.prog w = .ok v' w' ∧ OwnsP w' B v' (L ++ M) ∧ w.grownBy w' v.ownBlock ∧ G.Fresh w v v' := by
  subst hm
  obtain ⟨i, hi, hs, hb, hz⟩ := info180
  have own : ∀ B', OwnsP w B' v L → B' ≤ w.heap.size → ∃ v' w', (Builtin.append_ #[65, 65] ty #[v, .slice (some a) M.length c]).run Tryz.prog w = .ok v' w' ∧ OwnsP w' B' v' (L ++ M) ∧ w.grownBy w' v.ownBlock := by
    intro B' h' hB'
    obtain ⟨v', w', h1, h2, h3, _⟩ := run_append_own (P := Tryz.prog) w B' 65 ty 180 i zP 2 16 Tryz.underlying65 hi hz hs hb (by rw [zP_cells]; rfl) (by omega) v L.length (rowP L) h' a M.length c (rowP M) (rowP_length M) hM (rowP_one M) (by simp only [maxLen]; omega) (by omega) hB'
    refine ⟨v', w', h1, ?_, h3⟩
    show w'.ownsRow B' 180 2 v' (L ++ M).length (rowP (L ++ M))
    rw [List.length_append, rowP_append]
    exact h2
  rcases h.2 with ⟨rfl, h0⟩ | ⟨g, cap, cur, rfl, h1, h2, h3, h4, h5, h6⟩
  · have hL : L = [] := List.eq_nil_of_length_eq_zero h0
    subst hL
    obtain ⟨v', w', e1, e2, e3⟩ := own w.heap.size (World.ownsRow_nil w _ 180 2) (Nat.le_refl _)
    exact ⟨v', w', e1, e2.mono hB, e3, fun k hk => Or.inr (World.ownsRow.lt e2 k hk).1⟩
  · obtain ⟨v', w', e1, e2, e3⟩ := own B h hB
    refine ⟨v', w', e1, e2, e3, ?_⟩
    by_cases hroom : L.length + M.length ≤ cap
    · have hr := run_append_room (P := Tryz.prog) w 65 ty 180 i Tryz.underlying65 hi g L.length cap cur h2 a M.length c (rowP M) (by rw [hs]; exact rowP_length M) hM (rowP_one M) hroom (by rw [hs, h5, rowP_length]; omega)
      rw [hr] at e1
      injection e1 with e1 _
      subst e1
      intro k hk
      exact Or.inl hk
    · have hr := run_append_grow (P := Tryz.prog) w 65 ty 180 i zP Tryz.underlying65 hi hz ⟨g, 0, none⟩ L.length cap (rowP L) (by rw [hs]; exact rowP_length L) (World.ownsRow.cells h rfl) a M.length c (rowP M) (by rw [hs]; exact rowP_length M) hM (by omega) (by omega) (growslice_fits (by omega) (by rw [hb]; omega))
      rw [hr] at e1
      injection e1 with e1 _
      subst e1
      intro k hk
      have hk' : w.heap.size = k := by simpa [Value.ownBlock] using hk
      exact Or.inr (by omega)

/-- One pair more, and where its row lies. -/
theorem more_pair (ty : TypeId) (W : World) (B : Nat) (u : Value) (M : List (Nat × Nat)) (x y : Nat) (h : OwnsP W B u M) (hB : B ≤ W.heap.size) (hl : M.length ≤ 1000) :
    ∃ v' w', (Builtin.append_ #[65, 65] ty #[u, .slice (some ⟨W.heap.size, 0, none⟩) 1 1]).run Tryz.prog (W.alloc (.cells #[.int .i64 (x : Int), .int .i64 (y : Int)] 180)) = .ok v' w' ∧ OwnsP w' B v' (M ++ [(x, y)]) ∧ W.grownBy w' u.ownBlock ∧ G.Fresh W u v' := by
  have hbx : Below W.heap.size W (W.alloc (.cells #[.int .i64 (x : Int), .int .i64 (y : Int)] 180)) := (Below.refl _ _).alloc (Nat.le_refl _) _
  obtain ⟨v', w', h1, h2, h3, h4⟩ := append_P ty _ B u M [(x, y)] (h.below hbx) (Nat.le_trans hB (by simp)) ⟨W.heap.size, 0, none⟩ 1 1 rfl (pair_cells W x y) (by simp; omega)
  refine ⟨v', w', h1, h2, ⟨h3.os.trans hbx.os, h3.tape.trans hbx.tape, h3.output.trans hbx.output, Nat.le_trans hbx.size h3.size, fun k hk hn => (h3.block k (Nat.lt_of_lt_of_le hk hbx.size) hn).trans (hbx.block k hk)⟩, fun k hk => ?_⟩
  rcases h4 k hk with h5 | h5
  · exact Or.inl h5
  · exact Or.inr (Nat.le_trans (by simp) h5)

/-- The labels without one node's edges, and without two. -/
def lab1 (n : Nat) (R : List (Int × Int × Int)) (i : Nat) : List Nat := joins (List.range n) (R.filter (kp fun x => decide (x ≠ i)))
def lab2 (n : Nat) (R : List (Int × Int × Int)) (i j : Nat) : List Nat := joins (List.range n) (R.filter (kp fun x => decide (x ≠ i ∧ x ≠ j)))

section
variable {n : Nat} {R : List (Int × Int × Int)}
theorem lw1 (hin : Inn n R) (i : Nat) : Lw n R [i] (lab1 n R i) := lw_joins hin _ (fun z => by simp)
theorem lw2 (hin : Inn n R) (i j : Nat) : Lw n R [i, j] (lab2 n R i j) := lw_joins hin _ (fun z => by simp)

theorem part_labels (hin : Inn n R) (a b : Nat) : PartP R n a b ↔ ∃ x y, x < n ∧ y < n ∧ (lab1 n R a).getD x 0 = (lab1 n R a).getD y 0 ∧ (lab1 n R b).getD x 0 = (lab1 n R b).getD y 0 ∧ (lab2 n R a b).getD x 0 ≠ (lab2 n R a b).getD y 0 := by
  constructor
  · rintro ⟨x, y, hx, hy, h1, h2, h3⟩
    exact ⟨x, y, hx, hy, ((lw1 hin a).iff x y hx hy).2 h1, ((lw1 hin b).iff x y hx hy).2 h2, fun k => h3 (((lw2 hin a b).iff x y hx hy).1 k)⟩
  · rintro ⟨x, y, hx, hy, h1, h2, h3⟩
    exact ⟨x, y, hx, hy, ((lw1 hin a).iff x y hx hy).1 h1, ((lw1 hin b).iff x y hx hy).1 h2, fun k => h3 (((lw2 hin a b).iff x y hx hy).2 k)⟩
end

/-- The row 'alone' behind k nodes. -/
structure Al (w0 w : World) (A n k : Nat) (R : List (Int × Int × Int)) : Prop where
  cell : ∀ i, i < k → ∃ p b, w.cell? ⟨A, i, none⟩ = some (.pointer (some ⟨p, 0, none⟩)) ∧ SetsAt w p b (lab1 n R i) ∧ p ≠ A ∧ b ≠ A
  rest : ∀ i, k ≤ i → i < n → w.cell? ⟨A, i, none⟩ = some (.pointer none)
  fz : ∀ i, w.frozen? ⟨A, i, none⟩ = false
  lt : A < w.heap.size
  ge : w0.heap.size ≤ A
  below : Below w0.heap.size w0 w

section
variable {w0 w w' : World} {A n k : Nat} {R : List (Int × Int × Int)}
theorem Al.below' (h : Al w0 w A n k R) (hb : Below w.heap.size w w') : Al w0 w' A n k R := by
  refine ⟨fun i hi => ?_, fun i h1 h2 => cell_below (h.rest i h1 h2) hb, fun i => ?_, Nat.lt_of_lt_of_le h.lt hb.size, h.ge, h.below.trans (hb.mono h.below.size)⟩
  · obtain ⟨p, b, h1, h2, h3, h4⟩ := h.cell i hi
    exact ⟨p, b, cell_below h1 hb, h2.below hb h2.plt h2.blt, h3, h4⟩
  · have := h.fz i
    simp only [World.frozen?] at this ⊢
    rw [hb.block _ h.lt]; exact this

theorem Al.step (h : Al w0 w A n k R) (hk : k < n) {p b : Nat} (hs : SetsAt w p b (lab1 n R k)) (hp : p ≠ A) (hb : b ≠ A) : Al w0 (w.setCell ⟨A, k, none⟩ (.pointer (some ⟨p, 0, none⟩))) A n (k + 1) R := by
  have hold := h.rest k (Nat.le_refl _) hk
  have keep' : ∀ {v p b l}, SetsAt w p b l → p ≠ A → b ≠ A → SetsAt (w.setCell ⟨A, k, none⟩ v) p b l := fun {v p b l} h h1 h2 => ⟨by rw [Below.heap_setCell _ _ _ _ h1]; exact h.hp, by rw [Below.heap_setCell _ _ _ _ h2]; exact h.hb⟩
  refine ⟨fun i hi => ?_, fun i h1 h2 => ?_, fun i => ?_, by simpa using h.lt, h.ge, h.below.trans ⟨rfl, rfl, rfl, by simp, fun j hj => Below.heap_setCell _ _ _ _ (show j ≠ A by have := h.ge; omega)⟩⟩
  · by_cases e : i = k
    · subst e
      exact ⟨p, b, World.cell?_setCell_same _ _ _ hold, keep' hs hp hb, hp, hb⟩
    · obtain ⟨p', b', h1, h2, h3, h4⟩ := h.cell i (by omega)
      exact ⟨p', b', (World.cell?_setCell_other _ _ _ _ (fun c => e (by injection c with _ c _; omega))).trans h1, keep' h2 h3 h4, h3, h4⟩
  · exact (World.cell?_setCell_other _ _ _ _ (fun c => by injection c with _ c _; omega)).trans (h.rest i (by omega) h2)
  · rw [World.frozen?_setCell]; exact h.fz i
end

theorem info175 : (Tryz.prog.info? 175).map (fun i => (i.zero, i.size, i.bytes)) = some (some (.pointer none), 1, 8) := by kernel_rfl

theorem al_start (w0 W : World) (n : Nat) (R : List (Int × Int × Int)) (hb : Below w0.heap.size w0 W) : Al w0 (W.alloc (.cells (madeCells #[.pointer none] n) 175)) W.heap.size n 0 R := by
  have hh := heap_alloc_new W (.cells (madeCells #[.pointer none] n) 175)
  refine ⟨fun i hi => by omega, fun i _ hi => ?_, fun i => ?_, by simp, hb.size, hb.alloc hb.size _⟩
  · simp only [World.cell?, hh]
    simp [madeCells, hi, Nat.mod_one]
  · simp only [World.frozen?, hh]; rfl

/-- What Pairs holds on to in its two loops: the row of pairs, the memory below. -/
structure Pr (W1 w : World) (u : Value) (M : List (Nat × Nat)) : Prop where
  own : OwnsP w W1.heap.size u M
  below : Below W1.heap.size W1 w

theorem Pr.below' {W1 w w' : World} {u : Value} {M : List (Nat × Nat)} (h : Pr W1 w u M) (hb : Below w.heap.size w w') : Pr W1 w' u M := ⟨h.own.below hb, h.below.trans (hb.mono h.below.size)⟩

/-- .. with the boxes of the two nodes. -/
structure B3 (W1 w : World) (ba bb a b : Nat) (u : Value) (M : List (Nat × Nat)) : Prop where
  pr : Pr W1 w u M
  ca : w.heap[ba]? = some (.cells #[.int .i64 (a : Int)] 3)
  cb : w.heap[bb]? = some (.cells #[.int .i64 (b : Int)] 3)
  na : u.ownBlock ≠ some ba
  nb : u.ownBlock ≠ some bb
  ne : ba ≠ bb
  ga : W1.heap.size ≤ ba
  gb : W1.heap.size ≤ bb

section
variable {W1 w w' : World} {ba bb a b : Nat} {u u' : Value} {M : List (Nat × Nat)}
theorem B3.cella (h : B3 W1 w ba bb a b u M) : w.cell? ⟨ba, 0, none⟩ = some (.int .i64 (a : Int)) := by simp [World.cell?, h.ca]
theorem B3.cellb (h : B3 W1 w ba bb a b u M) : w.cell? ⟨bb, 0, none⟩ = some (.int .i64 (b : Int)) := by simp [World.cell?, h.cb]
theorem B3.below' (h : B3 W1 w ba bb a b u M) (hb : Below w.heap.size w w') : B3 W1 w' ba bb a b u M :=
  { h with pr := h.pr.below' hb, ca := (hb.block _ (lt_of_some h.ca)).trans h.ca, cb := (hb.block _ (lt_of_some h.cb)).trans h.cb }

theorem B3.start {M : List (Nat × Nat)} (h : Pr W1 w u M) (a : Nat) : B3 W1 ((w.alloc (.cells #[.int .i64 (a : Int)] 3)).alloc (.cells #[.int .i64 ((a + 1 : Nat) : Int)] 3)) w.heap.size (w.heap.size + 1) a (a + 1) u M := by
  have h1 : Below w.heap.size w (w.alloc (.cells #[.int .i64 (a : Int)] 3)) := (Below.refl _ _).alloc (Nat.le_refl _) _
  have h2 : Below (w.alloc (.cells #[.int .i64 (a : Int)] 3)).heap.size (w.alloc (.cells #[.int .i64 (a : Int)] 3)) ((w.alloc (.cells #[.int .i64 (a : Int)] 3)).alloc (.cells #[.int .i64 ((a + 1 : Nat) : Int)] 3)) := (Below.refl _ _).alloc (Nat.le_refl _) _
  have hc := heap_alloc_new w (.cells #[.int .i64 (a : Int)] 3)
  have hd := heap_alloc_new (w.alloc (.cells #[.int .i64 (a : Int)] 3)) (.cells #[.int .i64 ((a + 1 : Nat) : Int)] 3)
  rw [World.size_alloc] at hd
  have hsz := h.below.size
  have hlt : ∀ j, u.ownBlock = some j → j < w.heap.size := fun j hj => (World.ownsRow.lt h.own j hj).2
  exact ⟨(h.below' h1).below' h2, (h2.block _ (lt_of_some hc)).trans hc, hd, fun e => by have := hlt _ e; omega, fun e => by have := hlt _ e; omega, by omega, by omega, by omega⟩

/-- The next second node, in a box of its own. -/
theorem B3.next (h : B3 W1 w ba bb a b u M) : B3 W1 (w.alloc (.cells #[.int .i64 ((b + 1 : Nat) : Int)] 3)) ba w.heap.size a (b + 1) u M := by
  have h1 : Below w.heap.size w (w.alloc (.cells #[.int .i64 ((b + 1 : Nat) : Int)] 3)) := (Below.refl _ _).alloc (Nat.le_refl _) _
  have hl := lt_of_some h.ca
  exact ⟨h.pr.below' h1, (h1.block _ hl).trans h.ca, heap_alloc_new w _, h.na, fun e => by have := (World.ownsRow.lt h.pr.own _ e).2; omega, by omega, h.ga, h.pr.below.size⟩

theorem B3.more (h : B3 W1 w ba bb a b u M) (ho : OwnsP w' W1.heap.size u' (M ++ [(a, b)])) (hg : w.grownBy w' u.ownBlock) (hf : G.Fresh w u u') : B3 W1 w' ba bb a b u' (M ++ [(a, b)]) := by
  have hla := lt_of_some h.ca
  have hlb := lt_of_some h.cb
  refine ⟨⟨ho, h.pr.below.grown hg h.pr.below.size (fun j hj => (World.ownsRow.lt h.pr.own j hj).1)⟩, (hg.block _ hla (fun e => h.na e.symm)).trans h.ca, (hg.block _ hlb (fun e => h.nb e.symm)).trans h.cb, fun e => ?_, fun e => ?_, h.ne, h.ga, h.gb⟩
  · rcases hf _ e with h1 | h1
    · exact h.na h1
    · omega
  · rcases hf _ e with h1 | h1
    · exact h.nb h1
    · omega
end

end Go.Proofs.YtebcjaenhiiflaaGreatDoor.S.X
namespace Go.Proofs.YtebcjaenhiiflaaGreatDoor.S.X
open Go.RowKit Go.WideMaps Go.Maps

set_option maxHeartbeats 4000000 in
set_option maxRecDepth 100000 in
theorem spairs_any (n B p : Nat) (v : Value) (R : List (Int × Int × Int)) (P : Nat → Nat → Bool) (w : World) (h : G.GAt w B 168 61 p (n : Int) v R) (hn : n ≤ 16) (hin : Inn n R) (hl : R.length ≤ 120) (hP : ∀ a b, a < n → b < n → (P a b = true ↔ PartP R n a b)) :
    Calls Tryz.prog 85 #[.pointer (some ⟨p, 0, none⟩)] w fun e w' => ∃ u, e = .returned u ∧ OwnsP w' w.heap.size u (allK P n n) ∧ Below w.heap.size w w' := by
  have HG : Hid (G.GAt w B 168 61 p (n : Int) v R) := h
  have HIN : Hid (Inn n R ∧ R.length ≤ 120) := ⟨hin, hl⟩
  have HP : Hid (∀ a b, a < n → b < n → (P a b = true ↔ PartP R n a b)) := hP
  have hmk := fun W => run_make_row' (P := Tryz.prog) 212 175 (.pointer none) 8 Tryz.underlying212 info175 rfl .i64 .i64 n (by omega) (by omega) W
  clear h hin hl hP
  go_enter Tryz.func85, Tryz.ntmps85
  go_wp2_with fail
  refine (G.nodes_any (n : Int) B p v R _ HG.out).mono ?_
  rintro e w0 ⟨rfl, hw0⟩
  subst hw0
  go_wp2_with fail
  refine (G.edges_any (n : Int) B p v R _ HG.out HIN.out.2).mono ?_
  rintro e w1 ⟨ue, rfl, hoe, hb1⟩
  have HE : Hid (G.Owns w1 w0.heap.size 61 ue R ∧ Below w0.heap.size w0 w1) := ⟨hoe, hb1⟩
  have HA0 : Hid (Al w1 (w1.alloc (.cells (madeCells #[.pointer none] n) 175)) w1.heap.size n 0 R) := al_start w1 w1 n R (Below.refl _ _)
  obtain ⟨ae, ce, hue⟩ := hoe.slice_len
  clear hoe hb1
  obtain ⟨le, hle⟩ : ∃ le, R.length = le := ⟨_, rfl⟩
  have HLE : Hid (R.length = le) := hle
  rw [hle] at hue
  subst hue
  go_wp2_with fail
  clear hmk hle
  go_loopw [19] (fun s19 wq => ∃ k : Nat, k ≤ n ∧ s19 = .int .i64 k ∧ Al w1 wq w1.heap.size n k R) (fun s19 _ => n - (intOf s19).toNat)
  case atStart => exact ⟨0, Nat.zero_le _, rfl, HA0.out⟩
  case round =>
    clear HA0
    obtain ⟨k, hk, rfl, hal⟩ := hrel
    have HA : Hid (Al w1 wr w1.heap.size n k R) := hal
    clear hal
    by_cases hlt : k < n
    · as_aux_lemma =>
      have hb1 : Below wr.heap.size wr ((wr.alloc (.cells #[.int .i64 (k : Int)] 3)).drew) := ((Below.refl _ _).alloc (Nat.le_refl _) _).drew
      have HC : Hid (Calls Tryz.prog 147 #[.int .i64 (n : Int), .slice ae le ce, .func (.func 148) #[] #[.pointer (some ⟨wr.heap.size, 0, none⟩)]] ((wr.alloc (.cells #[.int .i64 (k : Int)] 3)).drew) fun e w' => ∃ q, e = .returned (.pointer (some ⟨q, 0, none⟩)) ∧ w'.cell? ⟨wr.heap.size, 0, none⟩ = some (.int .i64 (k : Int)) ∧ w'.cell? ⟨w1.heap.size, k, none⟩ = some (.pointer none) ∧ w'.frozen? ⟨w1.heap.size, k, none⟩ = false ∧ (w'.setCell ⟨w1.heap.size, k, none⟩ (.pointer (some ⟨q, 0, none⟩))).cell? ⟨wr.heap.size, 0, none⟩ = some (.int .i64 (k : Int)) ∧ Hid (Al w1 (w'.setCell ⟨w1.heap.size, k, none⟩ (.pointer (some ⟨q, 0, none⟩))) w1.heap.size n (k + 1) R)) := by
        have hc : ((wr.alloc (.cells #[.int .i64 (k : Int)] 3)).drew).cell? ⟨wr.heap.size, 0, none⟩ = some (.int .i64 (k : Int)) := by simp
        have hA1 := HA.out.below' hb1
        refine (together_one n w0.heap.size wr.heap.size (fun x => decide (x ≠ k)) (.slice ae le ce) R _ (HE.out.1.below (HA.out.below.trans (hb1.mono HA.out.below.size))) (by omega) HIN.out.1 HIN.out.2 (fun W x hW => in1_any x wr.heap.size k W (cell_below hc hW))).mono ?_
        rintro e w' ⟨q, b, rfl, hs, hq, hbq, hb2⟩
        have hA2 := hA1.below' hb2
        have := HA.out.lt
        have hsz := hb1.size
        exact ⟨q, rfl, cell_below hc hb2, hA2.rest k (Nat.le_refl _) hlt, hA2.fz k, (World.cell?_setCell_other _ _ _ _ (fun c => by injection c with c _ _; omega)).trans (cell_below hc hb2), hA2.step hlt hs (by omega) (by omega)⟩
      have hmf' := hmf
      have hS0 : ((wr.alloc (.cells #[.int .i64 (k : Int)] 3)).drew).cell? ⟨wr.heap.size, 0, none⟩ = some (.int .i64 (k : Int)) := by simp
      clear hb1 HA
      go_upto_region 6 with fail
      go_region_with (go_at_call 147; refine HC.out.mono ?_; rintro e w' ⟨q, rfl, hc1, hc2, hf2, hc3, hA2⟩)
      all_goals
        go_wp2_with fail
        go_roundw
        case rel => exact ⟨k + 1, by omega, by go_num, hA2.out⟩
        case measure => simp [intOf]; omega
    · have hke : k = n := by omega
      subst hke
      have HPR0 : Hid (Pr wr wr (.slice none 0 0) (allK P k 0)) := ⟨World.ownsRow_nil _ _ _ _, Below.refl _ _⟩
      obtain ⟨W1, hW1⟩ : ∃ W1, wr = W1 := ⟨_, rfl⟩
      rw [hW1] at HA HPR0 ⊢
      clear hW1
      go_wp2_with fail
      go_loopw [7, 31] (fun s7 s31 wq => ∃ a : Nat, a ≤ k ∧ s31 = .int .i64 a ∧ Pr W1 wq s7 (allK P k a)) (fun _ s31 _ => k - (intOf s31).toNat)
      case atStart => exact ⟨0, Nat.zero_le _, rfl, HPR0.out⟩
      case round =>
        clear HPR0
        obtain ⟨a, ha, rfl, hpr⟩ := hrel
        have HPR : Hid (Pr W1 wr u7 (allK P k a)) := hpr
        clear hpr
        by_cases hla : a < k
        · have HB0 : Hid (B3 W1 ((wr.alloc (.cells #[.int .i64 (a : Int)] 3)).alloc (.cells #[.int .i64 ((a : Int) + 1)] 3)) wr.heap.size (wr.heap.size + 1) a (a + 1) u7 (allK P k a ++ rowK P a (a + 1))) := by
            have := B3.start HPR.out a
            rw [show ((a + 1 : Nat) : Int) = (a : Int) + 1 from by omega] at this
            show B3 _ _ _ _ _ _ _ _
            rw [rowK_start, List.append_nil]
            exact this
          obtain ⟨ba, hba⟩ : ∃ ba, wr.heap.size = ba := ⟨_, rfl⟩
          have HBA : Hid (wr.heap.size = ba) := hba
          go_wp2_with fail
          rw [hba] at HB0
          clear hba
          go_loopg [7, 9] (k - (a + 1)) (fun r s7 s9 wq => ∃ b bb : Nat, b + r = k ∧ a < b ∧ s9 = .pointer (some ⟨bb, 0, none⟩) ∧ B3 W1 wq ba bb a b s7 (allK P k a ++ rowK P a b))
          case atStart => exact ⟨a + 1, ba + 1, by omega, by omega, rfl, HB0.out⟩
          case round =>
            clear HB0 HPR
            obtain ⟨b, bb, hbk, hab, rfl, hb3⟩ := hrel
            have HB : Hid (B3 W1 wr ba bb a b u7 (allK P k a ++ rowK P a b)) := hb3
            clear hb3
            have ca := HB.out.cella
            have cb := HB.out.cellb
            by_cases hlb : b < k
            · have HT : Hid (Calls Tryz.prog 147 #[.int .i64 (k : Int), .slice ae le ce, .func (.func 149) #[] #[.pointer (some ⟨ba, 0, none⟩), .pointer (some ⟨bb, 0, none⟩)]] wr (TogPost wr k R fun x => decide (x ≠ a ∧ x ≠ b))) := by
                have hb1 := HA.out.below
                have hb2 := HB.out.pr.below
                exact together_two k w0.heap.size ba bb _ (.slice ae le ce) R wr (HE.out.1.below (hb1.trans (hb2.mono hb1.size))) (by omega) HIN.out.1 HIN.out.2 (fun W x hW => in2_any x ba bb a b W (cell_below ca hW) (cell_below cb hW))
              have hmf' := hmf
              go_wp2_with fail
              refine HT.out.mono ?_
              rintro e w2 ⟨q, bq, rfl, hsq, _, _, hb2⟩
              have HB2 : Hid (B3 W1 w2 ba bb a b u7 (allK P k a ++ rowK P a b)) := HB.out.below' hb2
              have hA2 := (HA.out.below' HB2.out.pr.below)
              obtain ⟨pa, xa, ea1, ea2, _, _⟩ := hA2.cell a (by omega)
              obtain ⟨pb, xb, eb1, eb2, _, _⟩ := hA2.cell b hlb
              have HC : Hid (Calls Tryz.prog 150 #[.int .i64 (k : Int), .pointer (some ⟨pa, 0, none⟩), .pointer (some ⟨pb, 0, none⟩), .pointer (some ⟨q, 0, none⟩)] w2.drew fun e w' => e = .returned (.bool (P a b)) ∧ (w'.cell? ⟨ba, 0, none⟩ = some (.int .i64 (a : Int)) ∧ w'.cell? ⟨bb, 0, none⟩ = some (.int .i64 (b : Int)) ∧ w'.cell? ⟨w1.heap.size, a, none⟩ = some (.pointer (some ⟨pa, 0, none⟩)) ∧ w'.cell? ⟨w1.heap.size, b, none⟩ = some (.pointer (some ⟨pb, 0, none⟩))) ∧ Hid (B3 W1 w' ba bb a b u7 (allK P k a ++ rowK P a b))) := by
                have hd : Below w2.heap.size w2 w2.drew := (Below.refl _ _).drew
                refine (part_any k pa xa pb xb q bq (lab1 k R a) (lab1 k R b) (lab2 k R a b) (P a b) w2.drew (ea2.below hd ea2.plt ea2.blt) (eb2.below hd eb2.plt eb2.blt) (SetsAt.below hsq hd hsq.plt hsq.blt) (by omega) (good_kept HIN.out.1 _) (good_kept HIN.out.1 _) (good_kept HIN.out.1 _) ?_).mono ?_
                · rw [HP.out a b (by omega) hlb, part_labels HIN.out.1]
                · rintro e w' ⟨rfl, hb⟩
                  have h3 := (HB2.out.below' hd).below' hb
                  exact ⟨rfl, ⟨h3.cella, h3.cellb, cell_below (cell_below ea1 hd) hb, cell_below (cell_below eb1 hd) hb⟩, h3⟩
              have hS0 : w2.drew.cell? ⟨ba, 0, none⟩ = some (.int .i64 (a : Int)) ∧ w2.drew.cell? ⟨bb, 0, none⟩ = some (.int .i64 (b : Int)) ∧ w2.drew.cell? ⟨w1.heap.size, a, none⟩ = some (.pointer (some ⟨pa, 0, none⟩)) ∧ w2.drew.cell? ⟨w1.heap.size, b, none⟩ = some (.pointer (some ⟨pb, 0, none⟩)) := ⟨HB2.out.cella, HB2.out.cellb, ea1, eb1⟩
              clear hA2 ea1 ea2 eb1 eb2 hsq hb2 HT HB HB2 ca cb hmf'
              have hlen : (allK P k a ++ rowK P a b).length ≤ 1000 := by
                have h1 := allK_len P (n := k) (a := a)
                have h2 := rowK_len P (a := a) (b := b)
                have h3 : a * k ≤ 16 * 16 := Nat.mul_le_mul (by omega) hn
                rw [List.length_append]; omega
              cases hPab : P a b with
              | true =>
                as_aux_lemma =>
                rw [hPab] at HC
                obtain ⟨ca2, cb2, ea1, eb1⟩ := hS0
                go_upto_region 16 with fail
                go_region_with (go_at_call 150; refine HC.out.mono ?_; rintro e w' ⟨rfl, hS1, hB3⟩)
                all_goals
                  obtain ⟨ca3, cb3, _, _⟩ := hS1
                  obtain ⟨v', w4, hr, ho4, hg4, hf4⟩ := more_pair 65 w' W1.heap.size u7 _ a b hB3.out.pr.own hB3.out.pr.below.size hlen
                  have HR : Hid (_ = _) := hr
                  have HB4 : Hid (B3 W1 w4 ba bb a b v' (allK P k a ++ rowK P a (b + 1))) := by
                    have := hB3.out.more ho4 hg4 hf4
                    rw [List.append_assoc, ← rowK_yes P hab hPab] at this
                    exact this
                  have cb4 := HB4.out.cellb
                  have HN : Hid (B3 W1 (w4.alloc (.cells #[.int .i64 ((b : Int) + 1)] 3)) ba w4.heap.size a (b + 1) v' (allK P k a ++ rowK P a (b + 1))) := by
                    have := HB4.out.next
                    rw [show ((b + 1 : Nat) : Int) = (b : Int) + 1 from by omega] at this
                    exact this
                  clear hr ho4 hg4 hf4 hB3 HB4
                  go_wp2_with (at_builtin; refine Lib.wpList_append_run _ rfl _ _ _ _ rfl _ _ rfl rfl _ _ HR.out ?_)
                  go_roundg (gk - 1)
                  case measure => omega
                  case rel => exact ⟨b + 1, w4.heap.size, by omega, by omega, rfl, HN.out⟩
              | false =>
                as_aux_lemma =>
                rw [hPab] at HC
                obtain ⟨ca2, cb2, ea1, eb1⟩ := hS0
                go_upto_region 16 with fail
                go_region_with (go_at_call 150; refine HC.out.mono ?_; rintro e w' ⟨rfl, hS1, hB3⟩)
                all_goals
                  obtain ⟨ca3, cb3, _, _⟩ := hS1
                  have HN : Hid (B3 W1 (w'.alloc (.cells #[.int .i64 ((b : Int) + 1)] 3)) ba w'.heap.size a (b + 1) u7 (allK P k a ++ rowK P a (b + 1))) := by
                    have := hB3.out.next
                    rw [show ((b + 1 : Nat) : Int) = (b : Int) + 1 from by omega, ← rowK_no P hPab] at this
                    exact this
                  clear hB3
                  go_wp2_with fail
                  go_roundg (gk - 1)
                  case measure => omega
                  case rel => exact ⟨b + 1, w'.heap.size, by omega, by omega, rfl, HN.out⟩
            · have hbe : b = k := by omega
              have HF : Hid (Pr W1 wr u7 (allK P k (a + 1))) := by
                have := HB.out.pr
                rw [hbe, ← allK_succ] at this
                exact this
              clear hbe
              go_wp2_with fail
              go_roundw
              case rel => exact ⟨a + 1, by omega, by go_num, HF.out⟩
              case measure => simp [intOf]; omega
        · have hae : a = k := by omega
          subst hae
          have HF : Hid (OwnsP wr w0.heap.size u7 (allK P a a) ∧ Below w0.heap.size w0 wr) := by
            have hb1 := HE.out.2
            have hb2 := HA.out.below
            have hb3 := HPR.out.below
            refine ⟨HPR.out.own.mono (Nat.le_trans hb1.size hb2.size), (hb1.trans (hb2.mono hb1.size)).trans (hb3.mono (Nat.le_trans hb1.size hb2.size))⟩
          go_wp2_with fail
          go_ret
          exact ⟨_, rfl, HF.out.1, HF.out.2⟩

end Go.Proofs.YtebcjaenhiiflaaGreatDoor.S.X
