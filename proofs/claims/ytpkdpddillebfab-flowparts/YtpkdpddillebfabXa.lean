/- Which two nodes part together: the plain mathematics; rows of pairs. -/
import Derived.Test.YtpkdpddillebfabYl
namespace Go.Proofs.Ytpkdpddillebfab.S
open Go.RowKit

/-- Together, by the edges that have no end among S. -/
def cnw (R : List (Int × Int × Int)) (S : List Nat) : Nat → Nat → Prop := cn ea eb (fun e => e ∈ R ∧ ea e ∉ S ∧ eb e ∉ S)

section
variable {R R' : List (Int × Int × Int)} {S S' : List Nat} {x y a b n : Nat}

theorem cnw_alone (h : cnw R S x y) (hx : x ∈ S) : x = y := by
  have := Conn.least (P := fun u v => u = v ∨ (u ∉ S ∧ v ∉ S)) h (fun x => .inl rfl) ?_ ?_ ?_
  · rcases this with h | ⟨h, _⟩
    · exact h
    · exact absurd hx h
  · rintro x y (h | ⟨h, k⟩)
    · exact .inl h.symm
    · exact .inr ⟨k, h⟩
  · rintro x y z (rfl | ⟨h, k⟩) h2
    · exact h2
    · rcases h2 with rfl | ⟨h3, h4⟩
      · exact .inr ⟨h, k⟩
      · exact .inr ⟨h, h4⟩
  · rintro x y ⟨e, ⟨_, h1, h2⟩, rfl, rfl⟩
    exact .inr ⟨h1, h2⟩

theorem cnw_symm (h : cnw R S x y) : cnw R S y x := cn_symm h
theorem cnw_refl (x : Nat) : cnw R S x x := cn_refl x

theorem cnw_congr (hR : ∀ e, e ∈ R ↔ e ∈ R') (hS : ∀ z, z ∈ S ↔ z ∈ S') : cnw R S x y ↔ cnw R' S' x y :=
  ⟨fun h => cn_mono h fun e ⟨h1, h2, h3⟩ => ⟨(hR e).1 h1, fun k => h2 ((hS _).2 k), fun k => h3 ((hS _).2 k)⟩, fun h => cn_mono h fun e ⟨h1, h2, h3⟩ => ⟨(hR e).2 h1, fun k => h2 ((hS _).1 k), fun k => h3 ((hS _).1 k)⟩⟩

/-- Two nodes part together: as the program asks, and as the document does. -/
def PartP (R : List (Int × Int × Int)) (n a b : Nat) : Prop := ∃ x y, x < n ∧ y < n ∧ cnw R [a] x y ∧ cnw R [b] x y ∧ ¬ cnw R [a, b] x y
def DocP (R : List (Int × Int × Int)) (a b x y : Nat) : Prop := ¬ (x = a ∨ x = b ∨ y = a ∨ y = b) ∧ cnw R [a] x y ∧ cnw R [b] x y ∧ ¬ cnw R [a, b] x y

theorem DocP.swap (h : DocP R a b x y) : DocP R a b y x :=
  ⟨fun k => h.1 (by omega), cnw_symm h.2.1, cnw_symm h.2.2.1, fun k => h.2.2.2 (cnw_symm k)⟩

theorem part_doc : PartP R n a b ↔ ∃ x y, y < x ∧ x < n ∧ DocP R a b x y := by
  constructor
  · rintro ⟨x, y, hx, hy, h1, h2, h3⟩
    have hne : x ≠ y := fun e => h3 (e ▸ cnw_refl x)
    have hd : DocP R a b x y := by
      refine ⟨?_, h1, h2, h3⟩
      rintro (rfl | rfl | rfl | rfl)
      · exact hne (cnw_alone h1 (by simp))
      · exact hne (cnw_alone h2 (by simp))
      · exact hne (cnw_alone (cnw_symm h1) (by simp)).symm
      · exact hne (cnw_alone (cnw_symm h2) (by simp)).symm
    rcases Nat.lt_or_gt_of_ne hne with h | h
    · exact ⟨y, x, h, hy, hd.swap⟩
    · exact ⟨x, y, h, hx, hd⟩
  · rintro ⟨x, y, h, hx, _, h1, h2, h3⟩
    exact ⟨x, y, hx, by omega, h1, h2, h3⟩

/-- A row of labels that tells who is together without all edges of S. -/
structure Lw (n : Nat) (R : List (Int × Int × Int)) (S : List Nat) (l : List Nat) : Prop where
  len : l.length = n
  iff : ∀ u v, u < n → v < n → (l.getD u 0 = l.getD v 0 ↔ cnw R S u v)

/-- The edges whose ends both go in. -/
def kp (inn : Nat → Bool) (e : Int × Int × Int) : Bool := inn (ea e) && inn (eb e)

theorem joins_snoc (L : List Nat) (ds : List (Int × Int × Int)) (d : Int × Int × Int) : joins L (ds ++ [d]) = joinL (joins L ds) (ea d) (eb d) := by
  induction ds generalizing L with
  | nil => rfl
  | cons c ds ih => exact ih _

theorem Lk_range (n u v : Nat) : Lk n (List.range n) u v ↔ u = v := by
  constructor
  · rintro (h | ⟨h1, h2, h3⟩)
    · exact h
    · simpa [h1, h2] using h3
  · exact .inl

theorem inn_filter (hin : Inn n R) (p : Int × Int × Int → Bool) : ∀ d ∈ R.filter p, ea d < n ∧ eb d < n := fun d hd => by
  have := hin d (List.mem_filter.1 hd).1
  exact ⟨this.1, this.2.1⟩

theorem good_kept (hin : Inn n R) (inn : Nat → Bool) : Good n (joins (List.range n) (R.filter (kp inn))) := good_joins _ _ (good_range n) (inn_filter hin _)

theorem lw_joins (hin : Inn n R) (inn : Nat → Bool) (hS : ∀ z, inn z = true ↔ z ∉ S) : Lw n R S (joins (List.range n) (R.filter (kp inn))) := by
  have g := good_kept hin inn
  refine ⟨g.len, fun u v hu hv => ?_⟩
  rw [← Lk.iff hu hv, Lk_joins _ _ (good_range n) (inn_filter hin _)]
  constructor
  · intro h
    refine Conn.lift h ?_
    rintro x y (h | ⟨e, he, rfl, rfl⟩)
    · rw [(Lk_range n x y).1 h]; exact Conn.refl y
    · obtain ⟨h1, h2⟩ := List.mem_filter.1 he
      simp only [kp, Bool.and_eq_true, hS] at h2
      exact Conn.base ⟨e, ⟨h1, h2⟩, rfl, rfl⟩
  · intro h
    refine Conn.lift h ?_
    rintro x y ⟨e, ⟨h1, h2, h3⟩, rfl, rfl⟩
    exact Conn.base (.inr ⟨e, List.mem_filter.2 ⟨h1, by simp only [kp, Bool.and_eq_true, hS]; exact ⟨h2, h3⟩⟩, rfl, rfl⟩)
end

/-- Which pairs are told: those of one first node below k, and those of all first nodes below a. -/
def rowK (P : Nat → Nat → Bool) (a k : Nat) : List (Nat × Nat) := ((List.range k).filter fun b => decide (a < b) && P a b).map fun b => (a, b)
def allK (P : Nat → Nat → Bool) (n a : Nat) : List (Nat × Nat) := (List.range a).flatMap fun a => rowK P a n

section
variable (P : Nat → Nat → Bool) {a b n : Nat}
theorem rowK_start : rowK P a (a + 1) = [] := by
  unfold rowK
  rw [List.map_eq_nil_iff, List.filter_eq_nil_iff]
  intro b hb
  have := List.mem_range.1 hb
  simp; intro h; omega
theorem rowK_yes (hab : a < b) (h : P a b = true) : rowK P a (b + 1) = rowK P a b ++ [(a, b)] := by
  simp [rowK, List.range_succ, List.filter_append, hab, h]
theorem rowK_no (h : P a b = false) : rowK P a (b + 1) = rowK P a b := by
  simp [rowK, List.range_succ, List.filter_append, h]
theorem rowK_len : (rowK P a b).length ≤ b := by
  simp only [rowK, List.length_map]
  exact Nat.le_trans (List.length_filter_le _ _) (by simp)
theorem rowK_big (h : n ≤ a) : rowK P a n = [] := by
  unfold rowK
  rw [List.map_eq_nil_iff, List.filter_eq_nil_iff]
  intro b hb
  have := List.mem_range.1 hb
  simp; intro h; omega
theorem allK_succ : allK P n (a + 1) = allK P n a ++ rowK P a n := by simp [allK, List.range_succ]
theorem allK_len : (allK P n a).length ≤ a * n := by
  induction a with
  | zero => simp [allK]
  | succ a ih =>
    rw [allK_succ, List.length_append, Nat.succ_mul]
    have := rowK_len P (a := a) (b := n)
    omega
end

/-- A row of pairs. -/
def encP (x : Nat × Nat) : List Value := [.int .i64 (x.1 : Int), .int .i64 (x.2 : Int)]
def rowP (L : List (Nat × Nat)) : List Value := L.flatMap encP
theorem rowP_cons (x : Nat × Nat) (L : List (Nat × Nat)) : rowP (x :: L) = encP x ++ rowP L := rfl
theorem rowP_append (L M : List (Nat × Nat)) : rowP (L ++ M) = rowP L ++ rowP M := by simp [rowP]
theorem rowP_length : ∀ L : List (Nat × Nat), (rowP L).length = L.length * 2
  | [] => rfl
  | x :: L => by rw [rowP_cons, List.length_append, rowP_length L]; simp [encP]; omega
theorem rowP_one : ∀ (L : List (Nat × Nat)), ∀ u ∈ rowP L, u.oneCell' = true
  | [], u, h => by simp [rowP] at h
  | x :: L, u, h => by
    rw [rowP_cons, List.mem_append] at h
    rcases h with h | h
    · simp [encP] at h
      rcases h with rfl | rfl <;> rfl
    · exact rowP_one L u h
theorem rowP_at : ∀ (L : List (Nat × Nat)) (i : Nat) (x : Nat × Nat), L[i]? = some x → (rowP L)[i * 2]? = some (.int .i64 (x.1 : Int)) ∧ (rowP L)[i * 2 + 1]? = some (.int .i64 (x.2 : Int))
  | [], i, x, h => by simp at h
  | y :: L, 0, x, h => by
    simp at h; subst h
    simp [rowP_cons, encP]
  | y :: L, i + 1, x, h => by
    simp at h
    have := rowP_at L i x h
    rw [rowP_cons]
    have e1 : (i + 1) * 2 = (i * 2) + 2 := by omega
    rw [e1]
    simpa [encP] using this

def OwnsP (w : World) (B : Nat) (v : Value) (L : List (Nat × Nat)) : Prop := w.ownsRow B 48 2 v L.length (rowP L)

theorem OwnsP.below {w w' : World} {B : Nat} {v : Value} {L : List (Nat × Nat)} (h : OwnsP w B v L) (hb : Below w.heap.size w w') : OwnsP w' B v L := World.ownsRow.kept h (grown_below hb) (Classical.em _)

theorem OwnsP.shape {w : World} {B : Nat} {v : Value} {L : List (Nat × Nat)} (h : OwnsP w B v L) : ∃ a cap, v = .slice a L.length cap ∧ (0 < L.length → ∃ g, a = some ⟨g, 0, none⟩ ∧ ∀ j x, L[j]? = some x → w.cell? ⟨g, j * 2, none⟩ = some (.int .i64 (x.1 : Int)) ∧ w.cell? ⟨g, j * 2 + 1, none⟩ = some (.int .i64 (x.2 : Int))) := by
  have h0 := h
  unfold OwnsP at h0
  rcases h.2 with ⟨rfl, hz⟩ | ⟨g, cap, cur, rfl, hb, hg, _⟩
  · exact ⟨none, 0, by rw [hz], fun k => by omega⟩
  · refine ⟨_, cap, rfl, fun _ => ⟨g, rfl, fun j x hx => ?_⟩⟩
    obtain ⟨r0, r1⟩ := rowP_at L j x hx
    have hj := (List.getElem?_eq_some_iff.1 hx).1
    have hl := rowP_length L
    refine ⟨?_, ?_⟩
    · rw [h0.cellAt (j * 2) (by omega)]
      exact r0
    · rw [h0.cellAt (j * 2 + 1) (by omega)]
      exact r1

def zP : Value := .agg #[.int .i64 0, .int .i64 0]
theorem info48 : ∃ i, Try.prog.info? 48 = some i ∧ i.size = 2 ∧ i.bytes = 16 ∧ i.zero = some zP :=
  ⟨(Try.prog.info? 48).get (by kernel_rfl), by kernel_rfl, by kernel_rfl, by kernel_rfl, by kernel_rfl⟩
theorem zP_cells : zP.cells = #[.int .i64 0, .int .i64 0] := by kernel_rfl

theorem pair_cells (W : World) (x y : Nat) (j : Nat) (u : Value) (h : (rowP [(x, y)])[j]? = some u) : (W.alloc (.cells #[.int .i64 (x : Int), .int .i64 (y : Int)] 48)).cell? ((⟨W.heap.size, 0, none⟩ : Addr).add j) = some u := by
  rw [G.addr0_add]
  have hh := heap_alloc_new W (.cells #[.int .i64 (x : Int), .int .i64 (y : Int)] 48)
  simp only [World.cell?, hh]
  simpa [rowP, encP] using h

/-- One pair more. -/
theorem app_pair (ty : TypeId) (W : World) (B : Nat) (u : Value) (M : List (Nat × Nat)) (x y : Nat) (h : OwnsP W B u M) (hB : B ≤ W.heap.size) (hl : M.length ≤ 1000) :
    ∃ v' w', (Builtin.append_ #[22, 22] ty #[u, .slice (some ⟨W.heap.size, 0, none⟩) 1 1]).run Try.prog (W.alloc (.cells #[.int .i64 (x : Int), .int .i64 (y : Int)] 48)) = .ok v' w' ∧ OwnsP w' B v' (M ++ [(x, y)]) ∧ Below B W w' ∧ W.grownBy w' u.ownBlock := by
  obtain ⟨i, hi, hs, hb, hz⟩ := info48
  have hbx : Below W.heap.size W (W.alloc (.cells #[.int .i64 (x : Int), .int .i64 (y : Int)] 48)) := (Below.refl _ _).alloc (Nat.le_refl _) _
  obtain ⟨v', w', h1, h2, h3, _⟩ := run_append_own (P := Try.prog) (W.alloc (.cells #[.int .i64 (x : Int), .int .i64 (y : Int)] 48)) B 22 ty 48 i zP 2 16 Try.underlying22 hi hz hs hb (by rw [zP_cells]; rfl) (by omega) u M.length (rowP M) (h.below hbx) ⟨W.heap.size, 0, none⟩ 1 1 (rowP [(x, y)]) (by simp [rowP, encP]) (pair_cells W x y) (rowP_one _) (by simp only [maxLen]; omega) (by omega) (Nat.le_trans hB (by simp))
  have hg : W.grownBy w' u.ownBlock := ⟨h3.os.trans hbx.os, h3.tape.trans hbx.tape, h3.output.trans hbx.output, Nat.le_trans hbx.size h3.size, fun k hk hn => (h3.block k (Nat.lt_of_lt_of_le hk hbx.size) hn).trans (hbx.block k hk)⟩
  refine ⟨v', w', h1, ?_, ⟨hg.os, hg.tape, hg.output, hg.size, fun k hk => hg.block k (by omega) (fun e => ?_)⟩, hg⟩
  · show w'.ownsRow B 48 2 v' (M ++ [(x, y)]).length (rowP (M ++ [(x, y)]))
    rw [List.length_append, rowP_append]
    exact h2
  · have := (World.ownsRow.lt h k e.symm).1
    omega

end Go.Proofs.Ytpkdpddillebfab.S
