/- The document's own graph: Labels. -/
import Derived.Test.YtpkdpddillebfabGW
import Derived.Test.YtpkdpddillebfabBM
import Derived.Test.YtpkdpddillebfabSW
import Derived.Test.YtpkdpddillebfabOa
namespace Go.Proofs.Ytpkdpddillebfab.S

namespace Conn

variable {α : Type} {S S' : α → α → Prop} {x y z : α}

end Conn

section

variable {α ι : Type} (a b : ι → α)

variable {a b} {T T' : ι → Prop} {x y z u v : α} {e f : ι}

end

end Go.Proofs.Ytpkdpddillebfab.S

namespace Go.Proofs.Ytpkdpddillebfab.S

end Go.Proofs.Ytpkdpddillebfab.S

namespace Go.Proofs.Ytpkdpddillebfab.S

variable {n : Nat} {R : List (Int × Int × Int)} {W T : List Nat} {B : List (Int × Int × Int)}

end Go.Proofs.Ytpkdpddillebfab.S

namespace Go.Proofs.Ytpkdpddillebfab.S

/-- Each label is one that its node is together with. -/
def Lab (n : Nat) (R : List (Int × Int × Int)) (l : List Nat) : Prop := l.length = n ∧ ∀ x, x < n → l.getD x 0 ≤ x ∧ cnR R x (l.getD x 0)

theorem lab_start (n : Nat) (R : List (Int × Int × Int)) : Lab n R (List.range n) := ⟨by simp, fun x hx => by simp [hx, cn_refl]⟩

/-- A label is told. -/
def told (l : List Nat) (u v : Nat) : List Nat := (l.set u (min (l.getD u 0) (l.getD v 0))).set v (min (l.getD u 0) (l.getD v 0))

theorem told_length (l : List Nat) (u v : Nat) : (told l u v).length = l.length := by simp [told]

theorem told_at {l : List Nat} {u v x : Nat} (hx : x < l.length) : (told l u v).getD x 0 = if x = u ∨ x = v then min (l.getD u 0) (l.getD v 0) else l.getD x 0 := by
  unfold told
  by_cases h1 : v = x
  · subst h1; simp [hx]
  · by_cases h2 : u = x
    · subst h2; simp [hx, h1]
    · have : ¬ (x = u ∨ x = v) := by omega
      simp [hx, h1, h2, this]

theorem lab_step {n : Nat} {R : List (Int × Int × Int)} {l : List Nat} (h : Lab n R l) {e : Int × Int × Int} (he : e ∈ R) (ha : ea e < n) (hb : eb e < n) : Lab n R (told l (ea e) (eb e)) := by
  refine ⟨by rw [told_length]; exact h.1, fun x hx => ?_⟩
  rw [told_at (by rw [h.1]; exact hx)]
  have hA := h.2 _ ha
  have hB := h.2 _ hb
  have hc : cnR R (ea e) (eb e) := cn_edge he
  have key : ∀ {x}, x = ea e ∨ x = eb e → cnR R x (min (l.getD (ea e) 0) (l.getD (eb e) 0)) := by
    rintro x (rfl | rfl)
    · rcases Nat.le_total (l.getD (ea e) 0) (l.getD (eb e) 0) with k | k
      · rw [Nat.min_eq_left k]; exact hA.2
      · rw [Nat.min_eq_right k]; exact cn_trans hc hB.2
    · rcases Nat.le_total (l.getD (ea e) 0) (l.getD (eb e) 0) with k | k
      · rw [Nat.min_eq_left k]; exact cn_trans (cn_symm hc) hA.2
      · rw [Nat.min_eq_right k]; exact hB.2
  split
  · next hk =>
    refine ⟨?_, key hk⟩
    rcases hk with rfl | rfl
    · have := hA.1; omega
    · have := hB.1; omega
  · exact h.2 x hx

theorem sum_set : ∀ (l : List Nat) (u k : Nat), u < l.length → (l.set u k).sum + l.getD u 0 = l.sum + k
  | [], u, k, h => by simp at h
  | x :: l, 0, k, _ => by simp; omega
  | x :: l, u + 1, k, h => by
    have := sum_set l u k (by simpa using h)
    simp at this ⊢
    omega

theorem told_sum {l : List Nat} {u v : Nat} (hu : u < l.length) (hv : v < l.length) (hne : l.getD u 0 ≠ l.getD v 0) : (told l u v).sum < l.sum := by
  unfold told
  have huv : u ≠ v := fun k => hne (by rw [k])
  have h1 := sum_set l u (min (l.getD u 0) (l.getD v 0)) hu
  have h2 := sum_set (l.set u (min (l.getD u 0) (l.getD v 0))) v (min (l.getD u 0) (l.getD v 0)) (by simpa using hv)
  have h3 : (l.set u (min (l.getD u 0) (l.getD v 0))).getD v 0 = l.getD v 0 := by simp [huv]
  rw [h3] at h2
  omega

theorem lab_done {n : Nat} {R : List (Int × Int × Int)} {l : List Nat} (h : Lab n R l) (hin : ∀ e ∈ R, ea e < n ∧ eb e < n) (hd : ∀ e ∈ R, l.getD (ea e) 0 = l.getD (eb e) 0) {u v : Nat} (hu : u < n) (hv : v < n) : l.getD u 0 = l.getD v 0 ↔ cnR R u v := by
  constructor
  · intro k
    have h1 := (h.2 u hu).2
    have h2 := (h.2 v hv).2
    rw [k] at h1
    exact cn_trans h1 (cn_symm h2)
  · intro k
    have : Lk n l u v := Conn.least (P := Lk n l) k (fun _ => Lk.refl _) (fun _ _ h => h.symm) (fun _ _ _ h k => h.trans k) (by
      rintro _ _ ⟨e, he, rfl, rfl⟩
      exact .inr ⟨(hin e he).1, (hin e he).2, hd e he⟩)
    exact (Lk.iff hu hv).1 this

end Go.Proofs.Ytpkdpddillebfab.S
namespace Go.Proofs.Ytpkdpddillebfab.S

open Go.RowKit Go.WideMaps Go.Maps

/-- A row of labels, a block of its own. -/
def RowL (w : World) (b : Nat) (l : List Nat) : Prop := w.heap[b]? = some (.cells (vals l) 3)

theorem RowL.cell {w : World} {b : Nat} {l : List Nat} (h : RowL w b l) (i : Nat) (hi : i < l.length) : w.cell? ⟨b, i, none⟩ = some (.int .i64 ((l.getD i 0 : Nat) : Int)) := by
  unfold RowL at h
  simp [World.cell?, h, vals, hi]

theorem RowL.frozen {w : World} {b : Nat} {l : List Nat} (h : RowL w b l) (i : Nat) : w.frozen? ⟨b, i, none⟩ = false := by
  unfold RowL at h
  simp [World.frozen?, h]

theorem RowL.lt {w : World} {b : Nat} {l : List Nat} (h : RowL w b l) : b < w.heap.size := lt_of_some h

theorem RowL.set {w : World} {b : Nat} {l : List Nat} (h : RowL w b l) (k v : Nat) : RowL (w.setCell ⟨b, k, none⟩ (.int .i64 (v : Int))) b (l.set k v) := by
  unfold RowL at h ⊢
  rw [← vals_set]
  simp [World.setCell, Array.getElem?_modify, h]

theorem RowL.below {w w' : World} {b B : Nat} {l : List Nat} (h : RowL w b l) (hb : Below B w w') (hl : b < B) : RowL w' b l := (hb.block b hl).trans h

theorem RowL.drewN {w : World} {b : Nat} {l : List Nat} (h : RowL w b l) (n : Nat) : RowL (w.drewN n) b l := h

theorem RowL.alloc {w : World} {b : Nat} {l : List Nat} (h : RowL w b l) (o : Obj) : RowL (w.alloc o) b l := (Below.heap_alloc w o b h.lt).trans h

theorem rowL_made (w : World) (n : Nat) : RowL (w.alloc (.cells (madeCells #[.int .i64 0] n) 3)) w.heap.size (fill n 0) := by
  rw [made_vals]; exact heap_alloc_new w _

theorem told_comm {l : List Nat} {u v : Nat} : (l.set v (min (l.getD u 0) (l.getD v 0))).set u (min (l.getD u 0) (l.getD v 0)) = told l u v := by
  unfold told
  by_cases h : u = v
  · subst h; rfl
  · rw [List.set_comm _ _ (Ne.symm h)]

theorem sum_range (k : Nat) : (List.range k).sum ≤ k * k := by
  induction k with
  | zero => simp
  | succ k ih =>
    rw [List.range_succ, List.sum_append]
    simp only [List.sum_cons, List.sum_nil]
    have : (k + 1) * (k + 1) = k * k + 2 * k + 1 := by rw [Nat.add_mul, Nat.mul_add]; omega
    omega

/-- What Labels hands back. -/
def LabPost (w : World) (n : Nat) (R : List (Int × Int × Int)) (e : Ending) (w' : World) : Prop :=
  ∃ b l, e = .returned (.slice (some ⟨b, 0, none⟩) n n) ∧ RowL w' b l ∧ w.heap.size ≤ b ∧ l.length = n ∧ (∀ u v, u < n → v < n → (l.getD u 0 = l.getD v 0 ↔ cnR R u v)) ∧ Below w.heap.size w w'

/-- The ends of the edges are nodes. -/
def Inn (n : Nat) (R : List (Int × Int × Int)) : Prop := ∀ e ∈ R, ea e < n ∧ eb e < n ∧ e.2.1 = (ea e : Int) ∧ e.2.2 = (eb e : Int)

end Go.Proofs.Ytpkdpddillebfab.S

