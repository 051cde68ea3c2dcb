/- pick; a graph by numbers; what is known of a graph. -/
import Derived.Test.YtpkdpddillebfaaDoorST
import Derived.Test.YtpkdpddillebfaaDoorBM
import Derived.Test.YtpkdpddillebfaaDoorGX
namespace Go.Proofs.YtpkdpddillebfaaDoor.S
open Go.RowKit Go.WideMaps Go.Maps

/-- Which of n numbers one is picked as. -/
def pk (a : Int) (n : Nat) : Nat := ((IntKind.u64.wrap a).toNat) % n

theorem pk_lt (a : Int) (n : Nat) (h : 0 < n) : pk a n < n := Nat.mod_lt _ h

theorem pk_eq (a : Int) (n : Nat) (h : 0 < n) (h' : n ≤ 1000000) : wrap64 ((IntKind.u64.wrap a).tmod (n : Int)) = (pk a n : Int) := by
  have h0 := wrap_u64_nonneg a
  unfold pk
  generalize IntKind.u64.wrap a = u at *
  obtain ⟨u, rfl⟩ := Int.eq_ofNat_of_zero_le h0
  have e : (u : Int).tmod (n : Int) = ((u % n : Nat) : Int) := by
    rw [Int.tmod_eq_emod_of_nonneg (by omega)]; omega
  rw [e, Int.toNat_natCast]
  have := Nat.mod_lt u h
  exact IntWalk.wrap64_in _ (by omega)

/-- A list of pairs that came in. -/
structure PairsAt (w : World) (bl off m : Nat) (ps : Nat → Int × Int) : Prop where
  a : ∀ i, i < m → w.cell? ⟨bl, off + i * 2, none⟩ = some (.int .i64 (ps i).1)
  b : ∀ i, i < m → w.cell? ⟨bl, off + i * 2 + 1, none⟩ = some (.int .i64 (ps i).2)

/-- The edges of a graph of n nodes, their numbers below i. -/
structure Ed (n i : Nat) (L : List (Int × Int × Int)) : Prop where
  up : G.Up L
  ids : ∀ e ∈ L, 0 ≤ e.1 ∧ e.1 < (i : Int)
  ends : ∀ e ∈ L, ∃ x y : Nat, x < y ∧ y < n ∧ e = (e.1, (x : Int), (y : Int))
  len : L.length ≤ i

theorem Ed.put {n i : Nat} {L : List (Int × Int × Int)} (h : Ed n i L) {a b : Nat} (ha : a < n) (hb : b < n) (hne : a ≠ b) : Ed n (i + 1) (G.putE L ((i : Int), ((min a b : Nat) : Int), ((max a b : Nat) : Int))) := by
  have hm : ∀ e, e ∈ G.putE L ((i : Int), ((min a b : Nat) : Int), ((max a b : Nat) : Int)) ↔ e = ((i : Int), ((min a b : Nat) : Int), ((max a b : Nat) : Int)) ∨ e ∈ L := fun e => by
    rw [(G.putE_perm L _).mem_iff, List.mem_cons]
  refine ⟨G.putE_up L _ h.up (fun x hx => by have := (h.ids x hx).2; simp only; omega), fun e he => ?_, fun e he => ?_, by rw [G.putE_length]; have := h.len; omega⟩
  · rcases (hm e).1 he with rfl | he
    · simp only; omega
    · have := h.ids e he; omega
  · rcases (hm e).1 he with rfl | he
    · exact ⟨min a b, max a b, by omega, by omega, rfl⟩
    · exact h.ends e he

theorem Ed.next {n i : Nat} {L : List (Int × Int × Int)} (h : Ed n i L) : Ed n (i + 1) L :=
  ⟨h.up, fun e he => by have := h.ids e he; omega, h.ends, by have := h.len; omega⟩

theorem wf_small {x : Int} (h0 : 0 ≤ x) (h1 : x ≤ 1000000) : (Lit.int .i64 x).wf = true := WalkArith.wf_i64 (by omega)

theorem below_kept' {w0 w w' : World} {q : Nat} {o : Option Nat} (h : Below w0.heap.size w0 w) (k : G.Kept q o w w') (h1 : w0.heap.size ≤ q) (h2 : ∀ j, o = some j → w0.heap.size ≤ j) : Below w0.heap.size w0 w' :=
  ⟨k.os.trans h.os, k.tape.trans h.tape, k.output.trans h.output, Nat.le_trans h.size k.size, fun j hj => (k.block j (Nat.lt_of_lt_of_le hj h.size) (by omega) (fun e => by have := h2 j e.symm; omega)).trans (h.block j hj)⟩

/-- What made hands back. -/
def MadePost (w : World) (e : Ending) (w' : World) : Prop :=
  ∃ (p : Nat) (v : Value) (n : Nat) (L : List (Int × Int × Int)), e = .returned (.pointer (some ⟨p, 0, none⟩)) ∧ G.GAt w' w.heap.size 90 59 p (n : Int) v L ∧ 0 < n ∧ n ≤ 14 ∧ Ed n 50 L ∧ Below w.heap.size w w'

theorem Ed.mono {n i j : Nat} {L : List (Int × Int × Int)} (h : Ed n i L) (hij : i ≤ j) : Ed n j L :=
  ⟨h.up, fun e he => by have := h.ids e he; omega, h.ends, by have := h.len; omega⟩

end Go.Proofs.YtpkdpddillebfaaDoor.S

