/- A ring, and an edge to a fourth node: the law's own fact. -/
import Derived.Test.YtedcncpkikdldaaOb
namespace Go.Proofs.Ytedcncpkikdldaa.S
open Go.RowKit Go.WideMaps Go.Maps

def f0 : Int × Int × Int := edge 0 0 1
def f1 : Int × Int × Int := edge 1 1 2
def f2 : Int × Int × Int := edge 2 2 3
def f3 : Int × Int × Int := edge 3 0 2

theorem f_ends : ea f0 = 0 ∧ eb f0 = 1 ∧ ea f1 = 1 ∧ eb f1 = 2 ∧ ea f2 = 2 ∧ eb f2 = 3 ∧ ea f3 = 0 ∧ eb f3 = 2 := by decide
theorem f_ne : f0 ≠ f1 ∧ f0 ≠ f2 ∧ f0 ≠ f3 ∧ f1 ≠ f2 ∧ f1 ≠ f3 ∧ f2 ≠ f3 := by decide

theorem apart_of {T : Int × Int × Int → Prop} (k : Nat) (h : ∀ e, T e → (ea e = k ↔ eb e = k)) {u v : Nat} (hu : u ≠ k) (hv : v = k) : ¬ cn ea eb T u v := by
  intro hc
  have : u = k ↔ v = k := Conn.least (P := fun u v => u = k ↔ v = k) hc (fun _ => Iff.rfl) (fun _ _ h => h.symm) (fun _ _ _ h k => h.trans k) (by
    rintro _ _ ⟨e, he, rfl, rfl⟩
    exact h e he)
  exact hu (this.2 hv)

theorem k0 : ¬ cnR [] (ea f0) (eb f0) := apart_of 1 (by simp) (by decide) (by decide)
theorem k1 : ¬ cnR [f0] (ea f1) (eb f1) := apart_of 2 (by intro e he; rw [List.mem_singleton.1 he]; decide) (by decide) (by decide)
theorem k2 : ¬ cnR [f0, f1] (ea f2) (eb f2) := apart_of 3 (by
  intro e he
  simp only [List.mem_cons, List.not_mem_nil, or_false] at he
  rcases he with rfl | rfl <;> decide) (by decide) (by decide)
theorem k3 : cnR [f0, f1, f2] (ea f3) (eb f3) := by
  have h0 : cnR [f0, f1, f2] (ea f0) (eb f0) := cn_edge (T := (· ∈ [f0, f1, f2])) (by simp)
  have h1 : cnR [f0, f1, f2] (ea f1) (eb f1) := cn_edge (T := (· ∈ [f0, f1, f2])) (by simp)
  obtain ⟨a, b, c, d, _, _, x, y⟩ := f_ends
  rw [a, b] at h0
  rw [c, d] at h1
  rw [x, y]
  exact cn_trans h0 h1

/-- The one bridge. -/
theorem four_br (e : Int × Int × Int) : brR [f0, f1, f2, f3] e ↔ e = f2 := by
  obtain ⟨a, b, c, d, x, y, z, v⟩ := f_ends
  obtain ⟨n1, n2, n3, n4, n5, n6⟩ := f_ne
  constructor
  · rintro ⟨he, hc⟩
    have he' : e = f0 ∨ e = f1 ∨ e = f2 ∨ e = f3 := by simpa using he
    have edge_in : ∀ g, g ∈ [f0, f1, f2, f3] → g ≠ e → cn ea eb (but (· ∈ [f0, f1, f2, f3]) e) (ea g) (eb g) := fun g hg hne => cn_edge ⟨hg, hne⟩
    rcases he' with rfl | rfl | rfl | rfl
    · have h1 := edge_in f1 (by simp) n1.symm
      have h3 := edge_in f3 (by simp) n3.symm
      rw [c, d] at h1
      rw [z, v] at h3
      rw [a, b] at hc
      exact absurd (cn_trans h3 (cn_symm h1)) hc
    · have h0 := edge_in f0 (by simp) n1
      have h3 := edge_in f3 (by simp) n5.symm
      rw [a, b] at h0
      rw [z, v] at h3
      rw [c, d] at hc
      exact absurd (cn_trans (cn_symm h0) h3) hc
    · rfl
    · have h0 := edge_in f0 (by simp) n3
      have h1 := edge_in f1 (by simp) n5
      rw [a, b] at h0
      rw [c, d] at h1
      rw [z, v] at hc
      exact absurd (cn_trans h0 h1) hc
  · rintro rfl
    refine ⟨by simp, apart_of 3 ?_ (by decide) (by decide)⟩
    rintro e ⟨he, hne⟩
    have he' : e = f0 ∨ e = f1 ∨ e = f2 ∨ e = f3 := by simpa using he
    rcases he' with rfl | rfl | rfl | rfl
    · decide
    · decide
    · exact absurd rfl hne
    · decide

theorem four_ups {n : Nat} {B : List (Int × Int × Int)} {W T : List Nat} (s : St n [f0, f1, f2, f3] W T B) (hu : Unl [f0, f1, f2, f3]) : ups [f0, f1, f2, f3] B = [2] := by
  have hp : (idsOf [f0, f1, f2, f3] B).Perm [2] := (List.perm_ext_iff_of_nodup (idsOf_nodup hu) (by simp)).2 fun x => by
    rw [mem_idsOf s, List.mem_singleton]
    constructor
    · rintro ⟨e, he, rfl⟩
      rw [(four_br e).1 he]; rfl
    · rintro rfl
      exact ⟨f2, (four_br f2).2 rfl, rfl⟩
  unfold ups
  rw [List.perm_singleton.1 hp]
  simp

variable {w0 : World} {p pw bw pt bt mp n : Nat}

/-- The three steps that make bridges, and the one that closes the ring. -/
theorem cross_step {w : World} {R B : List (Int × Int × Int)} {W T : List Nat} {D : DataW Unit} {N : Nat} (h : Run w0 w p pw bw pt bt mp 4 R B W T D N) (i : Int) (x y : Nat) (ok : Bool) (hx : x < 4) (hy : y < 4) (hxy : x ≠ y) (hi : 0 ≤ i ∧ i < 50) (hone : ∀ e ∈ R, e.1 ≠ i) (hl : R.length < 50) (hok : ok = true ↔ ¬ cnR R (ea (edge i x y)) (eb (edge i x y))) :
    Calls Try.prog 23 #[.pointer (some ⟨p, 0, none⟩), .int .i64 i, .int .i64 (x : Int), .int .i64 (y : Int)] w fun e w' => e = .returned (.tuple #[.bool ok, .nilIface]) ∧ Bk bw bt mp w w' ∧ ∃ B' W' T' D' N', Run w0 w' p pw bw pt bt mp 4 (R ++ [edge i x y]) B' W' T' D' N' := by
  refine (run_add h i x y hx hy hxy (by omega) hi hone hl).mono ?_
  rintro e w' ⟨ok', B', W', T', D', N', rfl, hr, hbk, hok', _⟩
  have : ok' = ok := by rw [Bool.eq_iff_iff, hok, hok']
  exact ⟨by rw [this], hbk, B', W', T', D', N', hr⟩

end Go.Proofs.Ytedcncpkikdldaa.S
