/- One edge, put into the program's value and into the document's graph. -/
import Derived.Test.YtleecofpefokhaaGreatDoorDe
import Derived.Test.YtleecofpefokhaaGreatDoorDf
import Derived.Test.YtleecofpefokhaaGreatDoorGYf
namespace Go.Proofs.YtleecofpefokhaaGreatDoor.S
open Go.RowKit Go.WideMaps Go.Maps

/-- A list of pairs that came in. -/
structure PairsAt (w : World) (bl off m : Nat) (ps : Nat → Int × Int) : Prop where
  a : ∀ i, i < m → w.cell? ⟨bl, off + i * 2, none⟩ = some (.int .i64 (ps i).1)
  b : ∀ i, i < m → w.cell? ⟨bl, off + i * 2 + 1, none⟩ = some (.int .i64 (ps i).2)

/-- The program's value and the document's graph, behind i steps. -/
structure Play (w0 w : World) (p pw bw pt bt mp q n i : Nat) (R B : List (Int × Int × Int)) (W T : List Nat) (D : DataW Unit) (N : Nat) (u : Value) : Prop where
  now : Now w p pw bw pt bt mp N n R B W T D
  gra : G.GAt w w0.heap.size 33 58 q (n : Int) u R
  below : Below w0.heap.size w0 w
  ids : ∀ e ∈ R, 0 ≤ e.1 ∧ e.1 < (i : Int)
  up : R.Pairwise fun x y => x.1 < y.1
  rl : R.length ≤ i
  bl : B.length ≤ i
  nl : N ≤ i
  hb : w0.heap.size ≤ bw ∧ w0.heap.size ≤ bt ∧ w0.heap.size ≤ mp ∧ w0.heap.size ≤ q

variable {w0 w w' : World} {p pw bw pt bt mp q n i N : Nat} {R B : List (Int × Int × Int)} {W T : List Nat} {D : DataW Unit} {u : Value}

theorem Play.below' (h : Play w0 w p pw bw pt bt mp q n i R B W T D N u) (hb : Below w.heap.size w w') : Play w0 w' p pw bw pt bt mp q n i R B W T D N u :=
  { h with now := h.now.below hb, gra := h.gra.below hb, below := h.below.trans (hb.mono h.below.size) }

theorem Play.next (h : Play w0 w p pw bw pt bt mp q n i R B W T D N u) : Play w0 w p pw bw pt bt mp q n (i + 1) R B W T D N u :=
  { h with ids := fun e he => ⟨(h.ids e he).1, by have := (h.ids e he).2; omega⟩, rl := by have := h.rl; omega, bl := by have := h.bl; omega, nl := by have := h.nl; omega }

theorem own58 {B' : Nat} {v : Value} {L : List (Int × Int × Int)} (h : G.Owns w B' 58 v L) {g : Nat} (hg : v.ownBlock = some g) : ∃ cur, w.heap[g]? = some (.cells cur 58) := by
  rcases h.2 with ⟨rfl, _⟩ | ⟨g', cap, cur, rfl, _, hc, _⟩
  · simp [Value.ownBlock] at hg
  · simp [Value.ownBlock] at hg
    subst hg
    exact ⟨_, hc⟩

/-- The program's step leaves the document's graph. -/
theorem gra_bk {B' : Nat} (hb : BAt w p pw bw pt bt mp N W T D) (h : G.GAt w B' 33 58 q (n : Int) u R) (k : Bk bw bt mp w w') : G.GAt w' B' 33 58 q (n : Int) u R := by
  obtain ⟨es, c, hm⟩ := hb.mobj
  have hkeep : ∀ (g t : Nat) (cur : Array Value), w.heap[g]? = some (.cells cur t) → t ≠ 3 → w'.heap[g]? = w.heap[g]? := by
    intro g t cur hg ht
    refine k.block g (lt_of_some hg) ?_ ?_ ?_ <;> rintro rfl
    · have := hg.symm.trans hb.sw.hb; simp at this; exact ht this.2
    · have := hg.symm.trans hb.st.hb; simp at this; exact ht this.2
    · have := hg.symm.trans hm; simp at this
  refine ⟨(hkeep q 33 _ h.hp (by decide)).trans h.hp, ⟨h.row.1, ?_⟩, h.ne⟩
  rcases h.row.2 with hn | ⟨g, cap, cur, rfl, hB, hg, rest⟩
  · exact .inl hn
  · exact .inr ⟨g, cap, cur, rfl, hB, (hkeep g 58 _ hg (by decide)).trans hg, rest⟩

/-- The document's step leaves the program's value. -/
theorem bat_kept {B' : Nat} (hb : BAt w p pw bw pt bt mp N W T D) (h : G.GAt w B' 33 58 q (n : Int) u R) (k : G.Kept q u.ownBlock w w') : BAt w' p pw bw pt bt mp N W T D := by
  obtain ⟨es, c, hm⟩ := hb.mobj
  have hkeep : ∀ (g : Nat) (o : Obj), w.heap[g]? = some o → (∀ cur, o ≠ .cells cur 33) → (∀ cur, o ≠ .cells cur 58) → w'.heap[g]? = w.heap[g]? := by
    intro g o hg h1 h2
    refine k.block g (lt_of_some hg) ?_ ?_
    · rintro rfl
      have := hg.symm.trans h.hp
      injection this with this
      exact h1 _ this
    · intro e
      obtain ⟨cur, hc⟩ := own58 h.row e.symm
      have := hg.symm.trans hc
      injection this with this
      exact h2 _ this
  refine ⟨(hkeep p _ hb.hp (by simp) (by simp)).trans hb.hp, ⟨(hkeep pw _ hb.sw.hp (by simp) (by simp)).trans hb.sw.hp, (hkeep bw _ hb.sw.hb (by simp) (by simp)).trans hb.sw.hb⟩, ⟨(hkeep pt _ hb.st.hp (by simp) (by simp)).trans hb.st.hp, (hkeep bt _ hb.st.hb (by simp) (by simp)).trans hb.st.hb⟩, ?_, hb.pp, hb.bb⟩
  obtain ⟨es', c', hm', F, hs, hD⟩ := hb.hm
  exact ⟨es', c', (hkeep mp _ hm' (by simp) (by simp)).trans hm', F, hs, hD⟩

theorem below_bk (h : Below w0.heap.size w0 w) (k : Bk bw bt mp w w') (h1 : w0.heap.size ≤ bw) (h2 : w0.heap.size ≤ bt) (h3 : w0.heap.size ≤ mp) : Below w0.heap.size w0 w' :=
  ⟨k.os.trans h.os, k.tape.trans h.tape, k.output.trans h.output, Nat.le_trans h.size k.size, fun j hj => (k.block j (Nat.lt_of_lt_of_le hj h.size) (by omega) (by omega) (by omega)).trans (h.block j hj)⟩

theorem below_kept' {o : Option Nat} (h : Below w0.heap.size w0 w) (k : G.Kept q o w w') (h1 : w0.heap.size ≤ q) (h2 : ∀ j, o = some j → w0.heap.size ≤ j) : Below w0.heap.size w0 w' :=
  ⟨k.os.trans h.os, k.tape.trans h.tape, k.output.trans h.output, Nat.le_trans h.size k.size, fun j hj => (k.block j (Nat.lt_of_lt_of_le hj h.size) (by omega) (fun e => by have := h2 j e.symm; omega)).trans (h.block j hj)⟩

/-- What one step leaves. -/
def StepPost (w0 : World) (p pw bw pt bt mp q n i : Nat) (code : Int) (e : Ending) (w' : World) : Prop :=
  ∃ ok R' B' W' T' D' N' u', e = .returned (.tuple #[.bool ok, G.errV code]) ∧ Play w0 w' p pw bw pt bt mp q n (i + 1) R' B' W' T' D' N' u' ∧ (ok = true ↔ (i : Int) ∈ idsOf R' B')

theorem wf_small {x : Int} (h0 : 0 ≤ x) (h1 : x ≤ 1000000) : (Lit.int .i64 x).wf = true := WalkArith.wf_i64 (by omega)

theorem Play.not_in (h : Play w0 w p pw bw pt bt mp q n i R B W T D N u) : ¬ (i : Int) ∈ idsOf R B := by
  rw [mem_ids (fun e he => ((h.now.st.hB e).1 he).1)]
  rintro ⟨e, he, hi⟩
  have := (h.ids e ((h.now.st.hB e).1 he).1).2
  omega

/-- The document's Add, and what the program's Add then does. -/
theorem step_add (x y : Int) (h : Play w0 w p pw bw pt bt mp q n i R B W T D N u) (hn : n ≤ 40) (hi : i < 40) :
    Calls Tryz.prog 6 #[.pointer (some ⟨q, 0, none⟩), .int .i64 (i : Int), .int .i64 x, .int .i64 y] w fun e w1 => ∃ code, e = .returned (.int .i64 code) ∧
      Calls Tryz.prog 7 #[.pointer (some ⟨p, 0, none⟩), .int .i64 (i : Int), .int .i64 x, .int .i64 y] w1 (StepPost w0 p pw bw pt bt mp q n i code) := by
  have hWl := h.now.st.gw.len
  by_cases hr : G.InRange (i : Int) x y (n : Int)
  · obtain ⟨x, rfl⟩ := Int.eq_ofNat_of_zero_le hr.2.1.1
    obtain ⟨y, rfl⟩ := Int.eq_ofNat_of_zero_le hr.2.2.1
    have hx : x < n := by have := hr.2.1.2; omega
    have hy : y < n := by have := hr.2.2.2; omega
    by_cases hxy : x = y
    · subst hxy
      refine (G.radd_arg (i : Int) (x : Int) (n : Int) w0.heap.size q u R w h.gra (by omega) (by omega) hr).mono ?_
      rintro e w1 ⟨rfl, hb⟩
      have h1 := h.below' hb
      refine ⟨1, rfl, (badd_arg (i : Int) x w1 h1.now.at_ (by rw [hWl]; exact hx)).mono ?_⟩
      rintro e w2 ⟨rfl, hb2⟩
      have h2 := h1.below' hb2
      exact ⟨false, R, B, W, T, D, N, u, by simp [G.errV], h2.next, ⟨fun k => absurd k (by simp), fun k => absurd k h2.not_in⟩⟩
    · refine (G.radd_in (i : Int) (x : Int) (y : Int) (n : Int) ((min x y : Nat) : Int) ((max x y : Nat) : Int) w0.heap.size q u R w h.gra h.below.size (by have := h.rl; omega) (by omega) (by omega) hr (by omega) (by omega) (by omega)).mono ?_
      rintro e w1 (⟨⟨z, hz, hzi⟩, _⟩ | ⟨_, hl, _⟩ | ⟨_, _, rfl, u', hg', hk, hf⟩)
      · have := (h.ids z hz).2; omega
      · have := h.rl; omega
      · have hb1 := bat_kept h.now.at_ h.gra hk
        have hnow1 : Now w1 p pw bw pt bt mp N n R B W T D := ⟨hb1, h.now.st, h.now.dis⟩
        have hbel1 := below_kept' h.below hk h.hb.2.2.2 (fun j hj => (h.gra.lt hj).1)
        have hone : ∀ e ∈ R, e.1 ≠ (i : Int) := fun e he => by have := (h.ids e he).2; omega
        refine ⟨0, rfl, (badd_in (i : Int) x y w1 hnow1 hx hy hxy hn (by have := h.nl; omega) (by have := h.bl; omega) hone (wf_small (by omega) (by omega)) (fun e he => wf_small (h.ids e he).1 (by have := (h.ids e he).2; omega))).mono ?_⟩
        rintro e w2 ⟨ok, W', T', D', B', N', rfl, hnow2, hBl, hNl, hbk, hok⟩
        have hg2 := gra_bk hb1 hg' hbk
        have hids : ∀ e ∈ R ++ [edge (i : Int) x y], 0 ≤ e.1 ∧ e.1 < ((i + 1 : Nat) : Int) := fun e he => by
          rcases List.mem_append.1 he with he | he
          · have := h.ids e he; omega
          · rw [List.mem_singleton.1 he]; simp [edge]; omega
        refine ⟨ok, R ++ [edge (i : Int) x y], B', W', T', D', N', u', by simp [G.errV], ⟨hnow2, hg2, below_bk hbel1 hbk h.hb.1 h.hb.2.1 h.hb.2.2.1, hids, ?_, ?_, ?_, ?_, h.hb⟩, ?_⟩
        · rw [List.pairwise_append]
          refine ⟨h.up, List.pairwise_singleton _ _, fun a ha b hb => ?_⟩
          rw [List.mem_singleton.1 hb]
          exact (h.ids a ha).2
        · have := h.rl; simp; omega
        · have := h.bl; omega
        · have := h.nl; omega
        · rw [hok, mem_ids (fun e he => ((hnow2.st.hB e).1 he).1)]
          constructor
          · exact fun k => ⟨_, k, rfl⟩
          · rintro ⟨e, he, hei⟩
            have he' := ((hnow2.st.hB e).1 he).1
            rcases List.mem_append.1 he' with k | k
            · exact absurd hei (hone e k)
            · rw [List.mem_singleton.1 k] at he; exact he
  · refine (G.radd_range (i : Int) x y (n : Int) w0.heap.size q u R w h.gra (by omega) (by omega) hr).mono ?_
    rintro e w1 ⟨rfl, hb⟩
    have h1 := h.below' hb
    have hst : Strange W.length x ∨ Strange W.length y := by
      rw [hWl]
      unfold Strange
      rcases Classical.em ((0 ≤ x ∧ x < (n : Int)) ∧ (0 ≤ y ∧ y < (n : Int))) with k | k
      · exact absurd ⟨⟨by omega, by omega⟩, k⟩ hr
      · omega
    refine ⟨2, rfl, (badd_range (i : Int) x y w1 h1.now.at_ hst).mono ?_⟩
    rintro e w2 ⟨rfl, hb2⟩
    have h2 := h1.below' hb2
    exact ⟨false, R, B, W, T, D, N, u, by simp [G.errV], h2.next, ⟨fun k => absurd k (by simp), fun k => absurd k h2.not_in⟩⟩

end Go.Proofs.YtleecofpefokhaaGreatDoor.S
