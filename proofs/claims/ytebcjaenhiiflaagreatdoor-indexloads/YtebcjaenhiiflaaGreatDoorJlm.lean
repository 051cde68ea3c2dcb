/- The document's Load: the graph of a text, or none. -/
import Derived.Test.YtebcjaenhiiflaaGreatDoorJk
import Derived.Test.YtebcjaenhiiflaaGreatDoorJi
namespace Go.Proofs.YtebcjaenhiiflaaGreatDoor.I
open Go.RowKit

/-- Texts as values. -/
def txtV (ls : List (List UInt8)) : List Value := ls.map fun l => .string ⟨l.toArray⟩

theorem splitK_len (sep : List UInt8) : ∀ (k : Nat) (s : List UInt8), (∀ x ∈ Lib.splitK sep 0 k s, x.length ≤ s.length) ∧ (Lib.splitK sep 0 k s).length ≤ k + 1
  | 0, s => by simp [Lib.splitK]
  | k + 1, s => by
    rw [Lib.splitK]
    split
    · simp
    · have ih := splitK_len sep k (s.drop ((Lib.index s sep).toNat + sep.length))
      refine ⟨fun x hx => ?_, ?_⟩
      · rcases List.mem_cons.1 hx with rfl | hx
        · rw [List.length_take]; omega
        · have := ih.1 x hx
          rw [List.length_drop] at this
          omega
      · rw [List.length_cons]; omega

theorem splits_any (s : ByteArray) (c : UInt8) (w : World) (hs : s.size ≤ 100000) (hv : Vars w) :
    Calls Tryz.prog 43 #[.string s, .string ⟨#[c]⟩] w fun e w' => ∃ k, k = (Lib.split s.data.toList [c]).length ∧ k ≤ 100001 ∧ 0 < k ∧ (∀ x ∈ Lib.split s.data.toList [c], x.length ≤ 100000) ∧ e = .returned (.slice (some ⟨w.heap.size, 0, none⟩) k k) ∧ w' = w.alloc (.cells (txtV (Lib.split s.data.toList [c])).toArray 9) := by
  refine (split_any s ⟨#[c]⟩ w hs (by show 1 ≤ 1; omega) hv).mono ?_
  rintro e w' ⟨rfl, rfl⟩
  have h1 : (Lib.splitB ⟨#[c]⟩ 0 (Lib.countB s ⟨#[c]⟩) s).map (·.data.toList) = Lib.split s.data.toList [c] := Lib.splitB_data ⟨#[c]⟩ 0 (Lib.countB s ⟨#[c]⟩) s
  have h2 := Lib.splitB_all ⟨#[c]⟩ (by show 1 ≤ 1; omega) 0 _ s rfl
  have h3 := Lib.countB_le ⟨#[c]⟩ (by show 1 ≤ 1; omega) s.size s (Nat.le_refl _)
  have h4 : (Lib.split s.data.toList [c]).length = Lib.countB s ⟨#[c]⟩ + 1 := by rw [← h1, List.length_map, h2]
  refine ⟨_, h4.symm, by omega, by omega, fun x hx => ?_, rfl, ?_⟩
  · have := (splitK_len [c] _ s.data.toList).1 x hx
    have : s.data.toList.length = s.size := by simp
    omega
  · have e : txtV (Lib.split s.data.toList [c]) = (Lib.splitB ⟨#[c]⟩ 0 (Lib.countB s ⟨#[c]⟩) s).map Value.string := by
      rw [← h1]
      unfold txtV
      rw [List.map_map]
      refine List.map_congr_left (fun b _ => ?_)
      show Value.string ⟨b.data.toList.toArray⟩ = _
      rw [Lib.mk_data]
    rw [e]

end Go.Proofs.YtebcjaenhiiflaaGreatDoor.I
namespace Go.Proofs.YtebcjaenhiiflaaGreatDoor.I
open Go.RowKit

/-- The three numbers, behind j words. -/
def kk (ws : List (List UInt8)) (j i : Nat) : Int := if i < j then ((ws[i]?).bind numD).getD 0 else 0

theorem kk_all (l : List UInt8) (i : Nat) : kk (Lib.split l [32]) (Lib.split l [32]).length i = three l i := by
  unfold kk three
  split
  · rfl
  · next h => rw [List.getElem?_eq_none (by omega)]; rfl

theorem txt_cell {w : World} {b : Nat} {ls : List (List UInt8)} (h : w.heap[b]? = some (.cells (txtV ls).toArray 9)) {j : Nat} {x : List UInt8} (hx : ls[j]? = some x) : w.cell? ⟨b, j, none⟩ = some (.string ⟨x.toArray⟩) := by
  simp [World.cell?, h, txtV, hx]

/-- What the inner loop knows. -/
structure In3 (w0 w : World) (ws : List (List UInt8)) (j : Nat) : Prop where
  below : Below w0.heap.size w0 w
  k : w.heap[w0.heap.size]? = some (.cells #[.int .i64 (kk ws j 0), .int .i64 (kk ws j 1), .int .i64 (kk ws j 2)] 79)
  ws : w.heap[w0.heap.size + 1]? = some (.cells (txtV ws).toArray 9)

theorem In3.on {w0 w w1 : World} {ws : List (List UInt8)} {j : Nat} (h : In3 w0 w ws j) (hb : Below w.heap.size w w1) : In3 w0 w1 ws j :=
  ⟨h.below.trans (hb.mono h.below.size), (hb.block _ (G.lt_of_some h.k)).trans h.k, (hb.block _ (G.lt_of_some h.ws)).trans h.ws⟩

theorem In3.skip {w0 w : World} {ws : List (List UInt8)} {j : Nat} (h : In3 w0 w ws j) (h3 : 3 ≤ j) : In3 w0 w ws (j + 1) := by
  refine ⟨h.below, ?_, h.ws⟩
  rw [h.k]
  have e : ∀ i, i < 3 → kk ws (j + 1) i = kk ws j i := fun i hi => by unfold kk; rw [if_pos (by omega), if_pos (by omega)]
  rw [e 0 (by omega), e 1 (by omega), e 2 (by omega)]

theorem In3.put {w0 w : World} {ws : List (List UInt8)} {j : Nat} {x : List UInt8} (h : In3 w0 w ws j) (h3 : j < 3) (hx : ws[j]? = some x) : In3 w0 (w.setCell ⟨w0.heap.size, j, none⟩ (.int .i64 ((numD x).getD 0))) ws (j + 1) := by
  refine ⟨h.below.setCell (p := ⟨w0.heap.size, j, none⟩) (Nat.le_refl _) _, ?_, ?_⟩
  · have hj : kk ws (j + 1) j = (numD x).getD 0 := by unfold kk; rw [if_pos (by omega), hx]; rfl
    have hlt := G.lt_of_some h.k
    obtain ⟨_, hk⟩ := Array.getElem?_eq_some_iff.1 h.k
    show (w.heap.modify w0.heap.size _)[w0.heap.size]? = _
    rw [Array.getElem?_eq_getElem (by rw [Array.size_modify]; exact hlt), Array.getElem_modify_self, hk]
    have e : ∀ i, i ≠ j → kk ws (j + 1) i = kk ws j i := fun i hi => by
      unfold kk
      by_cases c : i < j
      · rw [if_pos (by omega), if_pos c]
      · rw [if_neg (by omega), if_neg c]
    match j, h3 with
    | 0, _ => rw [e 1 (by omega), e 2 (by omega), hj]; rfl
    | 1, _ => rw [e 0 (by omega), e 2 (by omega), hj]; rfl
    | 2, _ => rw [e 0 (by omega), e 1 (by omega), hj]; rfl
  · rw [Below.heap_setCell _ _ _ _ (fun e => by have e' : w0.heap.size + 1 = w0.heap.size := e; omega)]
    exact h.ws

theorem In3.cells {w0 w : World} {ws : List (List UInt8)} {j : Nat} (h : In3 w0 w ws j) : w.cell? ⟨w0.heap.size, 0, none⟩ = some (.int .i64 (kk ws j 0)) ∧ w.cell? ⟨w0.heap.size, 1, none⟩ = some (.int .i64 (kk ws j 1)) ∧ w.cell? ⟨w0.heap.size, 2, none⟩ = some (.int .i64 (kk ws j 2)) ∧ ∀ i, w.frozen? ⟨w0.heap.size, i, none⟩ = false := by
  have := h.k
  refine ⟨?_, ?_, ?_, fun i => ?_⟩
  · simp [World.cell?, this]
  · simp [World.cell?, this]
  · simp [World.cell?, this]
  · simp [World.frozen?, this]

theorem In3.old {w0 w : World} {ws : List (List UInt8)} {j i : Nat} (h : In3 w0 w ws j) (hi : i < 3) : ∃ z : Int, w.cell? ⟨w0.heap.size, i, none⟩ = some (.int .i64 z) := by
  match i, hi with
  | 0, _ => exact ⟨_, h.cells.1⟩
  | 1, _ => exact ⟨_, h.cells.2.1⟩
  | 2, _ => exact ⟨_, h.cells.2.2.1⟩

/-- What the document's Load leaves. -/
def RloadPost (w : World) (s : ByteArray) (e : Ending) (w' : World) : Prop :=
  (∃ n L, Tells s.data.toList n L ∧ ∃ q u R, e = .returned (.tuple #[.pointer (some ⟨q, 0, none⟩), .int .i64 0]) ∧ G.GAt w' w.heap.size 40 61 q (n : Int) u R ∧ R.Perm L ∧ Below w.heap.size w w') ∨
  ((∀ n L, ¬ Tells s.data.toList n L) ∧ e = .returned (.tuple #[.pointer none, .int .i64 3]) ∧ Below w.heap.size w w')

/-- What the outer loop knows. -/
structure RL (w0 w : World) (q n lb : Nat) (ls : List (List UInt8)) (u : Value) (R : List G.E) : Prop where
  gra : G.GAt w w0.heap.size 40 61 q (n : Int) u R
  below : Below w0.heap.size w0 w
  lines : w.heap[lb]? = some (.cells (txtV ls).toArray 9)
  hq : w0.heap.size ≤ q

theorem RL.on {w0 w w1 : World} {q n lb : Nat} {ls : List (List UInt8)} {u : Value} {R : List G.E} (h : RL w0 w q n lb ls u R) (hb : Below w.heap.size w w1) : RL w0 w1 q n lb ls u R :=
  ⟨h.gra.below hb, h.below.trans (hb.mono h.below.size), (hb.block _ (G.lt_of_some h.lines)).trans h.lines, h.hq⟩

theorem RL.add {w0 w w1 : World} {q n lb : Nat} {ls : List (List UInt8)} {u : Value} {R M : List G.E} (h : RL w0 w q n lb ls u R) (s : G.Step1 w w1 w0.heap.size 40 q (n : Int) u M) : ∃ u', RL w0 w1 q n lb ls u' M := by
  obtain ⟨u', h1, h2, h3⟩ := s
  refine ⟨u', h1, ?_, ?_, h.hq⟩
  · exact ⟨h2.os.trans h.below.os, h2.tape.trans h.below.tape, h2.output.trans h.below.output, Nat.le_trans h.below.size h2.size, fun j hj => (h2.block j (Nat.lt_of_lt_of_le hj h.below.size) (by have := h.hq; omega) (fun e => by have := (h.gra.lt e.symm).1; omega)).trans (h.below.block j hj)⟩
  · rw [h2.block lb (G.lt_of_some h.lines) ?_ ?_]
    · exact h.lines
    · rintro rfl
      have := h.lines.symm.trans h.gra.hp
      simp at this
    · intro e
      obtain ⟨cur, hc⟩ := own61 h.gra.row e.symm
      have := h.lines.symm.trans hc
      simp at this

/-- One line. -/
theorem rl_step {w0 w w1 : World} {q n lb : Nat} {ls : List (List UInt8)} {u : Value} {R L : List G.E} {l : List UInt8} {e : Ending} (h : RL w0 w q n lb ls u R) (hok : Ok n L) (hp : R.Perm L) (hd : DaddPost w w0.heap.size q n u R L (three l 0) (three l 1) (three l 2) e w1) : ∃ u', RL w0 w1 q n lb ls u' (stepD n R l) := by
  have hF : Fits n L (three l 0) (three l 1) (three l 2) ↔ Fits n R (three l 0) (three l 1) (three l 2) := by
    unfold Fits
    rw [hp.length_eq]
    constructor
    · rintro ⟨a, b, c, d, e, f⟩
      exact ⟨a, b, c, d, fun x hx => e x (hp.mem_iff.1 hx), f⟩
    · rintro ⟨a, b, c, d, e, f⟩
      exact ⟨a, b, c, d, fun x hx => e x (hp.mem_iff.2 hx), f⟩
  unfold stepD
  rcases hd.2 with ⟨h0, hs⟩ | ⟨h0, hb⟩
  · rw [if_pos (hF.1 ((addC_zero hok _ _ _).1 h0))]
    exact h.add hs
  · rw [if_neg (fun k => h0 ((addC_zero hok _ _ _).2 (hF.2 k)))]
    exact ⟨u, h.on hb⟩

theorem doc_tells {s : List UInt8} {h : List UInt8} {ls : List (List UInt8)} (hs : Lib.split s [10] = h :: ls) {n : Nat} {L : List G.E} (ht : Tells s n L) : numD h = some (n : Int) ∧ rdD n ls = L := by
  obtain ⟨hok, rfl⟩ := ht
  obtain ⟨ls', h1, h2⟩ := doc_reads hok
  rw [h1] at hs
  injection hs with e1 e2
  subst e1; subst e2
  exact ⟨numD_itoa (by omega) (by have := hok.n40; omega), h2⟩

end Go.Proofs.YtebcjaenhiiflaaGreatDoor.I
