/- What the law asks: each question to the program and to the document, with its answer. -/
import Derived.Test.YtigodbamphejmaaGreatDoorTk
import Derived.Test.YtigodbamphejmaaGreatDoorV6
import Derived.Test.YtigodbamphejmaaGreatDoorLac
import Derived.Test.YtigodbamphejmaaGreatDoorLe
import Derived.Test.YtigodbamphejmaaGreatDoorGYf
namespace Go.Proofs.YtigodbamphejmaaGreatDoor.S
open Go.RowKit Go.WideMaps Go.Maps

theorem ok_of {n : Nat} {L : List Edg} (h : Ed n (60 + 1) L) (hn : n ≤ 16) (hl : L.length ≤ 60) : Ok n L := by
  have hup : L.Pairwise fun x y => x.1 < y.1 := h.up
  refine ⟨fun e he => ?_, hup.imp (fun h k => by rw [k] at h; omega), ids_one (List.pairwise_map.2 hup), fun e he => ?_, hl, hn⟩
  · obtain ⟨x, y, hxy, hyn, hE⟩ := h.ends e he
    have h1 : e.2.1 = (x : Int) := by rw [hE]
    have h2 : e.2.2 = (y : Int) := by rw [hE]
    have h3 : ea e = x := by simp [ea, h1]
    have h4 : eb e = y := by simp [eb, h2]
    rw [h3, h4]
    exact ⟨by omega, hyn, h1, h2⟩
  · have := h.ids e he
    exact wf_small (by omega) (by omega)

theorem Cv.cx {w0 w : World} {c mb rest : Nat} {S L : List Edg} {f : Edg → Nat} (h : Cv w0 w c mb rest S f) (hS : ∀ e, e ∈ S ↔ e ∈ L) (hup : (L.map (·.1)).Pairwise (· < ·)) (hwf : ∀ e ∈ L, (Lit.int .i64 e.1).wf = true) (hl : L.length ≤ 60) (hSl : S.length ≤ 60) : Cx w c mb rest S L f := by
  refine ⟨h.co, hS, hup, hwf, hl, fun D N ho hm => ?_⟩
  obtain ⟨D0, N0, k1, k2, k3⟩ := h.mp
  obtain ⟨es, clock, hb1, F1, hs1, rfl⟩ := k1
  obtain ⟨es', clock', hb2, F2, hs2, rfl⟩ := ho
  rw [hb1] at hb2
  cases hb2
  exact ⟨es, clock, hb1, F2, by omega, rfl⟩

/-- A row of numbers that can be read. -/
def RdI (w : World) (a : Option Addr) (m : Nat) (F : Nat → Int) : Prop := 0 < m → ∃ g, a = some ⟨g, 0, none⟩ ∧ g < w.heap.size ∧ ∀ j, j < m → w.cell? ⟨g, j, none⟩ = some (.int .i64 (F j))

theorem RdI.below {w w' : World} {a : Option Addr} {m : Nat} {F : Nat → Int} (h : RdI w a m F) (hb : Below w.heap.size w w') : RdI w' a m F := fun hm => by
  obtain ⟨g, h1, h2, h3⟩ := h hm
  exact ⟨g, h1, Nat.lt_of_lt_of_le h2 hb.size, fun j hj => cell_below (h3 j hj) hb⟩

theorem rdI_of {w : World} {base : Nat} {v : Value} {K : List Int} {m : Nat} (hm : K.length = m) (h : w.ownsRow base 3 1 v K.length (rowZ K)) : ∃ a cap, v = .slice a m cap ∧ RdI w a m (fun j => K.getD j 0) := by
  subst hm
  have h0 := h
  rcases h.2 with ⟨rfl, hz⟩ | ⟨g, cap, cur, rfl, _, hc, _⟩
  · exact ⟨none, 0, by rw [hz], fun hp => absurd hp (by omega)⟩
  · refine ⟨_, cap, rfl, fun _ => ⟨g, rfl, lt_of_some hc, fun j hj => ?_⟩⟩
    rw [h0.cellAt j (by omega)]
    simp [rowZ, hj]

theorem idsOf_filter (L : List Edg) (p : Edg → Bool) : idsOf L (L.filter p) = (L.filter p).map (·.1) := by
  unfold idsOf
  congr 1
  apply List.filter_congr
  intro e he
  simp [he]

set_option maxHeartbeats 400000 in
set_option maxRecDepth 100000 in
theorem cthrice_any (c q bq n : Nat) (x y : Value) (L : List Nat) (w : World) (h : w.heap[c]? = some (.cells #[x, y, .pointer (some ⟨q, 0, none⟩)] 98)) (hs : SetsAt w q bq L) (hg : Good n L) (hn : n ≤ 40) :
    Calls Tryz.prog 36 #[.pointer (some ⟨c, 0, none⟩)] w fun e w' => ∃ v, e = .returned v ∧ AllAt w' v (grps L n) ∧ Below w.heap.size w w' := by
  have hc : w.cell? ⟨c, 2, none⟩ = some (.pointer (some ⟨q, 0, none⟩)) := by simp [World.cell?, h]
  have HA : Hid (Calls Tryz.prog 53 #[.pointer (some ⟨q, 0, none⟩)] w fun e w' => ∃ v, e = .returned v ∧ AllAt w' v (grps L n) ∧ Below w.heap.size w w') := by
    have := all_any q bq L w hs (by rw [hg.len]; exact hn) (fun i hi => by have := hg.le i (by rw [← hg.len]; exact hi); rw [hg.len] at hi; omega)
    rw [hg.len] at this
    exact this
  clear h hs hg
  go_enter Tryz.func36, Tryz.ntmps36
  go_wp2_with fail
  refine Calls.mono HA.out ?_
  rintro e w1 ⟨v, rfl, h1, h2⟩
  have HF : Hid (AllAt w1 v (grps L n) ∧ Below w.heap.size w w1) := ⟨h1, h2⟩
  clear h1 h2
  go_wp2_with fail
  go_ret
  exact ⟨_, rfl, HF.out⟩

theorem samePairs_n (a1 a2 : Option Addr) (k1 k2 np : Nat) (M : List (Int × Int)) (W : World) (hnp : M.length = np) (hn : np ≤ 10000) (h1 : OwnsP W 0 (.slice a1 np k1) M) (h2 : OwnsP W 0 (.slice a2 np k2) M) :
    Calls Tryz.prog 33 #[.slice a1 np k1, .slice a2 np k2] W fun e w' => e = .returned (.bool true) ∧ ∃ k, w' = W.drewN k := by
  subst hnp
  obtain ⟨b1, c1, e1, f1⟩ := h1.shape
  obtain ⟨b2, c2, e2, f2⟩ := h2.shape
  have e1' : a1 = b1 := by injection e1
  have e2' : a2 = b2 := by injection e2
  rw [← e1'] at f1
  rw [← e2'] at f2
  exact samePairs_any a1 a2 k1 k2 M W hn f1 f2

theorem cthrice_n (c q bq n nt : Nat) (x y : Value) (L : List Nat) (Gs : List (List Nat)) (w : World) (h : w.heap[c]? = some (.cells #[x, y, .pointer (some ⟨q, 0, none⟩)] 98)) (hs : SetsAt w q bq L) (hg : Good n L) (hn : n ≤ 40) (hGs : grps L n = Gs) (hnt : Gs.length = nt) :
    Calls Tryz.prog 36 #[.pointer (some ⟨c, 0, none⟩)] w fun e w' => ∃ a k, e = .returned (.slice a nt k) ∧ Rd w' a Gs nt ∧ Below w.heap.size w w' := by
  subst hnt hGs
  refine (cthrice_any c q bq n x y L w h hs hg hn).mono ?_
  rintro e w' ⟨v', rfl, ⟨g, k, rfl, hr⟩, hb'⟩
  exact ⟨_, k, rfl, fun _ => ⟨g, rfl, hr⟩, hb'⟩

theorem thrice_n (n B q nt : Nat) (u : Value) (R : List Edg) (L : List Nat) (Gs : List (List Nat)) (w : World) (h : G.GAt w B 33 55 q (n : Int) u R) (hl : R.length ≤ 30) (hn : n ≤ 40) (hin : Inn n R) (hg : Good n L) (hL : ∀ x y, x < n → y < n → (L.getD x 0 = L.getD y 0 ↔ (cnR R x y ∧ ∀ e ∈ R, ∀ f ∈ R, cnR (rest2 R e f) x y))) (hGs : grps L n = Gs) (hnt : Gs.length = nt) :
    Calls Tryz.prog 37 #[.pointer (some ⟨q, 0, none⟩)] w fun e w' => ∃ a k, e = .returned (.slice a nt k) ∧ Rd w' a Gs nt ∧ Below w.heap.size w w' := by
  subst hnt hGs
  refine (thrice_doc n B q u R L w h hl hn hin hg hL).mono ?_
  rintro e w' ⟨a', k', rfl, hr, hb'⟩
  exact ⟨a', k', rfl, hr, hb'⟩

/-- Covered alike, ring by ring. -/
def allK (p q : Nat → Bool) : Nat → Bool
  | 0 => true
  | k + 1 => allK p q k && (p k == q k)

theorem allK_iff (p q : Nat → Bool) : ∀ m, allK p q m = true ↔ ∀ i, i < m → p i = q i
  | 0 => by simp [allK]
  | m + 1 => by
    simp only [allK, Bool.and_eq_true, beq_iff_eq, allK_iff p q m]
    constructor
    · rintro ⟨h1, h2⟩ i hi
      by_cases e : i = m
      · rw [e]; exact h2
      · exact h1 i (by omega)
    · intro h
      exact ⟨fun i hi => h i (by omega), h m (by omega)⟩

theorem allK_cov (n : Nat) (t o : List Edg) (e d : Edg) : allK (covB n t o e) (covB n t o d) o.length = decide (covN n t o e = covN n t o d) := by
  rw [Bool.eq_iff_iff, allK_iff, decide_eq_true_iff]
  unfold covN
  exact ⟨fun h => bitsN_congr h, fun h => bitsN_inj h⟩

/-- All that is known behind the last question. -/
structure CF (w0 w : World) (c mb rest : Nat) (S L : List Edg) (f : Edg → Nat) (base : Nat) (v3 : Value) (P : List (Nat × Nat × List Int)) (cw Ba : Nat) (va : Value) : Prop where
  co : Co w c mb rest S f
  rw : Rw w base v3 P
  box : w.cell? ⟨cw, 0, none⟩ = some v3
  all : G.Owns w Ba 55 va L
  below : Below w0.heap.size w0 w

theorem CF.below' {w0 w w' : World} {c mb rest : Nat} {S L : List Edg} {f : Edg → Nat} {base : Nat} {v3 : Value} {P : List (Nat × Nat × List Int)} {cw Ba : Nat} {va : Value} (h : CF w0 w c mb rest S L f base v3 P cw Ba va) (hb : Below w.heap.size w w') : CF w0 w' c mb rest S L f base v3 P cw Ba va :=
  ⟨h.co.below hb, h.rw.below hb, cell_below h.box hb, h.all.below hb, h.below.trans (hb.mono h.below.size)⟩

theorem CF.cell {w0 w : World} {c mb rest : Nat} {S L : List Edg} {f : Edg → Nat} {base : Nat} {v3 : Value} {P : List (Nat × Nat × List Int)} {cw Ba g m cap : Nat} (h : CF w0 w c mb rest S L f base v3 P cw Ba (.slice (some ⟨g, 0, none⟩) m cap)) {i : Nat} {e : Edg} (hi : L[i]? = some e) : w.cell? ⟨g, i * 3, none⟩ = some (.int .i64 e.1) := (h.all.at (g := g) rfl hi).1

end Go.Proofs.YtigodbamphejmaaGreatDoor.S
