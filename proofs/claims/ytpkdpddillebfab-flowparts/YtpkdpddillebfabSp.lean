/- SplitParts: the plain mathematics. -/
import Derived.Test.YtpkdpddillebfabFr
import Derived.Test.YtpkdpddillebfabXd
import Derived.Test.YtpkdpddillebfabGW
namespace Go.Proofs.Ytpkdpddillebfab.S
open Go Go.ChangeMaps Go.MapKept Go.WideShapes
open Go.RowKit Go.WideMaps Go.Maps F

section
variable {R : List (Int × Int × Int)} {a b x y n : Nat}

/-- A node with one edge at most leads nowhere. -/
theorem leaf (hed : Ed n 50 R) (h1 : (R.filter (G.ofNode (a : Int))).length ≤ 1) (h : cnw R [b] x y) (hx : x ≠ a) (hy : y ≠ a) : cnw R [a, b] x y := by
  have hend : ∀ e ∈ R, e.2.1 = (ea e : Int) ∧ e.2.2 = (eb e : Int) ∧ ea e ≠ eb e := fun e he => by
    obtain ⟨u, v, huv, _, e1⟩ := hed.ends e he
    have ha : ea e = u := by rw [e1]; simp [ea]
    have hb : eb e = v := by rw [e1]; simp [eb]
    rw [ha, hb]
    refine ⟨?_, ?_, by omega⟩ <;> rw [e1]
  have ht : ∀ e ∈ R, (ea e = a ∨ eb e = a) → e ∈ R.filter (G.ofNode (a : Int)) := fun e he hk => by
    rw [List.mem_filter]
    refine ⟨he, ?_⟩
    obtain ⟨q1, q2, _⟩ := hend e he
    unfold G.ofNode
    rw [q1, q2, Bool.or_eq_true, beq_iff_eq, beq_iff_eq]
    omega
  obtain ⟨c, hc⟩ : ∃ c, ∀ e ∈ R, (ea e = a → eb e = c) ∧ (eb e = a → ea e = c) := by
    cases hF : R.filter (G.ofNode (a : Int)) with
    | nil =>
      refine ⟨a, fun e he => ⟨fun k => ?_, fun k => ?_⟩⟩
      · have := ht e he (.inl k); rw [hF] at this; simp at this
      · have := ht e he (.inr k); rw [hF] at this; simp at this
    | cons f F =>
      have hF0 : F = [] := by rw [hF] at h1; exact List.eq_nil_of_length_eq_zero (by simpa using h1)
      subst hF0
      have hall : ∀ e ∈ R, (ea e = a ∨ eb e = a) → e = f := fun e he hk => by
        have := ht e he hk; rw [hF] at this; simpa using this
      refine ⟨if ea f = a then eb f else ea f, fun e he => ⟨fun k => ?_, fun k => ?_⟩⟩
      · have := hall e he (.inl k); subst this
        rw [if_pos k]
      · have := hall e he (.inr k); subst this
        have := (hend e he).2.2
        rw [if_neg (by omega)]
  have key := Conn.least (P := fun u v => cnw R [a, b] (if u = a then c else u) (if v = a then c else v)) h (fun u => cn_refl _) (fun u v k => cn_symm k) (fun u v z k1 k2 => cn_trans k1 k2) (by
    rintro u v ⟨e, ⟨he, hb1, hb2⟩, rfl, rfl⟩
    by_cases e1 : ea e = a
    · have e2 := (hc e he).1 e1
      have e3 := (hend e he).2.2
      show cnw R [a, b] (if ea e = a then c else ea e) (if eb e = a then c else eb e)
      rw [if_pos e1, if_neg (by omega), e2]
      exact cn_refl _
    · by_cases e2 : eb e = a
      · have e3 := (hc e he).2 e2
        show cnw R [a, b] (if ea e = a then c else ea e) (if eb e = a then c else eb e)
        rw [if_neg e1, if_pos e2, e3]
        exact cn_refl _
      · show cnw R [a, b] (if ea e = a then c else ea e) (if eb e = a then c else eb e)
        rw [if_neg e1, if_neg e2]
        refine cn_edge (e := e) ⟨he, ?_, ?_⟩
        · simp at hb1 ⊢; exact ⟨e1, hb1⟩
        · simp at hb2 ⊢; exact ⟨e2, hb2⟩)
  simp only [if_neg hx, if_neg hy] at key
  exact key

theorem two_edges (hed : Ed n 50 R) (h : PartP R n a b) : 2 ≤ (R.filter (G.ofNode (a : Int))).length ∧ 2 ≤ (R.filter (G.ofNode (b : Int))).length := by
  obtain ⟨x, y, _, _, hd, h1, h2, h3⟩ := part_doc.1 h
  refine ⟨Nat.lt_of_not_le fun k => ?_, Nat.lt_of_not_le fun k => ?_⟩
  · exact h3 (leaf hed k h2 (fun e => hd (.inl e)) (fun e => hd (.inr (.inr (.inl e)))))
  · have := leaf hed k h1 (fun e => hd (.inr (.inl e))) (fun e => hd (.inr (.inr (.inr e))))
    exact h3 ((cnw_congr (fun _ => Iff.rfl) (fun z => by simp; omega)).1 this)

end

/-- The pairs rise. -/
def lexLt (p q : Nat × Nat) : Prop := p.1 < q.1 ∨ (p.1 = q.1 ∧ p.2 < q.2)

theorem all_up (P : Nat → Nat → Bool) (n : Nat) : (allK P n n).Pairwise lexLt := by
  unfold allK
  rw [List.pairwise_flatMap]
  refine ⟨fun a _ => ?_, ?_⟩
  · unfold rowK
    rw [List.pairwise_map]
    exact ((List.pairwise_lt_range).filter _).imp (fun h => .inr ⟨rfl, h⟩)
  · refine List.pairwise_lt_range.imp (fun {u v} h p hp q hq => ?_)
    unfold rowK at hp hq
    obtain ⟨x, _, rfl⟩ := List.mem_map.1 hp
    obtain ⟨y, _, rfl⟩ := List.mem_map.1 hq
    exact .inl h

theorem mem_all {P : Nat → Nat → Bool} {n a b : Nat} (h : (a, b) ∈ allK P n n) : a < b ∧ b < n ∧ P a b = true := by
  unfold allK at h
  obtain ⟨x, _, h⟩ := List.mem_flatMap.1 h
  unfold rowK at h
  obtain ⟨y, hy, he⟩ := List.mem_map.1 h
  injection he with e1 e2
  subst e1
  subst e2
  have := List.mem_filter.1 hy
  simp at this
  exact ⟨this.2.1, this.1, this.2.2⟩

theorem all_step {P : Nat → Nat → Bool} {n k : Nat} {p q : Nat × Nat} (h1 : (allK P n n)[k]? = some p) (h2 : (allK P n n)[k + 1]? = some q) : lexLt p q := by
  obtain ⟨l1, e1⟩ := List.getElem?_eq_some_iff.1 h1
  obtain ⟨l2, e2⟩ := List.getElem?_eq_some_iff.1 h2
  have := List.pairwise_iff_getElem.1 (all_up P n) k (k + 1) l1 l2 (by omega)
  rw [e1, e2] at this
  exact this

/-- What is left of a graph, without some nodes. -/
theorem Ed.filter {n i : Nat} {L : List (Int × Int × Int)} (h : Ed n i L) (f : Int × Int × Int → Bool) : Ed n i (L.filter f) :=
  ⟨List.Pairwise.filter _ h.up, fun e he => h.ids e (List.mem_filter.1 he).1, fun e he => h.ends e (List.mem_filter.1 he).1, Nat.le_trans (List.length_filter_le _ _) h.len⟩

/-- Together, in what is left. -/
theorem left_cn {L L' : List (Int × Int × Int)} {S : List Nat} (h : ∀ e, e ∈ L' ↔ e ∈ L ∧ ea e ∉ S ∧ eb e ∉ S) {x y : Nat} : cnR L' x y ↔ cnw L S x y :=
  ⟨fun k => cn_mono k fun e he => (h e).1 he, fun k => cn_mono k fun e he => (h e).2 he⟩

/-- The two numbers of a row of two. -/
def twoG (a b : Nat) (i : Nat) : Int := if i = 0 then (a : Int) else (b : Int)

/-- What is left without one node, and without two. -/
def wo1 (R : List (Int × Int × Int)) (a : Nat) : List (Int × Int × Int) := R.filter (G.stays (fun _ => 0) (fun _ => (a : Int)) 0 1)
def wo2 (R : List (Int × Int × Int)) (a b : Nat) : List (Int × Int × Int) := R.filter (G.stays (fun _ => 0) (twoG a b) 0 2)

theorem ed_nat {n i : Nat} {L : List (Int × Int × Int)} (h : Ed n i L) {e : Int × Int × Int} (he : e ∈ L) : e.2.1 = (ea e : Int) ∧ e.2.2 = (eb e : Int) := by
  obtain ⟨x, y, hxy, hy, hq⟩ := h.ends e he
  have h1 : e.2.1 = (x : Int) := by rw [hq]
  have h2 : e.2.2 = (y : Int) := by rw [hq]
  have h3 : ea e = x := by unfold ea; rw [h1]; simp
  have h4 : eb e = y := by unfold eb; rw [h2]; simp
  rw [h3, h4]
  exact ⟨h1, h2⟩

theorem among_g2 (a b z : Nat) : G.among (twoG a b) 2 (z : Int) = true ↔ z ∈ [a, b] := by
  unfold G.among twoG
  simp [List.range, List.range.loop]
  omega

theorem among_g1 (a z : Nat) : G.among (fun _ => (a : Int)) 1 (z : Int) = true ↔ z ∈ [a] := by
  unfold G.among
  simp [List.range, List.range.loop]
  omega

theorem stays_off {n i : Nat} {L : List (Int × Int × Int)} (h : Ed n i L) {F : Nat → Int} {m : Nat} {S : List Nat} (hF : ∀ z : Nat, G.among F m (z : Int) = true ↔ z ∈ S) (e : Int × Int × Int) : e ∈ L.filter (G.stays (fun _ => 0) F 0 m) ↔ e ∈ L ∧ ea e ∉ S ∧ eb e ∉ S := by
  rw [List.mem_filter]
  refine ⟨fun ⟨h1, h2⟩ => ⟨h1, ?_⟩, fun ⟨h1, h2⟩ => ⟨h1, ?_⟩⟩
  · obtain ⟨q1, q2⟩ := ed_nat h h1
    unfold G.stays at h2
    rw [q1, q2] at h2
    simp only [Bool.and_eq_true, Bool.not_eq_true'] at h2
    refine ⟨fun k => ?_, fun k => ?_⟩
    · rw [(hF _).2 k] at h2; cases h2.1.2
    · rw [(hF _).2 k] at h2; cases h2.2
  · obtain ⟨q1, q2⟩ := ed_nat h h1
    unfold G.stays
    rw [q1, q2]
    simp only [Bool.and_eq_true, Bool.not_eq_true']
    refine ⟨⟨rfl, ?_⟩, ?_⟩
    · cases k : G.among F m (ea e : Int) with
      | false => rfl
      | true => exact absurd ((hF _).1 k) h2.1
    · cases k : G.among F m (eb e : Int) with
      | false => rfl
      | true => exact absurd ((hF _).1 k) h2.2

theorem wo1_cn {n i : Nat} {L : List (Int × Int × Int)} (h : Ed n i L) (a x y : Nat) : cnR (wo1 L a) x y ↔ cnw L [a] x y := left_cn (stays_off h (among_g1 a))
theorem wo2_cn {n i : Nat} {L : List (Int × Int × Int)} (h : Ed n i L) (a b x y : Nat) : cnR (wo2 L a b) x y ↔ cnw L [a, b] x y := left_cn (stays_off h (among_g2 a b))

/-- What bridge.Of knows of who is together. -/
def Whl (w : World) (p n : Nat) (R : List (Int × Int × Int)) : Prop := ∃ w0 pw bw pt bt mp B W T D N, Run w0 w p pw bw pt bt mp n R B W T D N

theorem Whl.below {w w' : World} {p n : Nat} {R : List (Int × Int × Int)} (h : Whl w p n R) (hb : Below w.heap.size w w') : Whl w' p n R := by
  obtain ⟨w0, pw, bw, pt, bt, mp, B, W, T, D, N, h⟩ := h
  exact ⟨w0, pw, bw, pt, bt, mp, B, W, T, D, N, h.below' hb⟩

theorem whl_any {w : World} {p n : Nat} {R : List (Int × Int × Int)} (h : Whl w p n R) {x y : Nat} (hx : x < n) (hy : y < n) (s : Bool) (hs : s = true ↔ cnR R x y) :
    Calls Try.prog 17 #[.pointer (some ⟨p, 0, none⟩), .int .i64 (x : Int), .int .i64 (y : Int)] w fun e w' => e = .returned (.tuple #[.bool s, .nilIface]) ∧ Below w.heap.size w w' := by
  obtain ⟨w0, pw, bw, pt, bt, mp, B, W, T, D, N, h⟩ := h
  have hst := h.now.st
  refine whole_in x y s w h.now.at_ (by rw [hst.gw.len]; exact hx) (by rw [hst.gw.len]; exact hy) ?_
  rw [Bool.eq_iff_iff, hs, ← hst.hW x y, Lk.iff hx hy, beq_iff_eq]
  omega

theorem whl_of {n B0 q : Nat} {u : Value} {L : List (Int × Int × Int)} {w : World} (h : G.GAt w B0 58 36 q (n : Int) u L) (hn : n ≤ 14) (hed : Ed n 50 L) :
    Calls Try.prog 14 #[.pointer (some ⟨q, 0, none⟩)] w fun e w' => ∃ p, e = .returned (.pointer (some ⟨p, 0, none⟩)) ∧ Whl w' p n L ∧ Below w.heap.size w w' := by
  refine (of_any n B0 q u L w h hn hed).mono ?_
  rintro e w' ⟨p, pw, bw, pt, bt, mp, B, W, T, D, N, rfl, hr⟩
  exact ⟨p, rfl, ⟨_, _, _, _, _, _, _, _, _, _, _, hr⟩, hr.below⟩

theorem wo1_any {n B0 q a g1 : Nat} {u : Value} {L : List (Int × Int × Int)} {w : World} (h : G.GAt w B0 58 36 q (n : Int) u L) (hl : L.length ≤ 50) (hc : w.cell? ⟨g1, 0, none⟩ = some (.int .i64 (a : Int))) :
    Calls Try.prog 13 #[.pointer (some ⟨q, 0, none⟩), .slice none 0 0, .slice (some ⟨g1, 0, none⟩) 1 1] w fun e w' => ∃ p' v', e = .returned (.pointer (some ⟨p', 0, none⟩)) ∧ G.GAt w' w.heap.size 58 36 p' (n : Int) v' (wo1 L a) ∧ Below w.heap.size w w' :=
  G.without_any (n : Int) B0 q u L none (some ⟨g1, 0, none⟩) 0 1 0 1 (fun _ => 0) (fun _ => (a : Int)) w h (by omega) ⟨fun h => absurd h (by omega)⟩ ⟨fun _ => ⟨g1, 0, rfl, fun t ht => by rw [show t = 0 by omega]; exact hc⟩⟩ (by omega) (by omega)

theorem wo2_any {n B0 q a b g1 : Nat} {u : Value} {L : List (Int × Int × Int)} {w : World} (h : G.GAt w B0 58 36 q (n : Int) u L) (hl : L.length ≤ 50) (hc : w.cell? ⟨g1, 0, none⟩ = some (.int .i64 (a : Int))) (hd : w.cell? ⟨g1, 1, none⟩ = some (.int .i64 (b : Int))) :
    Calls Try.prog 13 #[.pointer (some ⟨q, 0, none⟩), .slice none 0 0, .slice (some ⟨g1, 0, none⟩) 2 2] w fun e w' => ∃ p' v', e = .returned (.pointer (some ⟨p', 0, none⟩)) ∧ G.GAt w' w.heap.size 58 36 p' (n : Int) v' (wo2 L a b) ∧ Below w.heap.size w w' :=
  G.without_any (n : Int) B0 q u L none (some ⟨g1, 0, none⟩) 0 2 0 2 (fun _ => 0) (twoG a b) w h (by omega) ⟨fun h => absurd h (by omega)⟩ ⟨fun _ => ⟨g1, 0, rfl, fun t ht => by
    rcases (show t = 0 ∨ t = 1 by omega) with rfl | rfl
    · exact hc
    · exact hd⟩⟩ (by omega) (by omega)

end Go.Proofs.Ytpkdpddillebfab.S
