/- Rows of labels; the document's other; labels of edges that are told until nothing changes. -/
import Derived.Test.YtdcdmmbchfhioaaGreatDoorCb
namespace Go.Proofs.YtdcdmmbchfhioaaGreatDoor.S
open Go.RowKit Go.WideMaps Go.Maps

/-- Rows of labels, in a row. -/
structure AloneL (w : World) (base n : Nat) (v : Value) (P : List (Nat × List Nat)) : Prop where
  own : w.ownsRow base 39 1 v P.length (P.map fun p => .slice (some ⟨p.1, 0, none⟩) n n)
  rows : ∀ p ∈ P, RowL w p.1 p.2 ∧ p.2.length = n

theorem AloneL.below {w w' : World} {base n : Nat} {v : Value} {P : List (Nat × List Nat)} (h : AloneL w base n v P) (hb : Below w.heap.size w w') : AloneL w' base n v P :=
  ⟨h.own.kept (grown_below hb) (by cases v.ownBlock <;> simp), fun p hp => ⟨(h.rows p hp).1.below hb (h.rows p hp).1.lt, (h.rows p hp).2⟩⟩

theorem AloneL.shape {w : World} {base n : Nat} {v : Value} {P : List (Nat × List Nat)} (h : AloneL w base n v P) : ∃ a cap, v = .slice a P.length cap ∧ ∀ i p, P[i]? = some p → ∃ g, a = some ⟨g, 0, none⟩ ∧ base ≤ g ∧ g < w.heap.size ∧ w.cell? ⟨g, i, none⟩ = some (.slice (some ⟨p.1, 0, none⟩) n n) := by
  have h0 := h.own
  rcases h.own.2 with ⟨rfl, hz⟩ | ⟨g, cap, cur, rfl, hb, hg, _⟩
  · refine ⟨none, 0, by rw [hz], fun i p hi => ?_⟩
    have := (List.getElem?_eq_some_iff.1 hi).1; omega
  · refine ⟨_, cap, rfl, fun i p hi => ⟨g, rfl, hb, lt_of_some hg, ?_⟩⟩
    rw [h0.cellAt i (by have := (List.getElem?_eq_some_iff.1 hi).1; omega)]
    simp [hi]

theorem own_blk {w : World} {base : Nat} {v : Value} {k : Nat} {xs : List Value} (h : w.ownsRow base 39 1 v k xs) {g : Nat} (hg : v.ownBlock = some g) : ∃ cur, w.heap[g]? = some (.cells cur 39) := by
  rcases h.2 with ⟨rfl, _⟩ | ⟨g', cap, cur, rfl, _, hc, _⟩
  · simp [Value.ownBlock] at hg
  · simp [Value.ownBlock] at hg
    subst hg
    exact ⟨_, hc⟩

theorem AloneL.push {w w4 : World} {base n b : Nat} {v v' : Value} {P : List (Nat × List Nat)} {l : List Nat} {o : Obj} (h : AloneL w base n v P) (hr : RowL w b l) (hl : l.length = n) (hown : w4.ownsRow base 39 1 v' (P.length + 1) ((P.map fun p => .slice (some ⟨p.1, 0, none⟩) n n) ++ [.slice (some ⟨b, 0, none⟩) n n]))
    (hg : (w.alloc o).grownBy w4 v.ownBlock) : AloneL w4 base n v' (P ++ [(b, l)]) := by
  refine ⟨by simpa using hown, fun p hp => ?_⟩
  have h1 : RowL w p.1 p.2 ∧ p.2.length = n := by
    rcases List.mem_append.1 hp with hp | hp
    · exact h.rows p hp
    · rw [List.mem_singleton.1 hp]; exact ⟨hr, hl⟩
  refine ⟨?_, h1.2⟩
  have h2 : (w.alloc o).heap[p.1]? = w.heap[p.1]? := Below.heap_alloc w o p.1 h1.1.lt
  show w4.heap[p.1]? = _
  rw [hg.block p.1 (by have := h1.1.lt; simp; omega) (fun e => ?_), h2]
  · exact h1.1
  · obtain ⟨cur, hc⟩ := own_blk h.own e.symm
    have := h1.1
    unfold RowL at this
    rw [this] at hc; simp at hc

/-- What the rows of labels say of the graph without each node. -/
def AlS (n : Nat) (L : List (Int × Int × Int)) (P : List (Nat × List Nat)) : Prop := ∀ x p, P[x]? = some p → ∀ u v, u < n → v < n → (p.2.getD u 0 = p.2.getD v 0 ↔ cnR (wo L x) u v)

theorem als_step {n : Nat} {L : List (Int × Int × Int)} {P : List (Nat × List Nat)} {b : Nat} {l : List Nat} (h : AlS n L P) (hl : ∀ u v, u < n → v < n → (l.getD u 0 = l.getD v 0 ↔ cnR (wo L P.length) u v)) : AlS n L (P ++ [(b, l)]) := by
  intro x p hp
  rcases Nat.lt_or_ge x P.length with c | c
  · rw [List.getElem?_append_left c] at hp; exact h x p hp
  · rw [List.getElem?_append_right c] at hp
    have h0 : x - P.length = 0 := by
      have := (List.getElem?_eq_some_iff.1 hp).1; simp at this; omega
    rw [h0] at hp
    have hx : x = P.length := by omega
    subst hx
    simp at hp
    subst hp
    exact hl

set_option maxHeartbeats 400000 in
theorem rother_any (x0 : Int) (A E x : Nat) (w : World) (hx : x = A ∨ x = E) (hA : A ≤ 1000) (hE : E ≤ 1000) :
    Calls Tryz.prog 60 #[.agg #[.int .i64 x0, .int .i64 (A : Int), .int .i64 (E : Int)], .int .i64 (x : Int)] w fun e w' => e = .returned (.int .i64 ((A + E - x : Nat) : Int)) ∧ Below w.heap.size w w' := by
  have hr : (A : Int) + (E : Int) - (x : Int) = ((A + E - x : Nat) : Int) := by omega
  have HR : Hid ((A : Int) + (E : Int) - (x : Int) = ((A + E - x : Nat) : Int)) := hr
  clear hr
  have h1 : (x : Int) ≤ 1000 := by omega
  go_enter Tryz.func60, Tryz.ntmps60
  go_wp2
  go_ret
  exact ⟨by rw [← HR.out]; rfl, (Below.refl _ _).alloc (Nat.le_refl _) _⟩

theorem ot_sum {e : Int × Int × Int} {x : Nat} (h : tch e x) : ea e + eb e - x = ot e x := by
  unfold tch at h
  unfold ot
  split <;> omega

/-- Behind a pass, or amid it. -/
def Prog (s : Value) (l l' : List Nat) (D : Prop) : Prop := (s = .bool false ∧ l' = l ∧ D) ∨ (s = .bool true ∧ l'.sum < l.sum)

theorem Prog.imp {s : Value} {l l' : List Nat} {D D' : Prop} (h : Prog s l l' D) (k : l' = l → D → D') : Prog s l l' D' := by
  rcases h with ⟨h1, h2, h3⟩ | h
  · exact .inl ⟨h1, h2, k h2 h3⟩
  · exact .inr h
theorem Prog.le {s : Value} {l l' : List Nat} {D : Prop} (h : Prog s l l' D) : l'.sum ≤ l.sum := by
  rcases h with ⟨_, rfl, _⟩ | ⟨_, h⟩
  · exact Nat.le_refl _
  · exact Nat.le_of_lt h

/-- No label is to be told: of the edges at the places below i; of i's and those below k; of these and of the first t of i's ends. -/
def DnI (L : List (Int × Int × Int)) (l : List Nat) (i : Nat) : Prop := ∀ i', i' < i → ∀ x k, Rx L x i' k → ¬ l.getD i' 0 < l.getD k 0
def DnK (L : List (Int × Int × Int)) (l : List Nat) (i k : Nat) : Prop := DnI L l i ∧ ∀ k', k' < k → ∀ x, Rx L x i k' → ¬ l.getD i 0 < l.getD k' 0
def DnT (L : List (Int × Int × Int)) (l : List Nat) (i k t : Nat) (e : Int × Int × Int) : Prop := DnK L l i k ∧ (0 < t → Rx L (ea e) i k → ¬ l.getD i 0 < l.getD k 0) ∧ (1 < t → Rx L (eb e) i k → ¬ l.getD i 0 < l.getD k 0)

theorem dnT_end {L : List (Int × Int × Int)} {l : List Nat} {i k : Nat} {e : Int × Int × Int} (he : L[i]? = some e) (h : DnT L l i k 2 e) : DnK L l i (k + 1) := by
  refine ⟨h.1.1, fun k' hk x hr => ?_⟩
  by_cases c : k' = k
  · rw [c] at hr ⊢
    obtain ⟨e', f, h1, h2, h3, h4, h5⟩ := id hr
    rw [he] at h1; cases h1
    rcases h3 with h3 | h3
    · exact h.2.1 (by omega) (by rw [h3]; exact hr)
    · exact h.2.2 (by omega) (by rw [h3]; exact hr)
  · exact h.1.2 k' (by omega) x hr

theorem dnK_end {L : List (Int × Int × Int)} {l : List Nat} {i m : Nat} (hm : L.length = m) (h : DnK L l i m) : DnI L l (i + 1) := by
  intro i' hi x k hr
  by_cases c : i' = i
  · subst c; exact h.2 k (by have := hr.lt.2; omega) x hr
  · exact h.1 i' (by omega) x k hr

theorem dnI_end {L : List (Int × Int × Int)} {l : List Nat} {m : Nat} (hm : L.length = m) (h : DnI L l m) : ∀ x i k, Rx L x i k → ¬ l.getD i 0 < l.getD k 0 := fun x i k hr => h i (by have := hr.lt.1; omega) x k hr

end Go.Proofs.YtdcdmmbchfhioaaGreatDoor.S
namespace Go.Proofs.YtdcdmmbchfhioaaGreatDoor.S
open Go.RowKit Go.WideMaps Go.Maps

theorem POut.kept {w w' : World} {base : Nat} {t : Value} {Gs : List (List Nat)} {r c : Nat → Nat} {row : Option Nat} (h : POut w base t Gs r c) (hg : w.grownBy w' row) (hr : ∀ m, row = some m → m < base) : POut w' base t Gs r c := by
  have hne : ∀ {v : Value} {e k : Nat} {xs : List Value}, w.ownsRow base e 1 v k xs → v.ownBlock = none ∨ v.ownBlock ≠ row := by
    intro v e k xs ho
    cases hv : v.ownBlock with
    | none => exact .inl rfl
    | some b =>
      refine .inr (fun c => ?_)
      have h1 := (ho.lt b hv).1
      have h2 := hr b c.symm
      omega
  exact ⟨h.own.kept hg (hne h.own), fun i hi => ⟨(h.each i hi).1.kept hg (hne (h.each i hi).1), (h.each i hi).2⟩, h.apart⟩

theorem POut.lt {w : World} {base : Nat} {t : Value} {Gs : List (List Nat)} {r c : Nat → Nat} (h : POut w base t Gs r c) (i : Nat) (hi : i < Gs.length) : base ≤ r i ∧ r i < w.heap.size := (h.each i hi).1.lt (r i) rfl

/-- A row that begins with nothing, and gets its first number at once. -/
theorem POut.begin {w w1 w2 : World} {base g cap ρ κ x : Nat} {t : Value} {Gs : List (List Nat)} {r c : Nat → Nat} (h : POut w base t Gs r c) (o1 o2 : Obj) (hg1 : (w.alloc o1).grownBy w1 t.ownBlock)
    (hown1 : w1.ownsRow base 39 1 (.slice (some ⟨g, 0, none⟩) (Gs.length + 1) cap) (Gs.length + 1) (rvals Gs r c ++ [.slice none 0 0])) (hg2 : (w1.alloc o2).grownBy w2 none)
    (hown2 : w2.ownsInts base 3 .i64 (.slice (some ⟨ρ, 0, none⟩) 1 κ) [(x : Int)]) (hρ : w1.heap.size ≤ ρ) :
    POut (w2.setCell ⟨g, Gs.length, none⟩ (.slice (some ⟨ρ, 0, none⟩) 1 κ)) base (.slice (some ⟨g, 0, none⟩) (Gs.length + 1) cap) (Gs ++ [[x]]) (fun i => if i = Gs.length then ρ else r i) (fun i => if i = Gs.length then κ else c i) := by
  have hglt := hown1.lt g rfl
  have ht2 : w2.ownsRow base 39 1 (.slice (some ⟨g, 0, none⟩) (Gs.length + 1) cap) (Gs.length + 1) (rvals Gs r c ++ [.slice none 0 0]) := (hown1.alloc o2).kept hg2 (.inr (by simp [Value.ownBlock]))
  have ht3 := ht2.stored Gs.length (.slice (some ⟨ρ, 0, none⟩) 1 κ)
  have hrl : (rvals Gs r c).length = Gs.length := by simp [rvals]
  have hset : (rvals Gs r c ++ [Value.slice none 0 0]).set Gs.length (.slice (some ⟨ρ, 0, none⟩) 1 κ) = rvals (Gs ++ [[x]]) (fun i => if i = Gs.length then ρ else r i) (fun i => if i = Gs.length then κ else c i) := by
    have e1 : (rvals Gs r c ++ [Value.slice none 0 0]).set Gs.length (.slice (some ⟨ρ, 0, none⟩) 1 κ) = rvals Gs r c ++ [.slice (some ⟨ρ, 0, none⟩) 1 κ] := by
      rw [List.set_append_right _ _ (by omega), hrl]
      simp
    rw [e1]
    unfold rvals
    rw [List.length_append]
    show _ = List.map _ (List.range (Gs.length + 1))
    rw [List.range_succ, List.map_append]
    congr 1
    · apply List.map_congr_left
      intro i hi
      have hi' := List.mem_range.1 hi
      have hne : i ≠ Gs.length := by omega
      simp only [if_neg hne]
      rw [getD_snoc_lt hi']
    · simp
  have hgr : w2.grownBy (w2.setCell ⟨g, Gs.length, none⟩ (.slice (some ⟨ρ, 0, none⟩) 1 κ)) (some g) := ⟨rfl, rfl, rfl, by simp, fun i _ hi => Below.heap_setCell _ _ _ _ (fun e => hi (by rw [e]))⟩
  have hgne : ∀ {b : Nat} {cur : Array Value}, w2.heap[b]? = some (.cells cur 3) → b ≠ g := by
    intro b cur hb c
    subst c
    rcases ht2.2 with ⟨h0, _⟩ | ⟨g', cap', cur', h0, _, hc, _⟩
    · cases h0
    · injection h0 with h1 _ _
      injection h1 with h1
      injection h1 with h1 _ _
      subst h1
      rw [hb] at hc
      injection hc with hc
      injection hc with _ hc
      exact absurd hc (by decide)
  have each3 : ∀ {v : Value} {zs : List Int}, w2.ownsInts base 3 .i64 v zs → (w2.setCell ⟨g, Gs.length, none⟩ (.slice (some ⟨ρ, 0, none⟩) 1 κ)).ownsInts base 3 .i64 v zs := by
    intro v zs ho
    refine ⟨ho.1.kept hgr ?_, ho.2⟩
    rcases ho.1.2 with ⟨h0, _⟩ | ⟨b, cap', cur', h0, _, hc, _⟩
    · rw [h0]; exact .inl rfl
    · rw [h0]; exact .inr (fun c => hgne hc (by simpa [Value.ownBlock] using c))
  have old : ∀ i, i < Gs.length → w2.ownsInts base 3 .i64 (.slice (some ⟨r i, 0, none⟩) (Gs.getD i []).length (c i)) (ints (Gs.getD i [])) := by
    intro i hi
    have h1 := h.each i hi
    refine ⟨((((h1.1.alloc o1).kept hg1 (.inr (fun e => h.ne i hi e.symm)))).alloc o2).kept hg2 (.inr (by simp [Value.ownBlock])), h1.2⟩
  have hw01 : w.heap.size ≤ w1.heap.size := Nat.le_trans (by simp) hg1.size
  refine ⟨?_, ?_, ?_⟩
  · rw [List.length_append, ← hset]
    exact ht3.1
  · intro i hi
    rw [List.length_append] at hi
    have hi : i < Gs.length + 1 := hi
    by_cases e : i = Gs.length
    · subst e
      simp only [if_pos]
      rw [getD_snoc_eq]
      exact each3 hown2
    · simp only [if_neg e]
      have hi' : i < Gs.length := by omega
      rw [getD_snoc_lt hi']
      exact each3 (old i hi')
  · intro i j hi hj hne
    rw [List.length_append] at hi hj
    have hi : i < Gs.length + 1 := hi
    have hj : j < Gs.length + 1 := hj
    by_cases e1 : i = Gs.length
    · by_cases e2 : j = Gs.length
      · omega
      · simp only [if_pos e1, if_neg e2]
        have := (h.lt j (by omega)).2
        omega
    · by_cases e2 : j = Gs.length
      · simp only [if_neg e1, if_pos e2]
        have := (h.lt i (by omega)).2
        omega
      · simp only [if_neg e1, if_neg e2]
        exact h.apart i j (by omega) (by omega) hne

/-- The rows of the numbers of the first t edges. -/
def pgI (L : List (Int × Int × Int)) (l : List Nat) (t : Nat) : List (List Nat) := (pgr l t).map (List.map (idN L))

theorem pgI_length (L : List (Int × Int × Int)) (l : List Nat) (t : Nat) : (pgI L l t).length = (lst l t).length := by simp [pgI, pgr]

theorem pgI_at (L : List (Int × Int × Int)) (l : List Nat) {t i : Nat} (h : i < (lst l t).length) : (pgI L l t).getD i [] = (grp l t ((lst l t).getD i 0)).map (idN L) := by
  have := pgr_at l t i h
  unfold pgI
  rw [List.getD_eq_getElem?_getD, List.getElem?_map]
  rw [List.getD_eq_getElem?_getD] at this
  have h2 : i < (pgr l t).length := by rw [pgr_length]; exact h
  rw [List.getElem?_eq_getElem h2] at this ⊢
  simp at this ⊢
  rw [this]

theorem pgI_found (L : List (Int × Int × Int)) {l : List Nat} {t i : Nat} (hi : i < (lst l t).length) (h : (lst l t).getD i 0 = l.getD t 0) : pgI L l (t + 1) = (pgI L l t).set i ((pgI L l t).getD i [] ++ [idN L t]) := by
  rw [pgI_at L l hi]
  unfold pgI
  rw [pgr_found hi h, List.map_set, List.map_append]
  rfl

theorem pgI_none (L : List (Int × Int × Int)) {n : Nat} {l : List Nat} {t : Nat} (g : Good n l) (ht : t < n) (h : ∀ i, i < (lst l t).length → (lst l t).getD i 0 ≠ l.getD t 0) : pgI L l (t + 1) = pgI L l t ++ [[idN L t]] := by
  unfold pgI
  rw [pgr_none g ht h, List.map_append]
  rfl

theorem pgI_all (L : List (Int × Int × Int)) (l : List Nat) : pgI L l L.length = blks L l := by
  unfold pgI blks pgr
  rw [List.map_map]
  rfl

/-- The map of the places of the rows. -/
structure Am (D : DataW Unit) (ks : List Nat) : Prop where
  key : ∀ y : Nat, Maps.has D (.int .i64 (y : Int)) = true ↔ y ∈ ks
  val : ∀ (i y : Nat), ks[i]? = some y → ∀ zd, D.atKey (.int .i64 (y : Int)) zd = .lit (.int .i64 (i : Int))

theorem Am.start : Am (.map []) [] := ⟨fun y => by simp [Maps.has], fun i y h => by simp at h⟩

theorem Am.put {D : DataW Unit} {ks : List Nat} (h : Am D ks) (hD : IsMap D) {y : Nat} (hy : y ∉ ks) : Am (D.put (.int .i64 (y : Int)) (.lit (.int .i64 (ks.length : Int)))) (ks ++ [y]) := by
  refine ⟨fun z => ?_, fun i z hz zd => ?_⟩
  · by_cases c : z = y
    · subst c
      rw [has_put_same hD (isKeyLit _)]; simp
    · rw [has_put_other (by simp; omega), h.key]; simp [c]
  · rcases Nat.lt_or_ge i ks.length with c | c
    · rw [List.getElem?_append_left c] at hz
      have hne : z ≠ y := fun e => hy (e ▸ List.mem_of_getElem? hz)
      rw [atKey_put_other (by simp; omega)]
      exact h.val i z hz zd
    · rw [List.getElem?_append_right c] at hz
      have h0 : i - ks.length = 0 := by
        have := (List.getElem?_eq_some_iff.1 hz).1; simp at this; omega
      rw [h0] at hz
      have hzy : z = y := by simpa using hz.symm
      have hik : i = ks.length := by omega
      rw [hzy, hik, atKey_put_same hD (isKeyLit _)]

end Go.Proofs.YtdcdmmbchfhioaaGreatDoor.S
