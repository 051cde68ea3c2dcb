/- The two graphs of one script, step by step. -/
import Derived.Test.YtmbkicdahalakaaDoorYc
import Derived.Test.YtmbkicdahalakaaDoorYf
namespace Go.Proofs.YtmbkicdahalakaaDoor
open Go.RowKit

/-- Both graphs, and the block that the step lies in. -/
structure Rnd (w0 w : World) (p q : Nat) (n : Int) (v u : Value) (R L : List E) (xb : Nat) (cs : Array Value) : Prop where
  two : Two w0 w 81 51 59 p q n v u R L
  hx : w.heap[xb]? = some (.cells cs 53)

theorem not_own {w : World} {B b t : Nat} {v : Value} {L : List E} {cs : Array Value} (h : Owns w B 59 v L) (hx : w.heap[b]? = some (.cells cs t)) (ht : t ≠ 59) : some b ≠ v.ownBlock := by
  intro e
  rcases h.2 with ⟨hv, _⟩ | ⟨g, cap, cur, hv, _, hg, _⟩
  · rw [hv] at e; cases e
  · rw [hv] at e
    have e' : b = g := by simpa [Value.ownBlock] using e
    rw [e', hg] at hx
    injection hx with hx
    injection hx with _ h2
    exact ht h2.symm

theorem not_graph {w : World} {B gT b p : Nat} {n : Int} {v : Value} {L : List E} {cs : Array Value} (h : GAt w B gT 59 p n v L) (hx : w.heap[b]? = some (.cells cs 53)) (ht : gT ≠ 53) : b ≠ p := by
  intro e
  rw [e, h.hp] at hx
  injection hx with hx
  injection hx with _ h2
  exact ht h2

theorem Rnd.below' {w0 w w' : World} {p q : Nat} {n : Int} {v u : Value} {R L : List E} {xb : Nat} {cs : Array Value} (h : Rnd w0 w p q n v u R L xb cs) (k : Below w.heap.size w w') : Rnd w0 w' p q n v u R L xb cs :=
  ⟨h.two.below' k, by rw [k.block xb (lt_of_some h.hx)]; exact h.hx⟩

theorem Rnd.first {w0 w w' : World} {p q : Nat} {n : Int} {v u : Value} {R L L' : List E} {xb : Nat} {cs : Array Value} (h : Rnd w0 w p q n v u R L xb cs) (s : Step1 w w' w0.heap.size 81 p n v L') : ∃ v', Rnd w0 w' p q n v' u R L' xb cs := by
  obtain ⟨v', g, k, f⟩ := s
  exact ⟨v', h.two.first g k f, by rw [k.block xb (lt_of_some h.hx) (not_graph h.two.ga h.hx (by omega)) (not_own h.two.ga.row h.hx (by omega))]; exact h.hx⟩

theorem Rnd.second {w0 w w' : World} {p q : Nat} {n : Int} {v u : Value} {R R' L : List E} {xb : Nat} {cs : Array Value} (h : Rnd w0 w p q n v u R L xb cs) (s : Step1 w w' w0.heap.size 51 q n u R') : ∃ u', Rnd w0 w' p q n v u' R' L xb cs := by
  obtain ⟨u', g, k, f⟩ := s
  exact ⟨u', h.two.second g k f, by rw [k.block xb (lt_of_some h.hx) (not_graph h.two.ra h.hx (by omega)) (not_own h.two.ra.row h.hx (by omega))]; exact h.hx⟩

/-- What Drop tells, and leaves. -/
def dropC (L : List E) (id : Int) : Int := if (seen L id).isSome then 0 else 7
def dropL (L : List E) (id : Int) : List E := if (seen L id).isSome then L.take (place L id) ++ L.drop (place L id + 1) else L

theorem pdrop {w0 w : World} {p q : Nat} {n : Int} {v u : Value} {R L : List E} {xb : Nat} {cs : Array Value} (h : Rnd w0 w p q n v u R L xb cs) (hi : Inv R L) (id : Int) :
    Calls Tryd.prog 17 #[.pointer (some ⟨p, 0, none⟩), .int .i64 id] w fun e w' => e = .returned (errV (dropC L id)) ∧ ∃ v', Rnd w0 w' p q n v' u R (dropL L id) xb cs := by
  rcases place_hit hi.up id with ⟨x, h1, h2, h3⟩ | ⟨_, _, h3⟩
  · refine (drop_hit id n w0.heap.size p (place L id) v L x w h.two.ga hi.up hi.len rfl h1 h3).mono ?_
    rintro e w' ⟨rfl, hs⟩
    refine ⟨by simp [dropC, h3, errV], ?_⟩
    have e : dropL L id = L.take (place L id) ++ L.drop (place L id + 1) := by simp [dropL, h3]
    rw [e]; exact h.first hs
  · refine (drop_miss id n w0.heap.size p v L w h.two.ga hi.up hi.len h3).mono ?_
    rintro e w' ⟨rfl, hb⟩
    refine ⟨by simp [dropC, h3, errV], v, ?_⟩
    have e : dropL L id = L := by simp [dropL, h3]
    rw [e]; exact h.below' hb

theorem Inv.none {R L : List E} (h : Inv R L) {id : Int} (hs : ∀ x ∈ R, x.1 ≠ id) : seen L id = none := seen_none (fun x hx => hs x (h.perm.mem_iff.2 hx))

theorem rdrop {w0 w : World} {p q : Nat} {n : Int} {v u : Value} {R L M : List E} {xb : Nat} {cs : Array Value} (h : Rnd w0 w p q n v u R M xb cs) (hi : Inv R L) (id : Int) (hM : M = dropL L id) :
    Calls Tryd.prog 18 #[.pointer (some ⟨q, 0, none⟩), .int .i64 id] w fun e w' => e = .returned (.int .i64 (dropC L id)) ∧ ∃ u' R', Rnd w0 w' p q n v u' R' M xb cs ∧ Inv R' M := by
  have hl : R.length ≤ 120 := by rw [hi.rlen]; exact hi.len
  refine (rdrop_any id n w0.heap.size q u R w h.two.ra h.two.below.size hl).mono ?_
  rintro e w' (⟨hn, he, hb⟩ | ⟨i, x, hx, hid, he, hs⟩)
  · have h3 := hi.none hn
    refine ⟨by rw [he]; simp [dropC, h3], u, R, h.below' hb, ?_⟩
    have e : dropL L id = L := by simp [dropL, h3]
    rw [hM, e]; exact hi
  · rcases place_hit hi.up id with ⟨y, h1, h2, h3⟩ | ⟨h1, _, _⟩
    · obtain ⟨u', hr⟩ := h.second hs
      refine ⟨by rw [he]; simp [dropC, h3], u', _, hr, ?_⟩
      have e : dropL L id = L.take (place L id) ++ L.drop (place L id + 1) := by simp [dropL, h3]
      rw [hM, e]
      exact hi.out hx h1 (hid.trans h2.symm)
    · exact absurd hid (h1 x (hi.perm.mem_iff.1 (List.mem_of_getElem? hx)))

/-- What Add tells, and leaves. -/
def AddSpec (L : List E) (id a b n c : Int) (M : List E) : Prop :=
  (¬ InRange id a b n ∧ c = 2 ∧ M = L) ∨ (InRange id a b n ∧ a = b ∧ c = 1 ∧ M = L) ∨ (InRange id a b n ∧ a ≠ b ∧ (seen L id).isSome = true ∧ c = 9 ∧ M = L) ∨
  (InRange id a b n ∧ a ≠ b ∧ seen L id = none ∧ 120 ≤ L.length ∧ c = 12 ∧ M = L) ∨ (InRange id a b n ∧ a ≠ b ∧ seen L id = none ∧ L.length < 120 ∧ c = 0 ∧ M = putE L (id, min a b, max a b))

theorem addSpec_any (L : List E) (id a b n : Int) : ∃ c M, AddSpec L id a b n c M := by
  by_cases h1 : InRange id a b n
  · by_cases h2 : a = b
    · exact ⟨1, L, Or.inr (Or.inl ⟨h1, h2, rfl, rfl⟩)⟩
    · cases h3 : seen L id with
      | some x => exact ⟨9, L, Or.inr (Or.inr (Or.inl ⟨h1, h2, by rw [h3]; rfl, rfl, rfl⟩))⟩
      | none =>
        by_cases h4 : 120 ≤ L.length
        · exact ⟨12, L, Or.inr (Or.inr (Or.inr (Or.inl ⟨h1, h2, h3, h4, rfl, rfl⟩)))⟩
        · exact ⟨0, _, Or.inr (Or.inr (Or.inr (Or.inr ⟨h1, h2, h3, by omega, rfl, rfl⟩)))⟩
  · exact ⟨2, L, Or.inl ⟨h1, rfl, rfl⟩⟩

theorem padd {w0 w : World} {p q : Nat} {n : Int} {v u : Value} {R L M : List E} {xb : Nat} {cs : Array Value} (h : Rnd w0 w p q n v u R L xb cs) (hi : Inv R L) (id a b c : Int) (hs : AddSpec L id a b n c M) :
    Calls Tryd.prog 19 #[.pointer (some ⟨p, 0, none⟩), .int .i64 id, .int .i64 a, .int .i64 b] w fun e w' => e = .returned (errV c) ∧ ∃ v', Rnd w0 w' p q n v' u R M xb cs := by
  rcases hs with ⟨h1, rfl, rfl⟩ | ⟨h1, rfl, rfl, rfl⟩ | ⟨h1, h2, h3, rfl, rfl⟩ | ⟨h1, h2, h3, h4, rfl, rfl⟩ | ⟨h1, h2, h3, h4, rfl, rfl⟩
  · refine (add_range id a b n w0.heap.size p v M w h.two.ga h1).mono ?_
    rintro e w' ⟨rfl, hb⟩
    exact ⟨rfl, v, h.below' hb⟩
  · refine (add_arg id a n w0.heap.size p v M w h.two.ga h1).mono ?_
    rintro e w' ⟨rfl, hb⟩
    exact ⟨rfl, v, h.below' hb⟩
  · refine (add_twice id a b n w0.heap.size p v M w h.two.ga hi.up hi.len h1 h2 h3).mono ?_
    rintro e w' ⟨rfl, hb⟩
    exact ⟨rfl, v, h.below' hb⟩
  · refine (add_full id a b n w0.heap.size p v M w h.two.ga hi.up hi.len h1 h2 h3 h4).mono ?_
    rintro e w' ⟨rfl, hb⟩
    exact ⟨rfl, v, h.below' hb⟩
  · refine (add_ok id a b n (min a b) (max a b) w0.heap.size p v L _ w h.two.ga h.two.below.size hi.up h4 h1 h2 h3 rfl rfl rfl).mono ?_
    rintro e w' ⟨rfl, hst⟩
    exact ⟨rfl, h.first hst⟩

theorem radd {w0 w : World} {p q : Nat} {n : Int} {v u : Value} {R L M : List E} {xb : Nat} {cs : Array Value} (h : Rnd w0 w p q n v u R M xb cs) (hi : Inv R L) (h0 : 0 ≤ n) (h40 : n ≤ 40) (id a b c : Int) (hs : AddSpec L id a b n c M) :
    Calls Tryd.prog 20 #[.pointer (some ⟨q, 0, none⟩), .int .i64 id, .int .i64 a, .int .i64 b] w fun e w' => e = .returned (.int .i64 c) ∧ ∃ u' R', Rnd w0 w' p q n v u' R' M xb cs ∧ Inv R' M := by
  have hl : R.length ≤ 120 := by rw [hi.rlen]; exact hi.len
  have hmem : ∀ {x : E}, x ∈ R → x ∈ L := fun hx => hi.perm.mem_iff.1 hx
  by_cases hr : InRange id a b n
  · by_cases hab : a = b
    · subst hab
      rcases hs with ⟨h1, _, _⟩ | ⟨_, _, rfl, rfl⟩ | ⟨_, h2, _⟩ | ⟨_, h2, _⟩ | ⟨_, h2, _⟩
      · exact absurd hr h1
      · refine (radd_arg id a n w0.heap.size q u R w h.two.ra h0 h40 hr).mono ?_
        rintro e w' ⟨rfl, hb⟩
        exact ⟨rfl, u, R, h.below' hb, hi⟩
      · exact absurd rfl h2
      · exact absurd rfl h2
      · exact absurd rfl h2
    · refine (radd_in id a b n (min a b) (max a b) w0.heap.size q u R w h.two.ra h.two.below.size hl h0 h40 hr hab rfl rfl).mono ?_
      rintro e w' (⟨⟨x, hx, hid⟩, he, hb⟩ | ⟨hn, hlen, he, hb⟩ | ⟨hn, hlen, he, hst⟩)
      · have hse : seen L id = some x := seen_some hi.up (hmem hx) hid
        rcases hs with ⟨h1, _, _⟩ | ⟨_, h2, _⟩ | ⟨_, _, _, rfl, rfl⟩ | ⟨_, _, h3, _⟩ | ⟨_, _, h3, _⟩
        · exact absurd hr h1
        · exact absurd h2 hab
        · exact ⟨he, u, R, h.below' hb, hi⟩
        · rw [hse] at h3; cases h3
        · rw [hse] at h3; cases h3
      · have hse := hi.none hn
        rcases hs with ⟨h1, _, _⟩ | ⟨_, h2, _⟩ | ⟨_, _, h3, _⟩ | ⟨_, _, _, _, rfl, rfl⟩ | ⟨_, _, _, h4, _⟩
        · exact absurd hr h1
        · exact absurd h2 hab
        · rw [hse] at h3; cases h3
        · exact ⟨he, u, R, h.below' hb, hi⟩
        · rw [hi.rlen] at hlen; omega
      · have hse := hi.none hn
        rcases hs with ⟨h1, _, _⟩ | ⟨_, h2, _⟩ | ⟨_, _, h3, _⟩ | ⟨_, _, _, h4, _⟩ | ⟨_, _, _, h4, rfl, rfl⟩
        · exact absurd hr h1
        · exact absurd h2 hab
        · rw [hse] at h3; cases h3
        · rw [hi.rlen] at hlen; omega
        · obtain ⟨u', hr'⟩ := h.second hst
          exact ⟨he, u', _, hr', hi.put _ (fun x hx e => hn x (hi.perm.mem_iff.2 hx) e) h4⟩
  · rcases hs with ⟨_, rfl, rfl⟩ | ⟨h1, _⟩ | ⟨h1, _⟩ | ⟨h1, _⟩ | ⟨h1, _⟩
    · refine (radd_range id a b n w0.heap.size q u R w h.two.ra h0 h40 hr).mono ?_
      rintro e w' ⟨rfl, hb⟩
      exact ⟨rfl, u, R, h.below' hb, hi⟩
    · exact absurd h1 hr
    · exact absurd h1 hr
    · exact absurd h1 hr
    · exact absurd h1 hr

end Go.Proofs.YtmbkicdahalakaaDoor
