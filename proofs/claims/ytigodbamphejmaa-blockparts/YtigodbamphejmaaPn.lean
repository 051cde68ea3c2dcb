/- The maps of the law: what was seen, and which blocks each node has. -/
import Derived.Test.YtigodbamphejmaaPm
import Derived.Test.YtigodbamphejmaaKfh
import Derived.Test.YtigodbamphejmaaMe
namespace Go.Proofs.Ytigodbamphejmaa.S
open Go.RowKit Go.WideMaps Go.Maps

/-- A map whose keys are these numbers. -/
structure KeysM (D : DataW Unit) (ks : List Nat) : Prop where
  key : ∀ c : Nat, Maps.has D (.int .i64 (c : Int)) = true ↔ c ∈ ks
  neg : ∀ c : Int, Maps.has D (.int .i64 c) = true → 0 ≤ c
  tidy : Tidy D
  size : Maps.size D = ks.length
  nd : ks.Nodup

theorem KeysM.start : KeysM (.map []) [] := ⟨fun c => by simp [Maps.has], fun c h => by simp [Maps.has] at h, tidy_empty, rfl, List.nodup_nil⟩

theorem KeysM.put {D : DataW Unit} {ks : List Nat} (h : KeysM D ks) (k : Nat) (d : DataW Unit) : ∃ ks', KeysM (D.put (.int .i64 (k : Int)) d) ks' ∧ ∀ c, c ∈ ks' ↔ c ∈ ks ∨ c = k := by
  have hneg : ∀ c : Int, Maps.has (D.put (.int .i64 (k : Int)) d) (.int .i64 c) = true → 0 ≤ c := fun c hc => by
    by_cases e : c = (k : Int)
    · omega
    · rw [has_put_other (by simp; exact e)] at hc
      exact h.neg c hc
  by_cases hk : k ∈ ks
  · refine ⟨ks, ⟨fun c => ?_, hneg, h.tidy.put (isKeyLit _) _, ?_, h.nd⟩, fun c => ⟨fun hc => .inl hc, fun hc => hc.elim id (fun e => e ▸ hk)⟩⟩
    · by_cases c' : c = k
      · subst c'
        rw [has_put_same h.tidy.isMap (isKeyLit _)]
        exact ⟨fun _ => hk, fun _ => rfl⟩
      · rw [has_put_other (by simp; omega), h.key]
    · rw [size_put h.tidy, (h.key k).2 hk, if_pos rfl, h.size]
  · have hnh : Maps.has D (.int .i64 (k : Int)) = false := by
      rw [Bool.eq_false_iff]
      exact fun c => hk ((h.key k).1 c)
    refine ⟨ks ++ [k], ⟨fun c => ?_, hneg, h.tidy.put (isKeyLit _) _, ?_, ?_⟩, fun c => by simp⟩
    · by_cases c' : c = k
      · subst c'
        rw [has_put_same h.tidy.isMap (isKeyLit _)]
        simp
      · rw [has_put_other (by simp; omega), h.key]
        simp [c']
    · rw [size_put h.tidy, hnh, h.size]; simp
    · rw [List.nodup_append]
      exact ⟨h.nd, by simp, fun a ha b hb e => hk (by rw [List.mem_singleton.1 hb] at e; exact e ▸ ha)⟩

/-- The map of what was seen, and the row of maps of the nodes. -/
structure AtS (w : World) (ms ga n N : Nat) (Ds : DataW Unit) (Dx : Nat → DataW Unit) : Prop where
  sn : w.ownsMap Try.prog 3 (plainElem Try.prog 4) ms N Ds
  tb : ∀ x, x < n → w.cell? ⟨ga, x, none⟩ = some (.map (some (ga + 1 + x)))
  mp : ∀ x, x < n → w.ownsMap Try.prog 3 (plainElem Try.prog 4) (ga + 1 + x) N (Dx x)
  ne : ms < ga
  lt : ga < w.heap.size

section
variable {w w' : World} {ms ga n N N' : Nat} {Ds Ds' D' : DataW Unit} {Dx : Nat → DataW Unit}

theorem grown_cell {row : Option Nat} (hg : w.grownBy w' row) {g i : Nat} {v : Value} (h : w.cell? ⟨g, i, none⟩ = some v) (hlt : g < w.heap.size) (hne : some g ≠ row) : w'.cell? ⟨g, i, none⟩ = some v := by
  simp only [World.cell?] at h ⊢
  rw [hg.block g hlt hne]; exact h

theorem AtS.kept {row : Option Nat} (h : AtS w ms ga n N Ds Dx) (hg : w.grownBy w' row) (h1 : some ms ≠ row) (h2 : some ga ≠ row) (h3 : ∀ x, x < n → some (ga + 1 + x) ≠ row) : AtS w' ms ga n N Ds Dx :=
  ⟨h.sn.kept hg h1, fun x hx => grown_cell hg (h.tb x hx) h.lt h2, fun x hx => (h.mp x hx).kept hg (h3 x hx), h.ne, Nat.lt_of_lt_of_le h.lt hg.size⟩

theorem AtS.below (h : AtS w ms ga n N Ds Dx) (hb : Below w.heap.size w w') : AtS w' ms ga n N Ds Dx :=
  h.kept (row := none) ⟨hb.os, hb.tape, hb.output, hb.size, fun k hk _ => hb.block k hk⟩ (by simp) (by simp) (fun _ _ => by simp)

theorem AtS.mono (h : AtS w ms ga n N Ds Dx) (hN : N ≤ N') : AtS w ms ga n N' Ds Dx := { h with sn := h.sn.mono hN, mp := fun x hx => (h.mp x hx).mono hN }

theorem AtS.seen (h : AtS w ms ga n N Ds Dx) (hg : w.grownBy w' (some ms)) (hm : w'.ownsMap Try.prog 3 (plainElem Try.prog 4) ms N' Ds') (hN : N ≤ N') : AtS w' ms ga n N' Ds' Dx :=
  ⟨hm, fun x hx => grown_cell hg (h.tb x hx) h.lt (by have := h.ne; simp; omega), fun x hx => ((h.mp x hx).kept hg (by have := h.ne; simp; omega)).mono hN, h.ne, Nat.lt_of_lt_of_le h.lt hg.size⟩

theorem AtS.node {y : Nat} (h : AtS w ms ga n N Ds Dx) (hg : w.grownBy w' (some (ga + 1 + y))) (hm : w'.ownsMap Try.prog 3 (plainElem Try.prog 4) (ga + 1 + y) N' D') (hN : N ≤ N') : AtS w' ms ga n N' Ds (fun x => if x = y then D' else Dx x) :=
  ⟨(h.sn.kept hg (by have := h.ne; simp; omega)).mono hN, fun x hx => grown_cell hg (h.tb x hx) h.lt (by simp; omega), fun x hx => by
    by_cases e : x = y
    · subst e; simpa using hm
    · simp only [if_neg e]
      exact ((h.mp x hx).kept hg (by simp; omega)).mono hN, h.ne, Nat.lt_of_lt_of_le h.lt hg.size⟩
end

/-- What the maps say behind k blocks and j edges of the next. -/
structure InvS (R : List (Int × Int × Int)) (l : List Nat) (n k j : Nat) (Ds : DataW Unit) (Dx : Nat → DataW Unit) : Prop where
  sn : ∃ ks, KeysM Ds ks ∧ ∀ c, c ∈ ks ↔ ∃ a b, Bef l R.length k j a b ∧ idN R (pos l R.length a b) = c
  nd : ∀ x, x < n → ∃ ks, KeysM (Dx x) ks ∧ ∀ c, c ∈ ks ↔ ∃ b, Bef l R.length k j c b ∧ tch (R.getD (pos l R.length c b) (0, 0, 0)) x

section
variable {R : List (Int × Int × Int)} {l : List Nat} {n k j : Nat} {Ds : DataW Unit} {Dx : Nat → DataW Unit}

theorem InvS.start (R : List (Int × Int × Int)) (l : List Nat) (n : Nat) : InvS R l n 0 0 (.map []) (fun _ => .map []) := by
  refine ⟨⟨[], KeysM.start, fun c => ⟨fun h => by simp at h, ?_⟩⟩, fun x _ => ⟨[], KeysM.start, fun c => ⟨fun h => by simp at h, ?_⟩⟩⟩
  · rintro ⟨a, b, ⟨_, _, h3⟩, _⟩; omega
  · rintro ⟨b, ⟨_, _, h3⟩, _⟩; omega

theorem InvS.turn (h : InvS R l n k (nj l R.length k) Ds Dx) : InvS R l n (k + 1) 0 Ds Dx := by
  refine ⟨?_, fun x hx => ?_⟩
  · obtain ⟨ks, h1, h2⟩ := h.sn
    exact ⟨ks, h1, fun c => by rw [h2]; simp only [Bef.turn]⟩
  · obtain ⟨ks, h1, h2⟩ := h.nd x hx
    exact ⟨ks, h1, fun c => by rw [h2]; simp only [Bef.turn]⟩

/-- The edge that comes next was not seen. -/
theorem InvS.fresh (h : InvS R l n k j Ds Dx) (hu : G.Up R) (hid : ∀ e ∈ R, 0 ≤ e.1 ∧ e.1 ≤ 1000000) (hk : k < nk l R.length) (hj : j < nj l R.length k) : Maps.has Ds (.int .i64 ((idN R (pos l R.length k j) : Nat) : Int)) = false := by
  obtain ⟨ks, h1, h2⟩ := h.sn
  rw [Bool.eq_false_iff]
  intro c
  obtain ⟨a, b, hb, he⟩ := (h2 _).1 ((h1.key _).1 c)
  have e := idN_inj hu hid (pos_mem hb.2.1).1 (pos_mem hj).1 he
  obtain ⟨rfl, rfl⟩ := pos_inj hb.1 hk hb.2.1 hj e
  have := hb.2.2
  omega

/-- One edge more. -/
theorem InvS.next (h : InvS R l n k j Ds Dx) (hk : k < nk l R.length) (hj : j < nj l R.length k) {A E : Nat} (hA : ea (R.getD (pos l R.length k j) (0, 0, 0)) = A) (hE : eb (R.getD (pos l R.length k j) (0, 0, 0)) = E) (d d1 d2 : DataW Unit) (hAE : A ≠ E) :
    InvS R l n k (j + 1) (Ds.put (.int .i64 ((idN R (pos l R.length k j) : Nat) : Int)) d) (fun x => if x = E then (Dx E).put (.int .i64 (k : Int)) d2 else if x = A then (Dx A).put (.int .i64 (k : Int)) d1 else Dx x) := by
  refine ⟨?_, fun x hx => ?_⟩
  · obtain ⟨ks, h1, h2⟩ := h.sn
    obtain ⟨ks', h3, h4⟩ := h1.put (idN R (pos l R.length k j)) d
    refine ⟨ks', h3, fun c => ?_⟩
    rw [h4, h2]
    constructor
    · rintro (⟨a, b, hb, he⟩ | rfl)
      · exact ⟨a, b, (Bef.next hk hj a b).2 (.inl hb), he⟩
      · exact ⟨k, j, (Bef.next hk hj k j).2 (.inr ⟨rfl, rfl⟩), rfl⟩
    · rintro ⟨a, b, hb, he⟩
      rcases (Bef.next hk hj a b).1 hb with hb | ⟨rfl, rfl⟩
      · exact .inl ⟨a, b, hb, he⟩
      · exact .inr he.symm
  · obtain ⟨ks, h1, h2⟩ := h.nd x hx
    have hyes : ∀ d', tch (R.getD (pos l R.length k j) (0, 0, 0)) x → ∃ ks, KeysM ((Dx x).put (.int .i64 (k : Int)) d') ks ∧ ∀ c, c ∈ ks ↔ ∃ b, Bef l R.length k (j + 1) c b ∧ tch (R.getD (pos l R.length c b) (0, 0, 0)) x := fun d' ht => by
      obtain ⟨ks', h3, h4⟩ := h1.put k d'
      refine ⟨ks', h3, fun c => ?_⟩
      rw [h4, h2]
      constructor
      · rintro (⟨b, hb, he⟩ | rfl)
        · exact ⟨b, (Bef.next hk hj c b).2 (.inl hb), he⟩
        · exact ⟨j, (Bef.next hk hj _ j).2 (.inr ⟨rfl, rfl⟩), ht⟩
      · rintro ⟨b, hb, he⟩
        rcases (Bef.next hk hj c b).1 hb with hb | ⟨rfl, rfl⟩
        · exact .inl ⟨b, hb, he⟩
        · exact .inr rfl
    by_cases e1 : x = E
    · subst e1
      simp only [if_true]
      exact hyes d2 (.inr hE)
    · rw [if_neg e1]
      by_cases e2 : x = A
      · subst e2
        simp only [if_true]
        exact hyes d1 (.inl hA)
      · rw [if_neg e2]
        refine ⟨ks, h1, fun c => ?_⟩
        rw [h2]
        constructor
        · rintro ⟨b, hb, he⟩; exact ⟨b, (Bef.next hk hj c b).2 (.inl hb), he⟩
        · rintro ⟨b, hb, he⟩
          rcases (Bef.next hk hj c b).1 hb with hb | ⟨rfl, rfl⟩
          · exact ⟨b, hb, he⟩
          · exfalso
            unfold tch at he
            rw [hA, hE] at he
            omega

end

end Go.Proofs.Ytigodbamphejmaa.S
