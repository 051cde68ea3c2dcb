/- Package flow: the search for a way, as it lies in memory. -/
import Derived.Test.YtpkdpddillebfaaDoorFk
namespace Go.Proofs.YtpkdpddillebfaaDoor.S
open Go Go.ChangeMaps Go.MapKept Go.WideShapes
open Go.RowKit Go.WideMaps Go.Maps F

theorem nodup_int : ∀ (M : Nat) (ks : List Int), ks.Nodup → (∀ c ∈ ks, 0 ≤ c ∧ c < M) → ks.length ≤ M
  | 0, ks, _, h => by
    cases ks with
    | nil => simp
    | cons x l => have := h x (by simp); omega
  | M + 1, ks, hn, h => by
    by_cases hm : (M : Int) ∈ ks
    · have h1 := nodup_int M (ks.erase (M : Int)) (hn.erase _) (fun c hc => by
        have h2 := (List.Nodup.mem_erase_iff hn).1 hc
        have := h c h2.2
        have := h2.1
        omega)
      rw [List.length_erase_of_mem hm] at h1
      omega
    · have h1 := nodup_int M ks hn (fun c hc => by
        have h2 : c ≠ M := fun e => hm (e ▸ hc)
        have := h c hc
        omega)
      omega

theorem nodup_sub {α : Type} [DecidableEq α] : ∀ (l m : List α), l.Nodup → (∀ x ∈ l, x ∈ m) → l.length ≤ m.length
  | [], m, _, _ => by simp
  | x :: l, m, hn, h => by
    rw [List.nodup_cons] at hn
    have h1 := nodup_sub l (m.erase x) hn.2 (fun y hy => (List.mem_erase_of_ne (fun e : y = x => hn.1 (by rw [← e]; exact hy))).2 (h y (by simp [hy])))
    have h2 : x ∈ m := h x (by simp)
    rw [List.length_erase_of_mem h2] at h1
    have := List.length_pos_of_mem h2
    simp
    omega

/-- One block was written that lies behind. -/
theorem below_of_grown {w w' : World} {B k : Nat} (hg : w.grownBy w' (some k)) (hB : B ≤ w.heap.size) (hk : B ≤ k) : Below B w w' :=
  ⟨hg.os, hg.tape, hg.output, hg.size, fun i hi => hg.block i (by omega) (fun e => by injection e with e; omega)⟩

/-- A queue: nothing is said of an empty one's place. -/
def Qv (w : World) (B : Nat) (v : Value) (xs : List Int) : Prop := ∃ ad cap, v = .slice ad xs.length cap ∧ (xs ≠ [] → ∃ g o, ad = some ⟨g, o, none⟩ ∧ Que w B g o cap xs)

/-- The search so far. -/
structure Sea (w0 w : World) (cb : Nat) (g : Int → List Stp) (inn : Stp → Bool) (a : Int) (q : List Int) (c : Int → Option Stp) : Prop where
  bfs : Bfs g inn a q (fun x => (c x).getD (0, 0, 0))
  cm : ∃ N C, Cm w cb N C c ∧ N ≤ q.length
  has : ∀ x, (c x).isSome = true ↔ x ∈ q
  rng : ∀ x ∈ q, 0 ≤ x ∧ x < 1000
  bel : Below w0.heap.size w0 w
  cb0 : w0.heap.size ≤ cb

/-- The first places are done. -/
def Dn (g : Int → List Stp) (inn : Stp → Bool) (q : List Int) (i : Nat) : Prop := ∀ k y, k < i → q[k]? = some y → ∀ s ∈ g y, inn s = true → tt s ∈ q

section
variable {w0 w w' : World} {cb : Nat} {g : Int → List Stp} {inn : Stp → Bool} {a : Int} {q : List Int} {c : Int → Option Stp}

theorem Sea.len (h : Sea w0 w cb g inn a q c) : q.length ≤ 1000 := nodup_int 1000 q h.bfs.nd (fun x hx => by have := h.rng x hx; omega)

theorem Sea.below (h : Sea w0 w cb g inn a q c) (hb : Below w.heap.size w w') : Sea w0 w' cb g inn a q c := by
  obtain ⟨N, C, h1, h2⟩ := h.cm
  exact { h with cm := ⟨N, C, h1.below hb, h2⟩, bel := h.bel.trans (hb.mono h.bel.size) }

theorem Sea.grown (h : Sea w0 w cb g inn a q c) {k : Nat} (hg : w.grownBy w' (some k)) (hk : k ≠ cb) (hk0 : w0.heap.size ≤ k) : Sea w0 w' cb g inn a q c := by
  obtain ⟨N, C, h1, h2⟩ := h.cm
  exact { h with cm := ⟨N, C, h1.kept hg (fun e => hk (by injection e with e; exact e.symm)), h2⟩, bel := h.bel.trans (below_of_grown hg h.bel.size hk0) }

theorem Cm.ne_cells {N : Nat} {C : DataW Value} (h : Cm w cb N C c) {k : Nat} {o : Nat} {v : Value} (hk : w.cell? ⟨k, o, none⟩ = some v) : k ≠ cb := fun e => by
  obtain ⟨es, clock, hb, _⟩ := h.mp
  rw [← e] at hb
  simp [World.cell?, hb] at hk

theorem Sea.look (h : Sea w0 w cb g inn a q c) {x : Int} (h0 : 0 ≤ x) (h1 : x < 1000) :
    (Instr.lookup 163 (.map (some cb)) (.int .i64 x) true).run Tryd.prog w = .ok (.tuple #[vS ((c x).getD (0, 0, 0)), .bool (c x).isSome]) w ∧ (Instr.lookup 163 (.map (some cb)) (.int .i64 x) false).run Tryd.prog w = .ok (vS ((c x).getD (0, 0, 0))) w := by
  obtain ⟨N, C, hc, _⟩ := h.cm
  exact hc.look (wf_small h0 (by omega))

theorem Qv.below {B : Nat} {v : Value} {xs : List Int} (h : Qv w B v xs) (hb : Below w.heap.size w w') : Qv w' B v xs := by
  obtain ⟨ad, cap, h1, h2⟩ := h
  refine ⟨ad, cap, h1, fun hx => ?_⟩
  obtain ⟨gq, o, h3, h4⟩ := h2 hx
  exact ⟨gq, o, h3, h4.kept (grown_below hb) (by simp)⟩

/-- The search begins. -/
theorem sea_start (w : World) {a : Int} (g : Int → List Stp) (inn : Stp → Bool) (h0 : 0 ≤ a) (h1 : a < 1000) :
    ∃ w1, (Instr.mapUpdate 163 (.map (some w.heap.size)) (.int .i64 a) (vS (0, 0, 0))).run Tryd.prog (w.alloc (.map #[] 0)) = .ok () w1 ∧ w.heap.size + 1 ≤ w1.heap.size ∧ ∃ c, Sea w (w1.alloc (.cells #[.int .i64 a] 3)) w.heap.size g inn a [a] c ∧ Qv (w1.alloc (.cells #[.int .i64 a] 3)) w.heap.size (.slice (some ⟨w1.heap.size, 0, none⟩) 1 1) [a] := by
  obtain ⟨w1, r1, ⟨C', hc⟩, hg⟩ := (cm_new w).put (x := a) (wf_small h0 (by omega)) (0, 0, 0) (by omega)
  have hsz : w.heap.size + 1 ≤ w1.heap.size := by have := hg.size; simpa using this
  have hb1 : Below w.heap.size w w1 := ((Below.refl _ _).alloc (Nat.le_refl _) _).trans (below_of_grown hg (by simp) (Nat.le_refl _))
  have hbA : Below w1.heap.size w1 (w1.alloc (.cells #[.int .i64 a] 3)) := (Below.refl _ _).alloc (Nat.le_refl _) _
  refine ⟨w1, r1, hsz, _, ⟨Bfs.start _ _ _ _, ⟨_, _, hc.below hbA, by simp⟩, fun x => ?_, fun x hx => ?_, hb1.trans (hbA.mono hb1.size), Nat.le_refl _⟩, some ⟨w1.heap.size, 0, none⟩, 1, rfl, fun _ => ⟨_, _, rfl, ?_⟩⟩
  · by_cases e : x = a
    · simp [e]
    · simp [e]
  · rw [List.mem_singleton.1 hx]; exact ⟨h0, h1⟩
  · obtain ⟨W, hW⟩ : ∃ W, w1.alloc (.cells #[.int .i64 a] 3) = W := ⟨_, rfl⟩
    have hh := heap_alloc_new w1 (.cells #[.int .i64 a] 3)
    rw [hW] at hh ⊢
    refine ⟨Nat.le_refl _, by omega, lt_of_some hh, fun j x hx => ?_, fun j hj => ?_⟩
    · have hj : j = 0 := by have := (List.getElem?_eq_some_iff.1 hx).1; simp at this; omega
      subst hj
      simp at hx
      subst hx
      simp [World.cell?, hh]
    · have hj : j = 0 := by omega
      subst hj
      simp [World.cell?, World.frozen?, hh]

theorem drop_snoc {α : Type} {q : List α} {i : Nat} (x : α) (h : i ≤ q.length) : (q ++ [x]).drop i = q.drop i ++ [x] := List.drop_append_of_le_length h

/-- A place more is come to: the map, then the queue. -/
theorem sea_more {i : Nat} {gq o cap : Nat} {s : Stp} (h : Sea w0 w cb g inn a q c) (hq : Que w w0.heap.size gq o cap (q.drop i)) (hi : q[i]? = some (fr s)) (hs : s ∈ g (fr s)) (hin : inn s = true) (hn : c (tt s) = none) (h0 : 0 ≤ tt s) (h1 : tt s < 1000) :
    ∃ w1, (Instr.mapUpdate 163 (.map (some cb)) (.int .i64 (tt s)) (vS s)).run Tryd.prog w = .ok () w1 ∧ w.grownBy w1 (some cb) ∧ ∃ w3 v' g' o' cap', (Builtin.append_ #[30, 30] 30 #[.slice (some ⟨gq, o, none⟩) (q.length - i) cap, .slice (some ⟨w1.heap.size, 0, none⟩) 1 1]).run Tryd.prog (w1.alloc (.cells #[.int .i64 (tt s)] 3)) = .ok v' w3 ∧ v' = .slice (some ⟨g', o', none⟩) (q.length + 1 - i) cap' ∧ Sea w0 w3 cb g inn a (q ++ [tt s]) (fun y => if y = tt s then some s else c y) ∧ Que w3 w0.heap.size g' o' cap' ((q ++ [tt s]).drop i) := by
  obtain ⟨N, C, hc, hN⟩ := h.cm
  have hlen := h.len
  have hil := (List.getElem?_eq_some_iff.1 hi).1
  obtain ⟨w1, r1, ⟨C', hc1⟩, hg1⟩ := hc.put (x := tt s) (wf_small h0 (by omega)) s (by omega)
  have hgne : gq ≠ cb := by
    have : (q.drop i)[0]? = some (fr s) := by rw [List.getElem?_drop]; simpa using hi
    exact hc.ne_cells (hq.got 0 _ this)
  have hq1 := hq.kept hg1 (fun e => hgne (by injection e))
  have hbA : Below w1.heap.size w1 (w1.alloc (.cells #[.int .i64 (tt s)] 3)) := (Below.refl _ _).alloc (Nat.le_refl _) _
  have hq2 := hq1.kept (grown_below hbA) (by simp)
  have hb1 : Below w0.heap.size w0 w1 := h.bel.trans (below_of_grown hg1 h.bel.size h.cb0)
  obtain ⟨v', w3, g', o', cap', r3, e3, hq3, hg3⟩ := hq2.push 30 (heap_alloc_new w1 _) (Nat.le_trans hb1.size hbA.size) (by simp; omega)
  have hdl : (q.drop i).length = q.length - i := by simp
  rw [hdl] at r3 e3
  have hnq : tt s ∉ q := fun k => by
    have := (h.has (tt s)).2 k
    rw [hn] at this; cases this
  refine ⟨w1, r1, hg1, w3, v', g', o', cap', r3, by rw [e3, show q.length - i + 1 = q.length + 1 - i by omega], ⟨?_, ?_, fun x => ?_, fun x hx => ?_, ?_, h.cb0⟩, by rw [drop_snoc _ (by omega)]; exact hq3⟩
  · refine h.bfs.more hi hs hin hnq (fun x hx => ?_) ?_
    · have hxn : x ≠ tt s := fun e => hnq (by rw [← e]; exact hx)
      simp only [if_neg hxn]
    · simp only [if_pos]; rfl
  · have hne3 : some cb ≠ some gq := fun e => hgne (Option.some.inj e).symm
    exact ⟨N + 1, C', (hc1.below hbA).kept hg3 hne3, by rw [List.length_append]; exact Nat.add_le_add hN (Nat.le_refl 1)⟩
  · by_cases e : x = tt s
    · simp [e]
    · rw [if_neg e, h.has, List.mem_append]
      simp [e]
  · rcases List.mem_append.1 hx with hx | hx
    · exact h.rng x hx
    · rw [List.mem_singleton.1 hx]; exact ⟨h0, h1⟩
  · have hb2 := hb1.trans (hbA.mono hb1.size)
    exact hb2.trans (below_of_grown hg3 hb2.size hq.gB)

end

/-- Within the steps that leave the place that is at its turn. -/
def InR (w0 : World) (cb : Nat) (g : Int → List Stp) (inn : Stp → Bool) (a : Int) (i : Nat) (x : Int) (j : Nat) (v : Value) (wq : World) : Prop :=
  ∃ q c gq o cap, Sea w0 wq cb g inn a q c ∧ q[i]? = some x ∧ v = .slice (some ⟨gq, o, none⟩) (q.length - i) cap ∧ Que wq w0.heap.size gq o cap (q.drop i) ∧ Dn g inn q i ∧ (∀ s ∈ (g x).take j, inn s = true → tt s ∈ q)

/-- Between the places. -/
def OutR (w0 : World) (cb : Nat) (g : Int → List Stp) (inn : Stp → Bool) (a : Int) (i : Nat) (v : Value) (wq : World) : Prop :=
  ∃ q c, Sea w0 wq cb g inn a q c ∧ i ≤ q.length ∧ Qv wq w0.heap.size v (q.drop i) ∧ Dn g inn q i

section
variable {w0 w w' : World} {cb : Nat} {g : Int → List Stp} {inn : Stp → Bool} {a : Int} {q : List Int} {c : Int → Option Stp} {i j : Nat} {x : Int} {v : Value}

theorem take_step {α : Type} {l : List α} {j : Nat} {s : α} (h : l[j]? = some s) {t : α} (ht : t ∈ l.take (j + 1)) : t ∈ l.take j ∨ t = s := by
  rw [List.take_add_one, h] at ht
  simpa using ht

/-- A step that brings nothing new. -/
theorem InR.skip (h : Sea w0 w cb g inn a q c) {gq o cap : Nat} (hi : q[i]? = some x) (hq : Que w w0.heap.size gq o cap (q.drop i)) (hd : Dn g inn q i) (hj : ∀ s ∈ (g x).take j, inn s = true → tt s ∈ q) {s : Stp} (hs : (g x)[j]? = some s) (hn : inn s = true → tt s ∈ q) (hb : Below w.heap.size w w') : InR w0 cb g inn a i x (j + 1) (.slice (some ⟨gq, o, none⟩) (q.length - i) cap) w' := by
  refine ⟨q, c, gq, o, cap, h.below hb, hi, rfl, hq.kept (grown_below hb) (by simp), hd, fun t ht hin => ?_⟩
  rcases take_step hs ht with ht | rfl
  · exact hj t ht hin
  · exact hn hin

/-- A step that comes to a new place. -/
theorem InR.more {gq o cap : Nat} {s : Stp} (hi : q[i]? = some x) (hd : Dn g inn q i) (hj : ∀ s ∈ (g x).take j, inn s = true → tt s ∈ q) (hs : (g x)[j]? = some s) (h : Sea w0 w cb g inn a (q ++ [tt s]) c) (hq : Que w w0.heap.size gq o cap ((q ++ [tt s]).drop i)) : InR w0 cb g inn a i x (j + 1) (.slice (some ⟨gq, o, none⟩) (q.length + 1 - i) cap) w := by
  have hil := (List.getElem?_eq_some_iff.1 hi).1
  refine ⟨q ++ [tt s], c, gq, o, cap, h, by rw [List.getElem?_append_left hil]; exact hi, by simp, hq, fun k y hk hy t ht hin => ?_, fun t ht hin => ?_⟩
  · rw [List.getElem?_append_left (by omega)] at hy
    exact List.mem_append_left _ (hd k y hk hy t ht hin)
  · rcases take_step hs ht with ht | rfl
    · exact List.mem_append_left _ (hj t ht hin)
    · simp

/-- All steps that leave the place were seen. -/
theorem InR.done (h : InR w0 cb g inn a i x j v w) (hj : (g x).length ≤ j) : ∃ gq o len cap, v = .slice (some ⟨gq, o, none⟩) (len + 1) (cap + 1) ∧ len ≤ cap ∧ OutR w0 cb g inn a (i + 1) (.slice (some ⟨gq, o + 1, none⟩) len cap) w ∧ (len = 0 → ∀ ad cap', OutR w0 cb g inn a (i + 1) (.slice ad 0 cap') w) := by
  obtain ⟨q, c, gq, o, cap, h1, hi, rfl, hq, hd, hjj⟩ := h
  have hil := (List.getElem?_eq_some_iff.1 hi).1
  have hle := hq.le
  simp at hle
  obtain ⟨cap', rfl⟩ : ∃ k, cap = k + 1 := ⟨cap - 1, by omega⟩
  have hd' : Dn g inn q (i + 1) := fun k y hk hy s hs hin => by
    by_cases e : k < i
    · exact hd k y e hy s hs hin
    · have : k = i := by omega
      subst this
      rw [hi] at hy
      injection hy with hy
      subst hy
      exact hjj s (by rw [List.take_of_length_le hj]; exact hs) hin
  refine ⟨gq, o, q.length - (i + 1), cap', by rw [show q.length - i = q.length - (i + 1) + 1 by omega], by omega, ⟨q, c, h1, by omega, ⟨some ⟨gq, o + 1, none⟩, cap', by rw [List.length_drop], fun _ => ⟨gq, o + 1, rfl, ?_⟩⟩, hd'⟩, fun h0 ad cap2 => ⟨q, c, h1, by omega, ⟨ad, cap2, by rw [List.length_drop, h0], fun hne => ?_⟩, hd'⟩⟩
  · have hx : q.drop i = x :: q.drop (i + 1) := by
      rw [List.drop_eq_getElem_cons hil, (List.getElem?_eq_some_iff.1 hi).2]
    rw [hx] at hq
    exact hq.tail
  · exact absurd (List.eq_nil_of_length_eq_zero (by rw [List.length_drop, h0])) hne

/-- Nothing is left: what was come to is closed. -/
theorem sea_closed (h : Sea w0 w cb g inn a q c) (hd : Dn g inn q q.length) {D : List Stp} (hg : ∀ s ∈ D, s ∈ g (fr s)) {b : Int} (hb : c b = none) : ∃ S : Int → Bool, S a = true ∧ S b = false ∧ ∀ s ∈ D, out S s = true → inn s = false := by
  refine ⟨fun x => decide (x ∈ q), ?_, ?_, fun s hs ho => ?_⟩
  · exact decide_eq_true (List.mem_of_getElem? h.bfs.first)
  · refine decide_eq_false (fun k => ?_)
    have := (h.has b).2 k
    rw [hb] at this; cases this
  · cases hin : inn s with
    | false => rfl
    | true =>
      exfalso
      unfold out at ho
      simp at ho
      obtain ⟨k, hk, hke⟩ := List.mem_iff_getElem.1 ho.1
      exact ho.2 (hd k (fr s) hk (by rw [List.getElem?_eq_getElem hk, hke]) s (hg s hs) hin)

end

/-- One step more in a row of steps. -/
theorem more_S (ty : TypeId) (w : World) (B : Nat) (v : Value) (L : List Stp) (s : Stp) (h : G.Owns w B 136 v L) (hB : B ≤ w.heap.size) (hl : L.length ≤ 90000) :
    ∃ v' w', (Builtin.append_ #[137, 137] ty #[v, .slice (some ⟨w.heap.size, 0, none⟩) 1 1]).run Tryd.prog (w.alloc (.cells #[.int .i64 s.1, .int .i64 s.2.1, .int .i64 s.2.2] 136)) = .ok v' w' ∧ G.Owns w' B 136 v' (L ++ [s]) ∧ w.grownBy w' v.ownBlock := by
  have hb : Below w.heap.size w (w.alloc (.cells #[.int .i64 s.1, .int .i64 s.2.1, .int .i64 s.2.2] 136)) := (Below.refl _ _).alloc (Nat.le_refl _) _
  have hn := heap_alloc_new w (.cells #[.int .i64 s.1, .int .i64 s.2.1, .int .i64 s.2.2] 136)
  have hM : ∀ j u, (G.rowV [s])[j]? = some u → (w.alloc (.cells #[.int .i64 s.1, .int .i64 s.2.1, .int .i64 s.2.2] 136)).cell? ((⟨w.heap.size, 0, none⟩ : Addr).add j) = some u := by
    intro j u hu
    rw [G.addr0_add]
    have e : G.rowV [s] = G.encE s := by simp [G.rowV]
    rw [e] at hu
    simp only [World.cell?, hn]
    simpa [G.encE] using hu
  obtain ⟨v', w', r1, o1, g1, _⟩ := append_S ty _ B v L [s] (h.below hb) (Nat.le_trans hB hb.size) ⟨w.heap.size, 0, none⟩ 1 1 rfl hM (by simp; omega)
  exact ⟨v', w', r1, o1, ⟨g1.os.trans hb.os, g1.tape.trans hb.tape, g1.output.trans hb.output, Nat.le_trans hb.size g1.size, fun k hk hne => (g1.block k (Nat.lt_of_lt_of_le hk hb.size) hne).trans (hb.block k hk)⟩⟩

/-- The search, where a row behind its map was written. -/
theorem Sea.row {w0 w w' : World} {cb : Nat} {g : Int → List Stp} {inn : Stp → Bool} {a : Int} {q : List Int} {c : Int → Option Stp} (h : Sea w0 w cb g inn a q c) {v : Value} {P : List Stp} (ho : G.Owns w (cb + 1) 136 v P) (hg : w.grownBy w' v.ownBlock) : Sea w0 w' cb g inn a q c := by
  cases hv : v.ownBlock with
  | none =>
    rw [hv] at hg
    exact h.below ⟨hg.os, hg.tape, hg.output, hg.size, fun k hk => hg.block k hk (by simp)⟩
  | some k =>
    rw [hv] at hg
    have := (World.ownsRow.lt ho k hv).1
    have := h.cb0
    exact h.grown hg (by omega) (by omega)

end Go.Proofs.YtpkdpddillebfaaDoor.S
