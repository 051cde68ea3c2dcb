/- Package split: part. -/
import Derived.Test.YtpkdpddillebfabXb
import Derived.Maps.RangeWalk
import Derived.Maps.OwnSet
import Derived.Maps.OwnOps
namespace Go.Proofs.Ytpkdpddillebfab.S
open Go.RowKit Go.WideMaps Go.Maps

theorem w_laid : laidOutB Try.prog = true := by kernel_rfl
theorem row130 : 123 < Try.prog.types.size := of_decide_eq_true (by kernel_rfl)
theorem wide130 : (match Try.prog.underlying 123 with | some (.array _ _) | some (.struct _) => true | _ => false) = true := by kernel_rfl
set_option maxRecDepth 100000 in
theorem law123 : Keyed Try.prog 123 := Keyed.of_law (deep_law_laid w_laid (m := 2) (by omega) row130 (by kernel_rfl) wide130)
theorem kt130 : Try.prog.keyType 123 = true := by kernel_rfl
theorem fm130 (p q : Int) : (Value.agg #[.int .i64 p, .int .i64 q]).formed Try.prog 123 = true := by kernel_rfl
theorem co130 : Try.prog.cellsOf 123 = 2 := by kernel_rfl
theorem w_co3 : Try.prog.cellsOf 3 = 1 := by kernel_rfl
theorem w_ts : ∃ m, Try.prog.types.size = m + 1 := ⟨Try.prog.types.size - 1, by have := row130; omega⟩
theorem w_wf {x : Int} (h0 : 0 ≤ x) (h1 : x ≤ 1000000) : (Lit.int .i64 x).wf = true := WalkArith.wf_i64 (by omega)
theorem w_zero3 (w : World) : (zeroValue 3).run Try.prog w = .ok (.int .i64 0) w := by kernel_rfl

theorem two_key_of {P : Program} {k t m : Nat} {f1 f2 : Field} (hu : P.underlying k = some (.struct #[f1, f2])) (h1 : f1.type = t) (h2 : f2.type = t) (o1 : f1.offset = 0) (o2 : f2.offset = 1) (n1 : (f1.name != "_") = true) (n2 : (f2.name != "_") = true) (ht : P.underlying t = some (.int .i64)) (ck : P.cellsOf k = 2) (ct : P.cellsOf t = 1) (hs : P.types.size = m + 1) (hkt : P.keyType k = true)
    {p q : Int} (hf : (Value.agg #[.int .i64 p, .int .i64 q]).formed P k = true) (hp : (Lit.int .i64 p).wf = true) (hq : (Lit.int .i64 q).wf = true) : keyOf P k (.agg #[.int .i64 p, .int .i64 q]) = some (.string (keyBytes [.int .i64 p, .int .i64 q])) := by
  unfold keyOf
  rw [hu]
  simp only [hkt, hf, Bool.and_self, if_true, hs]
  have e1 : ∀ x : Int, (Lit.int .i64 x).wf = true → P.keyLits (m + 1) t [.int .i64 x] = some [.int .i64 x] := fun x hx => by simp [Program.keyLits, ht, hx]
  have : P.keyLits (m + 1 + 1) k (Value.agg #[.int .i64 p, .int .i64 q]).cells.toList = some [.int .i64 p, .int .i64 q] := by
    unfold Program.keyLits
    rw [hu]
    simp [Value.cells, ck, n1, n2, h1, h2, o1, o2, ct, e1 p hp, e1 q hq]
  rw [this]; rfl

/-- The key of two places. -/
def wk (p q : Nat) : Lit := .string (keyBytes [.int .i64 (p : Int), .int .i64 (q : Int)])

theorem wk_key (p q : Nat) (hp : p ≤ 1000) (hq : q ≤ 1000) : keyOf Try.prog 123 (.agg #[.int .i64 (p : Int), .int .i64 (q : Int)]) = some (wk p q) := by
  obtain ⟨m, hm⟩ := w_ts
  exact two_key_of Try.underlying123 rfl rfl rfl rfl rfl rfl Try.underlying3 co130 w_co3 hm kt130 (fm130 p q) (w_wf (by omega) (by omega)) (w_wf (by omega) (by omega))

theorem wk_inj {p q p' q' : Nat} (hp : p ≤ 1000) (hq : q ≤ 1000) (hp' : p' ≤ 1000) (hq' : q' ≤ 1000) (h : wk p q = wk p' q') : p = p' ∧ q = q' := by
  have := law123.inj (wk_key p q hp hq) (h ▸ wk_key p' q' hp' hq')
  simp at this
  omega

theorem wk_lit (p q : Nat) : WideAt.IsKeyLit (wk p q) := trivial

/-- What the map has behind x nodes. -/
structure Wm (l1 l2 l3 : List Nat) (x : Nat) (D : DataW Unit) : Prop where
  key : ∀ kl, Maps.has D kl = true ↔ ∃ i, i < x ∧ kl = wk (l1.getD i 0) (l2.getD i 0)
  val : ∀ i, i < x → ∀ zd, D.atKey (wk (l1.getD i 0) (l2.getD i 0)) zd = .lit (.int .i64 ((l3.getD i 0 : Nat) : Int))
  tidy : Tidy D
  same : ∀ i j, i < x → j < x → l1.getD i 0 = l1.getD j 0 → l2.getD i 0 = l2.getD j 0 → l3.getD i 0 = l3.getD j 0

section
variable {l1 l2 l3 : List Nat} {x : Nat} {D : DataW Unit}
theorem Wm.start (l1 l2 l3 : List Nat) : Wm l1 l2 l3 0 (.map []) := ⟨fun kl => by simp [Maps.has], fun i hi => by omega, tidy_empty, fun i j hi => by omega⟩

theorem Wm.put (h : Wm l1 l2 l3 x D) (sm : ∀ i, i ≤ x → l1.getD i 0 ≤ 1000 ∧ l2.getD i 0 ≤ 1000) (hs : ∀ i, i < x → l1.getD i 0 = l1.getD x 0 → l2.getD i 0 = l2.getD x 0 → l3.getD i 0 = l3.getD x 0) :
    Wm l1 l2 l3 (x + 1) (D.put (wk (l1.getD x 0) (l2.getD x 0)) (.lit (.int .i64 ((l3.getD x 0 : Nat) : Int)))) := by
  refine ⟨fun kl => ?_, fun i hi zd => ?_, h.tidy.put (wk_lit _ _) _, fun i j hi hj e1 e2 => ?_⟩
  · by_cases e : kl = wk (l1.getD x 0) (l2.getD x 0)
    · rw [e, has_put_same h.tidy.isMap (wk_lit _ _)]
      exact ⟨fun _ => ⟨x, by omega, rfl⟩, fun _ => rfl⟩
    · rw [has_put_other e, h.key]
      constructor
      · rintro ⟨i, hi, k⟩; exact ⟨i, by omega, k⟩
      · rintro ⟨i, hi, k⟩
        refine ⟨i, ?_, k⟩
        have : i ≠ x := fun e' => e (by rw [k, e'])
        omega
  · by_cases e : wk (l1.getD i 0) (l2.getD i 0) = wk (l1.getD x 0) (l2.getD x 0)
    · have sx := sm x (by omega)
      have si := sm i (by omega)
      obtain ⟨e1, e2⟩ := wk_inj si.1 si.2 sx.1 sx.2 e
      rw [e, atKey_put_same h.tidy.isMap (wk_lit _ _)]
      by_cases hix : i = x
      · rw [hix]
      · rw [hs i (by omega) e1 e2]
    · have hix : i ≠ x := fun e' => e (by rw [e'])
      rw [atKey_put_other e]
      exact h.val i (by omega) zd
  · by_cases hi' : i = x
    · by_cases hj' : j = x
      · rw [hi', hj']
      · subst hi'
        exact (hs j (by omega) e1.symm e2.symm).symm
    · by_cases hj' : j = x
      · subst hj'
        exact hs i (by omega) e1 e2
      · exact h.same i j (by omega) (by omega) e1 e2
end

theorem grown_set (w : World) (b i : Nat) (v : Value) : w.grownBy (w.setCell ⟨b, i, none⟩ v) (some b) :=
  ⟨rfl, rfl, rfl, by simp, fun k _ hne => Below.heap_setCell _ _ _ _ (fun e => hne (by rw [e]))⟩

theorem least_k (x p b : Nat) (L : List Nat) (w : World) (hs : SetsAt w p b L) (hx : x < L.length) :
    Calls Try.prog 70 #[.pointer (some ⟨p, 0, none⟩), .int .i64 (x : Int)] w fun e w' => e = .returned (.tuple #[.int .i64 ((L.getD x 0 : Nat) : Int), .nilIface]) ∧ Below w.heap.size w w' := by
  have := least_in (x : Int) p b L w hs (by omega) (by omega)
  simpa using this

theorem set_first {W : World} {bx t : Nat} {x y : Value} (h : W.heap[bx]? = some (.cells #[x, y] t)) (v : Value) : (W.setCell ⟨bx, 0, none⟩ v).heap[bx]? = some (.cells #[v, y] t) := by
  simp only [World.setCell, Array.getElem?_modify, h]
  simp
theorem set_second {W : World} {bx t : Nat} {x y : Value} (h : W.heap[bx]? = some (.cells #[x, y] t)) (v : Value) : (W.setCell ⟨bx, 1, none⟩ v).heap[bx]? = some (.cells #[x, v] t) := by
  simp only [World.setCell, Array.getElem?_modify, h]
  simp

/-- What part holds on to: the three values, the map, the box of two numbers. -/
structure Pt (w0 W : World) (p1 b1 p2 b2 p3 b3 m N : Nat) (l1 l2 l3 : List Nat) (D : DataW Unit) : Prop where
  s1 : SetsAt W p1 b1 l1
  s2 : SetsAt W p2 b2 l2
  s3 : SetsAt W p3 b3 l3
  lt : p1 < w0.heap.size ∧ b1 < w0.heap.size ∧ p2 < w0.heap.size ∧ b2 < w0.heap.size ∧ p3 < w0.heap.size ∧ b3 < w0.heap.size
  own : W.ownsMap Try.prog 123 (plainElem Try.prog 3) m N D
  below : Below w0.heap.size w0 W

section
variable {w0 W W' : World} {p1 b1 p2 b2 p3 b3 m N : Nat} {l1 l2 l3 : List Nat} {D : DataW Unit}
theorem Pt.below' (h : Pt w0 W p1 b1 p2 b2 p3 b3 m N l1 l2 l3 D) (hb : Below W.heap.size W W') : Pt w0 W' p1 b1 p2 b2 p3 b3 m N l1 l2 l3 D :=
  ⟨h.s1.below hb h.s1.plt h.s1.blt, h.s2.below hb h.s2.plt h.s2.blt, h.s3.below hb h.s3.plt h.s3.blt, h.lt, h.own.kept (grown_below hb) (by simp), h.below.trans (hb.mono h.below.size)⟩

theorem Pt.set (h : Pt w0 W p1 b1 p2 b2 p3 b3 m N l1 l2 l3 D) {bx : Nat} (hx : w0.heap.size ≤ bx) (hm : bx ≠ m) (i : Nat) (v : Value) : Pt w0 (W.setCell ⟨bx, i, none⟩ v) p1 b1 p2 b2 p3 b3 m N l1 l2 l3 D := by
  have hlt := h.lt
  have hb : Below w0.heap.size W (W.setCell ⟨bx, i, none⟩ v) := ⟨rfl, rfl, rfl, by simp, fun k hk => Below.heap_setCell _ _ _ _ (show k ≠ bx by omega)⟩
  exact ⟨h.s1.below hb hlt.1 hlt.2.1, h.s2.below hb hlt.2.2.1 hlt.2.2.2.1, h.s3.below hb hlt.2.2.2.2.1 hlt.2.2.2.2.2, h.lt, h.own.kept (grown_set W bx i v) (by simp; omega), h.below.trans hb⟩

theorem Pt.upd (h : Pt w0 W p1 b1 p2 b2 p3 b3 w0.heap.size N l1 l2 l3 D) {N' : Nat} {D' : DataW Unit} (ho : W'.ownsMap Try.prog 123 (plainElem Try.prog 3) w0.heap.size N' D') (hg : W.grownBy W' (some w0.heap.size)) : Pt w0 W' p1 b1 p2 b2 p3 b3 w0.heap.size N' l1 l2 l3 D' := by
  have hlt := h.lt
  have hb : Below w0.heap.size W W' := ⟨hg.os, hg.tape, hg.output, hg.size, fun k hk => hg.block k (Nat.lt_of_lt_of_le hk h.below.size) (by simp; omega)⟩
  exact ⟨h.s1.below hb hlt.1 hlt.2.1, h.s2.below hb hlt.2.2.1 hlt.2.2.2.1, h.s3.below hb hlt.2.2.2.2.1 hlt.2.2.2.2.2, h.lt, ho, h.below.trans hb⟩
end

set_option maxHeartbeats 4000000 in
set_option maxRecDepth 100000 in
theorem part_any (n p1 b1 p2 b2 p3 b3 : Nat) (l1 l2 l3 : List Nat) (ok : Bool) (w : World) (h1 : SetsAt w p1 b1 l1) (h2 : SetsAt w p2 b2 l2) (h3 : SetsAt w p3 b3 l3) (hn : n ≤ 40) (g1 : Good n l1) (g2 : Good n l2) (g3 : Good n l3)
    (hok : ok = true ↔ ∃ x y, x < n ∧ y < n ∧ l1.getD x 0 = l1.getD y 0 ∧ l2.getD x 0 = l2.getD y 0 ∧ l3.getD x 0 ≠ l3.getD y 0) :
    Calls Try.prog 46 #[.int .i64 (n : Int), .pointer (some ⟨p1, 0, none⟩), .pointer (some ⟨p2, 0, none⟩), .pointer (some ⟨p3, 0, none⟩)] w fun e w' => e = .returned (.bool ok) ∧ Below w.heap.size w w' := by
  have HOK : Hid (ok = true ↔ ∃ x y, x < n ∧ y < n ∧ l1.getD x 0 = l1.getD y 0 ∧ l2.getD x 0 = l2.getD y 0 ∧ l3.getD x 0 ≠ l3.getD y 0) := hok
  have HG : Hid (Good n l1 ∧ Good n l2 ∧ Good n l3) := ⟨g1, g2, g3⟩
  have HS : Hid (Pt w (w.alloc (.map #[] 0)) p1 b1 p2 b2 p3 b3 w.heap.size 0 l1 l2 l3 (.map [])) := by
    have hb : Below w.heap.size w (w.alloc (.map #[] 0)) := (Below.refl _ _).alloc (Nat.le_refl _) _
    exact ⟨h1.below hb h1.plt h1.blt, h2.below hb h2.plt h2.blt, h3.below hb h3.plt h3.blt, ⟨h1.plt, h1.blt, h2.plt, h2.blt, h3.plt, h3.blt⟩, World.ownsMap_made w _ _ _, hb⟩
  have hmm := @run_makeMap Try.prog
  clear h1 h2 h3 g1 g2 g3 hok
  go_enter Try.func46, Try.ntmps46
  go_wp2_with fail
  clear hmm
  go_loopw [18] (fun s18 wq => ∃ (x : Nat) (D : DataW Unit), x ≤ n ∧ s18 = .int .i64 x ∧ Pt w wq p1 b1 p2 b2 p3 b3 w.heap.size x l1 l2 l3 D ∧ Wm l1 l2 l3 x D) (fun s18 _ => n - (intOf s18).toNat)
  case atStart => exact ⟨0, _, Nat.zero_le _, rfl, HS.out, Wm.start l1 l2 l3⟩
  case round =>
    clear HS
    obtain ⟨x, D, hx, rfl, hpt, hwm⟩ := hrel
    have HP : Hid (Pt w wr p1 b1 p2 b2 p3 b3 w.heap.size x l1 l2 l3 D) := hpt
    have HW : Hid (Wm l1 l2 l3 x D) := hwm
    clear hpt hwm
    by_cases hlt : x < n
    · have hmw : w.heap.size < wr.heap.size := by
        obtain ⟨es, clock, hb, _⟩ := HP.out.own
        exact lt_of_some hb
      have HP1 : Hid (Pt w (wr.alloc (.cells #[.int .i64 0, .int .i64 0] 123)) p1 b1 p2 b2 p3 b3 w.heap.size x l1 l2 l3 D) := HP.out.below' ((Below.refl _ _).alloc (Nat.le_refl _) _)
      obtain ⟨k1, hk1⟩ : ∃ k1, l1.getD x 0 = k1 := ⟨_, rfl⟩
      obtain ⟨k2, hk2⟩ : ∃ k2, l2.getD x 0 = k2 := ⟨_, rfl⟩
      obtain ⟨k3, hk3⟩ : ∃ k3, l3.getD x 0 = k3 := ⟨_, rfl⟩
      have HK : Hid (l1.getD x 0 = k1 ∧ l2.getD x 0 = k2 ∧ l3.getD x 0 = k3) := ⟨hk1, hk2, hk3⟩
      have hk1l : k1 ≤ x := by rw [← hk1]; exact HG.out.1.le x hlt
      have hk2l : k2 ≤ x := by rw [← hk2]; exact HG.out.2.1.le x hlt
      have hk3l : k3 ≤ x := by rw [← hk3]; exact HG.out.2.2.le x hlt
      obtain ⟨bx, hbx⟩ : ∃ bx, wr.heap.size = bx := ⟨_, rfl⟩
      obtain ⟨W1, hW1⟩ : ∃ W1, wr.alloc (.cells #[.int .i64 0, .int .i64 0] 123) = W1 := ⟨_, rfl⟩
      have c1 : W1.heap[bx]? = some (.cells #[.int .i64 0, .int .i64 0] 123) := by rw [← hW1, ← hbx]; exact heap_alloc_new wr _
      rw [hW1] at HP1
      rw [hbx] at hmw
      go_upto_region 6 with fail
      try rw [hW1, hbx]
      have HBX : Hid (wr.heap.size = bx) := hbx
      clear hbx hW1
      go_wp2_with fail
      refine (least_k x p1 b1 l1 _ HP1.out.s1 (by rw [HG.out.1.len]; exact hlt)).mono ?_
      rintro e W2 ⟨rfl, hb2⟩
      rw [HK.out.1]
      have HP2 : Hid (Pt w W2 p1 b1 p2 b2 p3 b3 w.heap.size x l1 l2 l3 D) := HP1.out.below' hb2
      have c2 : W2.heap[bx]? = some (.cells #[.int .i64 0, .int .i64 0] 123) := (hb2.block bx (lt_of_some c1)).trans c1
      have q0 : W2.cell? ⟨bx, 0, none⟩ = some (.int .i64 0) := by simp [World.cell?, c2]
      have f0 : W2.frozen? ⟨bx, 0, none⟩ = false := by simp [World.frozen?, c2]
      obtain ⟨W3, hW3⟩ : ∃ W3, W2.setCell ⟨bx, 0, none⟩ (.int .i64 (k1 : Int)) = W3 := ⟨_, rfl⟩
      have HP3 : Hid (Pt w W3 p1 b1 p2 b2 p3 b3 w.heap.size x l1 l2 l3 D) := by rw [← hW3]; exact HP2.out.set (by omega) (by omega) 0 _
      have c3 : W3.heap[bx]? = some (.cells #[.int .i64 (k1 : Int), .int .i64 0] 123) := by
        rw [← hW3]; exact set_first c2 _
      clear HP1 HP2 hb2 c1 c2
      go_upto_region 7 with fail
      try rw [hW3]
      clear hW3 q0 f0
      go_wp2_with fail
      refine (least_k x p2 b2 l2 _ HP3.out.s2 (by rw [HG.out.2.1.len]; exact hlt)).mono ?_
      rintro e W4 ⟨rfl, hb4⟩
      rw [HK.out.2.1]
      have HP4 : Hid (Pt w W4 p1 b1 p2 b2 p3 b3 w.heap.size x l1 l2 l3 D) := HP3.out.below' hb4
      have c4 : W4.heap[bx]? = some (.cells #[.int .i64 (k1 : Int), .int .i64 0] 123) := (hb4.block bx (lt_of_some c3)).trans c3
      have q0 : W4.cell? ⟨bx, 1, none⟩ = some (.int .i64 0) := by simp [World.cell?, c4]
      have f0 : W4.frozen? ⟨bx, 1, none⟩ = false := by simp [World.frozen?, c4]
      obtain ⟨W5, hW5⟩ : ∃ W5, W4.setCell ⟨bx, 1, none⟩ (.int .i64 (k2 : Int)) = W5 := ⟨_, rfl⟩
      have HP5 : Hid (Pt w W5 p1 b1 p2 b2 p3 b3 w.heap.size x l1 l2 l3 D) := by rw [← hW5]; exact HP4.out.set (by omega) (by omega) 1 _
      have c5 : W5.heap[bx]? = some (.cells #[.int .i64 (k1 : Int), .int .i64 (k2 : Int)] 123) := by
        rw [← hW5]; exact set_second c4 _
      clear HP3 HP4 hb4 c3 c4
      go_upto_region 8 with fail
      try rw [hW5]
      clear hW5 q0 f0
      go_wp2_with fail
      refine (least_k x p3 b3 l3 _ HP5.out.s3 (by rw [HG.out.2.2.len]; exact hlt)).mono ?_
      rintro e W6 ⟨rfl, hb6⟩
      rw [HK.out.2.2]
      have HP6 : Hid (Pt w W6 p1 b1 p2 b2 p3 b3 w.heap.size x l1 l2 l3 D) := HP5.out.below' hb6
      have c6 : W6.heap[bx]? = some (.cells #[.int .i64 (k1 : Int), .int .i64 (k2 : Int)] 123) := (hb6.block bx (lt_of_some c5)).trans c5
      have q0 : W6.cell? ⟨bx, 0, none⟩ = some (.int .i64 (k1 : Int)) := by simp [World.cell?, c6]
      have q1 : W6.cell? ⟨bx, 1, none⟩ = some (.int .i64 (k2 : Int)) := by simp [World.cell?, c6]
      have hown := HP6.out.own
      have hkey := wk_key k1 k2 (by omega) (by omega)
      have SM : Hid (∀ i, i ≤ x → l1.getD i 0 ≤ 1000 ∧ l2.getD i 0 ≤ 1000) := fun i hi => by
        have e1 := HG.out.1.le i (by omega)
        have e2 := HG.out.2.1.le i (by omega)
        omega
      clear HP5 hb6 c5 c6 hk1 hk2 hk3
      cases hh : Maps.has D (wk k1 k2) with
      | false =>
        as_aux_lemma =>
        have HN : Hid (Wm l1 l2 l3 (x + 1) (D.put (wk k1 k2) (.lit (.int .i64 (k3 : Int))))) := by
          have := HW.out.put SM.out (fun i hi e1 e2 => by
            have : Maps.has D (wk k1 k2) = true := (HW.out.key _).2 ⟨i, hi, by rw [e1, e2, HK.out.1, HK.out.2.1]⟩
            rw [hh] at this; cases this)
          rw [HK.out.1, HK.out.2.1, HK.out.2.2] at this
          exact this
        go_wp2_with (first
          | (at_lookup; refine wpList_lookup_own_ok_int _ rfl _ _ 121 rfl 123 3 .i64 law123 Try.underlying121 Try.underlying3 (w_zero3 _) w.heap.size x D rfl hown _ _ rfl hkey ?_; intro c hat hwc; rw [hh]; clear hat hwc)
          | (at_mapUpdate; refine wpList_mapUpdate_own _ rfl _ _ _ 121 rfl 123 3 law123 Try.underlying121 (plainElem Try.prog 3) w.heap.size x D rfl hown (by unfold maxLen; omega) _ _ _ rfl rfl hkey _ [] (plainElem_int Try.underlying3 (a := (k3 : Int)) (w_wf (by omega) (by omega))) ?_; intro w8 hown8 hgrow8)
          | fail)
        have HP8 : Hid (Pt w w8 p1 b1 p2 b2 p3 b3 w.heap.size (x + 1) l1 l2 l3 (D.put (wk k1 k2) (.lit (.int .i64 (k3 : Int))))) := HP6.out.upd hown8 hgrow8
        clear hown8 hgrow8
        go_wp2_with fail
        go_roundw
        case rel => exact ⟨x + 1, _, by omega, by go_num, HP8.out, HN.out⟩
        case measure => simp [intOf]; omega
      | true =>
        obtain ⟨i, hi, hki⟩ := (HW.out.key _).1 hh
        obtain ⟨e1, e2⟩ := wk_inj (by omega) (by omega) (SM.out i (by omega)).1 (SM.out i (by omega)).2 hki
        have HV : Hid (∀ c : Int, D.atKey (wk k1 k2) (.lit (.int .i64 0)) = .lit (.int .i64 c) → c = ((l3.getD i 0 : Nat) : Int)) := fun c hc => by
          have := HW.out.val i hi (.lit (.int .i64 0))
          rw [← hki, hc] at this
          exact (Lit.int.inj (DataW.lit.inj this)).2
        have HI : Hid (l1.getD i 0 = k1 ∧ l2.getD i 0 = k2) := ⟨e1.symm, e2.symm⟩
        obtain ⟨j3, hj3⟩ : ∃ j3, l3.getD i 0 = j3 := ⟨_, rfl⟩
        have HJ : Hid (l3.getD i 0 = j3) := hj3
        rw [hj3] at HV
        clear hki e1 e2 hj3
        by_cases h3 : j3 = k3
        · as_aux_lemma =>
          subst h3
          have hb3 : ((j3 : Int) == (j3 : Int)) = true := by simp
          have HN : Hid (Wm l1 l2 l3 (x + 1) (D.put (wk k1 k2) (.lit (.int .i64 (j3 : Int))))) := by
            have := HW.out.put SM.out (fun i' hi' e1 e2 => by
              rw [HK.out.2.2, HW.out.same i' i hi' hi (by rw [e1, HK.out.1, HI.out.1]) (by rw [e2, HK.out.2.1, HI.out.2])]
              exact HJ.out)
            rw [HK.out.1, HK.out.2.1, HK.out.2.2] at this
            exact this
          go_wp2_with (first
            | (at_lookup; refine wpList_lookup_own_ok_int _ rfl _ _ 121 rfl 123 3 .i64 law123 Try.underlying121 Try.underlying3 (w_zero3 _) w.heap.size x D rfl hown _ _ rfl hkey ?_; intro c hat hwc; obtain rfl := HV.out c hat; rw [hh]; clear hat hwc)
            | (at_mapUpdate; refine wpList_mapUpdate_own _ rfl _ _ _ 121 rfl 123 3 law123 Try.underlying121 (plainElem Try.prog 3) w.heap.size x D rfl hown (by unfold maxLen; omega) _ _ _ rfl rfl hkey _ [] (plainElem_int Try.underlying3 (a := (j3 : Int)) (w_wf (by omega) (by omega))) ?_; intro w8 hown8 hgrow8)
            | fail)
          have HP8 : Hid (Pt w w8 p1 b1 p2 b2 p3 b3 w.heap.size (x + 1) l1 l2 l3 (D.put (wk k1 k2) (.lit (.int .i64 (j3 : Int))))) := HP6.out.upd hown8 hgrow8
          clear hown8 hgrow8
          go_wp2_with fail
          go_roundw
          case rel => exact ⟨x + 1, _, by omega, by go_num, HP8.out, HN.out⟩
          case measure => simp [intOf]; omega
        · as_aux_lemma =>
          have hb3 : ((j3 : Int) == (k3 : Int)) = false := beq_eq_false_iff_ne.2 (by omega)
          have HO : Hid (ok = true) := HOK.out.2 ⟨i, x, by omega, hlt, by rw [HI.out.1, HK.out.1], by rw [HI.out.2, HK.out.2.1], by rw [HJ.out, HK.out.2.2]; exact h3⟩
          go_wp2_with (first
            | (at_lookup; refine wpList_lookup_own_ok_int _ rfl _ _ 121 rfl 123 3 .i64 law123 Try.underlying121 Try.underlying3 (w_zero3 _) w.heap.size x D rfl hown _ _ rfl hkey ?_; intro c hat hwc; obtain rfl := HV.out c hat; rw [hh]; clear hat hwc)
            | fail)
          go_ret
          exact ⟨by rw [HO.out]; rfl, HP6.out.below⟩
    · have hxe : x = n := by omega
      have HO : Hid (ok = false) := by
        rw [Bool.eq_false_iff]
        intro hc
        obtain ⟨x', y', hx', hy', e1, e2, e3⟩ := HOK.out.1 hc
        exact e3 (HW.out.same x' y' (by omega) (by omega) e1 e2)
      clear hxe
      go_wp2_with fail
      go_ret
      exact ⟨by rw [HO.out]; rfl, HP.out.below⟩

end Go.Proofs.Ytpkdpddillebfab.S
