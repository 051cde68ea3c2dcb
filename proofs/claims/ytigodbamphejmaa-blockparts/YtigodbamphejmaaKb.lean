/- The Blocks value in memory; the contract of its join. -/
import Derived.Test.YtigodbamphejmaaKa
import Derived.Test.YtigodbamphejmaaMr
namespace Go.Proofs.Ytigodbamphejmaa.S
open Go.RowKit Go.WideMaps Go.Maps

/-- The number of the edge at a place. -/
def idAt (R : List (Int × Int × Int)) (j : Nat) : Int := (R.getD j (0, 0, 0)).1

theorem idAt_of {R : List (Int × Int × Int)} {i : Nat} {e : Int × Int × Int} (h : R[i]? = some e) : idAt R i = e.1 := by simp [idAt, h]

theorem idAt_lt {R : List (Int × Int × Int)} (hu : G.Up R) {i j : Nat} (h : i < j) (hj : j < R.length) : idAt R i < idAt R j := by
  have := List.pairwise_iff_getElem.1 hu i j (by omega) hj h
  simpa [idAt, hj, show i < R.length by omega] using this

theorem idAt_inj {R : List (Int × Int × Int)} (hu : G.Up R) {i j : Nat} (hi : i < R.length) (hj : j < R.length) (h : idAt R i = idAt R j) : i = j := by
  rcases Nat.lt_trichotomy i j with c | c | c
  · have := idAt_lt hu c hj; omega
  · exact c
  · have := idAt_lt hu c hi; omega

/-- The map has of each edge's number the one of the least edge that it is alike with. -/
structure Lm (D : DataW Unit) (R : List (Int × Int × Int)) (L : List Nat) : Prop where
  key : ∀ x : Int, Maps.has D (.int .i64 x) = true ↔ ∃ e ∈ R, e.1 = x
  val : ∀ i e, R[i]? = some e → ∀ zd, D.atKey (.int .i64 e.1) zd = .lit (.int .i64 (idAt R (L.getD i 0)))

/-- The Blocks value. -/
structure BlAt (w : World) (p m N : Nat) (D : DataW Unit) (v : Value) : Prop where
  hp : w.heap[p]? = some (.cells #[.map (some m), v] 102)
  hm : w.ownsMap Try.prog 3 (plainElem Try.prog 3) m N D

namespace BlAt
variable {w w' : World} {p m N : Nat} {D D' : DataW Unit} {v : Value}
theorem plt (h : BlAt w p m N D v) : p < w.heap.size := lt_of_some h.hp
theorem c0 (h : BlAt w p m N D v) : w.cell? ⟨p, 0, none⟩ = some (.map (some m)) := by simp [World.cell?, h.hp]
theorem c1 (h : BlAt w p m N D v) : w.cell? ⟨p, 1, none⟩ = some v := by simp [World.cell?, h.hp]
theorem ne (h : BlAt w p m N D v) : p ≠ m := by
  obtain ⟨es, c, hb, _⟩ := h.hm
  rintro rfl
  rw [h.hp] at hb; simp at hb
theorem below (h : BlAt w p m N D v) (hb : Below w.heap.size w w') : BlAt w' p m N D v :=
  ⟨by rw [hb.block p h.plt]; exact h.hp, h.hm.kept (row := none) ⟨hb.os, hb.tape, hb.output, hb.size, fun k hk _ => hb.block k hk⟩ (by simp)⟩
theorem drewN (h : BlAt w p m N D v) (n : Nat) : BlAt (w.drewN n) p m N D v := ⟨h.hp, h.hm⟩
end BlAt

/-- A number is named anew. -/
def nm (lo hi l : Int) : Int := if l = hi then lo else l

theorem nm_id {R : List (Int × Int × Int)} {L : List Nat} (hu : G.Up R) (g : Good R.length L) {x y i : Nat} (hx : x < R.length) (hy : y < R.length) (hi : i < R.length) :
    nm (min (idAt R (L.getD x 0)) (idAt R (L.getD y 0))) (max (idAt R (L.getD x 0)) (idAt R (L.getD y 0))) (idAt R (L.getD i 0)) = idAt R ((joinL L x y).getD i 0) := by
  have lx := g.le x hx
  have ly := g.le y hy
  have li := g.le i hi
  rw [joinL_at _ _ _ _ (by rw [g.len]; exact hi)]
  generalize L.getD x 0 = X at *
  generalize L.getD y 0 = Y at *
  generalize L.getD i 0 = I at *
  have hmin : min (idAt R X) (idAt R Y) = idAt R (min X Y) := by
    rcases Nat.lt_trichotomy X Y with c | c | c
    · have := idAt_lt hu c (by omega); rw [Nat.min_eq_left (by omega)]; omega
    · subst c; rw [Nat.min_self]; omega
    · have := idAt_lt hu c (by omega); rw [Nat.min_eq_right (by omega)]; omega
  have hmax : max (idAt R X) (idAt R Y) = idAt R (max X Y) := by
    rcases Nat.lt_trichotomy X Y with c | c | c
    · have := idAt_lt hu c (by omega); rw [Nat.max_eq_right (by omega)]; omega
    · subst c; rw [Nat.max_self]; omega
    · have := idAt_lt hu c (by omega); rw [Nat.max_eq_left (by omega)]; omega
  rw [hmin, hmax]
  unfold nm named
  by_cases c : I = max X Y
  · rw [if_pos (by rw [c]), if_pos c]
  · rw [if_neg (fun k => c (idAt_inj hu (by omega) (by omega) k)), if_neg c]

/-- Amid the range over the map. -/
structure Mid (D : DataW Unit) (R : List (Int × Int × Int)) (L : List Nat) (lo hi : Int) (left : Lit → Bool) : Prop where
  key : ∀ x : Int, Maps.has D (.int .i64 x) = true ↔ ∃ e ∈ R, e.1 = x
  old : ∀ i e, R[i]? = some e → left (.int .i64 e.1) = true → ∀ zd, D.atKey (.int .i64 e.1) zd = .lit (.int .i64 (idAt R (L.getD i 0)))
  new : ∀ i e, R[i]? = some e → left (.int .i64 e.1) = false → ∀ zd, D.atKey (.int .i64 e.1) zd = .lit (.int .i64 (nm lo hi (idAt R (L.getD i 0))))

theorem mid_start {D : DataW Unit} {R : List (Int × Int × Int)} {L : List Nat} (h : Lm D R L) (lo hi : Int) : Mid D R L lo hi (Maps.has D) :=
  ⟨h.key, fun i e he _ => h.val i e he, fun i e he hl => by
    rw [(h.key e.1).2 ⟨e, List.mem_of_getElem? he, rfl⟩] at hl; cases hl⟩

theorem mid_end {D : DataW Unit} {R : List (Int × Int × Int)} {L : List Nat} {x y : Nat} {left : Lit → Bool} (hu : G.Up R) (g : Good R.length L) (hx : x < R.length) (hy : y < R.length)
    (h : Mid D R L (min (idAt R (L.getD x 0)) (idAt R (L.getD y 0))) (max (idAt R (L.getD x 0)) (idAt R (L.getD y 0))) left) (hl : ∀ kl, left kl = false) : Lm D R (joinL L x y) :=
  ⟨h.key, fun i e he zd => by
    rw [h.new i e he (hl _) zd, nm_id hu g hx hy (List.getElem?_eq_some_iff.1 he).1]⟩

theorem key_self (x y : Int) : (Lit.int .i64 x).sameKey (.int .i64 y) = decide (x = y) := by
  by_cases h : x = y
  · subst h; rw [WideAt.sameKey_self (isKeyLit x)]; simp
  · rw [sameKey_ne (by simpa using h)]; simp [h]

theorem up_one {R : List (Int × Int × Int)} (hu : G.Up R) {i j : Nat} {e f : Int × Int × Int} (hi : R[i]? = some e) (hj : R[j]? = some f) (h : e.1 = f.1) : i = j ∧ e = f := by
  have e1 := idAt_of hi
  have e2 := idAt_of hj
  have hij := idAt_inj hu (List.getElem?_eq_some_iff.1 hi).1 (List.getElem?_eq_some_iff.1 hj).1 (by rw [e1, e2, h])
  subst hij
  rw [hi] at hj; cases hj
  exact ⟨rfl, rfl⟩

/-- An entry that stays as it is. -/
theorem mid_stay {D : DataW Unit} {R : List (Int × Int × Int)} {L : List Nat} {lo hi : Int} {left : Lit → Bool} (hu : G.Up R) (h : Mid D R L lo hi left) {i : Nat} {e : Int × Int × Int} (he : R[i]? = some e) (hl : left (.int .i64 e.1) = true) (hne : idAt R (L.getD i 0) ≠ hi) :
    Mid D R L lo hi (fun z => left z && !z.sameKey (.int .i64 e.1)) := by
  refine ⟨h.key, fun j f hf hlf zd => ?_, fun j f hf hlf zd => ?_⟩
  · simp only [Bool.and_eq_true] at hlf
    exact h.old j f hf hlf.1 zd
  · by_cases c : f.1 = e.1
    · obtain ⟨rfl, rfl⟩ := up_one hu hf he c
      rw [h.old j f hf hl zd]
      unfold nm
      rw [if_neg hne]
    · simp only [key_self, c, decide_false, Bool.not_false, Bool.and_true] at hlf
      exact h.new j f hf hlf zd

/-- An entry that is named anew. -/
theorem mid_turn {D : DataW Unit} {R : List (Int × Int × Int)} {L : List Nat} {lo hi : Int} {left : Lit → Bool} (hD : IsMap D) (hu : G.Up R) (h : Mid D R L lo hi left) {i : Nat} {e : Int × Int × Int} (he : R[i]? = some e) (heq : idAt R (L.getD i 0) = hi) :
    Mid (D.put (.int .i64 e.1) (.lit (.int .i64 lo))) R L lo hi (fun z => left z && !z.sameKey (.int .i64 e.1)) := by
  refine ⟨fun x => ?_, fun j f hf hlf zd => ?_, fun j f hf hlf zd => ?_⟩
  · by_cases c : x = e.1
    · subst c
      rw [has_put_same hD (isKeyLit _)]
      exact ⟨fun _ => ⟨e, List.mem_of_getElem? he, rfl⟩, fun _ => rfl⟩
    · rw [has_put_other (by simpa using c)]; exact h.key x
  · by_cases c : f.1 = e.1
    · simp [key_self, c] at hlf
    · rw [atKey_put_other (by simpa using c)]
      simp only [Bool.and_eq_true] at hlf
      exact h.old j f hf hlf.1 zd
  · by_cases c : f.1 = e.1
    · obtain ⟨rfl, rfl⟩ := up_one hu hf he c
      rw [atKey_put_same hD (isKeyLit _)]
      unfold nm
      rw [if_pos heq]
    · rw [atKey_put_other (by simpa using c)]
      simp only [key_self, c, decide_false, Bool.not_false, Bool.and_true] at hlf
      exact h.new j f hf hlf zd

theorem But.next {m r : Nat} {w w1 w2 : World} (h : But m w w1) (hr : w.heap.size ≤ r) (hg : w1.grownBy w2 (some r)) : But m w w2 :=
  ⟨hg.os.trans h.os, hg.tape.trans h.tape, hg.output.trans h.output, Nat.le_trans h.size hg.size, fun k hk hn => (hg.block k (Nat.lt_of_lt_of_le hk h.size) (fun e => by injection e with e; omega)).trans (h.block k hk hn)⟩

theorem But.turned {m : Nat} {w w1 w2 : World} (h : But m w w1) (hg : w1.mapTurned w2 m) : But m w w2 :=
  ⟨hg.grown.os.trans h.os, hg.grown.tape.trans h.tape, hg.grown.output.trans h.output, Nat.le_trans h.size hg.grown.size, fun k hk hn => (hg.grown.block k (Nat.lt_of_lt_of_le hk h.size) (fun e => by injection e with e; omega)).trans (h.block k hk hn)⟩

theorem zero3 (w : World) : (zeroValue 3).run Try.prog w = .ok (.int .i64 0) w := by kernel_rfl

theorem lit_inj {a b : Int} (h : (DataW.lit (.int .i64 a) : DataW Unit) = .lit (.int .i64 b)) : a = b := by
  injection h with h
  injection h

/-- What is looked up. -/
theorem look_least {w : World} {m N : Nat} {D : DataW Unit} {R : List (Int × Int × Int)} {L : List Nat} (hm : w.ownsMap Try.prog 3 (plainElem Try.prog 3) m N D) (hl : Lm D R L) {i : Nat} {e : Int × Int × Int} (he : R[i]? = some e) (hw : (Lit.int .i64 e.1).wf = true) :
    (Instr.lookup 100 (.map (some m)) (.int .i64 e.1) false).run Try.prog w = .ok (.int .i64 (idAt R (L.getD i 0))) w := by
  obtain ⟨c, hrun, hat, _⟩ := hm.lookup_int law3 Try.underlying100 Try.underlying3 (zero3 w) (key3 e.1 hw)
  rw [hl.val i e he] at hat
  have : c = idAt R (L.getD i 0) := by
    have h2 := lit_inj hat
    exact h2.symm
  rw [hrun, this]

set_option maxHeartbeats 4000000 in
set_option maxRecDepth 100000 in
theorem bjoin_any {R : List (Int × Int × Int)} {L : List Nat} {e f : Int × Int × Int} (x y p m N : Nat) (D : DataW Unit) (v : Value) (w : World) (h : BlAt w p m N D v) (hl : Lm D R L) (g : Good R.length L) (hu : G.Up R) (hx : R[x]? = some e) (hy : R[y]? = some f) (hid : ∀ e ∈ R, 0 ≤ e.1 ∧ e.1 ≤ 1000000) :
    Calls Try.prog 82 #[.pointer (some ⟨p, 0, none⟩), .int .i64 e.1, .int .i64 f.1] w fun en w' => en = .returned (.tuple #[]) ∧ ∃ D', BlAt w' p m N D' v ∧ Lm D' R (joinL L x y) ∧ But m w w' := by
  have hxl := (List.getElem?_eq_some_iff.1 hx).1
  have hyl := (List.getElem?_eq_some_iff.1 hy).1
  have hwf : ∀ e ∈ R, (Lit.int .i64 e.1).wf = true := fun e he => wf_small (hid e he).1 (hid e he).2
  have hix : 0 ≤ idAt R (L.getD x 0) ∧ idAt R (L.getD x 0) ≤ 1000000 := by
    have hl := Nat.lt_of_le_of_lt (g.le x hxl) hxl
    have := idAt_of (List.getElem?_eq_getElem hl)
    rw [this]; exact hid _ (List.getElem_mem hl)
  have hiy : 0 ≤ idAt R (L.getD y 0) ∧ idAt R (L.getD y 0) ≤ 1000000 := by
    have hl := Nat.lt_of_le_of_lt (g.le y hyl) hyl
    have := idAt_of (List.getElem?_eq_getElem hl)
    rw [this]; exact hid _ (List.getElem_mem hl)
  have lk1 := fun n => look_least (h.drewN n).hm hl hx (hwf e (List.mem_of_getElem? hx))
  have lk2 := fun n => look_least (h.drewN n).hm hl hy (hwf f (List.mem_of_getElem? hy))
  have hc0 := h.c0
  have HB : Hid (BlAt w p m N D v) := h
  have HL : Hid (Lm D R L) := hl
  have HGD : Hid (Good R.length L ∧ G.Up R ∧ x < R.length ∧ y < R.length) := ⟨g, hu, hxl, hyl⟩
  have HWF : Hid (∀ e ∈ R, (Lit.int .i64 e.1).wf = true) := hwf
  obtain ⟨X, hX⟩ : ∃ X, idAt R (L.getD x 0) = X := ⟨_, rfl⟩
  obtain ⟨Y, hY⟩ : ∃ Y, idAt R (L.getD y 0) = Y := ⟨_, rfl⟩
  rw [hX] at lk1 hix
  rw [hY] at lk2 hiy
  have HXY : Hid (idAt R (L.getD x 0) = X ∧ idAt R (L.getD y 0) = Y) := ⟨hX, hY⟩
  have HSM : Hid (X = Y → joinL L x y = L) := fun k => by
    apply joinL_same
    exact idAt_inj hu (Nat.lt_of_le_of_lt (g.le x hxl) hxl) (Nat.lt_of_le_of_lt (g.le y hyl) hyl) (by rw [hX, hY]; exact k)
  have hwX : (Lit.int .i64 X).wf = true := wf_small hix.1 hix.2
  have hwY : (Lit.int .i64 Y).wf = true := wf_small hiy.1 hiy.2
  clear h hl g hu hxl hyl hwf hX hY hid hx hy
  generalize e.1 = e1 at *
  generalize f.1 = f1 at *
  by_cases heq : X = Y
  · subst heq
    go_enter Try.func82, Try.ntmps82
    go_wp2_with fail
    go_quiet (fail)
    go_wp2_with fail
    refine bodyPost_ret (results_none rfl _ _ _) rfl ?_
    exact ⟨rfl, D, HB.out.drewN _, by rw [HSM.out trivial]; exact HL.out, But.of_below (below_drewN (Below.refl _ _) _)⟩
  · obtain ⟨lo, hlo⟩ : ∃ lo, min X Y = lo := ⟨_, rfl⟩
    obtain ⟨hi, hhi⟩ : ∃ hi, max X Y = hi := ⟨_, rfl⟩
    have hwlo : (Lit.int .i64 lo).wf = true := by
      rcases Int.le_total X Y with c | c
      · rw [← hlo, Int.min_eq_left c]; exact hwX
      · rw [← hlo, Int.min_eq_right c]; exact hwY
    have hne : (lo == hi) = false := beq_eq_false_iff_ne.2 (by omega)
    have HMM : Hid (min (idAt R (L.getD x 0)) (idAt R (L.getD y 0)) = lo ∧ max (idAt R (L.getD x 0)) (idAt R (L.getD y 0)) = hi) := by
      refine ⟨?_, ?_⟩ <;> rw [HXY.out.1, HXY.out.2] <;> assumption
    have hmsz := HB.out.hm.lt
    have hpsz := HB.out.plt
    have hpm := HB.out.ne
    rcases Int.lt_or_gt_of_ne heq with hlt | hgt
    · obtain ⟨rfl, rfl⟩ : X = lo ∧ Y = hi := by omega
      go_enter Try.func82, Try.ntmps82
      go_wp2_with fail
      go_quiet (fail)
      have HPW : Hid (w.heap[p]? = some (.cells #[.map (some m), v] 102)) := HB.out.hp
      have HOW : Hid (BlAt (w.drewN nq) p m N D v ∧ But m w (w.drewN nq)) := ⟨HB.out.drewN nq, But.of_below (below_drewN (Below.refl _ _) nq)⟩
      have HSZ : Hid ((w.drewN nq).heap.size = w.heap.size) := rfl
      generalize w.drewN nq = W at *
      have hown := HOW.out.1.hm
      have hc0 := HOW.out.1.c0
      clear lk1 lk2 HB HXY HSM heq
      go_wp2_with (first
        | (at_range; refine wpList_range_own _ rfl _ 100 rfl 3 3 law3 Try.underlying100 (plainElem Try.prog 3) m N D rfl hown ?_; intro w0 hrg0 hg0 hs0)
        | fail)
      go_frame
      have HR0 : Hid (w0.ranges Try.prog 3 (plainElem Try.prog 3) m W.heap.size N D (Maps.has D) (Maps.size D)) := hrg0
      have HG0 : Hid (But m w w0) := HOW.out.2.trans ⟨hg0.os, hg0.tape, hg0.output, hg0.size, fun k hk _ => hg0.block k hk (by simp)⟩
      clear hrg0 hg0 hs0 hown hc0
      go_loopw [8] (fun _ wr => ∃ (Dc : DataW Unit) (left : Lit → Bool) (cnt : Nat), wr.ranges Try.prog 3 (plainElem Try.prog 3) m W.heap.size N Dc left cnt ∧ Mid Dc R L X Y left ∧ But m w wr) (fun _ wr => wr.rangeLeft m W.heap.size)
      case atStart => exact ⟨D, _, _, HR0.out, mid_start HL.out _ _, HG0.out⟩
      case round =>
        obtain ⟨Dc, left, cnt, hrg, hmid, hbt⟩ := hrel
        have HRG : Hid (wr.ranges Try.prog 3 (plainElem Try.prog 3) m W.heap.size N Dc left cnt) := hrg
        have HMD : Hid (Mid Dc R L X Y left) := hmid
        have HBT : Hid (But m w wr) := hbt
        clear hrg hmid hbt HR0 HG0
        go_wp2_with (first
          | (at_next; refine wpList_next_ranges_ii _ rfl _ rfl 3 3 .i64 .i64 law3 Try.underlying3 Try.underlying3 m W.heap.size N Dc left cnt rfl HRG.out ?_ ?_)
          | fail)
        · intro _ hl0
          have HL0 : Hid (∀ kl, left kl = false) := hl0
          clear hl0
          go_wp2
          go_end0
          refine ⟨rfl, Dc, ⟨?_, HRG.out.owns⟩, mid_end HGD.out.2.1 HGD.out.1 HGD.out.2.2.1 HGD.out.2.2.2 (by rw [HMM.out.1, HMM.out.2]; exact HMD.out) HL0.out, HBT.out⟩
          rw [HBT.out.block p hpsz hpm]; exact HPW.out
        · intro x1 c w1 cnt1 hwx hwc hlx hat hrg1 hlt1 hg1 hs1 hen
          obtain ⟨d, hdR, rfl⟩ := (HMD.out.key x1).1 (has_true_of_atKey hat)
          obtain ⟨t, ht⟩ := List.getElem?_of_mem hdR
          have hc : c = idAt R (L.getD t 0) := by
            have h1 := HMD.out.old t d ht hlx .nil
            rw [hat] at h1
            exact lit_inj h1
          have HB1 : Hid (But m w w1) := HBT.out.next (by rw [HSZ.out]; exact Nat.le_refl _) hg1
          have HR1 : Hid (w1.ranges Try.prog 3 (plainElem Try.prog 3) m W.heap.size N Dc (fun z => left z && !z.sameKey (.int .i64 d.1)) cnt1 ∧ cnt1 < cnt) := ⟨hrg1, hlt1⟩
          have HLX : Hid (left (.int .i64 d.1) = true) := hlx
          have HT : Hid (R[t]? = some d ∧ c = idAt R (L.getD t 0)) := ⟨ht, hc⟩
          have hkey := key3 d.1 hwx
          have HHAS : Hid (Maps.has Dc (.int .i64 d.1) = true) := has_true_of_atKey hat
          have hp1 : w1.heap[p]? = some (.cells #[.map (some m), v] 102) := by rw [HB1.out.block p hpsz hpm]; exact HPW.out
          have hc1 : w1.cell? ⟨p, 0, none⟩ = some (.map (some m)) := by simp [World.cell?, hp1]
          clear hwx hwc hlx hat hrg1 hlt1 hg1 hs1 hdR ht hc hp1
          by_cases hch : c = Y
          · as_aux_lemma =>
            have hcb : (c == Y) = true := beq_iff_eq.2 hch
            have HMT := (show Hid _ from mid_turn HR1.out.1.owns.isMap HGD.out.2.1 HMD.out HT.out.1 (HT.out.2.symm.trans hch))
            generalize d.1 = x1 at *
            clear hch
            go_wp2_with (first
              | (at_mapUpdate; refine wpList_mapUpdate_ranges _ rfl _ _ _ 100 rfl 3 3 law3 Try.underlying100 (plainElem Try.prog 3) m W.heap.size N Dc _ cnt1 rfl HR1.out.1 _ _ _ rfl rfl hkey _ [] (plainElem_int Try.underlying3 hwlo) HHAS.out ?_; intro w2 hrg2 hturn2)
              | fail)
            go_frame
            go_roundw
            case rel => exact ⟨_, _, cnt1, hrg2, HMT.out, HB1.out.turned hturn2⟩
            case measure => rw [hrg2.left_eq, HRG.out.left_eq]; exact HR1.out.2
          · as_aux_lemma =>
            have hcb : (c == Y) = false := beq_eq_false_iff_ne.2 hch
            have HMT := (show Hid _ from mid_stay HGD.out.2.1 HMD.out HT.out.1 HLX.out (fun k => hch (HT.out.2.trans k)))
            generalize d.1 = x1 at *
            clear hch
            go_wp2_with fail
            go_roundw
            case rel => exact ⟨_, _, cnt1, HR1.out.1, HMT.out, HB1.out⟩
            case measure => rw [HR1.out.1.left_eq, HRG.out.left_eq]; exact HR1.out.2
    · obtain ⟨rfl, rfl⟩ : Y = lo ∧ X = hi := by omega
      go_enter Try.func82, Try.ntmps82
      go_wp2_with fail
      go_quiet (fail)
      have HPW : Hid (w.heap[p]? = some (.cells #[.map (some m), v] 102)) := HB.out.hp
      have HOW : Hid (BlAt (w.drewN nq) p m N D v ∧ But m w (w.drewN nq)) := ⟨HB.out.drewN nq, But.of_below (below_drewN (Below.refl _ _) nq)⟩
      have HSZ : Hid ((w.drewN nq).heap.size = w.heap.size) := rfl
      generalize w.drewN nq = W at *
      have hown := HOW.out.1.hm
      have hc0 := HOW.out.1.c0
      clear lk1 lk2 HB HXY HSM heq
      go_wp2_with (first
        | (at_range; refine wpList_range_own _ rfl _ 100 rfl 3 3 law3 Try.underlying100 (plainElem Try.prog 3) m N D rfl hown ?_; intro w0 hrg0 hg0 hs0)
        | fail)
      go_frame
      have HR0 : Hid (w0.ranges Try.prog 3 (plainElem Try.prog 3) m W.heap.size N D (Maps.has D) (Maps.size D)) := hrg0
      have HG0 : Hid (But m w w0) := HOW.out.2.trans ⟨hg0.os, hg0.tape, hg0.output, hg0.size, fun k hk _ => hg0.block k hk (by simp)⟩
      clear hrg0 hg0 hs0 hown hc0
      go_loopw [8] (fun _ wr => ∃ (Dc : DataW Unit) (left : Lit → Bool) (cnt : Nat), wr.ranges Try.prog 3 (plainElem Try.prog 3) m W.heap.size N Dc left cnt ∧ Mid Dc R L Y X left ∧ But m w wr) (fun _ wr => wr.rangeLeft m W.heap.size)
      case atStart => exact ⟨D, _, _, HR0.out, mid_start HL.out _ _, HG0.out⟩
      case round =>
        obtain ⟨Dc, left, cnt, hrg, hmid, hbt⟩ := hrel
        have HRG : Hid (wr.ranges Try.prog 3 (plainElem Try.prog 3) m W.heap.size N Dc left cnt) := hrg
        have HMD : Hid (Mid Dc R L Y X left) := hmid
        have HBT : Hid (But m w wr) := hbt
        clear hrg hmid hbt HR0 HG0
        go_wp2_with (first
          | (at_next; refine wpList_next_ranges_ii _ rfl _ rfl 3 3 .i64 .i64 law3 Try.underlying3 Try.underlying3 m W.heap.size N Dc left cnt rfl HRG.out ?_ ?_)
          | fail)
        · intro _ hl0
          have HL0 : Hid (∀ kl, left kl = false) := hl0
          clear hl0
          go_wp2
          go_end0
          refine ⟨rfl, Dc, ⟨?_, HRG.out.owns⟩, mid_end HGD.out.2.1 HGD.out.1 HGD.out.2.2.1 HGD.out.2.2.2 (by rw [HMM.out.1, HMM.out.2]; exact HMD.out) HL0.out, HBT.out⟩
          rw [HBT.out.block p hpsz hpm]; exact HPW.out
        · intro x1 c w1 cnt1 hwx hwc hlx hat hrg1 hlt1 hg1 hs1 hen
          obtain ⟨d, hdR, rfl⟩ := (HMD.out.key x1).1 (has_true_of_atKey hat)
          obtain ⟨t, ht⟩ := List.getElem?_of_mem hdR
          have hc : c = idAt R (L.getD t 0) := by
            have h1 := HMD.out.old t d ht hlx .nil
            rw [hat] at h1
            exact lit_inj h1
          have HB1 : Hid (But m w w1) := HBT.out.next (by rw [HSZ.out]; exact Nat.le_refl _) hg1
          have HR1 : Hid (w1.ranges Try.prog 3 (plainElem Try.prog 3) m W.heap.size N Dc (fun z => left z && !z.sameKey (.int .i64 d.1)) cnt1 ∧ cnt1 < cnt) := ⟨hrg1, hlt1⟩
          have HLX : Hid (left (.int .i64 d.1) = true) := hlx
          have HT : Hid (R[t]? = some d ∧ c = idAt R (L.getD t 0)) := ⟨ht, hc⟩
          have hkey := key3 d.1 hwx
          have HHAS : Hid (Maps.has Dc (.int .i64 d.1) = true) := has_true_of_atKey hat
          have hp1 : w1.heap[p]? = some (.cells #[.map (some m), v] 102) := by rw [HB1.out.block p hpsz hpm]; exact HPW.out
          have hc1 : w1.cell? ⟨p, 0, none⟩ = some (.map (some m)) := by simp [World.cell?, hp1]
          clear hwx hwc hlx hat hrg1 hlt1 hg1 hs1 hdR ht hc hp1
          by_cases hch : c = X
          · as_aux_lemma =>
            have hcb : (c == X) = true := beq_iff_eq.2 hch
            have HMT := (show Hid _ from mid_turn HR1.out.1.owns.isMap HGD.out.2.1 HMD.out HT.out.1 (HT.out.2.symm.trans hch))
            generalize d.1 = x1 at *
            clear hch
            go_wp2_with (first
              | (at_mapUpdate; refine wpList_mapUpdate_ranges _ rfl _ _ _ 100 rfl 3 3 law3 Try.underlying100 (plainElem Try.prog 3) m W.heap.size N Dc _ cnt1 rfl HR1.out.1 _ _ _ rfl rfl hkey _ [] (plainElem_int Try.underlying3 hwlo) HHAS.out ?_; intro w2 hrg2 hturn2)
              | fail)
            go_frame
            go_roundw
            case rel => exact ⟨_, _, cnt1, hrg2, HMT.out, HB1.out.turned hturn2⟩
            case measure => rw [hrg2.left_eq, HRG.out.left_eq]; exact HR1.out.2
          · as_aux_lemma =>
            have hcb : (c == X) = false := beq_eq_false_iff_ne.2 hch
            have HMT := (show Hid _ from mid_stay HGD.out.2.1 HMD.out HT.out.1 HLX.out (fun k => hch (HT.out.2.trans k)))
            generalize d.1 = x1 at *
            clear hch
            go_wp2_with fail
            go_roundw
            case rel => exact ⟨_, _, cnt1, HR1.out.1, HMT.out, HB1.out⟩
            case measure => rw [HR1.out.1.left_eq, HRG.out.left_eq]; exact HR1.out.2

end Go.Proofs.Ytigodbamphejmaa.S
