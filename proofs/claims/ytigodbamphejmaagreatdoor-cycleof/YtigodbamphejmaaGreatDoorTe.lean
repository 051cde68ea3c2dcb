/- The contract of the document's own Thrice: by all twos that are taken away. -/
import Derived.Test.YtigodbamphejmaaGreatDoorD2
import Derived.Test.YtigodbamphejmaaGreatDoorV1
import Derived.Deep.RegionLaw
namespace Go.Proofs.YtigodbamphejmaaGreatDoor.S
open Go.RowKit Go.WideMaps Go.Maps

theorem allL_start {w : World} {base n b : Nat} {l : List Nat} (hb : base ≤ w.heap.size) (hr : RowL w b l) (hl : l.length = n) :
    AllL ((w.alloc (.cells #[.slice (some ⟨b, 0, none⟩) n n] 39)).alloc (.cells #[.slice (some ⟨w.heap.size, 0, none⟩) 1 1] 42)) base (w.heap.size + 1) n (.slice (some ⟨w.heap.size, 0, none⟩) 1 1) [(b, l)] := by
  refine ⟨?_, ?_, heap_allocs _ _ _⟩
  · refine World.ownsRow.alloc ?_ _
    refine ⟨by simp, .inr ⟨w.heap.size, 1, _, rfl, hb, heap_alloc_new w _, Nat.le_refl _, by unfold maxLen; omega, by simp, ?_⟩⟩
    simp
  · intro p hp
    rw [List.mem_singleton.1 hp]
    exact ⟨(hr.alloc _).alloc _, hl⟩

/-- Without two edges. -/
def rest2 (R : List Edg) (e f : Edg) : List Edg := R.filter fun d => decide (d.1 ≠ e.1) && decide (d.1 ≠ f.1)

theorem rest2_eq (R : List Edg) (e f : Edg) (F Fn : Nat → Int) (h0 : F 0 = e.1) (h1 : F 1 = f.1) : R.filter (G.stays F Fn 2 0) = rest2 R e f := by
  unfold rest2
  refine List.filter_congr (fun d _ => ?_)
  have h3 : G.among F 2 d.1 = (decide (e.1 = d.1) || decide (f.1 = d.1)) := by
    simp only [G.among, List.range_succ, List.range_zero, List.nil_append, List.any_append, List.any_cons, List.any_nil, Bool.or_false, h0, h1]
    rw [Bool.eq_iff_iff]
    simp
  have h2 : ∀ x, G.among Fn 0 x = false := fun x => by simp [G.among]
  unfold G.stays
  rw [h3, h2, h2]
  by_cases hd : d.1 = e.1
  · simp [hd]
  · by_cases hf : d.1 = f.1
    · simp [hf]
    · simp [hd, hf, Ne.symm hd, Ne.symm hf]

theorem inn_rest2 {n : Nat} {R : List Edg} (h : Inn n R) (e f : Edg) : Inn n (rest2 R e f) := fun d hd => h d (List.mem_filter.1 hd).1
theorem rest2_len (R : List Edg) (e f : Edg) : (rest2 R e f).length ≤ R.length := List.length_filter_le _ _
theorem rest2_comm (R : List Edg) (e f : Edg) : rest2 R e f = rest2 R f e := by
  unfold rest2
  exact List.filter_congr (fun d _ => Bool.and_comm _ _)

/-- What the rows of labels say. -/
def Says3 (n : Nat) (R : List Edg) (P : List (Nat × List Nat)) (i j : Nat) : Prop :=
  ∀ x y, x < n → y < n → ((∀ p ∈ P, p.2.getD x 0 = p.2.getD y 0) ↔ (cnR R x y ∧ ∀ i' j' e f, (i' < i ∨ i' = i ∧ j' < j) → i' ≤ j' → R[i']? = some e → R[j']? = some f → cnR (rest2 R e f) x y))

theorem says3_start {n b : Nat} {R : List Edg} {l : List Nat} (h : ∀ u v, u < n → v < n → (l.getD u 0 = l.getD v 0 ↔ cnR R u v)) : Says3 n R [(b, l)] 0 0 := by
  intro x y hx hy
  simp only [List.mem_singleton, forall_eq]
  rw [h x y hx hy]
  exact ⟨fun k => ⟨k, fun i' j' e f hi => by omega⟩, fun k => k.1⟩

theorem says3_step {n b i j : Nat} {R : List Edg} {l : List Nat} {P : List (Nat × List Nat)} {e f : Edg} (h : Says3 n R P i j) (hi : R[i]? = some e) (hij : i ≤ j) (hj : R[j]? = some f) (hl : ∀ u v, u < n → v < n → (l.getD u 0 = l.getD v 0 ↔ cnR (rest2 R e f) u v)) : Says3 n R (P ++ [(b, l)]) i (j + 1) := by
  intro x y hx hy
  have h1 := h x y hx hy
  have h2 := hl x y hx hy
  simp only [List.mem_append, List.mem_singleton]
  constructor
  · intro k
    have k1 := h1.1 (fun p hp => k p (.inl hp))
    refine ⟨k1.1, fun i' j' e' f' hh hle he' hf' => ?_⟩
    by_cases hn : i' = i ∧ j' = j
    · obtain ⟨rfl, rfl⟩ := hn
      rw [hi] at he'
      rw [hj] at hf'
      cases he'
      cases hf'
      exact h2.1 (k (b, l) (.inr rfl))
    · exact k1.2 i' j' e' f' (by omega) hle he' hf'
  · rintro ⟨k1, k2⟩ p (hp | rfl)
    · exact h1.2 ⟨k1, fun i' j' e' f' hh => k2 i' j' e' f' (by omega)⟩ p hp
    · exact h2.2 (k2 i j e f (by omega) hij hi hj)

theorem says3_next {n i m : Nat} {R : List Edg} {P : List (Nat × List Nat)} (hm : R.length = m) (h : Says3 n R P i m) : Says3 n R P (i + 1) (i + 1) := by
  intro x y hx hy
  rw [h x y hx hy]
  constructor
  · rintro ⟨k1, k2⟩
    refine ⟨k1, fun i' j' e f hh hle he hf => k2 i' j' e f ?_ hle he hf⟩
    have := (List.getElem?_eq_some_iff.1 hf).1
    omega
  · rintro ⟨k1, k2⟩
    exact ⟨k1, fun i' j' e f hh hle he hf => k2 i' j' e f (by omega) hle he hf⟩

theorem says3_end {n m j : Nat} {R : List Edg} {P : List (Nat × List Nat)} (hm : R.length = m) (h : Says3 n R P m j) {x y : Nat} (hx : x < n) (hy : y < n) : (∀ p ∈ P, p.2.getD x 0 = p.2.getD y 0) ↔ (cnR R x y ∧ ∀ e ∈ R, ∀ f ∈ R, cnR (rest2 R e f) x y) := by
  rw [h x y hx hy]
  constructor
  · rintro ⟨k1, k2⟩
    refine ⟨k1, fun e he f hf => ?_⟩
    obtain ⟨i, hi⟩ := List.getElem?_of_mem he
    obtain ⟨j, hj⟩ := List.getElem?_of_mem hf
    have h1 := (List.getElem?_eq_some_iff.1 hi).1
    have h2 := (List.getElem?_eq_some_iff.1 hj).1
    by_cases hij : i ≤ j
    · exact k2 i j e f (by omega) hij hi hj
    · rw [rest2_comm]
      exact k2 j i f e (by omega) (by omega) hj hi
  · rintro ⟨k1, k2⟩
    exact ⟨k1, fun i' j' e f _ _ he hf => k2 e (List.mem_of_getElem? he) f (List.mem_of_getElem? hf)⟩

theorem cell_of_box {w : World} {k t : Nat} {v : Value} (h : w.heap[k]? = some (.cells #[v] t)) : w.cell? ⟨k, 0, none⟩ = some v := by simp [World.cell?, h]

theorem own_slice {w : World} {base e k : Nat} {v : Value} {xs : List Value} (h : w.ownsRow base e 1 v k xs) (hk : 0 < k) : ∃ g cap, v = .slice (some ⟨g, 0, none⟩) k cap := by
  rcases h.2 with ⟨_, hz⟩ | ⟨g, cap, cur, rfl, _⟩
  · omega
  · exact ⟨g, cap, rfl⟩

theorem two_ids (w : World) (x y : Int) : G.Ints (w.alloc (.cells #[.int .i64 x, .int .i64 y] 3)) (some ⟨w.heap.size, 0, none⟩) 2 (fun t => if t = 0 then x else y) :=
  ⟨fun _ => ⟨w.heap.size, 0, rfl, fun t ht => by
    have : t = 0 ∨ t = 1 := by omega
    rcases this with rfl | rfl <;> simp⟩⟩

set_option maxHeartbeats 4000000 in
set_option maxRecDepth 100000 in
theorem thrice_doc (n B q : Nat) (u : Value) (R : List Edg) (L : List Nat) (w : World) (h : G.GAt w B 33 55 q (n : Int) u R) (hl : R.length ≤ 30) (hn : n ≤ 40) (hin : Inn n R) (hg : Good n L) (hL : ∀ x y, x < n → y < n → (L.getD x 0 = L.getD y 0 ↔ (cnR R x y ∧ ∀ e ∈ R, ∀ f ∈ R, cnR (rest2 R e f) x y))) :
    Calls Tryz.prog 37 #[.pointer (some ⟨q, 0, none⟩)] w (RowsPost w (grps L n)) := by
  have HG : Hid (G.GAt w B 33 55 q (n : Int) u R) := h
  have HLL : Hid (∀ x y, x < n → y < n → (L.getD x 0 = L.getD y 0 ↔ (cnR R x y ∧ ∀ e ∈ R, ∀ f ∈ R, cnR (rest2 R e f) x y))) := hL
  have HIN : Hid (Inn n R) := hin
  have hmf' := hmf
  obtain ⟨i0, hi0, hz0, hz1, hz2⟩ := info_parts Tryz.info39
  obtain ⟨m, hm⟩ : ∃ m, m = R.length := ⟨_, rfl⟩
  have HM : Hid (m = R.length) := hm
  obtain ⟨ua, uc, hv⟩ := h.row.slice_len
  rw [← hm] at hv hl
  have HV : Hid (u = .slice ua m uc) := hv
  clear h hL hin hm hv
  go_enter Tryz.func37, Tryz.ntmps37
  go_wp2_with fail
  refine (labels_any n B q u R w HG.out (by rw [← HM.out]; omega) hn HIN.out).mono ?_
  rintro e w1 ⟨b0, l0, rfl, hr, hb, hll, hlab, hbl⟩
  have HA0 : Hid (AllL ((w1.alloc (.cells #[.slice (some ⟨b0, 0, none⟩) n n] 39)).alloc (.cells #[.slice (some ⟨w1.heap.size, 0, none⟩) 1 1] 42)) w1.heap.size (w1.heap.size + 1) n (.slice (some ⟨w1.heap.size, 0, none⟩) 1 1) [(b0, l0)]) := allL_start (Nat.le_refl _) hr hll
  have HS0 : Hid (Says3 n R [(b0, l0)] 0 0) := says3_start hlab
  have HB0 : Hid (Below w.heap.size w ((w1.alloc (.cells #[.slice (some ⟨b0, 0, none⟩) n n] 39)).alloc (.cells #[.slice (some ⟨w1.heap.size, 0, none⟩) 1 1] 42))) := hbl.trans ((below_two _ _ _).mono hbl.size)
  have hws := hbl.size
  have hg0 := HG.out.below HB0.out
  have hu1 : ((w1.alloc (.cells #[.slice (some ⟨b0, 0, none⟩) n n] 39)).alloc (.cells #[.slice (some ⟨w1.heap.size, 0, none⟩) 1 1] 42)).cell? ⟨q, 1, none⟩ = some (.slice ua m uc) := by have := hg0.c1; rwa [HV.out] at this
  clear hr hb hlab hbl hg0
  go_wp2_with fail
  go_loopw [16] (fun s16 wq => ∃ (i : Nat) (v : Value) (P : List (Nat × List Nat)), i ≤ m ∧ s16 = .int .i64 i ∧ 0 < P.length ∧ P.length ≤ 1 + 30 * i ∧ AllL wq w1.heap.size (w1.heap.size + 1) n v P ∧ Says3 n R P i i ∧ Below w.heap.size w wq) (fun s16 _ => m - (intOf s16).toNat)
  case atStart => exact ⟨0, _, _, Nat.zero_le _, rfl, by simp, by simp, HA0.out, HS0.out, HB0.out⟩
  case round =>
    obtain ⟨i, v, P, hi, rfl, hP0, hPl, hA, hS, hb⟩ := hrel
    have HA : Hid (AllL wr w1.heap.size (w1.heap.size + 1) n v P) := hA
    have HS : Hid (Says3 n R P i i) := hS
    have HB : Hid (Below w.heap.size w wr) := hb
    have hbs := hb.size
    clear hA hS hb HA0 HS0 HB0 hu1
    by_cases hlt : i < m
    · rename World => wo
      obtain ⟨⟨x0, x1, x2⟩, hx⟩ : ∃ e, R[i]? = some e := ⟨_, List.getElem?_eq_getElem (by rw [← HM.out]; exact hlt)⟩
      have HX : Hid (R[i]? = some (x0, x1, x2)) := hx
      obtain ⟨g, hua, hcap⟩ : ∃ g, ua = some ⟨g, 0, none⟩ ∧ m ≤ uc := by
        rcases HG.out.row.2 with ⟨_, e⟩ | ⟨g, cap, cur, e, _, _, h4, _⟩
        · have := HM.out; omega
        · rw [HV.out] at e
          injection e with e1 e2 e3
          exact ⟨g, e1, by have := HM.out; omega⟩
      obtain ⟨r0, r1, r2⟩ := (HG.out.below HB.out).row.at (g := g) (by rw [HV.out, hua]; rfl) hx
      simp only at r0 r1 r2
      subst hua
      clear hx
      have hbW : Below wo.heap.size wo (wo.alloc (.cells #[.int .i64 x0, .int .i64 x1, .int .i64 x2] 55)) := (Below.refl _ _).alloc (Nat.le_refl _) _
      have HI0 : Hid (AllL (wo.alloc (.cells #[.int .i64 x0, .int .i64 x1, .int .i64 x2] 55)) w1.heap.size (w1.heap.size + 1) n v P ∧ (wo.alloc (.cells #[.int .i64 x0, .int .i64 x1, .int .i64 x2] 55)).heap[wo.heap.size]? = some (.cells #[.int .i64 x0, .int .i64 x1, .int .i64 x2] 55) ∧ Below w.heap.size w (wo.alloc (.cells #[.int .i64 x0, .int .i64 x1, .int .i64 x2] 55))) := ⟨HA.out.below hbW, heap_alloc_new wo _, HB.out.trans (hbW.mono hbs)⟩
      have hu2 : (wo.alloc (.cells #[.int .i64 x0, .int .i64 x1, .int .i64 x2] 55)).cell? ⟨q, 1, none⟩ = some (.slice (some ⟨g, 0, none⟩) m uc) := by have := (HG.out.below HI0.out.2.2).c1; rwa [HV.out] at this
      have hwo1 : w1.heap.size + 1 < wo.heap.size := lt_of_some HA.out.box
      have hb2 : (i : Int) ≤ (m : Int) := by omega
      have hb4 : (i : Int) ≤ (uc : Int) := by omega
      have hb5 : (m : Int) ≤ (uc : Int) := by omega
      have hcj : ¬ uc = i := by omega
      clear hbW HA
      go_wp2_with fail
      clear r0 r1 r2 hu2 hb2 hb4 hb5 hcj hcap
      obtain ⟨r, hr⟩ : ∃ r, m - i = r := ⟨_, rfl⟩
      have HR : Hid (i + r = m) := by show i + r = m; omega
      have hr30 : r ≤ 30 := by omega
      rw [hr]
      clear hr
      go_loopw [28] (fun s28 wq => ∃ (k : Nat) (v : Value) (P : List (Nat × List Nat)), k ≤ r ∧ s28 = .int .i64 k ∧ 0 < P.length ∧ P.length ≤ 1 + 30 * i + k ∧ AllL wq w1.heap.size (w1.heap.size + 1) n v P ∧ Says3 n R P i (i + k) ∧ wq.heap[wo.heap.size]? = some (.cells #[.int .i64 x0, .int .i64 x1, .int .i64 x2] 55) ∧ Below w.heap.size w wq) (fun s28 _ => r - (intOf s28).toNat)
      case atStart => exact ⟨0, v, P, Nat.zero_le _, rfl, hP0, hPl, HI0.out.1, HS.out, HI0.out.2.1, HI0.out.2.2⟩
      case round =>
        clear HI0 HS HB hP0 hPl hbs
        obtain ⟨k, v, P, hk, rfl, hP0, hPl, hA, hS, hcx, hb⟩ := hrel
        have HA : Hid (AllL wr w1.heap.size (w1.heap.size + 1) n v P) := hA
        have HS : Hid (Says3 n R P i (i + k)) := hS
        have HB : Hid (Below w.heap.size w wr ∧ wr.heap[wo.heap.size]? = some (.cells #[.int .i64 x0, .int .i64 x1, .int .i64 x2] 55)) := ⟨hb, hcx⟩
        have HPL : Hid (P.length ≤ 1 + 30 * i + k) := hPl
        have hbs := hb.size
        have hwor : wo.heap.size < wr.heap.size := lt_of_some hcx
        clear hA hS hb hcx
        by_cases hltk : k < r
        · as_aux_lemma =>
          obtain ⟨⟨y0, y1, y2⟩, hy⟩ : ∃ e, R[i + k]? = some e := ⟨_, List.getElem?_eq_getElem (by rw [← HM.out, ← HR.out]; omega)⟩
          have HY : Hid (R[i + k]? = some (y0, y1, y2)) := hy
          obtain ⟨r0, r1, r2⟩ := (HG.out.below HB.out.1).row.at (g := g) (by rw [HV.out]; rfl) hy
          simp only at r0 r1 r2
          have ea0 : (i + k) * 3 = i * 3 + k * 3 := by omega
          have s0 : wr.cell? ⟨g, i * 3 + k * 3, none⟩ = some (.int .i64 y0) := by rw [← ea0]; exact r0
          have s1 : wr.cell? ⟨g, i * 3 + k * 3 + 1, none⟩ = some (.int .i64 y1) := by rw [← ea0]; exact r1
          have s2 : wr.cell? ⟨g, i * 3 + k * 3 + 2, none⟩ = some (.int .i64 y2) := by rw [← ea0]; exact r2
          clear hy r0 r1 r2 ea0
          obtain ⟨W1, hW1⟩ : ∃ W1, W1 = wr.alloc (.cells #[.int .i64 y0, .int .i64 y1, .int .i64 y2] 55) := ⟨_, rfl⟩
          have hh : W1.heap[wr.heap.size]? = some (.cells #[.int .i64 y0, .int .i64 y1, .int .i64 y2] 55) := by rw [hW1]; exact heap_alloc_new wr _
          have hbW : Below wr.heap.size wr W1 := by rw [hW1]; exact (Below.refl _ _).alloc (Nat.le_refl _) _
          have hsz : W1.heap.size = wr.heap.size + 1 := by rw [hW1]; simp
          have HBX : Hid (W1.heap[wr.heap.size]? = some (.cells #[.int .i64 y0, .int .i64 y1, .int .i64 y2] 55) ∧ W1.heap[wo.heap.size]? = some (.cells #[.int .i64 x0, .int .i64 x1, .int .i64 x2] 55)) := ⟨hh, (hbW.block _ hwor).trans HB.out.2⟩
          have HBW : Hid (Below w.heap.size w W1) := HB.out.1.trans (hbW.mono hbs)
          have HAW : Hid (AllL W1 w1.heap.size (w1.heap.size + 1) n v P) := HA.out.below hbW
          have HW1 : Hid (wr.alloc (.cells #[.int .i64 y0, .int .i64 y1, .int .i64 y2] 55) = W1) := hW1.symm
          have HPK : Hid (∀ w', Below W1.heap.size W1 w' → w'.cell? ⟨wr.heap.size, 0, none⟩ = some (.int .i64 y0) ∧ w'.cell? ⟨wo.heap.size, 0, none⟩ = some (.int .i64 x0) ∧ w'.cell? ⟨w1.heap.size + 1, 0, none⟩ = some v ∧ AllL w' w1.heap.size (w1.heap.size + 1) n v P ∧ w'.heap[wo.heap.size]? = some (.cells #[.int .i64 x0, .int .i64 x1, .int .i64 x2] 55)) := fun w' hb => by
            have h1 : w'.heap[wr.heap.size]? = some (.cells #[.int .i64 y0, .int .i64 y1, .int .i64 y2] 55) := (hb.block _ (by omega)).trans HBX.out.1
            have h2 := (hb.block _ (lt_of_some HBX.out.2)).trans HBX.out.2
            exact ⟨by simp [World.cell?, h1], by simp [World.cell?, h2], cell_of_box (HAW.out.below hb).box, HAW.out.below hb, h2⟩
          have hlt1 : w1.heap.size + 1 < W1.heap.size := lt_of_some HAW.out.box
          have HWO : Hid (Calls Tryz.prog 46 #[.pointer (some ⟨q, 0, none⟩), .slice (some ⟨wr.heap.size + 1, 0, none⟩) 2 2, .slice none 0 0] (W1.alloc (.cells #[.int .i64 x0, .int .i64 y0] 3)).drew fun e w' => ∃ q' v', e = .returned (.pointer (some ⟨q', 0, none⟩)) ∧ G.GAt w' W1.heap.size 33 55 q' (n : Int) v' (rest2 R (x0, x1, x2) (y0, y1, y2)) ∧ Below W1.heap.size W1 w') := by
            have hb2 : Below W1.heap.size W1 (W1.alloc (.cells #[.int .i64 x0, .int .i64 y0] 3)).drew := ((Below.refl _ _).alloc (Nat.le_refl _) _).drew
            have hgW := (HG.out.below HBW.out).below hb2
            have h1i : G.Ints (W1.alloc (.cells #[.int .i64 x0, .int .i64 y0] 3)).drew (some ⟨wr.heap.size + 1, 0, none⟩) 2 (fun t => if t = 0 then x0 else y0) := by
              have := two_ids W1 x0 y0
              rw [hsz] at this
              exact this.below ((Below.refl _ _).drew)
            refine (G.rwithout_any (n : Int) B q u R _ none 2 0 2 0 (fun t => if t = 0 then x0 else y0) (fun _ => 0) _ hgW (by rw [← HM.out]; omega) h1i (no_id _) (by omega) (by omega)).mono ?_
            rintro e w' ⟨q', v', rfl, hg', hb'⟩
            rw [rest2_eq R (x0, x1, x2) (y0, y1, y2) _ _ (by simp) (by simp)] at hg'
            refine ⟨q', v', rfl, ⟨hg'.hp, hg'.row.mono ?_, hg'.ne⟩, hb2.trans (hb'.mono ?_)⟩
            · exact hb2.size
            · exact hb2.size
          have bA : Below W1.heap.size W1 W1.drew := (Below.refl _ _).drew
          have bB : Below W1.heap.size W1 (W1.alloc (.cells #[.int .i64 x0, .int .i64 y0] 3)) := (Below.refl _ _).alloc (Nat.le_refl _) _
          have bC : Below W1.heap.size W1 (W1.alloc (.cells #[.int .i64 x0, .int .i64 y0] 3)).drew := ((Below.refl _ _).alloc (Nat.le_refl _) _).drew
          obtain ⟨a1, a2, a3, _, _⟩ := HPK.out W1 (Below.refl _ _)
          obtain ⟨b1, b2, b3, _, _⟩ := HPK.out _ bA
          obtain ⟨c1, c2, c3, _, _⟩ := HPK.out _ bB
          obtain ⟨d1, d2, d3, _, _⟩ := HPK.out _ bC
          have hP1 : P.length ≤ 1000 := by omega
          clear hh hbW hW1 bA bB bC
          go_upto_region 8 with fail
          rw [HW1.out]
          clear s0 s1 s2
          go_region_law
            (first
              | (obtain ⟨v5, w5, hrun, hown5, hgrow5, _, _⟩ := run_append_own_at (P := Tryz.prog) (w3.alloc (.cells #[.slice (some ⟨b, 0, none⟩) n n] 39)) w1.heap.size 42 42 39 i0 (.slice none 0 0) 1 24 Tryz.underlying42 hi0 hz0 hz1 hz2 rfl (by decide) v P.length _ (HA3.out.own.alloc _) ⟨w3.heap.size, 0, none⟩ 1 1 [.slice (some ⟨b, 0, none⟩) n n] rfl (cell_one_new _ _ _) (one_slice _ _ _) (by unfold maxLen; omega) (by omega) (by simp; omega)
                 obtain ⟨g5, cap5, rfl⟩ := own_slice hown5 (by omega)
                 refine G.step_append_runK rfl (.tmp 32) (.tmp 41) 42 42 rfl v (.slice (some ⟨w3.heap.size, 0, none⟩) 1 1) (by first | rfl | (simp [Act.eval]; done) | (simp [Act.eval, Act.put]; done)) (by first | rfl | (simp [Act.eval]; done) | (simp [Act.eval, Act.put]; done)) hrun ?_
                 obtain ⟨hA5, c5, f5⟩ := HA3.out.push HR3.out.1 HR3.out.2.1 hown5 hgrow5)
              | (go_simp; go_at_call 46; refine Calls.mono HWO.out ?_; rintro e' w2 ⟨q', v', rfl, hg2, hb2⟩; obtain ⟨m1, m2, m3, m4, _⟩ := HPK.out w2 hb2; have HG2 : Hid (G.GAt w2 W1.heap.size 33 55 q' (n : Int) v' (rest2 R (x0, x1, x2) (y0, y1, y2)) ∧ Below W1.heap.size W1 w2) := ⟨hg2, hb2⟩; clear hg2 hb2 m4)
              | (go_simp; go_at_call 47; refine (labels_any n W1.heap.size q' v' (rest2 R (x0, x1, x2) (y0, y1, y2)) w2 HG2.out.1 (Nat.le_trans (rest2_len _ _ _) (by rw [← HM.out]; omega)) hn (inn_rest2 HIN.out _ _)).mono ?_; rintro e' w3 ⟨b, l, rfl, hr, hbb, hll', hlab, hb3⟩; have HW3 : Hid (Below W1.heap.size W1 w3) := HG2.out.2.trans (hb3.mono HG2.out.2.size); obtain ⟨m5, m6, m7, m8, _⟩ := HPK.out w3 HW3.out; have m9 : (w3.alloc (.cells #[.slice (some ⟨b, 0, none⟩) n n] 39)).cell? ⟨w1.heap.size + 1, 0, none⟩ = some v := (HPK.out _ (HW3.out.alloc HW3.out.size _)).2.2.1; have HA3 : Hid (AllL w3 w1.heap.size (w1.heap.size + 1) n v P) := m8; have HR3 : Hid (RowL w3 b l ∧ l.length = n ∧ (∀ u v, u < n → v < n → (l.getD u 0 = l.getD v 0 ↔ cnR (rest2 R (x0, x1, x2) (y0, y1, y2)) u v))) := ⟨hr, hll', hlab⟩; have hs3 := HW3.out.size; clear hr hbb hlab hb3 m8 hll'))
          all_goals
            have hF0 : (AllL (w5.setCell ⟨w1.heap.size + 1, 0, none⟩ (.slice (some ⟨g5, 0, none⟩) (P.length + 1) cap5)) w1.heap.size (w1.heap.size + 1) n (.slice (some ⟨g5, 0, none⟩) (P.length + 1) cap5) (P ++ [(b, l)]) ∧ (w5.setCell ⟨w1.heap.size + 1, 0, none⟩ (.slice (some ⟨g5, 0, none⟩) (P.length + 1) cap5)).heap[wo.heap.size]? = some (.cells #[.int .i64 x0, .int .i64 x1, .int .i64 x2] 55) ∧ Below w.heap.size w (w5.setCell ⟨w1.heap.size + 1, 0, none⟩ (.slice (some ⟨g5, 0, none⟩) (P.length + 1) cap5))) := by
              have hb3 : Below w.heap.size w w3 := HBW.out.trans (HW3.out.mono HBW.out.size)
              refine ⟨hA5, ?_, (hb3.grown ((World.grownBy_alloc w3 _ _).trans hgrow5) hb3.size (fun j hj => Nat.le_trans hws (HA3.out.own.lt j hj).1)).setCell (show w.heap.size ≤ w1.heap.size + 1 by omega) _⟩
              have hc3 := (HPK.out w3 HW3.out).2.2.2.2
              have hl3 := lt_of_some hc3
              have hne : v.ownBlock ≠ some wo.heap.size := fun e => by
                obtain ⟨cur, hcur⟩ := own_block HA3.out.own e
                rw [hc3] at hcur
                simp at hcur
              rw [Below.heap_setCell _ _ _ _ (show wo.heap.size ≠ w1.heap.size + 1 by omega), hgrow5.block wo.heap.size (by simp; omega) (fun e => hne e.symm), Below.heap_alloc _ _ _ hl3]
              exact hc3
            have HF : Hid _ := hF0
            clear hA5 hgrow5 hown5 hrun c5 f5 hF0
            go_wp2_with fail
            go_roundw
            case rel => exact ⟨k + 1, _, P ++ [(b, l)], by omega, by go_num, by simp, by have := HPL.out; rw [List.length_append, List.length_singleton]; omega, HF.out.1, says3_step HS.out HX.out (Nat.le_add_right _ _) HY.out HR3.out.2.2, HF.out.2.1, HF.out.2.2⟩
            case measure => simp [intOf]; omega
        · as_aux_lemma =>
          have HF : Hid (Says3 n R P (i + 1) (i + 1)) := by
            have h1 := HS.out
            have e1 : i + k = m := by have := HR.out; omega
            rw [e1] at h1
            exact says3_next HM.out.symm h1
          clear HS
          go_wp2_with fail
          go_roundw
          case rel => exact ⟨i + 1, v, P, by omega, by go_num, hP0, by omega, HA.out, HF.out, HB.out.1⟩
          case measure => simp [intOf]; omega
    · as_aux_lemma =>
      have hie : i = m := by omega
      have hgr := HG.out.below HB.out
      have hc := hgr.c0
      have HAL : Hid (Alike 76 wr n (w1.heap.size + 1) L) := by
        intro W' hW' x y s hx hy hs
        refine thrice1 x y (w1.heap.size + 1) n w1.heap.size v P s W' (HA.out.below hW') hP0 (by omega) hx hy ?_
        have h1 := HS.out
        rw [hie] at h1
        rw [says3_end HM.out.symm h1 hx hy, ← HLL.out x y hx hy, ← hs, beq_iff_eq]
        omega
      clear hgr
      go_wp2_with fail
      refine (parts_any76 n (w1.heap.size + 1) L wr HAL.out hg hn).mono ?_
      rintro e w2 ⟨t, r, c, rfl, hP, hb2⟩
      have HF : Hid (RowsPost w (grps L n) (.returned t) w2) := rowsPost_of hP hb2 HB.out
      clear hP hb2
      go_wp2
      go_ret
      exact HF.out

end Go.Proofs.YtigodbamphejmaaGreatDoor.S
