/- The document's own graph: Labels. -/
import Derived.Test.YtpkdpddillebfaaYe
import Derived.Test.YtpkdpddillebfaaBM
import Derived.Test.YtpkdpddillebfaaSW
import Derived.Test.YtpkdpddillebfaaOa
namespace Go.Proofs.Ytpkdpddillebfaa.S

namespace Conn

variable {α : Type} {S S' : α → α → Prop} {x y z : α}

end Conn

section

variable {α ι : Type} (a b : ι → α)

variable {a b} {T T' : ι → Prop} {x y z u v : α} {e f : ι}

end

end Go.Proofs.Ytpkdpddillebfaa.S

namespace Go.Proofs.Ytpkdpddillebfaa.S

end Go.Proofs.Ytpkdpddillebfaa.S

namespace Go.Proofs.Ytpkdpddillebfaa.S

variable {n : Nat} {R : List (Int × Int × Int)} {W T : List Nat} {B : List (Int × Int × Int)}

end Go.Proofs.Ytpkdpddillebfaa.S

namespace Go.Proofs.Ytpkdpddillebfaa.S

/-- Each label is one that its node is together with. -/
def Lab (n : Nat) (R : List (Int × Int × Int)) (l : List Nat) : Prop := l.length = n ∧ ∀ x, x < n → l.getD x 0 ≤ x ∧ cnR R x (l.getD x 0)

theorem lab_start (n : Nat) (R : List (Int × Int × Int)) : Lab n R (List.range n) := ⟨by simp, fun x hx => by simp [hx, cn_refl]⟩

/-- A label is told. -/
def told (l : List Nat) (u v : Nat) : List Nat := (l.set u (min (l.getD u 0) (l.getD v 0))).set v (min (l.getD u 0) (l.getD v 0))

theorem told_length (l : List Nat) (u v : Nat) : (told l u v).length = l.length := by simp [told]

theorem told_at {l : List Nat} {u v x : Nat} (hx : x < l.length) : (told l u v).getD x 0 = if x = u ∨ x = v then min (l.getD u 0) (l.getD v 0) else l.getD x 0 := by
  unfold told
  by_cases h1 : v = x
  · subst h1; simp [hx]
  · by_cases h2 : u = x
    · subst h2; simp [hx, h1]
    · have : ¬ (x = u ∨ x = v) := by omega
      simp [hx, h1, h2, this]

theorem lab_step {n : Nat} {R : List (Int × Int × Int)} {l : List Nat} (h : Lab n R l) {e : Int × Int × Int} (he : e ∈ R) (ha : ea e < n) (hb : eb e < n) : Lab n R (told l (ea e) (eb e)) := by
  refine ⟨by rw [told_length]; exact h.1, fun x hx => ?_⟩
  rw [told_at (by rw [h.1]; exact hx)]
  have hA := h.2 _ ha
  have hB := h.2 _ hb
  have hc : cnR R (ea e) (eb e) := cn_edge he
  have key : ∀ {x}, x = ea e ∨ x = eb e → cnR R x (min (l.getD (ea e) 0) (l.getD (eb e) 0)) := by
    rintro x (rfl | rfl)
    · rcases Nat.le_total (l.getD (ea e) 0) (l.getD (eb e) 0) with k | k
      · rw [Nat.min_eq_left k]; exact hA.2
      · rw [Nat.min_eq_right k]; exact cn_trans hc hB.2
    · rcases Nat.le_total (l.getD (ea e) 0) (l.getD (eb e) 0) with k | k
      · rw [Nat.min_eq_left k]; exact cn_trans (cn_symm hc) hA.2
      · rw [Nat.min_eq_right k]; exact hB.2
  split
  · next hk =>
    refine ⟨?_, key hk⟩
    rcases hk with rfl | rfl
    · have := hA.1; omega
    · have := hB.1; omega
  · exact h.2 x hx

theorem sum_set : ∀ (l : List Nat) (u k : Nat), u < l.length → (l.set u k).sum + l.getD u 0 = l.sum + k
  | [], u, k, h => by simp at h
  | x :: l, 0, k, _ => by simp; omega
  | x :: l, u + 1, k, h => by
    have := sum_set l u k (by simpa using h)
    simp at this ⊢
    omega

theorem told_sum {l : List Nat} {u v : Nat} (hu : u < l.length) (hv : v < l.length) (hne : l.getD u 0 ≠ l.getD v 0) : (told l u v).sum < l.sum := by
  unfold told
  have huv : u ≠ v := fun k => hne (by rw [k])
  have h1 := sum_set l u (min (l.getD u 0) (l.getD v 0)) hu
  have h2 := sum_set (l.set u (min (l.getD u 0) (l.getD v 0))) v (min (l.getD u 0) (l.getD v 0)) (by simpa using hv)
  have h3 : (l.set u (min (l.getD u 0) (l.getD v 0))).getD v 0 = l.getD v 0 := by simp [huv]
  rw [h3] at h2
  omega

theorem lab_done {n : Nat} {R : List (Int × Int × Int)} {l : List Nat} (h : Lab n R l) (hin : ∀ e ∈ R, ea e < n ∧ eb e < n) (hd : ∀ e ∈ R, l.getD (ea e) 0 = l.getD (eb e) 0) {u v : Nat} (hu : u < n) (hv : v < n) : l.getD u 0 = l.getD v 0 ↔ cnR R u v := by
  constructor
  · intro k
    have h1 := (h.2 u hu).2
    have h2 := (h.2 v hv).2
    rw [k] at h1
    exact cn_trans h1 (cn_symm h2)
  · intro k
    have : Lk n l u v := Conn.least (P := Lk n l) k (fun _ => Lk.refl _) (fun _ _ h => h.symm) (fun _ _ _ h k => h.trans k) (by
      rintro _ _ ⟨e, he, rfl, rfl⟩
      exact .inr ⟨(hin e he).1, (hin e he).2, hd e he⟩)
    exact (Lk.iff hu hv).1 this

end Go.Proofs.Ytpkdpddillebfaa.S
namespace Go.Proofs.Ytpkdpddillebfaa.S

open Go.RowKit Go.WideMaps Go.Maps

/-- A row of labels, a block of its own. -/
def RowL (w : World) (b : Nat) (l : List Nat) : Prop := w.heap[b]? = some (.cells (vals l) 3)

theorem RowL.cell {w : World} {b : Nat} {l : List Nat} (h : RowL w b l) (i : Nat) (hi : i < l.length) : w.cell? ⟨b, i, none⟩ = some (.int .i64 ((l.getD i 0 : Nat) : Int)) := by
  unfold RowL at h
  simp [World.cell?, h, vals, hi]

theorem RowL.frozen {w : World} {b : Nat} {l : List Nat} (h : RowL w b l) (i : Nat) : w.frozen? ⟨b, i, none⟩ = false := by
  unfold RowL at h
  simp [World.frozen?, h]

theorem RowL.lt {w : World} {b : Nat} {l : List Nat} (h : RowL w b l) : b < w.heap.size := lt_of_some h

theorem RowL.set {w : World} {b : Nat} {l : List Nat} (h : RowL w b l) (k v : Nat) : RowL (w.setCell ⟨b, k, none⟩ (.int .i64 (v : Int))) b (l.set k v) := by
  unfold RowL at h ⊢
  rw [← vals_set]
  simp [World.setCell, Array.getElem?_modify, h]

theorem RowL.below {w w' : World} {b B : Nat} {l : List Nat} (h : RowL w b l) (hb : Below B w w') (hl : b < B) : RowL w' b l := (hb.block b hl).trans h

theorem RowL.drewN {w : World} {b : Nat} {l : List Nat} (h : RowL w b l) (n : Nat) : RowL (w.drewN n) b l := h

theorem RowL.alloc {w : World} {b : Nat} {l : List Nat} (h : RowL w b l) (o : Obj) : RowL (w.alloc o) b l := (Below.heap_alloc w o b h.lt).trans h

theorem rowL_made (w : World) (n : Nat) : RowL (w.alloc (.cells (madeCells #[.int .i64 0] n) 3)) w.heap.size (fill n 0) := by
  rw [made_vals]; exact heap_alloc_new w _

theorem told_comm {l : List Nat} {u v : Nat} : (l.set v (min (l.getD u 0) (l.getD v 0))).set u (min (l.getD u 0) (l.getD v 0)) = told l u v := by
  unfold told
  by_cases h : u = v
  · subst h; rfl
  · rw [List.set_comm _ _ (Ne.symm h)]

theorem sum_range (k : Nat) : (List.range k).sum ≤ k * k := by
  induction k with
  | zero => simp
  | succ k ih =>
    rw [List.range_succ, List.sum_append]
    simp only [List.sum_cons, List.sum_nil]
    have : (k + 1) * (k + 1) = k * k + 2 * k + 1 := by rw [Nat.add_mul, Nat.mul_add]; omega
    omega

/-- What Labels hands back. -/
def LabPost (w : World) (n : Nat) (R : List (Int × Int × Int)) (e : Ending) (w' : World) : Prop :=
  ∃ b l, e = .returned (.slice (some ⟨b, 0, none⟩) n n) ∧ RowL w' b l ∧ w.heap.size ≤ b ∧ l.length = n ∧ (∀ u v, u < n → v < n → (l.getD u 0 = l.getD v 0 ↔ cnR R u v)) ∧ Below w.heap.size w w'

/-- The ends of the edges are nodes. -/
def Inn (n : Nat) (R : List (Int × Int × Int)) : Prop := ∀ e ∈ R, ea e < n ∧ eb e < n ∧ e.2.1 = (ea e : Int) ∧ e.2.2 = (eb e : Int)

set_option maxHeartbeats 4000000 in
set_option maxRecDepth 100000 in
theorem labels_any (n B q : Nat) (u : Value) (R : List (Int × Int × Int)) (w : World) (h : G.GAt w B 110 50 q (n : Int) u R) (hl : R.length ≤ 120) (hn : n ≤ 40) (hin : Inn n R) :
    Calls Try.prog 64 #[.pointer (some ⟨q, 0, none⟩)] w (LabPost w n R) := by
  have hc := h.c0
  have hu1 := h.c1
  have hqlt := h.plt
  have HG : Hid (G.GAt w B 110 50 q (n : Int) u R) := h
  have HIN : Hid (Inn n R) := hin
  obtain ⟨m, hm⟩ : ∃ m, m = R.length := ⟨_, rfl⟩
  have HM : Hid (m = R.length) := hm
  obtain ⟨ua, uc, hv⟩ := h.row.slice_len
  rw [← hm] at hv hl
  have HV : Hid (u = .slice ua m uc) := hv
  rw [hv] at hu1
  have hmk := fun W => run_make_row' (P := Try.prog) 37 3 (.int .i64 0) 8 Try.underlying37 Try.info3 rfl .i64 .i64 n (by omega) (by omega) W
  clear h hin hm hv
  go_enter Try.func64, Try.ntmps64
  go_wp2_with fail
  go_loopw [4, 16] (fun _ s16 wq => ∃ k : Nat, k ≤ n ∧ s16 = .int .i64 k ∧ RowL wq w.heap.size (fill n k) ∧ Below w.heap.size w wq) (fun _ s16 _ => n - (intOf s16).toNat)
  case atStart => exact ⟨0, Nat.zero_le _, rfl, rowL_made w n, (Below.refl _ _).alloc (Nat.le_refl _) _⟩
  case round =>
    obtain ⟨k, hk, rfl, hr, hb⟩ := hrel
    clear hmk
    by_cases hlt : k < n
    · as_aux_lemma =>
      have hc1 := hr.cell k (by rw [fill_length]; exact hlt)
      have hf := hr.frozen k
      have HR : Hid (RowL (wr.setCell ⟨w.heap.size, k, none⟩ (.int .i64 (k : Int))) w.heap.size (fill n (k + 1))) := by
        have := hr.set k k
        rw [fill_succ] at this; exact this
      have HB : Hid (Below w.heap.size w (wr.setCell ⟨w.heap.size, k, none⟩ (.int .i64 (k : Int)))) := hb.setCell (Nat.le_refl _) _
      clear hr hb
      generalize (fill n k).getD k 0 = z at hc1
      go_wp2
      go_roundw
      case rel => exact ⟨k + 1, by omega, by go_num, HR.out, HB.out⟩
      case measure => simp [intOf]; omega
    · have hke : k = n := by omega
      subst hke
      rw [fill_all] at hr
      have HR0 : Hid (RowL wr w.heap.size (List.range k)) := hr
      have HB0 : Hid (Below w.heap.size w wr) := hb
      clear hr hb
      go_wp2_with fail
      go_loopg [5] 10000 (fun r s5 wq => ∃ l, Lab k R l ∧ RowL wq w.heap.size l ∧ Below w.heap.size w wq ∧ ((s5 = .bool true ∧ l.sum < r) ∨ (s5 = .bool false ∧ ∀ e ∈ R, l.getD (ea e) 0 = l.getD (eb e) 0)))
      case atStart =>
        refine ⟨List.range k, lab_start k R, HR0.out, HB0.out, .inl ⟨rfl, ?_⟩⟩
        have h1 := sum_range k
        have h2 : k * k ≤ 40 * 40 := Nat.mul_le_mul hn hn
        omega
      case round =>
        obtain ⟨l, hlab, hr, hb, hs⟩ := hrel
        rcases hs with ⟨rfl, hsum⟩ | ⟨rfl, hall⟩
        · have hg := HG.out.below hb
          have HL : Hid (Lab k R l ∧ RowL wr w.heap.size l ∧ Below w.heap.size w wr) := ⟨hlab, hr, hb⟩
          have hu2 : wr.cell? ⟨q, 1, none⟩ = some (.slice ua m uc) := by have := hg.c1; rwa [HV.out] at this
          clear hlab hr hb hg hc hu1 HR0 HB0
          go_wp2_with fail
          go_loopw [5, 30] (fun s5 s30 wq => ∃ (j : Nat) (l' : List Nat), j ≤ m ∧ s30 = .int .i64 j ∧ Lab k R l' ∧ RowL wq w.heap.size l' ∧ Below w.heap.size w wq ∧ ((s5 = .bool false ∧ l' = l ∧ ∀ i e, i < j → R[i]? = some e → l.getD (ea e) 0 = l.getD (eb e) 0) ∨ (s5 = .bool true ∧ l'.sum < l.sum))) (fun _ s30 _ => m - (intOf s30).toNat)
          case atStart => exact ⟨0, l, Nat.zero_le _, rfl, HL.out.1, HL.out.2.1, HL.out.2.2, .inl ⟨rfl, rfl, fun i e hi => by omega⟩⟩
          case round =>
            obtain ⟨j, l', hj, rfl, hlab', hr', hb', hs'⟩ := hrel
            by_cases hlt : j < m
            · obtain ⟨⟨x0, x1, x2⟩, hx⟩ : ∃ e, R[j]? = some e := ⟨_, List.getElem?_eq_getElem (by rw [← HM.out]; exact hlt)⟩
              obtain ⟨hA, hE, h1, h2⟩ := HIN.out _ (List.mem_of_getElem? hx)
              obtain ⟨g, hua⟩ : ∃ g, ua = some ⟨g, 0, none⟩ := by
                rcases HG.out.row.shape with ⟨_, e⟩ | ⟨g, cap, e, _⟩
                · rw [e] at hx; simp at hx
                · rw [HV.out] at e
                  injection e with e1 _ _
                  exact ⟨g, e1⟩
              obtain ⟨r0, r1, r2⟩ := (HG.out.below hb').row.at (g := g) (by rw [HV.out, hua]; rfl) hx
              have HX : Hid (R[j]? = some (x0, x1, x2)) := hx
              have HT : Hid (Lab k R (told l' (ea (x0, x1, x2)) (eb (x0, x1, x2)))) := lab_step hlab' (List.mem_of_getElem? hx) hA hE
              have HS' : Hid (u5 = .bool false ∧ l' = l ∧ (∀ i e, i < j → R[i]? = some e → l.getD (ea e) 0 = l.getD (eb e) 0) ∨ u5 = .bool true ∧ l'.sum < l.sum) := hs'
              simp only at h1 h2 r0 r1 r2
              generalize hAe : ea (x0, x1, x2) = A at *
              generalize hEe : eb (x0, x1, x2) = E at *
              have HAE : Hid (ea (x0, x1, x2) = A ∧ eb (x0, x1, x2) = E) := ⟨hAe, hEe⟩
              clear hAe hEe hx hs'
              subst h1 h2
              have hll := hlab'.1
              have cA := hr'.cell A (by omega)
              have cE := hr'.cell E (by omega)
              have HR : Hid (Lab k R l' ∧ RowL wr w.heap.size l' ∧ Below w.heap.size w wr) := ⟨hlab', hr', hb'⟩
              have hbs := hb'.size
              clear hlab' hr' hb' HL
              obtain ⟨X, hX⟩ : ∃ X, l'.getD A 0 = X := ⟨_, rfl⟩
              obtain ⟨Y, hY⟩ : ∃ Y, l'.getD E 0 = Y := ⟨_, rfl⟩
              rw [hX] at cA
              rw [hY] at cE
              have HXY : Hid (l'.getD A 0 = X ∧ l'.getD E 0 = Y) := ⟨hX, hY⟩
              clear hX hY
              subst hua
              -- the edge's box
              obtain ⟨W1, hW1⟩ : ∃ W1, W1 = wr.alloc (.cells #[.int .i64 x0, .int .i64 (A : Int), .int .i64 (E : Int)] 50) := ⟨_, rfl⟩
              have hh : W1.heap[wr.heap.size]? = some (.cells #[.int .i64 x0, .int .i64 (A : Int), .int .i64 (E : Int)] 50) := by rw [hW1]; exact heap_alloc_new wr _
              have p1 : W1.cell? ⟨wr.heap.size, 1, none⟩ = some (.int .i64 (A : Int)) := by simp [World.cell?, hh]
              have p2 : W1.cell? ⟨wr.heap.size, 2, none⟩ = some (.int .i64 (E : Int)) := by simp [World.cell?, hh]
              have HR1 : Hid (RowL W1 w.heap.size l' ∧ Below w.heap.size w W1) := ⟨by rw [hW1]; exact HR.out.2.1.alloc _, by rw [hW1]; exact HR.out.2.2.alloc hbs _⟩
              have hne : w.heap.size ≠ wr.heap.size := Nat.ne_of_lt HR.out.2.1.lt
              have HW1 : Hid (wr.alloc (.cells #[.int .i64 x0, .int .i64 (A : Int), .int .i64 (E : Int)] 50) = W1) := hW1.symm
              have qA : W1.cell? ⟨w.heap.size, A, none⟩ = some (.int .i64 (X : Int)) := by
                have := HR1.out.1.cell A (by omega); rwa [HXY.out.1] at this
              have qE : W1.cell? ⟨w.heap.size, E, none⟩ = some (.int .i64 (Y : Int)) := by
                have := HR1.out.1.cell E (by omega); rwa [HXY.out.2] at this
              clear hh hW1 cA cE
              rcases Nat.lt_trichotomy X Y with hxy | hxy | hxy
              · as_aux_lemma =>
                have h1 : (X : Int) < (Y : Int) := by omega
                have hq : ((Y : Int) == (X : Int)) = false := beq_eq_false_iff_ne.2 (by omega)
                have HTD : Hid ((l'.set A X).set E X = told l' A E ∧ (told l' A E).sum < l'.sum) := by
                  refine ⟨?_, told_sum (by omega) (by omega) (by rw [HXY.out.1, HXY.out.2]; omega)⟩
                  unfold told
                  rw [HXY.out.1, HXY.out.2, show min X Y = X by omega]
                have HYE : Hid (l'.getD E 0 = Y) := HXY.out.2
                have HNE : Hid (A ≠ E) := fun e => by have h1 := HXY.out.1; have h2 := HXY.out.2; rw [e] at h1; omega
                have HSM : Hid (l'.sum ≤ l.sum) := by
                  rcases HS'.out with ⟨_, rfl, _⟩ | ⟨_, h⟩
                  · exact Nat.le_refl _
                  · exact Nat.le_of_lt h
                clear HS' HX HAE HXY
                go_wp2_with fail
                rw [HW1.out]
                go_quiet (fail)
                have HV : Hid (RowL (W1.drewN nq) w.heap.size l' ∧ Below w.heap.size w (W1.drewN nq)) := ⟨HR1.out.1.drewN nq, below_drewN HR1.out.2 nq⟩
                have s1 : (W1.drewN nq).cell? ⟨wr.heap.size, 1, none⟩ = some (.int .i64 (A : Int)) := p1
                have s2 : (W1.drewN nq).cell? ⟨wr.heap.size, 2, none⟩ = some (.int .i64 (E : Int)) := p2
                have s3 : (W1.drewN nq).cell? ⟨w.heap.size, A, none⟩ = some (.int .i64 (X : Int)) := qA
                have s4 : (W1.drewN nq).cell? ⟨w.heap.size, E, none⟩ = some (.int .i64 (Y : Int)) := qE
                clear p1 p2 qA qE
                generalize W1.drewN nq = V at *
                have hmin : min (X : Int) (Y : Int) = (X : Int) := by omega
                simp only [hmin]
                clear hmin
                go_upto_region 15 with fail
                have hrd : RowL V.drew w.heap.size l' := HV.out.1
                have t1 : V.drew.cell? ⟨wr.heap.size, 1, none⟩ = some (.int .i64 (A : Int)) := s1
                have t2 : V.drew.cell? ⟨wr.heap.size, 2, none⟩ = some (.int .i64 (E : Int)) := s2
                have t3 : V.drew.cell? ⟨w.heap.size, A, none⟩ = some (.int .i64 (X : Int)) := s3
                have f3 := hrd.frozen A
                have hrs := hrd.set A X
                have t4 : V.drew.cell? ⟨w.heap.size, E, none⟩ = some (.int .i64 (Y : Int)) := s4
                have f4 := hrd.frozen E
                have f5 := hrs.frozen E
                have t5 := hrs.cell E (by simp; omega)
                rw [show (l'.set A X).getD E 0 = Y by rw [← HYE.out]; simp [HNE.out]] at t5
                have t6 : (V.setCell ⟨w.heap.size, A, none⟩ (.int .i64 (X : Int))).cell? ⟨w.heap.size, E, none⟩ = some (.int .i64 (Y : Int)) := t5
                have f6 : (V.setCell ⟨w.heap.size, A, none⟩ (.int .i64 (X : Int))).frozen? ⟨w.heap.size, E, none⟩ = false := f5
                have t7 : (V.setCell ⟨w.heap.size, A, none⟩ (.int .i64 (X : Int))).drew.cell? ⟨w.heap.size, E, none⟩ = some (.int .i64 (Y : Int)) := t5
                have f7 : (V.setCell ⟨w.heap.size, A, none⟩ (.int .i64 (X : Int))).drew.frozen? ⟨w.heap.size, E, none⟩ = false := f5
                have hAE : ¬ A = E := HNE.out
                have hEA : ¬ E = A := fun e => HNE.out e.symm
                have HRT : Hid (RowL ((V.drew.setCell ⟨w.heap.size, A, none⟩ (.int .i64 (X : Int))).setCell ⟨w.heap.size, E, none⟩ (.int .i64 (X : Int))) w.heap.size (told l' A E) ∧ Below w.heap.size w ((V.drew.setCell ⟨w.heap.size, A, none⟩ (.int .i64 (X : Int))).setCell ⟨w.heap.size, E, none⟩ (.int .i64 (X : Int)))) := by
                  refine ⟨?_, (((HV.out.2.drew).setCell (Nat.le_refl _) _).setCell (Nat.le_refl _) _)⟩
                  rw [← HTD.out.1]; exact hrs.set E X
                clear hrd hrs hq h1
                go_region_held (fun w' => w'.cell? ⟨wr.heap.size, 1, none⟩ = some (.int .i64 (A : Int)) ∧ w'.cell? ⟨wr.heap.size, 2, none⟩ = some (.int .i64 (E : Int))) (go_keep) (fail)
                all_goals
                  go_wp2_with fail
                  go_roundw
                  case rel => exact ⟨j + 1, told l' A E, by omega, by go_num, HT.out, HRT.out.1, HRT.out.2, .inr ⟨rfl, by have := HTD.out.2; have := HSM.out; omega⟩⟩
                  case measure => simp [intOf]; omega
              · as_aux_lemma =>
                subst hxy
                have HF : Hid (u5 = .bool false ∧ l' = l ∧ (∀ i e, i < j + 1 → R[i]? = some e → l.getD (ea e) 0 = l.getD (eb e) 0) ∨ u5 = .bool true ∧ l'.sum < l.sum) := by
                  rcases HS'.out with ⟨h1, rfl, h3⟩ | h1
                  · refine .inl ⟨h1, rfl, fun i e hi he => ?_⟩
                    by_cases hij : i = j
                    · subst hij
                      have : e = (x0, (A : Int), (E : Int)) := by rw [HX.out] at he; injection he with he; exact he.symm
                      rw [this, HAE.out.1, HAE.out.2, HXY.out.1, HXY.out.2]
                    · exact h3 i e (by omega) he
                  · exact .inr h1
                clear HT HS' HX HAE HXY
                go_wp2_with fail
                rw [HW1.out]
                go_quiet (fail)
                have HV : Hid (RowL (W1.drewN nq) w.heap.size l' ∧ Below w.heap.size w (W1.drewN nq)) := ⟨HR1.out.1.drewN nq, below_drewN HR1.out.2 nq⟩
                have s1 : (W1.drewN nq).cell? ⟨wr.heap.size, 1, none⟩ = some (.int .i64 (A : Int)) := p1
                have s2 : (W1.drewN nq).cell? ⟨wr.heap.size, 2, none⟩ = some (.int .i64 (E : Int)) := p2
                have s3 : (W1.drewN nq).cell? ⟨w.heap.size, A, none⟩ = some (.int .i64 (X : Int)) := qA
                have s4 : (W1.drewN nq).cell? ⟨w.heap.size, E, none⟩ = some (.int .i64 (X : Int)) := qE
                clear p1 p2 qA qE
                generalize W1.drewN nq = V at *
                go_wp2_with fail
                go_roundw
                case rel => exact ⟨j + 1, l', by omega, by go_num, HR.out.1, HV.out.1, HV.out.2, HF.out⟩
                case measure => simp [intOf]; omega
              · as_aux_lemma =>
                have h1 : (Y : Int) < (X : Int) := by omega
                have hq : ((X : Int) == (Y : Int)) = false := beq_eq_false_iff_ne.2 (by omega)
                have HTD : Hid ((l'.set A Y).set E Y = told l' A E ∧ (told l' A E).sum < l'.sum) := by
                  refine ⟨?_, told_sum (by omega) (by omega) (by rw [HXY.out.1, HXY.out.2]; omega)⟩
                  unfold told
                  rw [HXY.out.1, HXY.out.2, show min X Y = Y by omega]
                have HYE : Hid (l'.getD E 0 = Y) := HXY.out.2
                have HNE : Hid (A ≠ E) := fun e => by have h1 := HXY.out.1; have h2 := HXY.out.2; rw [e] at h1; omega
                have HSM : Hid (l'.sum ≤ l.sum) := by
                  rcases HS'.out with ⟨_, rfl, _⟩ | ⟨_, h⟩
                  · exact Nat.le_refl _
                  · exact Nat.le_of_lt h
                clear HS' HX HAE HXY
                go_wp2_with fail
                rw [HW1.out]
                go_quiet (fail)
                have HV : Hid (RowL (W1.drewN nq) w.heap.size l' ∧ Below w.heap.size w (W1.drewN nq)) := ⟨HR1.out.1.drewN nq, below_drewN HR1.out.2 nq⟩
                have s1 : (W1.drewN nq).cell? ⟨wr.heap.size, 1, none⟩ = some (.int .i64 (A : Int)) := p1
                have s2 : (W1.drewN nq).cell? ⟨wr.heap.size, 2, none⟩ = some (.int .i64 (E : Int)) := p2
                have s3 : (W1.drewN nq).cell? ⟨w.heap.size, A, none⟩ = some (.int .i64 (X : Int)) := qA
                have s4 : (W1.drewN nq).cell? ⟨w.heap.size, E, none⟩ = some (.int .i64 (Y : Int)) := qE
                clear p1 p2 qA qE
                generalize W1.drewN nq = V at *
                have hmin : min (X : Int) (Y : Int) = (Y : Int) := by omega
                simp only [hmin]
                clear hmin
                go_upto_region 15 with fail
                have hrd : RowL V.drew w.heap.size l' := HV.out.1
                have t1 : V.drew.cell? ⟨wr.heap.size, 1, none⟩ = some (.int .i64 (A : Int)) := s1
                have t2 : V.drew.cell? ⟨wr.heap.size, 2, none⟩ = some (.int .i64 (E : Int)) := s2
                have t3 : V.drew.cell? ⟨w.heap.size, A, none⟩ = some (.int .i64 (X : Int)) := s3
                have f3 := hrd.frozen A
                have hrs := hrd.set A Y
                have t4 : V.drew.cell? ⟨w.heap.size, E, none⟩ = some (.int .i64 (Y : Int)) := s4
                have f4 := hrd.frozen E
                have f5 := hrs.frozen E
                have t5 := hrs.cell E (by simp; omega)
                rw [show (l'.set A Y).getD E 0 = Y by rw [← HYE.out]; simp [HNE.out]] at t5
                have t6 : (V.setCell ⟨w.heap.size, A, none⟩ (.int .i64 (Y : Int))).cell? ⟨w.heap.size, E, none⟩ = some (.int .i64 (Y : Int)) := t5
                have f6 : (V.setCell ⟨w.heap.size, A, none⟩ (.int .i64 (Y : Int))).frozen? ⟨w.heap.size, E, none⟩ = false := f5
                have t7 : (V.setCell ⟨w.heap.size, A, none⟩ (.int .i64 (Y : Int))).drew.cell? ⟨w.heap.size, E, none⟩ = some (.int .i64 (Y : Int)) := t5
                have f7 : (V.setCell ⟨w.heap.size, A, none⟩ (.int .i64 (Y : Int))).drew.frozen? ⟨w.heap.size, E, none⟩ = false := f5
                have hAE : ¬ A = E := HNE.out
                have hEA : ¬ E = A := fun e => HNE.out e.symm
                have HRT : Hid (RowL ((V.drew.setCell ⟨w.heap.size, A, none⟩ (.int .i64 (Y : Int))).setCell ⟨w.heap.size, E, none⟩ (.int .i64 (Y : Int))) w.heap.size (told l' A E) ∧ Below w.heap.size w ((V.drew.setCell ⟨w.heap.size, A, none⟩ (.int .i64 (Y : Int))).setCell ⟨w.heap.size, E, none⟩ (.int .i64 (Y : Int)))) := by
                  refine ⟨?_, (((HV.out.2.drew).setCell (Nat.le_refl _) _).setCell (Nat.le_refl _) _)⟩
                  rw [← HTD.out.1]; exact hrs.set E Y
                clear hrd hrs hq h1
                go_region_held (fun w' => w'.cell? ⟨wr.heap.size, 1, none⟩ = some (.int .i64 (A : Int)) ∧ w'.cell? ⟨wr.heap.size, 2, none⟩ = some (.int .i64 (E : Int))) (go_keep) (fail)
                all_goals
                  go_wp2_with fail
                  go_roundw
                  case rel => exact ⟨j + 1, told l' A E, by omega, by go_num, HT.out, HRT.out.1, HRT.out.2, .inr ⟨rfl, by have := HTD.out.2; have := HSM.out; omega⟩⟩
                  case measure => simp [intOf]; omega
            · have hje : j = m := by omega
              subst hje
              rcases hs' with ⟨rfl, rfl, hall⟩ | ⟨rfl, hsum'⟩
              · as_aux_lemma =>
                have HF : Hid (Lab k R l' ∧ RowL wr w.heap.size l' ∧ Below w.heap.size w wr ∧ ∀ e ∈ R, l'.getD (ea e) 0 = l'.getD (eb e) 0) := ⟨hlab', hr', hb', fun e he => by
                  obtain ⟨i, hi, hie⟩ := List.mem_iff_getElem.1 he
                  exact hall i e (by rw [HM.out]; exact hi) (by rw [List.getElem?_eq_getElem hi, hie])⟩
                clear hlab' hr' hb' hall HL
                go_wp2_with fail
                go_roundg (gk - 1)
                case measure => omega
                case rel => exact ⟨l', HF.out.1, HF.out.2.1, HF.out.2.2.1, .inr ⟨rfl, HF.out.2.2.2⟩⟩
              · as_aux_lemma =>
                have HF : Hid (Lab k R l' ∧ RowL wr w.heap.size l' ∧ Below w.heap.size w wr) := ⟨hlab', hr', hb'⟩
                clear hlab' hr' hb' HL
                go_wp2_with fail
                go_roundg (l'.sum + 1)
                case measure => omega
                case rel => exact ⟨l', HF.out.1, HF.out.2.1, HF.out.2.2, .inl ⟨rfl, by omega⟩⟩
        · as_aux_lemma =>
          have HF : Hid (LabPost w k R (.returned (.slice (some ⟨w.heap.size, 0, none⟩) k k)) wr) :=
            ⟨_, l, rfl, hr, Nat.le_refl _, hlab.1, fun u v hu hv => lab_done hlab (fun e he => ⟨(HIN.out e he).1, (HIN.out e he).2.1⟩) hall hu hv, hb⟩
          clear hr hb hlab hall
          go_wp2_with fail
          go_ret
          exact HF.out

end Go.Proofs.Ytpkdpddillebfaa.S
