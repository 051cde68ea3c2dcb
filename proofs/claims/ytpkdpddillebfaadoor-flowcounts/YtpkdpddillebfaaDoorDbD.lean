/- The document's rooms in memory; push. -/
import Derived.Test.YtpkdpddillebfaaDoorDa
import Derived.Test.YtpkdpddillebfaaDoorOz
namespace Go.Proofs.YtpkdpddillebfaaDoor.S
open Go Go.ChangeMaps Go.MapKept Go.WideShapes
open Go.RowKit Go.WideMaps Go.Maps F

/-- Rows of numbers, by a row of rows. -/
structure Mat (w : World) (g : Nat) (b : Nat → Nat) (N : Nat) (M : Nat → Nat → Int) : Prop where
  out : ∀ i, i < N → w.cell? ⟨g, i, none⟩ = some (.slice (some ⟨b i, 0, none⟩) N N)
  row : ∀ i j, i < N → j < N → w.cell? ⟨b i, j, none⟩ = some (.int .i64 (M i j)) ∧ w.frozen? ⟨b i, j, none⟩ = false
  inj : ∀ i j, i < N → j < N → b i = b j → i = j
  off : ∀ i, i < N → b i ≠ g

/-- Which places were seen. -/
def Sn (w : World) (sb N : Nat) (sn : Nat → Bool) : Prop := ∀ j, j < N → w.cell? ⟨sb, j, none⟩ = some (.bool (sn j)) ∧ w.frozen? ⟨sb, j, none⟩ = false

/-- The world is kept, but for the rows and for one block. -/
structure Kq (b : Nat → Nat) (N sb : Nat) (w w' : World) : Prop where
  os : w'.os = w.os
  tape : w'.tape = w.tape
  output : w'.output = w.output
  size : w'.heap.size = w.heap.size
  block : ∀ k, (∀ i, i < N → k ≠ b i) → k ≠ sb → w'.heap[k]? = w.heap[k]?

section
variable {w w' w'' : World} {g : Nat} {b : Nat → Nat} {N sb : Nat} {M : Nat → Nat → Int} {sn : Nat → Bool}

theorem Kq.refl (b : Nat → Nat) (N sb : Nat) (w : World) : Kq b N sb w w := ⟨rfl, rfl, rfl, rfl, fun _ _ _ => rfl⟩
theorem Kq.trans (h : Kq b N sb w w') (k : Kq b N sb w' w'') : Kq b N sb w w'' := ⟨k.os.trans h.os, k.tape.trans h.tape, k.output.trans h.output, k.size.trans h.size, fun i h1 h2 => (k.block i h1 h2).trans (h.block i h1 h2)⟩

theorem Kq.set (h : Kq b N sb w w') {i : Nat} (hi : i < N) (j : Nat) (v : Value) : Kq b N sb w (w'.setCell ⟨b i, j, none⟩ v) :=
  h.trans ⟨rfl, rfl, rfl, by simp, fun k h1 _ => Below.heap_setCell _ _ _ _ (h1 i hi)⟩
theorem Kq.setS (h : Kq b N sb w w') (j : Nat) (v : Value) : Kq b N sb w (w'.setCell ⟨sb, j, none⟩ v) :=
  h.trans ⟨rfl, rfl, rfl, by simp, fun k _ h2 => Below.heap_setCell _ _ _ _ h2⟩

theorem Mat.set (h : Mat w g b N M) {x y : Nat} (hx : x < N) (hy : y < N) (v : Int) : Mat (w.setCell ⟨b x, y, none⟩ (.int .i64 v)) g b N (fun i j => if i = x ∧ j = y then v else M i j) := by
  refine ⟨fun i hi => ?_, fun i j hi hj => ⟨?_, ?_⟩, h.inj, h.off⟩
  · rw [World.cell?_setCell_far _ _ _ _ (by show b x ≠ g; exact h.off x hx)]
    exact h.out i hi
  · by_cases e : i = x ∧ j = y
    · obtain ⟨rfl, rfl⟩ := e
      rw [if_pos ⟨rfl, rfl⟩]
      exact World.cell?_setCell_same _ _ _ (h.row i j hi hj).1
    · rw [if_neg e, World.cell?_setCell_other]
      · exact (h.row i j hi hj).1
      · intro k
        injection k with k1 k2
        exact e ⟨(h.inj x i hx hi k1).symm, k2.symm⟩
  · rw [World.frozen?_setCell]; exact (h.row i j hi hj).2

theorem Mat.setOff (h : Mat w g b N M) {k o : Nat} {v : Value} (hk : ∀ i, i < N → k ≠ b i) (hg : k ≠ g) : Mat (w.setCell ⟨k, o, none⟩ v) g b N M := by
  refine ⟨fun i hi => ?_, fun i j hi hj => ⟨?_, ?_⟩, h.inj, h.off⟩
  · rw [World.cell?_setCell_far _ _ _ _ (by show k ≠ g; exact hg)]; exact h.out i hi
  · rw [World.cell?_setCell_far _ _ _ _ (by show k ≠ b i; exact hk i hi)]; exact (h.row i j hi hj).1
  · rw [World.frozen?_setCell]; exact (h.row i j hi hj).2

theorem Sn.set (h : Sn w sb N sn) {x : Nat} (hx : x < N) (v : Bool) : Sn (w.setCell ⟨sb, x, none⟩ (.bool v)) sb N (fun j => if j = x then v else sn j) := fun j hj => by
  refine ⟨?_, by rw [World.frozen?_setCell]; exact (h j hj).2⟩
  by_cases e : j = x
  · subst e
    show _ = some (Value.bool (if j = j then v else sn j))
    rw [if_pos rfl]
    exact World.cell?_setCell_same _ _ _ (h j hj).1
  · show _ = some (Value.bool (if j = x then v else sn j))
    rw [if_neg e, World.cell?_setCell_other]
    · exact (h j hj).1
    · intro k
      injection k with _ k2
      exact e k2.symm

theorem Sn.setOff (h : Sn w sb N sn) {k o : Nat} {v : Value} (hk : k ≠ sb) : Sn (w.setCell ⟨k, o, none⟩ v) sb N sn := fun j hj => by
  refine ⟨?_, by rw [World.frozen?_setCell]; exact (h j hj).2⟩
  rw [World.cell?_setCell_far _ _ _ _ (by show k ≠ sb; exact hk)]; exact (h j hj).1

end

/-- How many were not seen yet. -/
def uns (sn : Nat → Bool) : Nat → Nat
  | 0 => 0
  | n + 1 => uns sn n + (if sn n then 0 else 1)

theorem uns_mono {sn sn' : Nat → Bool} (h : ∀ j, sn j = true → sn' j = true) : ∀ n, uns sn' n ≤ uns sn n
  | 0 => Nat.le_refl _
  | n + 1 => by
    have ih := uns_mono h n
    have := h n
    simp only [uns]
    cases h1 : sn n <;> cases h2 : sn' n <;> simp <;> first | omega | (rw [h1, h2] at this; simp at this)

theorem uns_less {sn sn' : Nat → Bool} (h : ∀ j, sn j = true → sn' j = true) {x : Nat} (h1 : sn x = false) (h2 : sn' x = true) : ∀ n, x < n → uns sn' n < uns sn n
  | 0, hx => by omega
  | n + 1, hx => by
    by_cases e : x = n
    · subst e
      have := uns_mono h x
      simp only [uns, h1, h2]
      simp
      omega
    · have ih := uns_less h h1 h2 n (by omega)
      have := h n
      simp only [uns]
      cases h3 : sn n <;> cases h4 : sn' n <;> simp <;> first | omega | (rw [h3, h4] at this; simp at this)

/-- A way that may be gone. -/
def Gone (M : Nat → Nat → Int) : List Nat → Prop
  | x :: y :: r => 1 ≤ M x y ∧ Gone M (y :: r)
  | _ => True

/-- What push leaves. -/
def PushPost (w : World) (g : Nat) (b : Nat → Nat) (N sb x tg : Nat) (M : Nat → Nat → Int) (sn : Nat → Bool) (e : Ending) (w' : World) : Prop :=
  ∃ M' sn', Mat w' g b N M' ∧ Sn w' sb N sn' ∧ Kq b N sb w w' ∧ (∀ j, sn j = true → sn' j = true) ∧
    ((e = .returned (.bool true) ∧ ∃ vs : List Nat, vs.head? = some x ∧ vs.getLast? = some tg ∧ vs.Nodup ∧ (∀ v ∈ vs, v < N ∧ sn v = false) ∧ Gone M vs ∧ M' = tkP M vs) ∨
     (e = .returned (.bool false) ∧ M' = M ∧ sn' x = true ∧ ∀ z, z < N → sn' z = true → sn z = false → z ≠ tg ∧ ∀ y, y < N → 0 < M z y → sn' y = true))

end Go.Proofs.YtpkdpddillebfaaDoor.S
namespace Go.Proofs.YtpkdpddillebfaaDoor.S
open Go Go.ChangeMaps Go.MapKept Go.WideShapes
open Go.RowKit Go.WideMaps Go.Maps F

/-- While push tries one place after the other. -/
structure Trying (w wq : World) (g : Nat) (b : Nat → Nat) (N sb x tg : Nat) (M : Nat → Nat → Int) (sn sn' : Nat → Bool) (j : Nat) : Prop where
  mat : Mat wq g b N M
  seen : Sn wq sb N sn'
  kept : Kq b N sb w wq
  mono : ∀ z, sn z = true → sn' z = true
  here : sn' x = true
  tried : ∀ y, y < j → 0 < M x y → sn' y = true
  done : ∀ z, z < N → sn' z = true → sn z = false → z ≠ x → z ≠ tg ∧ ∀ y, y < N → 0 < M z y → sn' y = true

/-- The call of itself, for fewer that were not seen. -/
def PushIH (g : Nat) (b : Nat → Nat) (N sb tg c : Nat) (u : Nat) : Prop :=
  ∀ (x : Nat) (M : Nat → Nat → Int) (sn : Nat → Bool) (w : World), uns sn N < u → Mat w g b N M → Sn w sb N sn → x < N → sn x = false → (∀ i j, i < N → j < N → 0 ≤ M i j ∧ M i j ≤ 1000000) →
    Calls Tryd.prog 80 #[.slice (some ⟨g, 0, none⟩) N c, .int .i64 (x : Int), .int .i64 (tg : Int), .slice (some ⟨sb, 0, none⟩) N N] w (PushPost w g b N sb x tg M sn)

section
variable {w wq w' : World} {g : Nat} {b : Nat → Nat} {N sb x tg j : Nat} {M : Nat → Nat → Int} {sn sn' : Nat → Bool}

theorem Trying.skip (h : Trying w wq g b N sb x tg M sn sn' j) (hs : ¬ 0 < M x j ∨ sn' j = true) : Trying w wq g b N sb x tg M sn sn' (j + 1) :=
  ⟨h.mat, h.seen, h.kept, h.mono, h.here, fun y hy hm => by
    by_cases e : y = j
    · subst e
      rcases hs with k | k
      · exact absurd hm k
      · exact k
    · exact h.tried y (by omega) hm, h.done⟩

/-- A place that leads nowhere. -/
theorem Trying.fail (h : Trying w wq g b N sb x tg M sn sn' j) {sn2 : Nat → Bool} (hm : Mat w' g b N M) (hs : Sn w' sb N sn2) (hk : Kq b N sb wq w') (mono : ∀ z, sn' z = true → sn2 z = true) (hj : sn2 j = true) (hd : ∀ z, z < N → sn2 z = true → sn' z = false → z ≠ tg ∧ ∀ y, y < N → 0 < M z y → sn2 y = true) : Trying w w' g b N sb x tg M sn sn2 (j + 1) := by
  refine ⟨hm, hs, h.kept.trans hk, fun z hz => mono z (h.mono z hz), mono x h.here, fun y hy hmy => ?_, fun z hz h1 h2 h3 => ?_⟩
  · by_cases e : y = j
    · subst e; exact hj
    · exact mono y (h.tried y (by omega) hmy)
  · cases hq : sn' z with
    | true =>
      obtain ⟨k1, k2⟩ := h.done z hz hq h2 h3
      exact ⟨k1, fun y hy hmy => mono y (k2 y hy hmy)⟩
    | false => exact hd z hz h1 hq

/-- All were tried. -/
theorem Trying.none (h : Trying w wq g b N sb x tg M sn sn' N) (hne : x ≠ tg) : PushPost w g b N sb x tg M sn (.returned (.bool false)) wq :=
  ⟨M, sn', h.mat, h.seen, h.kept, h.mono, .inr ⟨rfl, rfl, h.here, fun z hz h1 h2 => by
    by_cases e : z = x
    · subst e; exact ⟨hne, fun y hy hmy => h.tried y hy hmy⟩
    · exact h.done z hz h1 h2 e⟩⟩

end

set_option maxHeartbeats 4000000 in
set_option maxRecDepth 100000 in
theorem push_step (g : Nat) (b : Nat → Nat) (N sb tg c u : Nat) (hN : N ≤ 1000) (htg : tg < N) (hsb : ∀ i, i < N → sb ≠ b i) (hsg : sb ≠ g) (IH : PushIH g b N sb tg c u) : PushIH g b N sb tg c (u + 1) := by
  intro x M sn w hu hmat hsn hx hsx hM
  have HIH : Hid (PushIH g b N sb tg c u) := IH
  have HM : Hid (∀ i j, i < N → j < N → 0 ≤ M i j ∧ M i j ≤ 1000000) := hM
  have HB : Hid ((∀ i, i < N → sb ≠ b i) ∧ sb ≠ g) := ⟨hsb, hsg⟩
  by_cases hxt : x = tg
  · subst hxt
    have HP : Hid (PushPost w g b N sb x x M sn (.returned (.bool true)) w) := ⟨M, sn, hmat, hsn, Kq.refl _ _ _ _, fun _ h => h, .inl ⟨rfl, [x], rfl, rfl, by simp, fun v hv => by rw [List.mem_singleton.1 hv]; exact ⟨hx, hsx⟩, trivial, rfl⟩⟩
    clear hmat hsn hM IH hsb
    go_enter Tryd.func80, Tryd.ntmps80
    go_wp2_with fail
    go_ret
    exact HP.out
  · have hxt' : ((x : Int) == (tg : Int)) = false := beq_eq_false_iff_ne.2 (by omega)
    have s1 := (hsn x hx).1
    have s2 := (hsn x hx).2
    obtain ⟨W1, hW1⟩ : ∃ W1, W1 = w.setCell ⟨sb, x, none⟩ (.bool true) := ⟨_, rfl⟩
    have HT0 : Hid (Trying w W1 g b N sb x tg M sn (fun j => if j = x then true else sn j) 0) := by
      rw [hW1]
      refine ⟨hmat.setOff hsb hsg, hsn.set hx true, (Kq.refl _ _ _ _).setS x _, fun z hz => ?_, by simp, fun y hy => by omega, fun z hz h1 h2 h3 => ?_⟩
      · show (if z = x then true else sn z) = true
        split
        · rfl
        · exact hz
      · have h1 : (if z = x then true else sn z) = true := h1
        rw [if_neg h3, h2] at h1
        cases h1
    have HW1 : Hid (w.setCell ⟨sb, x, none⟩ (.bool true) = W1) := hW1.symm
    have HU : Hid (uns sn N < u + 1 ∧ sn x = false) := ⟨hu, hsx⟩
    have HXT : Hid (x ≠ tg) := hxt
    clear hW1 hmat hsn hM IH hsb hu
    go_enter Tryd.func80, Tryd.ntmps80
    go_wp2_with fail
    rw [HW1.out]
    clear s1 s2
    go_loopw [18] (fun s18 wq => ∃ (j : Nat) (sn' : Nat → Bool), j ≤ N ∧ s18 = .int .i64 j ∧ Trying w wq g b N sb x tg M sn sn' j) (fun s18 _ => N - (intOf s18).toNat)
    case atStart => exact ⟨0, _, Nat.zero_le _, rfl, HT0.out⟩
    case round =>
      clear HT0 HW1
      obtain ⟨j, sn', hj, rfl, ht⟩ := hrel
      have HT : Hid (Trying w wr g b N sb x tg M sn sn' j) := ht
      clear ht
      by_cases hjn : j < N
      · have q1 := HT.out.mat.out x hx
        have q2 := (HT.out.mat.row x j hx hjn).1
        have q3 := (HT.out.seen j hjn).1
        by_cases hpos : 0 < M x j
        · cases hsj : sn' j with
          | true =>
            as_aux_lemma =>
            have HN : Hid (Trying w wr g b N sb x tg M sn sn' (j + 1)) := HT.out.skip (.inr hsj)
            rw [hsj] at q3
            clear hsj
            go_wp2_with fail
            go_roundw
            case rel => exact ⟨j + 1, sn', by omega, by go_num, HN.out⟩
            case measure => simp [intOf]; omega
          | false =>
            rw [hsj] at q3
            have hless : uns sn' N < u := by
              have h1 := uns_less HT.out.mono HU.out.2 HT.out.here N hx
              have := HU.out.1
              omega
            have HC : Hid _ := HIH.out j M sn' wr hless HT.out.mat HT.out.seen hjn hsj HM.out
            have HSJ : Hid (sn' j = false) := hsj
            clear hsj hless
            go_wp2_with fail
            refine Calls.mono HC.out ?_
            rintro e w2 ⟨M', sn2, hm2, hs2, hk2, hmono2, h2⟩
            clear HC
            rcases h2 with ⟨rfl, vs, hh, hl, hnd, hv, hg, hM'⟩ | ⟨rfl, hM', hx2, hd2⟩
            · as_aux_lemma =>
              have hxv : x ∉ vs := fun k => by
                have h1 := (hv x k).2
                rw [HT.out.here] at h1; cases h1
              have hjx : j ≠ x := fun e => by
                have h1 := HT.out.here
                rw [← e, HSJ.out] at h1; cases h1
              obtain ⟨r, hr⟩ : ∃ r, vs = j :: r := by
                cases vs with
                | nil => cases hh
                | cons a r => simp at hh; exact ⟨r, by rw [hh]⟩
              have hMx : M' x j = M x j ∧ M' j x = M j x := by rw [hM']; exact tkP_off vs x j hxv
              have c1 := hm2.out x hx
              have c2 := (hm2.row x j hx hjn).1
              have c3 := (hm2.row x j hx hjn).2
              rw [hMx.1] at c2
              have hm3 := hm2.set hx hjn (M x j - 1)
              have d1 := hm3.out j hjn
              have d2 := (hm3.row j x hjn hx).1
              have d3 := (hm3.row j x hjn hx).2
              rw [if_neg (fun k => hjx k.1), hMx.2] at d2
              have hm4 := hm3.set hjn hx (M j x + 1)
              have hMxj := HM.out x j hx hjn
              have hMjx := HM.out j x hjn hx
              have hw1 : IntKind.i64.wrap (M x j - 1) = M x j - 1 := by rw [IntKind.wrap_i64]; omega
              have hw2 : IntKind.i64.wrap (M j x + 1) = M j x + 1 := by rw [IntKind.wrap_i64]; omega
              have HP : Hid (PushPost w g b N sb x tg M sn (.returned (.bool true)) ((w2.setCell ⟨b x, j, none⟩ (.int .i64 (M x j - 1))).setCell ⟨b j, x, none⟩ (.int .i64 (M j x + 1)))) := by
                refine ⟨_, sn2, hm4, (hs2.setOff (fun e => HB.out.1 x hx e.symm)).setOff (fun e => HB.out.1 j hjn e.symm), ((HT.out.kept.trans hk2).set hx j _).set hjn x _, fun z hz => hmono2 z (HT.out.mono z hz), .inl ⟨rfl, x :: vs, rfl, ?_, ?_, fun v hv' => ?_, ?_, ?_⟩⟩
                · rw [hr, List.getLast?_cons_cons, ← hr]; exact hl
                · exact List.nodup_cons.2 ⟨hxv, hnd⟩
                · rcases List.mem_cons.1 hv' with rfl | hv'
                  · exact ⟨hx, HU.out.2⟩
                  · refine ⟨(hv v hv').1, ?_⟩
                    cases hq : sn v with
                    | false => rfl
                    | true =>
                      have h1 := HT.out.mono v hq
                      rw [(hv v hv').2] at h1; cases h1
                · rw [hr]
                  exact ⟨by omega, hr ▸ hg⟩
                · rw [hr]
                  show _ = tkM (tkP M (j :: r)) x j
                  rw [← hr, ← hM']
                  funext i k
                  unfold tkM addM
                  by_cases e1 : i = j ∧ k = x
                  · rw [if_pos e1, if_pos e1, if_neg (fun k' => hjx (e1.1.symm.trans k'.1)), e1.1, e1.2, hMx.2]
                  · rw [if_neg e1, if_neg e1]
                    by_cases e2 : i = x ∧ k = j
                    · rw [if_pos e2, if_pos e2, e2.1, e2.2, hMx.1]; omega
                    · rw [if_neg e2, if_neg e2]
              clear hm2 hs2 hk2 hmono2 hh hl hnd hv hg hM' hxv hr hMx hm3 hm4 hMxj hMjx HT HM HIH q1 q2 q3
              go_wp2_with fail
              go_ret
              exact HP.out
            · as_aux_lemma =>
              subst hM'
              have HN : Hid (Trying w w2 g b N sb x tg M' sn sn2 (j + 1)) := HT.out.fail hm2 hs2 hk2 hmono2 hx2 hd2
              clear hm2 hs2 hk2 hmono2 hx2 hd2 HT q1 q2 q3
              go_wp2_with fail
              go_roundw
              case rel => exact ⟨j + 1, sn2, by omega, by go_num, HN.out⟩
              case measure => simp [intOf]; omega
        · as_aux_lemma =>
          have HN : Hid (Trying w wr g b N sb x tg M sn sn' (j + 1)) := HT.out.skip (.inl hpos)
          go_wp2_with fail
          go_roundw
          case rel => exact ⟨j + 1, sn', by omega, by go_num, HN.out⟩
          case measure => simp [intOf]; omega
      · as_aux_lemma =>
        have hje : N = j := by omega
        subst hje
        have HP : Hid (PushPost w g b N sb x tg M sn (.returned (.bool false)) wr) := HT.out.none HXT.out
        clear HT
        go_wp2_with fail
        go_ret
        exact HP.out

theorem push_any (g : Nat) (b : Nat → Nat) (N sb tg c : Nat) (hN : N ≤ 1000) (htg : tg < N) (hsb : ∀ i, i < N → sb ≠ b i) (hsg : sb ≠ g) : ∀ u, PushIH g b N sb tg c u
  | 0 => fun _ _ _ _ h => absurd h (by omega)
  | u + 1 => push_step g b N sb tg c u hN htg hsb hsg (push_any g b N sb tg c hN htg hsb hsg u)

end Go.Proofs.YtpkdpddillebfaaDoor.S
namespace Go.Proofs.YtpkdpddillebfaaDoor.S
open Go Go.ChangeMaps Go.MapKept Go.WideShapes
open Go.RowKit Go.WideMaps Go.Maps F

theorem tkM_at {M : Nat → Nat → Int} {x y : Nat} (h : x ≠ y) (i j : Nat) : tkM M x y i j = if i = x ∧ j = y then M i j - 1 else if i = y ∧ j = x then M i j + 1 else M i j := by
  unfold tkM addM
  by_cases e1 : i = y ∧ j = x
  · rw [if_pos e1, if_neg (fun k => h (k.1.symm.trans e1.1)), if_neg (fun k => h (k.1.symm.trans e1.1)), if_pos e1]
  · rw [if_neg e1]
    by_cases e2 : i = x ∧ j = y
    · rw [if_pos e2, if_pos e2]; rfl
    · rw [if_neg e2, if_neg e2, if_neg e1]

theorem tkM_sum {M : Nat → Nat → Int} {x y : Nat} (h : x ≠ y) (i j : Nat) : tkM M x y i j + tkM M x y j i = M i j + M j i := by
  rw [tkM_at h, tkM_at h]
  by_cases e1 : i = x ∧ j = y
  · rw [if_pos e1, if_neg (fun k : j = x ∧ i = y => h (e1.1.symm.trans k.2)), if_pos (show j = y ∧ i = x from ⟨e1.2, e1.1⟩)]; omega
  · by_cases e2 : i = y ∧ j = x
    · rw [if_neg e1, if_pos e2, if_pos ⟨e2.2, e2.1⟩]; omega
    · rw [if_neg e1, if_neg e2, if_neg (fun k => e2 ⟨k.2, k.1⟩), if_neg (fun k => e1 ⟨k.2, k.1⟩)]

theorem tkP_sum {M : Nat → Nat → Int} : ∀ (vs : List Nat), vs.Nodup → ∀ i j, tkP M vs i j + tkP M vs j i = M i j + M j i
  | [], _, _, _ => rfl
  | [_], _, _, _ => rfl
  | x :: y :: r, h, i, j => by
    have hn := List.nodup_cons.1 h
    show tkM (tkP M (y :: r)) x y i j + tkM (tkP M (y :: r)) x y j i = _
    rw [tkM_sum (fun e => hn.1 (by simp [e])), tkP_sum (y :: r) hn.2]

theorem tkP_pos {M : Nat → Nat → Int} (h0 : ∀ i j, 0 ≤ M i j) : ∀ (vs : List Nat), vs.Nodup → Gone M vs → ∀ i j, 0 ≤ tkP M vs i j
  | [], _, _, i, j => h0 i j
  | [_], _, _, i, j => h0 i j
  | x :: y :: r, h, hg, i, j => by
    have hn := List.nodup_cons.1 h
    have ih := tkP_pos h0 (y :: r) hn.2 hg.2
    have hx := (tkP_off (M := M) (y :: r) x y hn.1).1
    have h1 := hg.1
    show 0 ≤ tkM (tkP M (y :: r)) x y i j
    rw [tkM_at (fun e => hn.1 (by simp [e]))]
    have := ih i j
    split
    · next e => rw [e.1, e.2, hx]; omega
    · split <;> omega

/-- The rooms, so many having gone. -/
structure FillM (M0 M : Nat → Nat → Int) (N a tg : Nat) (k : Int) : Prop where
  pos : ∀ i j, 0 ≤ M i j
  sum : ∀ i j, M i j + M j i = M0 i j + M0 j i
  cut : ∀ S : Int → Bool, S (a : Int) = true → S (tg : Int) = false → capM M N S = capM M0 N S - k

theorem row_nonneg {M : Nat → Nat → Int} (h : ∀ i j, 0 ≤ M i j) (S : Int → Bool) (i : Nat) : ∀ n, 0 ≤ rowM M S i n
  | 0 => Int.le_refl _
  | n + 1 => by
    have := row_nonneg h S i n
    have := h i n
    simp only [rowM]
    split <;> omega

theorem sum_nonneg {M : Nat → Nat → Int} (h : ∀ i j, 0 ≤ M i j) (N : Nat) (S : Int → Bool) : ∀ n, 0 ≤ sumM M N S n
  | 0 => Int.le_refl _
  | n + 1 => by
    have := sum_nonneg h N S n
    have := row_nonneg h S n N
    simp only [sumM]
    omega

theorem row_zero {M : Nat → Nat → Int} {S : Int → Bool} {i : Nat} : ∀ n : Nat, (∀ j : Nat, j < n → S (i : Int) = true → S (j : Int) = false → M i j = 0) → rowM M S i n = 0
  | 0, _ => rfl
  | n + 1, h => by
    have ih := row_zero n (fun j hj => h j (by omega))
    have h1 := h n (by omega)
    simp only [rowM, ih]
    cases h2 : S (i : Int) <;> cases h3 : S (n : Int) <;> simp
    exact h1 h2 h3

theorem sum_zero {M : Nat → Nat → Int} {N : Nat} {S : Int → Bool} : ∀ n : Nat, (∀ i j : Nat, i < n → j < N → S (i : Int) = true → S (j : Int) = false → M i j = 0) → sumM M N S n = 0
  | 0, _ => rfl
  | n + 1, h => by
    have ih := sum_zero n (fun i j hi => h i j (by omega))
    have := row_zero (M := M) (S := S) (i := n) N (fun j hj => h n j (by omega) hj)
    simp only [sumM, ih, this]
    rfl

theorem FillM.start {M0 : Nat → Nat → Int} {N a tg : Nat} (h : ∀ i j, 0 ≤ M0 i j) : FillM M0 M0 N a tg 0 := ⟨h, fun _ _ => rfl, fun _ _ _ => by omega⟩

theorem FillM.way {M0 M : Nat → Nat → Int} {N a tg : Nat} {k : Int} (h : FillM M0 M N a tg k) {vs : List Nat} (h1 : vs.head? = some a) (h2 : vs.getLast? = some tg) (h3 : ∀ v ∈ vs, v < N) (h4 : vs.Nodup) (h5 : Gone M vs) : FillM M0 (tkP M vs) N a tg (k + 1) :=
  ⟨tkP_pos h.pos vs h4 h5, fun i j => by rw [tkP_sum vs h4, h.sum], fun S ha hb => by
    rw [cap_tkP S vs a tg h1 h2 h3, h.cut S ha hb]
    unfold chi
    rw [if_pos ha, if_neg (by rw [hb]; simp)]
    omega⟩

theorem FillM.le {M0 M : Nat → Nat → Int} {N a tg : Nat} {k : Int} (h : FillM M0 M N a tg k) {S : Int → Bool} (h1 : S (a : Int) = true) (h2 : S (tg : Int) = false) : k ≤ capM M0 N S := by
  have := h.cut S h1 h2
  have := sum_nonneg h.pos N S N
  unfold capM at *
  omega

theorem FillM.done {M0 M : Nat → Nat → Int} {N a tg : Nat} {k most : Int} (h : FillM M0 M N a tg k) (h0 : 0 ≤ k) (hm : k ≤ most) (S : Int → Bool) (h1 : S (a : Int) = true) (h2 : S (tg : Int) = false) (hz : ∀ i j : Nat, i < N → j < N → S (i : Int) = true → S (j : Int) = false → M i j = 0) : Val (capM M0 N) a tg most k :=
  ⟨h0, hm, fun _ k1 k2 => h.le k1 k2, .inr ⟨S, h1, h2, by
    have h3 := h.cut S h1 h2
    have h4 := sum_zero (M := M) (N := N) (S := S) N hz
    have h5 : capM M N S = 0 := h4
    rw [h5] at h3
    omega⟩⟩

theorem FillM.most {M0 M : Nat → Nat → Int} {N a tg : Nat} {most : Int} (h : FillM M0 M N a tg most) (h0 : 0 ≤ most) : Val (capM M0 N) a tg most most :=
  ⟨h0, Int.le_refl _, fun _ h1 h2 => h.le h1 h2, .inl rfl⟩

/-- The world is kept, but for the rows; blocks may be laid. -/
structure Ka (b : Nat → Nat) (N : Nat) (w w' : World) : Prop where
  os : w'.os = w.os
  tape : w'.tape = w.tape
  output : w'.output = w.output
  size : w.heap.size ≤ w'.heap.size
  block : ∀ k, k < w.heap.size → (∀ i, i < N → k ≠ b i) → w'.heap[k]? = w.heap[k]?

theorem Ka.refl (b : Nat → Nat) (N : Nat) (w : World) : Ka b N w w := ⟨rfl, rfl, rfl, Nat.le_refl _, fun _ _ _ => rfl⟩
theorem Ka.trans {b : Nat → Nat} {N : Nat} {w w' w'' : World} (h : Ka b N w w') (k : Ka b N w' w'') : Ka b N w w'' := ⟨k.os.trans h.os, k.tape.trans h.tape, k.output.trans h.output, Nat.le_trans h.size k.size, fun i h1 h2 => (k.block i (Nat.lt_of_lt_of_le h1 h.size) h2).trans (h.block i h1 h2)⟩
theorem Ka.of_below {b : Nat → Nat} {N : Nat} {w w' : World} (h : Below w.heap.size w w') : Ka b N w w' := ⟨h.os, h.tape, h.output, h.size, fun k hk _ => h.block k hk⟩
theorem Ka.of_q {b : Nat → Nat} {N sb : Nat} {w0 w w' : World} (h : Ka b N w0 w) (k : Kq b N sb w w') (hs : w0.heap.size ≤ sb) : Ka b N w0 w' := ⟨k.os.trans h.os, k.tape.trans h.tape, k.output.trans h.output, by rw [k.size]; exact h.size, fun i h1 h2 => (k.block i h2 (by omega)).trans (h.block i h1 h2)⟩
theorem Ka.old {b : Nat → Nat} {N B : Nat} {w w' : World} (h : Ka b N w w') (hB : B ≤ w.heap.size) (hb : ∀ i, i < N → B ≤ b i) : Below B w w' := ⟨h.os, h.tape, h.output, h.size, fun k hk => h.block k (by omega) (fun i hi e => by have := hb i hi; omega)⟩

theorem Mat.below {w w' : World} {g : Nat} {b : Nat → Nat} {N : Nat} {M : Nat → Nat → Int} (h : Mat w g b N M) (hb : Below w.heap.size w w') : Mat w' g b N M :=
  ⟨fun i hi => cell_below (h.out i hi) hb, fun i j hi hj => ⟨cell_below (h.row i j hi hj).1 hb, by
    have hl := lt_of_cell (h.row i j hi hj).1
    have := (h.row i j hi hj).2
    unfold World.frozen? at this ⊢
    rw [hb.block _ hl]; exact this⟩, h.inj, h.off⟩

theorem Mat.lt {w : World} {g : Nat} {b : Nat → Nat} {N : Nat} {M : Nat → Nat → Int} (h : Mat w g b N M) (hN : 0 < N) : g < w.heap.size ∧ ∀ i, i < N → b i < w.heap.size :=
  ⟨lt_of_cell (h.out 0 hN), fun i hi => lt_of_cell (h.row i 0 hi hN).1⟩

theorem sn_made (w : World) (N : Nat) : Sn (w.alloc (.cells (madeCells #[.bool false] N) 4)) w.heap.size N (fun _ => false) := fun j hj => by
  have hh := heap_alloc_new w (.cells (madeCells #[.bool false] N) 4)
  obtain ⟨W, hW⟩ : ∃ W, w.alloc (.cells (madeCells #[.bool false] N) 4) = W := ⟨_, rfl⟩
  rw [hW] at hh ⊢
  have hc : (madeCells #[.bool false] N)[j]? = some (.bool false) := by simp [madeCells, hj, Nat.mod_one]
  exact ⟨by simp [World.cell?, hh, hc], by simp [World.frozen?, hh]⟩

theorem info4b : (Tryd.prog.info? 4).map (fun i => (i.zero, i.size, i.bytes)) = some (some (.bool false), 1, 1) := by kernel_rfl

set_option maxHeartbeats 4000000 in
set_option maxRecDepth 100000 in
theorem allr_any (g : Nat) (b : Nat → Nat) (N a tg c most : Nat) (M0 : Nat → Nat → Int) (w : World) (hmat : Mat w g b N M0) (hN : N ≤ 100) (ha : a < N) (htg : tg < N) (hmost : most ≤ 1000) (hM : ∀ i j, 0 ≤ M0 i j ∧ M0 i j ≤ 1000) :
    Calls Tryd.prog 58 #[.slice (some ⟨g, 0, none⟩) N c, .int .i64 (a : Int), .int .i64 (tg : Int), .int .i64 (most : Int)] w fun e w' => ∃ k : Nat, e = .returned (.int .i64 (k : Int)) ∧ Val (capM M0 N) a tg most k ∧ Ka b N w w' := by
  have HS : Hid (Mat w g b N M0 ∧ FillM M0 M0 N a tg 0 ∧ Ka b N w w) := ⟨hmat, FillM.start (fun i j => (hM i j).1), Ka.refl _ _ _⟩
  have HM : Hid (∀ i j, 0 ≤ M0 i j ∧ M0 i j ≤ 1000) := hM
  have HL : Hid (g < w.heap.size ∧ ∀ i, i < N → b i < w.heap.size) := hmat.lt (by omega)
  clear hmat hM
  go_enter Tryd.func58, Tryd.ntmps58
  go_wp2_with fail
  go_loopw [9] (fun s9 wq => ∃ (k : Nat) (M : Nat → Nat → Int), k ≤ most ∧ s9 = .int .i64 k ∧ Mat wq g b N M ∧ FillM M0 M N a tg k ∧ Ka b N w wq) (fun s9 _ => most - (intOf s9).toNat)
  case atStart => exact ⟨0, M0, Nat.zero_le _, rfl, HS.out.1, HS.out.2.1, HS.out.2.2⟩
  case round =>
    clear HS
    obtain ⟨k, M, hk, rfl, hm, hf, hka⟩ := hrel
    have HR : Hid (Mat wr g b N M ∧ FillM M0 M N a tg k ∧ Ka b N w wr) := ⟨hm, hf, hka⟩
    clear hm hf hka
    by_cases hlt : k < most
    · have hmk := fun W => run_make_row' (P := Tryd.prog) 132 4 (.bool false) 1 Tryd.underlying132 info4b rfl .i64 .i64 N (by omega) (by omega) W
      obtain ⟨W1, hW1⟩ : ∃ W1, W1 = wr.alloc (.cells (madeCells #[.bool false] N) 4) := ⟨_, rfl⟩
      have hbW : Below wr.heap.size wr W1 := by rw [hW1]; exact (Below.refl _ _).alloc (Nat.le_refl _) _
      have hsn : Sn W1 wr.heap.size N (fun _ => false) := by rw [hW1]; exact sn_made wr N
      have hmat1 := HR.out.1.below hbW
      have hlt1 := HR.out.1.lt (show 0 < N by omega)
      have hbd : ∀ i j, i < N → j < N → 0 ≤ M i j ∧ M i j ≤ 1000000 := fun i j _ _ => by
        have h1 := HR.out.2.1.pos i j
        have h2 := HR.out.2.1.pos j i
        have h3 := HR.out.2.1.sum i j
        have h4 := HM.out i j
        have h5 := HM.out j i
        omega
      have HC : Hid _ := push_any g b N wr.heap.size tg c (by omega) htg (fun i hi e => by have := hlt1.2 i hi; omega) (fun e => by have := hlt1.1; omega) (uns (fun _ => false) N + 1) a M (fun _ => false) W1 (Nat.lt_succ_self _) hmat1 hsn ha rfl hbd
      have HW1 : Hid (wr.alloc (.cells (madeCells #[.bool false] N) 4) = W1) := hW1.symm
      have HB1 : Hid (Below wr.heap.size wr W1) := hbW
      clear hW1 hbW hsn hmat1 hlt1 hbd
      go_wp2_with fail
      rw [HW1.out]
      clear hmk
      refine Calls.mono HC.out ?_
      rintro e w2 ⟨M', sn', hm2, hs2, hk2, _, h2⟩
      have HKA : Hid (Ka b N w w2) := (HR.out.2.2.trans (Ka.of_below HB1.out)).of_q hk2 HR.out.2.2.size
      have HM2 : Hid (Mat w2 g b N M') := hm2
      clear hm2 hs2 hk2 HC
      rcases h2 with ⟨rfl, vs, hh, hl, hnd, hv, hg, hM'⟩ | ⟨rfl, hM', hx2, hd2⟩
      · as_aux_lemma =>
        have HF : Hid (FillM M0 M' N a tg ((k + 1 : Nat) : Int)) := by
          have := HR.out.2.1.way hh hl (fun v hv' => (hv v hv').1) hnd hg
          rw [← hM'] at this
          rw [show ((k + 1 : Nat) : Int) = (k : Int) + 1 by omega]
          exact this
        clear hh hl hnd hv hg hM' HR
        go_wp2_with fail
        go_roundw
        case rel => exact ⟨k + 1, M', by omega, by go_num, HM2.out, HF.out, HKA.out⟩
        case measure => simp [intOf]; omega
      · as_aux_lemma =>
        have HV : Hid (Val (capM M0 N) a tg most k) := by
          have hat : a ≠ tg := (hd2 a ha hx2 rfl).1
          refine HR.out.2.1.done (by omega) (by omega) (fun z => decide (0 ≤ z ∧ z < N) && sn' z.toNat) ?_ ?_ (fun i j hi hj h1 h2 => ?_)
          · simp [ha, hx2]
          · have : sn' tg = false := by
              cases hq : sn' tg with
              | false => rfl
              | true => exact absurd rfl (hd2 tg htg hq rfl).1
            simp [this]
          · have h1' : sn' i = true := by simp [hi] at h1; exact h1
            have h2' : sn' j = false := by simp [hj] at h2; exact h2
            have h3 := (hd2 i hi h1' rfl).2 j hj
            have h4 := HR.out.2.1.pos i j
            by_cases c : 0 < M i j
            · have h5 := h3 c; rw [h2'] at h5; cases h5
            · omega
        clear hM' hx2 hd2 HR
        go_wp2_with fail
        go_ret
        exact ⟨k, rfl, HV.out, HKA.out⟩
    · as_aux_lemma =>
      have hke : most = k := by omega
      subst hke
      go_wp2_with fail
      go_ret
      exact ⟨most, rfl, HR.out.2.1.most (by omega), HR.out.2.2⟩

end Go.Proofs.YtpkdpddillebfaaDoor.S
