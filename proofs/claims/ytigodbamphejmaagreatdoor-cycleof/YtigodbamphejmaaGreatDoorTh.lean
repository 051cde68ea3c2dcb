/- How many parts there are, by labels; the document's own parts, and the closure of Pairs. -/
import Derived.Test.YtigodbamphejmaaGreatDoorTe
import Derived.Test.YtigodbamphejmaaGreatDoorTg
namespace Go.Proofs.YtigodbamphejmaaGreatDoor.S
open Go.RowKit Go.WideMaps Go.Maps

theorem good_uniq {n : Nat} {l l' : List Nat} (h : Good n l) (h' : Good n l') (he : ∀ u v, u < n → v < n → (l.getD u 0 = l.getD v 0 ↔ l'.getD u 0 = l'.getD v 0)) : l = l' := by
  have half : ∀ {l l' : List Nat}, Good n l → Good n l' → (∀ u v, u < n → v < n → (l.getD u 0 = l.getD v 0 ↔ l'.getD u 0 = l'.getD v 0)) → ∀ i, i < n → l'.getD i 0 ≤ l.getD i 0 := by
    intro l l' h h' he i hi
    have h1 := h.le i hi
    have h2 := (he (l.getD i 0) i (by omega) hi).1 (h.idem i hi)
    rw [← h2]
    exact h'.le _ (by omega)
  apply List.ext_getElem
  · rw [h.len, h'.len]
  · intro i h1 h2
    have a1 := half h h' he i (by rw [← h.len]; exact h1)
    have a2 := half h' h (fun u v hu hv => (he u v hu hv).symm) i (by rw [← h.len]; exact h1)
    simp [List.getD_eq_getElem?_getD, List.getElem?_eq_getElem h1, List.getElem?_eq_getElem h2] at a1 a2
    omega

theorem lab_lbl {n : Nat} {T : List Edg} {l : List Nat} (hg : Good n l) (hin : Inn n T) (hl : ∀ u v, u < n → v < n → (l.getD u 0 = l.getD v 0 ↔ cnR T u v)) : l = lbl n T := by
  have hN : Nodes n T := fun e he => ⟨(hin e he).1, (hin e he).2.1⟩
  exact good_uniq hg (lb_good hN) (fun u v hu hv => by rw [hl u v hu hv, lb_iff hN hu hv])

/-- How many there are. -/
def nParts (n : Nat) (l : List Nat) : Nat := cnt (fun x => decide (x = l.getD x 0)) n

theorem cnt_mono {f g : Nat → Bool} : ∀ {n}, (∀ i, i < n → f i = true → g i = true) → cnt f n ≤ cnt g n
  | 0, _ => Nat.le_refl _
  | n + 1, h => by
    have ih := cnt_mono (f := f) (g := g) (n := n) (fun i hi => h i (by omega))
    have h1 := h n (by omega)
    simp only [cnt]
    cases hf : f n with
    | false => simp; omega
    | true => simp [h1 hf]; omega

theorem cnt_all {f g : Nat → Bool} : ∀ {n}, (∀ i, i < n → f i = true → g i = true) → cnt f n = cnt g n → ∀ i, i < n → f i = g i
  | 0, _, _, i, hi => by omega
  | n + 1, h, he, i, hi => by
    have ih := cnt_all (f := f) (g := g) (n := n) (fun i hi => h i (by omega))
    have hm := cnt_mono (f := f) (g := g) (n := n) (fun i hi => h i (by omega))
    have h1 := h n (by omega)
    simp only [cnt] at he
    have hn : f n = g n := by
      cases hf : f n with
      | true => rw [h1 hf]
      | false =>
        cases hg : g n with
        | false => rfl
        | true => simp [hf, hg] at he; omega
    by_cases e : i = n
    · rw [e]; exact hn
    · exact ih (by rw [hn] at he; omega) i (by omega)

/-- The finer one has more, or is the same. -/
theorem parts_finer {n : Nat} {l l' : List Nat} (h : Good n l) (h' : Good n l') (hf : ∀ u v, u < n → v < n → l'.getD u 0 = l'.getD v 0 → l.getD u 0 = l.getD v 0) : nParts n l ≤ nParts n l' ∧ (nParts n l = nParts n l' ↔ l' = l) := by
  have hsub : ∀ i, i < n → decide (i = l.getD i 0) = true → decide (i = l'.getD i 0) = true := fun i hi hd => by
    have h1 := of_decide_eq_true hd
    have h2 := h'.le i hi
    have h3 := hf (l'.getD i 0) i (by omega) hi (h'.idem i hi)
    have h4 := h.le (l'.getD i 0) (by omega)
    exact decide_eq_true (by omega)
  refine ⟨cnt_mono hsub, fun he => ?_, fun he => by rw [he]⟩
  have hall := cnt_all hsub he
  refine good_uniq h' h (fun u v hu hv => ⟨hf u v hu hv, fun huv => ?_⟩)
  have same : ∀ u, u < n → l'.getD u 0 = l.getD u 0 := fun u hu => by
    have h1 := h'.le u hu
    have h2 := h'.idem u hu
    have h3 := hall (l'.getD u 0) (by omega)
    rw [decide_eq_true h2.symm] at h3
    have h4 := of_decide_eq_true h3
    have h5 := hf (l'.getD u 0) u (by omega) hu h2
    omega
  rw [same u hu, same v hv]; exact huv

set_option maxHeartbeats 1000000 in
set_option maxRecDepth 100000 in
theorem parts_cnt (b n : Nat) (l : List Nat) (w : World) (hr : RowL w b l) (hl : l.length = n) (hn : n ≤ 40) :
    Calls Tryz.prog 74 #[.slice (some ⟨b, 0, none⟩) n n] w fun e w' => e = .returned (.int .i64 (nParts n l : Int)) ∧ w' = w := by
  have HR : Hid (RowL w b l ∧ l.length = n) := ⟨hr, hl⟩
  clear hr hl
  go_enter Tryz.func74, Tryz.ntmps74
  go_wp2_with fail
  go_loopw [3, 8] (fun s3 s8 wq => ∃ k : Nat, k ≤ n ∧ s8 = .int .i64 k ∧ s3 = .int .i64 ((cnt (fun x => decide (x = l.getD x 0)) k : Nat) : Int) ∧ wq = w) (fun _ s8 _ => n - (intOf s8).toNat)
  case atStart => exact ⟨0, Nat.zero_le _, rfl, rfl, rfl⟩
  case round =>
    obtain ⟨k, hk, rfl, rfl, rfl⟩ := hrel
    have hcl := cnt_le (fun x => decide (x = l.getD x 0)) k
    have HC : Hid (cnt (fun x => decide (x = l.getD x 0)) (k + 1) = (if decide (k = l.getD k 0) then cnt (fun x => decide (x = l.getD x 0)) k + 1 else cnt (fun x => decide (x = l.getD x 0)) k)) := by
      show cnt (fun x => decide (x = l.getD x 0)) k + (if decide (k = l.getD k 0) = true then 1 else 0) = _
      by_cases hd : decide (k = l.getD k 0) = true
      · rw [if_pos hd, if_pos hd]
      · rw [if_neg hd, if_neg hd]; rfl
    obtain ⟨c, hc⟩ : ∃ c, cnt (fun x => decide (x = l.getD x 0)) k = c := ⟨_, rfl⟩
    have HCC : Hid (cnt (fun x => decide (x = l.getD x 0)) k = c) := hc
    rw [hc] at HC hcl ⊢
    clear hc
    by_cases hlt : k < n
    · have hcell := HR.out.1.cell k (by rw [HR.out.2]; exact hlt)
      obtain ⟨z, hz⟩ : ∃ z, l.getD k 0 = z := ⟨_, rfl⟩
      rw [hz] at HC hcell
      clear hz
      by_cases he : k = z
      · as_aux_lemma =>
        subst he
        have HC2 : Hid (cnt (fun x => decide (x = l.getD x 0)) (k + 1) = c + 1) := by show cnt _ _ = _; rw [HC.out]; simp
        clear HC
        go_wp2_with fail
        go_roundw
        case rel => exact ⟨k + 1, by omega, by go_num, by rw [HC2.out]; go_num, trivial⟩
        case measure => simp [intOf]; omega
      · as_aux_lemma =>
        have HC2 : Hid (cnt (fun x => decide (x = l.getD x 0)) (k + 1) = c) := by show cnt _ _ = _; rw [HC.out]; simp [he]
        have hq : ((k : Int) == (z : Int)) = false := beq_eq_false_iff_ne.2 (by omega)
        clear HC he
        go_wp2_with fail
        go_roundw
        case rel => exact ⟨k + 1, by omega, by go_num, by rw [HC2.out], trivial⟩
        case measure => simp [intOf]; omega
    · as_aux_lemma =>
      have hke : k = n := by omega
      have HF : Hid (nParts n l = c) := by show nParts n l = c; rw [← HCC.out, hke]; rfl
      clear HC hke
      go_wp2_with fail
      go_ret
      exact ⟨by simp [HF.out], rfl⟩

/-- Some edges' parts. -/
def nP (n : Nat) (T : List Edg) : Nat := nParts n (lbl n T)

/-- What Pairs and its closure hold on to. -/
structure Bx (w : World) (B q n N : Nat) (u : Value) (R : List Edg) (bq bn : Nat) : Prop where
  ga : G.GAt w B 33 55 q (n : Int) u R
  cq : w.cell? ⟨bq, 0, none⟩ = some (.pointer (some ⟨q, 0, none⟩))
  cn : w.cell? ⟨bn, 0, none⟩ = some (.int .i64 (N : Int))

theorem Bx.below {w w' : World} {B q n N : Nat} {u : Value} {R : List Edg} {bq bn : Nat} (h : Bx w B q n N u R bq bn) (hb : Below w.heap.size w w') : Bx w' B q n N u R bq bn := ⟨h.ga.below hb, cell_below h.cq hb, cell_below h.cn hb⟩

set_option maxHeartbeats 4000000 in
set_option maxRecDepth 100000 in
theorem fine_any (B q n N : Nat) (u : Value) (R : List Edg) (bq bn : Nat) (e : Edg) (s : Bool) (w : World) (h : Bx w B q n N u R bq bn) (hl : R.length ≤ 120) (hn : n ≤ 40) (hin : Inn n R) (hs : decide (nP n (rest R e) = N) = s) :
    Calls Tryz.prog 75 #[.int .i64 e.1, .pointer (some ⟨bq, 0, none⟩), .pointer (some ⟨bn, 0, none⟩)] w fun en w' => en = .returned (.bool s) ∧ Below w.heap.size w w' := by
  obtain ⟨x, hx⟩ : ∃ x, e.1 = x := ⟨_, rfl⟩
  have HX : Hid (Bx w B q n N u R bq bn ∧ Inn n R ∧ e.1 = x ∧ decide (nP n (rest R e) = N) = s) := ⟨h, hin, hx, hs⟩
  have HPK : Hid (∀ w', Below w.heap.size w w' → w'.cell? ⟨bq, 0, none⟩ = some (.pointer (some ⟨q, 0, none⟩)) ∧ w'.cell? ⟨bn, 0, none⟩ = some (.int .i64 (N : Int))) := fun w' hb => ⟨(h.below hb).cq, (h.below hb).cn⟩
  have HWO : Hid (Calls Tryz.prog 46 #[.pointer (some ⟨q, 0, none⟩), .slice (some ⟨w.heap.size, 0, none⟩) 1 1, .slice none 0 0] (w.alloc (.cells #[.int .i64 x] 3)).drew fun e' w' => ∃ q' v', e' = .returned (.pointer (some ⟨q', 0, none⟩)) ∧ G.GAt w' w.heap.size 33 55 q' (n : Int) v' (rest R e) ∧ Below w.heap.size w w') := by
    subst hx
    have hb2 : Below w.heap.size w (w.alloc (.cells #[.int .i64 e.1] 3)).drew := ((Below.refl _ _).alloc (Nat.le_refl _) _).drew
    have h1i : G.Ints (w.alloc (.cells #[.int .i64 e.1] 3)).drew (some ⟨w.heap.size, 0, none⟩) 1 (fun _ => e.1) := (one_id w e.1).below ((Below.refl _ _).drew)
    refine (G.rwithout_any (n : Int) B q u R _ none 1 0 1 0 (fun _ => e.1) (fun _ => 0) _ (h.ga.below hb2) hl h1i (no_id _) (by omega) (by omega)).mono ?_
    rintro e' w' ⟨q', v', rfl, hg', hb'⟩
    rw [rest_eq R e] at hg'
    exact ⟨q', v', rfl, ⟨hg'.hp, hg'.row.mono hb2.size, hg'.ne⟩, hb2.trans (hb'.mono hb2.size)⟩
  have HSB : Hid ((((nP n (rest R e) : Nat) : Int) == (N : Int)) = s) := by
    show _ = _
    rw [← hs]
    rw [Bool.eq_iff_iff, beq_iff_eq, decide_eq_true_iff]
    omega
  obtain ⟨a1, a2⟩ := HPK.out w (Below.refl _ _)
  obtain ⟨b1, b2⟩ := HPK.out w.drew (Below.refl _ _).drew
  obtain ⟨c1, c2⟩ := HPK.out (w.alloc (.cells #[.int .i64 x] 3)) ((Below.refl _ _).alloc (Nat.le_refl _) _)
  obtain ⟨d1, d2⟩ := HPK.out (w.alloc (.cells #[.int .i64 x] 3)).drew ((Below.refl _ _).alloc (Nat.le_refl _) _).drew
  rw [hx]
  clear h hin hx hs
  go_enter Tryz.func75, Tryz.ntmps75
  go_upto_region 1 with fail
  go_region_law
    (first
      | (go_simp; go_at_call 46; refine Calls.mono HWO.out ?_; rintro e' w2 ⟨q', v', rfl, hg2, hb2⟩; obtain ⟨m1, m2⟩ := HPK.out w2 hb2; have HG2 : Hid (G.GAt w2 w.heap.size 33 55 q' (n : Int) v' (rest R e) ∧ Below w.heap.size w w2) := ⟨hg2, hb2⟩; clear hg2 hb2)
      | (go_simp; go_at_call 47; refine (labels_good n w.heap.size q' v' (rest R e) w2 HG2.out.1 (Nat.le_trans (rest_len _ _) hl) hn (inn_rest HX.out.2.1 _)).mono ?_; rintro e' w3 ⟨b, l, rfl, hr, hbb, hgd, hlab, hb3⟩; have HW3 : Hid (Below w.heap.size w w3) := HG2.out.2.trans (hb3.mono HG2.out.2.size); obtain ⟨m3, m4⟩ := HPK.out w3 HW3.out; have HR3 : Hid (RowL w3 b l ∧ l.length = n ∧ nParts n l = nP n (rest R e)) := ⟨hr, hgd.len, by rw [lab_lbl hgd (inn_rest HX.out.2.1 _) hlab]; rfl⟩; clear hr hbb hlab hb3 hgd)
      | (go_simp; go_at_call 74; refine (parts_cnt b n l w3 HR3.out.1 HR3.out.2.1 hn).mono ?_; rintro e' w4 ⟨rfl, hw4⟩; subst hw4; rw [HR3.out.2.2]))
  all_goals
    go_wp2_with fail
    go_ret
    refine ⟨?_, HW3.out⟩
    simp [Act.put, HSB.out]

end Go.Proofs.YtigodbamphejmaaGreatDoor.S
