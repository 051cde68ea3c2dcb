/- SplitParts: the law's walk. -/
import Derived.Test.YtpkdpddillebfaaSp
import Derived.Test.YtpkdpddillebfaaFs
namespace Go.Proofs.Ytpkdpddillebfaa.S
open Go Go.ChangeMaps Go.MapKept Go.WideShapes
open Go.RowKit Go.WideMaps Go.Maps F

theorem bal {w W : World} {o : Obj} (h : Below w.heap.size w W) : Below w.heap.size w (W.alloc o) := h.alloc h.size o

theorem keep2 {W : World} {o : Obj} {k i l j : Nat} {x y : Value} (h : W.cell? ⟨k, i, none⟩ = some x ∧ W.cell? ⟨l, j, none⟩ = some y) : (W.alloc o).cell? ⟨k, i, none⟩ = some x ∧ (W.alloc o).cell? ⟨l, j, none⟩ = some y :=
  ⟨cell_below h.1 ((Below.refl _ _).alloc (Nat.le_refl _) _), cell_below h.2 ((Below.refl _ _).alloc (Nat.le_refl _) _)⟩

theorem keep2d {W : World} {o : Obj} {k i l j : Nat} {x y : Value} (h : W.drew.cell? ⟨k, i, none⟩ = some x ∧ W.drew.cell? ⟨l, j, none⟩ = some y) : (W.alloc o).drew.cell? ⟨k, i, none⟩ = some x ∧ (W.alloc o).drew.cell? ⟨l, j, none⟩ = some y := keep2 (W := W) h

theorem bool_of (p : Prop) : ∃ s : Bool, s = true ↔ p := ⟨@decide p (Classical.propDecidable p), by simp⟩

/-- None is found so far. -/
def NoneYet (R : List (Int × Int × Int)) (a b x y : Nat) : Prop := (∀ x' y', x' < x → y' < x' → ¬ DocP R a b x' y') ∧ ∀ y', y' < y → ¬ DocP R a b x y'

theorem NoneYet.next {R : List (Int × Int × Int)} {a b x y : Nat} (h : NoneYet R a b x y) (hn : ¬ DocP R a b x y) : NoneYet R a b x (y + 1) :=
  ⟨h.1, fun y' hy => by
    by_cases e : y' = y
    · rw [e]; exact hn
    · exact h.2 y' (by omega)⟩

theorem NoneYet.row {R : List (Int × Int × Int)} {a b x y : Nat} (h : NoneYet R a b x y) (hy : x ≤ y) : NoneYet R a b (x + 1) 0 :=
  ⟨fun x' y' hx hy' => by
    by_cases e : x' = x
    · subst e; exact h.2 y' (by omega)
    · exact h.1 x' y' (by omega) hy', fun y' hy' => by omega⟩

theorem NoneYet.end_ {R : List (Int × Int × Int)} {a b n y : Nat} (h : NoneYet R a b n y) (hp : PartP R n a b) : False := by
  obtain ⟨x, y, hy, hx, hd⟩ := part_doc.1 hp
  exact h.1 x y hx hy hd

set_option maxHeartbeats 8000000 in
set_option maxRecDepth 100000 in
theorem sparts_in (n0 : Int) (a0 : Option Addr) (bl off m cap : Nat) (ps : Nat → Int × Int) (w : World) (hm : m ≤ 40) (ha : 0 < m → a0 = some ⟨bl, off, none⟩) (hp : PairsAt w bl off m ps) (hbl : 0 < m → bl < w.heap.size) :
    Calls Try.prog 7 #[.int .i64 n0, .slice a0 m cap] w fun e w' => e = .returned (.bool true) ∧ Below w.heap.size w w' := by
  have h40 : ¬ ((40 : Int) < (m : Int)) := by omega
  have HMD : Hid (∀ W, Below w.heap.size w W → Calls Try.prog 17 #[.int .i64 n0, .slice a0 m cap] W (MadePost W)) := fun W hW => made_any n0 a0 bl off m cap ps W (by omega) ha ⟨fun i hi => (hW.cell (p := ⟨bl, off + i * 2, none⟩) (hbl (by omega))).trans (hp.a i hi), fun i hi => (hW.cell (p := ⟨bl, off + i * 2 + 1, none⟩) (hbl (by omega))).trans (hp.b i hi)⟩ (fun h => Nat.lt_of_lt_of_le (hbl h) hW.size)
  clear ha hp hbl
  go_enter Try.func7, Try.ntmps7
  go_wp2_with fail
  refine (parted_any w).mono ?_
  rintro e w1 ⟨rfl, hb1⟩
  have HB1 : Hid (Below w.heap.size w w1) := hb1
  clear hb1
  go_wp2_with fail
  refine Calls.mono (HMD.out w1 HB1.out) ?_
  rintro e w2 ⟨g, v, n, R, rfl, hga, hn0, hn14, hed, hb2⟩
  have HG : Hid (G.GAt w2 w1.heap.size 91 50 g (n : Int) v R ∧ Ed n 50 R ∧ Below w1.heap.size w1 w2) := ⟨hga, hed, hb2⟩
  obtain ⟨P, hP⟩ : ∃ P : Nat → Nat → Bool, ∀ a b, P a b = true ↔ PartP R n a b := ⟨fun a b => @decide _ (Classical.propDecidable (PartP R n a b)), fun a b => by simp⟩
  have HP : Hid (∀ a b, P a b = true ↔ PartP R n a b) := hP
  have HIN : Hid (Inn n R) := fun e he => by
    obtain ⟨x, y, hxy, hy, e1⟩ := hed.ends e he
    have ha : ea e = x := by rw [e1]; simp [ea]
    have hb : eb e = y := by rw [e1]; simp [eb]
    rw [ha, hb]
    refine ⟨by omega, hy, ?_, ?_⟩ <;> rw [e1]
  clear hga hed hb2 HMD hP
  go_wp2_with fail
  refine (spairs_any n w1.heap.size g v R P w2 HG.out.1 (by omega) HIN.out (by have := HG.out.2.1.len; omega) (fun a b _ _ => HP.out a b)).mono ?_
  rintro e w3 ⟨u3, rfl, ho3, hb3⟩
  obtain ⟨a3, c3, rfl, hc3⟩ := ho3.shape
  obtain ⟨M, hM⟩ : ∃ M, allK P n n = M := ⟨_, rfl⟩
  obtain ⟨mm, hmm⟩ : ∃ mm, M.length = mm := ⟨_, rfl⟩
  rw [hM, hmm] at hc3
  rw [hM, hmm]
  have HM : Hid (allK P n n = M ∧ M.length = mm) := ⟨hM, hmm⟩
  have HC3 : Hid (0 < mm → ∃ gp, a3 = some ⟨gp, 0, none⟩ ∧ ∀ j x, M[j]? = some x → w3.cell? ⟨gp, j * 2, none⟩ = some (.int .i64 (x.1 : Int)) ∧ w3.cell? ⟨gp, j * 2 + 1, none⟩ = some (.int .i64 (x.2 : Int))) := hc3
  have hmm2 : mm ≤ 1000 := by
    have h1 := allK_len P (n := n) (a := n)
    have h2 : n * n ≤ 14 * 14 := Nat.mul_le_mul hn14 hn14
    rw [← hmm, ← hM]; omega
  have HG3 : Hid (G.GAt w3 w1.heap.size 91 50 g (n : Int) v R ∧ Ed n 50 R ∧ Below w.heap.size w w3) := by
    have h1 := HB1.out
    have h2 := HG.out.2.2
    exact ⟨HG.out.1.below hb3, HG.out.2.1, (h1.trans (h2.mono h1.size)).trans (hb3.mono (Nat.le_trans h1.size h2.size))⟩
  clear ho3 hc3 hM hmm hb3 HG HB1 HIN
  go_wp2_with fail
  go_loopw [7] (fun s7 wq => ∃ i : Nat, i ≤ mm ∧ s7 = .int .i64 i ∧ Below w3.heap.size w3 wq) (fun s7 _ => mm - (intOf s7).toNat)
  case atStart => exact ⟨0, Nat.zero_le _, rfl, Below.refl _ _⟩
  case round =>
    obtain ⟨i, hi, rfl, hb⟩ := hrel
    have HB : Hid (Below w3.heap.size w3 wr) := hb
    clear hb
    obtain ⟨wy, hwy⟩ : ∃ wy, wy = wr := ⟨_, rfl⟩
    subst hwy
    by_cases hlt : i < mm
    · obtain ⟨gp, hgp, hcell⟩ := HC3.out (by omega)
      subst hgp
      obtain ⟨⟨a, b⟩, hab⟩ : ∃ x, M[i]? = some x := ⟨_, List.getElem?_eq_getElem (by rw [HM.out.2]; exact hlt)⟩
      obtain ⟨c1, c2⟩ := hcell i _ hab
      have c1 := cell_below c1 HB.out
      have c2 := cell_below c2 HB.out
      simp only at c1 c2
      have hmem := List.mem_of_getElem? hab
      rw [← HM.out.1] at hmem
      obtain ⟨hlt2, hbn, hPab⟩ := mem_all hmem
      have HPP : Hid (PartP R n a b) := (HP.out a b).1 hPab
      obtain ⟨W1, hW1⟩ : ∃ W1, W1 = wy.alloc (.cells #[.int .i64 (a : Int), .int .i64 (b : Int)] 31) := ⟨_, rfl⟩
      have hbx : W1.heap[wy.heap.size]? = some (.cells #[.int .i64 (a : Int), .int .i64 (b : Int)] 31) := by rw [hW1]; exact heap_alloc_new wy _
      have p0 : W1.cell? ⟨wy.heap.size, 0, none⟩ = some (.int .i64 (a : Int)) := by simp [World.cell?, hbx]
      have p1 : W1.cell? ⟨wy.heap.size, 1, none⟩ = some (.int .i64 (b : Int)) := by simp [World.cell?, hbx]
      have hbW : Below wy.heap.size wy W1 := by rw [hW1]; exact (Below.refl _ _).alloc (Nat.le_refl _) _
      have HBW : Hid (Below w3.heap.size w3 W1) := HB.out.trans (hbW.mono HB.out.size)
      have HW1 : Hid (wy.alloc (.cells #[.int .i64 (a : Int), .int .i64 (b : Int)] 31) = W1) := hW1.symm
      have HPRE : Hid (∀ k, i = k + 1 → ∃ a' b' : Nat, W1.cell? ⟨gp, k * 2, none⟩ = some (.int .i64 (a' : Int)) ∧ W1.cell? ⟨gp, k * 2 + 1, none⟩ = some (.int .i64 (b' : Int)) ∧ (a' < a ∨ (a' = a ∧ b' < b))) := fun k hk => by
        subst hk
        obtain ⟨⟨a', b'⟩, hp'⟩ : ∃ x, M[k]? = some x := ⟨_, List.getElem?_eq_getElem (by rw [HM.out.2]; omega)⟩
        obtain ⟨d1, d2⟩ := hcell k _ hp'
        have hs : lexLt (a', b') (a, b) := by
          refine all_step (P := P) (n := n) (k := k) ?_ ?_
          · rw [HM.out.1]; exact hp'
          · rw [HM.out.1]; exact hab
        exact ⟨a', b', cell_below d1 HBW.out, cell_below d2 HBW.out, hs⟩
      have hwa : (b : Int) > (a : Int) := by omega
      clear hcell hab hmem hPab hW1 hbx hbW
      go_upto_region 13 with fail
      rw [HW1.out]
      clear c1 c2
      go_cut [89] from 48 to 88 (fun s89 wx => s89 = .bool false ∧ Below W1.heap.size W1 wx)
      case first =>
        have hge : ¬ ((b : Int) ≤ (a : Int)) := by omega
        cases i with
        | zero =>
          as_aux_lemma =>
          go_quiet (fail)
          go_wp2_with fail
          go_meet
          case rel => exact ⟨rfl, below_drewN (Below.refl _ _) _⟩
        | succ k =>
          obtain ⟨a', b', d1, d2, hlx⟩ := HPRE.out k rfl
          have hk0 : (0 : Int) < (k : Int) + 1 := by omega
          have hwk : IntKind.i64.wrap ((k : Int) + 1 - 1) = (k : Int) := by rw [IntKind.wrap_i64]; omega
          have hk1 : (k : Int) + 1 - 1 = (k : Int) := by omega
          by_cases hea : a' = a
          · as_aux_lemma =>
            subst hea
            have hbb : ¬ ((b : Int) ≤ (b' : Int)) := by omega
            clear hlx
            go_quiet (fail)
            go_wp2_with fail
            go_meet
            case rel => exact ⟨rfl, below_drewN (Below.refl _ _) _⟩
          · as_aux_lemma =>
            have haa : ¬ ((a : Int) < (a' : Int)) := by omega
            have hae : ((a' : Int) == (a : Int)) = false := beq_eq_false_iff_ne.2 (by omega)
            clear hlx
            go_quiet (fail)
            go_wp2_with fail
            go_meet
            case rel => exact ⟨rfl, below_drewN (Below.refl _ _) _⟩
      case rest =>
        obtain ⟨rfl, hbc⟩ := hcut
        clear HPRE
        have q0 := cell_below p0 hbc
        have q1 := cell_below p1 hbc
        have HBC : Hid (Below w3.heap.size w3 wc) := HBW.out.trans (hbc.mono HBW.out.size)
        obtain ⟨w4, hw4⟩ : ∃ w4, w4 = wc := ⟨_, rfl⟩
        subst hw4
        obtain ⟨bx, hbxe⟩ : ∃ bx, wy.heap.size = bx := ⟨_, rfl⟩
        rw [hbxe] at q0 q1 ⊢
        have HBXE : Hid (wy.heap.size = bx) := hbxe
        have HED : Hid (Ed n 50 R) := HG3.out.2.1
        have hRl := HG3.out.2.1.len
        have ht2 := two_edges HG3.out.2.1 HPP.out
        have HGX : Hid (∀ W, Below w3.heap.size w3 W → G.GAt W w1.heap.size 91 50 g (n : Int) v R) := fun W hW => HG3.out.1.below hW
        clear p0 p1 hbc HBW HW1 hbxe
        go_wp2_with fail
        refine (G.at_in (a : Int) (n : Int) w1.heap.size g v R w4 (HGX.out _ HBC.out) (by omega) ⟨by omega, by omega⟩).mono ?_
        rintro e w5 ⟨u5, rfl, ho5, hb5⟩
        obtain ⟨a5, c5, hu5⟩ := ho5.slice_len
        subst hu5
        obtain ⟨l5, hl5⟩ : ∃ l, (R.filter (G.ofNode (a : Int))).length = l := ⟨_, rfl⟩
        rw [hl5] at ht2 ⊢
        have HB5 : Hid (Below w3.heap.size w3 w5) := HBC.out.trans (hb5.mono HBC.out.size)
        have q0 := cell_below q0 hb5
        have q1 := cell_below q1 hb5
        clear ho5 hb5 hl5 HBC
        go_wp2_with fail
        refine (G.at_in (b : Int) (n : Int) w1.heap.size g v R w5 (HGX.out _ HB5.out) (by omega) ⟨by omega, by omega⟩).mono ?_
        rintro e w6 ⟨u6, rfl, ho6, hb6⟩
        obtain ⟨a6, c6, hu6⟩ := ho6.slice_len
        subst hu6
        obtain ⟨l6, hl6⟩ : ∃ l, (R.filter (G.ofNode (b : Int))).length = l := ⟨_, rfl⟩
        rw [hl6] at ht2 ⊢
        have HB6 : Hid (Below w3.heap.size w3 w6) := HB5.out.trans (hb6.mono HB5.out.size)
        have q0 := cell_below q0 hb6
        have q1 := cell_below q1 hb6
        have h52 : ¬ ((l5 : Int) < 2) := by omega
        have h62 : ¬ ((l6 : Int) < 2) := by omega
        clear ho6 hb6 hl6 HB5
        obtain ⟨W6, hW6⟩ : ∃ W6, W6 = w6.alloc (.cells #[.int .i64 (a : Int), .int .i64 (b : Int)] 3) := ⟨_, rfl⟩
        have hbW6 : Below w6.heap.size w6 W6 := by rw [hW6]; exact (Below.refl _ _).alloc (Nat.le_refl _) _
        have hn6 : W6.heap[w6.heap.size]? = some (.cells #[.int .i64 (a : Int), .int .i64 (b : Int)] 3) := by rw [hW6]; exact heap_alloc_new w6 _
        have HB6a : Hid (Below w3.heap.size w3 W6) := HB6.out.trans (hbW6.mono HB6.out.size)
        have HC6 : Hid _ := wo2_any (a := a) (b := b) (g1 := w6.heap.size) (HGX.out W6 HB6a.out) (by omega) (by simp [World.cell?, hn6]) (by simp [World.cell?, hn6])
        have HW6 : Hid (w6.alloc (.cells #[.int .i64 (a : Int), .int .i64 (b : Int)] 3) = W6) := hW6.symm
        have r0 := cell_below q0 hbW6
        have r1 := cell_below q1 hbW6
        clear hW6 hbW6 hn6
        go_wp2_with fail
        rw [HW6.out]
        refine Calls.mono HC6.out ?_
        rintro e w7 ⟨p7, v7, rfl, hg7, hb7⟩
        have HG7 : Hid (G.GAt w7 W6.heap.size 91 50 p7 (n : Int) v7 (wo2 R a b)) := hg7
        have HB7 : Hid (Below w3.heap.size w3 w7) := HB6a.out.trans (hb7.mono HB6a.out.size)
        have s0 := cell_below r0 hb7
        have s1 := cell_below r1 hb7
        clear hg7 hb7 HC6 q0 q1 r0 r1 HB6 HB6a HW6
        go_upto_region 21 with fail
        go_cut [15, 16] from 127 to 138 (fun s15 s16 wx => ∃ p1 p2 : Nat, s15 = .pointer (some ⟨p1, 0, none⟩) ∧ s16 = .pointer (some ⟨p2, 0, none⟩) ∧ Whl wx p1 n (wo1 R a) ∧ Whl wx p2 n (wo1 R b) ∧ Below w7.heap.size w7 wx)
        case first =>
          as_aux_lemma =>
          have HBD : Hid (Below w7.heap.size w7 w7.drew) := (Below.refl _ _).drew
          have hS0 : (w7.drew.cell? ⟨bx, 0, none⟩ = some (.int .i64 (a : Int)) ∧ w7.drew.cell? ⟨bx, 1, none⟩ = some (.int .i64 (b : Int))) := ⟨s0, s1⟩
          have HCX : ∀ c : Nat, Hid (∀ W g1, Below w7.heap.size w7 W → W.cell? ⟨g1, 0, none⟩ = some (.int .i64 (c : Int)) → Calls Try.prog 39 #[.pointer (some ⟨g, 0, none⟩), .slice none 0 0, .slice (some ⟨g1, 0, none⟩) 1 1] W fun e w' => ∃ p' : Nat, e = .returned (.pointer (some ⟨p', 0, none⟩)) ∧ (w'.cell? ⟨bx, 0, none⟩ = some (.int .i64 (a : Int)) ∧ w'.cell? ⟨bx, 1, none⟩ = some (.int .i64 (b : Int))) ∧ Hid (Below W.heap.size W w') ∧ Hid (∀ W2, Below w'.heap.size w' W2 → Calls Try.prog 18 #[.pointer (some ⟨p', 0, none⟩)] W2 fun e w'' => ∃ p'' : Nat, e = .returned (.pointer (some ⟨p'', 0, none⟩)) ∧ (w''.cell? ⟨bx, 0, none⟩ = some (.int .i64 (a : Int)) ∧ w''.cell? ⟨bx, 1, none⟩ = some (.int .i64 (b : Int))) ∧ Hid (Whl w'' p'' n (wo1 R c)) ∧ Hid (Below w7.heap.size w7 w'') ∧ Hid (Below W2.heap.size W2 w''))) := fun c W g1 hW hc => by
            have hW3 := HB7.out.trans (hW.mono HB7.out.size)
            refine (wo1_any (a := c) (HGX.out W hW3) (by omega) hc).mono ?_
            rintro e w' ⟨p', v', rfl, hg', hb'⟩
            have h7 : Below w7.heap.size w7 w' := hW.trans (hb'.mono hW.size)
            refine ⟨p', rfl, ⟨cell_below s0 h7, cell_below s1 h7⟩, hb', fun W2 hW2 => ?_⟩
            refine (whl_of (hg'.below hW2) hn14 (HED.out.filter _)).mono ?_
            rintro e w'' ⟨p'', rfl, hwh, hb''⟩
            have h8 : Below w7.heap.size w7 w'' := (h7.trans (hW2.mono h7.size)).trans (hb''.mono (h7.trans (hW2.mono h7.size)).size)
            exact ⟨p'', rfl, ⟨cell_below s0 h8, cell_below s1 h8⟩, hwh, h8, hb''⟩
          have HCa : Hid _ := HCX a
          have HCb : Hid _ := HCX b
          clear HCX s0 s1 HG7 HB7 HGX
          go_region_held (fun w' => (w'.cell? ⟨bx, 0, none⟩ = some (.int .i64 (a : Int)) ∧ w'.cell? ⟨bx, 1, none⟩ = some (.int .i64 (b : Int)))) (first | with_reducible assumption | (refine keep2 ?_; with_reducible assumption) | (refine keep2d ?_; with_reducible assumption))
            (first
            | (go_at_call 39; refine Calls.mono (HCa.out _ _ (by first | exact (bal (Below.refl _ _)).drew | exact (bal (bal (Below.refl _ _))).drew) (by simp; done)) ?_; rintro e wA ⟨pA, rfl, hSA, HKA, HNA⟩)
            | (go_at_call 39; refine Calls.mono (HCb.out _ _ (by first | exact HBO.out | exact bal HBO.out) (by first | (simp; done) | (refine cell_below ?_ HKO.out; simp; done) | (refine cell_below (cell_below ?_ HKA.out) HKO.out; simp; done))) ?_; rintro e wC ⟨pC, rfl, hSC, HKC, HNC⟩)
            | (go_at_call 18; refine Calls.mono (HNC.out _ (Below.refl _ _)) ?_; rintro e wE ⟨pE, rfl, hSE, HWE, HBE, HKE⟩)
            | (go_at_call 18; refine Calls.mono (HNA.out _ (by first | exact Below.refl _ _ | exact (Below.refl _ _).alloc (Nat.le_refl _) _)) ?_; rintro e wO ⟨pO, rfl, hSO, HWO, HBO, HKO⟩))
          all_goals
            go_wp2_with fail
            go_meet
            case rel =>
              refine ⟨pO, pE, rfl, rfl, ?_, HWE.out, HBE.out⟩
              first
              | exact (HWO.out.below HKC.out).below HKE.out
              | exact ((HWO.out.below ((Below.refl _ _).alloc (Nat.le_refl _) _)).below HKC.out).below HKE.out
        case rest =>
          obtain ⟨q1, q2, rfl, rfl, hw1, hw2, hbc⟩ := hcut
          have t0 := cell_below s0 hbc
          have t1 := cell_below s1 hbc
          have HW : Hid (Whl wc q1 n (wo1 R a) ∧ Whl wc q2 n (wo1 R b)) := ⟨hw1, hw2⟩
          have HC8 : Hid _ := whl_of (HG7.out.below hbc) hn14 (HED.out.filter _)
          have HB8 : Hid (Below w3.heap.size w3 wc) := HB7.out.trans (hbc.mono HB7.out.size)
          obtain ⟨wd, hwd⟩ : ∃ wd, wd = wc := ⟨_, rfl⟩
          subst hwd
          clear hw1 hw2 hbc HG7 HB7 s0 s1
          go_wp2_with fail
          refine Calls.mono HC8.out ?_
          rintro e w8 ⟨q3, rfl, hw3, hb8⟩
          have HWW : Hid (Whl w8 q1 n (wo1 R a) ∧ Whl w8 q2 n (wo1 R b) ∧ Whl w8 q3 n (wo2 R a b)) := ⟨HW.out.1.below hb8, HW.out.2.below hb8, hw3⟩
          have HB9 : Hid (Below w3.heap.size w3 w8) := HB8.out.trans (hb8.mono HB8.out.size)
          have t0 := cell_below t0 hb8
          have t1 := cell_below t1 hb8
          clear hw3 hb8 HW HC8 HB8
          go_wp2_with fail
          go_loopw [13, 18] (fun s13 s18 wq => ∃ (x : Nat) (fd : Bool), x ≤ n ∧ s18 = .int .i64 x ∧ s13 = .bool fd ∧ (fd = false → NoneYet R a b x 0) ∧ Below w8.heap.size w8 wq) (fun _ s18 _ => n - (intOf s18).toNat)
          case atStart => exact ⟨0, false, Nat.zero_le _, rfl, rfl, fun _ => ⟨fun x' y' hx => by omega, fun y' hy => by omega⟩, Below.refl _ _⟩
          case round =>
            obtain ⟨x, fd, hx, rfl, rfl, hny, hb⟩ := hrel
            have HNY : Hid (fd = false → NoneYet R a b x 0) := hny
            have HBX : Hid (Below w8.heap.size w8 wr) := hb
            obtain ⟨wx, hwx⟩ : ∃ wx, wx = wr := ⟨_, rfl⟩
            subst hwx
            have HB3x : Hid (Below w3.heap.size w3 wx) := HB9.out.trans (hb.mono HB9.out.size)
            clear hny hb
            go_wp2_with fail
            refine (G.nodes_any (n : Int) w1.heap.size g v R wx (HGX.out _ HB3x.out)).mono ?_
            rintro e wn ⟨rfl, hwn⟩
            subst hwn
            by_cases hxn : x < n
            · cases fd with
              | true =>
                as_aux_lemma =>
                have hyr := HBXE.out
                subst hyr
                go_wp2_with fail
                go_roundw
                case rel => exact ⟨i + 1, by omega, by go_num, HB3x.out⟩
                case measure => simp [intOf]; omega
              | false =>
                have HNX : Hid (NoneYet R a b x 0) := HNY.out rfl
                clear HNY
                go_wp2_with fail
                go_loopw [13, 19] (fun s13 s19 wq => ∃ (y : Nat) (fd : Bool), y ≤ x ∧ s19 = .int .i64 y ∧ s13 = .bool fd ∧ (fd = false → NoneYet R a b x y) ∧ Below w8.heap.size w8 wq) (fun _ s19 _ => x - (intOf s19).toNat)
                case atStart => exact ⟨0, false, Nat.zero_le _, rfl, rfl, fun _ => HNX.out, HBX.out⟩
                case round =>
                  clear HNX HBX HB3x
                  obtain ⟨y, fd, hy, rfl, rfl, hny, hb⟩ := hrel
                  have HNY : Hid (fd = false → NoneYet R a b x y) := hny
                  have HBY : Hid (Below w8.heap.size w8 wr) := hb
                  have v0 := cell_below t0 hb
                  have v1 := cell_below t1 hb
                  clear hny hb
                  by_cases hyx : y < x
                  · cases fd with
                    | true =>
                      as_aux_lemma =>
                      clear v0 v1
                      go_wp2_with fail
                      go_roundw
                      case rel => exact ⟨x + 1, true, by omega, by go_num, rfl, (fun h => by cases h), HBY.out⟩
                      case measure => simp [intOf]; omega
                    | false =>
                      have HNZ : Hid (NoneYet R a b x y) := HNY.out rfl
                      clear HNY
                      have HSKIP : Hid (¬ DocP R a b x y → ∀ W, Below w8.heap.size w8 W → ∃ (y' : Nat) (fd : Bool), y' ≤ x ∧ Value.int .i64 ((y : Int) + 1) = .int .i64 y' ∧ Value.bool false = .bool fd ∧ (fd = false → NoneYet R a b x y') ∧ Below w8.heap.size w8 W) := fun hd W hW => ⟨y + 1, false, by omega, by go_num, rfl, fun _ => HNZ.out.next hd, hW⟩
                      by_cases k1 : x = a
                      · as_aux_lemma =>
                        have HD : Hid (¬ DocP R a b x y) := fun h => h.1 (.inl k1)
                        have e1 : ((x : Int) == (a : Int)) = true := beq_iff_eq.2 (by omega)
                        clear k1
                        go_wp2_with fail
                        go_roundw
                        case rel => exact HSKIP.out HD.out _ HBY.out
                        case measure => simp [intOf]; omega
                      · have e1 : ((x : Int) == (a : Int)) = false := beq_eq_false_iff_ne.2 (by omega)
                        by_cases k2 : x = b
                        · as_aux_lemma =>
                          have HD : Hid (¬ DocP R a b x y) := fun h => h.1 (.inr (.inl k2))
                          have e2 : ((x : Int) == (b : Int)) = true := beq_iff_eq.2 (by omega)
                          clear k1 k2
                          go_wp2_with fail
                          go_roundw
                          case rel => exact HSKIP.out HD.out _ HBY.out
                          case measure => simp [intOf]; omega
                        · have e2 : ((x : Int) == (b : Int)) = false := beq_eq_false_iff_ne.2 (by omega)
                          by_cases k3 : y = a
                          · as_aux_lemma =>
                            have HD : Hid (¬ DocP R a b x y) := fun h => h.1 (.inr (.inr (.inl k3)))
                            have e3 : ((y : Int) == (a : Int)) = true := beq_iff_eq.2 (by omega)
                            clear k1 k2 k3
                            go_wp2_with fail
                            go_roundw
                            case rel => exact HSKIP.out HD.out _ HBY.out
                            case measure => simp [intOf]; omega
                          · have e3 : ((y : Int) == (a : Int)) = false := beq_eq_false_iff_ne.2 (by omega)
                            by_cases k4 : y = b
                            · as_aux_lemma =>
                              have HD : Hid (¬ DocP R a b x y) := fun h => h.1 (.inr (.inr (.inr k4)))
                              have e4 : ((y : Int) == (b : Int)) = true := beq_iff_eq.2 (by omega)
                              clear k1 k2 k3 k4
                              go_wp2_with fail
                              go_roundw
                              case rel => exact HSKIP.out HD.out _ HBY.out
                              case measure => simp [intOf]; omega
                            · as_aux_lemma =>
                              have e4 : ((y : Int) == (b : Int)) = false := beq_eq_false_iff_ne.2 (by omega)
                              obtain ⟨z1, hz1⟩ := bool_of (cnR (wo1 R a) x y)
                              obtain ⟨z2, hz2⟩ := bool_of (cnR (wo1 R b) x y)
                              obtain ⟨z3, hz3⟩ := bool_of (cnR (wo2 R a b) x y)
                              have HZ : Hid ((z1 = true ↔ cnR (wo1 R a) x y) ∧ (z2 = true ↔ cnR (wo1 R b) x y) ∧ (z3 = true ↔ cnR (wo2 R a b) x y)) := ⟨hz1, hz2, hz3⟩
                              have HDOC : Hid (DocP R a b x y ↔ z1 = true ∧ z2 = true ∧ ¬ z3 = true) := by
                                show DocP R a b x y ↔ _
                                rw [hz1, hz2, hz3, wo1_cn HED.out, wo1_cn HED.out, wo2_cn HED.out]
                                exact ⟨fun h => h.2, fun h => ⟨by omega, h⟩⟩
                              clear hz1 hz2 hz3 k1 k2 k3 k4
                              have HY1 : Hid _ := whl_any (HWW.out.1.below HBY.out) hxn (show y < n by omega) z1 HZ.out.1
                              go_wp2_with fail
                              refine Calls.mono HY1.out ?_
                              rintro e w9 ⟨rfl, hb9⟩
                              have HB10 : Hid (Below w8.heap.size w8 w9) := HBY.out.trans (hb9.mono HBY.out.size)
                              have HY2 : Hid _ := whl_any (HWW.out.2.1.below HB10.out) hxn (show y < n by omega) z2 HZ.out.2.1
                              clear hb9 HY1 v0 v1
                              go_wp2_with fail
                              refine Calls.mono HY2.out ?_
                              rintro e w10 ⟨rfl, hb10⟩
                              have HB11 : Hid (Below w8.heap.size w8 w10) := HB10.out.trans (hb10.mono HB10.out.size)
                              have HY3 : Hid _ := whl_any (HWW.out.2.2.below HB11.out) hxn (show y < n by omega) z3 HZ.out.2.2
                              clear hb10 HY2
                              go_wp2_with fail
                              refine Calls.mono HY3.out ?_
                              rintro e w11 ⟨rfl, hb11⟩
                              have HB12 : Hid (Below w8.heap.size w8 w11) := HB11.out.trans (hb11.mono HB11.out.size)
                              have HEND : Hid (∃ (y' : Nat) (fd : Bool), y' ≤ x ∧ Value.int .i64 ((y : Int) + 1) = .int .i64 y' ∧ Value.bool (z1 && z2 && !z3) = .bool fd ∧ (fd = false → NoneYet R a b x y') ∧ Below w8.heap.size w8 w11) :=
                                ⟨y + 1, _, by omega, by go_num, rfl, fun h => HNZ.out.next (fun hd => by
                                  obtain ⟨h1, h2, h3⟩ := HDOC.out.1 hd
                                  rw [h1, h2] at h
                                  simp at h
                                  exact h3 h), HB12.out⟩
                              clear hb11 HY3 HZ HDOC HSKIP
                              cases z1 <;> cases z2 <;> cases z3 <;>
                              (go_wp2_with fail
                               go_roundw
                               case rel => exact HEND.out
                               case measure => simp [intOf]; omega)
                  · have hye : x = y := by omega
                    subst hye
                    as_aux_lemma =>
                    have HE : Hid (∃ (x' : Nat) (fd' : Bool), x' ≤ n ∧ Value.int .i64 ((x : Int) + 1) = .int .i64 x' ∧ Value.bool fd = .bool fd' ∧ (fd' = false → NoneYet R a b x' 0) ∧ Below w8.heap.size w8 wr) :=
                      ⟨x + 1, fd, by omega, by go_num, rfl, fun h => (HNY.out h).row (Nat.le_refl _), HBY.out⟩
                    clear v0 v1
                    go_wp2_with fail
                    go_roundw
                    case rel => exact HE.out
                    case measure => simp [intOf]; omega
            · have hxe : x = n := by omega
              cases fd with
              | false =>
                exfalso
                have := HNY.out rfl
                rw [hxe] at this
                exact this.end_ HPP.out
              | true =>
                as_aux_lemma =>
                have hyr := HBXE.out
                subst hyr
                clear hxe
                go_wp2_with fail
                go_roundw
                case rel => exact ⟨i + 1, by omega, by go_num, HB3x.out⟩
                case measure => simp [intOf]; omega
    · go_wp2_with fail
      go_ret
      exact ⟨rfl, HG3.out.2.2.trans (HB.out.mono HG3.out.2.2.size)⟩

end Go.Proofs.Ytpkdpddillebfaa.S
