/- Package cycle: Of, up to what no two edges part. -/
import Derived.Test.YtigodbamphejmaaGreatVk
namespace Go.Proofs.YtigodbamphejmaaGreat.S
open Go.RowKit Go.WideMaps Go.Maps

/-- Which rings go round an edge. -/
def covB (n : Nat) (t o : List Edg) (e : Edg) (i : Nat) : Bool := if e ∈ t then tcov n t o e i else decide (o.getD i (0, 0, 0) = e)
def covN (n : Nat) (t o : List Edg) (e : Edg) : Nat := bitsN (covB n t o e) o.length

theorem bitsN_one {c : Nat → Bool} {k : Nat} : ∀ {m}, k < m → (∀ i, i < m → c i = decide (i = k)) → bitsN c m = 2 ^ k
  | 0, h, _ => by omega
  | m + 1, h, hc => by
    simp only [bitsN, hc m (by omega)]
    by_cases e : m = k
    · subst e
      have : bitsN c m = 0 := by
        have h2 : bitsN c m = bitsN (fun _ => false) m := bitsN_congr (fun i hi => by rw [hc i (by omega)]; exact decide_eq_false (by omega))
        rw [h2]
        clear h2 hc h
        induction m with
        | zero => rfl
        | succ m ih => simp [bitsN, ih]
      rw [this]; simp
    · rw [decide_eq_false e, bitsN_one (m := m) (by omega) (fun i hi => hc i (by omega))]; simp

theorem covN_other {n : Nat} {t o : List Edg} {k : Nat} {e : Edg} (hnd : o.Nodup) (hk : o[k]? = some e) (hne : e ∉ t) : covN n t o e = 2 ^ k := by
  obtain ⟨hlt, he⟩ := List.getElem?_eq_some_iff.1 hk
  refine bitsN_one hlt (fun i hi => ?_)
  unfold covB
  rw [if_neg hne]
  have h1 : o.getD i (0, 0, 0) = o[i] := by simp [hi]
  rw [h1, ← he]
  by_cases e2 : i = k
  · subst e2; simp
  · rw [decide_eq_false e2, decide_eq_false]
    intro c
    exact e2 ((List.getElem_inj hnd).1 c)

theorem covN_tree {n : Nat} {t o : List Edg} {e : Edg} (he : e ∈ t) : covN n t o e = bitsN (tcov n t o e) o.length :=
  bitsN_congr (fun i _ => by unfold covB; rw [if_pos he])

theorem take_one {L : List Edg} {k : Nat} {x : Edg} (h : L[k]? = some x) : L.take (k + 1) = L.take k ++ [x] := by
  obtain ⟨hlt, he⟩ := List.getElem?_eq_some_iff.1 h
  rw [List.take_succ_eq_append_getElem hlt, he]

theorem not_before {L : List Edg} {k : Nat} {x : Edg} (hnd : L.Nodup) (h : L[k]? = some x) : x ∉ L.take k := by
  intro hx
  obtain ⟨i, hi⟩ := List.getElem?_of_mem hx
  obtain ⟨hil, hie⟩ := List.getElem?_eq_some_iff.1 hi
  rw [List.length_take] at hil
  rw [List.getElem?_take_of_lt (by omega)] at hi
  obtain ⟨h1, h2⟩ := List.getElem?_eq_some_iff.1 hi
  obtain ⟨h3, h4⟩ := List.getElem?_eq_some_iff.1 h
  have := (List.getElem_inj hnd).1 (h2.trans h4.symm)
  omega

/-- What Of needs to know of its graph's edges. -/
structure Ok (n : Nat) (R : List Edg) : Prop where
  inn : InE n R
  nd : R.Nodup
  one : ∀ d ∈ R, ∀ e ∈ R, d.1 = e.1 → d = e
  wf : ∀ e ∈ R, (Lit.int .i64 e.1).wf = true
  len : R.length ≤ 60
  n16 : n ≤ 16

theorem Cv.base {w w1 W : World} {c mb rest : Nat} {S : List Edg} {f : Edg → Nat} (h : Cv w1 W c mb rest S f) (hb : Below w.heap.size w w1) : Cv w W c mb rest S f :=
  { h with lc := Nat.le_trans hb.size h.lc, lm := Nat.le_trans hb.size h.lm, below := hb.trans (h.below.mono hb.size) }

set_option maxHeartbeats 4000000 in
set_option maxRecDepth 100000 in
theorem cof_any (n B p : Nat) (v : Value) (R : List Edg) (L3 : List Nat) (w : World) (h : G.GAt w B 76 49 p (n : Int) v R) (hok : Ok n R)
    (hun : ∀ W c mb, Cv w W c mb (grw n R).2.length ((grw n R).2 ++ (grw n R).1) (covN n (grw n R).1 (grw n R).2) → Calls Tryz.prog 28 #[.pointer (some ⟨c, 0, none⟩), .pointer (some ⟨p, 0, none⟩)] W fun e w' => ∃ q bq, e = .returned (.pointer (some ⟨q, 0, none⟩)) ∧ SetsAt w' q bq L3 ∧ W.heap.size ≤ q ∧ W.heap.size ≤ bq ∧ Below W.heap.size W w') :
    Calls Tryz.prog 6 #[.pointer (some ⟨p, 0, none⟩)] w fun e w' => ∃ c mb q bq, e = .returned (.pointer (some ⟨c, 0, none⟩)) ∧ Cv w w' c mb (grw n R).2.length ((grw n R).2 ++ (grw n R).1) (covN n (grw n R).1 (grw n R).2) ∧ w'.heap[c]? = some (.cells #[.int .i64 ((grw n R).2.length : Int), .map (some mb), .pointer (some ⟨q, 0, none⟩)] 63) ∧ SetsAt w' q bq L3 := by
  have HG : Hid (G.GAt w B 76 49 p (n : Int) v R ∧ Ok n R) := ⟨h, hok⟩
  have HU : Hid (∀ W c mb, Cv w W c mb (grw n R).2.length ((grw n R).2 ++ (grw n R).1) (covN n (grw n R).1 (grw n R).2) → Calls Tryz.prog 28 #[.pointer (some ⟨c, 0, none⟩), .pointer (some ⟨p, 0, none⟩)] W fun e w' => ∃ q bq, e = .returned (.pointer (some ⟨q, 0, none⟩)) ∧ SetsAt w' q bq L3 ∧ W.heap.size ≤ q ∧ W.heap.size ≤ bq ∧ Below W.heap.size W w') := hun
  have HGR : Hid (Gr n R (grw n R).1 (grw n R).2) := gr_all R hok.nd hok.inn.nodes
  have hn16 := hok.n16
  have hlen := hok.len
  clear h hok hun
  go_enter Tryz.func6, Tryz.ntmps6
  go_wp2_with fail
  refine (grow_any n B p v R w HG.out.1 (by omega) HG.out.2.inn HG.out.2.nd (by omega)).mono ?_
  rintro e w1 ⟨vt, vo, B1, rfl, hot, hoo, hB1, hb1⟩
  obtain ⟨t, ht⟩ : ∃ t, (grw n R).1 = t := ⟨_, rfl⟩
  obtain ⟨o, ho⟩ : ∃ o, (grw n R).2 = o := ⟨_, rfl⟩
  rw [ht, ho] at HU HGR
  rw [ht] at hot
  rw [ho] at hoo
  have HTO : Hid ((grw n R).1 = t ∧ (grw n R).2 = o) := ⟨ht, ho⟩
  have HO : Hid (G.Owns w1 B1 49 vt t ∧ G.Owns w1 B1 49 vo o ∧ Below w.heap.size w w1) := ⟨hot, hoo, hb1⟩
  obtain ⟨mt, hmt⟩ : ∃ mt, t.length = mt := ⟨_, rfl⟩
  obtain ⟨mo, hmo⟩ : ∃ mo, o.length = mo := ⟨_, rfl⟩
  have HM : Hid (t.length = mt ∧ o.length = mo) := ⟨hmt, hmo⟩
  have hsum : mt + mo ≤ 60 := by have := HGR.out.len; omega
  obtain ⟨ta, tc, hvt⟩ := hot.slice_len
  obtain ⟨oa, oc, hvo⟩ := hoo.slice_len
  rw [hmt] at hvt
  rw [hmo] at hvo
  subst hvt
  subst hvo
  have hmm := @run_makeMap Tryz.prog
  have HIO : Hid (InE n o ∧ InE n t ∧ o.Nodup ∧ t.Nodup ∧ (∀ e ∈ o, e ∉ t) ∧ (∀ e ∈ o ++ t, e ∈ R)) := ⟨HG.out.2.inn.sub (fun e he => (HGR.out.mem e).2 (.inr he)), HG.out.2.inn.sub (fun e he => (HGR.out.mem e).2 (.inl he)), HG.out.2.nd.sublist HGR.out.osub, HG.out.2.nd.sublist HGR.out.tsub, fun e he k => HGR.out.forest.apart e k he, fun e he => (HGR.out.mem e).2 ((List.mem_append.1 he).symm)⟩
  clear ht ho hot hoo hb1 hmt hmo
  have HC0 : Hid (Cv w1 ((w1.alloc (.map #[] 0)).alloc (.cells #[.int .i64 (mo : Int), .map (some w1.heap.size), .pointer none] 63)) (w1.heap.size + 1) w1.heap.size mo (o.take 0) (covN n t o)) := by
    have h1 : Below w1.heap.size w1 (w1.alloc (.map #[] 0)) := (Below.refl _ _).alloc (Nat.le_refl _) _
    have h2 : Below (w1.alloc (.map #[] 0)).heap.size (w1.alloc (.map #[] 0)) ((w1.alloc (.map #[] 0)).alloc (.cells #[.int .i64 (mo : Int), .map (some w1.heap.size), .pointer none] 63)) := (Below.refl _ _).alloc (Nat.le_refl _) _
    have h3 := heap_alloc_new (w1.alloc (.map #[] 0)) (.cells #[.int .i64 (mo : Int), .map (some w1.heap.size), .pointer none] 63)
    rw [World.size_alloc] at h3
    exact ⟨⟨_, h3⟩, ⟨_, 0, (World.ownsMap_made w1 Tryz.prog 3 ringR).alloc _, Rm.start _, rfl⟩, by omega, by omega, Nat.le_refl _, h1.trans (h2.mono h1.size)⟩
  obtain ⟨mb, hmb⟩ : ∃ mb, w1.heap.size = mb := ⟨_, rfl⟩
  go_wp2_with fail
  rw [hmb] at HC0
  have HMB : Hid (w1.heap.size = mb) := hmb
  clear hmm hmb
  go_loopw [23] (fun s23 wq => ∃ k : Nat, k ≤ mo ∧ s23 = .int .i64 k ∧ Cv w1 wq (mb + 1) mb mo (o.take k) (covN n t o)) (fun s23 _ => mo - (intOf s23).toNat)
  case atStart => exact ⟨0, Nat.zero_le _, rfl, HC0.out⟩
  case round =>
    clear HC0
    obtain ⟨k, hk, rfl, hcv⟩ := hrel
    have HC : Hid (Cv w1 wr (mb + 1) mb mo (o.take k) (covN n t o)) := hcv
    clear hcv
    by_cases hlt : k < mo
    · as_aux_lemma =>
      obtain ⟨x0, xa, xb, hx, han, hbn, hxa, hxb⟩ := row_edge HIO.out.1 (by rw [HM.out.2]; exact hlt)
      obtain ⟨g', rfl⟩ := owns_block HO.out.2.1 (by rw [HM.out.2]; exact hlt)
      obtain ⟨r0, r1, r2⟩ := (HO.out.2.1.below HC.out.below).at (g := g') rfl hx
      have r0' : wr.cell? ⟨g', k * 3, none⟩ = some (.int .i64 x0) := r0
      have r1' : wr.cell? ⟨g', k * 3 + 1, none⟩ = some (.int .i64 (xa : Int)) := r1
      have r2' : wr.cell? ⟨g', k * 3 + 2, none⟩ = some (.int .i64 (xb : Int)) := r2
      have hxm : (x0, (xa : Int), (xb : Int)) ∈ o := List.mem_of_getElem? hx
      have HX : Hid (o[k]? = some (x0, (xa : Int), (xb : Int)) ∧ covN n t o (x0, (xa : Int), (xb : Int)) = 2 ^ k) := ⟨hx, covN_other HIO.out.2.2.1 hx (HIO.out.2.2.2.2.1 _ hxm)⟩
      have HN : Hid (∀ d ∈ o.take k, d.1 ≠ x0) := fun d hd e => by
        have := HG.out.2.one d (HIO.out.2.2.2.2.2 d (List.mem_append_left _ (List.mem_of_mem_take hd))) _ (HIO.out.2.2.2.2.2 _ (List.mem_append_left _ hxm)) e
        rw [this] at hd
        exact not_before HIO.out.2.2.1 hx hd
      have hwf : (Lit.int .i64 x0).wf = true := HG.out.2.wf _ (HIO.out.2.2.2.2.2 _ (List.mem_append_left _ hxm))
      clear r0 r1 r2 hx hxa hxb hxm
      have hring : RingAt ((wr.alloc (.cells #[.int .i64 x0, .int .i64 (xa : Int), .int .i64 (xb : Int)] 49)).alloc (.cells #[.int .u64 0, .int .u64 0] 66)) (wr.heap.size + 1) 0 := by
        have := heap_alloc_new (wr.alloc (.cells #[.int .i64 x0, .int .i64 (xa : Int), .int .i64 (xb : Int)] 49)) (.cells #[.int .u64 0, .int .u64 0] 66)
        rw [World.size_alloc] at this
        exact this
      have HR : Hid (RingAt ((wr.alloc (.cells #[.int .i64 x0, .int .i64 (xa : Int), .int .i64 (xb : Int)] 49)).alloc (.cells #[.int .u64 0, .int .u64 0] 66)) (wr.heap.size + 1) 0) := hring
      clear hring
      go_wp2_with fail
      refine (put_any (wr.heap.size + 1) k 0 _ HR.out (by omega) (Nat.two_pow_pos k)).mono ?_
      rintro e w3 ⟨rfl, hr3, hb3⟩
      rw [Nat.zero_add] at hr3
      have hbel : Below wr.heap.size wr w3 := (((Below.refl _ _).alloc (Nat.le_refl _) _).alloc (by simp) _).trans (hb3.below (by omega) (by simp; omega))
      have hbx : w3.heap[wr.heap.size]? = some (.cells #[.int .i64 x0, .int .i64 (xa : Int), .int .i64 (xb : Int)] 49) := by
        rw [hb3.block wr.heap.size (by simp; omega) (by omega), Below.heap_alloc _ _ _ (by simp)]
        exact heap_alloc_new wr _
      have HC3 : Hid (Cv w1 w3.drew (mb + 1) mb mo (o.take k) (covN n t o)) := HC.out.below' (hbel.trans ((Below.refl _ _).drew.mono hbel.size))
      obtain ⟨w4, hup, hcv4, _⟩ := HC3.out.more (x0, (xa : Int), (xb : Int)) HN.out hwf (by rw [List.length_take]; omega)
      rw [HX.out.2] at hup
      rw [← take_one HX.out.1] at hcv4
      have HC4 : Hid (Cv w1 w4 (mb + 1) mb mo (o.take (k + 1)) (covN n t o)) := hcv4
      have d1 := (HC.out.below' hbel).cell1
      have q0 : w3.cell? ⟨wr.heap.size, 0, none⟩ = some (.int .i64 x0) := by simp [World.cell?, hbx]
      have s0 : w3.cell? ⟨wr.heap.size + 1, 0, none⟩ = some (.int .u64 ((2 ^ k : Nat) : Int)) := by simp [World.cell?, hr3]
      have s1 : w3.cell? ⟨wr.heap.size + 1, 1, none⟩ = some (.int .u64 0) := by simp [World.cell?, hr3]
      unfold ringV at hup
      obtain ⟨Y, hY⟩ : ∃ Y : Nat, 2 ^ k = Y := ⟨_, rfl⟩
      rw [hY] at hup s0
      simp only at hup
      clear hr3 hb3 hbel hbx HC3 hcv4 HR HC r0' r1' r2' hY
      go_upto_region 8 with fail
      go_region
      all_goals
        go_wp2_with fail
        go_roundw
        case rel => exact ⟨k + 1, by omega, by go_num, HC4.out⟩
        case measure => simp [intOf]; omega
    · have hke : k = mo := by omega
      have HC1 : Hid (Cv w1 wr (mb + 1) mb mo (o ++ t.take 0) (covN n t o)) := by
        have h2 := HC.out
        rw [hke, ← HM.out.2, List.take_length, HM.out.2] at h2
        rw [List.take_zero, List.append_nil]
        exact h2
      clear HC hke
      go_wp2_with fail
      go_loopw [40] (fun s40 wq => ∃ j : Nat, j ≤ mt ∧ s40 = .int .i64 j ∧ Cv w1 wq (mb + 1) mb mo (o ++ t.take j) (covN n t o)) (fun s40 _ => mt - (intOf s40).toNat)
      case atStart => exact ⟨0, Nat.zero_le _, rfl, HC1.out⟩
      case round =>
        clear HC1
        obtain ⟨j, hj, rfl, hcv⟩ := hrel
        have HC : Hid (Cv w1 wr (mb + 1) mb mo (o ++ t.take j) (covN n t o)) := hcv
        clear hcv
        by_cases hltj : j < mt
        · as_aux_lemma =>
          obtain ⟨x0, xa, xb, hx, han, hbn, hxa, hxb⟩ := row_edge HIO.out.2.1 (by rw [HM.out.1]; exact hltj)
          obtain ⟨g', rfl⟩ := owns_block HO.out.1 (by rw [HM.out.1]; exact hltj)
          obtain ⟨r0, r1, r2⟩ := (HO.out.1.below HC.out.below).at (g := g') rfl hx
          have r0' : wr.cell? ⟨g', j * 3, none⟩ = some (.int .i64 x0) := r0
          have r1' : wr.cell? ⟨g', j * 3 + 1, none⟩ = some (.int .i64 (xa : Int)) := r1
          have r2' : wr.cell? ⟨g', j * 3 + 2, none⟩ = some (.int .i64 (xb : Int)) := r2
          have hxm : (x0, (xa : Int), (xb : Int)) ∈ t := List.mem_of_getElem? hx
          have hwf : (Lit.int .i64 x0).wf = true := HG.out.2.wf _ (HIO.out.2.2.2.2.2 _ (List.mem_append_right _ hxm))
          have HN : Hid (∀ d ∈ o ++ t.take j, d.1 ≠ x0) := fun d hd e => by
            have hdR : d ∈ R := HIO.out.2.2.2.2.2 d (by
              rcases List.mem_append.1 hd with h1 | h1
              · exact List.mem_append_left _ h1
              · exact List.mem_append_right _ (List.mem_of_mem_take h1))
            have := HG.out.2.one d hdR _ (HIO.out.2.2.2.2.2 _ (List.mem_append_right _ hxm)) e
            rw [this] at hd
            rcases List.mem_append.1 hd with h1 | h1
            · exact HIO.out.2.2.2.2.1 _ h1 hxm
            · exact not_before HIO.out.2.2.2.1 hx h1
          have hbel : Below wr.heap.size wr ((wr.alloc (.cells #[.int .i64 x0, .int .i64 (xa : Int), .int .i64 (xb : Int)] 49)).drew) := ((Below.refl _ _).alloc (Nat.le_refl _) _).drew
          have HC2 : Hid (Cv w1 ((wr.alloc (.cells #[.int .i64 x0, .int .i64 (xa : Int), .int .i64 (xb : Int)] 49)).drew) (mb + 1) mb mo (o ++ t.take j) (covN n t o)) := HC.out.below' hbel
          have HT : Hid (Calls Tryz.prog 27 #[.int .i64 (n : Int), .slice (some ⟨g', 0, none⟩) mt tc, .agg #[.int .i64 x0, .int .i64 (xa : Int), .int .i64 (xb : Int)], .slice oa mo oc] ((wr.alloc (.cells #[.int .i64 x0, .int .i64 (xa : Int), .int .i64 (xb : Int)] 49)).drew) fun e w' => ∃ X W2, e = .returned (.agg #[.int .u64 (X : Int), .int .u64 0]) ∧ (w'.cell? ⟨mb + 1, 1, none⟩ = some (.map (some mb)) ∧ w'.cell? ⟨wr.heap.size, 0, none⟩ = some (.int .i64 x0) ∧ w'.cell? ⟨wr.heap.size, 1, none⟩ = some (.int .i64 (xa : Int)) ∧ w'.cell? ⟨wr.heap.size, 2, none⟩ = some (.int .i64 (xb : Int))) ∧ (Instr.mapUpdate 60 (.map (some mb)) (.int .i64 x0) (.agg #[.int .u64 (X : Int), .int .u64 0])).run Tryz.prog w' = .ok () W2 ∧ (W2.cell? ⟨mb + 1, 1, none⟩ = some (.map (some mb)) ∧ W2.cell? ⟨wr.heap.size, 0, none⟩ = some (.int .i64 x0) ∧ W2.cell? ⟨wr.heap.size, 1, none⟩ = some (.int .i64 (xa : Int)) ∧ W2.cell? ⟨wr.heap.size, 2, none⟩ = some (.int .i64 (xb : Int))) ∧ Hid (Cv w1 W2 (mb + 1) mb mo (o ++ t.take (j + 1)) (covN n t o))) := by
            have hq0 : ((wr.alloc (.cells #[.int .i64 x0, .int .i64 (xa : Int), .int .i64 (xb : Int)] 49)).drew).cell? ⟨wr.heap.size, 0, none⟩ = some (.int .i64 x0) := by simp
            have hq1 : ((wr.alloc (.cells #[.int .i64 x0, .int .i64 (xa : Int), .int .i64 (xb : Int)] 49)).drew).cell? ⟨wr.heap.size, 1, none⟩ = some (.int .i64 (xa : Int)) := by simp
            have hq2 : ((wr.alloc (.cells #[.int .i64 x0, .int .i64 (xa : Int), .int .i64 (xb : Int)] 49)).drew).cell? ⟨wr.heap.size, 2, none⟩ = some (.int .i64 (xb : Int)) := by simp
            have hmbl : mb < wr.heap.size := by
              obtain ⟨D, N, h1, _, _⟩ := HC.out.mp
              obtain ⟨es, clock, h1, _⟩ := h1
              exact lt_of_some h1
            refine (through_any n B1 B1 _ _ t o (x0, (xa : Int), (xb : Int)) _ (HO.out.1.below HC2.out.below) (HO.out.2.1.below HC2.out.below) HIO.out.2.1 HIO.out.1 hxm (by omega) (by rw [HM.out.1]; omega) (by rw [HM.out.2]; omega)).mono ?_
            rintro e w' ⟨rfl, hb'⟩
            have HC3 := HC2.out.below' hb'
            obtain ⟨W2, hup, hcv2, hgr⟩ := HC3.more (x0, (xa : Int), (xb : Int)) HN.out hwf (by rw [List.length_append, List.length_take, HM.out.2]; omega)
            rw [covN_tree hxm] at hup
            rw [List.append_assoc, ← take_one hx] at hcv2
            have k0 := cell_below hq0 hb'
            have k1 := cell_below hq1 hb'
            have k2 := cell_below hq2 hb'
            have kg : ∀ {i : Nat} {u : Value}, w'.cell? ⟨wr.heap.size, i, none⟩ = some u → W2.cell? ⟨wr.heap.size, i, none⟩ = some u := fun {i u} hk => by
              have hl := lt_of_cell hk
              simp only [World.cell?] at hk ⊢
              rw [hgr.block wr.heap.size hl (by simp; omega)]; exact hk
            exact ⟨_, W2, rfl, ⟨HC3.cell1, k0, k1, k2⟩, hup, ⟨hcv2.cell1, kg k0, kg k1, kg k2⟩, hcv2⟩
          have HG2 : Hid (G.GAt ((wr.alloc (.cells #[.int .i64 x0, .int .i64 (xa : Int), .int .i64 (xb : Int)] 49)).drew) B 76 49 p (n : Int) v R) := (HG.out.1.below HO.out.2.2).below HC2.out.below
          have hS0 : (((wr.alloc (.cells #[.int .i64 x0, .int .i64 (xa : Int), .int .i64 (xb : Int)] 49)).drew).cell? ⟨mb + 1, 1, none⟩ = some (.map (some mb)) ∧ ((wr.alloc (.cells #[.int .i64 x0, .int .i64 (xa : Int), .int .i64 (xb : Int)] 49)).drew).cell? ⟨wr.heap.size, 0, none⟩ = some (.int .i64 x0) ∧ ((wr.alloc (.cells #[.int .i64 x0, .int .i64 (xa : Int), .int .i64 (xb : Int)] 49)).drew).cell? ⟨wr.heap.size, 1, none⟩ = some (.int .i64 (xa : Int)) ∧ ((wr.alloc (.cells #[.int .i64 x0, .int .i64 (xa : Int), .int .i64 (xb : Int)] 49)).drew).cell? ⟨wr.heap.size, 2, none⟩ = some (.int .i64 (xb : Int))) := ⟨HC2.out.cell1, by simp, by simp, by simp⟩
          clear r0 r1 r2 hx hxa hxb hxm hbel HC2 HC HN
          go_upto_region 13 with fail
          clear r0' r1' r2'
          go_region_held (fun w' => (w'.cell? ⟨mb + 1, 1, none⟩ = some (.map (some mb)) ∧ w'.cell? ⟨wr.heap.size, 0, none⟩ = some (.int .i64 x0) ∧ w'.cell? ⟨wr.heap.size, 1, none⟩ = some (.int .i64 (xa : Int)) ∧ w'.cell? ⟨wr.heap.size, 2, none⟩ = some (.int .i64 (xb : Int)))) (with_reducible assumption)
            (first
            | (go_at_call 10; refine (G.nodes_any (n : Int) B p v R _ HG2.out).mono ?_; rintro e w' ⟨rfl, rfl⟩)
            | (go_at_call 27; refine HT.out.mono ?_; rintro e w' ⟨X, W2, rfl, hS1, hup, hS2, hcv2⟩))
          all_goals
            go_wp2_with fail
            go_roundw
            case rel => exact ⟨j + 1, by omega, by go_num, hcv2.out⟩
            case measure => simp [intOf]; omega
        · as_aux_lemma =>
          have HC1 : Hid (Cv w wr (mb + 1) mb mo (o ++ t) (covN n t o)) := by
            have hje : j = mt := by omega
            have h2 := HC.out
            rw [hje, ← HM.out.1, List.take_length] at h2
            exact h2.base HO.out.2.2
          have HUN : Hid _ := HU.out wr (mb + 1) mb (by rw [HM.out.2]; exact HC1.out)
          clear HC
          go_wp2_with fail
          refine Calls.mono HUN.out ?_
          rintro e w5 ⟨q, bq, rfl, hs5, hq5, hbq5, hb5⟩
          have HC5 : Hid (Cv w w5 (mb + 1) mb mo (o ++ t) (covN n t o)) := HC1.out.below' hb5
          obtain ⟨u2, hst⟩ := HC5.out.st
          have k2 : w5.cell? ⟨mb + 1, 2, none⟩ = some u2 := by simp [World.cell?, hst]
          have f2 : w5.frozen? ⟨mb + 1, 2, none⟩ = false := by simp [World.frozen?, hst]
          have hcl : mb + 1 < wr.heap.size := by obtain ⟨u, hu⟩ := HC1.out.st; exact lt_of_some hu
          have HF : Hid (Cv w (w5.setCell ⟨mb + 1, 2, none⟩ (.pointer (some ⟨q, 0, none⟩))) (mb + 1) mb mo (o ++ t) (covN n t o) ∧ (w5.setCell ⟨mb + 1, 2, none⟩ (.pointer (some ⟨q, 0, none⟩))).heap[mb + 1]? = some (.cells #[.int .i64 (mo : Int), .map (some mb), .pointer (some ⟨q, 0, none⟩)] 63) ∧ SetsAt (w5.setCell ⟨mb + 1, 2, none⟩ (.pointer (some ⟨q, 0, none⟩))) q bq L3) := by
            have hnew : (w5.setCell ⟨mb + 1, 2, none⟩ (.pointer (some ⟨q, 0, none⟩))).heap[mb + 1]? = some (.cells #[.int .i64 (mo : Int), .map (some mb), .pointer (some ⟨q, 0, none⟩)] 63) := by
              simp only [World.setCell, Array.getElem?_modify, hst]
              simp
            have hg : w5.grownBy (w5.setCell ⟨mb + 1, 2, none⟩ (.pointer (some ⟨q, 0, none⟩))) (some (mb + 1)) := ⟨rfl, rfl, rfl, by simp, fun k _ hne => Below.heap_setCell _ _ _ _ (fun e => hne (by rw [e]))⟩
            obtain ⟨D, N, h1, h2, h3⟩ := HC5.out.mp
            refine ⟨{ HC5.out with st := ⟨_, hnew⟩, mp := ⟨D, N, h1.kept hg (by simp), h2, h3⟩, below := HC5.out.below.grown hg HC5.out.below.size (fun j hj => by injection hj with hj; have := HC5.out.lc; omega) }, hnew, ?_⟩
            exact ⟨(Below.heap_setCell _ _ _ _ (show q ≠ mb + 1 by omega)).trans hs5.hp, (Below.heap_setCell _ _ _ _ (show bq ≠ mb + 1 by omega)).trans hs5.hb⟩
          clear hst hs5 hb5 HC5 HUN
          go_wp2_with fail
          go_ret
          refine ⟨mb + 1, mb, q, bq, rfl, ?_, ?_, HF.out.2.2⟩
          · rw [HTO.out.1, HTO.out.2, HM.out.2]; exact HF.out.1
          · rw [HTO.out.2, HM.out.2]; exact HF.out.2.1

end Go.Proofs.YtigodbamphejmaaGreat.S
