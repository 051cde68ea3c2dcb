/- The law GraphPlays: the walk. -/
import Derived.Test.YtmbkicdahalakaaDoorZb
import Derived.Test.YtmbkicdahalakaaDoorYe
import Derived.Deep.DeepCutAuto
import Derived.Deep.RegionHeld
namespace Go.Proofs.YtmbkicdahalakaaDoor
open Go.RowKit

/-- Steps that came in. -/
structure StepsAt (w : World) (bl off m : Nat) (ps : Nat → Int × Int × Int × Bool) : Prop where
  i : ∀ k, k < m → w.cell? ⟨bl, off + k * 4, none⟩ = some (.int .i64 (ps k).1)
  a : ∀ k, k < m → w.cell? ⟨bl, off + k * 4 + 1, none⟩ = some (.int .i64 (ps k).2.1)
  b : ∀ k, k < m → w.cell? ⟨bl, off + k * 4 + 2, none⟩ = some (.int .i64 (ps k).2.2.1)
  g : ∀ k, k < m → w.cell? ⟨bl, off + k * 4 + 3, none⟩ = some (.bool (ps k).2.2.2)

theorem two_start (w : World) (n : Int) : Two w ((w.alloc (.cells #[.int .i64 n, .slice none 0 0] 81)).alloc (.cells #[.int .i64 n, .slice none 0 0] 51)) 81 51 59 w.heap.size (w.heap.size + 1) n (.slice none 0 0) (.slice none 0 0) [] [] := by
  have hb1 := below_box w (.cells #[.int .i64 n, .slice none 0 0] 81)
  have hb2 := below_box (w.alloc (.cells #[.int .i64 n, .slice none 0 0] 81)) (.cells #[.int .i64 n, .slice none 0 0] 51)
  have hs : (w.alloc (.cells #[.int .i64 n, .slice none 0 0] 81)).heap.size = w.heap.size + 1 := by simp
  refine ⟨⟨?_, World.ownsRow_nil _ _ _ _, fun e => by cases e⟩, ⟨?_, World.ownsRow_nil _ _ _ _, fun e => by cases e⟩, by omega, fun e => by (cases e), fun e => by (cases e), Or.inl rfl, Nat.le_refl _, by omega, hb1.trans (hb2.mono (by omega))⟩
  · rw [hb2.block _ (by omega)]; exact heap_alloc_new w _
  · rw [← hs]; exact heap_alloc_new _ _

theorem Rnd.cells {w0 w : World} {p q : Nat} {n : Int} {v u : Value} {R L : List E} {xb : Nat} {x0 x1 x2 : Int} {g : Bool} (h : Rnd w0 w p q n v u R L xb #[.int .i64 x0, .int .i64 x1, .int .i64 x2, .bool g]) :
    w.cell? ⟨xb, 0, none⟩ = some (.int .i64 x0) ∧ w.cell? ⟨xb, 1, none⟩ = some (.int .i64 x1) ∧ w.cell? ⟨xb, 2, none⟩ = some (.int .i64 x2) := by
  refine ⟨?_, ?_, ?_⟩ <;> simp [World.cell?, h.hx]

theorem Two.gl {w0 w : World} {p q : Nat} {n : Int} {v u : Value} {R L : List E} (h : Two w0 w 81 51 59 p q n v u R L) (hg : Gl w0) : Gl w := hg.below h.below

set_option maxHeartbeats 400000 in
theorem other_a (w : World) : Calls Tryd.prog 29 #[.agg #[.int .i64 0, .int .i64 3, .int .i64 7], .int .i64 3] w fun e w' => e = .returned (.int .i64 7) ∧ Below w.heap.size w w' := by
  go_enter Tryd.func29, Tryd.ntmps29
  go_wp2
  go_ret
  exact ⟨rfl, below_box _ _⟩

set_option maxHeartbeats 400000 in
theorem other_b (w : World) : Calls Tryd.prog 29 #[.agg #[.int .i64 0, .int .i64 3, .int .i64 7], .int .i64 7] w fun e w' => e = .returned (.int .i64 3) ∧ Below w.heap.size w w' := by
  go_enter Tryd.func29, Tryd.ntmps29
  go_wp2
  go_ret
  exact ⟨rfl, below_box _ _⟩

set_option maxHeartbeats 8000000 in
set_option maxRecDepth 100000 in
theorem play_in (n : Int) (a : Option Addr) (bl off m cap : Nat) (ps : Nat → Int × Int × Int × Bool) (ae an : Option Addr) (me mn ce cn : Nat) (Fe Fn : Nat → Int) (w : World) (h0 : 0 ≤ n) (h40 : n ≤ 40) (hm : m ≤ 150) (hme : me ≤ 20) (hmn : mn ≤ 20) (hgl : Gl w)
    (ha : 0 < m → a = some ⟨bl, off, none⟩) (hps : StepsAt w bl off m ps) (hbl : 0 < m → bl < w.heap.size) (hie : Ints w ae me Fe) (hin : Ints w an mn Fn) :
    Calls Tryd.prog 4 #[.int .i64 n, .slice a m cap, .slice ae me ce, .slice an mn cn] w fun e w' => e = .returned (.bool true) ∧ Below w.heap.size w w' := by
  have g1 : ¬ ((150 : Int) < (m : Int)) := by omega
  have g2 : ¬ ((20 : Int) < (me : Int)) := by omega
  have g3 : ¬ ((20 : Int) < (mn : Int)) := by omega
  have g4 : ¬ n < 0 := by omega
  have g5 : ¬ 40 < n := by omega
  have HAA : Hid (0 < m → a = some ⟨bl, off, none⟩) := ha
  have HBL : Hid (0 < m → bl < w.heap.size) := hbl
  have HGL : Hid (Gl w) := hgl
  have HP : Hid (StepsAt w bl off m ps) := hps
  have HIE : Hid (Ints w ae me Fe) := hie
  have HIN : Hid (Ints w an mn Fn) := hin
  have HT0 : Hid (Two w ((w.alloc (.cells #[.int .i64 n, .slice none 0 0] 81)).alloc (.cells #[.int .i64 n, .slice none 0 0] 51)) 81 51 59 w.heap.size (w.heap.size + 1) n (.slice none 0 0) (.slice none 0 0) [] []) := two_start w n
  clear ha hbl hgl hps hie hin
  go_enter Tryd.func4, Tryd.ntmps4
  go_wp2_with fail
  refine (new_in n w h0 h40).mono ?_
  rintro e w1 ⟨rfl, rfl⟩
  go_wp2_with fail
  generalize hp : w.heap.size + 1 = qq at *
  clear hp
  go_loopg [12, 13, 14, 15, 16, 17, 18, 19, 20, 21, 22, 23] m (fun r s12 _ _ _ _ _ _ _ _ _ _ _ wq => ∃ k : Nat, s12 = .int .i64 k ∧ k + r = m ∧ ∃ v u R L, Inv R L ∧ Two w wq 81 51 59 w.heap.size qq n v u R L)
  case atStart => exact ⟨0, rfl, by omega, _, _, _, _, inv_nil, HT0.out⟩
  case round =>
    obtain ⟨k, rfl, hk, v, u, R, L, hinv, hT⟩ := hrel
    have HI : Hid (Inv R L) := hinv
    have HT : Hid (Two w wr 81 51 59 w.heap.size qq n v u R L) := hT
    clear hinv hT HT0
    by_cases hlt : k < m
    · have haa := HAA.out (by omega)
      have hbl := HBL.out (by omega)
      clear HAA HBL
      subst haa
      have hblr : ∀ o, wr.cell? ⟨bl, o, none⟩ = w.cell? ⟨bl, o, none⟩ := fun o => HT.out.below.cell (p := ⟨bl, o, none⟩) hbl
      have c0 := (hblr _).trans (HP.out.i k hlt)
      have c1 := (hblr _).trans (HP.out.a k hlt)
      have c2 := (hblr _).trans (HP.out.b k hlt)
      have c3 := (hblr _).trans (HP.out.g k hlt)
      generalize (ps k).1 = x0 at *
      generalize (ps k).2.1 = x1 at *
      generalize (ps k).2.2.1 = x2 at *
      generalize (ps k).2.2.2 = gn at *
      clear hblr
      obtain ⟨W1, hW1⟩ : ∃ W1, W1 = wr.alloc (.cells #[.int .i64 x0, .int .i64 x1, .int .i64 x2, .bool gn] 53) := ⟨_, rfl⟩
      obtain ⟨xb, hxb⟩ : ∃ xb, xb = wr.heap.size := ⟨_, rfl⟩
      have HR1 : Hid (Rnd w W1 w.heap.size qq n v u R L xb #[.int .i64 x0, .int .i64 x1, .int .i64 x2, .bool gn]) := by
        refine ⟨HT.out.below' ?_, ?_⟩
        · rw [hW1]; exact below_box wr _
        · rw [hW1, hxb]; exact heap_alloc_new wr _
      have c3' : W1.cell? ⟨xb, 3, none⟩ = some (.bool gn) := by simp [World.cell?, HR1.out.hx]
      have HW1 : Hid (wr.alloc (.cells #[.int .i64 x0, .int .i64 x1, .int .i64 x2, .bool gn] 53) = W1) := hW1.symm
      have HXB : Hid (wr.heap.size = xb) := hxb.symm
      clear hW1 hxb
      go_upto_region 13 with fail
      rw [HW1.out, HXB.out]
      go_upto_if 75 with fail
      go_cut [13] from 64 to 193 (fun s13 wx => s13 = .pointer (some ⟨xb, 0, none⟩) ∧ ∃ v' u' R' L', Inv R' L' ∧ Rnd w wx w.heap.size qq n v' u' R' L' xb #[.int .i64 x0, .int .i64 x1, .int .i64 x2, .bool gn])
      case first =>
        obtain ⟨d0, d1, d2⟩ := HR1.out.cells
        cases gn with
        | true =>
          as_aux_lemma =>
          have HR1d : Hid (Rnd w W1.drew w.heap.size qq n v u R L xb #[.int .i64 x0, .int .i64 x1, .int .i64 x2, .bool true]) := HR1.out.below' ⟨rfl, rfl, rfl, Nat.le_refl _, fun _ _ => rfl⟩
          go_wp2_with fail
          go_region_held (fun w' => w'.cell? ⟨xb, 0, none⟩ = some (.int .i64 x0)) (go_keep)
            (first
              | (go_at_call 17; refine (pdrop HR1d.out HI.out x0).mono ?_; rintro e w2 ⟨rfl, v2, hr2⟩; have k2 := hr2.cells.1; have HR2 : Hid (Rnd w w2 w.heap.size qq n v2 u R (dropL L x0) xb #[.int .i64 x0, .int .i64 x1, .int .i64 x2, .bool true]) := hr2; clear hr2)
              | (go_at_call 18; refine (rdrop HR2.out HI.out x0 rfl).mono ?_; rintro e w3 ⟨rfl, u3, R3, hr3, hi3⟩; have k3 := hr3.cells.1; have HR3 : Hid (Rnd w w3 w.heap.size qq n v2 u3 R3 (dropL L x0) xb #[.int .i64 x0, .int .i64 x1, .int .i64 x2, .bool true] ∧ Inv R3 (dropL L x0)) := ⟨hr3, hi3⟩; clear hr3 hi3)
              | (go_at_call 6; refine (bare_any _ _ _ (HR3.out.1.two.gl HGL.out) rfl).mono ?_; rintro e w4 ⟨rfl, hb4⟩; have k4 := (HR3.out.1.below' hb4).cells.1; have HR4 : Hid (Rnd w w4 w.heap.size qq n v2 u3 R3 (dropL L x0) xb #[.int .i64 x0, .int .i64 x1, .int .i64 x2, .bool true] ∧ Inv R3 (dropL L x0)) := ⟨HR3.out.1.below' hb4, HR3.out.2⟩; clear hb4))
          all_goals
            go_wp2_with fail
            go_meet
            case rel => exact ⟨rfl, _, _, _, _, HR4.out.2, HR4.out.1⟩
        | false =>
          as_aux_lemma =>
          have HR1d : Hid (Rnd w W1.drew w.heap.size qq n v u R L xb #[.int .i64 x0, .int .i64 x1, .int .i64 x2, .bool false]) := HR1.out.below' ⟨rfl, rfl, rfl, Nat.le_refl _, fun _ _ => rfl⟩
          obtain ⟨cc, M, hsp⟩ := addSpec_any L x0 x1 x2 n
          have HSP : Hid (AddSpec L x0 x1 x2 n cc M) := hsp
          clear hsp
          go_wp2_with fail
          go_region_held (fun w' => w'.cell? ⟨xb, 0, none⟩ = some (.int .i64 x0) ∧ w'.cell? ⟨xb, 1, none⟩ = some (.int .i64 x1) ∧ w'.cell? ⟨xb, 2, none⟩ = some (.int .i64 x2)) (go_keep)
            (first
              | (go_at_call 19; refine (padd HR1d.out HI.out x0 x1 x2 cc HSP.out).mono ?_; rintro e w2 ⟨rfl, v2, hr2⟩; have k2 := hr2.cells; have HR2 : Hid (Rnd w w2 w.heap.size qq n v2 u R M xb #[.int .i64 x0, .int .i64 x1, .int .i64 x2, .bool false]) := hr2; clear hr2)
              | (go_at_call 20; refine (radd HR2.out HI.out h0 h40 x0 x1 x2 cc HSP.out).mono ?_; rintro e w3 ⟨rfl, u3, R3, hr3, hi3⟩; have k3 := hr3.cells; have HR3 : Hid (Rnd w w3 w.heap.size qq n v2 u3 R3 M xb #[.int .i64 x0, .int .i64 x1, .int .i64 x2, .bool false] ∧ Inv R3 M) := ⟨hr3, hi3⟩; clear hr3 hi3)
              | (go_at_call 6; refine (bare_any _ _ _ (HR3.out.1.two.gl HGL.out) rfl).mono ?_; rintro e w4 ⟨rfl, hb4⟩; have k4 := (HR3.out.1.below' hb4).cells; have HR4 : Hid (Rnd w w4 w.heap.size qq n v2 u3 R3 M xb #[.int .i64 x0, .int .i64 x1, .int .i64 x2, .bool false] ∧ Inv R3 M) := ⟨HR3.out.1.below' hb4, HR3.out.2⟩; clear hb4))
          all_goals
            go_wp2_with fail
            go_meet
            case rel => exact ⟨rfl, _, _, _, _, HR4.out.2, HR4.out.1⟩
      case rest =>
        obtain ⟨rfl, v', u', R', L', hinv, hR⟩ := hcut
        have HI2 : Hid (Inv R' L') := hinv
        have HR2 : Hid (Rnd w wc w.heap.size qq n v' u' R' L' xb #[.int .i64 x0, .int .i64 x1, .int .i64 x2, .bool gn]) := hR
        obtain ⟨d0, d1, d2⟩ := hR.cells
        clear hinv hR HI HT HR1 HW1 HXB c0 c1 c2 c3 c3' HP
        obtain ⟨⟨y0, y1, y2⟩, hy⟩ : ∃ y, seenE L' x0 = y := ⟨_, rfl⟩
        obtain ⟨c, hc⟩ : ∃ c, dropC L' x0 = c := ⟨_, rfl⟩
        have HY : Hid (seenE L' x0 = (y0, y1, y2) ∧ dropC L' x0 = c) := ⟨hy, hc⟩
        clear hy hc
        go_wp2_with fail
        refine (pedge HR2.out HI2.out x0 y0 y1 y2 c HY.out.1 HY.out.2).mono ?_
        rintro e w2 ⟨er, rfl, her, hb⟩
        have HER : Hid (er = errV c) := her
        have HR3 : Hid (Rnd w w2 w.heap.size qq n v' u' R' L' xb #[.int .i64 x0, .int .i64 x1, .int .i64 x2, .bool gn]) := HR2.out.below' hb
        clear hb her HR2 d0 d1 d2
        obtain ⟨WA, hWA⟩ : ∃ WA, WA = w2.alloc (.cells #[.int .i64 y0, .int .i64 y1, .int .i64 y2] 59) := ⟨_, rfl⟩
        obtain ⟨WB, hWB⟩ : ∃ WB, WB = WA.alloc (.cells #[.int .i64 0, .int .i64 0, .int .i64 0] 59) := ⟨_, rfl⟩
        obtain ⟨wb, hwb⟩ : ∃ wb, wb = w2.heap.size + 1 := ⟨_, rfl⟩
        have hsA : WA.heap.size = wb := by rw [hWA, hwb]; simp
        have hsB : WB.heap.size = wb + 1 := by rw [hWB]; simp [hsA]
        have hbA : Below w2.heap.size w2 WA := by rw [hWA]; exact below_box w2 _
        have hbB : Below WA.heap.size WA WB := by rw [hWB]; exact below_box WA _
        have HRA : Hid (Rnd w WA w.heap.size qq n v' u' R' L' xb #[.int .i64 x0, .int .i64 x1, .int .i64 x2, .bool gn]) := HR3.out.below' hbA
        have HRB : Hid (Rnd w WB w.heap.size qq n v' u' R' L' xb #[.int .i64 x0, .int .i64 x1, .int .i64 x2, .bool gn]) := HRA.out.below' hbB
        have HEB : Hid (WA.heap[w2.heap.size]? = some (.cells #[.int .i64 y0, .int .i64 y1, .int .i64 y2] 59)) := by rw [hWA]; exact heap_alloc_new w2 _
        have HWB0 : Hid (WB.heap[wb]? = some (.cells #[.int .i64 0, .int .i64 0, .int .i64 0] 59)) := by rw [hWB, ← hsA]; exact heap_alloc_new WA _
        have HWW : Hid ((w2.alloc (.cells #[.int .i64 y0, .int .i64 y1, .int .i64 y2] 59)).alloc (.cells #[.int .i64 0, .int .i64 0, .int .i64 0] 59) = WB) := by
          show _ = WB
          rw [hWB, hWA]
        have HSA : Hid (WA.heap.size = wb ∧ WB.heap.size = wb + 1 ∧ w2.heap.size < wb) := ⟨hsA, hsB, by omega⟩
        have HBB : Hid (Below wb WA WB) := by rw [← hsA]; exact hbB
        have HWBE : Hid (w2.heap.size + 1 = wb) := hwb.symm
        clear hWA hWB hsA hsB hbA hbB hwb HR3
        go_wp2_with fail
        rw [HWW.out, HWBE.out]
        refine (sorted_any w.heap.size qq n u' R' L' WB HRB.out.two.ra HI2.out).mono ?_
        rintro e w4 ⟨sv, rfl, hso, hb4⟩
        obtain ⟨sa, sc, hsv⟩ := hso.slice_len
        obtain ⟨m2, hm2⟩ : ∃ m2, m2 = L'.length := ⟨_, rfl⟩
        have HM2 : Hid (m2 = L'.length) := hm2
        rw [← hm2] at hsv
        subst hsv
        have hm2b : m2 ≤ 120 := by rw [hm2]; exact HI2.out.len
        have HMID : Hid (Mid WA w4 w4 wb (.slice sa m2 sc) (.slice none 0 0) L' [] (0, 0, 0)) := by
          refine ⟨?_, ?_, World.ownsRow_nil _ _ _ _, ?_, Nat.le_refl _⟩
          · rw [hb4.block wb (by rw [HSA.out.2.1]; omega)]; exact HWB0.out
          · have := hso
            rw [HSA.out.2.1] at this
            exact this
          · exact HBB.out.trans (hb4.mono (by rw [HSA.out.2.1]; omega))
        have HWL : Hid (wb < w4.heap.size ∧ ∀ k, (Value.slice sa m2 sc).ownBlock = some k → k < w4.heap.size) := ⟨by have := hb4.size; rw [HSA.out.2.1] at this; omega, fun k hk => (World.ownsRow.lt hso k hk).2⟩
        have HXC : Hid (∀ wq, Below wb WA wq → wq.cell? ⟨xb, 0, none⟩ = some (.int .i64 x0) ∧ wq.cell? ⟨xb, 1, none⟩ = some (.int .i64 x1)) := by
          intro wq hq
          have hlt : xb < wb := by have := lt_of_some HRA.out.hx; rw [HSA.out.1] at this; exact this
          have hb' : wq.heap[xb]? = some (.cells #[.int .i64 x0, .int .i64 x1, .int .i64 x2, .bool gn] 53) := by rw [hq.block xb hlt]; exact HRA.out.hx
          exact ⟨by simp [World.cell?, hb'], by simp [World.cell?, hb']⟩
        clear hso hb4 hm2 HRB HWB0 HWW HBB HWBE
        go_wp2_with fail
        go_loopg [16, 19, 20] m2 (fun r s16 s19 s20 wq => ∃ k2 : Nat, s20 = .int .i64 k2 ∧ k2 + r = m2 ∧ s16 = .int .i64 (dropC (L'.take k2) x0) ∧ ∃ ta tm tc, s19 = .slice ta tm tc ∧ Mid WA w4 wq wb (.slice sa m2 sc) (.slice ta tm tc) L' ((L'.take k2).filter (ofNode x1)) (seenE (L'.take k2) x0))
        case atStart => exact ⟨0, rfl, by omega, rfl, _, _, _, rfl, HMID.out⟩
        case round =>
          obtain ⟨k2, rfl, hk2, rfl, ta, tm, tc, rfl, hmid⟩ := hrel
          have HMD : Hid (Mid WA w4 wr wb (.slice sa m2 sc) (.slice ta tm tc) L' ((L'.take k2).filter (ofNode x1)) (seenE (L'.take k2) x0)) := hmid
          clear hmid HMID
          by_cases hlt2 : k2 < m2
          · obtain ⟨e0, e1, e2, hx⟩ : ∃ e0 e1 e2, L'[k2]? = some (e0, e1, e2) := ⟨_, _, _, List.getElem?_eq_getElem (by rw [← HM2.out]; exact hlt2)⟩
            have HX : Hid (L'[k2]? = some (e0, e1, e2)) := hx
            obtain ⟨gs, hgs⟩ : ∃ gs, sa = some ⟨gs, 0, none⟩ := by
              rcases HMD.out.hs.shape with ⟨_, e⟩ | ⟨g, cap, e, _⟩
              · rw [e] at hx; simp at hx
              · injection e with e1 _ _
                exact ⟨g, e1⟩
            subst hgs
            have HCL : Hid (∀ wq s A z, Mid WA w4 wq wb (.slice (some ⟨gs, 0, none⟩) m2 sc) s L' A z → wq.cell? ⟨gs, k2 * 3, none⟩ = some (.int .i64 e0) ∧ wq.cell? ⟨gs, k2 * 3 + 1, none⟩ = some (.int .i64 e1) ∧ wq.cell? ⟨gs, k2 * 3 + 2, none⟩ = some (.int .i64 e2)) := fun wq s A z hM => hM.hs.at rfl HX.out
            have HGS : Hid (gs ≠ wb ∧ xb ≠ wb) := by
              refine ⟨fun e => ?_, fun e => ?_⟩
              · have := (World.ownsRow.lt HMD.out.hs gs rfl).1; omega
              · have h1 := lt_of_some HRA.out.hx; rw [HSA.out.1] at h1; omega
            clear hx
            obtain ⟨q0, q1, q2⟩ := HCL.out _ _ _ _ HMD.out
            obtain ⟨p0, p1⟩ := HXC.out _ HMD.out.hb
            obtain ⟨cc, hcc⟩ : ∃ cc, dropC (L'.take k2) x0 = cc := ⟨_, rfl⟩
            rw [hcc]
            have HCC : Hid (dropC (L'.take k2) x0 = cc) := hcc
            clear hcc
            go_upto_region 25 with fail
            go_quiet (fail)
            have HMD' : Hid (Mid WA w4 (wr.drewN nq) wb (.slice (some ⟨gs, 0, none⟩) m2 sc) (.slice ta tm tc) L' ((L'.take k2).filter (ofNode x1)) (seenE (L'.take k2) x0)) := HMD.out.heap rfl rfl rfl rfl
            clear q0 q1 q2 p0 p1 HMD
            generalize wr.drewN nq = wy at *
            obtain ⟨q0, q1, q2⟩ := HCL.out _ _ _ _ HMD'.out
            obtain ⟨p0, p1⟩ := HXC.out _ HMD'.out.hb
            obtain ⟨z0, z1, z2, hz⟩ : ∃ z0 z1 z2, seenE (L'.take k2) x0 = (z0, z1, z2) := ⟨_, _, _, rfl⟩
            have HZ : Hid (seenE (L'.take k2) x0 = (z0, z1, z2)) := hz
            have hwb := HMD'.out.hw
            rw [hz] at hwb
            have t0 : wy.cell? ⟨wb, 0, none⟩ = some (.int .i64 z0) := by simp [World.cell?, hwb]
            have t1 : wy.cell? ⟨wb, 1, none⟩ = some (.int .i64 z1) := by simp [World.cell?, hwb]
            have t2 : wy.cell? ⟨wb, 2, none⟩ = some (.int .i64 z2) := by simp [World.cell?, hwb]
            have t3 : ∀ i, wy.frozen? ⟨wb, i, none⟩ = false := fun i => by simp [World.frozen?, hwb]
            have hne1 := HGS.out.1
            have hne2 := HGS.out.2
            clear hz hwb
            go_upto_if 127 with fail
            go_cut [16] from 114 to 156 (fun s16 wx => s16 = .int .i64 (dropC (L'.take (k2 + 1)) x0) ∧ Mid WA w4 wx wb (.slice (some ⟨gs, 0, none⟩) m2 sc) (.slice ta tm tc) L' ((L'.take k2).filter (ofNode x1)) (seenE (L'.take (k2 + 1)) x0))
            case first =>
              by_cases hid : e0 = x0
              · as_aux_lemma =>
                have HH : Hid (seenE (L'.take (k2 + 1)) x0 = (e0, e1, e2) ∧ dropC (L'.take (k2 + 1)) x0 = 0) := seenE_hit x0 HX.out hid
                subst hid
                go_wp2_with fail
                go_region
                all_goals
                  go_wp2_with fail
                  go_meet
                  case rel => exact ⟨by rw [HH.out.2], by rw [HH.out.1]; exact HMD'.out.store HWL.out.1 (e0, e1, e2) rfl rfl rfl rfl⟩
              · as_aux_lemma =>
                have HH : Hid (seenE (L'.take (k2 + 1)) x0 = seenE (L'.take k2) x0 ∧ dropC (L'.take (k2 + 1)) x0 = dropC (L'.take k2) x0) := seenE_miss x0 HX.out hid
                have hidb : (e0 == x0) = false := beq_eq_false_iff_ne.2 hid
                clear hid
                go_wp2_with fail
                go_meet
                case rel => exact ⟨by rw [HH.out.2, HCC.out], by rw [HH.out.1]; exact HMD'.out.heap rfl rfl rfl rfl⟩
            case rest =>
              obtain ⟨rfl, hmx⟩ := hcut
              have HMX : Hid (Mid WA w4 wc wb (.slice (some ⟨gs, 0, none⟩) m2 sc) (.slice ta tm tc) L' ((L'.take k2).filter (ofNode x1)) (seenE (L'.take (k2 + 1)) x0)) := hmx
              obtain ⟨q0', q1', q2'⟩ := HCL.out _ _ _ _ hmx
              obtain ⟨p0', p1'⟩ := HXC.out _ hmx.hb
              clear hmx q0 q1 q2 p0 p1 t0 t1 t2 t3 HMD'
              have HHIT : Hid (ofNode x1 (e0, e1, e2) = true → (L'.take (k2 + 1)).filter (ofNode x1) = (L'.take k2).filter (ofNode x1) ++ [(e0, e1, e2)]) := fun h => by rw [take_filter _ HX.out, h]; rfl
              have HMISS : Hid (ofNode x1 (e0, e1, e2) = false → (L'.take (k2 + 1)).filter (ofNode x1) = (L'.take k2).filter (ofNode x1)) := fun h => by rw [take_filter _ HX.out, h]; simp
              have HLEN : Hid (((L'.take k2).filter (ofNode x1)).length ≤ 1000) := by
                have := filter_len L' k2 (ofNode x1)
                rw [← HM2.out] at this
                show _ ≤ 1000
                omega
              by_cases hcase : e1 = x1 ∨ e2 = x1
              · have HT1 : Hid ((L'.take (k2 + 1)).filter (ofNode x1) = (L'.take k2).filter (ofNode x1) ++ [(e0, e1, e2)]) := HHIT.out (by rcases hcase with h | h <;> simp [ofNode, h])
                clear HHIT HMISS
                by_cases h1 : e1 = x1
                · as_aux_lemma =>
                  clear hcase
                  subst h1
                  go_wp2_with fail
                  go_quiet (fail)
                  have HMZ : Hid (Mid WA w4 (wc.drewN nq) wb (.slice (some ⟨gs, 0, none⟩) m2 sc) (.slice ta tm tc) L' ((L'.take k2).filter (ofNode e1)) (seenE (L'.take (k2 + 1)) x0)) := HMX.out.heap rfl rfl rfl rfl
                  clear q0' q1' q2' p0' p1' HMX
                  generalize wc.drewN nq = wz at *
                  obtain ⟨q0, q1, q2⟩ := HCL.out _ _ _ _ HMZ.out
                  obtain ⟨a5, m5, c5, w5, hr, hM5⟩ := HMZ.out.app HWL.out.1 HWL.out.2 HLEN.out 49 e0 e1 e2
                  have HR : Hid (_ = _) := hr
                  have HM5 : Hid (Mid WA w4 w5 wb (.slice (some ⟨gs, 0, none⟩) m2 sc) (.slice a5 m5 c5) L' ((L'.take (k2 + 1)).filter (ofNode e1)) (seenE (L'.take (k2 + 1)) x0)) := by
                    show Mid WA w4 w5 wb (.slice (some ⟨gs, 0, none⟩) m2 sc) (.slice a5 m5 c5) L' ((L'.take (k2 + 1)).filter (ofNode e1)) (seenE (L'.take (k2 + 1)) x0)
                    rw [HT1.out]; exact hM5
                  clear hr hM5 HMZ HT1
                  go_wp2_with (at_builtin; refine Lib.wpList_append_run _ rfl _ _ _ _ rfl _ _ rfl rfl _ _ HR.out ?_; clear HR)
                  go_roundg (gk - 1)
                  case measure => omega
                  case rel => exact ⟨k2 + 1, by go_num, by omega, rfl, _, _, _, rfl, HM5.out⟩
                · as_aux_lemma =>
                  have h2 : e2 = x1 := by rcases hcase with h | h; exact absurd h h1; exact h
                  have h1b : (e1 == x1) = false := beq_eq_false_iff_ne.2 h1
                  clear hcase h1
                  subst h2
                  go_wp2_with fail
                  go_quiet (fail)
                  have HMZ : Hid (Mid WA w4 (wc.drewN nq) wb (.slice (some ⟨gs, 0, none⟩) m2 sc) (.slice ta tm tc) L' ((L'.take k2).filter (ofNode e2)) (seenE (L'.take (k2 + 1)) x0)) := HMX.out.heap rfl rfl rfl rfl
                  clear q0' q1' q2' p0' p1' HMX
                  generalize wc.drewN nq = wz at *
                  obtain ⟨q0, q1, q2⟩ := HCL.out _ _ _ _ HMZ.out
                  obtain ⟨a5, m5, c5, w5, hr, hM5⟩ := HMZ.out.app HWL.out.1 HWL.out.2 HLEN.out 49 e0 e1 e2
                  have HR : Hid (_ = _) := hr
                  have HM5 : Hid (Mid WA w4 w5 wb (.slice (some ⟨gs, 0, none⟩) m2 sc) (.slice a5 m5 c5) L' ((L'.take (k2 + 1)).filter (ofNode e2)) (seenE (L'.take (k2 + 1)) x0)) := by
                    show Mid WA w4 w5 wb (.slice (some ⟨gs, 0, none⟩) m2 sc) (.slice a5 m5 c5) L' ((L'.take (k2 + 1)).filter (ofNode e2)) (seenE (L'.take (k2 + 1)) x0)
                    rw [HT1.out]; exact hM5
                  clear hr hM5 HMZ HT1
                  go_wp2_with (at_builtin; refine Lib.wpList_append_run _ rfl _ _ _ _ rfl _ _ rfl rfl _ _ HR.out ?_; clear HR)
                  go_roundg (gk - 1)
                  case measure => omega
                  case rel => exact ⟨k2 + 1, by go_num, by omega, rfl, _, _, _, rfl, HM5.out⟩
              · as_aux_lemma =>
                have h1 : e1 ≠ x1 := fun h => hcase (Or.inl h)
                have h2 : e2 ≠ x1 := fun h => hcase (Or.inr h)
                have h1b : (e1 == x1) = false := beq_eq_false_iff_ne.2 h1
                have h2b : (e2 == x1) = false := beq_eq_false_iff_ne.2 h2
                have HT1 : Hid ((L'.take (k2 + 1)).filter (ofNode x1) = (L'.take k2).filter (ofNode x1)) := HMISS.out (by simp [ofNode, h1, h2])
                clear hcase h1 h2 HHIT HMISS
                go_wp2_with fail
                go_quiet (fail)
                have HMZ : Hid (Mid WA w4 (wc.drewN nq) wb (.slice (some ⟨gs, 0, none⟩) m2 sc) (.slice ta tm tc) L' ((L'.take (k2 + 1)).filter (ofNode x1)) (seenE (L'.take (k2 + 1)) x0)) := by
                  show Mid WA w4 (wc.drewN nq) wb (.slice (some ⟨gs, 0, none⟩) m2 sc) (.slice ta tm tc) L' ((L'.take (k2 + 1)).filter (ofNode x1)) (seenE (L'.take (k2 + 1)) x0)
                  rw [HT1.out]; exact HMX.out.heap rfl rfl rfl rfl
                clear q0' q1' q2' p0' p1' HMX HT1
                generalize wc.drewN nq = wz at *
                go_wp2_with fail
                go_roundg (gk - 1)
                case measure => omega
                case rel => exact ⟨k2 + 1, by go_num, by omega, rfl, _, _, _, rfl, HMZ.out⟩
          · have hke : L'.take k2 = L' := List.take_of_length_le (by rw [← HM2.out]; omega)
            have hM := HMD.out
            rw [hke, HY.out.1] at hM
            rw [hke, HY.out.2]
            have HME : Hid (Mid WA w4 wr wb (.slice sa m2 sc) (.slice ta tm tc) L' (L'.filter (ofNode x1)) (y0, y1, y2)) := hM
            have hbW : Below WA.heap.size WA wr := by rw [HSA.out.1]; exact hM.hb
            have HRW : Hid (Rnd w wr w.heap.size qq n v' u' R' L' xb #[.int .i64 x0, .int .i64 x1, .int .i64 x2, .bool gn]) := HRA.out.below' hbW
            have HEW : Hid (wr.heap[w2.heap.size]? = some (.cells #[.int .i64 y0, .int .i64 y1, .int .i64 y2] 59)) := by
              show wr.heap[w2.heap.size]? = _
              rw [hbW.block _ (by rw [HSA.out.1]; exact HSA.out.2.2)]; exact HEB.out
            have p1 := HRW.out.cells.2.1
            clear hM hbW HMD hke
            by_cases hin : 0 ≤ x1 ∧ x1 < n
            · as_aux_lemma =>
              have HIN1 : Hid (0 ≤ x1 ∧ x1 < n) := hin
              have i1 : ¬ x1 < 0 := by omega
              have i2 : ¬ n ≤ x1 := by omega
              clear hin
              go_wp2_with fail
              refine (pat_in HRW.out HI2.out x1 HIN1.out).mono ?_
              rintro e w6 ⟨g6, rfl, hg6, hb6⟩
              have HR6 : Hid (Rnd w w6 w.heap.size qq n v' u' R' L' xb #[.int .i64 x0, .int .i64 x1, .int .i64 x2, .bool gn]) := HRW.out.below' hb6
              have HA6 : Hid (Owns w6 w4.heap.size 59 (.slice ta tm tc) (L'.filter (ofNode x1)) ∧ Owns w6 wr.heap.size 59 g6 (L'.filter (ofNode x1))) := ⟨HME.out.ha.below hb6, hg6⟩
              have HB6 : Hid (w6.heap[w2.heap.size]? = some (.cells #[.int .i64 y0, .int .i64 y1, .int .i64 y2] 59) ∧ w6.heap[wb]? = some (.cells #[.int .i64 y0, .int .i64 y1, .int .i64 y2] 59)) := ⟨by rw [hb6.block _ (lt_of_some HEW.out)]; exact HEW.out, by rw [hb6.block _ (lt_of_some HME.out.hw)]; exact HME.out.hw⟩
              have p6 := HR6.out.cells.2.1
              clear hg6 hb6 HRW HME HEW p1
              go_wp2_with fail
              refine (bare_any er c w6 (HR6.out.two.gl HGL.out) HER.out).mono ?_
              rintro e w7 ⟨rfl, hb7⟩
              have HR7 : Hid (Rnd w w7 w.heap.size qq n v' u' R' L' xb #[.int .i64 x0, .int .i64 x1, .int .i64 x2, .bool gn]) := HR6.out.below' hb7
              have HA7 : Hid (Owns w7 w4.heap.size 59 (.slice ta tm tc) (L'.filter (ofNode x1)) ∧ Owns w7 wr.heap.size 59 g6 (L'.filter (ofNode x1))) := ⟨HA6.out.1.below hb7, HA6.out.2.below hb7⟩
              have b1 : w7.heap[w2.heap.size]? = some (.cells #[.int .i64 y0, .int .i64 y1, .int .i64 y2] 59) := by rw [hb7.block _ (lt_of_some HB6.out.1)]; exact HB6.out.1
              have b2 : w7.heap[wb]? = some (.cells #[.int .i64 y0, .int .i64 y1, .int .i64 y2] 59) := by rw [hb7.block _ (lt_of_some HB6.out.2)]; exact HB6.out.2
              have s0 : w7.cell? ⟨w2.heap.size, 0, none⟩ = some (.int .i64 y0) := by simp [World.cell?, b1]
              have s1 : w7.cell? ⟨w2.heap.size, 1, none⟩ = some (.int .i64 y1) := by simp [World.cell?, b1]
              have s2 : w7.cell? ⟨w2.heap.size, 2, none⟩ = some (.int .i64 y2) := by simp [World.cell?, b1]
              have r0 : w7.cell? ⟨wb, 0, none⟩ = some (.int .i64 y0) := by simp [World.cell?, b2]
              have r1 : w7.cell? ⟨wb, 1, none⟩ = some (.int .i64 y1) := by simp [World.cell?, b2]
              have r2 : w7.cell? ⟨wb, 2, none⟩ = some (.int .i64 y2) := by simp [World.cell?, b2]
              clear hb7 b1 b2 HR6 HA6 HB6 p6
              go_wp2_with fail
              refine (bare_any _ _ w7 (HR7.out.two.gl HGL.out) rfl).mono ?_
              rintro e w8 ⟨rfl, hb8⟩
              have HR8 : Hid (Rnd w w8 w.heap.size qq n v' u' R' L' xb #[.int .i64 x0, .int .i64 x1, .int .i64 x2, .bool gn]) := HR7.out.below' hb8
              have HA8 : Hid (Owns w8 w4.heap.size 59 (.slice ta tm tc) (L'.filter (ofNode x1)) ∧ Owns w8 wr.heap.size 59 g6 (L'.filter (ofNode x1))) := ⟨HA7.out.1.below hb8, HA7.out.2.below hb8⟩
              clear hb8 HR7 HA7 s0 s1 s2 r0 r1 r2
              go_wp2_with fail
              refine (same_edges _ _ g6 (.slice ta tm tc) (L'.filter (ofNode x1)) w8 HA8.out.2 HA8.out.1 (by have := List.length_filter_le (ofNode x1) L'; have := HI2.out.len; omega)).mono ?_
              rintro e w9 ⟨rfl, hb9⟩
              have HR9 : Hid (Two w w9 81 51 59 w.heap.size qq n v' u' R' L') := HR8.out.two.below' hb9
              clear hb9 HR8 HA8
              go_wp2_with fail
              go_roundg (m - (k + 1))
              case measure => omega
              case rel => exact ⟨k + 1, by go_num, by omega, _, _, _, _, HI2.out, HR9.out⟩
            · have HOUT : Hid (¬ (0 ≤ x1 ∧ x1 < n)) := hin
              obtain ⟨d0, hd0⟩ : ∃ d, decide (x1 < 0) = d := ⟨_, rfl⟩
              have hcs : x1 < 0 ∨ (¬ x1 < 0 ∧ n ≤ x1) := by omega
              clear hin hd0
              rcases hcs with i1 | ⟨i1, i2⟩
              all_goals
                as_aux_lemma =>
                go_wp2_with fail
                refine (pat_out HRW.out x1 HOUT.out).mono ?_
                rintro e w6 ⟨rfl, hb6⟩
                have HR6 : Hid (Rnd w w6 w.heap.size qq n v' u' R' L' xb #[.int .i64 x0, .int .i64 x1, .int .i64 x2, .bool gn]) := HRW.out.below' hb6
                have HB6 : Hid (w6.heap[w2.heap.size]? = some (.cells #[.int .i64 y0, .int .i64 y1, .int .i64 y2] 59) ∧ w6.heap[wb]? = some (.cells #[.int .i64 y0, .int .i64 y1, .int .i64 y2] 59)) := ⟨by rw [hb6.block _ (lt_of_some HEW.out)]; exact HEW.out, by rw [hb6.block _ (lt_of_some HME.out.hw)]; exact HME.out.hw⟩
                have p6 := HR6.out.cells.2.1
                clear hb6 HRW HME HEW p1
                go_wp2_with fail
                refine (bare_any er c w6 (HR6.out.two.gl HGL.out) HER.out).mono ?_
                rintro e w7 ⟨rfl, hb7⟩
                have HR7 : Hid (Rnd w w7 w.heap.size qq n v' u' R' L' xb #[.int .i64 x0, .int .i64 x1, .int .i64 x2, .bool gn]) := HR6.out.below' hb7
                have b1 : w7.heap[w2.heap.size]? = some (.cells #[.int .i64 y0, .int .i64 y1, .int .i64 y2] 59) := by rw [hb7.block _ (lt_of_some HB6.out.1)]; exact HB6.out.1
                have b2 : w7.heap[wb]? = some (.cells #[.int .i64 y0, .int .i64 y1, .int .i64 y2] 59) := by rw [hb7.block _ (lt_of_some HB6.out.2)]; exact HB6.out.2
                have s0 : w7.cell? ⟨w2.heap.size, 0, none⟩ = some (.int .i64 y0) := by simp [World.cell?, b1]
                have s1 : w7.cell? ⟨w2.heap.size, 1, none⟩ = some (.int .i64 y1) := by simp [World.cell?, b1]
                have s2 : w7.cell? ⟨w2.heap.size, 2, none⟩ = some (.int .i64 y2) := by simp [World.cell?, b1]
                have r0 : w7.cell? ⟨wb, 0, none⟩ = some (.int .i64 y0) := by simp [World.cell?, b2]
                have r1 : w7.cell? ⟨wb, 1, none⟩ = some (.int .i64 y1) := by simp [World.cell?, b2]
                have r2 : w7.cell? ⟨wb, 2, none⟩ = some (.int .i64 y2) := by simp [World.cell?, b2]
                clear hb7 b1 b2 HR6 HB6 p6
                go_wp2_with fail
                refine (bare_any _ _ w7 (HR7.out.two.gl HGL.out) rfl).mono ?_
                rintro e w8 ⟨rfl, hb8⟩
                have HR8 : Hid (Rnd w w8 w.heap.size qq n v' u' R' L' xb #[.int .i64 x0, .int .i64 x1, .int .i64 x2, .bool gn]) := HR7.out.below' hb8
                clear hb8 HR7 s0 s1 s2 r0 r1 r2
                go_wp2_with fail
                refine (same_edges 0 0 (.slice none 0 0) (.slice none 0 0) [] w8 (World.ownsRow_nil _ _ _ _) (World.ownsRow_nil _ _ _ _) (by simp)).mono ?_
                rintro e w9 ⟨rfl, hb9⟩
                have HR9 : Hid (Two w w9 81 51 59 w.heap.size qq n v' u' R' L') := HR8.out.two.below' hb9
                clear hb9 HR8
                go_wp2_with fail
                go_roundg (m - (k + 1))
                case measure => omega
                case rel => exact ⟨k + 1, by go_num, by omega, _, _, _, _, HI2.out, HR9.out⟩
    · clear HAA HBL HP
      have HBW : Hid (Below w.heap.size w wr) := HT.out.below
      go_wp2_with fail
      refine (without_any n w.heap.size w.heap.size v L ae an me mn ce cn Fe Fn wr HT.out.ga HI.out.len (HIE.out.below HBW.out) (HIN.out.below HBW.out) (by omega) (by omega)).mono ?_
      rintro e w2 ⟨p2, v2, rfl, hg2, hb2⟩
      have HT2 : Hid (Two w w2 81 51 59 w.heap.size qq n v u R L) := HT.out.below' hb2
      have HG2 : Hid (GAt w2 wr.heap.size 81 59 p2 n v2 (L.filter (stays Fe Fn me mn))) := hg2
      clear hg2 hb2 HT
      go_wp2_with fail
      refine (nodes_any n wr.heap.size p2 v2 _ w2 HG2.out).mono ?_
      rintro e w3 ⟨rfl, hw3⟩
      subst hw3
      go_wp2_with fail
      refine (nodes_any n w.heap.size w.heap.size v L w3 HT2.out.ga).mono ?_
      rintro e w4 ⟨rfl, hw4⟩
      subst hw4
      go_wp2_with fail
      refine (edges_any n w.heap.size w.heap.size v L w4 HT2.out.ga HI.out.len).mono ?_
      rintro e w5 ⟨u5', rfl, ho5, hb5⟩
      have HT5 : Hid (Two w w5 81 51 59 w.heap.size qq n v u R L) := HT2.out.below' hb5
      have HG5 : Hid (GAt w5 wr.heap.size 81 59 p2 n v2 (L.filter (stays Fe Fn me mn)) ∧ Owns w5 w4.heap.size 59 u5' L) := ⟨HG2.out.below hb5, ho5⟩
      clear ho5 hb5 HT2 HG2
      go_wp2_with fail
      refine (sorted_any w.heap.size qq n u R L w5 HT5.out.ra HI.out).mono ?_
      rintro e w6 ⟨u6', rfl, ho6, hb6⟩
      have HT6 : Hid (Two w w6 81 51 59 w.heap.size qq n v u R L) := HT5.out.below' hb6
      have HG6 : Hid (GAt w6 wr.heap.size 81 59 p2 n v2 (L.filter (stays Fe Fn me mn)) ∧ Owns w6 w4.heap.size 59 u5' L ∧ Owns w6 w5.heap.size 59 u6' L) := ⟨HG5.out.1.below hb6, HG5.out.2.below hb6, ho6⟩
      clear ho6 hb6 HT5 HG5
      go_wp2_with fail
      refine (same_edges _ _ u5' u6' L w6 HG6.out.2.1 HG6.out.2.2 (by have := HI.out.len; omega)).mono ?_
      rintro e w7 ⟨rfl, hb7⟩
      have HT7 : Hid (Two w w7 81 51 59 w.heap.size qq n v u R L) := HT6.out.below' hb7
      have HG7 : Hid (GAt w7 wr.heap.size 81 59 p2 n v2 (L.filter (stays Fe Fn me mn))) := HG6.out.1.below hb7
      clear hb7 HT6 HG6
      go_wp2_with fail
      refine (edges_any n wr.heap.size p2 v2 _ w7 HG7.out (by have := List.length_filter_le (stays Fe Fn me mn) L; have := HI.out.len; omega)).mono ?_
      rintro e w8 ⟨u8', rfl, ho8, hb8⟩
      have HT8 : Hid (Two w w8 81 51 59 w.heap.size qq n v u R L) := HT7.out.below' hb8
      have HG8 : Hid (Owns w8 w7.heap.size 59 u8' (L.filter (stays Fe Fn me mn))) := ho8
      clear ho8 hb8 HT7 HG7
      go_wp2_with fail
      refine (rwithout_any n w.heap.size qq u R ae an me mn ce cn Fe Fn w8 HT8.out.ra (by rw [HI.out.rlen]; exact HI.out.len) (HIE.out.below HT8.out.below) (HIN.out.below HT8.out.below) (by omega) (by omega)).mono ?_
      rintro e w9 ⟨q9, v9, rfl, hg9, hb9⟩
      have HB9 : Hid (Below w.heap.size w w9 ∧ Owns w9 w7.heap.size 59 u8' (L.filter (stays Fe Fn me mn))) := ⟨HT8.out.below.trans (hb9.mono HT8.out.below.size), HG8.out.below hb9⟩
      have HG9 : Hid (GAt w9 w8.heap.size 51 59 q9 n v9 (R.filter (stays Fe Fn me mn))) := hg9
      clear hg9 hb9 HT8 HG8
      go_wp2_with fail
      refine (sorted_any w8.heap.size q9 n v9 _ _ w9 HG9.out (HI.out.filter (stays Fe Fn me mn))).mono ?_
      rintro e w10 ⟨u10', rfl, ho10, hb10⟩
      have HB10 : Hid (Below w.heap.size w w10 ∧ Owns w10 w7.heap.size 59 u8' (L.filter (stays Fe Fn me mn)) ∧ Owns w10 w9.heap.size 59 u10' (L.filter (stays Fe Fn me mn))) := ⟨HB9.out.1.trans (hb10.mono HB9.out.1.size), HB9.out.2.below hb10, ho10⟩
      clear ho10 hb10 HB9 HG9
      go_wp2_with fail
      refine (same_edges _ _ u8' u10' _ w10 HB10.out.2.1 HB10.out.2.2 (by have := List.length_filter_le (stays Fe Fn me mn) L; have := HI.out.len; omega)).mono ?_
      rintro e w11 ⟨rfl, hb11⟩
      have HB11 : Hid (Below w.heap.size w w11) := HB10.out.1.trans (hb11.mono HB10.out.1.size)
      clear hb11 HB10
      go_wp2_with fail
      refine (other_a w11).mono ?_
      rintro e w12 ⟨rfl, hb12⟩
      have HB12 : Hid (Below w.heap.size w w12) := HB11.out.trans (hb12.mono HB11.out.size)
      clear hb12 HB11
      go_wp2_with fail
      refine (other_b w12).mono ?_
      rintro e w13 ⟨rfl, hb13⟩
      have HB13 : Hid (Below w.heap.size w w13) := HB12.out.trans (hb13.mono HB12.out.size)
      clear hb13 HB12
      go_wp2_with fail
      go_ret
      exact ⟨rfl, HB13.out⟩
end Go.Proofs.YtmbkicdahalakaaDoor
