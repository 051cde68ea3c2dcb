/- The document's ByNodes: the walk. -/
import Derived.Test.YtpkdpddillebfaaDoorDhJ
namespace Go.Proofs.YtpkdpddillebfaaDoor.S
open Go Go.ChangeMaps Go.MapKept Go.WideShapes
open Go.RowKit Go.WideMaps Go.Maps F

set_option maxHeartbeats 8000000 in
set_option maxRecDepth 100000 in
theorem byN_any (n B q a b most : Nat) (u : Value) (R : List Stp) (w : World) (h : G.GAt w B 51 59 q (n : Int) u R) (hn : n ≤ 40) (hin : InR2 n R) (hl : R.length ≤ 60) (ha : a < n) (hb : b < n) (hab : a ≠ b) (hm : most ≤ 120) :
    Calls Tryd.prog 33 #[.pointer (some ⟨q, 0, none⟩), .int .i64 (a : Int), .int .i64 (b : Int), .int .i64 (most : Int)] w (ByNPost w n a b most R) := by
  have HG : Hid (G.GAt w B 51 59 q (n : Int) u R ∧ InR2 n R) := ⟨h, hin⟩
  have c0 := h.c0
  have c1 := h.c1
  have HA : Hid _ := ask_ok n B q u R (a : Int) (b : Int) (most : Int) w h (by omega) ⟨⟨by omega, by omega⟩, ⟨by omega, by omega⟩, by omega, by omega⟩ 0 (.inr ⟨by omega, rfl⟩)
  obtain ⟨m, hmm⟩ : ∃ m, R.length = m := ⟨_, rfl⟩
  have HMM : Hid (R.length = m) := hmm
  obtain ⟨va, vc, hv⟩ := h.row.slice_len
  rw [hmm] at hv hl
  have HV : Hid (u = .slice va m vc) := hv
  rw [hv] at c1
  have hw2n : IntKind.i64.wrap (2 * (n : Int)) = 2 * (n : Int) := by rw [IntKind.wrap_i64]; omega
  clear h hin hmm hv
  go_enter Tryd.func33, Tryd.ntmps33
  go_wp2_with fail
  refine Calls.mono HA.out ?_
  rintro e w1 ⟨rfl, hw1⟩
  subst hw1
  clear HA
  go_wp2_with fail
  rw [show 2 * (n : Int) = ((2 * n : Nat) : Int) by omega]
  refine (rooms_any (2 * n) w1 (by omega)).mono ?_
  rintro e w2 ⟨rfl, hmat, hb2⟩
  obtain ⟨g, hg⟩ : ∃ g, w1.heap.size = g := ⟨_, rfl⟩
  rw [hg] at hmat ⊢
  have HM2 : Hid (Mat w2 g (fun i => g + 1 + i) (2 * n) (fun _ _ => 0) ∧ Below w1.heap.size w1 w2) := ⟨hmat, hb2⟩
  have HGS : Hid (w1.heap.size = g) := hg
  have c0 := cell_below c0 hb2
  have c1 := cell_below c1 hb2
  clear hmat hb2 hg hw2n
  go_wp2_with fail
  go_loopw [34] (fun s34 wq => ∃ (j : Nat) (M : Nat → Nat → Int), j ≤ n ∧ s34 = .int .i64 j ∧ Mat wq g (fun i => g + 1 + i) (2 * n) M ∧ RN M n a b j false [] ∧ Below w1.heap.size w1 wq) (fun s34 _ => n - (intOf s34).toNat)
  case atStart => exact ⟨0, _, Nat.zero_le _, rfl, HM2.out.1, RN.start n a b, HM2.out.2⟩
  case round =>
    clear HM2 c0 c1
    obtain ⟨j, M, hj, rfl, hmat, hrn, hbl⟩ := hrel
    have HR : Hid (Mat wr g (fun i => g + 1 + i) (2 * n) M ∧ RN M n a b j false [] ∧ Below w1.heap.size w1 wr) := ⟨hmat, hrn, hbl⟩
    have c0 := cell_below HG.out.1.c0 hbl
    clear hmat hrn hbl
    by_cases hjn : j < n
    · as_aux_lemma =>
      have o1 := HR.out.1.out j (by omega)
      have o2 := (HR.out.1.row j (n + j) (by omega) (by omega)).1
      have o3 := (HR.out.1.row j (n + j) (by omega) (by omega)).2
      have hwn : IntKind.i64.wrap ((n : Int) + (j : Int)) = ((n + j : Nat) : Int) := by rw [IntKind.wrap_i64]; omega
      have HF : Hid (Mat ((wr.setCell ⟨g + 1 + j, n + j, none⟩ (.int .i64 1)).drew) g (fun i => g + 1 + i) (2 * n) (setM M j (n + j) 1) ∧ RN (setM M j (n + j) 1) n a b (j + 1) false [] ∧ Below w1.heap.size w1 ((wr.setCell ⟨g + 1 + j, n + j, none⟩ (.int .i64 1)).drew)) :=
        ⟨(HR.out.1.set (x := j) (y := n + j) (by omega) (by omega) 1).below (Below.refl _ _).drew, HR.out.2.1.node hjn, (HR.out.2.2.setCell (by show w1.heap.size ≤ g + 1 + j; have := HGS.out; omega) _).drew⟩
      clear HR
      go_upto_region 9 with fail
      go_region
      go_wp2_with fail
      go_roundw
      case rel => exact ⟨j + 1, _, by omega, by go_num, HF.out.1, HF.out.2.1, HF.out.2.2⟩
      case measure => simp [intOf]; omega
    · have hje : n = j := by omega
      subst hje
      obtain ⟨wy, hwy⟩ : ∃ wy, wy = wr := ⟨_, rfl⟩
      subst hwy
      have o1 := HR.out.1.out a (by omega)
      have o2 := (HR.out.1.row a (n + a) (by omega) (by omega)).1
      have o3 := (HR.out.1.row a (n + a) (by omega) (by omega)).2
      have o4 := HR.out.1.out b (by omega)
      have o5 := (HR.out.1.row b (n + b) (by omega) (by omega)).1
      have o6 := (HR.out.1.row b (n + b) (by omega) (by omega)).2
      have hwa : IntKind.i64.wrap ((n : Int) + (a : Int)) = ((n + a : Nat) : Int) := by rw [IntKind.wrap_i64]; omega
      have hwb : IntKind.i64.wrap ((n : Int) + (b : Int)) = ((n + b : Nat) : Int) := by rw [IntKind.wrap_i64]; omega
      go_upto_region 11 with fail
      go_region
      obtain ⟨W3, hW3⟩ : ∃ W3, ((wy.setCell ⟨g + 1 + a, n + a, none⟩ (.int .i64 120)).setCell ⟨g + 1 + b, n + b, none⟩ (.int .i64 120)).drew = W3 := ⟨_, rfl⟩
      have HS3 : Hid (Mat W3 g (fun i => g + 1 + i) (2 * n) (setM (setM M a (n + a) 120) b (n + b) 120) ∧ RN (setM (setM M a (n + a) 120) b (n + b) 120) n a b n true [] ∧ Below w1.heap.size w1 W3) := by
        rw [← hW3]
        have hgs := HGS.out
        exact ⟨((HR.out.1.set (x := a) (y := n + a) (by omega) (by omega) 120).set (x := b) (y := n + b) (by omega) (by omega) 120).below (Below.refl _ _).drew, HR.out.2.1.both ha hb hab, ((HR.out.2.2.setCell (by show w1.heap.size ≤ g + 1 + a; omega) _).setCell (by show w1.heap.size ≤ g + 1 + b; omega) _).drew⟩
      rw [hW3]
      have d0 := cell_below HG.out.1.c0 HS3.out.2.2
      have d1 := cell_below HG.out.1.c1 HS3.out.2.2
      rw [HV.out] at d1
      obtain ⟨lo, hlo⟩ : ∃ lo, min a b = lo := ⟨_, rfl⟩
      obtain ⟨hi, hhi⟩ : ∃ hi, max a b = hi := ⟨_, rfl⟩
      have HLH : Hid (min a b = lo ∧ max a b = hi) := ⟨hlo, hhi⟩
      have hmin : min (a : Int) (b : Int) = (lo : Int) := by omega
      have hmax : max (a : Int) (b : Int) = (hi : Int) := by omega
      clear hlo hhi o1 o2 o3 o4 o5 o6 hW3 HR hwa c0 hjn hj
      go_wp2_with fail
      go_loopw [11, 76] (fun s11 s76 wq => ∃ (j : Nat) (M : Nat → Nat → Int) (PR : List (Int × Int)), j ≤ m ∧ s76 = .int .i64 j ∧ s11 = .int .i64 (((R.take j).filter (dirB a b)).length : Nat) ∧ Mat wq g (fun i => g + 1 + i) (2 * n) M ∧ RN M n a b n true PR ∧ PrOf a b R j PR ∧ Below w1.heap.size w1 wq) (fun _ s76 _ => m - (intOf s76).toNat)
      case atStart => exact ⟨0, _, [], Nat.zero_le _, rfl, rfl, HS3.out.1, HS3.out.2.1, fun d => ⟨fun k => by simp at k, fun ⟨e, k, _⟩ => by simp at k⟩, HS3.out.2.2⟩
      case round =>
        clear HS3 d0 d1
        obtain ⟨j, M2, PR, hj, rfl, rfl, hmat, hrn, hpr, hbl⟩ := hrel
        have HR : Hid (Mat wr g (fun i => g + 1 + i) (2 * n) M2 ∧ RN M2 n a b n true PR ∧ PrOf a b R j PR ∧ Below w1.heap.size w1 wr) := ⟨hmat, hrn, hpr, hbl⟩
        obtain ⟨dc, hdc⟩ : ∃ dc, ((R.take j).filter (dirB a b)).length = dc := ⟨_, rfl⟩
        have hdcj : dc ≤ 60 := by
          rw [← hdc]
          have h1 := List.length_filter_le (dirB a b) (R.take j)
          have h2 : (R.take j).length ≤ j := by simp; omega
          omega
        rw [hdc]
        have HDC : Hid (((R.take j).filter (dirB a b)).length = dc) := hdc
        clear hmat hrn hpr hbl hdc
        by_cases hjm : j < m
        · obtain ⟨⟨y0, y1, y2⟩, hx⟩ : ∃ e : Stp, R[j]? = some e := ⟨_, List.getElem?_eq_getElem (by rw [HMM.out]; exact hjm)⟩
          obtain ⟨x, y, hxn, hyn, hxy, he1, he2⟩ := HG.out.2 _ (List.mem_of_getElem? hx)
          have he1 : y1 = (x : Int) := he1
          have he2 : y2 = (y : Int) := he2
          subst he1
          subst he2
          have hea : ea (y0, (x : Int), (y : Int)) = x := by simp [ea]
          have heb : eb (y0, (x : Int), (y : Int)) = y := by simp [eb]
          obtain ⟨g2, hva⟩ : ∃ g2, va = some ⟨g2, 0, none⟩ := by
            rcases HG.out.1.row.shape with ⟨_, k⟩ | ⟨g2, cap2, k, _⟩
            · rw [k] at hx; simp at hx
            · rw [HV.out] at k
              injection k with e1 _ _
              exact ⟨g2, e1⟩
          subst hva
          obtain ⟨r0, r1, r2⟩ := HG.out.1.row.at (g := g2) (by rw [HV.out]; rfl) hx
          simp only at r0 r1 r2
          have r0 := cell_below r0 HR.out.2.2.2
          have r1 := cell_below r1 HR.out.2.2.2
          have r2 := cell_below r2 HR.out.2.2.2
          obtain ⟨W1, hW1⟩ : ∃ W1, W1 = wr.alloc (.cells #[.int .i64 y0, .int .i64 (x : Int), .int .i64 (y : Int)] 59) := ⟨_, rfl⟩
          have hbW : Below wr.heap.size wr W1 := by rw [hW1]; exact (Below.refl _ _).alloc (Nat.le_refl _) _
          have hbx : W1.heap[wr.heap.size]? = some (.cells #[.int .i64 y0, .int .i64 (x : Int), .int .i64 (y : Int)] 59) := by rw [hW1]; exact heap_alloc_new wr _
          have p1 : W1.cell? ⟨wr.heap.size, 1, none⟩ = some (.int .i64 (x : Int)) := by simp [World.cell?, hbx]
          have p2 : W1.cell? ⟨wr.heap.size, 2, none⟩ = some (.int .i64 (y : Int)) := by simp [World.cell?, hbx]
          have HW1 : Hid (wr.alloc (.cells #[.int .i64 y0, .int .i64 (x : Int), .int .i64 (y : Int)] 59) = W1) := hW1.symm
          have HEX : Hid (R[j]? = some (y0, (x : Int), (y : Int)) ∧ ea (y0, (x : Int), (y : Int)) = x ∧ eb (y0, (x : Int), (y : Int)) = y) := ⟨hx, hea, heb⟩
          have HB1 : Hid (Below wr.heap.size wr W1 ∧ Below w1.heap.size w1 W1) := ⟨hbW, HR.out.2.2.2.trans (hbW.mono HR.out.2.2.2.size)⟩
          have HBXM : Hid (∀ i, i < 2 * n → wr.heap.size ≠ g + 1 + i) := fun i hi2 e => by
            have h1 : g + 1 + i < wr.heap.size := (HR.out.1.lt (by omega)).2 i hi2
            omega
          clear hx hW1 hbW hbx hea heb
          by_cases hdir : dirB a b (y0, (x : Int), (y : Int)) = true
          · as_aux_lemma =>
            have hdd := of_decide_eq_true hdir
            rw [HEX.out.2.1, HEX.out.2.2] at hdd
            have e1 : ((x : Int) == (lo : Int)) = true := beq_iff_eq.2 (by obtain ⟨l1, l2⟩ := HLH.out; omega)
            have e2 : ((y : Int) == (hi : Int)) = true := beq_iff_eq.2 (by obtain ⟨l1, l2⟩ := HLH.out; omega)
            have hwd : IntKind.i64.wrap ((dc : Int) + 1) = (dc : Int) + 1 := by rw [IntKind.wrap_i64]; omega
            have HF : Hid (((R.take (j + 1)).filter (dirB a b)).length = dc + 1 ∧ PrOf a b R (j + 1) PR ∧ Mat W1 g (fun i => g + 1 + i) (2 * n) M2) := by
              refine ⟨?_, HR.out.2.2.1.skip HEX.out.1 hdir, HR.out.1.below HB1.out.1⟩
              rw [take_snoc HEX.out.1, List.filter_append, List.length_append, HDC.out]
              simp [hdir]
            clear hdd hdir
            go_upto_if 93 with fail
            rw [HW1.out]
            go_wp2_with fail
            go_roundw
            case rel => exact ⟨j + 1, M2, PR, by omega, by go_num, by rw [HF.out.1]; rfl, HF.out.2.2, HR.out.2.1, HF.out.2.1, HB1.out.2⟩
            case measure => simp [intOf]; omega
          · have hdf : dirB a b (y0, (x : Int), (y : Int)) = false := by simpa using hdir
            have hdd := of_decide_eq_false hdf
            rw [HEX.out.2.1, HEX.out.2.2] at hdd
            have hor : x ≠ lo ∨ y ≠ hi := by obtain ⟨l1, l2⟩ := HLH.out; omega
            -- the two stores
            obtain ⟨P1, hr1, hp1⟩ := HR.out.2.1.pair hxn hyn
            obtain ⟨P2, hr2, hp2⟩ := hr1.pair hyn hxn
            have hm1 := HR.out.1.below HB1.out.1
            have o1 := hm1.out (n + x) (by omega)
            have o2 := (hm1.row (n + x) y (by omega) (by omega)).1
            have o3 := (hm1.row (n + x) y (by omega) (by omega)).2
            have hwx : IntKind.i64.wrap ((n : Int) + (x : Int)) = ((n + x : Nat) : Int) := by rw [IntKind.wrap_i64]; omega
            have hwy2 : IntKind.i64.wrap ((n : Int) + (y : Int)) = ((n + y : Nat) : Int) := by rw [IntKind.wrap_i64]; omega
            have d0 := cell_below HG.out.1.c0 HB1.out.2
            obtain ⟨W2, hW2⟩ : ∃ W2, (W1.setCell ⟨g + 1 + (n + x), y, none⟩ (.int .i64 1)).drew = W2 := ⟨_, rfl⟩
            have hm2 : Mat W2 g (fun i => g + 1 + i) (2 * n) (setM M2 (n + x) y 1) := by
              rw [← hW2]
              exact (hm1.set (x := n + x) (y := y) (by omega) (by omega) 1).below (Below.refl _ _).drew
            have hb2 : Below w1.heap.size w1 W2 := by
              rw [← hW2]
              exact (HB1.out.2.setCell (by show w1.heap.size ≤ g + 1 + (n + x); have := HGS.out; omega) _).drew
            have keep : ∀ i v, W1.cell? ⟨wr.heap.size, i, none⟩ = some v → W2.cell? ⟨wr.heap.size, i, none⟩ = some v := fun i v hc => by
              rw [← hW2]
              show (W1.setCell _ _).cell? _ = _
              rw [World.cell?_setCell_far _ _ _ _ (by show g + 1 + (n + x) ≠ wr.heap.size; exact fun e => HBXM.out (n + x) (by omega) e.symm)]
              exact hc
            have q1 := keep 1 _ p1
            have q2 := keep 2 _ p2
            have o4 := hm2.out (n + y) (by omega)
            have o5 := (hm2.row (n + y) x (by omega) (by omega)).1
            have o6 := (hm2.row (n + y) x (by omega) (by omega)).2
            have d2 := cell_below HG.out.1.c0 hb2
            have HF : Hid (Mat ((W2.setCell ⟨g + 1 + (n + y), x, none⟩ (.int .i64 1)).drew) g (fun i => g + 1 + i) (2 * n) (setM (setM M2 (n + x) y 1) (n + y) x 1) ∧ RN (setM (setM M2 (n + x) y 1) (n + y) x 1) n a b n true P2 ∧ PrOf a b R (j + 1) P2 ∧ Below w1.heap.size w1 ((W2.setCell ⟨g + 1 + (n + y), x, none⟩ (.int .i64 1)).drew) ∧ ((R.take (j + 1)).filter (dirB a b)).length = dc) := by
              refine ⟨(hm2.set (x := n + y) (y := x) (by omega) (by omega) 1).below (Below.refl _ _).drew, hr2, HR.out.2.2.1.more (P1 := P1) HEX.out.1 hdf ?_ ?_, (hb2.setCell (by show w1.heap.size ≤ g + 1 + (n + y); have := HGS.out; omega) _).drew, ?_⟩
              · rw [HEX.out.2.1, HEX.out.2.2]; exact hp1
              · rw [HEX.out.2.1, HEX.out.2.2]; exact hp2
              · rw [take_snoc HEX.out.1, List.filter_append, List.length_append, HDC.out]
                simp [hdf]
            have HW2 : Hid ((W1.setCell ⟨g + 1 + (n + x), y, none⟩ (.int .i64 1)).drew = W2) := hW2
            clear hdir hdf hdd hr1 hr2 hp1 hp2 hm1 hm2 hW2 keep hb2 HR HB1
            by_cases hxl : x ≠ lo
            · as_aux_lemma =>
              have e1 : ((x : Int) == (lo : Int)) = false := beq_eq_false_iff_ne.2 (by omega)
              go_upto_if 93 with fail
              rw [HW1.out]
              go_upto_region 17 with fail
              go_region
              rw [HW2.out]
              go_upto_region 18 with fail
              go_region
              go_wp2_with fail
              go_roundw
              case rel => exact ⟨j + 1, _, P2, by omega, by go_num, by rw [HF.out.2.2.2.2], HF.out.1, HF.out.2.1, HF.out.2.2.1, HF.out.2.2.2.1⟩
              case measure => simp [intOf]; omega
            · as_aux_lemma =>
              have e1 : ((x : Int) == (lo : Int)) = true := beq_iff_eq.2 (by omega)
              have e2 : ((y : Int) == (hi : Int)) = false := beq_eq_false_iff_ne.2 (by omega)
              go_upto_if 93 with fail
              rw [HW1.out]
              go_upto_region 17 with fail
              go_region
              rw [HW2.out]
              go_upto_region 18 with fail
              go_region
              go_wp2_with fail
              go_roundw
              case rel => exact ⟨j + 1, _, P2, by omega, by go_num, by rw [HF.out.2.2.2.2], HF.out.1, HF.out.2.1, HF.out.2.2.1, HF.out.2.2.2.1⟩
              case measure => simp [intOf]; omega
        · have hje : m = j := by omega
          subst hje
          have HC : Hid _ := allr_any g (fun i => g + 1 + i) (2 * n) a (n + b) (2 * n) most M2 wr HR.out.1 (by omega) (by omega) (by omega) (by omega) HR.out.2.1.bd
          have d0 := cell_below HG.out.1.c0 HR.out.2.2.2
          have HPR : Hid (PrOf a b R R.length PR ∧ Below w1.heap.size w1 wr ∧ capM M2 (2 * n) = docC n a b PR) := ⟨by rw [HMM.out]; exact HR.out.2.2.1, HR.out.2.2.2, by funext S; rw [HR.out.2.1.cap S]; rfl⟩
          have HDF : Hid ((R.filter (dirB a b)).length = dc) := by
            have := HDC.out
            rwa [List.take_of_length_le (by rw [HMM.out]; exact Nat.le_refl _)] at this
          clear HR HDC
          go_wp2_with fail
          refine Calls.mono HC.out ?_
          rintro e w3 ⟨k, rfl, hvk, hka⟩
          rw [HPR.out.2.2] at hvk
          have hk : (k : Int) ≤ most := hvk.le
          have hwd : IntKind.i64.wrap ((dc : Int) + (k : Int)) = (dc : Int) + (k : Int) := by rw [IntKind.wrap_i64]; omega
          have HF : Hid (Val (docC n a b PR) a ((n + b : Nat) : Int) most k ∧ Below w1.heap.size w1 w3) := ⟨hvk, HPR.out.2.1.trans (hka.old HPR.out.2.1.size (fun i _ => by have := HGS.out; omega))⟩
          clear hvk hka HC
          go_wp2_with fail
          go_ret2
          exact ⟨k, PR, by rw [HDF.out]; rfl, HPR.out.1, HF.out.1, HF.out.2⟩

end Go.Proofs.YtpkdpddillebfaaDoor.S
