/- The contract of the document's own Cuts. -/
import Derived.Test.YtdcdmmbchfhioaaGreatDoorCa
namespace Go.Proofs.YtdcdmmbchfhioaaGreatDoor.S
open Go.RowKit Go.WideMaps Go.Maps

/-- The document's graph without a node, and its labels. -/
theorem rwo_call (x n B q : Nat) (u : Value) (R : List (Int × Int × Int)) (W : World) (h : G.GAt W B 33 55 q (n : Int) u R) (hl : R.length ≤ 120) (hin : Inn n R) :
    Calls Tryz.prog 46 #[.pointer (some ⟨q, 0, none⟩), .slice none 0 0, .slice (some ⟨W.heap.size, 0, none⟩) 1 1] (W.alloc (.cells #[.int .i64 (x : Int)] 3)) fun e w' => ∃ q' v', e = .returned (.pointer (some ⟨q', 0, none⟩)) ∧ G.GAt w' W.heap.size 33 55 q' (n : Int) v' (wo R x) ∧ Below W.heap.size W w' := by
  have hb2 : Below W.heap.size W (W.alloc (.cells #[.int .i64 (x : Int)] 3)) := (Below.refl _ _).alloc (Nat.le_refl _) _
  refine (G.rwithout_any (n : Int) B q u R none (some ⟨W.heap.size, 0, none⟩) 0 1 0 1 (fun _ => 0) (fun _ => (x : Int)) _ (h.below hb2) hl ⟨fun h => by omega⟩ (one_id' W x) (by omega) (by omega)).mono ?_
  rintro e w' ⟨q', v', rfl, hg', hb'⟩
  rw [wo_eq hin] at hg'
  exact ⟨q', v', rfl, ⟨hg'.hp, hg'.row.mono hb2.size, hg'.ne⟩, hb2.trans (hb'.mono hb2.size)⟩

set_option maxHeartbeats 8000000 in
set_option maxRecDepth 100000 in
theorem cuts_doc (n B q M : Nat) (u : Value) (R L : List (Int × Int × Int)) (w : World) (h : G.GAt w B 33 55 q (n : Int) u R) (hi : G.Inv R L) (hed : Ed n M L) (hn : n ≤ 40) :
    Calls Tryz.prog 26 #[.pointer (some ⟨q, 0, none⟩)] w fun e w' => ∃ v cs, e = .returned v ∧ CutsB L n cs ∧ w'.ownsRow w.heap.size 3 1 v cs.length (natsV cs) ∧ Below w.heap.size w w' := by
  have hrl : R.length ≤ 120 := by rw [hi.rlen]; exact hi.len
  have HG : Hid (G.GAt w B 33 55 q (n : Int) u R) := h
  have HIN : Hid (Inn n R) := inn_of hed hi
  have HE : Hid (Ed n M L ∧ R.Perm L) := ⟨hed, hi.perm⟩
  obtain ⟨i0, hi0, hz0, hz1, hz2⟩ := info_parts Tryz.info3
  clear h hi hed
  go_enter Tryz.func26, Tryz.ntmps26
  go_wp2_with fail
  refine (labels_any n B q u R w HG.out hrl hn HIN.out).mono ?_
  rintro e w1 ⟨b0, was, rfl, hr, hb0, hwl, hlab, hbl⟩
  have HW : Hid (RowL w1 b0 was ∧ ∀ u v, u < n → v < n → (was.getD u 0 = was.getD v 0 ↔ cnR L u v)) := ⟨hr, fun u v hu hv => by rw [hlab u v hu hv]; exact cn_perm HE.out.2⟩
  have HB1 : Hid (Below w.heap.size w w1) := hbl
  have hc := (HG.out.below hbl).c0
  have hb0l := hr.lt
  have hw1s := hbl.size
  clear hr hlab hbl
  go_wp2_with fail
  go_loopw [4, 16] (fun s4 s16 wq => ∃ (x : Nat) (cs : List Nat), x ≤ n ∧ s16 = .int .i64 x ∧ CutsB L x cs ∧ wq.ownsRow w1.heap.size 3 1 s4 cs.length (natsV cs) ∧ Below w1.heap.size w1 wq) (fun _ s16 _ => n - (intOf s16).toNat)
  case atStart => exact ⟨0, [], Nat.zero_le _, rfl, CutsB.start L, World.ownsRow_nil _ _ _ _, Below.refl _ _⟩
  case round =>
    obtain ⟨x, cs, hx, rfl, hcs, hown, hbq⟩ := hrel
    have HCS : Hid (CutsB L x cs) := hcs
    have HBQ : Hid (Below w1.heap.size w1 wr) := hbq
    have hgr := (HG.out.below HB1.out).below hbq
    have HGR : Hid (G.GAt wr B 33 55 q (n : Int) u R) := hgr
    have hwrs := hbq.size
    have hcl := hcs.len
    clear hcs hbq hc
    by_cases hlt : x < n
    · have hc := hgr.c0
      clear hgr
      go_wp2_with fail
      refine (rwo_call x n B q u R wr HGR.out hrl HIN.out).mono ?_
      rintro e w2 ⟨q', v', rfl, hg2, hb2⟩
      have HG2 : Hid (G.GAt w2 wr.heap.size 33 55 q' (n : Int) v' (wo R x) ∧ Below wr.heap.size wr w2) := ⟨hg2, hb2⟩
      clear hg2 hb2 hc
      go_wp2_with fail
      refine (labels_any n wr.heap.size q' v' (wo R x) w2 HG2.out.1 (Nat.le_trans (wo_len R x) hrl) hn (inn_wo HIN.out x)).mono ?_
      rintro e w3 ⟨b1, l, rfl, hr3, hb1, hll, hlab3, hbl3⟩
      have HB3 : Hid (Below wr.heap.size wr w3) := HG2.out.2.trans (hbl3.mono HG2.out.2.size)
      have hcut := gd_cut (x := x) (was := was) (l := l) HE.out.1 HW.out.2 (fun u v hu hv => by rw [hlab3 u v hu hv]; exact cn_perm (wo_perm HE.out.2 x))
      have HCUT : Hid ((∃ a, a < n ∧ ∃ b, b < a ∧ gd was l x a b) ↔ cutP L x) := hcut
      have hc := (HGR.out.below HB3.out).c0
      have HOW : Hid (w3.ownsRow w1.heap.size 3 1 u4 cs.length (natsV cs)) := hown.kept (grown_below HB3.out) (by cases u4.ownBlock <;> simp)
      have HBW : Hid (Below w1.heap.size w1 w3) := HBQ.out.trans (HB3.out.mono hwrs)
      have HL3 : Hid (RowL w3 b1 l) := hr3
      have HW3 : Hid (RowL w3 b0 was) := (HW.out.1.below HBW.out hb0l)
      clear hr3 hlab3 hbl3 hcut HG2 hown HBQ HGR
      go_wp2_with fail
      go_loopw [7, 28] (fun s7 s28 wq => ∃ (a : Nat) (pb : Bool), a ≤ n ∧ s28 = .int .i64 a ∧ s7 = .bool pb ∧ Pb was l x a 0 pb ∧ Below w3.heap.size w3 wq) (fun _ s28 _ => n - (intOf s28).toNat)
      case atStart => exact ⟨0, false, Nat.zero_le _, rfl, rfl, pb_start was l x, Below.refl _ _⟩
      case round =>
        obtain ⟨a, pb, ha, rfl, rfl, hpb, hba⟩ := hrel
        have HPB : Hid (Pb was l x a 0 pb) := hpb
        have HBA : Hid (Below w3.heap.size w3 wr) := hba
        clear hpb hba hc
        by_cases hlta : a < n
        · go_wp2_with fail
          go_loopw [7, 32] (fun s7 s32 wq => ∃ (b : Nat) (pb : Bool), b ≤ a ∧ s32 = .int .i64 b ∧ s7 = .bool pb ∧ Pb was l x a b pb ∧ Below w3.heap.size w3 wq) (fun _ s32 _ => a - (intOf s32).toNat)
          case atStart => exact ⟨0, pb, Nat.zero_le _, rfl, rfl, HPB.out, HBA.out⟩
          case round =>
            clear HPB HBA
            obtain ⟨b, pb, hb, rfl, rfl, hpb, hbb⟩ := hrel
            have HPB : Hid (Pb was l x a b pb) := hpb
            have HBB : Hid (Below w3.heap.size w3 wr) := hbb
            by_cases hltb : b < a
            · have cwa := (HW3.out.below hbb HW3.out.lt).cell a (by omega)
              have cwb := (HW3.out.below hbb HW3.out.lt).cell b (by omega)
              have cla := (HL3.out.below hbb HL3.out.lt).cell a (by omega)
              have clb := (HL3.out.below hbb HL3.out.lt).cell b (by omega)
              obtain ⟨A, hA⟩ : ∃ A, was.getD a 0 = A := ⟨_, rfl⟩
              obtain ⟨A', hA'⟩ : ∃ A, was.getD b 0 = A := ⟨_, rfl⟩
              obtain ⟨E, hE⟩ : ∃ A, l.getD a 0 = A := ⟨_, rfl⟩
              obtain ⟨E', hE'⟩ : ∃ A, l.getD b 0 = A := ⟨_, rfl⟩
              rw [hA] at cwa
              rw [hA'] at cwb
              rw [hE] at cla
              rw [hE'] at clb
              have HGD : Hid (gd was l x a b ↔ (a ≠ x ∧ b ≠ x ∧ A = A' ∧ E ≠ E')) := by
                show gd was l x a b ↔ _
                unfold gd; rw [hA, hA', hE, hE']
              clear hpb hbb hA hA' hE hE'
              go_upto_region 14 with fail
              cases pb with
              | true =>
                as_aux_lemma =>
                go_quiet (fail)
                go_wp2_with fail
                go_roundw
                case rel => exact ⟨b + 1, true, by omega, by go_num, rfl, pb_yes HPB.out (.inl rfl), below_drewN HBB.out _⟩
                case measure => simp [intOf]; omega
              | false =>
                by_cases h1 : a = x
                · as_aux_lemma =>
                  subst h1
                  have HN : Hid (Pb was l a a (b + 1) false) := pb_no HPB.out (fun c => (HGD.out.1 c).1 rfl)
                  go_quiet (fail)
                  go_wp2_with fail
                  go_roundw
                  case rel => exact ⟨b + 1, false, by omega, by go_num, rfl, HN.out, below_drewN HBB.out _⟩
                  case measure => simp [intOf]; omega
                · have q1 : ((a : Int) != (x : Int)) = true := bne_iff_ne.2 (by omega)
                  by_cases h2 : b = x
                  · as_aux_lemma =>
                    subst h2
                    have HN : Hid (Pb was l b a (b + 1) false) := pb_no HPB.out (fun c => (HGD.out.1 c).2.1 rfl)
                    go_quiet (fail)
                    go_wp2_with fail
                    go_roundw
                    case rel => exact ⟨b + 1, false, by omega, by go_num, rfl, HN.out, below_drewN HBB.out _⟩
                    case measure => simp [intOf]; omega
                  · have q2 : ((b : Int) != (x : Int)) = true := bne_iff_ne.2 (by omega)
                    by_cases h3 : A = A'
                    · subst h3
                      by_cases h4 : E = E'
                      · as_aux_lemma =>
                        subst h4
                        have HN : Hid (Pb was l x a (b + 1) false) := pb_no HPB.out (fun c => (HGD.out.1 c).2.2.2 rfl)
                        go_quiet (fail)
                        go_wp2_with fail
                        go_roundw
                        case rel => exact ⟨b + 1, false, by omega, by go_num, rfl, HN.out, below_drewN HBB.out _⟩
                        case measure => simp [intOf]; omega
                      · as_aux_lemma =>
                        have q4 : ((E : Int) != (E' : Int)) = true := bne_iff_ne.2 (by omega)
                        have HN : Hid (Pb was l x a (b + 1) true) := pb_yes HPB.out (.inr (HGD.out.2 ⟨h1, h2, rfl, h4⟩))
                        clear h1 h2 h4
                        go_quiet (fail)
                        go_wp2_with fail
                        go_roundw
                        case rel => exact ⟨b + 1, true, by omega, by go_num, rfl, HN.out, below_drewN HBB.out _⟩
                        case measure => simp [intOf]; omega
                    · as_aux_lemma =>
                      have q3 : ((A : Int) == (A' : Int)) = false := beq_eq_false_iff_ne.2 (by omega)
                      have HN : Hid (Pb was l x a (b + 1) false) := pb_no HPB.out (fun c => h3 (HGD.out.1 c).2.2.1)
                      clear h1 h2 h3
                      go_quiet (fail)
                      go_wp2_with fail
                      go_roundw
                      case rel => exact ⟨b + 1, false, by omega, by go_num, rfl, HN.out, below_drewN HBB.out _⟩
                      case measure => simp [intOf]; omega
            · have hbe : b = a := by omega
              subst hbe
              have HPN : Hid (Pb was l x (b + 1) 0 pb) := pb_next HPB.out
              clear hpb hbb
              go_wp2_with fail
              go_roundw
              case rel => exact ⟨b + 1, pb, by omega, by go_num, rfl, HPN.out, HBB.out⟩
              case measure => simp [intOf]; omega
        · have hae : a = n := by omega
          subst hae
          have HPE : Hid (pb = true ↔ cutP L x) := (pb_end HPB.out).trans HCUT.out
          have HOW2 : Hid (wr.ownsRow w1.heap.size 3 1 u4 cs.length (natsV cs)) := HOW.out.kept (grown_below HBA.out) (by cases u4.ownBlock <;> simp)
          have HBW2 : Hid (Below w1.heap.size w1 wr) := HBW.out.trans (HBA.out.mono HBW.out.size)
          have hwrs2 := HBW2.out.size
          clear HPB HBA HOW HBW
          cases pb with
          | true =>
            as_aux_lemma =>
            have HC : Hid (CutsB L (x + 1) (cs ++ [x])) := HCS.out.yes (HPE.out.1 rfl)
            have how := HOW2.out
            go_wp2_with (first
              | (at_builtin; refine wpList_append_own_at _ rfl _ _ 39 rfl w1.heap.size 3 i0 (.int .i64 0) 1 8 Tryz.underlying39 hi0 hz0 hz1 hz2 rfl (by decide) u4 _ _ rfl (how.alloc _) ⟨wr.heap.size, 0, none⟩ 1 1 [.int .i64 (x : Int)] rfl rfl (cell_one_new _ _ _) (ints_oneCell .i64 [(x : Int)]) (by unfold maxLen; omega) (by omega) (by simp; omega) ?_; intro v5 w5 hown5 hgrow5 hnil5 hloc5)
              | fail)
            have hall := (World.grownBy_alloc wr _ _).trans hgrow5
            go_roundw
            case rel => exact ⟨x + 1, cs ++ [x], by omega, by go_num, HC.out, by simpa [natsV] using hown5, HBW2.out.grown hall HBW2.out.size (fun j hj => (how.lt j hj).1)⟩
            case measure => simp [intOf]; omega
          | false =>
            as_aux_lemma =>
            have HC : Hid (CutsB L (x + 1) cs) := HCS.out.no (fun c => by have := HPE.out.2 c; cases this)
            go_wp2_with fail
            go_roundw
            case rel => exact ⟨x + 1, cs, by omega, by go_num, HC.out, HOW2.out, HBW2.out⟩
            case measure => simp [intOf]; omega
    · have hxe : x = n := by omega
      subst hxe
      have HF : Hid (wr.ownsRow w.heap.size 3 1 u4 cs.length (natsV cs) ∧ Below w.heap.size w wr) := ⟨ownsRow_base_a hown hw1s, HB1.out.trans (HBQ.out.mono hw1s)⟩
      clear hown hgr
      go_wp2_with fail
      go_ret
      exact ⟨_, cs, rfl, HCS.out, HF.out.1, HF.out.2⟩

end Go.Proofs.YtdcdmmbchfhioaaGreatDoor.S
