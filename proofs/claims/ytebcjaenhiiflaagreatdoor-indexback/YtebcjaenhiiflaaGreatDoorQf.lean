/- The law IndexBack: the walk. -/
import Derived.Test.YtebcjaenhiiflaaGreatDoorQe
import Derived.Deep.DeepCutAuto
import Derived.Deep.RegionHeld
namespace Go.Proofs.YtebcjaenhiiflaaGreatDoor.I
open Go.RowKit Go.WideMaps Go.Maps Go.Lib

/-- Steps that came in. -/
structure StepsAt (w : World) (bl off m : Nat) (ps : Nat → Int × Int × Int × Bool) : Prop where
  i : ∀ k, k < m → w.cell? ⟨bl, off + k * 4, none⟩ = some (.int .i64 (ps k).1)
  a : ∀ k, k < m → w.cell? ⟨bl, off + k * 4 + 1, none⟩ = some (.int .i64 (ps k).2.1)
  b : ∀ k, k < m → w.cell? ⟨bl, off + k * 4 + 2, none⟩ = some (.int .i64 (ps k).2.2.1)
  g : ∀ k, k < m → w.cell? ⟨bl, off + k * 4 + 3, none⟩ = some (.bool (ps k).2.2.2)

/-- The index x, and the step that is read. -/
structure Rnd (w1 w : World) (x n xb : Nat) (cs : Array Value) : Prop where
  rel : Rel1 w1 x n w
  hx : w.heap[xb]? = some (.cells cs 59)

theorem Rnd.cells {w1 w : World} {x n xb : Nat} {x0 x1 x2 : Int} {g : Bool} (h : Rnd w1 w x n xb #[.int .i64 x0, .int .i64 x1, .int .i64 x2, .bool g]) :
    w.cell? ⟨xb, 0, none⟩ = some (.int .i64 x0) ∧ w.cell? ⟨xb, 1, none⟩ = some (.int .i64 x1) ∧ w.cell? ⟨xb, 2, none⟩ = some (.int .i64 x2) := by
  refine ⟨?_, ?_, ?_⟩ <;> simp [World.cell?, h.hx]

/-- While edges come again, from the last one on: y has those from j on; z and the list are as they were. -/
structure Rel2 (wA wD wq : World) (y z n a b j : Nat) (u : Value) (L : List G.E) : Prop where
  y : ∃ p q v R B W T D pw bw pt bt mp N, IAt wA wq y p q n v (L.drop j) R B W T D pw bw pt bt mp N ∧ p < a ∧ bw < a ∧ bt < a ∧ mp < a ∧ ∀ k, v.ownBlock = some k → k < a ∨ b ≤ k
  z : IV wq a b z n L
  all : G.Owns wq wD.heap.size 61 u L
  hall : ∀ k, u.ownBlock = some k → k < b
  size : b ≤ wq.heap.size

theorem Rel2.base {wA wD wq : World} {y z n a b j : Nat} {u : Value} {L : List G.E} (h : Rel2 wA wD wq y z n a b j u L) : Below wA.heap.size wA wq := by
  obtain ⟨p, q, v, R, B, W, T, D, pw, bw, pt, bt, mp, N, h, _⟩ := h.y
  exact h.rn.below

theorem Rel2.drew {wA wD wq : World} {y z n a b j : Nat} {u : Value} {L : List G.E} (h : Rel2 wA wD wq y z n a b j u L) : Rel2 wA wD wq.drew y z n a b j u L := by
  obtain ⟨p, q, v, R, B, W, T, D, pw, bw, pt, bt, mp, N, h1, h2⟩ := h.y
  exact ⟨⟨p, q, v, R, B, W, T, D, pw, bw, pt, bt, mp, N, h1.below' ⟨rfl, rfl, rfl, Nat.le_refl _, fun _ _ => rfl⟩, h2⟩, h.z.below ⟨rfl, rfl, rfl, Nat.le_refl _, fun _ _ => rfl⟩, h.all, h.hall, h.size⟩

theorem rel2_add {wA wD wq : World} {y z n a b j : Nat} {u : Value} {L : List G.E} {e : G.E} (h : Rel2 wA wD wq y z n a b (j + 1) u L) (hok : Ok n L) (he : L[j]? = some e) (hD : a ≤ wD.heap.size) :
    Calls Tryz.prog 21 #[.pointer (some ⟨y, 0, none⟩), .int .i64 e.1, .int .i64 e.2.2, .int .i64 e.2.1] wq fun en w' => (∃ ok, en = .returned (.tuple #[.bool ok, .nilIface])) ∧ Rel2 wA wD w' y z n a b j u L := by
  obtain ⟨p, q, v, R, B, W, T, D, pw, bw, pt, bt, mp, N, h1, hp, hw, ht, hm, hv⟩ := h.y
  have hlt : j < L.length := (List.getElem?_eq_some_iff.1 he).1
  have hge : L[j] = e := (List.getElem?_eq_some_iff.1 he).2
  have hdr : L.drop j = e :: L.drop (j + 1) := by rw [← hge]; exact List.drop_eq_getElem_cons hlt
  have hed := hok.ed e (List.mem_of_getElem? he)
  have hup : G.Up (e :: L.drop (j + 1)) := by rw [← hdr]; exact List.Pairwise.sublist (List.drop_sublist _ _) hok.up
  have hup' : (e :: L.drop (j + 1)).Pairwise (fun x y => x.1 < y.1) := hup
  have e1 : ((e.2.2.toNat : Nat) : Int) = e.2.2 := Int.toNat_of_nonneg (by omega)
  have e2 : ((e.2.1.toNat : Nat) : Int) = e.2.1 := Int.toNat_of_nonneg (by omega)
  have hfits : Fits n (L.drop (j + 1)) e.1 ((e.2.2.toNat : Nat) : Int) ((e.2.1.toNat : Nat) : Int) := by
    rw [e1, e2]
    refine ⟨hed.1, by omega, by omega, by omega, fun x hx => ?_, ?_⟩
    · have := List.rel_of_pairwise_cons hup' hx
      omega
    · have := hok.len
      rw [List.length_drop]
      omega
  have hadd := iadd_ok e.1 e.2.2.toNat e.2.1.toNat wq h1 hfits
  have hee : edg e.1 e.2.2 e.2.1 = e := by
    unfold edg
    rw [show min e.2.2 e.2.1 = e.2.1 by omega, show max e.2.2 e.2.1 = e.2.2 by omega]
  rw [e1, e2] at hadd
  refine hadd.mono ?_
  rintro en w' ⟨ok, v', B', W', T', D', N', rfl, h2, _, hk, hf⟩
  rw [hee, put_head hup, ← hdr] at h2
  refine ⟨⟨ok, rfl⟩, ⟨p, q, v', _, B', W', T', D', pw, bw, pt, bt, mp, N', h2, hp, hw, ht, hm, fun k hkv => ?_⟩, ?_, ?_, h.hall, Nat.le_trans h.size hk.size⟩
  · rcases hf k hkv with h3 | h3
    · exact hv k h3
    · exact .inr (Nat.le_trans h.size h3)
  · exact h.z.other h1 hk (.inl hp) (.inl hw) (.inl ht) (.inl hm) hv
  · refine ⟨h.all.1, ?_⟩
    rcases h.all.2 with hn | ⟨g, cap, cur, rfl, hB, hg, rest⟩
    · exact .inl hn
    · refine .inr ⟨g, cap, cur, rfl, hB, ?_, rest⟩
      have hgb := h.hall g rfl
      rw [hk.block g (G.lt_of_some hg) (by omega) (fun e => by have := hv g e.symm; omega) (by omega) (by omega) (by omega)]
      exact hg

set_option maxHeartbeats 8000000 in
set_option maxRecDepth 100000 in
theorem back_in (n0 : Int) (a : Option Addr) (bl off m cap : Nat) (ps : Nat → Int × Int × Int × Bool) (w : World) (hm : m ≤ 50) (hv : Vars w)
    (ha : 0 < m → a = some ⟨bl, off, none⟩) (hps : StepsAt w bl off m ps) (hbl : 0 < m → bl < w.heap.size) :
    Calls Tryz.prog 5 #[.int .i64 n0, .slice a m cap] w fun e w' => e = .returned (.bool true) ∧ Below w.heap.size w w' := by
  have g1 : ¬ ((50 : Int) < (m : Int)) := by omega
  have HAA : Hid (0 < m → a = some ⟨bl, off, none⟩) := ha
  have HBL : Hid (0 < m → bl < w.heap.size) := hbl
  have HP : Hid (StepsAt w bl off m ps) := hps
  have HV : Hid (Vars w) := hv
  have HKE : Hid _ := kept_any w hv
  clear ha hbl hps hv
  go_enter Tryz.func5, Tryz.ntmps5
  go_wp2_with fail
  refine Calls.mono HKE.out ?_
  rintro e w0 ⟨rfl, hb0⟩
  have HB0 : Hid (Below w.heap.size w w0) := hb0
  clear hb0 HKE
  go_wp2_with fail
  refine (S.pick_any n0 11 _ (by omega) (by omega)).mono ?_
  rintro e w1 ⟨rfl, hw1⟩
  subst hw1
  have hn1 := S.pk_lt n0 11 (by omega)
  generalize S.pk n0 11 = n1 at *
  go_wp2_with fail
  rw [show (2 + (n1 : Int)) = ((n1 + 2 : Nat) : Int) from by omega]
  obtain ⟨n, hn⟩ : ∃ n, n = n1 + 2 := ⟨_, rfl⟩
  rw [← hn]
  have hn12 : n ≤ 12 := by omega
  have hn0 : 0 < n := by omega
  clear hn hn1
  refine (inew_in n w1 (by omega)).mono ?_
  rintro e w2 ⟨x, p, q, v, B, W, T, D, pw, bw, pt, bt, mp, N, rfl, hat⟩
  have HR0 : Hid (Rel1 w1 x n w2) := ⟨p, q, v, [], [], B, W, T, D, pw, bw, pt, bt, mp, N, hat, by simp⟩
  clear hat
  go_wp2_with fail
  go_loopw [7, 8] (fun s7 _ wq => ∃ i : Nat, i ≤ m ∧ s7 = .int .i64 i ∧ Rel1 w1 x n wq) (fun s7 _ _ => m - (intOf s7).toNat)
  case atStart => exact ⟨0, Nat.zero_le _, rfl, HR0.out⟩
  case round =>
    clear HR0
    obtain ⟨i, hi, rfl, hrl⟩ := hrel
    have HR : Hid (Rel1 w1 x n wr) := hrl
    clear hrl
    by_cases hlt : i < m
    · as_aux_lemma =>
      have haa := HAA.out (by omega)
      have hbl := HBL.out (by omega)
      subst haa
      have hbw1 : bl < w1.heap.size := Nat.lt_of_lt_of_le hbl HB0.out.size
      have hblr : ∀ o, wr.cell? ⟨bl, o, none⟩ = w.cell? ⟨bl, o, none⟩ := fun o => (HR.out.base.cell (p := ⟨bl, o, none⟩) hbw1).trans (HB0.out.cell (p := ⟨bl, o, none⟩) hbl)
      have c0 := (hblr _).trans (HP.out.i i hlt)
      have c1 := (hblr _).trans (HP.out.a i hlt)
      have c2 := (hblr _).trans (HP.out.b i hlt)
      have c3 := (hblr _).trans (HP.out.g i hlt)
      generalize (ps i).1 = x0 at *
      generalize (ps i).2.1 = x1 at *
      generalize (ps i).2.2.1 = x2 at *
      generalize (ps i).2.2.2 = gn at *
      clear hblr hbw1
      obtain ⟨W1, hW1⟩ : ∃ W1, W1 = wr.alloc (.cells #[.int .i64 x0, .int .i64 x1, .int .i64 x2, .bool gn] 59) := ⟨_, rfl⟩
      obtain ⟨xb, hxb⟩ : ∃ xb, xb = wr.heap.size := ⟨_, rfl⟩
      have HR1 : Hid (Rnd w1 W1 x n xb #[.int .i64 x0, .int .i64 x1, .int .i64 x2, .bool gn]) := by
        refine ⟨HR.out.below' ?_, ?_⟩
        · rw [hW1]; exact (Below.refl _ _).alloc (Nat.le_refl _) _
        · rw [hW1, hxb]; exact heap_alloc_new wr _
      have c3' : W1.cell? ⟨xb, 3, none⟩ = some (.bool gn) := by simp [World.cell?, HR1.out.hx]
      have HW1 : Hid (wr.alloc (.cells #[.int .i64 x0, .int .i64 x1, .int .i64 x2, .bool gn] 59) = W1) := hW1.symm
      have HXB : Hid (wr.heap.size = xb) := hxb.symm
      clear hW1 hxb
      go_upto_region 13 with fail
      rw [HW1.out, HXB.out]
      obtain ⟨d0, d1, d2⟩ := HR1.out.cells
      cases gn with
      | true =>
        as_aux_lemma =>
        go_wp2_with fail
        refine (S.pick_any x0 30 _ (by omega) (by omega)).mono ?_
        rintro e w3 ⟨rfl, hw3⟩
        subst hw3
        have HD : Hid _ := rel_drop HR1.out.rel (S.pk x0 30)
        go_wp2_with fail
        refine Calls.mono HD.out ?_
        rintro e w4 ⟨⟨u4, rfl⟩, hr4⟩
        have HR4 : Hid (Rel1 w1 x n w4) := hr4
        clear hr4 HD
        go_wp2_with fail
        go_roundw
        case rel => exact ⟨i + 1, by omega, by go_num, HR4.out⟩
        case measure => simp [intOf]; omega
      | false =>
        as_aux_lemma =>
        have HR1d : Hid (Rnd w1 W1.drew x n xb #[.int .i64 x0, .int .i64 x1, .int .i64 x2, .bool false]) := ⟨HR1.out.rel.below' ⟨rfl, rfl, rfl, Nat.le_refl _, fun _ _ => rfl⟩, HR1.out.hx⟩
        have hid := S.pk_lt x0 30 (by omega)
        obtain ⟨I0, hI0⟩ : ∃ I0, S.pk x0 30 = I0 := ⟨_, rfl⟩
        obtain ⟨A0, hA0⟩ : ∃ A0, S.pk x1 n = A0 := ⟨_, rfl⟩
        obtain ⟨E0, hE0⟩ : ∃ E0, S.pk x2 n = E0 := ⟨_, rfl⟩
        rw [hI0] at hid
        have HI0 : Hid (S.pk x0 30 = I0) := hI0
        have HA0 : Hid (S.pk x1 n = A0) := hA0
        have HE0 : Hid (S.pk x2 n = E0) := hE0
        clear hI0 hA0 hE0
        have HADD : Hid _ := rel_add HR1d.out.rel I0 A0 E0 hid
        go_wp2_with fail
        go_region_held (fun w' => w'.cell? ⟨xb, 0, none⟩ = some (.int .i64 x0) ∧ w'.cell? ⟨xb, 1, none⟩ = some (.int .i64 x1) ∧ w'.cell? ⟨xb, 2, none⟩ = some (.int .i64 x2)) (go_keep)
          (first
            | (go_at_call_of 31 x0; refine (S.pick_any x0 30 _ (by omega) (by omega)).mono ?_; rintro e w' ⟨rfl, rfl⟩; rw [HI0.out])
            | (go_at_call_of 31 x1; refine (S.pick_any x1 n _ (by omega) (by omega)).mono ?_; rintro e w' ⟨rfl, rfl⟩; rw [HA0.out])
            | (go_at_call_of 31 x2; refine (S.pick_any x2 n _ (by omega) (by omega)).mono ?_; rintro e w' ⟨rfl, rfl⟩; rw [HE0.out])
            | (go_at_call 21; refine Calls.mono HADD.out ?_; rintro e w4 ⟨⟨u4, rfl⟩, hr4, hk4⟩; have k4 := (Rnd.mk hr4 (hk4 _ _ HR1d.out.hx)).cells; have HR4 : Hid (Rel1 w1 x n w4) := hr4; clear hr4 hk4))
        all_goals
          go_wp2_with fail
          go_roundw
          case rel => exact ⟨i + 1, by omega, by go_num, HR4.out⟩
          case measure => simp [intOf]; omega
    · obtain rfl : i = m := by omega
      clear HAA HBL HP hlt
      obtain ⟨p, q, v, L, R, B, W, T, D, pw, bw, pt, bt, mp, N, hat, hl30⟩ := HR.out
      have hfew := few hat.ok hl30
      have HOK : Hid (Ok n L) := hat.ok
      have HXA : Hid (IV wr w1.heap.size wr.heap.size x n L) := hat.iv (Nat.le_refl _) (Nat.le_refl _)
      have HBA : Hid (Below w.heap.size w wr) := HB0.out.trans (hat.rn.below.mono HB0.out.size)
      clear hat hl30 HR
      go_wp2_with fail
      refine (inew_in n wr (by omega)).mono ?_
      rintro e wB ⟨y, py, qy, vy, By, Wy, Ty, Dy, pwy, bwy, pty, bty, mpy, Ny, rfl, haty⟩
      have HY : Hid (IAt wr wB y py qy n vy [] [] By Wy Ty Dy pwy bwy pty bty mpy Ny) := haty
      have HXB : Hid (IV wB w1.heap.size wr.heap.size x n L) := HXA.out.below haty.rn.below
      have HBB : Hid (Below w.heap.size w wB) := HBA.out.trans (haty.rn.below.mono HBA.out.size)
      have HS : Hid _ := isaved HXB.out (HV.out.below HBB.out)
      clear haty
      go_wp2_with fail
      refine Calls.mono HS.out ?_
      rintro e wC ⟨rfl, hbC⟩
      have HBC : Hid (Below wB.heap.size wB wC) := hbC
      have hsz : (ByteArray.mk (svI n L).toArray).size ≤ 100000 := by
        have := svI_len HOK.out L.length
        rw [List.take_length] at this
        show (svI n L).toArray.size ≤ 100000
        simp only [List.size_toArray]
        omega
      have HTE : Hid (Tells (ByteArray.mk (svI n L).toArray).data.toList n L) := ⟨HOK.out, by rw [svE_ok HOK.out]⟩
      have HL : Hid _ := load_any ⟨(svI n L).toArray⟩ wC hsz ((HV.out.below HBB.out).below hbC)
      clear hbC HS hsz
      go_wp2_with fail
      refine Calls.mono HL.out ?_
      rintro e wD (⟨n', L', ht', z, pz, qz, vz, Rz, Bz, Wz, Tz, Dz, pwz, bwz, ptz, btz, mpz, Nz, rfl, hatz⟩ | ⟨hno, rfl, hb⟩)
      case inr => exact absurd HTE.out (hno n L)
      obtain ⟨rfl, rfl⟩ := svE_inj ht'.1 HOK.out (ht'.2.symm.trans HTE.out.2)
      have HBD : Hid (Below wC.heap.size wC wD) := hatz.rn.below
      have HZD : Hid (IV wD wC.heap.size wD.heap.size z n' L') := hatz.iv (Nat.le_refl _) (Nat.le_refl _)
      have HBD' : Hid (Below wB.heap.size wB wD) := HBC.out.trans (HBD.out.mono HBC.out.size)
      have HXD : Hid (IV wD w1.heap.size wr.heap.size x n' L') := HXB.out.below HBD'.out
      have HE : Hid _ := iedges HXD.out
      clear ht' hatz HL HTE
      go_wp2_with fail
      refine Calls.mono HE.out ?_
      rintro e wE ⟨u, rfl, hoE, hbE⟩
      have HBE : Hid (Below wD.heap.size wD wE) := hbE
      have HBBE : Hid (Below wB.heap.size wB wE) := HBD'.out.trans (HBE.out.mono HBD'.out.size)
      have HR2 : Hid (Rel2 wr wD wE y z n' wC.heap.size wE.heap.size L'.length u L') := by
        have h1 := HY.out.below' HBBE.out
        have s1 := HBC.out.size
        have s2 := HBD.out.size
        have s3 := HBE.out.size
        have y1 := HY.out.gra.plt
        have y2 := HY.out.rn.now.at_.sw.blt
        have y3 := HY.out.rn.now.at_.st.blt
        have y4 := map_lt HY.out.rn.now.at_
        refine ⟨⟨py, qy, vy, [], By, Wy, Ty, Dy, pwy, bwy, pty, bty, mpy, Ny, by rw [List.drop_length]; exact h1, by omega, by omega, by omega, by omega, fun k hk => .inl ?_⟩, ?_, hoE, fun k hk => ?_, Nat.le_refl _⟩
        · have := (HY.out.gra.lt hk).2
          omega
        · obtain ⟨p, q, v, R, B, W, T, D, pw, bw, pt, bt, mp, N, g, h⟩ := HZD.out.below hbE
          exact ⟨p, q, v, R, B, W, T, D, pw, bw, pt, bt, mp, N, g, { h with ip := ⟨h.ip.1, by have := h.ip.2; omega⟩, iw := ⟨h.iw.1, by have := h.iw.2; omega⟩, it := ⟨h.it.1, by have := h.it.2; omega⟩, im := ⟨h.im.1, by have := h.im.2; omega⟩, iv := fun k hk => ⟨(h.iv k hk).1, by have := (h.iv k hk).2; omega⟩ }⟩
        · obtain ⟨cur, hc⟩ := own61 hoE hk
          exact G.lt_of_some hc
      obtain ⟨aE, lenE, rfl⟩ : ∃ aE cE, u = .slice aE L'.length cE := hoE.slice_len
      have haC : wC.heap.size ≤ wD.heap.size := HBD.out.size
      clear hoE hbE HE HZD HXD HXB HY HBBE HBD' HBD HBC
      generalize wC.heap.size = za at *
      generalize hzb : wE.heap.size = zb at *
      clear hzb
      obtain ⟨wA, rfl⟩ : ∃ wA, wA = wr := ⟨_, rfl⟩
      go_wp2_with fail
      go_loopw [13] (fun s13 wq => ∃ j : Nat, j ≤ L'.length ∧ s13 = .int .i64 ((j : Int) - 1) ∧ Rel2 wA wD wq y z n' za zb j (.slice aE L'.length lenE) L') (fun s13 _ => (intOf s13 + 1).toNat)
      case atStart => exact ⟨L'.length, Nat.le_refl _, by go_num, HR2.out⟩
      case round =>
        clear HR2
        obtain ⟨j, hj, rfl, hr2⟩ := hrel
        have HR : Hid (Rel2 wA wD wr y z n' za zb j (.slice aE L'.length lenE) L') := hr2
        clear hr2
        by_cases hj0 : j = 0
        · subst hj0
          rw [show (((0 : Nat) : Int) - 1) = -1 from rfl]
          clear hj
          obtain ⟨wF, rfl⟩ : ∃ wF, wF = wr := ⟨_, rfl⟩
          have HXF : Hid (∃ a b, IV wF a b x n' L') := ⟨_, _, HXA.out.below HR.out.base⟩
          have HYF : Hid (∃ a b, IV wF a b y n' L') := by
            obtain ⟨p, q, v, R, B, W, T, D, pw, bw, pt, bt, mp, N, h, _⟩ := HR.out.y
            rw [List.drop_zero] at h
            exact ⟨_, _, h.iv (Nat.le_refl _) (Nat.le_refl _)⟩
          have HZF : Hid (∃ a b, IV wF a b z n' L') := ⟨_, _, HR.out.z⟩
          have HBF : Hid (Below w.heap.size w wF) := HBA.out.trans (HR.out.base.mono HBA.out.size)
          have hbz : (brz n' L').length ≤ 120 := by
            obtain ⟨_, _, h⟩ := HXF.out
            exact brz_len h
          clear HR HXA HBA
          obtain ⟨wG, hwG⟩ : ∃ wG, wG = wF.alloc (.cells #[.pointer (some ⟨y, 0, none⟩), .pointer (some ⟨z, 0, none⟩)] 26) := ⟨_, rfl⟩
          obtain ⟨bG, hbG⟩ : ∃ bG, bG = wF.heap.size := ⟨_, rfl⟩
          have HGA : Hid (Below wF.heap.size wF wG ∧ wG.heap[bG]? = some (.cells #[.pointer (some ⟨y, 0, none⟩), .pointer (some ⟨z, 0, none⟩)] 26)) := by
            rw [hwG, hbG]
            exact ⟨(Below.refl _ _).alloc (Nat.le_refl _) _, heap_alloc_new wF _⟩
          have HWG : Hid (wF.alloc (.cells #[.pointer (some ⟨y, 0, none⟩), .pointer (some ⟨z, 0, none⟩)] 26) = wG) := hwG.symm
          have HBG : Hid (wF.heap.size = bG) := hbG.symm
          have HXG : Hid (∃ a b, IV wG a b x n' L') := by
            obtain ⟨a, b, h⟩ := HXF.out
            exact ⟨a, b, h.below HGA.out.1⟩
          have HOG : Hid (∀ i, i < 2 → ∃ o, wG.cell? ⟨bG, i, none⟩ = some (.pointer (some ⟨o, 0, none⟩)) ∧ ∃ a b, IV wG a b o n' L') := by
            intro i hi
            obtain ⟨a1, b1, h1⟩ := HYF.out
            obtain ⟨a2, b2, h2⟩ := HZF.out
            rcases (show i = 0 ∨ i = 1 by omega) with rfl | rfl
            · exact ⟨y, by simp [World.cell?, HGA.out.2], a1, b1, h1.below HGA.out.1⟩
            · exact ⟨z, by simp [World.cell?, HGA.out.2], a2, b2, h2.below HGA.out.1⟩
          have HVG : Hid (Vars wG) := (HV.out.below HBF.out).below HGA.out.1
          have HBW : Hid (Below w.heap.size w wG) := HBF.out.trans (HGA.out.1.mono HBF.out.size)
          clear hwG hbG HXF HYF HZF HV
          go_upto_region 28 with fail
          rw [HWG.out, HBG.out]
          clear HWG HBG HGA HBF
          go_loopw [133] (fun s133 wq => ∃ i : Nat, i ≤ 2 ∧ s133 = .int .i64 i ∧ Below wG.heap.size wG wq) (fun s133 _ => 2 - (intOf s133).toNat)
          case atStart => exact ⟨0, by omega, rfl, Below.refl _ _⟩
          case round =>
          obtain ⟨i3, hi3, rfl, hbq⟩ := hrel
          have HBQ : Hid (Below wG.heap.size wG wr) := hbq
          clear hbq
          obtain ⟨K0, rfl⟩ : ∃ K0, K0 = wr := ⟨_, rfl⟩
          by_cases hl3n : ¬ i3 < 2
          · obtain rfl : i3 = 2 := by omega
            go_wp2_with fail
            go_ret
            exact ⟨rfl, HBW.out.trans (HBQ.out.mono HBW.out.size)⟩
          have hl3 : i3 < 2 := by omega
          clear hl3n
          obtain ⟨o, hco, hio⟩ := HOG.out i3 hl3
          have hcr : K0.cell? ⟨bG, i3, none⟩ = some (.pointer (some ⟨o, 0, none⟩)) := S.cell_below hco HBQ.out
          have HK0 : Hid (Ask wG K0 x o n' L') := by
            have := Ask.mk HXG.out hio HVG.out (Below.refl wG.heap.size wG)
            exact this.next HBQ.out
          clear hio hco HOG HXG HVG
          go_wp2_with fail
          obtain ⟨_, _, hq⟩ := HK0.out.io
          have HC0 : Hid _ := isaved hq HK0.out.vars
          clear hq
          refine Calls.mono HC0.out ?_
          rintro e K1 ⟨rfl, hb⟩
          have HK1 : Hid (Ask wG K1 x o n' L') := HK0.out.next hb
          clear hb HC0
          go_wp2_with fail
          obtain ⟨_, _, hq⟩ := HK1.out.ix
          have HC1 : Hid _ := isaved hq HK1.out.vars
          clear hq
          refine Calls.mono HC1.out ?_
          rintro e K2 ⟨rfl, hb⟩
          have HK2 : Hid (Ask wG K2 x o n' L') := HK1.out.next hb
          clear hb HC1
          go_wp2_with fail
          obtain ⟨_, _, hq⟩ := HK2.out.io
          have HC2 : Hid _ := ibridges hq
          clear hq
          refine Calls.mono HC2.out ?_
          rintro e K3 ⟨a1, c1, rfl, hz, hb⟩
          have HK3 : Hid (Ask wG K3 x o n' L') := HK2.out.next hb
          have HZ1 : Hid (Zs K3 a1 (brz n' L')) := hz
          clear hz
          clear hb HC2
          go_wp2_with fail
          obtain ⟨_, _, hq⟩ := HK3.out.ix
          have HC3 : Hid _ := ibridges hq
          clear hq
          refine Calls.mono HC3.out ?_
          rintro e K4 ⟨a2, c2, rfl, hz, hb⟩
          have HK4 : Hid (Ask wG K4 x o n' L') := HK3.out.next hb
          have HZ2 : Hid (Zs K4 a2 (brz n' L')) := hz
          have HM : Hid (Below K3.heap.size K3 K4) := hb
          clear hz hb HC3
          go_wp2_with fail
          have HC4 : Hid _ := same_zs (K := brz n' L') c1 c2 (HZ1.out.below HM.out) HZ2.out (by omega)
          refine Calls.mono HC4.out ?_
          rintro e K5 ⟨rfl, nq, hw⟩
          have hb : Below K4.heap.size K4 K5 := by rw [hw]; exact below_drewN _ _
          have HK5 : Hid (Ask wG K5 x o n' L') := HK4.out.next hb
          clear hb hw HC4 HZ1 HZ2 HM
          go_wp2_with fail
          obtain ⟨_, _, hq⟩ := HK5.out.io
          have HC5 : Hid _ := icuts hq
          clear hq
          refine Calls.mono HC5.out ?_
          rintro e K6 ⟨a1, c1, rfl, hz, hb⟩
          have HK6 : Hid (Ask wG K6 x o n' L') := HK5.out.next hb
          have HZ1 : Hid (Zs K6 a1 (cutz n' L')) := hz
          clear hz
          clear hb HC5
          go_wp2_with fail
          obtain ⟨_, _, hq⟩ := HK6.out.ix
          have HC6 : Hid _ := icuts hq
          clear hq
          refine Calls.mono HC6.out ?_
          rintro e K7 ⟨a2, c2, rfl, hz, hb⟩
          have HK7 : Hid (Ask wG K7 x o n' L') := HK6.out.next hb
          have HZ2 : Hid (Zs K7 a2 (cutz n' L')) := hz
          have HM : Hid (Below K6.heap.size K6 K7) := hb
          clear hz hb HC6
          go_wp2_with fail
          have HC7 : Hid _ := same_zs (K := cutz n' L') c1 c2 (HZ1.out.below HM.out) HZ2.out (by have := cutz_len n' L'; omega)
          refine Calls.mono HC7.out ?_
          rintro e K8 ⟨rfl, nq, hw⟩
          have hb : Below K7.heap.size K7 K8 := by rw [hw]; exact below_drewN _ _
          have HK8 : Hid (Ask wG K8 x o n' L') := HK7.out.next hb
          clear hb hw HC7 HZ1 HZ2 HM
          go_wp2_with fail
          obtain ⟨_, _, hq⟩ := HK8.out.io
          have HC8 : Hid _ := iblocks hq
          clear hq
          refine Calls.mono HC8.out ?_
          rintro e K9 ⟨u1, rfl, hz, hb⟩
          have HK9 : Hid (Ask wG K9 x o n' L') := HK8.out.next hb
          have HZ1 : Hid (S.AllAt K9 u1 (blz n' L')) := hz
          clear hz hb HC8
          go_wp2_with fail
          obtain ⟨_, _, hq⟩ := HK9.out.ix
          have HC9 : Hid _ := iblocks hq
          clear hq
          refine Calls.mono HC9.out ?_
          rintro e K10 ⟨u2, rfl, hz, hb⟩
          have HK10 : Hid (Ask wG K10 x o n' L') := HK9.out.next hb
          have HZ2 : Hid (S.AllAt K10 u2 (blz n' L')) := hz
          have HM : Hid (Below K9.heap.size K9 K10) := hb
          clear hz hb HC9
          go_wp2_with fail
          have HC10 : Hid _ := sames_all (Gs := blz n' L') (AllAt_below HZ1.out HM.out) HZ2.out (by have := (blz_len n' L').1; omega) (fun i => by have := (blz_len n' L').2 i; omega)
          refine Calls.mono HC10.out ?_
          rintro e K11 ⟨rfl, nq, hw⟩
          have hb : Below K10.heap.size K10 K11 := by rw [hw]; exact below_drewN _ _
          have HK11 : Hid (Ask wG K11 x o n' L') := HK10.out.next hb
          clear hb hw HC10 HZ1 HZ2 HM
          go_wp2_with fail
          obtain ⟨_, _, hq⟩ := HK11.out.io
          have HC11 : Hid _ := ithrice hq (by omega) (by omega)
          clear hq
          refine Calls.mono HC11.out ?_
          rintro e K12 ⟨u1, rfl, hz, hb⟩
          have HK12 : Hid (Ask wG K12 x o n' L') := HK11.out.next hb
          have HZ1 : Hid (S.AllAt K12 u1 (thz n' L')) := hz
          clear hz hb HC11
          go_wp2_with fail
          obtain ⟨_, _, hq⟩ := HK12.out.ix
          have HC12 : Hid _ := ithrice hq (by omega) (by omega)
          clear hq
          refine Calls.mono HC12.out ?_
          rintro e K13 ⟨u2, rfl, hz, hb⟩
          have HK13 : Hid (Ask wG K13 x o n' L') := HK12.out.next hb
          have HZ2 : Hid (S.AllAt K13 u2 (thz n' L')) := hz
          have HM : Hid (Below K12.heap.size K12 K13) := hb
          clear hz hb HC12
          go_wp2_with fail
          have HC13 : Hid _ := sames_all (Gs := thz n' L') (AllAt_below HZ1.out HM.out) HZ2.out (by have := (thz_len n' L').1; omega) (fun i => by have := (thz_len n' L').2 i; omega)
          refine Calls.mono HC13.out ?_
          rintro e K14 ⟨rfl, nq, hw⟩
          have hb : Below K13.heap.size K13 K14 := by rw [hw]; exact below_drewN _ _
          have HK14 : Hid (Ask wG K14 x o n' L') := HK13.out.next hb
          clear hb hw HC13 HZ1 HZ2 HM
          go_wp2_with fail
          obtain ⟨_, _, hq⟩ := HK14.out.io
          have HC14 : Hid _ := ipairs_len hq (by omega) (by omega)
          clear hq
          refine Calls.mono HC14.out ?_
          rintro e K15 ⟨_, _, rfl, hb⟩
          have HK15 : Hid (Ask wG K15 x o n' L') := HK14.out.next hb
          clear hb HC14
          go_wp2_with fail
          obtain ⟨_, _, hq⟩ := HK15.out.ix
          have HC15 : Hid _ := ipairs_len hq (by omega) (by omega)
          clear hq
          refine Calls.mono HC15.out ?_
          rintro e K16 ⟨_, _, rfl, hb⟩
          have HK16 : Hid (Ask wG K16 x o n' L') := HK15.out.next hb
          clear hb HC15
          go_wp2_with fail
          obtain ⟨_, _, hq⟩ := HK16.out.io
          have HC16 : Hid _ := isplits_len hq (by omega)
          clear hq
          refine Calls.mono HC16.out ?_
          rintro e K17 ⟨_, _, rfl, hb⟩
          have HK17 : Hid (Ask wG K17 x o n' L') := HK16.out.next hb
          clear hb HC16
          go_wp2_with fail
          obtain ⟨_, _, hq⟩ := HK17.out.ix
          have HC17 : Hid _ := isplits_len hq (by omega)
          clear hq
          refine Calls.mono HC17.out ?_
          rintro e K18 ⟨_, _, rfl, hb⟩
          have HK18 : Hid (Ask wG K18 x o n' L') := HK17.out.next hb
          clear hb HC17
          go_wp2_with fail
          go_loopw [18] (fun s18 wq => ∃ i : Nat, i ≤ n' ∧ s18 = .int .i64 i ∧ Ask wG wq x o n' L') (fun s18 _ => n' - (intOf s18).toNat)
          case atStart => exact ⟨0, Nat.zero_le _, rfl, HK18.out⟩
          case round =>
          clear HK18
          obtain ⟨i4, hi4, rfl, hk4⟩ := hrel
          have HA4 : Hid (Ask wG wr x o n' L') := hk4
          clear hk4
          by_cases hl4n : ¬ i4 < n'
          · go_wp2_with fail
            go_roundw
            case rel => exact ⟨i3 + 1, by omega, by go_num, HA4.out.below⟩
            case measure => simp [intOf]; omega
          have hl4 : i4 < n' := by omega
          clear hl4n
          go_wp2_with fail
          go_loopw [19] (fun s19 wq => ∃ j : Nat, j ≤ i4 ∧ s19 = .int .i64 j ∧ Ask wG wq x o n' L') (fun s19 _ => i4 - (intOf s19).toNat)
          case atStart => exact ⟨0, Nat.zero_le _, rfl, HA4.out⟩
          case round =>
          clear HA4
          obtain ⟨i5, hi5, rfl, hk5⟩ := hrel
          have HA5 : Hid (Ask wG wr x o n' L') := hk5
          clear hk5
          by_cases hl5n : ¬ i5 < i4
          · go_wp2_with fail
            go_roundw
            case rel => exact ⟨i4 + 1, by omega, by go_num, HA5.out⟩
            case measure => simp [intOf]; omega
          have hl5 : i5 < i4 := by omega
          clear hl5n
          obtain ⟨_, _, hq⟩ := HA5.out.ix
          have HT1 : Hid _ := itwice hq i4 i5 hl4 (by omega)
          clear hq
          generalize htv : ((((twz n' L').getD i4 0 : Nat) : Int) == (((twz n' L').getD i5 0 : Nat) : Int)) = tv at HT1
          go_wp2_with fail
          refine Calls.mono HT1.out ?_
          rintro e M1 ⟨rfl, hb⟩
          have HA6 : Hid (Ask wG M1 x o n' L') := HA5.out.next hb
          obtain ⟨_, _, hq⟩ := HA6.out.io
          have HT2 : Hid _ := itwice hq i4 i5 hl4 (by omega)
          rw [htv] at HT2
          clear hq hb HT1 HA5 htv
          go_wp2_with fail
          refine Calls.mono HT2.out ?_
          rintro e M2 ⟨rfl, hb⟩
          have HA7 : Hid (Ask wG M2 x o n' L') := HA6.out.next hb
          clear hb HT2 HA6
          go_wp2_with fail
          go_roundw
          case rel => exact ⟨i5 + 1, by omega, by go_num, HA7.out⟩
          case measure => simp [intOf]; omega
        · as_aux_lemma =>
          obtain ⟨j', rfl⟩ : ∃ j', j = j' + 1 := ⟨j - 1, by omega⟩
          rw [show (((j' + 1 : Nat) : Int) - 1) = (j' : Int) by omega]
          obtain ⟨ed, hed⟩ : ∃ ed, L'[j']? = some ed := ⟨_, List.getElem?_eq_getElem (by omega)⟩
          obtain ⟨g, hg⟩ : ∃ g, aE = some ⟨g, 0, none⟩ := by
            rcases HR.out.all.shape with ⟨_, h0⟩ | ⟨g, cp, h0, _⟩
            · rw [h0] at hj; simp at hj
            · injection h0 with h1
              exact ⟨g, h1⟩
          subst hg
          obtain ⟨c0, c1, c2⟩ := HR.out.all.at rfl hed
          have HRd : Hid (Rel2 wA wD wr.drew y z n' za zb (j' + 1) (.slice (some ⟨g, 0, none⟩) L'.length lenE) L') := HR.out.drew
          have HADD : Hid _ := rel2_add HRd.out HOK.out hed haC
          have hjl : j' < L'.length := by omega
          obtain ⟨x0, x1, x2⟩ := ed
          simp only [] at c0 c1 c2 HADD
          have hjl' : (j' : Int) < (L'.length : Int) := by omega
          go_wp2_with fail
          refine wp_region_held_drew (S := (fun w' => w'.cell? ⟨g, j' * 3, none⟩ = some (.int .i64 x0) ∧ w'.cell? ⟨g, j' * 3 + 1, none⟩ = some (.int .i64 x1) ∧ w'.cell? ⟨g, j' * 3 + 2, none⟩ = some (.int .i64 x2))) (by kernel_rfl) ?_ (fun hHeld => ?_)
          · exact ⟨c0, c1, c2⟩
          refine wpAnyH_take (i := 0) (oi := { dst := some 108, op := Op.move (Operand.tmp 9), type := 26, pos := "keep.go:513", after := #[], guard := none }) (v := ?_) rfl (by kernel_rfl) (by kernel_rfl) (by kernel_rfl) (fun _ _ _ h => h) (Or.inl ⟨by rfl, ?_⟩) (by assumption) ?_
          rotate_left
          · intro w hSw
            try dsimp only at hSw
            first | (go_simp; done) | (go_simp; with_reducible rfl)
          simp only [Act.put, List.setIfInBounds_toArray, List.set_cons_zero, List.set_cons_succ]
          refine wpAnyH_take (i := 1) (oi := { dst := some 109, op := Op.move (Operand.tmp 12), type := 33, pos := "keep.go:513", after := #[], guard := none }) (v := ?_) rfl (by kernel_rfl) (by kernel_rfl) (by kernel_rfl) (fun _ _ _ h => h) (Or.inl ⟨by rfl, ?_⟩) (by assumption) ?_
          rotate_left
          · intro w hSw
            try dsimp only at hSw
            first | (go_simp; done) | (go_simp; with_reducible rfl)
          simp only [Act.put, List.setIfInBounds_toArray, List.set_cons_zero, List.set_cons_succ]
          refine wpAnyH_take (i := 2) (oi := { dst := some 110, op := Op.move (Operand.tmp 13), type := 3, pos := "keep.go:513", after := #[], guard := none }) (v := ?_) rfl (by kernel_rfl) (by kernel_rfl) (by kernel_rfl) (fun _ _ _ h => h) (Or.inl ⟨by rfl, ?_⟩) (by assumption) ?_
          rotate_left
          · intro w hSw
            try dsimp only at hSw
            first | (go_simp; done) | (go_simp; with_reducible rfl)
          simp only [Act.put, List.setIfInBounds_toArray, List.set_cons_zero, List.set_cons_succ]
          refine wpAnyH_take (i := 3) (oi := { dst := some 111, op := Op.indexAddr 33 (Operand.tmp 109) (Operand.tmp 110), type := 0, pos := "keep.go:513", after := #[{ on := 1, ground := Ground.data }, { on := 2, ground := Ground.data }], guard := none }) (v := ?_) rfl (by kernel_rfl) (by kernel_rfl) (by kernel_rfl) (fun _ _ _ h => h) (Or.inl ⟨by rfl, ?_⟩) (by assumption) ?_
          rotate_left
          · intro w hSw
            try dsimp only at hSw
            first | (go_simp; done) | (go_simp; with_reducible rfl)
          simp only [Act.put, List.setIfInBounds_toArray, List.set_cons_zero, List.set_cons_succ]
          refine wpAnyH_take (i := 4) (oi := { dst := some 112, op := Op.fieldAddr 61 (Operand.tmp 111) 0, type := 0, pos := "keep.go:513", after := #[{ on := 3, ground := Ground.data }], guard := none }) (v := ?_) rfl (by kernel_rfl) (by kernel_rfl) (by kernel_rfl) (fun _ _ _ h => h) (Or.inl ⟨by rfl, ?_⟩) (by assumption) ?_
          rotate_left
          · intro w hSw
            try dsimp only at hSw
            first | (go_simp; done) | (go_simp; with_reducible rfl)
          simp only [Act.put, List.setIfInBounds_toArray, List.set_cons_zero, List.set_cons_succ]
          refine wpAnyH_take (i := 5) (oi := { dst := some 113, op := Op.load 3 (Operand.tmp 112), type := 3, pos := "keep.go:513", after := #[{ on := 4, ground := Ground.data }], guard := none }) (v := ?_) rfl (by kernel_rfl) (by kernel_rfl) (by kernel_rfl) (fun _ _ _ h => h) (Or.inl ⟨by rfl, ?_⟩) (by assumption) ?_
          rotate_left
          · intro w hSw
            try dsimp only at hSw
            first | (go_simp; done) | (go_simp; with_reducible rfl)
          simp only [Act.put, List.setIfInBounds_toArray, List.set_cons_zero, List.set_cons_succ]
          refine wpAnyH_take (i := 6) (oi := { dst := some 114, op := Op.move (Operand.tmp 12), type := 33, pos := "keep.go:513", after := #[], guard := none }) (v := ?_) rfl (by kernel_rfl) (by kernel_rfl) (by kernel_rfl) (fun _ _ _ h => h) (Or.inl ⟨by rfl, ?_⟩) (by assumption) ?_
          rotate_left
          · intro w hSw
            try dsimp only at hSw
            first | (go_simp; done) | (go_simp; with_reducible rfl)
          simp only [Act.put, List.setIfInBounds_toArray, List.set_cons_zero, List.set_cons_succ]
          refine wpAnyH_take (i := 7) (oi := { dst := some 115, op := Op.move (Operand.tmp 13), type := 3, pos := "keep.go:513", after := #[], guard := none }) (v := ?_) rfl (by kernel_rfl) (by kernel_rfl) (by kernel_rfl) (fun _ _ _ h => h) (Or.inl ⟨by rfl, ?_⟩) (by assumption) ?_
          rotate_left
          · intro w hSw
            try dsimp only at hSw
            first | (go_simp; done) | (go_simp; with_reducible rfl)
          simp only [Act.put, List.setIfInBounds_toArray, List.set_cons_zero, List.set_cons_succ]
          refine wpAnyH_take (i := 8) (oi := { dst := some 116, op := Op.indexAddr 33 (Operand.tmp 114) (Operand.tmp 115), type := 0, pos := "keep.go:513", after := #[{ on := 6, ground := Ground.data }, { on := 7, ground := Ground.data }], guard := none }) (v := ?_) rfl (by kernel_rfl) (by kernel_rfl) (by kernel_rfl) (fun _ _ _ h => h) (Or.inl ⟨by rfl, ?_⟩) (by assumption) ?_
          rotate_left
          · intro w hSw
            try dsimp only at hSw
            first | (go_simp; done) | (go_simp; with_reducible rfl)
          simp only [Act.put, List.setIfInBounds_toArray, List.set_cons_zero, List.set_cons_succ]
          refine wpAnyH_take (i := 9) (oi := { dst := some 117, op := Op.fieldAddr 61 (Operand.tmp 116) 2, type := 0, pos := "keep.go:513", after := #[{ on := 8, ground := Ground.data }], guard := none }) (v := ?_) rfl (by kernel_rfl) (by kernel_rfl) (by kernel_rfl) (fun _ _ _ h => h) (Or.inl ⟨by rfl, ?_⟩) (by assumption) ?_
          rotate_left
          · intro w hSw
            try dsimp only at hSw
            first | (go_simp; done) | (go_simp; with_reducible rfl)
          simp only [Act.put, List.setIfInBounds_toArray, List.set_cons_zero, List.set_cons_succ]
          refine wpAnyH_take (i := 10) (oi := { dst := some 118, op := Op.load 3 (Operand.tmp 117), type := 3, pos := "keep.go:513", after := #[{ on := 9, ground := Ground.data }], guard := none }) (v := ?_) rfl (by kernel_rfl) (by kernel_rfl) (by kernel_rfl) (fun _ _ _ h => h) (Or.inl ⟨by rfl, ?_⟩) (by assumption) ?_
          rotate_left
          · intro w hSw
            try dsimp only at hSw
            first | (go_simp; done) | (go_simp; with_reducible rfl)
          simp only [Act.put, List.setIfInBounds_toArray, List.set_cons_zero, List.set_cons_succ]
          refine wpAnyH_take (i := 11) (oi := { dst := some 119, op := Op.move (Operand.tmp 12), type := 33, pos := "keep.go:513", after := #[], guard := none }) (v := ?_) rfl (by kernel_rfl) (by kernel_rfl) (by kernel_rfl) (fun _ _ _ h => h) (Or.inl ⟨by rfl, ?_⟩) (by assumption) ?_
          rotate_left
          · intro w hSw
            try dsimp only at hSw
            first | (go_simp; done) | (go_simp; with_reducible rfl)
          simp only [Act.put, List.setIfInBounds_toArray, List.set_cons_zero, List.set_cons_succ]
          refine wpAnyH_take (i := 12) (oi := { dst := some 120, op := Op.move (Operand.tmp 13), type := 3, pos := "keep.go:513", after := #[], guard := none }) (v := ?_) rfl (by kernel_rfl) (by kernel_rfl) (by kernel_rfl) (fun _ _ _ h => h) (Or.inl ⟨by rfl, ?_⟩) (by assumption) ?_
          rotate_left
          · intro w hSw
            try dsimp only at hSw
            first | (go_simp; done) | (go_simp; with_reducible rfl)
          simp only [Act.put, List.setIfInBounds_toArray, List.set_cons_zero, List.set_cons_succ]
          refine wpAnyH_take (i := 13) (oi := { dst := some 121, op := Op.indexAddr 33 (Operand.tmp 119) (Operand.tmp 120), type := 0, pos := "keep.go:513", after := #[{ on := 11, ground := Ground.data }, { on := 12, ground := Ground.data }], guard := none }) (v := ?_) rfl (by kernel_rfl) (by kernel_rfl) (by kernel_rfl) (fun _ _ _ h => h) (Or.inl ⟨by rfl, ?_⟩) (by assumption) ?_
          rotate_left
          · intro w hSw
            try dsimp only at hSw
            first | (go_simp; done) | (go_simp; with_reducible rfl)
          simp only [Act.put, List.setIfInBounds_toArray, List.set_cons_zero, List.set_cons_succ]
          refine wpAnyH_take (i := 14) (oi := { dst := some 122, op := Op.fieldAddr 61 (Operand.tmp 121) 1, type := 0, pos := "keep.go:513", after := #[{ on := 13, ground := Ground.data }], guard := none }) (v := ?_) rfl (by kernel_rfl) (by kernel_rfl) (by kernel_rfl) (fun _ _ _ h => h) (Or.inl ⟨by rfl, ?_⟩) (by assumption) ?_
          rotate_left
          · intro w hSw
            try dsimp only at hSw
            first | (go_simp; done) | (go_simp; with_reducible rfl)
          simp only [Act.put, List.setIfInBounds_toArray, List.set_cons_zero, List.set_cons_succ]
          refine wpAnyH_take (i := 15) (oi := { dst := some 123, op := Op.load 3 (Operand.tmp 122), type := 3, pos := "keep.go:513", after := #[{ on := 14, ground := Ground.data }], guard := none }) (v := ?_) rfl (by kernel_rfl) (by kernel_rfl) (by kernel_rfl) (fun _ _ _ h => h) (Or.inl ⟨by rfl, ?_⟩) (by assumption) ?_
          rotate_left
          · intro w hSw
            try dsimp only at hSw
            first | (go_simp; done) | (go_simp; with_reducible rfl)
          simp only [Act.put, List.setIfInBounds_toArray, List.set_cons_zero, List.set_cons_succ]
          refine wpAnyH_ready (rs := [16]) (by kernel_rfl) (by simp) ?_
          refine AllReadyH.cons rfl (fun K hK => ?_) AllReadyH.nil
          go_simp
          go_wp2_with (go_at_call 21; refine Calls.mono HADD.out ?_; rintro e w4 ⟨⟨ok4, rfl⟩, hr4⟩)
          have k4 := hr4.all.at rfl hed
          have HR4 : Hid (Rel2 wA wD w4 y z n' za zb j' (.slice (some ⟨g, 0, none⟩) L'.length lenE) L') := hr4
          clear hr4 HADD
          refine hK.out _ _ ?_ (fun hHeld => ?_)
          · exact k4
          clear hK K
          refine wpAnyH_take (i := 17) (oi := { dst := some 107, op := Op.move (Operand.tmp 124), type := 46, pos := "keep.go:513", after := #[{ on := 16, ground := Ground.data }], guard := none }) (v := ?_) rfl (by kernel_rfl) (by kernel_rfl) (by kernel_rfl) (fun _ _ _ h => h) (Or.inl ⟨by rfl, ?_⟩) (by assumption) ?_
          rotate_left
          · intro w hSw
            try dsimp only at hSw
            first | (go_simp; done) | (go_simp; with_reducible rfl)
          simp only [Act.put, List.setIfInBounds_toArray, List.set_cons_zero, List.set_cons_succ]
          refine wpAnyH_take (i := 18) (oi := { dst := some 125, op := Op.extract (Operand.tmp 107) 0, type := 4, pos := "keep.go:513", after := #[{ on := 17, ground := Ground.data }], guard := none }) (v := ?_) rfl (by kernel_rfl) (by kernel_rfl) (by kernel_rfl) (fun _ _ _ h => h) (Or.inl ⟨by rfl, ?_⟩) (by assumption) ?_
          rotate_left
          · intro w hSw
            try dsimp only at hSw
            first | (go_simp; done) | (go_simp; with_reducible rfl)
          simp only [Act.put, List.setIfInBounds_toArray, List.set_cons_zero, List.set_cons_succ]
          refine wpAnyH_take (i := 19) (oi := { dst := some 126, op := Op.extract (Operand.tmp 107) 1, type := 28, pos := "keep.go:513", after := #[{ on := 17, ground := Ground.data }, { on := 20, ground := Ground.gcOnly Departure.lateStores }], guard := none }) (v := ?_) rfl (by kernel_rfl) (by kernel_rfl) (by kernel_rfl) (fun _ _ _ h => h) (Or.inl ⟨by rfl, ?_⟩) (by assumption) ?_
          rotate_left
          · intro w hSw
            try dsimp only at hSw
            first | (go_simp; done) | (go_simp; with_reducible rfl)
          simp only [Act.put, List.setIfInBounds_toArray, List.set_cons_zero, List.set_cons_succ]
          refine wpAnyH_take (i := 20) (oi := { dst := some 14, op := Op.assign (Operand.tmp 125), type := 4, pos := "keep.go:513", after := #[{ on := 18, ground := Ground.data }, { on := 16, ground := Ground.chain }, { on := 0, ground := Ground.phase }, { on := 1, ground := Ground.phase }, { on := 2, ground := Ground.phase }, { on := 3, ground := Ground.phase }, { on := 4, ground := Ground.phase }, { on := 5, ground := Ground.phase }, { on := 6, ground := Ground.phase }, { on := 7, ground := Ground.phase }, { on := 8, ground := Ground.phase }, { on := 9, ground := Ground.phase }, { on := 10, ground := Ground.phase }, { on := 11, ground := Ground.phase }, { on := 12, ground := Ground.phase }, { on := 13, ground := Ground.phase }, { on := 14, ground := Ground.phase }, { on := 15, ground := Ground.phase }, { on := 16, ground := Ground.phase }, { on := 17, ground := Ground.phase }, { on := 18, ground := Ground.phase }, { on := 19, ground := Ground.textOnly Departure.lateStores }], guard := none }) (v := ?_) rfl (by kernel_rfl) (by kernel_rfl) (by kernel_rfl) (fun _ _ _ h => h) (Or.inl ⟨by rfl, ?_⟩) (by assumption) ?_
          rotate_left
          · intro w hSw
            try dsimp only at hSw
            first | (go_simp; done) | (go_simp; with_reducible rfl)
          simp only [Act.put, List.setIfInBounds_toArray, List.set_cons_zero, List.set_cons_succ]
          refine wpAnyH_take (i := 21) (oi := { dst := some 15, op := Op.assign (Operand.tmp 126), type := 28, pos := "keep.go:513", after := #[{ on := 19, ground := Ground.data }, { on := 20, ground := Ground.chain }, { on := 0, ground := Ground.phase }, { on := 1, ground := Ground.phase }, { on := 2, ground := Ground.phase }, { on := 3, ground := Ground.phase }, { on := 4, ground := Ground.phase }, { on := 5, ground := Ground.phase }, { on := 6, ground := Ground.phase }, { on := 7, ground := Ground.phase }, { on := 8, ground := Ground.phase }, { on := 9, ground := Ground.phase }, { on := 10, ground := Ground.phase }, { on := 11, ground := Ground.phase }, { on := 12, ground := Ground.phase }, { on := 13, ground := Ground.phase }, { on := 14, ground := Ground.phase }, { on := 15, ground := Ground.phase }, { on := 16, ground := Ground.phase }, { on := 17, ground := Ground.phase }, { on := 18, ground := Ground.phase }, { on := 19, ground := Ground.phase }, { on := 20, ground := Ground.phase }], guard := none }) (v := ?_) rfl (by kernel_rfl) (by kernel_rfl) (by kernel_rfl) (fun _ _ _ h => h) (Or.inl ⟨by rfl, ?_⟩) (by assumption) ?_
          rotate_left
          · intro w hSw
            try dsimp only at hSw
            first | (go_simp; done) | (go_simp; with_reducible rfl)
          simp only [Act.put, List.setIfInBounds_toArray, List.set_cons_zero, List.set_cons_succ]
          refine wpAnyH_done (by kernel_rfl) ?_ _
          go_wp2_with fail
          go_roundw
          case rel => exact ⟨j', by omega, by go_num, HR4.out⟩
          case measure => simp [intOf]

end Go.Proofs.YtebcjaenhiiflaaGreatDoor.I
