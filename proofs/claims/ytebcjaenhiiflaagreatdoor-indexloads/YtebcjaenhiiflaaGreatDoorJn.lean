/- The document's Load: the walk. -/
import Derived.Test.YtebcjaenhiiflaaGreatDoorJlm
namespace Go.Proofs.YtebcjaenhiiflaaGreatDoor.I
open Go.RowKit

theorem rl_start {w w1 w2 : World} {n : Nat} {ls : List (List UInt8)} (h1 : Below w.heap.size w w1) (h2 : Below w1.heap.size w1 w2) (hl : w1.heap[w.heap.size]? = some (.cells (txtV ls).toArray 9)) : RL w (w2.alloc (.cells #[.int .i64 (n : Int), .slice none 0 0] 40)) w2.heap.size n w.heap.size ls (.slice none 0 0) [] := by
  have hb := h1.trans (h2.mono h1.size)
  refine ⟨⟨World.alloc_heap_new w2 _, World.ownsRow_nil _ _ _ _, by simp [Value.ownBlock]⟩, hb.alloc hb.size _, ?_, hb.size⟩
  have hlt := G.lt_of_some hl
  rw [Below.heap_alloc _ _ _ (Nat.lt_of_lt_of_le hlt h2.size), h2.block _ hlt]
  exact hl

theorem rl_final {s : ByteArray} {hd : List UInt8} {ls : List (List UInt8)} {n : Nat} {L : List G.E} (hs : Lib.split s.data.toList [10] = hd :: ls) (hn : numD hd = some (n : Int)) (h : Ok n L ∧ (rdD n ls).Perm L) : ((⟨(svI n L).toArray⟩ : ByteArray) = s → Tells s.data.toList n L) ∧ ((∃ n' L', Tells s.data.toList n' L') → (⟨(svI n L).toArray⟩ : ByteArray) = s) := by
  constructor
  · intro e
    refine ⟨h.1, ?_⟩
    rw [svE_ok h.1, ← e]
  · rintro ⟨n', L', ht⟩
    obtain ⟨h1, h2⟩ := doc_tells hs ht
    rw [hn] at h1
    injection h1 with h1
    have e : n' = n := by omega
    subst e
    have e2 : L' = L := G.sorted_eq h.1.up (by rw [← h2]; exact h.2) (ht.1.up.imp (fun h => by omega))
    subst e2
    apply WideShapes.bytes_inj
    show svI n' L' = _
    rw [ht.2, svE_ok h.1]

set_option maxHeartbeats 4000000 in
set_option maxRecDepth 100000 in
theorem rload_any (s : ByteArray) (w : World) (hs : s.size ≤ 100000) (hv : Vars w) : Calls Tryz.prog 10 #[.string s] w (RloadPost w s) := by
  have HV : Hid (Vars w) := hv
  have HSP : Hid _ := splits_any s 10 w hs hv
  clear hv
  go_enter Tryz.func10, Tryz.ntmps10
  go_wp2_with fail
  refine Calls.mono HSP.out ?_
  rintro e w1 ⟨k, hk, hk1, hk0, hxs, rfl, hw1⟩
  obtain ⟨hd, ls, hsp⟩ : ∃ hd ls, Lib.split s.data.toList [10] = hd :: ls := by
    cases hq : Lib.split s.data.toList [10] with
    | nil => rw [hq] at hk; simp at hk; omega
    | cons a b => exact ⟨a, b, rfl⟩
  have HSE : Hid (Lib.split s.data.toList [10] = hd :: ls) := hsp
  rw [hsp] at hk hxs hw1
  have HXS : Hid (∀ x ∈ hd :: ls, x.length ≤ 100000) := hxs
  have HB1 : Hid (Below w.heap.size w w1) := by rw [hw1]; exact (Below.refl _ _).alloc (Nat.le_refl _) _
  have HL1 : Hid (w1.heap[w.heap.size]? = some (.cells (txtV (hd :: ls)).toArray 9)) := by rw [hw1]; exact World.alloc_heap_new w _
  have HK : Hid (k = (hd :: ls).length) := hk
  have hc0 := txt_cell HL1.out (j := 0) (x := hd) rfl
  have HNU : Hid (Calls Tryz.prog 44 #[.string ⟨hd.toArray⟩] w1 fun e w' => e = .returned (.tuple #[.int .i64 ((numD hd).getD 0), .bool (numD hd).isSome]) ∧ Below w1.heap.size w1 w') := number_any ⟨hd.toArray⟩ w1 (HXS.out hd (by simp)) (HV.out.below HB1.out)
  have hk2 : 0 < k ∧ k ≤ 100001 := ⟨hk0, hk1⟩
  clear hk hxs hw1 hsp HSP hk0 hk1
  by_cases hnum : ∃ n : Nat, numD hd = some (n : Int) ∧ n ≤ 40
  · obtain ⟨n, hn, hn40⟩ := hnum
    have HND : Hid (numD hd = some (n : Int)) := hn
    rw [hn] at HNU
    have HNU2 : Hid (Calls Tryz.prog 44 #[.string ⟨hd.toArray⟩] w1 fun e w' => e = .returned (.tuple #[.int .i64 (n : Int), .bool true]) ∧ Below w1.heap.size w1 w') := HNU
    clear hn HNU
    go_wp2_with (first
      | (go_at_call 44; refine Calls.mono HNU2.out ?_; rintro e w2 ⟨rfl, hb2⟩; have HB2 : Hid (Below w1.heap.size w1 w2) := hb2; clear hb2 HNU2)
      | (go_at_call 45; refine Calls.mono (G.in_t (n : Int) 0 40 w2 ⟨by omega, by omega⟩) ?_; rintro e w3 ⟨rfl, hw3⟩; subst w3))
    · subst h
      have HLS : Hid (ls = []) := by
        have := HK.out
        show ls = []
        rw [List.length_cons] at this
        exact List.length_eq_zero_iff.1 (by omega)
      have HRL : Hid (RL w (w2.alloc (.cells #[.int .i64 (n : Int), .slice none 0 0] 40)) w2.heap.size n w.heap.size (hd :: ls) (.slice none 0 0) (rdD n (ls.take 0))) := rl_start HB1.out HB2.out HL1.out
      go_loopw [35] (fun s35 wq => s35 = .int .i64 0 ∧ ∃ u', RL w wq w2.heap.size n w.heap.size (hd :: ls) u' (rdD n (ls.take 0))) (fun _ _ => 0)
      case atStart => exact ⟨rfl, _, HRL.out⟩
      case round =>
        clear HRL
        obtain ⟨rfl, u', hrl⟩ := hrel
        have HRL : Hid (RL w wr w2.heap.size n w.heap.size (hd :: ls) u' (rdD n ls)) := by
          rw [HLS.out] at hrl ⊢
          exact hrl
        clear hrl
        obtain ⟨L, hok, hperm⟩ := rdD_rd (n := n) hn40 ls
        have HOP : Hid (Ok n L ∧ (rdD n ls).Perm L) := ⟨hok, hperm⟩
        have HSV : Hid _ := rsaved_any w2.heap.size n w.heap.size u' (rdD n ls) L wr HRL.out.gra hok hperm (HV.out.on HRL.out.below HV.out.big)
        clear hok hperm
        have HFI : Hid _ := rl_final (s := s) HSE.out HND.out HOP.out
        clear hc0
        obtain ⟨tx, htx⟩ : ∃ tx : ByteArray, tx = ⟨(svI n L).toArray⟩ := ⟨_, rfl⟩
        rw [← htx] at HSV HFI
        clear htx
        by_cases he : tx = s
        · have hfi := HFI.out.1 he
          have HTE : Hid (Tells s.data.toList n L) := hfi
          subst he
          go_wp2_with (go_at_call 29; refine Calls.mono HSV.out ?_; rintro e w9 ⟨rfl, hb9⟩)
          go_ret2
          exact .inl ⟨n, L, HTE.out, w2.heap.size, u', _, rfl, HRL.out.gra.below hb9, HOP.out.2, HRL.out.below.trans (hb9.mono HRL.out.below.size)⟩
        · have HNT : Hid (∀ n L, ¬ Tells s.data.toList n L) := fun n' L' ht => he (HFI.out.2 ⟨n', L', ht⟩)
          have he' : (tx.toList == s.toList) = false := by
            rw [beq_eq_false_iff_ne, ByteArray.toList_eq, ByteArray.toList_eq]
            exact fun e => he (WideShapes.bytes_inj e)
          go_wp2_with (go_at_call 29; refine Calls.mono HSV.out ?_; rintro e w9 ⟨rfl, hb9⟩)
          go_ret2
          exact .inr ⟨HNT.out, rfl, HRL.out.below.trans (hb9.mono HRL.out.below.size)⟩
    · have HRL : Hid (RL w (w2.alloc (.cells #[.int .i64 (n : Int), .slice none 0 0] 40)) w2.heap.size n w.heap.size (hd :: ls) (.slice none 0 0) (rdD n (ls.take 0))) := rl_start HB1.out HB2.out HL1.out
      have HM : Hid (k - 1 = ls.length) := by
        have := HK.out
        rw [List.length_cons] at this
        show k - 1 = ls.length
        omega
      have hm1 : k - 1 ≤ 100000 := by omega
      generalize k - 1 = m at *
      go_loopw [35] (fun s35 wq => ∃ (j : Nat) (u' : Value), j ≤ m ∧ s35 = .int .i64 j ∧ RL w wq w2.heap.size n w.heap.size (hd :: ls) u' (rdD n (ls.take j))) (fun s35 _ => m - (RowKit.intOf s35).toNat)
      case atStart => exact ⟨0, _, Nat.zero_le _, rfl, HRL.out⟩
      case round =>
        clear HRL
        obtain ⟨j, u', hj, rfl, hrl⟩ := hrel
        have HRL : Hid (RL w wr w2.heap.size n w.heap.size (hd :: ls) u' (rdD n (ls.take j))) := hrl
        clear hrl
        obtain ⟨wo, hwo⟩ : ∃ wo, wo = wr := ⟨_, rfl⟩
        subst hwo
        by_cases hlt : j < m
        · have hjn : j < ls.length := by have := HM.out; omega
          have hx : ls[j]? = some ls[j] := List.getElem?_eq_getElem hjn
          have HX : Hid (ls[j]? = some ls[j]) := hx
          have HXL : Hid (ls[j].length ≤ 100000) := HXS.out _ (List.mem_cons_of_mem _ (List.mem_of_getElem? hx))
          have hcl : wo.cell? ⟨w.heap.size, 1 + j, none⟩ = some (.string ⟨ls[j].toArray⟩) := txt_cell HRL.out.lines (by rw [Nat.add_comm]; exact hx)
          generalize ls[j] = l at *
          have hbw : Below wo.heap.size wo (wo.alloc (.cells #[.int .i64 0, .int .i64 0, .int .i64 0] 79)) := (Below.refl _ _).alloc (Nat.le_refl _) _
          have HSL : Hid _ := splits_any ⟨l.toArray⟩ 32 (wo.alloc (.cells #[.int .i64 0, .int .i64 0, .int .i64 0] 79)) HXL.out ((HV.out.on HRL.out.below HV.out.big).below hbw)
          clear hx hjn hbw
          go_wp2_with fail
          refine Calls.mono HSL.out ?_
          rintro e w4 ⟨kw, hkw, hkw1, hkw0, hws, rfl, hw4⟩
          rw [World.size_alloc]
          have HWS : Hid (∀ x ∈ Lib.split l [32], x.length ≤ 100000) := hws
          have HKW : Hid (kw = (Lib.split l [32]).length) := hkw
          have HI0 : Hid (In3 wo w4 (Lib.split l [32]) 0) := by
            have hn := World.alloc_heap_new (wo.alloc (.cells #[.int .i64 0, .int .i64 0, .int .i64 0] 79)) (.cells (txtV (Lib.split l [32])).toArray 9)
            rw [World.size_alloc] at hn
            rw [hw4]
            exact ⟨((Below.refl _ _).alloc (Nat.le_refl _) _).alloc (by simp) _, (Below.heap_alloc _ _ _ (by simp)).trans (World.alloc_heap_new wo _), hn⟩
          have hkb : kw ≤ 100001 := hkw1
          clear hkw hkw1 hkw0 hws hw4 HSL hcl
          go_wp2_with fail
          go_loopw [42] (fun s42 wq => ∃ i : Nat, i ≤ kw ∧ s42 = .int .i64 i ∧ In3 wo wq (Lib.split l [32]) i) (fun s42 _ => kw - (RowKit.intOf s42).toNat)
          case atStart => exact ⟨0, Nat.zero_le _, rfl, HI0.out⟩
          case round =>
            clear HI0
            obtain ⟨i, hi, rfl, hin⟩ := hrel
            have HIN : Hid (In3 wo wr (Lib.split l [32]) i) := hin
            clear hin
            by_cases hli : i < kw
            · have hxn : i < (Lib.split l [32]).length := by have := HKW.out; omega
              have hx : (Lib.split l [32])[i]? = some (Lib.split l [32])[i] := List.getElem?_eq_getElem hxn
              have HX2 : Hid ((Lib.split l [32])[i]? = some (Lib.split l [32])[i]) := hx
              have HXL2 : Hid ((Lib.split l [32])[i].length ≤ 100000) := HWS.out _ (List.mem_of_getElem? hx)
              have hcw : wr.cell? ⟨wo.heap.size + 1, i, none⟩ = some (.string ⟨(Lib.split l [32])[i].toArray⟩) := txt_cell HIN.out.ws hx
              generalize (Lib.split l [32])[i] = wd at *
              clear hx hxn
              by_cases hi3 : i < 3
              · have HN2 : Hid (Calls Tryz.prog 44 #[.string ⟨wd.toArray⟩] wr fun e w' => e = .returned (.tuple #[.int .i64 ((numD wd).getD 0), .bool (numD wd).isSome]) ∧ Below wr.heap.size wr w') := number_any ⟨wd.toArray⟩ wr HXL2.out ((HV.out.on HRL.out.below HV.out.big).below HIN.out.below)
                generalize (numD wd).isSome = okb at HN2
                have HPU : Hid (∀ w', In3 wo w' (Lib.split l [32]) i → In3 wo (w'.setCell ⟨wo.heap.size, i, none⟩ (.int .i64 ((numD wd).getD 0))) (Lib.split l [32]) (i + 1)) := fun w' h => h.put hi3 HX2.out
                generalize (numD wd).getD 0 = vv at HN2 HPU
                go_wp2_with (go_at_call 44; refine Calls.mono HN2.out ?_; rintro e w5 ⟨rfl, hb5⟩; have hI5 := HIN.out.on hb5; obtain ⟨z5, hz5⟩ := hI5.old hi3; have hf5 := hI5.cells.2.2.2 i)
                go_roundw
                case rel => exact ⟨i + 1, by omega, by go_num, HPU.out _ hI5⟩
                case measure => simp [RowKit.intOf]; omega
              · go_wp2_with fail
                go_roundw
                case rel => exact ⟨i + 1, by omega, by go_num, HIN.out.skip (by omega)⟩
                case measure => simp [RowKit.intOf]; omega
            · obtain rfl : i = kw := by omega
              obtain ⟨q0, q1, q2, _⟩ := HIN.out.cells
              rw [HKW.out, kk_all] at q0 q1 q2
              have HR5 : Hid (RL w wr w2.heap.size n w.heap.size (hd :: ls) u' (rdD n (ls.take j))) := HRL.out.on HIN.out.below
              obtain ⟨L, hok, hperm⟩ := rdD_rd (n := n) hn40 (ls.take j)
              have HOP : Hid (Ok n L ∧ (rdD n (ls.take j)).Perm L) := ⟨hok, hperm⟩
              have HAD : Hid _ := dadd_any w2.heap.size n w.heap.size u' (rdD n (ls.take j)) L (three l 0) (three l 1) (three l 2) wr HR5.out.gra HR5.out.below.size hok hperm
              have HST : Hid (∀ e w6, DaddPost wr w.heap.size w2.heap.size n u' (rdD n (ls.take j)) L (three l 0) (three l 1) (three l 2) e w6 → (∃ c, e = .returned (.int .i64 c)) ∧ ∃ u6, RL w w6 w2.heap.size n w.heap.size (hd :: ls) u6 (rdD n (ls.take (j + 1)))) := fun e w6 hdp => by
                refine ⟨⟨_, hdp.1⟩, ?_⟩
                rw [List.take_add_one, HX.out, Option.toList_some, rdD_snoc]
                exact rl_step HR5.out HOP.out.1 HOP.out.2 hdp
              clear hok hperm
              generalize three l 0 = t0 at *
              generalize three l 1 = t1 at *
              generalize three l 2 = t2 at *
              go_wp2_with (go_at_call 20; refine Calls.mono HAD.out ?_; intro e w6 hdp; obtain ⟨⟨c6, he6⟩, u6, hr6⟩ := HST.out e w6 hdp; subst he6; clear hdp)
              go_roundw
              case rel => exact ⟨j + 1, u6, by omega, by go_num, hr6⟩
              case measure => simp [RowKit.intOf]; omega
        · obtain rfl : j = m := by omega
          have HRL2 : Hid (RL w wo w2.heap.size n w.heap.size (hd :: ls) u' (rdD n ls)) := by
            have := HRL.out
            rw [List.take_of_length_le (by have := HM.out; omega)] at this
            exact this
          obtain ⟨L, hok, hperm⟩ := rdD_rd (n := n) hn40 ls
          have HOP : Hid (Ok n L ∧ (rdD n ls).Perm L) := ⟨hok, hperm⟩
          have HSV : Hid _ := rsaved_any w2.heap.size n w.heap.size u' (rdD n ls) L wo HRL2.out.gra hok hperm (HV.out.on HRL2.out.below HV.out.big)
          clear hok hperm
          have HFI : Hid _ := rl_final (s := s) HSE.out HND.out HOP.out
          clear hc0
          obtain ⟨tx, htx⟩ : ∃ tx : ByteArray, tx = ⟨(svI n L).toArray⟩ := ⟨_, rfl⟩
          rw [← htx] at HSV HFI
          clear htx
          by_cases he : tx = s
          · have hfi := HFI.out.1 he
            have HTE : Hid (Tells s.data.toList n L) := hfi
            subst he
            go_wp2_with (go_at_call 29; refine Calls.mono HSV.out ?_; rintro e w9 ⟨rfl, hb9⟩)
            go_ret2
            exact .inl ⟨n, L, HTE.out, w2.heap.size, u', _, rfl, HRL2.out.gra.below hb9, HOP.out.2, HRL2.out.below.trans (hb9.mono HRL2.out.below.size)⟩
          · have HNT : Hid (∀ n L, ¬ Tells s.data.toList n L) := fun n' L' ht => he (HFI.out.2 ⟨n', L', ht⟩)
            have he' : (tx.toList == s.toList) = false := by
              rw [beq_eq_false_iff_ne, ByteArray.toList_eq, ByteArray.toList_eq]
              exact fun e => he (WideShapes.bytes_inj e)
            go_wp2_with (go_at_call 29; refine Calls.mono HSV.out ?_; rintro e w9 ⟨rfl, hb9⟩)
            go_ret2
            exact .inr ⟨HNT.out, rfl, HRL2.out.below.trans (hb9.mono HRL2.out.below.size)⟩
  · have HNT : Hid (∀ n L, ¬ Tells s.data.toList n L) := fun n L ht => hnum ⟨n, (doc_tells HSE.out ht).1, ht.1.n40⟩
    cases hnd : numD hd with
    | none =>
      rw [hnd] at HNU
      have HNU2 : Hid (Calls Tryz.prog 44 #[.string ⟨hd.toArray⟩] w1 fun e w' => e = .returned (.tuple #[.int .i64 0, .bool false]) ∧ Below w1.heap.size w1 w') := HNU
      clear hnum HNU hnd
      go_wp2_with (go_at_call 44; refine Calls.mono HNU2.out ?_; rintro e w2 ⟨rfl, hb2⟩)
      go_ret2
      exact .inr ⟨HNT.out, rfl, HB1.out.trans (hb2.mono HB1.out.size)⟩
    | some m =>
      have hm : ¬ (0 ≤ m ∧ m ≤ 40) := fun h => hnum ⟨m.toNat, by rw [hnd, Int.toNat_of_nonneg h.1], by omega⟩
      rw [hnd] at HNU
      have HNU2 : Hid (Calls Tryz.prog 44 #[.string ⟨hd.toArray⟩] w1 fun e w' => e = .returned (.tuple #[.int .i64 m, .bool true]) ∧ Below w1.heap.size w1 w') := HNU
      clear hnum HNU hnd
      go_wp2_with (first
        | (go_at_call 44; refine Calls.mono HNU2.out ?_; rintro e w2 ⟨rfl, hb2⟩; have HB2 : Hid (Below w1.heap.size w1 w2) := hb2; clear hb2 HNU2)
        | (go_at_call 45; refine Calls.mono (G.in_f m 0 40 w2 hm) ?_; rintro e w3 ⟨rfl, hw3⟩; subst w3))
      go_ret2
      exact .inr ⟨HNT.out, rfl, HB1.out.trans (HB2.out.mono HB1.out.size)⟩

end Go.Proofs.YtebcjaenhiiflaaGreatDoor.I
