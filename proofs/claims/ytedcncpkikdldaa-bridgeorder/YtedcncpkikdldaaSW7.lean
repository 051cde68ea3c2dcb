/- All. -/
import Derived.Test.YtedcncpkikdldaaSW6
namespace Go.Proofs.Ytedcncpkikdldaa.S
open Go.RowKit Go.WideMaps Go.Maps


theorem zero37 (w : World) : (zeroValue 37).run Try.prog w = .ok (.slice none 0 0) w := by kernel_rfl

theorem law3 : Keyed Try.prog 3 := int_keyed Try.underlying3

theorem Try.info37 : (Try.prog.info? 37).map (fun i => (i.zero, i.size, i.bytes)) = some (some (.slice none 0 0), 1, 24) := by kernel_rfl

theorem key_small (y : Nat) (h : y ≤ 1000000) : keyOf Try.prog 3 (.int .i64 (y : Int)) = some (.int .i64 (y : Int)) := keyOf_int_mk Try.underlying3 (WalkArith.wf_i64 (by omega))

theorem len_groups {w : World} {t k E base e b n : Nat} {D : DataW Unit} (h : w.ownsGroups Try.prog k base e .i64 b n D) (ht : Try.prog.underlying t = some (.map k E)) : ∃ m : Nat, m ≤ n ∧ ∀ ty, (Builtin.len_ #[t] ty #[.map (some b)]).run Try.prog w = .ok (.int .i64 (m : Int)) w := by
  obtain ⟨es, clock, hb, F, hs, rfl, _⟩ := h
  exact ⟨es.size, hs, fun ty => by simp [Builtin.len_, run_underlying ht, MapKept.run_getObj_map hb, goInt, Result.andThen]⟩

theorem one_slice (a : Option Addr) (n c : Nat) : ∀ u ∈ [Value.slice a n c], u.oneCell' = true := by
  intro u hu
  simp at hu
  subst hu
  rfl

set_option maxHeartbeats 400000 in
set_option maxRecDepth 100000 in
theorem all_any (p b : Nat) (L : List Nat) (w : World) (hs : SetsAt w p b L) (hlen : L.length ≤ 40) (hL : ∀ i, i < L.length → L.getD i 0 ≤ 1000000) :
    Calls Try.prog 12 #[.pointer (some ⟨p, 0, none⟩)] w fun e w' => ∃ v, e = .returned v ∧ AllAt w' v (grps L L.length) ∧ Below w.heap.size w w' := by
  have hmm := @run_makeMap Try.prog
  obtain ⟨i0, hi, hz0, hz1, hz2⟩ := info_parts Try.info3
  have hp := hs.pcell
  have hpl := hs.plt
  have hp' : (w.alloc (.map #[] 0)).cell? ⟨p, 0, none⟩ = some (.slice (some ⟨b, 0, none⟩) L.length L.length) := by rw [World.cell?_alloc_lt _ _ _ hpl]; exact hp
  go_enter Try.func12, Try.ntmps12
  go_wp2_with fail
  go_loopw [4, 5, 16] (fun _ _ i wr => ∃ k : Nat, k ≤ L.length ∧ i = .int .i64 k ∧ (∃ D : DataW Unit, gInv L k D ∧ wr.ownsGroups Try.prog 3 (w.heap.size + 1) 3 .i64 w.heap.size k D) ∧ Below w.heap.size w wr ∧ w.heap.size + 1 ≤ wr.heap.size)
    (fun _ _ i _ => L.length - (intOf i).toNat)
  case atStart => exact ⟨0, Nat.zero_le _, rfl, ⟨.map [], gInv_start L, World.ownsGroups_made _ _ _ _ _⟩, (Below.refl _ _).alloc (Nat.le_refl _) _, by simp⟩
  case round =>
    obtain ⟨k, hk, rfl, ⟨D, hD, hown⟩, hnx, hws⟩ := hrel
    clear hp' hmm
    by_cases hlt : k < L.length
    · have hcx : wr.cell? ⟨b, k, none⟩ = some (.int .i64 ((L.getD k 0 : Nat) : Int)) := (hnx.cell (p := ⟨b, k, none⟩) hs.blt).trans (hs.bcell k hlt)
      have hkey := key_small (L.getD k 0) (hL k hlt)
      have HD : Hid (gInv L k D) := hD
      have HS : Hid (SetsAt w p b L) := hs
      clear hD hs hL hp
      generalize hy : L.getD k 0 = y at hcx hkey
      have HY : Hid (L.getD k 0 = y) := hy
      clear hy
      go_wp2_with (first
        | (at_lookup; refine wpList_lookup_groups _ rfl _ _ 77 rfl 3 37 3 .i64 law3 Try.underlying77 (zero37 _) (w.heap.size + 1) w.heap.size k _ rfl hown (by unfold maxLen; omega) _ _ rfl hkey ?_; intro v zs hat hoi hzl hback)
        | (at_builtin; refine wpList_append_own_at _ rfl _ _ 37 rfl (w.heap.size + 1) 3 i0 (.int .i64 0) 1 8 Try.underlying37 hi hz0 hz1 hz2 rfl (by decide) _ _ _ rfl (hoi.1.alloc _) ⟨wr.heap.size, 0, none⟩ 1 1 [.int .i64 k] rfl rfl (cell_one_new _ _ _) (ints_oneCell .i64 [(k : Int)]) (by unfold maxLen; omega) (by omega) (by simp; omega) ?_; intro v' w1 hown' hgrow hnil hloc)
        | (at_mapUpdate; refine wpList_mapUpdate_back _ rfl _ _ _ 77 rfl hback rfl rfl rfl ((World.grownBy_alloc _ _ _).trans hgrow) (hoi.appended hown' (WalkArith.wf_i64 (by omega))) (by simp; omega) (hloc.imp id (fun h => ⟨_, h, by simp⟩)) ?_; intro w2 hown2 hgrow2)
        | go_in)
      have hall := (World.grownBy_alloc wr _ _).trans hgrow
      have ho' := hoi.appended hown' (WalkArith.wf_i64 (by omega))
      rw [← HY.out] at hat hown2
      go_roundw
      case rel => exact ⟨k + 1, by omega, by go_num, ⟨_, gInv_step HD.out hoi hat ho', hown2⟩, hnx.groups hoi hall hgrow2 hnx.size (Nat.le_succ _) (Nat.le_refl _), Nat.le_trans hws (Nat.le_trans hall.size hgrow2.size)⟩
      case measure => simp [intOf]; omega
    · have hke : k = L.length := by omega
      subst hke
      rename World => wl
      obtain ⟨m, hm, hlenm⟩ := len_groups hown Try.underlying77
      obtain ⟨j0, hj, hj0, hj1, hj2⟩ := info_parts Try.info37
      have hpr : wl.cell? ⟨p, 0, none⟩ = some (.slice (some ⟨b, 0, none⟩) L.length L.length) := (hnx.cell (p := ⟨p, 0, none⟩) hpl).trans hp
      have HD : Hid (gInv L L.length D) := hD
      have HO : Hid (wl.ownsGroups Try.prog 3 (w.heap.size + 1) 3 .i64 w.heap.size L.length D) := hown
      have HN : Hid (Below w.heap.size w wl) := hnx
      have hprlt : p < wl.heap.size := Nat.lt_of_lt_of_le hpl hnx.size
      clear hD hs hL hp hown hnx hi hz0 hz1 hz2
      go_wp2_with (first
        | (at_make; refine wpList_make_own _ rfl _ _ 35 rfl wl.heap.size 37 j0 (.slice none 0 0) 1 Try.underlying35 hj hj0 hj1 .i64 .i64 _ m rfl rfl rfl (by rw [hj2]; omega) (by unfold maxLen; omega) (Nat.le_refl _) ?_; intro w1 hown1 hgrow1; have hp1 : w1.cell? ⟨p, 0, none⟩ = some (.slice (some ⟨b, 0, none⟩) L.length L.length) := by rw [World.cell?_of_block (w := wl) (hgrow1.block p hprlt (by simp))]; exact hpr)
        | fail)
      have HB1 : Hid (Below wl.heap.size wl w1) := (Below.refl _ _).grown hgrow1 (Nat.le_refl _) (by simp)
      clear hpr hgrow1 hlenm hm
      go_loopw [6, 7, 8, 9, 38] (fun t _ _ _ i wq => ∃ k : Nat, k ≤ L.length ∧ i = .int .i64 k ∧ (∃ vs, rowsAre wl (w.heap.size + 1) vs (grps L k) ∧ wq.ownsRow wl.heap.size 37 1 t vs.length vs) ∧ t ≠ .slice none 0 0 ∧ Below wl.heap.size wl wq)
        (fun _ _ _ _ i _ => L.length - (intOf i).toNat)
      case atStart => exact ⟨0, Nat.zero_le _, rfl, ⟨[], ⟨rfl, by simp [grps]⟩, hown1⟩, by simp, HB1.out⟩
      case round =>
        obtain ⟨k, hk, rfl, ⟨vs, hrows, howk⟩, htn, hbk⟩ := hrel
        clear hown1 hp1
        have hvl := hrows.1
        have hgl := grps_le L k
        by_cases hlt : k < L.length
        · by_cases hg : grp L L.length k = []
          · have hrun := look_none HO.out HD.out hbk law3 Try.underlying77 (zero37 wr) (key_small k (by omega)) hg
            have HR : Hid (rowsAre wl (w.heap.size + 1) vs (grps L (k + 1))) := by
              show rowsAre wl (w.heap.size + 1) vs (grps L (k + 1))
              rw [grps_succ_none L k hg]; exact hrows
            have HK : Hid (wr.ownsRow wl.heap.size 37 1 u6 vs.length vs) := howk
            clear hrows howk hg
            go_wp2
            go_roundw
            case rel => exact ⟨k + 1, by omega, by go_num, ⟨vs, HR.out, HK.out⟩, htn, hbk⟩
            case measure => simp [intOf]; omega
          · obtain ⟨r, c, hrun, hoi⟩ := look_some HO.out HD.out hbk law3 Try.underlying77 (zero37 wr) (key_small k (by omega)) hg
            have HR : Hid (rowsAre wl (w.heap.size + 1) (vs ++ [.slice (some ⟨r, 0, none⟩) (grp L L.length k).length c]) (grps L (k + 1))) := by
              show rowsAre wl (w.heap.size + 1) _ (grps L (k + 1))
              rw [grps_succ_some L k hg]; exact rowsAre_snoc hrows hoi
            clear hrows hoi hg
            generalize (grp L L.length k).length = gl at *
            go_wp2_with (first
              | (at_builtin; refine wpList_append_own_at _ rfl _ _ 35 rfl wl.heap.size 37 j0 (.slice none 0 0) 1 24 Try.underlying35 hj hj0 hj1 hj2 rfl (by decide) u6 vs.length vs rfl (howk.alloc _) ⟨wr.heap.size, 0, none⟩ 1 1 [.slice (some ⟨r, 0, none⟩) gl c] rfl rfl (cell_one_new _ _ _) (one_slice _ _ _) (by unfold maxLen; omega) (by omega) (by have := hbk.size; simp; omega) ?_; intro v' w1 hown' hgrow hnil hloc)
              | fail)
            have hall := (World.grownBy_alloc wr _ _).trans hgrow
            go_roundw
            case rel => exact ⟨k + 1, by omega, by go_num, ⟨_, HR.out, by simpa using hown'⟩, fun h => htn (hnil.1 h).1, hbk.grown hall hbk.size (fun j hj => (howk.lt j hj).1)⟩
            case measure => simp [intOf]; omega
        · have hke : k = L.length := by omega
          subst hke
          have HA : Hid (AllAt wr u6 (grps L L.length)) := allAt_of hrows howk htn hbk
          go_wp2
          go_ret
          exact ⟨_, rfl, HA.out, HN.out.trans (hbk.mono HN.out.size)⟩

end Go.Proofs.Ytedcncpkikdldaa.S
