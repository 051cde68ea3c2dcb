/- Join. -/
import Derived.Test.YtedcncpkikdldaaSW4
namespace Go.Proofs.Ytedcncpkikdldaa.S
open Go.RowKit


/-- One number of a row, where hi is named lo. -/
def named (lo hi l : Nat) : Nat := if l = hi then lo else l

/-- The first k numbers of the row are named anew. -/
def part (L : List Nat) (lo hi k : Nat) : List Nat := ((L.take k).map (named lo hi)) ++ L.drop k

/-- Two sets put together. -/
def joinL (L : List Nat) (x y : Nat) : List Nat := L.map (named (min (L.getD x 0) (L.getD y 0)) (max (L.getD x 0) (L.getD y 0)))

theorem part_length (L : List Nat) (lo hi k : Nat) : (part L lo hi k).length = L.length := by simp [part]; omega

theorem part_zero (L : List Nat) (lo hi : Nat) : part L lo hi 0 = L := by simp [part]

theorem part_all (L : List Nat) (lo hi : Nat) : part L lo hi L.length = L.map (named lo hi) := by simp [part]

theorem part_at (L : List Nat) (lo hi k : Nat) (h : k < L.length) : (part L lo hi k).getD k 0 = L.getD k 0 := by
  simp [part, List.getD_eq_getElem?_getD, List.getElem?_append_right, Nat.min_eq_left (Nat.le_of_lt h)]

theorem part_succ (L : List Nat) (lo hi k : Nat) (h : k < L.length) : part L lo hi (k + 1) = (part L lo hi k).set k (named lo hi (L.getD k 0)) := by
  have e : L.drop k = L.getD k 0 :: L.drop (k + 1) := by
    rw [List.drop_eq_getElem_cons h]; simp [h]
  unfold part
  rw [List.take_succ_eq_append_getElem h, e, List.set_append_right _ _ (by simp; omega)]
  rw [List.map_append, List.append_assoc]
  congr 1
  have e2 : k - (List.map (named lo hi) (List.take k L)).length = 0 := by simp; omega
  have e3 : L.getD k 0 = L[k] := by simp [h]
  rw [e2, e3]
  rfl

theorem part_hit (L : List Nat) (lo hi k : Nat) (h : k < L.length) (e : L.getD k 0 = hi) : part L lo hi (k + 1) = (part L lo hi k).set k lo := by
  rw [part_succ L lo hi k h, named, if_pos e]

theorem part_miss (L : List Nat) (lo hi k : Nat) (h : k < L.length) (e : L.getD k 0 ≠ hi) : part L lo hi (k + 1) = part L lo hi k := by
  rw [part_succ L lo hi k h, named, if_neg e, ← part_at L lo hi k h]
  apply List.ext_getElem
  · simp
  · intro i h1 h2
    rw [List.getElem_set]
    split
    · next e => subst e; simp [h2]
    · rfl

theorem joinL_same (L : List Nat) (x y : Nat) (e : L.getD x 0 = L.getD y 0) : joinL L x y = L := by
  unfold joinL
  rw [← e, Nat.min_self, Nat.max_self]
  conv => rhs; rw [← List.map_id L]
  apply List.map_congr_left
  intro l _
  simp [named]; intro h; exact h.symm

set_option maxHeartbeats 400000 in
theorem join_in (x y p b : Nat) (L : List Nat) (w : World) (hs : SetsAt w p b L) (hx : x < L.length) (hy : y < L.length) (hlen : L.length ≤ 40) :
    Calls Try.prog 10 #[.pointer (some ⟨p, 0, none⟩), .int .i64 (x : Int), .int .i64 (y : Int)] w fun e w' => e = .returned (.tuple #[.bool (decide (L.getD x 0 ≠ L.getD y 0)), .nilIface]) ∧ SetsAt w' p b (joinL L x y) ∧ But b w w' := by
  go_enter Try.func10, Try.ntmps10
  go_wp2_with fail
  refine (check2_in (x : Int) (y : Int) w.heap.size p b 2 L _ (sets_alloc hs _) ?c1 ?c2 ?c3 (by omega) (by omega) (by omega) (by omega)).mono ?_
  case c1 => simp
  case c2 => simp
  case c3 => simp
  rintro e w' ⟨rfl, rfl⟩
  have hs2 := sets_alloc (sets_alloc hs (Obj.cells #[Value.int IntKind.i64 ↑x, Value.int IntKind.i64 ↑y] 3)) (Obj.cells #[Value.pointer (some { block := p, off := 0 })] 25)
  have hb := below_two w (Obj.cells #[Value.int IntKind.i64 ↑x, Value.int IntKind.i64 ↑y] 3) (Obj.cells #[Value.pointer (some { block := p, off := 0 })] 25)
  generalize (w.alloc (Obj.cells #[Value.int IntKind.i64 ↑x, Value.int IntKind.i64 ↑y] 3)).alloc (Obj.cells #[Value.pointer (some { block := p, off := 0 })] 25) = W at hs2 hb ⊢
  have HB : Hid (But b w W) := But.of_below hb
  clear hb hs
  have hp := hs2.pcell
  have hcx := hs2.bcell x hx
  have hcy := hs2.bcell y hy
  have HX := (show Hid (∃ X, L.getD x 0 = X) from ⟨_, rfl⟩)
  generalize hX : L.getD x 0 = X at hcx
  generalize hY : L.getD y 0 = Y at hcy
  have HX : Hid (L.getD x 0 = X) := hX
  have HY : Hid (L.getD y 0 = Y) := hY
  clear hX hY
  have HS : Hid (SetsAt W p b L) := hs2
  clear hs2
  rcases Nat.lt_trichotomy X Y with hlt | heq | hgt
  · have h1 : (X : Int) < (Y : Int) := by omega
    have hne : ((Y : Int) == (X : Int)) = false := beq_eq_false_iff_ne.2 (by omega)
    have hne' : ((X : Int) == (Y : Int)) = false := beq_eq_false_iff_ne.2 (by omega)
    have HJ : Hid (joinL L x y = L.map (named X Y)) := by
      show joinL L x y = _
      unfold joinL
      rw [HX.out, HY.out, Nat.min_eq_left (by omega), Nat.max_eq_right (by omega)]
    have HN : Hid (L.getD x 0 ≠ L.getD y 0) := by
      show L.getD x 0 ≠ L.getD y 0
      rw [HX.out, HY.out]; omega
    clear HX HY
    go_wp2_with fail
    go_quiet (fail)
    clear hcx hcy
    go_wp2_with fail
    have HB2 : Hid (But b w (W.drewN nq)) := HB.out.trans (But.of_below (below_drewN (Below.refl _ _) nq))
    have HS2 : Hid (SetsAt (W.drewN nq) p b L) := sets_drewN HS.out nq
    clear HB HS
    generalize W.drewN nq = V at *
    clear hp
    go_loopw [11, 12, 59] (fun _ _ i wr => ∃ k : Nat, k ≤ L.length ∧ i = .int .i64 k ∧ SetsAt wr p b (part L X Y k) ∧ But b w wr) (fun _ _ i _ => L.length - (intOf i).toNat)
    case atStart => exact ⟨0, Nat.zero_le _, rfl, by rw [part_zero]; exact HS2.out, HB2.out⟩
    case round =>
      obtain ⟨k, hk, rfl, hs, hb⟩ := hrel
      by_cases hlt : k < L.length
      · have hp := hs.pcell
        have hc := hs.bcell k (by rw [part_length]; exact hlt)
        have hf := hs.bfrozen k
        rw [part_length] at hp
        rw [part_at _ _ _ _ hlt] at hc
        by_cases hz : L.getD k 0 = Y
        · have HS : Hid (SetsAt (wr.setCell ⟨b, k, none⟩ (.int .i64 (X : Int))) p b (part L X Y (k + 1))) := by
            have := hs.set k X
            rw [← part_hit L X Y k hlt hz] at this; exact this
          have HB : Hid (But b w (wr.setCell ⟨b, k, none⟩ (.int .i64 (X : Int)))) := hb.setCell _ _
          rw [hz] at hc
          clear hs hb hz
          go_wp2
          go_roundw
          case rel => exact ⟨k + 1, by omega, by go_num, HS.out, HB.out⟩
          case measure => simp [intOf]; omega
        · have HS : Hid (SetsAt wr p b (part L X Y (k + 1))) := by
            show SetsAt wr p b (part L X Y (k + 1))
            rw [part_miss L X Y k hlt hz]; exact hs
          have HB : Hid (But b w wr) := hb
          generalize L.getD k 0 = z at hc hz
          have hzb : ((z : Int) == (Y : Int)) = false := beq_eq_false_iff_ne.2 (by omega)
          clear hs hb hz
          go_wp2
          go_roundw
          case rel => exact ⟨k + 1, by omega, by go_num, HS.out, HB.out⟩
          case measure => simp [intOf]; omega
      · have hke : k = L.length := by omega
        subst hke
        rw [part_all, ← HJ.out] at hs
        have HS : Hid (SetsAt wr p b (joinL L x y)) := hs
        have HB : Hid (But b w wr) := hb
        clear hs hb
        go_wp2
        go_ret2
        exact ⟨by rw [decide_eq_true HN.out]; rfl, HS.out, HB.out⟩
  · subst heq
    have HJ : Hid (joinL L x y = L) := joinL_same L x y (HX.out.trans HY.out.symm)
    have HN : Hid (L.getD x 0 = L.getD y 0) := HX.out.trans HY.out.symm
    clear HX HY
    go_wp2_with fail
    go_quiet (fail)
    clear hcx hcy
    go_wp2_with fail
    go_ret2
    exact ⟨by rw [HN.out]; simp, by rw [HJ.out]; exact sets_drewN HS.out nq, HB.out.trans (But.of_below (below_drewN (Below.refl _ _) nq))⟩
  · have h1 : (Y : Int) < (X : Int) := by omega
    have hne : ((X : Int) == (Y : Int)) = false := beq_eq_false_iff_ne.2 (by omega)
    have hne' : ((Y : Int) == (X : Int)) = false := beq_eq_false_iff_ne.2 (by omega)
    have HJ : Hid (joinL L x y = L.map (named Y X)) := by
      show joinL L x y = _
      unfold joinL
      rw [HX.out, HY.out, Nat.min_eq_right (by omega), Nat.max_eq_left (by omega)]
    have HN : Hid (L.getD x 0 ≠ L.getD y 0) := by
      show L.getD x 0 ≠ L.getD y 0
      rw [HX.out, HY.out]; omega
    clear HX HY
    go_wp2_with fail
    go_quiet (fail)
    clear hcx hcy
    go_wp2_with fail
    have HB2 : Hid (But b w (W.drewN nq)) := HB.out.trans (But.of_below (below_drewN (Below.refl _ _) nq))
    have HS2 : Hid (SetsAt (W.drewN nq) p b L) := sets_drewN HS.out nq
    clear HB HS
    generalize W.drewN nq = V at *
    clear hp
    go_loopw [11, 12, 59] (fun _ _ i wr => ∃ k : Nat, k ≤ L.length ∧ i = .int .i64 k ∧ SetsAt wr p b (part L Y X k) ∧ But b w wr) (fun _ _ i _ => L.length - (intOf i).toNat)
    case atStart => exact ⟨0, Nat.zero_le _, rfl, by rw [part_zero]; exact HS2.out, HB2.out⟩
    case round =>
      obtain ⟨k, hk, rfl, hs, hb⟩ := hrel
      by_cases hlt : k < L.length
      · have hp := hs.pcell
        have hc := hs.bcell k (by rw [part_length]; exact hlt)
        have hf := hs.bfrozen k
        rw [part_length] at hp
        rw [part_at _ _ _ _ hlt] at hc
        by_cases hz : L.getD k 0 = X
        · have HS : Hid (SetsAt (wr.setCell ⟨b, k, none⟩ (.int .i64 (Y : Int))) p b (part L Y X (k + 1))) := by
            have := hs.set k Y
            rw [← part_hit L Y X k hlt hz] at this; exact this
          have HB : Hid (But b w (wr.setCell ⟨b, k, none⟩ (.int .i64 (Y : Int)))) := hb.setCell _ _
          rw [hz] at hc
          clear hs hb hz
          go_wp2
          go_roundw
          case rel => exact ⟨k + 1, by omega, by go_num, HS.out, HB.out⟩
          case measure => simp [intOf]; omega
        · have HS : Hid (SetsAt wr p b (part L Y X (k + 1))) := by
            show SetsAt wr p b (part L Y X (k + 1))
            rw [part_miss L Y X k hlt hz]; exact hs
          have HB : Hid (But b w wr) := hb
          generalize L.getD k 0 = z at hc hz
          have hzb : ((z : Int) == (X : Int)) = false := beq_eq_false_iff_ne.2 (by omega)
          clear hs hb hz
          go_wp2
          go_roundw
          case rel => exact ⟨k + 1, by omega, by go_num, HS.out, HB.out⟩
          case measure => simp [intOf]; omega
      · have hke : k = L.length := by omega
        subst hke
        rw [part_all, ← HJ.out] at hs
        have HS : Hid (SetsAt wr p b (joinL L x y)) := hs
        have HB : Hid (But b w wr) := hb
        clear hs hb
        go_wp2
        go_ret2
        exact ⟨by rw [decide_eq_true HN.out]; rfl, HS.out, HB.out⟩

end Go.Proofs.Ytedcncpkikdldaa.S
