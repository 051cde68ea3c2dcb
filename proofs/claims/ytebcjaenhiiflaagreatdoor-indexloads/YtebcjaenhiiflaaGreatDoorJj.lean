/- The document's numbers as texts: Words, and Number. -/
import Derived.Test.YtebcjaenhiiflaaGreatDoorJy
import Derived.Test.YtebcjaenhiiflaaGreatDoorJb
import Derived.Laws.Strings
import Derived.WideShapes
namespace Go.Proofs.YtebcjaenhiiflaaGreatDoor.I
open Go.RowKit

def strV (ns : List Int) : List Value := ns.map fun x => .string ⟨(Lib.itoa x).toArray⟩

theorem info9 : (Tryz.prog.info? 9).map (fun i => (i.zero, i.size, i.bytes)) = some (some (.string ByteArray.empty), 1, 16) := by kernel_rfl

/-- What the loop of Words knows. -/
def WoAt (w0 w : World) (ns : List Int) (j : Nat) (v : Value) : Prop := w.ownsRow w0.heap.size 9 1 v j (strV (ns.take j)) ∧ Below w0.heap.size w0 w

theorem strV_one (ns : List Int) : ∀ u ∈ strV ns, u.oneCell' = true := by
  intro u hu
  obtain ⟨b, _, rfl⟩ := List.mem_map.1 hu
  rfl

theorem wo_more {w0 w w1 w2 : World} {ns : List Int} {j : Nat} {v v2 : Value} {x : Int} {o : Obj} (h : WoAt w0 w ns j v) (hb : Below w.heap.size w w1) (hx : ns[j]? = some x) (h2 : w2.ownsRow w0.heap.size 9 1 v2 (j + 1) (strV (ns.take j) ++ [.string ⟨(Lib.itoa x).toArray⟩])) (hg : (w1.alloc o).grownBy w2 v.ownBlock) : WoAt w0 w2 ns (j + 1) v2 := by
  have h1 := row_keep h.1 hb
  have hb1 := h.2.trans (hb.mono h.2.size)
  refine ⟨?_, (hb1.alloc hb1.size o).grown hg (by have := hb1.size; simp; omega) fun k hk => (h1.lt k hk).1⟩
  rw [take_next hx]
  simpa [strV] using h2

theorem wo_cells {w0 w : World} {ns : List Int} {j : Nat} {v : Value} (h : WoAt w0 w ns j v) (hj : ns.length = j) (h0 : 0 < j) : ∃ g c, v = .slice (some ⟨g, 0, none⟩) j c ∧ j ≤ c ∧ g < w.heap.size ∧ ∀ (i : Nat) y, (ns.map Lib.itoa)[i]? = some y → w.cell? ⟨g, i, none⟩ = some (.string ⟨y.toArray⟩) := by
  subst hj
  have h1 := h.1
  rw [List.take_length] at h1
  rcases h1.2 with ⟨_, hz⟩ | ⟨g, cap, cur, rfl, hb, hg, hc, _⟩
  · omega
  · refine ⟨g, cap, rfl, by omega, G.lt_of_some hg, fun i y hy => ?_⟩
    have := h1.cells rfl i (.string ⟨y.toArray⟩) (by
      unfold strV
      rw [List.getElem?_map] at hy ⊢
      cases hq : ns[i]? with
      | none => rw [hq] at hy; cases hy
      | some z => rw [hq] at hy; injection hy with hy; subst hy; rfl)
    rwa [G.addr0_add] at this

theorem row_shape {w : World} {base e s n : Nat} {v : Value} {xs : List Value} (h : w.ownsRow base e s v n xs) : ∃ a c, v = .slice a n c := by
  rcases h.2 with ⟨rfl, hz⟩ | ⟨g, cap, cur, rfl, _⟩
  · exact ⟨_, _, by rw [hz]⟩
  · exact ⟨_, _, rfl⟩

set_option maxHeartbeats 2000000 in
set_option maxRecDepth 100000 in
theorem words_any (a : Option Addr) (nb m c : Nat) (ns : List Int) (w : World) (hm : m = ns.length) (ha : 0 < m → a = some ⟨nb, 0, none⟩) (hc : ∀ (j : Nat) x, ns[j]? = some x → w.cell? ⟨nb, j, none⟩ = some (.int .i64 x)) (hr : ∀ x ∈ ns, 0 ≤ x ∧ x ≤ 9223372036854775807) (h3 : ns.length ≤ 10000) (hv : Vars w) :
    Calls Tryz.prog 77 #[.slice a m c] w fun e w' => e = .returned (.string ⟨(lineI ns).toArray⟩) ∧ Below w.heap.size w w' := by
  have HC : Hid (∀ (j : Nat) x, ns[j]? = some x → w.cell? ⟨nb, j, none⟩ = some (.int .i64 x)) := hc
  have HR : Hid (∀ x ∈ ns, 0 ≤ x ∧ x ≤ 9223372036854775807) := hr
  have HV : Hid (Vars w) := hv
  have HM : Hid (m = ns.length ∧ ns.length ≤ 10000) := ⟨hm, h3⟩
  have HA : Hid (0 < m → a = some ⟨nb, 0, none⟩) := ha
  have hm3 : m ≤ 10000 := by omega
  clear hc hr hv hm h3 ha
  go_enter Tryz.func77, Tryz.ntmps77
  go_wp2_with fail
  go_loopw [3, 8] (fun s3 s8 wq => ∃ j : Nat, j ≤ m ∧ s8 = .int .i64 j ∧ WoAt w wq ns j s3) (fun _ s8 _ => m - (RowKit.intOf s8).toNat)
  case atStart => exact ⟨0, Nat.zero_le _, rfl, World.ownsRow_nil _ _ _ _, Below.refl _ _⟩
  case round =>
    obtain ⟨j, hj, rfl, hat⟩ := hrel
    have HW : Hid (WoAt w wr ns j u3) := hat
    clear hat
    by_cases hlt : j < m
    · have hae := HA.out (by omega)
      subst hae
      have hjn : j < ns.length := by have := HM.out; omega
      have hx : ns[j]? = some ns[j] := List.getElem?_eq_getElem hjn
      have HX : Hid (ns[j]? = some ns[j]) := hx
      have hxr := HR.out _ (List.mem_of_getElem? hx)
      have hcx : wr.cell? ⟨nb, j, none⟩ = some (.int .i64 ns[j]) := (HW.out.2.cell (p := ⟨nb, j, none⟩) (G.lt_of_cell (HC.out j _ hx))).trans (HC.out j _ hx)
      generalize ns[j] = x at *
      have HI : Hid _ := itoa_any x hxr.1 hxr.2 wr (HV.out.on HW.out.2 HV.out.big)
      clear hx hjn hxr
      obtain ⟨i0, hi, hz0, hz1, hz2⟩ := info_parts info9
      go_wp2_with (first
        | (go_at_call 131; refine Calls.mono HI.out ?_; rintro e w1 ⟨rfl, hb1⟩; have hrow := row_keep HW.out.1 hb1; have hsz := Nat.le_trans HW.out.2.size hb1.size)
        | (at_builtin; refine wpList_append_own_at _ rfl _ _ 70 rfl w.heap.size 9 i0 (.string ByteArray.empty) 1 16 Tryz.underlying70 hi hz0 hz1 hz2 rfl (by decide) u3 _ _ rfl (hrow.alloc _) ⟨w1.heap.size, 0, none⟩ 1 1 [.string ⟨(Lib.itoa x).toArray⟩] rfl rfl (cell_one_new _ _ _) (by simp [Value.oneCell']) (by unfold maxLen; omega) (by omega) (by simp; omega) ?_; intro v2 w2 hown2 hg2 _ _))
      have HW2 : Hid (WoAt w w2 ns (j + 1) v2) := wo_more HW.out hb1 HX.out hown2 hg2
      clear hown2 hg2 hrow hb1
      go_wp2_with fail
      go_roundw
      case rel => exact ⟨j + 1, by omega, by go_num, HW2.out⟩
      case measure => simp [RowKit.intOf]; omega
    · obtain rfl : j = m := by omega
      by_cases h0 : j = 0
      · subst h0
        have hn : ns = [] := List.length_eq_zero_iff.1 (by have := HM.out; omega)
        obtain ⟨aa, cc, hu⟩ := row_shape HW.out.1
        subst hu
        subst hn
        go_wp2_with (go_at_call 132; refine Calls.mono (join_none aa cc wr) ?_; rintro e w1 ⟨rfl, hw1⟩; subst w1)
        go_ret
        exact ⟨rfl, HW.out.2⟩
      · obtain ⟨g, cc, hu, hcc, hg, hcells⟩ := wo_cells HW.out HM.out.1.symm (by omega)
        have HJ : Hid _ := join_any g cc j (ns.map Lib.itoa) wr (by rw [List.length_map]; exact HM.out.1) hcells hg (by rw [List.length_map]; have := HM.out; omega) (by rw [List.length_map]; have := HM.out; omega) (by
          have := line_len HR.out
          have := HM.out
          unfold lineI at *
          omega)
        subst hu
        clear hcells
        go_wp2_with (go_at_call 132; refine Calls.mono HJ.out ?_; rintro e w1 ⟨rfl, hb1⟩)
        go_ret
        exact ⟨rfl, HW.out.2.trans (hb1.mono HW.out.2.size)⟩

/-- What Number answers. -/
def NumPost (s : ByteArray) (w : World) (e : Ending) (w' : World) : Prop :=
  e = .returned (.tuple #[.int .i64 ((numD s.data.toList).getD 0), .bool (numD s.data.toList).isSome]) ∧ Below w.heap.size w w'

set_option maxHeartbeats 1000000 in
set_option maxRecDepth 100000 in
theorem number_any (s : ByteArray) (w : World) (hs : s.size ≤ 100000) (hv : Vars w) : Calls Tryz.prog 44 #[.string s] w (NumPost s w) := by
  have HV : Hid (Vars w) := hv
  have HP : Hid _ := parse_any s w hs hv
  clear hv
  go_enter Tryz.func44, Tryz.ntmps44
  go_wp2_with fail
  refine Calls.mono HP.out ?_
  rintro e w1 ⟨hpo, hb1⟩
  have HB1 : Hid (Below w.heap.size w w1) := hb1
  clear hb1 HP
  rcases hpo with ⟨v, hpv, hvb, rfl⟩ | ⟨hno, v, t, pp, rfl⟩
  · have HPV : Hid (Lib.parseIntB 64 s.data.toList = .ok v) := hpv
    have HF : Hid _ := formatInt_any v hvb.1 hvb.2 w1 (HV.out.below HB1.out)
    clear hpv hvb
    by_cases he : (⟨(Lib.itoa v).toArray⟩ : ByteArray) = s
    · have HN : Hid (numD s.data.toList = some v) := by
        show numD _ = _
        unfold numD
        rw [HPV.out]
        dsimp only
        rw [if_pos (by rw [← he])]
      rw [he] at HF
      go_wp2_with (go_at_call 100; refine Calls.mono HF.out ?_; rintro e w2 ⟨rfl, hb2⟩)
      go_ret2
      exact ⟨by rw [HN.out]; rfl, HB1.out.trans (hb2.mono HB1.out.size)⟩
    · have HN : Hid (numD s.data.toList = none) := by
        show numD _ = _
        unfold numD
        rw [HPV.out]
        dsimp only
        rw [if_neg (fun e => he (by rw [e]))]
      have he' : ((⟨(Lib.itoa v).toArray⟩ : ByteArray).toList == s.toList) = false := by
        rw [beq_eq_false_iff_ne, ByteArray.toList_eq, ByteArray.toList_eq]
        exact fun e => he (WideShapes.bytes_inj e)
      generalize (⟨(Lib.itoa v).toArray⟩ : ByteArray) = tx at *
      go_wp2_with (go_at_call 100; refine Calls.mono HF.out ?_; rintro e w2 ⟨rfl, hb2⟩)
      go_ret2
      exact ⟨by rw [HN.out]; rfl, HB1.out.trans (hb2.mono HB1.out.size)⟩
  · have HN : Hid (numD s.data.toList = none) := by
      show numD _ = _
      unfold numD
      cases hq : Lib.parseIntB 64 s.data.toList with
      | ok m => exact absurd hq (hno m)
      | _ => rfl
    clear hno
    go_wp2_with fail
    go_ret2
    exact ⟨by rw [HN.out]; rfl, HB1.out⟩

end Go.Proofs.YtebcjaenhiiflaaGreatDoor.I
