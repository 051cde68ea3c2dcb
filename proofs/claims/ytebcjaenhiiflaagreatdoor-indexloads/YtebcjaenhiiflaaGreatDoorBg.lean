/- The contract of package bridge's Add. -/
import Derived.Test.YtebcjaenhiiflaaGreatDoorBf
namespace Go.Proofs.YtebcjaenhiiflaaGreatDoor.S
open Go.RowKit Go.WideMaps Go.Maps

variable {p pw bw pt bt m N n : Nat} {R B : List (Int × Int × Int)} {W T : List Nat} {D : DataW Unit}

set_option maxHeartbeats 1000000 in
theorem badd_range (i x y : Int) (w : World) (h : BAt w p pw bw pt bt m N W T D) (hx : Strange W.length x ∨ Strange W.length y) :
    Calls Tryz.prog 57 #[.pointer (some ⟨p, 0, none⟩), .int .i64 i, .int .i64 x, .int .i64 y] w fun e w' => e = .returned (.tuple #[.bool false, .iface 23 (.int .i64 2)]) ∧ Below w.heap.size w w' := by
  have HX : Hid (Strange W.length x ∨ Strange W.length y) := hx
  clear hx
  go_enter Tryz.func57, Tryz.ntmps57
  go_wp2_with fail
  refine (whole_out x y w h HX.out).mono ?_
  rintro e w1 ⟨rfl, b1⟩
  have B1 : Hid (Below w.heap.size w w1) := b1
  clear b1 h
  go_wp2
  go_ret2
  exact ⟨rfl, B1.out⟩

set_option maxHeartbeats 1000000 in
theorem badd_arg (i : Int) (x : Nat) (w : World) (h : BAt w p pw bw pt bt m N W T D) (hx : x < W.length) :
    Calls Tryz.prog 57 #[.pointer (some ⟨p, 0, none⟩), .int .i64 i, .int .i64 (x : Int), .int .i64 (x : Int)] w fun e w' => e = .returned (.tuple #[.bool false, .iface 23 (.int .i64 1)]) ∧ Below w.heap.size w w' := by
  go_enter Tryz.func57, Tryz.ntmps57
  go_wp2_with fail
  refine (whole_in x x true w h hx hx (by simp)).mono ?_
  rintro e w1 ⟨rfl, b1⟩
  have B1 : Hid (Below w.heap.size w w1) := b1
  clear b1 h
  go_wp2
  go_ret2
  exact ⟨rfl, B1.out⟩

theorem joinL_comm (L : List Nat) (x y : Nat) : joinL L x y = joinL L y x := by
  unfold joinL; rw [Nat.min_comm, Nat.max_comm]

/-- The edge as it is kept. -/
def edge (i : Int) (x y : Nat) : Int × Int × Int := (i, ((min x y : Nat) : Int), ((max x y : Nat) : Int))

theorem edge_nat (i : Int) (x y : Nat) : (edge i x y).2.1 = (ea (edge i x y) : Int) ∧ (edge i x y).2.2 = (eb (edge i x y) : Int) := by simp [edge, ea, eb]
theorem edge_ends (i : Int) (x y : Nat) : ea (edge i x y) = min x y ∧ eb (edge i x y) = max x y := by
  unfold edge ea eb
  exact ⟨by simp, by simp⟩
theorem edge_or (i : Int) (x y : Nat) : (ea (edge i x y) = x ∧ eb (edge i x y) = y) ∨ (ea (edge i x y) = y ∧ eb (edge i x y) = x) := by
  obtain ⟨h1, h2⟩ := edge_ends i x y
  rw [h1, h2]; omega

theorem sep_comm {R : List (Int × Int × Int)} {x y : Nat} (e : Int × Int × Int) : sepR R x y e ↔ sepR R y x e :=
  ⟨fun h => ⟨h.1, fun k => h.2 (cn_symm k)⟩, fun h => ⟨h.1, fun k => h.2 (cn_symm k)⟩⟩

/-- The value and what is known behind an edge. -/
structure Now (w : World) (p pw bw pt bt m N n : Nat) (R B : List (Int × Int × Int)) (W T : List Nat) (D : DataW Unit) : Prop where
  at_ : BAt w p pw bw pt bt m N W T D
  st : St n R W T B
  dis : Dis D B

theorem Now.below {w w' : World} (h : Now w p pw bw pt bt m N n R B W T D) (hb : Below w.heap.size w w') : Now w' p pw bw pt bt m N n R B W T D := ⟨h.at_.below hb, h.st, h.dis⟩

/-- What Add leaves. -/
def AddPost (w : World) (p pw bw pt bt m N n : Nat) (R B : List (Int × Int × Int)) (i : Int) (x y : Nat) (e : Ending) (w' : World) : Prop :=
  ∃ ok W' T' D' B' N', e = .returned (.tuple #[.bool ok, .nilIface]) ∧ Now w' p pw bw pt bt m N' n (R ++ [edge i x y]) B' W' T' D' ∧ B'.length ≤ B.length + 1 ∧ N' ≤ N + 1 ∧ Bk bw bt m w w' ∧ (ok = true ↔ edge i x y ∈ B')

theorem apart_now {w w' : World} {D' : DataW Unit} {N' : Nat} (h : Now w p pw bw pt bt m N n R B W T D) (i : Int) {x y : Nat} (hx : x < n) (hy : y < n) (hone : ∀ e ∈ R, e.1 ≠ i) (hne : W.getD x 0 ≠ W.getD y 0)
    (hb : BAt w' p pw bw pt bt m N' (joinL W x y) T D') (hD : D' = D.put (.int .i64 i) (pairD ((min x y : Nat) : Int) ((max x y : Nat) : Int))) :
    Now w' p pw bw pt bt m N' n (R ++ [edge i x y]) (B ++ [edge i x y]) (joinL W x y) T D' := by
  obtain ⟨h1, h2⟩ := edge_ends i x y
  have hmn : min x y < n := by omega
  have hmx : max x y < n := by omega
  have hj : joinL W (ea (edge i x y)) (eb (edge i x y)) = joinL W x y := by
    rcases edge_or i x y with ⟨a, b⟩ | ⟨a, b⟩ <;> rw [a, b]
    exact joinL_comm _ _ _
  have hs := h.st.apart (edge i x y) (by rw [h1]; exact hmn) (by rw [h2]; exact hmx) (edge_nat i x y) hone (by
    rcases edge_or i x y with ⟨a, b⟩ | ⟨a, b⟩ <;> rw [a, b]
    · exact hne
    · exact hne.symm)
  rw [hj] at hs
  refine ⟨hb, hs, ?_⟩
  rw [hD]
  exact h.dis.put h.at_.hm.isMap (edge i x y) (fun e he => hone e ((h.st.hB e).1 he).1)

theorem within_now {w w' : World} {D' : DataW Unit} {ds : List (Int × Int × Int)} (h : Now w p pw bw pt bt m N n R B W T D) (i : Int) {x y : Nat} (hx : x < n) (hy : y < n) (hone : ∀ e ∈ R, e.1 ≠ i) (he : W.getD x 0 = W.getD y 0)
    (hds : ∀ e, e ∈ ds ↔ sepR R x y e) (hb : BAt w' p pw bw pt bt m N W (joins T ds) D') (hd : Dis D' (B.filter fun e => decide (e ∉ ds))) :
    Now w' p pw bw pt bt m N n (R ++ [edge i x y]) (B.filter fun e => decide (e ∉ ds)) W (joins T ds) D' := by
  obtain ⟨h1, h2⟩ := edge_ends i x y
  refine ⟨hb, h.st.within (edge i x y) (by rw [h1]; omega) (by rw [h2]; omega) (edge_nat i x y) hone ?_ ?_ (fun e => by simp [List.mem_filter]), hd⟩
  · rcases edge_or i x y with ⟨a, b⟩ | ⟨a, b⟩ <;> rw [a, b]
    · exact he
    · exact he.symm
  · intro e
    rw [hds]
    rcases edge_or i x y with ⟨a, b⟩ | ⟨a, b⟩ <;> rw [a, b]
    exact sep_comm e

set_option maxHeartbeats 2000000 in
set_option maxRecDepth 100000 in
theorem badd_apart (i : Int) (x y : Nat) (w : World) (h : Now w p pw bw pt bt m N n R B W T D) (hx : x < n) (hy : y < n) (hn : n ≤ 40) (hN : N ≤ 1000) (hne : W.getD x 0 ≠ W.getD y 0) (hone : ∀ e ∈ R, e.1 ≠ i) (hwf : (Lit.int .i64 i).wf = true) :
    Calls Tryz.prog 57 #[.pointer (some ⟨p, 0, none⟩), .int .i64 i, .int .i64 (x : Int), .int .i64 (y : Int)] w (AddPost w p pw bw pt bt m N n R B i x y) := by
  have hxy : ((x : Int) == (y : Int)) = false := beq_eq_false_iff_ne.2 (fun e => hne (by rw [Int.ofNat_inj.1 e]))
  have hWl := h.st.gw.len
  have HH : Hid (Now w p pw bw pt bt m N n R B W T D) := h
  have HNE : Hid (W.getD x 0 ≠ W.getD y 0) := hne
  have HONE : Hid (∀ e ∈ R, e.1 ≠ i) := hone
  have HKEY : Hid (keyOf Tryz.prog 3 (.int .i64 i) = some (.int .i64 i)) := key3 i hwf
  have hlt := h.at_.plt
  clear h hne hone
  go_enter Tryz.func57, Tryz.ntmps57
  go_wp2_with fail
  refine (whole_in x y false w HH.out.at_ (by omega) (by omega) (beq_eq_false_iff_ne.2 (fun e => HNE.out (Int.ofNat_inj.1 e)))).mono ?_
  rintro e w1 ⟨rfl, b1⟩
  have hb1 := HH.out.at_.below b1
  have HB1 : Hid (BAt w1 p pw bw pt bt m N W T D) := hb1
  have B1 : Hid (Below w.heap.size w w1) := b1
  have hc0 := hb1.c0
  clear b1 hb1
  go_wp2_with fail
  refine (join_nm x y pw bw W true w1 HB1.out.sw (by omega) (by omega) (by omega) (decide_eq_true HNE.out)).mono ?_
  rintro e w2 ⟨rfl, hs2, k2⟩
  have hb2 := HB1.out.joinW hs2 k2
  have HB2 : Hid (BAt w2 p pw bw pt bt m N (joinL W x y) T D) := hb2
  have K2 : Hid (Bk bw bt m w w2) := (Bk.of_below B1.out).trans (Bk.of_w k2)
  have hown := hb2.hm
  have hc2 := hb2.c2
  clear hb2 hs2 k2 hc0
  go_wp2_with (first
    | (at_mapUpdate; refine wpList_mapUpdate_own _ rfl _ _ _ 176 rfl 3 180 law3 Tryz.underlying176 pairR m N D rfl hown (by unfold maxLen; omega) _ _ _ rfl rfl HKEY.out _ [] (pairR_mk _ _) ?_; intro w5 hown5 hgrow5)
    | fail)
  go_ret2
  refine ⟨true, _, _, _, _, _, rfl, apart_now HH.out i hx hy HONE.out HNE.out (HB2.out.mapped hown5 hgrow5) ?_, by simp, Nat.le_refl _, K2.out.trans (Bk.of_m hgrow5), by simp⟩
  have e1 : ((min x y : Nat) : Int) = min (x : Int) (y : Int) := by omega
  have e2 : ((max x y : Nat) : Int) = max (x : Int) (y : Int) := by omega
  rw [e1, e2]

set_option maxHeartbeats 2000000 in
set_option maxRecDepth 100000 in
theorem badd_within (i : Int) (x y : Nat) (w : World) (h : Now w p pw bw pt bt m N n R B W T D) (hx : x < n) (hy : y < n) (hxy : x ≠ y) (hn : n ≤ 40) (hB : B.length ≤ 1000) (he : W.getD x 0 = W.getD y 0) (hone : ∀ e ∈ R, e.1 ≠ i) (hid : ∀ e ∈ R, (Lit.int .i64 e.1).wf = true) :
    Calls Tryz.prog 57 #[.pointer (some ⟨p, 0, none⟩), .int .i64 i, .int .i64 (x : Int), .int .i64 (y : Int)] w (AddPost w p pw bw pt bt m N n R B i x y) := by
  have hxy' : ((x : Int) == (y : Int)) = false := beq_eq_false_iff_ne.2 (fun e => hxy (Int.ofNat_inj.1 e))
  have hWl := h.st.gw.len
  have HH : Hid (Now w p pw bw pt bt m N n R B W T D) := h
  have HE : Hid (W.getD x 0 = W.getD y 0) := he
  have HONE : Hid (∀ e ∈ R, e.1 ≠ i) := hone
  have HID : Hid (∀ e ∈ R, (Lit.int .i64 e.1).wf = true) := hid
  clear h he hone hid
  go_enter Tryz.func57, Tryz.ntmps57
  go_wp2_with fail
  refine (whole_in x y true w HH.out.at_ (by omega) (by omega) (by rw [HE.out]; simp)).mono ?_
  rintro e w1 ⟨rfl, b1⟩
  have HB1 : Hid (BAt w1 p pw bw pt bt m N W T D) := HH.out.at_.below b1
  have B1 : Hid (Below w.heap.size w w1) := b1
  clear b1
  go_wp2_with fail
  refine (close_ring x y w1 HB1.out HH.out.st HH.out.dis hB hn hx hy ((HH.out.st.hW x y).1 ((Lk.iff hx hy).2 HE.out)) HID.out).mono ?_
  rintro e w2 ⟨rfl, ds, D', hds, hb2, hd2, k2⟩
  have HX : Hid (Now w2 p pw bw pt bt m N n (R ++ [edge i x y]) (B.filter fun e => decide (e ∉ ds)) W (joins T ds) D' ∧ Bk bw bt m w w2) := ⟨within_now HH.out i hx hy HONE.out HE.out hds hb2 hd2, (Bk.of_below B1.out).trans k2⟩
  clear hds hb2 hd2 k2
  go_wp2
  go_ret2
  refine ⟨false, _, _, _, _, _, rfl, HX.out.1, ?_, Nat.le_succ _, HX.out.2, ?_⟩
  · have := List.length_filter_le (fun e => decide (e ∉ ds)) B
    omega
  · refine ⟨fun k => absurd k (by simp), fun k => ?_⟩
    have h1 := (HH.out.st.hB _).1 (List.mem_filter.1 k).1
    exact absurd rfl (HONE.out _ h1.1)

theorem badd_in (i : Int) (x y : Nat) (w : World) (h : Now w p pw bw pt bt m N n R B W T D) (hx : x < n) (hy : y < n) (hxy : x ≠ y) (hn : n ≤ 40) (hN : N ≤ 1000) (hB : B.length ≤ 1000) (hone : ∀ e ∈ R, e.1 ≠ i) (hwf : (Lit.int .i64 i).wf = true) (hid : ∀ e ∈ R, (Lit.int .i64 e.1).wf = true) :
    Calls Tryz.prog 57 #[.pointer (some ⟨p, 0, none⟩), .int .i64 i, .int .i64 (x : Int), .int .i64 (y : Int)] w (AddPost w p pw bw pt bt m N n R B i x y) := by
  by_cases he : W.getD x 0 = W.getD y 0
  · exact badd_within i x y w h hx hy hxy hn hB he hone hid
  · exact badd_apart i x y w h hx hy hn hN he hone hwf

end Go.Proofs.YtebcjaenhiiflaaGreatDoor.S
