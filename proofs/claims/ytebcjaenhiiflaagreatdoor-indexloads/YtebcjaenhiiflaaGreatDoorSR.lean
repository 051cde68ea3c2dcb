/- The contract of Parts. -/
import Derived.Test.YtebcjaenhiiflaaGreatDoorSPQ
namespace Go.Proofs.YtebcjaenhiiflaaGreatDoor.S
open Go.RowKit Go.WideMaps Go.Maps

/-- What a closure answers: whether two have one label. -/
def Alike (f : Nat) (w : World) (n cw : Nat) (L : List Nat) : Prop :=
  ∀ W', Below w.heap.size w W' → ∀ (x y : Nat) (s : Bool), x < n → y < n → (((L.getD x 0 : Nat) : Int) == ((L.getD y 0 : Nat) : Int)) = s → Calls Tryz.prog f #[.int .i64 (x : Int), .int .i64 (y : Int), .pointer (some ⟨cw, 0, none⟩)] W' fun e w' => e = .returned (.bool s) ∧ ∃ n, w' = W'.drewN n

theorem cell_second (w : World) (o : Obj) (v : Value) (t : TypeId) : ∀ j u, [v][j]? = some u → ((w.alloc o).alloc (.cells #[v] t)).cell? ((⟨w.heap.size + 1, 0, none⟩ : Addr).add j) = some u := by
  have := cell_one_new (w.alloc o) v t
  rw [World.size_alloc] at this
  exact this

/-- Behind the append: the new slice's shape, and the cell that it is stored into. -/
theorem grow_facts {w w1 : World} {base g m cap k : Nat} {v' : Value} {Gs : List (List Nat)} {r c : Nat → Nat} {o : Obj} {x : Nat} (h : POut w base (.slice (some ⟨g, 0, none⟩) m cap) Gs r c) (hm : m = Gs.length) (hk : k < Gs.length)
    (hown : w1.ownsRow base 3 1 v' ((ints (Gs.getD k [])).length + 1) ((ints (Gs.getD k [])).map (Value.int .i64) ++ [.int .i64 (x : Int)])) (hg : (w.alloc o).grownBy w1 (some (r k))) :
    (∃ ρ κ, v' = .slice (some ⟨ρ, 0, none⟩) ((Gs.getD k []).length + 1) κ) ∧ w1.cell? ⟨g, k, none⟩ = some (.slice (some ⟨r k, 0, none⟩) (Gs.getD k []).length (c k)) ∧ w1.frozen? ⟨g, k, none⟩ = false := by
  subst hm
  have ht1 : w1.ownsRow base 48 1 (.slice (some ⟨g, 0, none⟩) Gs.length cap) Gs.length (rvals Gs r c) := (h.own.alloc o).kept hg (Or.inr (fun e => h.ne k hk e))
  refine ⟨?_, ?_, ht1.frozenAt k⟩
  · rcases hown.2 with ⟨_, h0⟩ | ⟨ρ, κ, cur, hv, _⟩
    · omega
    · exact ⟨ρ, κ, by rw [hv, ints_length]⟩
  · rw [ht1.cellAt k (by omega), rvals_at _ _ _ _ hk]

set_option maxHeartbeats 1000000 in
set_option maxRecDepth 100000 in
theorem parts_any30 (n cw : Nat) (L : List Nat) (w : World) (hal : Alike 73 w n cw L) (hgd : Good n L) (hn : n ≤ 40) :
    Calls Tryz.prog 72 #[.int .i64 (n : Int), .func (.func 73) #[] #[.pointer (some ⟨cw, 0, none⟩)]] w fun e w' => ∃ t r c, e = .returned t ∧ POut w' w.heap.size t (grps L n) r c ∧ Below w.heap.size w w' := by
  obtain ⟨i0, hi0, hz0, hz1, hz2⟩ := info_parts Tryz.info3
  obtain ⟨j0, hj0, hy0, hy1, hy2⟩ := info_parts Tryz.info48
  have HAL : Hid (Alike 73 w n cw L) := hal
  have HG : Hid (Good n L) := hgd
  clear hal hgd
  go_enter Tryz.func72, Tryz.ntmps72
  go_wp2_with fail
  go_loopw [5, 6, 7, 8, 9, 11] (fun s5 _ _ _ _ s11 wq => ∃ x : Nat, x ≤ n ∧ s11 = .int .i64 x ∧ (∃ r c, POut wq w.heap.size s5 (pgr L x) r c) ∧ Below w.heap.size w wq) (fun _ _ _ _ _ s11 _ => n - (intOf s11).toNat)
  case atStart => exact ⟨0, Nat.zero_le _, rfl, ⟨fun _ => 0, fun _ => 0, pout_start _ _ _ _⟩, Below.refl _ _⟩
  case round =>
    obtain ⟨x, hx, rfl, ⟨r, c, hP⟩, hbx⟩ := hrel
    by_cases hlt : x < n
    · obtain ⟨a, cap, rfl, ha⟩ := hP.shape
      have hml : (pgr L x).length ≤ 40 := by
        have := List.length_filter_le (fun y => L.getD y 0 == y) (List.range x)
        rw [List.length_range] at this
        rw [pgr_length]; unfold lst; omega
      have HP : Hid (POut wr w.heap.size (.slice a (pgr L x).length cap) (pgr L x) r c) := hP
      have HA : Hid (0 < (pgr L x).length → ∃ g, a = some ⟨g, 0, none⟩) := ha
      have HM : Hid ((pgr L x).length = (lst L x).length) := pgr_length L x
      have HBX : Hid (Below w.heap.size w wr) := hbx
      generalize hm : (pgr L x).length = m at *
      have HML : Hid ((pgr L x).length = m) := hm
      clear hP ha hbx hm
      rename World => wo
      go_wp2_with fail
      go_loopw [7, 8, 9, 16] (fun s7 _ _ s16 wq => ∃ i : Nat, i ≤ m ∧ s16 = .int .i64 i ∧ s7 = .int .i64 (-1) ∧ (∀ j, j < i → (lst L x).getD j 0 ≠ L.getD x 0) ∧ ∃ q, wq = wo.drewN q) (fun _ _ _ s16 _ => m - (intOf s16).toNat)
      case atStart => exact ⟨0, Nat.zero_le _, rfl, rfl, fun j hj => absurd hj (by omega), 0, rfl⟩
      case round =>
        obtain ⟨i, him, rfl, rfl, hno, q, hq⟩ := hrel
        have hPq := pout_drewN HP.out q
        have hBq := below_drewN HBX.out q
        rw [← hq] at hPq hBq
        have HQ : Hid (wr = wo.drewN q) := hq
        clear hq
        have HPQ : Hid (POut wr w.heap.size (.slice a m cap) (pgr L x) r c) := hPq
        have HBQ : Hid (Below w.heap.size w wr) := hBq
        have HNO : Hid (∀ j, j < i → (lst L x).getD j 0 ≠ L.getD x 0) := hno
        clear hPq hBq hno
        by_cases hil : i < m
        · obtain ⟨g, hag⟩ := HA.out (by omega)
          subst hag
          have hil' : i < (pgr L x).length := by rw [HML.out]; exact hil
          have hil2 : i < (lst L x).length := by rw [← pgr_length]; exact hil'
          obtain ⟨hyx, hyy⟩ := lst_at hil2
          have hGi := pgr_at L x i hil2
          have hhd := grp_head' HG.out hx hyx hyy
          have hps := grp_pos hyx hyy
          rw [← hGi] at hhd hps
          have c1 := HPQ.out.outcell HML.out.symm i hil'
          have c2 := HPQ.out.head i hil' hps
          rw [hhd] at c2
          have HGi : Hid ((pgr L x).getD i [] = grp L x ((lst L x).getD i 0)) := hGi
          have hLl := HG.out.len
          have HYL : Hid (L.getD ((lst L x).getD i 0) 0 = (lst L x).getD i 0) := hyy
          generalize hyd : (lst L x).getD i 0 = y at *
          have HYD : Hid ((lst L x).getD i 0 = y) := hyd
          clear hGi hhd hyy hyd hLl
          generalize hgl : ((pgr L x).getD i []).length = gl at *
          have HGL : Hid (((pgr L x).getD i []).length = gl) := hgl
          have hgp : (0 : Int) < (gl : Int) := by omega
          clear hgl hps
          go_wp2_with fail
          by_cases he : y = L.getD x 0
          · have hv : (((L.getD y 0 : Nat) : Int) == ((L.getD x 0 : Nat) : Int)) = true := by rw [HYL.out, ← he]; simp
            refine (HAL.out _ HBQ.out y x true (by omega) hlt hv).mono ?_
            rintro e w' ⟨rfl, q', hq'⟩
            have HPV : Hid (POut w' w.heap.size (.slice (some ⟨g, 0, none⟩) m cap) (pgr L x) r c) := by rw [hq']; exact pout_drewN HPQ.out q'
            have HBV : Hid (Below w.heap.size w w') := by rw [hq']; exact below_drewN HBQ.out q'
            have c1' : w'.cell? ⟨g, i, none⟩ = some (.slice (some ⟨r i, 0, none⟩) gl (c i)) := by rw [hq']; exact c1
            have hoi := HPV.out.each i hil'
            rw [HGL.out] at hoi
            have hle : (ints ((pgr L x).getD i [])).length ≤ 40 := by
              rw [ints_length, HGi.out, grp_length]
              have := cnt_le (fun i => L.getD i 0 == y) x
              omega
            have hws := HBV.out.size
            have HE : Hid (y = L.getD x 0) := he
            clear hv hq' c1 c2 he
            go_wp2_with (first
              | (at_builtin; refine wpList_append_own_at _ rfl _ _ 48 rfl w.heap.size 3 i0 (.int .i64 0) 1 8 Tryz.underlying48 hi0 hz0 hz1 hz2 rfl (by decide) (.slice (some ⟨r i, 0, none⟩) gl (c i)) _ _ rfl (hoi.1.alloc _) ⟨w'.heap.size, 0, none⟩ 1 1 [.int .i64 x] rfl rfl (cell_one_new _ _ _) (ints_oneCell .i64 [(x : Int)]) (by unfold maxLen; omega) (by omega) (by simp; omega) ?_; intro v' w1 hown' hgrow hnil hloc; obtain ⟨⟨ρ, κ, hv'⟩, c3, f3⟩ := grow_facts HPV.out HML.out.symm hil' hown' hgrow; rw [HGL.out] at hv' c3; rw [hv'])
              | fail)
            have ho2 := hoi.appended hown' (WalkArith.wf_i64 (by omega))
            have hio : w.heap.size ≤ r i := (hoi.1.lt (r i) rfl).1
            have hgo : w.heap.size ≤ g := (HPV.out.own.lt g rfl).1
            rw [hv'] at ho2 hloc
            rw [← HGL.out] at ho2
            have hloc' : ρ = r i ∨ ρ = w'.heap.size + 1 := by simpa [Value.ownBlock] using hloc
            have ho3 : w1.ownsInts w.heap.size 3 .i64 (.slice (some ⟨ρ, 0, none⟩) (((pgr L x).getD i []).length + 1) κ) (ints ((pgr L x).getD i [] ++ [x])) := by
              rw [ints_append]; exact ho2
            have hgw := HPV.out.grow HML.out.symm hil' x _ ho3 hgrow hloc'
            rw [HGL.out] at hgw
            have hpf := pgr_found hil2 (HYD.out.trans HE.out)
            rw [HYD.out, ← HGi.out] at hpf
            rw [← hpf] at hgw
            have hbw : Below w.heap.size w (w1.setCell ⟨g, i, none⟩ (.slice (some ⟨ρ, 0, none⟩) (gl + 1) κ)) := (HBV.out.grown ((World.grownBy_alloc w' _ _).trans hgrow) hws (fun j hj => (hoi.1.lt j hj).1)).setCell hgo _
            go_roundw
            case rel => exact ⟨x + 1, by omega, by go_num, ⟨_, _, hgw⟩, hbw⟩
            case measure => simp [intOf]; omega
          · have hv : (((L.getD y 0 : Nat) : Int) == ((L.getD x 0 : Nat) : Int)) = false := by rw [HYL.out]; exact beq_eq_false_iff_ne.2 (by omega)
            refine (HAL.out _ HBQ.out y x false (by omega) hlt hv).mono ?_
            rintro e w' ⟨rfl, q', hq'⟩
            have HNE : Hid (y ≠ L.getD x 0) := he
            have HQ' : Hid (w' = wr.drewN q') := hq'
            clear hv hq' he
            go_wp2_with fail
            go_roundw
            case rel => exact ⟨i + 1, by omega, by go_num, rfl, fun j hj => if e : j = i then by rw [e, HYD.out]; exact HNE.out else HNO.out j (by omega), q + q', by rw [HQ'.out, HQ.out, drewN_drewN]⟩
            case measure => simp [intOf]; omega
        · have hie : i = m := by omega
          subst hie
          have howt := HPQ.out.own
          rw [HML.out] at howt
          have hws := HBQ.out.size
          go_wp2_with (first
            | (at_builtin; refine wpList_append_own_at _ rfl _ _ 51 rfl w.heap.size 48 j0 (.slice none 0 0) 1 24 Tryz.underlying51 hj0 hy0 hy1 hy2 rfl (by decide) (.slice a i cap) _ _ rfl ((howt.alloc _).alloc _) ⟨wr.heap.size + 1, 0, none⟩ 1 1 [.slice (some ⟨wr.heap.size, 0, none⟩) 1 1] rfl rfl (cell_second _ _ _ _) (one_slice _ _ _) (by unfold maxLen; omega) (by omega) (by simp; omega) ?_; intro v' w1 hown' hgrow hnil hloc)
            | fail)
          have hown2 : w1.ownsRow w.heap.size 48 1 v' ((pgr L x).length + 1) (rvals (pgr L x) r c ++ [.slice (some ⟨wr.heap.size, 0, none⟩) 1 1]) := by
            rw [HML.out]; exact hown'
          obtain ⟨r', c', hsn⟩ := HPQ.out.snoc hws x _ hown2 hgrow (by omega)
          rw [← pgr_none HG.out hlt (by rw [← HM.out]; exact HNO.out)] at hsn
          have hbw : Below w.heap.size w w1 := HBQ.out.grown (((World.grownBy_alloc wr _ _).trans (World.grownBy_alloc _ _ _)).trans hgrow) hws (fun j hj => (HPQ.out.own.lt j hj).1)
          go_roundw
          case rel => exact ⟨x + 1, by omega, by go_num, ⟨r', c', hsn⟩, hbw⟩
          case measure => simp [intOf]; omega
    · have hxe : x = n := by omega
      subst hxe
      have HP : Hid (∃ r c, POut wr w.heap.size u5 (grps L x) r c) := by
        rw [← pgr_all HG.out]; exact ⟨r, c, hP⟩
      have HBX : Hid (Below w.heap.size w wr) := hbx
      clear hP hbx
      go_wp2_with fail
      go_ret
      obtain ⟨r', c', hP'⟩ := HP.out
      exact ⟨_, r', c', rfl, hP', HBX.out⟩

set_option maxHeartbeats 1000000 in
set_option maxRecDepth 100000 in
theorem parts_any31 (n cw : Nat) (L : List Nat) (w : World) (hal : Alike 74 w n cw L) (hgd : Good n L) (hn : n ≤ 40) :
    Calls Tryz.prog 72 #[.int .i64 (n : Int), .func (.func 74) #[] #[.pointer (some ⟨cw, 0, none⟩)]] w fun e w' => ∃ t r c, e = .returned t ∧ POut w' w.heap.size t (grps L n) r c ∧ Below w.heap.size w w' := by
  obtain ⟨i0, hi0, hz0, hz1, hz2⟩ := info_parts Tryz.info3
  obtain ⟨j0, hj0, hy0, hy1, hy2⟩ := info_parts Tryz.info48
  have HAL : Hid (Alike 74 w n cw L) := hal
  have HG : Hid (Good n L) := hgd
  clear hal hgd
  go_enter Tryz.func72, Tryz.ntmps72
  go_wp2_with fail
  go_loopw [5, 6, 7, 8, 9, 11] (fun s5 _ _ _ _ s11 wq => ∃ x : Nat, x ≤ n ∧ s11 = .int .i64 x ∧ (∃ r c, POut wq w.heap.size s5 (pgr L x) r c) ∧ Below w.heap.size w wq) (fun _ _ _ _ _ s11 _ => n - (intOf s11).toNat)
  case atStart => exact ⟨0, Nat.zero_le _, rfl, ⟨fun _ => 0, fun _ => 0, pout_start _ _ _ _⟩, Below.refl _ _⟩
  case round =>
    obtain ⟨x, hx, rfl, ⟨r, c, hP⟩, hbx⟩ := hrel
    by_cases hlt : x < n
    · obtain ⟨a, cap, rfl, ha⟩ := hP.shape
      have hml : (pgr L x).length ≤ 40 := by
        have := List.length_filter_le (fun y => L.getD y 0 == y) (List.range x)
        rw [List.length_range] at this
        rw [pgr_length]; unfold lst; omega
      have HP : Hid (POut wr w.heap.size (.slice a (pgr L x).length cap) (pgr L x) r c) := hP
      have HA : Hid (0 < (pgr L x).length → ∃ g, a = some ⟨g, 0, none⟩) := ha
      have HM : Hid ((pgr L x).length = (lst L x).length) := pgr_length L x
      have HBX : Hid (Below w.heap.size w wr) := hbx
      generalize hm : (pgr L x).length = m at *
      have HML : Hid ((pgr L x).length = m) := hm
      clear hP ha hbx hm
      rename World => wo
      go_wp2_with fail
      go_loopw [7, 8, 9, 16] (fun s7 _ _ s16 wq => ∃ i : Nat, i ≤ m ∧ s16 = .int .i64 i ∧ s7 = .int .i64 (-1) ∧ (∀ j, j < i → (lst L x).getD j 0 ≠ L.getD x 0) ∧ ∃ q, wq = wo.drewN q) (fun _ _ _ s16 _ => m - (intOf s16).toNat)
      case atStart => exact ⟨0, Nat.zero_le _, rfl, rfl, fun j hj => absurd hj (by omega), 0, rfl⟩
      case round =>
        obtain ⟨i, him, rfl, rfl, hno, q, hq⟩ := hrel
        have hPq := pout_drewN HP.out q
        have hBq := below_drewN HBX.out q
        rw [← hq] at hPq hBq
        have HQ : Hid (wr = wo.drewN q) := hq
        clear hq
        have HPQ : Hid (POut wr w.heap.size (.slice a m cap) (pgr L x) r c) := hPq
        have HBQ : Hid (Below w.heap.size w wr) := hBq
        have HNO : Hid (∀ j, j < i → (lst L x).getD j 0 ≠ L.getD x 0) := hno
        clear hPq hBq hno
        by_cases hil : i < m
        · obtain ⟨g, hag⟩ := HA.out (by omega)
          subst hag
          have hil' : i < (pgr L x).length := by rw [HML.out]; exact hil
          have hil2 : i < (lst L x).length := by rw [← pgr_length]; exact hil'
          obtain ⟨hyx, hyy⟩ := lst_at hil2
          have hGi := pgr_at L x i hil2
          have hhd := grp_head' HG.out hx hyx hyy
          have hps := grp_pos hyx hyy
          rw [← hGi] at hhd hps
          have c1 := HPQ.out.outcell HML.out.symm i hil'
          have c2 := HPQ.out.head i hil' hps
          rw [hhd] at c2
          have HGi : Hid ((pgr L x).getD i [] = grp L x ((lst L x).getD i 0)) := hGi
          have hLl := HG.out.len
          have HYL : Hid (L.getD ((lst L x).getD i 0) 0 = (lst L x).getD i 0) := hyy
          generalize hyd : (lst L x).getD i 0 = y at *
          have HYD : Hid ((lst L x).getD i 0 = y) := hyd
          clear hGi hhd hyy hyd hLl
          generalize hgl : ((pgr L x).getD i []).length = gl at *
          have HGL : Hid (((pgr L x).getD i []).length = gl) := hgl
          have hgp : (0 : Int) < (gl : Int) := by omega
          clear hgl hps
          go_wp2_with fail
          by_cases he : y = L.getD x 0
          · have hv : (((L.getD y 0 : Nat) : Int) == ((L.getD x 0 : Nat) : Int)) = true := by rw [HYL.out, ← he]; simp
            refine (HAL.out _ HBQ.out y x true (by omega) hlt hv).mono ?_
            rintro e w' ⟨rfl, q', hq'⟩
            have HPV : Hid (POut w' w.heap.size (.slice (some ⟨g, 0, none⟩) m cap) (pgr L x) r c) := by rw [hq']; exact pout_drewN HPQ.out q'
            have HBV : Hid (Below w.heap.size w w') := by rw [hq']; exact below_drewN HBQ.out q'
            have c1' : w'.cell? ⟨g, i, none⟩ = some (.slice (some ⟨r i, 0, none⟩) gl (c i)) := by rw [hq']; exact c1
            have hoi := HPV.out.each i hil'
            rw [HGL.out] at hoi
            have hle : (ints ((pgr L x).getD i [])).length ≤ 40 := by
              rw [ints_length, HGi.out, grp_length]
              have := cnt_le (fun i => L.getD i 0 == y) x
              omega
            have hws := HBV.out.size
            have HE : Hid (y = L.getD x 0) := he
            clear hv hq' c1 c2 he
            go_wp2_with (first
              | (at_builtin; refine wpList_append_own_at _ rfl _ _ 48 rfl w.heap.size 3 i0 (.int .i64 0) 1 8 Tryz.underlying48 hi0 hz0 hz1 hz2 rfl (by decide) (.slice (some ⟨r i, 0, none⟩) gl (c i)) _ _ rfl (hoi.1.alloc _) ⟨w'.heap.size, 0, none⟩ 1 1 [.int .i64 x] rfl rfl (cell_one_new _ _ _) (ints_oneCell .i64 [(x : Int)]) (by unfold maxLen; omega) (by omega) (by simp; omega) ?_; intro v' w1 hown' hgrow hnil hloc; obtain ⟨⟨ρ, κ, hv'⟩, c3, f3⟩ := grow_facts HPV.out HML.out.symm hil' hown' hgrow; rw [HGL.out] at hv' c3; rw [hv'])
              | fail)
            have ho2 := hoi.appended hown' (WalkArith.wf_i64 (by omega))
            have hio : w.heap.size ≤ r i := (hoi.1.lt (r i) rfl).1
            have hgo : w.heap.size ≤ g := (HPV.out.own.lt g rfl).1
            rw [hv'] at ho2 hloc
            rw [← HGL.out] at ho2
            have hloc' : ρ = r i ∨ ρ = w'.heap.size + 1 := by simpa [Value.ownBlock] using hloc
            have ho3 : w1.ownsInts w.heap.size 3 .i64 (.slice (some ⟨ρ, 0, none⟩) (((pgr L x).getD i []).length + 1) κ) (ints ((pgr L x).getD i [] ++ [x])) := by
              rw [ints_append]; exact ho2
            have hgw := HPV.out.grow HML.out.symm hil' x _ ho3 hgrow hloc'
            rw [HGL.out] at hgw
            have hpf := pgr_found hil2 (HYD.out.trans HE.out)
            rw [HYD.out, ← HGi.out] at hpf
            rw [← hpf] at hgw
            have hbw : Below w.heap.size w (w1.setCell ⟨g, i, none⟩ (.slice (some ⟨ρ, 0, none⟩) (gl + 1) κ)) := (HBV.out.grown ((World.grownBy_alloc w' _ _).trans hgrow) hws (fun j hj => (hoi.1.lt j hj).1)).setCell hgo _
            go_roundw
            case rel => exact ⟨x + 1, by omega, by go_num, ⟨_, _, hgw⟩, hbw⟩
            case measure => simp [intOf]; omega
          · have hv : (((L.getD y 0 : Nat) : Int) == ((L.getD x 0 : Nat) : Int)) = false := by rw [HYL.out]; exact beq_eq_false_iff_ne.2 (by omega)
            refine (HAL.out _ HBQ.out y x false (by omega) hlt hv).mono ?_
            rintro e w' ⟨rfl, q', hq'⟩
            have HNE : Hid (y ≠ L.getD x 0) := he
            have HQ' : Hid (w' = wr.drewN q') := hq'
            clear hv hq' he
            go_wp2_with fail
            go_roundw
            case rel => exact ⟨i + 1, by omega, by go_num, rfl, fun j hj => if e : j = i then by rw [e, HYD.out]; exact HNE.out else HNO.out j (by omega), q + q', by rw [HQ'.out, HQ.out, drewN_drewN]⟩
            case measure => simp [intOf]; omega
        · have hie : i = m := by omega
          subst hie
          have howt := HPQ.out.own
          rw [HML.out] at howt
          have hws := HBQ.out.size
          go_wp2_with (first
            | (at_builtin; refine wpList_append_own_at _ rfl _ _ 51 rfl w.heap.size 48 j0 (.slice none 0 0) 1 24 Tryz.underlying51 hj0 hy0 hy1 hy2 rfl (by decide) (.slice a i cap) _ _ rfl ((howt.alloc _).alloc _) ⟨wr.heap.size + 1, 0, none⟩ 1 1 [.slice (some ⟨wr.heap.size, 0, none⟩) 1 1] rfl rfl (cell_second _ _ _ _) (one_slice _ _ _) (by unfold maxLen; omega) (by omega) (by simp; omega) ?_; intro v' w1 hown' hgrow hnil hloc)
            | fail)
          have hown2 : w1.ownsRow w.heap.size 48 1 v' ((pgr L x).length + 1) (rvals (pgr L x) r c ++ [.slice (some ⟨wr.heap.size, 0, none⟩) 1 1]) := by
            rw [HML.out]; exact hown'
          obtain ⟨r', c', hsn⟩ := HPQ.out.snoc hws x _ hown2 hgrow (by omega)
          rw [← pgr_none HG.out hlt (by rw [← HM.out]; exact HNO.out)] at hsn
          have hbw : Below w.heap.size w w1 := HBQ.out.grown (((World.grownBy_alloc wr _ _).trans (World.grownBy_alloc _ _ _)).trans hgrow) hws (fun j hj => (HPQ.out.own.lt j hj).1)
          go_roundw
          case rel => exact ⟨x + 1, by omega, by go_num, ⟨r', c', hsn⟩, hbw⟩
          case measure => simp [intOf]; omega
    · have hxe : x = n := by omega
      subst hxe
      have HP : Hid (∃ r c, POut wr w.heap.size u5 (grps L x) r c) := by
        rw [← pgr_all HG.out]; exact ⟨r, c, hP⟩
      have HBX : Hid (Below w.heap.size w wr) := hbx
      clear hP hbx
      go_wp2_with fail
      go_ret
      obtain ⟨r', c', hP'⟩ := HP.out
      exact ⟨_, r', c', rfl, hP', HBX.out⟩

end Go.Proofs.YtebcjaenhiiflaaGreatDoor.S
