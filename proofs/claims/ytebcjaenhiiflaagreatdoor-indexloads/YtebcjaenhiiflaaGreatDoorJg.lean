/- Reading an index's text: the walk. -/
import Derived.Test.YtebcjaenhiiflaaGreatDoorJh
namespace Go.Proofs.YtebcjaenhiiflaaGreatDoor.I
open Go.RowKit Go.Shelf Go.WideMaps Go.Maps

attribute [local go_sem] Oper.semAt_some

theorem cut_small {l hd rs : List UInt8} {mr : Bool} (h : Lib.cut l [10] = (hd, rs, mr)) (hl : l.length ≤ 100000) : hd.length ≤ 100000 ∧ rs.length ≤ 100000 := by
  unfold Lib.cut at h
  split at h <;> injection h with h1 h2 <;> injection h2 with h2 h3 <;> subst h1 <;> subst h2 <;> simp <;> omega

theorem res46 {W : World} {b : Nat} {u1 u2 : Value} (c1 : W.cell? ⟨b, 0, none⟩ = some u1) (c2 : W.cell? ⟨b + 1, 0, none⟩ = some u2) {tmps : Array Value} (e2 : tmps[2]? = some (.pointer (some ⟨b, 0, none⟩))) (e3 : tmps[3]? = some (.pointer (some ⟨b + 1, 0, none⟩))) :
    (results Tryz.f46 tmps).run Tryz.prog W = .ok (.tuple #[u1, u2]) W := by
  simp [results, Tryz.f46, go_sem, c1, c2, e2, e3]

/-- A region that defers nothing. -/
def noDefer (ops : Array Oper) : Bool := ops.toList.all fun o => match o.op with | .defer _ => false | _ => true

theorem noDefer_spec {ops : Array Oper} (h : noDefer ops = true) (i : Nat) (o : Oper) (ho : ops[i]? = some o) : ∀ c, o.op ≠ .defer c := by
  intro c e
  have := List.all_eq_true.1 h o (by rw [← Array.mem_def]; exact Array.mem_of_getElem? ho)
  rw [e] at this
  cases this

theorem kpb_below {bs : Nat} {X Y Z : World} (hb : Below X.heap.size X Y) (hlt : bs < X.heap.size) (h : KpB bs Y Z) : KpB bs X Z := Eq.trans h (hb.block bs hlt)

theorem cellb {X Y : World} {a : Addr} {v : Value} (hb : Below X.heap.size X Y) (h : X.cell? a = some v) : Y.cell? a = some v := (hb.cell (World.block_lt_of_cell? X a h)).trans h

theorem info3 : (Tryz.prog.info? 3).map (fun i => (i.zero, i.size, i.bytes)) = some (some (.int .i64 0), 1, 8) := by kernel_rfl

theorem wds_len : ∀ {l acc y : List UInt8}, y ∈ wds acc l → y.length ≤ acc.length + l.length
  | [], _, _, h => by simp [wds] at h
  | c :: l, acc, y, h => by
    rw [wds] at h
    split at h
    · rcases List.mem_cons.1 h with rfl | h
      · rw [List.length_cons]; omega
      · have := wds_len h
        rw [List.length_nil] at this
        rw [List.length_cons]; omega
    · have := wds_len h
      rw [List.length_append, List.length_singleton] at this
      rw [List.length_cons]; omega

theorem short_words {rs : List UInt8} (h : rs.length ≤ 100000) : short (wds [] rs) = wds [] rs := by
  unfold short
  conv => rhs; rw [← List.map_id (wds [] rs)]
  refine List.map_congr_left (fun y hy => ?_)
  have := wds_len hy
  exact List.take_of_length_le (by simp at this; omega)

theorem rdP_stop {n k : Nat} {rs : List UInt8} (h : rs.length ≤ 100000) (hn : rdP n (short (wst (rs.take k)).1) = none) : rdP n (wds [] rs) = none := by
  have e1 : wds [] rs = (wst (rs.take k)).1 ++ wds (wst (rs.take k)).2 (rs.drop k) := by
    rw [← wst_wds, ← wst_fold]
    unfold wst
    rw [← List.foldl_append, List.take_append_drop]
  rw [← short_words h, e1]
  unfold short at hn ⊢
  rw [List.map_append]
  unfold rdP at hn ⊢
  rw [List.foldl_append, hn]
  exact rdP_none _

theorem ri_end {w w4 w5 w6 W : World} {n x p q pw bw pt bt mp : Nat} {acc : List Int} {L R B : List G.E} {v u : Value} {Wl T : List Nat} {D : DataW Unit} {N D9 : Nat} (f : Fix w w4 w5 w6 n x p q pw bw pt bt mp) (h : RI1 w w4 w5 w6 W n x p q pw bw pt bt mp acc L v R B Wl T D N u) {u1 u2 : Value}
    (hK : ((W.setCell ⟨w.heap.size, 0, none⟩ u1).setCell ⟨w.heap.size + 1, 0, none⟩ u2).heap[D9]? = some (.deferred (some []))) (hD : w6.heap.size ≤ D9) :
    IAt w (((W.setCell ⟨w.heap.size, 0, none⟩ u1).setCell ⟨w.heap.size + 1, 0, none⟩ u2).putObj D9 (.deferred none)) x p q n v L R B Wl T D pw bw pt bt mp N := by
  have f4 := f.s4; have f5 := f.s5; have f6 := f.s6
  have hb := below_two (h.low f) u1 u2
  have ha := h.at_.rn.now.at_
  obtain ⟨es, mc, hm⟩ := ha.mobj
  have hset : ∀ {b t : Nat} {c : Array Value}, W.heap[b]? = some (.cells c t) → t ≠ 26 → t ≠ 28 → (((W.setCell ⟨w.heap.size, 0, none⟩ u1).setCell ⟨w.heap.size + 1, 0, none⟩ u2).putObj D9 (.deferred none)).heap[b]? = W.heap[b]? := by
    intro b t c hc h1 h2
    have n1 : b ≠ w.heap.size := by
      rintro rfl
      have := hc.symm.trans h.x2; simp at this; exact h1 this.2
    have n2 : b ≠ w.heap.size + 1 := by
      rintro rfl
      have := hc.symm.trans h.x3; simp at this; exact h2 this.2
    have e : ((W.setCell ⟨w.heap.size, 0, none⟩ u1).setCell ⟨w.heap.size + 1, 0, none⟩ u2).heap[b]? = W.heap[b]? := (Below.heap_setCell _ _ _ b (fun e => n2 e)).trans (Below.heap_setCell _ _ _ b (fun e => n1 e))
    rw [World.putObj_heap_other (fun e' => ?_)]
    · exact e
    · subst e'
      rw [hK] at e
      have := e.trans hc
      simp at this
  refine (h.at_.base f.b4).same ?_ ?_
  · exact hb.grown (grownBy_putObj' _ D9 (.deferred none)) hb.size (fun j e => by cases e; omega)
  · rintro b (rfl | rfl | hk | rfl | rfl | rfl | rfl | rfl | rfl)
    · exact hset h.at_.ix (by decide) (by decide)
    · exact hset h.at_.gra.hp (by decide) (by decide)
    · obtain ⟨cur, hcur⟩ := own61 h.at_.gra.row hk
      exact hset hcur (by decide) (by decide)
    · exact hset ha.hp (by decide) (by decide)
    · exact hset ha.sw.hp (by decide) (by decide)
    · exact hset ha.sw.hb (by decide) (by decide)
    · exact hset ha.st.hp (by decide) (by decide)
    · exact hset ha.st.hb (by decide) (by decide)
    · have h1 := f.hmp
      have h2 := h.at_.rn.hb.2.2
      rw [World.putObj_heap_other (by omega), Below.heap_setCell _ _ _ b (fun e => ?_), Below.heap_setCell _ _ _ b (fun e => ?_)]
      · have e' : b = w.heap.size := e
        omega
      · have e' : b = w.heap.size + 1 := e
        omega

set_option maxRecDepth 100000 in
set_option maxHeartbeats 4000000 in
theorem read_any (s : ByteArray) (w : World) (hs : s.size ≤ 100000) (hv : Vars w) : Calls Tryz.prog 46 #[.string s] w (ReadPost w s) := by
  have HV : Hid (Vars w) := hv
  have hro : Fence.wide.round = none := rfl
  refine (callsIn_wide (n := 5)).1 ?_
  refine callsIn_of_wp_marks Tryz.func46 rfl trivial ?_ hro
  simp only [Tryz.ntmps46, List.size_toArray, List.length_cons, List.length_nil, Nat.reduceAdd, Nat.reduceSub, Array.replicate_succ, Array.replicate_zero, List.push_toArray, List.append_toArray, List.nil_append, List.cons_append]
  obtain ⟨w2, hw2⟩ : ∃ w2, (w.alloc (.cells #[.pointer none] 26)).alloc (.cells #[.nilIface] 28) = w2 := ⟨_, rfl⟩
  have HW2 : Hid ((w.alloc (.cells #[.pointer none] 26)).alloc (.cells #[.nilIface] 28) = w2) := hw2
  have HB2 : Hid (Below w.heap.size w w2) := by rw [← hw2]; exact ((Below.refl _ w).alloc (Nat.le_refl _) _).alloc (by simp) _
  have HX2 : Hid (Boxed w2 w.heap.size 26 (.pointer none) ∧ Boxed w2 (w.heap.size + 1) 28 .nilIface) := by
    rw [← hw2]
    exact ⟨(Boxed.new w 26 _).alloc _, by have := Boxed.new (w.alloc (.cells #[.pointer none] 26)) 28 .nilIface; rwa [World.size_alloc] at this⟩
  clear hw2 hv
  obtain ⟨hd, rs, mr, hcut⟩ : ∃ hd rs mr, Lib.cut s.data.toList [10] = (hd, rs, mr) := ⟨_, _, _, rfl⟩
  have HCE : Hid (Lib.cut s.data.toList [10] = (hd, rs, mr)) := hcut
  have HCU : Hid (Calls Tryz.prog 101 #[.string s, .string ⟨#[10]⟩] w2 fun e w' => e = .returned (.tuple #[.string ⟨hd.toArray⟩, .string ⟨rs.toArray⟩, .bool mr]) ∧ Below w2.heap.size w2 w') := by
    have := cut_any s ⟨#[10]⟩ w2 hs (HV.out.below HB2.out)
    rw [show ((⟨#[10]⟩ : ByteArray).data.toList) = [10] from rfl, hcut] at this
    exact this
  have hlen : hd.length ≤ 100000 ∧ rs.length ≤ 100000 := cut_small hcut (by simpa using hs)
  have HLN : Hid (hd.length ≤ 100000 ∧ rs.length ≤ 100000) := hlen
  clear hcut hlen
  gi_wp2_with fail
  refine ⟨trivial, ?_⟩
  rw [HW2.out]
  refine CallsIn.mono (callsIn_wide.2 HCU.out) ?_
  rintro e w3 ⟨rfl, hb3⟩
  have HB3 : Hid (Below w.heap.size w w3) := HB2.out.trans (hb3.mono HB2.out.size)
  have HX3 : Hid (Boxed w3 w.heap.size 26 (.pointer none) ∧ Boxed w3 (w.heap.size + 1) 28 .nilIface) := ⟨boxed_below HX2.out.1 hb3, boxed_below HX2.out.2 hb3⟩
  have HAT : Hid _ := atoi_any ⟨hd.toArray⟩ w3 HLN.out.1 (HV.out.below HB3.out)
  clear hb3 HCU HW2 HB2 HX2
  gi_wp2_with fail
  refine ⟨trivial, ?_⟩
  refine CallsIn.mono (callsIn_wide.2 HAT.out) ?_
  rintro e w4 ⟨hat, hb4⟩
  have HB4 : Hid (Below w.heap.size w w4) := HB3.out.trans (hb4.mono HB3.out.size)
  have HX4 : Hid (Boxed w4 w.heap.size 26 (.pointer none) ∧ Boxed w4 (w.heap.size + 1) 28 .nilIface) := ⟨boxed_below HX3.out.1 hb4, boxed_below HX3.out.2 hb4⟩
  clear hb4 HAT HB3 HX3
  rcases hat with ⟨m, hm, rfl⟩ | ⟨hno, v, t, pp, rfl⟩
  · have HM : Hid (Lib.atoiAll hd = .ok m) := hm
    clear hm
    by_cases hr : 0 ≤ m ∧ m ≤ 40
    · obtain ⟨n, rfl⟩ := Int.eq_ofNat_of_zero_le hr.1
      have HNN : Hid (n ≤ 40) := by show n ≤ 40; omega
      have HN : Hid _ := inew_in n w4 HNN.out
      clear hr
      gi_wp2_with fail
      refine ⟨trivial, ?_⟩
      refine CallsIn.mono (callsIn_wide.2 HN.out) ?_
      rintro e w5 ⟨x, p, q, v, B, Wl, Tl, D, pw, bw, pt, bt, mp, N, rfl, hI5⟩
      have HI5 : Hid (IAt w4 w5 x p q n v [] [] B Wl Tl D pw bw pt bt mp N) := hI5
      clear hI5 HN
      gi_wp2_with fail
      refine ⟨trivial, ?_⟩
      refine CallsIn.mono (callsIn_wide.2 (words_in _ _)) ?_
      rintro e w6 ⟨rfl, hw6⟩
      rw [World.size_alloc, World.size_alloc]
      have HW6 : Hid (w6 = ((w5.alloc (.cells #[.pointer (some ⟨x, 0, none⟩)] 26)).alloc (.cells #[.slice none 0 0] 48)).alloc (.cells #[.string ⟨rs.toArray⟩] 9)) := hw6
      clear hw6
      have HFX : Hid (Fix w w4 w5 w6 n x p q pw bw pt bt mp) := by
        have h1 := HI5.out.rn.now.at_
        obtain ⟨es, mc, hm⟩ := h1.mobj
        exact ⟨HB4.out, by have := HX4.out.2.lt; omega, HI5.out.rn.below.size, by rw [HW6.out]; simp, h1.sw.blt, h1.st.blt, G.lt_of_some hm, HNN.out⟩
      have HI6 : Hid (RI w w4 w5 w6 n x p q pw bw pt bt mp [] w6 ∧ Boxed w6 (w5.heap.size + 1 + 1) 9 (.string ⟨rs.toArray⟩)) := by
        have hb5 : Below w5.heap.size w5 w6 := by rw [HW6.out]; exact (((Below.refl _ w5).alloc (Nat.le_refl _) _).alloc (by simp) _).alloc (by simp; omega) _
        have y2 : Boxed w5 w.heap.size 26 (.pointer none) := boxed_below HX4.out.1 HI5.out.rn.below
        have y3 : Boxed w5 (w.heap.size + 1) 28 .nilIface := boxed_below HX4.out.2 HI5.out.rn.below
        have z9 : Boxed w6 w5.heap.size 26 (.pointer (some ⟨x, 0, none⟩)) := by rw [HW6.out]; exact ((Boxed.new w5 26 _).alloc _).alloc _
        have z10 : Boxed w6 (w5.heap.size + 1) 48 (.slice none 0 0) := by
          rw [HW6.out]
          have := Boxed.new (w5.alloc (.cells #[.pointer (some ⟨x, 0, none⟩)] 26)) 48 (.slice none 0 0)
          rw [World.size_alloc] at this
          exact this.alloc _
        have zb : Boxed w6 (w5.heap.size + 1 + 1) 9 (.string ⟨rs.toArray⟩) := by
          rw [HW6.out]
          have := Boxed.new ((w5.alloc (.cells #[.pointer (some ⟨x, 0, none⟩)] 26)).alloc (.cells #[.slice none 0 0] 48)) 9 (.string ⟨rs.toArray⟩)
          rw [World.size_alloc, World.size_alloc] at this
          exact this
        exact ⟨⟨[], [], v, [], B, Wl, Tl, D, N, .slice none 0 0, rfl, ⟨HI5.out.below' hb5, boxed_below y2 hb5, boxed_below y3 hb5, z9, z10, ⟨_, zb⟩, World.ownsRow_nil _ _ _ _, Nat.le_refl _, by simp⟩⟩, zb⟩
      clear HI5 HX4 HW6
      gi_wp2_with fail
      refine wpIn_rangeFunc_ownG hro (by decide) (gf := 202) (lb := #[.pointer (some ⟨w5.heap.size + 1 + 1, 0, none⟩)]) rfl trivial (enters_of Tryz.func202 (by kernel_rfl) rfl)
        (words_stops 4 (by decide) (w5.heap.size + 1 + 1) ⟨rs.toArray⟩ HLN.out.2 w6 HI6.out.2) (fun h k => k.trans h) ?hKb (Below.refl _ _) (fun _ => rfl)
        (RI w w4 w5 w6 n x p q pw bw pt bt mp) (RX w n) (ri_own HFX.out) (rx_own HFX.out) HI6.out.1
        (fun y => { tmps := #[.string s, undef, .pointer (some ⟨w.heap.size, 0, none⟩), .pointer (some ⟨w.heap.size + 1, 0, none⟩), .string ⟨hd.toArray⟩, .string ⟨rs.toArray⟩, .bool mr, .int .i64 (n : Int), .nilIface, .pointer (some ⟨w5.heap.size, 0, none⟩), .pointer (some ⟨w5.heap.size + 1, 0, none⟩), .string ⟨(y.take 100000).toArray⟩, undef, undef, undef, undef,
          .tuple #[.string ⟨hd.toArray⟩, .string ⟨rs.toArray⟩, .bool mr], .string s, .tuple #[.string ⟨hd.toArray⟩, .string ⟨rs.toArray⟩, .bool mr], .string ⟨hd.toArray⟩, .string ⟨rs.toArray⟩, .bool mr, .tuple #[.int .i64 (n : Int), .nilIface], .string ⟨hd.toArray⟩, .tuple #[.int .i64 (n : Int), .nilIface], .int .i64 (n : Int), .nilIface, .nilIface, .bool false, undef,
          .tuple #[.pointer (some ⟨x, 0, none⟩), .nilIface], .int .i64 (n : Int), .tuple #[.pointer (some ⟨x, 0, none⟩), .nilIface], .pointer (some ⟨x, 0, none⟩), .nilIface, .nilIface, .bool false, undef, .string ⟨rs.toArray⟩, .func (.func 202) #[] #[.pointer (some ⟨w5.heap.size + 1 + 1, 0, none⟩)], .string ⟨(y.take 100000).toArray⟩,
          undef, undef, undef, undef, undef, undef, undef, undef, undef, undef, undef, undef, undef, undef, undef, undef, undef, undef, undef, undef, undef, undef, undef, undef, undef, undef, undef, undef, undef, undef, undef, undef, undef], defers := [] }) ?assign ?body ?done ?stop
      case hKb =>
        intro W1 l o o' hl h0 _ _
        exact World.putObj_heap_other (by have := HFX.out.s6; omega)
      case assign =>
        intro l y W1 K hK
        gi_wp2
        exact hK
      case body =>
        rintro l pre y W1 ⟨acc, L, v1, R1, B1, Wl1, T1, D1, N1, u1, hrd, hri⟩ _
        have HRI : Hid (RI1 w w4 w5 w6 W1 n x p q pw bw pt bt mp acc L v1 R1 B1 Wl1 T1 D1 N1 u1) := hri
        have HRD : Hid (rdP n (short pre) = some (acc, L)) := hrd
        have HAT : Hid _ := atoi_any ⟨(y.take 100000).toArray⟩ W1 (by show (y.take 100000).length ≤ 100000; rw [List.length_take]; omega) (HV.out.below (hri.low HFX.out))
        clear hrd hri
        gi_wp2_with fail
        refine ⟨trivial, ?_⟩
        refine CallsIn.mono (CallsIn.inRound l (callsIn_wide.2 HAT.out)) ?_
        rintro e W2 ⟨hat, hb2⟩
        have HB2 : Hid (Below W1.heap.size W1 W2) := hb2
        clear hb2 HAT
        rcases hat with ⟨m, hm, rfl⟩ | ⟨hno, v9, t, pp, rfl⟩
        · have HY : Hid (Lib.atoiAll (y.take 100000) = .ok m) := hm
          clear hm
          have HR2 : Hid (RI1 w w4 w5 w6 W2 n x p q pw bw pt bt mp acc L v1 R1 B1 Wl1 T1 D1 N1 u1) := HRI.out.below' HB2.out
          have c10 := HR2.out.x10.cell
          have f10 := HR2.out.x10.frozen
          obtain ⟨i0, hi, hz0, hz1, hz2⟩ := info_parts info3
          have hrow := HR2.out.row
          have hal := HR2.out.al
          have hsz := HR2.out.size
          have hs6 := HFX.out.s6
          match acc, hal, HR2, HRD, hrow with
          | [], _, HR2, HRD, hrow =>
            gi_wp2_with (gi_at_builtin; refine wpListIn_append_own _ rfl _ _ 48 rfl w5.heap.size 3 i0 (.int .i64 0) 1 8 Tryz.underlying48 hi hz0 hz1 hz2 rfl (by decide) _ _ _ rfl (hrow.alloc _) ⟨W2.heap.size, 0, none⟩ 1 1 [.int .i64 m] rfl rfl (cell_one_new _ _ _) (by simp [Value.oneCell']) (by unfold maxLen; omega) (by omega) (by simp; omega) ?_; intro u2 W3 hown hgrow _; obtain ⟨g2, cap2, rfl⟩ := ownsRow_succ hown; have hmo := (ri_more HFX.out HR2.out hown hgrow).1; have hc3 := hmo.cell; have hf3 := hmo.frozen)
            have hm := ri_more HFX.out HR2.out hown hgrow
            exact ⟨((keeps_below HB2.out).from _).trans hm.2.1, kpb_below HB2.out (by have := HRI.out.size; omega) hm.2.2.1, ri_on HFX.out HRD.out HR2.out HY.out (by simp) hown hgrow⟩
          | [i], _, HR2, HRD, hrow =>
            gi_wp2_with (gi_at_builtin; refine wpListIn_append_own _ rfl _ _ 48 rfl w5.heap.size 3 i0 (.int .i64 0) 1 8 Tryz.underlying48 hi hz0 hz1 hz2 rfl (by decide) _ _ _ rfl (hrow.alloc _) ⟨W2.heap.size, 0, none⟩ 1 1 [.int .i64 m] rfl rfl (cell_one_new _ _ _) (by simp [Value.oneCell']) (by unfold maxLen; omega) (by omega) (by simp; omega) ?_; intro u2 W3 hown hgrow _; obtain ⟨g2, cap2, rfl⟩ := ownsRow_succ hown; have hmo := (ri_more HFX.out HR2.out hown hgrow).1; have hc3 := hmo.cell; have hf3 := hmo.frozen)
            have hm := ri_more HFX.out HR2.out hown hgrow
            exact ⟨((keeps_below HB2.out).from _).trans hm.2.1, kpb_below HB2.out (by have := HRI.out.size; omega) hm.2.2.1, ri_on HFX.out HRD.out HR2.out HY.out (by simp) hown hgrow⟩
          | [i, a], _, HR2, HRD, hrow =>
            gi_wp2_with (gi_at_builtin; refine wpListIn_append_own _ rfl _ _ 48 rfl w5.heap.size 3 i0 (.int .i64 0) 1 8 Tryz.underlying48 hi hz0 hz1 hz2 rfl (by decide) _ _ _ rfl (hrow.alloc _) ⟨W2.heap.size, 0, none⟩ 1 1 [.int .i64 m] rfl rfl (cell_one_new _ _ _) (by simp [Value.oneCell']) (by unfold maxLen; omega) (by omega) (by simp; omega) ?_; intro u2 W3 hown hgrow _; obtain ⟨g2, cap2, rfl⟩ := ownsRow_succ hown; have hmo := (ri_more HFX.out HR2.out hown hgrow).1; have hc3 := hmo.cell; have hf3 := hmo.frozen)
            have HMO : Hid _ := ri_more HFX.out HR2.out hown hgrow
            generalize W3.setCell ⟨w5.heap.size + 1, 0, none⟩ (.slice (some ⟨g2, 0, none⟩) ([i, a].length + 1) cap2) = V at HMO ⊢
            have hV := HMO.out
            have HS0 : Hid (V.drew.cell? ⟨w5.heap.size, 0, none⟩ = some (.pointer (some ⟨x, 0, none⟩)) ∧ V.drew.cell? ⟨w5.heap.size + 1, 0, none⟩ = some (.slice (some ⟨g2, 0, none⟩) 3 cap2) ∧ V.drew.cell? ⟨g2, 0, none⟩ = some (.int .i64 i) ∧ V.drew.cell? ⟨g2, 1, none⟩ = some (.int .i64 a) ∧ V.drew.cell? ⟨g2, 2, none⟩ = some (.int .i64 m)) := by
              have hr := hV.2.2.2.2.2.2.2.2.1
              have e0 := World.ownsRow.cells hr rfl 0 _ rfl
              have e1 := World.ownsRow.cells hr rfl 1 _ rfl
              have e2 := World.ownsRow.cells hr rfl 2 _ rfl
              rw [G.addr0_add] at e0 e1 e2
              exact ⟨hV.2.2.2.2.2.2.1.cell, hV.2.2.2.2.2.2.2.1.cell, e0, e1, e2⟩
            clear hV
            have hgb : w5.heap.size ≤ g2 := (World.ownsRow.lt HMO.out.2.2.2.2.2.2.2.2.1 g2 rfl).1
            by_cases hF : Fits n L i a m
            · obtain ⟨a, rfl⟩ := Int.eq_ofNat_of_zero_le hF.2.1.1
              obtain ⟨m, rfl⟩ := Int.eq_ofNat_of_zero_le hF.2.2.1.1
              have HAD : Hid _ := iadd_ok i a m V.drew (HMO.out.2.2.2.1.below' (Below.refl _ _).drew) hF
              refine region_round (S := (fun w' => w'.cell? ⟨w5.heap.size, 0, none⟩ = some (.pointer (some ⟨x, 0, none⟩)) ∧ w'.cell? ⟨w5.heap.size + 1, 0, none⟩ = some (.slice (some ⟨g2, 0, none⟩) 3 cap2) ∧ w'.cell? ⟨g2, 0, none⟩ = some (.int .i64 i) ∧ w'.cell? ⟨g2, 1, none⟩ = some (.int .i64 (a : Int)) ∧ w'.cell? ⟨g2, 2, none⟩ = some (.int .i64 (m : Int)))) (by kernel_rfl) (noDefer_spec (by kernel_rfl)) (fun ⟨_, _, h⟩ => h) ?_ (fun hHeld => ?_)
              · exact HS0.out
              refine wpAnyH_take (i := 0) (v := ?_) rfl (by kernel_rfl) (by kernel_rfl) (by kernel_rfl) (fun _ _ _ h => h) (Or.inl ⟨by rfl, ?_⟩) (by assumption) ?_
              rotate_left
              · intro w hSw
                try dsimp only at hSw
                first | (go_simp; done) | (go_simp; with_reducible rfl)
              try simp only [Act.put]
              refine wpAnyH_take (i := 1) (v := ?_) rfl (by kernel_rfl) (by kernel_rfl) (by kernel_rfl) (fun _ _ _ h => h) (Or.inl ⟨by rfl, ?_⟩) (by assumption) ?_
              rotate_left
              · intro w hSw
                try dsimp only at hSw
                first | (go_simp; done) | (go_simp; with_reducible rfl)
              try simp only [Act.put]
              refine wpAnyH_take (i := 2) (v := ?_) rfl (by kernel_rfl) (by kernel_rfl) (by kernel_rfl) (fun _ _ _ h => h) (Or.inl ⟨by rfl, ?_⟩) (by assumption) ?_
              rotate_left
              · intro w hSw
                try dsimp only at hSw
                first | (go_simp; done) | (go_simp; with_reducible rfl)
              try simp only [Act.put]
              refine wpAnyH_take (i := 3) (v := ?_) rfl (by kernel_rfl) (by kernel_rfl) (by kernel_rfl) (fun _ _ _ h => h) (Or.inl ⟨by rfl, ?_⟩) (by assumption) ?_
              rotate_left
              · intro w hSw
                try dsimp only at hSw
                first | (go_simp; done) | (go_simp; with_reducible rfl)
              try simp only [Act.put]
              refine wpAnyH_take (i := 4) (v := ?_) rfl (by kernel_rfl) (by kernel_rfl) (by kernel_rfl) (fun _ _ _ h => h) (Or.inl ⟨by rfl, ?_⟩) (by assumption) ?_
              rotate_left
              · intro w hSw
                try dsimp only at hSw
                first | (go_simp; done) | (go_simp; with_reducible rfl)
              try simp only [Act.put]
              refine wpAnyH_take (i := 5) (v := ?_) rfl (by kernel_rfl) (by kernel_rfl) (by kernel_rfl) (fun _ _ _ h => h) (Or.inl ⟨by rfl, ?_⟩) (by assumption) ?_
              rotate_left
              · intro w hSw
                try dsimp only at hSw
                first | (go_simp; done) | (go_simp; with_reducible rfl)
              try simp only [Act.put]
              refine wpAnyH_take (i := 6) (v := ?_) rfl (by kernel_rfl) (by kernel_rfl) (by kernel_rfl) (fun _ _ _ h => h) (Or.inl ⟨by rfl, ?_⟩) (by assumption) ?_
              rotate_left
              · intro w hSw
                try dsimp only at hSw
                first | (go_simp; done) | (go_simp; with_reducible rfl)
              try simp only [Act.put]
              refine wpAnyH_take (i := 7) (v := ?_) rfl (by kernel_rfl) (by kernel_rfl) (by kernel_rfl) (fun _ _ _ h => h) (Or.inl ⟨by rfl, ?_⟩) (by assumption) ?_
              rotate_left
              · intro w hSw
                try dsimp only at hSw
                first | (go_simp; done) | (go_simp; with_reducible rfl)
              try simp only [Act.put]
              refine wpAnyH_take (i := 8) (v := ?_) rfl (by kernel_rfl) (by kernel_rfl) (by kernel_rfl) (fun _ _ _ h => h) (Or.inl ⟨by rfl, ?_⟩) (by assumption) ?_
              rotate_left
              · intro w hSw
                try dsimp only at hSw
                first | (go_simp; done) | (go_simp; with_reducible rfl)
              try simp only [Act.put]
              refine wpAnyH_take (i := 9) (v := ?_) rfl (by kernel_rfl) (by kernel_rfl) (by kernel_rfl) (fun _ _ _ h => h) (Or.inl ⟨by rfl, ?_⟩) (by assumption) ?_
              rotate_left
              · intro w hSw
                try dsimp only at hSw
                first | (go_simp; done) | (go_simp; with_reducible rfl)
              try simp only [Act.put]
              refine wpAnyH_ready (rs := [10]) (by kernel_rfl) (by simp) ?_
              refine AllReadyH.cons rfl (fun K hK => ?_) AllReadyH.nil
              go_simp
              go_wp2_with (go_at_call 21; refine Calls.mono HAD.out ?_; rintro e V2 ⟨ok, v2, B2, Wl2, T2, D2, N2, rfl, hat2, _, hik, _⟩)
              have HAT2 : Hid _ := hat2
              have HIK : Hid (Ikp p v1.ownBlock bw bt mp V.drew V2) := hik
              have HVA : Hid (IAt w4 V.drew x p q n v1 L R1 B1 Wl1 T1 D1 pw bw pt bt mp N1) := HMO.out.2.2.2.1.below' (Below.refl _ _).drew
              clear hat2 hik HAD
              have y9 : Boxed V2 w5.heap.size 26 (.pointer (some ⟨x, 0, none⟩)) := ik_cells HVA.out HIK.out HMO.out.2.2.2.2.2.2.1 (by decide) (by decide) (by decide)
              have y10 : Boxed V2 (w5.heap.size + 1) 48 (.slice (some ⟨g2, 0, none⟩) 3 cap2) := ik_cells HVA.out HIK.out HMO.out.2.2.2.2.2.2.2.1 (by decide) (by decide) (by decide)
              have HG : Hid (V2.cell? ⟨g2, 0, none⟩ = some (.int .i64 i) ∧ V2.cell? ⟨g2, 1, none⟩ = some (.int .i64 (a : Int)) ∧ V2.cell? ⟨g2, 2, none⟩ = some (.int .i64 (m : Int))) := by
                have h0 := HMO.out.2.2.2.2.2.2.2.2.1
                rcases h0.2 with ⟨k, _⟩ | ⟨g', cap', cur, k, _, hgc, _⟩
                · injection k with k; cases k
                · injection k with k _ _
                  injection k with k
                  injection k with k
                  subst k
                  have hb9 := HFX.out.hbw; have hb8 := HFX.out.hbt
                  have e : V2.heap[g2]? = V.drew.heap[g2]? := HIK.out.block g2 (G.lt_of_some hgc) (by rintro rfl; have := hgc.symm.trans HVA.out.gra.hp; simp at this) (by
                    intro e'
                    obtain ⟨c', hc'⟩ := own61 HVA.out.gra.row e'.symm
                    have := hgc.symm.trans hc'
                    simp at this) (by omega) (by omega) (by have := HFX.out.hmp; omega)
                  exact ⟨(World.cell?_of_block (a := ⟨g2, 0, none⟩) e).trans HS0.out.2.2.1, (World.cell?_of_block (a := ⟨g2, 1, none⟩) e).trans HS0.out.2.2.2.1, (World.cell?_of_block (a := ⟨g2, 2, none⟩) e).trans HS0.out.2.2.2.2⟩
              refine hK.out _ _ ?_ (fun hHeld => ?_)
              · exact ⟨y9.cell, y10.cell, HG.out.1, HG.out.2.1, HG.out.2.2⟩
              clear hK K
              refine wpAnyH_take (i := 11) (v := ?_) rfl (by kernel_rfl) (by kernel_rfl) (by kernel_rfl) (fun _ _ _ h => h) (Or.inl ⟨by rfl, ?_⟩) (by assumption) ?_
              rotate_left
              · intro w hSw
                try dsimp only at hSw
                first | (go_simp; done) | (go_simp; with_reducible rfl)
              try simp only [Act.put]
              refine wpAnyH_take (i := 12) (v := ?_) rfl (by kernel_rfl) (by kernel_rfl) (by kernel_rfl) (fun _ _ _ h => h) (Or.inl ⟨by rfl, ?_⟩) (by assumption) ?_
              rotate_left
              · intro w hSw
                try dsimp only at hSw
                first | (go_simp; done) | (go_simp; with_reducible rfl)
              try simp only [Act.put]
              refine wpAnyH_take (i := 13) (v := ?_) rfl (by kernel_rfl) (by kernel_rfl) (by kernel_rfl) (fun _ _ _ h => h) (Or.inl ⟨by rfl, ?_⟩) (by assumption) ?_
              rotate_left
              · intro w hSw
                try dsimp only at hSw
                first | (go_simp; done) | (go_simp; with_reducible rfl)
              try simp only [Act.put]
              refine wpAnyH_take (i := 14) (v := ?_) rfl (by kernel_rfl) (by kernel_rfl) (by kernel_rfl) (fun _ _ _ h => h) (Or.inl ⟨by rfl, ?_⟩) (by assumption) ?_
              rotate_left
              · intro w hSw
                try dsimp only at hSw
                first | (go_simp; done) | (go_simp; with_reducible rfl)
              try simp only [Act.put]
              refine wpAnyH_take (i := 15) (v := ?_) rfl (by kernel_rfl) (by kernel_rfl) (by kernel_rfl) (fun _ _ _ h => h) (Or.inl ⟨by rfl, ?_⟩) (by assumption) ?_
              rotate_left
              · intro w hSw
                try dsimp only at hSw
                first | (go_simp; done) | (go_simp; with_reducible rfl)
              try simp only [Act.put]
              refine wpAnyH_done (by kernel_rfl) ?_ _
              have c10' := y10.cell
              have f10' := y10.frozen
              gi_wp2_with fail
              obtain ⟨s9, hs9⟩ := HR2.out.xb
              have hfin := ri_put HFX.out HRD.out HY.out hF HVA.out rfl HAT2.out HIK.out HMO.out.2.2.2.2.1 HMO.out.2.2.2.2.2.1 HMO.out.2.2.2.2.2.2.1 HMO.out.2.2.2.2.2.2.2.1 (show Boxed V.drew (w5.heap.size + 2) 9 s9 from HMO.out.2.2.1.trans hs9) HMO.out.2.2.2.2.2.2.2.2.2.1
              exact ⟨(((keeps_below HB2.out).from _).trans HMO.out.2.1).trans (((KeepsOthers.drew V).from _).trans hfin.2.1), kpb_below HB2.out (by have := HRI.out.size; omega) (hfin.2.2.trans HMO.out.2.2.1), hfin.1⟩
            · have HAD : Hid _ := iadd_no i a m V.drew (HMO.out.2.2.2.1.below' (Below.refl _ _).drew) (fun e => hF ((addC_zero HMO.out.2.2.2.1.ok i a m).1 e))
              generalize addC n L i a m = cd at HAD
              refine region_round (S := (fun w' => w'.cell? ⟨w5.heap.size, 0, none⟩ = some (.pointer (some ⟨x, 0, none⟩)) ∧ w'.cell? ⟨w5.heap.size + 1, 0, none⟩ = some (.slice (some ⟨g2, 0, none⟩) 3 cap2) ∧ w'.cell? ⟨g2, 0, none⟩ = some (.int .i64 i) ∧ w'.cell? ⟨g2, 1, none⟩ = some (.int .i64 a) ∧ w'.cell? ⟨g2, 2, none⟩ = some (.int .i64 m))) (by kernel_rfl) (noDefer_spec (by kernel_rfl)) (fun ⟨_, _, h⟩ => h) ?_ (fun hHeld => ?_)
              · exact HS0.out
              refine wpAnyH_take (i := 0) (v := ?_) rfl (by kernel_rfl) (by kernel_rfl) (by kernel_rfl) (fun _ _ _ h => h) (Or.inl ⟨by rfl, ?_⟩) (by assumption) ?_
              rotate_left
              · intro w hSw
                try dsimp only at hSw
                first | (go_simp; done) | (go_simp; with_reducible rfl)
              try simp only [Act.put]
              refine wpAnyH_take (i := 1) (v := ?_) rfl (by kernel_rfl) (by kernel_rfl) (by kernel_rfl) (fun _ _ _ h => h) (Or.inl ⟨by rfl, ?_⟩) (by assumption) ?_
              rotate_left
              · intro w hSw
                try dsimp only at hSw
                first | (go_simp; done) | (go_simp; with_reducible rfl)
              try simp only [Act.put]
              refine wpAnyH_take (i := 2) (v := ?_) rfl (by kernel_rfl) (by kernel_rfl) (by kernel_rfl) (fun _ _ _ h => h) (Or.inl ⟨by rfl, ?_⟩) (by assumption) ?_
              rotate_left
              · intro w hSw
                try dsimp only at hSw
                first | (go_simp; done) | (go_simp; with_reducible rfl)
              try simp only [Act.put]
              refine wpAnyH_take (i := 3) (v := ?_) rfl (by kernel_rfl) (by kernel_rfl) (by kernel_rfl) (fun _ _ _ h => h) (Or.inl ⟨by rfl, ?_⟩) (by assumption) ?_
              rotate_left
              · intro w hSw
                try dsimp only at hSw
                first | (go_simp; done) | (go_simp; with_reducible rfl)
              try simp only [Act.put]
              refine wpAnyH_take (i := 4) (v := ?_) rfl (by kernel_rfl) (by kernel_rfl) (by kernel_rfl) (fun _ _ _ h => h) (Or.inl ⟨by rfl, ?_⟩) (by assumption) ?_
              rotate_left
              · intro w hSw
                try dsimp only at hSw
                first | (go_simp; done) | (go_simp; with_reducible rfl)
              try simp only [Act.put]
              refine wpAnyH_take (i := 5) (v := ?_) rfl (by kernel_rfl) (by kernel_rfl) (by kernel_rfl) (fun _ _ _ h => h) (Or.inl ⟨by rfl, ?_⟩) (by assumption) ?_
              rotate_left
              · intro w hSw
                try dsimp only at hSw
                first | (go_simp; done) | (go_simp; with_reducible rfl)
              try simp only [Act.put]
              refine wpAnyH_take (i := 6) (v := ?_) rfl (by kernel_rfl) (by kernel_rfl) (by kernel_rfl) (fun _ _ _ h => h) (Or.inl ⟨by rfl, ?_⟩) (by assumption) ?_
              rotate_left
              · intro w hSw
                try dsimp only at hSw
                first | (go_simp; done) | (go_simp; with_reducible rfl)
              try simp only [Act.put]
              refine wpAnyH_take (i := 7) (v := ?_) rfl (by kernel_rfl) (by kernel_rfl) (by kernel_rfl) (fun _ _ _ h => h) (Or.inl ⟨by rfl, ?_⟩) (by assumption) ?_
              rotate_left
              · intro w hSw
                try dsimp only at hSw
                first | (go_simp; done) | (go_simp; with_reducible rfl)
              try simp only [Act.put]
              refine wpAnyH_take (i := 8) (v := ?_) rfl (by kernel_rfl) (by kernel_rfl) (by kernel_rfl) (fun _ _ _ h => h) (Or.inl ⟨by rfl, ?_⟩) (by assumption) ?_
              rotate_left
              · intro w hSw
                try dsimp only at hSw
                first | (go_simp; done) | (go_simp; with_reducible rfl)
              try simp only [Act.put]
              refine wpAnyH_take (i := 9) (v := ?_) rfl (by kernel_rfl) (by kernel_rfl) (by kernel_rfl) (fun _ _ _ h => h) (Or.inl ⟨by rfl, ?_⟩) (by assumption) ?_
              rotate_left
              · intro w hSw
                try dsimp only at hSw
                first | (go_simp; done) | (go_simp; with_reducible rfl)
              try simp only [Act.put]
              refine wpAnyH_ready (rs := [10]) (by kernel_rfl) (by simp) ?_
              refine AllReadyH.cons rfl (fun K hK => ?_) AllReadyH.nil
              go_simp
              go_wp2_with (go_at_call 21; refine Calls.mono HAD.out ?_; rintro e V2 ⟨rfl, hb2⟩)
              have HB3 : Hid (Below V.drew.heap.size V.drew V2) := hb2
              clear hb2 HAD
              refine hK.out _ _ ?_ (fun hHeld => ?_)
              · exact ⟨cellb HB3.out HS0.out.1, cellb HB3.out HS0.out.2.1, cellb HB3.out HS0.out.2.2.1, cellb HB3.out HS0.out.2.2.2.1, cellb HB3.out HS0.out.2.2.2.2⟩
              clear hK K
              refine wpAnyH_take (i := 11) (v := ?_) rfl (by kernel_rfl) (by kernel_rfl) (by kernel_rfl) (fun _ _ _ h => h) (Or.inl ⟨by rfl, ?_⟩) (by assumption) ?_
              rotate_left
              · intro w hSw
                try dsimp only at hSw
                first | (go_simp; done) | (go_simp; with_reducible rfl)
              try simp only [Act.put]
              refine wpAnyH_take (i := 12) (v := ?_) rfl (by kernel_rfl) (by kernel_rfl) (by kernel_rfl) (fun _ _ _ h => h) (Or.inl ⟨by rfl, ?_⟩) (by assumption) ?_
              rotate_left
              · intro w hSw
                try dsimp only at hSw
                first | (go_simp; done) | (go_simp; with_reducible rfl)
              try simp only [Act.put]
              refine wpAnyH_take (i := 13) (v := ?_) rfl (by kernel_rfl) (by kernel_rfl) (by kernel_rfl) (fun _ _ _ h => h) (Or.inl ⟨by rfl, ?_⟩) (by assumption) ?_
              rotate_left
              · intro w hSw
                try dsimp only at hSw
                first | (go_simp; done) | (go_simp; with_reducible rfl)
              try simp only [Act.put]
              refine wpAnyH_take (i := 14) (v := ?_) rfl (by kernel_rfl) (by kernel_rfl) (by kernel_rfl) (fun _ _ _ h => h) (Or.inl ⟨by rfl, ?_⟩) (by assumption) ?_
              rotate_left
              · intro w hSw
                try dsimp only at hSw
                first | (go_simp; done) | (go_simp; with_reducible rfl)
              try simp only [Act.put]
              refine wpAnyH_take (i := 15) (v := ?_) rfl (by kernel_rfl) (by kernel_rfl) (by kernel_rfl) (fun _ _ _ h => h) (Or.inl ⟨by rfl, ?_⟩) (by assumption) ?_
              rotate_left
              · intro w hSw
                try dsimp only at hSw
                first | (go_simp; done) | (go_simp; with_reducible rfl)
              try simp only [Act.put]
              refine wpAnyH_done (by kernel_rfl) ?_ _
              have HX2 : Hid (Boxed V2 w.heap.size 26 (.pointer none) ∧ Boxed V2 (w.heap.size + 1) 28 .nilIface) := ⟨boxed_below (w := V.drew) HMO.out.2.2.2.2.1 HB3.out, boxed_below (w := V.drew) HMO.out.2.2.2.2.2.1 HB3.out⟩
              have c2 := HX2.out.1.cell
              have f2 := HX2.out.1.frozen
              have c3 := HX2.out.2.cell
              have f3 := HX2.out.2.frozen
              gi_wp2_with fail
              refine ⟨(((keeps_below HB2.out).from _).trans HMO.out.2.1).trans (((((KeepsOthers.drew V).trans (keeps_below HB3.out)).trans (KeepsOthers.setCell _ _ _)).trans (KeepsOthers.setCell _ _ _)).from _), ri_no HRD.out HX2.out.1 HX2.out.2 ?_ HY.out hF 23 _⟩
              have h1 := HFX.out.b4.trans (HMO.out.2.2.2.1.rn.below.mono HFX.out.b4.size)
              exact h1.drew.trans ((HB3.out).mono h1.size)
        · have c2 := (HRI.out.below' HB2.out).x2.cell
          have f2 := (HRI.out.below' HB2.out).x2.frozen
          have c3 := (HRI.out.below' HB2.out).x3.cell
          have f3 := (HRI.out.below' HB2.out).x3.frozen
          gi_wp2_with fail
          exact ri_bad HFX.out HRI.out HB2.out hno t pp
      case done =>
        rintro D9 ys W1 hD hys ⟨acc, L, v1, R1, B1, Wl1, T1, D1, N1, u1, hrd, hri⟩ hK
        have HRI : Hid (RI1 w w4 w5 w6 W1 n x p q pw bw pt bt mp acc L v1 R1 B1 Wl1 T1 D1 N1 u1) := hri
        have HRD : Hid (rdP n (short ys) = some (acc, L)) := hrd
        have HYS : Hid (ys = wds [] rs) := hys
        have HK : Hid (W1.heap[D9]? = some (.deferred (some []))) := hK
        have c9 := hri.x9.cell
        have c2 := hri.x2.cell
        have f2 := hri.x2.frozen
        have c3 := hri.x3.cell
        have f3 := hri.x3.frozen
        clear hrd hri hys hK
        gi_wp2
        have htw := two_set (.pointer (some ⟨x, 0, none⟩)) .nilIface HRI.out.x2 HRI.out.x3
        have hK' := ((KeepsOthers.setCell W1 ⟨w.heap.size, 0, none⟩ (.pointer (some ⟨x, 0, none⟩))).trans (KeepsOthers.setCell _ ⟨w.heap.size + 1, 0, none⟩ .nilIface)).same D9 _ HK.out rfl
        refine ⟨by simp, .inl ⟨_, _, rfl, run_takeDeferred hK', ?_⟩⟩
        refine ⟨_, res46 (cell_kept htw.1.cell (grownBy_putObj' _ D9 (.deferred none)) (fun r e => by cases e; exact ⟨_, hK', rfl⟩)) (cell_kept htw.2.cell (grownBy_putObj' _ D9 (.deferred none)) (fun r e => by cases e; exact ⟨_, hK', rfl⟩)) (by rfl) (by rfl), .inl ⟨n, acc, L, ?_, ?_⟩⟩
        · unfold rdS
          rw [HCE.out]
          dsimp only
          rw [HM.out]
          dsimp only
          rw [if_pos (by have := HNN.out; omega)]
          have e1 : short ys = wds [] rs := by rw [HYS.out]; exact short_words HLN.out.2
          have := HRD.out
          rw [e1] at this
          simp [this]
        · exact ⟨x, p, q, v1, R1, B1, Wl1, T1, D1, pw, bw, pt, bt, mp, N1, rfl, ri_end HFX.out HRI.out hK' hD⟩
      case stop =>
        rintro D9 c pre W1 hD ⟨k, hk⟩ ⟨rfl, hno, h2, ⟨t, pp, h3⟩, hb⟩ hK
        have HK : Hid (W1.heap[D9]? = some (.deferred (some []))) := hK
        have HH : Hid (rdP n (short pre) = none ∧ Boxed W1 w.heap.size 26 (.pointer none) ∧ Boxed W1 (w.heap.size + 1) 28 (.iface t pp) ∧ Below w.heap.size w W1) := ⟨hno, h2, h3, hb⟩
        have HPK : Hid (pre = (wst (rs.take k)).1) := hk
        clear hno h2 h3 hb hK hk
        gi_wp2
        refine ⟨by simp, .inl ⟨_, _, rfl, run_takeDeferred HK.out, ?_⟩⟩
        refine ⟨_, res46 (cell_kept HH.out.2.1.cell (grownBy_putObj' _ D9 (.deferred none)) (fun r e => by cases e; exact ⟨_, HK.out, rfl⟩)) (cell_kept HH.out.2.2.1.cell (grownBy_putObj' _ D9 (.deferred none)) (fun r e => by cases e; exact ⟨_, HK.out, rfl⟩)) (by rfl) (by rfl), .inr ⟨?_, ⟨_, _, rfl⟩, ?_⟩⟩
        · unfold rdS
          rw [HCE.out]
          dsimp only
          rw [HM.out]
          dsimp only
          rw [if_pos (by have := HNN.out; omega)]
          have e1 := rdP_stop (n := n) (k := k) HLN.out.2 (by rw [← HPK.out]; exact HH.out.1)
          simp [e1]
        · have h4 := HFX.out.s4; have h5 := HFX.out.s5; have h6 := HFX.out.s6
          exact HH.out.2.2.2.grown (grownBy_putObj' W1 D9 (.deferred none)) HH.out.2.2.2.size (fun j e => by cases e; omega)
    · have HN : Hid _ := inew_out m w4 (by omega)
      have c2 := HX4.out.1.cell
      have f2 := HX4.out.1.frozen
      have c3 := HX4.out.2.cell
      have f3 := HX4.out.2.frozen
      gi_wp2_with fail
      refine ⟨trivial, ?_⟩
      refine CallsIn.mono (callsIn_wide.2 HN.out) ?_
      rintro e w5 ⟨rfl, hw5⟩
      subst w5
      have hlt2 := HX4.out.1.lt
      have hlt3 := HX4.out.2.lt
      gi_wp2_with fail
      have htw := two_set (.pointer none) (.iface 23 (.int .i64 2)) HX4.out.1 HX4.out.2
      refine ⟨_, res46 (htw.1.alloc _).cell (htw.2.alloc _).cell (by rfl) (by rfl), .inr ⟨?_, ⟨_, _, rfl⟩, ?_⟩⟩
      · unfold rdS
        rw [HCE.out]
        dsimp only
        rw [HM.out]
        dsimp only
        rw [if_neg hr]
      · have h9 := below_two HB4.out (.pointer none) (.iface 23 (.int .i64 2))
        exact h9.alloc h9.size _
  · have c2 := HX4.out.1.cell
    have f2 := HX4.out.1.frozen
    have c3 := HX4.out.2.cell
    have f3 := HX4.out.2.frozen
    gi_wp2_with fail
    have htw := two_set (.pointer none) (.iface t pp) HX4.out.1 HX4.out.2
    refine ⟨_, res46 htw.1.cell htw.2.cell (by rfl) (by rfl), .inr ⟨?_, ⟨_, _, rfl⟩, ?_⟩⟩
    · unfold rdS
      rw [HCE.out]
      dsimp only
      cases hq : Lib.atoiAll hd with
      | ok m => exact absurd hq (hno m)
      | _ => rfl
    · exact below_two HB4.out _ _

end Go.Proofs.YtebcjaenhiiflaaGreatDoor.I
