/- The law IndexLoads. -/
import Derived.Test.YtebcjaenhiiflaaGreatDoorJn
import Derived.Test.YtebcjaenhiiflaaGreatDoorGE
namespace Go.Proofs.YtebcjaenhiiflaaGreatDoor.I
open Go.RowKit Go.WideMaps Go.Maps

theorem iedges_any {w0 w : World} {x p q n : Nat} {v : Value} {L R B : List G.E} {W T : List Nat} {D : DataW Unit} {pw bw pt bt mp N : Nat} (h : IAt w0 w x p q n v L R B W T D pw bw pt bt mp N) :
    Calls Tryz.prog 14 #[.pointer (some ⟨x, 0, none⟩)] w fun e w' => ∃ u, e = .returned u ∧ G.Owns w' w.heap.size 61 u L ∧ Below w.heap.size w w' := by
  have HE : Hid _ := G.edges_any (n : Int) w0.heap.size p v L w h.gra h.ok.len
  have hc := h.ix.c0
  clear h
  go_enter Tryz.func14, Tryz.ntmps14
  go_wp2_with (go_at_call 48; refine Calls.mono HE.out ?_; rintro e w1 ⟨u, rfl, ho, hb⟩)
  go_ret
  exact ⟨u, rfl, ho, hb⟩

set_option maxHeartbeats 2000000 in
set_option maxRecDepth 100000 in
theorem loads_any (s : ByteArray) (w : World) (hv : Vars w) : Calls Tryz.prog 3 #[.string s] w fun e w' => e = .returned (.bool true) ∧ Below w.heap.size w w' := by
  have HV : Hid (Vars w) := hv
  clear hv
  by_cases hs : s.size ≤ 1500
  · have HR : Hid _ := rload_any s w (by omega) HV.out
    have hd : decide ((1500 : Int) < (s.size : Int)) = false := decide_eq_false (by omega)
    go_enter Tryz.func3, Tryz.ntmps3
    go_wp2_with fail
    refine Calls.mono HR.out ?_
    rintro e w1 (⟨n, L, ht, q, u, R, rfl, hg, hp, hb⟩ | ⟨hno, rfl, hb⟩)
    · have HTE : Hid (Tells s.data.toList n L) := ht
      have HG : Hid (G.GAt w1 w.heap.size 40 61 q (n : Int) u R ∧ R.Perm L) := ⟨hg, hp⟩
      have HB : Hid (Below w.heap.size w w1) := hb
      have HL : Hid _ := load_any s w1 (by omega) (HV.out.below hb)
      clear ht hg hp hb HR
      go_wp2_with fail
      refine Calls.mono HL.out ?_
      rintro e w2 (⟨n', L', ht', x, p, q', v, R', B, W, T, D, pw, bw, pt, bt, mp, N, rfl, hat⟩ | ⟨hno, rfl, hb⟩)
      · have he : n' = n ∧ L' = L := svE_inj ht'.1 HTE.out.1 (ht'.2.symm.trans HTE.out.2)
        obtain ⟨rfl, rfl⟩ := he
        have HAT : Hid (IAt w1 w2 x p q' n' v L' R' B W T D pw bw pt bt mp N) := hat
        have HB2 : Hid (Below w1.heap.size w1 w2) := hat.rn.below
        have HBA : Hid _ := G.bare_any .nilIface 0 w2 ((HV.out.below HB.out).below hat.rn.below).gl rfl
        clear hat ht' HL
        go_wp2_with (go_at_call 12; refine Calls.mono HBA.out ?_; rintro e w3 ⟨rfl, hb3⟩; have HB3 : Hid (Below w2.heap.size w2 w3) := hb3; clear hb3 HBA)
        have HA3 : Hid _ := HAT.out.below' HB3.out
        have HB13 : Hid (Below w1.heap.size w1 w3) := HB2.out.trans (HB3.out.mono HB2.out.size)
        have HED : Hid _ := iedges_any HA3.out
        have htx : (⟨(svI n' L').toArray⟩ : ByteArray) = s := by
          apply WideShapes.bytes_inj
          show svI n' L' = _
          rw [HTE.out.2, svE_ok HTE.out.1]
        refine Calls.mono HED.out ?_
        rintro e w4 ⟨u4, rfl, ho4, hb4⟩
        have HO4 : Hid (G.Owns w4 w3.heap.size 61 u4 L') := ho4
        have HB4 : Hid (Below w3.heap.size w3 w4) := hb4
        have HSO : Hid _ := G.sorted_any w.heap.size q (n' : Int) u R L' w4 ((HG.out.1.below HB13.out).below hb4) ⟨HTE.out.1.up, HG.out.2, HTE.out.1.len⟩
        clear ho4 hb4 HED
        go_wp2_with fail
        refine Calls.mono HSO.out ?_
        rintro e w5 ⟨u5, rfl, ho5, hb5⟩
        have HB5 : Hid (Below w4.heap.size w4 w5) := hb5
        have HSE : Hid _ := G.same_edges w3.heap.size w4.heap.size u4 u5 L' w5 (HO4.out.below hb5) ho5 (by have := HTE.out.1.len; omega)
        clear ho5 hb5 HSO
        go_wp2_with fail
        refine Calls.mono HSE.out ?_
        rintro e w6 ⟨rfl, hb6⟩
        have HA6 : Hid _ := ((HA3.out.below' HB4.out).below' HB5.out).below' hb6
        have HB6 : Hid (Below w.heap.size w w6) := ((((HB.out.trans (HB13.out.mono HB.out.size))).trans (HB4.out.mono (Nat.le_trans HB.out.size HB13.out.size))).trans (HB5.out.mono (Nat.le_trans (Nat.le_trans HB.out.size HB13.out.size) HB4.out.size))).trans (hb6.mono (Nat.le_trans (Nat.le_trans (Nat.le_trans HB.out.size HB13.out.size) HB4.out.size) HB5.out.size))
        have HSV : Hid _ := saved_any x p q' n' w1.heap.size v L' w6 HA6.out.ix HA6.out.gra HA6.out.ok (HV.out.below HB6.out)
        rw [htx] at HSV
        clear hb6 HSE htx
        go_wp2_with (go_at_call 16; refine Calls.mono HSV.out ?_; rintro e w7 ⟨rfl, hb7⟩)
        go_ret
        exact ⟨rfl, HB6.out.trans (hb7.mono HB6.out.size)⟩
      · exact absurd HTE.out (hno n L)
    · have HNO : Hid (∀ n L, ¬ Tells s.data.toList n L) := hno
      have HB : Hid (Below w.heap.size w w1) := hb
      have HL : Hid _ := load_any s w1 (by omega) (HV.out.below hb)
      clear hno hb HR
      go_wp2_with fail
      refine Calls.mono HL.out ?_
      rintro e w2 (⟨n', L', ht', _⟩ | ⟨_, rfl, hb⟩)
      · exact absurd ht' (HNO.out n' L')
      · have HB2 : Hid (Below w.heap.size w w2) := HB.out.trans (hb.mono HB.out.size)
        have HBA : Hid _ := G.bare_any (.iface 23 (.int .i64 3)) 3 w2 (HV.out.below HB2.out).gl rfl
        clear hb HL
        go_wp2_with (go_at_call 12; refine Calls.mono HBA.out ?_; rintro e w3 ⟨rfl, hb3⟩)
        go_ret
        exact ⟨rfl, HB2.out.trans (hb3.mono HB2.out.size)⟩
  · have hd : decide ((1500 : Int) < (s.size : Int)) = true := decide_eq_true (by omega)
    go_enter Tryz.func3, Tryz.ntmps3
    go_wp2_with fail
    go_ret
    exact ⟨rfl, Below.refl _ _⟩

end Go.Proofs.YtebcjaenhiiflaaGreatDoor.I
