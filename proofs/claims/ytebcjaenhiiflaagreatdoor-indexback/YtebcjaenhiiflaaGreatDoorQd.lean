/- IndexBack's fact: an edge comes, is saved, is loaded. -/
import Derived.Test.YtebcjaenhiiflaaGreatDoorQa
import Derived.Test.YtebcjaenhiiflaaGreatDoorKq
namespace Go.Proofs.YtebcjaenhiiflaaGreatDoor.I
open Go.RowKit Go.WideMaps Go.Maps Go.Lib

variable {w0 w w' : World} {a b x p q n : Nat} {v : Value} {L R B : List G.E} {W T : List Nat} {D : DataW Unit} {pw bw pt bt mp N : Nat}

theorem one_br : S.brR [((5 : Int), (0 : Int), (2 : Int))] ((5 : Int), (0 : Int), (2 : Int)) := by
  refine ⟨by simp, fun h => ?_⟩
  have := S.Conn.least (P := fun u v => u = v) h (fun _ => rfl) (fun _ _ h => h.symm) (fun _ _ _ h k => h.trans k) (fun x y ⟨e, he, _, _⟩ => by
    have h1 := he.1
    have h2 := he.2
    simp at h1
    exact absurd h1 h2)
  simp [S.ea, S.eb] at this

theorem one_ids (s : S.St n [((5 : Int), (0 : Int), (2 : Int))] W T B) : S.ups [((5 : Int), (0 : Int), (2 : Int))] B = [5] := by
  have hB : ((5 : Int), (0 : Int), (2 : Int)) ∈ B := (s.hB _).2 one_br
  unfold S.ups S.idsOf
  simp [hB]

theorem same_zs {a1 a2 : Option Addr} {K : List Int} (c1 c2 : Nat) (h1 : Zs w a1 K) (h2 : Zs w a2 K) (hK : K.length ≤ 1000) :
    Calls Tryz.prog 32 #[.slice a1 K.length c1, .slice a2 K.length c2] w fun e w' => e = .returned (.bool true) ∧ ∃ n, w' = w.drewN n :=
  S.same_ints a1 a2 K.length c1 c2 (fun j => K.getD j 0) w (fun h => by
    obtain ⟨g1, e1, f1⟩ := h1 h
    obtain ⟨g2, e2, f2⟩ := h2 h
    exact ⟨g1, g2, e1, e2, f1, f2⟩) (by omega)

theorem below_drewN (w : World) (n : Nat) : Below w.heap.size w (w.drewN n) := ⟨rfl, rfl, rfl, Nat.le_refl _, fun _ _ => rfl⟩

/-- The text that is saved of one edge. -/
theorem one_text : (⟨(svI 3 [((5 : Int), (0 : Int), (2 : Int))]).toArray⟩ : ByteArray) = ⟨#[51, 10, 53, 32, 48, 32, 50, 10]⟩ := by kernel_rfl

theorem one_ok : Ok 3 [((5 : Int), (0 : Int), (2 : Int))] :=
  ⟨by omega, by unfold G.Up; simp, by simp, fun e he => by simp at he; subst he; simp⟩

theorem one_tells : Tells (ByteArray.mk #[51, 10, 53, 32, 48, 32, 50, 10]).data.toList 3 [((5 : Int), (0 : Int), (2 : Int))] := by
  refine ⟨one_ok, ?_⟩
  rw [svE_ok one_ok]
  kernel_rfl

theorem cell_new (w : World) (k : Int) : (w.alloc (.cells #[.int .i64 k] 3)).cell? ⟨w.heap.size, 0, none⟩ = some (.int .i64 k) := by
  have h := heap_alloc_new w (.cells #[.int .i64 k] 3)
  simp only [World.cell?, h]
  rfl

set_option maxHeartbeats 2000000 in
set_option maxRecDepth 100000 in
theorem kept_any (w : World) (hv : Vars w) : Calls Tryz.prog 30 #[] w fun e w' => e = .returned (.bool true) ∧ Below w.heap.size w w' := by
  have HV : Hid (Vars w) := hv
  have HN : Hid (Calls Tryz.prog 17 #[.int .i64 3] w (InewPost w 3)) := inew_in 3 w (by omega)
  clear hv
  go_enter Tryz.func30, Tryz.ntmps30
  go_wp2_with fail
  refine Calls.mono HN.out ?_
  rintro e w1 ⟨x, p, q, v, B, W, T, D, pw, bw, pt, bt, mp, N, rfl, hat⟩
  have HA : Hid (Calls Tryz.prog 21 #[.pointer (some ⟨x, 0, none⟩), .int .i64 5, .int .i64 2, .int .i64 0] w1 (IaddPost w w1 x p q 3 v [] [] pw bw pt bt mp 5 2 0)) := iadd_ok 5 2 0 w1 hat ⟨by omega, by omega, by omega, by omega, by simp, by simp⟩
  clear hat HN
  go_wp2_with fail
  refine Calls.mono HA.out ?_
  rintro e w2 ⟨ok, v', B', W', T', D', N', rfl, hat, hok, _, _⟩
  have hL : G.putE [] (edg 5 2 0) = [((5 : Int), (0 : Int), (2 : Int))] := rfl
  have hR : ([] : List G.E) ++ [edg 5 2 0] = [((5 : Int), (0 : Int), (2 : Int))] := rfl
  rw [hL, hR] at hat
  have hok' : ok = true := hok.2 ((hat.rn.now.st.hB _).2 one_br)
  subst hok'
  have HB2 : Hid (Below w.heap.size w w2) := hat.rn.below
  have HS : Hid _ := isaved (hat.iv (Nat.le_refl _) (Nat.le_refl _)) (HV.out.below hat.rn.below)
  rw [one_text] at HS
  clear hat hok HA hL hR
  go_wp2_with (go_at_call 16; refine Calls.mono HS.out ?_; rintro e w3 ⟨rfl, hb3⟩; have HB3 : Hid (Below w2.heap.size w2 w3) := hb3; clear hb3 HS)
  have HL : Hid (Calls Tryz.prog 11 _ w3 _) := load_any ⟨#[51, 10, 53, 32, 48, 32, 50, 10]⟩ w3 (by decide) ((HV.out.below HB2.out).below HB3.out)
  have HB03 : Hid (Below w.heap.size w w3) := HB2.out.trans (HB3.out.mono HB2.out.size)
  refine Calls.mono HL.out ?_
  rintro e w4 (⟨n', L', ht', y, p', q', v4, R', B4, W4, T4, D4, pw4, bw4, pt4, bt4, mp4, N4, rfl, hat⟩ | ⟨hno, rfl, hb⟩)
  · obtain ⟨rfl, rfl⟩ := svE_inj ht'.1 one_ok (ht'.2.symm.trans one_tells.2)
    have hp : R' = [((5 : Int), (0 : Int), (2 : Int))] := List.perm_singleton.1 hat.perm
    have hz : brz 3 [((5 : Int), (0 : Int), (2 : Int))] = [5] := by
      have hs := hat.rn.now.st
      rw [← brz_eq hs hat.perm one_ok.unl]
      rw [hp] at hs ⊢
      exact one_ids hs
    have HB : Hid _ := ibridges (hat.iv (Nat.le_refl _) (Nat.le_refl _))
    rw [hz] at HB
    have HB04 : Hid (Below w.heap.size w w4) := HB03.out.trans (hat.rn.below.mono HB03.out.size)
    clear hat ht' hz hp HL
    go_wp2_with (first
      | (go_at_call 33; refine Calls.mono HB.out ?_; rintro e w5 ⟨a5, c5, rfl, hz5, hb5⟩; have HZ5 : Hid (Zs w5 a5 [5]) := hz5; have HB5 : Hid (Below w4.heap.size w4 w5) := hb5; clear hz5 hb5 HB)
      | (go_at_call 32; refine Calls.mono (same_zs (K := [5]) _ _ (HZ5.out.below ((Below.refl _ w5).alloc (Nat.le_refl _) (.cells #[.int .i64 5] 3))) (fun _ => ⟨w5.heap.size, rfl, fun j hj => by
          obtain rfl : j = 0 := by simp at hj; omega
          exact cell_new w5 5⟩) (by simp)) ?_; rintro e w6 ⟨rfl, n6, hw6⟩; have HB6 : Hid (Below w5.heap.size w5 w6) := by { rw [hw6]; exact ((Below.refl _ w5).alloc (Nat.le_refl _) _).trans ((below_drewN _ _).mono (by simp)) }; clear hw6))
    go_ret
    exact ⟨rfl, HB04.out.trans ((HB5.out.trans (HB6.out.mono HB5.out.size)).mono HB04.out.size)⟩
  · exact absurd one_tells (hno 3 _)

end Go.Proofs.YtebcjaenhiiflaaGreatDoor.I
