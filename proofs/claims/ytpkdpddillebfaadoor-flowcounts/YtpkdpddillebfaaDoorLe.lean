/- Both graphs of a law, made. -/
import Derived.Test.YtpkdpddillebfaaDoorLa
namespace Go.Proofs.YtpkdpddillebfaaDoor.S

open Go.RowKit Go.WideMaps Go.Maps

theorem mk_start (n : Nat) (w : World) : Mk w ((w.alloc (.cells #[.int .i64 (n : Int), .slice none 0 0] 90)).alloc (.cells #[.int .i64 (n : Int), .slice none 0 0] 51)) w.heap.size (w.heap.size + 1) n 0 (.slice none 0 0) (.slice none 0 0) [] [] := by
  have hb1 : Below w.heap.size w (w.alloc (.cells #[.int .i64 (n : Int), .slice none 0 0] 90)) := (Below.refl _ _).alloc (Nat.le_refl _) _
  have hb2 : Below (w.alloc (.cells #[.int .i64 (n : Int), .slice none 0 0] 90)).heap.size (w.alloc (.cells #[.int .i64 (n : Int), .slice none 0 0] 90)) ((w.alloc (.cells #[.int .i64 (n : Int), .slice none 0 0] 90)).alloc (.cells #[.int .i64 (n : Int), .slice none 0 0] 51)) := (Below.refl _ _).alloc (Nat.le_refl _) _
  have hs : (w.alloc (.cells #[.int .i64 (n : Int), .slice none 0 0] 90)).heap.size = w.heap.size + 1 := by simp
  refine ⟨⟨?_, ?_, by omega, (fun e => by cases e), (fun e => by cases e), .inl rfl, Nat.le_refl _, by omega, hb1.trans (hb2.mono (by omega))⟩, G.inv_nil, by simp, by simp, by simp⟩
  · exact G.GAt.below ⟨heap_alloc_new w _, World.ownsRow_nil _ _ _ _, (fun e => by cases e)⟩ hb2
  · refine ⟨?_, World.ownsRow_nil _ _ _ _, (fun e => by cases e)⟩
    have := heap_alloc_new (w.alloc (.cells #[.int .i64 (n : Int), .slice none 0 0] 90)) (.cells #[.int .i64 (n : Int), .slice none 0 0] 51)
    rw [hs] at this; exact this

/-- What the law's own graph is where there is none. -/
theorem lmade_out (n0 : Int) (a : Option Addr) (m cap : Nat) (w : World) (h : n0 < 0 ∨ 16 < n0 ∨ 60 < m) :
    Calls Tryd.prog 31 #[.int .i64 n0, .slice a m cap] w fun e w' => e = .returned (.tuple #[.pointer none, .pointer none, .bool false]) ∧ Below w.heap.size w w' := by
  by_cases h1 : n0 < 0
  · clear h
    go_enter Tryd.func31, Tryd.ntmps31
    go_wp2_with fail
    go_ret3
    exact ⟨rfl, Below.refl _ _⟩
  by_cases h2 : 16 < n0
  · clear h
    go_enter Tryd.func31, Tryd.ntmps31
    go_wp2_with fail
    go_ret3
    exact ⟨rfl, Below.refl _ _⟩
  have h3 : (60 : Int) < (m : Int) := by omega
  clear h
  go_enter Tryd.func31, Tryd.ntmps31
  go_wp2_with fail
  go_ret3
  exact ⟨rfl, Below.refl _ _⟩

def LMade (w : World) (n m : Nat) (e : Ending) (w' : World) : Prop :=
  ∃ p q v u R L, e = .returned (.tuple #[.pointer (some ⟨p, 0, none⟩), .pointer (some ⟨q, 0, none⟩), .bool true]) ∧ Mk w w' p q n m v u R L

set_option maxHeartbeats 4000000 in
set_option maxRecDepth 100000 in
theorem lmade_in (n : Nat) (a : Option Addr) (bl off m cap : Nat) (ps : Nat → Int × Int) (w : World) (hn : n ≤ 16) (hm : m ≤ 60) (ha : 0 < m → a = some ⟨bl, off, none⟩) (hp : PairsAt w bl off m ps) (hbl : 0 < m → bl < w.heap.size) :
    Calls Tryd.prog 31 #[.int .i64 (n : Int), .slice a m cap] w (LMade w n m) := by
  have h0 : ¬ ((n : Int) < 0) := by omega
  have h16 : ¬ ((16 : Int) < (n : Int)) := by omega
  have h60 : ¬ ((60 : Int) < (m : Int)) := by omega
  have HA : Hid (0 < m → a = some ⟨bl, off, none⟩) := ha
  have HP : Hid (PairsAt w bl off m ps) := hp
  have HBL : Hid (0 < m → bl < w.heap.size) := hbl
  have HS : Hid (Mk w ((w.alloc (.cells #[.int .i64 (n : Int), .slice none 0 0] 90)).alloc (.cells #[.int .i64 (n : Int), .slice none 0 0] 51)) w.heap.size (w.heap.size + 1) n 0 (.slice none 0 0) (.slice none 0 0) [] []) := mk_start n w
  clear ha hp hbl
  go_enter Tryd.func31, Tryd.ntmps31
  go_wp2_with fail
  refine (G.new_in (n : Int) w (by omega) (by omega)).mono ?_
  rintro e w1 ⟨rfl, rfl⟩
  go_wp2_with fail
  go_loopw [10] (fun s10 wq => ∃ (i : Nat) (v u : Value) (R L : List (Int × Int × Int)), i ≤ m ∧ s10 = .int .i64 i ∧ Mk w wq w.heap.size (w.heap.size + 1) n i v u R L) (fun s10 _ => m - (intOf s10).toNat)
  case atStart => exact ⟨0, _, _, [], [], Nat.zero_le _, rfl, HS.out⟩
  case round =>
    clear HS
    obtain ⟨i, v, u, R, L, hi, rfl, hmk⟩ := hrel
    have HM : Hid (Mk w wr w.heap.size (w.heap.size + 1) n i v u R L) := hmk
    clear hmk
    by_cases hlt : i < m
    · obtain rfl := HA.out (by omega)
      have hbl := HBL.out (by omega)
      have c1 : wr.cell? ⟨bl, off + i * 2, none⟩ = some (.int .i64 (ps i).1) := (HM.out.two.below.cell (p := ⟨bl, off + i * 2, none⟩) hbl).trans (HP.out.a i hlt)
      have c2 : wr.cell? ⟨bl, off + i * 2 + 1, none⟩ = some (.int .i64 (ps i).2) := (HM.out.two.below.cell (p := ⟨bl, off + i * 2 + 1, none⟩) hbl).trans (HP.out.b i hlt)
      have HC : Hid (∀ W, Below w.heap.size w W → W.cell? ⟨bl, off + i * 2, none⟩ = some (.int .i64 (ps i).1) ∧ W.cell? ⟨bl, off + i * 2 + 1, none⟩ = some (.int .i64 (ps i).2)) := fun W hW => ⟨(hW.cell (p := ⟨bl, off + i * 2, none⟩) hbl).trans (HP.out.a i hlt), (hW.cell (p := ⟨bl, off + i * 2 + 1, none⟩) hbl).trans (HP.out.b i hlt)⟩
      have hi60 : i < 60 := by omega
      generalize (ps i).1 = x at *
      generalize (ps i).2 = y at *
      clear hbl
      go_upto_region 11 with fail
      rw [show ((i : Int) * 7 % 61) = ((i * 7 % 61 : Nat) : Int) from by omega]
      obtain ⟨id, hid⟩ : ∃ id, ((i * 7 % 61 : Nat) : Int) = id := ⟨_, rfl⟩
      have HST : Hid (∀ W, Below wr.heap.size wr W → Calls Tryd.prog 20 #[.pointer (some ⟨w.heap.size, 0, none⟩), .int .i64 id, .int .i64 x, .int .i64 y] W fun e w1 => ∃ c, e = .returned c ∧ Below w.heap.size w w1 ∧
        ∀ W, Below w1.heap.size w1 W → Calls Tryd.prog 21 #[.pointer (some ⟨w.heap.size + 1, 0, none⟩), .int .i64 id, .int .i64 x, .int .i64 y] W fun e w2 => ∃ c v' u' R' L', e = .returned (.int .i64 c) ∧ Mk w w2 w.heap.size (w.heap.size + 1) n (i + 1) v' u' R' L') := fun W hW => by
        rw [← hid]; exact mk_step x y (HM.out.below' hW) hi60 hn
      rw [hid]
      clear hid HM
      go_cut [] from 46 to 58 (fun wx => Below w.heap.size w wx ∧ ∀ W, Below wx.heap.size wx W → Calls Tryd.prog 21 #[.pointer (some ⟨w.heap.size + 1, 0, none⟩), .int .i64 id, .int .i64 x, .int .i64 y] W fun e w2 => ∃ c v' u' R' L', e = .returned (.int .i64 c) ∧ Mk w w2 w.heap.size (w.heap.size + 1) n (i + 1) v' u' R' L')
      case first =>
        go_region_with (refine Calls.mono (HST.out _ (Below.refl _ _).drew) ?_; rintro e w1 ⟨c, rfl, hbw, hcall⟩)
        all_goals
          go_wp2_with fail
          go_meet
          case rel => exact ⟨hbw, hcall⟩
      case rest =>
        obtain ⟨hbw, hcall⟩ := hcut
        obtain ⟨d1, d2⟩ := HC.out wc hbw
        have HC2 : Hid (∀ W, Below wc.heap.size wc W → Calls Tryd.prog 21 #[.pointer (some ⟨w.heap.size + 1, 0, none⟩), .int .i64 id, .int .i64 x, .int .i64 y] W fun e w2 => ∃ c v' u' R' L', e = .returned (.int .i64 c) ∧ Mk w w2 w.heap.size (w.heap.size + 1) n (i + 1) v' u' R' L') := hcall
        clear hbw hcall c1 c2 HC HST
        go_upto_region 12 with fail
        go_region_with (refine Calls.mono (HC2.out _ (Below.refl _ _).drew) ?_; rintro e w1 ⟨c, v', u', R', L', rfl, hmk⟩)
        all_goals
          have HM2 : Hid (Mk w _ w.heap.size (w.heap.size + 1) n (i + 1) v' u' R' L') := hmk
          clear hmk
          go_wp2_with fail
          go_roundw
          case rel => exact ⟨i + 1, v', u', R', L', by omega, by go_num, HM2.out⟩
          case measure => simp [intOf]; omega
    · as_aux_lemma =>
      have hie : i = m := by omega
      subst hie
      go_wp2_with fail
      go_ret3
      exact ⟨_, _, _, _, _, _, rfl, HM.out⟩

end Go.Proofs.YtpkdpddillebfaaDoor.S
