/- pick; a graph by numbers; what is known of a graph. -/
import Derived.Test.YtpkdpddillebfabBh
import Derived.Test.YtpkdpddillebfabBg
import Derived.Test.YtpkdpddillebfabGX
namespace Go.Proofs.Ytpkdpddillebfab.S
open Go.RowKit Go.WideMaps Go.Maps

/-- Which of n numbers one is picked as. -/
def pk (a : Int) (n : Nat) : Nat := ((IntKind.u64.wrap a).toNat) % n

theorem pk_lt (a : Int) (n : Nat) (h : 0 < n) : pk a n < n := Nat.mod_lt _ h

theorem pk_eq (a : Int) (n : Nat) (h : 0 < n) (h' : n ≤ 1000000) : wrap64 ((IntKind.u64.wrap a).tmod (n : Int)) = (pk a n : Int) := by
  have h0 := wrap_u64_nonneg a
  unfold pk
  generalize IntKind.u64.wrap a = u at *
  obtain ⟨u, rfl⟩ := Int.eq_ofNat_of_zero_le h0
  have e : (u : Int).tmod (n : Int) = ((u % n : Nat) : Int) := by
    rw [Int.tmod_eq_emod_of_nonneg (by omega)]; omega
  rw [e, Int.toNat_natCast]
  have := Nat.mod_lt u h
  exact IntWalk.wrap64_in _ (by omega)

set_option maxHeartbeats 400000 in
theorem pick_any (a : Int) (n : Nat) (w : World) (hn : 0 < n) (hn' : n ≤ 1000000) :
    Calls Try.prog 7 #[.int .i64 a, .int .i64 (n : Int)] w fun e w' => e = .returned (.int .i64 (pk a n : Int)) ∧ w' = w := by
  have HP : Hid (wrap64 ((IntKind.u64.wrap a).tmod (n : Int)) = (pk a n : Int)) := pk_eq a n hn hn'
  go_enter Try.func7, Try.ntmps7
  go_wp2
  go_ret
  exact ⟨by rw [← HP.out]; rfl, rfl⟩

/-- A list of pairs that came in. -/
structure PairsAt (w : World) (bl off m : Nat) (ps : Nat → Int × Int) : Prop where
  a : ∀ i, i < m → w.cell? ⟨bl, off + i * 2, none⟩ = some (.int .i64 (ps i).1)
  b : ∀ i, i < m → w.cell? ⟨bl, off + i * 2 + 1, none⟩ = some (.int .i64 (ps i).2)

/-- The edges of a graph of n nodes, their numbers below i. -/
structure Ed (n i : Nat) (L : List (Int × Int × Int)) : Prop where
  up : G.Up L
  ids : ∀ e ∈ L, 0 ≤ e.1 ∧ e.1 < (i : Int)
  ends : ∀ e ∈ L, ∃ x y : Nat, x < y ∧ y < n ∧ e = (e.1, (x : Int), (y : Int))
  len : L.length ≤ i

theorem Ed.put {n i : Nat} {L : List (Int × Int × Int)} (h : Ed n i L) {a b : Nat} (ha : a < n) (hb : b < n) (hne : a ≠ b) : Ed n (i + 1) (G.putE L ((i : Int), ((min a b : Nat) : Int), ((max a b : Nat) : Int))) := by
  have hm : ∀ e, e ∈ G.putE L ((i : Int), ((min a b : Nat) : Int), ((max a b : Nat) : Int)) ↔ e = ((i : Int), ((min a b : Nat) : Int), ((max a b : Nat) : Int)) ∨ e ∈ L := fun e => by
    rw [(G.putE_perm L _).mem_iff, List.mem_cons]
  refine ⟨G.putE_up L _ h.up (fun x hx => by have := (h.ids x hx).2; simp only; omega), fun e he => ?_, fun e he => ?_, by rw [G.putE_length]; have := h.len; omega⟩
  · rcases (hm e).1 he with rfl | he
    · simp only; omega
    · have := h.ids e he; omega
  · rcases (hm e).1 he with rfl | he
    · exact ⟨min a b, max a b, by omega, by omega, rfl⟩
    · exact h.ends e he

theorem Ed.next {n i : Nat} {L : List (Int × Int × Int)} (h : Ed n i L) : Ed n (i + 1) L :=
  ⟨h.up, fun e he => by have := h.ids e he; omega, h.ends, by have := h.len; omega⟩

theorem wf_small {x : Int} (h0 : 0 ≤ x) (h1 : x ≤ 1000000) : (Lit.int .i64 x).wf = true := WalkArith.wf_i64 (by omega)

theorem below_kept' {w0 w w' : World} {q : Nat} {o : Option Nat} (h : Below w0.heap.size w0 w) (k : G.Kept q o w w') (h1 : w0.heap.size ≤ q) (h2 : ∀ j, o = some j → w0.heap.size ≤ j) : Below w0.heap.size w0 w' :=
  ⟨k.os.trans h.os, k.tape.trans h.tape, k.output.trans h.output, Nat.le_trans h.size k.size, fun j hj => (k.block j (Nat.lt_of_lt_of_le hj h.size) (by omega) (fun e => by have := h2 j e.symm; omega)).trans (h.block j hj)⟩

/-- What made hands back. -/
def MadePost (w : World) (e : Ending) (w' : World) : Prop :=
  ∃ (p : Nat) (v : Value) (n : Nat) (L : List (Int × Int × Int)), e = .returned (.pointer (some ⟨p, 0, none⟩)) ∧ G.GAt w' w.heap.size 58 36 p (n : Int) v L ∧ 0 < n ∧ n ≤ 14 ∧ Ed n 50 L ∧ Below w.heap.size w w'

theorem Ed.mono {n i j : Nat} {L : List (Int × Int × Int)} (h : Ed n i L) (hij : i ≤ j) : Ed n j L :=
  ⟨h.up, fun e he => by have := h.ids e he; omega, h.ends, by have := h.len; omega⟩

set_option maxHeartbeats 4000000 in
set_option maxRecDepth 100000 in
theorem made_any (n0 : Int) (a : Option Addr) (bl off m cap : Nat) (ps : Nat → Int × Int) (w : World) (hm : m ≤ 60) (ha : 0 < m → a = some ⟨bl, off, none⟩) (hp : PairsAt w bl off m ps) (hbl : 0 < m → bl < w.heap.size) :
    Calls Try.prog 6 #[.int .i64 n0, .slice a m cap] w (MadePost w) := by
  have HA : Hid (0 < m → a = some ⟨bl, off, none⟩) := ha
  have HP : Hid (PairsAt w bl off m ps) := hp
  have HBL : Hid (0 < m → bl < w.heap.size) := hbl
  clear ha hp hbl
  go_enter Try.func6, Try.ntmps6
  go_wp2_with fail
  refine (pick_any n0 13 _ (by omega) (by omega)).mono ?_
  rintro e w1 ⟨rfl, hw1⟩
  subst hw1
  have hn1 := pk_lt n0 13 (by omega)
  generalize pk n0 13 = n1 at *
  go_wp2_with fail
  rw [show (2 + (n1 : Int)) = ((n1 + 2 : Nat) : Int) from by omega]
  obtain ⟨n, hn⟩ : ∃ n, n = n1 + 2 := ⟨_, rfl⟩
  rw [← hn]
  have hn14 : n ≤ 14 := by omega
  have hn0 : 0 < n := by omega
  clear hn hn1
  refine (G.new_in (n : Int) w1 (by omega) (by omega)).mono ?_
  rintro e w2 ⟨rfl, rfl⟩
  have HS : Hid (G.GAt (w1.alloc (.cells #[.int .i64 (n : Int), .slice none 0 0] 58)) w1.heap.size 58 36 w1.heap.size (n : Int) (.slice none 0 0) [] ∧ Below w1.heap.size w1 (w1.alloc (.cells #[.int .i64 (n : Int), .slice none 0 0] 58))) :=
    ⟨⟨heap_alloc_new w1 _, World.ownsRow_nil _ _ _ _, fun e => by cases e⟩, (Below.refl _ _).alloc (Nat.le_refl _) _⟩
  go_wp2_with fail
  go_loopw [7] (fun s7 wq => ∃ (i : Nat) (v : Value) (L : List (Int × Int × Int)), i ≤ m ∧ i ≤ 50 ∧ s7 = .int .i64 i ∧ G.GAt wq w1.heap.size 58 36 w1.heap.size (n : Int) v L ∧ Ed n i L ∧ Below w1.heap.size w1 wq) (fun s7 _ => m - (intOf s7).toNat)
  case atStart => exact ⟨0, _, [], Nat.zero_le _, by omega, rfl, HS.out.1, ⟨List.Pairwise.nil, by simp, by simp, by simp⟩, HS.out.2⟩
  case round =>
    clear HS
    obtain ⟨i, v, L, hi, hi50, rfl, hg, hed, hb⟩ := hrel
    have HG : Hid (G.GAt wr w1.heap.size 58 36 w1.heap.size (n : Int) v L ∧ Ed n i L ∧ Below w1.heap.size w1 wr) := ⟨hg, hed, hb⟩
    clear hg hed hb
    by_cases hlt : i < m ∧ i < 50
    · obtain ⟨hlt1, hlt2⟩ := hlt
      obtain rfl := HA.out (by omega)
      have hbl := HBL.out (by omega)
      have c1 : wr.cell? ⟨bl, off + i * 2, none⟩ = some (.int .i64 (ps i).1) := (HG.out.2.2.cell (p := ⟨bl, off + i * 2, none⟩) hbl).trans (HP.out.a i hlt1)
      have c2 : wr.cell? ⟨bl, off + i * 2 + 1, none⟩ = some (.int .i64 (ps i).2) := (HG.out.2.2.cell (p := ⟨bl, off + i * 2 + 1, none⟩) hbl).trans (HP.out.b i hlt1)
      generalize (ps i).1 = x at *
      generalize (ps i).2 = y at *
      have hA := pk_lt x n hn0
      have hE := pk_lt y n hn0
      obtain ⟨A, hAe⟩ : ∃ A, pk x n = A := ⟨_, rfl⟩
      obtain ⟨E, hEe⟩ : ∃ E, pk y n = E := ⟨_, rfl⟩
      have HXA : Hid (pk x n = A) := hAe
      have HYE : Hid (pk y n = E) := hEe
      rw [hAe] at hA
      rw [hEe] at hE
      clear hAe hEe hbl
      go_upto_region 8 with fail
      go_cut [8, 9] from 20 to 54 (fun s8 s9 wx => s8 = .int .i64 (A : Int) ∧ s9 = .int .i64 (E : Int) ∧ Below wr.heap.size wr wx)
      case first =>
        go_region_held (fun w' => w'.cell? ⟨bl, off + i * 2, none⟩ = some (.int .i64 x) ∧ w'.cell? ⟨bl, off + i * 2 + 1, none⟩ = some (.int .i64 y)) (go_keep)
          (first | (go_at_call_of 7 x; refine (pick_any x n _ (by omega) (by omega)).mono ?_; rintro e w' ⟨rfl, rfl⟩; rw [HXA.out]) | (go_at_call_of 7 y; refine (pick_any y n _ (by omega) (by omega)).mono ?_; rintro e w' ⟨rfl, rfl⟩; rw [HYE.out]))
        all_goals
          go_wp2_with fail
          go_meet
          case rel => exact ⟨rfl, rfl, (Below.refl _ _).drew⟩
      case rest =>
        obtain ⟨rfl, rfl, hbc⟩ := hcut
        have HGC : Hid (G.GAt wc w1.heap.size 58 36 w1.heap.size (n : Int) v L ∧ Ed n i L ∧ Below w1.heap.size w1 wc) := ⟨HG.out.1.below hbc, HG.out.2.1, HG.out.2.2.trans (hbc.mono HG.out.2.2.size)⟩
        clear hbc HG c1 c2
        by_cases hAE : A = E
        · as_aux_lemma =>
          subst hAE
          go_wp2_with fail
          go_roundw
          case rel => exact ⟨i + 1, v, L, by omega, by omega, by go_num, HGC.out.1, HGC.out.2.1.next, HGC.out.2.2⟩
          case measure => simp [intOf]; omega
        · as_aux_lemma =>
          have hq : ((A : Int) == (E : Int)) = false := beq_eq_false_iff_ne.2 (by omega)
          have hlen := HGC.out.2.1.len
          go_wp2_with fail
          refine (G.add_ok (i : Int) (A : Int) (E : Int) (n : Int) ((min A E : Nat) : Int) ((max A E : Nat) : Int) w1.heap.size w1.heap.size v L _ wc HGC.out.1 HGC.out.2.2.size HGC.out.2.1.up (by omega) ⟨⟨by omega, by omega⟩, ⟨by omega, by omega⟩, ⟨by omega, by omega⟩⟩ (by omega) (G.seen_none (fun x hx => by have := (HGC.out.2.1.ids x hx).2; omega)) (by omega) (by omega) rfl).mono ?_
          rintro e w3 ⟨rfl, v', hg3, hk3, _⟩
          have HF : Hid (G.GAt w3 w1.heap.size 58 36 w1.heap.size (n : Int) v' (G.putE L ((i : Int), ((min A E : Nat) : Int), ((max A E : Nat) : Int))) ∧ Ed n (i + 1) (G.putE L ((i : Int), ((min A E : Nat) : Int), ((max A E : Nat) : Int))) ∧ Below w1.heap.size w1 w3) := ⟨hg3, HGC.out.2.1.put hA hE hAE, below_kept' HGC.out.2.2 hk3 (Nat.le_refl _) (fun j hj => (HGC.out.1.lt hj).1)⟩
          clear hg3 hk3 HGC
          go_wp2_with fail
          go_roundw
          case rel => exact ⟨i + 1, v', _, by omega, by omega, by go_num, HF.out.1, HF.out.2.1, HF.out.2.2⟩
          case measure => simp [intOf]; omega
    · as_aux_lemma =>
      have HF : Hid (MadePost w1 (.returned (.pointer (some ⟨w1.heap.size, 0, none⟩))) wr) := ⟨_, v, n, L, rfl, HG.out.1, hn0, hn14, HG.out.2.1.mono hi50, HG.out.2.2⟩
      rcases Nat.lt_or_ge i m with h1 | h1
      · have h2 : i = 50 := by omega
        subst h2
        go_wp2_with fail
        go_ret
        exact HF.out
      · have h2 : i = m := by omega
        subst h2
        go_wp2_with fail
        go_ret
        exact HF.out

end Go.Proofs.Ytpkdpddillebfab.S
