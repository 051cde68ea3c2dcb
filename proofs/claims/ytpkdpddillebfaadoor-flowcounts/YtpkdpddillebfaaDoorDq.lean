/- Package flow and the document's ways, where what is asked is wrong. -/
import Derived.Test.YtpkdpddillebfaaDoorDp
import Derived.Test.YtpkdpddillebfaaDoorDk
namespace Go.Proofs.YtpkdpddillebfaaDoor.S
open Go Go.ChangeMaps Go.MapKept Go.WideShapes
open Go.RowKit Go.WideMaps Go.Maps F

set_option maxHeartbeats 1000000 in
theorem strange_t (n B0 q b : Nat) (x : Int) (u : Value) (L : List (Int × Int × Int)) (w : World) (h : G.GAt w B0 90 59 q (n : Int) u L) (hb : w.cell? ⟨b, 0, none⟩ = some (.pointer (some ⟨q, 0, none⟩))) (hx : ¬ (0 ≤ x ∧ x ≤ (n : Int) - 1)) :
    Calls Tryd.prog 81 #[.int .i64 x, .pointer (some ⟨b, 0, none⟩)] w fun e w' => e = .returned (.bool true) ∧ w' = w := by
  have HG : Hid (G.GAt w B0 90 59 q (n : Int) u L) := h
  clear h
  by_cases h1 : x < 0
  · go_enter Tryd.func81, Tryd.ntmps81
    go_wp2_with fail
    go_ret
    exact ⟨rfl, rfl⟩
  · have h2 : (n : Int) ≤ x := by omega
    go_enter Tryd.func81, Tryd.ntmps81
    go_wp2_with fail
    refine (G.nodes_any (n : Int) B0 q u L w HG.out).mono ?_
    rintro e w1 ⟨rfl, hw1⟩
    subst hw1
    go_wp2_with fail
    go_ret
    have h4 : decide ((n : Int) ≤ x) = true := decide_eq_true h2
    first | exact ⟨by rw [h4], rfl⟩ | exact ⟨rfl, rfl⟩

theorem strange_f (n B0 q b : Nat) (x : Int) (u : Value) (L : List (Int × Int × Int)) (w : World) (h : G.GAt w B0 90 59 q (n : Int) u L) (hb : w.cell? ⟨b, 0, none⟩ = some (.pointer (some ⟨q, 0, none⟩))) (hx : 0 ≤ x ∧ x ≤ (n : Int) - 1) :
    Calls Tryd.prog 81 #[.int .i64 x, .pointer (some ⟨b, 0, none⟩)] w fun e w' => e = .returned (.bool false) ∧ w' = w := by
  obtain ⟨y, rfl⟩ : ∃ y : Nat, x = (y : Int) := ⟨x.toNat, by omega⟩
  exact strange_any n B0 q b y u L w h hb (by omega)

/-- What is wrong with what is asked. -/
def AskNo (n : Nat) (a b most c : Int) : Prop := (¬ AskOk n a b most ∧ c = 2) ∨ (AskOk n a b most ∧ a = b ∧ c = 1)

set_option maxHeartbeats 2000000 in
theorem check_err (n B0 q : Nat) (a b m c : Int) (u : Value) (L : List (Int × Int × Int)) (w : World) (h : G.GAt w B0 90 59 q (n : Int) u L) (hno : AskNo n a b m c) :
    Calls Tryd.prog 59 #[.pointer (some ⟨q, 0, none⟩), .int .i64 a, .int .i64 b, .int .i64 m] w fun e w' => e = .returned (.iface 29 (.int .i64 c)) ∧ Below w.heap.size w w' := by
  have HG1 : Hid (G.GAt (w.alloc (.cells #[.pointer (some ⟨q, 0, none⟩)] 45)) B0 90 59 q (n : Int) u L) := h.below ((Below.refl _ _).alloc (Nat.le_refl _) _)
  have hc : (w.alloc (.cells #[.pointer (some ⟨q, 0, none⟩)] 45)).cell? ⟨w.heap.size, 0, none⟩ = some (.pointer (some ⟨q, 0, none⟩)) := by simp
  have HB : Hid (Below w.heap.size w (w.alloc (.cells #[.pointer (some ⟨q, 0, none⟩)] 45))) := (Below.refl _ _).alloc (Nat.le_refl _) _
  have HNO : Hid (AskNo n a b m c) := hno
  clear h hno
  go_enter Tryd.func59, Tryd.ntmps59
  go_wp2_with fail
  by_cases h1 : 0 ≤ a ∧ a ≤ (n : Int) - 1
  · refine (strange_f n B0 q w.heap.size a u L _ HG1.out hc h1).mono ?_
    rintro e w1 ⟨rfl, hw1⟩
    rw [hw1]
    clear hw1
    go_wp2_with fail
    by_cases h2 : 0 ≤ b ∧ b ≤ (n : Int) - 1
    · refine (strange_f n B0 q w.heap.size b u L _ HG1.out hc h2).mono ?_
      rintro e w2 ⟨rfl, hw2⟩
      rw [hw2]
      clear hw2
      by_cases h3 : m < 0
      · have hce : c = 2 := by
          rcases HNO.out with ⟨_, k⟩ | ⟨k, _⟩
          · exact k
          · obtain ⟨_, _, k3, _⟩ := k; omega
        subst hce
        clear HG1 hc
        go_wp2_with fail
        go_ret
        exact ⟨rfl, HB.out⟩
      · by_cases h4 : m > 120
        · have hce : c = 2 := by
            rcases HNO.out with ⟨_, k⟩ | ⟨k, _⟩
            · exact k
            · obtain ⟨_, _, _, k3⟩ := k; omega
          subst hce
          clear HG1 hc
          go_wp2_with fail
          go_ret
          exact ⟨rfl, HB.out⟩
        · obtain ⟨hab, hce⟩ : a = b ∧ c = 1 := by
            rcases HNO.out with ⟨k, _⟩ | ⟨_, k⟩
            · exact absurd ⟨h1, h2, by omega, by omega⟩ k
            · exact k
          subst hab
          subst hce
          clear HG1 hc
          go_wp2_with fail
          go_ret
          exact ⟨rfl, HB.out⟩
    · refine (strange_t n B0 q w.heap.size b u L _ HG1.out hc h2).mono ?_
      rintro e w2 ⟨rfl, hw2⟩
      rw [hw2]
      have hce : c = 2 := by
        rcases HNO.out with ⟨_, k⟩ | ⟨k, _⟩
        · exact k
        · exact absurd k.2.1 h2
      subst hce
      clear HG1 hc hw2
      go_wp2_with fail
      go_ret
      exact ⟨rfl, HB.out⟩
  · refine (strange_t n B0 q w.heap.size a u L _ HG1.out hc h1).mono ?_
    rintro e w1 ⟨rfl, hw1⟩
    rw [hw1]
    have hce : c = 2 := by
      rcases HNO.out with ⟨_, k⟩ | ⟨k, _⟩
      · exact k
      · exact absurd k.1 h1
    subst hce
    clear HG1 hc hw1
    go_wp2_with fail
    go_ret
    exact ⟨rfl, HB.out⟩

set_option maxHeartbeats 1000000 in
theorem flowEdges_err (n B0 q : Nat) (a b m c : Int) (u : Value) (L : List (Int × Int × Int)) (w : World) (h : G.GAt w B0 90 59 q (n : Int) u L) (hno : AskNo n a b m c) :
    Calls Tryd.prog 34 #[.pointer (some ⟨q, 0, none⟩), .int .i64 a, .int .i64 b, .int .i64 m] w fun e w' => e = .returned (.tuple #[.int .i64 0, .iface 29 (.int .i64 c)]) ∧ Below w.heap.size w w' := by
  have HC : Hid _ := check_err n B0 q a b m c u L w h hno
  clear h hno
  go_enter Tryd.func34, Tryd.ntmps34
  go_wp2_with fail
  refine Calls.mono HC.out ?_
  rintro e w1 ⟨rfl, hb1⟩
  have HB : Hid (Below w.heap.size w w1) := hb1
  clear hb1 HC
  go_wp2_with fail
  go_ret2
  exact ⟨rfl, HB.out⟩

set_option maxHeartbeats 1000000 in
theorem flowNodes_err (n B0 q : Nat) (a b m c : Int) (u : Value) (L : List (Int × Int × Int)) (w : World) (h : G.GAt w B0 90 59 q (n : Int) u L) (hno : AskNo n a b m c) :
    Calls Tryd.prog 35 #[.pointer (some ⟨q, 0, none⟩), .int .i64 a, .int .i64 b, .int .i64 m] w fun e w' => e = .returned (.tuple #[.int .i64 0, .iface 29 (.int .i64 c)]) ∧ Below w.heap.size w w' := by
  have HC : Hid _ := check_err n B0 q a b m c u L w h hno
  clear h hno
  go_enter Tryd.func35, Tryd.ntmps35
  go_wp2_with fail
  refine Calls.mono HC.out ?_
  rintro e w1 ⟨rfl, hb1⟩
  have HB : Hid (Below w.heap.size w w1) := hb1
  clear hb1 HC
  go_wp2_with fail
  go_ret2
  exact ⟨rfl, HB.out⟩

set_option maxHeartbeats 1000000 in
theorem ways_err (n B0 q : Nat) (a b m c : Int) (u : Value) (L : List (Int × Int × Int)) (w : World) (h : G.GAt w B0 90 59 q (n : Int) u L) (hno : AskNo n a b m c) :
    Calls Tryd.prog 36 #[.pointer (some ⟨q, 0, none⟩), .int .i64 a, .int .i64 b, .int .i64 m] w fun e w' => e = .returned (.tuple #[.slice none 0 0, .iface 29 (.int .i64 c)]) ∧ Below w.heap.size w w' := by
  have HC : Hid _ := check_err n B0 q a b m c u L w h hno
  clear h hno
  go_enter Tryd.func36, Tryd.ntmps36
  go_wp2_with fail
  refine Calls.mono HC.out ?_
  rintro e w1 ⟨rfl, hb1⟩
  have HB : Hid (Below w.heap.size w w1) := hb1
  clear hb1 HC
  go_wp2_with fail
  go_ret2
  exact ⟨rfl, HB.out⟩

theorem ask_err (n B q : Nat) (u : Value) (R : List Stp) (a b m c : Int) (w : World) (h : G.GAt w B 51 59 q (n : Int) u R) (hn : n ≤ 100) (hno : AskNo n a b m c) :
    Calls Tryd.prog 56 #[.pointer (some ⟨q, 0, none⟩), .int .i64 a, .int .i64 b, .int .i64 m] w fun e w' => e = .returned (.int .i64 c) ∧ w' = w := by
  rcases hno with ⟨k, rfl⟩ | ⟨k, hab, rfl⟩
  · exact ask_no n B q u R a b m w h hn k
  · exact ask_ok n B q u R a b m w h hn k 1 (.inl ⟨hab, rfl⟩)

theorem AskNo.ne {n : Nat} {a b m c : Int} (h : AskNo n a b m c) : c ≠ 0 := by
  rcases h with ⟨_, rfl⟩ | ⟨_, _, rfl⟩ <;> omega

set_option maxHeartbeats 1000000 in
theorem byE_err (n B q : Nat) (u : Value) (R : List Stp) (a b m c : Int) (w : World) (h : G.GAt w B 51 59 q (n : Int) u R) (hn : n ≤ 100) (hno : AskNo n a b m c) :
    Calls Tryd.prog 32 #[.pointer (some ⟨q, 0, none⟩), .int .i64 a, .int .i64 b, .int .i64 m] w fun e w' => e = .returned (.tuple #[.int .i64 0, .int .i64 c]) ∧ w' = w := by
  have HC : Hid _ := ask_err n B q u R a b m c w h hn hno
  have hne : (c == 0) = false := beq_eq_false_iff_ne.2 hno.ne
  clear h hno
  go_enter Tryd.func32, Tryd.ntmps32
  go_wp2_with fail
  refine Calls.mono HC.out ?_
  rintro e w1 ⟨rfl, hw1⟩
  subst hw1
  clear HC
  go_wp2_with fail
  go_ret2
  exact ⟨rfl, rfl⟩

set_option maxHeartbeats 1000000 in
theorem byN_err (n B q : Nat) (u : Value) (R : List Stp) (a b m c : Int) (w : World) (h : G.GAt w B 51 59 q (n : Int) u R) (hn : n ≤ 100) (hno : AskNo n a b m c) :
    Calls Tryd.prog 33 #[.pointer (some ⟨q, 0, none⟩), .int .i64 a, .int .i64 b, .int .i64 m] w fun e w' => e = .returned (.tuple #[.int .i64 0, .int .i64 c]) ∧ w' = w := by
  have HC : Hid _ := ask_err n B q u R a b m c w h hn hno
  have hne : (c == 0) = false := beq_eq_false_iff_ne.2 hno.ne
  clear h hno
  go_enter Tryd.func33, Tryd.ntmps33
  go_wp2_with fail
  refine Calls.mono HC.out ?_
  rintro e w1 ⟨rfl, hw1⟩
  subst hw1
  clear HC
  go_wp2_with fail
  go_ret2
  exact ⟨rfl, rfl⟩

end Go.Proofs.YtpkdpddillebfaaDoor.S
