/- FlowHolds: sets as numbers, rows of numbers, who is together. -/
import Derived.Test.YtpkdpddillebfabFu
import Derived.Test.YtpkdpddillebfabFs
import Derived.Test.YtpkdpddillebfabSp
namespace Go.Proofs.Ytpkdpddillebfab.S
open Go Go.ChangeMaps Go.MapKept Go.WideShapes
open Go.RowKit Go.WideMaps Go.Maps F

theorem and_i64 (a b : Nat) (ha : a < 9223372036854775808) (hb : b < 9223372036854775808) : bits .and .i64 (a : Int) (b : Int) = ((a &&& b : Nat) : Int) := by
  have hx : a &&& b < 2 ^ 63 := Nat.and_lt_two_pow _ (by omega)
  have h1 : (BitVec.ofInt 64 (a : Int)).toNat = a := by
    rw [BitVec.ofInt_natCast, BitVec.toNat_ofNat]; exact Nat.mod_eq_of_lt (by omega)
  have h2 : (BitVec.ofInt 64 (b : Int)).toNat = b := by
    rw [BitVec.ofInt_natCast, BitVec.toNat_ofNat]; exact Nat.mod_eq_of_lt (by omega)
  show IntKind.i64.wrap ((BitVec.ofInt 64 (a : Int) &&& BitVec.ofInt 64 (b : Int)).toNat : Int) = _
  rw [BitVec.toNat_and, h1, h2, IntKind.wrap_i64]
  omega

/-- 's>>i&1'. -/
theorem bit_of (s i : Nat) (hs : s < 9223372036854775808) : bits .and .i64 ((s : Int) / 2 ^ i) 1 = (((s.testBit i).toNat : Nat) : Int) := by
  have h1 : (s : Int) / 2 ^ i = ((s / 2 ^ i : Nat) : Int) := by simp
  rw [h1]
  have h2 := and_i64 (s / 2 ^ i) 1 (Nat.lt_of_le_of_lt (Nat.div_le_self _ _) hs) (by omega)
  rw [show (1 : Int) = ((1 : Nat) : Int) from rfl, h2, Nat.and_one_is_mod, Nat.testBit_eq_decide_div_mod_eq]
  have : s / 2 ^ i % 2 < 2 := Nat.mod_lt _ (by omega)
  congr 1
  by_cases h : s / 2 ^ i % 2 = 1
  · rw [decide_eq_true h, h]; rfl
  · rw [decide_eq_false h]
    show s / 2 ^ i % 2 = 0
    omega

/-- A number with just these bits. -/
theorem mask (p : Nat → Bool) : ∀ m : Nat, ∃ s, s < 2 ^ m ∧ ∀ i, i < m → s.testBit i = p i
  | 0 => ⟨0, by simp, fun i hi => by omega⟩
  | m + 1 => by
    obtain ⟨s, h1, h2⟩ := mask p m
    refine ⟨s + 2 ^ m * (p m).toNat, ?_, fun i hi => ?_⟩
    · have : (p m).toNat ≤ 1 := by cases p m <;> decide
      have : 2 ^ m * (p m).toNat ≤ 2 ^ m * 1 := Nat.mul_le_mul_left _ this
      rw [Nat.pow_succ]
      omega
    · by_cases e : i = m
      · subst e
        rw [Nat.add_comm, Nat.testBit_two_pow_mul_add _ h1, if_neg (by omega)]
        cases p i <;> simp
      · rw [Nat.add_comm, Nat.testBit_two_pow_mul_add _ h1, if_pos (by omega)]
        exact h2 i (by omega)

/-- A row of numbers. -/
def OwnsI (w : World) (B : Nat) (v : Value) (L : List Int) : Prop := w.ownsRow B 3 1 v L.length (L.map (Value.int .i64))

theorem OwnsI.below {w w' : World} {B : Nat} {v : Value} {L : List Int} (h : OwnsI w B v L) (hb : Below w.heap.size w w') : OwnsI w' B v L := World.ownsRow.kept h (grown_below hb) (Classical.em _)

theorem OwnsI.slice {w : World} {B : Nat} {v : Value} {L : List Int} (h : OwnsI w B v L) : ∃ a c, v = .slice a L.length c := by
  rcases h.2 with ⟨rfl, h0⟩ | ⟨g, cap, _, rfl, _⟩
  · exact ⟨none, 0, by rw [h0]⟩
  · exact ⟨_, _, rfl⟩

theorem OwnsI.ints {w : World} {B : Nat} {a : Option Addr} {m c : Nat} {L : List Int} (h : OwnsI w B (.slice a m c) L) : G.Ints w a L.length (fun t => L.getD t 0) := by
  refine ⟨fun h0 => ?_⟩
  rcases h.2 with ⟨_, h1⟩ | ⟨g, cap, cur, he, _⟩
  · omega
  · injection he with e1 _ _
    refine ⟨g, 0, e1, fun t ht => ?_⟩
    have := World.ownsRow.cells h (g := g) (by rw [e1]; rfl) t (.int .i64 (L.getD t 0)) (by simp [ht])
    rw [G.addr0_add] at this
    simpa using this

theorem info3v : ∃ i, Try.prog.info? 3 = some i ∧ i.size = 1 ∧ i.bytes = 8 ∧ i.zero = some (.int .i64 0) :=
  ⟨(Try.prog.info? 3).get (by kernel_rfl), by kernel_rfl, by kernel_rfl, by kernel_rfl, by kernel_rfl⟩

theorem more_I (ty : TypeId) (w : World) (B : Nat) (v : Value) (L : List Int) (x : Int) (h : OwnsI w B v L) (hB : B ≤ w.heap.size) (hl : L.length ≤ 90000) :
    ∃ v' w', (Builtin.append_ #[34, 34] ty #[v, .slice (some ⟨w.heap.size, 0, none⟩) 1 1]).run Try.prog (w.alloc (.cells #[.int .i64 x] 3)) = .ok v' w' ∧ OwnsI w' B v' (L ++ [x]) ∧ Below B w w' := by
  have hb : Below w.heap.size w (w.alloc (.cells #[.int .i64 x] 3)) := (Below.refl _ _).alloc (Nat.le_refl _) _
  obtain ⟨W, hW⟩ : ∃ W, w.alloc (.cells #[.int .i64 x] 3) = W := ⟨_, rfl⟩
  have hn := heap_alloc_new w (.cells #[.int .i64 x] 3)
  rw [hW] at hb hn ⊢
  obtain ⟨i, hi, hs, hbb, hz⟩ := info3v
  have hM : ∀ j u, [Value.int .i64 x][j]? = some u → W.cell? ((⟨w.heap.size, 0, none⟩ : Addr).add j) = some u := by
    intro j u hj
    match j, hj with
    | 0, hj =>
      simp at hj
      subst hj
      simp [World.cell?, Addr.add, hn]
    | j + 1, hj => simp at hj
  obtain ⟨v', w', h1, h2, h3, _, _⟩ := run_append_own_at (P := Try.prog) W B 34 ty 3 i (.int .i64 0) 1 8 Try.underlying34 hi hz hs hbb rfl (by omega) v L.length (L.map (Value.int .i64)) (h.below hb) ⟨w.heap.size, 0, none⟩ 1 1 [.int .i64 x] rfl hM (fun u hu => by simp at hu; subst hu; rfl) (by simp only [maxLen]; omega) (by omega) (Nat.le_trans hB hb.size)
  refine ⟨v', w', h1, ?_, ?_⟩
  · show w'.ownsRow B 3 1 v' (L ++ [x]).length ((L ++ [x]).map (Value.int .i64))
    rw [List.length_append, List.map_append]
    exact h2
  · refine (hb.mono hB).trans ⟨h3.os, h3.tape, h3.output, h3.size, fun k hk => h3.block k (by have := hb.size; omega) (fun e => ?_)⟩
    have := (World.ownsRow.lt h k e.symm).1
    omega

set_option maxHeartbeats 1000000 in
theorem ktog_any {n B0 q a b : Nat} {u : Value} {L : List Stp} {w : World} (h : G.GAt w B0 58 36 q (n : Int) u L) (hn : n ≤ 14) (hed : Ed n 50 L) (ha : a < n) (hb : b < n) (s : Bool) (hs : s = true ↔ cnR L a b) :
    Calls Try.prog 12 #[.pointer (some ⟨q, 0, none⟩), .int .i64 (a : Int), .int .i64 (b : Int)] w fun e w' => e = .returned (.bool s) ∧ Below w.heap.size w w' := by
  have HC : Hid _ := whl_of h hn hed
  have HS : Hid (s = true ↔ cnR L a b) := hs
  clear h hed hs
  go_enter Try.func12, Try.ntmps12
  go_wp2_with fail
  refine Calls.mono HC.out ?_
  rintro e w1 ⟨p, rfl, hw, hb1⟩
  have HD : Hid _ := whl_any hw ha hb s HS.out
  have HB : Hid (Below w.heap.size w w1) := hb1
  clear hw hb1 HC
  go_wp2_with fail
  refine Calls.mono HD.out ?_
  rintro e w2 ⟨rfl, hb2⟩
  have HB2 : Hid (Below w.heap.size w w2) := HB.out.trans (hb2.mono HB.out.size)
  clear hb2 HD HB
  go_wp2_with fail
  go_ret
  exact ⟨rfl, HB2.out⟩

/-! ### The edges that a number names -/
def tl (L : List Stp) (s j : Nat) : List Stp := (List.range j).filterMap fun i => if s.testBit i then L[i]? else none

theorem tl_zero (L : List Stp) (s : Nat) : tl L s 0 = [] := rfl
theorem tl_yes {L : List Stp} {s j : Nat} {e : Stp} (h : s.testBit j = true) (he : L[j]? = some e) : tl L s (j + 1) = tl L s j ++ [e] := by
  unfold tl
  rw [List.range_succ, List.filterMap_append]
  simp [h, he]
theorem tl_no {L : List Stp} {s j : Nat} (h : s.testBit j = false) : tl L s (j + 1) = tl L s j := by
  unfold tl
  rw [List.range_succ, List.filterMap_append]
  simp [h]
theorem tl_len (L : List Stp) (s j : Nat) : (tl L s j).length ≤ j := by
  have := List.length_filterMap_le (fun i => if s.testBit i then L[i]? else none) (List.range j)
  simpa [tl] using this

theorem mem_tl {L : List Stp} {s : Nat} {e : Stp} : e ∈ tl L s L.length ↔ ∃ i, i < L.length ∧ s.testBit i = true ∧ L[i]? = some e := by
  unfold tl
  rw [List.mem_filterMap]
  constructor
  · rintro ⟨i, hi, h⟩
    by_cases c : s.testBit i = true
    · rw [if_pos c] at h; exact ⟨i, List.mem_range.1 hi, c, h⟩
    · rw [if_neg c] at h; cases h
  · rintro ⟨i, hi, h1, h2⟩
    exact ⟨i, List.mem_range.2 hi, by rw [if_pos h1]; exact h2⟩

def tkE (L : List Stp) (s : Nat) (e : Stp) : Bool := decide (e ∈ tl L s L.length)

/-- The edges that are taken by their numbers. -/
theorem without_ids {n : Nat} {L : List Stp} (hed : Ed n 50 L) (s : Nat) (x y : Nat) : cnR (L.filter (G.stays (fun t => ((tl L s L.length).map (·.1)).getD t 0) (fun _ => 0) (tl L s L.length).length 0)) x y ↔ cnE L (tkE L s) x y := by
  have key : ∀ e ∈ L, G.stays (fun t => ((tl L s L.length).map (·.1)).getD t 0) (fun _ => 0) (tl L s L.length).length 0 e = true ↔ tkE L s e = false := fun e he => by
    have h1 : G.among (fun t => ((tl L s L.length).map (·.1)).getD t 0) (tl L s L.length).length e.1 = true ↔ e ∈ tl L s L.length := by
      unfold G.among
      rw [List.any_eq_true]
      constructor
      · rintro ⟨t, ht, h⟩
        have ht := List.mem_range.1 ht
        have hg : ((tl L s L.length).map (·.1)).getD t 0 = ((tl L s L.length)[t]).1 := by simp [ht]
        have h : ((tl L s L.length).map (·.1)).getD t 0 = e.1 := beq_iff_eq.1 h
        rw [hg] at h
        have hm : (tl L s L.length)[t] ∈ tl L s L.length := List.getElem_mem _
        obtain ⟨i, hi, _, hie⟩ := mem_tl.1 hm
        have : (tl L s L.length)[t] = e := by
          obtain ⟨k, hk, hke⟩ := List.mem_iff_getElem.1 he
          obtain ⟨hi1, hi2⟩ := List.getElem?_eq_some_iff.1 hie
          rcases Nat.lt_trichotomy i k with c | c | c
          · have := List.pairwise_iff_getElem.1 hed.up i k hi1 hk c
            rw [hi2, hke] at this; omega
          · subst c; rw [← hi2, ← hke]
          · have := List.pairwise_iff_getElem.1 hed.up k i hk hi1 c
            rw [hi2, hke] at this; omega
        rw [← this]; exact hm
      · intro h
        obtain ⟨t, ht, hte⟩ := List.mem_iff_getElem.1 h
        refine ⟨t, List.mem_range.2 ht, beq_iff_eq.2 ?_⟩
        simp [ht, hte]
    unfold G.stays tkE
    rw [decide_eq_false_iff_not, ← h1]
    have h2 : ∀ z : Int, G.among (fun _ => 0) 0 z = false := fun z => rfl
    rw [h2, h2]
    simp
  constructor
  · intro h
    exact cn_mono h fun e he => by
      obtain ⟨h1, h2⟩ := List.mem_filter.1 he
      exact ⟨h1, (key e h1).1 h2⟩
  · intro h
    exact cn_mono h fun e he => List.mem_filter.2 ⟨he.1, (key e he.1).2 he.2⟩

/-- The least number so far. -/
structure Lst (L : List Stp) (a b s ls : Nat) : Prop where
  le : ∀ s', s' < s → ¬ cnE L (tkE L s') a b → ls ≤ (tl L s' L.length).length
  is : ls = L.length ∨ ∃ s', s' < s ∧ ¬ cnE L (tkE L s') a b ∧ ls = (tl L s' L.length).length

theorem Lst.start (L : List Stp) (a b : Nat) : Lst L a b 0 L.length := ⟨fun s' h => by omega, .inl rfl⟩

theorem Lst.skip {L : List Stp} {a b s ls : Nat} (h : Lst L a b s ls) (hs : ls ≤ (tl L s L.length).length ∨ cnE L (tkE L s) a b) : Lst L a b (s + 1) ls := by
  refine ⟨fun s' h1 h2 => ?_, ?_⟩
  · by_cases e : s' = s
    · subst e
      rcases hs with k | k
      · exact k
      · exact absurd k h2
    · exact h.le s' (by omega) h2
  · rcases h.is with k | ⟨s', k1, k2⟩
    · exact .inl k
    · exact .inr ⟨s', by omega, k2⟩

theorem Lst.less {L : List Stp} {a b s ls : Nat} (h : Lst L a b s ls) (h1 : (tl L s L.length).length < ls) (h2 : ¬ cnE L (tkE L s) a b) : Lst L a b (s + 1) (tl L s L.length).length := by
  refine ⟨fun s' h3 h4 => ?_, .inr ⟨s, by omega, h2, rfl⟩⟩
  by_cases e : s' = s
  · subst e; exact Nat.le_refl _
  · have := h.le s' (by omega) h4
    omega

theorem cnE_congr {L : List Stp} {T T' : Stp → Bool} (h : ∀ e ∈ L, T e = T' e) {x y : Nat} : cnE L T x y ↔ cnE L T' x y :=
  ⟨fun k => cn_mono k fun e he => ⟨he.1, by rw [← h e he.1]; exact he.2⟩, fun k => cn_mono k fun e he => ⟨he.1, by rw [h e he.1]; exact he.2⟩⟩

theorem filter_tl {L : List Stp} {T : Stp → Bool} {s : Nat} (h : ∀ i, i < L.length → s.testBit i = T (L.getD i (0, 0, 0))) : tl L s L.length = L.filter T := by
  have : ∀ j, j ≤ L.length → tl L s j = (L.take j).filter T := by
    intro j
    induction j with
    | zero => intro _; rfl
    | succ j ih =>
      intro hj
      have hx : L[j]? = some L[j] := List.getElem?_eq_getElem (by omega)
      have hb := h j (by omega)
      have hg : L.getD j (0, 0, 0) = L[j] := by rw [List.getD_eq_getElem?_getD, hx]; rfl
      rw [hg] at hb
      rw [take_snoc hx, List.filter_append]
      cases hT : T L[j] with
      | true =>
        rw [hT] at hb
        rw [tl_yes hb hx, ih (by omega)]
        simp [hT]
      | false =>
        rw [hT] at hb
        rw [tl_no hb, ih (by omega)]
        simp [hT]
  have h1 := this L.length (Nat.le_refl _)
  rwa [List.take_length] at h1

theorem nodup_up {L : List Stp} (h : G.Up L) : L.Nodup := by
  unfold G.Up at h
  refine h.imp ?_
  intro x y hxy e
  rw [e] at hxy
  omega

/-- So many edges, and no fewer. -/
theorem least_edges {n : Nat} {L : List Stp} {a b ls k : Nat} (hed : Ed n 50 L) (hab : a ≠ b) (h : Lst L a b (2 ^ L.length) ls) (hv : Val (cap (lD (edS L)) (lr (edS L))) a b (120 : Nat) k) : k = ls ∧ k ≤ 50 := by
  have hnone : ¬ cnE L (fun _ => true) a b := fun hc => by
    have := Conn.least (P := fun (u v : Nat) => u = v) hc (fun _ => rfl) (fun _ _ k => k.symm) (fun _ _ _ k1 k2 => k1.trans k2) (by
      rintro u v ⟨e, ⟨_, h1⟩, _, _⟩; cases h1)
    exact hab this
  have hk0 := val_le_edges hed hv _ hnone
  have hl := hed.len
  have hf : (L.filter fun _ => true).length = L.length := by simp
  rw [hf] at hk0
  have hin : ∀ s, ¬ cnE L (tkE L s) a b → k ≤ (tl L s L.length).length := fun s hs => by
    have h1 := val_le_edges hed hv _ hs
    have h2 : (L.filter (tkE L s)).length ≤ (tl L s L.length).length := by
      refine nodup_sub _ _ ?_ (fun e he => of_decide_eq_true (List.mem_filter.1 he).2)
      have hnd : L.Nodup := nodup_up hed.up
      exact hnd.filter _
    omega
  refine ⟨Nat.le_antisymm ?_ ?_, by omega⟩
  · rcases h.is with e | ⟨s', _, h2, h3⟩
    · omega
    · rw [h3]; exact hin s' h2
  · obtain ⟨T, hT1, hT2⟩ := val_eq_edges hed hv (by omega)
    obtain ⟨s, hs1, hs2⟩ := mask (fun i => T (L.getD i (0, 0, 0))) L.length
    have htl := filter_tl hs2
    have h1 := h.le s hs1 (fun hc => hT1 ((cnE_congr (fun e he => by
      unfold tkE
      rw [htl]
      cases hq : T e with
      | true => exact decide_eq_true (List.mem_filter.2 ⟨he, hq⟩)
      | false => exact decide_eq_false (fun m => by rw [(List.mem_filter.1 m).2] at hq; cases hq))).1 hc))
    rw [htl] at h1
    omega

/-! ### The nodes that a number names -/
def tn (s j : Nat) : List Nat := (List.range j).filter fun i => s.testBit i

theorem tn_yes {s j : Nat} (h : s.testBit j = true) : tn s (j + 1) = tn s j ++ [j] := by unfold tn; rw [List.range_succ, List.filter_append]; simp [h]
theorem tn_no {s j : Nat} (h : s.testBit j = false) : tn s (j + 1) = tn s j := by unfold tn; rw [List.range_succ, List.filter_append]; simp [h]
theorem tn_len (s j : Nat) : (tn s j).length ≤ j := by
  have := List.length_filter_le (fun i => s.testBit i) (List.range j)
  simpa [tn] using this
theorem mem_tn {s n z : Nat} : z ∈ tn s n ↔ z < n ∧ s.testBit z = true := by unfold tn; rw [List.mem_filter, List.mem_range]

theorem without_nodes {n : Nat} {L : List Stp} (hed : Ed n 50 L) (s x y : Nat) : cnR (L.filter (G.stays (fun _ => 0) (fun t => ((tn s n).map fun z : Nat => (z : Int)).getD t 0) 0 (tn s n).length)) x y ↔ cnw L (tn s n) x y := by
  refine left_cn (stays_off hed (fun z => ?_))
  unfold G.among
  rw [List.any_eq_true]
  constructor
  · rintro ⟨t, ht, h⟩
    have ht := List.mem_range.1 ht
    have hg : ((tn s n).map fun z : Nat => (z : Int)).getD t 0 = (((tn s n)[t] : Nat) : Int) := by simp [ht]
    have h : ((tn s n).map fun z : Nat => (z : Int)).getD t 0 = (z : Int) := beq_iff_eq.1 h
    rw [hg] at h
    rw [show z = (tn s n)[t] by omega]
    exact List.getElem_mem _
  · intro h
    obtain ⟨t, ht, hte⟩ := List.mem_iff_getElem.1 h
    refine ⟨t, List.mem_range.2 ht, beq_iff_eq.2 ?_⟩
    simp [ht, hte]

structure Lsn (L : List Stp) (n a b s ls : Nat) : Prop where
  le : ∀ s', s' < s → s'.testBit a = false → s'.testBit b = false → ¬ cnw L (tn s' n) a b → ls ≤ (tn s' n).length
  is : ls = n ∨ ∃ s', s' < s ∧ s'.testBit a = false ∧ s'.testBit b = false ∧ ¬ cnw L (tn s' n) a b ∧ ls = (tn s' n).length

theorem Lsn.start (L : List Stp) (n a b : Nat) : Lsn L n a b 0 n := ⟨fun s' h => by omega, .inl rfl⟩

theorem Lsn.skip {L : List Stp} {n a b s ls : Nat} (h : Lsn L n a b s ls) (hs : s.testBit a = true ∨ s.testBit b = true ∨ ls ≤ (tn s n).length ∨ cnw L (tn s n) a b) : Lsn L n a b (s + 1) ls := by
  refine ⟨fun s' h1 ha hb h2 => ?_, ?_⟩
  · by_cases e : s' = s
    · subst e
      rcases hs with k | k | k | k
      · rw [ha] at k; cases k
      · rw [hb] at k; cases k
      · exact k
      · exact absurd k h2
    · exact h.le s' (by omega) ha hb h2
  · rcases h.is with k | ⟨s', k1, k2⟩
    · exact .inl k
    · exact .inr ⟨s', by omega, k2⟩

theorem Lsn.less {L : List Stp} {n a b s ls : Nat} (h : Lsn L n a b s ls) (ha : s.testBit a = false) (hb : s.testBit b = false) (h1 : (tn s n).length < ls) (h2 : ¬ cnw L (tn s n) a b) : Lsn L n a b (s + 1) (tn s n).length := by
  refine ⟨fun s' h3 ha' hb' h4 => ?_, .inr ⟨s, by omega, ha, hb, h2, rfl⟩⟩
  by_cases e : s' = s
  · subst e; exact Nat.le_refl _
  · have := h.le s' (by omega) ha' hb' h4
    omega

/-- So many nodes, and no fewer. -/
theorem least_nodes {n : Nat} {L : List Stp} {a b ls k : Nat} (hed : Ed n 50 L) (han : a < n) (hbn : b < n) (hab : a ≠ b) (hna : ∀ e ∈ L, ¬ (ea e = a ∧ eb e = b) ∧ ¬ (ea e = b ∧ eb e = a)) (h : Lsn L n a b (2 ^ n) ls) (hv : Val (cap (lD (noS n L)) (lr (noS n L))) (2 * (a : Int) + 1) (2 * (b : Int)) (120 : Nat) k) (hk : k ≤ 50) : k = ls := by
  have hall : ¬ cnw L ((List.range n).filter fun z => decide (z ≠ a ∧ z ≠ b)) a b := fun hc => by
    have := Conn.least (P := fun (u v : Nat) => u = v) hc (fun _ => rfl) (fun _ _ k => k.symm) (fun _ _ _ k1 k2 => k1.trans k2) (by
      rintro u v ⟨e, ⟨he, h1, h2⟩, rfl, rfl⟩
      exfalso
      obtain ⟨_, _, e3, e4, e5⟩ := ed_ends hed he
      have := hna e he
      rw [List.mem_filter, List.mem_range] at h1 h2
      simp at h1 h2
      omega)
    exact hab this
  refine Nat.le_antisymm ?_ ?_
  · rcases h.is with e | ⟨s', _, h1, h2, h3, h4⟩
    · have h5 := val_le_nodes hed hv _ (by simp) (by simp) hall
      have h6 : ((List.range n).filter fun z => decide (z ≠ a ∧ z ≠ b)).length ≤ n := by
        have := List.length_filter_le (fun z => decide (z ≠ a ∧ z ≠ b)) (List.range n)
        simpa using this
      omega
    · have h5 := val_le_nodes hed hv (tn s' n) (fun m => by rw [(mem_tn.1 m).2] at h1; cases h1) (fun m => by rw [(mem_tn.1 m).2] at h2; cases h2) h3
      omega
  · obtain ⟨T, hT1, hT2, hT3, hT4, hT5⟩ := val_eq_nodes hed hbn hab hna hv (by omega)
    obtain ⟨s, hs1, hs2⟩ := mask (fun z => decide (z ∈ T)) n
    have hm : ∀ z, z ∈ tn s n ↔ z ∈ T := fun z => by
      rw [mem_tn]
      constructor
      · rintro ⟨h1, h2⟩
        rw [hs2 z h1] at h2
        exact of_decide_eq_true h2
      · intro h1
        exact ⟨hT5 z h1, by rw [hs2 z (hT5 z h1)]; exact decide_eq_true h1⟩
    have h1 := h.le s hs1 (by rw [hs2 a han]; exact decide_eq_false hT1) (by rw [hs2 b hbn]; exact decide_eq_false hT2) (fun hc => hT3 ((cnw_congr (fun _ => Iff.rfl) hm).1 hc))
    have h2 : (tn s n).length ≤ T.length := nodup_sub _ _ (List.nodup_range.filter _) (fun z hz => (hm z).1 hz)
    omega

end Go.Proofs.Ytpkdpddillebfab.S
