/- How many bits a number has: the reckoning of math/bits.OnesCount64, byte by byte. -/
import Derived.Test.YtpkdpddillebfabVaK
namespace Go.Proofs.Ytpkdpddillebfab.S

/-- A mask of k equal bytes. -/
def msk (c : Nat) : Nat → Nat
  | 0 => 0
  | k + 1 => c + 256 * msk c k

theorem tb (lo hi j : Nat) (h : lo < 256) : (lo + 256 * hi).testBit j = if j < 8 then lo.testBit j else hi.testBit (j - 8) := by
  have := Nat.testBit_two_pow_mul_add hi (show lo < 2 ^ 8 by omega) j
  rw [Nat.add_comm]; exact this

/-- A shift and a mask, byte by byte. -/
theorem shift_and (lo hi c d s : Nat) (hl : lo < 256) (hc : c < 256) (hs : ∀ j, j < 8 → 8 ≤ s + j → c.testBit j = false) :
    ((lo + 256 * hi) >>> s) &&& (c + 256 * d) = ((lo >>> s) &&& c) + 256 * ((hi >>> s) &&& d) := by
  have hx : (lo >>> s) &&& c < 256 := Nat.lt_of_le_of_lt Nat.and_le_right hc
  apply Nat.eq_of_testBit_eq
  intro j
  rw [Nat.testBit_and, Nat.testBit_shiftRight, tb lo hi _ hl, tb c d _ hc, tb _ _ _ hx]
  by_cases hj : j < 8
  · simp only [if_pos hj, Nat.testBit_and, Nat.testBit_shiftRight]
    by_cases hsj : s + j < 8
    · rw [if_pos hsj]
    · rw [if_neg hsj, hs j hj (by omega)]; simp
  · simp only [if_neg hj, Nat.testBit_and, Nat.testBit_shiftRight]
    rw [if_neg (by omega), show s + j - 8 = s + (j - 8) by omega]

def s1 (k x : Nat) : Nat := (x >>> 1 &&& msk 85 k) + (x &&& msk 85 k)
def s2 (k x : Nat) : Nat := (x >>> 2 &&& msk 51 k) + (x &&& msk 51 k)
def s3 (k x : Nat) : Nat := (x >>> 4 + x) &&& msk 15 k

theorem s1_step (k lo hi : Nat) (h : lo < 256) : s1 (k + 1) (lo + 256 * hi) = ((lo >>> 1 &&& 85) + (lo &&& 85)) + 256 * s1 k hi := by
  have e1 := shift_and lo hi 85 (msk 85 k) 1 h (by omega) (fun j h1 h2 => by
    have h3 : j = 7 := by omega
    rw [h3]; decide)
  have e2 := shift_and lo hi 85 (msk 85 k) 0 h (by omega) (fun j h1 h2 => by omega)
  simp only [Nat.shiftRight_zero] at e2
  simp only [s1, msk, e1, e2]
  omega

theorem s2_step (k lo hi : Nat) (h : lo < 256) : s2 (k + 1) (lo + 256 * hi) = ((lo >>> 2 &&& 51) + (lo &&& 51)) + 256 * s2 k hi := by
  have e1 := shift_and lo hi 51 (msk 51 k) 2 h (by omega) (fun j h1 h2 => by
    have : j = 6 ∨ j = 7 := by omega
    rcases this with rfl | rfl <;> decide)
  have e2 := shift_and lo hi 51 (msk 51 k) 0 h (by omega) (fun j h1 h2 => by omega)
  simp only [Nat.shiftRight_zero] at e2
  simp only [s2, msk, e1, e2]
  omega

theorem s3_step (k lo hi : Nat) (h : lo ≤ 68) (hh : hi % 16 ≤ 4) : s3 (k + 1) (lo + 256 * hi) = (lo / 16 + lo) % 16 + 256 * s3 k hi := by
  have e0 : (lo + 256 * hi) >>> 4 + (lo + 256 * hi) = (lo / 16 + lo + 16 * (hi % 16)) + 256 * (hi >>> 4 + hi) := by
    rw [Nat.shiftRight_eq_div_pow, Nat.shiftRight_eq_div_pow]
    omega
  have e2 := shift_and (lo / 16 + lo + 16 * (hi % 16)) (hi >>> 4 + hi) 15 (msk 15 k) 0 (by omega) (by omega) (fun j h1 h2 => by omega)
  simp only [Nat.shiftRight_zero] at e2
  simp only [s3, msk, e0, e2]
  have e3 : (lo / 16 + lo + 16 * (hi % 16)) &&& 15 = (lo / 16 + lo + 16 * (hi % 16)) % 16 := Nat.and_two_pow_sub_one_eq_mod _ 4
  rw [e3]
  omega

/-- How many bits, from below. -/
def pc : Nat → Nat → Nat
  | 0, _ => 0
  | f + 1, x => x % 2 + pc f (x / 2)

def gb (b : Nat) : Nat := (((b >>> 1 &&& 85) + (b &&& 85)) >>> 2 &&& 51) + (((b >>> 1 &&& 85) + (b &&& 85)) &&& 51)

theorem gb_all : ∀ b : Fin 256, gb b.val ≤ 68 ∧ gb b.val % 16 ≤ 4 ∧ (gb b.val / 16 + gb b.val) % 16 = pc 8 b.val ∧ (b.val >>> 1 &&& 85) + (b.val &&& 85) < 256 ∧ pc 8 b.val ≤ 8 := by decide +kernel

theorem gb_of {b : Nat} (h : b < 256) : gb b ≤ 68 ∧ gb b % 16 ≤ 4 ∧ (gb b / 16 + gb b) % 16 = pc 8 b ∧ (b >>> 1 &&& 85) + (b &&& 85) < 256 ∧ pc 8 b ≤ 8 := gb_all ⟨b, h⟩

theorem s21_step (k lo hi : Nat) (h : lo < 256) : s2 (k + 1) (s1 (k + 1) (lo + 256 * hi)) = gb lo + 256 * s2 k (s1 k hi) := by
  rw [s1_step k lo hi h, s2_step k _ _ (gb_of h).2.2.2.1]
  rfl

theorem s21_low (k x : Nat) : s2 k (s1 k x) % 16 ≤ 4 := by
  cases k with
  | zero => simp [s2, s1, msk]
  | succ k =>
    have hx : x = x % 256 + 256 * (x / 256) := by omega
    have hl : x % 256 < 256 := Nat.mod_lt _ (by omega)
    rw [hx, s21_step k _ _ hl]
    have := (gb_of hl).2.1
    omega

/-- The counts of the bytes, a byte each. -/
def cnts : Nat → Nat → Nat
  | 0, _ => 0
  | k + 1, x => pc 8 (x % 256) + 256 * cnts k (x / 256)

theorem s321 : ∀ (k x : Nat), s3 k (s2 k (s1 k x)) = cnts k x
  | 0, x => by simp [s3, s2, s1, msk, cnts]
  | k + 1, x => by
    have hx : x = x % 256 + 256 * (x / 256) := by omega
    have hl : x % 256 < 256 := Nat.mod_lt _ (by omega)
    have h1 : s2 (k + 1) (s1 (k + 1) x) = gb (x % 256) + 256 * s2 k (s1 k (x / 256)) := by
      have := s21_step k (x % 256) (x / 256) hl
      rw [← hx] at this; exact this
    rw [h1, s3_step k _ _ (gb_of hl).1 (s21_low k _), s321 k (x / 256), (gb_of hl).2.2.1]
    rfl

theorem pc_add : ∀ (a f x : Nat), pc (a + f) x = pc a (x % 2 ^ a) + pc f (x / 2 ^ a)
  | 0, f, x => by simp [pc]
  | a + 1, f, x => by
    have e1 : a + 1 + f = (a + f) + 1 := by omega
    rw [e1]
    simp only [pc]
    rw [pc_add a f (x / 2)]
    have h1 : x % 2 ^ (a + 1) % 2 = x % 2 := Nat.mod_mod_of_dvd _ ⟨2 ^ a, by rw [Nat.pow_succ, Nat.mul_comm]⟩
    have h2 : x % 2 ^ (a + 1) / 2 = x / 2 % 2 ^ a := by
      rw [Nat.pow_succ, Nat.mul_comm, Nat.mod_mul_right_div_self]
    have h3 : x / 2 / 2 ^ a = x / 2 ^ (a + 1) := by rw [Nat.div_div_eq_div_mul, Nat.pow_succ, Nat.mul_comm]
    rw [h1, h2, h3]
    omega

theorem cnt_low (g : Nat → Bool) : ∀ k, cnt g (k + 1) = (if g 0 then 1 else 0) + cnt (fun i => g (i + 1)) k
  | 0 => by simp [cnt]
  | k + 1 => by
    have := cnt_low g k
    simp only [cnt] at this ⊢
    omega

theorem pc_cnt : ∀ (f x : Nat), pc f x = cnt (fun i => x.testBit i) f
  | 0, x => rfl
  | f + 1, x => by
    rw [cnt_low]
    simp only [pc]
    have e1 : (fun i => x.testBit (i + 1)) = fun i => (x / 2).testBit i := by
      funext i
      rw [Nat.testBit_succ]
    rw [e1, ← pc_cnt f (x / 2), Nat.testBit_zero]
    rcases Nat.mod_two_eq_zero_or_one x with h | h <;> simp [h]

/-- The whole reckoning. -/
theorem ones64 (x : Nat) :
    let z := s3 8 (s2 8 (s1 8 x))
    let u := z + z / 256
    let v := u + u / 65536
    (v + v / 4294967296) % 128 = pc 64 x ∧ z < 18446744073709551616 / 2 ∧ u < 18446744073709551616 ∧ v < 18446744073709551616 ∧ v + v / 4294967296 < 4611686018427387904 := by
  intro z u v
  have hz : z = cnts 8 x := s321 8 x
  have hp : pc 64 x = pc 8 (x % 256) + pc 8 (x / 256 % 256) + pc 8 (x / 65536 % 256) + pc 8 (x / 16777216 % 256) + pc 8 (x / 4294967296 % 256) + pc 8 (x / 1099511627776 % 256) + pc 8 (x / 281474976710656 % 256) + pc 8 (x / 72057594037927936 % 256) := by
    have a0 : pc 64 (x) = pc 8 (x % 256) + pc 56 (x / 256) := by
      have h := pc_add 8 56 x
      simp only [Nat.reducePow, Nat.reduceAdd] at h
      exact h
    have a1 : pc 56 (x / 256) = pc 8 (x / 256 % 256) + pc 48 (x / 65536) := by
      have h := pc_add 8 48 (x / 256)
      rw [Nat.div_div_eq_div_mul] at h
      simp only [Nat.reducePow, Nat.reduceMul, Nat.reduceAdd] at h
      exact h
    have a2 : pc 48 (x / 65536) = pc 8 (x / 65536 % 256) + pc 40 (x / 16777216) := by
      have h := pc_add 8 40 (x / 65536)
      rw [Nat.div_div_eq_div_mul] at h
      simp only [Nat.reducePow, Nat.reduceMul, Nat.reduceAdd] at h
      exact h
    have a3 : pc 40 (x / 16777216) = pc 8 (x / 16777216 % 256) + pc 32 (x / 4294967296) := by
      have h := pc_add 8 32 (x / 16777216)
      rw [Nat.div_div_eq_div_mul] at h
      simp only [Nat.reducePow, Nat.reduceMul, Nat.reduceAdd] at h
      exact h
    have a4 : pc 32 (x / 4294967296) = pc 8 (x / 4294967296 % 256) + pc 24 (x / 1099511627776) := by
      have h := pc_add 8 24 (x / 4294967296)
      rw [Nat.div_div_eq_div_mul] at h
      simp only [Nat.reducePow, Nat.reduceMul, Nat.reduceAdd] at h
      exact h
    have a5 : pc 24 (x / 1099511627776) = pc 8 (x / 1099511627776 % 256) + pc 16 (x / 281474976710656) := by
      have h := pc_add 8 16 (x / 1099511627776)
      rw [Nat.div_div_eq_div_mul] at h
      simp only [Nat.reducePow, Nat.reduceMul, Nat.reduceAdd] at h
      exact h
    have a6 : pc 16 (x / 281474976710656) = pc 8 (x / 281474976710656 % 256) + pc 8 (x / 72057594037927936) := by
      have h := pc_add 8 8 (x / 281474976710656)
      rw [Nat.div_div_eq_div_mul] at h
      simp only [Nat.reducePow, Nat.reduceMul, Nat.reduceAdd] at h
      exact h
    have a7 : pc 8 (x / 72057594037927936) = pc 8 (x / 72057594037927936 % 256) + pc 0 (x / 18446744073709551616) := by
      have h := pc_add 8 0 (x / 72057594037927936)
      rw [Nat.div_div_eq_div_mul] at h
      simp only [Nat.reducePow, Nat.reduceMul, Nat.reduceAdd] at h
      exact h
    have a8 : pc 0 (x / 18446744073709551616) = 0 := rfl
    omega
  have hc : cnts 8 x = pc 8 (x % 256) + 256 * (pc 8 (x / 256 % 256) + 256 * (pc 8 (x / 65536 % 256) + 256 * (pc 8 (x / 16777216 % 256) + 256 * (pc 8 (x / 4294967296 % 256) + 256 * (pc 8 (x / 1099511627776 % 256) + 256 * (pc 8 (x / 281474976710656 % 256) + 256 * pc 8 (x / 72057594037927936 % 256))))))) := by
    simp only [cnts, Nat.div_div_eq_div_mul, Nat.reduceMul, Nat.mul_zero, Nat.add_zero]
  have b0 := (gb_of (show x % 256 < 256 from Nat.mod_lt _ (by omega))).2.2.2.2
  have b1 := (gb_of (show x / 256 % 256 < 256 from Nat.mod_lt _ (by omega))).2.2.2.2
  have b2 := (gb_of (show x / 65536 % 256 < 256 from Nat.mod_lt _ (by omega))).2.2.2.2
  have b3 := (gb_of (show x / 16777216 % 256 < 256 from Nat.mod_lt _ (by omega))).2.2.2.2
  have b4 := (gb_of (show x / 4294967296 % 256 < 256 from Nat.mod_lt _ (by omega))).2.2.2.2
  have b5 := (gb_of (show x / 1099511627776 % 256 < 256 from Nat.mod_lt _ (by omega))).2.2.2.2
  have b6 := (gb_of (show x / 281474976710656 % 256 < 256 from Nat.mod_lt _ (by omega))).2.2.2.2
  have b7 := (gb_of (show x / 72057594037927936 % 256 < 256 from Nat.mod_lt _ (by omega))).2.2.2.2
  rw [hp]
  rw [hc] at hz
  have hu : u = z + z / 256 := rfl
  have hv : v = u + u / 65536 := rfl
  clear_value z u v
  clear hp hc
  generalize pc 8 (x % 256) = c0 at *
  generalize pc 8 (x / 256 % 256) = c1 at *
  generalize pc 8 (x / 65536 % 256) = c2 at *
  generalize pc 8 (x / 16777216 % 256) = c3 at *
  generalize pc 8 (x / 4294967296 % 256) = c4 at *
  generalize pc 8 (x / 1099511627776 % 256) = c5 at *
  generalize pc 8 (x / 281474976710656 % 256) = c6 at *
  generalize pc 8 (x / 72057594037927936 % 256) = c7 at *
  have h1 : z / 256 = c1 + 256 * (c2 + 256 * (c3 + 256 * (c4 + 256 * (c5 + 256 * (c6 + 256 * c7))))) := by omega
  have h2 : u = (c0 + c1) + 256 * ((c1 + c2) + 256 * ((c2 + c3) + 256 * ((c3 + c4) + 256 * ((c4 + c5) + 256 * ((c5 + c6) + 256 * ((c6 + c7) + 256 * c7)))))) := by omega
  have h3 : u / 65536 = (c2 + c3) + 256 * ((c3 + c4) + 256 * ((c4 + c5) + 256 * ((c5 + c6) + 256 * ((c6 + c7) + 256 * c7)))) := by omega
  have h4 : v = (c0 + c1 + c2 + c3) + 256 * ((c1 + c2 + c3 + c4) + 256 * ((c2 + c3 + c4 + c5) + 256 * ((c3 + c4 + c5 + c6) + 256 * ((c4 + c5 + c6 + c7) + 256 * ((c5 + c6 + c7) + 256 * ((c6 + c7) + 256 * c7)))))) := by omega
  have h5 : v / 4294967296 = (c4 + c5 + c6 + c7) + 256 * ((c5 + c6 + c7) + 256 * ((c6 + c7) + 256 * c7)) := by omega
  refine ⟨?_, ?_, ?_, ?_, ?_⟩
  · rw [h5]; omega
  · omega
  · omega
  · omega
  · omega

end Go.Proofs.Ytpkdpddillebfab.S
namespace Go.Proofs.Ytpkdpddillebfab.S
open Go.RowKit

theorem and_i64 (a b : Nat) (ha : a < 9223372036854775808) (hb : b < 9223372036854775808) : bits .and .i64 (a : Int) (b : Int) = ((a &&& b : Nat) : Int) := by
  have hx : a &&& b < 2 ^ 63 := Nat.and_lt_two_pow _ (by omega)
  have h1 : (BitVec.ofInt 64 (a : Int)).toNat = a := by
    rw [BitVec.ofInt_natCast, BitVec.toNat_ofNat]; exact Nat.mod_eq_of_lt (by omega)
  have h2 : (BitVec.ofInt 64 (b : Int)).toNat = b := by
    rw [BitVec.ofInt_natCast, BitVec.toNat_ofNat]; exact Nat.mod_eq_of_lt (by omega)
  show IntKind.i64.wrap ((BitVec.ofInt 64 (a : Int) &&& BitVec.ofInt 64 (b : Int)).toNat : Int) = _
  rw [BitVec.toNat_and, h1, h2, IntKind.wrap_i64]
  omega

theorem msk_and_lt (x c : Nat) (h : c < 9223372036854775808) : x &&& c < 9223372036854775808 := Nat.lt_of_le_of_lt Nat.and_le_right h

theorem pc_nought : pc 64 0 = 0 := by decide

theorem pc_small (x : Nat) : pc 64 x ≤ 64 := by
  have : ∀ f x, pc f x ≤ f := by
    intro f
    induction f with
    | zero => intro x; exact Nat.le_refl _
    | succ f ih => intro x; simp only [pc]; have := ih (x / 2); have := Nat.mod_lt x (show 2 > 0 by omega); omega
  exact this 64 x

theorem index_first (x : Int) (W : World) : (Instr.index 78 (.agg #[.int .u64 x, .int .u64 0]) (.int .i64 0)).run Try.prog W = .ok (.int .u64 x) W := by kernel_rfl
theorem index_second (x : Int) (W : World) : (Instr.index 78 (.agg #[.int .u64 x, .int .u64 0]) (.int .i64 1)).run Try.prog W = .ok (.int .u64 0) W := by kernel_rfl

end Go.Proofs.Ytpkdpddillebfab.S
namespace Go.Proofs.Ytpkdpddillebfab.S
open Go.RowKit Go.WideMaps Go.Maps

/-- Which rings go round an edge. -/
def covB (n : Nat) (t o : List Edg) (e : Edg) (i : Nat) : Bool := if e ∈ t then tcov n t o e i else decide (o.getD i (0, 0, 0) = e)
def covN (n : Nat) (t o : List Edg) (e : Edg) : Nat := bitsN (covB n t o e) o.length

theorem bitsN_one {c : Nat → Bool} {k : Nat} : ∀ {m}, k < m → (∀ i, i < m → c i = decide (i = k)) → bitsN c m = 2 ^ k
  | 0, h, _ => by omega
  | m + 1, h, hc => by
    simp only [bitsN, hc m (by omega)]
    by_cases e : m = k
    · subst e
      have : bitsN c m = 0 := by
        have h2 : bitsN c m = bitsN (fun _ => false) m := bitsN_congr (fun i hi => by rw [hc i (by omega)]; exact decide_eq_false (by omega))
        rw [h2]
        clear h2 hc h
        induction m with
        | zero => rfl
        | succ m ih => simp [bitsN, ih]
      rw [this]; simp
    · rw [decide_eq_false e, bitsN_one (m := m) (by omega) (fun i hi => hc i (by omega))]; simp

theorem covN_other {n : Nat} {t o : List Edg} {k : Nat} {e : Edg} (hnd : o.Nodup) (hk : o[k]? = some e) (hne : e ∉ t) : covN n t o e = 2 ^ k := by
  obtain ⟨hlt, he⟩ := List.getElem?_eq_some_iff.1 hk
  refine bitsN_one hlt (fun i hi => ?_)
  unfold covB
  rw [if_neg hne]
  have h1 : o.getD i (0, 0, 0) = o[i] := by simp [hi]
  rw [h1, ← he]
  by_cases e2 : i = k
  · subst e2; simp
  · rw [decide_eq_false e2, decide_eq_false]
    intro c
    exact e2 ((List.getElem_inj hnd).1 c)

theorem covN_tree {n : Nat} {t o : List Edg} {e : Edg} (he : e ∈ t) : covN n t o e = bitsN (tcov n t o e) o.length :=
  bitsN_congr (fun i _ => by unfold covB; rw [if_pos he])

theorem take_one {L : List Edg} {k : Nat} {x : Edg} (h : L[k]? = some x) : L.take (k + 1) = L.take k ++ [x] := by
  obtain ⟨hlt, he⟩ := List.getElem?_eq_some_iff.1 h
  rw [List.take_succ_eq_append_getElem hlt, he]

theorem not_before {L : List Edg} {k : Nat} {x : Edg} (hnd : L.Nodup) (h : L[k]? = some x) : x ∉ L.take k := by
  intro hx
  obtain ⟨i, hi⟩ := List.getElem?_of_mem hx
  obtain ⟨hil, hie⟩ := List.getElem?_eq_some_iff.1 hi
  rw [List.length_take] at hil
  rw [List.getElem?_take_of_lt (by omega)] at hi
  obtain ⟨h1, h2⟩ := List.getElem?_eq_some_iff.1 hi
  obtain ⟨h3, h4⟩ := List.getElem?_eq_some_iff.1 h
  have := (List.getElem_inj hnd).1 (h2.trans h4.symm)
  omega

/-- What Of needs to know of its graph's edges. -/
structure Ok (n : Nat) (R : List Edg) : Prop where
  inn : InE n R
  nd : R.Nodup
  one : ∀ d ∈ R, ∀ e ∈ R, d.1 = e.1 → d = e
  wf : ∀ e ∈ R, (Lit.int .i64 e.1).wf = true
  len : R.length ≤ 60
  n16 : n ≤ 16

theorem Cv.base {w w1 W : World} {c mb rest : Nat} {S : List Edg} {f : Edg → Nat} (h : Cv w1 W c mb rest S f) (hb : Below w.heap.size w w1) : Cv w W c mb rest S f :=
  { h with lc := Nat.le_trans hb.size h.lc, lm := Nat.le_trans hb.size h.lm, below := hb.trans (h.below.mono hb.size) }

set_option maxHeartbeats 4000000 in
set_option maxRecDepth 100000 in
theorem cof_any (n B p : Nat) (v : Value) (R : List Edg) (L3 : List Nat) (w : World) (h : G.GAt w B 58 36 p (n : Int) v R) (hok : Ok n R)
    (hun : ∀ W c mb, Cv w W c mb (grw n R).2.length ((grw n R).2 ++ (grw n R).1) (covN n (grw n R).1 (grw n R).2) → Calls Try.prog 37 #[.pointer (some ⟨c, 0, none⟩), .pointer (some ⟨p, 0, none⟩)] W fun e w' => ∃ q bq, e = .returned (.pointer (some ⟨q, 0, none⟩)) ∧ SetsAt w' q bq L3 ∧ W.heap.size ≤ q ∧ W.heap.size ≤ bq ∧ Below W.heap.size W w') :
    Calls Try.prog 15 #[.pointer (some ⟨p, 0, none⟩)] w fun e w' => ∃ c mb q bq, e = .returned (.pointer (some ⟨c, 0, none⟩)) ∧ Cv w w' c mb (grw n R).2.length ((grw n R).2 ++ (grw n R).1) (covN n (grw n R).1 (grw n R).2) ∧ w'.heap[c]? = some (.cells #[.int .i64 ((grw n R).2.length : Int), .map (some mb), .pointer (some ⟨q, 0, none⟩)] 75) ∧ SetsAt w' q bq L3 := by
  have HG : Hid (G.GAt w B 58 36 p (n : Int) v R ∧ Ok n R) := ⟨h, hok⟩
  have HU : Hid (∀ W c mb, Cv w W c mb (grw n R).2.length ((grw n R).2 ++ (grw n R).1) (covN n (grw n R).1 (grw n R).2) → Calls Try.prog 37 #[.pointer (some ⟨c, 0, none⟩), .pointer (some ⟨p, 0, none⟩)] W fun e w' => ∃ q bq, e = .returned (.pointer (some ⟨q, 0, none⟩)) ∧ SetsAt w' q bq L3 ∧ W.heap.size ≤ q ∧ W.heap.size ≤ bq ∧ Below W.heap.size W w') := hun
  have HGR : Hid (Gr n R (grw n R).1 (grw n R).2) := gr_all R hok.nd hok.inn.nodes
  have hn16 := hok.n16
  have hlen := hok.len
  clear h hok hun
  go_enter Try.func15, Try.ntmps15
  go_wp2_with fail
  refine (grow_any n B p v R w HG.out.1 (by omega) HG.out.2.inn HG.out.2.nd (by omega)).mono ?_
  rintro e w1 ⟨vt, vo, B1, rfl, hot, hoo, hB1, hb1⟩
  obtain ⟨t, ht⟩ : ∃ t, (grw n R).1 = t := ⟨_, rfl⟩
  obtain ⟨o, ho⟩ : ∃ o, (grw n R).2 = o := ⟨_, rfl⟩
  rw [ht, ho] at HU HGR
  rw [ht] at hot
  rw [ho] at hoo
  have HTO : Hid ((grw n R).1 = t ∧ (grw n R).2 = o) := ⟨ht, ho⟩
  have HO : Hid (G.Owns w1 B1 36 vt t ∧ G.Owns w1 B1 36 vo o ∧ Below w.heap.size w w1) := ⟨hot, hoo, hb1⟩
  obtain ⟨mt, hmt⟩ : ∃ mt, t.length = mt := ⟨_, rfl⟩
  obtain ⟨mo, hmo⟩ : ∃ mo, o.length = mo := ⟨_, rfl⟩
  have HM : Hid (t.length = mt ∧ o.length = mo) := ⟨hmt, hmo⟩
  have hsum : mt + mo ≤ 60 := by have := HGR.out.len; omega
  obtain ⟨ta, tc, hvt⟩ := hot.slice_len
  obtain ⟨oa, oc, hvo⟩ := hoo.slice_len
  rw [hmt] at hvt
  rw [hmo] at hvo
  subst hvt
  subst hvo
  have hmm := @run_makeMap Try.prog
  have HIO : Hid (InE n o ∧ InE n t ∧ o.Nodup ∧ t.Nodup ∧ (∀ e ∈ o, e ∉ t) ∧ (∀ e ∈ o ++ t, e ∈ R)) := ⟨HG.out.2.inn.sub (fun e he => (HGR.out.mem e).2 (.inr he)), HG.out.2.inn.sub (fun e he => (HGR.out.mem e).2 (.inl he)), HG.out.2.nd.sublist HGR.out.osub, HG.out.2.nd.sublist HGR.out.tsub, fun e he k => HGR.out.forest.apart e k he, fun e he => (HGR.out.mem e).2 ((List.mem_append.1 he).symm)⟩
  clear ht ho hot hoo hb1 hmt hmo
  have HC0 : Hid (Cv w1 ((w1.alloc (.map #[] 0)).alloc (.cells #[.int .i64 (mo : Int), .map (some w1.heap.size), .pointer none] 75)) (w1.heap.size + 1) w1.heap.size mo (o.take 0) (covN n t o)) := by
    have h1 : Below w1.heap.size w1 (w1.alloc (.map #[] 0)) := (Below.refl _ _).alloc (Nat.le_refl _) _
    have h2 : Below (w1.alloc (.map #[] 0)).heap.size (w1.alloc (.map #[] 0)) ((w1.alloc (.map #[] 0)).alloc (.cells #[.int .i64 (mo : Int), .map (some w1.heap.size), .pointer none] 75)) := (Below.refl _ _).alloc (Nat.le_refl _) _
    have h3 := heap_alloc_new (w1.alloc (.map #[] 0)) (.cells #[.int .i64 (mo : Int), .map (some w1.heap.size), .pointer none] 75)
    rw [World.size_alloc] at h3
    exact ⟨⟨_, h3⟩, ⟨_, 0, (World.ownsMap_made w1 Try.prog 3 ringR).alloc _, Rm.start _, rfl⟩, by omega, by omega, Nat.le_refl _, h1.trans (h2.mono h1.size)⟩
  obtain ⟨mb, hmb⟩ : ∃ mb, w1.heap.size = mb := ⟨_, rfl⟩
  go_wp2_with fail
  rw [hmb] at HC0
  have HMB : Hid (w1.heap.size = mb) := hmb
  clear hmm hmb
  go_loopw [23] (fun s23 wq => ∃ k : Nat, k ≤ mo ∧ s23 = .int .i64 k ∧ Cv w1 wq (mb + 1) mb mo (o.take k) (covN n t o)) (fun s23 _ => mo - (intOf s23).toNat)
  case atStart => exact ⟨0, Nat.zero_le _, rfl, HC0.out⟩
  case round =>
    clear HC0
    obtain ⟨k, hk, rfl, hcv⟩ := hrel
    have HC : Hid (Cv w1 wr (mb + 1) mb mo (o.take k) (covN n t o)) := hcv
    clear hcv
    by_cases hlt : k < mo
    · as_aux_lemma =>
      obtain ⟨x0, xa, xb, hx, han, hbn, hxa, hxb⟩ := row_edge HIO.out.1 (by rw [HM.out.2]; exact hlt)
      obtain ⟨g', rfl⟩ := owns_block HO.out.2.1 (by rw [HM.out.2]; exact hlt)
      obtain ⟨r0, r1, r2⟩ := (HO.out.2.1.below HC.out.below).at (g := g') rfl hx
      have r0' : wr.cell? ⟨g', k * 3, none⟩ = some (.int .i64 x0) := r0
      have r1' : wr.cell? ⟨g', k * 3 + 1, none⟩ = some (.int .i64 (xa : Int)) := r1
      have r2' : wr.cell? ⟨g', k * 3 + 2, none⟩ = some (.int .i64 (xb : Int)) := r2
      have hxm : (x0, (xa : Int), (xb : Int)) ∈ o := List.mem_of_getElem? hx
      have HX : Hid (o[k]? = some (x0, (xa : Int), (xb : Int)) ∧ covN n t o (x0, (xa : Int), (xb : Int)) = 2 ^ k) := ⟨hx, covN_other HIO.out.2.2.1 hx (HIO.out.2.2.2.2.1 _ hxm)⟩
      have HN : Hid (∀ d ∈ o.take k, d.1 ≠ x0) := fun d hd e => by
        have := HG.out.2.one d (HIO.out.2.2.2.2.2 d (List.mem_append_left _ (List.mem_of_mem_take hd))) _ (HIO.out.2.2.2.2.2 _ (List.mem_append_left _ hxm)) e
        rw [this] at hd
        exact not_before HIO.out.2.2.1 hx hd
      have hwf : (Lit.int .i64 x0).wf = true := HG.out.2.wf _ (HIO.out.2.2.2.2.2 _ (List.mem_append_left _ hxm))
      clear r0 r1 r2 hx hxa hxb hxm
      have hring : RingAt ((wr.alloc (.cells #[.int .i64 x0, .int .i64 (xa : Int), .int .i64 (xb : Int)] 36)).alloc (.cells #[.int .u64 0, .int .u64 0] 78)) (wr.heap.size + 1) 0 := by
        have := heap_alloc_new (wr.alloc (.cells #[.int .i64 x0, .int .i64 (xa : Int), .int .i64 (xb : Int)] 36)) (.cells #[.int .u64 0, .int .u64 0] 78)
        rw [World.size_alloc] at this
        exact this
      have HR : Hid (RingAt ((wr.alloc (.cells #[.int .i64 x0, .int .i64 (xa : Int), .int .i64 (xb : Int)] 36)).alloc (.cells #[.int .u64 0, .int .u64 0] 78)) (wr.heap.size + 1) 0) := hring
      clear hring
      go_wp2_with fail
      refine (put_any (wr.heap.size + 1) k 0 _ HR.out (by omega) (Nat.two_pow_pos k)).mono ?_
      rintro e w3 ⟨rfl, hr3, hb3⟩
      rw [Nat.zero_add] at hr3
      have hbel : Below wr.heap.size wr w3 := (((Below.refl _ _).alloc (Nat.le_refl _) _).alloc (by simp) _).trans (hb3.below (by omega) (by simp; omega))
      have hbx : w3.heap[wr.heap.size]? = some (.cells #[.int .i64 x0, .int .i64 (xa : Int), .int .i64 (xb : Int)] 36) := by
        rw [hb3.block wr.heap.size (by simp; omega) (by omega), Below.heap_alloc _ _ _ (by simp)]
        exact heap_alloc_new wr _
      have HC3 : Hid (Cv w1 w3.drew (mb + 1) mb mo (o.take k) (covN n t o)) := HC.out.below' (hbel.trans ((Below.refl _ _).drew.mono hbel.size))
      obtain ⟨w4, hup, hcv4, _⟩ := HC3.out.more (x0, (xa : Int), (xb : Int)) HN.out hwf (by rw [List.length_take]; omega)
      rw [HX.out.2] at hup
      rw [← take_one HX.out.1] at hcv4
      have HC4 : Hid (Cv w1 w4 (mb + 1) mb mo (o.take (k + 1)) (covN n t o)) := hcv4
      have d1 := (HC.out.below' hbel).cell1
      have q0 : w3.cell? ⟨wr.heap.size, 0, none⟩ = some (.int .i64 x0) := by simp [World.cell?, hbx]
      have s0 : w3.cell? ⟨wr.heap.size + 1, 0, none⟩ = some (.int .u64 ((2 ^ k : Nat) : Int)) := by simp [World.cell?, hr3]
      have s1 : w3.cell? ⟨wr.heap.size + 1, 1, none⟩ = some (.int .u64 0) := by simp [World.cell?, hr3]
      unfold ringV at hup
      obtain ⟨Y, hY⟩ : ∃ Y : Nat, 2 ^ k = Y := ⟨_, rfl⟩
      rw [hY] at hup s0
      simp only at hup
      clear hr3 hb3 hbel hbx HC3 hcv4 HR HC r0' r1' r2' hY
      go_upto_region 8 with fail
      go_region
      all_goals
        go_wp2_with fail
        go_roundw
        case rel => exact ⟨k + 1, by omega, by go_num, HC4.out⟩
        case measure => simp [intOf]; omega
    · have hke : k = mo := by omega
      have HC1 : Hid (Cv w1 wr (mb + 1) mb mo (o ++ t.take 0) (covN n t o)) := by
        have h2 := HC.out
        rw [hke, ← HM.out.2, List.take_length, HM.out.2] at h2
        rw [List.take_zero, List.append_nil]
        exact h2
      clear HC hke
      go_wp2_with fail
      go_loopw [40] (fun s40 wq => ∃ j : Nat, j ≤ mt ∧ s40 = .int .i64 j ∧ Cv w1 wq (mb + 1) mb mo (o ++ t.take j) (covN n t o)) (fun s40 _ => mt - (intOf s40).toNat)
      case atStart => exact ⟨0, Nat.zero_le _, rfl, HC1.out⟩
      case round =>
        clear HC1
        obtain ⟨j, hj, rfl, hcv⟩ := hrel
        have HC : Hid (Cv w1 wr (mb + 1) mb mo (o ++ t.take j) (covN n t o)) := hcv
        clear hcv
        by_cases hltj : j < mt
        · as_aux_lemma =>
          obtain ⟨x0, xa, xb, hx, han, hbn, hxa, hxb⟩ := row_edge HIO.out.2.1 (by rw [HM.out.1]; exact hltj)
          obtain ⟨g', rfl⟩ := owns_block HO.out.1 (by rw [HM.out.1]; exact hltj)
          obtain ⟨r0, r1, r2⟩ := (HO.out.1.below HC.out.below).at (g := g') rfl hx
          have r0' : wr.cell? ⟨g', j * 3, none⟩ = some (.int .i64 x0) := r0
          have r1' : wr.cell? ⟨g', j * 3 + 1, none⟩ = some (.int .i64 (xa : Int)) := r1
          have r2' : wr.cell? ⟨g', j * 3 + 2, none⟩ = some (.int .i64 (xb : Int)) := r2
          have hxm : (x0, (xa : Int), (xb : Int)) ∈ t := List.mem_of_getElem? hx
          have hwf : (Lit.int .i64 x0).wf = true := HG.out.2.wf _ (HIO.out.2.2.2.2.2 _ (List.mem_append_right _ hxm))
          have HN : Hid (∀ d ∈ o ++ t.take j, d.1 ≠ x0) := fun d hd e => by
            have hdR : d ∈ R := HIO.out.2.2.2.2.2 d (by
              rcases List.mem_append.1 hd with h1 | h1
              · exact List.mem_append_left _ h1
              · exact List.mem_append_right _ (List.mem_of_mem_take h1))
            have := HG.out.2.one d hdR _ (HIO.out.2.2.2.2.2 _ (List.mem_append_right _ hxm)) e
            rw [this] at hd
            rcases List.mem_append.1 hd with h1 | h1
            · exact HIO.out.2.2.2.2.1 _ h1 hxm
            · exact not_before HIO.out.2.2.2.1 hx h1
          have hbel : Below wr.heap.size wr ((wr.alloc (.cells #[.int .i64 x0, .int .i64 (xa : Int), .int .i64 (xb : Int)] 36)).drew) := ((Below.refl _ _).alloc (Nat.le_refl _) _).drew
          have HC2 : Hid (Cv w1 ((wr.alloc (.cells #[.int .i64 x0, .int .i64 (xa : Int), .int .i64 (xb : Int)] 36)).drew) (mb + 1) mb mo (o ++ t.take j) (covN n t o)) := HC.out.below' hbel
          have HT : Hid (Calls Try.prog 36 #[.int .i64 (n : Int), .slice (some ⟨g', 0, none⟩) mt tc, .agg #[.int .i64 x0, .int .i64 (xa : Int), .int .i64 (xb : Int)], .slice oa mo oc] ((wr.alloc (.cells #[.int .i64 x0, .int .i64 (xa : Int), .int .i64 (xb : Int)] 36)).drew) fun e w' => ∃ X W2, e = .returned (.agg #[.int .u64 (X : Int), .int .u64 0]) ∧ (w'.cell? ⟨mb + 1, 1, none⟩ = some (.map (some mb)) ∧ w'.cell? ⟨wr.heap.size, 0, none⟩ = some (.int .i64 x0) ∧ w'.cell? ⟨wr.heap.size, 1, none⟩ = some (.int .i64 (xa : Int)) ∧ w'.cell? ⟨wr.heap.size, 2, none⟩ = some (.int .i64 (xb : Int))) ∧ (Instr.mapUpdate 72 (.map (some mb)) (.int .i64 x0) (.agg #[.int .u64 (X : Int), .int .u64 0])).run Try.prog w' = .ok () W2 ∧ (W2.cell? ⟨mb + 1, 1, none⟩ = some (.map (some mb)) ∧ W2.cell? ⟨wr.heap.size, 0, none⟩ = some (.int .i64 x0) ∧ W2.cell? ⟨wr.heap.size, 1, none⟩ = some (.int .i64 (xa : Int)) ∧ W2.cell? ⟨wr.heap.size, 2, none⟩ = some (.int .i64 (xb : Int))) ∧ Hid (Cv w1 W2 (mb + 1) mb mo (o ++ t.take (j + 1)) (covN n t o))) := by
            have hq0 : ((wr.alloc (.cells #[.int .i64 x0, .int .i64 (xa : Int), .int .i64 (xb : Int)] 36)).drew).cell? ⟨wr.heap.size, 0, none⟩ = some (.int .i64 x0) := by simp
            have hq1 : ((wr.alloc (.cells #[.int .i64 x0, .int .i64 (xa : Int), .int .i64 (xb : Int)] 36)).drew).cell? ⟨wr.heap.size, 1, none⟩ = some (.int .i64 (xa : Int)) := by simp
            have hq2 : ((wr.alloc (.cells #[.int .i64 x0, .int .i64 (xa : Int), .int .i64 (xb : Int)] 36)).drew).cell? ⟨wr.heap.size, 2, none⟩ = some (.int .i64 (xb : Int)) := by simp
            have hmbl : mb < wr.heap.size := by
              obtain ⟨D, N, h1, _, _⟩ := HC.out.mp
              obtain ⟨es, clock, h1, _⟩ := h1
              exact lt_of_some h1
            refine (through_any n B1 B1 _ _ t o (x0, (xa : Int), (xb : Int)) _ (HO.out.1.below HC2.out.below) (HO.out.2.1.below HC2.out.below) HIO.out.2.1 HIO.out.1 hxm (by omega) (by rw [HM.out.1]; omega) (by rw [HM.out.2]; omega)).mono ?_
            rintro e w' ⟨rfl, hb'⟩
            have HC3 := HC2.out.below' hb'
            obtain ⟨W2, hup, hcv2, hgr⟩ := HC3.more (x0, (xa : Int), (xb : Int)) HN.out hwf (by rw [List.length_append, List.length_take, HM.out.2]; omega)
            rw [covN_tree hxm] at hup
            rw [List.append_assoc, ← take_one hx] at hcv2
            have k0 := cell_below hq0 hb'
            have k1 := cell_below hq1 hb'
            have k2 := cell_below hq2 hb'
            have kg : ∀ {i : Nat} {u : Value}, w'.cell? ⟨wr.heap.size, i, none⟩ = some u → W2.cell? ⟨wr.heap.size, i, none⟩ = some u := fun {i u} hk => by
              have hl := lt_of_cell hk
              simp only [World.cell?] at hk ⊢
              rw [hgr.block wr.heap.size hl (by simp; omega)]; exact hk
            exact ⟨_, W2, rfl, ⟨HC3.cell1, k0, k1, k2⟩, hup, ⟨hcv2.cell1, kg k0, kg k1, kg k2⟩, hcv2⟩
          have HG2 : Hid (G.GAt ((wr.alloc (.cells #[.int .i64 x0, .int .i64 (xa : Int), .int .i64 (xb : Int)] 36)).drew) B 58 36 p (n : Int) v R) := (HG.out.1.below HO.out.2.2).below HC2.out.below
          have hS0 : (((wr.alloc (.cells #[.int .i64 x0, .int .i64 (xa : Int), .int .i64 (xb : Int)] 36)).drew).cell? ⟨mb + 1, 1, none⟩ = some (.map (some mb)) ∧ ((wr.alloc (.cells #[.int .i64 x0, .int .i64 (xa : Int), .int .i64 (xb : Int)] 36)).drew).cell? ⟨wr.heap.size, 0, none⟩ = some (.int .i64 x0) ∧ ((wr.alloc (.cells #[.int .i64 x0, .int .i64 (xa : Int), .int .i64 (xb : Int)] 36)).drew).cell? ⟨wr.heap.size, 1, none⟩ = some (.int .i64 (xa : Int)) ∧ ((wr.alloc (.cells #[.int .i64 x0, .int .i64 (xa : Int), .int .i64 (xb : Int)] 36)).drew).cell? ⟨wr.heap.size, 2, none⟩ = some (.int .i64 (xb : Int))) := ⟨HC2.out.cell1, by simp, by simp, by simp⟩
          clear r0 r1 r2 hx hxa hxb hxm hbel HC2 HC HN
          go_upto_region 13 with fail
          clear r0' r1' r2'
          go_region_held (fun w' => (w'.cell? ⟨mb + 1, 1, none⟩ = some (.map (some mb)) ∧ w'.cell? ⟨wr.heap.size, 0, none⟩ = some (.int .i64 x0) ∧ w'.cell? ⟨wr.heap.size, 1, none⟩ = some (.int .i64 (xa : Int)) ∧ w'.cell? ⟨wr.heap.size, 2, none⟩ = some (.int .i64 (xb : Int)))) (with_reducible assumption)
            (first
            | (go_at_call 8; refine (G.nodes_any (n : Int) B p v R _ HG2.out).mono ?_; rintro e w' ⟨rfl, rfl⟩)
            | (go_at_call 36; refine HT.out.mono ?_; rintro e w' ⟨X, W2, rfl, hS1, hup, hS2, hcv2⟩))
          all_goals
            go_wp2_with fail
            go_roundw
            case rel => exact ⟨j + 1, by omega, by go_num, hcv2.out⟩
            case measure => simp [intOf]; omega
        · as_aux_lemma =>
          have HC1 : Hid (Cv w wr (mb + 1) mb mo (o ++ t) (covN n t o)) := by
            have hje : j = mt := by omega
            have h2 := HC.out
            rw [hje, ← HM.out.1, List.take_length] at h2
            exact h2.base HO.out.2.2
          have HUN : Hid _ := HU.out wr (mb + 1) mb (by rw [HM.out.2]; exact HC1.out)
          clear HC
          go_wp2_with fail
          refine Calls.mono HUN.out ?_
          rintro e w5 ⟨q, bq, rfl, hs5, hq5, hbq5, hb5⟩
          have HC5 : Hid (Cv w w5 (mb + 1) mb mo (o ++ t) (covN n t o)) := HC1.out.below' hb5
          obtain ⟨u2, hst⟩ := HC5.out.st
          have k2 : w5.cell? ⟨mb + 1, 2, none⟩ = some u2 := by simp [World.cell?, hst]
          have f2 : w5.frozen? ⟨mb + 1, 2, none⟩ = false := by simp [World.frozen?, hst]
          have hcl : mb + 1 < wr.heap.size := by obtain ⟨u, hu⟩ := HC1.out.st; exact lt_of_some hu
          have HF : Hid (Cv w (w5.setCell ⟨mb + 1, 2, none⟩ (.pointer (some ⟨q, 0, none⟩))) (mb + 1) mb mo (o ++ t) (covN n t o) ∧ (w5.setCell ⟨mb + 1, 2, none⟩ (.pointer (some ⟨q, 0, none⟩))).heap[mb + 1]? = some (.cells #[.int .i64 (mo : Int), .map (some mb), .pointer (some ⟨q, 0, none⟩)] 75) ∧ SetsAt (w5.setCell ⟨mb + 1, 2, none⟩ (.pointer (some ⟨q, 0, none⟩))) q bq L3) := by
            have hnew : (w5.setCell ⟨mb + 1, 2, none⟩ (.pointer (some ⟨q, 0, none⟩))).heap[mb + 1]? = some (.cells #[.int .i64 (mo : Int), .map (some mb), .pointer (some ⟨q, 0, none⟩)] 75) := by
              simp only [World.setCell, Array.getElem?_modify, hst]
              simp
            have hg : w5.grownBy (w5.setCell ⟨mb + 1, 2, none⟩ (.pointer (some ⟨q, 0, none⟩))) (some (mb + 1)) := ⟨rfl, rfl, rfl, by simp, fun k _ hne => Below.heap_setCell _ _ _ _ (fun e => hne (by rw [e]))⟩
            obtain ⟨D, N, h1, h2, h3⟩ := HC5.out.mp
            refine ⟨{ HC5.out with st := ⟨_, hnew⟩, mp := ⟨D, N, h1.kept hg (by simp), h2, h3⟩, below := HC5.out.below.grown hg HC5.out.below.size (fun j hj => by injection hj with hj; have := HC5.out.lc; omega) }, hnew, ?_⟩
            exact ⟨(Below.heap_setCell _ _ _ _ (show q ≠ mb + 1 by omega)).trans hs5.hp, (Below.heap_setCell _ _ _ _ (show bq ≠ mb + 1 by omega)).trans hs5.hb⟩
          clear hst hs5 hb5 HC5 HUN
          go_wp2_with fail
          go_ret
          refine ⟨mb + 1, mb, q, bq, rfl, ?_, ?_, HF.out.2.2⟩
          · rw [HTO.out.1, HTO.out.2, HM.out.2]; exact HF.out.1
          · rw [HTO.out.2, HM.out.2]; exact HF.out.2.1

end Go.Proofs.Ytpkdpddillebfab.S
namespace Go.Proofs.Ytpkdpddillebfab.S
open Go.RowKit Go.WideMaps Go.Maps

theorem zero78 (w : World) : (zeroValue 78).run Try.prog w = .ok (ringV 0) w := by kernel_rfl

theorem ring_back {v : Value} {x : Nat} {ps : List MemPlace} (h : ringR v = some (ringD x, ps)) : v = ringV x := by
  obtain ⟨c, rfl, hy⟩ := ringR_inv h
  have h1 := congrArg Prod.fst hy
  simp [ringD] at h1
  obtain ⟨h2, h3⟩ := h1
  rw [← h2, ← h3]
  rfl

/-- The Cover value, made: what is read of it. -/
structure Co (w : World) (c mb rest : Nat) (S : List Edg) (f : Edg → Nat) : Prop where
  st : ∃ v, w.heap[c]? = some (.cells #[.int .i64 (rest : Int), .map (some mb), v] 75)
  mp : ∃ D N, w.ownsMap Try.prog 3 ringR mb N D ∧ Rm D S f

theorem Cv.co {w0 w : World} {c mb rest : Nat} {S : List Edg} {f : Edg → Nat} (h : Cv w0 w c mb rest S f) : Co w c mb rest S f := by
  obtain ⟨D, N, h1, h2, _⟩ := h.mp
  exact ⟨h.st, D, N, h1, h2⟩

section
variable {w w' : World} {c mb rest : Nat} {S : List Edg} {f : Edg → Nat}
theorem Co.below (h : Co w c mb rest S f) (hb : Below w.heap.size w w') : Co w' c mb rest S f := by
  obtain ⟨v, hv⟩ := h.st
  obtain ⟨D, N, h1, h2⟩ := h.mp
  exact ⟨⟨v, (hb.block c (lt_of_some hv)).trans hv⟩, D, N, h1.kept (grown_below hb) (by simp), h2⟩

theorem Co.cell0 (h : Co w c mb rest S f) : w.cell? ⟨c, 0, none⟩ = some (.int .i64 (rest : Int)) := by
  obtain ⟨v, hv⟩ := h.st
  simp [World.cell?, hv]
theorem Co.cell1 (h : Co w c mb rest S f) : w.cell? ⟨c, 1, none⟩ = some (.map (some mb)) := by
  obtain ⟨v, hv⟩ := h.st
  simp [World.cell?, hv]

theorem Co.look_in (h : Co w c mb rest S f) {e : Edg} (he : e ∈ S) (hw : (Lit.int .i64 e.1).wf = true) :
    (Instr.lookup 72 (.map (some mb)) (.int .i64 e.1) true).run Try.prog w = .ok (.tuple #[ringV (f e), .bool true]) w ∧ (Instr.lookup 72 (.map (some mb)) (.int .i64 e.1) false).run Try.prog w = .ok (ringV (f e)) w := by
  obtain ⟨D, N, h1, h2⟩ := h.mp
  have hh : Maps.has D (.int .i64 e.1) = true := (h2.key _).2 ⟨e, he, rfl⟩
  obtain ⟨v, ps, r1, r2⟩ := h1.look_ok law3 Try.underlying72 (zero78 w) (ringR_mk 0) (key3 e.1 hw)
  obtain ⟨v', ps', q1, q2⟩ := h1.lookup law3 Try.underlying72 (zero78 w) (ringR_mk 0) (key3 e.1 hw)
  rw [h2.val e he] at r2 q2
  rw [r1, q1, hh, ring_back r2, ring_back q2]
  exact ⟨rfl, rfl⟩

theorem Co.look_out (h : Co w c mb rest S f) {x : Int} (hx : ∀ e ∈ S, e.1 ≠ x) (hw : (Lit.int .i64 x).wf = true) :
    (Instr.lookup 72 (.map (some mb)) (.int .i64 x) true).run Try.prog w = .ok (.tuple #[ringV 0, .bool false]) w := by
  obtain ⟨D, N, h1, h2⟩ := h.mp
  have hh : Maps.has D (.int .i64 x) = false := by
    rw [Bool.eq_false_iff]
    intro k
    obtain ⟨e, he, h3⟩ := (h2.key _).1 k
    injection h3 with _ h3
    exact hx e he h3.symm
  obtain ⟨v, ps, r1, r2⟩ := h1.look_ok law3 Try.underlying72 (zero78 w) (ringR_mk 0) (key3 x hw)
  rw [atKey_of_not_has hh] at r2
  rw [r1, hh, ring_back r2]
end

set_option maxRecDepth 100000 in
theorem eq101 (a b c d : Int) (w : World) : (Op.equalIn 10000 78 (.agg #[.int .u64 a, .int .u64 b]) (.agg #[.int .u64 c, .int .u64 d])).run Try.prog w = .ok (a == c && b == d) w := by
  have u3 := Try.underlying76
  have a3 := Try.isAgg76
  have z3 := Try.sizeOf76
  rw [show (10000 : Nat) = 9999 + 1 from rfl, Op.equalIn]
  simp only [Sem.run_bind, run_underlying Try.underlying78, Result.andThen_ok]
  simp only [Std.Legacy.Range.forIn_eq_forIn_range', Std.Legacy.Range.size, Nat.sub_zero, Nat.add_sub_cancel, Nat.div_one, List.range'_succ, List.range'_zero, List.forIn_cons, List.forIn_nil]
  go_simp
  by_cases h1 : a = c <;> by_cases h2 : b = d <;> simp [h1, h2]

end Go.Proofs.Ytpkdpddillebfab.S
namespace Go.Proofs
open Go.Shelf
end Go.Proofs
namespace Go.Proofs.Ytpkdpddillebfab.S
open Go.RowKit Go.WideMaps Go.Maps Go.Shelf

/-- The numbers of edges, as values. -/
def idV (R : List Edg) : List Value := R.map fun e => .int .i64 e.1

end Go.Proofs.Ytpkdpddillebfab.S
namespace Go.Proofs.Ytpkdpddillebfab.S
open Go.RowKit Go.WideMaps Go.Maps

/-- What all that asks a finished Cover needs. -/
structure Cx (w : World) (c mb rest : Nat) (S R : List Edg) (f : Edg → Nat) : Prop where
  co : Co w c mb rest S f
  mem : ∀ e, e ∈ S ↔ e ∈ R
  up : (R.map (·.1)).Pairwise (· < ·)
  wf : ∀ e ∈ R, (Lit.int .i64 e.1).wf = true
  len : R.length ≤ 60
  small : ∀ D N, w.ownsMap Try.prog 3 ringR mb N D → Rm D S f → w.ownsMap Try.prog 3 ringR mb 1000 D

theorem size_own {P : Program} {k : TypeId} {R : Value → Option (DataW Unit × List MemPlace)} {w : World} {b n N : Nat} {D : DataW Unit} (h : w.ownsMap P k R b n D) (hN : Maps.size D ≤ N) : w.ownsMap P k R b N D := by
  obtain ⟨es, clock, hb, F, hs, rfl⟩ := h
  refine ⟨es, clock, hb, F, ?_, rfl⟩
  simpa [Maps.size, length_sorted] using hN

theorem Cx.below {w w' : World} {c mb rest : Nat} {S R : List Edg} {f : Edg → Nat} (h : Cx w c mb rest S R f) (hb : Below w.heap.size w w') : Cx w' c mb rest S R f := by
  refine { h with co := h.co.below hb, small := fun D N ho hm => ?_ }
  obtain ⟨D0, N0, k1, k2⟩ := h.co.mp
  have k3 := h.small D0 N0 k1 k2
  have k4 := k3.kept (grown_below hb) (by simp : some mb ≠ none)
  obtain ⟨es, clock, hb1, F1, hs1, rfl⟩ := k4
  obtain ⟨es', clock', hb2, F2, hs2, rfl⟩ := ho
  rw [hb1] at hb2
  cases hb2
  exact ⟨es, clock, hb1, F2, hs1, rfl⟩

/-- The edges with these numbers, by their numbers. -/
theorem filter_ids (R : List Edg) (g : Edg → Bool) (pf : Int → Bool) (h : ∀ e ∈ R, pf e.1 = g e) : (R.map (·.1)).filter (fun x => !pf x) = (R.filter fun e => !g e).map (·.1) := by
  induction R with
  | nil => rfl
  | cons e R ih =>
    have h1 := h e (by simp)
    have h2 := ih (fun d hd => h d (by simp [hd]))
    simp only [List.map_cons, List.filter_cons, h1]
    cases hg : g e <;> simp [h2]

/-- What is asked of a number, by its edge. -/
def pfOf (R : List Edg) (g : Edg → Bool) (x : Int) : Bool := R.any fun e => e.1 == x && g e

theorem ids_one {R : List Edg} (h : (R.map (·.1)).Pairwise (· < ·)) : ∀ d ∈ R, ∀ e ∈ R, d.1 = e.1 → d = e := by
  induction R with
  | nil => intro d hd; simp at hd
  | cons a R ih =>
    rw [List.map_cons, List.pairwise_cons] at h
    intro d hd e he hde
    rcases List.mem_cons.1 hd with rfl | hd'
    · rcases List.mem_cons.1 he with rfl | he'
      · rfl
      · have := h.1 e.1 (List.mem_map.2 ⟨e, he', rfl⟩); omega
    · rcases List.mem_cons.1 he with rfl | he'
      · have := h.1 d.1 (List.mem_map.2 ⟨d, hd', rfl⟩); omega
      · exact ih h.2 d hd' e he' hde

theorem pfOf_at {R : List Edg} (h : (R.map (·.1)).Pairwise (· < ·)) (g : Edg → Bool) {e : Edg} (he : e ∈ R) : pfOf R g e.1 = g e := by
  unfold pfOf
  cases hg : g e with
  | true =>
    rw [List.any_eq_true]
    exact ⟨e, he, by simp [hg]⟩
  | false =>
    rw [List.any_eq_false]
    intro d hd k
    simp only [Bool.and_eq_true, beq_iff_eq] at k
    rw [ids_one h d hd e he k.1, hg] at k
    cases k.2

theorem row_mono {w : World} {B B' e s n : Nat} {v : Value} {xs : List Value} (h : w.ownsRow B e s v n xs) (hB : B' ≤ B) : w.ownsRow B' e s v n xs := by
  refine ⟨h.1, ?_⟩
  rcases h.2 with hh | ⟨g, cap, cur, h1, h2, h3, h4⟩
  · exact Or.inl hh
  · exact Or.inr ⟨g, cap, cur, h1, by omega, h3, h4⟩

end Go.Proofs.Ytpkdpddillebfab.S
