/- The loop over the nodes: what it needs. -/
import Derived.Test.YtigodbamphejmaaPt
namespace Go.Proofs.Ytigodbamphejmaa.S
open Go.RowKit Go.WideMaps Go.Maps

section
variable {P : Program} (w : World) {ops : Array Oper} {rest : List Oper} {o : Oper} {a : Act} {Q : Exit → Act → World → Prop}

/-- The step of a range over a map from numbers to truth. -/
theorem wpList_next_ranges_ib (hg : o.guard = none) (it : Operand) (hop : o.op = Op.next it false) (k e : TypeId) (K : Keyed P k) (hk : P.underlying k = some (.int .i64)) (he : P.underlying e = some .bool)
    (b r n : Nat) (D : DataW Unit) (left : Lit → Bool) (cnt : Nat) (hit : a.eval it = .pointer (some ⟨r, 0, none⟩)) (h : w.ranges P k (plainElem P e) b r n D left cnt)
    (hDone : cnt = 0 → (∀ kl, left kl = false) → wpList P ops Q rest (a.put o.dst (.tuple #[.bool false])) w)
    (hMore : ∀ (x : Int) (c : Value) (w' : World) (cnt' : Nat), left (.int .i64 x) = true → Maps.has D (.int .i64 x) = true → w'.ranges P k (plainElem P e) b r n D (fun z => left z && !z.sameKey (.int .i64 x)) cnt' → cnt' < cnt →
      w.grownBy w' (some r) → w'.heap.size = w.heap.size → (Instr.entry (.pointer (some ⟨r, 0, none⟩))).run P w' = .ok (.tuple #[.int .i64 x, c]) w' → wpList P ops Q rest (a.put o.dst (.tuple #[.bool true, .int .i64 x, c])) w') :
    wpList P ops Q (o :: rest) a w :=
  wpList_next_ranges w hg it hop k K (plainElem P e) (Value.int .i64) Value.bool (fun key kl hkey => by obtain ⟨x, rfl, _⟩ := Maps.keyOf_int_inv hk hkey; exact ⟨x, rfl⟩) (fun v y hv => by
      unfold plainElem at hv
      rw [he] at hv
      cases v <;> simp at hv
      exact ⟨_, rfl⟩)
    b r n D left cnt hit h hDone (fun x c kl y w' cnt' hkey hlk hv hat hrg hlt hgr hsz hen => by
      obtain ⟨x', ex, rfl, hwx⟩ := Maps.keyOf_int_inv hk hkey
      cases ex
      have hy : y.1 = .lit (.bool c) := by
        rw [plainElem_bool he] at hv
        rw [← Option.some.inj hv]
      exact hMore x (.bool c) w' cnt' hlk (has_true_of_atKey (fun zd => (hat zd).trans hy)) hrg hlt hgr hsz hen)
end

section
variable {R : List (Int × Int × Int)} {l : List Nat} {n : Nat} {Ds : DataW Unit} {Dx : Nat → DataW Unit}

/-- Which blocks a node has, when all are gone through. -/
def NodeK (R : List (Int × Int × Int)) (l : List Nat) (n : Nat) (Dx : Nat → DataW Unit) : Prop := ∀ z, z < n → ∃ ks, KeysM (Dx z) ks ∧ ∀ c, c ∈ ks ↔ (c < nk l R.length ∧ Tk R l c z)

theorem nodeK (h : InvS R l n (nk l R.length) 0 Ds Dx) : NodeK R l n Dx := fun z hz => by
  obtain ⟨ks, h1, h2⟩ := h.nd z hz
  refine ⟨ks, h1, fun c => ?_⟩
  rw [h2]
  constructor
  · rintro ⟨b, hb, ht⟩; exact ⟨hb.1, b, hb.2.1, ht⟩
  · rintro ⟨hc, b, hb, ht⟩; exact ⟨b, ⟨hc, hb, .inl hc⟩, ht⟩

theorem two_of {ks : List Nat} (h : ks.Nodup) : 1 < ks.length ↔ ∃ a b, a ∈ ks ∧ b ∈ ks ∧ a ≠ b := by
  match ks, h with
  | [], _ => simp
  | [a], _ => simp
  | a :: b :: r, h =>
    refine ⟨fun _ => ⟨a, b, by simp, by simp, fun e => ?_⟩, fun _ => by simp⟩
    have := (List.nodup_cons.1 h).1
    exact this (by rw [e]; simp)

theorem node_cut (h : Lab4 R l) (hk : NodeK R l n Dx) {z : Nat} (hz : z < n) : 1 < Maps.size (Dx z) ↔ cutP R z := by
  obtain ⟨ks, h1, h2⟩ := hk z hz
  rw [h1.size, two_of h1.nd, h.cut]
  constructor
  · rintro ⟨a, b, ha, hb, hne⟩; exact ⟨a, b, ((h2 a).1 ha).1, ((h2 b).1 hb).1, hne, ((h2 a).1 ha).2, ((h2 b).1 hb).2⟩
  · rintro ⟨a, b, ha, hb, hne, ta, tb⟩; exact ⟨a, b, (h2 a).2 ⟨ha, ta⟩, (h2 b).2 ⟨hb, tb⟩, hne⟩

theorem node_has (hk : NodeK R l n Dx) {z : Nat} (hz : z < n) {c : Int} (hc : Maps.has (Dx z) (.int .i64 c) = true) : ∃ c' : Nat, c = (c' : Int) ∧ c' < nk l R.length ∧ Tk R l c' z := by
  obtain ⟨ks, h1, h2⟩ := hk z hz
  obtain ⟨c', rfl⟩ := Int.eq_ofNat_of_zero_le (h1.neg c hc)
  exact ⟨c', rfl, (h2 c').1 ((h1.key c').1 hc)⟩

theorem node_all (hk : NodeK R l n Dx) {z : Nat} (hz : z < n) (b : Nat) (ht : Tk R l b z) (hb : b < nk l R.length) : Maps.has (Dx z) (.int .i64 (b : Int)) = true := by
  obtain ⟨ks, h1, h2⟩ := hk z hz
  exact (h1.key b).2 ((h2 b).2 ⟨hb, ht⟩)
end

theorem AtS.but {w w' : World} {ms ga n N m : Nat} {Ds : DataW Unit} {Dx : Nat → DataW Unit} (h : AtS w ms ga n N Ds Dx) (hb : But m w w') (hm : ga + 1 + n ≤ m) : AtS w' ms ga n N Ds Dx :=
  h.kept (row := some m) ⟨hb.os, hb.tape, hb.output, hb.size, fun k hk hne => hb.block k hk (fun e => hne (by rw [e]))⟩ (by have := h.ne; simp; omega) (by simp; omega) (fun x hx => by simp; omega)

theorem row_but {w w' : World} {base m n : Nat} {v : Value} {xs : List Value} (h : w.ownsRow base 3 1 v n xs) (hb : But m w w') (hm : m < base) : w'.ownsRow base 3 1 v n xs :=
  h.kept (row := some m) ⟨hb.os, hb.tape, hb.output, hb.size, fun k hk hne => hb.block k hk (fun e => hne (by rw [e]))⟩ (.inr (fun e => by have := (h.lt m e).1; omega))

/-- What the law has behind y nodes. -/
def Nd (w0 W w : World) (n : Nat) (R : List (Int × Int × Int)) (l : List Nat) (Ds : DataW Unit) (Dx : Nat → DataW Unit) (m y yc : Nat) (v : Value) : Prop :=
  ∃ cl D2 ks2, w.ownsRow W.heap.size 3 1 v cl.length (natsV cl) ∧ CutsB R yc cl ∧ w.ownsMap Try.prog 31 (plainElem Try.prog 3) m 1000000 D2 ∧ Bo (Vn R l y) D2 ks2 ∧ AtS w w0.heap.size (w0.heap.size + 1) n 100 Ds Dx ∧ Below w0.heap.size w0 w ∧ W.heap.size ≤ w.heap.size

end Go.Proofs.Ytigodbamphejmaa.S
