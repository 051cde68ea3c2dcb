/- Package flow: steps as keys, and what may yet be gone. -/
import Derived.Test.YtpkdpddillebfaaDoorFm
import Derived.Test.YtpkdpddillebfaaDoorOz
import Derived.Test.YtpkdpddillebfaaDoorMe
import Derived.DeepKeys4
import Derived.BigQuiet
namespace Go.Proofs.YtpkdpddillebfaaDoor.S
open Go.RowKit Go.WideMaps Go.Maps F

theorem laid146 : laidOutB Tryd.prog = true := by kernel_rfl
theorem row146 : 136 < Tryd.prog.types.size := of_decide_eq_true (by kernel_rfl)
theorem wide146 : (match Tryd.prog.underlying 136 with | some (.array _ _) | some (.struct _) => true | _ => false) = true := by kernel_rfl
set_option maxRecDepth 100000 in
theorem law136 : Keyed Tryd.prog 136 := Keyed.of_law (deep_law_laid laid146 (m := 3) (by omega) row146 (by kernel_rfl) wide146)
theorem kt146 : Tryd.prog.keyType 136 = true := by kernel_rfl
theorem fm146 (x y z : Int) : (Value.agg #[.int .i64 x, .int .i64 y, .int .i64 z]).formed Tryd.prog 136 = true := by kernel_rfl
theorem co146 : Tryd.prog.cellsOf 136 = 3 := by kernel_rfl
theorem co3' : Tryd.prog.cellsOf 3 = 1 := by kernel_rfl
theorem ts146 : ∃ m, Tryd.prog.types.size = m + 1 := ⟨Tryd.prog.types.size - 1, by have := row146; omega⟩

theorem triple_key_of {P : Program} {k t m : Nat} {f1 f2 f3 : Field} (hu : P.underlying k = some (.struct #[f1, f2, f3])) (h1 : f1.type = t) (h2 : f2.type = t) (h3 : f3.type = t) (o1 : f1.offset = 0) (o2 : f2.offset = 1) (o3 : f3.offset = 2) (n1 : (f1.name != "_") = true) (n2 : (f2.name != "_") = true) (n3 : (f3.name != "_") = true) (ht : P.underlying t = some (.int .i64)) (ck : P.cellsOf k = 3) (ct : P.cellsOf t = 1) (hs : P.types.size = m + 1) (hkt : P.keyType k = true)
    {x y z : Int} (hf : (Value.agg #[.int .i64 x, .int .i64 y, .int .i64 z]).formed P k = true) (hx : (Lit.int .i64 x).wf = true) (hy : (Lit.int .i64 y).wf = true) (hz : (Lit.int .i64 z).wf = true) : keyOf P k (.agg #[.int .i64 x, .int .i64 y, .int .i64 z]) = some (.string (keyBytes [.int .i64 x, .int .i64 y, .int .i64 z])) := by
  unfold keyOf
  rw [hu]
  simp only [hkt, hf, Bool.and_self, if_true, hs]
  have e1 : ∀ x : Int, (Lit.int .i64 x).wf = true → P.keyLits (m + 1) t [.int .i64 x] = some [.int .i64 x] := fun x hx => by simp [Program.keyLits, ht, hx]
  have : P.keyLits (m + 1 + 1) k (Value.agg #[.int .i64 x, .int .i64 y, .int .i64 z]).cells.toList = some [.int .i64 x, .int .i64 y, .int .i64 z] := by
    unfold Program.keyLits
    rw [hu]
    simp [Value.cells, ck, n1, n2, n3, h1, h2, h3, o1, o2, o3, ct, e1 x hx, e1 y hy, e1 z hz]
  rw [this]; rfl

/-- A step as a value, and as a key. -/
def vS (s : Stp) : Value := .agg #[.int .i64 s.1, .int .i64 s.2.1, .int .i64 s.2.2]
def sk (s : Stp) : Lit := .string (keyBytes [.int .i64 s.1, .int .i64 s.2.1, .int .i64 s.2.2])
def wfS (s : Stp) : Prop := (Lit.int .i64 s.1).wf = true ∧ (Lit.int .i64 s.2.1).wf = true ∧ (Lit.int .i64 s.2.2).wf = true

theorem wfS.bk {s : Stp} (h : wfS s) : wfS (bk s) := ⟨h.1, h.2.2, h.2.1⟩

theorem sk_key {s : Stp} (h : wfS s) : keyOf Tryd.prog 136 (vS s) = some (sk s) := by
  obtain ⟨m, hm⟩ := ts146
  exact triple_key_of Tryd.underlying136 rfl rfl rfl rfl rfl rfl rfl rfl rfl Tryd.underlying3 co146 co3' hm kt146 (fm146 _ _ _) h.1 h.2.1 h.2.2

theorem sk_inj {s t : Stp} (hs : wfS s) (ht : wfS t) (h : sk s = sk t) : s = t := by
  have h1 := law136.inj (sk_key hs) (h ▸ sk_key ht)
  unfold vS at h1
  simp at h1
  exact Prod.ext h1.1 (Prod.ext h1.2.1 h1.2.2)

theorem sk_lit (s : Stp) : WideAt.IsKeyLit (sk s) := trivial

/-- The map of what may yet be gone: of the steps of a net. -/
structure Room (M : DataW Unit) (D : List Stp) (r : Stp → Int) : Prop where
  key : ∀ kl, Maps.has M kl = true ↔ ∃ s, s ∈ D ∧ 0 < r s ∧ kl = sk s
  val : ∀ s, s ∈ D → 0 < r s → ∀ zd, M.atKey (sk s) zd = .lit (.int .i64 (r s))
  tidy : Tidy M
  wf : ∀ s, s ∈ D → wfS s
  pos : ∀ s, 0 ≤ r s
  small : ∀ s, r s ≤ 1000000

section
variable {M : DataW Unit} {D : List Stp} {r : Stp → Int}

theorem Room.has (h : Room M D r) {s : Stp} (hs : s ∈ D) : Maps.has M (sk s) = decide (0 < r s) := by
  rw [Bool.eq_iff_iff, h.key, decide_eq_true_iff]
  constructor
  · rintro ⟨t, ht, h1, h2⟩
    rw [sk_inj (h.wf s hs) (h.wf t ht) h2]; exact h1
  · intro h1; exact ⟨s, hs, h1, rfl⟩

theorem Room.at_ (h : Room M D r) {s : Stp} (hs : s ∈ D) : M.atKey (sk s) (.lit (.int .i64 0)) = .lit (.int .i64 (r s)) := by
  by_cases h1 : 0 < r s
  · exact h.val s hs h1 _
  · have h2 : Maps.has M (sk s) = false := by rw [h.has hs]; exact decide_eq_false h1
    rw [atKey_of_not_has h2]
    have := h.pos s
    have h3 : r s = 0 := by omega
    rw [h3]

theorem zero3 (w : World) : (zeroValue 3).run Tryd.prog w = .ok (.int .i64 0) w := by kernel_rfl

theorem Room.look (h : Room M D r) {s : Stp} (hs : s ∈ D) {w : World} {rm N : Nat} (hm : w.ownsMap Tryd.prog 136 (plainElem Tryd.prog 3) rm N M) :
    (Instr.lookup 160 (.map (some rm)) (vS s) true).run Tryd.prog w = .ok (.tuple #[.int .i64 (r s), .bool (decide (0 < r s))]) w ∧ (Instr.lookup 160 (.map (some rm)) (vS s) false).run Tryd.prog w = .ok (.int .i64 (r s)) w := by
  have hw0 : (Lit.int .i64 0).wf = true := by decide
  obtain ⟨v, ps, h1, h2⟩ := hm.look_ok law136 Tryd.underlying160 (zero3 w) (plainElem_int Tryd.underlying3 hw0) (sk_key (h.wf s hs))
  rw [h.at_ hs] at h2
  obtain ⟨c, rfl, hc, _⟩ := plainElem_int_inv Tryd.underlying3 h2
  obtain ⟨c', h3, h4, _⟩ := hm.lookup_int law136 Tryd.underlying160 Tryd.underlying3 (zero3 w) (sk_key (h.wf s hs))
  rw [h.at_ hs] at h4
  simp at hc h4
  rw [h1, h3, h.has hs, ← hc.1, ← h4]
  exact ⟨rfl, rfl⟩

/-- One step's room is laid anew. -/
theorem Room.put (h : Room M D r) {s : Stp} (hs : s ∈ D) {c : Int} (h0 : 0 < c) (hc : c ≤ 1000000) : Room (M.put (sk s) (.lit (.int .i64 c))) D (fun x => if x = s then c else r x) := by
  refine ⟨fun kl => ?_, fun t ht hp zd => ?_, h.tidy.put (sk_lit _) _, h.wf, fun t => ?_, fun t => ?_⟩
  · by_cases hk : kl = sk s
    · rw [hk, has_put_same h.tidy.isMap (sk_lit _)]
      exact ⟨fun _ => ⟨s, hs, by rw [if_pos rfl]; exact h0, rfl⟩, fun _ => rfl⟩
    · rw [has_put_other hk, h.key]
      constructor
      · rintro ⟨t, ht, h1, h2⟩
        have : t ≠ s := fun e => hk (by rw [h2, e])
        exact ⟨t, ht, by rw [if_neg this]; exact h1, h2⟩
      · rintro ⟨t, ht, h1, h2⟩
        have : t ≠ s := fun e => hk (by rw [h2, e])
        rw [if_neg this] at h1
        exact ⟨t, ht, h1, h2⟩
  · by_cases e : t = s
    · rw [e, if_pos rfl, atKey_put_same h.tidy.isMap (sk_lit _)]
    · rw [if_neg e] at hp ⊢
      rw [atKey_put_other (fun k => e (sk_inj (h.wf t ht) (h.wf s hs) k))]
      exact h.val t ht hp zd
  · show 0 ≤ (if t = s then c else r t)
    split
    · omega
    · exact h.pos t
  · show (if t = s then c else r t) ≤ 1000000
    split
    · exact hc
    · exact h.small t

/-- A step that is used up is there no more. -/
theorem Room.del (h : Room M D r) {s : Stp} (hs : s ∈ D) (d : DataW Unit) : Room ((M.put (sk s) d).del (sk s)) D (fun x => if x = s then 0 else r x) := by
  refine ⟨fun kl => ?_, fun t ht hp zd => ?_, (h.tidy.put (sk_lit _) _).del _, h.wf, fun t => ?_, fun t => ?_⟩
  · by_cases hk : kl = sk s
    · rw [hk, has_del_same]
      refine ⟨fun k => by simp at k, ?_⟩
      rintro ⟨t, ht, h1, h2⟩
      rw [if_pos (sk_inj (h.wf s hs) (h.wf t ht) h2).symm] at h1
      omega
    · rw [has_del_other hk, has_put_other hk, h.key]
      constructor
      · rintro ⟨t, ht, h1, h2⟩
        have : t ≠ s := fun e => hk (by rw [h2, e])
        exact ⟨t, ht, by rw [if_neg this]; exact h1, h2⟩
      · rintro ⟨t, ht, h1, h2⟩
        have : t ≠ s := fun e => hk (by rw [h2, e])
        rw [if_neg this] at h1
        exact ⟨t, ht, h1, h2⟩
  · by_cases e : t = s
    · rw [if_pos e] at hp; omega
    · rw [if_neg e] at hp ⊢
      have hne : sk t ≠ sk s := fun k => e (sk_inj (h.wf t ht) (h.wf s hs) k)
      rw [atKey_del_other hne, atKey_put_other hne]
      exact h.val t ht hp zd
  · show 0 ≤ (if t = s then 0 else r t)
    split
    · omega
    · exact h.pos t
  · show (if t = s then 0 else r t) ≤ 1000000
    split
    · omega
    · exact h.small t

end

set_option maxHeartbeats 400000 in
theorem back_any (s : Stp) (w : World) : Calls Tryd.prog 88 #[vS s] w fun e w' => e = .returned (vS (bk s)) ∧ Below w.heap.size w w' := by
  obtain ⟨x, y, z⟩ := s
  unfold vS bk
  go_enter Tryd.func88, Tryd.ntmps88
  go_wp2_with fail
  refine bodyPost_ret (v := .agg #[.int .i64 x, .int .i64 z, .int .i64 y]) (by simp [results, Tryd.results88, go_sem]) rfl ⟨rfl, ?_⟩
  exact ((Below.refl _ _).alloc (Nat.le_refl _) _).alloc (by simp) _

/-- A net in memory: what may yet be gone. -/
structure NetR (w : World) (p lm rm N : Nat) (M : DataW Unit) (D : List Stp) (r : Stp → Int) : Prop where
  hp : w.heap[p]? = some (.cells #[.map (some lm), .map (some rm)] 162)
  mp : w.ownsMap Tryd.prog 136 (plainElem Tryd.prog 3) rm N M
  rom : Room M D r

theorem NetR.below {w w' : World} {p lm rm N : Nat} {M : DataW Unit} {D : List Stp} {r : Stp → Int} (h : NetR w p lm rm N M D r) (hb : Below w.heap.size w w') : NetR w' p lm rm N M D r :=
  ⟨(hb.block p (lt_of_some h.hp)).trans h.hp, h.mp.kept (grown_below hb) (by simp), h.rom⟩

theorem NetR.ne {w : World} {p lm rm N : Nat} {M : DataW Unit} {D : List Stp} {r : Stp → Int} (h : NetR w p lm rm N M D r) : p ≠ rm := fun e => by
  obtain ⟨es, clock, hb, _⟩ := h.mp
  rw [← e, h.hp] at hb
  simp at hb

set_option maxHeartbeats 1000000 in
set_option maxRecDepth 100000 in
theorem free_any (p lm rm N : Nat) (M : DataW Unit) (D : List Stp) (r : Stp → Int) (s : Stp) (w : World) (h : NetR w p lm rm N M D r) (hs : s ∈ D) :
    Calls Tryd.prog 85 #[.pointer (some ⟨p, 0, none⟩), vS s] w fun e w' => e = .returned (.bool (decide (0 < r s))) ∧ Below w.heap.size w w' := by
  have hbA : Below w.heap.size w (w.alloc (.cells #[.int .i64 s.1, .int .i64 s.2.1, .int .i64 s.2.2] 136)) := (Below.refl _ _).alloc (Nat.le_refl _) _
  have hA := h.below hbA
  have lk := fun n => ((hA.below (below_drewN (Below.refl _ _) n)).rom.look hs (hA.below (below_drewN (Below.refl _ _) n)).mp).1
  have c1 : (w.alloc (.cells #[.int .i64 s.1, .int .i64 s.2.1, .int .i64 s.2.2] 136)).cell? ⟨p, 1, none⟩ = some (.map (some rm)) := by simp [World.cell?, hA.hp]
  have HB : Hid (Below w.heap.size w (w.alloc (.cells #[.int .i64 s.1, .int .i64 s.2.1, .int .i64 s.2.2] 136))) := hbA
  obtain ⟨b, hb⟩ : ∃ b, decide (0 < r s) = b := ⟨_, rfl⟩
  obtain ⟨k, hk⟩ : ∃ k, r s = k := ⟨_, rfl⟩
  rw [hb, hk] at lk
  rw [hb]
  unfold vS at lk ⊢
  obtain ⟨x, y, z⟩ := s
  simp only at lk c1 HB ⊢
  clear h hbA hA hb hk hs
  go_enter Tryd.func85, Tryd.ntmps85
  go_wp2_with fail
  go_quiet (fail)
  go_wp2_with fail
  go_ret
  exact ⟨rfl, below_drewN HB.out nq⟩

end Go.Proofs.YtpkdpddillebfaaDoor.S
