/- Package flow: a net without places; one step more. -/
import Derived.Test.YtpkdpddillebfaaDoorFc
namespace Go.Proofs.YtpkdpddillebfaaDoor.S
open Go Go.ChangeMaps Go.MapKept Go.WideShapes
open Go.RowKit Go.WideMaps Go.Maps F

/-- A block is no row's. -/
def NoRow (f : Int → Value) (k : Nat) : Prop := ∀ x, (f x).ownBlock ≠ some k

/-- But for rows, and for one map. -/
structure Ro (f : Int → Value) (lm : Nat) (w w' : World) : Prop where
  os : w'.os = w.os
  tape : w'.tape = w.tape
  output : w'.output = w.output
  size : w.heap.size ≤ w'.heap.size
  block : ∀ k, k < w.heap.size → k ≠ lm → NoRow f k → w'.heap[k]? = w.heap[k]?

section
variable {w w' : World} {lm N B : Nat} {L : DataW Value} {f : Int → Value} {g : Int → List Stp}

/-- One step more leaves a place: from the world ahead of the row with that step alone. -/
theorem Lv.lay (h : Lv w lm N B L f g) (ty : TypeId) {x : Int} (hx : (Lit.int .i64 x).wf = true) (s : Stp) (hl : (g x).length ≤ 1000) (hN : N ≤ 1000000) :
    ∃ v' w1 w2 L', (Instr.lookup 159 (.map (some lm)) (.int .i64 x) false).run Tryd.prog w = .ok (f x) w ∧ (Instr.lookup 159 (.map (some lm)) (.int .i64 x) false).run Tryd.prog (w.alloc (.cells #[.int .i64 s.1, .int .i64 s.2.1, .int .i64 s.2.2] 136)) = .ok (f x) (w.alloc (.cells #[.int .i64 s.1, .int .i64 s.2.1, .int .i64 s.2.2] 136)) ∧
      (Builtin.append_ #[137, 137] ty #[f x, .slice (some ⟨w.heap.size, 0, none⟩) 1 1]).run Tryd.prog (w.alloc (.cells #[.int .i64 s.1, .int .i64 s.2.1, .int .i64 s.2.2] 136)) = .ok v' w1 ∧ (Instr.mapUpdate 159 (.map (some lm)) (.int .i64 x) v').run Tryd.prog w1 = .ok () w2 ∧
      Lv w2 lm (N + 1) B L' (fun y => if y = x then v' else f y) (fun y => if y = x then g x ++ [s] else g y) ∧ Ro f lm w w1 ∧ Ro f lm w w2 ∧ (∀ k, k < w.heap.size → NoRow f k → NoRow (fun y => if y = x then v' else f y) k) := by
  have hb : Below w.heap.size w (w.alloc (.cells #[.int .i64 s.1, .int .i64 s.2.1, .int .i64 s.2.2] 136)) := (Below.refl _ _).alloc (Nat.le_refl _) _
  have ha := h.below hb
  have hn := heap_alloc_new w (.cells #[.int .i64 s.1, .int .i64 s.2.1, .int .i64 s.2.2] 136)
  obtain ⟨v', w1, w2, L', r1, r2, l2, g1, g2, f1⟩ := ha.more ty hx (s := s) (b := w.heap.size) hn hl hN
  have ro1 : Ro f lm w w1 := ⟨g1.os.trans hb.os, g1.tape.trans hb.tape, g1.output.trans hb.output, Nat.le_trans hb.size g1.size, fun k hk _ hr => (g1.block k (Nat.lt_of_lt_of_le hk hb.size) (fun e => hr x e.symm)).trans (hb.block k hk)⟩
  refine ⟨v', w1, w2, L', h.look hx, ha.look hx, r1, r2, l2, ro1, ⟨g2.os.trans ro1.os, g2.tape.trans ro1.tape, g2.output.trans ro1.output, Nat.le_trans ro1.size g2.size, fun k hk hne hr => (g2.block k (Nat.lt_of_lt_of_le hk ro1.size) (fun e => hne (by injection e))).trans (ro1.block k hk hne hr)⟩, fun k hk hr y => ?_⟩
  show (if y = x then v' else f y).ownBlock ≠ some k
  by_cases e : y = x
  · rw [if_pos e]
    intro e2
    rcases f1 with f1 | f1
    · exact hr x (f1.symm.trans e2)
    · rw [f1] at e2
      injection e2 with e2
      rw [World.size_alloc] at e2
      omega
  · rw [if_neg e]; exact hr y

end

theorem Room.wider {M : DataW Unit} {D D' : List Stp} {r : Stp → Int} (h : Room M D r) (hd : ∀ t ∈ D, t ∈ D') (h0 : ∀ t ∈ D', t ∉ D → r t = 0) (hw : ∀ t ∈ D', wfS t) : Room M D' r := by
  have back : ∀ t ∈ D', 0 < r t → t ∈ D := fun t ht hp => by
    by_cases h1 : t ∈ D
    · exact h1
    · have := h0 t ht h1; omega
  refine ⟨fun kl => ?_, fun t ht hp => h.val t (back t ht hp) hp, h.tidy, hw, h.pos, h.small⟩
  rw [h.key]
  constructor
  · rintro ⟨t, h1, h2, h3⟩; exact ⟨t, hd t h1, h2, h3⟩
  · rintro ⟨t, h1, h2, h3⟩; exact ⟨t, back t h1 h2, h2, h3⟩

/-- A net in memory. -/
structure NetA (w : World) (p lm rm N B : Nat) (M : DataW Unit) (L : DataW Value) (D : List Stp) (r : Stp → Int) (f : Int → Value) (g : Int → List Stp) : Prop where
  net : NetR w p lm rm N M D r
  lv : Lv w lm N B L f g
  pb : p < B
  rb : rm < B
  ne : lm ≠ rm

theorem NetA.below {w w' : World} {p lm rm N B : Nat} {M : DataW Unit} {L : DataW Value} {D : List Stp} {r : Stp → Int} {f : Int → Value} {g : Int → List Stp} (h : NetA w p lm rm N B M L D r f g) (hb : Below w.heap.size w w') : NetA w' p lm rm N B M L D r f g :=
  { h with net := h.net.below hb, lv := h.lv.below hb }

set_option maxHeartbeats 1000000 in
theorem newNet_any (w : World) : Calls Tryd.prog 82 #[] w fun e w' => ∃ p lm rm, e = .returned (.pointer (some ⟨p, 0, none⟩)) ∧ NetA w' p lm rm 0 w'.heap.size (.map []) (.map []) [] (fun _ => 0) (fun _ => .slice none 0 0) (fun _ => []) ∧ w.heap.size ≤ p ∧ w.heap.size ≤ lm ∧ w.heap.size ≤ rm ∧ Below w.heap.size w w' := by
  have hmm := @run_makeMap Tryd.prog
  go_enter Tryd.func82, Tryd.ntmps82
  go_wp2_with fail

  go_ret
  obtain ⟨W1, hW1⟩ : ∃ W1, w.alloc (.map #[] 0) = W1 := ⟨_, rfl⟩
  obtain ⟨W2, hW2⟩ : ∃ W2, W1.alloc (.map #[] 0) = W2 := ⟨_, rfl⟩
  have z1 : W1.heap.size = w.heap.size + 1 := by rw [← hW1]; simp
  have z2 : W2.heap.size = w.heap.size + 2 := by rw [← hW2]; simp [z1]
  have m1 : W1.ownsMap Tryd.prog 3 hold w.heap.size 0 (.map []) := by rw [← hW1]; exact World.ownsMap_made w _ _ _
  have m2 : W2.ownsMap Tryd.prog 136 (plainElem (H := Unit) Tryd.prog 3) (w.heap.size + 1) 0 (.map []) := by rw [← hW2, ← z1]; exact World.ownsMap_made W1 _ _ _
  refine ⟨w.heap.size + 2, w.heap.size, w.heap.size + 1, rfl, ⟨⟨?_, ?_, ?_⟩, ⟨?_, tidy_empty, fun x => rfl, fun x => World.ownsRow_nil _ _ 136 3, fun x y k _ hk => by simp [Value.ownBlock] at hk, ?_, Nat.le_refl _⟩, ?_, ?_, by omega⟩, by omega, by omega, by omega, ?_⟩
  · rw [hW1, hW2]
    have := heap_alloc_new W2 (.cells #[.map (some w.heap.size), .map (some (w.heap.size + 1))] 162)
    rw [z2] at this
    exact this
  · rw [hW1, hW2]; exact m2.alloc _
  · exact ⟨fun kl => ⟨fun h => (by cases h), fun ⟨t, h, _⟩ => (by simp at h)⟩, fun s hs => (by simp at hs), tidy_empty, fun s hs => (by simp at hs), fun _ => Int.le_refl _, fun _ => by omega⟩
  · rw [hW1]; exact (m1.alloc _).alloc _
  · simp only [World.size_alloc]; omega
  · simp only [World.size_alloc]; omega
  · simp only [World.size_alloc]; omega
  · exact (((Below.refl _ _).alloc (Nat.le_refl _) _).alloc (by simp) _).alloc (by simp; omega) _

/-- But for rows, and for both maps; and what was no row's is none. -/
structure Out (lm rm : Nat) (f0 f : Int → Value) (w w' : World) : Prop where
  os : w'.os = w.os
  tape : w'.tape = w.tape
  output : w'.output = w.output
  size : w.heap.size ≤ w'.heap.size
  block : ∀ k, k < w.heap.size → k ≠ lm → k ≠ rm → NoRow f0 k → w'.heap[k]? = w.heap[k]?
  norow : ∀ k, k < w.heap.size → NoRow f0 k → NoRow f k

/-- The cells that lay reads. -/
def C5 (w : World) (p lm rm bx : Nat) (s : Stp) : Prop := w.cell? ⟨p, 0, none⟩ = some (.map (some lm)) ∧ w.cell? ⟨p, 1, none⟩ = some (.map (some rm)) ∧ w.cell? ⟨bx, 0, none⟩ = some (.int .i64 s.1) ∧ w.cell? ⟨bx, 1, none⟩ = some (.int .i64 s.2.1) ∧ w.cell? ⟨bx, 2, none⟩ = some (.int .i64 s.2.2)

/-- Between the steps of lay. -/
structure Mid (w0 : World) (f0 : Int → Value) (w : World) (p lm rm bx N B : Nat) (M : DataW Unit) (D : List Stp) (r : Stp → Int) (f : Int → Value) (g : Int → List Stp) (s : Stp) : Prop where
  net : NetR w p lm rm N M D r
  lv : ∃ L, Lv w lm N B L f g
  pb : p < B
  rb : rm < B
  ne : lm ≠ rm
  box : w.heap[bx]? = some (.cells #[.int .i64 s.1, .int .i64 s.2.1, .int .i64 s.2.2] 136)
  norow : NoRow f bx
  fr : Out lm rm f0 f w0 w
  bb : B ≤ bx
  b0 : B ≤ w0.heap.size

section
variable {w0 w w' : World} {p lm rm bx N B : Nat} {M : DataW Unit} {D : List Stp} {r : Stp → Int} {f0 f : Int → Value} {g : Int → List Stp} {s : Stp}

theorem Mid.c5 (h : Mid w0 f0 w p lm rm bx N B M D r f g s) : C5 w p lm rm bx s := by
  refine ⟨?_, ?_, ?_, ?_, ?_⟩ <;> simp [World.cell?, h.net.hp, h.box]

theorem Mid.plm (h : Mid w0 f0 w p lm rm bx N B M D r f g s) : p ≠ lm := fun e => by
  obtain ⟨L, hl⟩ := h.lv
  obtain ⟨es, clock, hb, _⟩ := hl.mp
  rw [← e, h.net.hp] at hb
  simp at hb

theorem Mid.bxlm (h : Mid w0 f0 w p lm rm bx N B M D r f g s) : bx ≠ lm := fun e => by
  obtain ⟨L, hl⟩ := h.lv
  have := hl.lt
  have := h.bb
  omega

theorem Mid.low (h : Mid w0 f0 w p lm rm bx N B M D r f g s) {k : Nat} (hk : k < B) : NoRow f k := fun x e => by
  obtain ⟨L, hl⟩ := h.lv
  have := (hl.off e).1
  omega

theorem Mid.below (h : Mid w0 f0 w p lm rm bx N B M D r f g s) (hb : Below w.heap.size w w') : Mid w0 f0 w' p lm rm bx N B M D r f g s := by
  obtain ⟨L, hl⟩ := h.lv
  exact { h with net := h.net.below hb, lv := ⟨L, hl.below hb⟩, box := (hb.block bx (lt_of_some h.box)).trans h.box, fr := ⟨hb.os.trans h.fr.os, hb.tape.trans h.fr.tape, hb.output.trans h.fr.output, Nat.le_trans h.fr.size hb.size, fun k h1 h2 h3 h4 => (hb.block k (Nat.lt_of_lt_of_le h1 h.fr.size)).trans (h.fr.block k h1 h2 h3 h4), h.fr.norow⟩ }

/-- The cells, where but rows and one map were written. -/
theorem Mid.ro (h : Mid w0 f0 w p lm rm bx N B M D r f g s) (ro : Ro f lm w w') : C5 w' p lm rm bx s := by
  have h1 := (ro.block p (lt_of_some h.net.hp) h.plm (h.low h.pb)).trans h.net.hp
  have h2 := (ro.block bx (lt_of_some h.box) h.bxlm h.norow).trans h.box
  refine ⟨?_, ?_, ?_, ?_, ?_⟩ <;> simp [World.cell?, h1, h2]

/-- One row is one step longer. -/
theorem Mid.lay (h : Mid w0 f0 w p lm rm bx N B M D r f g s) (ty : TypeId) {x : Int} (hx : (Lit.int .i64 x).wf = true) (t : Stp) (hl : (g x).length ≤ 1000) (hN : N ≤ 1000000) :
    ∃ v' w1 w2, (Instr.lookup 159 (.map (some lm)) (.int .i64 x) false).run Tryd.prog w = .ok (f x) w ∧ (Instr.lookup 159 (.map (some lm)) (.int .i64 x) false).run Tryd.prog (w.alloc (.cells #[.int .i64 t.1, .int .i64 t.2.1, .int .i64 t.2.2] 136)) = .ok (f x) (w.alloc (.cells #[.int .i64 t.1, .int .i64 t.2.1, .int .i64 t.2.2] 136)) ∧
      (Builtin.append_ #[137, 137] ty #[f x, .slice (some ⟨w.heap.size, 0, none⟩) 1 1]).run Tryd.prog (w.alloc (.cells #[.int .i64 t.1, .int .i64 t.2.1, .int .i64 t.2.2] 136)) = .ok v' w1 ∧ (Instr.mapUpdate 159 (.map (some lm)) (.int .i64 x) v').run Tryd.prog w1 = .ok () w2 ∧
      C5 w p lm rm bx s ∧ C5 (w.alloc (.cells #[.int .i64 t.1, .int .i64 t.2.1, .int .i64 t.2.2] 136)) p lm rm bx s ∧ C5 w1 p lm rm bx s ∧ C5 w2 p lm rm bx s ∧
      Mid w0 f0 w2 p lm rm bx (N + 1) B M D r (fun y => if y = x then v' else f y) (fun y => if y = x then g x ++ [t] else g y) s := by
  obtain ⟨L, hv⟩ := h.lv
  obtain ⟨v', w1, w2, L', e1, e2, e3, e4, l2, ro1, ro2, nr⟩ := hv.lay ty hx t hl hN
  refine ⟨v', w1, w2, e1, e2, e3, e4, h.c5, (h.below ((Below.refl _ _).alloc (Nat.le_refl _) _)).c5, h.ro ro1, h.ro ro2, ⟨⟨(ro2.block p (lt_of_some h.net.hp) h.plm (h.low h.pb)).trans h.net.hp, ?_, h.net.rom⟩, ⟨L', l2⟩, h.pb, h.rb, h.ne, (ro2.block bx (lt_of_some h.box) h.bxlm h.norow).trans h.box, nr bx (lt_of_some h.box) h.norow, ⟨ro2.os.trans h.fr.os, ro2.tape.trans h.fr.tape, ro2.output.trans h.fr.output, Nat.le_trans h.fr.size ro2.size, fun k h1 h2 h3 h4 => (ro2.block k (Nat.lt_of_lt_of_le h1 h.fr.size) h2 (h.fr.norow k h1 h4)).trans (h.fr.block k h1 h2 h3 h4), fun k h1 h4 => nr k (Nat.lt_of_lt_of_le h1 h.fr.size) (h.fr.norow k h1 h4)⟩, h.bb, h.b0⟩⟩
  obtain ⟨es, clock, hb, rest⟩ := h.net.mp.mono (Nat.le_succ N)
  exact ⟨es, clock, (ro2.block rm (lt_of_some hb) h.ne.symm (h.low h.rb)).trans hb, rest⟩

theorem Mid.wider {D' : List Stp} (h : Mid w0 f0 w p lm rm bx N B M D r f g s) (hd : ∀ t ∈ D, t ∈ D') (h0 : ∀ t ∈ D', t ∉ D → r t = 0) (hw : ∀ t ∈ D', wfS t) : Mid w0 f0 w p lm rm bx N B M D' r f g s :=
  { h with net := ⟨h.net.hp, h.net.mp, h.net.rom.wider hd h0 hw⟩ }

/-- One step may be gone so often. -/
theorem Mid.room (h : Mid w0 f0 w p lm rm bx N B M D r f g s) {t : Stp} (ht : t ∈ D) {c : Int} (h0 : 0 < c) (hc : c ≤ 1000) (hN : N ≤ 1000000) :
    ∃ w2, (Instr.mapUpdate 160 (.map (some rm)) (vS t) (.int .i64 c)).run Tryd.prog w = .ok () w2 ∧ C5 w2 p lm rm bx s ∧ ∃ M', Mid w0 f0 w2 p lm rm bx (N + 1) B M' D (fun q => if q = t then c else r q) f g s := by
  obtain ⟨w2, r2, m2, g2⟩ := h.net.mp.update law136 Tryd.underlying160 (by unfold maxLen; omega) (sk_key (h.net.rom.wf t ht)) (val := .int .i64 c) (plainElem_int Tryd.underlying3 (wf_small (by omega) (by omega)))
  have hbr : bx ≠ rm := fun e => by have := h.rb; have := h.bb; omega
  obtain ⟨L, hl⟩ := h.lv
  have hl2 := hl.grown g2 h.ne.symm h.rb
  have hm : Mid w0 f0 w2 p lm rm bx (N + 1) B _ D (fun q => if q = t then c else r q) f g s :=
    ⟨h.net.stored g2 m2 (h.net.rom.put ht h0 (by omega)), ⟨L, { hl2 with mp := hl2.mp.mono (Nat.le_succ N) }⟩, h.pb, h.rb, h.ne, (g2.block bx (lt_of_some h.box) (fun e => hbr (by injection e))).trans h.box, h.norow, ⟨g2.os.trans h.fr.os, g2.tape.trans h.fr.tape, g2.output.trans h.fr.output, Nat.le_trans h.fr.size g2.size, fun k h1 h2 h3 h4 => (g2.block k (Nat.lt_of_lt_of_le h1 h.fr.size) (fun e => h3 (by injection e))).trans (h.fr.block k h1 h2 h3 h4), h.fr.norow⟩, h.bb, h.b0⟩
  exact ⟨w2, r2, hm.c5, _, hm⟩

end

end Go.Proofs.YtpkdpddillebfaaDoor.S
