/- Package flow: take. -/
import Derived.Test.YtpkdpddillebfaaDoorFa
namespace Go.Proofs.YtpkdpddillebfaaDoor.S
open Go Go.ChangeMaps Go.MapKept Go.WideShapes
open Go.RowKit Go.WideMaps Go.Maps F

/-- delete, as one step of a region that draws. -/
theorem step_delete_run {P : Program} {ops : Array Oper} {o : Oper} {a : Act} {w : World} {K : Act → World → Prop} {Q : Exit → Act → World → Prop} {E : Prop}
    (hg : o.guard = none) (d x : Operand) (dT sT : TypeId) (hop : o.op = Op.call { callee := Callee.builtin Builtin.delete, args := #[d, x], argTypes := #[dT, sT] })
    (v u : Value) (hd : a.eval d = v) (hx : a.eval x = u) {v' : Value} {w' : World} (hr : (Builtin.delete_ #[dT, sT] o.type #[v, u]).run P w = .ok v' w') (hK : K (a.put o.dst v') w') :
    if Region.wanted o (yielded ops a.tmps) = true then Oper.wp P o a w K Q else E := by
  have hw : Region.wanted o (yielded ops a.tmps) = true := by simp [Region.wanted, hg]
  rw [if_pos hw]
  unfold Oper.wp
  simp [execOp, hop, resolve, invoke, builtin, hd, hx, hr, Result.andThen]
  exact hK

section
variable {H : Type} {P : Program} {k : TypeId} {R : Value → Option (DataW H × List MemPlace)} {w : World} {b n : Nat} {D : DataW H}

/-- An entry that is not there yet: it is laid with nought, and stored into afterwards. -/
theorem entry_fresh {t e : TypeId} (h : w.ownsMap P k R b n D) (K : Keyed P k) (ht : P.underlying t = some (.map k e)) (hn : n < maxLen) {z : Value} (hz : (zeroValue e).run P w = .ok z w) {key : Value} {kl : Lit} (hkey : keyOf P k key = some kl) {zd : DataW H} {zp : List MemPlace} (hzd : R z = some (zd, zp)) (hno : Maps.has D kl = false) :
    ∃ st w1, (Instr.mapEntry t (.map (some b)) key).run P w = .ok (.tuple #[z, .int .i64 st]) w1 ∧ w1.ownsMap P k R b (n + 1) (D.put kl zd) ∧ w.grownBy w1 (some b) ∧
      ∀ val d ps, R val = some (d, ps) → ∃ w2, (Instr.entryStore t (.map (some b)) (.int .i64 st) val).run P w1 = .ok () w2 ∧ w2.ownsMap P k R b (n + 1) (D.put kl d) ∧ w.grownBy w2 (some b) := by
  have h0 := h
  obtain ⟨v, st, w1, r1, g1, s1, hst⟩ := entry_pair h0 K ht hn hz hkey
  obtain ⟨es, clock, hb, F, hs, rfl⟩ := h
  have hno2 : ∀ x ∈ es.toList, x.key ≠ key := by
    rcases Maps.fit_look false K ht hz hb F hkey with ⟨_, h2, _⟩ | ⟨e0, y, _, _, _, _, hat, _⟩
    · exact h2
    · rw [has_true_of_atKey hat] at hno; cases hno
  rcases K.find w hkey es.toList F.keys with ⟨h1, h2⟩ | ⟨j, e0, h1, h2, h3⟩
  · have hr : (Instr.mapEntry t (.map (some b)) key).run P w = .ok (.tuple #[z, .int .i64 clock]) (setBlock w b (.map (es.push ⟨key, z, clock⟩) (clock + 1))) := by
      simp [Instr.mapEntry, run_underlying ht, MapKept.run_getObj_map hb, K.check w false hkey, h1, hz, MapKept.run_setObj_map _ hb, Result.andThen, setBlock, goInt]
    have hu : (Instr.mapUpdate t (.map (some b)) key z).run P w = .ok () (setBlock w b (.map (es.push ⟨key, z, clock⟩) (clock + 1))) := by
      simp [Instr.mapUpdate, run_underlying ht, MapKept.run_getObj_map hb, K.check w false hkey, h1, MapKept.run_setObj_map _ hb, Result.andThen, setBlock]
    obtain ⟨w', hrun, hown, hgr⟩ := h0.update K ht hn hkey hzd
    rw [hu] at hrun
    injection hrun with _ hw
    rw [hr] at r1
    injection r1 with e1 e2
    subst hw
    subst e2
    injection e1 with e1
    have e3 : st = (clock : Int) := by
      have := congrArg (fun a => a[1]?) e1
      simp at this
      exact this.symm
    subst e3
    exact ⟨_, _, hr, hown, g1, hst⟩
  · exact absurd h3 (hno2 e0 (List.mem_of_getElem? h2))

/-- An entry that is there: nothing changes till it is stored into. -/
theorem entry_stay {t e : TypeId} (h : w.ownsMap P k R b n D) (K : Keyed P k) (ht : P.underlying t = some (.map k e)) (hn : n < maxLen) {z : Value} (hz : (zeroValue e).run P w = .ok z w) {key : Value} {kl : Lit} (hkey : keyOf P k key = some kl) (hno : Maps.has D kl = true) :
    ∃ v st, (Instr.mapEntry t (.map (some b)) key).run P w = .ok (.tuple #[v, .int .i64 st]) w ∧
      ∀ val d ps, R val = some (d, ps) → ∃ w2, (Instr.entryStore t (.map (some b)) (.int .i64 st) val).run P w = .ok () w2 ∧ w2.ownsMap P k R b (n + 1) (D.put kl d) ∧ w.grownBy w2 (some b) := by
  have h0 := h
  obtain ⟨v, st, w1, r1, g1, s1, hst⟩ := entry_pair h0 K ht hn hz hkey
  suffices hw : w1 = w by subst hw; exact ⟨v, st, r1, hst⟩
  obtain ⟨es, clock, hb, F, hs, rfl⟩ := h
  rcases K.find w hkey es.toList F.keys with ⟨h1, h2⟩ | ⟨j, e0, h1, h2, h3⟩
  · exfalso
    rcases Maps.fit_look false K ht hz hb F hkey with ⟨_, _, h4⟩ | ⟨e0, y, hm0, h3, _, _, _, _⟩
    · rw [has_false_of_atKey h4] at hno; cases hno
    · exact h2 e0 hm0 h3
  · have hj : es[j]? = some e0 := by simpa using h2
    have hm : (es.modify j fun e => { e with key := key }) = es := by
      apply Array.ext
      · simp
      · intro i h4 h5
        rw [Array.getElem_modify]
        split
        · next hij =>
          subst hij
          have : es[j] = e0 := (Array.getElem?_eq_some_iff.1 hj).2
          rw [this, ← h3]
        · rfl
    have hw : setBlock w b (.map es clock) = w := by
      have hl := lt_of_some hb
      have : w.heap.setIfInBounds b (.map es clock) = w.heap := by
        apply Array.ext
        · simp
        · intro i h4 h5
          rw [Array.getElem_setIfInBounds]
          split
          · next hij => subst hij; exact (Array.getElem?_eq_some_iff.1 hb).2.symm
          · rfl
      unfold setBlock
      rw [this]
    have hr : (Instr.mapEntry t (.map (some b)) key).run P w = .ok (.tuple #[e0.val, .int .i64 e0.born]) (setBlock w b (.map (es.modify j fun e => { e with key := key }) clock)) := by
      simp [Instr.mapEntry, run_underlying ht, MapKept.run_getObj_map hb, K.check w false hkey, h1, hj, h3, K.stays w hkey, MapKept.run_setObj_map _ hb, Result.andThen, setBlock, goInt]
    rw [hr, hm, hw] at r1
    injection r1 with _ e2
    exact e2.symm
end

/-- 'm[s] = c' by an entry: looked up ahead of the entry or behind it. -/
theorem room_entry {M : DataW Unit} {D : List Stp} {r : Stp → Int} {w : World} {rm N : Nat} (h : Room M D r) (hm : w.ownsMap Tryd.prog 136 (plainElem Tryd.prog 3) rm N M) (hN : N ≤ 1000000) {s : Stp} (hs : s ∈ D) {c : Int} (hc : (Lit.int .i64 c).wf = true) :
    ∃ v st w1 w2, (Instr.lookup 160 (.map (some rm)) (vS s) false).run Tryd.prog w = .ok (.int .i64 (r s)) w ∧ (Instr.mapEntry 160 (.map (some rm)) (vS s)).run Tryd.prog w = .ok (.tuple #[v, .int .i64 st]) w1 ∧ (Instr.lookup 160 (.map (some rm)) (vS s) false).run Tryd.prog w1 = .ok (.int .i64 (r s)) w1 ∧ (Instr.entryStore 160 (.map (some rm)) (.int .i64 st) (.int .i64 c)).run Tryd.prog w1 = .ok () w2 ∧ w2.ownsMap Tryd.prog 136 (plainElem Tryd.prog 3) rm (N + 1) (M.put (sk s) (.lit (.int .i64 c))) ∧ w.grownBy w1 (some rm) ∧ w.grownBy w2 (some rm) := by
  have hl := (h.look hs hm).2
  have hwf := h.wf s hs
  have hml : N < maxLen := by unfold maxLen; omega
  by_cases h1 : 0 < r s
  · obtain ⟨v, st, e1, e2⟩ := entry_stay hm law136 Tryd.underlying160 hml (zero3 w) (sk_key hwf) (by rw [h.has hs]; exact decide_eq_true h1)
    obtain ⟨w2, h5, h6, h7⟩ := e2 (.int .i64 c) _ _ (plainElem_int Tryd.underlying3 hc)
    exact ⟨v, st, w, w2, hl, e1, hl, h5, h6, ⟨rfl, rfl, rfl, Nat.le_refl _, fun _ _ _ => rfl⟩, h7⟩
  · have h0 : r s = 0 := by have := h.pos s; omega
    obtain ⟨st, w1, e1, hm1, g1, e2⟩ := entry_fresh hm law136 Tryd.underlying160 hml (zero3 w) (sk_key hwf) (plainElem_int Tryd.underlying3 (a := 0) (by decide)) (by rw [h.has hs]; exact decide_eq_false h1)
    obtain ⟨w2, h5, h6, h7⟩ := e2 (.int .i64 c) _ _ (plainElem_int Tryd.underlying3 hc)
    refine ⟨_, st, w1, w2, hl, e1, ?_, h5, h6, g1, h7⟩
    obtain ⟨c', k1, k2, _⟩ := hm1.lookup_int law136 Tryd.underlying160 Tryd.underlying3 (zero3 w1) (sk_key hwf)
    rw [atKey_put_same h.tidy.isMap (sk_lit s)] at k2
    rw [k1, ← (Lit.int.inj (DataW.lit.inj k2)).2, h0]

theorem keep_cell {w w' : World} {b o rm : Nat} {v : Value} (hg : w.grownBy w' (some rm)) (hne : b ≠ rm) (h : w.cell? ⟨b, o, none⟩ = some v) : w'.cell? ⟨b, o, none⟩ = some v := by
  have hl := lt_of_cell h
  simp only [World.cell?] at h ⊢
  rw [hg.block b hl (fun e => hne (by injection e))]
  exact h

theorem map_ne_cells {w : World} {b rm N : Nat} {M : DataW Unit} {cs : Array Value} {t : TypeId} (hm : w.ownsMap Tryd.prog 136 (plainElem Tryd.prog 3) rm N M) (h : w.heap[b]? = some (.cells cs t)) : b ≠ rm := fun e => by
  obtain ⟨es, clock, hb, _⟩ := hm
  rw [← e, h] at hb
  simp at hb

theorem But.of_grown {w w' : World} {rm : Nat} (hg : w.grownBy w' (some rm)) : But rm w w' := ⟨hg.os, hg.tape, hg.output, hg.size, fun k hk hn => hg.block k hk (fun e => hn (by injection e))⟩

/-- The cells that take reads. -/
abbrev Cs (w' : World) (p rm bx : Nat) (x y z : Int) : Prop := w'.cell? ⟨p, 1, none⟩ = some (.map (some rm)) ∧ w'.cell? ⟨bx, 0, none⟩ = some (.int .i64 x) ∧ w'.cell? ⟨bx, 1, none⟩ = some (.int .i64 y) ∧ w'.cell? ⟨bx, 2, none⟩ = some (.int .i64 z)

theorem Cs.grown {w w' : World} {p rm bx : Nat} {x y z : Int} (hp : p ≠ rm) (hb : bx ≠ rm) (hg : w.grownBy w' (some rm)) (h : Cs w p rm bx x y z) : Cs w' p rm bx x y z := ⟨keep_cell hg hp h.1, keep_cell hg hb h.2.1, keep_cell hg hb h.2.2.1, keep_cell hg hb h.2.2.2⟩

theorem Cs.below {w w' : World} {p rm bx : Nat} {x y z : Int} (hg : Below w.heap.size w w') (h : Cs w p rm bx x y z) : Cs w' p rm bx x y z := ⟨cell_below h.1 hg, cell_below h.2.1 hg, cell_below h.2.2.1 hg, cell_below h.2.2.2 hg⟩

theorem NetR.stored {w w' : World} {p lm rm N N' : Nat} {M M' : DataW Unit} {D : List Stp} {r r' : Stp → Int} (h : NetR w p lm rm N M D r) (hg : w.grownBy w' (some rm)) (hm : w'.ownsMap Tryd.prog 136 (plainElem Tryd.prog 3) rm N' M') (hr : Room M' D r') : NetR w' p lm rm N' M' D r' :=
  ⟨(hg.block p (lt_of_some h.hp) (fun e => h.ne (by injection e))).trans h.hp, hm, hr⟩

/-- What take leaves. -/
def TakePost (w : World) (p lm rm N : Nat) (D : List Stp) (r : Stp → Int) (e : Ending) (w' : World) : Prop :=
  e = .returned (.tuple #[]) ∧ ∃ M' N', NetR w' p lm rm N' M' D r ∧ N' ≤ N + 2 ∧ But rm w w'

/-- The way back is open once more. -/
theorem take_back {w wr : World} {p lm rm N bx : Nat} {M : DataW Unit} {D : List Stp} {r : Stp → Int} {x y z b1 : Int} (h : NetR wr p lm rm N M D r) (hc : Cs wr p rm bx x y z) (hbr : bx ≠ rm) (hs : (x, z, y) ∈ D) (hN : N ≤ 950000) (hsm : r (x, z, y) ≤ 1000) (hb1 : r (x, z, y) = b1) (hb : But rm w wr) :
    Calls Tryd.prog 88 #[.agg #[.int .i64 x, .int .i64 y, .int .i64 z]] wr fun e w' => e = .returned (.agg #[.int .i64 x, .int .i64 z, .int .i64 y]) ∧ Cs w' p rm bx x y z ∧ ∃ v st w1 w2,
      (Instr.lookup 160 (.map (some rm)) (.agg #[.int .i64 x, .int .i64 z, .int .i64 y]) false).run Tryd.prog w' = .ok (.int .i64 b1) w' ∧
      (Instr.mapEntry 160 (.map (some rm)) (.agg #[.int .i64 x, .int .i64 z, .int .i64 y])).run Tryd.prog w' = .ok (.tuple #[v, .int .i64 st]) w1 ∧
      (Instr.lookup 160 (.map (some rm)) (.agg #[.int .i64 x, .int .i64 z, .int .i64 y]) false).run Tryd.prog w1 = .ok (.int .i64 b1) w1 ∧
      (Instr.entryStore 160 (.map (some rm)) (.int .i64 st) (.int .i64 (IntKind.i64.wrap (b1 + 1)))).run Tryd.prog w1 = .ok () w2 ∧
      Cs w1 p rm bx x y z ∧ Cs w2 p rm bx x y z ∧ Hid (∃ M' N', NetR w2 p lm rm N' M' D (fun q => if q = (x, z, y) then b1 + 1 else r q) ∧ N' ≤ N + 1 ∧ But rm w w2) := by
  refine (back_any (x, y, z) wr).mono ?_
  rintro e w' ⟨rfl, hb'⟩
  have h' := h.below hb'
  have hc' := hc.below hb'
  have h0 := h.rom.pos (x, z, y)
  rw [hb1] at h0 hsm
  have hw : IntKind.i64.wrap (b1 + 1) = b1 + 1 := by rw [IntKind.wrap_i64]; omega
  obtain ⟨v, st, w1, w2, e1, e2, e3, e4, hm2, hg1, hg2⟩ := room_entry h'.rom h'.mp (by omega) hs (c := b1 + 1) (wf_small (by omega) (by omega))
  rw [hb1] at e1 e3
  refine ⟨rfl, hc', v, st, w1, w2, e1, e2, e3, by rw [hw]; exact e4, hc'.grown h.ne hbr hg1, hc'.grown h.ne hbr hg2, _, _, h'.stored hg2 hm2 (h'.rom.put hs (by omega) (by omega)), Nat.le_refl _, ?_⟩
  exact (hb.trans (But.of_below hb')).trans (But.of_grown hg2)

set_option maxHeartbeats 4000000 in
set_option maxRecDepth 100000 in
theorem take_any (p lm rm N : Nat) (M : DataW Unit) (D : List Stp) (r : Stp → Int) (s : Stp) (w : World) (h : NetR w p lm rm N M D r) (hs : s ∈ D) (hD : Net D) (h1 : 1 ≤ r s) (hN : N ≤ 900000) (hsm : ∀ x, r x ≤ 1000) :
    Calls Tryd.prog 86 #[.pointer (some ⟨p, 0, none⟩), vS s] w (TakePost w p lm rm N D (tk r s)) := by
  have hwf := h.rom.wf s hs
  have hbk := hD.back s hs
  have hne := hD.ne s hs
  -- the box, and the first entry
  obtain ⟨W, hW⟩ : ∃ W, w.alloc (.cells #[.int .i64 s.1, .int .i64 s.2.1, .int .i64 s.2.2] 136) = W := ⟨_, rfl⟩
  have hbA : Below w.heap.size w W := by rw [← hW]; exact (Below.refl _ _).alloc (Nat.le_refl _) _
  have hbx : W.heap[w.heap.size]? = some (.cells #[.int .i64 s.1, .int .i64 s.2.1, .int .i64 s.2.2] 136) := by rw [← hW]; exact heap_alloc_new w _
  have hA := h.below hbA
  have hAd : NetR W.drew p lm rm N M D r := hA.below (Below.refl _ _).drew
  have hr1 : (Lit.int .i64 (r s - 1)).wf = true := wf_small (by omega) (by have := hsm s; omega)
  obtain ⟨v1, st1, w1, w2, e1, e2, e3, e4, hm2, hg1, hg2⟩ := room_entry hAd.rom hAd.mp (by omega) hs hr1
  obtain ⟨k, hk⟩ : ∃ k, r s = k := ⟨_, rfl⟩
  obtain ⟨bx, hbxe⟩ : ∃ bx, w.heap.size = bx := ⟨_, rfl⟩
  have hpr := hAd.ne
  have hbr : bx ≠ rm := by rw [← hbxe]; exact map_ne_cells hAd.mp hbx
  rw [hbxe] at hbx
  have hS0 : Cs W.drew p rm bx s.1 s.2.1 s.2.2 := by
    refine ⟨by simp [World.cell?, hAd.hp], ?_, ?_, ?_⟩ <;> simp [World.cell?, show W.drew.heap[bx]? = _ from hbx]
  have hS1 := hS0.grown hpr hbr hg1
  have hS2 := hS0.grown hpr hbr hg2
  have hsk := hsm s
  rw [hk] at e1 e3 e4 hm2 h1 hsk
  have hwk : IntKind.i64.wrap (k - 1) = k - 1 := by rw [IntKind.wrap_i64]; omega
  -- what is looked up then
  have lk2 : ∀ n, (Instr.lookup 160 (.map (some rm)) (vS s) false).run Tryd.prog (w2.drewN n) = .ok (.int .i64 (k - 1)) (w2.drewN n) := fun n => by
    have hm3 : (w2.drewN n).ownsMap Tryd.prog 136 (plainElem Tryd.prog 3) rm (N + 1) _ := hm2.kept (grown_below (below_drewN (Below.refl _ _) n)) (by simp)
    obtain ⟨c', k1, k2, _⟩ := hm3.lookup_int law136 Tryd.underlying160 Tryd.underlying3 (zero3 _) (sk_key hwf)
    rw [atKey_put_same hAd.rom.tidy.isMap (sk_lit s)] at k2
    rw [k1, ← (Lit.int.inj (DataW.lit.inj k2)).2]
  -- the two ways on
  have HEnd : Hid (∀ wr M' r', (∀ q, r' q = if q = s then k - 1 else r q) → NetR wr p lm rm (N + 1) M' D r' → Cs wr p rm bx s.1 s.2.1 s.2.2 → But rm w2 wr → Calls Tryd.prog 88 #[vS s] wr.drew fun e w' => e = .returned (vS (bk s)) ∧ Cs w' p rm bx s.1 s.2.1 s.2.2 ∧ ∃ v st b1 w1 w2,
      (Instr.lookup 160 (.map (some rm)) (vS (bk s)) false).run Tryd.prog w' = .ok (.int .i64 b1) w' ∧
      (Instr.mapEntry 160 (.map (some rm)) (vS (bk s))).run Tryd.prog w' = .ok (.tuple #[v, .int .i64 st]) w1 ∧
      (Instr.lookup 160 (.map (some rm)) (vS (bk s)) false).run Tryd.prog w1 = .ok (.int .i64 b1) w1 ∧
      (Instr.entryStore 160 (.map (some rm)) (.int .i64 st) (.int .i64 (IntKind.i64.wrap (b1 + 1)))).run Tryd.prog w1 = .ok () w2 ∧
      Cs w1 p rm bx s.1 s.2.1 s.2.2 ∧ Cs w2 p rm bx s.1 s.2.1 s.2.2 ∧ Hid (TakePost w p lm rm N D (tk r s) (.returned (.tuple #[])) w2)) := by
    intro wr M' r' hr' hn hc hb
    have hbs : bk s ≠ s := bk_ne hne
    have hrb : r' (bk s) = r (bk s) := by rw [hr', if_neg hbs]
    have hbw : But rm w wr := ((But.of_below (hbA.trans (Below.refl _ _).drew)).trans (But.of_grown hg2)).trans hb
    have hnd : NetR wr.drew p lm rm (N + 1) M' D r' := hn.below (Below.refl _ _).drew
    refine (take_back (w := w) (b1 := r (bk s)) hnd (hc.below (Below.refl _ _).drew) hbr hbk (by omega) (by have := hsm (bk s); show r' (bk s) ≤ 1000; omega) hrb (hbw.trans (But.of_below (Below.refl _ _).drew))).mono ?_
    rintro e w' ⟨rfl, k1, v, st, w1, w2, k2, k3, k4, k5, k6, k7, M4, N4, k8, k9, k10⟩
    refine ⟨rfl, k1, v, st, r (bk s), w1, w2, k2, k3, k4, k5, k6, k7, rfl, M4, N4, ?_, by omega, k10⟩
    have : (fun q => if q = (s.1, s.2.2, s.2.1) then r (bk s) + 1 else r' q) = tk r s := by
      funext q
      rw [tk_at r hne, hr']
      show (if q = bk s then _ else _) = _
      by_cases h1 : q = bk s
      · rw [if_pos h1, if_neg (by rw [h1]; exact hbs), if_pos h1, h1]
      · rw [if_neg h1, if_neg h1, hk]
    rw [this] at k8
    exact k8
  have HPut : Hid (k ≠ 1 → ∀ n, NetR (w2.drewN n) p lm rm (N + 1) (M.put (sk s) (.lit (.int .i64 (k - 1)))) D (fun q => if q = s then k - 1 else r q)) := fun h2 n =>
    (hAd.stored hg2 hm2 (hAd.rom.put hs (by omega) (by omega))).below (below_drewN (Below.refl _ _) n)
  have HDel : Hid (k = 1 → ∀ n, ∃ w3, (Builtin.delete_ #[160, 136] 0 #[.map (some rm), vS s]).run Tryd.prog (w2.drewN n).drew = .ok (.tuple #[]) w3 ∧ NetR w3 p lm rm (N + 1) ((M.put (sk s) (.lit (.int .i64 (k - 1)))).del (sk s)) D (fun q => if q = s then k - 1 else r q) ∧ Cs w3 p rm bx s.1 s.2.1 s.2.2 ∧ But rm w2 w3) := fun h2 n => by
    have hbn : Below w2.heap.size w2 (w2.drewN n).drew := (below_drewN (Below.refl _ _) n).drew
    have hm3 : (w2.drewN n).drew.ownsMap Tryd.prog 136 (plainElem Tryd.prog 3) rm (N + 1) _ := hm2.kept (grown_below hbn) (by simp)
    obtain ⟨w3, r3, o3, t3⟩ := hm3.drop law136 Tryd.underlying160 (sk_key hwf) 0
    have hg3 := t3.grown
    have hd := hAd.rom.del hs (.lit (.int .i64 (k - 1)))
    have hk0 : k - 1 = 0 := by omega
    refine ⟨w3, r3, ?_, (hS2.below hbn).grown hpr hbr hg3, (But.of_below hbn).trans (But.of_grown hg3)⟩
    have hp2 : (w2.drewN n).drew.heap[p]? = some (.cells #[.map (some lm), .map (some rm)] 162) := (hbn.block p (by have := lt_of_some hAd.hp; have := hg2.size; omega)).trans ((hg2.block p (lt_of_some hAd.hp) (fun e => hpr (by injection e))).trans hAd.hp)
    refine ⟨(hg3.block p (lt_of_some hp2) (fun e => hpr (by injection e))).trans hp2, o3, ?_⟩
    rw [hk0] at hd ⊢
    exact hd
  unfold vS at e1 e2 e3 lk2 ⊢
  have HW : Hid (w.alloc (.cells #[.int .i64 s.1, .int .i64 s.2.1, .int .i64 s.2.2] 136) = W) := hW
  have HBX : Hid (w.heap.size = bx) := hbxe
  obtain ⟨x, y, z⟩ := s
  unfold vS bk at HEnd
  unfold vS at HDel
  unfold Cs at hS0 hS1 hS2 HEnd HDel
  simp only at e1 e2 e3 e4 hS0 hS1 hS2 HW lk2 HEnd HPut HDel ⊢
  clear h hs hD hN hsm hwf hbk hne hW hbA hbx hA hAd hr1 hm2 hg1 hg2 hk hbxe hpr hbr
  go_enter Tryd.func86, Tryd.ntmps86
  go_upto_region 1 with fail
  rw [HW.out, HBX.out]
  go_region_held (fun w' => (w'.cell? ⟨p, 1, none⟩ = some (.map (some rm)) ∧ w'.cell? ⟨bx, 0, none⟩ = some (.int .i64 x) ∧ w'.cell? ⟨bx, 1, none⟩ = some (.int .i64 y) ∧ w'.cell? ⟨bx, 2, none⟩ = some (.int .i64 z))) (with_reducible assumption) (fail)
  all_goals
    clear e1 e2 e3 e4 hS0 hS1 HW HBX
    by_cases hk1 : k = 1
    · have hl0 : ∀ n, (Instr.lookup 160 (.map (some rm)) (.agg #[.int .i64 x, .int .i64 y, .int .i64 z]) false).run Tryd.prog (w2.drewN n) = .ok (.int .i64 0) (w2.drewN n) := fun n => by rw [lk2 n, hk1]; rfl
      have HD2 : Hid _ := HDel.out hk1
      clear lk2 hwk HPut HDel
      go_wp2_with fail
      go_quiet (fail)
      go_upto_region 3 with fail
      obtain ⟨w3, r3, hn3, hS3, hb3⟩ := HD2.out nq
      go_region_law (refine step_delete_run rfl (.tmp 23) (.tmp 24) 160 136 rfl (.map (some rm)) (.agg #[.int .i64 x, .int .i64 y, .int .i64 z]) (by first | rfl | (simp [Act.eval]; done) | (simp [Act.eval, Act.put]; done)) (by first | rfl | (simp [Act.eval]; done) | (simp [Act.eval, Act.put]; done)) r3 ?_)
      all_goals
        have HCall : Hid _ := HEnd.out w3 _ _ (fun q => rfl) hn3 hS3 hb3
        have hS3d : (w3.drew.cell? ⟨p, 1, none⟩ = some (.map (some rm)) ∧ w3.drew.cell? ⟨bx, 0, none⟩ = some (.int .i64 x) ∧ w3.drew.cell? ⟨bx, 1, none⟩ = some (.int .i64 y) ∧ w3.drew.cell? ⟨bx, 2, none⟩ = some (.int .i64 z)) := hS3
        clear hl0 hn3 HEnd HD2 hS2 hS3 hb3 r3
        go_upto_region 4 with fail
        go_region_held (fun w' => (w'.cell? ⟨p, 1, none⟩ = some (.map (some rm)) ∧ w'.cell? ⟨bx, 0, none⟩ = some (.int .i64 x) ∧ w'.cell? ⟨bx, 1, none⟩ = some (.int .i64 y) ∧ w'.cell? ⟨bx, 2, none⟩ = some (.int .i64 z))) (with_reducible assumption)
          (first | (go_at_call 88; go_loud (refine Calls.mono HCall.out ?_; rintro e w' ⟨rfl, hS4, v2, st2, b1, w4, w5, q1, q2, q3, q4, hS5, hS6, HP⟩)))
        all_goals
          go_wp2_with fail
          refine bodyPost_ret (v := .tuple #[]) (by simp [results, Tryd.results86, go_sem]) rfl ?_
          exact HP.out
    · have hk2 : ¬ k - 1 = 0 := by omega
      have hn3 := fun n => HPut.out hk1 n
      obtain ⟨k', hk'⟩ : ∃ k', k - 1 = k' := ⟨_, rfl⟩
      have HK : Hid (k - 1 = k') := hk'
      rw [hk'] at lk2 hk2
      clear HPut HDel hk' hwk
      go_wp2_with fail
      go_quiet (fail)
      go_upto_region 4 with fail
      have HCall : Hid _ := HEnd.out (w2.drewN nq) _ _ (fun q => rfl) (hn3 nq) hS2 (But.of_below (below_drewN (Below.refl _ _) nq))
      have hS3d : ((w2.drewN nq).drew.cell? ⟨p, 1, none⟩ = some (.map (some rm)) ∧ (w2.drewN nq).drew.cell? ⟨bx, 0, none⟩ = some (.int .i64 x) ∧ (w2.drewN nq).drew.cell? ⟨bx, 1, none⟩ = some (.int .i64 y) ∧ (w2.drewN nq).drew.cell? ⟨bx, 2, none⟩ = some (.int .i64 z)) := hS2
      clear lk2 hn3 HEnd hS2
      obtain ⟨wr, hwr⟩ : ∃ wr, w2.drewN nq = wr := ⟨_, rfl⟩
      rw [hwr] at HCall hS3d ⊢
      clear hwr
      go_region_held (fun w' => (w'.cell? ⟨p, 1, none⟩ = some (.map (some rm)) ∧ w'.cell? ⟨bx, 0, none⟩ = some (.int .i64 x) ∧ w'.cell? ⟨bx, 1, none⟩ = some (.int .i64 y) ∧ w'.cell? ⟨bx, 2, none⟩ = some (.int .i64 z))) (with_reducible assumption)
        (first | (go_at_call 88; go_loud (refine Calls.mono HCall.out ?_; rintro e w' ⟨rfl, hS4, v2, st2, b1, w4, w5, q1, q2, q3, q4, hS5, hS6, HP⟩)))
      all_goals
        go_wp2_with fail
        refine bodyPost_ret (v := .tuple #[]) (by simp [results, Tryd.results86, go_sem]) rfl ?_
        exact HP.out

end Go.Proofs.YtpkdpddillebfaaDoor.S
