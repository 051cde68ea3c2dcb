/- The last of what the law's walk needs. -/
import Derived.Test.YtigodbamphejmaaPu
namespace Go.Proofs.Ytigodbamphejmaa.S
open Go Go.ChangeMaps Go.MapKept Go.WideShapes
open Go.RowKit Go.WideMaps Go.Maps

theorem CutsB.eq {R : List (Int × Int × Int)} {x : Nat} {cs ds : List Nat} (h : CutsB R x cs) (k : CutsB R x ds) : cs = ds := by
  have n1 : cs.Nodup := h.up.imp (fun h => Nat.ne_of_lt h)
  have n2 : ds.Nodup := k.up.imp (fun h => Nat.ne_of_lt h)
  have hp : cs.Perm ds := (List.perm_ext_iff_of_nodup n1 n2).2 (fun y => by rw [h.mem, k.mem])
  exact hp.eq_of_pairwise (le := fun a b => a < b) (fun a b _ _ h1 h2 => by omega) h.up k.up

section
variable {H : Type} {P : Program} {k : TypeId} {R : Value → Option (DataW H × List MemPlace)} {w : World} {b n : Nat} {D : DataW H}

/-- An entry that is not there yet: it is laid with nought, and stored into afterwards. -/
theorem entry_new {t e : TypeId} (h : w.ownsMap P k R b n D) (K : Keyed P k) (ht : P.underlying t = some (.map k e)) (hn : n < maxLen) {z : Value} (hz : (zeroValue e).run P w = .ok z w) {key : Value} {kl : Lit} (hkey : keyOf P k key = some kl) {zd : DataW H} {zp : List MemPlace} (hzd : R z = some (zd, zp)) (hno : Maps.has D kl = false) :
    ∃ st w1, (Instr.mapEntry t (.map (some b)) key).run P w = .ok (.tuple #[z, .int .i64 st]) w1 ∧ w1.ownsMap P k R b (n + 1) (D.put kl zd) ∧ w.grownBy w1 (some b) ∧
      ∀ val d ps, R val = some (d, ps) → ∃ w2, (Instr.entryStore t (.map (some b)) (.int .i64 st) val).run P w1 = .ok () w2 ∧ w2.ownsMap P k R b (n + 1) (D.put kl d) ∧ w.grownBy w2 (some b) := by
  have h0 := h
  obtain ⟨v, st, w1, r1, g1, s1, hst⟩ := entry_pair h0 K ht hn hz hkey
  obtain ⟨es, clock, hb, F, hs, rfl⟩ := h
  have hno2 : ∀ x ∈ es.toList, x.key ≠ key := by
    rcases Maps.fit_look false K ht hz hb F hkey with ⟨_, h2, _⟩ | ⟨e0, y, _, _, _, _, hat, _⟩
    · exact h2
    · rw [has_true_of_atKey hat] at hno; cases hno
  rcases K.find w hkey es.toList F.keys with ⟨h1, h2⟩ | ⟨j, e0, h1, h2, h3⟩
  · have hr : (Instr.mapEntry t (.map (some b)) key).run P w = .ok (.tuple #[z, .int .i64 clock]) (setBlock w b (.map (es.push ⟨key, z, clock⟩) (clock + 1))) := by
      simp [Instr.mapEntry, run_underlying ht, MapKept.run_getObj_map hb, K.check w false hkey, h1, hz, MapKept.run_setObj_map _ hb, Result.andThen, setBlock, goInt]
    have hu : (Instr.mapUpdate t (.map (some b)) key z).run P w = .ok () (setBlock w b (.map (es.push ⟨key, z, clock⟩) (clock + 1))) := by
      simp [Instr.mapUpdate, run_underlying ht, MapKept.run_getObj_map hb, K.check w false hkey, h1, MapKept.run_setObj_map _ hb, Result.andThen, setBlock]
    obtain ⟨w', hrun, hown, hgr⟩ := h0.update K ht hn hkey hzd
    rw [hu] at hrun
    injection hrun with _ hw
    rw [hr] at r1
    injection r1 with e1 e2
    subst hw
    subst e2
    injection e1 with e1
    have e3 : st = (clock : Int) := by
      have := congrArg (fun a => a[1]?) e1
      simp at this
      exact this.symm
    subst e3
    exact ⟨_, _, hr, hown, g1, hst⟩
  · exact absurd h3 (hno2 e0 (List.mem_of_getElem? h2))
end

section
variable {P : Program} (w : World) {ops : Array Oper} {rest : List Oper} {o : Oper} {a : Act} {Q : Exit → Act → World → Prop}

/-- The step of a range over a map to numbers, whatever the keys. -/
theorem wpList_next_ranges_vi (hg : o.guard = none) (it : Operand) (hop : o.op = Op.next it false) (k e : TypeId) (K : Keyed P k) (he : P.underlying e = some (.int .i64))
    (b r n : Nat) (D : DataW Unit) (left : Lit → Bool) (cnt : Nat) (hit : a.eval it = .pointer (some ⟨r, 0, none⟩)) (h : w.ranges P k (plainElem P e) b r n D left cnt)
    (hDone : cnt = 0 → (∀ kl, left kl = false) → wpList P ops Q rest (a.put o.dst (.tuple #[.bool false])) w)
    (hMore : ∀ (key : Value) (c : Int) (kl : Lit) (w' : World) (cnt' : Nat), Maps.has D kl = true → (∀ zd, D.atKey kl zd = .lit (.int .i64 c)) → w'.ranges P k (plainElem P e) b r n D (fun z => left z && !z.sameKey kl) cnt' → cnt' < cnt →
      w.grownBy w' (some r) → w'.heap.size = w.heap.size → (Instr.entry (.pointer (some ⟨r, 0, none⟩))).run P w' = .ok (.tuple #[key, .int .i64 c]) w' → wpList P ops Q rest (a.put o.dst (.tuple #[.bool true, key, .int .i64 c])) w') :
    wpList P ops Q (o :: rest) a w :=
  wpList_next_ranges w hg it hop k K (plainElem P e) (fun v : Value => v) (Value.int .i64) (fun key kl _ => ⟨key, rfl⟩) (fun v y hv => by obtain ⟨c, rfl, _⟩ := plainElem_int_inv he hv; exact ⟨c, rfl⟩)
    b r n D left cnt hit h hDone (fun x c kl y w' cnt' hkey hlk hv hat hrg hlt hgr hsz hen => by
      obtain ⟨c', ec, rfl, hwc⟩ := plainElem_int_inv he hv
      cases ec
      exact hMore x c kl w' cnt' (has_true_of_atKey hat) hat hrg hlt hgr hsz hen)
end

theorem Bo.one {V : Nat → Nat → Prop} {D : DataW Unit} {ks : List Nat} (h : Bo V D ks) {kl : Lit} {c : Int} (hk : Maps.has D kl = true) (hc : ∀ zd, D.atKey kl zd = .lit (.int .i64 c)) : c = 1 := by
  obtain ⟨p, q, rfl, hv⟩ := (h.key kl).1 hk
  have := (hc .nil).symm.trans (h.val p q hv .nil)
  exact (Lit.int.inj (DataW.lit.inj this)).2

theorem look_zero {w : World} {m N : Nat} {D : DataW Unit} (hm : w.ownsMap Try.prog 31 (plainElem Try.prog 3) m N D) {p q : Nat} (hp : p < 1000) (hq : q < 1000) (h : D.atKey (pk2 p q) (.lit (.int .i64 0)) = .lit (.int .i64 0)) :
    (Instr.lookup 62 (.map (some m)) (.agg #[.int .i64 (p : Int), .int .i64 (q : Int)]) false).run Try.prog w = .ok (.int .i64 0) w := by
  obtain ⟨c, h1, h2, _⟩ := hm.lookup_int law31 Try.underlying62 Try.underlying3 (zero3 w) (pair_key_n p q (by omega) (by omega))
  rw [h] at h2
  rw [h1, ← (Lit.int.inj (DataW.lit.inj h2)).2]

/-- One more of a pair that was not met: looked up ahead of the entry or behind it, it is nought. -/
theorem both_more {V : Nat → Nat → Prop} {D : DataW Unit} {ks : List Nat} {w : World} {m p q : Nat} (ho : w.ownsMap Try.prog 31 (plainElem Try.prog 3) m 1000000 D) (h : Bo V D ks) (hp : p < 1000) (hq : q < 1000) (hn : ¬ V p q) :
    ∃ st w1 w2, (Instr.lookup 62 (.map (some m)) (.agg #[.int .i64 (p : Int), .int .i64 (q : Int)]) false).run Try.prog w = .ok (.int .i64 0) w ∧
      (Instr.mapEntry 62 (.map (some m)) (.agg #[.int .i64 (p : Int), .int .i64 (q : Int)])).run Try.prog w = .ok (.tuple #[.int .i64 0, .int .i64 st]) w1 ∧
      (Instr.lookup 62 (.map (some m)) (.agg #[.int .i64 (p : Int), .int .i64 (q : Int)]) false).run Try.prog w1 = .ok (.int .i64 0) w1 ∧
      (Instr.entryStore 62 (.map (some m)) (.int .i64 st) (.int .i64 1)).run Try.prog w1 = .ok () w2 ∧
      w2.ownsMap Try.prog 31 (plainElem Try.prog 3) m 1000000 (D.put (pk2 p q) (.lit (.int .i64 1))) ∧ w.grownBy w2 (some m) := by
  have hno := h.not_has hp hq hn
  obtain ⟨st, w1, r1, ho1, g1, hst⟩ := entry_new ho law31 Try.underlying62 (by unfold maxLen; omega) (zero3 w) (pair_key_n p q (by omega) (by omega)) (plainElem_int Try.underlying3 (a := 0) (by decide)) hno
  obtain ⟨w2, r2, ho2, g2⟩ := hst (.int .i64 1) _ _ (plainElem_int Try.underlying3 (a := 1) (by decide))
  exact ⟨st, w1, w2, look_zero ho hp hq (atKey_of_not_has hno _), r1, look_zero ho1 hp hq (atKey_put_same h.tidy.isMap (pk2_lit p q) ..), r2, tight ho2 (h.put hp hq hn).len, g2⟩

end Go.Proofs.Ytigodbamphejmaa.S
