/- A map of rows whose entry is looked for ahead and stored into afterwards. -/
import Derived.Test.YtigodbamphejmaaGreatVt
import Derived.DeepKeys4
import Derived.Maps.GroupsBeside
namespace Go.Proofs.YtigodbamphejmaaGreat.S
open Go Go.ChangeMaps Go.MapKept Go.WideShapes
open Go.WideElems (Fit rd rg pl rd_key rd_val rg_of rd_mk other_key)
open Go.Maps (Keyed)

theorem find_stamp {es : Array MapEntry} {j c : Nat} {e0 : MapEntry} (h : es.toList[j]? = some e0) (hc : e0.born = c) (hu : ∀ i x, es.toList[i]? = some x → x.born = c → i = j) : es.findIdx? (fun e => ((e.born : Int) == (c : Int))) = some j := by
  rw [Array.findIdx?_eq_some_iff_getElem]
  obtain ⟨hj, he⟩ := List.getElem?_eq_some_iff.1 h
  refine ⟨by simpa using hj, ?_, fun i hi => ?_⟩
  · have : es[j]'(by simpa using hj) = e0 := by simpa using he
    rw [this, hc]; simp
  · have hil : i < es.toList.length := Nat.lt_trans hi hj
    intro hp
    have := hu i es.toList[i] (List.getElem?_eq_getElem hil) (by have h5 := beq_iff_eq.1 hp; simp; omega)
    omega

theorem setBlock_two (w : World) (b : Nat) (o o' : Obj) : setBlock (setBlock w b o) b o' = setBlock w b o' := by
  simp [setBlock]

section
variable {H : Type} {P : Program} {k : TypeId} {w : World} {base b n : Nat} {D : DataW H}

theorem entry_groups {t E e : TypeId} {q : IntKind} (h : w.ownsGroups P k base e q b n D) (K : Keyed P k) (ht : P.underlying t = some (.map k E)) (hz : (zeroValue E).run P w = .ok (.slice none 0 0) w) (hn : n < maxLen) {key : Value} {kl : Lit} (hkey : keyOf P k key = some kl) :
    ∃ v zs st w1, (Instr.mapEntry t (.map (some b)) key).run P w = .ok (.tuple #[v, .int .i64 st]) w1 ∧ D.atKey kl .nil = rowDatum q v zs ∧ w1.ownsInts base e q v zs ∧ zs.length ≤ n ∧ w.grownBy w1 (some b) ∧ w1.heap.size = w.heap.size ∧
      ∀ (w2 : World) (v' : Value) (zs' : List Int), w1.grownBy w2 v.ownBlock → w2.ownsInts base e q v' zs' → zs'.length ≤ n + 1 → (v'.ownBlock = v.ownBlock ∨ ∃ g, v'.ownBlock = some g ∧ w1.heap.size ≤ g) →
        ∃ w3, (Instr.entryStore t (.map (some b)) (.int .i64 st) v').run P w2 = .ok () w3 ∧ w3.ownsGroups P k base e q b (n + 1) (D.put kl (rowDatum q v' zs')) ∧ w2.grownBy w3 (some b) := by
  obtain ⟨v, zs, hlk, hat, hoi, hzl, hback⟩ := h.at K ht hz hn hkey
  obtain ⟨es, clock, hb, F, hs, hD, hbb, _, _⟩ := h
  have hst := (stamped_iff es clock).1 F.stamped
  have notb : ∀ {W : World} {u : Value} {ys : List Int}, W.ownsInts base e q u ys → u.ownBlock ≠ some b := fun ho hu => by
    have := (World.ownsRow.lt ho.1 b hu).1; omega
  -- what is the same whatever the entry was
  have core : ∀ (es1 : Array MapEntry) (clock1 st : Nat) (w1 : World), w1 = setBlock w b (.map es1 clock1) →
      (∀ (w2 : World) (v' : Value), w2.heap[b]? = some (.map es1 clock1) → ∀ w3, (Instr.mapUpdate t (.map (some b)) key v').run P (setBlock w2 b (.map es clock)) = .ok () w3 → (Instr.entryStore t (.map (some b)) (.int .i64 st) v').run P w2 = .ok () w3) →
      (Instr.mapEntry t (.map (some b)) key).run P w = .ok (.tuple #[v, .int .i64 st]) w1 →
      ∃ v zs st w1, (Instr.mapEntry t (.map (some b)) key).run P w = .ok (.tuple #[v, .int .i64 st]) w1 ∧ D.atKey kl .nil = rowDatum q v zs ∧ w1.ownsInts base e q v zs ∧ zs.length ≤ n ∧ w.grownBy w1 (some b) ∧ w1.heap.size = w.heap.size ∧
      ∀ (w2 : World) (v' : Value) (zs' : List Int), w1.grownBy w2 v.ownBlock → w2.ownsInts base e q v' zs' → zs'.length ≤ n + 1 → (v'.ownBlock = v.ownBlock ∨ ∃ g, v'.ownBlock = some g ∧ w1.heap.size ≤ g) →
        ∃ w3, (Instr.entryStore t (.map (some b)) (.int .i64 st) v').run P w2 = .ok () w3 ∧ w3.ownsGroups P k base e q b (n + 1) (D.put kl (rowDatum q v' zs')) ∧ w2.grownBy w3 (some b) := by
    intro es1 clock1 st w1 hw1 hsame hrun
    have hg1 : w.grownBy w1 (some b) := by rw [hw1]; exact ⟨rfl, rfl, rfl, by simp [setBlock], fun i _ hi => heap_setBlock_other hb _ (fun e => hi (by rw [e]))⟩
    have hs1 : w1.heap.size = w.heap.size := by rw [hw1]; simp [setBlock]
    have hb1 : w1.heap[b]? = some (.map es1 clock1) := by rw [hw1]; exact heap_setBlock_same hb _
    refine ⟨v, zs, st, w1, hrun, hat, hoi.kept hg1 (.inr (notb hoi)), hzl, hg1, hs1, fun w2 v' zs' hg2 ho2 hl2 hloc => ?_⟩
    have hb2 : w2.heap[b]? = some (.map es1 clock1) := by
      rw [hg2.block b (lt_of_some hb1) (fun e => notb hoi e.symm)]; exact hb1
    have hg2' : w2.grownBy (setBlock w2 b (.map es clock)) (some b) := ⟨rfl, rfl, rfl, by simp [setBlock], fun i _ hi => heap_setBlock_other hb2 _ (fun e => hi (by rw [e]))⟩
    have hgw : w.grownBy (setBlock w2 b (.map es clock)) v.ownBlock := by
      refine ⟨hg2.os.trans hg1.os, hg2.tape.trans hg1.tape, hg2.output.trans hg1.output, ?_, fun i hi hne => ?_⟩
      · have := hg2.size
        simp [setBlock]; omega
      · by_cases e : i = b
        · rw [e, heap_setBlock_same hb2]; exact hb.symm
        · rw [heap_setBlock_other hb2 _ e, hg2.block i (by omega) hne, hg1.block i hi (by simpa using e)]
    obtain ⟨w3, r1, r2, r3⟩ := hback _ v' zs' hgw (ho2.kept hg2' (.inr (notb ho2))) hl2 (by rw [hs1] at hloc; exact hloc)
    refine ⟨w3, hsame w2 v' hb2 w3 r1, r2, ⟨r3.os, r3.tape, r3.output, ?_, fun i hi hne => ?_⟩⟩
    · have := r3.size
      simp [setBlock] at this; exact this
    · rw [r3.block i (by simp [setBlock]; exact hi) hne, hg2'.block i hi hne]
  rcases K.find w hkey es.toList F.keys with ⟨h1, h2⟩ | ⟨j, e0, h1, h2, h3⟩
  · have hvz : v = .slice none 0 0 := by
      rcases Maps.fit_look false K ht hz hb F hkey with ⟨hrun, _, _⟩ | ⟨e0, y, hm0, h3, _⟩
      · rw [hrun] at hlk; injection hlk with hlk; exact hlk.symm
      · exact absurd h3 (h2 e0 hm0)
    refine core (es.push ⟨key, .slice none 0 0, clock⟩) (clock + 1) clock _ rfl (fun w2 v' hb2 w3 hup => ?_) ?_
    · obtain ⟨W, hW⟩ : ∃ W, setBlock w2 b (.map es clock) = W := ⟨_, rfl⟩
      rw [hW] at hup
      have hbs : W.heap[b]? = some (.map es clock) := by rw [← hW]; exact heap_setBlock_same hb2 _
      rcases K.find W hkey es.toList F.keys with ⟨g1, g2⟩ | ⟨j, e0, g1, g2, g3⟩
      · have hup2 : (Instr.mapUpdate t (.map (some b)) key v').run P W = .ok () (setBlock W b (.map (es.push ⟨key, v', clock⟩) (clock + 1))) := by
          simp [Instr.mapUpdate, run_underlying ht, MapKept.run_getObj_map hbs, K.check W false hkey, g1, MapKept.run_setObj_map _ hbs, Result.andThen, setBlock]
        rw [hup] at hup2
        injection hup2 with _ hw
        rw [← hW, setBlock_two] at hw
        subst hw
        have hf : (es.push ⟨key, .slice none 0 0, clock⟩).findIdx? (fun e => ((e.born : Int) == (clock : Int))) = some es.size := by
          refine find_stamp (e0 := ⟨key, .slice none 0 0, clock⟩) (by simp) rfl (fun i x hx hxb => ?_)
          simp only [Array.toList_push] at hx
          rcases Nat.lt_or_ge i es.toList.length with hi | hi
          · rw [List.getElem?_append_left hi] at hx
            have := F.stamped.1 x (List.mem_of_getElem? hx)
            omega
          · have := (List.getElem?_eq_some_iff.1 hx).1
            simp at this hi
            omega
        have hmod : (es.push ⟨key, .slice none 0 0, clock⟩).modify es.size (fun e => { e with val := v' }) = es.push ⟨key, v', clock⟩ := by
          apply Array.ext
          · simp
          · intro i h1 h2
            simp only [Array.getElem_modify, Array.getElem_push]
            split <;> split <;> simp_all <;> omega
        simp [Instr.entryStore, MapKept.run_getObj_map hb2, asInt, asIntOf, hf, hmod, MapKept.run_setObj_map _ hb2, Result.andThen]
        simp [setBlock]
      · exact absurd g3 (h2 e0 (List.mem_of_getElem? g2))
    · rw [hvz]
      simp [Instr.mapEntry, run_underlying ht, MapKept.run_getObj_map hb, K.check w false hkey, h1, hz, MapKept.run_setObj_map _ hb, Result.andThen, setBlock, goInt]
  · have hj : es[j]? = some e0 := by simpa using h2
    have hjl : j < es.size := (Array.getElem?_eq_some_iff.1 hj).1
    have hje : es[j] = e0 := (Array.getElem?_eq_some_iff.1 hj).2
    have hvz : v = e0.val := by
      have : (Instr.lookup t (.map (some b)) key false).run P w = .ok e0.val w := by
        simp [Instr.lookup, run_underlying ht, MapKept.run_getObj_map hb, K.check w _ hkey, h1, Result.andThen]
      rw [this] at hlk; injection hlk with hlk; exact hlk.symm
    refine core (es.modify j fun e => { e with key := key }) clock e0.born _ rfl (fun w2 v' hb2 w3 hup => ?_) ?_
    · obtain ⟨W, hW⟩ : ∃ W, setBlock w2 b (.map es clock) = W := ⟨_, rfl⟩
      rw [hW] at hup
      have hbs : W.heap[b]? = some (.map es clock) := by rw [← hW]; exact heap_setBlock_same hb2 _
      rcases K.find W hkey es.toList F.keys with ⟨g1, g2⟩ | ⟨j', e0', g1, g2, g3⟩
      · exact absurd h3 (g2 e0 (List.mem_of_getElem? h2))
      · have hjj : j' = j := by
          by_cases hij : j' = j
          · exact hij
          · have h5 := other_key F h2 g2 hij
            rw [g3, h3] at h5
            exact absurd rfl h5
        subst hjj
        have hee : e0' = e0 := by rw [h2] at g2; exact (Option.some.inj g2).symm
        subst hee
        have hup2 : (Instr.mapUpdate t (.map (some b)) key v').run P W = .ok () (setBlock W b (.map (es.modify j' fun e => { e with key := key, val := v' }) clock)) := by
          simp [Instr.mapUpdate, run_underlying ht, MapKept.run_getObj_map hbs, K.check W false hkey, g1, hj, h3, K.stays W hkey, MapKept.run_setObj_map _ hbs, Result.andThen, setBlock]
        rw [hup] at hup2
        injection hup2 with _ hw
        rw [← hW, setBlock_two] at hw
        subst hw
        have hf : (es.modify j' fun e => { e with key := key }).findIdx? (fun e => ((e.born : Int) == (e0'.born : Int))) = some j' := by
          refine find_stamp (e0 := { e0' with key := key }) ?_ rfl (fun i x hx hxb => ?_)
          · rw [Array.toList_modify, modify_eq_set _ _ _ _ h2, List.getElem?_set]
            simp [hjl]
          · rw [Array.toList_modify, modify_eq_set _ _ _ _ h2, List.getElem?_set] at hx
            split at hx
            · next hij => exact hij.symm
            · have hxm := List.mem_of_getElem? hx
              have hem : e0' ∈ es.toList := List.mem_of_getElem? h2
              obtain rfl := born_inj hst.2.1 hxm hem hxb
              by_cases hij : i = j'
              · exact hij
              · exact absurd rfl (other_key F h2 hx hij)
        have hmod : (es.modify j' fun e => { e with key := key }).modify j' (fun e => { e with val := v' }) = es.modify j' fun e => { e with key := key, val := v' } := by
          apply Array.ext
          · simp
          · intro i h1 h2
            simp only [Array.getElem_modify]
            split <;> simp_all
        simp [Instr.entryStore, MapKept.run_getObj_map hb2, asInt, asIntOf, hf, hmod, MapKept.run_setObj_map _ hb2, Result.andThen]
        simp [setBlock]
    · rw [hvz]
      simp [Instr.mapEntry, run_underlying ht, MapKept.run_getObj_map hb, K.check w false hkey, h1, hj, h3, K.stays w hkey, MapKept.run_setObj_map _ hb, Result.andThen, setBlock, goInt]
end

end Go.Proofs.YtigodbamphejmaaGreat.S
namespace Go.Proofs.YtigodbamphejmaaGreat.S
open Go.RowKit Go.WideMaps Go.Maps Go.ChangeShapes

theorem laid101 : laidOutB Tryz.prog = true := by kernel_rfl
theorem row101 : 66 < Tryz.prog.types.size := of_decide_eq_true (by kernel_rfl)
theorem wide101 : (match Tryz.prog.underlying 66 with | some (.array _ _) | some (.struct _) => true | _ => false) = true := by kernel_rfl
set_option maxRecDepth 100000 in
theorem law66 : Keyed Tryz.prog 66 := Keyed.of_law (deep_law_laid laid101 (m := 2) (by omega) row101 (by kernel_rfl) wide101)
theorem kt101 : Tryz.prog.keyType 66 = true := by kernel_rfl
theorem fm101 (p q : Int) : (Value.agg #[.int .u64 p, .int .u64 q]).formed Tryz.prog 66 = true := by kernel_rfl
theorem co101 : Tryz.prog.cellsOf 66 = 2 := by kernel_rfl
theorem co99 : Tryz.prog.cellsOf 64 = 1 := by kernel_rfl
theorem ts101 : ∃ m, Tryz.prog.types.size = m + 1 := ⟨Tryz.prog.types.size - 1, by have := row101; omega⟩

theorem wf_u64 {x : Nat} (h : x < 18446744073709551616) : (Lit.int .u64 (x : Int)).wf = true := by
  simp only [Lit.wf, IntKind.min, IntKind.max, IntKind.signed, IntKind.bits]
  simp
  omega

theorem arr_key_of {P : Program} {k t m : Nat} (hu : P.underlying k = some (.array 2 t)) (ht : P.underlying t = some (.int .u64)) (ck : P.cellsOf k = 2) (ct : P.cellsOf t = 1) (hs : P.types.size = m + 1) (hkt : P.keyType k = true)
    {p q : Int} (hf : (Value.agg #[.int .u64 p, .int .u64 q]).formed P k = true) (hp : (Lit.int .u64 p).wf = true) (hq : (Lit.int .u64 q).wf = true) : keyOf P k (.agg #[.int .u64 p, .int .u64 q]) = some (.string (keyBytes [.int .u64 p, .int .u64 q])) := by
  unfold keyOf
  rw [hu]
  simp only [hkt, hf, Bool.and_self, if_true, hs]
  have e1 : ∀ x : Int, (Lit.int .u64 x).wf = true → P.keyLits (m + 1) t [.int .u64 x] = some [.int .u64 x] := fun x hx => by simp [Program.keyLits, ht, hx]
  have : P.keyLits (m + 1 + 1) k (Value.agg #[.int .u64 p, .int .u64 q]).cells.toList = some [.int .u64 p, .int .u64 q] := by
    unfold Program.keyLits
    rw [hu]
    simp [Value.cells, ck, ct, e1 p hp, e1 q hq, List.range_succ]
  rw [this]; rfl

/-- The key of rings. -/
def rk (x : Nat) : Lit := .string (keyBytes [.int .u64 (x : Int), .int .u64 0])

theorem rk_key {x : Nat} (h : x < 18446744073709551616) : keyOf Tryz.prog 66 (.agg #[.int .u64 (x : Int), .int .u64 0]) = some (rk x) := by
  obtain ⟨m, hm⟩ := ts101
  exact arr_key_of Tryz.underlying66 Tryz.underlying64 co101 co99 hm kt101 (fm101 _ _) (wf_u64 h) (by decide)

theorem rk_inj {x y : Nat} (hx : x < 18446744073709551616) (hy : y < 18446744073709551616) (h : rk x = rk y) : x = y := by
  have := law66.inj (rk_key hx) (h ▸ rk_key hy)
  simp at this
  omega

theorem rk_lit (x : Nat) : WideAt.IsKeyLit (rk x) := trivial

/-- Which edges are covered alike: of those that are done. -/
structure Ga (D : DataW Unit) (Dn : Edg → Prop) (f : Edg → Nat) : Prop where
  yes : ∀ y, (∃ e, Dn e ∧ f e = y) → ∃ zs, D.atKey (rk y) .nil = .slice (lits .i64 zs) [] ∧ ∀ x, x ∈ zs ↔ ∃ d, Dn d ∧ f d = y ∧ d.1 = x
  no : ∀ y, y < 18446744073709551616 → (¬ ∃ e, Dn e ∧ f e = y) → D.atKey (rk y) .nil = .nil
  key : ∀ kl, Maps.has D kl = true ↔ ∃ e, Dn e ∧ kl = rk (f e)
  tidy : Tidy D

theorem Ga.start (f : Edg → Nat) : Ga (.map []) (fun _ => False) f :=
  ⟨fun y ⟨_, h, _⟩ => h.elim, fun y _ _ => rfl, fun kl => by simp [Maps.has], tidy_empty⟩

theorem Ga.congr {D : DataW Unit} {Dn Dn' : Edg → Prop} {f : Edg → Nat} (h : Ga D Dn f) (e : ∀ d, Dn d ↔ Dn' d) : Ga D Dn' f := by
  have : Dn = Dn' := funext fun d => propext (e d)
  rw [← this]; exact h

/-- One edge more. -/
theorem Ga.more {D : DataW Unit} {Dn : Edg → Prop} {f : Edg → Nat} (h : Ga D Dn f) (hs : ∀ d, f d < 18446744073709551616) (e : Edg) {v v' : Value} {zs : List Int} {w : World} {base : Nat} (hat : D.atKey (rk (f e)) .nil = rowDatum .i64 v zs) (ho : w.ownsInts base 3 .i64 v zs) (hv' : ∀ n c, v' ≠ .slice none n c) :
    Ga (D.put (rk (f e)) (rowDatum .i64 v' (zs ++ [e.1]))) (fun d => Dn d ∨ d = e) f := by
  have hrd : (rowDatum .i64 v' (zs ++ [e.1]) : DataW Unit) = .slice (lits .i64 (zs ++ [e.1])) [] := by
    unfold rowDatum
    split
    · next n c => exact absurd rfl (hv' n c)
    · rfl
  have hold : ∀ x, x ∈ zs ↔ ∃ d, Dn d ∧ f d = f e ∧ d.1 = x := by
    by_cases hex : ∃ d, Dn d ∧ f d = f e
    · obtain ⟨ys, h1, h2⟩ := h.yes (f e) hex
      rw [h1] at hat
      unfold rowDatum at hat
      split at hat
      · cases hat
      · injection hat with hat _
        rw [← lits_inj hat]; exact h2
    · have h1 := h.no (f e) (hs e) hex
      rw [h1] at hat
      have hz : zs = [] := by
        unfold rowDatum at hat
        split at hat
        · rcases ho.1.2 with ⟨_, h0⟩ | ⟨g, cap, cur, hh, _⟩
          · exact List.eq_nil_of_length_eq_zero h0
          · cases hh
        · cases hat
      intro x
      rw [hz]
      constructor
      · intro hx; simp at hx
      · rintro ⟨d, h2, h3, _⟩; exact absurd ⟨d, h2, h3⟩ hex
  rw [hrd]
  refine ⟨fun y hy => ?_, fun y hyl hy => ?_, fun kl => ?_, h.tidy.put (rk_lit _) _⟩
  · by_cases hye : y = f e
    · rw [hye, atKey_put_same h.tidy.isMap (rk_lit _)]
      refine ⟨_, rfl, fun x => ?_⟩
      rw [List.mem_append, hold, List.mem_singleton]
      constructor
      · rintro (⟨d, h1, h2, h3⟩ | rfl)
        · exact ⟨d, .inl h1, h2, h3⟩
        · exact ⟨e, .inr rfl, rfl, rfl⟩
      · rintro ⟨d, h1 | rfl, h2, h3⟩
        · exact .inl ⟨d, h1, h2, h3⟩
        · exact .inr h3.symm
    · obtain ⟨d, hd, hdy⟩ := hy
      have hdn : Dn d := hd.resolve_right (fun k => hye (by rw [← hdy, k]))
      have hyl : y < 18446744073709551616 := by rw [← hdy]; exact hs d
      rw [atKey_put_other (fun k => hye (rk_inj hyl (hs e) k))]
      obtain ⟨ys, h1, h2⟩ := h.yes y ⟨d, hdn, hdy⟩
      refine ⟨ys, h1, fun x => ?_⟩
      rw [h2]
      constructor
      · rintro ⟨d, k1, k2, k3⟩; exact ⟨d, .inl k1, k2, k3⟩
      · rintro ⟨d, k1 | rfl, k2, k3⟩
        · exact ⟨d, k1, k2, k3⟩
        · exact absurd k2.symm hye
  · have hye : y ≠ f e := fun k => hy ⟨e, .inr rfl, k.symm⟩
    rw [atKey_put_other (fun k => hye (rk_inj hyl (hs e) k))]
    exact h.no y hyl (fun ⟨d, k1, k2⟩ => hy ⟨d, .inl k1, k2⟩)
  · by_cases hk : kl = rk (f e)
    · rw [hk, has_put_same h.tidy.isMap (rk_lit _)]
      exact ⟨fun _ => ⟨e, .inr rfl, rfl⟩, fun _ => rfl⟩
    · rw [has_put_other hk, h.key]
      constructor
      · rintro ⟨d, k1, k2⟩; exact ⟨d, .inl k1, k2⟩
      · rintro ⟨d, k1 | rfl, k2⟩
        · exact ⟨d, k1, k2⟩
        · exact absurd k2 hk

end Go.Proofs.YtigodbamphejmaaGreat.S
namespace Go.Proofs.YtigodbamphejmaaGreat.S
open Go.RowKit Go.WideMaps Go.Maps Go.ChangeShapes

/-- A row of sets: the place of each one, its row, its labels. -/
structure Rs (w : World) (B n : Nat) (t : Value) (ps : List (Nat × Nat × List Nat)) : Prop where
  row : w.ownsRow B 61 1 t ps.length (ps.map fun q => Value.pointer (some ⟨q.1, 0, none⟩))
  sets : ∀ q ∈ ps, SetsAt w q.1 q.2.1 q.2.2
  len : ∀ q ∈ ps, q.2.2.length = n
  off : ∀ k, t.ownBlock = some k → ∀ q ∈ ps, q.1 ≠ k ∧ q.2.1 ≠ k

theorem Rs.below {w w' : World} {B n : Nat} {t : Value} {ps : List (Nat × Nat × List Nat)} (h : Rs w B n t ps) (hb : Below w.heap.size w w') : Rs w' B n t ps :=
  { h with row := World.ownsRow.kept h.row (grown_below hb) (by by_cases e : t.ownBlock = none; exact .inl e; exact .inr e), sets := fun q hq => (h.sets q hq).below hb (h.sets q hq).plt (h.sets q hq).blt }

/-- Whether some have two apart. -/
def apB (ps : List (Nat × Nat × List Nat)) (x y : Nat) : Bool := ps.any fun q => decide (q.2.2.getD x 0 ≠ q.2.2.getD y 0)

theorem apB_false {ps : List (Nat × Nat × List Nat)} {x y : Nat} : apB ps x y = false ↔ ∀ q ∈ ps, q.2.2.getD x 0 = q.2.2.getD y 0 := by
  simp [apB]

theorem unp1_any (x y p b cx cy : Nat) (L : List Nat) (s : Bool) (w : World) (hs : SetsAt w p b L) (hx : x < L.length) (hy : y < L.length) (kx : w.cell? ⟨cx, 0, none⟩ = some (.int .i64 (x : Int))) (ky : w.cell? ⟨cy, 0, none⟩ = some (.int .i64 (y : Int))) (hv : s = true ↔ L.getD x 0 ≠ L.getD y 0) :
    Calls Tryz.prog 54 #[.pointer (some ⟨p, 0, none⟩), .pointer (some ⟨cx, 0, none⟩), .pointer (some ⟨cy, 0, none⟩)] w fun e w' => e = .returned (.bool s) ∧ Below w.heap.size w w' := by
  have HC : Hid _ := capart_any x y p b L s w hs hx hy hv
  clear hs hx hy hv
  go_enter Tryz.func54, Tryz.ntmps54
  go_wp2_with fail
  refine Calls.mono HC.out ?_
  rintro e w1 ⟨rfl, hb⟩
  have HB : Hid (Below w.heap.size w w1) := hb
  clear hb HC
  go_wp2_with fail
  go_ret
  exact ⟨rfl, HB.out⟩

set_option maxHeartbeats 2000000 in
set_option maxRecDepth 100000 in
theorem index_sets (x y cx cy n g m cap B : Nat) (ps : List (Nat × Nat × List Nat)) (w : World) (h : Rs w B n (.slice (some ⟨g, 0, none⟩) m cap) ps) (hx : x < n) (hy : y < n) (kx : w.cell? ⟨cx, 0, none⟩ = some (.int .i64 (x : Int))) (ky : w.cell? ⟨cy, 0, none⟩ = some (.int .i64 (y : Int))) (hm : ps.length = m) (hl : m ≤ 1000) :
    Calls Tryz.prog 72 #[.slice (some ⟨g, 0, none⟩) m cap, .func (.func 54) #[] #[.pointer (some ⟨cx, 0, none⟩), .pointer (some ⟨cy, 0, none⟩)]] w fun e w' => ((∃ i, i < m ∧ e = .returned (.int .i64 ((i : Nat) : Int)) ∧ apB ps x y = true) ∨ (e = .returned (.int .i64 (-1)) ∧ apB ps x y = false)) ∧ Below w.heap.size w w' := by
  have HO : Hid (Rs w B n (.slice (some ⟨g, 0, none⟩) m cap) ps ∧ ps.length = m) := ⟨h, hm⟩
  have HK : Hid (w.cell? ⟨cx, 0, none⟩ = some (.int .i64 (x : Int)) ∧ w.cell? ⟨cy, 0, none⟩ = some (.int .i64 (y : Int))) := ⟨kx, ky⟩
  clear h hm kx ky
  go_enter Tryz.func72, Tryz.ntmps72
  go_wp2_with fail
  go_loopw [8] (fun s8 wq => ∃ k : Nat, k ≤ m ∧ s8 = .int .i64 k ∧ (∀ j q, j < k → ps[j]? = some q → q.2.2.getD x 0 = q.2.2.getD y 0) ∧ Below w.heap.size w wq) (fun s8 _ => m - (intOf s8).toNat)
  case atStart => exact ⟨0, Nat.zero_le _, rfl, fun j q hj => by omega, Below.refl _ _⟩
  case round =>
    obtain ⟨k, hk, rfl, hno, hb⟩ := hrel
    have HB : Hid ((∀ j q, j < k → ps[j]? = some q → q.2.2.getD x 0 = q.2.2.getD y 0) ∧ Below w.heap.size w wr) := ⟨hno, hb⟩
    clear hno hb
    by_cases hlt : k < m
    · obtain ⟨q, hq⟩ : ∃ q, ps[k]? = some q := ⟨_, List.getElem?_eq_getElem (by rw [HO.out.2]; exact hlt)⟩
      have hR := HO.out.1.below HB.out.2
      have hqm := List.mem_of_getElem? hq
      have r0 : wr.cell? ⟨g, k, none⟩ = some (.pointer (some ⟨q.1, 0, none⟩)) := by
        have h1 := hR.row
        rw [HO.out.2] at h1
        rw [h1.cellAt k (by omega)]
        simp [hq]
      have HX : Hid (ps[k]? = some q) := hq
      have hs := hR.sets q hqm
      have hln := hR.len q hqm
      have HC : Hid _ := unp1_any x y q.1 q.2.1 cx cy q.2.2 (decide (q.2.2.getD x 0 ≠ q.2.2.getD y 0)) wr hs (by omega) (by omega) (cell_below HK.out.1 HB.out.2) (cell_below HK.out.2 HB.out.2) (by simp)
      clear hR hs hln hq
      by_cases hxd : q.2.2.getD x 0 ≠ q.2.2.getD y 0
      · as_aux_lemma =>
        have HT : Hid (apB ps x y = true) := List.any_eq_true.2 ⟨q, hqm, decide_eq_true hxd⟩
        rw [decide_eq_true hxd] at HC
        clear hqm hxd
        go_wp2_with fail
        refine Calls.mono HC.out ?_
        rintro e w2 ⟨rfl, hb2⟩
        have HB2 : Hid (Below w.heap.size w w2) := HB.out.2.trans (hb2.mono HB.out.2.size)
        clear hb2 HC
        go_wp2_with fail
        go_ret
        exact ⟨.inl ⟨k, hlt, rfl, HT.out⟩, HB2.out⟩
      · as_aux_lemma =>
        rw [decide_eq_false hxd] at HC
        have hxe : q.2.2.getD x 0 = q.2.2.getD y 0 := by omega
        have HN : Hid (q.2.2.getD x 0 = q.2.2.getD y 0) := hxe
        clear hqm hxd hxe
        go_wp2_with fail
        refine Calls.mono HC.out ?_
        rintro e w2 ⟨rfl, hb2⟩
        have HB2 : Hid (Below w.heap.size w w2 ∧ ∀ j q, j < k + 1 → ps[j]? = some q → q.2.2.getD x 0 = q.2.2.getD y 0) := ⟨HB.out.2.trans (hb2.mono HB.out.2.size), fun j q' hj hq' => by
          by_cases e : j = k
          · rw [e, HX.out] at hq'; injection hq' with hq'; rw [← hq']; exact HN.out
          · exact HB.out.1 j q' (by omega) hq'⟩
        clear hb2 HC
        go_wp2_with fail
        go_roundw
        case rel => exact ⟨k + 1, by omega, by go_num, HB2.out.2, HB2.out.1⟩
        case measure => simp [intOf]; omega
    · as_aux_lemma =>
      have hke : k = m := by omega
      have HF : Hid (apB ps x y = false) := apB_false.2 (fun q hq => by
        obtain ⟨j, hj⟩ := List.getElem?_of_mem hq
        have := (List.getElem?_eq_some_iff.1 hj).1
        exact HB.out.1 j q (by have := HO.out.2; omega) hj)
      go_wp2_with fail
      go_ret
      exact ⟨.inr ⟨rfl, HF.out⟩, HB.out.2⟩

theorem contains_sets (x y cx cy n g m cap B : Nat) (ps : List (Nat × Nat × List Nat)) (w : World) (h : Rs w B n (.slice (some ⟨g, 0, none⟩) m cap) ps) (hx : x < n) (hy : y < n) (kx : w.cell? ⟨cx, 0, none⟩ = some (.int .i64 (x : Int))) (ky : w.cell? ⟨cy, 0, none⟩ = some (.int .i64 (y : Int))) (hm : ps.length = m) (hl : m ≤ 1000) :
    Calls Tryz.prog 53 #[.slice (some ⟨g, 0, none⟩) m cap, .func (.func 54) #[] #[.pointer (some ⟨cx, 0, none⟩), .pointer (some ⟨cy, 0, none⟩)]] w fun e w' => e = .returned (.bool (apB ps x y)) ∧ Below w.heap.size w w' := by
  have HC : Hid _ := index_sets x y cx cy n g m cap B ps w h hx hy kx ky hm hl
  clear h hx hy kx ky hm hl
  go_enter Tryz.func53, Tryz.ntmps53
  go_wp2_with fail
  refine Calls.mono HC.out ?_
  rintro e w1 ⟨he, hb⟩
  have HB : Hid (Below w.heap.size w w1) := hb
  clear hb HC
  rcases he with ⟨i, hi, rfl, ht⟩ | ⟨rfl, ht⟩
  · as_aux_lemma =>
    have h0 : (0 : Int) ≤ (i : Int) := by omega
    have HT : Hid (apB ps x y = true) := ht
    clear ht
    go_wp2_with fail
    go_ret
    exact ⟨by simp [HT.out], HB.out⟩
  · as_aux_lemma =>
    have HT : Hid (apB ps x y = false) := ht
    clear ht
    go_wp2_with fail
    go_ret
    exact ⟨by simp [HT.out], HB.out⟩

end Go.Proofs.YtigodbamphejmaaGreat.S
namespace Go.Proofs.YtigodbamphejmaaGreat.S
open Go.RowKit Go.WideMaps Go.Maps Go.ChangeShapes

theorem ring_edge {D : DataW Unit} {S : List Edg} {f : Edg → Nat} (h : Rm D S f) {x c1 c2 : Int} {y : DataW Unit × List MemPlace} (hy : y = (.agg [.lit (.int .u64 c1), .lit (.int .u64 c2)], [])) (hat : ∀ zd, D.atKey (.int .i64 x) zd = y.1) : ∃ e ∈ S, e.1 = x ∧ c1 = (f e : Nat) ∧ c2 = 0 := by
  obtain ⟨e, he, hx⟩ := (h.key _).1 (has_true_of_atKey hat)
  have hx' : e.1 = x := by injection hx with _ hx; exact hx.symm
  refine ⟨e, he, hx', ?_⟩
  have h1 := h.val e he .nil
  rw [hx', hat, hy] at h1
  simp [ringD] at h1
  exact h1

theorem groups_alloc {w : World} {base ma m : Nat} {D : DataW Unit} (h : w.ownsGroups Tryz.prog 66 base 3 .i64 ma m D) (o : Obj) : (w.alloc o).ownsGroups Tryz.prog 66 base 3 .i64 ma m D :=
  h.kept (World.grownBy_alloc _ _ none) (by simp) (h.rowsAbove (fun j hj => by cases hj))

set_option maxRecDepth 100000 in
theorem alike_step {w w1 : World} {ma mb it base m : Nat} {D : DataW Unit} {Dn : Edg → Prop} {f : Edg → Nat} (hG : w1.ownsGroups Tryz.prog 66 base 3 .i64 ma m D) (hm : m ≤ 1000) (hga : Ga D Dn f) (hf : ∀ d, f d < 18446744073709551616) (e : Edg) (hwf : (Lit.int .i64 e.1).wf = true) (hbase : base ≤ w1.heap.size) (hma : ma < base)
    (h1 : mb < base) (h2 : it < base) (h3 : mb ≠ ma) (h4 : it ≠ ma) (hb : Below w.heap.size w w1) (hwm : w.heap.size ≤ ma) :
    ∃ v st w3 v' w4 w5 D', (Instr.mapEntry 98 (.map (some ma)) (.agg #[.int .u64 (f e : Int), .int .u64 0])).run Tryz.prog ((w1.alloc (.cells #[.int .u64 (f e : Int), .int .u64 0] 66)).alloc (.cells #[.int .i64 e.1] 3)) = .ok (.tuple #[v, .int .i64 st]) w3 ∧
      (Builtin.append_ #[36, 36] 36 #[v, .slice (some ⟨w1.heap.size + 1, 0, none⟩) 1 1]).run Tryz.prog w3 = .ok v' w4 ∧
      (Instr.entryStore 98 (.map (some ma)) (.int .i64 st) v').run Tryz.prog w4 = .ok () w5 ∧
      w5.ownsGroups Tryz.prog 66 base 3 .i64 ma (m + 1) D' ∧ Ga D' (fun d => Dn d ∨ d = e) f ∧ Below w.heap.size w w5 ∧ w1.heap.size ≤ w5.heap.size ∧
      ∀ N D0 left cnt, w1.ranges Tryz.prog 3 ringR mb it N D0 left cnt → w5.ranges Tryz.prog 3 ringR mb it N D0 left cnt := by
  obtain ⟨W2, hW2⟩ : ∃ W2, (w1.alloc (.cells #[.int .u64 (f e : Int), .int .u64 0] 66)).alloc (.cells #[.int .i64 e.1] 3) = W2 := ⟨_, rfl⟩
  have hG2 : W2.ownsGroups Tryz.prog 66 base 3 .i64 ma m D := by rw [← hW2]; exact groups_alloc (groups_alloc hG _) _
  have hg2 : w1.grownBy W2 none := by rw [← hW2]; exact (World.grownBy_alloc _ _ none).trans (World.grownBy_alloc _ _ none)
  have hs2 : W2.heap.size = w1.heap.size + 2 := by rw [← hW2]; simp
  have hlit : W2.heap[w1.heap.size + 1]? = some (.cells #[.int .i64 e.1] 3) := by
    rw [← hW2]
    have := heap_alloc_new (w1.alloc (.cells #[.int .u64 (f e : Int), .int .u64 0] 66)) (.cells #[.int .i64 e.1] 3)
    rw [World.size_alloc] at this
    exact this
  rw [hW2]
  clear hW2
  obtain ⟨v, zs, st, w3, hme, hat, hoi, hzl, hg3, hs3, hback⟩ := entry_groups hG2 law66 Tryz.underlying98 (zero36 _) (by unfold maxLen; omega) (rk_key (hf e))
  obtain ⟨i0, hi, hz0, hz1, hz2⟩ := info_parts Tryz.info3
  have hlit3 : w3.heap[w1.heap.size + 1]? = some (.cells #[.int .i64 e.1] 3) := (hg3.block _ (lt_of_some hlit) (by simp; omega)).trans hlit
  have hnews : ∀ j u, [Value.int .i64 e.1][j]? = some u → w3.cell? ((⟨w1.heap.size + 1, 0, none⟩ : Addr).add j) = some u := by
    intro j u hj
    match j, hj with
    | 0, hj =>
      simp at hj
      subst hj
      simp [World.cell?, Addr.add, hlit3]
    | j + 1, hj => simp at hj
  obtain ⟨v', w4, hr, r2, r3, r4, r5⟩ := run_append_own_at (P := Tryz.prog) w3 base 36 36 3 i0 (.int .i64 0) 1 8 Tryz.underlying36 hi hz0 hz1 hz2 rfl (by decide) v zs.length (zs.map (Value.int .i64)) hoi.1 ⟨w1.heap.size + 1, 0, none⟩ 1 1 [.int .i64 e.1] rfl hnews (ints_oneCell .i64 [e.1]) (by unfold maxLen; omega) (by omega) (by omega)
  have ho' := hoi.appended r2 hwf
  obtain ⟨w5, hst, hG5, hg5⟩ := hback w4 v' _ r3 ho' (by simp; omega) (r5.imp id (fun h => ⟨_, h, Nat.le_refl _⟩))
  have hvb : ∀ k, v.ownBlock = some k → base ≤ k := fun k hk => (World.ownsRow.lt hoi.1 k hk).1
  refine ⟨v, st, w3, v', w4, w5, _, hme, hr, hst, hG5, hga.more hf e hat hoi (fun n c hh => ?_), ?_, ?_, fun N D0 left cnt hrg => ?_⟩
  · rw [hh] at r2
    rcases r2.2 with ⟨_, h0⟩ | ⟨g, cap, cur, hh2, _⟩
    · omega
    · cases hh2
  · have b2 : Below w.heap.size w W2 := hb.grown hg2 hb.size (fun j hj => by cases hj)
    have b3 := b2.grown hg3 b2.size (fun j hj => by injection hj with hj; omega)
    have b4 := b3.grown r3 b3.size (fun j hj => by have := hvb j hj; omega)
    exact b4.grown hg5 b4.size (fun j hj => by injection hj with hj; omega)
  · have := r3.size
    have := hg5.size
    omega
  · have q2 := hrg.kept hg2 (by simp) (by simp)
    have q3 := q2.kept hg3 (by simpa using h3) (by simpa using h4)
    have q4 := q3.kept r3 (fun hh => by have := hvb mb hh.symm; omega) (fun hh => by have := hvb it hh.symm; omega)
    exact q4.kept hg5 (by simpa using h3) (by simpa using h4)

theorem cell_one_at {w : World} {g : Nat} {x : Value} {t : TypeId} (h : w.heap[g]? = some (.cells #[x] t)) : ∀ j u, [x][j]? = some u → w.cell? ((⟨g, 0, none⟩ : Addr).add j) = some u := by
  intro j u hj
  match j, hj with
  | 0, hj =>
    simp at hj
    subst hj
    simp [World.cell?, Addr.add, h]
  | j + 1, hj => simp at hj

theorem info61 : (Tryz.prog.info? 61).map (fun i => (i.zero, i.size, i.bytes)) = some (some (.pointer none), 1, 8) := by kernel_rfl

/-- One set more in a row of sets. -/
theorem app_sets (W : World) (B n : Nat) (t : Value) (ps : List (Nat × Nat × List Nat)) (p b : Nat) (L : List Nat) (h : Rs W B n t ps) (hB : B ≤ W.heap.size) (hl : ps.length ≤ 1000) (hs : SetsAt W p b L) (hL : L.length = n) (ho : ∀ k, t.ownBlock = some k → p ≠ k ∧ b ≠ k) :
    ∃ v' w', (Builtin.append_ #[99, 99] 99 #[t, .slice (some ⟨W.heap.size, 0, none⟩) 1 1]).run Tryz.prog (W.alloc (.cells #[.pointer (some ⟨p, 0, none⟩)] 61)) = .ok v' w' ∧ Rs w' B n v' (ps ++ [(p, b, L)]) ∧ W.grownBy w' t.ownBlock ∧ (v'.ownBlock = t.ownBlock ∨ v'.ownBlock = some (W.heap.size + 1)) ∧ ∃ g c, v' = .slice (some ⟨g, 0, none⟩) (ps.length + 1) c := by
  obtain ⟨i0, hi, hz0, hz1, hz2⟩ := info_parts info61
  obtain ⟨v', w', hr, r2, r3, r4, r5⟩ := run_append_own_at (P := Tryz.prog) (W.alloc (.cells #[.pointer (some ⟨p, 0, none⟩)] 61)) B 99 99 61 i0 (.pointer none) 1 8 Tryz.underlying99 hi hz0 hz1 hz2 rfl (by decide) t ps.length (ps.map fun q => Value.pointer (some ⟨q.1, 0, none⟩)) (h.row.alloc _) ⟨W.heap.size, 0, none⟩ 1 1 [.pointer (some ⟨p, 0, none⟩)] rfl (cell_one_new _ _ _) (fun u hu => by simp at hu; subst hu; rfl) (by unfold maxLen; omega) (by omega) (by simp; omega)
  have hg : W.grownBy w' t.ownBlock := (World.grownBy_alloc _ _ _).trans r3
  have keep : ∀ {p b : Nat} {L : List Nat}, SetsAt W p b L → (∀ k, t.ownBlock = some k → p ≠ k ∧ b ≠ k) → SetsAt w' p b L := fun {p b L} h1 h2 =>
    ⟨(hg.block p h1.plt (fun e => (h2 p e.symm).1 rfl)).trans h1.hp, (hg.block b h1.blt (fun e => (h2 b e.symm).2 rfl)).trans h1.hb⟩
  refine ⟨v', w', hr, ⟨by simpa using r2, fun q hq => ?_, fun q hq => ?_, fun k hk q hq => ?_⟩, hg, by simpa using r5, ?_⟩
  · rcases List.mem_append.1 hq with hq | hq
    · exact keep (h.sets q hq) (fun k hk => h.off k hk q hq)
    · rw [List.mem_singleton.1 hq]; exact keep hs ho
  · rcases List.mem_append.1 hq with hq | hq
    · exact h.len q hq
    · rw [List.mem_singleton.1 hq]; exact hL
  · have hlt : ∀ {p b : Nat} {L : List Nat}, SetsAt W p b L → (∀ k, t.ownBlock = some k → p ≠ k ∧ b ≠ k) → p ≠ k ∧ b ≠ k := fun {p b L} h1 h2 => by
      rcases r5 with h5 | h5
      · exact h2 k (h5 ▸ hk)
      · rw [hk] at h5
        injection h5 with h5
        simp at h5
        have := h1.plt
        have := h1.blt
        constructor <;> omega
    rcases List.mem_append.1 hq with hq | hq
    · exact hlt (h.sets q hq) (fun k hk => h.off k hk q hq)
    · rw [List.mem_singleton.1 hq]; exact hlt hs ho
  · rcases r2.2 with ⟨_, h0⟩ | ⟨g, cap, cur, hh2, _⟩
    · omega
    · exact ⟨g, cap, hh2⟩

/-- The row with one. -/
theorem rs_one (W : World) (B n p b : Nat) (L : List Nat) (hB : B ≤ W.heap.size) (hs : SetsAt W p b L) (hL : L.length = n) :
    Rs (W.alloc (.cells #[.pointer (some ⟨p, 0, none⟩)] 61)) B n (.slice (some ⟨W.heap.size, 0, none⟩) 1 1) [(p, b, L)] := by
  have hb : Below W.heap.size W (W.alloc (.cells #[.pointer (some ⟨p, 0, none⟩)] 61)) := (Below.refl _ _).alloc (Nat.le_refl _) _
  refine ⟨⟨rfl, .inr ⟨W.heap.size, 1, _, rfl, hB, heap_alloc_new W _, by simp, by unfold maxLen; omega, by simp, by simp⟩⟩, fun q hq => ?_, fun q hq => ?_, fun k hk q hq => ?_⟩
  · rw [List.mem_singleton.1 hq]; exact hs.below hb hs.plt hs.blt
  · rw [List.mem_singleton.1 hq]; exact hL
  · rw [List.mem_singleton.1 hq]
    simp [Value.ownBlock] at hk
    have := hs.plt
    have := hs.blt
    constructor <;> (simp only; omega)

end Go.Proofs.YtigodbamphejmaaGreat.S
