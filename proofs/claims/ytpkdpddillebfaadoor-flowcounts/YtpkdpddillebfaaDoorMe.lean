/- A map's entry that is looked for ahead and stored into afterwards ('m[k], n[k] = v, v'; 'm[k]++'). -/
import Derived.Test.YtpkdpddillebfaaDoorMr
namespace Go.Proofs.YtpkdpddillebfaaDoor.S
open Go Go.ChangeMaps Go.MapKept Go.WideShapes
open Go.WideElems (Fit rd rg pl rd_key rd_val rg_of rd_mk other_key)
open Go.Maps (Keyed)

theorem find_born {es : Array MapEntry} {j c : Nat} {e0 : MapEntry} (h : es.toList[j]? = some e0) (hc : e0.born = c) (hu : ∀ i x, es.toList[i]? = some x → x.born = c → i = j) : es.findIdx? (fun e => ((e.born : Int) == (c : Int))) = some j := by
  rw [Array.findIdx?_eq_some_iff_getElem]
  obtain ⟨hj, he⟩ := List.getElem?_eq_some_iff.1 h
  refine ⟨by simpa using hj, ?_, fun i hi => ?_⟩
  · have : es[j]'(by simpa using hj) = e0 := by simpa using he
    rw [this, hc]; simp
  · have hil : i < es.toList.length := Nat.lt_trans hi hj
    intro hp
    have := hu i es.toList[i] (List.getElem?_eq_getElem hil) (by have h5 := beq_iff_eq.1 hp; simp; omega)
    omega

section
variable {H : Type} {P : Program} {k : TypeId} {R : Value → Option (DataW H × List MemPlace)} {w : World} {b n : Nat} {D : DataW H}

theorem entry_pair {t e : TypeId} (h : w.ownsMap P k R b n D) (K : Keyed P k) (ht : P.underlying t = some (.map k e)) (hn : n < maxLen) {z : Value} (hz : (zeroValue e).run P w = .ok z w) {key : Value} {kl : Lit} (hkey : keyOf P k key = some kl) :
    ∃ v st w1, (Instr.mapEntry t (.map (some b)) key).run P w = .ok (.tuple #[v, .int .i64 st]) w1 ∧ w.grownBy w1 (some b) ∧ w1.heap.size = w.heap.size ∧
      ∀ val d ps, R val = some (d, ps) → ∃ w2, (Instr.entryStore t (.map (some b)) (.int .i64 st) val).run P w1 = .ok () w2 ∧ w2.ownsMap P k R b (n + 1) (D.put kl d) ∧ w.grownBy w2 (some b) := by
  have h0 := h
  obtain ⟨es, clock, hb, F, hs, rfl⟩ := h
  have hst := (stamped_iff es clock).1 F.stamped
  rcases K.find w hkey es.toList F.keys with ⟨h1, h2⟩ | ⟨j, e0, h1, h2, h3⟩
  · refine ⟨z, clock, setBlock w b (.map (es.push ⟨key, z, clock⟩) (clock + 1)), ?_, ⟨rfl, rfl, rfl, by simp [setBlock], fun i _ hi => heap_setBlock_other hb _ (fun e => hi (by rw [e]))⟩, by simp [setBlock], fun val d ps hv => ?_⟩
    · simp [Instr.mapEntry, run_underlying ht, MapKept.run_getObj_map hb, K.check w false hkey, h1, hz, MapKept.run_setObj_map _ hb, Result.andThen, setBlock, goInt]
    · obtain ⟨w', hrun, hown, hgr⟩ := h0.update K ht hn hkey hv
      refine ⟨w', ?_, hown, hgr⟩
      have hrun2 : (Instr.mapUpdate t (.map (some b)) key val).run P w = .ok () (setBlock w b (.map (es.push ⟨key, val, clock⟩) (clock + 1))) := by
        simp [Instr.mapUpdate, run_underlying ht, MapKept.run_getObj_map hb, K.check w false hkey, h1, MapKept.run_setObj_map _ hb, Result.andThen, setBlock]
      rw [hrun] at hrun2
      injection hrun2 with _ hw
      subst hw
      have hf : (es.push ⟨key, z, clock⟩).findIdx? (fun e => ((e.born : Int) == (clock : Int))) = some es.size := by
        refine find_born (e0 := ⟨key, z, clock⟩) (by simp) rfl (fun i x hx hxb => ?_)
        simp only [Array.toList_push] at hx
        rcases Nat.lt_or_ge i es.toList.length with hi | hi
        · rw [List.getElem?_append_left hi] at hx
          have := F.stamped.1 x (List.mem_of_getElem? hx)
          omega
        · have := (List.getElem?_eq_some_iff.1 hx).1
          simp at this hi
          omega
      have hb1 : (setBlock w b (.map (es.push ⟨key, z, clock⟩) (clock + 1))).heap[b]? = some (.map (es.push ⟨key, z, clock⟩) (clock + 1)) := heap_setBlock_same hb _
      have hmod : (es.push ⟨key, z, clock⟩).modify es.size (fun e => { e with val := val }) = es.push ⟨key, val, clock⟩ := by
        apply Array.ext
        · simp
        · intro i h1 h2
          simp only [Array.getElem_modify, Array.getElem_push]
          split <;> split <;> simp_all <;> omega
      simp [Instr.entryStore, MapKept.run_getObj_map hb1, asInt, asIntOf, hf, hmod, MapKept.run_setObj_map _ hb1, Result.andThen]
      simp [setBlock]
  · have hj : es[j]? = some e0 := by simpa using h2
    refine ⟨e0.val, e0.born, setBlock w b (.map (es.modify j fun e => { e with key := key }) clock), ?_, ⟨rfl, rfl, rfl, by simp [setBlock], fun i _ hi => heap_setBlock_other hb _ (fun e => hi (by rw [e]))⟩, by simp [setBlock], fun val d ps hv => ?_⟩
    · simp [Instr.mapEntry, run_underlying ht, MapKept.run_getObj_map hb, K.check w false hkey, h1, hj, h3, K.stays w hkey, MapKept.run_setObj_map _ hb, Result.andThen, setBlock, goInt]
    · obtain ⟨w', hrun, hown, hgr⟩ := h0.update K ht hn hkey hv
      refine ⟨w', ?_, hown, hgr⟩
      have hrun2 : (Instr.mapUpdate t (.map (some b)) key val).run P w = .ok () (setBlock w b (.map (es.modify j fun e => { e with key := key, val := val }) clock)) := by
        simp [Instr.mapUpdate, run_underlying ht, MapKept.run_getObj_map hb, K.check w false hkey, h1, hj, h3, K.stays w hkey, MapKept.run_setObj_map _ hb, Result.andThen, setBlock]
      rw [hrun] at hrun2
      injection hrun2 with _ hw
      subst hw
      have hjl : j < es.size := (Array.getElem?_eq_some_iff.1 hj).1
      have hje : es[j] = e0 := (Array.getElem?_eq_some_iff.1 hj).2
      have hf : (es.modify j fun e => { e with key := key }).findIdx? (fun e => ((e.born : Int) == (e0.born : Int))) = some j := by
        refine find_born (e0 := { e0 with key := key }) ?_ rfl (fun i x hx hxb => ?_)
        · rw [Array.toList_modify, modify_eq_set _ _ _ _ h2, List.getElem?_set]
          simp [hjl]
        · rw [Array.toList_modify, modify_eq_set _ _ _ _ h2, List.getElem?_set] at hx
          split at hx
          · next hij => exact hij.symm
          · obtain ⟨hil, hie⟩ := List.getElem?_eq_some_iff.1 hx
            have hxm := List.mem_of_getElem? hx
            have hem : e0 ∈ es.toList := List.mem_of_getElem? h2
            obtain rfl := born_inj hst.2.1 hxm hem hxb
            by_cases hij : i = j
            · exact hij
            · exact absurd rfl (other_key F h2 hx hij)
      have hb1 : (setBlock w b (.map (es.modify j fun e => { e with key := key }) clock)).heap[b]? = some (.map (es.modify j fun e => { e with key := key }) clock) := heap_setBlock_same hb _
      have hmod : (es.modify j fun e => { e with key := key }).modify j (fun e => { e with val := val }) = es.modify j fun e => { e with key := key, val := val } := by
        apply Array.ext
        · simp
        · intro i h1 h2
          simp only [Array.getElem_modify]
          split <;> simp_all
      simp [Instr.entryStore, MapKept.run_getObj_map hb1, asInt, asIntOf, hf, hmod, MapKept.run_setObj_map _ hb1, Result.andThen]
      simp [setBlock]

end

end Go.Proofs.YtpkdpddillebfaaDoor.S
