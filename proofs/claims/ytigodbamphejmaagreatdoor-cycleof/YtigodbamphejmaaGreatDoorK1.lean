/- The contract of package block's without: which nodes are together without all edges of one. -/
import Derived.Test.YtigodbamphejmaaGreatDoorKo
import Derived.Test.YtigodbamphejmaaGreatDoorGW
import Derived.Test.YtigodbamphejmaaGreatDoorBl
import Derived.Maps.RangeWalk
import Derived.Maps.OwnSet
namespace Go.Proofs.YtigodbamphejmaaGreatDoor.S
open Go.RowKit Go.WideMaps Go.Maps

theorem Ed.nat {n i : Nat} {L : List (Int × Int × Int)} (h : Ed n i L) {e : Int × Int × Int} (he : e ∈ L) : e.2.1 = (ea e : Int) ∧ e.2.2 = (eb e : Int) ∧ ea e < n ∧ eb e < n ∧ ea e < eb e := by
  obtain ⟨x, y, hxy, hy, hq⟩ := h.ends e he
  have h1 : e.2.1 = (x : Int) := by rw [hq]
  have h2 : e.2.2 = (y : Int) := by rw [hq]
  have h3 : ea e = x := by unfold ea; rw [h1]; simp
  have h4 : eb e = y := by unfold eb; rw [h2]; simp
  rw [h3, h4]
  exact ⟨h1, h2, by omega, by omega, by omega⟩

theorem Ed.inn {n i : Nat} {L : List (Int × Int × Int)} (h : Ed n i L) : ∀ e ∈ L, ea e < n ∧ eb e < n := fun _ he => ⟨(h.nat he).2.2.1, (h.nat he).2.2.2.1⟩
theorem Ed.proper {n i : Nat} {L : List (Int × Int × Int)} (h : Ed n i L) : ∀ e ∈ L, ea e ≠ eb e := fun e he => by have := (h.nat he).2.2.2.2; omega

theorem wo_stays {n i : Nat} {L : List (Int × Int × Int)} (h : Ed n i L) (x : Nat) (Fe : Nat → Int) : L.filter (G.stays Fe (fun _ => (x : Int)) 0 1) = wo L x := by
  unfold wo
  apply List.filter_congr
  intro e he
  have hn := h.nat he
  unfold G.stays G.among
  rw [hn.1, hn.2.1, Bool.eq_iff_iff]
  simp
  omega

theorem kx_joins {n i : Nat} {L : List (Int × Int × Int)} (h : Ed n i L) (x : Nat) : Good n (joins (List.range n) (wo L x)) ∧ Kx n L x (joins (List.range n) (wo L x)) := by
  have hin : ∀ d ∈ wo L x, ea d < n ∧ eb d < n := fun d hd => h.inn d (mem_wo.1 hd).1
  have hg := good_joins (wo L x) _ (good_range n) hin
  refine ⟨hg, fun u v hu hv => ?_⟩
  rw [← Lk.iff hu hv, Lk_joins (wo L x) _ (good_range n) hin]
  constructor
  · intro c
    refine Conn.lift c ?_
    rintro p q (c | ⟨e, he, rfl, rfl⟩)
    · rcases c with rfl | ⟨h1, h2, h3⟩
      · exact Conn.refl _
      · have e1 : (List.range n).getD p 0 = p := by simp [h1]
        have e2 : (List.range n).getD q 0 = q := by simp [h2]
        rw [e1, e2] at h3; subst h3; exact Conn.refl _
    · exact cn_edge he
  · intro c
    refine Conn.lift c ?_
    rintro p q ⟨e, he, rfl, rfl⟩
    exact Conn.base (.inr ⟨e, he, rfl, rfl⟩)

theorem But.cell {b : Nat} {w w' : World} (h : But b w w') {g i : Nat} {v : Value} (hg : w.cell? ⟨g, i, none⟩ = some v) (h1 : g ≠ b) : w'.cell? ⟨g, i, none⟩ = some v := by
  have hl := lt_of_cell hg
  simp only [World.cell?] at hg ⊢
  rw [h.block g hl h1]; exact hg

theorem joins_snoc (L : List Nat) (ds : List (Int × Int × Int)) (d : Int × Int × Int) : joins L (ds ++ [d]) = joinL (joins L ds) (ea d) (eb d) := by
  rw [joins_append]; rfl

set_option maxHeartbeats 2000000 in
set_option maxRecDepth 100000 in
theorem bwo_any (x n B0 q M : Nat) (u : Value) (R : List (Int × Int × Int)) (w : World) (h : G.GAt w B0 124 55 q (n : Int) u R) (hn : n ≤ 40) (hed : Ed n M R) (hM : M ≤ 100) :
    Calls Tryz.prog 92 #[.pointer (some ⟨q, 0, none⟩), .int .i64 (x : Int)] w fun e w' => ∃ p b K, e = .returned (.pointer (some ⟨p, 0, none⟩)) ∧ SetsAt w' p b K ∧ Good n K ∧ Kx n R x K ∧ Below w.heap.size w w' ∧ w.heap.size ≤ p ∧ w.heap.size ≤ b := by
  have HG : Hid (G.GAt w B0 124 55 q (n : Int) u R) := h
  have HE : Hid (Ed n M R) := hed
  have HKX := (show Hid _ from kx_joins hed x)
  have hlen := hed.len
  clear h hed
  go_enter Tryz.func92, Tryz.ntmps92
  go_wp2_with fail
  refine (G.nodes_any (n : Int) B0 q u R w HG.out).mono ?_
  rintro e w1 ⟨rfl, hw1⟩
  subst hw1
  go_wp2_with fail
  refine (new_in n w1 hn).mono ?_
  rintro e w2 ⟨rfl, hs2, hb2⟩
  have HS2 : Hid (SetsAt w2 (w1.heap.size + 1) w1.heap.size (List.range n) ∧ Below w1.heap.size w1 w2) := ⟨hs2, hb2⟩
  have hsz : w1.heap.size + 1 < w2.heap.size := hs2.plt
  obtain ⟨W1, hW1⟩ : ∃ W1, W1 = w2.alloc (.cells #[.int .i64 (x : Int)] 3) := ⟨_, rfl⟩
  have hbW : Below w2.heap.size w2 W1 := by rw [hW1]; exact (Below.refl _ _).alloc (Nat.le_refl _) _
  have hcW : W1.cell? ⟨w2.heap.size, 0, none⟩ = some (.int .i64 (x : Int)) := by rw [hW1, World.cell?_alloc_at _ _ _ _ rfl]; rfl
  have HW1 : Hid (w2.alloc (.cells #[.int .i64 (x : Int)] 3) = W1) := hW1.symm
  have HBW : Hid (Below w2.heap.size w2 W1 ∧ W1.cell? ⟨w2.heap.size, 0, none⟩ = some (.int .i64 (x : Int))) := ⟨hbW, hcW⟩
  clear hs2 hb2 hW1 hbW hcW
  go_wp2_with fail
  rw [HW1.out]
  refine (G.without_any (n : Int) B0 q u R none (some ⟨w2.heap.size, 0, none⟩) 0 1 0 1 (fun _ => 0) (fun _ => (x : Int)) W1 ((HG.out.below HS2.out.2).below HBW.out.1) (by omega) ⟨fun h => by omega⟩ ⟨fun _ => ⟨w2.heap.size, 0, rfl, fun t ht => by
    obtain rfl : t = 0 := by omega
    exact HBW.out.2⟩⟩ (by omega) (by omega)).mono ?_
  rintro e w3 ⟨p', v', rfl, hg3, hb3⟩
  rw [wo_stays HE.out] at hg3
  have HG3 : Hid (G.GAt w3 W1.heap.size 124 55 p' (n : Int) v' (wo R x)) := hg3
  have HB3 : Hid (Below w2.heap.size w2 w3) := HBW.out.1.trans (hb3.mono HBW.out.1.size)
  have hwl : (wo R x).length ≤ R.length := List.length_filter_le _ _
  clear hg3 hb3 HBW HW1
  go_wp2_with fail
  refine (G.edges_any (n : Int) _ p' v' (wo R x) w3 HG3.out (by omega)).mono ?_
  rintro e w4 ⟨v, rfl, ho, hb4⟩
  obtain ⟨m, hm⟩ : ∃ m, m = (wo R x).length := ⟨_, rfl⟩
  have HM' : Hid (m = (wo R x).length) := hm
  obtain ⟨va, vc, hv⟩ := ho.slice_len
  rw [← hm] at hv hwl
  subst hv
  have HO : Hid (G.Owns w4 w3.heap.size 55 (.slice va m vc) (wo R x)) := ho
  have HB4 : Hid (Below w2.heap.size w2 w4) := HB3.out.trans (hb4.mono HB3.out.size)
  have HS4 : Hid (SetsAt w4 (w1.heap.size + 1) w1.heap.size (List.range n)) := HS2.out.1.below HB4.out hsz (by omega)
  have hs34 : w2.heap.size ≤ w3.heap.size := HB3.out.size
  clear ho hb4 hm
  go_wp2_with fail
  go_loopw [21] (fun s21 wq => ∃ j : Nat, j ≤ m ∧ s21 = .int .i64 j ∧ SetsAt wq (w1.heap.size + 1) w1.heap.size (joins (List.range n) ((wo R x).take j)) ∧ But w1.heap.size w4 wq) (fun s21 _ => m - (intOf s21).toNat)
  case atStart => exact ⟨0, Nat.zero_le _, rfl, by simpa [joins] using HS4.out, But.refl _ _⟩
  case round =>
    clear HS4
    obtain ⟨j, hj, rfl, hs, hk⟩ := hrel
    have HR : Hid (SetsAt wr (w1.heap.size + 1) w1.heap.size (joins (List.range n) ((wo R x).take j)) ∧ But w1.heap.size w4 wr) := ⟨hs, hk⟩
    clear hs hk
    by_cases hlt : j < m
    · obtain ⟨e, hxe⟩ : ∃ e, (wo R x)[j]? = some e := ⟨_, List.getElem?_eq_getElem (by rw [← HM'.out]; exact hlt)⟩
      have heL := (mem_wo.1 (List.mem_of_getElem? hxe)).1
      have hnat := HE.out.nat heL
      obtain ⟨g, hva⟩ : ∃ g, va = some ⟨g, 0, none⟩ := by
        rcases HO.out.shape with ⟨_, k⟩ | ⟨g, cap, k, _⟩
        · rw [k] at hxe; simp at hxe
        · injection k with e1 _ _
          exact ⟨g, e1⟩
      subst hva
      obtain ⟨r0, r1, r2⟩ := HO.out.at (g := g) rfl hxe
      have hgb := World.ownsRow.lt HO.out g rfl
      have q0 := (HR.out.2.cell (g := g) r0 (by omega))
      have q1 := (HR.out.2.cell (g := g) r1 (by omega))
      have q2 := (HR.out.2.cell (g := g) r2 (by omega))
      have HTK : Hid ((wo R x).take (j + 1) = (wo R x).take j ++ [e]) := by
        show (wo R x).take (j + 1) = _
        rw [List.take_add_one, hxe]; rfl
      rw [hnat.1] at q1
      rw [hnat.2.1] at q2
      obtain ⟨hA, hE, hAE⟩ := hnat.2.2
      have HAE : Hid (joins (List.range n) ((wo R x).take (j + 1)) = joinL (joins (List.range n) ((wo R x).take j)) (ea e) (eb e)) := by
        show joins _ _ = _
        rw [HTK.out, joins_snoc]
      have hgl : (joins (List.range n) ((wo R x).take j)).length = n := (good_joins ((wo R x).take j) _ (good_range n) (fun d hd => HE.out.inn d (mem_wo.1 (List.mem_of_mem_take hd)).1)).len
      generalize ea e = A at *
      generalize eb e = E at *
      generalize e.1 = x0 at *
      generalize joins (List.range n) ((wo R x).take j) = J at *
      clear hxe r0 r1 r2 heL hnat HTK
      -- the edge's box
      obtain ⟨W1, hW1⟩ : ∃ W1, W1 = wr.alloc (.cells #[.int .i64 x0, .int .i64 (A : Int), .int .i64 (E : Int)] 55) := ⟨_, rfl⟩
      have hh : W1.heap[wr.heap.size]? = some (.cells #[.int .i64 x0, .int .i64 (A : Int), .int .i64 (E : Int)] 55) := by rw [hW1]; exact heap_alloc_new wr _
      have p0 : W1.cell? ⟨wr.heap.size, 0, none⟩ = some (.int .i64 x0) := by simp [World.cell?, hh]
      have p1 : W1.cell? ⟨wr.heap.size, 1, none⟩ = some (.int .i64 (A : Int)) := by simp [World.cell?, hh]
      have p2 : W1.cell? ⟨wr.heap.size, 2, none⟩ = some (.int .i64 (E : Int)) := by simp [World.cell?, hh]
      have hbW : Below wr.heap.size wr W1 := by rw [hW1]; exact (Below.refl _ _).alloc (Nat.le_refl _) _
      have HR1 : Hid (SetsAt W1 (w1.heap.size + 1) w1.heap.size J ∧ But w1.heap.size w4 W1) := ⟨HR.out.1.below hbW HR.out.1.plt HR.out.1.blt, HR.out.2.trans (But.of_below hbW)⟩
      have HW1 : Hid (wr.alloc (.cells #[.int .i64 x0, .int .i64 (A : Int), .int .i64 (E : Int)] 55) = W1) := hW1.symm
      clear hh hW1 hbW HR
      go_wp2_with fail
      rw [HW1.out]
      refine (join_nm A E _ _ J _ W1 HR1.out.1 (by omega) (by omega) (by omega) rfl).mono ?_
      rintro e' w5 ⟨rfl, hs5, hk5⟩
      have HR5 : Hid (SetsAt w5 (w1.heap.size + 1) w1.heap.size (joins (List.range n) ((wo R x).take (j + 1))) ∧ But w1.heap.size w4 w5) := by
        rw [HAE.out]
        exact ⟨hs5, HR1.out.2.trans hk5⟩
      clear hs5 hk5 HR1 p0 p1 p2
      go_wp2_with fail
      go_roundw
      case rel => exact ⟨j + 1, by omega, by go_num, HR5.out.1, HR5.out.2⟩
      case measure => simp [intOf]; omega
    · have hje : j = m := by omega
      subst hje
      have HF : Hid (SetsAt wr (w1.heap.size + 1) w1.heap.size (joins (List.range n) (wo R x))) := by
        have := HR.out.1
        rw [List.take_of_length_le (by rw [← HM'.out]; omega)] at this
        exact this
      have HBF : Hid (Below w1.heap.size w1 wr) := (HS2.out.2.trans (HB4.out.mono HS2.out.2.size)).trans (HR.out.2.below (Nat.le_refl _) (by have := HB4.out.size; omega))
      clear HR
      go_wp2_with fail
      go_ret
      exact ⟨_, _, _, rfl, HF.out, HKX.out.1, HKX.out.2, HBF.out, Nat.le_succ _, Nat.le_refl _⟩

end Go.Proofs.YtigodbamphejmaaGreatDoor.S
namespace Go.Proofs.YtigodbamphejmaaGreatDoor.S
open Go Go.ChangeMaps Go.MapKept Go.WideShapes
open Go.WideElems (Fit rd rg pl rd_key rd_val rg_of rd_mk other_key)
open Go.Maps (Keyed)

section
variable {H : Type} {P : Program} {k : TypeId} {R : Value → Option (DataW H × List MemPlace)} {w : World} {b r n : Nat} {D : DataW H} {left : Lit → Bool} {cnt : Nat}

theorem ranges_store {t e : TypeId} (h : w.ranges P k R b r n D left cnt) (K : Keyed P k) (ht : P.underlying t = some (.map k e)) {key val : Value} {kl : Lit} {d : DataW H} {ps : List MemPlace}
    (hkey : keyOf P k key = some kl) (hv : R val = some (d, ps)) (hhas : Maps.has D kl = true) :
    ∃ w', (Instr.mapUpdate t (.map (some b)) key val).run P w = .ok () w' ∧ w'.ranges P k R b r n (D.put kl d) left cnt ∧ w.mapTurned w' b := by
  have hne := h.ne
  obtain ⟨es, clock, since, seen, c0, hb, F, hs, rfl, hr, hold, rfl, hl1, hl2, hsc, hsk⟩ := h
  rcases K.find w hkey es.toList F.keys with ⟨h1, h2⟩ | ⟨j, e0, h1, h2, h3⟩
  · exfalso
    rw [Maps.has_eq, List.any_eq_true] at hhas
    obtain ⟨p, hp, hpk⟩ := hhas
    obtain ⟨x, hx, rfl⟩ := List.mem_map.1 (mem_sorted.1 hp)
    obtain ⟨y, hy⟩ := F.reads x hx
    have e1 := WideAt.sameKey_eq hpk
    rw [rg_of hy] at e1
    exact h2 x hx (K.inj (e1 ▸ rd_key hy) hkey)
  · have hj : es[j]? = some e0 := by simpa using h2
    have hjl : j < es.toList.length := (List.getElem?_eq_some_iff.1 h2).1
    have hkeyf : ∀ e', es[j]? = some e' → ({ e' with key := key, val := val } : MapEntry).key = e'.key := fun e' he' => by rw [hj] at he'; cases he'; exact h3.symm
    have hlist : (es.modify j (fun e' => { e' with key := key, val := val })).toList = es.toList.set j { e0 with key := key, val := val } := by rw [Array.toList_modify, modify_eq_set _ _ _ _ h2]
    have who : ∀ x ∈ es.toList.set j { e0 with key := key, val := val }, x = { e0 with key := key, val := val } ∨ (x ∈ es.toList ∧ x.key ≠ key) := by
      intro x hx
      obtain ⟨i, hi, ex⟩ := List.getElem_of_mem hx
      rw [List.getElem_set] at ex
      split at ex
      · exact Or.inl ex.symm
      · rename_i hne
        have hi' : i < es.toList.length := by simpa using hi
        refine Or.inr ⟨ex ▸ List.getElem_mem hi', ?_⟩
        rw [← h3]
        exact other_key F h2 (by rw [List.getElem?_eq_getElem hi', ex]) (fun e1 => hne e1.symm)
    have he0 : e0 ∈ es.toList := List.mem_of_getElem? h2
    have hrg0 : (rg P k R e0).1 = kl := by
      obtain ⟨y, hy⟩ := F.reads e0 he0
      have m0 := rd_key hy
      rw [h3, hkey] at m0
      rw [rg_of hy]; exact (Option.some.inj m0).symm
    have hrgn : (rg P k R { e0 with key := key, val := val }).1 = kl := by rw [rg_of (rd_mk hkey hv)]
    refine ⟨_, ?_, ⟨es.modify j (fun e' => { e' with key := key, val := val }), clock, since, seen, c0, heap_setBlock_same hb _, ⟨by simpa using F.size, stamped_modify F.stamped _ _ (fun _ _ => rfl) (fun e' _ he' => hkeyf e' he'), ?_⟩, by simpa using hs, ?_, (heap_setBlock_other hb _ hne).trans hr, ?_, ?_, ?_, ?_, hsc, hsk⟩, ⟨es, clock, _, clock, hb, rfl⟩⟩
    · simp [Instr.mapUpdate, run_underlying ht, MapKept.run_getObj_map hb, K.check w false hkey, h1, hj, h3, K.stays w hkey, MapKept.run_setObj_map _ hb, Result.andThen, setBlock]
    · intro x hx
      rw [hlist] at hx
      rcases who x hx with rfl | ⟨hx', _⟩
      · exact ⟨_, rd_mk hkey hv⟩
      · exact F.reads x hx'
    · rw [DataW.put_eq]
      congr 1
      symm
      refine Maps.sorted_put K.one ⟨key, hkey⟩ (Maps.fit_keys F) (Maps.fit_apart K F) ?_
      rw [Maps.filter_one K F hkey h2 h3, hlist, List.map_set, rg_of (rd_mk hkey hv)]
      exact set_perm _ _ (by simpa using hjl) _
    · intro x hx
      rw [hlist] at hx
      rcases who x hx with rfl | ⟨hx', _⟩
      · exact hold e0 he0
      · exact hold x hx'
    · have e1 : ∀ a : Array MapEntry, (leftOf a seen).size = ((a.toList.map MapEntry.born).filter fun e => !seen.contains e).length := fun a => by
        unfold leftOf
        rw [← Array.length_toList, Array.toList_filter, List.filter_map, List.length_map]
        rfl
      rw [e1, e1, hlist, List.map_set]
      have e2 : (es.toList.map MapEntry.born).set j e0.born = es.toList.map MapEntry.born := by
        apply List.ext_getElem
        · simp
        · intro i h1' h2'
          rw [List.getElem_set]
          split
          · next hji =>
            subst hji
            rw [List.getElem_map]
            have := (List.getElem?_eq_some_iff.1 h2).2
            rw [this]
          · rfl
      rw [e2]
    · intro x hx
      rw [hlist] at hx
      rcases who x hx with rfl | ⟨hx', _⟩
      · rw [hrgn, ← hrg0, hl1 e0 he0]
      · exact hl1 x hx'
    · intro kl' hk
      obtain ⟨x, hx, rfl⟩ := hl2 kl' hk
      by_cases hxk : x.key = key
      · have : (rg P k R x).1 = kl := by
          obtain ⟨y, hy⟩ := F.reads x hx
          have m0 := rd_key hy
          rw [hxk, hkey] at m0
          rw [rg_of hy]; exact (Option.some.inj m0).symm
        refine ⟨{ e0 with key := key, val := val }, ?_, by rw [hrgn, this]⟩
        rw [hlist]
        exact List.mem_iff_getElem.2 ⟨j, by simpa using hjl, by simp⟩
      · refine ⟨x, ?_, rfl⟩
        rw [hlist]
        obtain ⟨i, hi⟩ := List.getElem?_of_mem hx
        obtain ⟨hil, hie⟩ := List.getElem?_eq_some_iff.1 hi
        have hij : j ≠ i := by
          rintro rfl
          rw [h2] at hi; cases hi; exact hxk h3
        exact List.mem_iff_getElem.2 ⟨i, by simpa using hil, by rw [List.getElem_set, if_neg hij]; exact hie⟩

end

section
variable {H : Type} {P : Program} (w : World) {ops : Array Oper} {rest : List Oper} {o : Oper} {a : Act} {Q : Exit → Act → World → Prop}

theorem wpList_mapUpdate_ranges (hg : o.guard = none) (m x v : Operand) (t : TypeId) (hop : o.op = Op.mapUpdate t m x v)
    (k e : TypeId) (K : Keyed P k) (ht : P.underlying t = some (.map k e)) (R : Value → Option (DataW H × List MemPlace)) (b r n : Nat) (D : DataW H) (left : Lit → Bool) (cnt : Nat)
    (hm : a.eval m = .map (some b)) (h : w.ranges P k R b r n D left cnt) (key val : Value) (kl : Lit) (hx : a.eval x = key) (hv : a.eval v = val) (hkey : keyOf P k key = some kl)
    (d : DataW H) (ps : List MemPlace) (hval : R val = some (d, ps)) (hhas : Maps.has D kl = true)
    (hK : ∀ w', w'.ranges P k R b r n (D.put kl d) left cnt → w.mapTurned w' b → wpList P ops Q rest (a.put o.dst undef) w') :
    wpList P ops Q (o :: rest) a w := by
  refine wpList_plain hg fun K' hK' => ?_
  obtain ⟨w', hrun, r1, r2⟩ := ranges_store h K ht hkey hval hhas
  unfold Oper.wp
  simp [execOp, hop, hm, hx, hv, hrun, Result.andThen]
  exact hK' _ _ (hK w' r1 r2)

end

end Go.Proofs.YtigodbamphejmaaGreatDoor.S
namespace Go.Proofs.YtigodbamphejmaaGreatDoor.S
open Go.RowKit Go.WideMaps Go.Maps

/-- The number of the edge at a place. -/
def idAt (R : List (Int × Int × Int)) (j : Nat) : Int := (R.getD j (0, 0, 0)).1

theorem idAt_of {R : List (Int × Int × Int)} {i : Nat} {e : Int × Int × Int} (h : R[i]? = some e) : idAt R i = e.1 := by simp [idAt, h]

theorem idAt_lt {R : List (Int × Int × Int)} (hu : G.Up R) {i j : Nat} (h : i < j) (hj : j < R.length) : idAt R i < idAt R j := by
  have := List.pairwise_iff_getElem.1 hu i j (by omega) hj h
  simpa [idAt, hj, show i < R.length by omega] using this

theorem idAt_inj {R : List (Int × Int × Int)} (hu : G.Up R) {i j : Nat} (hi : i < R.length) (hj : j < R.length) (h : idAt R i = idAt R j) : i = j := by
  rcases Nat.lt_trichotomy i j with c | c | c
  · have := idAt_lt hu c hj; omega
  · exact c
  · have := idAt_lt hu c hi; omega

/-- The map has of each edge's number the one of the least edge that it is alike with. -/
structure Lm (D : DataW Unit) (R : List (Int × Int × Int)) (L : List Nat) : Prop where
  key : ∀ x : Int, Maps.has D (.int .i64 x) = true ↔ ∃ e ∈ R, e.1 = x
  val : ∀ i e, R[i]? = some e → ∀ zd, D.atKey (.int .i64 e.1) zd = .lit (.int .i64 (idAt R (L.getD i 0)))

/-- The Blocks value. -/
structure BlAt (w : World) (p m N : Nat) (D : DataW Unit) (v : Value) : Prop where
  hp : w.heap[p]? = some (.cells #[.map (some m), v] 85)
  hm : w.ownsMap Tryz.prog 3 (plainElem Tryz.prog 3) m N D

namespace BlAt
variable {w w' : World} {p m N : Nat} {D D' : DataW Unit} {v : Value}
theorem plt (h : BlAt w p m N D v) : p < w.heap.size := lt_of_some h.hp
theorem c0 (h : BlAt w p m N D v) : w.cell? ⟨p, 0, none⟩ = some (.map (some m)) := by simp [World.cell?, h.hp]
theorem c1 (h : BlAt w p m N D v) : w.cell? ⟨p, 1, none⟩ = some v := by simp [World.cell?, h.hp]
theorem ne (h : BlAt w p m N D v) : p ≠ m := by
  obtain ⟨es, c, hb, _⟩ := h.hm
  rintro rfl
  rw [h.hp] at hb; simp at hb
theorem below (h : BlAt w p m N D v) (hb : Below w.heap.size w w') : BlAt w' p m N D v :=
  ⟨by rw [hb.block p h.plt]; exact h.hp, h.hm.kept (row := none) ⟨hb.os, hb.tape, hb.output, hb.size, fun k hk _ => hb.block k hk⟩ (by simp)⟩
theorem drewN (h : BlAt w p m N D v) (n : Nat) : BlAt (w.drewN n) p m N D v := ⟨h.hp, h.hm⟩
end BlAt

/-- A number is named anew. -/
def nm (lo hi l : Int) : Int := if l = hi then lo else l

theorem nm_id {R : List (Int × Int × Int)} {L : List Nat} (hu : G.Up R) (g : Good R.length L) {x y i : Nat} (hx : x < R.length) (hy : y < R.length) (hi : i < R.length) :
    nm (min (idAt R (L.getD x 0)) (idAt R (L.getD y 0))) (max (idAt R (L.getD x 0)) (idAt R (L.getD y 0))) (idAt R (L.getD i 0)) = idAt R ((joinL L x y).getD i 0) := by
  have lx := g.le x hx
  have ly := g.le y hy
  have li := g.le i hi
  rw [joinL_at _ _ _ _ (by rw [g.len]; exact hi)]
  generalize L.getD x 0 = X at *
  generalize L.getD y 0 = Y at *
  generalize L.getD i 0 = I at *
  have hmin : min (idAt R X) (idAt R Y) = idAt R (min X Y) := by
    rcases Nat.lt_trichotomy X Y with c | c | c
    · have := idAt_lt hu c (by omega); rw [Nat.min_eq_left (by omega)]; omega
    · subst c; rw [Nat.min_self]; omega
    · have := idAt_lt hu c (by omega); rw [Nat.min_eq_right (by omega)]; omega
  have hmax : max (idAt R X) (idAt R Y) = idAt R (max X Y) := by
    rcases Nat.lt_trichotomy X Y with c | c | c
    · have := idAt_lt hu c (by omega); rw [Nat.max_eq_right (by omega)]; omega
    · subst c; rw [Nat.max_self]; omega
    · have := idAt_lt hu c (by omega); rw [Nat.max_eq_left (by omega)]; omega
  rw [hmin, hmax]
  unfold nm named
  by_cases c : I = max X Y
  · rw [if_pos (by rw [c]), if_pos c]
  · rw [if_neg (fun k => c (idAt_inj hu (by omega) (by omega) k)), if_neg c]

/-- Amid the range over the map. -/
structure Mid (D : DataW Unit) (R : List (Int × Int × Int)) (L : List Nat) (lo hi : Int) (left : Lit → Bool) : Prop where
  key : ∀ x : Int, Maps.has D (.int .i64 x) = true ↔ ∃ e ∈ R, e.1 = x
  old : ∀ i e, R[i]? = some e → left (.int .i64 e.1) = true → ∀ zd, D.atKey (.int .i64 e.1) zd = .lit (.int .i64 (idAt R (L.getD i 0)))
  new : ∀ i e, R[i]? = some e → left (.int .i64 e.1) = false → ∀ zd, D.atKey (.int .i64 e.1) zd = .lit (.int .i64 (nm lo hi (idAt R (L.getD i 0))))

theorem mid_start {D : DataW Unit} {R : List (Int × Int × Int)} {L : List Nat} (h : Lm D R L) (lo hi : Int) : Mid D R L lo hi (Maps.has D) :=
  ⟨h.key, fun i e he _ => h.val i e he, fun i e he hl => by
    rw [(h.key e.1).2 ⟨e, List.mem_of_getElem? he, rfl⟩] at hl; cases hl⟩

theorem mid_end {D : DataW Unit} {R : List (Int × Int × Int)} {L : List Nat} {x y : Nat} {left : Lit → Bool} (hu : G.Up R) (g : Good R.length L) (hx : x < R.length) (hy : y < R.length)
    (h : Mid D R L (min (idAt R (L.getD x 0)) (idAt R (L.getD y 0))) (max (idAt R (L.getD x 0)) (idAt R (L.getD y 0))) left) (hl : ∀ kl, left kl = false) : Lm D R (joinL L x y) :=
  ⟨h.key, fun i e he zd => by
    rw [h.new i e he (hl _) zd, nm_id hu g hx hy (List.getElem?_eq_some_iff.1 he).1]⟩

theorem key_self (x y : Int) : (Lit.int .i64 x).sameKey (.int .i64 y) = decide (x = y) := by
  by_cases h : x = y
  · subst h; rw [WideAt.sameKey_self (isKeyLit x)]; simp
  · rw [sameKey_ne (by simpa using h)]; simp [h]

theorem up_one {R : List (Int × Int × Int)} (hu : G.Up R) {i j : Nat} {e f : Int × Int × Int} (hi : R[i]? = some e) (hj : R[j]? = some f) (h : e.1 = f.1) : i = j ∧ e = f := by
  have e1 := idAt_of hi
  have e2 := idAt_of hj
  have hij := idAt_inj hu (List.getElem?_eq_some_iff.1 hi).1 (List.getElem?_eq_some_iff.1 hj).1 (by rw [e1, e2, h])
  subst hij
  rw [hi] at hj; cases hj
  exact ⟨rfl, rfl⟩

/-- An entry that stays as it is. -/
theorem mid_stay {D : DataW Unit} {R : List (Int × Int × Int)} {L : List Nat} {lo hi : Int} {left : Lit → Bool} (hu : G.Up R) (h : Mid D R L lo hi left) {i : Nat} {e : Int × Int × Int} (he : R[i]? = some e) (hl : left (.int .i64 e.1) = true) (hne : idAt R (L.getD i 0) ≠ hi) :
    Mid D R L lo hi (fun z => left z && !z.sameKey (.int .i64 e.1)) := by
  refine ⟨h.key, fun j f hf hlf zd => ?_, fun j f hf hlf zd => ?_⟩
  · simp only [Bool.and_eq_true] at hlf
    exact h.old j f hf hlf.1 zd
  · by_cases c : f.1 = e.1
    · obtain ⟨rfl, rfl⟩ := up_one hu hf he c
      rw [h.old j f hf hl zd]
      unfold nm
      rw [if_neg hne]
    · simp only [key_self, c, decide_false, Bool.not_false, Bool.and_true] at hlf
      exact h.new j f hf hlf zd

/-- An entry that is named anew. -/
theorem mid_turn {D : DataW Unit} {R : List (Int × Int × Int)} {L : List Nat} {lo hi : Int} {left : Lit → Bool} (hD : IsMap D) (hu : G.Up R) (h : Mid D R L lo hi left) {i : Nat} {e : Int × Int × Int} (he : R[i]? = some e) (heq : idAt R (L.getD i 0) = hi) :
    Mid (D.put (.int .i64 e.1) (.lit (.int .i64 lo))) R L lo hi (fun z => left z && !z.sameKey (.int .i64 e.1)) := by
  refine ⟨fun x => ?_, fun j f hf hlf zd => ?_, fun j f hf hlf zd => ?_⟩
  · by_cases c : x = e.1
    · subst c
      rw [has_put_same hD (isKeyLit _)]
      exact ⟨fun _ => ⟨e, List.mem_of_getElem? he, rfl⟩, fun _ => rfl⟩
    · rw [has_put_other (by simpa using c)]; exact h.key x
  · by_cases c : f.1 = e.1
    · simp [key_self, c] at hlf
    · rw [atKey_put_other (by simpa using c)]
      simp only [Bool.and_eq_true] at hlf
      exact h.old j f hf hlf.1 zd
  · by_cases c : f.1 = e.1
    · obtain ⟨rfl, rfl⟩ := up_one hu hf he c
      rw [atKey_put_same hD (isKeyLit _)]
      unfold nm
      rw [if_pos heq]
    · rw [atKey_put_other (by simpa using c)]
      simp only [key_self, c, decide_false, Bool.not_false, Bool.and_true] at hlf
      exact h.new j f hf hlf zd

theorem But.next {m r : Nat} {w w1 w2 : World} (h : But m w w1) (hr : w.heap.size ≤ r) (hg : w1.grownBy w2 (some r)) : But m w w2 :=
  ⟨hg.os.trans h.os, hg.tape.trans h.tape, hg.output.trans h.output, Nat.le_trans h.size hg.size, fun k hk hn => (hg.block k (Nat.lt_of_lt_of_le hk h.size) (fun e => by injection e with e; omega)).trans (h.block k hk hn)⟩

theorem But.turned {m : Nat} {w w1 w2 : World} (h : But m w w1) (hg : w1.mapTurned w2 m) : But m w w2 :=
  ⟨hg.grown.os.trans h.os, hg.grown.tape.trans h.tape, hg.grown.output.trans h.output, Nat.le_trans h.size hg.grown.size, fun k hk hn => (hg.grown.block k (Nat.lt_of_lt_of_le hk h.size) (fun e => by injection e with e; omega)).trans (h.block k hk hn)⟩

theorem zero3 (w : World) : (zeroValue 3).run Tryz.prog w = .ok (.int .i64 0) w := by kernel_rfl

theorem lit_inj {a b : Int} (h : (DataW.lit (.int .i64 a) : DataW Unit) = .lit (.int .i64 b)) : a = b := by
  injection h with h
  injection h

/-- What is looked up. -/
theorem look_least {w : World} {m N : Nat} {D : DataW Unit} {R : List (Int × Int × Int)} {L : List Nat} (hm : w.ownsMap Tryz.prog 3 (plainElem Tryz.prog 3) m N D) (hl : Lm D R L) {i : Nat} {e : Int × Int × Int} (he : R[i]? = some e) (hw : (Lit.int .i64 e.1).wf = true) :
    (Instr.lookup 83 (.map (some m)) (.int .i64 e.1) false).run Tryz.prog w = .ok (.int .i64 (idAt R (L.getD i 0))) w := by
  obtain ⟨c, hrun, hat, _⟩ := hm.lookup_int law3 Tryz.underlying83 Tryz.underlying3 (zero3 w) (key3 e.1 hw)
  rw [hl.val i e he] at hat
  have : c = idAt R (L.getD i 0) := by
    have h2 := lit_inj hat
    exact h2.symm
  rw [hrun, this]

set_option maxHeartbeats 4000000 in
set_option maxRecDepth 100000 in
theorem bjoin_any {R : List (Int × Int × Int)} {L : List Nat} {e f : Int × Int × Int} (x y p m N : Nat) (D : DataW Unit) (v : Value) (w : World) (h : BlAt w p m N D v) (hl : Lm D R L) (g : Good R.length L) (hu : G.Up R) (hx : R[x]? = some e) (hy : R[y]? = some f) (hid : ∀ e ∈ R, 0 ≤ e.1 ∧ e.1 ≤ 1000000) :
    Calls Tryz.prog 95 #[.pointer (some ⟨p, 0, none⟩), .int .i64 e.1, .int .i64 f.1] w fun en w' => en = .returned (.tuple #[]) ∧ ∃ D', BlAt w' p m N D' v ∧ Lm D' R (joinL L x y) ∧ But m w w' := by
  have hxl := (List.getElem?_eq_some_iff.1 hx).1
  have hyl := (List.getElem?_eq_some_iff.1 hy).1
  have hwf : ∀ e ∈ R, (Lit.int .i64 e.1).wf = true := fun e he => wf_small (hid e he).1 (hid e he).2
  have hix : 0 ≤ idAt R (L.getD x 0) ∧ idAt R (L.getD x 0) ≤ 1000000 := by
    have hl := Nat.lt_of_le_of_lt (g.le x hxl) hxl
    have := idAt_of (List.getElem?_eq_getElem hl)
    rw [this]; exact hid _ (List.getElem_mem hl)
  have hiy : 0 ≤ idAt R (L.getD y 0) ∧ idAt R (L.getD y 0) ≤ 1000000 := by
    have hl := Nat.lt_of_le_of_lt (g.le y hyl) hyl
    have := idAt_of (List.getElem?_eq_getElem hl)
    rw [this]; exact hid _ (List.getElem_mem hl)
  have lk1 := fun n => look_least (h.drewN n).hm hl hx (hwf e (List.mem_of_getElem? hx))
  have lk2 := fun n => look_least (h.drewN n).hm hl hy (hwf f (List.mem_of_getElem? hy))
  have hc0 := h.c0
  have HB : Hid (BlAt w p m N D v) := h
  have HL : Hid (Lm D R L) := hl
  have HGD : Hid (Good R.length L ∧ G.Up R ∧ x < R.length ∧ y < R.length) := ⟨g, hu, hxl, hyl⟩
  have HWF : Hid (∀ e ∈ R, (Lit.int .i64 e.1).wf = true) := hwf
  obtain ⟨X, hX⟩ : ∃ X, idAt R (L.getD x 0) = X := ⟨_, rfl⟩
  obtain ⟨Y, hY⟩ : ∃ Y, idAt R (L.getD y 0) = Y := ⟨_, rfl⟩
  rw [hX] at lk1 hix
  rw [hY] at lk2 hiy
  have HXY : Hid (idAt R (L.getD x 0) = X ∧ idAt R (L.getD y 0) = Y) := ⟨hX, hY⟩
  have HSM : Hid (X = Y → joinL L x y = L) := fun k => by
    apply joinL_same
    exact idAt_inj hu (Nat.lt_of_le_of_lt (g.le x hxl) hxl) (Nat.lt_of_le_of_lt (g.le y hyl) hyl) (by rw [hX, hY]; exact k)
  have hwX : (Lit.int .i64 X).wf = true := wf_small hix.1 hix.2
  have hwY : (Lit.int .i64 Y).wf = true := wf_small hiy.1 hiy.2
  clear h hl g hu hxl hyl hwf hX hY hid hx hy
  generalize e.1 = e1 at *
  generalize f.1 = f1 at *
  by_cases heq : X = Y
  · subst heq
    go_enter Tryz.func95, Tryz.ntmps95
    go_wp2_with fail
    go_quiet (fail)
    go_wp2_with fail
    refine bodyPost_ret (results_none rfl _ _ _) rfl ?_
    exact ⟨rfl, D, HB.out.drewN _, by rw [HSM.out trivial]; exact HL.out, But.of_below (below_drewN (Below.refl _ _) _)⟩
  · obtain ⟨lo, hlo⟩ : ∃ lo, min X Y = lo := ⟨_, rfl⟩
    obtain ⟨hi, hhi⟩ : ∃ hi, max X Y = hi := ⟨_, rfl⟩
    have hwlo : (Lit.int .i64 lo).wf = true := by
      rcases Int.le_total X Y with c | c
      · rw [← hlo, Int.min_eq_left c]; exact hwX
      · rw [← hlo, Int.min_eq_right c]; exact hwY
    have hne : (lo == hi) = false := beq_eq_false_iff_ne.2 (by omega)
    have HMM : Hid (min (idAt R (L.getD x 0)) (idAt R (L.getD y 0)) = lo ∧ max (idAt R (L.getD x 0)) (idAt R (L.getD y 0)) = hi) := by
      refine ⟨?_, ?_⟩ <;> rw [HXY.out.1, HXY.out.2] <;> assumption
    have hmsz := HB.out.hm.lt
    have hpsz := HB.out.plt
    have hpm := HB.out.ne
    rcases Int.lt_or_gt_of_ne heq with hlt | hgt
    · obtain ⟨rfl, rfl⟩ : X = lo ∧ Y = hi := by omega
      go_enter Tryz.func95, Tryz.ntmps95
      go_wp2_with fail
      go_quiet (fail)
      have HPW : Hid (w.heap[p]? = some (.cells #[.map (some m), v] 85)) := HB.out.hp
      have HOW : Hid (BlAt (w.drewN nq) p m N D v ∧ But m w (w.drewN nq)) := ⟨HB.out.drewN nq, But.of_below (below_drewN (Below.refl _ _) nq)⟩
      have HSZ : Hid ((w.drewN nq).heap.size = w.heap.size) := rfl
      generalize w.drewN nq = W at *
      have hown := HOW.out.1.hm
      have hc0 := HOW.out.1.c0
      clear lk1 lk2 HB HXY HSM heq
      go_wp2_with (first
        | (at_range; refine wpList_range_own _ rfl _ 83 rfl 3 3 law3 Tryz.underlying83 (plainElem Tryz.prog 3) m N D rfl hown ?_; intro w0 hrg0 hg0 hs0)
        | fail)
      go_frame
      have HR0 : Hid (w0.ranges Tryz.prog 3 (plainElem Tryz.prog 3) m W.heap.size N D (Maps.has D) (Maps.size D)) := hrg0
      have HG0 : Hid (But m w w0) := HOW.out.2.trans ⟨hg0.os, hg0.tape, hg0.output, hg0.size, fun k hk _ => hg0.block k hk (by simp)⟩
      clear hrg0 hg0 hs0 hown hc0
      go_loopw [8] (fun _ wr => ∃ (Dc : DataW Unit) (left : Lit → Bool) (cnt : Nat), wr.ranges Tryz.prog 3 (plainElem Tryz.prog 3) m W.heap.size N Dc left cnt ∧ Mid Dc R L X Y left ∧ But m w wr) (fun _ wr => wr.rangeLeft m W.heap.size)
      case atStart => exact ⟨D, _, _, HR0.out, mid_start HL.out _ _, HG0.out⟩
      case round =>
        obtain ⟨Dc, left, cnt, hrg, hmid, hbt⟩ := hrel
        have HRG : Hid (wr.ranges Tryz.prog 3 (plainElem Tryz.prog 3) m W.heap.size N Dc left cnt) := hrg
        have HMD : Hid (Mid Dc R L X Y left) := hmid
        have HBT : Hid (But m w wr) := hbt
        clear hrg hmid hbt HR0 HG0
        go_wp2_with (first
          | (at_next; refine wpList_next_ranges_ii _ rfl _ rfl 3 3 .i64 .i64 law3 Tryz.underlying3 Tryz.underlying3 m W.heap.size N Dc left cnt rfl HRG.out ?_ ?_)
          | fail)
        · intro _ hl0
          have HL0 : Hid (∀ kl, left kl = false) := hl0
          clear hl0
          go_wp2
          go_end0
          refine ⟨rfl, Dc, ⟨?_, HRG.out.owns⟩, mid_end HGD.out.2.1 HGD.out.1 HGD.out.2.2.1 HGD.out.2.2.2 (by rw [HMM.out.1, HMM.out.2]; exact HMD.out) HL0.out, HBT.out⟩
          rw [HBT.out.block p hpsz hpm]; exact HPW.out
        · intro x1 c w1 cnt1 hwx hwc hlx hat hrg1 hlt1 hg1 hs1 hen
          obtain ⟨d, hdR, rfl⟩ := (HMD.out.key x1).1 (has_true_of_atKey hat)
          obtain ⟨t, ht⟩ := List.getElem?_of_mem hdR
          have hc : c = idAt R (L.getD t 0) := by
            have h1 := HMD.out.old t d ht hlx .nil
            rw [hat] at h1
            exact lit_inj h1
          have HB1 : Hid (But m w w1) := HBT.out.next (by rw [HSZ.out]; exact Nat.le_refl _) hg1
          have HR1 : Hid (w1.ranges Tryz.prog 3 (plainElem Tryz.prog 3) m W.heap.size N Dc (fun z => left z && !z.sameKey (.int .i64 d.1)) cnt1 ∧ cnt1 < cnt) := ⟨hrg1, hlt1⟩
          have HLX : Hid (left (.int .i64 d.1) = true) := hlx
          have HT : Hid (R[t]? = some d ∧ c = idAt R (L.getD t 0)) := ⟨ht, hc⟩
          have hkey := key3 d.1 hwx
          have HHAS : Hid (Maps.has Dc (.int .i64 d.1) = true) := has_true_of_atKey hat
          have hp1 : w1.heap[p]? = some (.cells #[.map (some m), v] 85) := by rw [HB1.out.block p hpsz hpm]; exact HPW.out
          have hc1 : w1.cell? ⟨p, 0, none⟩ = some (.map (some m)) := by simp [World.cell?, hp1]
          clear hwx hwc hlx hat hrg1 hlt1 hg1 hs1 hdR ht hc hp1
          by_cases hch : c = Y
          · as_aux_lemma =>
            have hcb : (c == Y) = true := beq_iff_eq.2 hch
            have HMT := (show Hid _ from mid_turn HR1.out.1.owns.isMap HGD.out.2.1 HMD.out HT.out.1 (HT.out.2.symm.trans hch))
            generalize d.1 = x1 at *
            clear hch
            go_wp2_with (first
              | (at_mapUpdate; refine wpList_mapUpdate_ranges _ rfl _ _ _ 83 rfl 3 3 law3 Tryz.underlying83 (plainElem Tryz.prog 3) m W.heap.size N Dc _ cnt1 rfl HR1.out.1 _ _ _ rfl rfl hkey _ [] (plainElem_int Tryz.underlying3 hwlo) HHAS.out ?_; intro w2 hrg2 hturn2)
              | fail)
            go_frame
            go_roundw
            case rel => exact ⟨_, _, cnt1, hrg2, HMT.out, HB1.out.turned hturn2⟩
            case measure => rw [hrg2.left_eq, HRG.out.left_eq]; exact HR1.out.2
          · as_aux_lemma =>
            have hcb : (c == Y) = false := beq_eq_false_iff_ne.2 hch
            have HMT := (show Hid _ from mid_stay HGD.out.2.1 HMD.out HT.out.1 HLX.out (fun k => hch (HT.out.2.trans k)))
            generalize d.1 = x1 at *
            clear hch
            go_wp2_with fail
            go_roundw
            case rel => exact ⟨_, _, cnt1, HR1.out.1, HMT.out, HB1.out⟩
            case measure => rw [HR1.out.1.left_eq, HRG.out.left_eq]; exact HR1.out.2
    · obtain ⟨rfl, rfl⟩ : Y = lo ∧ X = hi := by omega
      go_enter Tryz.func95, Tryz.ntmps95
      go_wp2_with fail
      go_quiet (fail)
      have HPW : Hid (w.heap[p]? = some (.cells #[.map (some m), v] 85)) := HB.out.hp
      have HOW : Hid (BlAt (w.drewN nq) p m N D v ∧ But m w (w.drewN nq)) := ⟨HB.out.drewN nq, But.of_below (below_drewN (Below.refl _ _) nq)⟩
      have HSZ : Hid ((w.drewN nq).heap.size = w.heap.size) := rfl
      generalize w.drewN nq = W at *
      have hown := HOW.out.1.hm
      have hc0 := HOW.out.1.c0
      clear lk1 lk2 HB HXY HSM heq
      go_wp2_with (first
        | (at_range; refine wpList_range_own _ rfl _ 83 rfl 3 3 law3 Tryz.underlying83 (plainElem Tryz.prog 3) m N D rfl hown ?_; intro w0 hrg0 hg0 hs0)
        | fail)
      go_frame
      have HR0 : Hid (w0.ranges Tryz.prog 3 (plainElem Tryz.prog 3) m W.heap.size N D (Maps.has D) (Maps.size D)) := hrg0
      have HG0 : Hid (But m w w0) := HOW.out.2.trans ⟨hg0.os, hg0.tape, hg0.output, hg0.size, fun k hk _ => hg0.block k hk (by simp)⟩
      clear hrg0 hg0 hs0 hown hc0
      go_loopw [8] (fun _ wr => ∃ (Dc : DataW Unit) (left : Lit → Bool) (cnt : Nat), wr.ranges Tryz.prog 3 (plainElem Tryz.prog 3) m W.heap.size N Dc left cnt ∧ Mid Dc R L Y X left ∧ But m w wr) (fun _ wr => wr.rangeLeft m W.heap.size)
      case atStart => exact ⟨D, _, _, HR0.out, mid_start HL.out _ _, HG0.out⟩
      case round =>
        obtain ⟨Dc, left, cnt, hrg, hmid, hbt⟩ := hrel
        have HRG : Hid (wr.ranges Tryz.prog 3 (plainElem Tryz.prog 3) m W.heap.size N Dc left cnt) := hrg
        have HMD : Hid (Mid Dc R L Y X left) := hmid
        have HBT : Hid (But m w wr) := hbt
        clear hrg hmid hbt HR0 HG0
        go_wp2_with (first
          | (at_next; refine wpList_next_ranges_ii _ rfl _ rfl 3 3 .i64 .i64 law3 Tryz.underlying3 Tryz.underlying3 m W.heap.size N Dc left cnt rfl HRG.out ?_ ?_)
          | fail)
        · intro _ hl0
          have HL0 : Hid (∀ kl, left kl = false) := hl0
          clear hl0
          go_wp2
          go_end0
          refine ⟨rfl, Dc, ⟨?_, HRG.out.owns⟩, mid_end HGD.out.2.1 HGD.out.1 HGD.out.2.2.1 HGD.out.2.2.2 (by rw [HMM.out.1, HMM.out.2]; exact HMD.out) HL0.out, HBT.out⟩
          rw [HBT.out.block p hpsz hpm]; exact HPW.out
        · intro x1 c w1 cnt1 hwx hwc hlx hat hrg1 hlt1 hg1 hs1 hen
          obtain ⟨d, hdR, rfl⟩ := (HMD.out.key x1).1 (has_true_of_atKey hat)
          obtain ⟨t, ht⟩ := List.getElem?_of_mem hdR
          have hc : c = idAt R (L.getD t 0) := by
            have h1 := HMD.out.old t d ht hlx .nil
            rw [hat] at h1
            exact lit_inj h1
          have HB1 : Hid (But m w w1) := HBT.out.next (by rw [HSZ.out]; exact Nat.le_refl _) hg1
          have HR1 : Hid (w1.ranges Tryz.prog 3 (plainElem Tryz.prog 3) m W.heap.size N Dc (fun z => left z && !z.sameKey (.int .i64 d.1)) cnt1 ∧ cnt1 < cnt) := ⟨hrg1, hlt1⟩
          have HLX : Hid (left (.int .i64 d.1) = true) := hlx
          have HT : Hid (R[t]? = some d ∧ c = idAt R (L.getD t 0)) := ⟨ht, hc⟩
          have hkey := key3 d.1 hwx
          have HHAS : Hid (Maps.has Dc (.int .i64 d.1) = true) := has_true_of_atKey hat
          have hp1 : w1.heap[p]? = some (.cells #[.map (some m), v] 85) := by rw [HB1.out.block p hpsz hpm]; exact HPW.out
          have hc1 : w1.cell? ⟨p, 0, none⟩ = some (.map (some m)) := by simp [World.cell?, hp1]
          clear hwx hwc hlx hat hrg1 hlt1 hg1 hs1 hdR ht hc hp1
          by_cases hch : c = X
          · as_aux_lemma =>
            have hcb : (c == X) = true := beq_iff_eq.2 hch
            have HMT := (show Hid _ from mid_turn HR1.out.1.owns.isMap HGD.out.2.1 HMD.out HT.out.1 (HT.out.2.symm.trans hch))
            generalize d.1 = x1 at *
            clear hch
            go_wp2_with (first
              | (at_mapUpdate; refine wpList_mapUpdate_ranges _ rfl _ _ _ 83 rfl 3 3 law3 Tryz.underlying83 (plainElem Tryz.prog 3) m W.heap.size N Dc _ cnt1 rfl HR1.out.1 _ _ _ rfl rfl hkey _ [] (plainElem_int Tryz.underlying3 hwlo) HHAS.out ?_; intro w2 hrg2 hturn2)
              | fail)
            go_frame
            go_roundw
            case rel => exact ⟨_, _, cnt1, hrg2, HMT.out, HB1.out.turned hturn2⟩
            case measure => rw [hrg2.left_eq, HRG.out.left_eq]; exact HR1.out.2
          · as_aux_lemma =>
            have hcb : (c == X) = false := beq_eq_false_iff_ne.2 hch
            have HMT := (show Hid _ from mid_stay HGD.out.2.1 HMD.out HT.out.1 HLX.out (fun k => hch (HT.out.2.trans k)))
            generalize d.1 = x1 at *
            clear hch
            go_wp2_with fail
            go_roundw
            case rel => exact ⟨_, _, cnt1, HR1.out.1, HMT.out, HB1.out⟩
            case measure => rw [HR1.out.1.left_eq, HRG.out.left_eq]; exact HR1.out.2

end Go.Proofs.YtigodbamphejmaaGreatDoor.S
