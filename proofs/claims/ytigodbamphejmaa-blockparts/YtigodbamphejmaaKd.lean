/- The contract of package block's Of. -/
import Derived.Test.YtigodbamphejmaaKc
namespace Go.Proofs.Ytigodbamphejmaa.S
open Go.RowKit Go.WideMaps Go.Maps

theorem Lm.start : Lm (.map []) [] [] := ⟨fun x => by simp [Maps.has], fun i e h => by simp at h⟩

theorem Lm.snoc {D : DataW Unit} {R : List (Int × Int × Int)} {k : Nat} {e : Int × Int × Int} (hu : G.Up R) (hD : IsMap D) (h : Lm D (R.take k) (List.range k)) (he : R[k]? = some e) :
    Lm (D.put (.int .i64 e.1) (.lit (.int .i64 e.1))) (R.take (k + 1)) (List.range (k + 1)) := by
  have hk : k < R.length := (List.getElem?_eq_some_iff.1 he).1
  have ht : R.take (k + 1) = R.take k ++ [e] := by rw [List.take_add_one, he]; rfl
  have hne : ∀ i f, i < k → R[i]? = some f → f.1 ≠ e.1 := fun i f hi hf c => by
    have := (up_one hu hf he c).1; omega
  refine ⟨fun x => ?_, fun i f hf zd => ?_⟩
  · by_cases c : x = e.1
    · subst c
      rw [has_put_same hD (isKeyLit _)]
      exact ⟨fun _ => ⟨e, by rw [ht]; simp, rfl⟩, fun _ => rfl⟩
    · rw [has_put_other (by simpa using c), h.key]
      constructor
      · rintro ⟨f, hf, hx⟩; exact ⟨f, by rw [ht]; exact List.mem_append_left _ hf, hx⟩
      · rintro ⟨f, hf, hx⟩
        rw [ht] at hf
        rcases List.mem_append.1 hf with hf | hf
        · exact ⟨f, hf, hx⟩
        · rw [List.mem_singleton.1 hf] at hx; exact absurd hx.symm c
  · have hi : i < k + 1 := by have := (List.getElem?_eq_some_iff.1 hf).1; simp at this; omega
    rw [List.getElem?_take, if_pos hi] at hf
    have hid : idAt (R.take (k + 1)) ((List.range (k + 1)).getD i 0) = f.1 := by
      have e1 : (List.range (k + 1)).getD i 0 = i := by simp [hi]
      rw [e1]
      apply idAt_of
      rw [List.getElem?_take, if_pos hi]; exact hf
    rw [hid]
    by_cases c : i = k
    · subst c
      rw [he] at hf; cases hf
      rw [atKey_put_same hD (isKeyLit _)]
    · have hik : i < k := by omega
      rw [atKey_put_other (by simpa using hne i f hik hf)]
      have hf' : (R.take k)[i]? = some f := by rw [List.getElem?_take, if_pos hik]; exact hf
      rw [h.val i f hf' zd]
      have e2 : (List.range k).getD i 0 = i := by simp [hik]
      rw [e2, idAt_of hf']

/-- The nodes below x that part, rising. -/
structure CutsB (R : List (Int × Int × Int)) (x : Nat) (cs : List Nat) : Prop where
  up : cs.Pairwise (· < ·)
  mem : ∀ y, y ∈ cs ↔ y < x ∧ cutP R y

theorem CutsB.start (R : List (Int × Int × Int)) : CutsB R 0 [] := ⟨.nil, fun y => by simp⟩
theorem CutsB.yes {R : List (Int × Int × Int)} {x : Nat} {cs : List Nat} (h : CutsB R x cs) (hc : cutP R x) : CutsB R (x + 1) (cs ++ [x]) := by
  refine ⟨?_, fun y => ?_⟩
  · rw [List.pairwise_append]
    exact ⟨h.up, List.pairwise_singleton _ _, fun a ha b hb => by rw [List.mem_singleton.1 hb]; exact ((h.mem a).1 ha).1⟩
  · rw [List.mem_append, h.mem, List.mem_singleton]
    constructor
    · rintro (⟨h1, h2⟩ | rfl)
      · exact ⟨by omega, h2⟩
      · exact ⟨by omega, hc⟩
    · rintro ⟨h1, h2⟩
      by_cases c : y = x
      · exact .inr c
      · exact .inl ⟨by omega, h2⟩
theorem CutsB.no {R : List (Int × Int × Int)} {x : Nat} {cs : List Nat} (h : CutsB R x cs) (hc : ¬ cutP R x) : CutsB R (x + 1) cs := by
  refine ⟨h.up, fun y => ?_⟩
  rw [h.mem]
  constructor
  · rintro ⟨h1, h2⟩; exact ⟨by omega, h2⟩
  · rintro ⟨h1, h2⟩
    by_cases c : y = x
    · subst c; exact absurd h2 hc
    · exact ⟨by omega, h2⟩
theorem rise_len : ∀ (cs : List Nat) (lo x : Nat), cs.Pairwise (· < ·) → (∀ y ∈ cs, lo ≤ y ∧ y < x) → cs.length ≤ x - lo
  | [], _, _, _, _ => by simp
  | a :: cs, lo, x, hp, hm => by
    have h1 := List.pairwise_cons.1 hp
    have ha := hm a (by simp)
    have := rise_len cs (a + 1) x h1.2 (fun y hy => ⟨h1.1 y hy, (hm y (List.mem_cons_of_mem _ hy)).2⟩)
    simp; omega
theorem CutsB.len {R : List (Int × Int × Int)} {x : Nat} {cs : List Nat} (h : CutsB R x cs) : cs.length ≤ x := by
  have := rise_len cs 0 x h.up (fun y hy => ⟨Nat.zero_le _, ((h.mem y).1 hy).1⟩)
  omega

/-- A row of numbers as values. -/
def natsV (l : List Nat) : List Value := l.map fun x : Nat => .int .i64 (x : Int)

theorem gat_but {w w' : World} {B0 gT eT q m : Nat} {n : Int} {u : Value} {L : List (Int × Int × Int)} (h : G.GAt w B0 gT eT q n u L) (k : But m w w') (hm : ∃ es c, w.heap[m]? = some (.map es c)) : G.GAt w' B0 gT eT q n u L := by
  obtain ⟨es, c, hm⟩ := hm
  refine ⟨?_, ⟨h.row.1, ?_⟩, h.ne⟩
  · rw [k.block q h.plt (by rintro rfl; have := h.hp.symm.trans hm; simp at this)]; exact h.hp
  · rcases h.row.2 with hn | ⟨g, cap, cur, rfl, hB, hg, rest⟩
    · exact .inl hn
    · refine .inr ⟨g, cap, cur, rfl, hB, ?_, rest⟩
      rw [k.block g (lt_of_some hg) (by rintro rfl; have := hg.symm.trans hm; simp at this)]
      exact hg

theorem row_slice {w : World} {base e s : Nat} {v : Value} {n : Nat} {xs : List Value} (h : w.ownsRow base e s v n xs) : ∃ a c, v = .slice a n c := by
  rcases h.2 with ⟨rfl, rfl⟩ | ⟨g, cap, cur, rfl, _⟩
  · exact ⟨none, 0, rfl⟩
  · exact ⟨_, cap, rfl⟩

theorem BlAt.store {w : World} {p m N : Nat} {D : DataW Unit} {v : Value} (h : BlAt w p m N D v) (v' : Value) : BlAt (w.setCell ⟨p, 1, none⟩ v') p m N D v' := by
  refine ⟨?_, h.hm.setCell (Ne.symm h.ne) _⟩
  simp only [World.setCell, Array.getElem?_modify, h.hp]
  simp

/-- A graph is kept while a row of numbers grows. -/
theorem gat_row {w w' : World} {B0 gT q base k : Nat} {n : Int} {u v : Value} {L : List (Int × Int × Int)} {xs : List Value} (h : G.GAt w B0 gT 50 q n u L) (hg : w.grownBy w' v.ownBlock) (hr : w.ownsRow base 3 1 v k xs) (hgT : gT ≠ 3 := by decide) : G.GAt w' B0 gT 50 q n u L := by
  have hne : ∀ g cur t, w.heap[g]? = some (.cells cur t) → t ≠ 3 → some g ≠ v.ownBlock := by
    intro g cur t hc ht he
    rcases hr.2 with ⟨rfl, _⟩ | ⟨g', cap, cur', rfl, _, hg', _⟩
    · simp [Value.ownBlock] at he
    · simp only [Value.ownBlock, Option.some.injEq] at he
      subst he
      rw [hc] at hg'
      injection hg' with hg'
      injection hg' with _ hg' _
      exact ht hg'
  refine ⟨?_, ⟨h.row.1, ?_⟩, h.ne⟩
  · rw [hg.block q h.plt (hne q _ gT h.hp hgT)]; exact h.hp
  · rcases h.row.2 with hn | ⟨g, cap, cur, rfl, hB, hg', rest⟩
    · exact .inl hn
    · refine .inr ⟨g, cap, cur, rfl, hB, ?_, rest⟩
      rw [hg.block g (lt_of_some hg') (hne g _ 50 hg' (by decide))]
      exact hg'

theorem gat_but' {w w' : World} {B0 q p : Nat} {n : Int} {u : Value} {L : List (Int × Int × Int)} {cs : Array Value} (h : G.GAt w B0 91 50 q n u L) (k : But p w w') (hp : w.heap[p]? = some (.cells cs 102)) : G.GAt w' B0 91 50 q n u L := by
  refine ⟨?_, ⟨h.row.1, ?_⟩, h.ne⟩
  · rw [k.block q h.plt (by rintro rfl; have := h.hp.symm.trans hp; simp at this)]; exact h.hp
  · rcases h.row.2 with hn | ⟨g, cap, cur, rfl, hB, hg, rest⟩
    · exact .inl hn
    · refine .inr ⟨g, cap, cur, rfl, hB, ?_, rest⟩
      rw [k.block g (lt_of_some hg) (by rintro rfl; have := hg.symm.trans hp; simp at this)]
      exact hg

/-- What Of hands back. -/
def OfPost (R : List (Int × Int × Int)) (n : Nat) (w : World) (e : Ending) (w' : World) : Prop :=
  ∃ (p m N : Nat) (D : DataW Unit) (v : Value) (L cs : List Nat), e = .returned (.pointer (some ⟨p, 0, none⟩)) ∧ BlAt w' p m N D v ∧ N ≤ 100 ∧ Lm D R L ∧ Bs R n [] L ∧ CutsB R n cs ∧ w'.ownsRow w.heap.size 3 1 v cs.length (natsV cs) ∧ Below w.heap.size w w'

set_option maxHeartbeats 4000000 in
set_option maxRecDepth 100000 in
theorem bof_any (n B0 q M : Nat) (u : Value) (R : List (Int × Int × Int)) (w : World) (h : G.GAt w B0 91 50 q (n : Int) u R) (hn : n ≤ 40) (hed : Ed n M R) (hM : M ≤ 100) :
    Calls Try.prog 29 #[.pointer (some ⟨q, 0, none⟩)] w (OfPost R n w) := by
  have hlen := hed.len
  have HG : Hid (G.GAt w B0 91 50 q (n : Int) u R) := h
  have HE : Hid (Ed n M R) := hed
  have hmm := @run_makeMap Try.prog
  -- the value
  obtain ⟨w1, hw1⟩ : ∃ w1, w1 = (w.alloc (.map #[] 0)).alloc (.cells #[.map (some w.heap.size), .slice none 0 0] 102) := ⟨_, rfl⟩
  have hb1 : Below w.heap.size w w1 := by rw [hw1]; exact ((Below.refl _ _).alloc (Nat.le_refl _) _).alloc (by simp) _
  have hbl1 : BlAt w1 (w.heap.size + 1) w.heap.size 0 (.map []) (.slice none 0 0) := by
    rw [hw1]
    refine ⟨?_, (World.ownsMap_made w _ _ _).alloc _⟩
    have := heap_alloc_new (w.alloc (.map #[] 0)) (.cells #[.map (some w.heap.size), .slice none 0 0] 102)
    rw [World.size_alloc] at this; exact this
  have HW1 : Hid ((w.alloc (.map #[] 0)).alloc (.cells #[.map (some w.heap.size), .slice none 0 0] 102) = w1) := hw1.symm
  have HBL1 : Hid (BlAt w1 (w.heap.size + 1) w.heap.size 0 (.map []) (.slice none 0 0) ∧ Below w.heap.size w w1) := ⟨hbl1, hb1⟩
  have hw1s := hbl1.plt
  clear h hed hw1 hb1 hbl1
  go_enter Try.func29, Try.ntmps29
  go_wp2_with fail
  rw [HW1.out]
  refine (G.edges_any (n : Int) B0 q u R w1 (HG.out.below HBL1.out.2) (by omega)).mono ?_
  rintro e w2 ⟨vr, rfl, ho, hb2⟩
  obtain ⟨len, hm⟩ : ∃ len, R.length = len := ⟨_, rfl⟩
  have HLEN : Hid (R.length = len) := hm
  obtain ⟨va, vc, hv⟩ := ho.slice_len
  rw [hm] at hv hlen
  subst hv
  have HO : Hid (G.Owns w2 w1.heap.size 50 (.slice va len vc) R) := ho
  have HBL2 : Hid (BlAt w2 (w.heap.size + 1) w.heap.size 0 (.map []) (.slice none 0 0) ∧ Below w.heap.size w w2) := ⟨HBL1.out.1.below hb2, HBL1.out.2.trans (hb2.mono HBL1.out.2.size)⟩
  have hw2s := hb2.size
  clear ho hb2 hm hmm
  go_wp2_with fail
  go_loopw [13] (fun s13 wq => ∃ (j : Nat) (Dj : DataW Unit), j ≤ len ∧ s13 = .int .i64 j ∧ BlAt wq (w.heap.size + 1) w.heap.size j Dj (.slice none 0 0) ∧ Lm Dj (R.take j) (List.range j) ∧ But w.heap.size w2 wq) (fun s13 _ => len - (intOf s13).toNat)
  case atStart => exact ⟨0, _, Nat.zero_le _, rfl, HBL2.out.1, Lm.start, But.refl _ _⟩
  case round =>
    obtain ⟨j, Dj, hj, rfl, hbl, hlm, hbt⟩ := hrel
    have HBL : Hid (BlAt wr (w.heap.size + 1) w.heap.size j Dj (.slice none 0 0) ∧ Lm Dj (R.take j) (List.range j) ∧ But w.heap.size w2 wr) := ⟨hbl, hlm, hbt⟩
    clear hbl hlm hbt
    by_cases hlt : j < len
    · obtain ⟨e, hx⟩ : ∃ e, R[j]? = some e := ⟨_, List.getElem?_eq_getElem (by rw [HLEN.out]; exact hlt)⟩
      have hnat := HE.out.nat (List.mem_of_getElem? hx)
      have hids := HE.out.ids e (List.mem_of_getElem? hx)
      obtain ⟨g, hva⟩ : ∃ g, va = some ⟨g, 0, none⟩ := by
        rcases HO.out.shape with ⟨_, k⟩ | ⟨g, cap, k, _⟩
        · rw [k] at hx; simp at hx
        · injection k with e1 _ _
          exact ⟨g, e1⟩
      subst hva
      obtain ⟨r0, r1, r2⟩ := HO.out.at (g := g) rfl hx
      have hgb := World.ownsRow.lt HO.out g rfl
      have q0 := HBL.out.2.2.cell r0 (by omega)
      have q1 := HBL.out.2.2.cell r1 (by omega)
      have q2 := HBL.out.2.2.cell r2 (by omega)
      have HLM : Hid (Lm (Dj.put (.int .i64 e.1) (.lit (.int .i64 e.1))) (R.take (j + 1)) (List.range (j + 1))) := Lm.snoc HE.out.up HBL.out.1.hm.isMap HBL.out.2.1 hx
      have hwid : (Lit.int .i64 e.1).wf = true := wf_small hids.1 (by omega)
      generalize e.1 = x0 at *
      generalize e.2.1 = x1 at *
      generalize e.2.2 = x2 at *
      -- the edge's box
      obtain ⟨W1, hW1⟩ : ∃ W1, W1 = wr.alloc (.cells #[.int .i64 x0, .int .i64 x1, .int .i64 x2] 50) := ⟨_, rfl⟩
      have hh : W1.heap[wr.heap.size]? = some (.cells #[.int .i64 x0, .int .i64 x1, .int .i64 x2] 50) := by rw [hW1]; exact heap_alloc_new wr _
      have hbW : Below wr.heap.size wr W1 := by rw [hW1]; exact (Below.refl _ _).alloc (Nat.le_refl _) _
      have p0 : W1.drew.cell? ⟨wr.heap.size, 0, none⟩ = some (.int .i64 x0) := by
        show W1.cell? ⟨wr.heap.size, 0, none⟩ = _
        simp [World.cell?, hh]
      have hblW := HBL.out.1.below hbW
      have c0 : W1.drew.cell? ⟨w.heap.size + 1, 0, none⟩ = some (.map (some w.heap.size)) := hblW.c0
      obtain ⟨W2, hup, hown2, hgr2⟩ := World.ownsMap.update (w := W1.drew) (hblW.hm) law3 Try.underlying100 (by unfold maxLen; omega) (key3 x0 hwid) (plainElem_int Try.underlying3 hwid)
      have HR2 : Hid (BlAt W2 (w.heap.size + 1) w.heap.size (j + 1) (Dj.put (.int .i64 x0) (.lit (.int .i64 x0))) (.slice none 0 0) ∧ But w.heap.size w2 W2) :=
        ⟨⟨(hgr2.block _ hblW.plt (by simp)).trans hblW.hp, hown2⟩, (HBL.out.2.2.trans (But.of_below hbW)).trans ⟨hgr2.os, hgr2.tape, hgr2.output, hgr2.size, fun k hk hn => hgr2.block k hk (fun c => hn (by injection c))⟩⟩
      have HW1 : Hid (wr.alloc (.cells #[.int .i64 x0, .int .i64 x1, .int .i64 x2] 50) = W1) := hW1.symm
      clear hx hnat hids r0 r1 r2 hW1 hh hbW hblW hown2 hgr2 hwid HBL
      go_upto_region 5 with fail
      rw [HW1.out]
      go_region
      all_goals
        go_wp2_with fail
        go_roundw
        case rel => exact ⟨j + 1, _, by omega, by go_num, HR2.out.1, HLM.out, HR2.out.2⟩
        case measure => simp [intOf]; omega
    · have hje : j = len := by omega
      subst hje
      have htk : R.take j = R := List.take_of_length_le (by rw [HLEN.out]; exact Nat.le_refl _)
      have hbl9 := HBL.out
      rw [htk] at hbl9
      have hBt : Below w.heap.size w wr := HBL2.out.2.trans (hbl9.2.2.below (Nat.le_refl _) HBL2.out.2.size)
      have HF : Hid (BlAt wr (w.heap.size + 1) w.heap.size j Dj (.slice none 0 0) ∧ Lm Dj R (List.range R.length) ∧ Below w.heap.size w wr ∧ G.GAt wr B0 91 50 q (n : Int) u R) := ⟨hbl9.1, by rw [HLEN.out]; exact hbl9.2.1, hBt, HG.out.below hBt⟩
      obtain ⟨i0, hi0, hz0, hz1, hz2⟩ := info_parts Try.info3
      clear htk hbl9 hBt HBL HBL2 HO HBL1 HW1
      generalize wr = W0 at *
      go_wp2_with fail
      refine (G.nodes_any (n : Int) B0 q u R W0 HF.out.2.2.2).mono ?_
      rintro e w3 ⟨rfl, hw3⟩
      subst hw3
      go_wp2_with fail
      go_loopw [28] (fun s28 wq => ∃ (x : Nat) (Dx : DataW Unit) (Lx cs : List Nat) (v : Value), x ≤ n ∧ CutsB R x cs ∧ s28 = .int .i64 x ∧ G.GAt wq B0 91 50 q (n : Int) u R ∧ BlAt wq (w.heap.size + 1) w.heap.size j Dx v ∧ Lm Dx R Lx ∧ Bs R x [] Lx ∧ wq.ownsRow w.heap.size 3 1 v cs.length (natsV cs) ∧ v.ownBlock ≠ some (w.heap.size + 1) ∧ v.ownBlock ≠ some w.heap.size ∧ Below w.heap.size w wq) (fun s28 _ => n - (intOf s28).toNat)
      case atStart => exact ⟨0, Dj, _, [], _, Nat.zero_le _, CutsB.start R, rfl, HF.out.2.2.2, HF.out.1, HF.out.2.1, bs_start R, World.ownsRow_nil _ _ _ _, by simp [Value.ownBlock], by simp [Value.ownBlock], HF.out.2.2.1⟩
      case round =>
        clear HF
        obtain ⟨x, Dx, Lx, cs, v, hx, hcs, rfl, hgx, hbx, hlx, hsx, hox, hv1, hv2, hBx⟩ := hrel
        have HX : Hid (G.GAt wr B0 91 50 q (n : Int) u R ∧ BlAt wr (w.heap.size + 1) w.heap.size j Dx v ∧ Lm Dx R Lx ∧ Bs R x [] Lx) := ⟨hgx, hbx, hlx, hsx⟩
        have HOX : Hid (wr.ownsRow w.heap.size 3 1 v cs.length (natsV cs) ∧ v.ownBlock ≠ some (w.heap.size + 1) ∧ v.ownBlock ≠ some w.heap.size ∧ Below w.heap.size w wr) := ⟨hox, hv1, hv2, hBx⟩
        have HCS : Hid (CutsB R x cs) := hcs
        clear hgx hbx hlx hsx hox hv1 hv2 hBx hcs
        by_cases hlt2 : x < n
        · go_wp2_with fail
          refine (gather_any x n B0 q M _ _ j u v R Lx Dx wr HX.out.1 hn hlt2 HE.out hM HX.out.2.1 HX.out.2.2.1 HX.out.2.2.2).mono ?_
          rintro e w4 ⟨k, D4, L4, rfl, hb4, hl4, hs4, hk4, hcut4⟩
          have hg4 := gat_but HX.out.1 hk4 (by obtain ⟨es, c, hb, _⟩ := HX.out.2.1.hm; exact ⟨es, c, hb⟩)
          have hgr4 : wr.grownBy w4 (some w.heap.size) := ⟨hk4.os, hk4.tape, hk4.output, hk4.size, fun i hi hne => hk4.block i hi (fun c => hne (by rw [c]))⟩
          have ho4 := HOX.out.1.kept hgr4 (.inr HOX.out.2.2.1)
          have hB4 : Below w.heap.size w w4 := HOX.out.2.2.2.trans (hk4.below (Nat.le_refl _) HOX.out.2.2.2.size)
          have H4 : Hid (G.GAt w4 B0 91 50 q (n : Int) u R ∧ BlAt w4 (w.heap.size + 1) w.heap.size j D4 v ∧ Lm D4 R L4 ∧ Bs R (x + 1) [] L4 ∧ Below w.heap.size w w4) := ⟨hg4, hb4, hl4, hs4, hB4⟩
          have HOV : Hid (v.ownBlock ≠ some (w.heap.size + 1) ∧ v.ownBlock ≠ some w.heap.size) := ⟨HOX.out.2.1, HOX.out.2.2.1⟩
          have HCUT : Hid (1 < k ↔ cutP R x) := hcut4
          clear hk4 hcut4 hg4 hgr4 hl4 hs4 HX HOX
          by_cases hk1 : 1 < k
          · as_aux_lemma =>
            have HC : Hid (CutsB R (x + 1) (cs ++ [x])) := HCS.out.yes (HCUT.out.1 hk1)
            have hcl := HCS.out.len
            have hc1 := hb4.c1
            have hpl := hb4.plt
            have hsz := hB4.size
            have HFZ : Hid (∀ w', (w4.alloc (.cells #[.int .i64 (x : Int)] 3)).grownBy w' v.ownBlock → w'.heap[w.heap.size + 1]? = some (.cells #[.map (some w.heap.size), v] 102)) := fun w' hg => by
              rw [hg.block _ (by simp; omega) (fun c => HOV.out.1 c.symm), Below.heap_alloc _ _ _ hpl]; exact hb4.hp
            have HO4 : Hid (w4.ownsRow w.heap.size 3 1 v cs.length (natsV cs)) := ho4
            clear hb4 hB4 HCUT
            go_wp2_with (first
              | (at_builtin; refine wpList_append_own_at _ rfl _ _ 37 rfl w.heap.size 3 i0 (.int .i64 0) 1 8 Try.underlying37 hi0 hz0 hz1 hz2 rfl (by decide) v _ _ rfl (ho4.alloc _) ⟨w4.heap.size, 0, none⟩ 1 1 [.int .i64 (x : Int)] rfl rfl (cell_one_new _ _ _) (ints_oneCell .i64 [(x : Int)]) (by unfold maxLen; omega) (by omega) (by simp; omega) ?_; intro v5 w5 hown5 hgrow5 hnil5 hloc5; obtain ⟨a5, c5, rfl⟩ := row_slice hown5; have hp5 := HFZ.out w5 hgrow5; have hf5 : w5.frozen? ⟨w.heap.size + 1, 1, none⟩ = false := (by simp [World.frozen?, hp5]); have hc5 : w5.cell? ⟨w.heap.size + 1, 1, none⟩ = some v := (by simp [World.cell?, hp5]))
              | fail)
            have hbl5 : BlAt w5 (w.heap.size + 1) w.heap.size j D4 v := ⟨hp5, (H4.out.2.1.hm.alloc _).kept hgrow5 (fun c => HOV.out.2 c.symm)⟩
            have hg5 : G.GAt w5 B0 91 50 q (n : Int) u R := gat_row (H4.out.1.below ((Below.refl _ _).alloc (Nat.le_refl _) _)) hgrow5 (HO4.out.alloc _)
            have hB5 : Below w.heap.size w w5 := (H4.out.2.2.2.2.trans (((Below.refl _ _).alloc (Nat.le_refl _) _).mono H4.out.2.2.2.2.size)).grown hgrow5 (by simp; omega) (fun i hi => (World.ownsRow.lt HO4.out i hi).1)
            have hne5 : (Value.slice a5 (cs.length + 1) c5).ownBlock ≠ some (w.heap.size + 1) ∧ (Value.slice a5 (cs.length + 1) c5).ownBlock ≠ some w.heap.size := by
              rcases hloc5 with c | c
              · rw [c]; exact HOV.out
              · rw [c]; refine ⟨?_, ?_⟩ <;> simp <;> omega
            have hbt : But (w.heap.size + 1) w5 (w5.setCell ⟨w.heap.size + 1, 1, none⟩ (.slice a5 (cs.length + 1) c5)) := (But.refl _ _).setCell _ _
            have HR6 : Hid (G.GAt (w5.setCell ⟨w.heap.size + 1, 1, none⟩ (.slice a5 (cs.length + 1) c5)) B0 91 50 q (n : Int) u R ∧ BlAt (w5.setCell ⟨w.heap.size + 1, 1, none⟩ (.slice a5 (cs.length + 1) c5)) (w.heap.size + 1) w.heap.size j D4 (.slice a5 (cs.length + 1) c5) ∧ (w5.setCell ⟨w.heap.size + 1, 1, none⟩ (.slice a5 (cs.length + 1) c5)).ownsRow w.heap.size 3 1 (.slice a5 (cs.length + 1) c5) (cs ++ [x]).length (natsV (cs ++ [x])) ∧ Below w.heap.size w (w5.setCell ⟨w.heap.size + 1, 1, none⟩ (.slice a5 (cs.length + 1) c5))) := by
              refine ⟨gat_but' hg5 hbt hp5, hbl5.store _, ?_, hB5.trans (hbt.below (by omega) hB5.size)⟩
              have := hown5.kept (w' := w5.setCell ⟨w.heap.size + 1, 1, none⟩ (.slice a5 (cs.length + 1) c5)) (row := some (w.heap.size + 1)) ⟨hbt.os, hbt.tape, hbt.output, hbt.size, fun i hi hne => hbt.block i hi (fun c => hne (by rw [c]))⟩ (.inr hne5.1)
              simpa [natsV] using this
            have HNE : Hid ((Value.slice a5 (cs.length + 1) c5).ownBlock ≠ some (w.heap.size + 1) ∧ (Value.slice a5 (cs.length + 1) c5).ownBlock ≠ some w.heap.size) := hne5
            clear hbl5 hg5 hB5 hne5 hbt hown5 hgrow5 hnil5 hloc5 hp5 hf5 hc5
            generalize w5.setCell ⟨w.heap.size + 1, 1, none⟩ (.slice a5 (cs.length + 1) c5) = w6 at *
            go_wp2_with fail
            go_roundw
            case rel => exact ⟨x + 1, D4, L4, cs ++ [x], _, by omega, HC.out, by go_num, HR6.out.1, HR6.out.2.1, H4.out.2.2.1, H4.out.2.2.2.1, HR6.out.2.2.1, HNE.out.1, HNE.out.2, HR6.out.2.2.2⟩
            case measure => simp [intOf]; omega
          · as_aux_lemma =>
            have HC : Hid (CutsB R (x + 1) cs) := HCS.out.no (fun c => hk1 (HCUT.out.2 c))
            have HO4 : Hid (w4.ownsRow w.heap.size 3 1 v cs.length (natsV cs)) := ho4
            clear hb4 hB4 HCUT ho4
            go_wp2_with fail
            go_roundw
            case rel => exact ⟨x + 1, D4, L4, cs, v, by omega, HC.out, by go_num, H4.out.1, H4.out.2.1, H4.out.2.2.1, H4.out.2.2.2.1, HO4.out, HOV.out.1, HOV.out.2, H4.out.2.2.2.2⟩
            case measure => simp [intOf]; omega
        · have hxe : x = n := by omega
          subst hxe
          go_wp2_with fail
          go_ret
          exact ⟨_, _, j, Dx, v, Lx, cs, rfl, HX.out.2.1, by omega, HX.out.2.2.1, HX.out.2.2.2, HCS.out, HOX.out.1, HOX.out.2.2.2⟩

end Go.Proofs.Ytigodbamphejmaa.S
