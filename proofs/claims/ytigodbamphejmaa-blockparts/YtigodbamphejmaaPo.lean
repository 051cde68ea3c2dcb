/- Small facts for the law's walk: how many keys, what a look-up that finds nothing gives, which blocks are of one edge. -/
import Derived.Test.YtigodbamphejmaaPp
namespace Go.Proofs.Ytigodbamphejmaa.S
open Go.RowKit Go.WideMaps Go.Maps

theorem tight {P : Program} {k : TypeId} {R : Value → Option (DataW Unit × List MemPlace)} {w : World} {b n N : Nat} {D : DataW Unit} (h : w.ownsMap P k R b n D) (hN : Maps.size D ≤ N) : w.ownsMap P k R b N D := by
  obtain ⟨es, clock, hb, F, hs, rfl⟩ := h
  refine ⟨es, clock, hb, F, ?_, rfl⟩
  simpa [Maps.size, length_sorted] using hN

theorem nodup_len : ∀ (M : Nat) (ks : List Nat), ks.Nodup → (∀ c ∈ ks, c < M) → ks.length ≤ M
  | 0, ks, _, h => by
    cases ks with
    | nil => simp
    | cons a r => exact absurd (h a (by simp)) (by omega)
  | M + 1, ks, hn, h => by
    by_cases hm : M ∈ ks
    · have h1 := nodup_len M (ks.erase M) (hn.erase M) (fun c hc => by
        have h2 := h c (List.mem_of_mem_erase hc)
        have h3 : c ≠ M := fun e => (List.Nodup.not_mem_erase hn) (e ▸ hc)
        omega)
      rw [List.length_erase_of_mem hm] at h1
      omega
    · have h1 := nodup_len M ks hn (fun c hc => by
        have h2 := h c hc
        have h3 : c ≠ M := fun e => hm (e ▸ hc)
        omega)
      omega

theorem KeysM.len {D : DataW Unit} {ks : List Nat} (h : KeysM D ks) {M : Nat} (hM : ∀ c ∈ ks, c < M) : Maps.size D ≤ M := by
  rw [h.size]; exact nodup_len M ks h.nd hM

theorem zero4 (w : World) : (zeroValue 4).run Try.prog w = .ok (.bool false) w := by kernel_rfl

theorem plainElem_bool_inv {P : Program} {e : TypeId} (he : P.underlying e = some .bool) {v : Value} {x : Bool} {ps : List MemPlace} (h : plainElem (H := Unit) P e v = some (.lit (.bool x), ps)) : v = .bool x := by
  unfold plainElem at h
  rw [he] at h
  cases v <;> simp at h
  rw [h.1]

theorem look_false {w : World} {m N : Nat} {D : DataW Unit} (hm : w.ownsMap Try.prog 3 (plainElem Try.prog 4) m N D) {x : Int} (hw : (Lit.int .i64 x).wf = true) (hn : Maps.has D (.int .i64 x) = false) :
    (Instr.lookup 58 (.map (some m)) (.int .i64 x) false).run Try.prog w = .ok (.bool false) w := by
  obtain ⟨v, ps, hrun, hv⟩ := hm.lookup law3 Try.underlying58 (zero4 w) (plainElem_bool Try.underlying4 false) (key3 x hw)
  rw [atKey_of_not_has hn] at hv
  rw [hrun]
  rw [plainElem_bool_inv Try.underlying4 hv]

/-- The numbers of the blocks of one edge, of the first k. -/
def lones (R : List (Int × Int × Int)) (l : List Nat) (k : Nat) : List Nat := ((List.range k).filter fun a => nj l R.length a == 1).map fun a => idN R (pos l R.length a 0)

theorem lones_yes {R : List (Int × Int × Int)} {l : List Nat} {k : Nat} (h : nj l R.length k = 1) : lones R l (k + 1) = lones R l k ++ [idN R (pos l R.length k 0)] := by
  simp [lones, List.range_succ, List.filter_append, h]

theorem lones_no {R : List (Int × Int × Int)} {l : List Nat} {k : Nat} (h : nj l R.length k ≠ 1) : lones R l (k + 1) = lones R l k := by
  simp [lones, List.range_succ, List.filter_append, h]

theorem lones_len (R : List (Int × Int × Int)) (l : List Nat) (k : Nat) : (lones R l k).length ≤ k := by
  simp only [lones, List.length_map]
  exact Nat.le_trans (List.length_filter_le _ _) (by simp)

theorem nk_le (l : List Nat) (nb : Nat) : nk l nb ≤ nb := by
  unfold nk lst
  exact Nat.le_trans (List.length_filter_le _ _) (by simp)

theorem nj_le (l : List Nat) (nb k : Nat) : nj l nb k ≤ nb := by
  unfold nj grp
  exact Nat.le_trans (List.length_filter_le _ _) (by simp)

theorem row1_end {w0 w : World} {n : Nat} (h : Row1 w0 w n n) : AtS w w0.heap.size (w0.heap.size + 1) n 100 (.map []) (fun _ => .map []) :=
  ⟨h.sn.mono (by omega), fun x hx => by rw [h.tb x hx, if_pos hx], fun x hx => (h.mp x hx).mono (by omega), by omega, by have := h.size; omega⟩

/-- What the law has behind k blocks and j edges of the next. -/
structure Mid5 (w0 W w : World) (n : Nat) (R : List (Int × Int × Int)) (l : List Nat) (k j q : Nat) (v : Value) : Prop where
  at_ : ∃ Ds Dx, AtS w w0.heap.size (w0.heap.size + 1) n 100 Ds Dx ∧ InvS R l n k j Ds Dx
  lone : w.ownsRow W.heap.size 3 1 v (lones R l q).length (natsV (lones R l q))
  below : Below w0.heap.size w0 w
  size : W.heap.size ≤ w.heap.size
  le : W.heap.size = w0.heap.size + 1 + 1 + n

theorem Mid5.below' {w0 W w w' : World} {n k j q : Nat} {R : List (Int × Int × Int)} {l : List Nat} {v : Value} (h : Mid5 w0 W w n R l k j q v) (hb : Below w.heap.size w w') : Mid5 w0 W w' n R l k j q v := by
  obtain ⟨Ds, Dx, h1, h2⟩ := h.at_
  exact ⟨⟨Ds, Dx, h1.below hb, h2⟩, row_below h.lone hb, h.below.trans (hb.mono h.below.size), Nat.le_trans h.size hb.size, h.le⟩

theorem Mid5.lone_no {w0 W w : World} {n k j q : Nat} {R : List (Int × Int × Int)} {l : List Nat} {v : Value} (h : Mid5 w0 W w n R l k j q v) (hq : nj l R.length q ≠ 1) : Mid5 w0 W w n R l k j (q + 1) v :=
  { h with lone := by rw [lones_no hq]; exact h.lone }

theorem Mid5.lone_yes {w0 W w w' : World} {n k j q : Nat} {R : List (Int × Int × Int)} {l : List Nat} {v v' : Value} {o : Obj} (h : Mid5 w0 W w n R l k j q v) (hq : nj l R.length q = 1) (hg : (w.alloc o).grownBy w' v.ownBlock) (hr : w'.ownsRow W.heap.size 3 1 v' ((lones R l q).length + 1) (natsV (lones R l q) ++ [.int .i64 ((idN R (pos l R.length q 0) : Nat) : Int)])) : Mid5 w0 W w' n R l k j (q + 1) v' := by
  have hb1 : Below w.heap.size w (w.alloc o) := (Below.refl _ _).alloc (Nat.le_refl _) _
  have h1 := h.below' hb1
  obtain ⟨Ds, Dx, h2, h3⟩ := h1.at_
  have hlt : ∀ j, v.ownBlock = some j → W.heap.size ≤ j := fun j hj => (h.lone.lt j hj).1
  have hle := h.le
  refine ⟨⟨Ds, Dx, h2.kept hg (fun e => by have := hlt _ e.symm; omega) (fun e => by have := hlt _ e.symm; omega) (fun x hx e => by have := hlt _ e.symm; omega), h3⟩, ?_, h1.below.grown hg (by have := h1.below.size; omega) (fun j hj => by have := hlt j hj; omega), Nat.le_trans h1.size hg.size, h.le⟩
  rw [lones_yes hq, List.length_append]
  simp only [natsV, List.map_append] at hr ⊢
  exact hr

theorem edge_pos {R : List (Int × Int × Int)} {n M B g : Nat} {v : Value} {W : World} (hed : Ed n M R) (hM : M ≤ 100) (h : G.GAt W B 91 50 g (n : Int) v R) {i X A E : Nat} (hi : i < R.length) (hX : idN R i = X) (hA : ea (R.getD i (0, 0, 0)) = A) (hE : eb (R.getD i (0, 0, 0)) = E) :
    Calls Try.prog 31 #[.pointer (some ⟨g, 0, none⟩), .int .i64 (X : Int)] W fun e w' => e = .returned (.tuple #[.agg #[.int .i64 (X : Int), .int .i64 (A : Int), .int .i64 (E : Int)], .nilIface]) ∧ Below W.heap.size W w' := by
  have h1 := at_pos hi
  have hnat := hed.nat (List.mem_of_getElem? h1)
  have hid := (idN_cast (R := R) (fun e he => by have := hed.ids e he; omega) hi).1
  rw [idAt_of h1, hX] at hid
  rw [hA, hE] at hnat
  obtain ⟨e, he⟩ : ∃ e, R.getD i (0, 0, 0) = e := ⟨_, rfl⟩
  rw [he] at h1 hid hnat
  have hee : e = ((X : Int), (A : Int), (E : Int)) := by
    obtain ⟨e1, e2, e3⟩ := e
    simp only at hid hnat
    rw [← hid, hnat.1, hnat.2.1]
  rcases G.place_hit hed.up (X : Int) with ⟨y, k1, k2, k3⟩ | ⟨k1, _, _⟩
  · have := (up_one hed.up h1 k1 (by rw [← hid, k2])).2
    rw [← this, hee] at k1 k3
    exact G.edge_hit (X : Int) (n : Int) (X : Int) (A : Int) (E : Int) B g _ v R W h hed.up (by have := hed.len; omega) rfl k1 k3
  · exact absurd hid.symm (k1 e (List.mem_of_getElem? h1))

theorem AtS.drew {w : World} {ms ga n N : Nat} {Ds : DataW Unit} {Dx : Nat → DataW Unit} (h : AtS w ms ga n N Ds Dx) : AtS w.drew ms ga n N Ds Dx := ⟨h.sn, h.tb, h.mp, h.ne, h.lt⟩

/-- One entry of one node's map. -/
theorem at_entry {w : World} {ms ga n N : Nat} {Ds : DataW Unit} {Dx : Nat → DataW Unit} (h : AtS w ms ga n N Ds Dx) (hN : N < 1000) {y k : Nat} (hy : y < n) (hk : k ≤ 1000) :
    ∃ v st w1 w2, (Instr.mapEntry 58 (.map (some (ga + 1 + y))) (.int .i64 (k : Int))).run Try.prog w = .ok (.tuple #[v, .int .i64 st]) w1 ∧ w.grownBy w1 (some (ga + 1 + y)) ∧ (Instr.entryStore 58 (.map (some (ga + 1 + y))) (.int .i64 st) (.bool true)).run Try.prog w1 = .ok () w2 ∧
      AtS w2 ms ga n (N + 1) Ds (fun x => if x = y then (Dx y).put (.int .i64 (k : Int)) (.lit (.bool true)) else Dx x) ∧ w.grownBy w2 (some (ga + 1 + y)) := by
  obtain ⟨v, st, w1, h1, h2, _, h4⟩ := entry_pair (h.mp y hy) law3 Try.underlying58 (by unfold maxLen; omega) (zero4 w) (key3 (k : Int) (wf_small (by omega) (by omega)))
  obtain ⟨w2, h5, h6, h7⟩ := h4 (.bool true) _ _ (plainElem_bool Try.underlying4 true)
  exact ⟨v, st, w1, w2, h1, h2, h5, h.node h7 h6 (by omega), h7⟩

/-- The maps are small. -/
theorem AtS.tight {w : World} {ms ga n N : Nat} {Ds : DataW Unit} {Dx : Nat → DataW Unit} {R : List (Int × Int × Int)} {l : List Nat} {k j M : Nat} (h : AtS w ms ga n N Ds Dx) (hi : InvS R l n k j Ds Dx) (hed : Ed M 50 R) : AtS w ms ga n 100 Ds Dx := by
  refine ⟨?_, h.tb, fun x hx => ?_, h.ne, h.lt⟩
  · obtain ⟨ks, k1, k2⟩ := hi.sn
    refine S.tight h.sn (Nat.le_trans (k1.len (M := 50) (fun c hc => ?_)) (by omega))
    obtain ⟨a, b, hb, he⟩ := (k2 c).1 hc
    have hp := (pos_mem hb.2.1).1
    have h1 := at_pos hp
    have h2 := hed.ids _ (List.mem_of_getElem? h1)
    have h3 := (idN_cast (R := R) (fun e he => by have := hed.ids e he; omega) hp).1
    rw [idAt_of h1, he] at h3
    omega
  · obtain ⟨ks, k1, k2⟩ := hi.nd x hx
    refine S.tight (h.mp x hx) (Nat.le_trans (k1.len (M := 50) (fun c hc => ?_)) (by omega))
    obtain ⟨b, hb, _⟩ := (k2 c).1 hc
    have := nk_le l R.length
    have := hed.len
    have := hb.1
    omega

/-- What stays of that, whatever the maps do. -/
structure Frame5 (w0 W w : World) (n : Nat) (R : List (Int × Int × Int)) (l : List Nat) (q : Nat) (v : Value) : Prop where
  lone : w.ownsRow W.heap.size 3 1 v (lones R l q).length (natsV (lones R l q))
  below : Below w0.heap.size w0 w
  size : W.heap.size ≤ w.heap.size
  le : W.heap.size = w0.heap.size + 1 + 1 + n

section
variable {w0 W w w' : World} {n k j q b : Nat} {R : List (Int × Int × Int)} {l : List Nat} {v : Value}

theorem Mid5.frame (h : Mid5 w0 W w n R l k j q v) : Frame5 w0 W w n R l q v := ⟨h.lone, h.below, h.size, h.le⟩
theorem Frame5.mid (h : Frame5 w0 W w n R l q v) {Ds : DataW Unit} {Dx : Nat → DataW Unit} (h1 : AtS w w0.heap.size (w0.heap.size + 1) n 100 Ds Dx) (h2 : InvS R l n k j Ds Dx) : Mid5 w0 W w n R l k j q v := ⟨⟨Ds, Dx, h1, h2⟩, h.lone, h.below, h.size, h.le⟩
theorem Frame5.below' (h : Frame5 w0 W w n R l q v) (hb : Below w.heap.size w w') : Frame5 w0 W w' n R l q v := ⟨row_below h.lone hb, h.below.trans (hb.mono h.below.size), Nat.le_trans h.size hb.size, h.le⟩
theorem Frame5.drew (h : Frame5 w0 W w n R l q v) : Frame5 w0 W w.drew n R l q v := h.below' (Below.refl _ _).drew
theorem Frame5.grown (h : Frame5 w0 W w n R l q v) (hg : w.grownBy w' (some b)) (h1 : w0.heap.size ≤ b) (h2 : b < W.heap.size) : Frame5 w0 W w' n R l q v :=
  ⟨h.lone.kept hg (.inr (fun e => by have := (h.lone.lt b e).1; omega)), h.below.grown hg (by have := h.below.size; omega) (fun i hi => by injection hi with hi; omega), Nat.le_trans h.size hg.size, h.le⟩
end

end Go.Proofs.Ytigodbamphejmaa.S
