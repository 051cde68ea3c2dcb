/- Contracts for CycleSums: the cover of a graph, one edge, Twice, Thrice; the map of the pairs. -/
import Derived.Test.YtigodbamphejmaaGreatXm
import Derived.Test.YtigodbamphejmaaGreatPk
import Derived.Test.YtigodbamphejmaaGreatRa
import Derived.Test.YtigodbamphejmaaGreatGW
namespace Go.Proofs.YtigodbamphejmaaGreat.S
open Go.RowKit Go.WideMaps Go.Maps

theorem ok_of {n i : Nat} {L : List Edg} (h : Ed n i L) (hi : i ≤ 1000) (hn : n ≤ 16) (hl : L.length ≤ 60) : Ok n L := by
  have hup : L.Pairwise fun x y => x.1 < y.1 := h.up
  refine ⟨fun e he => ?_, hup.imp (fun h k => by rw [k] at h; omega), ids_one (List.pairwise_map.2 hup), fun e he => ?_, hl, hn⟩
  · obtain ⟨x, y, hxy, hyn, hE⟩ := h.ends e he
    have h1 : e.2.1 = (x : Int) := by rw [hE]
    have h2 : e.2.2 = (y : Int) := by rw [hE]
    have h3 : ea e = x := by simp [ea, h1]
    have h4 : eb e = y := by simp [eb, h2]
    rw [h3, h4]
    exact ⟨by omega, hyn, h1, h2⟩
  · have := h.ids e he
    exact wf_small (by omega) (by omega)

theorem Cv.cx {w0 w : World} {c mb rest : Nat} {S L : List Edg} {f : Edg → Nat} (h : Cv w0 w c mb rest S f) (hS : ∀ e, e ∈ S ↔ e ∈ L) (hup : (L.map (·.1)).Pairwise (· < ·)) (hwf : ∀ e ∈ L, (Lit.int .i64 e.1).wf = true) (hl : L.length ≤ 60) (hSl : S.length ≤ 60) : Cx w c mb rest S L f := by
  refine ⟨h.co, hS, hup, hwf, hl, fun D N ho hm => ?_⟩
  obtain ⟨D0, N0, k1, k2, k3⟩ := h.mp
  obtain ⟨es, clock, hb1, F1, hs1, rfl⟩ := k1
  obtain ⟨es', clock', hb2, F2, hs2, rfl⟩ := ho
  rw [hb1] at hb2
  cases hb2
  exact ⟨es, clock, hb1, F2, by omega, rfl⟩

/-- A cover that is made. -/
structure Cw (w : World) (c mb q bq n : Nat) (L : List Edg) : Prop where
  cx : Cx w c mb (grw n L).2.length ((grw n L).2 ++ (grw n L).1) L (covN n (grw n L).1 (grw n L).2)
  hc : ∃ x y, w.heap[c]? = some (.cells #[x, y, .pointer (some ⟨q, 0, none⟩)] 63)
  sets : SetsAt w q bq (lab3 n L ((grw n L).2 ++ (grw n L).1) (covN n (grw n L).1 (grw n L).2))

theorem Cw.below {w w' : World} {c mb q bq n : Nat} {L : List Edg} (h : Cw w c mb q bq n L) (hb : Below w.heap.size w w') : Cw w' c mb q bq n L := by
  obtain ⟨x, y, hc⟩ := h.hc
  exact ⟨h.cx.below hb, ⟨x, y, (hb.block c (lt_of_some hc)).trans hc⟩, h.sets.below hb h.sets.plt h.sets.blt⟩

theorem cyc_any (n B p : Nat) (v : Value) (L : List Edg) (w : World) (h : G.GAt w B 76 49 p (n : Int) v L) (hok : Ok n L) (hup : (L.map (·.1)).Pairwise (· < ·)) :
    Calls Tryz.prog 6 #[.pointer (some ⟨p, 0, none⟩)] w fun e w' => ∃ c mb q bq, e = .returned (.pointer (some ⟨c, 0, none⟩)) ∧ Cw w' c mb q bq n L ∧ Below w.heap.size w w' := by
  have hg := gr_all L hok.nd hok.inn.nodes
  have hS : ∀ e, e ∈ (grw n L).2 ++ (grw n L).1 ↔ e ∈ L := fun e => by rw [List.mem_append, hg.mem e]; exact or_comm
  have hl := hok.len
  have hSl : ((grw n L).2 ++ (grw n L).1).length ≤ 60 := by rw [List.length_append]; have := hg.len; omega
  have hf : ∀ d, covN n (grw n L).1 (grw n L).2 d < 18446744073709551616 := fun d => covN_lt n _ _ d (by have := hg.len; omega)
  refine (cof_any n B p v L _ w h hok (fun W c mb hcv => unparted_any n B p c mb _ v L _ _ w W (h.below hcv.below) hcv hok hS hf hSl)).mono ?_
  rintro e w' ⟨c, mb, q, bq, rfl, hcv, hc, hs⟩
  exact ⟨c, mb, q, bq, rfl, ⟨hcv.cx hS hup hok.wf hok.len hSl, ⟨_, _, hc⟩, hs⟩, hcv.below⟩

theorem edge_get (n : Int) (B p : Nat) (v : Value) (L : List Edg) (w : World) (h : G.GAt w B 76 49 p n v L) (hup : G.Up L) (hl : L.length ≤ 120) {e : Edg} (he : e ∈ L) :
    Calls Tryz.prog 18 #[.pointer (some ⟨p, 0, none⟩), .int .i64 e.1] w fun en w' => en = .returned (.tuple #[.agg #[.int .i64 e.1, .int .i64 e.2.1, .int .i64 e.2.2], .nilIface]) ∧ Below w.heap.size w w' := by
  rcases G.place_hit hup e.1 with ⟨y, k1, k2, k3⟩ | ⟨k1, _, _⟩
  · have hy : y = e := ids_one (List.pairwise_map.2 hup) y (List.mem_of_getElem? k1) e he k2
    subst hy
    exact G.edge_hit y.1 n y.1 y.2.1 y.2.2 B p _ v L w h hup hl rfl k1 k3
  · exact absurd rfl (k1 e he)

section
variable {p pw bw pt bt m N n : Nat} {W T : List Nat} {D : DataW Unit}
set_option maxHeartbeats 400000 in
theorem twice_in (x y : Nat) (s : Bool) (w : World) (h : BAt w p pw bw pt bt m N W T D) (hx : x < T.length) (hy : y < T.length) (hv : (((T.getD x 0 : Nat) : Int) == ((T.getD y 0 : Nat) : Int)) = s) :
    Calls Tryz.prog 19 #[.pointer (some ⟨p, 0, none⟩), .int .i64 (x : Int), .int .i64 (y : Int)] w fun e w' => e = .returned (.tuple #[.bool s, .nilIface]) ∧ Below w.heap.size w w' := by
  have hc := h.c1
  go_enter Tryz.func19, Tryz.ntmps19
  go_wp2_with fail
  refine (same_in x y pt bt T s w h.st hx hy hv).mono ?_
  rintro e w1 ⟨rfl, b1⟩
  have B1 : Hid (Below w.heap.size w w1) := b1
  clear b1 h hc hv
  go_wp2
  go_ret2
  exact ⟨rfl, B1.out⟩
end

theorem twice_yes {w0 w : World} {p pw bw pt bt mp n N : Nat} {R B : List Edg} {W T : List Nat} {D : DataW Unit} (h : Run w0 w p pw bw pt bt mp n R B W T D N) {x y : Nat} (hx : x < n) (hy : y < n) (ht : twR R x y) :
    Calls Tryz.prog 19 #[.pointer (some ⟨p, 0, none⟩), .int .i64 (x : Int), .int .i64 (y : Int)] w fun e w' => e = .returned (.tuple #[.bool true, .nilIface]) ∧ Below w.heap.size w w' := by
  have hs := h.now.st
  have h1 := (Lk.iff hx hy).1 ((hs.hT x y).2 ht)
  exact twice_in x y true w h.now.at_ (by rw [hs.gt.len]; exact hx) (by rw [hs.gt.len]; exact hy) (by rw [h1]; simp)

set_option maxHeartbeats 400000 in
set_option maxRecDepth 100000 in
theorem cthrice_any (c q bq n : Nat) (x y : Value) (L : List Nat) (w : World) (h : w.heap[c]? = some (.cells #[x, y, .pointer (some ⟨q, 0, none⟩)] 63)) (hs : SetsAt w q bq L) (hg : Good n L) (hn : n ≤ 40) :
    Calls Tryz.prog 20 #[.pointer (some ⟨c, 0, none⟩)] w fun e w' => ∃ v, e = .returned v ∧ AllAt w' v (grps L n) ∧ Below w.heap.size w w' := by
  have hc : w.cell? ⟨c, 2, none⟩ = some (.pointer (some ⟨q, 0, none⟩)) := by simp [World.cell?, h]
  have HA : Hid (Calls Tryz.prog 33 #[.pointer (some ⟨q, 0, none⟩)] w fun e w' => ∃ v, e = .returned v ∧ AllAt w' v (grps L n) ∧ Below w.heap.size w w') := by
    have := all_any q bq L w hs (by rw [hg.len]; exact hn) (fun i hi => by have := hg.le i (by rw [← hg.len]; exact hi); rw [hg.len] at hi; omega)
    rw [hg.len] at this
    exact this
  clear h hs hg
  go_enter Tryz.func20, Tryz.ntmps20
  go_wp2_with fail
  refine Calls.mono HA.out ?_
  rintro e w1 ⟨v, rfl, h1, h2⟩
  have HF : Hid (AllAt w1 v (grps L n) ∧ Below w.heap.size w w1) := ⟨h1, h2⟩
  clear h1 h2
  go_wp2_with fail
  go_ret
  exact ⟨_, rfl, HF.out⟩

theorem ed_RL : Ed 5 50 RL := by
  refine ⟨by unfold G.Up; decide, by decide, fun e he => ?_, by decide⟩
  simp only [RL, List.mem_cons, List.not_mem_nil, or_false] at he
  rcases he with rfl | rfl | rfl | rfl | rfl | rfl
  · exact ⟨0, 1, by omega, by omega, rfl⟩
  · exact ⟨1, 2, by omega, by omega, rfl⟩
  · exact ⟨0, 2, by omega, by omega, rfl⟩
  · exact ⟨2, 3, by omega, by omega, rfl⟩
  · exact ⟨3, 4, by omega, by omega, rfl⟩
  · exact ⟨2, 4, by omega, by omega, rfl⟩

theorem rest_RL : (grw 5 RL).2.length = 2 := by decide +kernel
theorem pairs_RL : (pairsOf (RL.filter fun e => decide (covN 5 (grw 5 RL).1 (grw 5 RL).2 e ≠ 0)) fun e d => decide (covN 5 (grw 5 RL).1 (grw 5 RL).2 e = covN 5 (grw 5 RL).1 (grw 5 RL).2 d)).length = 6 := by decide +kernel

set_option maxHeartbeats 1000000 in
set_option maxRecDepth 100000 in
theorem covered_fact (w : World) : Calls Tryz.prog 4 #[] w fun e w' => e = .returned (.bool true) ∧ Below w.heap.size w w' := by
  have hok : Ok 5 RL := ok_of ed_RL (by omega) (by omega) (by decide)
  have hup : (RL.map (·.1)).Pairwise (· < ·) := List.pairwise_map.2 ed_RL.up
  have HO : Hid (Ok 5 RL ∧ (RL.map (·.1)).Pairwise (· < ·)) := ⟨hok, hup⟩
  clear hok hup
  go_enter Tryz.func4, Tryz.ntmps4
  go_wp2_with fail
  refine (rings_any w).mono ?_
  rintro e w1 ⟨v, rfl, hga, hb1⟩
  have HG : Hid (G.GAt w1 w.heap.size 76 49 w.heap.size 5 v RL ∧ Below w.heap.size w w1) := ⟨hga, hb1⟩
  clear hga hb1
  go_wp2_with fail
  refine (cyc_any 5 w.heap.size w.heap.size v RL w1 HG.out.1 HO.out.1 HO.out.2).mono ?_
  rintro e w2 ⟨c, mb, q, bq, rfl, hcw, hb2⟩
  have HC : Hid (Cw w2 c mb q bq 5 RL ∧ Below w.heap.size w w2) := ⟨hcw, HG.out.2.trans (hb2.mono HG.out.2.size)⟩
  clear hcw hb2 HG
  go_wp2_with fail
  refine (crest_any c mb _ _ _ w2 HC.out.1.cx.co).mono ?_
  rintro e w3 ⟨rfl, hw3⟩
  subst hw3
  rw [rest_RL]
  go_wp2_with fail
  refine (cpairs_any c mb _ _ RL _ w3 HC.out.1.cx).mono ?_
  rintro e w4 ⟨v4, rfl, ho4, hb4⟩
  obtain ⟨a4, k4, hv4, _⟩ := ho4.shape
  rw [pairs_RL] at hv4
  subst hv4
  have HF : Hid (Below w.heap.size w w4) := HC.out.2.trans (hb4.mono HC.out.2.size)
  clear ho4 hb4 HC
  go_wp2_with fail
  go_ret
  exact ⟨rfl, HF.out⟩

/-- A key that is two numbers. -/
def pkI (x : Int × Int) : Lit := .string (keyBytes [.int .i64 x.1, .int .i64 x.2])
def wfP (x : Int × Int) : Prop := (Lit.int .i64 x.1).wf = true ∧ (Lit.int .i64 x.2).wf = true
def vP (x : Int × Int) : Value := .agg #[.int .i64 x.1, .int .i64 x.2]
theorem pkI_key {x : Int × Int} (h : wfP x) : keyOf Tryz.prog 41 (vP x) = some (pkI x) := pair_key x.1 x.2 h.1 h.2
theorem pkI_of {x : Int × Int} (h : wfP x) {v : Value} (hk : keyOf Tryz.prog 41 v = some (pkI x)) : v = vP x := law31.inj hk (pkI_key h)
theorem pkI_inj {x y : Int × Int} (hx : wfP x) (hy : wfP y) (h : pkI x = pkI y) : x = y := by
  have h1 := pkI_of hx (h ▸ pkI_key hy)
  unfold vP at h1
  simp at h1
  exact Prod.ext h1.1.symm h1.2.symm
theorem pkI_lit (x : Int × Int) : WideAt.IsKeyLit (pkI x) := trivial

/-- The map of the pairs. -/
structure Is (D : DataW Unit) (V : Int × Int → Prop) : Prop where
  key : ∀ kl, Maps.has D kl = true ↔ ∃ x, V x ∧ kl = pkI x
  val : ∀ x, V x → ∀ zd, D.atKey (pkI x) zd = .lit (.bool true)
  tidy : Tidy D

theorem Is.start : Is (.map []) (fun _ => False) := ⟨fun kl => by simp [Maps.has], fun _ h => h.elim, tidy_empty⟩

theorem Is.congr {D : DataW Unit} {V V' : Int × Int → Prop} (h : Is D V) (e : ∀ x, V x ↔ V' x) : Is D V' := by
  have : V = V' := by funext x; exact propext (e x)
  rw [← this]; exact h

theorem Is.put {D : DataW Unit} {V : Int × Int → Prop} (h : Is D V) (hV : ∀ x, V x → wfP x) (x : Int × Int) (hx : wfP x) : Is (D.put (pkI x) (.lit (.bool true))) (fun y => V y ∨ y = x) := by
  refine ⟨fun kl => ?_, fun y hy zd => ?_, h.tidy.put (pkI_lit _) _⟩
  · by_cases hk : kl = pkI x
    · rw [hk, has_put_same h.tidy.isMap (pkI_lit _)]
      exact ⟨fun _ => ⟨x, .inr rfl, rfl⟩, fun _ => rfl⟩
    · rw [has_put_other hk, h.key]
      constructor
      · rintro ⟨y, hy, k⟩; exact ⟨y, .inl hy, k⟩
      · rintro ⟨y, hy | rfl, k⟩
        · exact ⟨y, hy, k⟩
        · exact absurd k hk
  · by_cases hyx : y = x
    · rw [hyx, atKey_put_same h.tidy.isMap (pkI_lit _)]
    · rcases hy with hy | hy
      · rw [atKey_put_other (fun k => hyx (pkI_inj (hV y hy) hx k))]
        exact h.val y hy zd
      · exact absurd hy hyx

theorem zero4 (w : World) : (zeroValue 4).run Tryz.prog w = .ok (.bool false) w := by kernel_rfl

theorem plainElem_bool_inv {P : Program} {e : TypeId} (he : P.underlying e = some .bool) {v : Value} {y : DataW Unit × List MemPlace} (h : plainElem (H := Unit) P e v = some y) : ∃ b : Bool, v = .bool b ∧ y = (.lit (.bool b), []) := by
  unfold plainElem at h
  rw [he] at h
  cases v <;> simp at h
  exact ⟨_, rfl, h.symm⟩

theorem is_look {w : World} {mb N : Nat} {D : DataW Unit} {V : Int × Int → Prop} (hm : w.ownsMap Tryz.prog 41 (plainElem Tryz.prog 4) mb N D) (h : Is D V) {x : Int × Int} (hx : V x) (hw : wfP x) :
    (Instr.lookup 39 (.map (some mb)) (vP x) false).run Tryz.prog w = .ok (.bool true) w := by
  obtain ⟨v', ps', q1, q2⟩ := hm.lookup law31 Tryz.underlying39 (zero4 w) (plainElem_bool Tryz.underlying4 false) (pkI_key hw)
  rw [h.val x hx] at q2
  obtain ⟨b, rfl, hb⟩ := plainElem_bool_inv Tryz.underlying4 q2
  simp at hb
  rw [q1, ← hb.1]

end Go.Proofs.YtigodbamphejmaaGreat.S
