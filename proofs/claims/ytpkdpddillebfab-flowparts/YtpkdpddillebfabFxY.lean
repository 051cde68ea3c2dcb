/- What parts is what few ways join: the plain mathematics. -/
import Derived.Test.YtpkdpddillebfabFu
import Derived.Test.YtpkdpddillebfabXmN
import Derived.Test.YtpkdpddillebfabFv
namespace Go.Proofs.Ytpkdpddillebfab.S
open Go Go.ChangeMaps Go.MapKept Go.WideShapes
open Go.RowKit Go.WideMaps Go.Maps F

section
variable {n : Nat} {L : List Stp} {x y : Nat}

/-- More ways than so many, just if no so many edges part. -/
theorem val_ge {m : Nat} {most k : Int} (hed : Ed n 50 L) (hv : Val (cap (lD (edS L)) (lr (edS L))) x y most k) (hm : (m : Int) < most) : (m : Int) + 1 ≤ k ↔ ∀ T : Stp → Bool, (L.filter T).length ≤ m → cnE L T x y := by
  constructor
  · intro h T hT
    refine Classical.byContradiction fun hc => ?_
    have := val_le_edges hed hv T hc
    omega
  · intro h
    refine Classical.byContradiction fun hc => ?_
    obtain ⟨T, h1, h2⟩ := val_eq_edges hed hv (by omega)
    exact h1 (h T (by omega))

theorem ed_nodup (hed : Ed n 50 L) : L.Nodup := by
  have h := hed.up
  unfold G.Up at h
  refine h.imp ?_
  intro x y hxy e
  rw [e] at hxy
  omega

theorem one_iff : (∀ T : Stp → Bool, (L.filter T).length ≤ 0 → cnE L T x y) ↔ cnR L x y := by
  constructor
  · intro h
    refine cn_mono (h (fun _ => false) (by simp)) fun e he => he.1
  · intro h T hT
    refine cn_mono h fun e he => ⟨he, ?_⟩
    cases hq : T e with
    | false => rfl
    | true =>
      have := List.length_pos_of_mem (List.mem_filter.2 ⟨he, hq⟩)
      omega

/-- Of one or two edges that are taken away. -/
theorem few_iff (hed : Ed n 50 L) : (∀ T : Stp → Bool, (L.filter T).length ≤ 2 → cnE L T x y) ↔ (cnR L x y ∧ ∀ e ∈ L, ∀ f ∈ L, cn ea eb (but (but (· ∈ L) e) f) x y) := by
  constructor
  · intro h
    refine ⟨one_iff.1 (fun T hT => h T (by omega)), fun e he f hf => ?_⟩
    refine cn_mono (h (fun d => decide (d = e ∨ d = f)) ?_) fun d hd => ?_
    · refine Nat.le_trans (nodup_sub _ [e, f] ((ed_nodup hed).filter _) (fun d hd => ?_)) (by simp)
      have := of_decide_eq_true (List.mem_filter.1 hd).2
      simpa using this
    · have := of_decide_eq_false hd.2
      exact ⟨⟨hd.1, fun k => this (.inl k)⟩, fun k => this (.inr k)⟩
  · rintro ⟨h1, h2⟩ T hT
    have hin : ∀ d ∈ L, T d = true → d ∈ L.filter T := fun d hd hq => List.mem_filter.2 ⟨hd, hq⟩
    have hout : ∀ d ∈ L, d ∉ L.filter T → T d = false := fun d hd hn => by
      cases hq : T d with
      | false => rfl
      | true => exact absurd (hin d hd hq) hn
    cases hF : L.filter T with
    | nil => exact cn_mono h1 fun d hd => ⟨hd, hout d hd (by rw [hF]; simp)⟩
    | cons e l =>
      have he : e ∈ L := (List.mem_filter.1 (show e ∈ L.filter T by rw [hF]; simp)).1
      cases l with
      | nil => exact cn_mono (h2 e he e he) fun d hd => ⟨hd.1.1, hout d hd.1.1 (by rw [hF]; simpa using hd.2)⟩
      | cons f l =>
        have hf : f ∈ L := (List.mem_filter.1 (show f ∈ L.filter T by rw [hF]; simp)).1
        have hl : l = [] := by
          rw [hF] at hT
          simp at hT
          exact hT
        subst hl
        exact cn_mono (h2 e he f hf) fun d hd => ⟨hd.1.1, hout d hd.1.1 (by rw [hF]; simp; exact ⟨hd.1.2, hd.2⟩)⟩

theorem two_iff (hed : Ed n 50 L) : (∀ T : Stp → Bool, (L.filter T).length ≤ 1 → cnE L T x y) ↔ twR L x y := by
  constructor
  · intro h
    refine ⟨one_iff.1 (fun T hT => h T (by omega)), fun e he => ?_⟩
    refine cn_mono (h (fun d => decide (d = e)) ?_) fun d hd => ⟨hd.1, of_decide_eq_false hd.2⟩
    refine Nat.le_trans (nodup_sub _ [e] ((ed_nodup hed).filter _) (fun d hd => ?_)) (by simp)
    have := of_decide_eq_true (List.mem_filter.1 hd).2
    simpa using this
  · rintro ⟨h1, h2⟩ T hT
    have hout : ∀ d ∈ L, d ∉ L.filter T → T d = false := fun d hd hn => by
      cases hq : T d with
      | false => rfl
      | true => exact absurd (List.mem_filter.2 ⟨hd, hq⟩) hn
    cases hF : L.filter T with
    | nil => exact cn_mono h1 fun d hd => ⟨hd, hout d hd (by rw [hF]; simp)⟩
    | cons e l =>
      have he : e ∈ L := (List.mem_filter.1 (show e ∈ L.filter T by rw [hF]; simp)).1
      have hl : l = [] := by
        rw [hF] at hT
        simp at hT
        exact hT
      subst hl
      exact cn_mono (h2 e he) fun d hd => ⟨hd.1, hout d hd.1 (by rw [hF]; simpa using hd.2)⟩

/-- Whether one node parts, where no edge joins both and there is a way. -/
theorem apart_iff {k : Int} (hed : Ed n 50 L) (hyn : y < n) (hxy : x ≠ y) (hna : ∀ e ∈ L, ¬ (ea e = x ∧ eb e = y) ∧ ¬ (ea e = y ∧ eb e = x)) (hc : cnR L x y) (hv : Val (cap (lD (noS n L)) (lr (noS n L))) (2 * (x : Int) + 1) (2 * (y : Int)) (2 : Nat) k) : (∃ z, z < n ∧ z ≠ x ∧ z ≠ y ∧ ¬ cnw L [z] x y) ↔ ¬ 2 ≤ k := by
  constructor
  · rintro ⟨z, _, h1, h2, h3⟩ h
    have := val_le_nodes hed hv [z] (by simpa using fun e => h1 e.symm) (by simpa using fun e => h2 e.symm) h3
    simp at this
    omega
  · intro h
    obtain ⟨T, h1, h2, h3, h4, h5⟩ := val_eq_nodes hed hyn hxy hna hv (by omega)
    have hT : T.length ≤ 1 := by omega
    match T, hT with
    | [], _ => exact absurd (cn_mono hc fun e he => ⟨he, by simp, by simp⟩) h3
    | [z], _ => exact ⟨z, h5 z (by simp), fun e => h1 (by simp [e]), fun e => h2 (by simp [e]), h3⟩

end

section
variable {n : Nat} {L t o : List Edg}

theorem lab_but (hg : Gr n L t o) (hok : Ok n L) {x y : Nat} (hx : x < n) (hy : y < n) :
    (lab3 n L (o ++ t) (covN n t o)).getD x 0 = (lab3 n L (o ++ t) (covN n t o)).getD y 0 ↔ (cnR L x y ∧ ∀ e ∈ L, ∀ f ∈ L, cn ea eb (but (but (· ∈ L) e) f) x y) := by
  have hfil : ∀ d, Nodes n (L.filter fun e => decide (covN n t o e ≠ covN n t o d)) := fun d e he => hok.inn.nodes e (List.mem_filter.1 he).1
  have hmf : ∀ d, (· ∈ L.filter fun e => decide (covN n t o e ≠ covN n t o d)) = fun e => un (· ∈ t) (· ∈ o) e ∧ ¬ alikeE ea eb (· ∈ t) (· ∈ o) d e := fun d => by
    funext e; apply propext
    rw [un_mem hg, List.mem_filter, decide_eq_true_iff, Ne, ← covN_eq hg hok.inn, eq_comm]
  have hsame : ∀ {A B : Edg → Prop} {u v : Nat}, A = B → (cn ea eb A u v ↔ cn ea eb B u v) := fun h => by rw [h]
  rw [lab3_al _ _ hx hy]
  have h1 : (∀ l ∈ rests n L (o ++ t) (covN n t o), l.getD x 0 = l.getD y 0) ↔ (cnR L x y ∧ ∀ e, un (· ∈ t) (· ∈ o) e → cn ea eb (fun d => un (· ∈ t) (· ∈ o) d ∧ ¬ alikeE ea eb (· ∈ t) (· ∈ o) e d) x y) := by
    unfold rests
    constructor
    · intro h
      refine ⟨(lb_iff hok.inn.nodes hx hy).1 (h _ (by simp)), fun e he => ?_⟩
      have he' : e ∈ o ++ t := List.mem_append.2 he.symm
      have := (lb_iff (hfil e) hx hy).1 (h _ (List.mem_cons_of_mem _ (List.mem_map.2 ⟨e, he', rfl⟩)))
      exact (hsame (hmf e)).1 this
    · rintro ⟨h2, h3⟩ l hl
      rcases List.mem_cons.1 hl with rfl | hl
      · exact (lb_iff hok.inn.nodes hx hy).2 h2
      · obtain ⟨e, he, rfl⟩ := List.mem_map.1 hl
        rw [lb_iff (hfil e) hx hy]
        exact (hsame (hmf e)).2 (h3 e (List.mem_append.1 he).symm)
  rw [h1, hg.forest.thrice L hg.mem, un_mem hg]
  refine and_congr_right (fun _ => ⟨fun h e he f hf => h e f he hf, fun h e f he hf => h e he f hf⟩)

end

/-! ### The parts as a row -/
/-- Which row of the groups a number lies in. -/
theorem grps_iff {n : Nat} {P : List Nat} (g : Good n P) {i k x y : Nat} (hi : i < (grps P n).length) (hk : k < (grps P n).length) (hx : x ∈ (grps P n).getD i []) (hy : y ∈ (grps P n).getD k []) : i = k ↔ P.getD x 0 = P.getD y 0 := by
  obtain ⟨u, hu, hu2, hu3⟩ := grps_at g i hi
  obtain ⟨v, hv, hv2, hv3⟩ := grps_at g k hk
  rw [hu3] at hx
  rw [hv3] at hy
  unfold grp at hx hy
  have hx' : P.getD x 0 = u := by simpa using (List.mem_filter.1 hx).2
  have hy' : P.getD y 0 = v := by simpa using (List.mem_filter.1 hy).2
  rw [hx', hy']
  constructor
  · intro e
    subst e
    rw [hu3] at hv3
    have : u ∈ grp P n u := List.mem_filter.2 ⟨List.mem_range.2 hu, by simpa using hu2⟩
    rw [hv3] at this
    have := (List.mem_filter.1 this).2
    simp at this
    have h2 := hu2
    simp at h2
    omega
  · intro e
    subst e
    have hnd : (grps P n).Nodup := by
      have : (grps P n).Pairwise (fun a b => a ≠ b) := by
        have hmap : ((List.range n).filter fun z => !(grp P P.length z).isEmpty).map (grp P P.length) = grps P n := by
          unfold grps
          rw [List.filter_map]
          rfl
        rw [← hmap, List.pairwise_map]
        refine (List.nodup_range.filter _).imp_of_mem ?_
        intro a b ha _ hab hE
        have ha2 := (List.mem_filter.1 ha).2
        have hne : grp P P.length a ≠ [] := by
          intro k; rw [k] at ha2; cases ha2
        obtain ⟨z, hz⟩ := List.exists_mem_of_ne_nil _ hne
        have h1 := (List.mem_filter.1 hz).2
        rw [hE] at hz
        have h2 := (List.mem_filter.1 hz).2
        simp at h1 h2
        exact hab (h1.symm.trans h2)
      exact this
    have hi' : (grps P n)[i]? = some ((grps P n).getD i []) := by rw [List.getD_eq_getElem?_getD, List.getElem?_eq_getElem hi]; rfl
    have hk' : (grps P n)[k]? = some ((grps P n).getD k []) := by rw [List.getD_eq_getElem?_getD, List.getElem?_eq_getElem hk]; rfl
    rw [hu3] at hi'
    rw [hv3] at hk'
    exact (List.getElem?_inj hi hnd).1 (hi'.trans hk'.symm)

/-- Each number lies in one. -/
theorem grps_in {n : Nat} {P : List Nat} (g : Good n P) {x : Nat} (hx : x < n) : ∃ i, i < (grps P n).length ∧ x ∈ (grps P n).getD i [] := by
  have hm : grp P P.length (P.getD x 0) ∈ grps P n := by
    unfold grps
    refine List.mem_filter.2 ⟨List.mem_map.2 ⟨P.getD x 0, List.mem_range.2 (Nat.lt_of_le_of_lt (g.le x hx) hx), rfl⟩, ?_⟩
    have : x ∈ grp P P.length (P.getD x 0) := List.mem_filter.2 ⟨List.mem_range.2 (by rw [g.len]; exact hx), by simp⟩
    cases hq : grp P P.length (P.getD x 0) with
    | nil => rw [hq] at this; simp at this
    | cons a l => rfl
  obtain ⟨i, hi, he⟩ := List.mem_iff_getElem.1 hm
  refine ⟨i, hi, ?_⟩
  rw [List.getD_eq_getElem?_getD, List.getElem?_eq_getElem hi]
  show x ∈ (grps P n)[i]
  rw [he]
  exact List.mem_filter.2 ⟨List.mem_range.2 (by rw [g.len]; exact hx), by simp⟩

end Go.Proofs.Ytpkdpddillebfab.S
namespace Go.Proofs.Ytpkdpddillebfab.S
open Go Go.ChangeMaps Go.MapKept Go.WideShapes
open Go.RowKit Go.WideMaps Go.Maps F

theorem tw_any {w : World} {p n : Nat} {R : List (Int × Int × Int)} (h : Whl w p n R) {x y : Nat} (hx : x < n) (hy : y < n) (s : Bool) (hs : s = true ↔ twR R x y) :
    Calls Try.prog 18 #[.pointer (some ⟨p, 0, none⟩), .int .i64 (x : Int), .int .i64 (y : Int)] w fun e w' => e = .returned (.tuple #[.bool s, .nilIface]) ∧ Below w.heap.size w w' := by
  obtain ⟨w0, pw, bw, pt, bt, mp, B, W, T, D, N, h⟩ := h
  have hst := h.now.st
  refine twice_in x y s w h.now.at_ (by rw [hst.gt.len]; exact hx) (by rw [hst.gt.len]; exact hy) ?_
  rw [Bool.eq_iff_iff, hs, ← hst.hT x y, Lk.iff hx hy, beq_iff_eq]
  omega

/-- What no two edges part, as rows. -/
theorem thr_any {n B p : Nat} {v : Value} {L : List Edg} {w : World} (h : G.GAt w B 58 36 p (n : Int) v L) (hed : Ed n 50 L) (hn : n ≤ 14) :
    Calls Try.prog 15 #[.pointer (some ⟨p, 0, none⟩)] w fun e w' => ∃ c : Nat, e = .returned (.pointer (some ⟨c, 0, none⟩)) ∧ Below w.heap.size w w' ∧ ∃ P : List Nat, Good n P ∧ (∀ x y, x < n → y < n → (P.getD x 0 = P.getD y 0 ↔ (cnR L x y ∧ ∀ e ∈ L, ∀ f ∈ L, cn ea eb (but (but (· ∈ L) e) f) x y))) ∧ ∀ W, Below w'.heap.size w' W → Calls Try.prog 16 #[.pointer (some ⟨c, 0, none⟩)] W fun e w'' => ∃ u, e = .returned u ∧ AllAt w'' u (grps P n) ∧ Below W.heap.size W w'' := by
  have hl := hed.len
  have hok := ok_of hed (by omega) (by omega) (by omega)
  refine (cyc_any n B p v L w h hok (List.pairwise_map.2 hed.up)).mono ?_
  rintro e w' ⟨c, mb, q, bq, rfl, hcw, hb⟩
  have hg := gr_all (n := n) L hok.nd hok.inn.nodes
  refine ⟨c, rfl, hb, _, lab3_good _ _ _, fun x y hx hy => lab_but hg hok hx hy, fun W hW => ?_⟩
  obtain ⟨x, y, hc⟩ := (hcw.below hW).hc
  exact cthrice_any c q bq n x y _ W hc (hcw.below hW).sets (lab3_good _ _ _) (by omega)

theorem getD_mem {l : List Nat} {k : Nat} (hk : k < l.length) : l.getD k 0 ∈ l := by
  rw [List.getD_eq_getElem?_getD, List.getElem?_eq_getElem hk]
  exact List.getElem_mem _

/-- A number of each node's row, so far. -/
structure PartAt (l : List Nat) (Gs : List (List Nat)) (n i k : Nat) : Prop where
  len : l.length = n
  done : ∀ i' v, i' < i → v ∈ Gs.getD i' [] → l.getD v 0 = i'
  now : ∀ j, j < k → l.getD ((Gs.getD i []).getD j 0) 0 = i

theorem PartAt.start (Gs : List (List Nat)) (n : Nat) : PartAt (fill n 0) Gs n 0 0 := ⟨by simp [fill], fun i' v h => by omega, fun j h => by omega⟩

theorem PartAt.set {l : List Nat} {P : List Nat} {n i k v : Nat} (h : PartAt l (grps P n) n i k) (g : Good n P) (hi : i < (grps P n).length) (hk : k < ((grps P n).getD i []).length) (hv : ((grps P n).getD i []).getD k 0 = v) (hvn : v < n) : PartAt (l.set v i) (grps P n) n i (k + 1) := by
  have hmem : v ∈ (grps P n).getD i [] := by
    rw [← hv]
    exact getD_mem hk
  refine ⟨by simp [h.len], fun i' u hi' hu => ?_, fun j hj => ?_⟩
  · have hne : u ≠ v := fun e => by
      subst e
      have := (grps_iff g (by omega) hi hu hmem).2 rfl
      omega
    rw [List.getD_eq_getElem?_getD, List.getElem?_set_ne (fun e => hne e.symm), ← List.getD_eq_getElem?_getD]
    exact h.done i' u hi' hu
  · by_cases e : ((grps P n).getD i []).getD j 0 = v
    · rw [e, List.getD_eq_getElem?_getD, List.getElem?_set_self (by rw [h.len]; exact hvn)]
      rfl
    · rw [List.getD_eq_getElem?_getD, List.getElem?_set_ne (fun e' => e e'.symm), ← List.getD_eq_getElem?_getD]
      by_cases ej : j = k
      · subst ej; exact absurd hv e
      · exact h.now j (by omega)

theorem PartAt.next {l : List Nat} {Gs : List (List Nat)} {n i k : Nat} (h : PartAt l Gs n i k) (hk : (Gs.getD i []).length ≤ k) : PartAt l Gs n (i + 1) 0 := by
  refine ⟨h.len, fun i' v hi' hv => ?_, fun j hj => by omega⟩
  by_cases e : i' = i
  · subst e
    obtain ⟨j, hj, rfl⟩ := List.mem_iff_getElem.1 hv
    have := h.now j (by omega)
    rwa [show (Gs.getD i' []).getD j 0 = (Gs.getD i' [])[j] by rw [List.getD_eq_getElem?_getD, List.getElem?_eq_getElem hj]; rfl] at this
  · exact h.done i' v (by omega) hv

theorem PartAt.iff {l : List Nat} {P : List Nat} {n k : Nat} (h : PartAt l (grps P n) n (grps P n).length k) (g : Good n P) {x y : Nat} (hx : x < n) (hy : y < n) : l.getD x 0 = l.getD y 0 ↔ P.getD x 0 = P.getD y 0 := by
  obtain ⟨i, hi, hxi⟩ := grps_in g hx
  obtain ⟨j, hj, hyj⟩ := grps_in g hy
  rw [h.done i x hi hxi, h.done j y hj hyj]
  exact grps_iff g hi hj hxi hyj

/-- A node of a row. -/
theorem grps_node {n : Nat} {P : List Nat} (g : Good n P) {i k : Nat} (hi : i < (grps P n).length) (hk : k < ((grps P n).getD i []).length) : ((grps P n).getD i []).getD k 0 < n := by
  obtain ⟨u, hu, hu2, hu3⟩ := grps_at g i hi
  have := getD_mem hk
  rw [hu3] at this ⊢
  exact List.mem_range.1 (List.mem_filter.1 this).1

/-- The map of the ends of edges. -/
def EndsOf (L : List Stp) (j : Nat) (q : Int × Int) : Prop := ∃ i e, i < j ∧ L[i]? = some e ∧ q = (e.2.1, e.2.2)

theorem endsOf_wf {n : Nat} {L : List Stp} (hed : Ed n 50 L) (hn : n ≤ 14) {j : Nat} {q : Int × Int} (h : EndsOf L j q) : wfP q := by
  obtain ⟨i, e, _, he, rfl⟩ := h
  obtain ⟨h1, h2, h3, h4, _⟩ := ed_ends hed (List.mem_of_getElem? he)
  rw [h1, h2]
  exact ⟨wf_small (by omega) (by omega), wf_small (by omega) (by omega)⟩

theorem is_none {w : World} {mb N : Nat} {D : DataW Unit} {V : Int × Int → Prop} (hm : w.ownsMap Try.prog 48 (plainElem Try.prog 4) mb N D) (h : Is D V) (hV : ∀ x, V x → wfP x) {x : Int × Int} (hx : ¬ V x) (hw : wfP x) :
    (Instr.lookup 46 (.map (some mb)) (vP x) false).run Try.prog w = .ok (.bool false) w := by
  obtain ⟨v', ps', q1, q2⟩ := hm.lookup law32 Try.underlying46 (zero4 w) (plainElem_bool Try.underlying4 false) (pkI_key hw)
  have hno : Maps.has D (pkI x) = false := by
    cases hq : Maps.has D (pkI x) with
    | false => rfl
    | true =>
      obtain ⟨y, hy, he⟩ := (h.key _).1 hq
      exact absurd (pkI_inj hw (hV y hy) he ▸ hy) hx
  rw [atKey_of_not_has hno] at q2
  obtain ⟨b, rfl, hb⟩ := plainElem_bool_inv Try.underlying4 q2
  simp at hb
  rw [q1, ← hb.1]

/-- One key more. -/
theorem is_put {w : World} {mb N : Nat} {D : DataW Unit} {V : Int × Int → Prop} (hm : w.ownsMap Try.prog 48 (plainElem Try.prog 4) mb N D) (h : Is D V) (hV : ∀ x, V x → wfP x) (hN : N ≤ 1000) {x : Int × Int} (hw : wfP x) :
    ∃ w', (Instr.mapUpdate 46 (.map (some mb)) (vP x) (.bool true)).run Try.prog w = .ok () w' ∧ w'.ownsMap Try.prog 48 (plainElem Try.prog 4) mb (N + 1) (D.put (pkI x) (.lit (.bool true))) ∧ Is (D.put (pkI x) (.lit (.bool true))) (fun y => V y ∨ y = x) ∧ w.grownBy w' (some mb) := by
  obtain ⟨w2, r2, m2, g2⟩ := hm.update law32 Try.underlying46 (by unfold maxLen; omega) (pkI_key hw) (val := .bool true) (plainElem_bool Try.underlying4 true)
  exact ⟨w2, r2, m2, h.put hV x hw, g2⟩

end Go.Proofs.Ytpkdpddillebfab.S
