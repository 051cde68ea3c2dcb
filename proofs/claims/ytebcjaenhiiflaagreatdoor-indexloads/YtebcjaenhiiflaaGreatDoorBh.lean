/- How many parts there are: those that no one edge parts are as many as those that are held together, and the bridges. What is known hangs on the edges alone, not on their order. -/
import Derived.Test.YtebcjaenhiiflaaGreatDoorBg
import Derived.Lib.SlKeysI
namespace Go.Proofs.YtebcjaenhiiflaaGreatDoor.S
open Go.RowKit Go.WideMaps Go.Maps

/-- A number is the least of its set. -/
def isLeast (L : List Nat) (x : Nat) : Bool := ((L.getD x 0 : Nat) : Int) == (x : Int)

theorem list_eq_of_getD {n : Nat} {A B : List Nat} (ha : A.length = n) (hb : B.length = n) (h : ∀ i, i < n → A.getD i 0 = B.getD i 0) : A = B := by
  apply List.ext_getElem
  · omega
  · intro i h1 h2
    have := h i (by omega)
    simpa [h1, h2] using this

theorem cnt_congr {f g : Nat → Bool} : ∀ n, (∀ i, i < n → f i = g i) → cnt f n = cnt g n
  | 0, _ => rfl
  | k + 1, h => by simp only [cnt]; rw [cnt_congr k (fun i hi => h i (by omega)), h k (by omega)]

theorem cnt_less {f g : Nat → Bool} (t : Nat) (hf : f t = true) (hg : g t = false) : ∀ n, (∀ i, i < n → i ≠ t → f i = g i) → t < n → cnt f n = cnt g n + 1
  | 0, _, h => by omega
  | k + 1, h, ht => by
    simp only [cnt]
    by_cases e : t = k
    · subst e
      rw [cnt_congr t (fun i hi => h i (by omega) (by omega)), hf, hg]; simp
    · rw [cnt_less t hf hg k (fun i hi hn => h i (by omega) hn) (by omega), h k (by omega) (by omega)]
      omega

theorem isLeast_iff (L : List Nat) (x : Nat) : isLeast L x = true ↔ L.getD x 0 = x := by
  unfold isLeast
  rw [beq_iff_eq]; omega

theorem isLeast_join {n : Nat} {L : List Nat} (g : Good n L) {x y : Nat} (hx : x < n) (hy : y < n) (hne : L.getD x 0 ≠ L.getD y 0) : cnt (isLeast L) n = cnt (isLeast (joinL L x y)) n + 1 := by
  have hlen := g.len
  have hmx : max (L.getD x 0) (L.getD y 0) < n := by have := g.le x hx; have := g.le y hy; omega
  have hhi : L.getD (max (L.getD x 0) (L.getD y 0)) 0 = max (L.getD x 0) (L.getD y 0) := by
    rcases Nat.le_total (L.getD x 0) (L.getD y 0) with h | h
    · rw [Nat.max_eq_right h]; exact g.idem y hy
    · rw [Nat.max_eq_left h]; exact g.idem x hx
  refine cnt_less (max (L.getD x 0) (L.getD y 0)) ((isLeast_iff _ _).2 hhi) ?_ n (fun i hi hn => ?_) hmx
  · rw [Bool.eq_false_iff]
    intro h
    rw [isLeast_iff, joinL_at _ _ _ _ (by omega), hhi] at h
    unfold named at h
    rw [if_pos rfl] at h
    omega
  · rw [Bool.eq_iff_iff, isLeast_iff, isLeast_iff, joinL_at _ _ _ _ (by omega)]
    have := g.le i hi
    unfold named
    split
    · next e => constructor <;> intro h <;> omega
    · exact Iff.rfl

theorem grps_length {n : Nat} {L : List Nat} (g : Good n L) : ∀ k, k ≤ n → (grps L k).length = cnt (isLeast L) k
  | 0, _ => rfl
  | k + 1, hk => by
    have ih := grps_length g k (by omega)
    have hs := grp_some g (x := k) (by omega)
    have hl := isLeast_iff L k
    have e := g.len
    simp only [cnt]
    by_cases h : grp L n k = []
    · have hn : isLeast L k = false := by
        rw [Bool.eq_false_iff]; intro h2; exact (hs.2 (hl.1 h2)) h
      rw [grps_succ_none L k (by rw [e]; exact h), ih, hn]; simp
    · rw [grps_succ_some L k (by rw [e]; exact h), List.length_append, ih, hl.2 (hs.1 h)]; simp

variable {n : Nat} {R B : List (Int × Int × Int)} {W T : List Nat}

/-- A row of least members hangs on what is alike alone. -/
theorem good_eq {L M : List Nat} (g : Good n L) (h : Good n M) (e : ∀ u v, Lk n L u v ↔ Lk n M u v) : L = M := by
  have key : ∀ {L M : List Nat}, Good n L → Good n M → (∀ u v, Lk n L u v ↔ Lk n M u v) → ∀ i, i < n → M.getD i 0 ≤ L.getD i 0 := by
    intro L M g h e i hi
    have hl : L.getD i 0 < n := Nat.lt_of_le_of_lt (g.le i hi) hi
    have h1 : Lk n L (L.getD i 0) i := (Lk.iff hl hi).2 (g.idem i hi)
    have h2 := (Lk.iff hl hi).1 ((e _ _).1 h1)
    rw [← h2]
    exact h.le _ hl
  refine list_eq_of_getD g.len h.len (fun i hi => ?_)
  have h1 := key g h e i hi
  have h2 := key h g (fun u v => (e u v).symm) i hi
  omega

/-- Each join puts two together. -/
def Eff (L : List Nat) : List (Int × Int × Int) → Prop
  | [] => True
  | d :: ds => L.getD (ea d) 0 ≠ L.getD (eb d) 0 ∧ Eff (joinL L (ea d) (eb d)) ds

theorem eff_count : ∀ (ds : List (Int × Int × Int)) (L : List Nat), Good n L → (∀ d ∈ ds, ea d < n ∧ eb d < n) → Eff L ds → cnt (isLeast L) n = cnt (isLeast (joins L ds)) n + ds.length
  | [], _, _, _, _ => rfl
  | d :: ds, L, g, hd, he => by
    have h1 := hd d List.mem_cons_self
    have ih := eff_count ds _ (good_join g h1.1 h1.2) (fun e h => hd e (List.mem_cons_of_mem _ h)) he.2
    have h2 := isLeast_join g h1.1 h1.2 he.1
    show cnt (isLeast L) n = cnt (isLeast (joins (joinL L (ea d) (eb d)) ds)) n + (d :: ds).length
    rw [List.length_cons]
    omega

theorem eff_bridges (s : St n R W T B) : ∀ (ds done : List (Int × Int × Int)), (done ++ ds).Nodup → (∀ e ∈ done ++ ds, e ∈ B) → Eff (joins T done) ds
  | [], _, _, _ => trivial
  | d :: ds, done, hnd, hB => by
    have hin : ∀ e ∈ done, ea e < n ∧ eb e < n := fun e he => s.inn e ((s.hB e).1 (hB e (List.mem_append_left _ he))).1
    have hdB := (s.hB d).1 (hB d (by simp))
    have hd := s.inn d hdB.1
    refine ⟨fun k => ?_, ?_⟩
    · have h1 := (Lk_joins done T s.gt hin).1 ((Lk.iff hd.1 hd.2).2 k)
      refine hdB.2 (Conn.lift h1 ?_)
      rintro x y (h | ⟨e, he, rfl, rfl⟩)
      · exact ((s.hT x y).1 h).2 d hdB.1
      · refine cn_edge ⟨((s.hB e).1 (hB e (List.mem_append_left _ he))).1, ?_⟩
        rintro rfl
        rw [List.nodup_append] at hnd
        exact hnd.2.2 e he e (by simp) rfl
    · have e1 : joinL (joins T done) (ea d) (eb d) = joins T (done ++ [d]) := by rw [joins_append]; rfl
      rw [e1]
      refine eff_bridges s ds (done ++ [d]) ?_ ?_
      · rw [List.append_assoc]; exact hnd
      · intro e he
        rw [List.append_assoc] at he
        exact hB e he

/-- All bridges over the parts that no one edge parts: what is held together. -/
theorem bridges_all (s : St n R W T B) : joins T B = W := by
  have hin : ∀ e ∈ B, ea e < n ∧ eb e < n := fun e he => s.inn e ((s.hB e).1 he).1
  refine good_eq (good_joins B T s.gt hin) s.gw (fun u v => ?_)
  rw [Lk_joins B T s.gt hin, s.hW]
  constructor
  · intro h
    refine Conn.lift h ?_
    rintro x y (h | ⟨e, he, rfl, rfl⟩)
    · exact ((s.hT x y).1 h).1
    · exact cn_edge ((s.hB e).1 he).1
  · intro h
    refine Conn.lift h ?_
    rintro _ _ ⟨e, he, rfl, rfl⟩
    rcases br_or (a := ea) (b := eb) (T := (· ∈ R)) he with k | k
    · exact Conn.base (.inr ⟨e, (s.hB e).2 k, rfl, rfl⟩)
    · exact Conn.base (.inl ((s.hT _ _).2 k))

theorem count_all (s : St n R W T B) (hB : B.Nodup) : (grps T n).length = (grps W n).length + B.length := by
  rw [grps_length s.gt n (Nat.le_refl _), grps_length s.gw n (Nat.le_refl _)]
  have h1 := eff_count B T s.gt (fun e he => s.inn e ((s.hB e).1 he).1) (eff_bridges s B [] (by simpa using hB) (by simp))
  rw [bridges_all s] at h1
  exact h1

/-- The bridges, as they stand among the edges. -/
def brs (R B : List (Int × Int × Int)) : List (Int × Int × Int) := R.filter fun e => decide (e ∈ B)

theorem mem_brs (s : St n R W T B) (e : Int × Int × Int) : e ∈ brs R B ↔ brR R e := by
  unfold brs
  rw [List.mem_filter, decide_eq_true_eq, s.hB]
  exact ⟨fun h => h.2, fun h => ⟨h.1, h⟩⟩

theorem St.brs (s : St n R W T B) : St n R W T (brs R B) := { s with hB := mem_brs s }

/-- The numbers of the edges are unlike. -/
def Unl (R : List (Int × Int × Int)) : Prop := R.Pairwise fun x y => x.1 ≠ y.1

theorem idsOf_nodup (h : Unl R) : (idsOf R B).Nodup := by
  unfold idsOf
  rw [List.Nodup, List.pairwise_map]
  exact List.Pairwise.filter _ h

theorem brs_nodup (h : Unl R) : (brs R B).Nodup := (List.Pairwise.filter _ h).imp (fun h e => h (by rw [e]))

theorem ids_count (s : St n R W T B) (h : Unl R) : (grps T n).length = (grps W n).length + (idsOf R B).length := by
  have := count_all s.brs (brs_nodup h)
  rw [this]
  unfold idsOf brs
  rw [List.length_map]

/-- The numbers of the bridges, rising. -/
def ups (R B : List (Int × Int × Int)) : List Int := (idsOf R B).mergeSort fun x y => decide (x ≤ y)

theorem ups_length (R B : List (Int × Int × Int)) : (ups R B).length = (idsOf R B).length := by
  unfold ups; exact List.length_mergeSort _

theorem mem_idsOf (s : St n R W T B) (x : Int) : x ∈ idsOf R B ↔ ∃ e, brR R e ∧ e.1 = x := by
  unfold idsOf
  rw [List.mem_map]
  constructor
  · rintro ⟨e, he, rfl⟩; exact ⟨e, (mem_brs s e).1 he, rfl⟩
  · rintro ⟨e, he, rfl⟩; exact ⟨e, (mem_brs s e).2 he, rfl⟩

/-- What is known hangs on the edges alone. -/
theorem same_all {R' B' : List (Int × Int × Int)} {W' T' : List Nat} (s : St n R W T B) (s' : St n R' W' T' B') (hp : R.Perm R') (h : Unl R) : W = W' ∧ T = T' ∧ ups R B = ups R' B' := by
  have hm : (fun e => e ∈ R) = fun e => e ∈ R' := by funext e; exact propext hp.mem_iff
  have h' : Unl R' := hp.pairwise h (fun {a b} k => k.symm)
  refine ⟨good_eq s.gw s'.gw (fun u v => ?_), good_eq s.gt s'.gt (fun u v => ?_), ?_⟩
  · rw [s.hW, s'.hW]; simp only [cnR]; rw [hm]
  · rw [s.hT, s'.hT]; simp only [twR]; rw [hm]
  · unfold ups
    refine mergeSort_of_perm_i ((List.perm_ext_iff_of_nodup (idsOf_nodup h) (idsOf_nodup h')).2 fun x => ?_)
    rw [mem_idsOf s, mem_idsOf s']
    simp only [brR]
    rw [hm]

end Go.Proofs.YtebcjaenhiiflaaGreatDoor.S
