/- What the sums of rings are: how many there are, which part together, what no two part. -/
import Derived.Test.YtpkdpddillebfabVZ
import Derived.Test.YtpkdpddillebfabOb
import Derived.Test.YtpkdpddillebfabOa
import Derived.DeepKeys4
import Derived.Test.YtpkdpddillebfabGW
namespace Go.Proofs.Ytpkdpddillebfab.S
open Go.RowKit Go.WideMaps Go.Maps

section
variable {n : Nat} {L R t o : List Edg}

theorem mem_tbut (t : List Edg) (d : Edg) : (· ∈ tbut t d) = but (· ∈ t) d := by
  funext e; apply propext; simp [tbut, but]

theorem cn_same {A B : Edg → Prop} (h : A = B) (u v : Nat) : cn ea eb A u v ↔ cn ea eb B u v := by rw [h]

theorem cnR_same {A : List Edg} {B : Edg → Prop} (h : (· ∈ A) = B) (u v : Nat) : cnR A u v ↔ cn ea eb B u v := cn_same h u v

theorem covB_iff (hg : Gr n L t o) (hin : InE n L) {e d : Edg} {k : Nat} (hk : o[k]? = some d) : covB n t o e k = true ↔ cov ea eb (· ∈ t) e d := by
  have hd : d ∈ L := (hg.mem d).2 (.inr (List.mem_of_getElem? hk))
  have hgd : o.getD k (0, 0, 0) = d := by rw [List.getD_eq_getElem?_getD, hk]; rfl
  have hit : InE n t := hin.sub (fun x hx => (hg.mem x).2 (.inl hx))
  unfold covB cov
  by_cases he : e ∈ t
  · rw [if_pos he]
    unfold tcov
    rw [hgd, decide_eq_true_iff, Ne, lb_iff (tbut_in hit e).nodes (hin d hd).1 (hin d hd).2.1, cnR_same (mem_tbut t e)]
    simp [he]
  · rw [if_neg he, decide_eq_true_iff, hgd]
    simp [he, eq_comm]

theorem covN_eq (hg : Gr n L t o) (hin : InE n L) (e d : Edg) : covN n t o e = covN n t o d ↔ alikeE ea eb (· ∈ t) (· ∈ o) e d := by
  unfold covN
  constructor
  · intro h x hx
    obtain ⟨k, hk⟩ := List.getElem?_of_mem hx
    have hl := (List.getElem?_eq_some_iff.1 hk).1
    have := bitsN_inj h k hl
    rw [← covB_iff hg hin hk, ← covB_iff hg hin hk, this]
  · intro h
    refine bitsN_congr (fun i hi => ?_)
    have hk : o[i]? = some o[i] := List.getElem?_eq_getElem hi
    rw [Bool.eq_iff_iff, covB_iff hg hin hk, covB_iff hg hin hk]
    exact h _ (List.mem_of_getElem? hk)

theorem bitsN_none : ∀ m, bitsN (fun _ => false) m = 0
  | 0 => rfl
  | m + 1 => by simp [bitsN, bitsN_none m]

theorem covN_zero (hg : Gr n L t o) (hin : InE n L) (e : Edg) : covN n t o e = 0 ↔ ∀ x, x ∈ o → ¬ cov ea eb (· ∈ t) e x := by
  unfold covN
  constructor
  · intro h x hx
    obtain ⟨k, hk⟩ := List.getElem?_of_mem hx
    have hl := (List.getElem?_eq_some_iff.1 hk).1
    have := bitsN_inj (d := fun _ => false) (h.trans (bitsN_none _).symm) k hl
    rw [← covB_iff hg hin hk, this]
    simp
  · intro h
    rw [← bitsN_none o.length]
    refine bitsN_congr (fun i hi => ?_)
    have hk : o[i]? = some o[i] := List.getElem?_eq_getElem hi
    have := h _ (List.mem_of_getElem? hk)
    rw [← covB_iff hg hin hk] at this
    simpa using this

theorem un_mem (hg : Gr n L t o) : un (· ∈ t) (· ∈ o) = (· ∈ L) := by
  funext e; apply propext; exact (hg.mem e).symm

theorem covN_br (hg : Gr n L t o) (hin : InE n L) {e : Edg} (he : e ∈ L) : covN n t o e = 0 ↔ br ea eb (· ∈ L) e := by
  rw [covN_zero hg hin, ← un_mem hg, hg.forest.bridge ((hg.mem e).1 he)]

theorem tri_mem (q : Nat → Nat → Bool) : ∀ {m x y : Nat}, x < m → y < x → q x y = true → ((0 : Int), (x : Int), (y : Int)) ∈ tri q m
  | 0, x, y, h, _, _ => by omega
  | m + 1, x, y, h, hy, hq => by
    rw [tri, List.mem_append]
    by_cases e : x = m
    · right
      rw [← e]
      exact List.mem_map.2 ⟨y, List.mem_filter.2 ⟨List.mem_range.2 hy, hq⟩, rfl⟩
    · exact .inl (tri_mem q (by omega) hy hq)

theorem tri_all (q : Nat → Nat → Bool) : ∀ {m : Nat} {e : Edg}, e ∈ tri q m → q (ea e) (eb e) = true
  | 0, e, h => by simp [tri] at h
  | m + 1, e, h => by
    rw [tri, List.mem_append] at h
    rcases h with h | h
    · exact tri_all q h
    · obtain ⟨z, hz, rfl⟩ := List.mem_map.1 h
      have := (List.mem_filter.1 hz).2
      simpa [ea, eb] using this

theorem alB_iff (Ls : List (List Nat)) (x y : Nat) : alB Ls x y = true ↔ ∀ l ∈ Ls, l.getD x 0 = l.getD y 0 := by simp [alB]

theorem lab3_good (L S : List Edg) (f : Edg → Nat) : Good n (lab3 n L S f) := lb_good (tri_in _ n n (Nat.le_refl _))

theorem lab3_al (S : List Edg) (f : Edg → Nat) {x y : Nat} (hx : x < n) (hy : y < n) : (lab3 n L S f).getD x 0 = (lab3 n L S f).getD y 0 ↔ ∀ l ∈ rests n L S f, l.getD x 0 = l.getD y 0 := by
  unfold lab3
  rw [lb_iff (tri_in _ n n (Nat.le_refl _)) hx hy]
  constructor
  · intro h
    refine Conn.least (P := fun x y => ∀ l ∈ rests n L S f, l.getD x 0 = l.getD y 0) h (fun x l _ => rfl) (fun x y k l hl => (k l hl).symm) (fun x y z k1 k2 l hl => (k1 l hl).trans (k2 l hl)) ?_
    rintro x y ⟨e, he, rfl, rfl⟩
    exact (alB_iff _ _ _).1 (tri_all _ he)
  · intro h
    rcases Nat.lt_trichotomy x y with hlt | rfl | hlt
    · have := cn_edge (a := ea) (b := eb) (T := (· ∈ tri (alB (rests n L S f)) n)) (tri_mem (alB (rests n L S f)) hy hlt ((alB_iff _ _ _).2 fun l hl => (h l hl).symm))
      exact cn_symm (by simpa [ea, eb] using this)
    · exact cn_refl _
    · have := cn_edge (a := ea) (b := eb) (T := (· ∈ tri (alB (rests n L S f)) n)) (tri_mem (alB (rests n L S f)) hx hlt ((alB_iff _ _ _).2 h))
      simpa [ea, eb] using this


theorem covN_lt (n : Nat) (t o : List Edg) (e : Edg) (h : o.length ≤ 63) : covN n t o e < 18446744073709551616 := by
  have h1 := bitsN_lt (covB n t o e) o.length
  have h2 : 2 ^ o.length ≤ 2 ^ 64 := Nat.pow_le_pow_right (by omega) (by omega)
  unfold covN
  have h3 : (2 : Nat) ^ 64 = 18446744073709551616 := by decide
  omega

end
end Go.Proofs.Ytpkdpddillebfab.S
namespace Go.Proofs.Ytpkdpddillebfab.S
open Go.RowKit Go.WideMaps Go.Maps

theorem laid31 : laidOutB Try.prog = true := by kernel_rfl
theorem row31 : 48 < Try.prog.types.size := of_decide_eq_true (by kernel_rfl)
theorem wide31 : (match Try.prog.underlying 48 with | some (.array _ _) | some (.struct _) => true | _ => false) = true := by kernel_rfl
set_option maxRecDepth 100000 in
theorem law32 : Keyed Try.prog 48 := Keyed.of_law (deep_law_laid laid31 (m := 2) (by omega) row31 (by kernel_rfl) wide31)

theorem kt31 : Try.prog.keyType 48 = true := by kernel_rfl
theorem fm31 (p q : Int) : (Value.agg #[.int .i64 p, .int .i64 q]).formed Try.prog 48 = true := by kernel_rfl
theorem co31 : Try.prog.cellsOf 48 = 2 := by kernel_rfl
theorem co3 : Try.prog.cellsOf 3 = 1 := by kernel_rfl
theorem ts : ∃ m, Try.prog.types.size = m + 1 := ⟨Try.prog.types.size - 1, by have := row31; omega⟩

theorem pair_key_of {P : Program} {k t m : Nat} {f1 f2 : Field} (hu : P.underlying k = some (.struct #[f1, f2])) (h1 : f1.type = t) (h2 : f2.type = t) (o1 : f1.offset = 0) (o2 : f2.offset = 1) (n1 : (f1.name != "_") = true) (n2 : (f2.name != "_") = true) (ht : P.underlying t = some (.int .i64)) (ck : P.cellsOf k = 2) (ct : P.cellsOf t = 1) (hs : P.types.size = m + 1) (hkt : P.keyType k = true)
    {p q : Int} (hf : (Value.agg #[.int .i64 p, .int .i64 q]).formed P k = true) (hp : (Lit.int .i64 p).wf = true) (hq : (Lit.int .i64 q).wf = true) : keyOf P k (.agg #[.int .i64 p, .int .i64 q]) = some (.string (keyBytes [.int .i64 p, .int .i64 q])) := by
  unfold keyOf
  rw [hu]
  simp only [hkt, hf, Bool.and_self, if_true, hs]
  have e1 : ∀ x : Int, (Lit.int .i64 x).wf = true → P.keyLits (m + 1) t [.int .i64 x] = some [.int .i64 x] := fun x hx => by simp [Program.keyLits, ht, hx]
  have : P.keyLits (m + 1 + 1) k (Value.agg #[.int .i64 p, .int .i64 q]).cells.toList = some [.int .i64 p, .int .i64 q] := by
    unfold Program.keyLits
    rw [hu]
    simp [Value.cells, ck, n1, n2, h1, h2, o1, o2, ct, e1 p hp, e1 q hq]
  rw [this]; rfl

theorem pair_key (p q : Int) (hp : (Lit.int .i64 p).wf = true) (hq : (Lit.int .i64 q).wf = true) : keyOf Try.prog 48 (.agg #[.int .i64 p, .int .i64 q]) = some (.string (keyBytes [.int .i64 p, .int .i64 q])) := by
  obtain ⟨m, hm⟩ := ts
  exact pair_key_of Try.underlying48 rfl rfl rfl rfl rfl rfl Try.underlying3 co31 co3 hm kt31 (fm31 p q) hp hq

/-- The key of two blocks. -/
def pk2 (p q : Nat) : Lit := .string (keyBytes [.int .i64 (p : Int), .int .i64 (q : Int)])

theorem pair_key_n (p q : Nat) (hp : p ≤ 1000) (hq : q ≤ 1000) : keyOf Try.prog 48 (.agg #[.int .i64 (p : Int), .int .i64 (q : Int)]) = some (pk2 p q) := pair_key p q (wf_small (by omega) (by omega)) (wf_small (by omega) (by omega))

theorem pk2_inj {p q p' q' : Nat} (hp : p ≤ 1000) (hq : q ≤ 1000) (hp' : p' ≤ 1000) (hq' : q' ≤ 1000) (h : pk2 p q = pk2 p' q') : p = p' ∧ q = q' := by
  have := law32.inj (pair_key_n p q hp hq) (h ▸ pair_key_n p' q' hp' hq')
  simp at this
  omega

end Go.Proofs.Ytpkdpddillebfab.S
namespace Go.Proofs.Ytpkdpddillebfab.S
open Go.RowKit Go.WideMaps Go.Maps

theorem ok_of {n i : Nat} {L : List Edg} (h : Ed n i L) (hi : i ≤ 1000) (hn : n ≤ 16) (hl : L.length ≤ 60) : Ok n L := by
  have hup : L.Pairwise fun x y => x.1 < y.1 := h.up
  refine ⟨fun e he => ?_, hup.imp (fun h k => by rw [k] at h; omega), ids_one (List.pairwise_map.2 hup), fun e he => ?_, hl, hn⟩
  · obtain ⟨x, y, hxy, hyn, hE⟩ := h.ends e he
    have h1 : e.2.1 = (x : Int) := by rw [hE]
    have h2 : e.2.2 = (y : Int) := by rw [hE]
    have h3 : ea e = x := by simp [ea, h1]
    have h4 : eb e = y := by simp [eb, h2]
    rw [h3, h4]
    exact ⟨by omega, hyn, h1, h2⟩
  · have := h.ids e he
    exact wf_small (by omega) (by omega)

theorem Cv.cx {w0 w : World} {c mb rest : Nat} {S L : List Edg} {f : Edg → Nat} (h : Cv w0 w c mb rest S f) (hS : ∀ e, e ∈ S ↔ e ∈ L) (hup : (L.map (·.1)).Pairwise (· < ·)) (hwf : ∀ e ∈ L, (Lit.int .i64 e.1).wf = true) (hl : L.length ≤ 60) (hSl : S.length ≤ 60) : Cx w c mb rest S L f := by
  refine ⟨h.co, hS, hup, hwf, hl, fun D N ho hm => ?_⟩
  obtain ⟨D0, N0, k1, k2, k3⟩ := h.mp
  obtain ⟨es, clock, hb1, F1, hs1, rfl⟩ := k1
  obtain ⟨es', clock', hb2, F2, hs2, rfl⟩ := ho
  rw [hb1] at hb2
  cases hb2
  exact ⟨es, clock, hb1, F2, by omega, rfl⟩

/-- A cover that is made. -/
structure Cw (w : World) (c mb q bq n : Nat) (L : List Edg) : Prop where
  cx : Cx w c mb (grw n L).2.length ((grw n L).2 ++ (grw n L).1) L (covN n (grw n L).1 (grw n L).2)
  hc : ∃ x y, w.heap[c]? = some (.cells #[x, y, .pointer (some ⟨q, 0, none⟩)] 75)
  sets : SetsAt w q bq (lab3 n L ((grw n L).2 ++ (grw n L).1) (covN n (grw n L).1 (grw n L).2))

theorem Cw.below {w w' : World} {c mb q bq n : Nat} {L : List Edg} (h : Cw w c mb q bq n L) (hb : Below w.heap.size w w') : Cw w' c mb q bq n L := by
  obtain ⟨x, y, hc⟩ := h.hc
  exact ⟨h.cx.below hb, ⟨x, y, (hb.block c (lt_of_some hc)).trans hc⟩, h.sets.below hb h.sets.plt h.sets.blt⟩

theorem cyc_any (n B p : Nat) (v : Value) (L : List Edg) (w : World) (h : G.GAt w B 58 36 p (n : Int) v L) (hok : Ok n L) (hup : (L.map (·.1)).Pairwise (· < ·)) :
    Calls Try.prog 15 #[.pointer (some ⟨p, 0, none⟩)] w fun e w' => ∃ c mb q bq, e = .returned (.pointer (some ⟨c, 0, none⟩)) ∧ Cw w' c mb q bq n L ∧ Below w.heap.size w w' := by
  have hg := gr_all L hok.nd hok.inn.nodes
  have hS : ∀ e, e ∈ (grw n L).2 ++ (grw n L).1 ↔ e ∈ L := fun e => by rw [List.mem_append, hg.mem e]; exact or_comm
  have hl := hok.len
  have hSl : ((grw n L).2 ++ (grw n L).1).length ≤ 60 := by rw [List.length_append]; have := hg.len; omega
  have hf : ∀ d, covN n (grw n L).1 (grw n L).2 d < 18446744073709551616 := fun d => covN_lt n _ _ d (by have := hg.len; omega)
  refine (cof_any n B p v L _ w h hok (fun W c mb hcv => unparted_any n B p c mb _ v L _ _ w W (h.below hcv.below) hcv hok hS hf hSl)).mono ?_
  rintro e w' ⟨c, mb, q, bq, rfl, hcv, hc, hs⟩
  exact ⟨c, mb, q, bq, rfl, ⟨hcv.cx hS hup hok.wf hok.len hSl, ⟨_, _, hc⟩, hs⟩, hcv.below⟩

section
variable {p pw bw pt bt m N n : Nat} {W T : List Nat} {D : DataW Unit}

set_option maxHeartbeats 400000 in
theorem twice_in (x y : Nat) (s : Bool) (w : World) (h : BAt w p pw bw pt bt m N W T D) (hx : x < T.length) (hy : y < T.length) (hv : (((T.getD x 0 : Nat) : Int) == ((T.getD y 0 : Nat) : Int)) = s) :
    Calls Try.prog 18 #[.pointer (some ⟨p, 0, none⟩), .int .i64 (x : Int), .int .i64 (y : Int)] w fun e w' => e = .returned (.tuple #[.bool s, .nilIface]) ∧ Below w.heap.size w w' := by
  have hc := h.c1
  go_enter Try.func18, Try.ntmps18
  go_wp2_with fail
  refine (same_in x y pt bt T s w h.st hx hy hv).mono ?_
  rintro e w1 ⟨rfl, b1⟩
  have B1 : Hid (Below w.heap.size w w1) := b1
  clear b1 h hc hv
  go_wp2
  go_ret2
  exact ⟨rfl, B1.out⟩
end

theorem twice_yes {w0 w : World} {p pw bw pt bt mp n N : Nat} {R B : List Edg} {W T : List Nat} {D : DataW Unit} (h : Run w0 w p pw bw pt bt mp n R B W T D N) {x y : Nat} (hx : x < n) (hy : y < n) (ht : twR R x y) :
    Calls Try.prog 18 #[.pointer (some ⟨p, 0, none⟩), .int .i64 (x : Int), .int .i64 (y : Int)] w fun e w' => e = .returned (.tuple #[.bool true, .nilIface]) ∧ Below w.heap.size w w' := by
  have hs := h.now.st
  have h1 := (Lk.iff hx hy).1 ((hs.hT x y).2 ht)
  exact twice_in x y true w h.now.at_ (by rw [hs.gt.len]; exact hx) (by rw [hs.gt.len]; exact hy) (by rw [h1]; simp)

set_option maxHeartbeats 400000 in
set_option maxRecDepth 100000 in
theorem cthrice_any (c q bq n : Nat) (x y : Value) (L : List Nat) (w : World) (h : w.heap[c]? = some (.cells #[x, y, .pointer (some ⟨q, 0, none⟩)] 75)) (hs : SetsAt w q bq L) (hg : Good n L) (hn : n ≤ 40) :
    Calls Try.prog 16 #[.pointer (some ⟨c, 0, none⟩)] w fun e w' => ∃ v, e = .returned v ∧ AllAt w' v (grps L n) ∧ Below w.heap.size w w' := by
  have hc : w.cell? ⟨c, 2, none⟩ = some (.pointer (some ⟨q, 0, none⟩)) := by simp [World.cell?, h]
  have HA : Hid (Calls Try.prog 38 #[.pointer (some ⟨q, 0, none⟩)] w fun e w' => ∃ v, e = .returned v ∧ AllAt w' v (grps L n) ∧ Below w.heap.size w w') := by
    have := all_any q bq L w hs (by rw [hg.len]; exact hn) (fun i hi => by have := hg.le i (by rw [← hg.len]; exact hi); rw [hg.len] at hi; omega)
    rw [hg.len] at this
    exact this
  clear h hs hg
  go_enter Try.func16, Try.ntmps16
  go_wp2_with fail
  refine Calls.mono HA.out ?_
  rintro e w1 ⟨v, rfl, h1, h2⟩
  have HF : Hid (AllAt w1 v (grps L n) ∧ Below w.heap.size w w1) := ⟨h1, h2⟩
  clear h1 h2
  go_wp2_with fail
  go_ret
  exact ⟨_, rfl, HF.out⟩

/-- A key that is two numbers. -/
def pkI (x : Int × Int) : Lit := .string (keyBytes [.int .i64 x.1, .int .i64 x.2])
def wfP (x : Int × Int) : Prop := (Lit.int .i64 x.1).wf = true ∧ (Lit.int .i64 x.2).wf = true
def vP (x : Int × Int) : Value := .agg #[.int .i64 x.1, .int .i64 x.2]
theorem pkI_key {x : Int × Int} (h : wfP x) : keyOf Try.prog 48 (vP x) = some (pkI x) := pair_key x.1 x.2 h.1 h.2
theorem pkI_of {x : Int × Int} (h : wfP x) {v : Value} (hk : keyOf Try.prog 48 v = some (pkI x)) : v = vP x := law32.inj hk (pkI_key h)
theorem pkI_inj {x y : Int × Int} (hx : wfP x) (hy : wfP y) (h : pkI x = pkI y) : x = y := by
  have h1 := pkI_of hx (h ▸ pkI_key hy)
  unfold vP at h1
  simp at h1
  exact Prod.ext h1.1.symm h1.2.symm
theorem pkI_lit (x : Int × Int) : WideAt.IsKeyLit (pkI x) := trivial

/-- The map of the pairs. -/
structure Is (D : DataW Unit) (V : Int × Int → Prop) : Prop where
  key : ∀ kl, Maps.has D kl = true ↔ ∃ x, V x ∧ kl = pkI x
  val : ∀ x, V x → ∀ zd, D.atKey (pkI x) zd = .lit (.bool true)
  tidy : Tidy D

theorem Is.start : Is (.map []) (fun _ => False) := ⟨fun kl => by simp [Maps.has], fun _ h => h.elim, tidy_empty⟩

theorem Is.congr {D : DataW Unit} {V V' : Int × Int → Prop} (h : Is D V) (e : ∀ x, V x ↔ V' x) : Is D V' := by
  have : V = V' := by funext x; exact propext (e x)
  rw [← this]; exact h

theorem Is.put {D : DataW Unit} {V : Int × Int → Prop} (h : Is D V) (hV : ∀ x, V x → wfP x) (x : Int × Int) (hx : wfP x) : Is (D.put (pkI x) (.lit (.bool true))) (fun y => V y ∨ y = x) := by
  refine ⟨fun kl => ?_, fun y hy zd => ?_, h.tidy.put (pkI_lit _) _⟩
  · by_cases hk : kl = pkI x
    · rw [hk, has_put_same h.tidy.isMap (pkI_lit _)]
      exact ⟨fun _ => ⟨x, .inr rfl, rfl⟩, fun _ => rfl⟩
    · rw [has_put_other hk, h.key]
      constructor
      · rintro ⟨y, hy, k⟩; exact ⟨y, .inl hy, k⟩
      · rintro ⟨y, hy | rfl, k⟩
        · exact ⟨y, hy, k⟩
        · exact absurd k hk
  · by_cases hyx : y = x
    · rw [hyx, atKey_put_same h.tidy.isMap (pkI_lit _)]
    · rcases hy with hy | hy
      · rw [atKey_put_other (fun k => hyx (pkI_inj (hV y hy) hx k))]
        exact h.val y hy zd
      · exact absurd hy hyx

theorem zero4 (w : World) : (zeroValue 4).run Try.prog w = .ok (.bool false) w := by kernel_rfl

theorem plainElem_bool_inv {P : Program} {e : TypeId} (he : P.underlying e = some .bool) {v : Value} {y : DataW Unit × List MemPlace} (h : plainElem (H := Unit) P e v = some y) : ∃ b : Bool, v = .bool b ∧ y = (.lit (.bool b), []) := by
  unfold plainElem at h
  rw [he] at h
  cases v <;> simp at h
  exact ⟨_, rfl, h.symm⟩

theorem is_look {w : World} {mb N : Nat} {D : DataW Unit} {V : Int × Int → Prop} (hm : w.ownsMap Try.prog 48 (plainElem Try.prog 4) mb N D) (h : Is D V) {x : Int × Int} (hx : V x) (hw : wfP x) :
    (Instr.lookup 46 (.map (some mb)) (vP x) false).run Try.prog w = .ok (.bool true) w := by
  obtain ⟨v', ps', q1, q2⟩ := hm.lookup law32 Try.underlying46 (zero4 w) (plainElem_bool Try.underlying4 false) (pkI_key hw)
  rw [h.val x hx] at q2
  obtain ⟨b, rfl, hb⟩ := plainElem_bool_inv Try.underlying4 q2
  simp at hb
  rw [q1, ← hb.1]

end Go.Proofs.Ytpkdpddillebfab.S
