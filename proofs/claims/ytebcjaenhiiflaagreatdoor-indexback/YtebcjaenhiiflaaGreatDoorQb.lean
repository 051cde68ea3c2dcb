/- What an index tells of its graph: the nodes that part, blocks, pairs, splits, and what no two edges part. -/
import Derived.Test.YtebcjaenhiiflaaGreatDoorQa
import Derived.Test.YtebcjaenhiiflaaGreatDoorKef
import Derived.Test.YtebcjaenhiiflaaGreatDoorKVwz
import Derived.Test.YtebcjaenhiiflaaGreatDoorXaf
namespace Go.Proofs.YtebcjaenhiiflaaGreatDoor.S
open Go.RowKit Go.WideMaps Go.Maps

theorem lab3_good (n : Nat) (L S : List Edg) (f : Edg → Nat) : Good n (lab3 n L S f) := lb_good (tri_in _ n n (Nat.le_refl _))

theorem covN_lt (n : Nat) (t o : List Edg) (e : Edg) (h : o.length ≤ 63) : covN n t o e < 18446744073709551616 := by
  have h1 := bitsN_lt (covB n t o e) o.length
  have h2 : 2 ^ o.length ≤ 2 ^ 64 := Nat.pow_le_pow_right (by omega) (by omega)
  unfold covN
  have h3 : (2 : Nat) ^ 64 = 18446744073709551616 := by decide
  omega

theorem Cv.cx {w0 w : World} {c mb rest : Nat} {S L : List Edg} {f : Edg → Nat} (h : Cv w0 w c mb rest S f) (hS : ∀ e, e ∈ S ↔ e ∈ L) (hup : (L.map (·.1)).Pairwise (· < ·)) (hwf : ∀ e ∈ L, (Lit.int .i64 e.1).wf = true) (hl : L.length ≤ 60) (hSl : S.length ≤ 60) : Cx w c mb rest S L f := by
  refine ⟨h.co, hS, hup, hwf, hl, fun D N ho hm => ?_⟩
  obtain ⟨D0, N0, k1, k2, k3⟩ := h.mp
  obtain ⟨es, clock, hb1, F1, hs1, rfl⟩ := k1
  obtain ⟨es', clock', hb2, F2, hs2, rfl⟩ := ho
  rw [hb1] at hb2
  cases hb2
  exact ⟨es, clock, hb1, F2, by omega, rfl⟩

/-- A cover that is made. -/
structure Cw (w : World) (c mb q bq n : Nat) (L : List Edg) : Prop where
  cx : Cx w c mb (grw n L).2.length ((grw n L).2 ++ (grw n L).1) L (covN n (grw n L).1 (grw n L).2)
  hc : ∃ x y, w.heap[c]? = some (.cells #[x, y, .pointer (some ⟨q, 0, none⟩)] 206)
  sets : SetsAt w q bq (lab3 n L ((grw n L).2 ++ (grw n L).1) (covN n (grw n L).1 (grw n L).2))

theorem cyc_any (n B p : Nat) (v : Value) (L : List Edg) (w : World) (h : G.GAt w B 168 61 p (n : Int) v L) (hok : Ok n L) (hup : (L.map (·.1)).Pairwise (· < ·)) :
    Calls Tryz.prog 82 #[.pointer (some ⟨p, 0, none⟩)] w fun e w' => ∃ c mb q bq, e = .returned (.pointer (some ⟨c, 0, none⟩)) ∧ Cw w' c mb q bq n L ∧ Below w.heap.size w w' := by
  have hg := gr_all L hok.nd hok.inn.nodes
  have hS : ∀ e, e ∈ (grw n L).2 ++ (grw n L).1 ↔ e ∈ L := fun e => by rw [List.mem_append, hg.mem e]; exact or_comm
  have hl := hok.len
  have hSl : ((grw n L).2 ++ (grw n L).1).length ≤ 60 := by rw [List.length_append]; have := hg.len; omega
  have hf : ∀ d, covN n (grw n L).1 (grw n L).2 d < 18446744073709551616 := fun d => covN_lt n _ _ d (by have := hg.len; omega)
  refine (cof_any n B p v L _ w h hok (fun W c mb hcv => unparted_any n B p c mb _ v L _ _ w W (h.below hcv.below) hcv hok hS hf hSl)).mono ?_
  rintro e w' ⟨c, mb, q, bq, rfl, hcv, hc, hs⟩
  exact ⟨c, mb, q, bq, rfl, ⟨hcv.cx hS hup hok.wf hok.len hSl, ⟨_, _, hc⟩, hs⟩, hcv.below⟩

end Go.Proofs.YtebcjaenhiiflaaGreatDoor.S

namespace Go.Proofs.YtebcjaenhiiflaaGreatDoor.I
open Go.RowKit Go.WideMaps Go.Maps Go.Lib

variable {w0 w w' : World} {a b x p q n : Nat} {v : Value} {L R B : List G.E} {W T : List Nat} {D : DataW Unit} {pw bw pt bt mp N g : Nat}

theorem Ok.inE (h : Ok n L) : S.InE n L := by
  intro e he
  have := h.ed e he
  unfold S.ea S.eb
  omega

theorem Ok.ed' (h : Ok n L) : S.Ed n 120 L := by
  refine ⟨h.up, fun e he => (h.ed e he).1, fun e he => ?_, h.len⟩
  have := h.ed e he
  refine ⟨e.2.1.toNat, e.2.2.toNat, by omega, by omega, ?_⟩
  rw [Int.toNat_of_nonneg (by omega), Int.toNat_of_nonneg (by omega)]

theorem Ok.ups (h : Ok n L) : (L.map (·.1)).Pairwise (· < ·) := List.pairwise_map.2 h.up

theorem Ok.cyc (h : Ok n L) (hn : n ≤ 16) (hl : L.length ≤ 60) : S.Ok n L := by
  have hup : L.Pairwise fun x y => x.1 < y.1 := h.up
  exact ⟨h.inE, hup.imp (fun h k => by rw [k] at h; omega), S.ids_one h.ups, fun e he => S.wf_id (h.ed e he).1, hl, hn⟩

/-- The nodes that part, rising. -/
noncomputable def cutz (n : Nat) (L : List G.E) : List Int := open Classical in ((List.range n).filter fun x => decide (S.cutP L x)).map fun x : Nat => (x : Int)

theorem cutz_eq {cs : List Nat} (h : S.CutsB L n cs) : (cs.map fun x : Nat => (x : Int)) = cutz n L := by
  have e : cs = open Classical in (List.range n).filter fun x => decide (S.cutP L x) := by
    refine List.Perm.eq_of_pairwise (le := (· < ·)) (fun a b _ _ h1 h2 => by omega) h.up ?_ ?_
    · exact List.Pairwise.filter _ List.pairwise_lt_range
    · refine (List.perm_ext_iff_of_nodup (h.up.imp (fun {a b} k => by omega)) ?_).2 fun y => ?_
      · exact List.Pairwise.filter _ List.nodup_range
      · rw [h.mem y, List.mem_filter, List.mem_range]
        simp
  unfold cutz
  rw [← e]

/-- The blocks. -/
noncomputable def blz (n : Nat) (L : List G.E) : List (List Nat) :=
  open Classical in if h : ∃ M, S.Bs L n [] M then S.blks L h.choose else []

theorem blz_eq {M : List Nat} (h : S.Bs L n [] M) : S.blks L M = blz n L := by
  have hx : ∃ M, S.Bs L n [] M := ⟨M, h⟩
  unfold blz
  rw [dif_pos hx]
  have k := hx.choose_spec
  rw [S.good_eq h.good k.good (fun u v => (h.alike u v).trans (k.alike u v).symm)]

/-- What no two edges part. -/
def thz (n : Nat) (L : List G.E) : List (List Nat) := S.grps (S.lab3 n L ((S.grw n L).2 ++ (S.grw n L).1) (S.covN n (S.grw n L).1 (S.grw n L).2)) n

/-- Two edges each. -/
def prz (n : Nat) (L : List G.E) : List (Int × Int) := S.pairsOf (L.filter fun e => decide (S.covN n (S.grw n L).1 (S.grw n L).2 e ≠ 0)) fun e d => decide (S.covN n (S.grw n L).1 (S.grw n L).2 e = S.covN n (S.grw n L).1 (S.grw n L).2 d)

/-- Two nodes each. -/
noncomputable def spz (n : Nat) (L : List G.E) : List (Nat × Nat) := open Classical in S.X.allK (fun a b => decide (S.X.PartP L n a b)) n n

set_option maxHeartbeats 1000000 in
set_option maxRecDepth 100000 in
theorem icuts (h : IV w a b x n L) :
    Calls Tryz.prog 34 #[.pointer (some ⟨x, 0, none⟩)] w fun e w' => ∃ a c, e = .returned (.slice a (cutz n L).length c) ∧ Zs w' a (cutz n L) ∧ Below w.heap.size w w' := by
  obtain ⟨p, q, v, R, B, W, T, D, pw, bw, pt, bt, mp, N, g, h⟩ := h
  have HO : Hid _ := S.bof_any n g p 120 v L w h.gra h.ok.n40 h.ok.ed' (Nat.le_refl _)
  have hn := h.ok.n40
  have hc := h.ix.c0
  clear h
  go_enter Tryz.func34, Tryz.ntmps34
  go_wp2_with fail
  refine Calls.mono HO.out ?_
  rintro e w1 ⟨pb, mb, Nb, Db, vb, Lb, cs, rfl, hbl, hN, hlm, hbs, hcs, hrow, hb⟩
  have HB : Hid _ := S.bcuts_any pb mb Nb w.heap.size Db vb cs w1 hbl hrow (by have := hcs.len; omega)
  have HC : Hid (S.CutsB L n cs ∧ Below w.heap.size w w1) := ⟨hcs, hb⟩
  clear hbl hlm hbs hcs hrow hb HO hc
  go_wp2_with fail
  refine Calls.mono HB.out ?_
  rintro e w2 ⟨v', rfl, hr, hb2⟩
  have HR : Hid _ := hr
  have HB2 : Hid _ := hb2
  clear hr hb2 HB
  go_wp2_with fail
  go_ret
  have hr := HR.out
  have e1 : S.natsV cs = (cutz n L).map (Value.int .i64) := by
    rw [← cutz_eq HC.out.1, List.map_map]; rfl
  have e2 : cs.length = (cutz n L).length := by rw [← cutz_eq HC.out.1, List.length_map]
  rw [e1, e2] at hr
  obtain ⟨a', c, rfl, hs⟩ := ints_shape hr
  exact ⟨a', c, rfl, hs, HC.out.2.trans (HB2.out.mono HC.out.2.size)⟩

set_option maxHeartbeats 1000000 in
set_option maxRecDepth 100000 in
theorem iblocks (h : IV w a b x n L) :
    Calls Tryz.prog 36 #[.pointer (some ⟨x, 0, none⟩)] w fun e w' => ∃ v, e = .returned v ∧ S.AllAt w' v (blz n L) ∧ Below w.heap.size w w' := by
  obtain ⟨p, q, v, R, B, W, T, D, pw, bw, pt, bt, mp, N, g, h⟩ := h
  have HO : Hid _ := S.bof_any n g p 120 v L w h.gra h.ok.n40 h.ok.ed' (Nat.le_refl _)
  have HK : Hid (Ok n L) := h.ok
  have hc := h.ix.c0
  clear h
  go_enter Tryz.func36, Tryz.ntmps36
  go_wp2_with fail
  refine Calls.mono HO.out ?_
  rintro e w1 ⟨pb, mb, Nb, Db, vb, Lb, cs, rfl, hbl, hN, hlm, hbs, hcs, hrow, hb⟩
  have HB : Hid _ := S.bparts_any pb mb Nb Db vb w1 hbl hlm hbs.good HK.out.up (fun e he => (HK.out.ed e he).1) HK.out.len (by omega)
  have HC : Hid (S.Bs L n [] Lb ∧ Below w.heap.size w w1) := ⟨hbs, hb⟩
  clear hbl hlm hbs hcs hrow hb HO hc
  go_wp2_with fail
  refine Calls.mono HB.out ?_
  rintro e w2 ⟨v', rfl, hr, hb2⟩
  have HR : Hid _ := hr
  have HB2 : Hid _ := hb2
  clear hr hb2 HB
  go_wp2_with fail
  go_ret
  exact ⟨_, rfl, by rw [← blz_eq HC.out.1]; exact HR.out, HC.out.2.trans (HB2.out.mono HC.out.2.size)⟩

set_option maxHeartbeats 1000000 in
set_option maxRecDepth 100000 in
theorem ithrice (h : IV w a b x n L) (hn : n ≤ 16) (hl : L.length ≤ 60) :
    Calls Tryz.prog 37 #[.pointer (some ⟨x, 0, none⟩)] w fun e w' => ∃ v, e = .returned v ∧ S.AllAt w' v (thz n L) ∧ Below w.heap.size w w' := by
  obtain ⟨p, q, v, R, B, W, T, D, pw, bw, pt, bt, mp, N, g, h⟩ := h
  have HO : Hid _ := S.cyc_any n g p v L w h.gra (h.ok.cyc hn hl) h.ok.ups
  have hc := h.ix.c0
  clear h
  go_enter Tryz.func37, Tryz.ntmps37
  go_wp2_with fail
  refine Calls.mono HO.out ?_
  rintro e w1 ⟨c, mb, qc, bq, rfl, hcw, hb⟩
  obtain ⟨c1, c2, hcc⟩ := hcw.hc
  have HB : Hid _ := S.cthrice_any c qc bq n c1 c2 _ w1 hcc hcw.sets (S.lab3_good _ _ _ _) (by omega)
  have HC : Hid (Below w.heap.size w w1) := hb
  clear hcw hb hcc HO hc
  go_wp2_with fail
  refine Calls.mono HB.out ?_
  rintro e w2 ⟨v', rfl, hr, hb2⟩
  have HR : Hid _ := hr
  have HB2 : Hid _ := hb2
  clear hr hb2 HB
  go_wp2_with fail
  go_ret
  exact ⟨_, rfl, HR.out, HC.out.trans (HB2.out.mono HC.out.size)⟩

set_option maxHeartbeats 1000000 in
set_option maxRecDepth 100000 in
theorem ipairs (h : IV w a b x n L) (hn : n ≤ 16) (hl : L.length ≤ 60) :
    Calls Tryz.prog 38 #[.pointer (some ⟨x, 0, none⟩)] w fun e w' => ∃ v, e = .returned v ∧ S.OwnsP w' w.heap.size v (prz n L) ∧ Below w.heap.size w w' := by
  obtain ⟨p, q, v, R, B, W, T, D, pw, bw, pt, bt, mp, N, g, h⟩ := h
  have HO : Hid _ := S.cyc_any n g p v L w h.gra (h.ok.cyc hn hl) h.ok.ups
  have hc := h.ix.c0
  clear h
  go_enter Tryz.func38, Tryz.ntmps38
  go_wp2_with fail
  refine Calls.mono HO.out ?_
  rintro e w1 ⟨c, mb, qc, bq, rfl, hcw, hb⟩
  have HB : Hid _ := S.cpairs_any c mb _ _ L _ w1 hcw.cx
  have HC : Hid (Below w.heap.size w w1) := hb
  clear hcw hb HO hc
  go_wp2_with fail
  refine Calls.mono HB.out ?_
  rintro e w2 ⟨v', rfl, hr, hb2⟩
  have HR : Hid _ := hr
  have HB2 : Hid _ := hb2
  clear hr hb2 HB
  go_wp2_with fail
  go_ret
  exact ⟨_, rfl, ownsRow_base_a HR.out HC.out.size, HC.out.trans (HB2.out.mono HC.out.size)⟩

set_option maxHeartbeats 1000000 in
set_option maxRecDepth 100000 in
theorem isplits (h : IV w a b x n L) (hn : n ≤ 16) :
    Calls Tryz.prog 39 #[.pointer (some ⟨x, 0, none⟩)] w fun e w' => ∃ v, e = .returned v ∧ S.X.OwnsP w' w.heap.size v (spz n L) ∧ Below w.heap.size w w' := by
  obtain ⟨p, q, v, R, B, W, T, D, pw, bw, pt, bt, mp, N, g, h⟩ := h
  have HO : Hid _ := S.X.spairs_any n g p v L (open Classical in fun a b => decide (S.X.PartP L n a b)) w h.gra hn h.ok.inE h.ok.len (fun a b _ _ => by simp)
  have hc := h.ix.c0
  clear h
  go_enter Tryz.func39, Tryz.ntmps39
  go_wp2_with fail
  refine Calls.mono HO.out ?_
  rintro e w1 ⟨v', rfl, hr, hb⟩
  have HR : Hid _ := hr
  have HB : Hid _ := hb
  clear hr hb HO hc
  go_wp2_with fail
  go_ret
  exact ⟨_, rfl, HR.out, HB.out⟩

end Go.Proofs.YtebcjaenhiiflaaGreatDoor.I
