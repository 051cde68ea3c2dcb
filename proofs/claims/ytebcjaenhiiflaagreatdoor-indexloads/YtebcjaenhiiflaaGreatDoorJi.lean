/- The program's Load: the index of a text, or none. -/
import Derived.Test.YtebcjaenhiiflaaGreatDoorJg
import Derived.Laws.Strings
import Derived.WideShapes
namespace Go.Proofs.YtebcjaenhiiflaaGreatDoor.I
open Go.RowKit Go.WideMaps Go.Maps

/-- The text tells of a graph. -/
def Tells (s : List UInt8) (n : Nat) (L : List G.E) : Prop := Ok n L ∧ s = svE n L

/-- What the program reads of what Saved tells. -/
theorem rdS_tells {s : List UInt8} {n : Nat} {L : List G.E} (h : Tells s n L) : rdS s = some (n, [], L) := by
  obtain ⟨hok, rfl⟩ := h
  obtain ⟨rest, h1, h2⟩ := prog_reads hok
  unfold rdS
  have h40 := hok.n40
  rw [h1]
  dsimp only
  rw [atoi_int (v := (n : Int)) (by omega) (by omega)]
  dsimp only
  rw [if_pos (by omega)]
  simp [h2]

theorem rdS_ok {s : List UInt8} {n : Nat} {acc : List Int} {L : List G.E} (h : rdS s = some (n, acc, L)) : Ok n L := by
  unfold rdS at h
  split at h
  · next m _ =>
    split at h
    · next hm =>
      cases hr : rdP m.toNat (wds [] (Lib.cut s [10]).2.1) with
      | none => rw [hr] at h; cases h
      | some a =>
        rw [hr] at h
        obtain ⟨acc', L'⟩ := a
        simp at h
        obtain ⟨rfl, rfl, rfl⟩ := h
        exact (rdP_ok (by omega) _ hr).1
    · cases h
  · cases h

/-- What Load leaves. -/
def LoadPost (w : World) (s : ByteArray) (e : Ending) (w' : World) : Prop :=
  (∃ n L, Tells s.data.toList n L ∧ ∃ x p q v R B W T D pw bw pt bt mp N, e = .returned (.tuple #[.pointer (some ⟨x, 0, none⟩), .nilIface]) ∧ IAt w w' x p q n v L R B W T D pw bw pt bt mp N) ∨
  ((∀ n L, ¬ Tells s.data.toList n L) ∧ e = .returned (.tuple #[.pointer none, .iface 23 (.int .i64 3)]) ∧ Below w.heap.size w w')

set_option maxRecDepth 100000 in
set_option maxHeartbeats 1000000 in
theorem load_any (s : ByteArray) (w : World) (hs : s.size ≤ 100000) (hv : Vars w) : Calls Tryz.prog 11 #[.string s] w (LoadPost w s) := by
  have HV : Hid (Vars w) := hv
  have HR : Hid _ := read_any s w hs hv
  clear hv
  go_enter Tryz.func11, Tryz.ntmps11
  go_wp2_with fail
  refine Calls.mono HR.out ?_
  rintro e w1 (⟨n, acc, L, hrd, x, p, q, v, R, B, W, T, D, pw, bw, pt, bt, mp, N, rfl, hat⟩ | ⟨hno, ⟨t, pp, rfl⟩, hb⟩)
  · have HAT : Hid (IAt w w1 x p q n v L R B W T D pw bw pt bt mp N) := hat
    have HRD : Hid (rdS s.data.toList = some (n, acc, L)) := hrd
    have HSV : Hid _ := saved_any x p q n w.heap.size v L w1 hat.ix hat.gra hat.ok (HV.out.on hat.rn.below HV.out.big)
    clear hat hrd HR
    have HTE : Hid (svI n L = s.data.toList ↔ ∃ n' L', Tells s.data.toList n' L') := by
      have hok := HAT.out.ok
      constructor
      · intro e
        exact ⟨n, L, hok, by rw [svE_ok hok, e]⟩
      · rintro ⟨n', L', ht⟩
        have h1 := rdS_tells ht
        rw [HRD.out] at h1
        simp at h1
        obtain ⟨rfl, _, rfl⟩ := h1
        rw [ht.2, svE_ok hok]
    obtain ⟨tx, htx⟩ : ∃ tx : ByteArray, tx = ⟨(svI n L).toArray⟩ := ⟨_, rfl⟩
    have HTX : Hid (tx = s ↔ svI n L = s.data.toList) := by
      rw [htx]
      constructor
      · intro e; rw [← e]
      · intro e; rw [e]
    rw [← htx] at HSV
    clear htx
    by_cases he : tx = s
    · subst he
      go_wp2_with (go_at_call 16; refine Calls.mono HSV.out ?_; rintro e w2 ⟨rfl, hb2⟩)
      go_ret2
      refine .inl ⟨n, L, ⟨HAT.out.ok, ?_⟩, x, p, q, v, R, B, W, T, D, pw, bw, pt, bt, mp, N, rfl, HAT.out.below' hb2⟩
      rw [svE_ok HAT.out.ok]
      exact (HTX.out.1 trivial).symm
    · have he' : (tx.toList == s.toList) = false := by
        rw [beq_eq_false_iff_ne, ByteArray.toList_eq, ByteArray.toList_eq]
        exact fun e => he (WideShapes.bytes_inj e)
      go_wp2_with (go_at_call 16; refine Calls.mono HSV.out ?_; rintro e w2 ⟨rfl, hb2⟩)
      go_ret2
      exact .inr ⟨fun n' L' ht => he (HTX.out.2 (HTE.out.2 ⟨n', L', ht⟩)), rfl, HAT.out.rn.below.trans (hb2.mono HAT.out.rn.below.size)⟩
  · have HB : Hid (Below w.heap.size w w1) := hb
    have HNO : Hid (rdS s.data.toList = none) := hno
    clear hb hno HR
    go_wp2_with fail
    go_ret2
    refine .inr ⟨fun n L ht => ?_, rfl, HB.out⟩
    have := rdS_tells ht
    rw [HNO.out] at this
    cases this

end Go.Proofs.YtebcjaenhiiflaaGreatDoor.I
