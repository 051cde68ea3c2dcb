/- The words of a text, one by one. -/
import Derived.Test.YtebcjaenhiiflaaGreatDoorJd
import Derived.Test.YtebcjaenhiiflaaGreatDoorRr
import Derived.RangeFuncNested
import Derived.RangeFuncBound
import Derived.RangeFuncCalls
import Derived.RangeFuncLeaves
import Derived.Shelf.Abstract
import Derived.Shelf.RegionOpen
import Derived.WalkKit
import Derived.OwnWalkIn
import Derived.TacticsInMore
import Derived.LoopNIn
import Derived.LoopIn
namespace Go.Proofs.YtebcjaenhiiflaaGreatDoor.I
open Go.RowKit Go.Shelf

attribute [local go_sem] Oper.semAt_some

/-- Words that have ended, and what has been read of the next one. -/
def wstep (s : List (List UInt8) × List UInt8) (c : UInt8) : List (List UInt8) × List UInt8 := if c = 32 ∨ c = 10 then (s.1 ++ [s.2], []) else (s.1, s.2 ++ [c])

def wst (l : List UInt8) : List (List UInt8) × List UInt8 := l.foldl wstep ([], [])

theorem wst_snoc (l : List UInt8) (c : UInt8) : wst (l ++ [c]) = wstep (wst l) c := by
  unfold wst
  rw [List.foldl_append]
  rfl

theorem wst_fold : ∀ (l : List UInt8) (out : List (List UInt8)) (acc : List UInt8), (l.foldl wstep (out, acc)).1 = out ++ wds acc l
  | [], out, acc => by simp [wds]
  | c :: l, out, acc => by
    rw [List.foldl_cons]
    by_cases h : c = 32 ∨ c = 10
    · have e : wstep (out, acc) c = (out ++ [acc], []) := by unfold wstep; rw [if_pos h]
      rw [e, wst_fold l, wds, if_pos h]
      simp
    · have e : wstep (out, acc) c = (out, acc ++ [c]) := by unfold wstep; rw [if_neg h]
      rw [e, wst_fold l, wds, if_neg h]

theorem wst_wds (l : List UInt8) : (wst l).1 = wds [] l := by
  unfold wst
  rw [wst_fold]
  rfl

/-- What has been read of the next word is the end of what has been read. -/
theorem wst_end (l : List UInt8) (k : Nat) (hk : k ≤ l.length) : (wst (l.take k)).2.length ≤ k ∧ (wst (l.take k)).2 = (l.take k).drop (k - (wst (l.take k)).2.length) := by
  induction k with
  | zero => simp [wst]
  | succ k ih =>
    obtain ⟨h1, h2⟩ := ih (by omega)
    have hx : l[k]? = some l[k] := List.getElem?_eq_getElem (by omega)
    have e : l.take (k + 1) = l.take k ++ [l[k]] := by rw [List.take_add_one, hx]; rfl
    rw [e, wst_snoc]
    unfold wstep
    split
    · refine ⟨by simp, ?_⟩
      simp
    · simp only [List.length_append, List.length_singleton]
      refine ⟨by omega, ?_⟩
      have e2 : k + 1 - ((wst (l.take k)).2.length + 1) = k - (wst (l.take k)).2.length := by omega
      rw [e2, List.drop_append_of_le_length (by simp; omega), ← h2]

theorem wst_few (l : List UInt8) : (wst l).1.length ≤ l.length := by
  have key : ∀ (l : List UInt8) (s : List (List UInt8) × List UInt8), (l.foldl wstep s).1.length ≤ s.1.length + l.length := by
    intro l
    induction l with
    | nil => intro s; simp
    | cons c l ih =>
      intro s
      rw [List.foldl_cons, List.length_cons]
      refine Nat.le_trans (ih _) ?_
      unfold wstep
      split <;> simp <;> omega
  have := key l ([], [])
  unfold wst
  simpa using this

/-- A round keeps the text's box. -/
def KpB (Bs : Nat) (W W' : World) : Prop := W'.heap[Bs]? = W.heap[Bs]?

theorem word_eq {s : ByteArray} {k fr : Nat} (hk : k ≤ s.size) (hsz : s.size ≤ 100000) (h : (wst (s.data.toList.take k)).2.length ≤ k ∧ (wst (s.data.toList.take k)).2 = (s.data.toList.take k).drop fr) :
    s.extract fr k = ⟨(((wst (s.data.toList.take k)).2).take 100000).toArray⟩ := by
  rw [List.take_of_length_le (by omega)]
  apply ByteArray.ext
  apply Array.toList_inj.1
  rw [Lib.extract_data]
  show _ = (wst (s.data.toList.take k)).2
  rw [h.2, List.drop_take]

set_option maxRecDepth 100000 in
set_option maxHeartbeats 2000000 in
theorem words1_in (n : Nat) (hn : 1 ≤ n) (l Bs : Nat) (s : ByteArray) (hsz : s.size ≤ 100000) (J Jx : List (List UInt8) → World → Prop)
    (hY : ∀ pre x W, J pre W → pre.length < s.size + 1 → YieldAt Fence.wide (n - 1) Tryz.prog l #[.string ⟨(x.take 100000).toArray⟩] W fun e W' => (e = .returned (.bool true) ∧ J (pre ++ [x]) W' ∧ KpB Bs W W') ∨ (e = .returned (.bool false) ∧ Jx (pre ++ [x]) W'))
    (W : World) (hBs : W.heap[Bs]? = some (.cells #[.string s] 9)) (h0 : J [] W) :
    CallsIn Fence.wide n Tryz.prog 202 #[.func (.yield l) #[] #[], .pointer (some ⟨Bs, 0, none⟩)] W fun e W' => (∃ v, e = .returned v) ∧
      ((∃ ys, ys = wds [] s.data.toList ∧ J ys W') ∨ (∃ pre, (∃ k, pre = (wst (s.data.toList.take k)).1) ∧ Jx pre W')) := by
  have hro : Fence.wide.round = none := rfl
  have HY : Hid _ := hY
  have HB : Hid (W.heap[Bs]? = some (.cells #[.string s] 9)) := hBs
  have hc : W.cell? ⟨Bs, 0, none⟩ = some (.string s) := by simp [World.cell?, hBs]
  clear hY hBs
  refine callsIn_of_wp Tryz.func202 rfl trivial ?_ hro
  simp only [Tryz.ntmps202, List.size_toArray, List.length_cons, List.length_nil, Nat.reduceAdd, Nat.reduceSub, Array.replicate_succ, Array.replicate_zero, List.push_toArray, List.append_toArray, List.nil_append, List.cons_append]
  gi_wp2
  gi_loopw [3, 7] (fun s3 s7 wr => ∃ k : Nat, k ≤ s.size ∧ s7 = .int .i64 k ∧ s3 = .int .i64 ((k - (wst (s.data.toList.take k)).2.length : Nat) : Int) ∧ J (wst (s.data.toList.take k)).1 wr ∧ wr.heap[Bs]? = some (.cells #[.string s] 9))
    (fun _ i _ => s.size - (RowKit.intOf i).toNat)
  case atStart => exact ⟨0, Nat.zero_le _, rfl, rfl, h0, HB.out⟩
  case round =>
    obtain ⟨k, hk, rfl, rfl, hJ, hbx⟩ := hrel
    have HJ : Hid (J (wst (s.data.toList.take k)).1 wr) := hJ
    have HX : Hid (wr.heap[Bs]? = some (.cells #[.string s] 9)) := hbx
    have hcx : wr.cell? ⟨Bs, 0, none⟩ = some (.string s) := by simp [World.cell?, hbx]
    have HW : Hid _ := wst_end s.data.toList k (by simpa using hk)
    generalize hfr : k - (wst (s.data.toList.take k)).2.length = fr at *
    have HFR : Hid (k - (wst (s.data.toList.take k)).2.length = fr) := hfr
    have hfk : fr ≤ k := by omega
    clear hJ hbx hfr
    by_cases hlt : k < s.size
    · have hlt' : k < s.data.toList.length := by simpa using hlt
      have hx : s.data.toList[k]? = some (s[k]'hlt) := by rw [List.getElem?_eq_getElem hlt']; rfl
      have HT : Hid (s.data.toList.take (k + 1) = s.data.toList.take k ++ [s[k]'hlt]) := by
        show _ = _
        rw [List.take_add_one, hx]; rfl
      clear hx hlt'
      have HS : Hid _ := wst_snoc (s.data.toList.take k) s[k]
      by_cases hsep : s[k] = 32 ∨ s[k] = 10
      · have HSP : Hid (s[k] = 32 ∨ s[k] = 10) := hsep
        have hex : s.extract fr k = ⟨(((wst (s.data.toList.take k)).2).take 100000).toArray⟩ := word_eq hk hsz HW.out
        obtain ⟨fn, tmps, assign, body, hy, hR⟩ := HY.out _ (wst (s.data.toList.take k)).2 wr HJ.out (by have := wst_few (s.data.toList.take k); simp at this; omega)
        rw [← hex] at hy
        have HR : Hid _ := hR
        clear hR hex
        have HN : Hid (∀ W3, J ((wst (s.data.toList.take k)).1 ++ [(wst (s.data.toList.take k)).2]) W3 → J (wst (s.data.toList.take (k + 1))).1 W3) := fun W3 h => by
          rw [HT.out, HS.out]
          unfold wstep
          rw [if_pos HSP.out]
          exact h
        have HN2 : Hid ((wst (s.data.toList.take (k + 1))).1 = (wst (s.data.toList.take k)).1 ++ [(wst (s.data.toList.take k)).2]) := by
          show _ = _
          rw [HT.out, HS.out]
          unfold wstep
          rw [if_pos HSP.out]
        have HE : Hid (k + 1 - (wst (s.data.toList.take (k + 1))).2.length = k + 1) := by
          show _ = _
          rw [HT.out, HS.out]
          unfold wstep
          rw [if_pos HSP.out]
          simp
        clear HT HS HW
        have hb : (((s[k]).toNat : Int) != 32) = true ∧ (((s[k]).toNat : Int) != 10) = false ∨ (((s[k]).toNat : Int) != 32) = false := by
          rcases hsep with e | e
          · exact .inr (by rw [e]; decide)
          · exact .inl ⟨by rw [e]; decide, by rw [e]; decide⟩
        clear hsep
        rcases hb with ⟨hb1, hb2⟩ | hb1
        · gi_wp2
          refine RoundIn.mono HR.out ?_
          rintro e W3 (⟨rfl, hJ3, hk3⟩ | ⟨rfl, hJx3⟩)
          · have HJ3 : Hid (J (wst (s.data.toList.take (k + 1))).1 W3) := HN.out _ hJ3
            have HX3 : Hid (W3.heap[Bs]? = some (.cells #[.string s] 9)) := hk3.trans HX.out
            clear hJ3 hk3
            gi_wp2
            go_roundw
            case rel => exact ⟨k + 1, by omega, by go_num, by rw [HE.out]; go_num, HJ3.out, HX3.out⟩
            case measure => simp [RowKit.intOf]; omega
          · gi_wp2
            refine bodyPost_ret (results_none rfl _ _ _) rfl ?_
            exact ⟨⟨_, rfl⟩, .inr ⟨_, ⟨k + 1, HN2.out.symm⟩, hJx3⟩⟩
        · gi_wp2
          refine RoundIn.mono HR.out ?_
          rintro e W3 (⟨rfl, hJ3, hk3⟩ | ⟨rfl, hJx3⟩)
          · have HJ3 : Hid (J (wst (s.data.toList.take (k + 1))).1 W3) := HN.out _ hJ3
            have HX3 : Hid (W3.heap[Bs]? = some (.cells #[.string s] 9)) := hk3.trans HX.out
            clear hJ3 hk3
            gi_wp2
            go_roundw
            case rel => exact ⟨k + 1, by omega, by go_num, by rw [HE.out]; go_num, HJ3.out, HX3.out⟩
            case measure => simp [RowKit.intOf]; omega
          · gi_wp2
            refine bodyPost_ret (results_none rfl _ _ _) rfl ?_
            exact ⟨⟨_, rfl⟩, .inr ⟨_, ⟨k + 1, HN2.out.symm⟩, hJx3⟩⟩
      · have h32 : (((s[k]).toNat : Int) != 32) = true := by
          rw [bne_iff_ne]; intro e; exact hsep (.inl (UInt8.toNat_inj.1 (by simpa using Int.ofNat_inj.1 e)))
        have h10 : (((s[k]).toNat : Int) != 10) = true := by
          rw [bne_iff_ne]; intro e; exact hsep (.inr (UInt8.toNat_inj.1 (by simpa using Int.ofNat_inj.1 e)))
        have HE : Hid (wst (s.data.toList.take (k + 1)) = ((wst (s.data.toList.take k)).1, (wst (s.data.toList.take k)).2 ++ [s[k]])) := by
          show _ = _
          rw [HT.out, HS.out]
          unfold wstep
          rw [if_neg hsep]
        clear hsep
        gi_wp2
        go_roundw
        case rel => exact ⟨k + 1, by omega, by go_num, by rw [HE.out]; simp; have := HFR.out; omega, by rw [HE.out]; exact HJ.out, HX.out⟩
        case measure => simp [RowKit.intOf]; omega
    · obtain rfl : k = s.size := by omega
      gi_wp2
      go_end0
      refine ⟨⟨_, rfl⟩, .inl ⟨_, (wst_wds _), ?_⟩⟩
      have := HJ.out
      rwa [List.take_of_length_le (by simp)] at this

end Go.Proofs.YtebcjaenhiiflaaGreatDoor.I
