/- Layer 3 (dev): what stays while no fuse is set. -/
import Derived.Test.YtoogedjeclcdbaaDev16
namespace Go.Proofs.Ytoogedjeclcdbaa
open Go.RowKit Go.Maps
set_option linter.unusedVariables false
/-- What stays true while no fuse is set. -/
structure LastI (k : Nat) (M : Dv) : Prop where
  n : M.n = 16
  down : M.down = false
  left : M.left = 0
  wr : M.wr ≤ k
theorem LastI.start : LastI 0 (dev0 16) := ⟨rfl, rfl, rfl, Nat.le_refl _⟩
theorem cur_write (M : Dv) (i : Nat) (s : List UInt8) (j : Nat) : (M.write i s).cur j = if j = i then s else M.cur j := by
  unfold Dv.cur Dv.write
  by_cases h : j = i
  · subst h; simp
  · simp [upd_other _ _ h, h]
theorem cur_wrote (M : Dv) (i : Int) (s : List UInt8) (j : Nat) : (M.wrote i s).cur j = if M.wroteE i s = 0 ∧ i = (j : Int) then s else M.cur j := by
  unfold Dv.wrote Dv.wroteE
  cases hd : M.down
  · cases hc : M.canWrite i s
    · simp
    · rw [if_pos rfl, cur_write]
      unfold Dv.canWrite at hc
      simp at hc
      by_cases h : i = (j : Int)
      · subst h; simp
      · rw [if_neg (by omega), if_neg (by simp [h])]
  · have : M.canWrite i s = false := by unfold Dv.canWrite; simp [hd]
    simp [this]
theorem cur_settle (M : Dv) (i k : Nat) (hk : k ≤ (M.row i).length) (j : Nat) : (M.settle i k).cur j = M.cur j := by
  unfold Dv.cur Dv.settle
  by_cases h : j = i
  · subst h
    simp only [upd_same]
    by_cases h0 : k = 0
    · subst h0; simp
    · rw [if_neg h0]
      by_cases he : k = (M.row j).length
      · subst he
        rw [List.drop_length, List.getLast?_nil, Option.getD_none, List.getLast?_eq_getElem?, List.getD_eq_getElem?_getD, List.getElem?_eq_getElem (by omega)]
        rfl
      · rw [List.getLast?_drop, if_neg (by omega)]
        cases hl : (M.row j).getLast? with
        | none => rw [List.getLast?_eq_none_iff] at hl; rw [hl] at hk; simp at hk; omega
        | some x => rfl
  · simp [upd_other _ _ h]
theorem cur_backed (M : Dv) (i k : Int) (j : Nat) : (M.backed i k).cur j = M.cur j := by
  unfold Dv.backed
  split
  · rename_i h
    unfold Dv.canBack at h
    simp at h
    exact cur_settle M _ _ (by omega) j
  · rfl
theorem cur_flush (M : Dv) (j : Nat) : M.flush.cur j = M.cur j := rfl
theorem LastI.wrote {k : Nat} {M : Dv} (h : LastI k M) (i : Int) (s : List UInt8) : LastI (k + 1) (M.wrote i s) := by
  unfold Dv.wrote
  split
  · exact ⟨h.n, by show (M.down || M.left == 1) = false; rw [h.down, h.left]; rfl, by show M.left - 1 = 0; rw [h.left], by show M.wr + 1 ≤ _; have := h.wr; omega⟩
  · exact ⟨h.n, h.down, h.left, Nat.le_succ_of_le h.wr⟩
theorem LastI.backed {k : Nat} {M : Dv} (h : LastI k M) (i j : Int) : LastI (k + 1) (M.backed i j) := by
  unfold Dv.backed
  split
  · exact ⟨h.n, h.down, h.left, Nat.le_succ_of_le h.wr⟩
  · exact ⟨h.n, h.down, h.left, Nat.le_succ_of_le h.wr⟩
theorem LastI.flush {k : Nat} {M : Dv} (h : LastI k M) : LastI (k + 1) M.flush := ⟨h.n, h.down, h.left, Nat.le_succ_of_le h.wr⟩
theorem LastI.next {k : Nat} {M : Dv} (h : LastI k M) : LastI (k + 1) M := ⟨h.n, h.down, h.left, Nat.le_succ_of_le h.wr⟩
theorem flush_loose (M : Dv) : M.flush.loose = [] := by
  unfold Dv.loose Dv.flush
  simp
theorem flush_crash_cur (M : Dv) (keep : List UInt8) (j : Nat) : (M.flush.crash keep).cur j = M.cur j := by
  unfold Dv.crash Dv.flush Dv.cur
  simp
end Go.Proofs.Ytoogedjeclcdbaa
