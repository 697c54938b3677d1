/- Layer 3 (dev): what a crash leaves, in three ways. -/
import Derived.Test.YtoogedjeclcdbaaDevCopy2
namespace Go.Proofs.Ytoogedjeclcdbaa
open Go.RowKit Go.Maps
set_option linter.unusedVariables false
/-- What a sector contained, from what is durable on. -/
def Dv.was (M : Dv) (i : Nat) : List (List UInt8) := M.dur i :: M.row i
theorem crash_cur (M : Dv) (keep : List UInt8) (i : Nat) : (M.crash keep).cur i = if M.row i = [] then M.dur i else M.left_ keep i := by
  unfold Dv.crash Dv.cur
  simp
theorem was_last (M : Dv) (i : Nat) (h : (M.was i).length - 1 < (M.was i).length) : (M.was i)[(M.was i).length - 1] = M.cur i := by
  unfold Dv.cur
  have : (M.was i).getLast? = some ((M.row i).getLast?.getD (M.dur i)) := by
    unfold Dv.was
    rw [List.getLast?_cons]
  rw [List.getLast?_eq_getElem?, List.getElem?_eq_getElem h] at this
  exact Option.some.inj this
/-- What is left is one of what it contained. -/
theorem crash_one (M : Dv) (keep : List UInt8) (i : Nat) : (M.crash keep).cur i ∈ M.was i := by
  rw [crash_cur]
  unfold Dv.was
  by_cases h : M.row i = []
  · rw [if_pos h]; exact List.mem_cons_self
  · rw [if_neg h]
    unfold Dv.left_
    by_cases h0 : M.kept keep i = 0
    · rw [if_pos h0]; exact List.mem_cons_self
    · rw [if_neg h0]
      have hlt : M.kept keep i < (M.row i).length + 1 := Nat.mod_lt _ (by omega)
      rw [List.getD_eq_getElem?_getD, List.getElem?_eq_getElem (by omega)]
      exact List.mem_cons_of_mem _ (List.getElem_mem _)
/-- By noughts all that was cached is lost. -/
theorem crash_none (M : Dv) (i : Nat) : (M.crash []).cur i = M.dur i := by
  rw [crash_cur]
  by_cases h : M.row i = []
  · rw [if_pos h]
  · rw [if_neg h]
    unfold Dv.left_ Dv.kept
    simp
/-- As many bytes as fit. -/
def Dv.all (M : Dv) (k : Nat) : List UInt8 := (M.loose.take k).map fun i => UInt8.ofNat (M.row i).length
theorem Dv.all_succ (M : Dv) (k : Nat) (h : k < M.loose.length) : M.all (k + 1) = M.all k ++ [UInt8.ofNat (M.row M.loose[k]).length] := by
  unfold Dv.all
  rw [List.take_succ_eq_append_getElem h, List.map_append]
  rfl
/-- By bytes that fit all is kept. -/
theorem crash_full (M : Dv) (hf : Fine M) (hw : ∀ i, (M.row i).length < 256) (i : Nat) : (M.crash (M.all M.loose.length)).cur i = M.cur i := by
  rw [crash_cur]
  by_cases h : M.row i = []
  · rw [if_pos h]; unfold Dv.cur; simp [h]
  · rw [if_neg h]
    have hm : i ∈ M.loose := Dv.mem_loose.2 ⟨hf.out i h, h⟩
    obtain ⟨j, hj, rfl⟩ := List.getElem_of_mem hm
    have hk : M.kept (M.all M.loose.length) M.loose[j] = (M.row M.loose[j]).length := by
      rw [Dv.kept_at M _ j hj]
      unfold Dv.all
      rw [List.take_length, List.getD_eq_getElem?_getD, List.getElem?_map, List.getElem?_eq_getElem hj]
      simp only [Option.map_some, Option.getD_some, UInt8.toNat_ofNat']
      have := hw M.loose[j]
      rw [Nat.mod_eq_of_lt (by omega), Nat.mod_eq_of_lt (by omega)]
    have hp := List.length_pos_iff.2 h
    unfold Dv.left_
    rw [hk, if_neg (by omega), List.getD_eq_getElem?_getD, ← List.getLast?_eq_getElem?]
    unfold Dv.cur
    cases hl : (M.row M.loose[j]).getLast? with
    | none => rw [List.getLast?_eq_none_iff] at hl; exact absurd hl h
    | some x => rfl
/-- What a step does to what a sector contained. -/
theorem was_write (M : Dv) (i : Nat) (s : List UInt8) (j : Nat) : (M.write i s).was j = if j = i then M.was j ++ [s] else M.was j := by
  unfold Dv.was Dv.write
  by_cases h : j = i
  · subst h; simp
  · simp [upd_other _ _ h, h]
theorem was_settle (M : Dv) (i k : Nat) (hk : k ≤ (M.row i).length) (j : Nat) : (M.settle i k).was j = if j = i then (M.was j).drop k else M.was j := by
  unfold Dv.was Dv.settle
  by_cases h : j = i
  · subst h
    simp only [upd_same, if_true]
    cases k with
    | zero => simp
    | succ k =>
      simp only [Nat.add_one_sub_one, Nat.succ_ne_zero, if_false, List.drop_succ_cons]
      rw [List.getD_eq_getElem?_getD, List.getElem?_eq_getElem (by omega), Option.getD_some]
      exact (List.drop_eq_getElem_cons (by omega)).symm
  · simp [upd_other _ _ h, h]
theorem was_fuse (M : Dv) (n j : Nat) : (M.fuse n).was j = M.was j := rfl
end Go.Proofs.Ytoogedjeclcdbaa
