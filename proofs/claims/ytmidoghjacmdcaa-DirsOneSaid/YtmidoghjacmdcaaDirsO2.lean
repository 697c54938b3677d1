/- Layer 10 (dirs), the laws: in how many sectors two texts differ. -/
import Derived.Test.YtmidoghjacmdcaaDirsO1
import Derived.BigQuiet
namespace Go.Proofs.Ytmidoghjacmdcaa
open Go.RowKit Go.Lib
set_option linter.unusedVariables false
set_option linter.unusedSimpArgs false
set_option maxRecDepth 10000
/-- Two texts that are as long and differ in one sector at most. -/
def near (s t : List UInt8) : Prop := s.length = t.length ∧ ∃ q, ∀ k, k ≠ q → 64 * k + 64 ≤ s.length → (t.take (64 * k + 64)).drop (64 * k) = (s.take (64 * k + 64)).drop (64 * k)
theorem sect_chg {s p : List UInt8} {k q : Nat} (hp : p.length = 32) (hk : 32 * k + 32 ≤ s.length) (hq : q ≠ k / 2) : ((chg s k p).take (64 * q + 64)).drop (64 * q) = (s.take (64 * q + 64)).drop (64 * q) := by
  apply List.ext_getElem?
  intro j
  rw [List.getElem?_drop, List.getElem?_drop, List.getElem?_take, List.getElem?_take]
  split
  · rename_i hj
    unfold chg
    by_cases h1 : 64 * q + j < 32 * k
    · rw [List.append_assoc, List.getElem?_append_left (by simp; omega), List.getElem?_take, if_pos h1]
    · have h2 : 32 * k + 32 ≤ 64 * q + j := by omega
      have hl : (s.take (32 * k) ++ p).length = 32 * k + 32 := by simp [hp]; omega
      rw [List.getElem?_append_right (by rw [hl]; omega), hl, List.getElem?_drop]
      congr 1
      omega
  · rfl
theorem near_chg {s p : List UInt8} {k : Nat} (hp : p.length = 32) (hk : 32 * k + 32 ≤ s.length) : near s (chg s k p) :=
  ⟨by unfold chg; simp [hp]; omega, k / 2, fun q hq _ => sect_chg hp hk hq⟩
set_option maxRecDepth 100000 in
set_option maxHeartbeats 2000000 in
theorem sectors_any (s t : List UInt8) (w : World) (h : near s t) (hs : s.length ≤ 4096) :
    Calls Try.prog 26 #[str s, str t] w fun e w' => (∃ m : Nat, e = .returned (.int .i64 (m : Int)) ∧ m ≤ 1) ∧ Below w.heap.size w w' := by
  obtain ⟨hl, q, hq⟩ := h
  have HQ := Lib.hid hq
  have HL := Lib.hid hl
  have d0 : ((s.length : Int) != (t.length : Int)) = false := by rw [hl]; simp
  have hl1 : s.length ≤ t.length := by omega
  have hl2 : t.length ≤ s.length := by omega
  clear hq hl
  go_enter Try.func26, Try.ntmps26
  go_wp2_with fail
  go_loopw [5, 6] (fun n i wr => ∃ m k j : Nat, n = .int .i64 (m : Int) ∧ i = .int .i64 (j : Int) ∧ j = 64 * k ∧ m ≤ (if q < k then 1 else 0) ∧ j ≤ s.length ∧ Below w.heap.size w wr) (fun _ i _ => s.length - (Go.RowKit.intOf i).toNat)
  case atStart => exact ⟨0, 0, 0, rfl, rfl, rfl, Nat.zero_le _, Nat.zero_le _, Below.refl _ _⟩
  case round =>
    obtain ⟨m, k, j, rfl, rfl, hj, hm, hjs, hb⟩ := hrel
    have hm1 : m ≤ 1 := by split at hm <;> omega
    have HM := Lib.hid hm
    have HJ := Lib.hid hj
    have HB := Lib.hid hb
    clear hm hj hb
    by_cases hlt : j + 64 ≤ s.length
    · have b0 : (j : Int) + 64 ≤ (s.length : Int) := by omega
      have b1 : (j : Int) + 64 ≤ (t.length : Int) := by omega
      have hq2 := HQ.out k
      rw [← HJ.out] at hq2
      by_cases he : (t.take (j + 64)).drop j = (s.take (j + 64)).drop j
      · clear hq2
        go_wp2_with fail
        go_quiet (fail)
        go_wp2_with fail
        go_roundw
        case rel => exact ⟨m, k + 1, j + 64, rfl, by simp, by have := HJ.out; omega, Nat.le_trans HM.out (by split <;> split <;> omega), by omega, below_drewN HB.out nq⟩
        case measure => simp [Go.RowKit.intOf]; omega
      · have hkq : k = q := by
          by_cases e : k = q
          · exact e
          · exact absurd (hq2 e hlt) he
        have hm0 : m = 0 := by have := HM.out; rw [if_neg (by omega)] at this; omega
        subst hm0
        have HK := Lib.hid hkq
        have hne : ((s.take (j + 64)).drop j == (t.take (j + 64)).drop j) = false := by rw [beq_eq_false_iff_ne]; exact fun e => he e.symm
        clear hq2 hkq
        go_wp2_with fail
        go_quiet (fail)
        go_wp2_with fail
        go_roundw
        case rel => exact ⟨1, k + 1, j + 64, rfl, by simp, by have := HJ.out; omega, by rw [if_pos (by have := HK.out; omega)]; exact Nat.le_refl _, by omega, below_drewN HB.out nq⟩
        case measure => simp [Go.RowKit.intOf]; omega
    · have hd : ¬ (j : Int) + 64 ≤ (s.length : Int) := by omega
      go_wp2_with fail
      go_ret
      exact ⟨⟨m, rfl, hm1⟩, HB.out⟩
end Go.Proofs.Ytmidoghjacmdcaa
