/- Layer 10 (dirs), the laws: which scripts are long. -/
import Derived.Test.YtmidoghjacmdcaaDirsArgs
import Derived.Test.YtmidoghjacmdcaaDirsM3
namespace Go.Proofs.Ytmidoghjacmdcaa
open Go.RowKit
set_option linter.unusedVariables false
set_option linter.unusedSimpArgs false
set_option maxRecDepth 10000
set_option maxHeartbeats 1000000 in
theorem longD_any (v : Value) (l : List DSt) (w : World) (h : DSteps w v l) (hs : ∀ x ∈ l, fineD x) (hn : l.length ≤ maxLen) :
    Calls Try.prog 25 #[v] w fun e w' => (∃ r, e = .returned (.bool r) ∧ (r = false → l.length ≤ 100)) ∧ w = w' := by
  unfold maxLen at hn
  obtain ⟨A, c, rfl, hc⟩ := h
  have HC := Lib.hid hc
  have HS := Lib.hid hs
  clear hc hs
  go_enter Try.func25, Try.ntmps25
  go_wp2_with fail
  go_loopw [3, 4] (fun s i wr => ∃ k m : Nat, k ≤ l.length ∧ k ≤ 200 ∧ m ≤ 140737488351232 * k ∧ s = .int .i64 m ∧ i = .int .i64 k ∧ w = wr) (fun _ i _ => l.length - (Go.RowKit.intOf i).toNat)
  case atStart => exact ⟨0, 0, Nat.zero_le _, by omega, by omega, rfl, rfl, rfl⟩
  case round =>
    obtain ⟨k, m, hk, hk3, hm, rfl, rfl, rfl⟩ := hrel
    by_cases hlt : k < l.length ∧ k < 200
    · obtain ⟨a, rfl, x0, x1, x2⟩ := HC.out k _ (List.getElem?_eq_getElem hlt.1)
      have hfine := (HS.out l[k] (List.getElem_mem _)).1
      unfold behindD at x1
      generalize l[k] = x at *
      have hI : (k : Int) < (l.length : Int) := by omega
      clear x0 x2
      go_wp2_with fail
      go_roundw
      case rel => exact ⟨k + 1, m + x.s.length, by omega, by omega, by omega, by simp, by simp, by trivial⟩
      case measure => simp [Go.RowKit.intOf]; omega
    · by_cases h120 : 100 < l.length
      · have d1 : decide ((100 : Int) < (l.length : Int)) = true := decide_eq_true (by omega)
        by_cases hkl : k = l.length
        · subst hkl
          go_wp2_with fail
          go_ret
          exact ⟨⟨_, rfl, fun h => by cases h⟩, rfl⟩
        · obtain rfl : k = 200 := by omega
          have hI : (200 : Int) < (l.length : Int) := by omega
          go_wp2_with fail
          go_ret
          exact ⟨⟨_, rfl, fun h => by cases h⟩, rfl⟩
      · obtain rfl : k = l.length := by omega
        have d1 : decide ((100 : Int) < (l.length : Int)) = false := decide_eq_false (by omega)
        have hle : l.length ≤ 100 := by omega
        go_wp2_with fail
        go_ret
        exact ⟨⟨_, rfl, fun _ => hle⟩, rfl⟩
end Go.Proofs.Ytmidoghjacmdcaa
