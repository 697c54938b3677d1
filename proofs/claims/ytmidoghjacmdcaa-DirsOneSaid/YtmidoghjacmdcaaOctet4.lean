/- Layer 1 (octet), continued: Bare. -/
import Derived.Test.YtmidoghjacmdcaaOctet3
namespace Go.Proofs.Ytmidoghjacmdcaa
open Go.RowKit
set_option linter.unusedVariables false
set_option linter.unusedSimpArgs false
set_option maxRecDepth 10000
set_option maxHeartbeats 400000 in
theorem bare_any (l : List UInt8) (w : World) (hs : l.length ≤ maxLen) :
    Calls Try.prog 35 #[str l] w fun e w' => e = .returned (str (bareL l)) ∧ Below w.heap.size w w' := by
  unfold maxLen at hs
  go_enter Try.func35, Try.ntmps35
  go_wp2
  go_loopw [7] (fun i wr => ∃ k : Nat, k ≤ l.length ∧ i = .int .i64 k ∧ bareL (l.take (l.length - k)) = bareL l ∧ Below w.heap.size w wr) (fun i _ => l.length - (intOf i).toNat)
  case atStart => exact ⟨0, Nat.zero_le _, rfl, by simp, Below.refl _ _⟩
  case round =>
    obtain ⟨k, hk, rfl, hbl, hb⟩ := hrel
    have Hb := Lib.hid hbl
    clear hbl
    by_cases hlt : k < l.length
    · obtain ⟨j, hj⟩ : ∃ j, j = l.length - k - 1 := ⟨_, rfl⟩
      have hjl : j < l.length := by omega
      have e1 : (l.length : Int) - (k : Int) = (j : Int) + 1 := by omega
      have ht : l.take (l.length - k) = l.take j ++ [l[j]] := by
        rw [← List.take_succ_eq_append_getElem hjl]
        congr 1
        omega
      have hj' : l.length - (k + 1) = j := by omega
      have Ht := Lib.hid ht
      have Hj := Lib.hid hj
      have Hj' := Lib.hid hj'
      clear ht hj hj'
      obtain ⟨b, hbt⟩ : ∃ b, b = l[j] := ⟨_, rfl⟩
      have hbt' : l[j] = b := hbt.symm
      clear hbt
      by_cases hz : b = 0
      · subst hz
        go_wp2
        go_roundw
        case rel => exact ⟨k + 1, by omega, by go_num, by rw [← Hb.out, Ht.out, hbt', bareL_snoc0, Hj'.out], hb⟩
        case measure => simp [intOf]; omega
      · have hq := byte_ne0' b hz
        go_wp2
        go_ret
        refine ⟨ret_str ?_, hb⟩
        rw [← Hb.out, Ht.out, hbt', bareL_snoc _ _ hz]
        rw [List.take_succ_eq_append_getElem hjl, hbt']
    · have : k = l.length := by omega
      subst this
      go_wp2
      go_ret
      refine ⟨ret_str ?_, hb⟩
      rw [← Hb.out]
      simp [bareL_nil]
end Go.Proofs.Ytmidoghjacmdcaa
