/- The statement InodeSizes, walked. -/
import Derived.Test.YtpipjjngffajlaaInode10
namespace Go.Proofs.Ytpipjjngffajlaa
open Go.RowKit
set_option linter.unusedVariables false
set_option linter.unusedSimpArgs false
set_option maxRecDepth 10000
set_option maxRecDepth 100000 in
set_option maxHeartbeats 4000000 in
theorem sizes_far (a b : Nat) (w : World) (hc : ¬ (a ≤ 2304 ∧ b ≤ 2304)) :
    Calls Try.prog 6 #[.int .u32 (a : Int), .int .u32 (b : Int)] w fun e w' => e = .returned (.bool true) ∧ Below w.heap.size w w' := by
  by_cases ca : 2304 < a
  · have q1 : decide ((2304 : Int) < (a : Int)) = true := decide_eq_true (by omega)
    clear hc
    go_enter Try.func6, Try.ntmps6
    go_wp2_with fail
    refine (alive_any _).mono ?_
    rintro e w1 ⟨rfl, hb⟩
    go_wp2_with fail
    go_ret
    exact ⟨rfl, hb⟩
  · have q1 : decide ((2304 : Int) < (a : Int)) = false := decide_eq_false (by omega)
    have q2 : decide ((2304 : Int) < (b : Int)) = true := decide_eq_true (by omega)
    clear hc
    go_enter Try.func6, Try.ntmps6
    go_wp2_with fail
    refine (alive_any _).mono ?_
    rintro e w1 ⟨rfl, hb⟩
    go_wp2_with fail
    go_ret
    exact ⟨rfl, hb⟩
set_option maxRecDepth 100000 in
set_option maxHeartbeats 4000000 in
theorem sizes_near (a b : Nat) (w : World) (ha : a ≤ 2304) (hb2 : b ≤ 2304) :
    Calls Try.prog 6 #[.int .u32 (a : Int), .int .u32 (b : Int)] w fun e w' => e = .returned (.bool true) ∧ Below w.heap.size w w' := by
  have HA := Lib.hid fun W => pages_any a W (by omega)
  have HB := Lib.hid fun W => pages_any b W (by omega)
  have q1 : decide ((2304 : Int) < (a : Int)) = false := decide_eq_false (by omega)
  have q2 : decide ((2304 : Int) < (b : Int)) = false := decide_eq_false (by omega)
  have hn1 : pagesN a ≤ 36 := by unfold pagesN; omega
  have hn2 : a ≤ 64 * pagesN a := by unfold pagesN; omega
  have hn3 : 0 < pagesN a → 64 * (pagesN a - 1) < a := by unfold pagesN; omega
  have hm : a ≤ b → pagesN a ≤ pagesN b := by unfold pagesN; omega
  generalize pagesN a = n at *
  generalize pagesN b = m at *
  have q3 : decide ((36 : Int) < (n : Int)) = false := decide_eq_false (by omega)
  have q4 : decide ((n : Int) * 64 < (a : Int)) = false := decide_eq_false (by omega)
  have q5 : decide ((n : Int) < 0) = false := decide_eq_false (by omega)
  by_cases h0 : n = 0
  · subst h0
    have q6 : decide ((0 : Int) < ((0 : Nat) : Int)) = false := by simp
    by_cases hab : b < a
    · exfalso; omega
    · have q7 : decide ((b : Int) < (a : Int)) = false := decide_eq_false (by omega)
      clear hn3 hm
      go_enter Try.func6, Try.ntmps6
      go_wp2_with fail
      refine (HA.out _).mono ?_
      rintro e w1 ⟨rfl, rfl⟩
      go_wp2_with fail
      refine (HB.out _).mono ?_
      rintro e w1 ⟨rfl, rfl⟩
      go_wp2_with fail
      refine (alive_any _).mono ?_
      rintro e w1 ⟨rfl, hb⟩
      go_wp2_with fail
      go_ret
      exact ⟨rfl, hb⟩
  · have q6 : decide ((0 : Int) < (n : Int)) = true := decide_eq_true (by omega)
    have h3 := hn3 (by omega)
    have q8 : decide ((a : Int) ≤ ((n : Int) - 1) * 64) = false := decide_eq_false (by omega)
    by_cases hab : b < a
    · have q7 : decide ((b : Int) < (a : Int)) = true := decide_eq_true (by omega)
      clear hn3 hm
      go_enter Try.func6, Try.ntmps6
      go_wp2_with fail
      refine (HA.out _).mono ?_
      rintro e w1 ⟨rfl, rfl⟩
      go_wp2_with fail
      refine (HB.out _).mono ?_
      rintro e w1 ⟨rfl, rfl⟩
      go_wp2_with fail
      refine (alive_any _).mono ?_
      rintro e w1 ⟨rfl, hb⟩
      go_wp2_with fail
      go_ret
      exact ⟨rfl, hb⟩
    · have q7 : decide ((b : Int) < (a : Int)) = false := decide_eq_false (by omega)
      have hle := hm (by omega)
      have q9 : decide ((n : Int) ≤ (m : Int)) = true := decide_eq_true (by omega)
      clear hn3 hm
      go_enter Try.func6, Try.ntmps6
      go_wp2_with fail
      refine (HA.out _).mono ?_
      rintro e w1 ⟨rfl, rfl⟩
      go_wp2_with fail
      refine (HB.out _).mono ?_
      rintro e w1 ⟨rfl, rfl⟩
      go_wp2_with fail
      refine (alive_any _).mono ?_
      rintro e w1 ⟨rfl, hb⟩
      go_wp2_with fail
      go_ret
      exact ⟨rfl, hb⟩
theorem u32_range {n : Int} (h : (Lit.int .u32 n).wf = true) : 0 ≤ n ∧ n < 4294967296 := by
  have := h
  simp [Lit.wf, IntKind.min, IntKind.max, IntKind.signed, IntKind.bits] at this
  omega
theorem walk_InodeSizes (a0 a1 : Int) (w0 : (Lit.int .u32 a0).wf = true) (w1 : (Lit.int .u32 a1).wf = true) (W : World) :
    Calls Try.prog 6 #[.int .u32 a0, .int .u32 a1] W fun e w' => e = .returned (.bool true) ∧ Below W.heap.size W w' := by
  obtain ⟨a, rfl⟩ : ∃ a : Nat, a0 = a := ⟨a0.toNat, by have := u32_range w0; omega⟩
  obtain ⟨b, rfl⟩ : ∃ b : Nat, a1 = b := ⟨a1.toNat, by have := u32_range w1; omega⟩
  by_cases hc : a ≤ 2304 ∧ b ≤ 2304
  · exact sizes_near a b W hc.1 hc.2
  · exact sizes_far a b W hc
end Go.Proofs.Ytpipjjngffajlaa
