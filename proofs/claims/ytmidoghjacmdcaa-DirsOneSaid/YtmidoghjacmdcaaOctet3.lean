/- Layer 1 (octet), continued: Read8, Bare, Pad. -/
import Derived.Test.YtmidoghjacmdcaaOctet2
namespace Go.Proofs.Ytmidoghjacmdcaa
open Go.RowKit
set_option linter.unusedVariables false
set_option linter.unusedSimpArgs false
set_option maxRecDepth 10000
set_option maxHeartbeats 400000 in
theorem read8_nil (w : World) :
    Calls Try.prog 58 #[str []] w fun e w' => e = .returned (.tuple #[str [], str [], .int .i64 6]) ∧ Below w.heap.size w w' := by
  go_enter Try.func58, Try.ntmps58
  go_wp2_with fail
  refine (cut_far [] 1 _ (by decide) (by decide)).mono ?_
  rintro e w1 ⟨rfl, hb1⟩
  go_wp2_with fail
  go_ret3
  exact ⟨rfl, hb1⟩
set_option maxHeartbeats 400000 in
theorem read8_short (b : UInt8) (r : List UInt8) (w : World) (hs : (b :: r).length ≤ maxLen) (h : r.length < b.toNat) :
    Calls Try.prog 58 #[str (b :: r)] w fun e w' => e = .returned (.tuple #[str [], str [], .int .i64 6]) ∧ Below w.heap.size w w' := by
  have hr : r.length ≤ maxLen := by simp only [List.length_cons] at hs; omega
  have hbt := b.toNat_lt
  go_enter Try.func58, Try.ntmps58
  go_wp2_with fail
  refine (cut_ok (b :: r) 1 1 _ hs rfl (by simp)).mono ?_
  rintro e w1 ⟨rfl, hb1⟩
  go_wp2_with fail
  refine (cut_far r _ _ hr (by simpa using h)).mono ?_
  rintro e w2 ⟨rfl, hb2⟩
  go_wp2_with fail
  go_ret3
  exact ⟨rfl, chain hb1 hb2⟩
set_option maxHeartbeats 400000 in
theorem read8_ok (b : UInt8) (r : List UInt8) (w : World) (hs : (b :: r).length ≤ maxLen) (h : b.toNat ≤ r.length) :
    Calls Try.prog 58 #[str (b :: r)] w fun e w' => e = .returned (.tuple #[str (r.take b.toNat), str (r.drop b.toNat), .int .i64 0]) ∧ Below w.heap.size w w' := by
  have hr : r.length ≤ maxLen := by simp only [List.length_cons] at hs; omega
  have hbt := b.toNat_lt
  go_enter Try.func58, Try.ntmps58
  go_wp2_with fail
  refine (cut_ok (b :: r) 1 1 _ hs rfl (by simp)).mono ?_
  rintro e w1 ⟨rfl, hb1⟩
  go_wp2_with fail
  refine (cut_ok r _ b.toNat _ hr rfl h).mono ?_
  rintro e w2 ⟨rfl, hb2⟩
  go_wp2_with fail
  go_ret3
  exact ⟨rfl, chain hb1 hb2⟩
end Go.Proofs.Ytmidoghjacmdcaa
