/- Layer 2 (crc): the walk of CrcBack. -/
import Derived.Test.YtdhobioobhhdhaaCrcTells
namespace Go.Proofs.Ytdhobioobhhdhaa
open Go.RowKit
set_option linter.unusedVariables false
set_option maxHeartbeats 800000 in
theorem back_far (c : BitVec 32) (s t : List UInt8) (w : World) (h : 8192 < s.length + t.length) (h2 : s.length + t.length ≤ 9223372036854775807) :
    Calls Try.prog 4 #[str s, str t, reg c] w fun e w' => e = .returned (.bool true) ∧ Below w.heap.size w w' := by
  go_enter Try.func4, Try.ntmps4
  go_wp2_with fail
  refine (alive_any _).mono ?_
  rintro e w1 ⟨rfl, hb1⟩
  go_wp2_with fail
  go_ret
  exact ⟨rfl, hb1⟩
set_option maxHeartbeats 1600000 in
theorem back_no (c : BitVec 32) (s t x : List UInt8) (E : Int) (w : World) (h : s.length + t.length ≤ 8192) (hE : (E != 0) = true)
    (hO : ∀ w, Calls Try.prog 8 #[str t] w fun e w' => e = .returned (.tuple #[str x, .int .i64 E]) ∧ Below w.heap.size w w') :
    Calls Try.prog 4 #[str s, str t, reg c] w fun e w' => e = .returned (.bool true) ∧ Below w.heap.size w w' := by
  have HO := Lib.hid hO
  have hap := crcL_append c s t
  have Hap := Lib.hid hap
  clear hO hap
  go_enter Try.func4, Try.ntmps4
  go_wp2_with fail
  refine (sealAll_any s _ (by omega)).mono ?_
  rintro e w1 ⟨rfl, hb1⟩
  go_wp2_with fail
  refine (open_ok s _ (by omega)).mono ?_
  rintro e w2 ⟨rfl, hb2⟩
  go_wp2_with fail
  refine (HO.out _).mono ?_
  rintro e w3 ⟨rfl, hb3⟩
  go_wp2_with fail
  refine (more_any c (s ++ t) _ (by simp; omega)).mono ?_
  rintro e w4 ⟨rfl, hb4⟩
  go_wp2_with fail
  refine (more_any c s _ (by omega)).mono ?_
  rintro e w5 ⟨rfl, hb5⟩
  go_wp2_with fail
  refine (more_any _ t _ (by omega)).mono ?_
  rintro e w6 ⟨rfl, hb6⟩
  rw [Hap.out]
  go_wp2_with fail
  refine (alive_any _).mono ?_
  rintro e w7 ⟨rfl, hb7⟩
  go_wp2_with fail
  go_ret
  exact ⟨rfl, chain (chain (chain (chain (chain (chain hb1 hb2) hb3) hb4) hb5) hb6) hb7⟩
set_option maxHeartbeats 1600000 in
theorem back_yes (c : BitVec 32) (s t x : List UInt8) (w : World) (h : s.length + t.length ≤ 8192) (hx : x.length ≤ t.length) (ht : t = x ++ sealL x)
    (hO : ∀ w, Calls Try.prog 8 #[str t] w fun e w' => e = .returned (.tuple #[str x, .int .i64 0]) ∧ Below w.heap.size w w') :
    Calls Try.prog 4 #[str s, str t, reg c] w fun e w' => e = .returned (.bool true) ∧ Below w.heap.size w w' := by
  have hse := fun w => sealAll_any x w (by omega)
  rw [← ht] at hse
  have HO := Lib.hid hO
  have Hse := Lib.hid hse
  have hap := crcL_append c s t
  have Hap := Lib.hid hap
  clear hO hap hse ht
  go_enter Try.func4, Try.ntmps4
  go_wp2_with fail
  refine (sealAll_any s _ (by omega)).mono ?_
  rintro e w1 ⟨rfl, hb1⟩
  go_wp2_with fail
  refine (open_ok s _ (by omega)).mono ?_
  rintro e w2 ⟨rfl, hb2⟩
  go_wp2_with fail
  refine (HO.out _).mono ?_
  rintro e w3 ⟨rfl, hb3⟩
  go_wp2_with fail
  refine (Hse.out _).mono ?_
  rintro e w3' ⟨rfl, hb3'⟩
  go_wp2_with fail
  refine (more_any c (s ++ t) _ (by simp; omega)).mono ?_
  rintro e w4 ⟨rfl, hb4⟩
  go_wp2_with fail
  refine (more_any c s _ (by omega)).mono ?_
  rintro e w5 ⟨rfl, hb5⟩
  go_wp2_with fail
  refine (more_any _ t _ (by omega)).mono ?_
  rintro e w6 ⟨rfl, hb6⟩
  rw [Hap.out]
  go_wp2_with fail
  refine (alive_any _).mono ?_
  rintro e w7 ⟨rfl, hb7⟩
  go_wp2_with fail
  go_ret
  exact ⟨rfl, chain (chain (chain (chain (chain (chain (chain hb1 hb2) hb3) hb3') hb4) hb5) hb6) hb7⟩
/-- The walk of CrcBack. -/
theorem walk_CrcBack (a b : ByteArray) (n : Int) (ha : a.size ≤ 140737488351232) (hb : b.size ≤ 140737488351232) (wn : (Lit.int .u32 n).wf = true) (w : World) :
    Calls Try.prog 4 #[.string a, .string b, .int .u32 n] w fun e w' => e = .returned (.bool true) ∧ Below w.heap.size w w' := by
  obtain ⟨c, rfl⟩ := reg_of n wn
  obtain ⟨s, rfl⟩ : ∃ l : List UInt8, a = ⟨l.toArray⟩ := ⟨a.data.toList, rfl⟩
  obtain ⟨t, rfl⟩ : ∃ l : List UInt8, b = ⟨l.toArray⟩ := ⟨b.data.toList, rfl⟩
  have hs2 : s.length ≤ 140737488351232 := by simpa [ByteArray.size] using ha
  have ht2 : t.length ≤ 140737488351232 := by simpa [ByteArray.size] using hb
  by_cases h : s.length + t.length ≤ 8192
  · obtain ⟨x, E, hE, hx, hO⟩ := open_both t (by omega)
    rcases hE with ⟨rfl, ht⟩ | ⟨hE, _⟩
    · exact back_yes c s t x w h hx ht hO
    · exact back_no c s t x E w h (by simpa using hE) hO
  · exact back_far c s t w (by omega) (by omega)
end Go.Proofs.Ytdhobioobhhdhaa
