/- Layer 1 (octet): the walk of OctetTexts. -/
import Derived.Test.YtpneidmojdfiaaaOctet7
namespace Go.Proofs.Ytpneidmojdfiaaa
open Go.RowKit
set_option linter.unusedVariables false
theorem read8_back (l t : List UInt8) (w : World) (hl : l.length ≤ 255) (ht : l.length + t.length ≤ 8192) :
    Calls Try.prog 19 #[str (UInt8.ofNat l.length :: (l ++ t))] w fun e w' => e = .returned (.tuple #[str l, str t, .int .i64 0]) ∧ Below w.heap.size w w' := by
  have h1 : (UInt8.ofNat l.length).toNat = l.length := by rw [UInt8.toNat_ofNat']; omega
  have h := read8_ok (UInt8.ofNat l.length) (l ++ t) w (by simp only [maxLen, List.length_cons, List.length_append]; omega) (by rw [h1]; simp)
  rw [h1, List.take_left, List.drop_left] at h
  exact h
set_option maxHeartbeats 800000 in
theorem texts_far (s t : List UInt8) (w : World) (hs : s.length ≤ maxLen) (ht : t.length ≤ maxLen) (h : 8192 < s.length + t.length) (h2 : s.length + t.length ≤ 9223372036854775807) :
    Calls Try.prog 5 #[str s, str t] w fun e w' => e = .returned (.bool true) ∧ Below w.heap.size w w' := by
  unfold maxLen at hs ht
  go_enter Try.func5, Try.ntmps5
  go_wp2_with fail
  refine (alive_any _).mono ?_
  rintro e w1 ⟨rfl, hb1⟩
  go_wp2_with fail
  go_ret
  exact ⟨rfl, hb1⟩
set_option maxHeartbeats 1600000 in
theorem texts_long (s t x r : List UInt8) (E : Int) (w : World) (h : s.length + t.length ≤ 8192) (h1 : 255 < s.length)
    (hR : ∀ w : World, Calls Try.prog 19 #[str t] w fun e w' => e = .returned (.tuple #[str x, str r, .int .i64 E]) ∧ Below w.heap.size w w')
    (hQ : ∀ w : World, Calls Try.prog 20 #[str t] w fun e w' => e = .returned (.tuple #[str x, str r, .int .i64 E]) ∧ Below w.heap.size w w') :
    Calls Try.prog 5 #[str s, str t] w fun e w' => e = .returned (.bool true) ∧ Below w.heap.size w w' := by
  have HR := Lib.hid hR
  have HQ := Lib.hid hQ
  clear hR hQ
  go_enter Try.func5, Try.ntmps5
  go_wp2_with fail
  refine (text8_long s _ (by simp only [maxLen]; omega) h1).mono ?_
  rintro e w1 ⟨rfl, hb1⟩
  go_wp2_with fail
  refine (refText8_long s _ (by simp only [maxLen]; omega) h1).mono ?_
  rintro e w2 ⟨rfl, hb2⟩
  go_wp2_with fail
  refine (HR.out _).mono ?_
  rintro e w3 ⟨rfl, hb3⟩
  go_wp2_with fail
  refine (HQ.out _).mono ?_
  rintro e w4 ⟨rfl, hb4⟩
  go_wp2_with fail
  refine (alive_any _).mono ?_
  rintro e w5 ⟨rfl, hb5⟩
  go_wp2_with fail
  go_ret
  exact ⟨rfl, chain (chain (chain (chain (hb1) hb2) hb3) hb4) hb5⟩
set_option maxHeartbeats 1600000 in
theorem texts_fit (s t x r : List UInt8) (E : Int) (w : World) (h : s.length + t.length ≤ 8192) (h1 : s.length ≤ 255)
    (hR : ∀ w : World, Calls Try.prog 19 #[str t] w fun e w' => e = .returned (.tuple #[str x, str r, .int .i64 E]) ∧ Below w.heap.size w w')
    (hQ : ∀ w : World, Calls Try.prog 20 #[str t] w fun e w' => e = .returned (.tuple #[str x, str r, .int .i64 E]) ∧ Below w.heap.size w w') :
    Calls Try.prog 5 #[str s, str t] w fun e w' => e = .returned (.bool true) ∧ Below w.heap.size w w' := by
  have HR := Lib.hid hR
  have HQ := Lib.hid hQ
  clear hR hQ
  go_enter Try.func5, Try.ntmps5
  go_wp2_with fail
  refine (text8_ok s _ h1).mono ?_
  rintro e w1 ⟨rfl, hb1⟩
  go_wp2_with fail
  refine (refText8_ok s _ h1).mono ?_
  rintro e w2 ⟨rfl, hb2⟩
  go_wp2_with fail
  refine (HR.out _).mono ?_
  rintro e w3 ⟨rfl, hb3⟩
  go_wp2_with fail
  refine (HQ.out _).mono ?_
  rintro e w4 ⟨rfl, hb4⟩
  go_wp2_with fail
  refine (read8_back s t _ h1 h).mono ?_
  rintro e w5 ⟨rfl, hb5⟩
  go_wp2_with fail
  refine (alive_any _).mono ?_
  rintro e w6 ⟨rfl, hb6⟩
  go_wp2_with fail
  go_ret
  exact ⟨rfl, chain (chain (chain (chain (chain (hb1) hb2) hb3) hb4) hb5) hb6⟩
/-- The walk of OctetTexts. -/
theorem walk_OctetTexts (a b : ByteArray) (ha : a.size ≤ 140737488351232) (hb : b.size ≤ 140737488351232) (w : World) :
    Calls Try.prog 5 #[.string a, .string b] w fun e w' => e = .returned (.bool true) ∧ Below w.heap.size w w' := by
  obtain ⟨s, rfl⟩ : ∃ l : List UInt8, a = ⟨l.toArray⟩ := ⟨a.data.toList, rfl⟩
  obtain ⟨t, rfl⟩ : ∃ l : List UInt8, b = ⟨l.toArray⟩ := ⟨b.data.toList, rfl⟩
  have hs : s.length ≤ 140737488351232 := by simpa [ByteArray.size] using ha
  have ht : t.length ≤ 140737488351232 := by simpa [ByteArray.size] using hb
  by_cases h : s.length + t.length ≤ 8192
  · have key : ∃ (x r : List UInt8) (E : Int), (∀ w : World, Calls Try.prog 19 #[str t] w fun e w' => e = .returned (.tuple #[str x, str r, .int .i64 E]) ∧ Below w.heap.size w w') ∧
        (∀ w : World, Calls Try.prog 20 #[str t] w fun e w' => e = .returned (.tuple #[str x, str r, .int .i64 E]) ∧ Below w.heap.size w w') := by
      have hm : t.length ≤ maxLen := by simp only [maxLen]; omega
      cases t with
      | nil => exact ⟨[], [], 6, read8_nil, refRead8_nil⟩
      | cons b r =>
        by_cases h2 : b.toNat ≤ r.length
        · exact ⟨r.take b.toNat, r.drop b.toNat, 0, fun w => read8_ok b r w hm h2, fun w => refRead8_ok b r w hm h2⟩
        · exact ⟨[], [], 6, fun w => read8_short b r w hm (by omega), fun w => refRead8_short b r w hm (by omega)⟩
    obtain ⟨x, r, E, hR, hQ⟩ := key
    by_cases h1 : s.length ≤ 255
    · exact texts_fit s t x r E w h h1 hR hQ
    · exact texts_long s t x r E w h (by omega) hR hQ
  · exact texts_far s t w (by simp only [maxLen]; omega) (by simp only [maxLen]; omega) (by omega) (by omega)
end Go.Proofs.Ytpneidmojdfiaaa
