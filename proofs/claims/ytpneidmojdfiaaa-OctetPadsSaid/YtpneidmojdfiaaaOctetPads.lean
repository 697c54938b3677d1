/- Layer 1 (octet): the walk of OctetPads. -/
import Derived.Test.YtpneidmojdfiaaaOctet7
namespace Go.Proofs.Ytpneidmojdfiaaa
open Go.RowKit
set_option linter.unusedVariables false
theorem pad_bare (l : List UInt8) (w : World) (h : l.length ≤ 8192) :
    Calls Try.prog 21 #[str (bareL l), .int .i64 l.length] w fun e w' => e = .returned (.tuple #[str l, .int .i64 0]) ∧ Below w.heap.size w w' := by
  obtain ⟨h1, h2⟩ := bareL_back l
  have := pad_ok (bareL l) (l.length - (bareL l).length) l.length w (by omega) (by omega)
  rwa [h2] at this
theorem bare_bare (l : List UInt8) (w : World) (h : l.length ≤ 8192) :
    Calls Try.prog 23 #[str (bareL l)] w fun e w' => e = .returned (str (bareL l)) ∧ Below w.heap.size w w' := by
  have h1 := (bareL_back l).1
  have := bare_any (bareL l) w (by simp only [maxLen]; omega)
  rwa [bareL_idem] at this
theorem bare_padded (l : List UInt8) (k : Nat) (w : World) (h : l.length + k ≤ 65536) :
    Calls Try.prog 23 #[str (l ++ List.replicate k 0)] w fun e w' => e = .returned (str (bareL l)) ∧ Below w.heap.size w w' := by
  have := bare_any (l ++ List.replicate k 0) w (by simp only [maxLen, List.length_append, List.length_replicate]; omega)
  rwa [bareL_pad] at this
set_option maxHeartbeats 800000 in
theorem pads_far (l : List UInt8) (n : Int) (w : World) (hs : l.length ≤ maxLen) (h : 8192 < l.length) :
    Calls Try.prog 6 #[str l, .int .i64 n] w fun e w' => e = .returned (.bool true) ∧ Below w.heap.size w w' := by
  unfold maxLen at hs
  go_enter Try.func6, Try.ntmps6
  go_wp2_with fail
  refine (alive_any _).mono ?_
  rintro e w1 ⟨rfl, hb1⟩
  go_wp2_with fail
  go_ret
  exact ⟨rfl, hb1⟩
set_option maxHeartbeats 800000 in
theorem pads_deep (l : List UInt8) (n : Int) (w : World) (hs : l.length ≤ maxLen) (h : l.length ≤ 8192) (h2 : 131072 < n) :
    Calls Try.prog 6 #[str l, .int .i64 n] w fun e w' => e = .returned (.bool true) ∧ Below w.heap.size w w' := by
  unfold maxLen at hs
  go_enter Try.func6, Try.ntmps6
  go_wp2_with fail
  refine (alive_any _).mono ?_
  rintro e w1 ⟨rfl, hb1⟩
  go_wp2_with fail
  go_ret
  exact ⟨rfl, hb1⟩
set_option maxHeartbeats 1600000 in
theorem pads_less (l : List UInt8) (n : Int) (w : World) (h : l.length ≤ 8192) (hn : n < 0) (h2 : n ≤ 131072) :
    Calls Try.prog 6 #[str l, .int .i64 n] w fun e w' => e = .returned (.bool true) ∧ Below w.heap.size w w' := by
  go_enter Try.func6, Try.ntmps6
  go_wp2_with fail
  refine (pad_bad l n _ (.inl hn)).mono ?_
  rintro e w1 ⟨rfl, hb1⟩
  go_wp2_with fail
  refine (refPad_bad l n _ (.inl hn)).mono ?_
  rintro e w2 ⟨rfl, hb2⟩
  go_wp2_with fail
  refine (bare_any l _ (by simp only [maxLen]; omega)).mono ?_
  rintro e w3 ⟨rfl, hb3⟩
  go_wp2_with fail
  refine (pad_bare l _ h).mono ?_
  rintro e w4 ⟨rfl, hb4⟩
  go_wp2_with fail
  refine (refBare_any l _ (by simp only [maxLen]; omega)).mono ?_
  rintro e w5 ⟨rfl, hb5⟩
  go_wp2_with fail
  refine (bare_bare l _ h).mono ?_
  rintro e w6 ⟨rfl, hb6⟩
  go_wp2_with fail
  refine (alive_any _).mono ?_
  rintro e w7 ⟨rfl, hb7⟩
  go_wp2_with fail
  go_ret
  exact ⟨rfl, chain (chain (chain (chain (chain (chain (hb1) hb2) hb3) hb4) hb5) hb6) hb7⟩
set_option maxHeartbeats 1600000 in
theorem pads_more (l : List UInt8) (n : Int) (w : World) (h : l.length ≤ 8192) (hn : 65536 < n) (h2 : n ≤ 131072) :
    Calls Try.prog 6 #[str l, .int .i64 n] w fun e w' => e = .returned (.bool true) ∧ Below w.heap.size w w' := by
  go_enter Try.func6, Try.ntmps6
  go_wp2_with fail
  refine (pad_bad l n _ (.inr hn)).mono ?_
  rintro e w1 ⟨rfl, hb1⟩
  go_wp2_with fail
  refine (refPad_bad l n _ (.inr hn)).mono ?_
  rintro e w2 ⟨rfl, hb2⟩
  go_wp2_with fail
  refine (bare_any l _ (by simp only [maxLen]; omega)).mono ?_
  rintro e w3 ⟨rfl, hb3⟩
  go_wp2_with fail
  refine (pad_bare l _ h).mono ?_
  rintro e w4 ⟨rfl, hb4⟩
  go_wp2_with fail
  refine (refBare_any l _ (by simp only [maxLen]; omega)).mono ?_
  rintro e w5 ⟨rfl, hb5⟩
  go_wp2_with fail
  refine (bare_bare l _ h).mono ?_
  rintro e w6 ⟨rfl, hb6⟩
  go_wp2_with fail
  refine (alive_any _).mono ?_
  rintro e w7 ⟨rfl, hb7⟩
  go_wp2_with fail
  go_ret
  exact ⟨rfl, chain (chain (chain (chain (chain (chain (hb1) hb2) hb3) hb4) hb5) hb6) hb7⟩
set_option maxHeartbeats 1600000 in
theorem pads_long (l : List UInt8) (n : Nat) (w : World) (h : l.length ≤ 8192) (hn : n < l.length) :
    Calls Try.prog 6 #[str l, .int .i64 n] w fun e w' => e = .returned (.bool true) ∧ Below w.heap.size w w' := by
  go_enter Try.func6, Try.ntmps6
  go_wp2_with fail
  refine (pad_long l n _ (by simp only [maxLen]; omega) (by omega) hn).mono ?_
  rintro e w1 ⟨rfl, hb1⟩
  go_wp2_with fail
  refine (refPad_long l n _ (by simp only [maxLen]; omega) (by omega) hn).mono ?_
  rintro e w2 ⟨rfl, hb2⟩
  go_wp2_with fail
  refine (bare_any l _ (by simp only [maxLen]; omega)).mono ?_
  rintro e w3 ⟨rfl, hb3⟩
  go_wp2_with fail
  refine (pad_bare l _ h).mono ?_
  rintro e w4 ⟨rfl, hb4⟩
  go_wp2_with fail
  refine (refBare_any l _ (by simp only [maxLen]; omega)).mono ?_
  rintro e w5 ⟨rfl, hb5⟩
  go_wp2_with fail
  refine (bare_bare l _ h).mono ?_
  rintro e w6 ⟨rfl, hb6⟩
  go_wp2_with fail
  refine (alive_any _).mono ?_
  rintro e w7 ⟨rfl, hb7⟩
  go_wp2_with fail
  go_ret
  exact ⟨rfl, chain (chain (chain (chain (chain (chain (hb1) hb2) hb3) hb4) hb5) hb6) hb7⟩
set_option maxHeartbeats 1600000 in
theorem pads_fit (l : List UInt8) (k : Nat) (w : World) (h : l.length ≤ 8192) (h2 : l.length + k ≤ 65536) :
    Calls Try.prog 6 #[str l, .int .i64 ((l.length + k : Nat) : Int)] w fun e w' => e = .returned (.bool true) ∧ Below w.heap.size w w' := by
  go_enter Try.func6, Try.ntmps6
  go_wp2_with fail
  refine (pad_ok l k _ _ rfl h2).mono ?_
  rintro e w1 ⟨rfl, hb1⟩
  go_wp2_with fail
  refine (refPad_ok l k _ _ rfl h2).mono ?_
  rintro e w2 ⟨rfl, hb2⟩
  go_wp2_with fail
  refine (bare_any l _ (by simp only [maxLen]; omega)).mono ?_
  rintro e w3 ⟨rfl, hb3⟩
  go_wp2_with fail
  refine (pad_bare l _ h).mono ?_
  rintro e w4 ⟨rfl, hb4⟩
  go_wp2_with fail
  refine (refBare_any l _ (by simp only [maxLen]; omega)).mono ?_
  rintro e w5 ⟨rfl, hb5⟩
  go_wp2_with fail
  refine (bare_padded l k _ h2).mono ?_
  rintro e w6 ⟨rfl, hb6⟩
  go_wp2_with fail
  refine (bare_bare l _ h).mono ?_
  rintro e w7 ⟨rfl, hb7⟩
  go_wp2_with fail
  refine (alive_any _).mono ?_
  rintro e w8 ⟨rfl, hb8⟩
  go_wp2_with fail
  go_ret
  exact ⟨rfl, chain (chain (chain (chain (chain (chain (chain (hb1) hb2) hb3) hb4) hb5) hb6) hb7) hb8⟩
/-- The walk of OctetPads. -/
theorem walk_OctetPads (a : ByteArray) (n : Int) (ha : a.size ≤ 140737488351232) (wn : (Lit.int .i64 n).wf = true) (w : World) :
    Calls Try.prog 6 #[.string a, .int .i64 n] w fun e w' => e = .returned (.bool true) ∧ Below w.heap.size w w' := by
  obtain ⟨l, rfl⟩ : ∃ l : List UInt8, a = ⟨l.toArray⟩ := ⟨a.data.toList, rfl⟩
  have hs2 : l.length ≤ 140737488351232 := by simpa [ByteArray.size] using ha
  have hs : l.length ≤ maxLen := by simp only [maxLen]; omega
  by_cases h : 8192 < l.length
  · exact pads_far l n w hs h
  by_cases h2 : 131072 < n
  · exact pads_deep l n w hs (by omega) h2
  by_cases h3 : n < 0
  · exact pads_less l n w (by omega) h3 (by omega)
  by_cases h4 : 65536 < n
  · exact pads_more l n w (by omega) h4 (by omega)
  obtain ⟨m, rfl⟩ : ∃ m : Nat, n = m := ⟨n.toNat, by omega⟩
  by_cases h5 : m < l.length
  · exact pads_long l m w (by omega) h5
  · obtain ⟨k, rfl⟩ : ∃ k, m = l.length + k := ⟨m - l.length, by omega⟩
    exact pads_fit l k w (by omega) (by omega)
end Go.Proofs.Ytpneidmojdfiaaa
