/- Layer 1 (octet): the four statements' walks. -/
import Derived.Test.YtpneidmojdfiaaaOctet7
namespace Go.Proofs.Ytpneidmojdfiaaa
open Go.RowKit
set_option linter.unusedVariables false
theorem u64_of {u : Int} (h : (Lit.int .u64 u).wf = true) : ∃ v : Nat, v < 18446744073709551616 ∧ u = v := by
  simp [Lit.wf, IntKind.min, IntKind.max, IntKind.bits, IntKind.signed] at h
  exact ⟨u.toNat, by omega, by omega⟩
set_option maxHeartbeats 800000 in
theorem numbers_long (u i : Int) (l : List UInt8) (w : World) (hs : l.length ≤ maxLen) (hl : 1024 < l.length) :
    Calls Try.prog 3 #[.int .u64 u, .int .i64 i, str l] w fun e w' => e = .returned (.bool true) ∧ Below w.heap.size w w' := by
  unfold maxLen at hs
  go_enter Try.func3, Try.ntmps3
  go_wp2_with fail
  refine (alive_any _).mono ?_
  rintro e w1 ⟨rfl, hb1⟩
  go_wp2_with fail
  go_ret
  exact ⟨rfl, hb1⟩
set_option maxHeartbeats 1600000 in
theorem numbers_bad_over (v : Nat) (i : Int) (hi : i < 0 ∨ 8 < i) (l : List UInt8) (w : World) (hs : l.length ≤ maxLen) (hv : v < 18446744073709551616) (hl : 8 < l.length) (hl2 : l.length ≤ 1024) :
    Calls Try.prog 3 #[.int .u64 v, .int .i64 i, str l] w fun e w' => e = .returned (.bool true) ∧ Below w.heap.size w w' := by
  rcases hi with hi | hi
  all_goals
    go_enter Try.func3, Try.ntmps3
    go_wp2_with fail
    refine (num_bad v i _ hv (by omega)).mono ?_
    rintro e w1 ⟨rfl, hb1⟩
    go_wp2_with fail
    refine (get_long l _ hs hl).mono ?_
    rintro e w2 ⟨rfl, hb2⟩
    go_wp2_with fail
    refine (refGet_long l _ hs hl).mono ?_
    rintro e w3 ⟨rfl, hb3⟩
    go_wp2_with fail
    refine (alive_any _).mono ?_
    rintro e w4 ⟨rfl, hb4⟩
    go_wp2_with fail
    go_ret
    exact ⟨rfl, chain (chain (chain (hb1) hb2) hb3) hb4⟩
set_option maxHeartbeats 1600000 in
theorem numbers_bad_in (v : Nat) (i : Int) (hi : i < 0 ∨ 8 < i) (l : List UInt8) (w : World) (hs : l.length ≤ maxLen) (hv : v < 18446744073709551616) (hl : l.length ≤ 8) :
    Calls Try.prog 3 #[.int .u64 v, .int .i64 i, str l] w fun e w' => e = .returned (.bool true) ∧ Below w.heap.size w w' := by
  have hlv : leV l < 18446744073709551616 := Nat.lt_of_lt_of_le (leV_lt l) (Nat.le_trans (Nat.pow_le_pow_right (by omega) hl) (by decide))
  have hback := leB_leV l
  rcases hi with hi | hi
  all_goals
    go_enter Try.func3, Try.ntmps3
    go_wp2_with fail
    refine (num_bad v i _ hv (by omega)).mono ?_
    rintro e w1 ⟨rfl, hb1⟩
    go_wp2_with fail
    refine (get_ok l _ hl).mono ?_
    rintro e w2 ⟨rfl, hb2⟩
    go_wp2_with fail
    refine (refGet_ok l _ hl).mono ?_
    rintro e w3 ⟨rfl, hb3⟩
    go_wp2_with fail
    refine (num_yes _ _ (leV l) l.length _ rfl rfl hlv hl (leV_lt l)).mono ?_
    rintro e w4 ⟨rfl, hb4⟩
    go_wp2_with fail
    refine (alive_any _).mono ?_
    rintro e w5 ⟨rfl, hb5⟩
    go_wp2_with fail
    go_ret
    exact ⟨rfl, chain (chain (chain (chain (hb1) hb2) hb3) hb4) hb5⟩
set_option maxHeartbeats 1600000 in
theorem numbers_big_over (v : Nat) (n : Nat) (hn : n ≤ 8) (h : ¬ v < 256 ^ n) (l : List UInt8) (w : World) (hs : l.length ≤ maxLen) (hv : v < 18446744073709551616) (hl : 8 < l.length) (hl2 : l.length ≤ 1024) :
    Calls Try.prog 3 #[.int .u64 v, .int .i64 n, str l] w fun e w' => e = .returned (.bool true) ∧ Below w.heap.size w w' := by
  have Hh := Lib.hid h
  clear h
  go_enter Try.func3, Try.ntmps3
  go_wp2_with fail
  refine (num_no _ _ v n _ rfl rfl hv hn Hh.out).mono ?_
  rintro e w1 ⟨rfl, hb1⟩
  go_wp2_with fail
  refine (refNum_big v n _ hv hn Hh.out).mono ?_
  rintro e w2 ⟨rfl, hb2⟩
  go_wp2_with fail
  refine (get_long l _ hs hl).mono ?_
  rintro e w3 ⟨rfl, hb3⟩
  go_wp2_with fail
  refine (refGet_long l _ hs hl).mono ?_
  rintro e w4 ⟨rfl, hb4⟩
  go_wp2_with fail
  refine (alive_any _).mono ?_
  rintro e w5 ⟨rfl, hb5⟩
  go_wp2_with fail
  go_ret
  exact ⟨rfl, chain (chain (chain (chain (hb1) hb2) hb3) hb4) hb5⟩
set_option maxHeartbeats 1600000 in
theorem numbers_big_in (v : Nat) (n : Nat) (hn : n ≤ 8) (h : ¬ v < 256 ^ n) (l : List UInt8) (w : World) (hs : l.length ≤ maxLen) (hv : v < 18446744073709551616) (hl : l.length ≤ 8) :
    Calls Try.prog 3 #[.int .u64 v, .int .i64 n, str l] w fun e w' => e = .returned (.bool true) ∧ Below w.heap.size w w' := by
  have hlv : leV l < 18446744073709551616 := Nat.lt_of_lt_of_le (leV_lt l) (Nat.le_trans (Nat.pow_le_pow_right (by omega) hl) (by decide))
  have hback := leB_leV l
  have Hh := Lib.hid h
  clear h
  go_enter Try.func3, Try.ntmps3
  go_wp2_with fail
  refine (num_no _ _ v n _ rfl rfl hv hn Hh.out).mono ?_
  rintro e w1 ⟨rfl, hb1⟩
  go_wp2_with fail
  refine (refNum_big v n _ hv hn Hh.out).mono ?_
  rintro e w2 ⟨rfl, hb2⟩
  go_wp2_with fail
  refine (get_ok l _ hl).mono ?_
  rintro e w3 ⟨rfl, hb3⟩
  go_wp2_with fail
  refine (refGet_ok l _ hl).mono ?_
  rintro e w4 ⟨rfl, hb4⟩
  go_wp2_with fail
  refine (num_yes _ _ (leV l) l.length _ rfl rfl hlv hl (leV_lt l)).mono ?_
  rintro e w5 ⟨rfl, hb5⟩
  go_wp2_with fail
  refine (alive_any _).mono ?_
  rintro e w6 ⟨rfl, hb6⟩
  go_wp2_with fail
  go_ret
  exact ⟨rfl, chain (chain (chain (chain (chain (hb1) hb2) hb3) hb4) hb5) hb6⟩
set_option maxHeartbeats 1600000 in
theorem numbers_fit_over (v : Nat) (n : Nat) (hn : n ≤ 8) (h : v < 256 ^ n) (l : List UInt8) (w : World) (hs : l.length ≤ maxLen) (hv : v < 18446744073709551616) (hl : 8 < l.length) (hl2 : l.length ≤ 1024) :
    Calls Try.prog 3 #[.int .u64 v, .int .i64 n, str l] w fun e w' => e = .returned (.bool true) ∧ Below w.heap.size w w' := by
  have hlen : (leB n v).length ≤ 8 := by rw [leB_length]; omega
  have hlen2 := leB_length n v
  have hval := leV_leB n v h
  have Hh := Lib.hid h
  clear h
  go_enter Try.func3, Try.ntmps3
  go_wp2_with fail
  refine (num_yes _ _ v n _ rfl rfl hv hn Hh.out).mono ?_
  rintro e w1 ⟨rfl, hb1⟩
  go_wp2_with fail
  refine (refNum_ok v n _ hv hn Hh.out).mono ?_
  rintro e w2 ⟨rfl, hb2⟩
  go_wp2_with fail
  refine (get_long l _ hs hl).mono ?_
  rintro e w3 ⟨rfl, hb3⟩
  go_wp2_with fail
  refine (refGet_long l _ hs hl).mono ?_
  rintro e w4 ⟨rfl, hb4⟩
  go_wp2_with fail
  refine (get_ok (leB n v) _ hlen).mono ?_
  rintro e w5 ⟨rfl, hb5⟩
  go_wp2_with fail
  refine (alive_any _).mono ?_
  rintro e w6 ⟨rfl, hb6⟩
  go_wp2_with fail
  go_ret
  exact ⟨rfl, chain (chain (chain (chain (chain (hb1) hb2) hb3) hb4) hb5) hb6⟩
set_option maxHeartbeats 1600000 in
theorem numbers_fit_in (v : Nat) (n : Nat) (hn : n ≤ 8) (h : v < 256 ^ n) (l : List UInt8) (w : World) (hs : l.length ≤ maxLen) (hv : v < 18446744073709551616) (hl : l.length ≤ 8) :
    Calls Try.prog 3 #[.int .u64 v, .int .i64 n, str l] w fun e w' => e = .returned (.bool true) ∧ Below w.heap.size w w' := by
  have hlen : (leB n v).length ≤ 8 := by rw [leB_length]; omega
  have hlen2 := leB_length n v
  have hval := leV_leB n v h
  have hlv : leV l < 18446744073709551616 := Nat.lt_of_lt_of_le (leV_lt l) (Nat.le_trans (Nat.pow_le_pow_right (by omega) hl) (by decide))
  have hback := leB_leV l
  have Hh := Lib.hid h
  clear h
  go_enter Try.func3, Try.ntmps3
  go_wp2_with fail
  refine (num_yes _ _ v n _ rfl rfl hv hn Hh.out).mono ?_
  rintro e w1 ⟨rfl, hb1⟩
  go_wp2_with fail
  refine (refNum_ok v n _ hv hn Hh.out).mono ?_
  rintro e w2 ⟨rfl, hb2⟩
  go_wp2_with fail
  refine (get_ok l _ hl).mono ?_
  rintro e w3 ⟨rfl, hb3⟩
  go_wp2_with fail
  refine (refGet_ok l _ hl).mono ?_
  rintro e w4 ⟨rfl, hb4⟩
  go_wp2_with fail
  refine (get_ok (leB n v) _ hlen).mono ?_
  rintro e w5 ⟨rfl, hb5⟩
  go_wp2_with fail
  refine (num_yes _ _ (leV l) l.length _ rfl rfl hlv hl (leV_lt l)).mono ?_
  rintro e w6 ⟨rfl, hb6⟩
  go_wp2_with fail
  refine (alive_any _).mono ?_
  rintro e w7 ⟨rfl, hb7⟩
  go_wp2_with fail
  go_ret
  exact ⟨rfl, chain (chain (chain (chain (chain (chain (hb1) hb2) hb3) hb4) hb5) hb6) hb7⟩
/-- The walk of OctetNumbers. -/
theorem walk_OctetNumbers (u i : Int) (s : ByteArray) (wu : (Lit.int .u64 u).wf = true) (wi : (Lit.int .i64 i).wf = true) (hs : s.size ≤ 140737488351232) (w : World) :
    Calls Try.prog 3 #[.int .u64 u, .int .i64 i, .string s] w fun e w' => e = .returned (.bool true) ∧ Below w.heap.size w w' := by
  obtain ⟨v, hv, rfl⟩ := u64_of wu
  obtain ⟨l, rfl⟩ : ∃ l : List UInt8, s = ⟨l.toArray⟩ := ⟨s.data.toList, rfl⟩
  have hs2 : l.length ≤ 140737488351232 := by simpa [ByteArray.size] using hs
  have hl : l.length ≤ maxLen := by simp only [maxLen]; omega
  by_cases h1 : 1024 < l.length
  · exact numbers_long _ i l w hl h1
  by_cases h2 : i < 0 ∨ 8 < i
  · by_cases h3 : 8 < l.length
    · exact numbers_bad_over v i h2 l w hl hv h3 (by omega)
    · exact numbers_bad_in v i h2 l w hl hv (by omega)
  obtain ⟨n, rfl⟩ : ∃ n : Nat, i = n := ⟨i.toNat, by omega⟩
  have hn : n ≤ 8 := by omega
  by_cases h4 : v < 256 ^ n
  · by_cases h3 : 8 < l.length
    · exact numbers_fit_over v n hn h4 l w hl hv h3 (by omega)
    · exact numbers_fit_in v n hn h4 l w hl hv (by omega)
  · by_cases h3 : 8 < l.length
    · exact numbers_big_over v n hn h4 l w hl hv h3 (by omega)
    · exact numbers_big_in v n hn h4 l w hl hv (by omega)
end Go.Proofs.Ytpneidmojdfiaaa
