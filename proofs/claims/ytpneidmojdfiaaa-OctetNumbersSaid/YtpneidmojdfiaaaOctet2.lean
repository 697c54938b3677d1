/- Layer 1 (octet), continued. -/
import Derived.Test.YtpneidmojdfiaaaOctet
namespace Go.Proofs.Ytpneidmojdfiaaa
open Go.RowKit
set_option linter.unusedVariables false
set_option maxHeartbeats 400000 in
theorem get_long (l : List UInt8) (w : World) (hs : l.length ≤ maxLen) (hl : 8 < l.length) :
    Calls Try.prog 10 #[str l] w fun e w' => e = .returned (.tuple #[.int .u64 0, .int .i64 5]) ∧ Below w.heap.size w w' := by
  unfold maxLen at hs
  go_enter Try.func10, Try.ntmps10
  go_wp2
  go_ret2
  exact ⟨rfl, ((Below.refl _ _).alloc (Nat.le_refl _) _).alloc (by simp) _⟩
set_option maxHeartbeats 400000 in
theorem get_ok (l : List UInt8) (w : World) (hl : l.length ≤ 8) :
    Calls Try.prog 10 #[str l] w fun e w' => e = .returned (.tuple #[.int .u64 (leV l), .int .i64 0]) ∧ Below w.heap.size w w' := by
  go_enter Try.func10, Try.ntmps10
  go_wp2
  go_loop [4, 12] (fun v i => ∃ k m : Nat, k ≤ l.length ∧ i = .int .i64 k ∧ v = .int .u64 m ∧ m = leV (l.take k)) (fun _ i => l.length - (intOf i).toNat)
  case atStart => exact ⟨0, 0, Nat.zero_le _, rfl, rfl, by simp [leV]⟩
  case round =>
    obtain ⟨k, m, hk, rfl, rfl, hm⟩ := hrel
    have Hm := Lib.hid hm
    by_cases hlt : k < l.length
    · have hm2 := leV_lt (l.take k)
      rw [← hm, List.length_take, Nat.min_eq_left hk] at hm2
      have hd := leV_take_succ l k hlt
      rw [← hm] at hd
      have Hd := Lib.hid hd
      have Hm2 := Lib.hid hm2
      clear hm hd hm2
      have hbyte := (l[k]).toNat_lt
      go_wp2
      go_round
      case rel =>
        refine ⟨k + 1, m + 256 ^ k * (l[k]).toNat, by omega, by go_num, ?_, Hd.out.symm⟩
        rw [or_step _ _ _ (by omega) hbyte Hm2.out]
      case measure => simp [intOf]; omega
    · clear hm
      go_wp2
      go_ret2
      have : k = l.length := by omega
      subst this
      exact ⟨ret2_u64 (by rw [Hm.out, List.take_length]), ((Below.refl _ _).alloc (Nat.le_refl _) _).alloc (by simp) _⟩
set_option maxHeartbeats 400000 in
theorem refGet_long (l : List UInt8) (w : World) (hs : l.length ≤ maxLen) (hl : 8 < l.length) :
    Calls Try.prog 11 #[str l] w fun e w' => e = .returned (.tuple #[.int .u64 0, .int .i64 5]) ∧ Below w.heap.size w w' := by
  unfold maxLen at hs
  go_enter Try.func11, Try.ntmps11
  go_wp2
  go_ret2
  exact ⟨rfl, Below.refl _ _⟩
set_option maxHeartbeats 400000 in
theorem refGet_ok (l : List UInt8) (w : World) (hl : l.length ≤ 8) :
    Calls Try.prog 11 #[str l] w fun e w' => e = .returned (.tuple #[.int .u64 (leV l), .int .i64 0]) ∧ Below w.heap.size w w' := by
  go_enter Try.func11, Try.ntmps11
  go_wp2_with (go_at_call 26; refine (refValue_any l _ hl).mono ?_; rintro e w1 ⟨rfl, hb1⟩)
  go_ret2
  exact ⟨rfl, hb1⟩
set_option maxHeartbeats 400000 in
theorem refNum_bad (v : Nat) (n : Int) (w : World) (hn : n < 0 ∨ 8 < n) :
    Calls Try.prog 9 #[.int .u64 v, .int .i64 n] w fun e w' => e = .returned (.tuple #[str [], .int .i64 2]) ∧ Below w.heap.size w w' := by
  rcases hn with hn | hn
  all_goals
    go_enter Try.func9, Try.ntmps9
    go_wp2
    go_ret2
    exact ⟨rfl, Below.refl _ _⟩
set_option maxHeartbeats 400000 in
theorem refNum_big (v n : Nat) (w : World) (hv : v < 18446744073709551616) (hn : n ≤ 8) (hb : ¬ v < 256 ^ n) :
    Calls Try.prog 9 #[.int .u64 v, .int .i64 n] w fun e w' => e = .returned (.tuple #[str [], .int .i64 2]) ∧ Below w.heap.size w w' := by
  have hlen : (leB n v).length ≤ 8 := by rw [leB_length]; omega
  have hq : ((leV (leB n v) : Int) != (v : Int)) = true := by
    rw [leV_leB_mod]
    have h1 := Nat.mod_lt v (show 0 < 256 ^ n from Nat.pow_pos (by omega))
    have h2 : v % 256 ^ n ≠ v := by omega
    rw [bne_iff_ne]
    exact fun h => h2 (Int.ofNat.inj h)
  clear hb
  go_enter Try.func9, Try.ntmps9
  go_wp2_with fail
  refine (refBytes_any v n _ hv (by omega)).mono ?_
  rintro e w1 ⟨rfl, hb1⟩
  go_wp2_with fail
  refine (refValue_any _ _ hlen).mono ?_
  rintro e w2 ⟨rfl, hb2⟩
  go_wp2_with fail
  go_ret2
  exact ⟨rfl, chain hb1 hb2⟩
set_option maxHeartbeats 400000 in
theorem refNum_ok (v n : Nat) (w : World) (hv : v < 18446744073709551616) (hn : n ≤ 8) (hb : v < 256 ^ n) :
    Calls Try.prog 9 #[.int .u64 v, .int .i64 n] w fun e w' => e = .returned (.tuple #[str (leB n v), .int .i64 0]) ∧ Below w.heap.size w w' := by
  have hlen : (leB n v).length ≤ 8 := by rw [leB_length]; omega
  have hq : ((leV (leB n v) : Int) != (v : Int)) = false := by rw [leV_leB _ _ hb]; simp
  clear hb
  go_enter Try.func9, Try.ntmps9
  go_wp2_with fail
  refine (refBytes_any v n _ hv (by omega)).mono ?_
  rintro e w1 ⟨rfl, hb1⟩
  go_wp2_with fail
  refine (refValue_any _ _ hlen).mono ?_
  rintro e w2 ⟨rfl, hb2⟩
  go_wp2_with fail
  refine (refBytes_any v n _ hv (by omega)).mono ?_
  rintro e w3 ⟨rfl, hb3⟩
  go_wp2_with fail
  go_ret2
  exact ⟨rfl, chain (chain hb1 hb2) hb3⟩
set_option maxHeartbeats 400000 in
theorem cut_neg (l : List UInt8) (n : Int) (w : World) (hn : n < 0) :
    Calls Try.prog 12 #[str l, .int .i64 n] w fun e w' => e = .returned (.tuple #[str [], str [], .int .i64 2]) ∧ Below w.heap.size w w' := by
  go_enter Try.func12, Try.ntmps12
  go_wp2
  go_ret3
  exact ⟨rfl, Below.refl _ _⟩
set_option maxHeartbeats 400000 in
theorem cut_far (l : List UInt8) (n : Int) (w : World) (hs : l.length ≤ maxLen) (hn2 : (l.length : Int) < n) :
    Calls Try.prog 12 #[str l, .int .i64 n] w fun e w' => e = .returned (.tuple #[str [], str [], .int .i64 6]) ∧ Below w.heap.size w w' := by
  unfold maxLen at hs
  go_enter Try.func12, Try.ntmps12
  go_wp2
  go_ret3
  exact ⟨rfl, ((Below.refl _ _).alloc (Nat.le_refl _) _).alloc (by simp) _⟩
theorem ret3_str {a b c d : ByteArray} {x : Value} (h : a = b) (k : c = d) : Ending.returned (.tuple #[.string a, .string c, x]) = .returned (.tuple #[.string b, .string d, x]) := by rw [h, k]
set_option maxHeartbeats 400000 in
theorem cut_ok (l : List UInt8) (i : Int) (n : Nat) (w : World) (hs : l.length ≤ maxLen) (hi : i = n) (hn2 : n ≤ l.length) :
    Calls Try.prog 12 #[str l, .int .i64 i] w fun e w' => e = .returned (.tuple #[str (l.take n), str (l.drop n), .int .i64 0]) ∧ Below w.heap.size w w' := by
  subst hi
  unfold maxLen at hs
  go_enter Try.func12, Try.ntmps12
  go_wp2
  go_quiet (fail)
  go_wp2
  go_ret3
  exact ⟨ret3_str (by simp) (by simp), below_drewN (((Below.refl _ _).alloc (Nat.le_refl _) _).alloc (by simp) _) _⟩
set_option maxHeartbeats 400000 in
theorem refCut_neg (l : List UInt8) (n : Int) (w : World) (hn : n < 0) :
    Calls Try.prog 13 #[str l, .int .i64 n] w fun e w' => e = .returned (.tuple #[str [], str [], .int .i64 2]) ∧ Below w.heap.size w w' := by
  go_enter Try.func13, Try.ntmps13
  go_wp2
  go_ret3
  exact ⟨rfl, Below.refl _ _⟩
set_option maxHeartbeats 400000 in
theorem refCut_far (l : List UInt8) (n : Int) (w : World) (hs : l.length ≤ maxLen) (hn2 : (l.length : Int) < n) :
    Calls Try.prog 13 #[str l, .int .i64 n] w fun e w' => e = .returned (.tuple #[str [], str [], .int .i64 6]) ∧ Below w.heap.size w w' := by
  unfold maxLen at hs
  go_enter Try.func13, Try.ntmps13
  go_wp2
  go_ret3
  exact ⟨rfl, Below.refl _ _⟩
set_option maxHeartbeats 400000 in
theorem refCut_ok (l : List UInt8) (n : Nat) (w : World) (hs : l.length ≤ maxLen) (hn2 : n ≤ l.length) :
    Calls Try.prog 13 #[str l, .int .i64 n] w fun e w' => e = .returned (.tuple #[str (l.take n), str (l.drop n), .int .i64 0]) ∧ Below w.heap.size w w' := by
  unfold maxLen at hs
  go_enter Try.func13, Try.ntmps13
  go_wp2
  go_quiet (fail)
  go_wp2
  go_ret3
  exact ⟨ret3_str (by simp) (by simp), below_drewN (Below.refl _ _) _⟩
set_option maxHeartbeats 400000 in
theorem text8_long (l : List UInt8) (w : World) (hs : l.length ≤ maxLen) (hl : 255 < l.length) :
    Calls Try.prog 17 #[str l] w fun e w' => e = .returned (.tuple #[str [], .int .i64 5]) ∧ Below w.heap.size w w' := by
  unfold maxLen at hs
  go_enter Try.func17, Try.ntmps17
  go_wp2
  go_ret2
  exact ⟨rfl, ((Below.refl _ _).alloc (Nat.le_refl _) _).alloc (by simp) _⟩
theorem cons_append (x : UInt8) (l : List UInt8) : Value.string ((⟨#[x]⟩ : ByteArray) ++ ⟨l.toArray⟩) = str (x :: l) := str_append [x] l
theorem cons_append' (x : UInt8) (l : List UInt8) : (⟨#[x]⟩ : ByteArray) ++ ⟨l.toArray⟩ = ⟨(x :: l).toArray⟩ := by
  have := str_append [x] l
  injection this
set_option maxHeartbeats 400000 in
theorem text8_ok (l : List UInt8) (w : World) (hl : l.length ≤ 255) :
    Calls Try.prog 17 #[str l] w fun e w' => e = .returned (.tuple #[str (UInt8.ofNat l.length :: l), .int .i64 0]) ∧ Below w.heap.size w w' := by
  have hcv := fun W n g hg => conv_one (P := Try.prog) 44 9 5 Try.underlying44 Try.underlying5 Try.underlying9 W n g hg
  go_enter Try.func17, Try.ntmps17
  go_wp2
  go_ret2
  exact ⟨ret2_str (by simp), (((Below.refl _ _).alloc (Nat.le_refl _) _).alloc (by simp) _).alloc (by simp; omega) _⟩
set_option maxHeartbeats 400000 in
theorem refText8_long (l : List UInt8) (w : World) (hs : l.length ≤ maxLen) (hl : 255 < l.length) :
    Calls Try.prog 18 #[str l] w fun e w' => e = .returned (.tuple #[str [], .int .i64 5]) ∧ Below w.heap.size w w' := by
  unfold maxLen at hs
  go_enter Try.func18, Try.ntmps18
  go_wp2
  go_ret2
  exact ⟨rfl, Below.refl _ _⟩
set_option maxHeartbeats 400000 in
theorem refText8_ok (l : List UInt8) (w : World) (hl : l.length ≤ 255) :
    Calls Try.prog 18 #[str l] w fun e w' => e = .returned (.tuple #[str (UInt8.ofNat l.length :: l), .int .i64 0]) ∧ Below w.heap.size w w' := by
  have hcv := fun W n g hg => conv_one (P := Try.prog) 44 9 5 Try.underlying44 Try.underlying5 Try.underlying9 W n g hg
  go_enter Try.func18, Try.ntmps18
  go_wp2
  go_ret2
  exact ⟨ret2_str (by simp), (Below.refl _ _).alloc (by simp) _⟩
end Go.Proofs.Ytpneidmojdfiaaa
