/- Layer 1 (octet), continued. -/
import Derived.Test.YtmidoghjacmdcaaOctet
namespace Go.Proofs.Ytmidoghjacmdcaa
open Go.RowKit
set_option linter.unusedVariables false
set_option linter.unusedSimpArgs false
set_option maxRecDepth 10000
set_option maxHeartbeats 400000 in
theorem get_long (l : List UInt8) (w : World) (hs : l.length ≤ maxLen) (hl : 8 < l.length) :
    Calls Try.prog 57 #[str l] w fun e w' => e = .returned (.tuple #[.int .u64 0, .int .i64 5]) ∧ Below w.heap.size w w' := by
  unfold maxLen at hs
  go_enter Try.func57, Try.ntmps57
  go_wp2
  go_ret2
  exact ⟨rfl, ((Below.refl _ _).alloc (Nat.le_refl _) _).alloc (by simp) _⟩
set_option maxHeartbeats 400000 in
theorem get_ok (l : List UInt8) (w : World) (hl : l.length ≤ 8) :
    Calls Try.prog 57 #[str l] w fun e w' => e = .returned (.tuple #[.int .u64 (leV l), .int .i64 0]) ∧ Below w.heap.size w w' := by
  go_enter Try.func57, Try.ntmps57
  go_wp2
  go_loop [4, 12] (fun v i => ∃ k m : Nat, k ≤ l.length ∧ i = .int .i64 k ∧ v = .int .u64 m ∧ m = leV (l.take k)) (fun _ i => l.length - (intOf i).toNat)
  case atStart => exact ⟨0, 0, Nat.zero_le _, rfl, rfl, by simp [leV]⟩
  case round =>
    obtain ⟨k, m, hk, rfl, rfl, hm⟩ := hrel
    have Hm := Lib.hid hm
    by_cases hlt : k < l.length
    · have hm2 := leV_lt (l.take k)
      rw [← hm, List.length_take, Nat.min_eq_left hk] at hm2
      have hd := leV_take_succ l k hlt
      rw [← hm] at hd
      have Hd := Lib.hid hd
      have Hm2 := Lib.hid hm2
      clear hm hd hm2
      have hbyte := (l[k]).toNat_lt
      go_wp2
      go_round
      case rel =>
        refine ⟨k + 1, m + 256 ^ k * (l[k]).toNat, by omega, by go_num, ?_, Hd.out.symm⟩
        rw [or_step _ _ _ (by omega) hbyte Hm2.out]
      case measure => simp [intOf]; omega
    · clear hm
      go_wp2
      go_ret2
      have : k = l.length := by omega
      subst this
      exact ⟨ret2_u64 (by rw [Hm.out, List.take_length]), ((Below.refl _ _).alloc (Nat.le_refl _) _).alloc (by simp) _⟩
set_option maxHeartbeats 400000 in
theorem cut_neg (l : List UInt8) (n : Int) (w : World) (hn : n < 0) :
    Calls Try.prog 56 #[str l, .int .i64 n] w fun e w' => e = .returned (.tuple #[str [], str [], .int .i64 2]) ∧ Below w.heap.size w w' := by
  go_enter Try.func56, Try.ntmps56
  go_wp2
  go_ret3
  exact ⟨rfl, Below.refl _ _⟩
set_option maxHeartbeats 400000 in
theorem cut_far (l : List UInt8) (n : Int) (w : World) (hs : l.length ≤ maxLen) (hn2 : (l.length : Int) < n) :
    Calls Try.prog 56 #[str l, .int .i64 n] w fun e w' => e = .returned (.tuple #[str [], str [], .int .i64 6]) ∧ Below w.heap.size w w' := by
  unfold maxLen at hs
  go_enter Try.func56, Try.ntmps56
  go_wp2
  go_ret3
  exact ⟨rfl, ((Below.refl _ _).alloc (Nat.le_refl _) _).alloc (by simp) _⟩
theorem ret3_str {a b c d : ByteArray} {x : Value} (h : a = b) (k : c = d) : Ending.returned (.tuple #[.string a, .string c, x]) = .returned (.tuple #[.string b, .string d, x]) := by rw [h, k]
set_option maxHeartbeats 400000 in
theorem cut_ok (l : List UInt8) (i : Int) (n : Nat) (w : World) (hs : l.length ≤ maxLen) (hi : i = n) (hn2 : n ≤ l.length) :
    Calls Try.prog 56 #[str l, .int .i64 i] w fun e w' => e = .returned (.tuple #[str (l.take n), str (l.drop n), .int .i64 0]) ∧ Below w.heap.size w w' := by
  subst hi
  unfold maxLen at hs
  go_enter Try.func56, Try.ntmps56
  go_wp2
  go_quiet (fail)
  go_wp2
  go_ret3
  exact ⟨ret3_str (by simp) (by simp), below_drewN (((Below.refl _ _).alloc (Nat.le_refl _) _).alloc (by simp) _) _⟩
set_option maxHeartbeats 400000 in
theorem text8_long (l : List UInt8) (w : World) (hs : l.length ≤ maxLen) (hl : 255 < l.length) :
    Calls Try.prog 53 #[str l] w fun e w' => e = .returned (.tuple #[str [], .int .i64 5]) ∧ Below w.heap.size w w' := by
  unfold maxLen at hs
  go_enter Try.func53, Try.ntmps53
  go_wp2
  go_ret2
  exact ⟨rfl, ((Below.refl _ _).alloc (Nat.le_refl _) _).alloc (by simp) _⟩
theorem cons_append (x : UInt8) (l : List UInt8) : Value.string ((⟨#[x]⟩ : ByteArray) ++ ⟨l.toArray⟩) = str (x :: l) := str_append [x] l
theorem cons_append' (x : UInt8) (l : List UInt8) : (⟨#[x]⟩ : ByteArray) ++ ⟨l.toArray⟩ = ⟨(x :: l).toArray⟩ := by
  have := str_append [x] l
  injection this
set_option maxHeartbeats 400000 in
theorem text8_ok (l : List UInt8) (w : World) (hl : l.length ≤ 255) :
    Calls Try.prog 53 #[str l] w fun e w' => e = .returned (.tuple #[str (UInt8.ofNat l.length :: l), .int .i64 0]) ∧ Below w.heap.size w w' := by
  have hcv := fun W n g hg => conv_one (P := Try.prog) 65 9 5 Try.underlying65 Try.underlying5 Try.underlying9 W n g hg
  go_enter Try.func53, Try.ntmps53
  go_wp2
  go_ret2
  exact ⟨ret2_str (by simp), (((Below.refl _ _).alloc (Nat.le_refl _) _).alloc (by simp) _).alloc (by simp; omega) _⟩
end Go.Proofs.Ytmidoghjacmdcaa
