/- Layer 1 (octet), continued: Pad. -/
import Derived.Test.YtpipjjngffajlaaOctet4
import Derived.Test.YtpipjjngffajlaaShelf
namespace Go.Proofs.Ytpipjjngffajlaa
open Go.RowKit
set_option linter.unusedVariables false
set_option linter.unusedSimpArgs false
set_option maxRecDepth 10000
theorem repeat_nought (k : Nat) : Lib.repeatL (⟨#[0]⟩ : ByteArray).data.toList k = List.replicate k 0 := by
  induction k with
  | zero => rfl
  | succ k ih => rw [Lib.repeatL, ih]; rfl
theorem repeat0 (k : Nat) (w : World) (hk : k ≤ 65536) :
    Calls Try.prog 35 #[.string ⟨#[0]⟩, .int .i64 k] w fun e w' => e = .returned (str (List.replicate k 0)) ∧ Below w.heap.size w w' := by
  have h := Try.strings_Repeat ⟨#[0]⟩ k w (by omega) (by show 1 * k ≤ 140737488355328; omega)
  rwa [repeat_nought] at h
set_option maxHeartbeats 400000 in
theorem pad_bad (l : List UInt8) (n : Int) (w : World) (hn : n < 0 ∨ 65536 < n) :
    Calls Try.prog 26 #[str l, .int .i64 n] w fun e w' => e = .returned (.tuple #[str [], .int .i64 2]) ∧ Below w.heap.size w w' := by
  rcases hn with hn | hn
  all_goals
    go_enter Try.func26, Try.ntmps26
    go_wp2
    go_ret2
    exact ⟨rfl, ((Below.refl _ _).alloc (Nat.le_refl _) _).alloc (by simp) _⟩
set_option maxHeartbeats 400000 in
theorem pad_long (l : List UInt8) (n : Nat) (w : World) (hs : l.length ≤ maxLen) (hn : n ≤ 65536) (hl : n < l.length) :
    Calls Try.prog 26 #[str l, .int .i64 n] w fun e w' => e = .returned (.tuple #[str [], .int .i64 5]) ∧ Below w.heap.size w w' := by
  unfold maxLen at hs
  go_enter Try.func26, Try.ntmps26
  go_wp2
  go_ret2
  exact ⟨rfl, ((((Below.refl _ _).alloc (Nat.le_refl _) _).alloc (by simp) _).alloc (by simp; omega) _).alloc (by simp; omega) _⟩
set_option maxHeartbeats 400000 in
theorem pad_ok (l : List UInt8) (k : Nat) (n : Int) (w : World) (hn : n = ((l.length + k : Nat) : Int)) (hk : l.length + k ≤ 65536) :
    Calls Try.prog 26 #[str l, .int .i64 n] w fun e w' => e = .returned (.tuple #[str (l ++ List.replicate k 0), .int .i64 0]) ∧ Below w.heap.size w w' := by
  have hr : n - (l.length : Int) = (k : Int) := by omega
  have h1 : 0 ≤ n := by omega
  have h2 : n ≤ 65536 := by omega
  have h3 : (l.length : Int) ≤ n := by omega
  clear hn
  go_enter Try.func26, Try.ntmps26
  go_wp2_with (first | (go_at_call 34; go_in) | (go_at_call 40; go_in))
  refine (repeat0 k _ (by omega)).mono ?_
  rintro e w1 ⟨rfl, hb1⟩
  go_wp2_with fail
  go_ret2
  refine ⟨rfl, ?_⟩
  · exact ((((Below.refl _ _).alloc (Nat.le_refl _) _).alloc (by simp) _).alloc (by simp; omega) _).alloc (by simp; omega) _ |>.trans (hb1.mono (by simp; omega))
end Go.Proofs.Ytpipjjngffajlaa
