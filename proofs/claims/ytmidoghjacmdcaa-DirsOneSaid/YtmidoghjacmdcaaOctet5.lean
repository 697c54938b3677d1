/- Layer 1 (octet), continued: Pad. -/
import Derived.Test.YtmidoghjacmdcaaOctet4
import Derived.Test.YtmidoghjacmdcaaShelf
namespace Go.Proofs.Ytmidoghjacmdcaa
open Go.RowKit
set_option linter.unusedVariables false
set_option linter.unusedSimpArgs false
set_option maxRecDepth 10000
theorem repeat_nought (k : Nat) : Lib.repeatL (⟨#[0]⟩ : ByteArray).data.toList k = List.replicate k 0 := by
  induction k with
  | zero => rfl
  | succ k ih => rw [Lib.repeatL, ih]; rfl
theorem repeat0 (k : Nat) (w : World) (hk : k ≤ 65536) :
    Calls Try.prog 51 #[.string ⟨#[0]⟩, .int .i64 k] w fun e w' => e = .returned (str (List.replicate k 0)) ∧ Below w.heap.size w w' := by
  have h := Try.strings_Repeat ⟨#[0]⟩ k w (by omega) (by show 1 * k ≤ 140737488355328; omega)
  rwa [repeat_nought] at h
set_option maxHeartbeats 400000 in
theorem pad_bad (l : List UInt8) (n : Int) (w : World) (hn : n < 0 ∨ 65536 < n) :
    Calls Try.prog 36 #[str l, .int .i64 n] w fun e w' => e = .returned (.tuple #[str [], .int .i64 2]) ∧ Below w.heap.size w w' := by
  rcases hn with hn | hn
  all_goals
    go_enter Try.func36, Try.ntmps36
    go_wp2
    go_ret2
    exact ⟨rfl, ((Below.refl _ _).alloc (Nat.le_refl _) _).alloc (by simp) _⟩
set_option maxHeartbeats 400000 in
theorem pad_long (l : List UInt8) (n : Nat) (w : World) (hs : l.length ≤ maxLen) (hn : n ≤ 65536) (hl : n < l.length) :
    Calls Try.prog 36 #[str l, .int .i64 n] w fun e w' => e = .returned (.tuple #[str [], .int .i64 5]) ∧ Below w.heap.size w w' := by
  unfold maxLen at hs
  go_enter Try.func36, Try.ntmps36
  go_wp2
  go_ret2
  exact ⟨rfl, ((((Below.refl _ _).alloc (Nat.le_refl _) _).alloc (by simp) _).alloc (by simp; omega) _).alloc (by simp; omega) _⟩
set_option maxHeartbeats 400000 in
theorem pad_ok (l : List UInt8) (k : Nat) (n : Int) (w : World) (hn : n = ((l.length + k : Nat) : Int)) (hk : l.length + k ≤ 65536) :
    Calls Try.prog 36 #[str l, .int .i64 n] w fun e w' => e = .returned (.tuple #[str (l ++ List.replicate k 0), .int .i64 0]) ∧ Below w.heap.size w w' := by
  have hr : n - (l.length : Int) = (k : Int) := by omega
  have h1 : 0 ≤ n := by omega
  have h2 : n ≤ 65536 := by omega
  have h3 : (l.length : Int) ≤ n := by omega
  clear hn
  go_enter Try.func36, Try.ntmps36
  go_wp2_with (first | (go_at_call 50; go_in) | (go_at_call 62; go_in))
  refine (repeat0 k _ (by omega)).mono ?_
  rintro e w1 ⟨rfl, hb1⟩
  go_wp2_with fail
  go_ret2
  refine ⟨rfl, ?_⟩
  · exact ((((Below.refl _ _).alloc (Nat.le_refl _) _).alloc (by simp) _).alloc (by simp; omega) _).alloc (by simp; omega) _ |>.trans (hb1.mono (by simp; omega))
set_option maxHeartbeats 400000 in
theorem refPad_bad (l : List UInt8) (n : Int) (w : World) (hn : n < 0 ∨ 65536 < n) :
    Calls Try.prog 40 #[str l, .int .i64 n] w fun e w' => e = .returned (.tuple #[str [], .int .i64 2]) ∧ Below w.heap.size w w' := by
  rcases hn with hn | hn
  all_goals
    go_enter Try.func40, Try.ntmps40
    go_wp2
    go_ret2
    exact ⟨rfl, Below.refl _ _⟩
set_option maxHeartbeats 400000 in
theorem refPad_long (l : List UInt8) (n : Nat) (w : World) (hs : l.length ≤ maxLen) (hn : n ≤ 65536) (hl : n < l.length) :
    Calls Try.prog 40 #[str l, .int .i64 n] w fun e w' => e = .returned (.tuple #[str [], .int .i64 5]) ∧ Below w.heap.size w w' := by
  unfold maxLen at hs
  go_enter Try.func40, Try.ntmps40
  go_wp2
  go_ret2
  exact ⟨rfl, Below.refl _ _⟩
set_option maxHeartbeats 400000 in
theorem refPad_ok (l : List UInt8) (k : Nat) (n : Int) (w : World) (hn : n = ((l.length + k : Nat) : Int)) (hk : l.length + k ≤ 65536) :
    Calls Try.prog 40 #[str l, .int .i64 n] w fun e w' => e = .returned (.tuple #[str (l ++ List.replicate k 0), .int .i64 0]) ∧ Below w.heap.size w w' := by
  have hr : n - (l.length : Int) = (k : Int) := by omega
  have h1 : 0 ≤ n := by omega
  have h2 : n ≤ 65536 := by omega
  have h3 : (l.length : Int) ≤ n := by omega
  clear hn
  have hmk := make_bytes k (by omega)
  have hcv : (convert 65 9 (.slice (some ⟨w.heap.size, 0, none⟩) k k)).run Try.prog (w.alloc (.cells (byteCells (List.replicate k 0)) 5)) = .ok (str (List.replicate k 0)) (w.alloc (.cells (byteCells (List.replicate k 0)) 5)) := by
    have := conv_blk (P := Try.prog) 65 9 5 Try.underlying65 Try.underlying5 Try.underlying9 (w.alloc (.cells (byteCells (List.replicate k 0)) 5)) w.heap.size k (List.replicate k 0) (heap_alloc_new _ _)
    rwa [List.length_replicate] at this
  go_enter Try.func40, Try.ntmps40
  go_wp2
  go_ret2
  exact ⟨rfl, (Below.refl _ _).alloc (Nat.le_refl _) _⟩
end Go.Proofs.Ytmidoghjacmdcaa
