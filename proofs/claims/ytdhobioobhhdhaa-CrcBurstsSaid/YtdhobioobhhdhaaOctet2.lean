/- Layer 1 (octet), continued. -/
import Derived.Test.YtdhobioobhhdhaaOctet
namespace Go.Proofs.Ytdhobioobhhdhaa
open Go.RowKit
set_option linter.unusedVariables false
set_option maxHeartbeats 400000 in
theorem cut_neg (l : List UInt8) (n : Int) (w : World) (hn : n < 0) :
    Calls Try.prog 16 #[str l, .int .i64 n] w fun e w' => e = .returned (.tuple #[str [], str [], .int .i64 2]) ∧ Below w.heap.size w w' := by
  go_enter Try.func16, Try.ntmps16
  go_wp2
  go_ret3
  exact ⟨rfl, Below.refl _ _⟩
set_option maxHeartbeats 400000 in
theorem cut_far (l : List UInt8) (n : Int) (w : World) (hs : l.length ≤ maxLen) (hn2 : (l.length : Int) < n) :
    Calls Try.prog 16 #[str l, .int .i64 n] w fun e w' => e = .returned (.tuple #[str [], str [], .int .i64 6]) ∧ Below w.heap.size w w' := by
  unfold maxLen at hs
  go_enter Try.func16, Try.ntmps16
  go_wp2
  go_ret3
  exact ⟨rfl, ((Below.refl _ _).alloc (Nat.le_refl _) _).alloc (by simp) _⟩
theorem ret3_str {a b c d : ByteArray} {x : Value} (h : a = b) (k : c = d) : Ending.returned (.tuple #[.string a, .string c, x]) = .returned (.tuple #[.string b, .string d, x]) := by rw [h, k]
set_option maxHeartbeats 400000 in
theorem cut_ok (l : List UInt8) (i : Int) (n : Nat) (w : World) (hs : l.length ≤ maxLen) (hi : i = n) (hn2 : n ≤ l.length) :
    Calls Try.prog 16 #[str l, .int .i64 i] w fun e w' => e = .returned (.tuple #[str (l.take n), str (l.drop n), .int .i64 0]) ∧ Below w.heap.size w w' := by
  subst hi
  unfold maxLen at hs
  go_enter Try.func16, Try.ntmps16
  go_wp2
  go_quiet (fail)
  go_wp2
  go_ret3
  exact ⟨ret3_str (by simp) (by simp), below_drewN (((Below.refl _ _).alloc (Nat.le_refl _) _).alloc (by simp) _) _⟩
theorem cons_append (x : UInt8) (l : List UInt8) : Value.string ((⟨#[x]⟩ : ByteArray) ++ ⟨l.toArray⟩) = str (x :: l) := str_append [x] l
theorem cons_append' (x : UInt8) (l : List UInt8) : (⟨#[x]⟩ : ByteArray) ++ ⟨l.toArray⟩ = ⟨(x :: l).toArray⟩ := by
  have := str_append [x] l
  injection this
end Go.Proofs.Ytdhobioobhhdhaa
