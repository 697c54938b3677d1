/- Layer 6 (bits): Get, and Fill, Set and Make where they refuse. -/
import Derived.Test.YthdkbhoeonnkmaaBits4
import Derived.Test.YthdkbhoeonnkmaaBaseStill
namespace Go.Proofs.Ythdkbhoeonnkmaa
open Go.RowKit Go.Shelf
set_option linter.unusedVariables false
set_option linter.unusedSimpArgs false
set_option maxRecDepth 10000
set_option maxHeartbeats 400000 in
theorem get_bad (l : List UInt8) (i : Int) (w : World) (hl : l.length ≤ 1048576) (hi : i < 0 ∨ 8 * (l.length : Int) ≤ i) :
    Calls Try.prog 7 #[str l, .int .i64 i] w fun e w' => e = .returned (.tuple #[.bool false, .int .i64 2]) ∧ w' = w := by
  by_cases h0 : i < 0
  · clear hi
    go_enter Try.func7, Try.ntmps7
    go_wp2_with fail
    go_ret2
    exact ⟨rfl, rfl⟩
  · have h1 : 8 * (l.length : Int) ≤ i := by omega
    clear hi
    go_enter Try.func7, Try.ntmps7
    go_wp2_with fail
    refine (size_any l _ hl).mono ?_
    rintro e w1 ⟨rfl, rfl⟩
    go_wp2_with fail
    go_ret2
    exact ⟨rfl, rfl⟩
set_option maxHeartbeats 400000 in
theorem get_ok (l : List UInt8) (i : Nat) (w : World) (hl : l.length ≤ 1048576) (hi : i < 8 * l.length) :
    Calls Try.prog 7 #[str l, .int .i64 i] w fun e w' => e = .returned (.tuple #[.bool (bitL l i), .int .i64 0]) ∧ w' = w := by
  go_enter Try.func7, Try.ntmps7
  go_wp2_with fail
  refine (size_any l _ hl).mono ?_
  rintro e w1 ⟨rfl, rfl⟩
  go_wp2_with fail
  refine (isSet_any l i _ hl hi).mono ?_
  rintro e w2 ⟨rfl, rfl⟩
  go_wp2_with fail
  go_ret2
  exact ⟨rfl, rfl⟩
set_option maxHeartbeats 400000 in
theorem fill_bad (l : List UInt8) (a b : Int) (on : Bool) (w : World) (hl : l.length ≤ 1048576) (h : a < 0 ∨ b < a ∨ 8 * (l.length : Int) < b) :
    Calls Try.prog 11 #[str l, .int .i64 a, .int .i64 b, .bool on] w fun e w' => e = .returned (.tuple #[str [], .int .i64 2]) ∧ Below w.heap.size w w' := by
  have hs := Lib.hid fun W => size_any l W hl
  have hb0 : Below w.heap.size w (w.alloc (.cells #[.int .i64 b] 3)) := (Below.refl _ _).alloc (Nat.le_refl _) _
  have Hb0 := Lib.hid hb0
  clear hb0
  by_cases h0 : a < 0
  · clear h
    go_enter Try.func11, Try.ntmps11
    go_wp2_with fail
    go_quiet (fail)
    go_wp2_with fail
    go_ret2
    exact ⟨rfl, below_drewN Hb0.out _⟩
  by_cases h1 : b < a
  · clear h
    go_enter Try.func11, Try.ntmps11
    go_wp2_with fail
    go_quiet (fail)
    go_wp2_with fail
    go_ret2
    exact ⟨rfl, below_drewN Hb0.out _⟩
  · have h2 : 8 * (l.length : Int) < b := by omega
    clear h
    go_enter Try.func11, Try.ntmps11
    go_wp2_with fail
    go_quiet (refine Calls.quiet_of_same (hs.out _))
    go_wp2_with fail
    go_ret2
    exact ⟨rfl, below_drewN Hb0.out _⟩
set_option maxHeartbeats 400000 in
theorem set_bad (l : List UInt8) (i : Int) (on : Bool) (w : World) (hl : l.length ≤ 1048576) (hi : i < 0 ∨ 8 * (l.length : Int) ≤ i) :
    Calls Try.prog 9 #[str l, .int .i64 i, .bool on] w fun e w' => e = .returned (.tuple #[str [], .int .i64 2]) ∧ w' = w := by
  go_enter Try.func9, Try.ntmps9
  go_wp2_with fail
  refine (get_bad l i _ hl hi).mono ?_
  rintro e w1 ⟨rfl, rfl⟩
  go_wp2_with fail
  go_ret2
  exact ⟨rfl, rfl⟩
set_option maxHeartbeats 400000 in
theorem make_bad (n : Int) (w : World) (hn : n < 0 ∨ 65536 < n) :
    Calls Try.prog 15 #[.int .i64 n] w fun e w' => e = .returned (.tuple #[str [], .int .i64 2]) ∧ w' = w := by
  rcases hn with hn | hn
  all_goals
    go_enter Try.func15, Try.ntmps15
    go_wp2
    go_ret2
    exact ⟨rfl, rfl⟩
end Go.Proofs.Ythdkbhoeonnkmaa
