/- Layer 6 (bits): the chapter's examples; the code and the document's answer, side by side. -/
import Derived.Test.YthdkbhoeonnkmaaBits8
namespace Go.Proofs.Ythdkbhoeonnkmaa
open Go.RowKit
set_option linter.unusedVariables false
set_option linter.unusedSimpArgs false
set_option maxRecDepth 10000
set_option maxHeartbeats 1000000 in
theorem alive6_any (w : World) : Calls Try.prog 6 #[] w fun e w' => e = .returned (.bool true) ∧ Below w.heap.size w w' := by
  have h1 := fun W => set_ok [0, 0] 9 true W (by decide) (by decide)
  rw [show setL [0, 0] 9 true = [0, 2] by decide] at h1
  have h2 := fun W => get_ok [0, 2] 9 W (by decide) (by decide)
  rw [show bitL [0, 2] 9 = true by decide] at h2
  have h3 := fun W => least_any [7] 8 false W (by decide)
  rw [show leastL [7] false (min (8 : Int).toNat (8 * [(7 : UInt8)].length)) = some 3 by decide] at h3
  have h4 := fun W => least_any [255] 20 false W (by decide)
  rw [show leastL [255] false (min (20 : Int).toNat (8 * [(255 : UInt8)].length)) = none by decide] at h4
  have h5 := fun W => get_bad [97] 8 W (by decide) (by decide)
  have h6 := fun W => count_any [255, 1] 9 W (by decide)
  rw [show countL [255, 1] (min (9 : Int).toNat (8 * [(255 : UInt8), 1].length)) = 9 by decide] at h6
  simp only [leastV] at h3 h4
  have H1 := Lib.hid h1
  have H2 := Lib.hid h2
  have H3 := Lib.hid h3
  have H4 := Lib.hid h4
  have H5 := Lib.hid h5
  have H6 := Lib.hid h6
  clear h1 h2 h3 h4 h5 h6
  go_enter Try.func6, Try.ntmps6
  go_wp2_with fail
  refine (H1.out _).mono ?_
  rintro e w1 ⟨rfl, hb1⟩
  go_wp2_with fail
  refine (H2.out _).mono ?_
  rintro e w2 ⟨rfl, rfl⟩
  go_wp2_with fail
  refine (H3.out _).mono ?_
  rintro e w3 ⟨rfl, hb3⟩
  go_wp2_with fail
  refine (H4.out _).mono ?_
  rintro e w4 ⟨rfl, hb4⟩
  go_wp2_with fail
  refine (H5.out _).mono ?_
  rintro e w5 ⟨rfl, rfl⟩
  go_wp2_with fail
  refine (H6.out _).mono ?_
  rintro e w6 ⟨rfl, hb6⟩
  go_wp2_with fail
  go_ret
  exact ⟨rfl, chain (chain (chain hb1 hb3) hb4) hb6⟩
theorem get_both (l : List UInt8) (i : Int) (hl : l.length ≤ 1048576) : ∃ (b : Bool) (E : Int), (∀ w, Calls Try.prog 7 #[str l, .int .i64 i] w fun e w' => e = .returned (.tuple #[.bool b, .int .i64 E]) ∧ w' = w) ∧
    (∀ w, Calls Try.prog 8 #[str l, .int .i64 i] w fun e w' => e = .returned (.tuple #[.bool b, .int .i64 E]) ∧ w' = w) := by
  by_cases h : i < 0 ∨ 8 * (l.length : Int) ≤ i
  · exact ⟨_, _, fun w => get_bad l i w hl h, fun w => refGet_bad l i w hl h⟩
  · obtain ⟨n, rfl⟩ : ∃ n : Nat, i = n := ⟨i.toNat, by omega⟩
    exact ⟨_, _, fun w => get_ok l n w hl (by omega), fun w => refGet6_ok l n w hl (by omega)⟩
theorem set_both (l : List UInt8) (i : Int) (on : Bool) (hl : l.length ≤ 1048576) : ∃ (s : List UInt8) (E : Int), (∀ w, Calls Try.prog 9 #[str l, .int .i64 i, .bool on] w fun e w' => e = .returned (.tuple #[str s, .int .i64 E]) ∧ Below w.heap.size w w') ∧
    (∀ w, Calls Try.prog 10 #[str l, .int .i64 i, .bool on] w fun e w' => e = .returned (.tuple #[str s, .int .i64 E]) ∧ Below w.heap.size w w') := by
  by_cases h : i < 0 ∨ 8 * (l.length : Int) ≤ i
  · exact ⟨_, _, fun w => (set_bad l i on w hl h).mono (by rintro e w' ⟨h, rfl⟩; exact ⟨h, Below.refl _ _⟩), fun w => (refSet_bad l i on w hl h).mono (by rintro e w' ⟨h, rfl⟩; exact ⟨h, Below.refl _ _⟩)⟩
  · obtain ⟨n, rfl⟩ : ∃ n : Nat, i = n := ⟨i.toNat, by omega⟩
    exact ⟨_, _, fun w => set_ok l n on w hl (by omega), fun w => refSet_ok l n on w hl (by omega)⟩
theorem fill_both (l : List UInt8) (a b : Int) (on : Bool) (hl : l.length ≤ 1048576) : ∃ (s : List UInt8) (E : Int), (∀ w, Calls Try.prog 11 #[str l, .int .i64 a, .int .i64 b, .bool on] w fun e w' => e = .returned (.tuple #[str s, .int .i64 E]) ∧ Below w.heap.size w w') ∧
    (∀ w, Calls Try.prog 12 #[str l, .int .i64 a, .int .i64 b, .bool on] w fun e w' => e = .returned (.tuple #[str s, .int .i64 E]) ∧ Below w.heap.size w w') := by
  by_cases h : a < 0 ∨ b < a ∨ 8 * (l.length : Int) < b
  · exact ⟨_, _, fun w => fill_bad l a b on w hl h, fun w => (refFill_bad l a b on w hl h).mono (by rintro e w' ⟨h, rfl⟩; exact ⟨h, Below.refl _ _⟩)⟩
  · obtain ⟨n, rfl⟩ : ∃ n : Nat, a = n := ⟨a.toNat, by omega⟩
    obtain ⟨m, rfl⟩ : ∃ m : Nat, b = ((n + m : Nat) : Int) := ⟨(b - n).toNat, by omega⟩
    exact ⟨_, _, fun w => fill_ok l n m on w hl (by omega), fun w => refFill_ok l n m on w hl (by omega)⟩
theorem least_both (l : List UInt8) (n : Int) (on : Bool) (hl : l.length ≤ 1048576) : ∃ (k : Int) (b : Bool), (∀ w, Calls Try.prog 13 #[str l, .int .i64 n, .bool on] w fun e w' => e = .returned (.tuple #[.int .i64 k, .bool b]) ∧ Below w.heap.size w w') ∧
    (∀ w, Calls Try.prog 14 #[str l, .int .i64 n, .bool on] w fun e w' => e = .returned (.tuple #[.int .i64 k, .bool b]) ∧ w' = w) := by
  have h1 := fun w => least_any l n on w hl
  have h2 := fun w => refLeast_any l n on w hl
  generalize leastL l on (min n.toNat (8 * l.length)) = o at h1 h2
  cases o with
  | none => exact ⟨_, _, h1, h2⟩
  | some k => exact ⟨_, _, h1, h2⟩
theorem count_both (l : List UInt8) (n : Int) (hl : l.length ≤ 1048576) : ∃ k : Int, (∀ w, Calls Try.prog 17 #[str l, .int .i64 n] w fun e w' => e = .returned (.int .i64 k) ∧ Below w.heap.size w w') ∧
    (∀ w, Calls Try.prog 18 #[str l, .int .i64 n] w fun e w' => e = .returned (.int .i64 k) ∧ w' = w) :=
  ⟨_, fun w => count_any l n w hl, fun w => refCount_any l n w hl⟩
theorem make_both (n : Int) : ∃ (s : List UInt8) (E : Int), (∀ w, Calls Try.prog 15 #[.int .i64 n] w fun e w' => e = .returned (.tuple #[str s, .int .i64 E]) ∧ Below w.heap.size w w') ∧
    (∀ w, Calls Try.prog 16 #[.int .i64 n] w fun e w' => e = .returned (.tuple #[str s, .int .i64 E]) ∧ Below w.heap.size w w') := by
  by_cases h : n < 0 ∨ 65536 < n
  · exact ⟨_, _, fun w => (make_bad n w h).mono (by rintro e w' ⟨h, rfl⟩; exact ⟨h, Below.refl _ _⟩), fun w => (refMake_bad n w h).mono (by rintro e w' ⟨h, rfl⟩; exact ⟨h, Below.refl _ _⟩)⟩
  · obtain ⟨m, rfl⟩ : ∃ m : Nat, n = m := ⟨n.toNat, by omega⟩
    exact ⟨_, _, fun w => make_ok m w (by omega), fun w => refMake_ok m w (by omega)⟩
end Go.Proofs.Ythdkbhoeonnkmaa
