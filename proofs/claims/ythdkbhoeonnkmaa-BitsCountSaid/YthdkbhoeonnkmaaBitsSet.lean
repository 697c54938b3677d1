/- Layer 6 (bits): the walk of BitsSet. -/
import Derived.Test.YthdkbhoeonnkmaaBits9
namespace Go.Proofs.Ythdkbhoeonnkmaa
open Go.RowKit
set_option linter.unusedVariables false
set_option linter.unusedSimpArgs false
set_option maxRecDepth 10000
set_option maxHeartbeats 800000 in
theorem bset_far (l : List UInt8) (n : Nat) (on : Bool) (w : World) (hs : l.length ≤ maxLen) (h : 200 < l.length ∨ l = []) :
    Calls Try.prog 4 #[str l, .int .u16 n, .bool on] w fun e w' => e = .returned (.bool true) ∧ Below w.heap.size w w' := by
  unfold maxLen at hs
  rcases h with h | h
  · go_enter Try.func4, Try.ntmps4
    go_wp2_with fail
    refine (alive6_any _).mono ?_
    rintro e w1 ⟨rfl, hb1⟩
    go_wp2_with fail
    go_ret
    exact ⟨rfl, hb1⟩
  · subst h
    go_enter Try.func4, Try.ntmps4
    go_wp2_with fail
    refine (alive6_any _).mono ?_
    rintro e w1 ⟨rfl, hb1⟩
    go_wp2_with fail
    go_ret
    exact ⟨rfl, hb1⟩
set_option maxRecDepth 100000 in
set_option maxHeartbeats 4000000 in
theorem bset_near (l : List UInt8) (n : Nat) (on : Bool) (w : World) (hn : n < 65536) (h1 : l.length ≤ 200) (h2 : l ≠ []) :
    Calls Try.prog 4 #[str l, .int .u16 n, .bool on] w fun e w' => e = .returned (.bool true) ∧ Below w.heap.size w w' := by
  have hlp : 0 < l.length := List.length_pos_iff.2 h2
  obtain ⟨i, hi⟩ : ∃ i, i = n % (8 * l.length) := ⟨_, rfl⟩
  have hil : i < 8 * l.length := by rw [hi]; exact Nat.mod_lt _ (by omega)
  have hpk : (n : Int) % (8 * (l.length : Int)) = (i : Int) := by rw [hi]; simp
  have hlt := setL_length l i on
  have e1 := Lib.hid (setL_twice l i on hil)
  have e2 := Lib.hid (setL_back l i on hil)
  have e3 := Lib.hid fun j => setL_bit l i j on hil
  have s1 := Lib.hid fun W => set_ok l i on W (by omega) hil
  have s2 := fun W => set_ok (setL l i on) i on W (by rw [hlt]; omega) (by rw [hlt]; omega)
  rw [e1.out] at s2
  have s3 := fun W => set_ok (setL l i on) i (bitL l i) W (by rw [hlt]; omega) (by rw [hlt]; omega)
  rw [e2.out] at s3
  have g1 := Lib.hid fun j W hj => get_ok l j W (by omega) hj
  have g2 := fun j W (hj : j < 8 * l.length) => get_ok (setL l i on) j W (by rw [hlt]; omega) (by rw [hlt]; omega)
  have S2 := Lib.hid s2
  have S3 := Lib.hid s3
  have G2 := Lib.hid g2
  clear s2 s3 g2 hi
  generalize setL l i on = t at *
  have he : l.isEmpty = false := by simpa using h2
  have d0 : decide (200 < (l.length : Int)) = false := by simp; omega
  have hnz : ¬ (8 * (l.length : Int) = 0) := by omega
  clear h2
  go_enter Try.func4, Try.ntmps4
  go_wp2_with fail
  refine (s1.out _).mono ?_
  rintro e w1 ⟨rfl, hb1⟩
  go_wp2_with fail
  refine (S2.out _).mono ?_
  rintro e w2 ⟨rfl, hb2⟩
  have hb2 := chain hb1 hb2
  clear hb1
  go_wp2_with fail
  go_loop [12] (fun k => ∃ j : Nat, j ≤ 8 * l.length ∧ k = .int .i64 j) (fun k => 8 * l.length - (intOf k).toNat)
  case atStart => exact ⟨0, Nat.zero_le _, rfl⟩
  case round =>
    obtain ⟨j, hj, rfl⟩ := hrel
    by_cases hlt2 : j < 8 * l.length
    · have hji : (j : Int) < 8 * (l.length : Int) := by omega
      go_wp2_with fail
      refine (g1.out j _ hlt2).mono ?_
      rintro e w3 ⟨rfl, rfl⟩
      go_wp2_with fail
      refine (G2.out j _ hlt2).mono ?_
      rintro e w4 ⟨rfl, rfl⟩
      have hb := e3.out j
      by_cases hji2 : j = i
      · rw [if_pos hji2] at hb
        subst hji2
        go_wp2_with fail
        go_round
        case rel => exact ⟨j + 1, by omega, by go_num⟩
        case measure => simp [intOf]; omega
      · rw [if_neg hji2] at hb
        have hne : ((j : Int) == (i : Int)) = false := by simp; omega
        go_wp2_with fail
        go_round
        case rel => exact ⟨j + 1, by omega, by go_num⟩
        case measure => simp [intOf]; omega
    · have : j = 8 * l.length := by omega
      go_wp2_with fail
      refine (g1.out i _ hil).mono ?_
      rintro e w3 ⟨rfl, rfl⟩
      go_wp2_with fail
      refine (S3.out _).mono ?_
      rintro e w4 ⟨rfl, hb4⟩
      have hb4 := chain hb2 hb4
      clear hb2
      go_wp2_with fail
      refine (alive6_any _).mono ?_
      rintro e w5 ⟨rfl, hb5⟩
      go_wp2_with fail
      go_ret
      exact ⟨rfl, chain hb4 hb5⟩
theorem u16_range {n : Int} (h : (Lit.int .u16 n).wf = true) : 0 ≤ n ∧ n < 65536 := by
  have h2 : IntKind.u16.min ≤ n ∧ n ≤ IntKind.u16.max := by simpa [Lit.wf] using h
  have h3 : IntKind.u16.min = 0 := rfl
  have h4 : IntKind.u16.max = 65535 := rfl
  omega
/-- The walk of BitsSet. -/
theorem walk_BitsSet (a : ByteArray) (n : Int) (on : Bool) (ha : a.size ≤ 140737488351232) (wn : (Lit.int .u16 n).wf = true) (w : World) :
    Calls Try.prog 4 #[.string a, .int .u16 n, .bool on] w fun e w' => e = .returned (.bool true) ∧ Below w.heap.size w w' := by
  obtain ⟨l, rfl⟩ : ∃ l : List UInt8, a = ⟨l.toArray⟩ := ⟨a.data.toList, rfl⟩
  have hs2 : l.length ≤ 140737488351232 := by simpa [ByteArray.size] using ha
  have hs : l.length ≤ maxLen := by simp only [maxLen]; omega
  have hr := u16_range wn
  obtain ⟨m, rfl⟩ : ∃ m : Nat, n = m := ⟨n.toNat, by omega⟩
  by_cases h : 200 < l.length ∨ l = []
  · exact bset_far l m on w hs h
  · exact bset_near l m on w (by omega) (by omega) (fun e => h (.inr e))
end Go.Proofs.Ythdkbhoeonnkmaa
