/- Layer 6 (bits): the walk of BitsTell. -/
import Derived.Test.YthdkbhoeonnkmaaBits9
namespace Go.Proofs.Ythdkbhoeonnkmaa
open Go.RowKit
set_option linter.unusedVariables false
set_option linter.unusedSimpArgs false
set_option maxRecDepth 10000
set_option maxHeartbeats 800000 in
theorem tell_far (l : List UInt8) (i k n : Int) (on : Bool) (w : World) (hs : l.length ≤ maxLen) (h : 1024 < l.length ∨ 131072 < n) :
    Calls Try.prog 3 #[str l, .int .i64 i, .int .i64 k, .int .i64 n, .bool on] w fun e w' => e = .returned (.bool true) ∧ Below w.heap.size w w' := by
  unfold maxLen at hs
  by_cases h1 : 1024 < l.length
  all_goals
    first | (have h2 : 131072 < n := by omega) | skip
    clear h
    go_enter Try.func3, Try.ntmps3
    go_wp2_with fail
    refine (alive6_any _).mono ?_
    rintro e w1 ⟨rfl, hb1⟩
    go_wp2_with fail
    go_ret
    exact ⟨rfl, hb1⟩
set_option maxRecDepth 100000 in
set_option maxHeartbeats 4000000 in
theorem tell_near (l : List UInt8) (i k n : Int) (on : Bool) (w : World) (h1 : l.length ≤ 1024) (h2 : n ≤ 131072) :
    Calls Try.prog 3 #[str l, .int .i64 i, .int .i64 k, .int .i64 n, .bool on] w fun e w' => e = .returned (.bool true) ∧ Below w.heap.size w w' := by
  obtain ⟨b, E1, g1, g2⟩ := get_both l i (by omega)
  obtain ⟨s, E2, s1, s2⟩ := set_both l i on (by omega)
  obtain ⟨t, E3, f1, f2⟩ := fill_both l i k on (by omega)
  obtain ⟨p, is, l1, l2⟩ := least_both l n on (by omega)
  obtain ⟨c, c1, c2⟩ := count_both l n (by omega)
  obtain ⟨u, E4, m1, m2⟩ := make_both n
  have G1 := Lib.hid g1
  have G2 := Lib.hid g2
  have S1 := Lib.hid s1
  have S2 := Lib.hid s2
  have F1 := Lib.hid f1
  have F2 := Lib.hid f2
  have L1 := Lib.hid l1
  have L2 := Lib.hid l2
  have C1 := Lib.hid c1
  have C2 := Lib.hid c2
  have M1 := Lib.hid m1
  have M2 := Lib.hid m2
  clear g1 g2 s1 s2 f1 f2 l1 l2 c1 c2 m1 m2
  go_enter Try.func3, Try.ntmps3
  go_wp2_with fail
  refine (G1.out _).mono ?_
  rintro e w1 ⟨rfl, rfl⟩
  go_wp2_with fail
  refine (G2.out _).mono ?_
  rintro e w2 ⟨rfl, rfl⟩
  go_wp2_with fail
  refine (S1.out _).mono ?_
  rintro e w3 ⟨rfl, hb3⟩
  go_wp2_with fail
  refine (S2.out _).mono ?_
  rintro e w4 ⟨rfl, hb4⟩
  have hb4 := chain hb3 hb4
  clear hb3
  go_wp2_with fail
  refine (F1.out _).mono ?_
  rintro e w5 ⟨rfl, hb5⟩
  have hb5 := chain hb4 hb5
  clear hb4
  go_wp2_with fail
  refine (F2.out _).mono ?_
  rintro e w6 ⟨rfl, hb6⟩
  have hb6 := chain hb5 hb6
  clear hb5
  go_wp2_with fail
  refine (L1.out _).mono ?_
  rintro e w7 ⟨rfl, hb7⟩
  have hb7 := chain hb6 hb7
  clear hb6
  go_wp2_with fail
  refine (L2.out _).mono ?_
  rintro e w8 ⟨rfl, rfl⟩
  go_wp2_with fail
  refine (M1.out _).mono ?_
  rintro e w9 ⟨rfl, hb9⟩
  have hb9 := chain hb7 hb9
  clear hb7
  go_wp2_with fail
  refine (M2.out _).mono ?_
  rintro e w10 ⟨rfl, hb10⟩
  have hb10 := chain hb9 hb10
  clear hb9
  go_wp2_with fail
  refine (C1.out _).mono ?_
  rintro e w11 ⟨rfl, hb11⟩
  have hb11 := chain hb10 hb11
  clear hb10
  go_wp2_with fail
  refine (C2.out _).mono ?_
  rintro e w12 ⟨rfl, rfl⟩
  go_wp2_with fail
  refine (alive6_any _).mono ?_
  rintro e w13 ⟨rfl, hb13⟩
  go_wp2_with fail
  go_ret
  exact ⟨rfl, chain hb11 hb13⟩
/-- The walk of BitsTell. -/
theorem walk_BitsTell (a : ByteArray) (i k n : Int) (on : Bool) (ha : a.size ≤ 140737488351232) (wi : (Lit.int .i64 i).wf = true) (wk : (Lit.int .i64 k).wf = true) (wn : (Lit.int .i64 n).wf = true) (w : World) :
    Calls Try.prog 3 #[.string a, .int .i64 i, .int .i64 k, .int .i64 n, .bool on] w fun e w' => e = .returned (.bool true) ∧ Below w.heap.size w w' := by
  obtain ⟨l, rfl⟩ : ∃ l : List UInt8, a = ⟨l.toArray⟩ := ⟨a.data.toList, rfl⟩
  have hs2 : l.length ≤ 140737488351232 := by simpa [ByteArray.size] using ha
  have hs : l.length ≤ maxLen := by simp only [maxLen]; omega
  by_cases h : 1024 < l.length ∨ 131072 < n
  · exact tell_far l i k n on w hs h
  · exact tell_near l i k n on w (by omega) (by omega)
end Go.Proofs.Ythdkbhoeonnkmaa
