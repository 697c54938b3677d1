/- Layer 6 (bits): the walk of BitsCount. -/
import Derived.Test.YthdkbhoeonnkmaaBitsSet
namespace Go.Proofs.Ythdkbhoeonnkmaa
open Go.RowKit
set_option linter.unusedVariables false
set_option linter.unusedSimpArgs false
set_option maxRecDepth 10000
set_option maxHeartbeats 800000 in
theorem bcount_far (l : List UInt8) (a b : Nat) (on : Bool) (w : World) (hs : l.length ≤ maxLen) (h : 200 < l.length ∨ l = []) :
    Calls Try.prog 5 #[str l, .int .u16 a, .int .u16 b, .bool on] w fun e w' => e = .returned (.bool true) ∧ Below w.heap.size w w' := by
  unfold maxLen at hs
  rcases h with h | h
  · go_enter Try.func5, Try.ntmps5
    go_wp2_with fail
    refine (alive6_any _).mono ?_
    rintro e w1 ⟨rfl, hb1⟩
    go_wp2_with fail
    go_ret
    exact ⟨rfl, hb1⟩
  · subst h
    go_enter Try.func5, Try.ntmps5
    go_wp2_with fail
    refine (alive6_any _).mono ?_
    rintro e w1 ⟨rfl, hb1⟩
    go_wp2_with fail
    go_ret
    exact ⟨rfl, hb1⟩
set_option maxRecDepth 100000 in
set_option maxHeartbeats 4000000 in
theorem bcount_near (l : List UInt8) (a b : Nat) (on : Bool) (w : World) (ha : a < 65536) (hb : b < 65536) (h1 : l.length ≤ 200) (h2 : l ≠ []) :
    Calls Try.prog 5 #[str l, .int .u16 a, .int .u16 b, .bool on] w fun e w' => e = .returned (.bool true) ∧ Below w.heap.size w w' := by
  have hlp : 0 < l.length := List.length_pos_iff.2 h2
  obtain ⟨x, hx⟩ : ∃ x, x = a % (8 * l.length + 1) := ⟨_, rfl⟩
  obtain ⟨y, hy⟩ : ∃ y, y = b % (8 * l.length + 1) := ⟨_, rfl⟩
  have hx1 : x < 8 * l.length + 1 := by rw [hx]; exact Nat.mod_lt _ (by omega)
  have hy1 : y < 8 * l.length + 1 := by rw [hy]; exact Nat.mod_lt _ (by omega)
  have hpx : (a : Int) % (8 * (l.length : Int) + 1) = (x : Int) := by rw [hx]; simp
  have hpy : (b : Int) % (8 * (l.length : Int) + 1) = (y : Int) := by rw [hy]; simp
  have he : l.isEmpty = false := by simpa using h2
  have d0 : decide (200 < (l.length : Int)) = false := by simp; omega
  have hnz : ¬ (8 * (l.length : Int) + 1 = 0) := by omega
  obtain ⟨f, hf⟩ : ∃ f, f = min x y := ⟨_, rfl⟩
  obtain ⟨t, ht⟩ : ∃ t, t = max x y := ⟨_, rfl⟩
  have hmn : min (x : Int) (y : Int) = (f : Int) := by omega
  have hmx : max (x : Int) (y : Int) = (t : Int) := by omega
  have hft : f ≤ t := by omega
  have htl : t ≤ 8 * l.length := by omega
  obtain ⟨m, hm⟩ : ∃ m, t = f + m := ⟨t - f, by omega⟩
  have g1 := Lib.hid fun j W hj => get_ok l j W (by omega) hj
  have F1 := Lib.hid fun W => fill_ok l f m on W (by omega) (by omega)
  have cnt := fun (s : List UInt8) (hs : s.length = l.length) (q : Nat) (hq : q ≤ 8 * l.length) W => count_any s q W (by omega)
  have cnt2 : ∀ (s : List UInt8), s.length = l.length → ∀ q : Nat, q ≤ 8 * l.length → ∀ W, Calls Try.prog 17 #[str s, .int .i64 q] W fun e w' => e = .returned (.int .i64 (countL s q : Nat)) ∧ Below W.heap.size W w' := by
    intro s hs q hq W
    have := cnt s hs q hq W
    rwa [show min (q : Int).toNat (8 * s.length) = q by rw [hs]; omega] at this
  have c1 : ∀ W, Calls Try.prog 17 #[str l, .int .i64 (8 * (l.length : Int))] W fun e w' => e = .returned (.int .i64 (countL l (8 * l.length) : Nat)) ∧ Below W.heap.size W w' := fun W => by
    have := cnt2 l rfl (8 * l.length) (Nat.le_refl _) W
    simpa using this
  have c2 : ∀ W, Calls Try.prog 17 #[str (fillL l f on m), .int .i64 (8 * (l.length : Int))] W fun e w' => e = .returned (.int .i64 (countL (fillL l f on m) (8 * l.length) : Nat)) ∧ Below W.heap.size W w' := fun W => by
    have := cnt2 (fillL l f on m) (by simp) (8 * l.length) (Nat.le_refl _) W
    simpa using this
  have c3 : ∀ W, Calls Try.prog 17 #[str l, .int .i64 0] W fun e w' => e = .returned (.int .i64 0) ∧ Below W.heap.size W w' := fun W => by
    have := cnt2 l rfl 0 (Nat.zero_le _) W
    simpa [countL] using this
  have C3 := Lib.hid c3
  have C0 := Lib.hid (cnt2 l rfl)
  have C1 := Lib.hid c1
  have C2 := Lib.hid c2
  have L1 := fun W => least_any l t on W (by omega)
  rw [show min (t : Int).toNat (8 * l.length) = t by omega] at L1
  have k1 := countL_add l f m
  rw [← hm] at k1
  have k2 := countL_fill l f on m (8 * l.length - t) (by omega)
  rw [← hm, show t + (8 * l.length - t) = 8 * l.length by omega] at k2
  have k3 := countL_le l (8 * l.length)
  have k4 := countL_le (fillL l f on m) (8 * l.length)
  have k5 := countL_le l t
  have K := Lib.hid (And.intro k1 (And.intro k2 (And.intro k3 (And.intro k4 k5))))
  have L1 := Lib.hid L1
  rw [← hm] at F1
  have Hm := Lib.hid hm
  clear h2 hx hy c1 c2 c3 cnt cnt2 k1 k2 k3 k4 k5 hm hf ht
  generalize hu : fillL l f on m = u at F1 C2 K
  clear hu
  go_enter Try.func5, Try.ntmps5
  go_wp2_with fail
  go_quiet (fail)
  go_wp2_with fail
  clear hpx hpy hmn hmx
  go_loopw [12, 13] (fun n i wr => ∃ k : Nat, f + k ≤ t ∧ i = .int .i64 ((f + k : Nat) : Int) ∧ n = .int .i64 (rowL l f k : Nat) ∧ Below w.heap.size w wr) (fun _ i _ => t - (intOf i).toNat)
  case atStart => exact ⟨0, hft, rfl, rfl, below_drewN (Below.refl _ _) _⟩
  case round =>
    obtain ⟨k, hk, rfl, rfl, hB⟩ := hrel
    have hrl := rowL_le l f k
    obtain ⟨j, hj⟩ : ∃ j, j = f + k := ⟨_, rfl⟩
    rw [← hj]
    have Hj := Lib.hid hj
    have hjt : j ≤ t := by omega
    have hkb : k ≤ 2000 := by omega
    clear hk
    by_cases hlt : j < t
    · have hr := rowL.eq_2 l f k
      rw [← hj] at hr
      have Hr := Lib.hid hr
      clear hr hj
      generalize rowL l f k = q at *
      go_wp2_with fail
      refine (g1.out j _ (by omega)).mono ?_
      rintro e w3 ⟨rfl, rfl⟩
      cases hb : bitL l j
      · have Hb := Lib.hid hb
        clear hb
        go_wp2_with fail
        go_roundw
        case rel => exact ⟨k + 1, by have := Hj.out; omega, by rw [show f + (k + 1) = j + 1 by have := Hj.out; omega]; go_num, by rw [Hr.out, Hb.out]; rfl, hB⟩
        case measure => simp [intOf]; omega
      · have Hb := Lib.hid hb
        clear hb
        go_wp2_with fail
        go_roundw
        case rel => exact ⟨k + 1, by have := Hj.out; omega, by rw [show f + (k + 1) = j + 1 by have := Hj.out; omega]; go_num, by rw [Hr.out, Hb.out]; simp only [if_true]; go_num, hB⟩
        case measure => simp [intOf]; omega
    · have hkm : k = m := by have := Hm.out; omega
      subst hkm
      clear hj
      generalize rowL l f k = N at *
      obtain ⟨k1, k2, k3, k4, k5⟩ := K.out
      generalize countL l (8 * l.length) = cl at *
      generalize countL u (8 * l.length) = cu at *
      go_wp2_with fail
      refine (F1.out _).mono ?_
      rintro e w4 ⟨rfl, hb4⟩
      go_wp2_with fail
      refine (C1.out _).mono ?_
      rintro e w5 ⟨rfl, hb5⟩
      have hb5 := chain hb4 hb5
      clear hb4
      cases on
      · simp only [Bool.false_eq_true, if_false] at k2
        have e1 : ((countL l t : Nat) : Int) = (countL l f : Int) + (N : Int) := by omega
        have e2 : (cu : Int) = (cl : Int) - (N : Int) := by have := Hm.out; omega
        have b1 : N ≤ 2000 := by omega
        have b2 : cl ≤ 2000 := by omega
        have b3 : cu ≤ 2000 := by omega
        have b4 : countL l t ≤ 2000 := by omega
        have b5 : countL l f ≤ 2000 := by omega
        have E2 := Lib.hid e2
        clear e2 k1 k2
        have E1 := Lib.hid e1
        clear e1
        go_wp2_with fail
        refine (C0.out t htl _).mono ?_
        rintro e w6 ⟨rfl, hb6⟩
        have hb6 := chain hb5 hb6
        clear hb5
        go_wp2_with fail
        refine (C0.out f (by omega) _).mono ?_
        rintro e w7 ⟨rfl, hb7⟩
        have hb7 := chain hb6 hb7
        clear hb6
        have e1 := E1.out
        go_wp2_with fail
        refine (C2.out _).mono ?_
        rintro e w8 ⟨rfl, hb8⟩
        have hb8 := chain hb7 hb8
        clear hb7
        have e2 := E2.out
        go_wp2_with fail
        refine (L1.out _).mono ?_
        rintro e w9 ⟨rfl, hb9⟩
        have hb9 := chain hb8 hb9
        clear hb8 e1 e2
        cases hq : leastL l false t with
        | none =>
          have hct := countL_none l false t ((leastL_none l false t).1 hq)
          simp only [Bool.false_eq_true, if_false] at hct
          have Hct := Lib.hid hct
          clear hct hq
          simp only [leastV]
          go_wp2_with fail
          refine (C3.out _).mono ?_
          rintro e w10 ⟨rfl, hb10⟩
          have hb10 := chain hb9 hb10
          clear hb9
          go_wp2_with fail
          refine (C0.out t htl _).mono ?_
          rintro e w11 ⟨rfl, hb11⟩
          have hb11 := chain hb10 hb11
          clear hb10
          rw [Hct.out]
          go_wp2_with fail
          refine (alive6_any _).mono ?_
          rintro e w12 ⟨rfl, hb12⟩
          go_wp2_with fail
          go_ret
          exact ⟨rfl, hB.trans ((chain hb11 hb12).mono hB.size)⟩
        | some z =>
          obtain ⟨hz, hzb, hzn⟩ := leastL_some l false t z hq
          have hcz := countL_none l false z hzn
          simp only [Bool.false_eq_true, if_false] at hcz
          have Hcz := Lib.hid hcz
          have Hzb := Lib.hid hzb
          clear hcz hq hzn hzb
          simp only [leastV]
          go_wp2_with fail
          refine (C0.out z (by omega) _).mono ?_
          rintro e w10 ⟨rfl, hb10⟩
          have hb10 := chain hb9 hb10
          clear hb9
          rw [Hcz.out]
          go_wp2_with fail
          refine (g1.out z _ (by omega)).mono ?_
          rintro e w11 ⟨rfl, rfl⟩
          rw [Hzb.out]
          go_wp2_with fail
          refine (alive6_any _).mono ?_
          rintro e w12 ⟨rfl, hb12⟩
          go_wp2_with fail
          go_ret
          exact ⟨rfl, hB.trans ((chain hb10 hb12).mono hB.size)⟩
      · simp only [if_true] at k2
        have e1 : ((countL l t : Nat) : Int) = (countL l f : Int) + (N : Int) := by omega
        have e2 : (cu : Int) = (cl : Int) - (N : Int) + (t : Int) - (f : Int) := by have := Hm.out; omega
        have b1 : N ≤ 2000 := by omega
        have b2 : cl ≤ 2000 := by omega
        have b3 : cu ≤ 2000 := by omega
        have b4 : countL l t ≤ 2000 := by omega
        have b5 : countL l f ≤ 2000 := by omega
        have E2 := Lib.hid e2
        clear e2 k1 k2
        have E1 := Lib.hid e1
        clear e1
        go_wp2_with fail
        refine (C0.out t htl _).mono ?_
        rintro e w6 ⟨rfl, hb6⟩
        have hb6 := chain hb5 hb6
        clear hb5
        go_wp2_with fail
        refine (C0.out f (by omega) _).mono ?_
        rintro e w7 ⟨rfl, hb7⟩
        have hb7 := chain hb6 hb7
        clear hb6
        have e1 := E1.out
        go_wp2_with fail
        refine (C2.out _).mono ?_
        rintro e w8 ⟨rfl, hb8⟩
        have hb8 := chain hb7 hb8
        clear hb7
        have e2 := E2.out
        go_wp2_with fail
        refine (L1.out _).mono ?_
        rintro e w9 ⟨rfl, hb9⟩
        have hb9 := chain hb8 hb9
        clear hb8 e1 e2
        cases hq : leastL l true t with
        | none =>
          have hct := countL_none l true t ((leastL_none l true t).1 hq)
          simp only [if_true] at hct
          have Hct := Lib.hid hct
          clear hct hq
          simp only [leastV]
          go_wp2_with fail
          refine (C3.out _).mono ?_
          rintro e w10 ⟨rfl, hb10⟩
          have hb10 := chain hb9 hb10
          clear hb9
          go_wp2_with fail
          refine (C0.out t htl _).mono ?_
          rintro e w11 ⟨rfl, hb11⟩
          have hb11 := chain hb10 hb11
          clear hb10
          rw [Hct.out]
          go_wp2_with fail
          refine (alive6_any _).mono ?_
          rintro e w12 ⟨rfl, hb12⟩
          go_wp2_with fail
          go_ret
          exact ⟨rfl, hB.trans ((chain hb11 hb12).mono hB.size)⟩
        | some z =>
          obtain ⟨hz, hzb, hzn⟩ := leastL_some l true t z hq
          have hcz := countL_none l true z hzn
          simp only [if_true] at hcz
          have Hcz := Lib.hid hcz
          have Hzb := Lib.hid hzb
          clear hcz hq hzn hzb
          simp only [leastV]
          go_wp2_with fail
          refine (C0.out z (by omega) _).mono ?_
          rintro e w10 ⟨rfl, hb10⟩
          have hb10 := chain hb9 hb10
          clear hb9
          rw [Hcz.out]
          go_wp2_with fail
          refine (g1.out z _ (by omega)).mono ?_
          rintro e w11 ⟨rfl, rfl⟩
          rw [Hzb.out]
          go_wp2_with fail
          refine (alive6_any _).mono ?_
          rintro e w12 ⟨rfl, hb12⟩
          go_wp2_with fail
          go_ret
          exact ⟨rfl, hB.trans ((chain hb10 hb12).mono hB.size)⟩
/-- The walk of BitsCount. -/
theorem walk_BitsCount (s : ByteArray) (a b : Int) (on : Bool) (hs : s.size ≤ 140737488351232) (wa : (Lit.int .u16 a).wf = true) (wb : (Lit.int .u16 b).wf = true) (w : World) :
    Calls Try.prog 5 #[.string s, .int .u16 a, .int .u16 b, .bool on] w fun e w' => e = .returned (.bool true) ∧ Below w.heap.size w w' := by
  obtain ⟨l, rfl⟩ : ∃ l : List UInt8, s = ⟨l.toArray⟩ := ⟨s.data.toList, rfl⟩
  have hs2 : l.length ≤ 140737488351232 := by simpa [ByteArray.size] using hs
  have hs : l.length ≤ maxLen := by simp only [maxLen]; omega
  have hr := u16_range wa
  have hr2 := u16_range wb
  obtain ⟨m, rfl⟩ : ∃ m : Nat, a = m := ⟨a.toNat, by omega⟩
  obtain ⟨k, rfl⟩ : ∃ k : Nat, b = k := ⟨b.toNat, by omega⟩
  by_cases h : 200 < l.length ∨ l = []
  · exact bcount_far l m k on w hs h
  · exact bcount_near l m k on w (by omega) (by omega) (by omega) (fun e => h (.inr e))
end Go.Proofs.Ythdkbhoeonnkmaa
