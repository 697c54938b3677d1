/- Layer 6 (bits): Set, Make; the document's own answers. -/
import Derived.Test.YthdkbhoeonnkmaaBits6
import Derived.BigRegion
import Derived.Test.YthdkbhoeonnkmaaShelf
namespace Go.Proofs.Ythdkbhoeonnkmaa
open Go.RowKit
set_option linter.unusedVariables false
set_option linter.unusedSimpArgs false
set_option maxRecDepth 10000
set_option maxHeartbeats 400000 in
theorem set_ok (l : List UInt8) (i : Nat) (on : Bool) (w : World) (hl : l.length ≤ 1048576) (hi : i < 8 * l.length) :
    Calls Try.prog 9 #[str l, .int .i64 i, .bool on] w fun e w' => e = .returned (.tuple #[str (setL l i on), .int .i64 0]) ∧ Below w.heap.size w w' := by
  have hf := Lib.hid fun W => fill_ok l i 1 on W hl hi
  go_enter Try.func9, Try.ntmps9
  go_wp2_with fail
  refine (get_ok l i _ hl hi).mono ?_
  rintro e w1 ⟨rfl, rfl⟩
  go_wp2_with fail
  refine (hf.out _).mono ?_
  rintro e w1 ⟨rfl, hb⟩
  go_wp2_with fail
  go_ret2
  exact ⟨rfl, hb⟩
theorem nought_repeat (k : Nat) : Lib.repeatL (⟨#[0]⟩ : ByteArray).data.toList k = List.replicate k 0 := by
  induction k with
  | zero => rfl
  | succ k ih => rw [Lib.repeatL, ih]; rfl
theorem noughts (k : Nat) (w : World) (hk : k ≤ 65536) :
    Calls Try.prog 25 #[.string ⟨#[0]⟩, .int .i64 k] w fun e w' => e = .returned (str (List.replicate k 0)) ∧ Below w.heap.size w w' := by
  have h := Try.strings_Repeat ⟨#[0]⟩ k w (by omega) (by show 1 * k ≤ 140737488355328; omega)
  rwa [nought_repeat] at h
set_option maxHeartbeats 400000 in
theorem make_ok (n : Nat) (w : World) (hn : n ≤ 65536) :
    Calls Try.prog 15 #[.int .i64 n] w fun e w' => e = .returned (.tuple #[str (List.replicate ((n + 7) / 8) 0), .int .i64 0]) ∧ Below w.heap.size w w' := by
  have h8 := Lib.hid fun W => noughts ((n + 7) / 8) W (by omega)
  have h9 : ((n : Int) + 8 - 1) / 8 = (((n + 7) / 8 : Nat) : Int) := by omega
  go_enter Try.func15, Try.ntmps15
  go_wp2_with fail
  refine (h8.out _).mono ?_
  rintro e w1 ⟨rfl, hb⟩
  go_wp2_with fail
  go_ret2
  exact ⟨rfl, hb⟩
set_option maxHeartbeats 400000 in
theorem refHas_no (l : List UInt8) (i : Int) (w : World) (hl : l.length ≤ 1048576) (hi : i < 0 ∨ 8 * (l.length : Int) ≤ i) :
    Calls Try.prog 21 #[str l, .int .i64 i] w fun e w' => e = .returned (.bool false) ∧ w' = w := by
  by_cases h0 : i < 0
  · clear hi
    go_enter Try.func21, Try.ntmps21
    go_wp2
    go_ret
    exact ⟨rfl, rfl⟩
  · have h1 : 8 * (l.length : Int) ≤ i := by omega
    have h2 : decide (i < 8 * (l.length : Int)) = false := by simp; omega
    clear hi
    go_enter Try.func21, Try.ntmps21
    go_wp2
    go_ret
    exact ⟨rfl, rfl⟩
set_option maxHeartbeats 400000 in
theorem refHas_yes (l : List UInt8) (i : Nat) (w : World) (hl : l.length ≤ 1048576) (hi : i < 8 * l.length) :
    Calls Try.prog 21 #[str l, .int .i64 i] w fun e w' => e = .returned (.bool true) ∧ w' = w := by
  have h2 : decide ((i : Int) < 8 * (l.length : Int)) = true := by simp; omega
  go_enter Try.func21, Try.ntmps21
  go_wp2
  go_ret
  exact ⟨rfl, rfl⟩
theorem half_div (n k : Nat) : n / 2 ^ k / 2 = n / 2 ^ (k + 1) := by rw [Nat.div_div_eq_div_mul, Nat.pow_succ]
set_option maxHeartbeats 400000 in
theorem refOn_any (l : List UInt8) (i : Nat) (w : World) (hl : l.length ≤ 1048576) (hi : i < 8 * l.length) :
    Calls Try.prog 22 #[str l, .int .i64 i] w fun e w' => e = .returned (.bool (bitL l i)) ∧ w' = w := by
  have h8 : i / 8 < l.length := by omega
  have hb := Lib.hid (bitL_at l i h8)
  have hlt := (l[i / 8]).toNat_lt
  go_enter Try.func22, Try.ntmps22
  go_wp2
  go_loop [5, 6] (fun b k => ∃ j m : Nat, j ≤ i % 8 ∧ k = .int .i64 j ∧ b = .int .u8 m ∧ m = (l[i / 8]).toNat / 2 ^ j) (fun _ k => i % 8 - (intOf k).toNat)
  case atStart => exact ⟨0, _, Nat.zero_le _, rfl, rfl, by simp⟩
  case round =>
    obtain ⟨j, m, hj, rfl, rfl, hm⟩ := hrel
    have Hm := Lib.hid hm
    have hm2 : m < 256 := by rw [hm]; exact Nat.lt_of_le_of_lt (Nat.div_le_self _ _) hlt
    clear hm
    by_cases hlt2 : j < i % 8
    · have hq : (j : Int) < (i : Int) % 8 := by omega
      go_wp2
      go_round
      case rel => exact ⟨j + 1, m / 2, by omega, by go_num, by simp, by rw [Hm.out, half_div]⟩
      case measure => simp [intOf]; omega
    · have : j = i % 8 := by omega
      have hq : ¬ ((j : Int) < (i : Int) % 8) := by omega
      go_wp2
      go_ret
      refine ⟨?_, rfl⟩
      rw [hb.out, Nat.testBit_eq_decide_div_mod_eq]
      have hm := Hm.out
      rw [this] at hm
      rw [← hm]
      show Ending.returned (.bool ((m : Int) % 2 == 1)) = _
      congr 2
      rw [Bool.eq_iff_iff]
      simp
      omega
set_option maxHeartbeats 400000 in
theorem refGet_bad (l : List UInt8) (i : Int) (w : World) (hl : l.length ≤ 1048576) (hi : i < 0 ∨ 8 * (l.length : Int) ≤ i) :
    Calls Try.prog 8 #[str l, .int .i64 i] w fun e w' => e = .returned (.tuple #[.bool false, .int .i64 2]) ∧ w' = w := by
  go_enter Try.func8, Try.ntmps8
  go_wp2_with fail
  refine (refHas_no l i _ hl hi).mono ?_
  rintro e w1 ⟨rfl, rfl⟩
  go_wp2_with fail
  go_ret2
  exact ⟨rfl, rfl⟩
set_option maxHeartbeats 400000 in
theorem refGet6_ok (l : List UInt8) (i : Nat) (w : World) (hl : l.length ≤ 1048576) (hi : i < 8 * l.length) :
    Calls Try.prog 8 #[str l, .int .i64 i] w fun e w' => e = .returned (.tuple #[.bool (bitL l i), .int .i64 0]) ∧ w' = w := by
  go_enter Try.func8, Try.ntmps8
  go_wp2_with fail
  refine (refHas_yes l i _ hl hi).mono ?_
  rintro e w1 ⟨rfl, rfl⟩
  go_wp2_with fail
  refine (refOn_any l i _ hl hi).mono ?_
  rintro e w2 ⟨rfl, rfl⟩
  go_wp2_with fail
  go_ret2
  exact ⟨rfl, rfl⟩
set_option maxHeartbeats 400000 in
theorem refSet_bad (l : List UInt8) (i : Int) (on : Bool) (w : World) (hl : l.length ≤ 1048576) (hi : i < 0 ∨ 8 * (l.length : Int) ≤ i) :
    Calls Try.prog 10 #[str l, .int .i64 i, .bool on] w fun e w' => e = .returned (.tuple #[str [], .int .i64 2]) ∧ w' = w := by
  go_enter Try.func10, Try.ntmps10
  go_wp2_with fail
  refine (refHas_no l i _ hl hi).mono ?_
  rintro e w1 ⟨rfl, rfl⟩
  go_wp2_with fail
  go_ret2
  exact ⟨rfl, rfl⟩
theorem flip_byte (l : List UInt8) (k m : Nat) (hk : k < l.length) (hm : m < 256) : l.getD k 0 ^^^ UInt8.ofNat m = UInt8.ofNat (bits .xor .u8 ((l[k].toNat : Nat) : Int) (m : Int)).toNat := by
  rw [u8_xor_nat _ _ l[k].toNat_lt hm, List.getD_eq_getElem?_getD, List.getElem?_eq_getElem hk]
  apply UInt8.toNat_inj.1
  have h1 : l[k].toNat ^^^ m < 256 := Nat.xor_lt_two_pow (n := 8) l[k].toNat_lt hm
  simp only [Option.getD_some, UInt8.toNat_xor, UInt8.toNat_ofNat', Int.toNat_natCast]
  rw [Nat.mod_eq_of_lt hm, Nat.mod_eq_of_lt h1]
set_option maxHeartbeats 1000000 in
theorem refSet_ok (l : List UInt8) (i : Nat) (on : Bool) (w : World) (hl : l.length ≤ 1048576) (hi : i < 8 * l.length) :
    Calls Try.prog 10 #[str l, .int .i64 i, .bool on] w fun e w' => e = .returned (.tuple #[str (setL l i on), .int .i64 0]) ∧ Below w.heap.size w w' := by
  by_cases hq : bitL l i = on
  · have hs := Lib.hid (setL_same l i on hi hq)
    subst hq
    go_enter Try.func10, Try.ntmps10
    go_wp2_with fail
    refine (refHas_yes l i _ hl hi).mono ?_
    rintro e w1 ⟨rfl, rfl⟩
    go_wp2_with fail
    refine (refOn_any l i _ hl hi).mono ?_
    rintro e w2 ⟨rfl, rfl⟩
    go_wp2_with fail
    go_ret2
    exact ⟨by rw [hs.out]; rfl, Below.refl _ _⟩
  · have hs := Lib.hid (setL_flip l i on hi hq)
    have hne : (bitL l i == on) = false := by simpa using hq
    have h8 : i / 8 < l.length := by omega
    have hp := Lib.hid (pow_lt256 (i % 8) (Nat.mod_lt _ (by omega)))
    have hcv := fun W n g hg => conv_one (P := Try.prog) 39 9 5 Try.underlying39 Try.underlying5 Try.underlying9 W n g hg
    have Hcv := Lib.hid hcv
    clear hq hcv
    go_enter Try.func10, Try.ntmps10
    go_wp2_with fail
    refine (refHas_yes l i _ hl hi).mono ?_
    rintro e w1 ⟨rfl, rfl⟩
    go_wp2_with fail
    refine (refOn_any l i _ hl hi).mono ?_
    rintro e w2 ⟨rfl, rfl⟩
    go_wp2_with fail
    go_loop [8, 9] (fun b k => ∃ j m : Nat, j ≤ i % 8 ∧ k = .int .i64 j ∧ b = .int .u8 m ∧ m = 2 ^ j ∧ m < 256) (fun _ k => i % 8 - (intOf k).toNat)
    case atStart => exact ⟨0, 1, Nat.zero_le _, rfl, rfl, rfl, by omega⟩
    case round =>
      obtain ⟨j, m, hj, rfl, rfl, hm, hm2⟩ := hrel
      have Hm := Lib.hid hm
      clear hm
      by_cases hlt2 : j < i % 8
      · have hq : (j : Int) < (i : Int) % 8 := by omega
        have hm3 : m * 2 < 256 := by
          have h1 := hp.out
          have h2 : (2 : Nat) ^ (j + 1) ≤ 2 ^ (i % 8) := Nat.pow_le_pow_right (by omega) (by omega)
          rw [Hm.out, ← Nat.pow_succ]; omega
        go_wp2
        go_round
        case rel => exact ⟨j + 1, m * 2, by omega, by go_num, by simp, by rw [Hm.out, ← Nat.pow_succ], hm3⟩
        case measure => simp [intOf]; omega
      · have : j = i % 8 := by omega
        have hq : ¬ ((j : Int) < (i : Int) % 8) := by omega
        have hcv : ∀ n : Int, (convert 39 9 (.slice (some ⟨w2.heap.size, 0, none⟩) 1 1)).run Try.prog (w2.alloc (.cells #[.int .u8 n] 5)).drew = .ok (.string ⟨#[UInt8.ofNat n.toNat]⟩) (w2.alloc (.cells #[.int .u8 n] 5)).drew := fun n => Hcv.out w2.drew n w2.heap.size rfl
        obtain ⟨k, hk⟩ : ∃ k, k = i / 8 := ⟨_, rfl⟩
        have hpk : (i : Int) / 8 = (k : Int) := by omega
        have Hk := Lib.hid hk
        have hkl : k < l.length := by omega
        clear hk
        go_wp2
        go_region
        go_wp2
        go_ret2
        refine ⟨ret2_str ?_, ((Below.refl _ _).alloc (Nat.le_refl _) _).drew⟩
        subst this
        rw [hs.out, ← Hk.out, ← Hm.out, flip_byte l k m hkl hm2, List.append_assoc]; rfl
set_option maxHeartbeats 400000 in
theorem refFill_bad (l : List UInt8) (a b : Int) (on : Bool) (w : World) (hl : l.length ≤ 1048576) (h : a < 0 ∨ b < a ∨ 8 * (l.length : Int) < b) :
    Calls Try.prog 12 #[str l, .int .i64 a, .int .i64 b, .bool on] w fun e w' => e = .returned (.tuple #[str [], .int .i64 2]) ∧ w' = w := by
  by_cases h0 : a < 0
  · clear h
    go_enter Try.func12, Try.ntmps12
    go_wp2
    go_ret2
    exact ⟨rfl, rfl⟩
  by_cases h1 : b < a
  · clear h
    go_enter Try.func12, Try.ntmps12
    go_wp2
    go_ret2
    exact ⟨rfl, rfl⟩
  · have h2 : 8 * (l.length : Int) < b := by omega
    clear h
    go_enter Try.func12, Try.ntmps12
    go_wp2
    go_ret2
    exact ⟨rfl, rfl⟩
set_option maxHeartbeats 1000000 in
theorem refFill_ok (l : List UInt8) (a m : Nat) (on : Bool) (w : World) (hl : l.length ≤ 1048576) (h : a + m ≤ 8 * l.length) :
    Calls Try.prog 12 #[str l, .int .i64 a, .int .i64 ((a + m : Nat) : Int), .bool on] w fun e w' => e = .returned (.tuple #[str (fillL l a on m), .int .i64 0]) ∧ Below w.heap.size w w' := by
  obtain ⟨b, hb⟩ : ∃ b, b = a + m := ⟨_, rfl⟩
  rw [← hb]
  have hab : a ≤ b := by omega
  have hbl : b ≤ 8 * l.length := by omega
  have Hb := Lib.hid hb
  clear hb h
  have d1 : decide (b < a) = false := by simp; omega
  have d2 : decide (8 * (l.length : Int) < (b : Int)) = false := by simp; omega
  go_enter Try.func12, Try.ntmps12
  go_wp2
  go_loopw [0, 10] (fun s i wr => ∃ k : Nat, k ≤ m ∧ i = .int .i64 ((a + k : Nat) : Int) ∧ s = str (fillL l a on k) ∧ Below w.heap.size w wr) (fun _ i _ => b - (intOf i).toNat)
  case atStart => exact ⟨0, Nat.zero_le _, rfl, rfl, Below.refl _ _⟩
  case round =>
    obtain ⟨k, hk, rfl, rfl, hB⟩ := hrel
    have hlen := fillL_length l a on k
    obtain ⟨j, hj⟩ : ∃ j, j = a + k := ⟨_, rfl⟩
    rw [← hj]
    have Hj := Lib.hid hj
    clear hj
    by_cases hlt : j < b
    · have hs := fun W => refSet_ok (fillL l a on k) j on W (by rw [hlen]; omega) (by rw [hlen]; omega)
      have Hs := Lib.hid hs
      have hnx : fillL l a on (k + 1) = setL (fillL l a on k) j on := by rw [fillL, ← Hj.out]
      have Hnx := Lib.hid hnx
      clear hs hnx hlen
      generalize fillL l a on k = s at Hs Hnx
      go_wp2_with fail
      refine (Hs.out _).mono ?_
      rintro e w1 ⟨rfl, hb1⟩
      go_wp2_with fail
      go_roundw
      case rel =>
        refine ⟨k + 1, ?_, ?_, by rw [Hnx.out], hB.trans (hb1.mono hB.size)⟩
        · have := Hb.out; have := Hj.out; omega
        · have := Hj.out
          rw [show a + (k + 1) = j + 1 by omega]; go_num
      case measure => simp [intOf]; omega
    · go_wp2_with fail
      go_ret2
      refine ⟨?_, hB⟩
      have h1 := Hb.out
      have h2 := Hj.out
      rw [show m = k by omega]; rfl
end Go.Proofs.Ythdkbhoeonnkmaa
