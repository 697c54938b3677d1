/- Layer 6 (bits): one bit, and the iterator over them. -/
import Derived.Test.YthdkbhoeonnkmaaBase
import Derived.Test.YthdkbhoeonnkmaaBitsM
import Derived.Test.YthdkbhoeonnkmaaBaseIter
import Derived.Test.YthdkbhoeonnkmaaBaseBytes
namespace Go.Proofs.Ythdkbhoeonnkmaa
open Go.RowKit Go.Shelf
set_option linter.unusedVariables false
set_option linter.unusedSimpArgs false
set_option maxRecDepth 10000
theorem bitL_at (l : List UInt8) (i : Nat) (h : i / 8 < l.length) : bitL l i = ((l[i / 8]).toNat.testBit (i % 8)) := by
  unfold bitL
  rw [List.getD_eq_getElem?_getD, List.getElem?_eq_getElem h]; rfl
theorem and_one (n : Nat) (k : Nat) (h : n < 256) : (bits .and .u8 ((n : Int) / 2 ^ k) 1 == 1) = n.testBit k := by
  have h2 : ((n : Int) / 2 ^ k) = ((n / 2 ^ k : Nat) : Int) := by simp
  rw [h2, show (1 : Int) = ((1 : Nat) : Int) from rfl, u8_and_nat _ _ (Nat.lt_of_le_of_lt (Nat.div_le_self _ _) h) (by omega), Nat.and_one_is_mod, Nat.testBit_eq_decide_div_mod_eq]
  by_cases e : n / 2 ^ k % 2 = 1
  · simp [e]
  · have : n / 2 ^ k % 2 = 0 := by omega
    simp [this]
set_option maxHeartbeats 400000 in
theorem size_any (l : List UInt8) (w : World) (h : l.length ≤ 1048576) :
    Calls Try.prog 19 #[str l] w fun e w' => e = .returned (.int .i64 (8 * (l.length : Int))) ∧ w' = w := by
  go_enter Try.func19, Try.ntmps19
  go_wp2
  go_ret
  exact ⟨rfl, rfl⟩
set_option maxHeartbeats 400000 in
theorem isSet_any (l : List UInt8) (i : Nat) (w : World) (h : l.length ≤ 1048576) (hi : i < 8 * l.length) :
    Calls Try.prog 20 #[str l, .int .i64 i] w fun e w' => e = .returned (.bool (bitL l i)) ∧ w' = w := by
  have h8 : i / 8 < l.length := by omega
  have hb := Lib.hid (bitL_at l i h8)
  go_enter Try.func20, Try.ntmps20
  go_wp2
  go_ret
  refine ⟨?_, rfl⟩
  rw [hb.out, ← and_one _ _ (l[i / 8]).toNat_lt]
  rfl
set_option maxHeartbeats 400000 in
theorem bitsFrom_any (l : List UInt8) (a : Int) (w : World) :
    Calls Try.prog 24 #[str l, .int .i64 a] w fun e w' => e = .returned (.func (.func 27) #[] #[.pointer (some ⟨w.heap.size + 1, 0, none⟩), .pointer (some ⟨w.heap.size, 0, none⟩)]) ∧ w' = (w.alloc (.cells #[str l] 9)).alloc (.cells #[.int .i64 a] 3) := by
  go_enter Try.func24, Try.ntmps24
  go_wp2
  go_ret
  exact ⟨rfl, rfl⟩
set_option maxHeartbeats 400000 in
theorem turner_any (on : Bool) (w : World) :
    Calls Try.prog 23 #[.bool on] w fun e w' => e = .returned (.func (.func 26) #[] #[.pointer (some ⟨w.heap.size, 0, none⟩)]) ∧ w' = w.alloc (.cells #[.bool on] 4) := by
  go_enter Try.func23, Try.ntmps23
  go_wp2
  go_ret
  exact ⟨rfl, rfl⟩
set_option maxHeartbeats 400000 in
theorem turner1_any (on : Bool) (b : UInt8) (k B : Nat) (w : World) (hk : k < 8) (hB : w.cell? ⟨B, 0, none⟩ = some (.bool on)) :
    Calls Try.prog 26 #[.int .u8 (b.toNat : Int), .int .i64 k, .pointer (some ⟨B, 0, none⟩)] w fun e w' => e = .returned (.int .u8 ((turnB on b k).toNat : Int)) ∧ w' = w := by
  have hp := pow_lt256 k hk
  have hn := Lib.hid (turnB_nat on b k hk)
  have hm : (2 : Int) ^ k % 256 = ((2 ^ k : Nat) : Int) := by
    have : ((2 ^ k : Nat) : Int) = (2 : Int) ^ k := by simp
    rw [← this]
    generalize 2 ^ k = m at hp
    exact Int.emod_eq_of_lt (by omega) (by omega)
  have Hm := Lib.hid hm
  clear hm
  cases on
  all_goals
    go_enter Try.func26, Try.ntmps26
    go_wp2
    go_ret
    refine ⟨?_, rfl⟩
    rw [hn.out]
    have h := Hm.out
  · have h2 := u8_andNot_nat b.toNat (2 ^ k) b.toNat_lt hp
    rw [← h] at h2
    show Ending.returned (.int .u8 (bits .andNot .u8 (b.toNat : Int) (2 ^ k % 256))) = _
    rw [h2]; rfl
  · have h2 := u8_or_nat b.toNat (2 ^ k) b.toNat_lt hp
    rw [← h] at h2
    show Ending.returned (.int .u8 (bits .or .u8 (b.toNat : Int) (2 ^ k % 256))) = _
    rw [h2]; rfl
end Go.Proofs.Ythdkbhoeonnkmaa
