/- Layer 2 (crc): the walk of CrcTells. -/
import Derived.Test.YtdhobioobhhdhaaCrc6
namespace Go.Proofs.Ytdhobioobhhdhaa
open Go.RowKit
set_option linter.unusedVariables false
theorem reg_of (n : Int) (h : (Lit.int .u32 n).wf = true) : ∃ c : BitVec 32, n = (c.toNat : Int) := by
  simp [Lit.wf, IntKind.min, IntKind.max, IntKind.bits, IntKind.signed] at h
  refine ⟨BitVec.ofNat 32 n.toNat, ?_⟩
  rw [BitVec.toNat_ofNat, Nat.mod_eq_of_lt (by omega)]
  omega
theorem sum_two (s t : List UInt8) (w : World) (hs : s.length ≤ 1048576) (ht : t.length ≤ 1048576) (ty : TypeId) (n m : Nat) (hn : n = 2) (hm : m = 2) :
    Calls Try.prog 12 #[.slice (some ⟨w.heap.size, 0, none⟩) n m] (w.alloc (.cells #[str s, str t] ty)) fun e w' => e = .returned (reg (sumL (s ++ t))) ∧ Below (w.alloc (.cells #[str s, str t] ty)).heap.size (w.alloc (.cells #[str s, str t] ty)) w' :=
  sum_lit [s, t] (sumL (s ++ t)) w (by simp) (by simp) (by intro p hp; simp at hp; rcases hp with rfl | rfl <;> assumption) ty _ rfl n m hn hm
set_option maxHeartbeats 800000 in
theorem tells_far (c : BitVec 32) (s t : List UInt8) (w : World) (h : 8192 < s.length + t.length) (h2 : s.length + t.length ≤ 9223372036854775807) :
    Calls Try.prog 3 #[reg c, str s, str t] w fun e w' => e = .returned (.bool true) ∧ Below w.heap.size w w' := by
  go_enter Try.func3, Try.ntmps3
  go_wp2_with fail
  refine (alive_any _).mono ?_
  rintro e w1 ⟨rfl, hb1⟩
  go_wp2_with fail
  go_ret
  exact ⟨rfl, hb1⟩
set_option maxHeartbeats 1600000 in
theorem tells_near (c : BitVec 32) (s t : List UInt8) (w : World) (h : s.length + t.length ≤ 8192) :
    Calls Try.prog 3 #[reg c, str s, str t] w fun e w' => e = .returned (.bool true) ∧ Below w.heap.size w w' := by
  obtain ⟨x, E, hO, hR⟩ := open_both2 s (by omega)
  have HO := Lib.hid hO
  have HR := Lib.hid hR
  clear hO hR
  go_enter Try.func3, Try.ntmps3
  go_wp2_with fail
  refine (HO.out _).mono ?_
  rintro e w1 ⟨rfl, hb1⟩
  go_wp2_with fail
  refine (HR.out _).mono ?_
  rintro e w2 ⟨rfl, hb2⟩
  go_wp2_with fail
  refine (more_any c s _ (by omega)).mono ?_
  rintro e w3 ⟨rfl, hb3⟩
  go_wp2_with fail
  refine (refMore_any c s _ (by simp only [maxLen]; omega)).mono ?_
  rintro e w4 ⟨rfl, hb4⟩
  go_wp2_with fail
  refine (sum_two s t _ (by omega) (by omega) _ _ _ rfl rfl).mono ?_
  rintro e w5 ⟨rfl, hb5⟩
  go_wp2_with fail
  refine (refSum_any (s ++ t) _ (by simp; omega)).mono ?_
  rintro e w6 ⟨rfl, hb6⟩
  go_wp2_with fail
  refine (sealAll_any t _ (by omega)).mono ?_
  rintro e w7 ⟨rfl, hb7⟩
  go_wp2_with fail
  refine (refSeal_any t _ (by omega)).mono ?_
  rintro e w8 ⟨rfl, hb8⟩
  go_wp2_with fail
  refine (alive_any _).mono ?_
  rintro e w9 ⟨rfl, hb9⟩
  go_wp2_with fail
  go_ret
  exact ⟨rfl, chain (chain (chain (chain (chain (chain (chain (chain hb1 hb2) hb3) hb4) (((Below.refl _ _).alloc (Nat.le_refl _) _).trans (hb5.mono (by simp)))) hb6) hb7) hb8) hb9⟩
/-- The walk of CrcTells. -/
theorem walk_CrcTells (n : Int) (a b : ByteArray) (wn : (Lit.int .u32 n).wf = true) (ha : a.size ≤ 140737488351232) (hb : b.size ≤ 140737488351232) (w : World) :
    Calls Try.prog 3 #[.int .u32 n, .string a, .string b] w fun e w' => e = .returned (.bool true) ∧ Below w.heap.size w w' := by
  obtain ⟨c, rfl⟩ := reg_of n wn
  obtain ⟨s, rfl⟩ : ∃ l : List UInt8, a = ⟨l.toArray⟩ := ⟨a.data.toList, rfl⟩
  obtain ⟨t, rfl⟩ : ∃ l : List UInt8, b = ⟨l.toArray⟩ := ⟨b.data.toList, rfl⟩
  have hs2 : s.length ≤ 140737488351232 := by simpa [ByteArray.size] using ha
  have ht2 : t.length ≤ 140737488351232 := by simpa [ByteArray.size] using hb
  by_cases h : s.length + t.length ≤ 8192
  · exact tells_near c s t w h
  · exact tells_far c s t w (by omega) (by omega)
end Go.Proofs.Ytdhobioobhhdhaa
