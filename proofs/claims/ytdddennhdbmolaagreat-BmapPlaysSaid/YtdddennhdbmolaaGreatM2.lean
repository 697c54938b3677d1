/- Layer 2 (crc): a byte's eight bits, the document's own answer. -/
import Derived.Test.YtdddennhdbmolaaGreatM1
import Derived.Laws.BitsAllLaws
namespace Go.Proofs.YtdddennhdbmolaaGreat
open Go.RowKit
set_option linter.unusedVariables false
set_option linter.unusedSimpArgs false
set_option maxRecDepth 10000
/-- A register as a value. -/
abbrev reg (c : BitVec 32) : Value := .int .u32 (c.toNat : Int)
theorem reg_lt (c : BitVec 32) : (c.toNat : Int) < 4294967296 := by have := c.isLt; omega
@[go_sem] theorem reg_wrap (c : BitVec 32) : IntKind.u32.wrap (c.toNat : Int) = (c.toNat : Int) := IntWalk.u32_in _ ⟨by omega, by have := c.isLt; omega⟩
theorem reg_xor (a b : BitVec 32) : bits .xor .u32 (a.toNat : Int) (b.toNat : Int) = ((a ^^^ b).toNat : Int) := by
  rw [u32_xor_nat _ _ a.isLt b.isLt, BitVec.toNat_xor]
theorem reg_xor_poly (a : BitVec 32) : bits .xor .u32 (a.toNat : Int) 3988292384 = ((a ^^^ poly).toNat : Int) := reg_xor a poly
theorem reg_half (a : BitVec 32) : (a.toNat : Int) / (2 : Int) = ((a >>> 1).toNat : Int) := by
  rw [BitVec.toNat_ushiftRight, Nat.shiftRight_eq_div_pow]; simp
theorem st1_odd (c : BitVec 32) (h : c.toNat % 2 = 1) : st1 c = (c >>> 1) ^^^ poly := by
  unfold st1; rw [if_pos]; rw [BitVec.getLsbD, Nat.testBit_zero]; simp [h]
theorem st1_even (c : BitVec 32) (h : c.toNat % 2 = 0) : st1 c = c >>> 1 := by
  unfold st1; rw [if_neg]; rw [BitVec.getLsbD, Nat.testBit_zero]; simp [h]
theorem low_bit (c : BitVec 32) : bits .and .u32 (c.toNat : Int) 1 = ((c.toNat % 2 : Nat) : Int) := by
  have h := u32_and_nat c.toNat 1 c.isLt (by omega)
  rw [Nat.and_one_is_mod] at h
  exact h
theorem low_bit_odd (c : BitVec 32) (h : c.toNat % 2 = 1) : (bits .and .u32 (c.toNat : Int) 1 == 1) = true := by rw [low_bit, h]; rfl
theorem low_bit_even (c : BitVec 32) (h : c.toNat % 2 = 0) : (bits .and .u32 (c.toNat : Int) 1 == 1) = false := by rw [low_bit, h]; rfl
set_option maxHeartbeats 400000 in
theorem step8_any (c : BitVec 32) (w : World) :
    Calls Tryz.prog 162 #[reg c] w fun e w' => e = .returned (reg (stn 8 c)) ∧ w = w' := by
  go_enter Tryz.func162, Tryz.ntmps162
  go_wp2
  go_loop [0, 3, 4] (fun x o i => ∃ (k : Nat) (d : BitVec 32) (z : Value), k ≤ 8 ∧ i = .int .i64 k ∧ x = reg d ∧ stn (8 - k) d = stn 8 c ∧ o = z) (fun _ _ i => 8 - (intOf i).toNat)
  case atStart => exact ⟨0, c, _, by omega, rfl, rfl, rfl, rfl⟩
  case round =>
    obtain ⟨k, d, z, hk, rfl, rfl, hd, rfl⟩ := hrel
    have Hd := Lib.hid hd
    clear hd
    by_cases hlt : k < 8
    · have hstep : stn (8 - k) d = stn (8 - (k + 1)) (st1 d) := by
        rw [show 8 - k = (8 - (k + 1)) + 1 by omega]; rfl
      have Hstep := Lib.hid hstep
      clear hstep
      by_cases hp : d.toNat % 2 = 1
      · have hs1 := st1_odd d hp
        have hb := low_bit_odd d hp
        rw [hs1] at Hstep
        clear hs1
        go_wp2_with fail
        go_round
        case rel => exact ⟨k + 1, _, _, by omega, by go_num, by rw [reg_half, reg_xor_poly], by rw [← Hstep.out, Hd.out], rfl⟩
        case measure => simp [intOf]; omega
      · have hs1 := st1_even d (by omega)
        have hb := low_bit_even d (by omega)
        rw [hs1] at Hstep
        clear hs1
        go_wp2_with fail
        go_round
        case rel => exact ⟨k + 1, _, _, by omega, by go_num, by rw [reg_half], by rw [← Hstep.out, Hd.out], rfl⟩
        case measure => simp [intOf]; omega
    · go_wp2_with fail
      go_ret
      have : k = 8 := by omega
      subst this
      exact ⟨by rw [← Hd.out]; rfl, rfl⟩
theorem st1_of (c : BitVec 32) (b : BitVec 32) (h : ((c.toNat : Int) % 2 != (b.toNat : Int) % 2) = true) : st1 (c ^^^ b) = ((c >>> 1) ^^^ poly) ^^^ (b >>> 1) := by
  have h2 : c.toNat % 2 ≠ b.toNat % 2 := by
    rw [bne_iff_ne] at h
    omega
  rw [st1_xor]
  rcases Nat.mod_two_eq_zero_or_one c.toNat with hc | hc
  · have hb : b.toNat % 2 = 1 := by omega
    rw [st1_even c hc, st1_odd b hb, BitVec.xor_assoc, BitVec.xor_comm poly]
  · have hb : b.toNat % 2 = 0 := by omega
    rw [st1_odd c hc, st1_even b hb]
theorem st1_of' (c : BitVec 32) (b : BitVec 32) (h : ((c.toNat : Int) % 2 != (b.toNat : Int) % 2) = false) : st1 (c ^^^ b) = (c >>> 1) ^^^ (b >>> 1) := by
  have h2 : c.toNat % 2 = b.toNat % 2 := by
    rw [bne_eq_false_iff_eq] at h
    omega
  rw [st1_xor]
  rcases Nat.mod_two_eq_zero_or_one c.toNat with hc | hc
  · have hb : b.toNat % 2 = 0 := by omega
    rw [st1_even c hc, st1_even b hb]
  · have hb : b.toNat % 2 = 1 := by omega
    rw [st1_odd c hc, st1_odd b hb, xor_swap]
    simp
theorem low_toNat (b : UInt8) : ((low b).toNat : Int) = (b.toNat : Int) := by
  have := b.toNat_lt
  unfold low
  rw [BitVec.toNat_ofNat, Nat.mod_eq_of_lt (by omega)]
theorem low_out (b : UInt8) : low b >>> 8 = 0#32 := by
  have h := low_toNat b
  have := b.toNat_lt
  apply BitVec.eq_of_toNat_eq
  rw [BitVec.toNat_ushiftRight, Nat.shiftRight_eq_div_pow, Nat.div_eq_of_lt (by omega)]
  rfl
end Go.Proofs.YtdddennhdbmolaaGreat
