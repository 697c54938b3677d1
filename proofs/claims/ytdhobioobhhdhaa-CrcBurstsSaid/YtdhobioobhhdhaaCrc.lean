/- Layer 2 (crc): a byte's eight bits, the document's own answer. -/
import Derived.Test.YtdhobioobhhdhaaOctet2
import Derived.Test.YtdhobioobhhdhaaCrcM
import Derived.Laws.BitsAllLaws
namespace Go.Proofs.Ytdhobioobhhdhaa
open Go.RowKit
set_option linter.unusedVariables false
/-- A register as a value. -/
abbrev reg (c : BitVec 32) : Value := .int .u32 (c.toNat : Int)
theorem reg_lt (c : BitVec 32) : (c.toNat : Int) < 4294967296 := by have := c.isLt; omega
@[go_sem] theorem reg_wrap (c : BitVec 32) : IntKind.u32.wrap (c.toNat : Int) = (c.toNat : Int) := IntWalk.u32_in _ ⟨by omega, by have := c.isLt; omega⟩
theorem reg_xor (a b : BitVec 32) : bits .xor .u32 (a.toNat : Int) (b.toNat : Int) = ((a ^^^ b).toNat : Int) := by
  rw [u32_xor_nat _ _ a.isLt b.isLt, BitVec.toNat_xor]
theorem reg_xor_poly (a : BitVec 32) : bits .xor .u32 (a.toNat : Int) 3988292384 = ((a ^^^ poly).toNat : Int) := reg_xor a poly
theorem reg_half (a : BitVec 32) : (a.toNat : Int) / (2 : Int) = ((a >>> 1).toNat : Int) := by
  rw [BitVec.toNat_ushiftRight, Nat.shiftRight_eq_div_pow]; simp
theorem st1_odd (c : BitVec 32) (h : c.toNat % 2 = 1) : st1 c = (c >>> 1) ^^^ poly := by
  unfold st1; rw [if_pos]; rw [BitVec.getLsbD, Nat.testBit_zero]; simp [h]
theorem st1_even (c : BitVec 32) (h : c.toNat % 2 = 0) : st1 c = c >>> 1 := by
  unfold st1; rw [if_neg]; rw [BitVec.getLsbD, Nat.testBit_zero]; simp [h]
theorem low_bit (c : BitVec 32) : bits .and .u32 (c.toNat : Int) 1 = ((c.toNat % 2 : Nat) : Int) := by
  have h := u32_and_nat c.toNat 1 c.isLt (by omega)
  rw [Nat.and_one_is_mod] at h
  exact h
theorem low_bit_odd (c : BitVec 32) (h : c.toNat % 2 = 1) : (bits .and .u32 (c.toNat : Int) 1 == 1) = true := by rw [low_bit, h]; rfl
theorem low_bit_even (c : BitVec 32) (h : c.toNat % 2 = 0) : (bits .and .u32 (c.toNat : Int) 1 == 1) = false := by rw [low_bit, h]; rfl
set_option maxHeartbeats 400000 in
theorem step8_any (c : BitVec 32) (w : World) :
    Calls Try.prog 27 #[reg c] w fun e w' => e = .returned (reg (stn 8 c)) ∧ w = w' := by
  go_enter Try.func27, Try.ntmps27
  go_wp2
  go_loop [0, 3, 4] (fun x o i => ∃ (k : Nat) (d : BitVec 32) (z : Value), k ≤ 8 ∧ i = .int .i64 k ∧ x = reg d ∧ stn (8 - k) d = stn 8 c ∧ o = z) (fun _ _ i => 8 - (intOf i).toNat)
  case atStart => exact ⟨0, c, _, by omega, rfl, rfl, rfl, rfl⟩
  case round =>
    obtain ⟨k, d, z, hk, rfl, rfl, hd, rfl⟩ := hrel
    have Hd := Lib.hid hd
    clear hd
    by_cases hlt : k < 8
    · have hstep : stn (8 - k) d = stn (8 - (k + 1)) (st1 d) := by
        rw [show 8 - k = (8 - (k + 1)) + 1 by omega]; rfl
      have Hstep := Lib.hid hstep
      clear hstep
      by_cases hp : d.toNat % 2 = 1
      · have hs1 := st1_odd d hp
        have hb := low_bit_odd d hp
        rw [hs1] at Hstep
        clear hs1
        go_wp2_with fail
        go_round
        case rel => exact ⟨k + 1, _, _, by omega, by go_num, by rw [reg_half, reg_xor_poly], by rw [← Hstep.out, Hd.out], rfl⟩
        case measure => simp [intOf]; omega
      · have hs1 := st1_even d (by omega)
        have hb := low_bit_even d (by omega)
        rw [hs1] at Hstep
        clear hs1
        go_wp2_with fail
        go_round
        case rel => exact ⟨k + 1, _, _, by omega, by go_num, by rw [reg_half], by rw [← Hstep.out, Hd.out], rfl⟩
        case measure => simp [intOf]; omega
    · go_wp2_with fail
      go_ret
      have : k = 8 := by omega
      subst this
      exact ⟨by rw [← Hd.out]; rfl, rfl⟩
theorem st1_of (c : BitVec 32) (b : BitVec 32) (h : ((c.toNat : Int) % 2 != (b.toNat : Int) % 2) = true) : st1 (c ^^^ b) = ((c >>> 1) ^^^ poly) ^^^ (b >>> 1) := by
  have h2 : c.toNat % 2 ≠ b.toNat % 2 := by
    rw [bne_iff_ne] at h
    omega
  rw [st1_xor]
  rcases Nat.mod_two_eq_zero_or_one c.toNat with hc | hc
  · have hb : b.toNat % 2 = 1 := by omega
    rw [st1_even c hc, st1_odd b hb, BitVec.xor_assoc, BitVec.xor_comm poly]
  · have hb : b.toNat % 2 = 0 := by omega
    rw [st1_odd c hc, st1_even b hb]
theorem st1_of' (c : BitVec 32) (b : BitVec 32) (h : ((c.toNat : Int) % 2 != (b.toNat : Int) % 2) = false) : st1 (c ^^^ b) = (c >>> 1) ^^^ (b >>> 1) := by
  have h2 : c.toNat % 2 = b.toNat % 2 := by
    rw [bne_eq_false_iff_eq] at h
    omega
  rw [st1_xor]
  rcases Nat.mod_two_eq_zero_or_one c.toNat with hc | hc
  · have hb : b.toNat % 2 = 0 := by omega
    rw [st1_even c hc, st1_even b hb]
  · have hb : b.toNat % 2 = 1 := by omega
    rw [st1_odd c hc, st1_odd b hb, xor_swap]
    simp
theorem low_toNat (b : UInt8) : ((low b).toNat : Int) = (b.toNat : Int) := by
  have := b.toNat_lt
  unfold low
  rw [BitVec.toNat_ofNat, Nat.mod_eq_of_lt (by omega)]
theorem low_out (b : UInt8) : low b >>> 8 = 0#32 := by
  have h := low_toNat b
  have := b.toNat_lt
  apply BitVec.eq_of_toNat_eq
  rw [BitVec.toNat_ushiftRight, Nat.shiftRight_eq_div_pow, Nat.div_eq_of_lt (by omega)]
  rfl
set_option maxHeartbeats 800000 in
theorem refMore_any (c : BitVec 32) (l : List UInt8) (w : World) (hs : l.length ≤ maxLen) :
    Calls Try.prog 11 #[reg c, str l] w fun e w' => e = .returned (reg (crcL c l)) ∧ Below w.heap.size w w' := by
  unfold maxLen at hs
  go_enter Try.func11, Try.ntmps11
  go_wp2
  go_loop [0, 5, 6, 7, 8] (fun x i b k t => ∃ (n : Nat) (d : BitVec 32) (z1 z2 z3 : Value), n ≤ l.length ∧ i = .int .i64 n ∧ x = reg d ∧ crcL d (l.drop n) = crcL c l ∧ b = z1 ∧ k = z2 ∧ t = z3) (fun _ i _ _ _ => l.length - (intOf i).toNat)
  case atStart => exact ⟨0, c, _, _, _, by omega, rfl, rfl, rfl, rfl, rfl, rfl⟩
  case round =>
    obtain ⟨n, d, z1, z2, z3, hn, rfl, rfl, hd, rfl, rfl, rfl⟩ := hrel
    have Hd := Lib.hid hd
    clear hd
    by_cases hlt : n < l.length
    · have hbt := (l[n]).toNat_lt
      have hl2 : l.drop n = l[n] :: l.drop (n + 1) := List.drop_eq_getElem_cons hlt
      have Hl2 := Lib.hid hl2
      clear hl2
      have hlow := low_toNat l[n]
      go_wp2
      have hlow2 : IntKind.u32.wrap ((l[n]).toNat : Int) = ((low l[n]).toNat : Int) := by rw [hlow]; exact IntWalk.u32_in _ ⟨by omega, by omega⟩
      have Hlow := Lib.hid hlow
      clear hlow
      generalize hy : l[n] = y at hbt Hl2 Hlow hlow2
      go_loop [0, 6, 7, 8] (fun x b k t => ∃ (m : Nat) (e f : BitVec 32) (z3 : Value), m ≤ 8 ∧ k = .int .i64 m ∧ x = reg e ∧ b = reg f ∧ stn (8 - m) (e ^^^ f) = stn 8 (d ^^^ low y) ∧ f = low y >>> m ∧ t = z3) (fun _ _ k _ => 8 - (intOf k).toNat)
      case atStart => exact ⟨0, d, low y, _, by omega, rfl, rfl, by rw [reg, Hlow.out], rfl, by simp, rfl⟩
      case round =>
        obtain ⟨m, e, f, z3, hm, rfl, rfl, rfl, he, hf, rfl⟩ := hrel
        have He := Lib.hid he
        have Hf := Lib.hid hf
        clear he hf
        by_cases hlm : m < 8
        · have hstep : stn (8 - m) (e ^^^ f) = stn (8 - (m + 1)) (st1 (e ^^^ f)) := by
            rw [show 8 - m = (8 - (m + 1)) + 1 by omega]; rfl
          have Hstep := Lib.hid hstep
          clear hstep
          have hf2 : f >>> 1 = low y >>> (m + 1) := by rw [Hf.out, BitVec.shiftRight_add]
          have Hf2 := Lib.hid hf2
          clear hf2
          cases hq : ((e.toNat : Int) % 2 != (f.toNat : Int) % 2) with
          | true =>
            have hs1 := st1_of e f hq
            rw [hs1] at Hstep
            clear hs1
            go_wp2_with fail
            go_round
            case rel => exact ⟨m + 1, _, _, _, by omega, by go_num, by rw [reg_half, reg_xor_poly], by rw [reg_half], by rw [← Hstep.out, He.out], Hf2.out, rfl⟩
            case measure => simp [intOf]; omega
          | false =>
            have hs1 := st1_of' e f hq
            rw [hs1] at Hstep
            clear hs1
            go_wp2_with fail
            go_round
            case rel => exact ⟨m + 1, _, _, _, by omega, by go_num, by rw [reg_half], by rw [reg_half], by rw [← Hstep.out, He.out], Hf2.out, rfl⟩
            case measure => simp [intOf]; omega
        · have : m = 8 := by omega
          subst this
          have he2 : e = stn 8 (d ^^^ low y) := by
            rw [← He.out, Hf.out, low_out]; simp [stn]
          have He2 := Lib.hid he2
          clear he2
          go_wp2_with fail
          go_round
          case rel => exact ⟨n + 1, _, _, _, _, by omega, by go_num, rfl, by rw [← Hd.out, Hl2.out, He2.out]; rfl, rfl, rfl, rfl⟩
          case measure => simp [intOf]; omega
    · have : n = l.length := by omega
      subst this
      go_wp2_with fail
      go_ret
      refine ⟨?_, Below.refl _ _⟩
      have := Hd.out
      rw [List.drop_length] at this
      rw [← this]
      rfl
end Go.Proofs.Ytdhobioobhhdhaa
