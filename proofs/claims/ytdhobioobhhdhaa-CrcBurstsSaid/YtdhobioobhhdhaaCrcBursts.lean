/- Layer 2 (crc): the walk of CrcBursts. -/
import Derived.Test.YtdhobioobhhdhaaCrcTells
import Derived.Test.YtdhobioobhhdhaaBaseBytes
namespace Go.Proofs.Ytdhobioobhhdhaa
open Go.RowKit
set_option linter.unusedVariables false
set_option maxHeartbeats 800000 in
theorem bursts_far (s : List UInt8) (a0 p : Int) (w : World) (h : 4096 < s.length) (h2 : s.length ≤ 9223372036854775807) :
    Calls Try.prog 5 #[str s, .int .u16 a0, .int .u32 p] w fun e w' => e = .returned (.bool true) ∧ Below w.heap.size w w' := by
  go_enter Try.func5, Try.ntmps5
  go_wp2_with fail
  refine (alive_any _).mono ?_
  rintro e w1 ⟨rfl, hb1⟩
  go_wp2_with fail
  go_ret
  exact ⟨rfl, hb1⟩
set_option maxHeartbeats 800000 in
theorem bursts_none (s : List UInt8) (a0 : Int) (w : World) (h : s.length ≤ 4096) :
    Calls Try.prog 5 #[str s, .int .u16 a0, .int .u32 0] w fun e w' => e = .returned (.bool true) ∧ Below w.heap.size w w' := by
  go_enter Try.func5, Try.ntmps5
  go_wp2_with fail
  refine (alive_any _).mono ?_
  rintro e w1 ⟨rfl, hb1⟩
  go_wp2_with fail
  go_ret
  exact ⟨rfl, hb1⟩
theorem open_wrong (B : List UInt8) (h4 : 4 ≤ B.length) (hB : B.length ≤ 1048576) (h : crcL 0xffffffff#32 B ≠ residue) (w : World) :
    Calls Try.prog 8 #[str B] w fun e w' => e = .returned (.tuple #[str [], .int .i64 7]) ∧ Below w.heap.size w w' := by
  have hsp : B = B.take (B.length - 4) ++ B.drop (B.length - 4) := (List.take_append_drop _ _).symm
  have hq : (B.drop (B.length - 4)).length = 4 := by simp; omega
  have ht : (B.take (B.length - 4)).length ≤ 1048576 := by simp; omega
  generalize B.take (B.length - 4) = t at hsp ht
  generalize B.drop (B.length - 4) = q at hsp hq
  subst hsp
  exact open_bad t q w ht hq (fun e => h ((fits_residue t q hq).1 e))
theorem bit_byte : ∀ m : Fin 8, (2 : Int) ^ m.val % 256 = (((1 : UInt8) <<< UInt8.ofNat m.val).toNat : Int) := by decide +kernel
theorem flip_byte (x : UInt8) (m : Nat) (hm : m < 8) : bits .xor .u8 (x.toNat : Int) ((2 : Int) ^ m % 256) = ((x ^^^ 1 <<< UInt8.ofNat m).toNat : Int) := by
  rw [bit_byte ⟨m, hm⟩, u8_xor_nat _ _ x.toNat_lt (UInt8.toNat_lt _), UInt8.toNat_xor]
theorem part_zero (p : Nat) : part p 0 = 0#32 := by simp [part, Nat.mod_one]
theorem stn_nought (n : Nat) : stn n 0#32 = 0#32 := by
  induction n with
  | zero => rfl
  | succ n ih => rw [stn]; exact ih
set_option maxHeartbeats 1600000 in
theorem bursts_some (s : List UInt8) (a p : Nat) (w : World) (h : s.length ≤ 4096) (ha : a < 65536) (hp : p < 4294967296) (hp0 : 0 < p) :
    Calls Try.prog 5 #[str s, .int .u16 a, .int .u32 p] w fun e w' => e = .returned (.bool true) ∧ Below w.heap.size w w' := by
  have hsl := sealL_length s
  have hres := sealed_residue s
  have hse := fun W => sealAll_any s W (by omega)
  have hl : (s ++ sealL s).length = s.length + 4 := by simp [hsl]
  have Hres := Lib.hid hres
  have Hse := Lib.hid hse
  clear hres hse hsl
  generalize s ++ sealL s = B0 at hl Hres Hse
  have hpz : ((p : Int) == 0) = false := by rw [beq_eq_false_iff_ne]; omega
  go_enter Try.func5, Try.ntmps5
  go_wp2_with fail
  refine (Hse.out _).mono ?_
  rintro e w1 ⟨rfl, hb1⟩
  obtain ⟨cap, W0, hcv, hB, hb0, hsz⟩ := bytes_of_string (P := Try.prog) w1 9 34 5 B0 Try.underlying9 Try.underlying34 Try.underlying5
  have HB := Lib.hid hB
  have Hsz := Lib.hid hsz
  clear hB hsz
  have hneq : ((B0.length : Int) != (s.length : Int) + 4) = false := by rw [hl]; simp
  go_wp2_with fail
  obtain ⟨n, hn⟩ : ∃ n : Nat, (a : Int) % (8 * ((s.length : Int) + 4) - 31) = (n : Int) := ⟨((a : Int) % (8 * ((s.length : Int) + 4) - 31)).toNat, by
    have := Int.emod_nonneg (a : Int) (show 8 * ((s.length : Int) + 4) - 31 ≠ 0 by omega)
    omega⟩
  have hn2 : n + 32 ≤ 8 * (s.length + 4) := by
    have := Int.emod_lt_of_pos (a : Int) (show 0 < 8 * ((s.length : Int) + 4) - 31 by omega)
    omega
  rw [hn]
  clear hn hcv hneq
  go_loopw [9] (fun i wr => ∃ (k : Nat) (B : List UInt8), k ≤ 32 ∧ i = .int .i64 k ∧ B.length = s.length + 4 ∧ Bytes wr w1.heap.size B ∧ crcL 0xffffffff#32 B = residue ^^^ stn (8 * (s.length + 4) - n) (part p k) ∧ Below w1.heap.size w1 wr) (fun i _ => 32 - (intOf i).toNat)
  case atStart =>
    refine ⟨0, B0, by omega, rfl, hl, HB.out, ?_, hb0⟩
    rw [Hres.out, part_zero, stn_nought]
    simp
  case round =>
    obtain ⟨k, B, hk, rfl, hBl, hBy, hcr, hbw⟩ := hrel
    have Hcr := Lib.hid hcr
    have HBy := Lib.hid hBy
    have HBl := Lib.hid hBl
    clear hcr hBy hBl
    by_cases hlt : k < 32
    · by_cases hbit : p / 2 ^ k % 2 = 1
      · have hpk : (p : Int) / 2 ^ k = ((p / 2 ^ k : Nat) : Int) := by simp
        have hbt : (((p / 2 ^ k : Nat) : Int) % 2 == 1) = true := by rw [beq_iff_eq]; omega
        have hj : (n + k) / 8 < B.length := by rw [HBl.out]; omega
        have hfl := crcL_flip 0xffffffff#32 B (n + k) hj
        rw [Hcr.out, HBl.out, BitVec.xor_assoc] at hfl
        have hst := burst_step1 p k (8 * (s.length + 4) - n) hlt (by omega) hbit
        rw [Nat.sub_sub] at hst
        rw [← hst] at hfl
        have Hfl := Lib.hid hfl
        obtain ⟨hc, hf⟩ := HBy.out ((n + k) / 8) hj
        have Hset := Lib.hid (HBy.out.set ((n + k) / 8))
        clear hfl hst hbit
        have hmod : (n + k) % 8 < 8 := by omega
        generalize hx : B[(n + k) / 8] = x at Hfl hc
        generalize p / 2 ^ k = q at hpk hbt
        go_wp2_with fail
        go_roundw
        case rel =>
          refine ⟨k + 1, B.set ((n + k) / 8) (x ^^^ 1 <<< UInt8.ofNat ((n + k) % 8)), by omega, by go_num, by rw [List.length_set, HBl.out], ?_, Hfl.out, hbw.setCell (by simp) _⟩
          refine Hset.out _ _ ?_ hj
          exact flip_byte x _ hmod
        case measure => simp [intOf]; omega
      · have hpk : (p : Int) / 2 ^ k = ((p / 2 ^ k : Nat) : Int) := by simp
        have hbt : (((p / 2 ^ k : Nat) : Int) % 2 == 1) = false := by rw [beq_eq_false_iff_ne]; omega
        have hps := part_step0 p k hbit
        have Hps := Lib.hid hps
        clear hps hbit
        generalize p / 2 ^ k = q at hpk hbt
        go_wp2_with fail
        go_roundw
        case rel =>
          exact ⟨k + 1, B, by omega, by go_num, HBl.out, HBy.out, by rw [Hps.out]; exact Hcr.out, hbw⟩
        case measure => simp [intOf]; omega
    · obtain rfl : k = 32 := by omega
      have hne : crcL 0xffffffff#32 B ≠ residue := by
        rw [Hcr.out]
        intro e
        have h2 : stn (8 * (s.length + 4) - n) (part p 32) = 0#32 := by
          have := congrArg (residue ^^^ ·) e
          simp only [← BitVec.xor_assoc, BitVec.xor_self, BitVec.zero_xor] at this
          exact this
        have h3 := stn_zero _ _ h2
        have h4 := congrArg BitVec.toNat h3
        simp [part] at h4
        omega
      have hopen := open_wrong B (by rw [HBl.out]; omega) (by rw [HBl.out]; omega) hne
      have hcb := string_of_bytes (P := Try.prog) 34 9 5 Try.underlying34 Try.underlying5 Try.underlying9 wr w1.heap.size cap B HBy.out
      rw [HBl.out] at hcb
      have Hopen := Lib.hid hopen
      clear hne hopen
      go_wp2_with fail
      refine (Hopen.out _).mono ?_
      rintro e w2 ⟨rfl, hb2⟩
      go_wp2_with fail
      refine (alive_any _).mono ?_
      rintro e w3 ⟨rfl, hb3⟩
      go_wp2_with fail
      go_ret
      exact ⟨rfl, chain (chain (chain hb1 hbw) hb2) hb3⟩
/-- The walk of CrcBursts. -/
theorem walk_CrcBursts (a : ByteArray) (n m : Int) (ha : a.size ≤ 140737488351232) (wn : (Lit.int .u16 n).wf = true) (wm : (Lit.int .u32 m).wf = true) (w : World) :
    Calls Try.prog 5 #[.string a, .int .u16 n, .int .u32 m] w fun e w' => e = .returned (.bool true) ∧ Below w.heap.size w w' := by
  obtain ⟨s, rfl⟩ : ∃ l : List UInt8, a = ⟨l.toArray⟩ := ⟨a.data.toList, rfl⟩
  have hs2 : s.length ≤ 140737488351232 := by simpa [ByteArray.size] using ha
  simp [Lit.wf, IntKind.min, IntKind.max, IntKind.bits, IntKind.signed] at wn wm
  obtain ⟨i, rfl⟩ : ∃ i : Nat, n = i := ⟨n.toNat, by omega⟩
  obtain ⟨p, rfl⟩ : ∃ p : Nat, m = p := ⟨m.toNat, by omega⟩
  by_cases h : s.length ≤ 4096
  · by_cases h0 : p = 0
    · subst h0; exact bursts_none s i w h
    · exact bursts_some s i p w h (by omega) (by omega) (by omega)
  · exact bursts_far s i p w (by omega) (by omega)
end Go.Proofs.Ytdhobioobhhdhaa
