/- Layer 1 (octet), continued: Pad. -/
import Derived.Test.YtdddennhdbmolaaGreatM12
import Derived.Test.YtdddennhdbmolaaGreatShelf
namespace Go.Proofs.YtdddennhdbmolaaGreat
open Go.RowKit
set_option linter.unusedVariables false
set_option linter.unusedSimpArgs false
set_option maxRecDepth 10000
theorem repeat_nought (k : Nat) : Lib.repeatL (⟨#[0]⟩ : ByteArray).data.toList k = List.replicate k 0 := by
  induction k with
  | zero => rfl
  | succ k ih => rw [Lib.repeatL, ih]; rfl
theorem repeat0 (k : Nat) (w : World) (hk : k ≤ 65536) :
    Calls Tryz.prog 99 #[.string ⟨#[0]⟩, .int .i64 k] w fun e w' => e = .returned (str (List.replicate k 0)) ∧ Below w.heap.size w w' := by
  have h := Tryz.strings_Repeat ⟨#[0]⟩ k w (by omega) (by show 1 * k ≤ 140737488355328; omega)
  rwa [repeat_nought] at h
set_option maxHeartbeats 400000 in
theorem pad_bad (l : List UInt8) (n : Int) (w : World) (hn : n < 0 ∨ 65536 < n) :
    Calls Tryz.prog 72 #[str l, .int .i64 n] w fun e w' => e = .returned (.tuple #[str [], .int .i64 2]) ∧ Below w.heap.size w w' := by
  rcases hn with hn | hn
  all_goals
    go_enter Tryz.func72, Tryz.ntmps72
    go_wp2
    go_ret2
    exact ⟨rfl, ((Below.refl _ _).alloc (Nat.le_refl _) _).alloc (by simp) _⟩
set_option maxHeartbeats 400000 in
theorem pad_long (l : List UInt8) (n : Nat) (w : World) (hs : l.length ≤ maxLen) (hn : n ≤ 65536) (hl : n < l.length) :
    Calls Tryz.prog 72 #[str l, .int .i64 n] w fun e w' => e = .returned (.tuple #[str [], .int .i64 5]) ∧ Below w.heap.size w w' := by
  unfold maxLen at hs
  go_enter Tryz.func72, Tryz.ntmps72
  go_wp2
  go_ret2
  exact ⟨rfl, ((((Below.refl _ _).alloc (Nat.le_refl _) _).alloc (by simp) _).alloc (by simp; omega) _).alloc (by simp; omega) _⟩
set_option maxHeartbeats 400000 in
theorem pad_ok (l : List UInt8) (k : Nat) (n : Int) (w : World) (hn : n = ((l.length + k : Nat) : Int)) (hk : l.length + k ≤ 65536) :
    Calls Tryz.prog 72 #[str l, .int .i64 n] w fun e w' => e = .returned (.tuple #[str (l ++ List.replicate k 0), .int .i64 0]) ∧ Below w.heap.size w w' := by
  have hr : n - (l.length : Int) = (k : Int) := by omega
  have h1 : 0 ≤ n := by omega
  have h2 : n ≤ 65536 := by omega
  have h3 : (l.length : Int) ≤ n := by omega
  clear hn
  go_enter Tryz.func72, Tryz.ntmps72
  go_wp2_with (first | (go_at_call 98; go_in) | (go_at_call 115; go_in))
  refine (repeat0 k _ (by omega)).mono ?_
  rintro e w1 ⟨rfl, hb1⟩
  go_wp2_with fail
  go_ret2
  refine ⟨rfl, ?_⟩
  · exact ((((Below.refl _ _).alloc (Nat.le_refl _) _).alloc (by simp) _).alloc (by simp; omega) _).alloc (by simp; omega) _ |>.trans (hb1.mono (by simp; omega))
end Go.Proofs.YtdddennhdbmolaaGreat
/- Layer 2 (crc): More, Sum, Seal, Open. -/
namespace Go.Proofs.YtdddennhdbmolaaGreat
open Go.RowKit
set_option linter.unusedVariables false
set_option linter.unusedSimpArgs false
set_option maxRecDepth 10000
theorem parts_lit (w : World) (t : TypeId) (ps : List (List UInt8)) : Parts (w.alloc (.cells (ps.map str).toArray t)).heap.size (w.alloc (.cells (ps.map str).toArray t)) (.slice (some ⟨w.heap.size, 0, none⟩) ps.length ps.length) ps := by
  refine ⟨some ⟨w.heap.size, 0, none⟩, ps.length, rfl, fun j p hj => ⟨_, rfl, by simp, ?_⟩⟩
  rw [cell_of_row _ _ j _ t (0, 0) (heap_alloc_new w _)]
  simp [hj]
theorem parts_nil (n₀ : Nat) (w : World) : Parts n₀ w (.slice none 0 0) [] := ⟨none, 0, rfl, fun j p hj => by simp at hj⟩
/-- A sum. -/
def sumL (l : List UInt8) : BitVec 32 := ~~~ (crcL 0xffffffff#32 l)
theorem reg_not' (c : BitVec 32) : Value.int .u32 (bits .xor .u32 IntKind.u32.max (c.toNat : Int)) = reg (~~~ c) := by
  have h := reg_xor 0xffffffff#32 c
  have h2 : (IntKind.u32.max : Int) = ((0xffffffff#32 : BitVec 32).toNat : Int) := by decide
  rw [h2, h, ones_all, BitVec.allOnes_xor]
theorem reg_flip (c : BitVec 32) : Value.int .u32 (bits .xor .u32 (c.toNat : Int) 4294967295) = reg (~~~ c) := by
  have h := reg_xor c 0xffffffff#32
  have h2 : (4294967295 : Int) = ((0xffffffff#32 : BitVec 32).toNat : Int) := by decide
  rw [h2, h, ones_all, BitVec.xor_allOnes]
theorem reg_not (c : BitVec 32) : IntKind.u32.wrap (-(c.toNat : Int) - 1) = ((~~~ c).toNat : Int) := by
  have := c.isLt
  rw [BitVec.toNat_not]
  have h : IntKind.u32.wrap (-(c.toNat : Int) - 1) = IntKind.u32.wrap (4294967296 + (-(c.toNat : Int) - 1)) := by
    simp [IntKind.wrap, IntKind.bits, IntKind.signed]
  rw [h, IntWalk.u32_in _ ⟨by omega, by omega⟩]
  omega
set_option maxHeartbeats 400000 in
theorem sum_any (v : Value) (ps : List (List UInt8)) (w : World) (hps : ps.length ≤ 1048576) (hlen : ∀ p ∈ ps, p.length ≤ 1048576) (hP : Parts w.heap.size w v ps) :
    Calls Tryz.prog 135 #[v] w fun e w' => e = .returned (reg (sumL ps.flatten)) ∧ Below w.heap.size w w' := by
  have hp := process_any 0xffffffff#32 v ps w hps hlen hP
  have Hp := Lib.hid hp
  clear hp
  obtain ⟨A, m, rfl, hc⟩ := hP
  clear hc
  go_enter Tryz.func135, Tryz.ntmps135
  go_wp2_with fail
  refine (Hp.out).mono ?_
  rintro e w1 ⟨rfl, hb1⟩
  go_wp2_with fail
  go_ret
  exact ⟨by rw [reg_not']; rfl, hb1⟩
theorem sealL_eq (l : List UInt8) : leB 4 (sumL l).toNat = sealL l := by
  unfold sealL sumL
  generalize ~~~ (crcL 0xffffffff#32 l) = v
  simp only [leB, four, Nat.div_div_eq_div_mul]
set_option maxHeartbeats 400000 in
theorem seal_any (l : List UInt8) (w : World) (hl : l.length ≤ 1048576) :
    Calls Tryz.prog 122 #[str l] w fun e w' => e = .returned (str (sealL l)) ∧ Below w.heap.size w w' := by
  have hp := fun (v : Value) W => sum_any v [l] W (by simp) (by simpa using hl)
  simp only [List.flatten_cons, List.flatten_nil, List.append_nil] at hp
  have hq := parts_lit w 9 [l]
  have hn := fun W => num_ok (sumL l).toNat 4 W (by have := (sumL l).isLt; omega) (by decide) (by
    have := (sumL l).isLt
    have h2 : (sumL l).toNat / 2 ^ (8 * 4) = 0 := Nat.div_eq_of_lt this
    have h3 : (((sumL l).toNat : Int) / 2 ^ (8 * 4)) = (((sumL l).toNat / 2 ^ (8 * 4) : Nat) : Int) := by simp
    rw [h3, h2]; rfl)
  rw [sealL_eq] at hn
  have Hp := Lib.hid hp
  have Hq := Lib.hid hq
  have Hn := Lib.hid hn
  clear hp hq hn
  have hlt := (sumL l).isLt
  go_enter Tryz.func122, Tryz.ntmps122
  go_wp2_with fail
  refine (Hp.out _ _ Hq.out).mono ?_
  rintro e w1 ⟨rfl, hb1⟩
  go_wp2_with fail
  refine (Hn.out _).mono ?_
  rintro e w2 ⟨rfl, hb2⟩
  go_wp2_with fail
  go_ret
  exact ⟨rfl, chain (((Below.refl _ _).alloc (Nat.le_refl _) _).trans (hb1.mono (by simp))) hb2⟩
set_option maxHeartbeats 400000 in
theorem sealAll_any (l : List UInt8) (w : World) (hl : l.length ≤ 1048576) :
    Calls Tryz.prog 141 #[str l] w fun e w' => e = .returned (str (l ++ sealL l)) ∧ Below w.heap.size w w' := by
  go_enter Tryz.func141, Tryz.ntmps141
  go_wp2_with fail
  refine (seal_any l _ hl).mono ?_
  rintro e w1 ⟨rfl, hb1⟩
  have hsl := sealL_length l
  generalize hs : sealL l = s at hsl
  have Hs := Lib.hid hs
  clear hs
  go_wp2_with fail
  rw [Hs.out]
  go_ret
  exact ⟨rfl, hb1⟩
set_option maxHeartbeats 400000 in
theorem clone_any (l : List UInt8) (w : World) (hl : l.length ≤ 1048576) :
    Calls Tryz.prog 123 #[str l] w fun e w' => e = .returned (str l) ∧ Below w.heap.size w w' := by
  go_enter Tryz.func123, Tryz.ntmps123
  go_wp2_with fail
  refine (Tryz.stringslite_Clone ⟨l.toArray⟩ _ (by simp [ByteArray.size]; omega)).mono ?_
  rintro e w1 ⟨rfl, hb1⟩
  go_wp2_with fail
  go_ret
  exact ⟨rfl, hb1⟩
set_option maxHeartbeats 400000 in
theorem open_short (l : List UInt8) (w : World) (hl : l.length < 4) :
    Calls Tryz.prog 102 #[str l] w fun e w' => e = .returned (.tuple #[str [], .int .i64 6]) ∧ Below w.heap.size w w' := by
  go_enter Tryz.func102, Tryz.ntmps102
  go_wp2_with fail
  refine (cut_neg l _ _ (by omega)).mono ?_
  rintro e w1 ⟨rfl, hb1⟩
  go_wp2_with fail
  go_ret2
  exact ⟨rfl, hb1⟩
set_option maxHeartbeats 400000 in
theorem open_bad (t q : List UInt8) (w : World) (hl : t.length ≤ 1048576) (hq : q.length = 4) (h : q ≠ sealL t) :
    Calls Tryz.prog 102 #[str (t ++ q)] w fun e w' => e = .returned (.tuple #[str [], .int .i64 7]) ∧ Below w.heap.size w w' := by
  have hc := fun (n : Int) (hn : n = (t.length : Int)) W => cut_ok (t ++ q) n t.length W (by simp only [maxLen, List.length_append]; omega) hn (by simp)
  rw [List.take_left, List.drop_left] at hc
  have h1 : (q == sealL t) = false := by simp [h]
  have hl2 : (t ++ q).length = t.length + 4 := by simp [hq]
  have Hc := Lib.hid hc
  clear hc h
  generalize t ++ q = s at hl2 Hc
  go_enter Tryz.func102, Tryz.ntmps102
  go_wp2_with fail
  refine (Hc.out _ (by omega) _).mono ?_
  rintro e w1 ⟨rfl, hb1⟩
  go_wp2_with fail
  refine (seal_any t _ hl).mono ?_
  rintro e w2 ⟨rfl, hb2⟩
  go_wp2_with fail
  go_ret2
  exact ⟨rfl, chain hb1 hb2⟩
set_option maxHeartbeats 400000 in
theorem open_ok (t : List UInt8) (w : World) (hl : t.length ≤ 1048576) :
    Calls Tryz.prog 102 #[str (t ++ sealL t)] w fun e w' => e = .returned (.tuple #[str t, .int .i64 0]) ∧ Below w.heap.size w w' := by
  have hq := sealL_length t
  have hc := fun (n : Int) (hn : n = (t.length : Int)) W => cut_ok (t ++ sealL t) n t.length W (by simp only [maxLen, List.length_append]; omega) hn (by simp)
  rw [List.take_left, List.drop_left] at hc
  have hl2 : (t ++ sealL t).length = t.length + 4 := by simp [hq]
  have hs := fun W => seal_any t W hl
  have Hc := Lib.hid hc
  have Hs := Lib.hid hs
  clear hc hs
  generalize t ++ sealL t = s at hl2 Hc
  generalize sealL t = q at Hc Hs hq
  go_enter Tryz.func102, Tryz.ntmps102
  go_wp2_with fail
  refine (Hc.out _ (by omega) _).mono ?_
  rintro e w1 ⟨rfl, hb1⟩
  go_wp2_with fail
  refine (Hs.out _).mono ?_
  rintro e w2 ⟨rfl, hb2⟩
  go_wp2_with fail
  refine (clone_any t _ hl).mono ?_
  rintro e w3 ⟨rfl, hb3⟩
  go_wp2_with fail
  go_ret2
  exact ⟨rfl, chain (chain hb1 hb2) hb3⟩
end Go.Proofs.YtdddennhdbmolaaGreat
