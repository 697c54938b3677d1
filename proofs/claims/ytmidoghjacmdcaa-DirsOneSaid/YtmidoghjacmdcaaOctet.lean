/- Layer 1 (octet), and the document's own answers: what each function answers, for every input. -/
import Derived.Test.YtmidoghjacmdcaaBase
import Derived.Test.YtmidoghjacmdcaaOctM
namespace Go.Proofs.Ytmidoghjacmdcaa
open Go.RowKit
set_option linter.unusedVariables false
set_option linter.unusedSimpArgs false
set_option maxRecDepth 10000
/-- Nothing that was there has turned. -/
abbrev Quiet (w : World) (w' : World) : Prop := Below w.heap.size w w'
set_option maxHeartbeats 400000 in
theorem refBytes_any (v n : Nat) (w : World) (hv : v < 18446744073709551616) (hn : n ≤ 1024) :
    Calls Try.prog 39 #[.int .u64 v, .int .i64 n] w fun e w' => e = .returned (str (leB n v)) ∧ Below w.heap.size w w' := by
  have hcv := fun W n g hg => conv_one (P := Try.prog) 65 9 5 Try.underlying65 Try.underlying5 Try.underlying9 W n g hg
  go_enter Try.func39, Try.ntmps39
  go_wp2
  go_loopw [0, 5, 6] (fun x s i wr => ∃ k m : Nat, k ≤ n ∧ i = .int .i64 k ∧ s = str (leB k v) ∧ x = .int .u64 m ∧ m = v / 256 ^ k ∧ Below w.heap.size w wr) (fun _ _ i _ => n - (intOf i).toNat)
  case atStart => exact ⟨0, v, Nat.zero_le _, rfl, rfl, rfl, by simp, Below.refl _ _⟩
  case round =>
    obtain ⟨k, m, hk, rfl, rfl, rfl, hm, hb⟩ := hrel
    have hm2 : m < 18446744073709551616 := by rw [hm]; exact Nat.lt_of_le_of_lt (Nat.div_le_self _ _) hv
    have Hm := Lib.hid hm
    clear hm
    have hlen : (leB k v).length ≤ 1024 := by rw [leB_length]; omega
    by_cases hlt : k < n
    · go_wp2
      go_roundw
      case rel =>
        refine ⟨k + 1, m / 256, by omega, by go_num, ?_, by simp, ?_, ?_⟩
        · rw [leB_snoc, ← Hm.out]
        · rw [Hm.out, Nat.div_div_eq_div_mul, Nat.pow_succ]
        · exact hb.alloc hb.size _
      case measure => simp [intOf]; omega
    · go_wp2
      go_ret
      have : k = n := by omega
      subst this
      exact ⟨rfl, hb⟩
set_option maxHeartbeats 400000 in
theorem refValue_any (l : List UInt8) (w : World) (hl : l.length ≤ 8) :
    Calls Try.prog 61 #[str l] w fun e w' => e = .returned (.int .u64 (leV l)) ∧ Below w.heap.size w w' := by
  go_enter Try.func61, Try.ntmps61
  go_wp2
  go_loop [3, 4] (fun v i => ∃ k m : Nat, k ≤ l.length ∧ i = .int .i64 ((k : Int) - 1) ∧ v = .int .u64 m ∧ m = leV (l.drop k)) (fun _ i => (intOf i + 1).toNat)
  case atStart => exact ⟨l.length, 0, Nat.le_refl _, rfl, rfl, by simp [leV]⟩
  case round =>
    obtain ⟨k, m, hk, rfl, rfl, hm⟩ := hrel
    have Hm := Lib.hid hm
    rcases Nat.eq_zero_or_pos k with h0 | h0
    · clear hm
      subst h0
      go_wp2
      go_ret
      exact ⟨by rw [Hm.out]; rfl, Below.refl _ _⟩
    · have hm2 := leV_lt (l.drop k)
      rw [← hm, List.length_drop] at hm2
      clear hm
      have hm3 : m < 72057594037927936 := Nat.lt_of_lt_of_le hm2 (by
        have : 256 ^ (l.length - k) ≤ 256 ^ 7 := Nat.pow_le_pow_right (by omega) (by omega)
        exact Nat.le_trans this (by decide))
      clear hm2
      obtain ⟨j, rfl⟩ : ∃ j, k = j + 1 := ⟨k - 1, by omega⟩
      have hj : j < l.length := by omega
      have hd := leV_drop l j hj
      have Hd := Lib.hid hd
      clear hd
      have hbyte := (l[j]).toNat_lt
      go_wp2
      go_round
      case rel =>
        refine ⟨j, (l[j]).toNat + 256 * m, by omega, rfl, ?_, by rw [Hd.out, Hm.out]⟩
        go_num
      case measure => simp [intOf]
set_option maxHeartbeats 400000 in
theorem num_bad (v : Nat) (n : Int) (w : World) (hv : v < 18446744073709551616) (hn : n < 0 ∨ 8 < n) :
    Calls Try.prog 52 #[.int .u64 v, .int .i64 n] w fun e w' => e = .returned (.tuple #[str [], .int .i64 2]) ∧ Below w.heap.size w w' := by
  rcases hn with hn | hn
  all_goals
    go_enter Try.func52, Try.ntmps52
    go_wp2
    go_ret2
    exact ⟨rfl, ((Below.refl _ _).alloc (Nat.le_refl _) _).alloc (by simp) _⟩
set_option maxHeartbeats 400000 in
theorem num_big (v n : Nat) (w : World) (hv : v < 18446744073709551616) (hn : n ≤ 8) (hb : ((v : Int) / 2 ^ (8 * n) != 0) = true) :
    Calls Try.prog 52 #[.int .u64 v, .int .i64 n] w fun e w' => e = .returned (.tuple #[str [], .int .i64 2]) ∧ Below w.heap.size w w' := by
  go_enter Try.func52, Try.ntmps52
  go_wp2
  go_ret2
  exact ⟨rfl, ((Below.refl _ _).alloc (Nat.le_refl _) _).alloc (by simp) _⟩
theorem uint8Info : (Try.prog.info? 5).map (fun i => (i.zero, i.size, i.bytes)) = some (some (.int .u8 0), 1, 1) := by kernel_rfl
/-- 'make([]byte, n)'. -/
theorem make_bytes (n : Nat) (hn : n ≤ 1048576) : ∀ W : World, (Instr.makeSlice 65 (.int .i64 (n : Int)) (.int .i64 (n : Int))).run Try.prog W = .ok (.slice (some ⟨W.heap.size, 0, none⟩) n n) (W.alloc (.cells (byteCells (List.replicate n 0)) 5)) := fun W => by
  obtain ⟨i0, hi, hz0, hz1, hz2⟩ := info_parts uint8Info
  have h := run_make (P := Try.prog) W 65 5 i0 _ Try.underlying65 hi hz0 .i64 .i64 n n (by omega) (by omega) (by rw [hz2]; omega) (by omega)
  rw [hz1] at h
  simpa [Value.cells, made_bytes] using h
set_option maxHeartbeats 400000 in
theorem num_ok (v n : Nat) (w : World) (hv : v < 18446744073709551616) (hn : n ≤ 8) (hb : ((v : Int) / 2 ^ (8 * n) != 0) = false) :
    Calls Try.prog 52 #[.int .u64 v, .int .i64 n] w fun e w' => e = .returned (.tuple #[str (leB n v), .int .i64 0]) ∧ Below w.heap.size w w' := by
  have hmk := make_bytes n (by omega)
  go_enter Try.func52, Try.ntmps52
  go_wp2
  go_loopw [21] (fun i wr => ∃ k : Nat, k ≤ n ∧ i = .int .i64 k ∧ wr.heap[w.heap.size + 1 + 1]? = some (.cells (byteCells (leB k v ++ List.replicate (n - k) 0)) 5 (0, 0)) ∧ Below w.heap.size w wr) (fun i _ => n - (intOf i).toNat)
  case atStart =>
    refine ⟨0, Nat.zero_le _, rfl, ?_, (((Below.refl _ _).alloc (Nat.le_refl _) _).alloc (by simp) _).alloc (by simp; omega) _⟩
    exact heap_new _ _ _ (by simp)
  case round =>
    obtain ⟨k, hk, rfl, hg, hb2⟩ := hrel
    by_cases hlt : k < n
    · have hcell := cell_of_row wr (w.heap.size + 1 + 1) k _ 5 (0, 0) hg
      have hfr := frozen_of_row wr (w.heap.size + 1 + 1) k _ 5 hg
      have hget : (byteCells (leB k v ++ List.replicate (n - k) 0))[k]? = some (.int .u8 0) := by
        rw [byteCells_get _ _ (by simp [leB_length]; omega), List.getElem_append_right (by rw [leB_length]; omega)]
        simp
      rw [hget] at hcell
      have Hg := Lib.hid hg
      clear hg hget
      go_wp2
      go_roundw
      case rel =>
        refine ⟨k + 1, by omega, by go_num, ?_, ?_⟩
        · have hx : ((v : Int) / 2 ^ (8 * k) % 256) = ((UInt8.ofNat (v / 256 ^ k % 256)).toNat : Int) := by
            rw [UInt8.toNat_ofNat', pow256]
            simp only [Int.natCast_emod, Int.natCast_ediv, Int.natCast_pow]
            simp
          rw [blk_set_byte Hg.out _ _ hx, leB_fill _ _ _ hlt]
        · exact hb2.setCell (by simp; omega) _
      case measure => simp [intOf]; omega
    · have hkn : k = n := by omega
      subst hkn
      have hg' : wr.heap[w.heap.size + 1 + 1]? = some (.cells (byteCells (leB k v)) 5 (0, 0)) := by simpa using hg
      have hcv := conv_blk (P := Try.prog) 65 9 5 Try.underlying65 Try.underlying5 Try.underlying9 wr (w.heap.size + 1 + 1) k (leB k v) hg'
      rw [leB_length] at hcv
      clear hg hg'
      go_wp2
      go_ret2
      exact ⟨rfl, hb2⟩
end Go.Proofs.Ytmidoghjacmdcaa
