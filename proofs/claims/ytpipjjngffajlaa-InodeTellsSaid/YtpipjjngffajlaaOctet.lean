/- Layer 1 (octet), and the document's own answers: what each function answers, for every input. -/
import Derived.Test.YtpipjjngffajlaaBase
import Derived.Test.YtpipjjngffajlaaOctM
namespace Go.Proofs.Ytpipjjngffajlaa
open Go.RowKit
set_option linter.unusedVariables false
set_option linter.unusedSimpArgs false
set_option maxRecDepth 10000
/-- Nothing that was there has turned. -/
abbrev Quiet (w : World) (w' : World) : Prop := Below w.heap.size w w'
set_option maxHeartbeats 400000 in
theorem num_bad (v : Nat) (n : Int) (w : World) (hv : v < 18446744073709551616) (hn : n < 0 ∨ 8 < n) :
    Calls Try.prog 33 #[.int .u64 v, .int .i64 n] w fun e w' => e = .returned (.tuple #[str [], .int .i64 2]) ∧ Below w.heap.size w w' := by
  rcases hn with hn | hn
  all_goals
    go_enter Try.func33, Try.ntmps33
    go_wp2
    go_ret2
    exact ⟨rfl, ((Below.refl _ _).alloc (Nat.le_refl _) _).alloc (by simp) _⟩
set_option maxHeartbeats 400000 in
theorem num_big (v n : Nat) (w : World) (hv : v < 18446744073709551616) (hn : n ≤ 8) (hb : ((v : Int) / 2 ^ (8 * n) != 0) = true) :
    Calls Try.prog 33 #[.int .u64 v, .int .i64 n] w fun e w' => e = .returned (.tuple #[str [], .int .i64 2]) ∧ Below w.heap.size w w' := by
  go_enter Try.func33, Try.ntmps33
  go_wp2
  go_ret2
  exact ⟨rfl, ((Below.refl _ _).alloc (Nat.le_refl _) _).alloc (by simp) _⟩
theorem uint8Info : (Try.prog.info? 5).map (fun i => (i.zero, i.size, i.bytes)) = some (some (.int .u8 0), 1, 1) := by kernel_rfl
/-- 'make([]byte, n)'. -/
theorem make_bytes (n : Nat) (hn : n ≤ 1048576) : ∀ W : World, (Instr.makeSlice 60 (.int .i64 (n : Int)) (.int .i64 (n : Int))).run Try.prog W = .ok (.slice (some ⟨W.heap.size, 0, none⟩) n n) (W.alloc (.cells (byteCells (List.replicate n 0)) 5)) := fun W => by
  obtain ⟨i0, hi, hz0, hz1, hz2⟩ := info_parts uint8Info
  have h := run_make (P := Try.prog) W 60 5 i0 _ Try.underlying60 hi hz0 .i64 .i64 n n (by omega) (by omega) (by rw [hz2]; omega) (by omega)
  rw [hz1] at h
  simpa [Value.cells, made_bytes] using h
set_option maxHeartbeats 400000 in
theorem num_ok (v n : Nat) (w : World) (hv : v < 18446744073709551616) (hn : n ≤ 8) (hb : ((v : Int) / 2 ^ (8 * n) != 0) = false) :
    Calls Try.prog 33 #[.int .u64 v, .int .i64 n] w fun e w' => e = .returned (.tuple #[str (leB n v), .int .i64 0]) ∧ Below w.heap.size w w' := by
  have hmk := make_bytes n (by omega)
  go_enter Try.func33, Try.ntmps33
  go_wp2
  go_loopw [21] (fun i wr => ∃ k : Nat, k ≤ n ∧ i = .int .i64 k ∧ wr.heap[w.heap.size + 1 + 1]? = some (.cells (byteCells (leB k v ++ List.replicate (n - k) 0)) 5 (0, 0)) ∧ Below w.heap.size w wr) (fun i _ => n - (intOf i).toNat)
  case atStart =>
    refine ⟨0, Nat.zero_le _, rfl, ?_, (((Below.refl _ _).alloc (Nat.le_refl _) _).alloc (by simp) _).alloc (by simp; omega) _⟩
    exact heap_new _ _ _ (by simp)
  case round =>
    obtain ⟨k, hk, rfl, hg, hb2⟩ := hrel
    by_cases hlt : k < n
    · have hcell := cell_of_row wr (w.heap.size + 1 + 1) k _ 5 (0, 0) hg
      have hfr := frozen_of_row wr (w.heap.size + 1 + 1) k _ 5 hg
      have hget : (byteCells (leB k v ++ List.replicate (n - k) 0))[k]? = some (.int .u8 0) := by
        rw [byteCells_get _ _ (by simp [leB_length]; omega), List.getElem_append_right (by rw [leB_length]; omega)]
        simp
      rw [hget] at hcell
      have Hg := Lib.hid hg
      clear hg hget
      go_wp2
      go_roundw
      case rel =>
        refine ⟨k + 1, by omega, by go_num, ?_, ?_⟩
        · have hx : ((v : Int) / 2 ^ (8 * k) % 256) = ((UInt8.ofNat (v / 256 ^ k % 256)).toNat : Int) := by
            rw [UInt8.toNat_ofNat', pow256]
            simp only [Int.natCast_emod, Int.natCast_ediv, Int.natCast_pow]
            simp
          rw [blk_set_byte Hg.out _ _ hx, leB_fill _ _ _ hlt]
        · exact hb2.setCell (by simp; omega) _
      case measure => simp [intOf]; omega
    · have hkn : k = n := by omega
      subst hkn
      have hg' : wr.heap[w.heap.size + 1 + 1]? = some (.cells (byteCells (leB k v)) 5 (0, 0)) := by simpa using hg
      have hcv := conv_blk (P := Try.prog) 60 9 5 Try.underlying60 Try.underlying5 Try.underlying9 wr (w.heap.size + 1 + 1) k (leB k v) hg'
      rw [leB_length] at hcv
      clear hg hg'
      go_wp2
      go_ret2
      exact ⟨rfl, hb2⟩
end Go.Proofs.Ytpipjjngffajlaa
