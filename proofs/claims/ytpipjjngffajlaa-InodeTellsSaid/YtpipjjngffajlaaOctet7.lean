/- Layer 1 (octet): the chapter's examples; each function once more, in one sentence. -/
import Derived.Test.YtpipjjngffajlaaOctet6
namespace Go.Proofs.Ytpipjjngffajlaa
open Go.RowKit
set_option linter.unusedVariables false
set_option linter.unusedSimpArgs false
set_option maxRecDepth 10000
theorem quot_zero (v n : Nat) (h : v < 256 ^ n) : ((v : Int) / 2 ^ (8 * n) != 0) = false := by
  rw [pow256] at h
  have h1 : v / 2 ^ (8 * n) = 0 := Nat.div_eq_of_lt h
  have h2 : ((v : Int) / 2 ^ (8 * n)) = ((v / 2 ^ (8 * n) : Nat) : Int) := by simp
  rw [h2, h1]; rfl
theorem quot_some (v n : Nat) (h : ¬ v < 256 ^ n) : ((v : Int) / 2 ^ (8 * n) != 0) = true := by
  rw [pow256] at h
  have h1 : 0 < v / 2 ^ (8 * n) := Nat.div_pos (by omega) (Nat.pow_pos (by omega))
  have h2 : ((v : Int) / 2 ^ (8 * n)) = ((v / 2 ^ (8 * n) : Nat) : Int) := by simp
  rw [h2, bne_iff_ne]
  omega
theorem num_yes (u i : Int) (v n : Nat) (w : World) (hu : u = v) (hi : i = n) (hv : v < 18446744073709551616) (hn : n ≤ 8) (h : v < 256 ^ n) :
    Calls Try.prog 33 #[.int .u64 u, .int .i64 i] w fun e w' => e = .returned (.tuple #[str (leB n v), .int .i64 0]) ∧ Below w.heap.size w w' := by
  subst hu hi
  exact num_ok v n w hv hn (quot_zero v n h)
theorem num_no (u i : Int) (v n : Nat) (w : World) (hu : u = v) (hi : i = n) (hv : v < 18446744073709551616) (hn : n ≤ 8) (h : ¬ v < 256 ^ n) :
    Calls Try.prog 33 #[.int .u64 u, .int .i64 i] w fun e w' => e = .returned (.tuple #[str [], .int .i64 2]) ∧ Below w.heap.size w w' := by
  subst hu hi
  exact num_big v n w hv hn (quot_some v n h)
/-- A row that the text itself makes. -/
theorem row_lit (w : World) (t : TypeId) (xs : List Value) : Row (w.alloc (.cells xs.toArray t)) (.slice (some ⟨w.heap.size, 0, none⟩) xs.length xs.length) xs := by
  refine ⟨some ⟨w.heap.size, 0, none⟩, xs.length, rfl, fun j u hj => ⟨_, rfl, ?_⟩⟩
  rw [cell_of_row _ _ j _ t (0, 0) (heap_alloc_new w _)]
  simpa using hj
theorem row_below {w w' : World} {v : Value} {xs : List Value} (h : Row w v xs) (hb : Below w.heap.size w w') : Row w' v xs := by
  obtain ⟨A, c, hv, hc⟩ := h
  refine ⟨A, c, hv, fun j u hj => ?_⟩
  obtain ⟨g, hA, hcell⟩ := hc j u hj
  exact ⟨g, hA, (hb.cell (World.block_lt_of_cell? w _ hcell)).trans hcell⟩
end Go.Proofs.Ytpipjjngffajlaa
