/- What walks of ranges over functions use. -/
import Derived.Test.YtmidoghjacmdcaaBaseArr
import Derived.Test.YtmidoghjacmdcaaBaseRows
import Derived.RangeFuncNested
import Derived.RangeFuncBound
import Derived.RangeFuncCalls
import Derived.RangeFuncLeaves
import Derived.Shelf.Abstract
import Derived.Shelf.RegionOpen
import Derived.OwnWalkIn
import Derived.TacticsInMore
import Derived.LoopNIn
import Derived.LoopIn
namespace Go.Proofs.Ytmidoghjacmdcaa
open Go.RowKit Go.Shelf
set_option linter.unusedVariables false
set_option linter.unusedSimpArgs false
set_option maxRecDepth 10000
theorem cell_new_l (W : World) (v : Value) (t : TypeId) : (W.alloc (.cells #[v] t)).cell? ⟨W.heap.size, 0, none⟩ = some v := by
  rw [cell_of_row _ _ 0 _ t (0, 0) (heap_alloc_new W _)]; rfl
theorem frozen_new_l (W : World) (v : Value) (t : TypeId) : (W.alloc (.cells #[v] t)).frozen? ⟨W.heap.size, 0, none⟩ = false := frozen_of_row _ _ 0 _ t (heap_alloc_new W _)
/-- A slice of texts, in a block below n₀. -/
def Parts (n₀ : Nat) (w : World) (v : Value) (ps : List (List UInt8)) : Prop :=
  ∃ A c, v = .slice A ps.length c ∧ ∀ j p, ps[j]? = some p → ∃ g, A = some ⟨g, 0, none⟩ ∧ g < n₀ ∧ w.cell? ⟨g, j, none⟩ = some (str p)
theorem parts_below {n₀ : Nat} {w w' : World} {v : Value} {ps : List (List UInt8)} (h : Parts n₀ w v ps) (hb : Below n₀ w w') : Parts n₀ w' v ps := by
  obtain ⟨A, c, hv, hc⟩ := h
  refine ⟨A, c, hv, fun j p hj => ?_⟩
  obtain ⟨g, hA, hg, hcell⟩ := hc j p hj
  exact ⟨g, hA, hg, (hb.cell (p := ⟨g, j, none⟩) hg).trans hcell⟩
theorem parts_of_row {w : World} {v : Value} {ps : List (List UInt8)} (h : Row w v (ps.map str)) : Parts w.heap.size w v ps := by
  obtain ⟨A, c, hv, hc⟩ := h
  refine ⟨A, c, by simpa using hv, fun j p hj => ?_⟩
  obtain ⟨g, hA, hcell⟩ := hc j (str p) (by simp [hj])
  exact ⟨g, hA, World.block_lt_of_cell? w _ hcell, hcell⟩
theorem flat_take_succ (ps : List (List UInt8)) (k : Nat) (h : k < ps.length) : (ps.take (k + 1)).flatten = (ps.take k).flatten ++ ps[k] := by
  rw [List.take_succ_eq_append_getElem h, List.flatten_append, List.flatten_singleton]
theorem flat_take_le (ps : List (List UInt8)) (k : Nat) : (ps.take k).flatten.length ≤ ps.flatten.length := by
  have h : ps.flatten = (ps.take k).flatten ++ (ps.drop k).flatten := by rw [← List.flatten_append, List.take_append_drop]
  rw [h, List.length_append]; omega
theorem flat_take_prefix (ps : List (List UInt8)) (k : Nat) (h : k < ps.length) (j : Nat) : (ps.take k).flatten ++ (ps[k].take j) <+: ps.flatten := by
  refine ⟨ps[k].drop j ++ (ps.drop (k + 1)).flatten, ?_⟩
  rw [List.append_assoc, ← List.append_assoc (List.take j _), List.take_append_drop, ← List.append_assoc, ← flat_take_succ ps k h, ← List.flatten_append, List.take_append_drop]
end Go.Proofs.Ytmidoghjacmdcaa
