/- Two entries compared. -/
import Derived.Test.YtmidoghjacmdcaaDirs6
import Derived.Laws.StructEq
namespace Go.Proofs.Ytmidoghjacmdcaa
open Go.RowKit
set_option linter.unusedVariables false
set_option linter.unusedSimpArgs false
set_option maxRecDepth 10000
theorem eq_entry (a b : List UInt8) (c d : Int) (w : World) : (Op.equalIn 10000 34 (.agg #[str a, .int .u32 c]) (.agg #[str b, .int .u32 d])).run Try.prog w = .ok (decide (a = b) && c == d) w := by
  have u3 := Try.underlying9
  have a3 := Try.isAgg9
  have z3 := Try.sizeOf9
  have u5 := Try.underlying22
  have a5 := Try.isAgg22
  have z5 := Try.sizeOf22
  rw [run_equalIn_struct (P := Try.prog) (w := w) 9999 34 _ _ (by kernel_rfl) (by kernel_rfl)]
  simp only [Program.fieldsOf, Try.underlying34]
  go_simp
  by_cases h1 : a = b <;> by_cases h2 : c = d <;> simp [h1, h2]
theorem eq_ent (x y : En) (w : World) : (Op.equalIn 10000 34 x.v y.v).run Try.prog w = .ok (decide (x = y)) w := by
  rw [eq_entry]
  congr 1
  obtain ⟨a, c⟩ := x
  obtain ⟨b, d⟩ := y
  rw [Bool.eq_iff_iff]
  simp only [Bool.and_eq_true, beq_iff_eq, decide_eq_true_eq, En.mk.injEq]
  exact ⟨fun h => ⟨h.1, by omega⟩, fun h => ⟨h.1, by omega⟩⟩
end Go.Proofs.Ytmidoghjacmdcaa
