/- Two inodes, or two rows of five blocks, compared. -/
import Derived.Test.YtdddennhdbmolaaGreatM18
import Derived.Laws.StructEq
import Derived.ChangeKeysEq
namespace Go.Proofs.YtdddennhdbmolaaGreat
open Go.RowKit
set_option linter.unusedVariables false
set_option linter.unusedSimpArgs false
set_option maxRecDepth 10000
theorem info_uint16 : ∃ i, Tryz.prog.info? 24 = some i ∧ i.size = 1 := ⟨_, rfl, rfl⟩
theorem cells_uint16 : Tryz.prog.cellsOf 24 = 1 := by kernel_rfl
theorem eq_four (a b c d x y z u : Int) (k : Nat) (w : World) : (Op.equalIn (k + 1 + 1) 26 (.agg #[.int .u16 a, .int .u16 b, .int .u16 c, .int .u16 d]) (.agg #[.int .u16 x, .int .u16 y, .int .u16 z, .int .u16 u])).run Tryz.prog w = .ok (a == x && b == y && c == z && d == u) w := by
  obtain ⟨i, hi, hs⟩ := info_uint16
  have u3 := Tryz.underlying24
  have a3 := Tryz.isAgg24
  have z3 := Tryz.sizeOf24
  rw [run_equalIn_array w (k + 1) _ _ Tryz.underlying26 hi, cells_uint16, show List.range 4 = [0, 1, 2, 3] from rfl]
  simp only [Op.eqItems]
  go_simp
  by_cases h1 : a = x <;> by_cases h2 : b = y <;> by_cases h3 : c = z <;> by_cases h4 : d = u <;> simp [h1, h2, h3, h4]
theorem eq_ino (k n z a b c d e k' n' z' a' b' c' d' e' : Int) (w : World) : (Op.equalIn 10000 28 (.agg #[.int .u8 k, .int .u16 n, .int .u32 z, .int .u16 a, .int .u16 b, .int .u16 c, .int .u16 d, .int .u16 e]) (.agg #[.int .u8 k', .int .u16 n', .int .u32 z', .int .u16 a', .int .u16 b', .int .u16 c', .int .u16 d', .int .u16 e'])).run Tryz.prog w = .ok (k == k' && n == n' && z == z' && (a == a' && b == b' && c == c' && d == d') && e == e') w := by
  have u3 := Tryz.underlying24
  have a3 := Tryz.isAgg24
  have z3 := Tryz.sizeOf24
  have u4 := Tryz.underlying5
  have a4 := Tryz.isAgg5
  have z4 := Tryz.sizeOf5
  have u5 := Tryz.underlying25
  have a5 := Tryz.isAgg25
  have z5 := Tryz.sizeOf25
  have a6 := Tryz.isAgg26
  have z6 := Tryz.sizeOf26
  have h4 := fun W => eq_four a b c d a' b' c' d' 9997 W
  rw [run_equalIn_struct (P := Tryz.prog) (w := w) 9999 28 _ _ (by kernel_rfl) (by kernel_rfl)]
  simp only [Program.fieldsOf, Tryz.underlying28]
  go_simp
  by_cases h1 : k = k'
  case neg => simp [h1]
  by_cases h2 : n = n'
  case neg => simp [h1, h2]
  by_cases h3 : z = z'
  case neg => simp [h1, h2, h3]
  by_cases h5 : a = a'
  case neg => simp [h1, h2, h3, h5]
  by_cases h6 : b = b'
  case neg => simp [h1, h2, h3, h5, h6]
  by_cases h7 : c = c'
  case neg => simp [h1, h2, h3, h5, h6, h7]
  by_cases h8 : d = d'
  case neg => simp [h1, h2, h3, h5, h6, h7, h8]
  by_cases h9 : e = e' <;> simp [h1, h2, h3, h5, h6, h7, h8, h9]
/-- Two inodes compared. -/
theorem eq_im (x y : Im) (w : World) : (Op.equalIn 10000 28 x.v y.v).run Tryz.prog w = .ok (decide (x = y)) w := by
  rw [eq_ino]
  congr 1
  obtain ⟨k, n, z, a, b, c, d, e⟩ := x
  obtain ⟨k', n', z', a', b', c', d', e'⟩ := y
  rw [Bool.eq_iff_iff]
  simp only [Bool.and_eq_true, beq_iff_eq, decide_eq_true_eq, Im.mk.injEq]
  omega
theorem eq_nought (x : Im) (w : World) : (Op.equalIn 10000 28 x.v (.agg #[.int .u8 0, .int .u16 0, .int .u32 0, .int .u16 0, .int .u16 0, .int .u16 0, .int .u16 0, .int .u16 0])).run Tryz.prog w = .ok (decide (x = Im.nought)) w := eq_im x Im.nought w
end Go.Proofs.YtdddennhdbmolaaGreat
