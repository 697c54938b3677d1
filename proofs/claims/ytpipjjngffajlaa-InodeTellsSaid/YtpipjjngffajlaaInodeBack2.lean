/- The statement InodeBack: its walk, in the arguments' own words. -/
import Derived.Test.YtpipjjngffajlaaInodeBack
import Derived.Test.YtpipjjngffajlaaInodeArgs
namespace Go.Proofs.Ytpipjjngffajlaa
open Go.RowKit
set_option linter.unusedVariables false
set_option linter.unusedSimpArgs false
set_option maxRecDepth 10000
theorem walk_InodeBack (a0_0 a0_1 a0_2 a0_3 a0_4 a0_5 a0_6 a0_7 a1_0 a1_1 a1_2 a1_3 a1_4 a1_5 a1_6 a1_7 : Int) (a2 : ByteArray) (w0_0 : (Lit.int .u8 a0_0).wf = true) (w0_1 : (Lit.int .u16 a0_1).wf = true) (w0_2 : (Lit.int .u32 a0_2).wf = true) (w0_3 : (Lit.int .u16 a0_3).wf = true) (w0_4 : (Lit.int .u16 a0_4).wf = true) (w0_5 : (Lit.int .u16 a0_5).wf = true) (w0_6 : (Lit.int .u16 a0_6).wf = true) (w0_7 : (Lit.int .u16 a0_7).wf = true) (w1_0 : (Lit.int .u8 a1_0).wf = true) (w1_1 : (Lit.int .u16 a1_1).wf = true) (w1_2 : (Lit.int .u32 a1_2).wf = true) (w1_3 : (Lit.int .u16 a1_3).wf = true) (w1_4 : (Lit.int .u16 a1_4).wf = true) (w1_5 : (Lit.int .u16 a1_5).wf = true) (w1_6 : (Lit.int .u16 a1_6).wf = true) (w1_7 : (Lit.int .u16 a1_7).wf = true) (z2 : a2.size ≤ 140737488351232) (W : World) :
    Calls Try.prog 4 #[.agg #[.int .u8 a0_0, .int .u16 a0_1, .int .u32 a0_2, .int .u16 a0_3, .int .u16 a0_4, .int .u16 a0_5, .int .u16 a0_6, .int .u16 a0_7], .agg #[.int .u8 a1_0, .int .u16 a1_1, .int .u32 a1_2, .int .u16 a1_3, .int .u16 a1_4, .int .u16 a1_5, .int .u16 a1_6, .int .u16 a1_7], .string a2] W fun e w' => e = .returned (.bool true) ∧ Below W.heap.size W w' := by
  obtain ⟨x, hx, ex⟩ := im_of w0_0 w0_1 w0_2 w0_3 w0_4 w0_5 w0_6 w0_7
  obtain ⟨y, hy, ey⟩ := im_of w1_0 w1_1 w1_2 w1_3 w1_4 w1_5 w1_6 w1_7
  rw [ex, ey, str_of a2]
  exact back_im x y hx hy a2.data.toList (by rw [Array.length_toList]; exact z2) W
end Go.Proofs.Ytpipjjngffajlaa
