/- Layer 10 (dirs), the laws: an argument that is one step; DirsOne's walk. -/
import Derived.Test.YtmidoghjacmdcaaDirsOne
import Derived.Lib.SmallJoins
import Derived.SizedLaws
import Derived.ProofKit
import Derived.OpenShut
namespace Go.Proofs.Ytmidoghjacmdcaa
open Go.RowKit Go.ChangeShapes Go.WideShapes Go.Joins
set_option linter.unusedVariables false
set_option linter.unusedSimpArgs false
set_option maxRecDepth 10000
section
variable {H : Type} {enc : TypeId × Value → H} {w : World} {base : Nat} {spare : Nat → Bool} {held : Bool}
theorem open_dstep {r : Reach} {b0 : Nat} {v : Value} {d : DataW H} {p : List MemPlace} (hv : Value.okWide Try.prog w r b0 45 v) (h : DataW.Trod enc Try.prog w base spare held 45 v d p) :
    ∃ (x : Int) (y : ByteArray) (z : Int), v = .agg #[.int .i64 x, .string y, .int .u32 z] ∧ d = .agg [.lit (.int .i64 x), .lit (.string y.data.toList), .lit (.int .u32 z)] ∧ p = [] ∧ (Lit.int .i64 x).wf = true ∧ y.size ≤ maxLen ∧ (Lit.int .u32 z).wf = true := by
  obtain ⟨c0, c1, c2, y0, y1, y2, m, rfl, rfl, rfl, hy0, hy1, hy2⟩ := open_agg3 Try.underlying45 (by kernel_rfl) (by kernel_rfl) hv h
  obtain ⟨x, e0, rfl, wx⟩ := DataW.trod_int Try.underlying3 hy0
  obtain ⟨y, e1, rfl, wy⟩ := DataW.trod_string Try.underlying9 hy1
  obtain ⟨z, e2, rfl, wz⟩ := DataW.trod_int Try.underlying22 hy2
  simp at e0 e1 e2
  subst e0 e1 e2
  exact ⟨x, y, z, rfl, rfl, rfl, wx, wy, wz⟩
theorem shut_dstep {x z : Int} {y : ByteArray} (wx : (Lit.int .i64 x).wf = true) (wy : y.size ≤ maxLen) (wz : (Lit.int .u32 z).wf = true) :
    DataW.Trod enc Try.prog w base spare held 45 (.agg #[.int .i64 x, .string y, .int .u32 z]) (.agg [.lit (.int .i64 x), .lit (.string y.data.toList), .lit (.int .u32 z)]) [] := by
  simpa using shut_agg3 (enc := enc) (w := w) (base := base) (spare := spare) (held := held) (y0 := (.lit (.int .i64 x), [])) (y1 := (.lit (.string y.data.toList), [])) (y2 := (.lit (.int .u32 z), [])) Try.underlying45 (by kernel_rfl) (by kernel_rfl)
    ⟨1, by simp [DataW.trod, Try.underlying3, wx]⟩ ⟨1, by simp [DataW.trod, Try.underlying9, wy]⟩ ⟨1, by simp [DataW.trod, Try.underlying22, wz]⟩
end
theorem sized_dstep {H : Type} {ts : List TypeId} {ds : List (DataW H)} (h : (DataW.weightsEach Try.prog ts ds).all (· ≤ reachBytes) = true) {j : Nat} {a c : DataW H} {y : ByteArray}
    (ht : ts[j]? = some 45) (hd : ds[j]? = some (.agg [a, .lit (.string y.data.toList), c])) : y.size ≤ 140737488351232 := by
  refine Nat.le_trans (of_decide_eq_true (List.all_eq_true.1 h _ (DataW.weights_mem_each ht hd y.size ?_))) (by decide : reachBytes ≤ 140737488351232)
  simp only [DataW.weights, Try.underlying45]
  simp [DataW.weightsEach, DataW.weights]
/-- The walk of DirsOne. -/
theorem walk_DirsOne (W : World) (v : Value) (l : List DSt) (d : Int) (b : ByteArray) (n : Int) (h : DSteps W v l) (hs : ∀ x ∈ l, fineD x) (hl : l.length ≤ maxLen ∧ l.length * 32 ≤ 140737488351232)
    (wd : (Lit.int .i64 d).wf = true) (wb : b.size ≤ maxLen) (wn : (Lit.int .u32 n).wf = true) (hb : b.size ≤ 140737488351232) :
    Calls Try.prog 5 #[v, .agg #[.int .i64 d, .string b, .int .u32 n]] W fun e w' => e = .returned (.bool true) ∧ Below W.heap.size W w' := by
  obtain ⟨m, rfl⟩ : ∃ l : List UInt8, b = ⟨l.toArray⟩ := ⟨b.data.toList, rfl⟩
  have hm : m.length ≤ 140737488351232 := by simpa [ByteArray.size] using hb
  have hr := u32_range wn
  obtain ⟨i, rfl⟩ : ∃ i : Nat, n = i := ⟨n.toNat, by omega⟩
  exact one_any v l ⟨d, m, i⟩ W h hs ⟨hm, by simp only; omega⟩ hl
end Go.Proofs.Ytmidoghjacmdcaa
