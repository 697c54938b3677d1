/- Layer 7: arguments that are inodes, or rows of blocks, opened and shut. -/
import Derived.Test.YtdddennhdbmolaaGreatM18
import Derived.Lib.SmallJoins
import Derived.Deep.Slices
import Derived.Deep.Fields
import Derived.SizedLaws
import Derived.ChangeShapes
import Derived.Carry
import Derived.ProofKit
import Derived.OpenShut
namespace Go.Proofs.YtdddennhdbmolaaGreat
open Go.RowKit Go.ChangeShapes Go.WideShapes Go.Deep
set_option linter.unusedVariables false
set_option linter.unusedSimpArgs false
set_option maxRecDepth 10000
section
variable {H : Type} {enc : TypeId × Value → H} {w : World} {base : Nat} {spare : Nat → Bool} {held : Bool}
abbrev inoV (k n z a b c d e : Int) : Value := .agg #[.int .u8 k, .int .u16 n, .int .u32 z, .int .u16 a, .int .u16 b, .int .u16 c, .int .u16 d, .int .u16 e]
abbrev inoD (k n z a b c d e : Int) : DataW H := .agg [.lit (.int .u8 k), .lit (.int .u16 n), .lit (.int .u32 z), .agg [.lit (.int .u16 a), .lit (.int .u16 b), .lit (.int .u16 c), .lit (.int .u16 d)], .lit (.int .u16 e)]
theorem trod_four {fuel : Nat} {cs : List Value} {x : DataW H × List MemPlace} (h : DataW.trod enc Tryz.prog w base spare held fuel 26 cs = some x) :
    ∃ a b c d : Int, cs = [.int .u16 a, .int .u16 b, .int .u16 c, .int .u16 d] ∧ x = (.agg [.lit (.int .u16 a), .lit (.int .u16 b), .lit (.int .u16 c), .lit (.int .u16 d)], []) ∧ (Lit.int .u16 a).wf = true ∧ (Lit.int .u16 b).wf = true ∧ (Lit.int .u16 c).wf = true ∧ (Lit.int .u16 d).wf = true := by
  cases fuel with
  | zero => simp [DataW.trod] at h
  | succ fuel =>
    have k1 : Tryz.prog.cellsOf 24 = 1 := by kernel_rfl
    have k4 : Tryz.prog.cellsOf 26 = 4 := by kernel_rfl
    simp only [DataW.trod, Tryz.underlying26, k1, k4] at h
    split at h
    · rename_i hl
      match cs, hl with
      | [c0, c1, c2, c3], _ =>
        simp only [show List.range 4 = [0, 1, 2, 3] from rfl, List.mapM_cons, List.mapM_nil, Nat.zero_mul, Nat.one_mul, List.drop_zero, List.take_succ_cons, List.take_zero, List.drop_succ_cons, Nat.mul_one, bind, Option.bind_eq_some_iff, Option.map_eq_some_iff, pure] at h
        obtain ⟨xs, ⟨y0, h0, r0, ⟨y1, h1, r1, ⟨y2, h2, r2, ⟨y3, h3, r3, e3, e2⟩, e1⟩, e0⟩, exs⟩, rfl⟩ := h
        obtain ⟨a, ea, rfl, wa⟩ := DataW.trod_int Tryz.underlying24 h0
        obtain ⟨b, eb, rfl, wb⟩ := DataW.trod_int Tryz.underlying24 h1
        obtain ⟨c, ec, rfl, wc⟩ := DataW.trod_int Tryz.underlying24 h2
        obtain ⟨d, ed, rfl, wd⟩ := DataW.trod_int Tryz.underlying24 h3
        simp only [List.cons.injEq, and_true] at ea eb ec ed
        subst ea eb ec ed
        refine ⟨a, b, c, d, rfl, ?_, wa, wb, wc, wd⟩
        simp only [Option.some.injEq] at exs e0 e1 e2 e3
        subst e3
        subst e2
        subst e1
        subst e0
        subst exs
        rfl
    · cases h
theorem trod_four_mk {n : Nat} {a b c d : Int} (wa : (Lit.int .u16 a).wf = true) (wb : (Lit.int .u16 b).wf = true) (wc : (Lit.int .u16 c).wf = true) (wd : (Lit.int .u16 d).wf = true) :
    DataW.trod enc Tryz.prog w base spare held (n + 1 + 1) 26 [.int .u16 a, .int .u16 b, .int .u16 c, .int .u16 d] = some (.agg [.lit (.int .u16 a), .lit (.int .u16 b), .lit (.int .u16 c), .lit (.int .u16 d)], []) := by
  have k1 : Tryz.prog.cellsOf 24 = 1 := by kernel_rfl
  have k4 : Tryz.prog.cellsOf 26 = 4 := by kernel_rfl
  simp [DataW.trod, Tryz.underlying26, k1, k4, show List.range 4 = [0, 1, 2, 3] from rfl, Tryz.underlying24, wa, wb, wc, wd]
theorem open_ino {r : Reach} {b0 : Nat} {v : Value} {d : DataW H} {p : List MemPlace} (hv : Value.okWide Tryz.prog w r b0 28 v) (h : DataW.Trod enc Tryz.prog w base spare held 28 v d p) :
    ∃ x0 x1 x2 x3 x4 x5 x6 x7 : Int, v = inoV x0 x1 x2 x3 x4 x5 x6 x7 ∧ d = inoD x0 x1 x2 x3 x4 x5 x6 x7 ∧ p = [] ∧ (Lit.int .u8 x0).wf = true ∧ (Lit.int .u16 x1).wf = true ∧ (Lit.int .u32 x2).wf = true ∧ (Lit.int .u16 x3).wf = true ∧ (Lit.int .u16 x4).wf = true ∧ (Lit.int .u16 x5).wf = true ∧ (Lit.int .u16 x6).wf = true ∧ (Lit.int .u16 x7).wf = true := by
  obtain ⟨cs, rfl, hsz⟩ := okWide_struct Tryz.underlying28 hv
  obtain ⟨fuel, hf⟩ := h
  obtain ⟨xs, n, _, hx, hl, hlen, hg⟩ := DataW.trod_struct Tryz.underlying28 hf
  have k8 : Tryz.prog.cellsOf 5 = 1 := by kernel_rfl
  have k16 : Tryz.prog.cellsOf 24 = 1 := by kernel_rfl
  have k32 : Tryz.prog.cellsOf 25 = 1 := by kernel_rfl
  have k4 : Tryz.prog.cellsOf 26 = 4 := by kernel_rfl
  have hC : Tryz.prog.cellsOf 28 = 8 := by kernel_rfl
  obtain ⟨l⟩ := cs
  have hl8 : l.length = 8 := by simpa [hC] using hsz
  match l, hl8 with
  | [c0, c1, c2, c3, c4, c5, c6, c7], _ =>
    match xs, hlen with
    | [y0, y1, y2, y3, y4], _ =>
      have g0 : DataW.trod enc Tryz.prog w base spare held n 5 ([c0, c1, c2, c3, c4, c5, c6, c7].take (Tryz.prog.cellsOf 5)) = some y0 := hg 0 _ rfl
      have g1 : DataW.trod enc Tryz.prog w base spare held n 24 ([c1, c2, c3, c4, c5, c6, c7].take (Tryz.prog.cellsOf 24)) = some y1 := hg 1 _ rfl
      have g2 : DataW.trod enc Tryz.prog w base spare held n 25 ([c2, c3, c4, c5, c6, c7].take (Tryz.prog.cellsOf 25)) = some y2 := hg 2 _ rfl
      have g3 : DataW.trod enc Tryz.prog w base spare held n 26 ([c3, c4, c5, c6, c7].take (Tryz.prog.cellsOf 26)) = some y3 := hg 3 _ rfl
      have g4 : DataW.trod enc Tryz.prog w base spare held n 24 ([c7].take (Tryz.prog.cellsOf 24)) = some y4 := hg 4 _ rfl
      clear hg hf
      rw [k8] at g0
      rw [k16] at g1 g4
      rw [k32] at g2
      rw [k4] at g3
      obtain ⟨x0, e0, rfl, w0⟩ := DataW.trod_int Tryz.underlying5 g0
      obtain ⟨x1, e1, rfl, w1⟩ := DataW.trod_int Tryz.underlying24 g1
      obtain ⟨x2, e2, rfl, w2⟩ := DataW.trod_int Tryz.underlying25 g2
      obtain ⟨x3, x4, x5, x6, e3, rfl, w3, w4, w5, w6⟩ := trod_four g3
      obtain ⟨x7, e4, rfl, w7⟩ := DataW.trod_int Tryz.underlying24 g4
      simp only [List.take_succ_cons, List.take_zero, List.cons.injEq, and_true] at e0 e1 e2 e3 e4
      obtain ⟨rfl, rfl, rfl, rfl⟩ := e3
      subst e0
      subst e1
      subst e2
      subst e4
      simp only [Prod.mk.injEq] at hx
      exact ⟨x0, x1, x2, x3, x4, x5, x6, x7, rfl, hx.1, by simpa using hx.2, w0, w1, w2, w3, w4, w5, w6, w7⟩
theorem shut_ino {x0 x1 x2 x3 x4 x5 x6 x7 : Int} (w0 : (Lit.int .u8 x0).wf = true) (w1 : (Lit.int .u16 x1).wf = true) (w2 : (Lit.int .u32 x2).wf = true) (w3 : (Lit.int .u16 x3).wf = true) (w4 : (Lit.int .u16 x4).wf = true) (w5 : (Lit.int .u16 x5).wf = true) (w6 : (Lit.int .u16 x6).wf = true) (w7 : (Lit.int .u16 x7).wf = true) :
    DataW.Trod enc Tryz.prog w base spare held 28 (inoV x0 x1 x2 x3 x4 x5 x6 x7) (inoD x0 x1 x2 x3 x4 x5 x6 x7) [] := by
  have k8 : Tryz.prog.cellsOf 5 = 1 := by kernel_rfl
  have k16 : Tryz.prog.cellsOf 24 = 1 := by kernel_rfl
  have k32 : Tryz.prog.cellsOf 25 = 1 := by kernel_rfl
  have k4 : Tryz.prog.cellsOf 26 = 4 := by kernel_rfl
  have hC : Tryz.prog.cellsOf 28 = 8 := by kernel_rfl
  refine ⟨3, ?_⟩
  have := trod_struct_mk (enc := enc) (w := w) (base := base) (spare := spare) (held := held) (n := 2) (t := 28) (cs := [.int .u8 x0, .int .u16 x1, .int .u32 x2, .int .u16 x3, .int .u16 x4, .int .u16 x5, .int .u16 x6, .int .u16 x7])
    (xs := [(.lit (.int .u8 x0), []), (.lit (.int .u16 x1), []), (.lit (.int .u32 x2), []), (.agg [.lit (.int .u16 x3), .lit (.int .u16 x4), .lit (.int .u16 x5), .lit (.int .u16 x6)], []), (.lit (.int .u16 x7), [])])
    Tryz.underlying28 (by rw [hC]; rfl) (by
      have t4 := trod_four_mk (enc := enc) (w := w) (base := base) (spare := spare) (held := held) (n := 0) w3 w4 w5 w6
      simp only [Nat.zero_add, Nat.reduceAdd] at t4
      simp [k8, k16, k32, k4, t4]
      simp [DataW.trod, Tryz.underlying5, Tryz.underlying24, Tryz.underlying25, w0, w1, w2, w7])
  have h2 : DataW.trod enc Tryz.prog w base spare held 3 28 [.int .u8 x0, .int .u16 x1, .int .u32 x2, .int .u16 x3, .int .u16 x4, .int .u16 x5, .int .u16 x6, .int .u16 x7] = some (inoD x0 x1 x2 x3 x4 x5 x6 x7, []) := by simpa using this
  exact h2
end
theorem u16_of {n : Int} (h : (Lit.int .u16 n).wf = true) : ∃ k : Nat, n = (k : Int) ∧ k < 65536 := by
  have : 0 ≤ n ∧ n < 65536 := by
    simp [Lit.wf, IntKind.min, IntKind.max, IntKind.signed, IntKind.bits] at h
    omega
  exact ⟨n.toNat, by omega, by omega⟩
theorem arg_nums {H : Type} {enc : TypeId × Value → H} {W : World} {r : Reach} {b0 base : Nat} {sp : Nat → Bool} {held : Bool} {v : Value} {d : DataW H} {ps : List MemPlace} {ts : List TypeId} {ds : List (DataW H)} {j : Nat}
    (hv : Value.okWide Tryz.prog W r b0 37 v) (h : DataW.Trod enc Tryz.prog W base sp held 37 v d ps)
    (hsz : (DataW.weightsEach Tryz.prog ts ds).all (· ≤ reachBytes) = true) (ht : ts[j]? = some 37) (hd : ds[j]? = some d) :
    ∃ l : List Nat, U16s W v l ∧ (∀ x ∈ l, x < 65536) ∧ l.length ≤ maxLen := by
  obtain ⟨a0, len0, cap0, rfl⟩ := okWide_slice Tryz.underlying37 hv
  obtain ⟨fuel, hf⟩ := h
  rcases open_slice1 Tryz.underlying37 (by kernel_rfl) hf with ⟨hcs, hx⟩ | ⟨a, len, cap, m, n, V, D, Pl, hcs, _, hl, hm, hmm, hx, hi⟩
  · simp [Value.cells] at hcs
    obtain ⟨rfl, rfl, rfl⟩ := hcs
    exact ⟨[], ⟨none, 0, rfl, fun j s hj => by simp at hj⟩, fun x hx => by simp at hx, Nat.zero_le _⟩
  · simp [Value.cells] at hcs
    obtain ⟨rfl, rfl, rfl⟩ := hcs
    have hle : len0 ≤ m := by rw [hmm]; split <;> omega
    have key : ∀ i, i < m → ∃ k : Nat, W.cell? (a.add i) = some (.int .u16 (k : Int)) ∧ k < 65536 := by
      intro i him
      obtain ⟨hc, ht'⟩ := hi i him
      obtain ⟨i0, e0, x0, w0⟩ := DataW.trod_int Tryz.underlying24 ht'
      obtain ⟨k, rfl, hk⟩ := u16_of w0
      refine ⟨k, ?_, hk⟩
      rw [hc, (List.cons.inj e0).1]
    let f : Nat → Nat := fun i => if h : i < m then (key i h).choose else 0
    have hfs : ∀ i, i < m → W.cell? (a.add i) = some (.int .u16 (f i : Int)) ∧ f i < 65536 := by
      intro i h
      have hc := (key i h).choose_spec
      have he : f i = (key i h).choose := dif_pos h
      rw [he]
      exact hc
    refine ⟨(List.range len0).map f, ⟨some a, cap0, by simp, ?_⟩, ?_, by simp; omega⟩
    · intro i x hi2
      rw [List.getElem?_map, Option.map_eq_some_iff] at hi2
      obtain ⟨i2, h2, rfl⟩ := hi2
      obtain ⟨h3, h4⟩ := List.getElem?_eq_some_iff.1 h2
      simp only [List.getElem_range] at h4
      subst h4
      simp only [List.length_range] at h3
      exact ⟨a, rfl, (hfs i (by omega)).1⟩
    · intro x hx2
      obtain ⟨i, hi2, rfl⟩ := List.mem_map.1 hx2
      have hil : i < len0 := List.mem_range.1 hi2
      exact (hfs i (by omega)).2
end Go.Proofs.YtdddennhdbmolaaGreat
