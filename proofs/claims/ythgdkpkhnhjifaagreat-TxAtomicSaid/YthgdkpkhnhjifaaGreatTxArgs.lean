/- Layer 8 (tx): arguments that are steps. -/
import Derived.Test.YthgdkpkhnhjifaaGreatM17
import Derived.Test.YthgdkpkhnhjifaaGreatTxL5
namespace Go.Proofs.YthgdkpkhnhjifaaGreat
open Go.RowKit Go.Maps Go.ChangeShapes Go.WideShapes Go.Deep
set_option linter.unusedVariables false
set_option linter.unusedSimpArgs false
set_option maxRecDepth 10000
instance : Inhabited TSt := ⟨⟨0, 0, 0, [], false⟩⟩
theorem tstep_of {H : Type} {enc : TypeId × Value → H} {W : World} {base n : Nat} {sp : Nat → Bool} {held : Bool} {cs : List Value} {d : DataW H} {p : List MemPlace}
    (h : DataW.trod enc Tryz.prog W base sp held n 41 cs = some (d, p)) :
    ∃ x : TSt, cs = [.int .i64 x.do_, .int .i64 x.n, .int .i64 x.from_, str x.s, .bool x.raw] ∧ (∃ a b c e : DataW H, d = .agg [a, b, c, .lit (.string x.s), e]) ∧ -9223372036854775808 ≤ x.from_ ∧ x.from_ ≤ 9223372036854775807 := by
  obtain ⟨xs, n', _, hx, hl, hlen, hf⟩ := DataW.trod_struct Tryz.underlying41 h
  have k3 : Tryz.prog.cellsOf 3 = 1 := by kernel_rfl
  have k9 : Tryz.prog.cellsOf 9 = 1 := by kernel_rfl
  have k4 : Tryz.prog.cellsOf 4 = 1 := by kernel_rfl
  have hC : Tryz.prog.cellsOf 41 = 5 := by kernel_rfl
  rw [hC] at hl
  match cs, hl with
  | [c0, c1, c2, c3, c4], _ =>
    match xs, hlen with
    | [y0, y1, y2, y3, y4], _ =>
      have g0 := hf 0 _ rfl
      have g1 := hf 1 _ rfl
      have g2 := hf 2 _ rfl
      have g3 := hf 3 _ rfl
      have g4 := hf 4 _ rfl
      have g0 : DataW.trod enc Tryz.prog W base sp held n' 3 ([c0, c1, c2, c3, c4].take (Tryz.prog.cellsOf 3)) = some y0 := g0
      have g1 : DataW.trod enc Tryz.prog W base sp held n' 3 ([c1, c2, c3, c4].take (Tryz.prog.cellsOf 3)) = some y1 := g1
      have g2 : DataW.trod enc Tryz.prog W base sp held n' 3 ([c2, c3, c4].take (Tryz.prog.cellsOf 3)) = some y2 := g2
      have g3 : DataW.trod enc Tryz.prog W base sp held n' 9 ([c3, c4].take (Tryz.prog.cellsOf 9)) = some y3 := g3
      have g4 : DataW.trod enc Tryz.prog W base sp held n' 4 ([c4].take (Tryz.prog.cellsOf 4)) = some y4 := g4
      rw [k3] at g0 g1 g2
      rw [k9] at g3
      rw [k4] at g4
      obtain ⟨i0, e0, x0, -⟩ := DataW.trod_int Tryz.underlying3 g0
      obtain ⟨i1, e1, x1, -⟩ := DataW.trod_int Tryz.underlying3 g1
      obtain ⟨i2, e2, x2, w2⟩ := DataW.trod_int Tryz.underlying3 g2
      obtain ⟨i3, e3, x3, -⟩ := DataW.trod_string Tryz.underlying9 g3
      obtain ⟨i4, e4, x4⟩ := DataW.trod_bool Tryz.underlying4 g4
      obtain rfl := (List.cons.inj e0).1
      obtain rfl := (List.cons.inj e1).1
      obtain rfl := (List.cons.inj e2).1
      obtain rfl := (List.cons.inj e3).1
      obtain rfl := (List.cons.inj e4).1
      subst x3
      exact ⟨⟨i0, i1, i2, i3.data.toList, i4⟩, rfl, ⟨y0.1, y1.1, y2.1, y4.1, (Prod.mk.inj hx).1⟩, (num_range w2).1, (num_range w2).2⟩
def fineT (x : TSt) : Prop := x.s.length ≤ 140737488351232 ∧ -9223372036854775808 ≤ x.from_ ∧ x.from_ ≤ 9223372036854775807
def t5 (W : World) (A : Option Addr) (i : Nat) (x : TSt) : Prop := ∃ a : Addr, A = some a ∧ W.cell? (a.add (i * 5)) = some (.int .i64 x.do_) ∧ W.cell? (behind a (i * 5) 1) = some (.int .i64 x.n) ∧ W.cell? (behind a (i * 5) 2) = some (.int .i64 x.from_) ∧ W.cell? (behind a (i * 5) 3) = some (str x.s) ∧ W.cell? (behind a (i * 5) 4) = some (.bool x.raw)
/-- The slice v is the steps l. -/
def TSteps (w : World) (v : Value) (l : List TSt) : Prop := ∃ A c, v = .slice A l.length c ∧ ∀ i x, l[i]? = some x → t5 w A i x
theorem arg_tsteps {H : Type} {enc : TypeId × Value → H} {W : World} {r : Reach} {b0 base : Nat} {sp : Nat → Bool} {held : Bool} {v : Value} {d : DataW H} {ps : List MemPlace} {ts : List TypeId} {ds : List (DataW H)} {j : Nat}
    (hv : Value.okWide Tryz.prog W r b0 22 v) (h : DataW.Trod enc Tryz.prog W base sp held 22 v d ps)
    (hsz : (DataW.weightsEach Tryz.prog ts ds).all (· ≤ reachBytes) = true) (ht : ts[j]? = some 22) (hd : ds[j]? = some d) :
    ∃ l, TSteps W v l ∧ (∀ x ∈ l, fineT x) ∧ l.length ≤ maxLen := by
  obtain ⟨a0, len0, cap0, rfl⟩ := okWide_slice Tryz.underlying22 hv
  obtain ⟨fuel, hf⟩ := h
  have hC : Tryz.prog.cellsOf 41 = 5 := by kernel_rfl
  rcases open_slice Tryz.underlying22 hf with ⟨hcs, hx⟩ | ⟨a, len, cap, m, n, D, Pl, hcs, _, hl, hm, hmm, hx, hi⟩
  · simp [Value.cells] at hcs
    obtain ⟨rfl, rfl, rfl⟩ := hcs
    exact ⟨[], ⟨none, 0, rfl, fun j s hj => by simp at hj⟩, fun x hx => by simp at hx, Nat.zero_le _⟩
  · simp [Value.cells] at hcs
    obtain ⟨rfl, rfl, rfl⟩ := hcs
    have hle : len0 ≤ m := by rw [hmm]; split <;> omega
    have key : ∀ i, i < m → ∃ x : TSt, (t5 W (some a) i x) ∧ (∃ a b c e : DataW H, D i = .agg [a, b, c, .lit (.string x.s), e]) ∧ -9223372036854775808 ≤ x.from_ ∧ x.from_ ≤ 9223372036854775807 := by
      intro i him
      obtain ⟨cs', hc, ht'⟩ := hi i him
      rw [hC] at hc
      obtain ⟨_, _, hat⟩ := World.cells?_some hc
      obtain ⟨x, rfl, hD, h1, h2⟩ := tstep_of ht'
      refine ⟨x, ⟨a, rfl, ?_, ?_, ?_, ?_, ?_⟩, hD, h1, h2⟩
      · simpa [add_add] using hat 0 (by decide)
      · rw [← behind_add _ _ _ (by decide), ← add_add]; exact hat 1 (by decide)
      · rw [← behind_add _ _ _ (by decide), ← add_add]; exact hat 2 (by decide)
      · rw [← behind_add _ _ _ (by decide), ← add_add]; exact hat 3 (by decide)
      · rw [← behind_add _ _ _ (by decide), ← add_add]; exact hat 4 (by decide)
    let f : Nat → TSt := fun i => if h : i < m then (key i h).choose else default
    have hfs : ∀ i, i < m → t5 W (some a) i (f i) ∧ (∃ a b c e : DataW H, D i = .agg [a, b, c, .lit (.string (f i).s), e]) ∧ -9223372036854775808 ≤ (f i).from_ ∧ (f i).from_ ≤ 9223372036854775807 := by
      intro i h
      have hc := (key i h).choose_spec
      have he : f i = (key i h).choose := dif_pos h
      rw [he]
      exact hc
    have hxd := hd.trans (congrArg some (Prod.mk.inj hx).1)
    refine ⟨(List.range len0).map f, ⟨some a, cap0, by simp, ?_⟩, ?_, by simp; omega⟩
    · intro i x hi2
      rw [List.getElem?_map, Option.map_eq_some_iff] at hi2
      obtain ⟨i2, h2, rfl⟩ := hi2
      obtain ⟨h3, h4⟩ := List.getElem?_eq_some_iff.1 h2
      simp only [List.getElem_range] at h4
      subst h4
      simp only [List.length_range] at h3
      exact (hfs i (by omega)).1
    · intro x hx2
      obtain ⟨i, hi2, rfl⟩ := List.mem_map.1 hx2
      have hil : i < len0 := List.mem_range.1 hi2
      obtain ⟨_, ⟨a, b, c, e, hD⟩, h1, h2⟩ := hfs i (by omega)
      refine ⟨?_, h1, h2⟩
      refine sized_row_agg hsz ht hxd Tryz.underlying22 (List.mem_map.2 ⟨i, hi2, rfl⟩) ?_
      rw [hD]
      simp only [DataW.weights, Tryz.underlying41]
      simp [DataW.weightsEach, DataW.weights]
end Go.Proofs.YthgdkpkhnhjifaaGreat
