/- Layer 10 (dirs): arguments that are steps. -/
import Derived.Test.YtmidoghjacmdcaaDirsL1
import Derived.Test.YtmidoghjacmdcaaDirsTell
import Derived.Lib.SmallJoins
import Derived.Deep.Slices
import Derived.Deep.Fields
import Derived.SizedLaws
import Derived.ChangeShapes
import Derived.Carry
import Derived.ProofKit
import Derived.OpenShut
namespace Go.Proofs.Ytmidoghjacmdcaa
open Go.RowKit Go.ChangeShapes Go.WideShapes Go.Deep
set_option linter.unusedVariables false
set_option linter.unusedSimpArgs false
set_option maxRecDepth 10000
theorem weights_all_memD {H : Type} {P : Program} {e : TypeId} : ∀ {l : List (DataW H)} {d : DataW H}, d ∈ l → ∀ n ∈ d.weights P e, n ∈ DataW.weightsAll P e l
  | d0 :: l, d, hd, n, hn => by
    simp only [DataW.weightsAll, List.mem_append]
    rcases List.mem_cons.1 hd with rfl | hd
    · exact .inl hn
    · exact .inr (weights_all_memD hd n hn)
theorem sized_row_aggD {H : Type} {P : Program} {ts : List TypeId} {ds : List (DataW H)} (h : (DataW.weightsEach P ts ds).all (· ≤ reachBytes) = true) {j : Nat} {t e : TypeId} {elems spare : List (DataW H)} {x : DataW H} {m : Nat}
    (ht : ts[j]? = some t) (hd : ds[j]? = some (.slice elems spare)) (hu : P.underlying t = some (.slice e)) (hx : x ∈ elems) (hm : m ∈ x.weights P e) : m ≤ reachBytes := by
  refine of_decide_eq_true (List.all_eq_true.1 h _ (DataW.weights_mem_each ht hd _ ?_))
  simp only [DataW.weights, hu, List.mem_cons, List.mem_append]
  exact .inr (.inl (weights_all_memD hx _ hm))
/-- A step of a script. -/
structure DSt where
  do_ : Int
  s : List UInt8
  i : Nat
instance : Inhabited DSt := ⟨⟨0, [], 0⟩⟩
def fineD (x : DSt) : Prop := x.s.length ≤ 140737488351232 ∧ x.i < 4294967296
/-- The cell behind an element's first. -/
def behindD (a : Addr) (k q : Nat) : Addr := ⟨(a.add k).block, (a.add k).off + q, none⟩
theorem behindD_add (a : Addr) (k q : Nat) (hq : q ≠ 0) : a.add (k + q) = behindD a k q := by
  unfold behindD Addr.add
  rw [if_neg (by omega)]
  by_cases h : k = 0
  · subst h; simp
  · simp [h]; omega
/-- A step's three cells. -/
def d3 (W : World) (A : Option Addr) (i : Nat) (x : DSt) : Prop := ∃ a : Addr, A = some a ∧ W.cell? (a.add (i * 3)) = some (.int .i64 x.do_) ∧ W.cell? (behindD a (i * 3) 1) = some (str x.s) ∧ W.cell? (behindD a (i * 3) 2) = some (.int .u32 (x.i : Int))
/-- The slice v is the steps l. -/
def DSteps (w : World) (v : Value) (l : List DSt) : Prop := ∃ A c, v = .slice A l.length c ∧ ∀ i x, l[i]? = some x → d3 w A i x
theorem dstep_of {H : Type} {enc : TypeId × Value → H} {W : World} {base n : Nat} {sp : Nat → Bool} {held : Bool} {cs : List Value} {d : DataW H} {p : List MemPlace}
    (h : DataW.trod enc Try.prog W base sp held n 45 cs = some (d, p)) :
    ∃ x : DSt, cs = [.int .i64 x.do_, str x.s, .int .u32 (x.i : Int)] ∧ (∃ a c : DataW H, d = .agg [a, .lit (.string x.s), c]) ∧ x.i < 4294967296 := by
  obtain ⟨xs, n', _, hx, hl, hlen, hf⟩ := DataW.trod_struct Try.underlying45 h
  have k3 : Try.prog.cellsOf 3 = 1 := by kernel_rfl
  have k9 : Try.prog.cellsOf 9 = 1 := by kernel_rfl
  have k4 : Try.prog.cellsOf 22 = 1 := by kernel_rfl
  have hC : Try.prog.cellsOf 45 = 3 := by kernel_rfl
  rw [hC] at hl
  match cs, hl with
  | [c0, c1, c2], _ =>
    match xs, hlen with
    | [y0, y1, y2], _ =>
      have g0 := hf 0 _ rfl
      have g1 := hf 1 _ rfl
      have g2 := hf 2 _ rfl
      have g0 : DataW.trod enc Try.prog W base sp held n' 3 ([c0, c1, c2].take (Try.prog.cellsOf 3)) = some y0 := g0
      have g1 : DataW.trod enc Try.prog W base sp held n' 9 ([c1, c2].take (Try.prog.cellsOf 9)) = some y1 := g1
      have g2 : DataW.trod enc Try.prog W base sp held n' 22 ([c2].take (Try.prog.cellsOf 22)) = some y2 := g2
      rw [k3] at g0
      rw [k9] at g1
      rw [k4] at g2
      obtain ⟨i0, e0, x0, -⟩ := DataW.trod_int Try.underlying3 g0
      obtain ⟨i1, e1, x1, -⟩ := DataW.trod_string Try.underlying9 g1
      obtain ⟨i2, e2, x2, w2⟩ := DataW.trod_int Try.underlying22 g2
      have hr := u32_range w2
      obtain ⟨k2, rfl⟩ : ∃ k : Nat, i2 = k := ⟨i2.toNat, by omega⟩
      obtain rfl := (List.cons.inj e0).1
      obtain rfl := (List.cons.inj e1).1
      obtain rfl := (List.cons.inj e2).1
      subst x1
      exact ⟨⟨i0, i1.data.toList, k2⟩, rfl, ⟨y0.1, y2.1, (Prod.mk.inj hx).1⟩, by simp only; omega⟩
theorem arg_dsteps {H : Type} {enc : TypeId × Value → H} {W : World} {r : Reach} {b0 base : Nat} {sp : Nat → Bool} {held : Bool} {v : Value} {d : DataW H} {ps : List MemPlace} {ts : List TypeId} {ds : List (DataW H)} {j : Nat}
    (hv : Value.okWide Try.prog W r b0 42 v) (h : DataW.Trod enc Try.prog W base sp held 42 v d ps)
    (hsz : (DataW.weightsEach Try.prog ts ds).all (· ≤ reachBytes) = true) (ht : ts[j]? = some 42) (hd : ds[j]? = some d) :
    ∃ l, DSteps W v l ∧ (∀ x ∈ l, fineD x) ∧ (l.length ≤ maxLen ∧ l.length * 32 ≤ 140737488351232) := by
  obtain ⟨a0, len0, cap0, rfl⟩ := okWide_slice Try.underlying42 hv
  obtain ⟨fuel, hf⟩ := h
  have hC : Try.prog.cellsOf 45 = 3 := by kernel_rfl
  have hBy : Try.prog.bytesOf 45 = 32 := by kernel_rfl
  rcases open_slice Try.underlying42 hf with ⟨hcs, hx⟩ | ⟨a, len, cap, m, n, D, Pl, hcs, _, hl, hm, hmm, hx, hi⟩
  · simp [Value.cells] at hcs
    obtain ⟨rfl, rfl, rfl⟩ := hcs
    exact ⟨[], ⟨none, 0, rfl, fun j s hj => by simp at hj⟩, fun x hx => by simp at hx, Nat.zero_le _, Nat.zero_le _⟩
  · simp [Value.cells] at hcs
    obtain ⟨rfl, rfl, rfl⟩ := hcs
    have hle : len0 ≤ m := by rw [hmm]; split <;> omega
    have key : ∀ i, i < m → ∃ x : DSt, (d3 W (some a) i x) ∧ (∃ a c : DataW H, D i = .agg [a, .lit (.string x.s), c]) ∧ x.i < 4294967296 := by
      intro i him
      obtain ⟨cs', hc, ht'⟩ := hi i him
      rw [hC] at hc
      obtain ⟨_, _, hat⟩ := World.cells?_some hc
      obtain ⟨x, rfl, hD, h1⟩ := dstep_of ht'
      refine ⟨x, ⟨a, rfl, ?_, ?_, ?_⟩, hD, h1⟩
      · simpa [add_add] using hat 0 (by decide)
      · rw [← behindD_add _ _ _ (by decide), ← add_add]; exact hat 1 (by decide)
      · rw [← behindD_add _ _ _ (by decide), ← add_add]; exact hat 2 (by decide)
    let f : Nat → DSt := fun i => if h : i < m then (key i h).choose else default
    have hfs : ∀ i, i < m → d3 W (some a) i (f i) ∧ (∃ a c : DataW H, D i = .agg [a, .lit (.string (f i).s), c]) ∧ (f i).i < 4294967296 := by
      intro i h
      have hc := (key i h).choose_spec
      have he : f i = (key i h).choose := dif_pos h
      rw [he]
      exact hc
    have hxd := hd.trans (congrArg some (Prod.mk.inj hx).1)
    have hrv : reachBytes ≤ 140737488351232 := by decide
    refine ⟨(List.range len0).map f, ⟨some a, cap0, by simp, ?_⟩, ?_, by simp; omega, ?_⟩
    · intro i x hi2
      rw [List.getElem?_map, Option.map_eq_some_iff] at hi2
      obtain ⟨i2, h2, rfl⟩ := hi2
      obtain ⟨h3, h4⟩ := List.getElem?_eq_some_iff.1 h2
      simp only [List.getElem_range] at h4
      subst h4
      simp only [List.length_range] at h3
      exact (hfs i (by omega)).1
    · intro x hx2
      obtain ⟨i, hi2, rfl⟩ := List.mem_map.1 hx2
      have hil : i < len0 := List.mem_range.1 hi2
      obtain ⟨_, ⟨a, c, hD⟩, h1⟩ := hfs i (by omega)
      refine ⟨?_, h1⟩
      refine Nat.le_trans (sized_row_aggD hsz ht hxd Try.underlying42 (List.mem_map.2 ⟨i, hi2, rfl⟩) ?_) hrv
      rw [hD]
      simp only [DataW.weights, Try.underlying45]
      simp [DataW.weightsEach, DataW.weights]
    · have hw : (len0 + (m - len0)) * 32 ≤ reachBytes := by
        refine of_decide_eq_true (List.all_eq_true.1 hsz _ (DataW.weights_mem_each ht hxd _ ?_))
        simp only [DataW.weights, Try.underlying42, List.mem_cons, List.length_map, List.length_range, hBy]
        simp
      simp only [List.length_map, List.length_range]
      omega
end Go.Proofs.Ytmidoghjacmdcaa
