/- Layer 3 (dev): arguments that are rows of texts, or of steps. -/
import Derived.Test.YthgdkpkhnhjifaaGreatM16
import Derived.Deep.Slices
import Derived.Deep.Fields
import Derived.SliceStrings
import Derived.SizedLaws
import Derived.ChangeShapes
import Derived.Carry
namespace Go.Proofs.YthgdkpkhnhjifaaGreat
open Go.RowKit Go.Maps Go.ChangeShapes Go.WideShapes Go.Deep
set_option linter.unusedVariables false
set_option linter.unusedSimpArgs false
set_option maxRecDepth 10000
theorem weights_all_mem {H : Type} {P : Program} {e : TypeId} : ∀ {l : List (DataW H)} {d : DataW H}, d ∈ l → ∀ n ∈ d.weights P e, n ∈ DataW.weightsAll P e l
  | d0 :: l, d, hd, n, hn => by
    simp only [DataW.weightsAll, List.mem_append]
    rcases List.mem_cons.1 hd with rfl | hd
    · exact .inl hn
    · exact .inr (weights_all_mem hd n hn)
theorem sized_row_text {H : Type} {P : Program} {ts : List TypeId} {ds : List (DataW H)} (h : (DataW.weightsEach P ts ds).all (· ≤ reachBytes) = true) {j : Nat} {t e : TypeId} {elems spare : List (DataW H)} {bytes : List UInt8}
    (ht : ts[j]? = some t) (hd : ds[j]? = some (.slice elems spare)) (hu : P.underlying t = some (.slice e)) (hx : DataW.lit (.string bytes) ∈ elems) : bytes.length ≤ reachBytes := by
  refine of_decide_eq_true (List.all_eq_true.1 h _ (DataW.weights_mem_each ht hd _ ?_))
  simp only [DataW.weights, hu, List.mem_cons, List.mem_append]
  exact .inr (.inl (weights_all_mem hx _ (by simp [DataW.weights])))
theorem arg_strings {H : Type} {enc : TypeId × Value → H} {W : World} {r : Reach} {b0 base : Nat} {sp : Nat → Bool} {held : Bool} {v : Value} {d : DataW H} {ps : List MemPlace} {ts : List TypeId} {ds : List (DataW H)} {j : Nat}
    (hv : Value.okWide Tryz.prog W r b0 33 v) (h : DataW.Trod enc Tryz.prog W base sp held 33 v d ps)
    (hsz : (DataW.weightsEach Tryz.prog ts ds).all (· ≤ reachBytes) = true) (ht : ts[j]? = some 33) (hd : ds[j]? = some d) :
    ∃ l, Strings W v l ∧ (∀ x ∈ l, x.length ≤ 140737488351232) ∧ l.length ≤ maxLen := by
  obtain ⟨a0, len0, cap0, rfl⟩ := okWide_slice Tryz.underlying33 hv
  obtain ⟨fuel, hf⟩ := h
  rcases open_strings Tryz.underlying33 Tryz.underlying9 (by kernel_rfl) hf with ⟨hcs, hx⟩ | ⟨a, len, cap, ss, hcs, _, hl, hm, hz, hx, hcell, hws⟩
  · simp [Value.cells] at hcs
    obtain ⟨rfl, rfl, rfl⟩ := hcs
    exact ⟨[], ⟨none, 0, rfl, fun j s hj => by simp at hj⟩, fun x hx => by simp at hx, Nat.zero_le _⟩
  · simp [Value.cells] at hcs
    obtain ⟨rfl, rfl, rfl⟩ := hcs
    have hle : len0 ≤ ss.length := by rw [hz]; split <;> omega
    refine ⟨(ss.take len0).map fun b => b.data.toList, ⟨some a, cap0, ?_, ?_⟩, ?_, ?_⟩
    · simp [Nat.min_eq_left hle]
    · intro i s hi
      rw [List.getElem?_map, Option.map_eq_some_iff] at hi
      obtain ⟨b, hb, rfl⟩ := hi
      have hb2 : ss[i]? = some b := by
        rw [List.getElem?_take] at hb
        split at hb
        · exact hb
        · cases hb
      have hi : i < ss.length := (List.getElem?_eq_some_iff.1 hb2).1
      refine ⟨a, rfl, ?_⟩
      rw [hcell i hi, List.getD_eq_getElem?_getD, hb2]
      rfl
    · intro x hx2
      obtain ⟨b, hb, rfl⟩ := List.mem_map.1 hx2
      simp only [Prod.mk.injEq] at hx
      refine sized_row_text hsz ht (hd.trans (congrArg some hx.1)) Tryz.underlying33 ?_
      unfold strs
      exact List.mem_map.2 ⟨b, hb, rfl⟩
    · simp [Nat.min_eq_left hle]; omega
theorem num_range {n : Int} (h : (Lit.int .i64 n).wf = true) : -9223372036854775808 ≤ n ∧ n ≤ 9223372036854775807 := by
  have := h
  simp [Lit.wf, IntKind.min, IntKind.max, IntKind.signed, IntKind.bits] at this
  omega
def fineStep (x : St) : Prop := x.s.length ≤ 140737488351232 ∧ -9223372036854775808 ≤ x.num ∧ x.num ≤ 9223372036854775807
theorem sized_row_agg {H : Type} {P : Program} {ts : List TypeId} {ds : List (DataW H)} (h : (DataW.weightsEach P ts ds).all (· ≤ reachBytes) = true) {j : Nat} {t e : TypeId} {elems spare : List (DataW H)} {x : DataW H} {m : Nat}
    (ht : ts[j]? = some t) (hd : ds[j]? = some (.slice elems spare)) (hu : P.underlying t = some (.slice e)) (hx : x ∈ elems) (hm : m ∈ x.weights P e) : m ≤ reachBytes := by
  refine of_decide_eq_true (List.all_eq_true.1 h _ (DataW.weights_mem_each ht hd _ ?_))
  simp only [DataW.weights, hu, List.mem_cons, List.mem_append]
  exact .inr (.inl (weights_all_mem hx _ hm))
def w5 (W : World) (A : Option Addr) (i : Nat) (x : St) : Prop := ∃ a : Addr, A = some a ∧ W.cell? (a.add (i * 5)) = some (.int .i64 x.op) ∧ W.cell? (behind a (i * 5) 1) = some (.int .i64 x.at_) ∧ W.cell? (behind a (i * 5) 2) = some (.int .i64 x.num) ∧ W.cell? (behind a (i * 5) 3) = some (str x.s) ∧ W.cell? (behind a (i * 5) 4) = some (.bool x.raw)
end Go.Proofs.YthgdkpkhnhjifaaGreat
/- Layer 4 (journal): arguments that are transactions, bytes, or steps. -/
namespace Go.Proofs.YthgdkpkhnhjifaaGreat
open Go.RowKit Go.Maps Go.ChangeShapes Go.WideShapes Go.Deep
set_option linter.unusedVariables false
set_option linter.unusedSimpArgs false
set_option maxRecDepth 10000
theorem put_of {H : Type} {enc : TypeId × Value → H} {W : World} {base n : Nat} {sp : Nat → Bool} {held : Bool} {cs : List Value} {d : DataW H} {p : List MemPlace}
    (h : DataW.trod enc Tryz.prog W base sp held n 81 cs = some (d, p)) :
    ∃ x : Int × List UInt8, cs = [.int .i64 x.1, str x.2] ∧ (∃ a : DataW H, d = .agg [a, .lit (.string x.2)]) := by
  obtain ⟨xs, n', _, hx, hl, hlen, hf⟩ := DataW.trod_struct Tryz.underlying81 h
  have k3 : Tryz.prog.cellsOf 3 = 1 := by kernel_rfl
  have k9 : Tryz.prog.cellsOf 9 = 1 := by kernel_rfl
  have hC : Tryz.prog.cellsOf 81 = 2 := by kernel_rfl
  rw [hC] at hl
  match cs, hl with
  | [c0, c1], _ =>
    match xs, hlen with
    | [y0, y1], _ =>
      have g0 := hf 0 _ rfl
      have g1 := hf 1 _ rfl
      have g0 : DataW.trod enc Tryz.prog W base sp held n' 3 ([c0, c1].take (Tryz.prog.cellsOf 3)) = some y0 := g0
      have g1 : DataW.trod enc Tryz.prog W base sp held n' 9 ([c1].take (Tryz.prog.cellsOf 9)) = some y1 := g1
      rw [k3] at g0
      rw [k9] at g1
      obtain ⟨i0, e0, x0, -⟩ := DataW.trod_int Tryz.underlying3 g0
      obtain ⟨i3, e3, x3, -⟩ := DataW.trod_string Tryz.underlying9 g1
      obtain rfl := (List.cons.inj e0).1
      obtain rfl := (List.cons.inj e3).1
      subst x3
      exact ⟨⟨i0, i3.data.toList⟩, rfl, ⟨y0.1, (Prod.mk.inj hx).1⟩⟩
def w2 (W : World) (A : Option Addr) (i : Nat) (x : Int × List UInt8) : Prop := ∃ a : Addr, A = some a ∧ W.cell? (a.add (i * 2)) = some (.int .i64 x.1) ∧ W.cell? (behind a (i * 2) 1) = some (str x.2)
theorem arg_puts {H : Type} {enc : TypeId × Value → H} {W : World} {r : Reach} {b0 base : Nat} {sp : Nat → Bool} {held : Bool} {v : Value} {d : DataW H} {ps : List MemPlace} {ts : List TypeId} {ds : List (DataW H)} {j : Nat}
    (hv : Value.okWide Tryz.prog W r b0 37 v) (h : DataW.Trod enc Tryz.prog W base sp held 37 v d ps)
    (hsz : (DataW.weightsEach Tryz.prog ts ds).all (· ≤ reachBytes) = true) (ht : ts[j]? = some 37) (hd : ds[j]? = some d) :
    ∃ l : PutI, Puts W v l ∧ (∀ x ∈ l, x.2.length ≤ 140737488351232) ∧ l.length ≤ maxLen := by
  obtain ⟨a0, len0, cap0, rfl⟩ := okWide_slice Tryz.underlying37 hv
  obtain ⟨fuel, hf⟩ := h
  have hC : Tryz.prog.cellsOf 81 = 2 := by kernel_rfl
  rcases open_slice Tryz.underlying37 hf with ⟨hcs, hx⟩ | ⟨a, len, cap, m, n, D, Pl, hcs, _, hl, hm, hmm, hx, hi⟩
  · simp [Value.cells] at hcs
    obtain ⟨rfl, rfl, rfl⟩ := hcs
    exact ⟨[], ⟨none, 0, rfl, fun j s hj => by simp at hj⟩, fun x hx => by simp at hx, Nat.zero_le _⟩
  · simp [Value.cells] at hcs
    obtain ⟨rfl, rfl, rfl⟩ := hcs
    have hle : len0 ≤ m := by rw [hmm]; split <;> omega
    have key : ∀ i, i < m → ∃ x : Int × List UInt8, (w2 W (some a) i x) ∧ (∃ a : DataW H, D i = .agg [a, .lit (.string x.2)]) := by
      intro i him
      obtain ⟨cs', hc, ht'⟩ := hi i him
      rw [hC] at hc
      obtain ⟨_, _, hat⟩ := World.cells?_some hc
      obtain ⟨x, rfl, hD⟩ := put_of ht'
      refine ⟨x, ⟨a, rfl, ?_, ?_⟩, hD⟩
      · simpa [add_add] using hat 0 (by decide)
      · rw [← behind_add _ _ _ (by decide), ← add_add]; exact hat 1 (by decide)
    let f : Nat → Int × List UInt8 := fun i => if h : i < m then (key i h).choose else default
    have hfs : ∀ i, i < m → w2 W (some a) i (f i) ∧ (∃ a : DataW H, D i = .agg [a, .lit (.string (f i).2)]) := by
      intro i h
      have hc := (key i h).choose_spec
      have he : f i = (key i h).choose := dif_pos h
      rw [he]
      exact hc
    have hxd := hd.trans (congrArg some (Prod.mk.inj hx).1)
    refine ⟨(List.range len0).map f, ⟨some a, cap0, by simp, ?_⟩, ?_, by simp; omega⟩
    · intro i x hi2
      rw [List.getElem?_map, Option.map_eq_some_iff] at hi2
      obtain ⟨i2, h2, rfl⟩ := hi2
      obtain ⟨h3, h4⟩ := List.getElem?_eq_some_iff.1 h2
      simp only [List.getElem_range] at h4
      subst h4
      simp only [List.length_range] at h3
      exact (hfs i (by omega)).1
    · intro x hx2
      obtain ⟨i, hi2, rfl⟩ := List.mem_map.1 hx2
      have hil : i < len0 := List.mem_range.1 hi2
      obtain ⟨_, ⟨a, hD⟩⟩ := hfs i (by omega)
      refine sized_row_agg hsz ht hxd Tryz.underlying37 (List.mem_map.2 ⟨i, hi2, rfl⟩) ?_
      rw [hD]
      simp only [DataW.weights, Tryz.underlying81]
      simp [DataW.weightsEach, DataW.weights]
/-- The slice v is the bytes l. -/
def U8s (w : World) (v : Value) (l : List Nat) : Prop :=
  ∃ A c, v = .slice A l.length c ∧ ∀ (j n : Nat), l[j]? = some n → ∃ a : Addr, A = some a ∧ w.cell? (a.add j) = some (.int .u8 (n : Int))
theorem byte_of {n : Int} (h : (Lit.int .u8 n).wf = true) : ∃ k : Nat, n = (k : Int) ∧ k < 256 := by
  have : 0 ≤ n ∧ n < 256 := by
    simp [Lit.wf, IntKind.min, IntKind.max, IntKind.signed, IntKind.bits] at h
    omega
  exact ⟨n.toNat, by omega, by omega⟩
theorem arg_bytes {H : Type} {enc : TypeId × Value → H} {W : World} {r : Reach} {b0 base : Nat} {sp : Nat → Bool} {held : Bool} {v : Value} {d : DataW H} {ps : List MemPlace} {ts : List TypeId} {ds : List (DataW H)} {j : Nat}
    (hv : Value.okWide Tryz.prog W r b0 63 v) (h : DataW.Trod enc Tryz.prog W base sp held 63 v d ps)
    (hsz : (DataW.weightsEach Tryz.prog ts ds).all (· ≤ reachBytes) = true) (ht : ts[j]? = some 63) (hd : ds[j]? = some d) :
    ∃ l : List Nat, U8s W v l ∧ (∀ x ∈ l, x < 256) ∧ l.length ≤ maxLen := by
  obtain ⟨a0, len0, cap0, rfl⟩ := okWide_slice Tryz.underlying63 hv
  obtain ⟨fuel, hf⟩ := h
  rcases open_slice1 Tryz.underlying63 (by kernel_rfl) hf with ⟨hcs, hx⟩ | ⟨a, len, cap, m, n, V, D, Pl, hcs, _, hl, hm, hmm, hx, hi⟩
  · simp [Value.cells] at hcs
    obtain ⟨rfl, rfl, rfl⟩ := hcs
    exact ⟨[], ⟨none, 0, rfl, fun j s hj => by simp at hj⟩, fun x hx => by simp at hx, Nat.zero_le _⟩
  · simp [Value.cells] at hcs
    obtain ⟨rfl, rfl, rfl⟩ := hcs
    have hle : len0 ≤ m := by rw [hmm]; split <;> omega
    have key : ∀ i, i < m → ∃ k : Nat, W.cell? (a.add i) = some (.int .u8 (k : Int)) ∧ k < 256 := by
      intro i him
      obtain ⟨hc, ht'⟩ := hi i him
      obtain ⟨i0, e0, x0, w0⟩ := DataW.trod_int Tryz.underlying5 ht'
      obtain ⟨k, rfl, hk⟩ := byte_of w0
      refine ⟨k, ?_, hk⟩
      rw [hc, (List.cons.inj e0).1]
    let f : Nat → Nat := fun i => if h : i < m then (key i h).choose else 0
    have hfs : ∀ i, i < m → W.cell? (a.add i) = some (.int .u8 (f i : Int)) ∧ f i < 256 := by
      intro i h
      have hc := (key i h).choose_spec
      have he : f i = (key i h).choose := dif_pos h
      rw [he]
      exact hc
    refine ⟨(List.range len0).map f, ⟨some a, cap0, by simp, ?_⟩, ?_, by simp; omega⟩
    · intro i x hi2
      rw [List.getElem?_map, Option.map_eq_some_iff] at hi2
      obtain ⟨i2, h2, rfl⟩ := hi2
      obtain ⟨h3, h4⟩ := List.getElem?_eq_some_iff.1 h2
      simp only [List.getElem_range] at h4
      subst h4
      simp only [List.length_range] at h3
      exact ⟨a, rfl, (hfs i (by omega)).1⟩
    · intro x hx2
      obtain ⟨i, hi2, rfl⟩ := List.mem_map.1 hx2
      have hil : i < len0 := List.mem_range.1 hi2
      exact (hfs i (by omega)).2
/-! Steps of a journal's script. -/
structure JSt where
  crash : Bool
  keep : List UInt8
  v : Value
  l : PutI
instance : Inhabited JSt := ⟨⟨false, [], .slice none 0 0, []⟩⟩
/-- A row that is none, or has a place. -/
def Placed (v : Value) (m : Nat) : Prop := v = .slice none 0 0 ∨ ∃ a c, v = .slice (some a) m c
structure JSt.at_ (W : World) (a : Addr) (i : Nat) (x : JSt) : Prop where
  c0 : W.cell? (a.add (i * 3)) = some (.bool x.crash)
  c1 : W.cell? (behind a (i * 3) 1) = some (str x.keep)
  c2 : W.cell? (behind a (i * 3) 2) = some x.v
  row : Puts W x.v x.l
  placed : Placed x.v x.l.length
structure JSt.fine (x : JSt) : Prop where
  keep : x.keep.length ≤ 140737488351232
  each : ∀ p ∈ x.l, p.2.length ≤ 140737488351232
  len : x.l.length ≤ maxLen
/-- The slice v is the script l. -/
def JSteps (w : World) (v : Value) (l : List JSt) : Prop := ∃ A c, v = .slice A l.length c ∧ ∀ (j : Nat) (x : JSt), l[j]? = some x → ∃ a : Addr, A = some a ∧ x.at_ w a j
theorem puts_of {H : Type} {enc : TypeId × Value → H} {W : World} {base fuel : Nat} {sp : Nat → Bool} {held : Bool} {c : Value} {d : DataW H} {p : List MemPlace}
    (hf : DataW.trod enc Tryz.prog W base sp held fuel 37 [c] = some (d, p)) :
    ∃ l : PutI, Puts W c l ∧ Placed c l.length ∧ l.length ≤ maxLen ∧ ((∀ m ∈ d.weights Tryz.prog 37, m ≤ reachBytes) → ∀ x ∈ l, x.2.length ≤ 140737488351232) := by
  have hC : Tryz.prog.cellsOf 81 = 2 := by kernel_rfl
  rcases open_slice Tryz.underlying37 hf with ⟨hcs, hx⟩ | ⟨a, len, cap, m, n, D, Pl, hcs, _, hl, hm, hmm, hx, hi⟩
  · obtain rfl := (List.cons.inj hcs).1
    exact ⟨[], ⟨none, 0, rfl, fun j s hj => by simp at hj⟩, .inl rfl, Nat.zero_le _, fun _ x hx => by simp at hx⟩
  · obtain rfl := (List.cons.inj hcs).1
    have hle : len ≤ m := by rw [hmm]; split <;> omega
    have key : ∀ i, i < m → ∃ x : Int × List UInt8, (w2 W (some a) i x) ∧ (∃ a : DataW H, D i = .agg [a, .lit (.string x.2)]) := by
      intro i him
      obtain ⟨cs', hc, ht'⟩ := hi i him
      rw [hC] at hc
      obtain ⟨_, _, hat⟩ := World.cells?_some hc
      obtain ⟨x, rfl, hD⟩ := put_of ht'
      refine ⟨x, ⟨a, rfl, ?_, ?_⟩, hD⟩
      · simpa [add_add] using hat 0 (by decide)
      · rw [← behind_add _ _ _ (by decide), ← add_add]; exact hat 1 (by decide)
    let f : Nat → Int × List UInt8 := fun i => if h : i < m then (key i h).choose else default
    have hfs : ∀ i, i < m → w2 W (some a) i (f i) ∧ (∃ a : DataW H, D i = .agg [a, .lit (.string (f i).2)]) := by
      intro i h
      have hc := (key i h).choose_spec
      have he : f i = (key i h).choose := dif_pos h
      rw [he]
      exact hc
    refine ⟨(List.range len).map f, ⟨some a, cap, by simp, ?_⟩, .inr ⟨a, cap, by simp⟩, by simp; omega, fun hw => ?_⟩
    · intro i x hi2
      rw [List.getElem?_map, Option.map_eq_some_iff] at hi2
      obtain ⟨i2, h2, rfl⟩ := hi2
      obtain ⟨h3, h4⟩ := List.getElem?_eq_some_iff.1 h2
      simp only [List.getElem_range] at h4
      subst h4
      simp only [List.length_range] at h3
      exact (hfs i (by omega)).1
    · intro x hx2
      obtain ⟨i, hi2, rfl⟩ := List.mem_map.1 hx2
      have hil : i < len := List.mem_range.1 hi2
      obtain ⟨_, ⟨a, hD⟩⟩ := hfs i (by omega)
      refine hw _ ?_
      rw [(Prod.mk.inj hx).1]
      simp only [DataW.weights, Tryz.underlying37, List.mem_cons, List.mem_append]
      refine .inr (.inl (weights_all_mem (List.mem_map.2 ⟨i, hi2, rfl⟩) _ ?_))
      rw [hD]
      simp only [DataW.weights, Tryz.underlying81]
      simp [DataW.weightsEach, DataW.weights]
end Go.Proofs.YthgdkpkhnhjifaaGreat
