/- Layer 3 (dev): arguments that are rows of texts, or of steps. -/
import Derived.Test.YtgkdabjflagnlaaGreatM17
import Derived.Deep.Slices
import Derived.Deep.Fields
import Derived.SliceStrings
import Derived.SizedLaws
import Derived.ChangeShapes
import Derived.Carry
namespace Go.Proofs.YtgkdabjflagnlaaGreat
open Go.RowKit Go.Maps Go.ChangeShapes Go.WideShapes Go.Deep
set_option linter.unusedVariables false
set_option linter.unusedSimpArgs false
set_option maxRecDepth 10000
theorem weights_all_mem {H : Type} {P : Program} {e : TypeId} : ∀ {l : List (DataW H)} {d : DataW H}, d ∈ l → ∀ n ∈ d.weights P e, n ∈ DataW.weightsAll P e l
  | d0 :: l, d, hd, n, hn => by
    simp only [DataW.weightsAll, List.mem_append]
    rcases List.mem_cons.1 hd with rfl | hd
    · exact .inl hn
    · exact .inr (weights_all_mem hd n hn)
theorem sized_row_text {H : Type} {P : Program} {ts : List TypeId} {ds : List (DataW H)} (h : (DataW.weightsEach P ts ds).all (· ≤ reachBytes) = true) {j : Nat} {t e : TypeId} {elems spare : List (DataW H)} {bytes : List UInt8}
    (ht : ts[j]? = some t) (hd : ds[j]? = some (.slice elems spare)) (hu : P.underlying t = some (.slice e)) (hx : DataW.lit (.string bytes) ∈ elems) : bytes.length ≤ reachBytes := by
  refine of_decide_eq_true (List.all_eq_true.1 h _ (DataW.weights_mem_each ht hd _ ?_))
  simp only [DataW.weights, hu, List.mem_cons, List.mem_append]
  exact .inr (.inl (weights_all_mem hx _ (by simp [DataW.weights])))
theorem arg_strings {H : Type} {enc : TypeId × Value → H} {W : World} {r : Reach} {b0 base : Nat} {sp : Nat → Bool} {held : Bool} {v : Value} {d : DataW H} {ps : List MemPlace} {ts : List TypeId} {ds : List (DataW H)} {j : Nat}
    (hv : Value.okWide Tryz.prog W r b0 39 v) (h : DataW.Trod enc Tryz.prog W base sp held 39 v d ps)
    (hsz : (DataW.weightsEach Tryz.prog ts ds).all (· ≤ reachBytes) = true) (ht : ts[j]? = some 39) (hd : ds[j]? = some d) :
    ∃ l, Strings W v l ∧ (∀ x ∈ l, x.length ≤ 140737488351232) ∧ l.length ≤ maxLen := by
  obtain ⟨a0, len0, cap0, rfl⟩ := okWide_slice Tryz.underlying39 hv
  obtain ⟨fuel, hf⟩ := h
  rcases open_strings Tryz.underlying39 Tryz.underlying9 (by kernel_rfl) hf with ⟨hcs, hx⟩ | ⟨a, len, cap, ss, hcs, _, hl, hm, hz, hx, hcell, hws⟩
  · simp [Value.cells] at hcs
    obtain ⟨rfl, rfl, rfl⟩ := hcs
    exact ⟨[], ⟨none, 0, rfl, fun j s hj => by simp at hj⟩, fun x hx => by simp at hx, Nat.zero_le _⟩
  · simp [Value.cells] at hcs
    obtain ⟨rfl, rfl, rfl⟩ := hcs
    have hle : len0 ≤ ss.length := by rw [hz]; split <;> omega
    refine ⟨(ss.take len0).map fun b => b.data.toList, ⟨some a, cap0, ?_, ?_⟩, ?_, ?_⟩
    · simp [Nat.min_eq_left hle]
    · intro i s hi
      rw [List.getElem?_map, Option.map_eq_some_iff] at hi
      obtain ⟨b, hb, rfl⟩ := hi
      have hb2 : ss[i]? = some b := by
        rw [List.getElem?_take] at hb
        split at hb
        · exact hb
        · cases hb
      have hi : i < ss.length := (List.getElem?_eq_some_iff.1 hb2).1
      refine ⟨a, rfl, ?_⟩
      rw [hcell i hi, List.getD_eq_getElem?_getD, hb2]
      rfl
    · intro x hx2
      obtain ⟨b, hb, rfl⟩ := List.mem_map.1 hx2
      simp only [Prod.mk.injEq] at hx
      refine sized_row_text hsz ht (hd.trans (congrArg some hx.1)) Tryz.underlying39 ?_
      unfold strs
      exact List.mem_map.2 ⟨b, hb, rfl⟩
    · simp [Nat.min_eq_left hle]; omega
theorem num_range {n : Int} (h : (Lit.int .i64 n).wf = true) : -9223372036854775808 ≤ n ∧ n ≤ 9223372036854775807 := by
  have := h
  simp [Lit.wf, IntKind.min, IntKind.max, IntKind.signed, IntKind.bits] at this
  omega
def fineStep (x : St) : Prop := x.s.length ≤ 140737488351232 ∧ -9223372036854775808 ≤ x.num ∧ x.num ≤ 9223372036854775807
theorem sized_row_agg {H : Type} {P : Program} {ts : List TypeId} {ds : List (DataW H)} (h : (DataW.weightsEach P ts ds).all (· ≤ reachBytes) = true) {j : Nat} {t e : TypeId} {elems spare : List (DataW H)} {x : DataW H} {m : Nat}
    (ht : ts[j]? = some t) (hd : ds[j]? = some (.slice elems spare)) (hu : P.underlying t = some (.slice e)) (hx : x ∈ elems) (hm : m ∈ x.weights P e) : m ≤ reachBytes := by
  refine of_decide_eq_true (List.all_eq_true.1 h _ (DataW.weights_mem_each ht hd _ ?_))
  simp only [DataW.weights, hu, List.mem_cons, List.mem_append]
  exact .inr (.inl (weights_all_mem hx _ hm))
def w5 (W : World) (A : Option Addr) (i : Nat) (x : St) : Prop := ∃ a : Addr, A = some a ∧ W.cell? (a.add (i * 5)) = some (.int .i64 x.op) ∧ W.cell? (behind a (i * 5) 1) = some (.int .i64 x.at_) ∧ W.cell? (behind a (i * 5) 2) = some (.int .i64 x.num) ∧ W.cell? (behind a (i * 5) 3) = some (str x.s) ∧ W.cell? (behind a (i * 5) 4) = some (.bool x.raw)
end Go.Proofs.YtgkdabjflagnlaaGreat
/- Layer 4 (journal): arguments that are transactions, bytes, or steps. -/
namespace Go.Proofs.YtgkdabjflagnlaaGreat
open Go.RowKit Go.Maps Go.ChangeShapes Go.WideShapes Go.Deep
set_option linter.unusedVariables false
set_option linter.unusedSimpArgs false
set_option maxRecDepth 10000
theorem put_of {H : Type} {enc : TypeId × Value → H} {W : World} {base n : Nat} {sp : Nat → Bool} {held : Bool} {cs : List Value} {d : DataW H} {p : List MemPlace}
    (h : DataW.trod enc Tryz.prog W base sp held n 60 cs = some (d, p)) :
    ∃ x : Int × List UInt8, cs = [.int .i64 x.1, str x.2] ∧ (∃ a : DataW H, d = .agg [a, .lit (.string x.2)]) := by
  obtain ⟨xs, n', _, hx, hl, hlen, hf⟩ := DataW.trod_struct Tryz.underlying60 h
  have k3 : Tryz.prog.cellsOf 3 = 1 := by kernel_rfl
  have k9 : Tryz.prog.cellsOf 9 = 1 := by kernel_rfl
  have hC : Tryz.prog.cellsOf 60 = 2 := by kernel_rfl
  rw [hC] at hl
  match cs, hl with
  | [c0, c1], _ =>
    match xs, hlen with
    | [y0, y1], _ =>
      have g0 := hf 0 _ rfl
      have g1 := hf 1 _ rfl
      have g0 : DataW.trod enc Tryz.prog W base sp held n' 3 ([c0, c1].take (Tryz.prog.cellsOf 3)) = some y0 := g0
      have g1 : DataW.trod enc Tryz.prog W base sp held n' 9 ([c1].take (Tryz.prog.cellsOf 9)) = some y1 := g1
      rw [k3] at g0
      rw [k9] at g1
      obtain ⟨i0, e0, x0, -⟩ := DataW.trod_int Tryz.underlying3 g0
      obtain ⟨i3, e3, x3, -⟩ := DataW.trod_string Tryz.underlying9 g1
      obtain rfl := (List.cons.inj e0).1
      obtain rfl := (List.cons.inj e3).1
      subst x3
      exact ⟨⟨i0, i3.data.toList⟩, rfl, ⟨y0.1, (Prod.mk.inj hx).1⟩⟩
def w2 (W : World) (A : Option Addr) (i : Nat) (x : Int × List UInt8) : Prop := ∃ a : Addr, A = some a ∧ W.cell? (a.add (i * 2)) = some (.int .i64 x.1) ∧ W.cell? (behind a (i * 2) 1) = some (str x.2)
theorem arg_puts {H : Type} {enc : TypeId × Value → H} {W : World} {r : Reach} {b0 base : Nat} {sp : Nat → Bool} {held : Bool} {v : Value} {d : DataW H} {ps : List MemPlace} {ts : List TypeId} {ds : List (DataW H)} {j : Nat}
    (hv : Value.okWide Tryz.prog W r b0 41 v) (h : DataW.Trod enc Tryz.prog W base sp held 41 v d ps)
    (hsz : (DataW.weightsEach Tryz.prog ts ds).all (· ≤ reachBytes) = true) (ht : ts[j]? = some 41) (hd : ds[j]? = some d) :
    ∃ l : PutI, Puts W v l ∧ (∀ x ∈ l, x.2.length ≤ 140737488351232) ∧ l.length ≤ maxLen := by
  obtain ⟨a0, len0, cap0, rfl⟩ := okWide_slice Tryz.underlying41 hv
  obtain ⟨fuel, hf⟩ := h
  have hC : Tryz.prog.cellsOf 60 = 2 := by kernel_rfl
  rcases open_slice Tryz.underlying41 hf with ⟨hcs, hx⟩ | ⟨a, len, cap, m, n, D, Pl, hcs, _, hl, hm, hmm, hx, hi⟩
  · simp [Value.cells] at hcs
    obtain ⟨rfl, rfl, rfl⟩ := hcs
    exact ⟨[], ⟨none, 0, rfl, fun j s hj => by simp at hj⟩, fun x hx => by simp at hx, Nat.zero_le _⟩
  · simp [Value.cells] at hcs
    obtain ⟨rfl, rfl, rfl⟩ := hcs
    have hle : len0 ≤ m := by rw [hmm]; split <;> omega
    have key : ∀ i, i < m → ∃ x : Int × List UInt8, (w2 W (some a) i x) ∧ (∃ a : DataW H, D i = .agg [a, .lit (.string x.2)]) := by
      intro i him
      obtain ⟨cs', hc, ht'⟩ := hi i him
      rw [hC] at hc
      obtain ⟨_, _, hat⟩ := World.cells?_some hc
      obtain ⟨x, rfl, hD⟩ := put_of ht'
      refine ⟨x, ⟨a, rfl, ?_, ?_⟩, hD⟩
      · simpa [add_add] using hat 0 (by decide)
      · rw [← behind_add _ _ _ (by decide), ← add_add]; exact hat 1 (by decide)
    let f : Nat → Int × List UInt8 := fun i => if h : i < m then (key i h).choose else default
    have hfs : ∀ i, i < m → w2 W (some a) i (f i) ∧ (∃ a : DataW H, D i = .agg [a, .lit (.string (f i).2)]) := by
      intro i h
      have hc := (key i h).choose_spec
      have he : f i = (key i h).choose := dif_pos h
      rw [he]
      exact hc
    have hxd := hd.trans (congrArg some (Prod.mk.inj hx).1)
    refine ⟨(List.range len0).map f, ⟨some a, cap0, by simp, ?_⟩, ?_, by simp; omega⟩
    · intro i x hi2
      rw [List.getElem?_map, Option.map_eq_some_iff] at hi2
      obtain ⟨i2, h2, rfl⟩ := hi2
      obtain ⟨h3, h4⟩ := List.getElem?_eq_some_iff.1 h2
      simp only [List.getElem_range] at h4
      subst h4
      simp only [List.length_range] at h3
      exact (hfs i (by omega)).1
    · intro x hx2
      obtain ⟨i, hi2, rfl⟩ := List.mem_map.1 hx2
      have hil : i < len0 := List.mem_range.1 hi2
      obtain ⟨_, ⟨a, hD⟩⟩ := hfs i (by omega)
      refine sized_row_agg hsz ht hxd Tryz.underlying41 (List.mem_map.2 ⟨i, hi2, rfl⟩) ?_
      rw [hD]
      simp only [DataW.weights, Tryz.underlying60]
      simp [DataW.weightsEach, DataW.weights]
/-- The slice v is the bytes l. -/
def U8s (w : World) (v : Value) (l : List Nat) : Prop :=
  ∃ A c, v = .slice A l.length c ∧ ∀ (j n : Nat), l[j]? = some n → ∃ a : Addr, A = some a ∧ w.cell? (a.add j) = some (.int .u8 (n : Int))
theorem byte_of {n : Int} (h : (Lit.int .u8 n).wf = true) : ∃ k : Nat, n = (k : Int) ∧ k < 256 := by
  have : 0 ≤ n ∧ n < 256 := by
    simp [Lit.wf, IntKind.min, IntKind.max, IntKind.signed, IntKind.bits] at h
    omega
  exact ⟨n.toNat, by omega, by omega⟩
theorem arg_bytes {H : Type} {enc : TypeId × Value → H} {W : World} {r : Reach} {b0 base : Nat} {sp : Nat → Bool} {held : Bool} {v : Value} {d : DataW H} {ps : List MemPlace} {ts : List TypeId} {ds : List (DataW H)} {j : Nat}
    (hv : Value.okWide Tryz.prog W r b0 53 v) (h : DataW.Trod enc Tryz.prog W base sp held 53 v d ps)
    (hsz : (DataW.weightsEach Tryz.prog ts ds).all (· ≤ reachBytes) = true) (ht : ts[j]? = some 53) (hd : ds[j]? = some d) :
    ∃ l : List Nat, U8s W v l ∧ (∀ x ∈ l, x < 256) ∧ l.length ≤ maxLen := by
  obtain ⟨a0, len0, cap0, rfl⟩ := okWide_slice Tryz.underlying53 hv
  obtain ⟨fuel, hf⟩ := h
  rcases open_slice1 Tryz.underlying53 (by kernel_rfl) hf with ⟨hcs, hx⟩ | ⟨a, len, cap, m, n, V, D, Pl, hcs, _, hl, hm, hmm, hx, hi⟩
  · simp [Value.cells] at hcs
    obtain ⟨rfl, rfl, rfl⟩ := hcs
    exact ⟨[], ⟨none, 0, rfl, fun j s hj => by simp at hj⟩, fun x hx => by simp at hx, Nat.zero_le _⟩
  · simp [Value.cells] at hcs
    obtain ⟨rfl, rfl, rfl⟩ := hcs
    have hle : len0 ≤ m := by rw [hmm]; split <;> omega
    have key : ∀ i, i < m → ∃ k : Nat, W.cell? (a.add i) = some (.int .u8 (k : Int)) ∧ k < 256 := by
      intro i him
      obtain ⟨hc, ht'⟩ := hi i him
      obtain ⟨i0, e0, x0, w0⟩ := DataW.trod_int Tryz.underlying5 ht'
      obtain ⟨k, rfl, hk⟩ := byte_of w0
      refine ⟨k, ?_, hk⟩
      rw [hc, (List.cons.inj e0).1]
    let f : Nat → Nat := fun i => if h : i < m then (key i h).choose else 0
    have hfs : ∀ i, i < m → W.cell? (a.add i) = some (.int .u8 (f i : Int)) ∧ f i < 256 := by
      intro i h
      have hc := (key i h).choose_spec
      have he : f i = (key i h).choose := dif_pos h
      rw [he]
      exact hc
    refine ⟨(List.range len0).map f, ⟨some a, cap0, by simp, ?_⟩, ?_, by simp; omega⟩
    · intro i x hi2
      rw [List.getElem?_map, Option.map_eq_some_iff] at hi2
      obtain ⟨i2, h2, rfl⟩ := hi2
      obtain ⟨h3, h4⟩ := List.getElem?_eq_some_iff.1 h2
      simp only [List.getElem_range] at h4
      subst h4
      simp only [List.length_range] at h3
      exact ⟨a, rfl, (hfs i (by omega)).1⟩
    · intro x hx2
      obtain ⟨i, hi2, rfl⟩ := List.mem_map.1 hx2
      have hil : i < len0 := List.mem_range.1 hi2
      exact (hfs i (by omega)).2
/-! Steps of a journal's script. -/
structure JSt where
  crash : Bool
  keep : List UInt8
  v : Value
  l : PutI
instance : Inhabited JSt := ⟨⟨false, [], .slice none 0 0, []⟩⟩
/-- A row that is none, or has a place. -/
def Placed (v : Value) (m : Nat) : Prop := v = .slice none 0 0 ∨ ∃ a c, v = .slice (some a) m c
structure JSt.at_ (W : World) (a : Addr) (i : Nat) (x : JSt) : Prop where
  c0 : W.cell? (a.add (i * 3)) = some (.bool x.crash)
  c1 : W.cell? (behind a (i * 3) 1) = some (str x.keep)
  c2 : W.cell? (behind a (i * 3) 2) = some x.v
  row : Puts W x.v x.l
  placed : Placed x.v x.l.length
structure JSt.fine (x : JSt) : Prop where
  keep : x.keep.length ≤ 140737488351232
  each : ∀ p ∈ x.l, p.2.length ≤ 140737488351232
  len : x.l.length ≤ maxLen
/-- The slice v is the script l. -/
def JSteps (w : World) (v : Value) (l : List JSt) : Prop := ∃ A c, v = .slice A l.length c ∧ ∀ (j : Nat) (x : JSt), l[j]? = some x → ∃ a : Addr, A = some a ∧ x.at_ w a j
theorem puts_of {H : Type} {enc : TypeId × Value → H} {W : World} {base fuel : Nat} {sp : Nat → Bool} {held : Bool} {c : Value} {d : DataW H} {p : List MemPlace}
    (hf : DataW.trod enc Tryz.prog W base sp held fuel 41 [c] = some (d, p)) :
    ∃ l : PutI, Puts W c l ∧ Placed c l.length ∧ l.length ≤ maxLen ∧ ((∀ m ∈ d.weights Tryz.prog 41, m ≤ reachBytes) → ∀ x ∈ l, x.2.length ≤ 140737488351232) := by
  have hC : Tryz.prog.cellsOf 60 = 2 := by kernel_rfl
  rcases open_slice Tryz.underlying41 hf with ⟨hcs, hx⟩ | ⟨a, len, cap, m, n, D, Pl, hcs, _, hl, hm, hmm, hx, hi⟩
  · obtain rfl := (List.cons.inj hcs).1
    exact ⟨[], ⟨none, 0, rfl, fun j s hj => by simp at hj⟩, .inl rfl, Nat.zero_le _, fun _ x hx => by simp at hx⟩
  · obtain rfl := (List.cons.inj hcs).1
    have hle : len ≤ m := by rw [hmm]; split <;> omega
    have key : ∀ i, i < m → ∃ x : Int × List UInt8, (w2 W (some a) i x) ∧ (∃ a : DataW H, D i = .agg [a, .lit (.string x.2)]) := by
      intro i him
      obtain ⟨cs', hc, ht'⟩ := hi i him
      rw [hC] at hc
      obtain ⟨_, _, hat⟩ := World.cells?_some hc
      obtain ⟨x, rfl, hD⟩ := put_of ht'
      refine ⟨x, ⟨a, rfl, ?_, ?_⟩, hD⟩
      · simpa [add_add] using hat 0 (by decide)
      · rw [← behind_add _ _ _ (by decide), ← add_add]; exact hat 1 (by decide)
    let f : Nat → Int × List UInt8 := fun i => if h : i < m then (key i h).choose else default
    have hfs : ∀ i, i < m → w2 W (some a) i (f i) ∧ (∃ a : DataW H, D i = .agg [a, .lit (.string (f i).2)]) := by
      intro i h
      have hc := (key i h).choose_spec
      have he : f i = (key i h).choose := dif_pos h
      rw [he]
      exact hc
    refine ⟨(List.range len).map f, ⟨some a, cap, by simp, ?_⟩, .inr ⟨a, cap, by simp⟩, by simp; omega, fun hw => ?_⟩
    · intro i x hi2
      rw [List.getElem?_map, Option.map_eq_some_iff] at hi2
      obtain ⟨i2, h2, rfl⟩ := hi2
      obtain ⟨h3, h4⟩ := List.getElem?_eq_some_iff.1 h2
      simp only [List.getElem_range] at h4
      subst h4
      simp only [List.length_range] at h3
      exact (hfs i (by omega)).1
    · intro x hx2
      obtain ⟨i, hi2, rfl⟩ := List.mem_map.1 hx2
      have hil : i < len := List.mem_range.1 hi2
      obtain ⟨_, ⟨a, hD⟩⟩ := hfs i (by omega)
      refine hw _ ?_
      rw [(Prod.mk.inj hx).1]
      simp only [DataW.weights, Tryz.underlying41, List.mem_cons, List.mem_append]
      refine .inr (.inl (weights_all_mem (List.mem_map.2 ⟨i, hi2, rfl⟩) _ ?_))
      rw [hD]
      simp only [DataW.weights, Tryz.underlying60]
      simp [DataW.weightsEach, DataW.weights]
theorem jstep_of {H : Type} {enc : TypeId × Value → H} {W : World} {base n : Nat} {sp : Nat → Bool} {held : Bool} {cs : List Value} {d : DataW H} {p : List MemPlace}
    (h : DataW.trod enc Tryz.prog W base sp held n 43 cs = some (d, p)) :
    ∃ x : JSt, cs = [.bool x.crash, str x.keep, x.v] ∧ Puts W x.v x.l ∧ Placed x.v x.l.length ∧ x.l.length ≤ maxLen ∧ ((∀ m ∈ d.weights Tryz.prog 43, m ≤ reachBytes) → x.fine) := by
  obtain ⟨xs, n', _, hx, hl, hlen, hf⟩ := DataW.trod_struct Tryz.underlying43 h
  have k3 : Tryz.prog.cellsOf 4 = 1 := by kernel_rfl
  have k9 : Tryz.prog.cellsOf 9 = 1 := by kernel_rfl
  have k4 : Tryz.prog.cellsOf 41 = 1 := by kernel_rfl
  have hC : Tryz.prog.cellsOf 43 = 3 := by kernel_rfl
  rw [hC] at hl
  match cs, hl with
  | [c0, c1, c2], _ =>
    match xs, hlen with
    | [y0, y1, y2], _ =>
      have g0 := hf 0 _ rfl
      have g1 := hf 1 _ rfl
      have g2 := hf 2 _ rfl
      have g0 : DataW.trod enc Tryz.prog W base sp held n' 4 ([c0, c1, c2].take (Tryz.prog.cellsOf 4)) = some y0 := g0
      have g1 : DataW.trod enc Tryz.prog W base sp held n' 9 ([c1, c2].take (Tryz.prog.cellsOf 9)) = some y1 := g1
      have g2 : DataW.trod enc Tryz.prog W base sp held n' 41 ([c2].take (Tryz.prog.cellsOf 41)) = some y2 := g2
      rw [k3] at g0
      rw [k9] at g1
      rw [k4] at g2
      obtain ⟨i0, e0, x0⟩ := DataW.trod_bool Tryz.underlying4 g0
      obtain ⟨i1, e1, x1, -⟩ := DataW.trod_string Tryz.underlying9 g1
      obtain ⟨d2, p2⟩ := y2
      obtain ⟨l, q1, q2, q3, q4⟩ := puts_of g2
      obtain rfl := (List.cons.inj e0).1
      obtain rfl := (List.cons.inj e1).1
      subst x1
      refine ⟨⟨i0, i1.data.toList, c2, l⟩, rfl, q1, q2, q3, fun hw => ⟨hw _ ?_, q4 fun m hm => hw m ?_, q3⟩⟩
      · rw [(Prod.mk.inj hx).1]
        simp only [DataW.weights, Tryz.underlying43]
        simp [DataW.weightsEach, DataW.weights]
      · rw [(Prod.mk.inj hx).1]
        simp only [DataW.weights, Tryz.underlying43]
        simp [DataW.weightsEach, DataW.weights]
        exact .inr (.inr hm)
theorem arg_jsteps {H : Type} {enc : TypeId × Value → H} {W : World} {r : Reach} {b0 base : Nat} {sp : Nat → Bool} {held : Bool} {v : Value} {d : DataW H} {ps : List MemPlace} {ts : List TypeId} {ds : List (DataW H)} {j : Nat}
    (hv : Value.okWide Tryz.prog W r b0 22 v) (h : DataW.Trod enc Tryz.prog W base sp held 22 v d ps)
    (hsz : (DataW.weightsEach Tryz.prog ts ds).all (· ≤ reachBytes) = true) (ht : ts[j]? = some 22) (hd : ds[j]? = some d) :
    ∃ l, JSteps W v l ∧ (∀ x ∈ l, x.fine) ∧ l.length ≤ maxLen := by
  obtain ⟨a0, len0, cap0, rfl⟩ := okWide_slice Tryz.underlying22 hv
  obtain ⟨fuel, hf⟩ := h
  have hC : Tryz.prog.cellsOf 43 = 3 := by kernel_rfl
  rcases open_slice Tryz.underlying22 hf with ⟨hcs, hx⟩ | ⟨a, len, cap, m, n, D, Pl, hcs, _, hl, hm, hmm, hx, hi⟩
  · simp [Value.cells] at hcs
    obtain ⟨rfl, rfl, rfl⟩ := hcs
    exact ⟨[], ⟨none, 0, rfl, fun j s hj => by simp at hj⟩, fun x hx => by simp at hx, Nat.zero_le _⟩
  · simp [Value.cells] at hcs
    obtain ⟨rfl, rfl, rfl⟩ := hcs
    have hle : len0 ≤ m := by rw [hmm]; split <;> omega
    have key : ∀ i, i < m → ∃ x : JSt, x.at_ W a i ∧ ((∀ m ∈ (D i).weights Tryz.prog 43, m ≤ reachBytes) → x.fine) := by
      intro i him
      obtain ⟨cs', hc, ht'⟩ := hi i him
      rw [hC] at hc
      obtain ⟨_, _, hat⟩ := World.cells?_some hc
      obtain ⟨x, rfl, q1, q2, q3, q4⟩ := jstep_of ht'
      refine ⟨x, ⟨?_, ?_, ?_, q1, q2⟩, q4⟩
      · simpa [add_add] using hat 0 (by decide)
      · rw [← behind_add _ _ _ (by decide), ← add_add]; exact hat 1 (by decide)
      · rw [← behind_add _ _ _ (by decide), ← add_add]; exact hat 2 (by decide)
    let f : Nat → JSt := fun i => if h : i < m then (key i h).choose else default
    have hfs : ∀ i, i < m → (f i).at_ W a i ∧ ((∀ m ∈ (D i).weights Tryz.prog 43, m ≤ reachBytes) → (f i).fine) := by
      intro i h
      have hc := (key i h).choose_spec
      have he : f i = (key i h).choose := dif_pos h
      rw [he]
      exact hc
    have hxd := hd.trans (congrArg some (Prod.mk.inj hx).1)
    refine ⟨(List.range len0).map f, ⟨some a, cap0, by simp, ?_⟩, ?_, by simp; omega⟩
    · intro i x hi2
      rw [List.getElem?_map, Option.map_eq_some_iff] at hi2
      obtain ⟨i2, h2, rfl⟩ := hi2
      obtain ⟨h3, h4⟩ := List.getElem?_eq_some_iff.1 h2
      simp only [List.getElem_range] at h4
      subst h4
      simp only [List.length_range] at h3
      exact ⟨a, rfl, (hfs i (by omega)).1⟩
    · intro x hx2
      obtain ⟨i, hi2, rfl⟩ := List.mem_map.1 hx2
      have hil : i < len0 := List.mem_range.1 hi2
      refine (hfs i (by omega)).2 fun m hm => ?_
      exact sized_row_agg hsz ht hxd Tryz.underlying22 (List.mem_map.2 ⟨i, hi2, rfl⟩) hm
end Go.Proofs.YtgkdabjflagnlaaGreat
/- Layer 4 (journal): a transaction that was cut off. -/
namespace Go.Proofs.YtgkdabjflagnlaaGreat
open Go.RowKit Go.Maps
set_option linter.unusedVariables false
set_option linter.unusedSimpArgs false
set_option maxRecDepth 10000
def toL (l : PutI) : PutL := l.map fun p => (p.1.toNat, p.2)
theorem cast_toL {N F n : Nat} {l : PutI} (h : whyL N F n l = 0) : castL (toL l) = l := by
  unfold whyL at h
  split at h
  · cases h
  rename_i h1
  simp only [Bool.not_eq_true, List.any_eq_false] at h1
  unfold castL toL
  rw [List.map_map]
  conv => rhs; rw [← List.map_id l]
  apply List.map_congr_left
  rintro ⟨s, d⟩ hp
  have := h1 _ hp
  simp [wrongB] at this
  simp only [Function.comp, id]
  congr 1
  omega
theorem puts_len {l : PutL} (h : whyL 80 1 40 (castL l) = 0) : l.length ≤ 60 := by
  obtain ⟨-, -, h⟩ := why_zero h
  have : capL 40 = 37 := by decide
  omega
theorem results_tmp4 {fn : Func} {t u v x : Tmp} (h : fn.results = #[.tmp t, .tmp u, .tmp v, .tmp x]) (tmps : Array Value) (P : Program) (w : World) :
    (results fn tmps).run P w = .ok (.tuple #[tmps.getD t undef, tmps.getD u undef, tmps.getD v undef, tmps.getD x undef]) w := by
  simp [results, h]
theorem sta_self {N F n g : Nat} {f d : Nat → List UInt8} (h : StA N F n g f d) : StA N F n g d d := ⟨h.gen, h.pend, fun i _ => rfl⟩
theorem fuse_calm {M : Dv} (h : M.calm) (k : Nat) : (M.fuse k).calm := h
set_option maxRecDepth 100000 in
set_option maxHeartbeats 2000000 in
theorem torn_any (va vl : Value) (a l : PutL) (k : Nat) (keep : List UInt8) (w : World) (ha : Puts w va (castL a)) (hl : Puts w vl (castL l)) (h1 : whyL 80 1 40 (castL a) = 0) (h2 : whyL 80 1 40 (castL l) = 0) (hk : k ≤ 1000) (hkeep : keep.length ≤ 140737488351232) :
    Calls Tryz.prog 25 #[va, vl, .int .i64 (k : Int), str keep] w fun e w' => ∃ b v1 v2 M f, e = .returned (.tuple #[devp b, v1, v2, .bool true]) ∧
      Law 1 40 w w' b M [] [(v2, secs 80 (laid (mask 1 40 f) l)), (v1, secs 80 (mask 1 40 f))] ∧ M.n = 80 ∧ M.calm ∧ M.down = false ∧ M.left = 0 ∧ M.wr ≤ 1024 ∧ Aft 80 1 40 1 f (lastL l) M.dur := by
  have hla := puts_len h1
  have hll := puts_len h2
  have HA := Lib.hid ha
  have HL := Lib.hid hl
  have hca := castL_length a
  have hcl := castL_length l
  obtain ⟨A0, c0, rfl, -⟩ := ha
  obtain ⟨A1, c1, rfl, -⟩ := hl
  rw [hca, hcl]
  rw [hca] at HA
  rw [hcl] at HL
  clear hca hcl
  go_enter Tryz.func25, Tryz.ntmps25
  go_wp2_with fail
  refine (law_new (F := 1) (n := 40) 80 (by decide) (by decide) w).mono ?_
  rintro e w1 ⟨b, rfl, hL⟩
  have H1 := Lib.hid hL
  clear hL
  go_wp2_with fail
  refine (law_open_new H1.out (by decide) (by decide) (by decide) (fun _ => rfl) rfl (by decide) (sta_new (n := 40) (F := 1) 80)).mono ?_
  rintro e w2 ⟨jb, rfl, hL⟩
  have H2 := Lib.hid hL
  clear hL H1
  go_wp2_with fail
  refine (law_commit_free (l := a) (g := 0) H2.out (List.mem_cons_self ..) (HA.out.below H2.out.all) (by decide) (by decide) (by decide) (by decide) h1 (fun _ => rfl) (sta_new (n := 40) (F := 1) 80) (by decide) rfl rfl).mono ?_
  rintro e w3 ⟨rfl, M, hL, hn, hd, hlf, hc, hw, hS⟩
  have H3 := Lib.hid hL
  clear hL H2
  have hw0 : M.wr ≤ 200 := by have : (dev0 80).wr = 0 := rfl; omega
  rw [show (dev0 80).n = 80 from rfl] at hn hS
  clear hw
  go_wp2_with fail
  refine (law_sectors H3.out hd (by omega) hc (by decide) (by decide)).mono ?_
  rintro e w4 ⟨v1, rfl, hL⟩
  rw [hn] at hL
  have H4 := Lib.hid hL
  clear hL H3
  go_wp2_with fail
  refine (law_fuse H4.out k (by omega)).mono ?_
  rintro e w5 ⟨rfl, hL⟩
  have H5 := Lib.hid hL
  clear hL H4
  have hnF : (M.fuse k).n = 80 := hn
  have hT : Tr 80 1 40 (lastL l) := tr_last h2 (by decide) (by decide) (by decide)
  obtain ⟨q1, q2, q3, -, -⟩ := commit_all (M := M.fuse k) (g := 1) hT hnF (fuse_calm hc k) (by decide) (sta_self hS)
  have hw1 : (M.fuse k).wr ≤ 200 := hw0
  have hll2 := lastL_length l
  go_wp2_with fail
  refine (law_commit (l := l) (g := 1) (f := M.dur) H5.out (List.mem_cons_self ..) (HL.out.below H5.out.all) (by decide) (by decide) (by rw [hnF]; decide) (by omega) (by rw [hnF]; exact h2) (fuse_calm hc k) (by rw [hnF]; exact sta_self hS) (by decide)).mono ?_
  rintro e w6 ⟨⟨r1, r2, rfl, -⟩, hL⟩
  have H6 := Lib.hid hL
  clear hL H5
  generalize (M.fuse k).runD (commitP 1 (1 + 1) (lastL l)) = M2 at *
  have hw2 : M2.wr ≤ 1024 := by omega
  go_wp2_with fail
  refine (law_crash H6.out (by omega) keep (by omega)).mono ?_
  rintro e w7 ⟨rfl, hL⟩
  have H7 := Lib.hid hL
  clear hL H6
  obtain ⟨ho1, ho2, ho3⟩ := why_zero h2
  go_wp2_with fail
  refine (law_laid (l := l) H7.out (List.mem_cons_self ..) (HL.out.below H7.out.all) (fun p hp => (ho1 p hp).1) (by omega) (by decide) (by decide)).mono ?_
  rintro e w8 ⟨v2, rfl, hL⟩
  have H8 := Lib.hid hL
  clear hL H7
  go_wp2_with fail
  (try simp only [Exit.inBlock, Exit.then])
  refine bodyPost_ret (results_tmp4 rfl _ _ _) rfl ?_
  refine ⟨b, v1, v2, _, _, rfl, H8.out.less (fun x hx => by cases hx) (fun x hx => hx), q1, crash_calm _ _, rfl, rfl, hw2, ?_⟩
  exact q3 keep
theorem why_last {N F n : Nat} {l : PutL} (h : whyL N F n (castL l) = 0) : whyL N F n (castL (lastL l)) = 0 := by
  obtain ⟨h1, h2, h3⟩ := why_zero h
  have hl := lastL_length l
  unfold whyL
  rw [if_neg, if_neg, if_neg]
  · rw [castL_length]; omega
  · simp only [Bool.not_eq_true, List.any_eq_false]
    intro p hp
    obtain ⟨q, hq, rfl⟩ := List.mem_map.1 hp
    have := h2 q (lastL_mem l q hq)
    simp [withinB]
    omega
  · simp only [Bool.not_eq_true, List.any_eq_false]
    intro p hp
    obtain ⟨q, hq, rfl⟩ := List.mem_map.1 hp
    have := h1 q (lastL_mem l q hq)
    simp [wrongB]
    omega
/-- What a statement makes of torn: sectors outside the area. -/
theorem same_was {f g : Nat → List UInt8} {N : Nat} (h : ∀ i, Out N 1 40 i → g i = f i) : ∀ i, i < N → (i < 1 ∨ 1 + 40 ≤ i) → mask 1 40 g i = mask 1 40 f i := by
  intro i h1 h2
  rw [mask_out _ h2, mask_out _ h2]
  exact h i ⟨h1, h2⟩
theorem same_then {f g : Nat → List UInt8} {N : Nat} {l : PutL} (h : ∀ i, Out N 1 40 i → g i = laid f l i) : ∀ i, i < N → (i < 1 ∨ 1 + 40 ≤ i) → mask 1 40 g i = laid (mask 1 40 f) l i := by
  intro i h1 h2
  rw [mask_out _ h2, h i ⟨h1, h2⟩]
  exact laid_at _ _ _ _ (mask_out f h2).symm
set_option maxRecDepth 100000 in
set_option maxHeartbeats 2000000 in
theorem walk_JournalAtomic' (va vl : Value) (a l : PutI) (fuse : Nat) (keep : List UInt8) (w : World) (ha : Puts w va a) (hl : Puts w vl l) (hsa : ∀ p ∈ a, p.2.length ≤ 140737488351232) (hsl : ∀ p ∈ l, p.2.length ≤ 140737488351232) (hna : a.length ≤ maxLen) (hnl : l.length ≤ maxLen)
    (hf : fuse < 256) (hk : keep.length ≤ 140737488351232) :
    Calls Tryz.prog 4 #[va, vl, .int .u8 (fuse : Int), str keep] w fun e w' => e = .returned (.bool true) ∧ Below w.heap.size w w' := by
  have HM := Lib.hid (may_any va vl a l w ha hl hsa hsl hna hnl)
  have HA := Lib.hid ha
  have HL := Lib.hid hl
  obtain ⟨A0, c0, rfl, -⟩ := ha
  obtain ⟨A1, c1, rfl, -⟩ := hl
  cases hm : (!jlong a && !jlong l && decide (whyL 80 1 40 a = 0) && decide (whyL 80 1 40 l = 0))
  · rw [hm] at HM
    go_enter Tryz.func4, Tryz.ntmps4
    go_wp2_with fail
    refine HM.out.mono ?_
    rintro e w1 ⟨rfl, rfl⟩
    go_wp2_with fail
    refine (jalive_any _).mono ?_
    rintro e w1 ⟨rfl, hb⟩
    go_wp2_with fail
    go_ret
    exact ⟨rfl, hb⟩
  rw [hm] at HM
  simp at hm
  obtain ⟨⟨-, h1⟩, h2⟩ := hm
  by_cases hkl : 300 < keep.length
  · have hki : decide ((300 : Int) < (keep.length : Int)) = true := decide_eq_true (by omega)
    go_enter Tryz.func4, Tryz.ntmps4
    go_wp2_with fail
    refine HM.out.mono ?_
    rintro e w1 ⟨rfl, rfl⟩
    go_wp2_with fail
    refine (jalive_any _).mono ?_
    rintro e w1 ⟨rfl, hb⟩
    go_wp2_with fail
    go_ret
    exact ⟨rfl, hb⟩
  have hki : decide ((300 : Int) < (keep.length : Int)) = false := decide_eq_false (by omega)
  have ea := cast_toL h1
  have el := cast_toL h2
  obtain ⟨a', ha'⟩ : ∃ a', a' = toL a := ⟨_, rfl⟩
  obtain ⟨l', hl'⟩ : ∃ l', l' = toL l := ⟨_, rfl⟩
  rw [← ha'] at ea
  rw [← hl'] at el
  clear ha' hl'
  subst ea el
  rw [castL_length] at *
  rw [castL_length] at *
  have hll := puts_len h2
  have HW := Lib.hid (refWrites_any l'.length w (by omega))
  obtain ⟨m, hm⟩ : ∃ m, m = 2 * l'.length + (l'.length + 31) / 32 + 2 := ⟨_, rfl⟩
  rw [← hm] at HW
  have hm2 : 2 ≤ m := by omega
  have hm3 : m ≤ 200 := by omega
  have hrem : (fuse : Int).tmod ((m : Int) + 2) = ((fuse % (m + 2) : Nat) : Int) := by
    rw [show (m : Int) + 2 = ((m + 2 : Nat) : Int) by omega]
    exact (Int.ofNat_tmod fuse (m + 2)).symm
  have hkk : fuse % (m + 2) ≤ 1000 := by have := Nat.mod_lt fuse (show 0 < m + 2 by omega); omega
  have HT := Lib.hid (torn_any _ _ a' l' (fuse % (m + 2)) keep w HA.out HL.out h1 h2 hkk (by omega))
  generalize fuse % (m + 2) = k at *
  clear hm
  go_enter Tryz.func4, Tryz.ntmps4
  go_wp2_with fail
  refine HM.out.mono ?_
  rintro e w1 ⟨rfl, rfl⟩
  go_wp2_with fail
  refine HW.out.mono ?_
  rintro e w1 ⟨rfl, rfl⟩
  go_wp2_with fail
  refine HT.out.mono ?_
  rintro e w2 ⟨b, v1, v2, M, f, rfl, hLw, hn, hc, hd, hlf, hw, hA⟩
  have H2 := Lib.hid hLw
  clear hLw HT HW HM
  have hT : Tr 80 1 40 (lastL l') := tr_last h2 (by decide) (by decide) (by decide)
  obtain ⟨-, -, hcap⟩ := why_zero h2
  have hll2 := lastL_length l'
  have hwl : whyL 80 1 40 (castL (lastL l')) = 0 := why_last h2
  go_wp2_with fail
  refine (law_open (g := 1) (f := f) (L := lastL l') H2.out (by rw [hn]; exact hT) (by omega) (by rw [hn]; exact hwl) (by decide) (by decide) hc (by omega) (by rw [hn]; exact hA) (by decide)).mono ?_
  rintro e w3 ⟨M2, hn2, hw2, -, ⟨-, hx, -⟩ | ⟨hd2, hc2, hl2, jb, rec, g2, f2, rfl, hL2, hS, hor, -⟩⟩
  · exact absurd hlf (hx hd)
  rw [hn] at hS hn2
  have H3 := Lib.hid hL2
  clear hL2 H2
  go_wp2_with fail
  refine (law_sectors H3.out hd2 (by omega) hc2 (by decide) (by decide)).mono ?_
  rintro e w4 ⟨v3, rfl, hL4⟩
  rw [hn2] at hL4
  have H4 := Lib.hid hL4
  clear hL4 H3
  have hgen := fun (W : World) (h : Law 1 40 w W b M2 ((jb, rec) :: []) ((v3, secs 80 (mask 1 40 M2.dur)) :: [(v2, secs 80 (laid (mask 1 40 f) l')), (v1, secs 80 (mask 1 40 f))])) => law_gen h (List.mem_cons_self ..) (by rw [hn2]; decide) (by omega) hc2 hS
  have HG := Lib.hid hgen
  clear hgen
  rcases hor with ⟨rfl, rfl⟩ | ⟨rfl, rfl⟩
  · go_wp2_with fail
    refine (HG.out _ H4.out).mono ?_
    rintro e w5 ⟨rfl, hL5⟩
    have H5 := Lib.hid hL5
    clear hL5 H4
    go_wp2_with fail
    refine (law_same (N := 80) H5.out (List.mem_cons_self ..) (List.mem_cons_of_mem _ (List.mem_cons_of_mem _ (List.mem_cons_self ..))) (same_was hS.out) (by decide) (by decide) (by decide)).mono ?_
    rintro e w6 ⟨rfl, hL6⟩
    have H6 := Lib.hid hL6
    clear hL6 H5
    go_wp2_with fail
    refine (jalive_any _).mono ?_
    rintro e w7 ⟨rfl, hb⟩
    go_wp2_with fail
    go_ret
    exact ⟨rfl, H6.out.all.trans (hb.mono H6.out.all.size)⟩
  · go_wp2_with fail
    refine (HG.out _ H4.out).mono ?_
    rintro e w5 ⟨rfl, hL5⟩
    have H5 := Lib.hid hL5
    clear hL5 H4
    go_wp2_with fail
    refine (HG.out _ H5.out).mono ?_
    rintro e w5 ⟨rfl, hL5⟩
    have H5b := Lib.hid hL5
    clear hL5 H5
    go_wp2_with fail
    refine (law_same (N := 80) H5b.out (List.mem_cons_self ..) (List.mem_cons_of_mem _ (List.mem_cons_self ..)) (same_then (l := l') (fun i hi => by rw [← laid_lastL]; exact hS.out i hi)) (by decide) (by decide) (by decide)).mono ?_
    rintro e w6 ⟨rfl, hL6⟩
    have H6 := Lib.hid hL6
    clear hL6 H5b
    go_wp2_with fail
    refine (jalive_any _).mono ?_
    rintro e w7 ⟨rfl, hb⟩
    go_wp2_with fail
    go_ret
    exact ⟨rfl, H6.out.all.trans (hb.mono H6.out.all.size)⟩
theorem byte_arg {a : Int} (h : (Lit.int .u8 a).wf = true) : ∃ n : Nat, a = (n : Int) ∧ n < 256 := by
  have : 0 ≤ a ∧ a < 256 := by
    simp [Lit.wf, IntKind.min, IntKind.max, IntKind.signed, IntKind.bits] at h
    omega
  exact ⟨a.toNat, by omega, by omega⟩
theorem walk_JournalAtomic (W : World) (v0 : Value) (a0 : PutI) (v1 : Value) (a1 : PutI) (a2 : Int) (a3 : ByteArray) (w0 : Puts W v0 a0) (y0 : ∀ x ∈ a0, x.2.length ≤ 140737488351232) (z0 : a0.length ≤ maxLen)
    (w1 : Puts W v1 a1) (y1 : ∀ x ∈ a1, x.2.length ≤ 140737488351232) (z1 : a1.length ≤ maxLen) (w2 : (Lit.int .u8 a2).wf = true) (z3 : a3.size ≤ 140737488351232) :
    Calls Tryz.prog 4 #[v0, v1, .int .u8 a2, .string a3] W fun e w' => e = .returned (.bool true) ∧ Below W.heap.size W w' := by
  obtain ⟨n, rfl, hn⟩ := byte_arg w2
  rw [str_of a3]
  exact walk_JournalAtomic' v0 v1 a0 a1 n a3.data.toList W w0 w1 y0 y1 z0 z1 hn (by simpa using z3)
end Go.Proofs.YtgkdabjflagnlaaGreat
/- Layer 4 (journal): what was committed is there behind any crash. -/
namespace Go.Proofs.YtgkdabjflagnlaaGreat
open Go.RowKit Go.Maps
set_option linter.unusedVariables false
set_option linter.unusedSimpArgs false
set_option maxRecDepth 10000
theorem recovered_any (jb b F n rec : Nat) (W : World) (h : JAt W jb b F n rec) :
    Calls Tryz.prog 12 #[devp jb] W fun e w' => e = .returned (.int .i64 (rec : Int)) ∧ W = w' := by
  have c3 := h.c3
  clear h
  go_enter Tryz.func12, Tryz.ntmps12
  go_wp2_with fail
  go_ret
  exact ⟨rfl, rfl⟩
section
variable {F n : Nat} {w W : World} {b : Nat} {M : Dv} {js : List (Nat × Nat)} {vs : Rows3}
theorem law_durable (h : Law F n w W b M js vs) (i : Nat) (hi : i < M.n) :
    Calls Tryz.prog 28 #[devp b, .int .i64 (i : Int)] W fun e w' => e = .returned (.tuple #[str (M.dur i), .int .i64 0]) ∧ W = w' := held_durable h.held i hi
theorem law_recovered {jb rec : Nat} (h : Law F n w W b M js vs) (hj : (jb, rec) ∈ js) :
    Calls Tryz.prog 12 #[devp jb] W fun e w' => e = .returned (.int .i64 (rec : Int)) ∧ W = w' := recovered_any jb b F n rec W (h.jat _ hj)
theorem Law.cells (h : Law F n w W b M js vs) {v : Value} {N : Nat} {f : Nat → List UInt8} (hv : (v, secs N f) ∈ vs) : ∃ A c, v = .slice A N c ∧ ∀ k, k < N → ∃ g, A = some ⟨g, 0, none⟩ ∧ W.cell? ⟨g, k, none⟩ = some (str (f k)) := by
  obtain ⟨A, c, e, hc⟩ := Txt.at (show Txt W v (secs N f) from h.txt _ hv)
  refine ⟨A, c, by rw [e, secs_length], fun k hk => ?_⟩
  have := hc k (by rw [secs_length]; exact hk)
  rwa [secs_get] at this
end
set_option maxRecDepth 100000 in
set_option maxHeartbeats 4000000 in
theorem walk_JournalSure' (va vl : Value) (a l : PutI) (keep : List UInt8) (vc : Value) (c : PutI) (w : World) (ha : Puts w va a) (hl : Puts w vl l) (hc : Puts w vc c)
    (hsa : ∀ p ∈ a, p.2.length ≤ 140737488351232) (hsl : ∀ p ∈ l, p.2.length ≤ 140737488351232) (hsc : ∀ p ∈ c, p.2.length ≤ 140737488351232) (hna : a.length ≤ maxLen) (hnl : l.length ≤ maxLen) (hnc : c.length ≤ maxLen) (hk : keep.length ≤ 140737488351232) :
    Calls Tryz.prog 6 #[va, vl, str keep, vc] w fun e w' => e = .returned (.bool true) ∧ Below w.heap.size w w' := by
  have HM := Lib.hid (may_any va vl a l w ha hl hsa hsl hna hnl)
  have HJ := Lib.hid (jlong_any vc c w hc hsc hnc)
  have HWY := Lib.hid fun W (h : Below w.heap.size w W) => refWhy_any 80 1 40 vc c W (hc.below h) hsc hnc (by decide) (by decide) (by decide) (by decide)
  have HA := Lib.hid ha
  have HL := Lib.hid hl
  have HC := Lib.hid hc
  obtain ⟨A0, c0, rfl, -⟩ := ha
  obtain ⟨A1, c1, rfl, -⟩ := hl
  obtain ⟨A2, c2, rfl, -⟩ := hc
  cases hm : (!jlong a && !jlong l && decide (whyL 80 1 40 a = 0) && decide (whyL 80 1 40 l = 0))
  · rw [hm] at HM
    go_enter Tryz.func6, Tryz.ntmps6
    go_wp2_with fail
    refine HM.out.mono ?_
    rintro e w1 ⟨rfl, rfl⟩
    go_wp2_with fail
    refine (jalive_any _).mono ?_
    rintro e w1 ⟨rfl, hb⟩
    go_wp2_with fail
    go_ret
    exact ⟨rfl, hb⟩
  rw [hm] at HM
  simp at hm
  obtain ⟨⟨-, h1⟩, h2⟩ := hm
  by_cases hjc : jlong c = true
  · rw [hjc] at HJ
    go_enter Tryz.func6, Tryz.ntmps6
    go_wp2_with fail
    refine HM.out.mono ?_
    rintro e w1 ⟨rfl, rfl⟩
    go_wp2_with fail
    refine HJ.out.mono ?_
    rintro e w1 ⟨rfl, rfl⟩
    go_wp2_with fail
    refine (jalive_any _).mono ?_
    rintro e w1 ⟨rfl, hb⟩
    go_wp2_with fail
    go_ret
    exact ⟨rfl, hb⟩
  rw [Bool.not_eq_true] at hjc
  rw [hjc] at HJ
  by_cases hkl : 300 < keep.length
  · have hki : decide ((300 : Int) < (keep.length : Int)) = true := decide_eq_true (by omega)
    go_enter Tryz.func6, Tryz.ntmps6
    go_wp2_with fail
    refine HM.out.mono ?_
    rintro e w1 ⟨rfl, rfl⟩
    go_wp2_with fail
    refine HJ.out.mono ?_
    rintro e w1 ⟨rfl, rfl⟩
    go_wp2_with fail
    refine (jalive_any _).mono ?_
    rintro e w1 ⟨rfl, hb⟩
    go_wp2_with fail
    go_ret
    exact ⟨rfl, hb⟩
  have hki : decide ((300 : Int) < (keep.length : Int)) = false := decide_eq_false (by omega)
  have ea := cast_toL h1
  have el := cast_toL h2
  obtain ⟨a', ha'⟩ : ∃ a', a' = toL a := ⟨_, rfl⟩
  obtain ⟨l', hl'⟩ : ∃ l', l' = toL l := ⟨_, rfl⟩
  rw [← ha'] at ea
  rw [← hl'] at el
  clear ha' hl'
  subst ea el
  rw [castL_length] at *
  rw [castL_length] at *
  have hla := puts_len h1
  have hll := puts_len h2
  go_enter Tryz.func6, Tryz.ntmps6
  go_wp2_with fail
  refine HM.out.mono ?_
  rintro e w1 ⟨rfl, rfl⟩
  go_wp2_with fail
  refine HJ.out.mono ?_
  rintro e w1 ⟨rfl, rfl⟩
  clear HM HJ hjc
  go_wp2_with fail
  refine (law_new (F := 1) (n := 40) 80 (by decide) (by decide) w).mono ?_
  rintro e w1 ⟨b, rfl, hLw⟩
  have H1 := Lib.hid hLw
  clear hLw
  go_wp2_with fail
  refine (law_open_new H1.out (by decide) (by decide) (by decide) (fun _ => rfl) rfl (by decide) (sta_new (n := 40) (F := 1) 80)).mono ?_
  rintro e w2 ⟨jb, rfl, hLw⟩
  have H2 := Lib.hid hLw
  clear hLw H1
  go_wp2_with fail
  refine (law_commit_free (l := a') (g := 0) H2.out (List.mem_cons_self ..) (HA.out.below H2.out.all) (by decide) (by decide) (by decide) (by decide) h1 (fun _ => rfl) (sta_new (n := 40) (F := 1) 80) (by decide) rfl rfl).mono ?_
  rintro e w3 ⟨rfl, M0, hLw, hn0, hd0, hlf0, hc0, hw0, hS0⟩
  have H3 := Lib.hid hLw
  clear hLw H2
  have hw0' : M0.wr ≤ 200 := by have : (dev0 80).wr = 0 := rfl; omega
  rw [show (dev0 80).n = 80 from rfl] at hn0 hS0
  clear hw0
  go_wp2_with fail
  refine (law_commit_free (l := l') (g := 0 + 1) H3.out (List.mem_cons_self ..) (HL.out.below H3.out.all) (by decide) (by decide) (by rw [hn0]; decide) (by omega) (by rw [hn0]; exact h2) hc0 (by rw [hn0]; exact hS0) (by decide) hd0 hlf0).mono ?_
  rintro e w4 ⟨rfl, M, hLw, hn, hd, hlf, hcm, hw, hS⟩
  have H4 := Lib.hid hLw
  clear hLw H3
  rw [hn0] at hn hS
  have hwM : M.wr ≤ 400 := by omega
  clear hw hn0 hd0 hlf0 hc0 hw0' hS0
  go_wp2_with fail
  refine (law_sectors H4.out hd (by omega) hcm (by decide) (by decide)).mono ?_
  rintro e w5 ⟨v1, rfl, hLw⟩
  rw [hn] at hLw
  have H5 := Lib.hid hLw
  clear hLw H4
  go_wp2_with fail
  refine (law_writes H5.out).mono ?_
  rintro e w6 ⟨rfl, rfl⟩
  go_wp2_with fail
  refine (HWY.out _ H5.out.all).mono ?_
  rintro e w6 ⟨rfl, rfl⟩
  by_cases hwhy : whyL 80 1 40 c = 0
  rw [hwhy]
  obtain ⟨w8, e8⟩ : ∃ x, x = w5 := ⟨_, rfl⟩
  subst e8
  have H8 := Lib.hid H5.out
  clear H5
  clear hwhy
  go_wp2_with fail
  rotate_left
  have hbne : (whyL 80 1 40 c != 0) = true := by rw [bne_iff_ne]; exact hwhy
  have hrf := law_refused H5.out (List.mem_cons_self ..) (HC.out.below H5.out.all) hnc hsc (by decide) (by decide) (by decide) (by rw [hn]; exact hwhy)
  rw [hn] at hrf
  have HRF := Lib.hid hrf
  clear hrf
  generalize whyL 80 1 40 c = r at *
  go_wp2_with fail
  refine HRF.out.mono ?_
  rintro e w8 ⟨rfl, hLw⟩
  have H8 := Lib.hid hLw
  clear hLw HRF H5
  go_wp2_with fail
  refine (law_writes H8.out).mono ?_
  rintro e w9 ⟨rfl, rfl⟩
  clear hwhy hbne
  go_wp2_with fail
  all_goals
    have hCS := law_crash H8.out (by omega) keep (by omega)
    have hdur : (M.crash keep).dur = M.dur := crash_dur M hcm keep
    have hS2 : StA 80 1 40 (0 + 1 + 1) (laid (laid (fun _ => List.replicate 64 0) a') l') (M.crash keep).dur := by rw [hdur]; exact hS
    have hcc := crash_calm M keep
    have hwc : (M.crash keep).wr ≤ 400 := hwM
    have hnn : (M.crash keep).n = 80 := hn
    have hdd : (M.crash keep).down = false := rfl
    have HCS := Lib.hid hCS
    clear hCS
    generalize M.crash keep = M2 at *
    refine HCS.out.mono ?_
    rintro e w9 ⟨rfl, hLw⟩
    have H9 := Lib.hid hLw
    clear hLw H8 HCS
    go_wp2_with fail
    refine (law_open_new H9.out (by decide) (by decide) (by rw [hnn]; decide) hcc hdd (by omega) (by rw [hnn]; exact hS2)).mono ?_
    rintro e w10 ⟨kb, rfl, hLw⟩
    have H10 := Lib.hid hLw
    clear hLw H9
    go_wp2_with fail
    refine (law_recovered H10.out (List.mem_cons_self ..)).mono ?_
    rintro e w11 ⟨rfl, rfl⟩
    go_wp2_with fail
    refine (law_gen H10.out (List.mem_cons_self ..) (by rw [hnn]; decide) (by omega) hcc hS2).mono ?_
    rintro e w11 ⟨rfl, hLw⟩
    have H11 := Lib.hid hLw
    clear hLw H10
    go_wp2_with fail
    refine (law_sectors H11.out hdd (by omega) hcc (by decide) (by decide)).mono ?_
    rintro e w12 ⟨v2, rfl, hLw⟩
    rw [hnn, hdur] at hLw
    have H12 := Lib.hid hLw
    clear hLw H11
    go_wp2_with fail
    refine (law_same (N := 80) H12.out (List.mem_cons_self ..) (List.mem_cons_of_mem _ (List.mem_cons_self ..)) (fun _ _ _ => rfl) (by decide) (by decide) (by decide)).mono ?_
    rintro e w13 ⟨rfl, hLw⟩
    have H13 := Lib.hid hLw
    clear hLw H12
    obtain ⟨ho1, ho2, ho3⟩ := why_zero h2
    have hpt := HL.out.below H13.out.all
    obtain ⟨A5, c5, hv5, hcells⟩ := H13.out.cells (N := 80) (f := mask 1 40 M.dur) (List.mem_cons_of_mem _ (List.mem_cons_self ..))
    subst hv5
    obtain ⟨B5, d5, hv6, hput⟩ := hpt
    obtain ⟨rfl, rfl⟩ : A1 = B5 ∧ c1 = d5 := by injection hv6 with e1 e2 e3; exact ⟨e1, e3⟩
    clear hv6
    have HP := Lib.hid hput
    have HCE := Lib.hid hcells
    have HO1 := Lib.hid ho1
    have HO2 := Lib.hid ho2
    have HDU := Lib.hid (fun i hi => law_durable H13.out i hi)
    clear hput hcells ho1 ho2
    go_wp2_with fail
    go_loopw [24] (fun i wr => ∃ k : Nat, k ≤ l'.length ∧ i = .int .i64 k ∧ w13 = wr) (fun i _ => l'.length - (intOf i).toNat)
    case atStart => exact ⟨0, Nat.zero_le _, rfl, rfl⟩
    case round =>
      obtain ⟨k, hk, rfl, rfl⟩ := hrel
      by_cases hlt : k < l'.length
      · obtain ⟨ad, rfl, q1, q2⟩ := HP.out k _ (castL_at l' k hlt)
        have hin := HO1.out l'[k] (List.getElem_mem _)
        have hout := HO2.out l'[k] (List.getElem_mem _)
        generalize l'[k] = p at q1 q2 hin hout
        obtain ⟨s, d⟩ := p
        simp only at q1 q2 hin hout
        obtain ⟨g5, rfl, q3⟩ := HCE.out s hin.1
        rw [mask_out _ hout] at q3
        have hdu := HDU.out s (by rw [hnn]; exact hin.1)
        rw [hdur] at hdu
        have HD1 := Lib.hid hdu
        clear hdu q2
        have hs80 : s < 80 := hin.1
        generalize M.dur s = t at *
        have hI : (k : Int) < (l'.length : Int) := by omega
        go_wp2_with fail
        refine HD1.out.mono ?_
        rintro e w14 ⟨rfl, rfl⟩
        go_wp2_with fail
        go_roundw
        case rel => exact ⟨k + 1, by omega, by simp, by trivial⟩
        case measure => simp [intOf]; omega
      · obtain rfl : k = l'.length := by omega
        go_wp2_with fail
        refine (jalive_any _).mono ?_
        rintro e w14 ⟨rfl, hb⟩
        go_wp2_with fail
        go_ret
        exact ⟨rfl, H13.out.all.trans (hb.mono H13.out.all.size)⟩
theorem walk_JournalSure (W : World) (v0 : Value) (a0 : PutI) (v1 : Value) (a1 : PutI) (a2 : ByteArray) (v3 : Value) (a3 : PutI) (w0 : Puts W v0 a0) (y0 : ∀ x ∈ a0, x.2.length ≤ 140737488351232) (z0 : a0.length ≤ maxLen)
    (w1 : Puts W v1 a1) (y1 : ∀ x ∈ a1, x.2.length ≤ 140737488351232) (z1 : a1.length ≤ maxLen) (z2 : a2.size ≤ 140737488351232) (w3 : Puts W v3 a3) (y3 : ∀ x ∈ a3, x.2.length ≤ 140737488351232) (z3 : a3.length ≤ maxLen) :
    Calls Tryz.prog 6 #[v0, v1, .string a2, v3] W fun e w' => e = .returned (.bool true) ∧ Below W.heap.size W w' := by
  rw [str_of a2]
  exact walk_JournalSure' v0 v1 a0 a1 a2.data.toList v3 a3 W w0 w1 w3 y0 y1 y3 z0 z1 z3 (by simpa using z2)
end Go.Proofs.YtgkdabjflagnlaaGreat
/- Layer 4 (journal): a device that stands still as often as one likes. -/
namespace Go.Proofs.YtgkdabjflagnlaaGreat
open Go.RowKit Go.Maps
set_option linter.unusedVariables false
set_option linter.unusedSimpArgs false
set_option maxRecDepth 10000
section
variable {F n : Nat} {w W : World} {b : Nat} {M : Dv} {js : List (Nat × Nat)} {vs : Rows3}
/-- A journal, opened whatever becomes of it. -/
theorem law_open_any {g : Nat} {f : Nat → List UInt8} {L : PutL} (h : Law F n w W b M js vs) (hT : Tr M.n F n L) (hcap : L.length ≤ capL n) (hwhy : whyL M.n F n (castL L) = 0) (h4 : 4 ≤ n) (h256 : n ≤ 256) (hc : M.calm) (hw : M.wr + 8192 ≤ 1099511627776)
    (hA : Aft M.n F n g f L M.dur) (hg : g < 18446744073709551615) :
    Calls Tryz.prog 14 #[devp b, .int .i64 (F : Int), .int .i64 (n : Int)] W fun e w' =>
      ∃ M2 p x, e = .returned (.tuple #[p, x]) ∧ M2.n = M.n ∧ M2.wr ≤ M.wr + 4097 ∧ (∀ keep, Aft M.n F n g f L (M2.crash keep).dur) ∧ Law F n w w' b M2 js vs := by
  refine (law_open h hT hcap hwhy h4 h256 hc hw hA hg).mono ?_
  rintro e w' ⟨M2, h1, h2, h3, ⟨-, -, rfl, hL⟩ | ⟨-, -, -, jb, rec, g2, f2, rfl, hL, -⟩⟩
  · exact ⟨M2, _, _, rfl, h1, h2, h3, hL⟩
  · exact ⟨M2, _, _, rfl, h1, h2, h3, hL.less (fun x hx => List.mem_cons_of_mem _ hx) (fun x hx => hx)⟩
end
set_option maxRecDepth 100000 in
set_option maxHeartbeats 4000000 in
theorem walk_JournalAgain' (va vl : Value) (a l : PutI) (fuse : Nat) (vk : Value) (ks : List (List UInt8)) (vf : Value) (fs : List Nat) (vm : Value) (m : PutI) (w : World) (ha : Puts w va a) (hl : Puts w vl l) (hk : Strings w vk ks) (hf : U8s w vf fs) (hmo : Puts w vm m)
    (hsa : ∀ p ∈ a, p.2.length ≤ 140737488351232) (hsl : ∀ p ∈ l, p.2.length ≤ 140737488351232) (hsk : ∀ x ∈ ks, x.length ≤ 140737488351232) (hsf : ∀ x ∈ fs, x < 256) (hsm : ∀ p ∈ m, p.2.length ≤ 140737488351232) (hna : a.length ≤ maxLen) (hnl : l.length ≤ maxLen) (hnk : ks.length ≤ maxLen) (hnf : fs.length ≤ maxLen) (hnm : m.length ≤ maxLen) (hfuse : fuse < 256) :
    Calls Tryz.prog 5 #[va, vl, .int .u8 (fuse : Int), vk, vf, vm] w fun e w' => e = .returned (.bool true) ∧ Below w.heap.size w w' := by
  have HM := Lib.hid (may_any va vl a l w ha hl hsa hsl hna hnl)
  have HN := Lib.hid (may_any vm (.slice none 0 0) m [] w hmo ⟨none, 0, rfl, fun j p hj => by simp at hj⟩ hsm (fun p hp => by cases hp) hnm (by simp))
  have HA := Lib.hid ha
  have HL := Lib.hid hl
  have HMO := Lib.hid hmo
  obtain ⟨A0, c0, rfl, -⟩ := ha
  obtain ⟨A1, c1, rfl, -⟩ := hl
  obtain ⟨A2, c2, rfl, -⟩ := hmo
  obtain ⟨A3, c3, rfl, hkc⟩ := hk
  obtain ⟨A4, c4, rfl, hfc⟩ := hf
  have HK := Lib.hid hkc
  have HF := Lib.hid hfc
  have HSK := Lib.hid hsk
  have HSF := Lib.hid hsf
  clear hkc hfc hsk hsf
  unfold maxLen at hnk hnf
  cases hm : (!jlong a && !jlong l && decide (whyL 80 1 40 a = 0) && decide (whyL 80 1 40 l = 0))
  · rw [hm] at HM
    go_enter Tryz.func5, Tryz.ntmps5
    go_wp2_with fail
    refine HM.out.mono ?_
    rintro e w1 ⟨rfl, rfl⟩
    go_wp2_with fail
    refine (jalive_any _).mono ?_
    rintro e w1 ⟨rfl, hb⟩
    go_wp2_with fail
    go_ret
    exact ⟨rfl, hb⟩
  rw [hm] at HM
  simp at hm
  obtain ⟨⟨-, h1⟩, h2⟩ := hm
  cases hm : (!jlong m && !jlong [] && decide (whyL 80 1 40 m = 0) && decide (whyL 80 1 40 [] = 0))
  · rw [hm] at HN
    go_enter Tryz.func5, Tryz.ntmps5
    go_wp2_with fail
    refine HM.out.mono ?_
    rintro e w1 ⟨rfl, rfl⟩
    go_wp2_with fail
    refine HN.out.mono ?_
    rintro e w1 ⟨rfl, rfl⟩
    go_wp2_with fail
    refine (jalive_any _).mono ?_
    rintro e w1 ⟨rfl, hb⟩
    go_wp2_with fail
    go_ret
    exact ⟨rfl, hb⟩
  rw [hm] at HN
  simp at hm
  obtain ⟨⟨-, h3⟩, -⟩ := hm
  by_cases hk10 : 10 < ks.length
  · have hki : decide ((10 : Int) < (ks.length : Int)) = true := decide_eq_true (by omega)
    go_enter Tryz.func5, Tryz.ntmps5
    go_wp2_with fail
    refine HM.out.mono ?_
    rintro e w1 ⟨rfl, rfl⟩
    go_wp2_with fail
    refine HN.out.mono ?_
    rintro e w1 ⟨rfl, rfl⟩
    go_wp2_with fail
    refine (jalive_any _).mono ?_
    rintro e w1 ⟨rfl, hb⟩
    go_wp2_with fail
    go_ret
    exact ⟨rfl, hb⟩
  have hki : decide ((10 : Int) < (ks.length : Int)) = false := decide_eq_false (by omega)
  by_cases hf10 : 10 < fs.length
  · have hfi : decide ((10 : Int) < (fs.length : Int)) = true := decide_eq_true (by omega)
    go_enter Tryz.func5, Tryz.ntmps5
    go_wp2_with fail
    refine HM.out.mono ?_
    rintro e w1 ⟨rfl, rfl⟩
    go_wp2_with fail
    refine HN.out.mono ?_
    rintro e w1 ⟨rfl, rfl⟩
    go_wp2_with fail
    refine (jalive_any _).mono ?_
    rintro e w1 ⟨rfl, hb⟩
    go_wp2_with fail
    go_ret
    exact ⟨rfl, hb⟩
  have hfi : decide ((10 : Int) < (fs.length : Int)) = false := decide_eq_false (by omega)
  have ea := cast_toL h1
  have el := cast_toL h2
  have em := cast_toL h3
  obtain ⟨a', ha'⟩ : ∃ a', a' = toL a := ⟨_, rfl⟩
  obtain ⟨l', hl'⟩ : ∃ l', l' = toL l := ⟨_, rfl⟩
  obtain ⟨m', hm'⟩ : ∃ m', m' = toL m := ⟨_, rfl⟩
  rw [← ha'] at ea
  rw [← hl'] at el
  rw [← hm'] at em
  clear ha' hl' hm'
  subst ea el em
  rw [castL_length] at *
  rw [castL_length] at *
  rw [castL_length] at *
  have hll := puts_len h2
  have hlm := puts_len h3
  have HW := Lib.hid (refWrites_any l'.length w (by omega))
  obtain ⟨q, hq⟩ : ∃ q, q = 2 * l'.length + (l'.length + 31) / 32 + 2 := ⟨_, rfl⟩
  rw [← hq] at HW
  have hq2 : 2 ≤ q := by omega
  have hq3 : q ≤ 200 := by omega
  have hrem : (fuse : Int).tmod ((q : Int) + 2) = ((fuse % (q + 2) : Nat) : Int) := by
    rw [show (q : Int) + 2 = ((q + 2 : Nat) : Int) by omega]
    exact (Int.ofNat_tmod fuse (q + 2)).symm
  have hkk : fuse % (q + 2) ≤ 1000 := by have := Nat.mod_lt fuse (show 0 < q + 2 by omega); omega
  have HT := Lib.hid fun keep (hkeep : keep.length ≤ 140737488351232) => torn_any _ _ a' l' (fuse % (q + 2)) keep w HA.out HL.out h1 h2 hkk hkeep
  generalize fuse % (q + 2) = k at *
  clear hq
  have hT : Tr 80 1 40 (lastL l') := tr_last h2 (by decide) (by decide) (by decide)
  obtain ⟨-, -, hcap⟩ := why_zero h2
  have hll2 := lastL_length l'
  have hwl : whyL 80 1 40 (castL (lastL l')) = 0 := why_last h2
  have hkst : ∃ keep : List UInt8, keep.length ≤ 140737488351232 ∧ (ks.length = 0 ∧ keep = [] ∨ 0 < ks.length ∧ ∃ ad, A3 = some ad ∧ w.cell? ad = some (str keep)) := by
    by_cases h0 : 0 < ks.length
    · obtain ⟨ad, e1, e2⟩ := HK.out 0 ks[0] (List.getElem?_eq_getElem h0)
      refine ⟨ks[0], HSK.out _ (List.getElem_mem _), .inr ⟨h0, ad, e1, ?_⟩⟩
      have : ad.add 0 = ad := by unfold Addr.add; simp
      rwa [this] at e2
    · exact ⟨[], by simp, .inl ⟨by omega, rfl⟩⟩
  obtain ⟨keep, hkeep, hor0⟩ := hkst
  go_enter Tryz.func5, Tryz.ntmps5
  go_wp2_with fail
  refine HM.out.mono ?_
  rintro e w1 ⟨rfl, rfl⟩
  go_wp2_with fail
  refine HN.out.mono ?_
  rintro e w1 ⟨rfl, rfl⟩
  clear HM HN
  rcases hor0 with ⟨h0, rfl⟩ | ⟨h0, ad, rfl, hcell⟩
  have h0i : decide ((0 : Int) < (ks.length : Int)) = false := decide_eq_false (by omega)
  go_wp2_with fail
  rotate_left
  have h0i : decide ((0 : Int) < (ks.length : Int)) = true := decide_eq_true (by omega)
  go_wp2_with fail
  all_goals
    refine HW.out.mono ?_
    rintro e w1 ⟨rfl, rfl⟩
    go_wp2_with fail
    refine (HT.out _ hkeep).mono ?_
    rintro e w2 ⟨b, v1, v2, M, f, rfl, hLw, hn, hc, hd, hlf, hw, hA⟩
    have H2 := Lib.hid hLw
    clear hLw HT HW
    have HTT := Lib.hid hT
    clear hT
    go_wp2_with fail
    go_loopw [18] (fun i wr => ∃ (j : Nat) (M : Dv), j ≤ fs.length ∧ i = .int .i64 j ∧ Law 1 40 w wr b M [] [(v2, secs 80 (laid (mask 1 40 f) l')), (v1, secs 80 (mask 1 40 f))] ∧ M.n = 80 ∧ M.calm ∧ M.down = false ∧ M.left = 0 ∧ M.wr ≤ 1024 + 5000 * j ∧ Aft 80 1 40 1 f (lastL l') M.dur) (fun i _ => fs.length - (intOf i).toNat)
    case atStart => exact ⟨0, M, Nat.zero_le _, rfl, H2.out, hn, hc, hd, hlf, by omega, hA⟩
    case round =>
      obtain ⟨j, M, hj, rfl, hLw, hn, hc, hd, hlf, hw, hA⟩ := hrel
      have H3 := Lib.hid hLw
      clear hLw H2
      by_cases hlt : j < fs.length
      · obtain ⟨af, rfl, hfc⟩ := HF.out j _ (List.getElem?_eq_getElem hlt)
        have hfb := HSF.out _ (List.getElem_mem hlt)
        generalize fs[j] = y at hfc hfb
        have hfc2 := (H3.out.all.cell (World.block_lt_of_cell? w _ hfc)).trans hfc
        clear hfc
        have hrem2 : (y : Int).tmod 45 = ((y % 45 : Nat) : Int) := (Int.ofNat_tmod y 45).symm
        have hjI : (j : Int) < (fs.length : Int) := by omega
        go_wp2_with fail
        refine (law_fuse H3.out (y % 45) (by omega)).mono ?_
        rintro e w3 ⟨rfl, hLw⟩
        have H4 := Lib.hid hLw
        clear hLw
        have hnF : (M.fuse (y % 45)).n = 80 := hn
        have hwF : (M.fuse (y % 45)).wr ≤ 1024 + 5000 * j := hw
        go_wp2_with fail
        refine (law_open_any (g := 1) (f := f) (L := lastL l') H4.out (by rw [hnF]; exact HTT.out) (by omega) (by rw [hnF]; exact hwl) (by decide) (by decide) (fuse_calm hc _) (by omega) (by rw [hnF]; exact hA) (by decide)).mono ?_
        rintro e w4 ⟨M2, p0, x0, rfl, hn2, hw2, hA2, hLw⟩
        have H5 := Lib.hid hLw
        clear hLw H4
        rw [hnF] at hn2 hA2
        by_cases h5 : j + 1 < ks.length
        · first
          | (exfalso; omega)
          | (obtain ⟨ak, e1, hcell2⟩ := HK.out (j + 1) ks[j + 1] (List.getElem?_eq_getElem h5)
             obtain rfl : ad = ak := Option.some.inj e1
             have hagain := HSK.out ks[j + 1] (List.getElem_mem _)
             clear e1
             generalize ks[j + 1] = again at hcell2 hagain
             have h5i : decide ((j : Int) + 1 < (ks.length : Int)) = true := decide_eq_true (by omega)
             have h5l : (j : Int) + 1 < (ks.length : Int) := by omega
             have hcell3 := (H5.out.all.cell (World.block_lt_of_cell? w _ hcell2)).trans hcell2
             clear hcell2
             rw [show ad.add (j + 1) = ⟨ad.block, ad.off + (j + 1), none⟩ by unfold Addr.add; rw [if_neg (by omega)]] at hcell3
             go_wp2_with fail
             refine (law_crash H5.out (by omega) again hagain).mono ?_
             rintro e w5 ⟨rfl, hLw⟩
             have H6 := Lib.hid hLw
             clear hLw H5
             go_wp2_with fail
             go_roundw
             case rel => exact ⟨j + 1, _, by omega, by simp, H6.out, hn2, crash_calm _ _, rfl, rfl, by show M2.wr ≤ _; omega, hA2 _⟩
             case measure => simp [intOf]; omega)
        · have h5i : decide ((j : Int) + 1 < (ks.length : Int)) = false := decide_eq_false (by omega)
          go_wp2_with fail
          refine (law_crash H5.out (by omega) [] (by simp)).mono ?_
          rintro e w5 ⟨rfl, hLw⟩
          have H6 := Lib.hid hLw
          clear hLw H5
          go_wp2_with fail
          go_roundw
          case rel => exact ⟨j + 1, _, by omega, by simp, H6.out, hn2, crash_calm _ _, rfl, rfl, by show M2.wr ≤ _; omega, hA2 _⟩
          case measure => simp [intOf]; omega
      · obtain rfl : j = fs.length := by omega
        go_wp2_with fail
        refine (law_open (g := 1) (f := f) (L := lastL l') H3.out (by rw [hn]; exact HTT.out) (by omega) (by rw [hn]; exact hwl) (by decide) (by decide) hc (by omega) (by rw [hn]; exact hA) (by decide)).mono ?_
        rintro e w3 ⟨M2, hn2, hw2, -, ⟨-, hx, -⟩ | ⟨hd2, hc2, hl2, jb, rec, g2, f2, rfl, hL2, hS, hor, -⟩⟩
        · exact absurd hlf (hx hd)
        rw [hn] at hS hn2
        have hl2' := hl2 hlf
        have H4 := Lib.hid hL2
        clear hL2 H3 hl2
        go_wp2_with fail
        refine (law_sectors H4.out hd2 (by omega) hc2 (by decide) (by decide)).mono ?_
        rintro e w4 ⟨v3, rfl, hL4⟩
        rw [hn2] at hL4
        have H5 := Lib.hid hL4
        clear hL4 H4
        go_wp2_with fail
        refine (law_gen H5.out (List.mem_cons_self ..) (by rw [hn2]; decide) (by omega) hc2 hS).mono ?_
        rintro e w5 ⟨rfl, hL5⟩
        have H6 := Lib.hid hL5
        clear hL5 H5
        have hS3 := sta_self hS
        rcases hor with ⟨rfl, rfl⟩ | ⟨rfl, rfl⟩
        go_wp2_with fail
        refine (law_same (N := 80) H6.out (List.mem_cons_self ..) (List.mem_cons_of_mem _ (List.mem_cons_of_mem _ (List.mem_cons_self ..))) (same_was hS.out) (by decide) (by decide) (by decide)).mono ?_
        rintro e w6 ⟨rfl, hL6⟩
        have H7 := Lib.hid hL6
        clear hL6 H6
        go_wp2_with fail
        rotate_left
        go_wp2_with fail
        refine (law_same (N := 80) H6.out (List.mem_cons_self ..) (List.mem_cons_of_mem _ (List.mem_cons_self ..)) (same_then (l := l') (fun i hi => by rw [← laid_lastL]; exact hS.out i hi)) (by decide) (by decide) (by decide)).mono ?_
        rintro e w6 ⟨rfl, hL6⟩
        have H7 := Lib.hid hL6
        clear hL6 H6
        go_wp2_with fail
        all_goals
          refine (law_open_new H7.out (by decide) (by decide) (by rw [hn2]; decide) hc2 hd2 (by omega) (by rw [hn2]; exact hS3)).mono ?_
          rintro e w7 ⟨kb, rfl, hLw⟩
          have H8 := Lib.hid hLw
          clear hLw H7
          go_wp2_with fail
          refine (law_gen H8.out (List.mem_cons_self ..) (by rw [hn2]; decide) (by omega) hc2 hS3).mono ?_
          rintro e w8 ⟨rfl, hLw⟩
          have H9 := Lib.hid hLw
          clear hLw H8
          go_wp2_with fail
          refine (law_recovered H9.out (List.mem_cons_self ..)).mono ?_
          rintro e w9 ⟨rfl, rfl⟩
          go_wp2_with fail
          refine (law_sectors H9.out hd2 (by omega) hc2 (by decide) (by decide)).mono ?_
          rintro e w9 ⟨v4, rfl, hLw⟩
          rw [hn2] at hLw
          have H10 := Lib.hid hLw
          clear hLw H9
          go_wp2_with fail
          refine (law_same (N := 80) H10.out (List.mem_cons_self ..) (List.mem_cons_of_mem _ (List.mem_cons_self ..)) (fun _ _ _ => rfl) (by decide) (by decide) (by decide)).mono ?_
          rintro e w10 ⟨rfl, hLw⟩
          have H11 := Lib.hid hLw
          clear hLw H10
          go_wp2_with fail
          refine (law_commit_free (l := m') H11.out (List.mem_cons_self ..) (HMO.out.below H11.out.all) (by decide) (by decide) (by rw [hn2]; decide) (by omega) (by rw [hn2]; exact h3) hc2 (by rw [hn2]; exact hS3) (by decide) hd2 hl2').mono ?_
          rintro e w11 ⟨rfl, M4, hLw, hn4, hd4, hlf4, hc4, hw4, hS4⟩
          have H12 := Lib.hid hLw
          clear hLw H11
          rw [hn2] at hn4 hS4
          go_wp2_with fail
          refine (law_sectors H12.out hd4 (by omega) hc4 (by decide) (by decide)).mono ?_
          rintro e w12 ⟨v5, rfl, hLw⟩
          rw [hn4] at hLw
          have H13 := Lib.hid hLw
          clear hLw H12
          obtain ⟨hm1, -, -⟩ := why_zero h3
          go_wp2_with fail
          refine (law_laid (l := m') (N := 80) (f := mask 1 40 M2.dur) H13.out (List.mem_cons_of_mem _ (List.mem_cons_of_mem _ (List.mem_cons_self ..))) (HMO.out.below H13.out.all) (fun p hp => (hm1 p hp).1) (by omega) (by decide) (by decide)).mono ?_
          rintro e w13 ⟨v6, rfl, hLw⟩
          have H14 := Lib.hid hLw
          clear hLw H13
          go_wp2_with fail
          refine (law_same (N := 80) H14.out (List.mem_cons_of_mem _ (List.mem_cons_self ..)) (List.mem_cons_self ..) (same_then (l := m') hS4.out) (by decide) (by decide) (by decide)).mono ?_
          rintro e w14 ⟨rfl, hLw⟩
          have H15 := Lib.hid hLw
          clear hLw H14
          go_wp2_with fail
          refine (jalive_any _).mono ?_
          rintro e w15 ⟨rfl, hb⟩
          go_wp2_with fail
          go_ret
          exact ⟨rfl, H15.out.all.trans (hb.mono H15.out.all.size)⟩
theorem walk_JournalAgain (W : World) (v0 : Value) (a0 : PutI) (v1 : Value) (a1 : PutI) (a2 : Int) (v3 : Value) (a3 : List (List UInt8)) (v4 : Value) (a4 : List Nat) (v5 : Value) (a5 : PutI)
    (w0 : Puts W v0 a0) (y0 : ∀ x ∈ a0, x.2.length ≤ 140737488351232) (z0 : a0.length ≤ maxLen) (w1 : Puts W v1 a1) (y1 : ∀ x ∈ a1, x.2.length ≤ 140737488351232) (z1 : a1.length ≤ maxLen) (w2 : (Lit.int .u8 a2).wf = true)
    (w3 : Strings W v3 a3) (y3 : ∀ x ∈ a3, x.length ≤ 140737488351232) (z3 : a3.length ≤ maxLen) (w4 : U8s W v4 a4) (y4 : ∀ x ∈ a4, x < 256) (z4 : a4.length ≤ maxLen) (w5 : Puts W v5 a5) (y5 : ∀ x ∈ a5, x.2.length ≤ 140737488351232) (z5 : a5.length ≤ maxLen) :
    Calls Tryz.prog 5 #[v0, v1, .int .u8 a2, v3, v4, v5] W fun e w' => e = .returned (.bool true) ∧ Below W.heap.size W w' := by
  obtain ⟨n, rfl, hn⟩ := byte_arg w2
  exact walk_JournalAgain' v0 v1 a0 a1 n v3 a3 v4 a4 v5 a5 W w0 w1 w3 w4 w5 y0 y1 y3 y4 y5 z0 z1 z3 z4 z5 hn
end Go.Proofs.YtgkdabjflagnlaaGreat
/- Layer 4 (journal): a script's steps. -/
namespace Go.Proofs.YtgkdabjflagnlaaGreat
open Go.RowKit Go.Maps
set_option linter.unusedVariables false
set_option linter.unusedSimpArgs false
set_option maxRecDepth 10000
theorem max_nil (W : World) : Calls Tryz.prog 10 #[.pointer none] W fun e w' => e = .returned (.int .i64 0) ∧ W = w' := by
  go_enter Tryz.func10, Tryz.ntmps10
  go_wp2_with fail
  go_ret
  exact ⟨rfl, rfl⟩
theorem gen_nil (W : World) : Calls Tryz.prog 11 #[.pointer none] W fun e w' => e = .returned (.int .u64 0) ∧ W = w' := by
  go_enter Tryz.func11, Tryz.ntmps11
  go_wp2_with fail
  go_ret
  exact ⟨rfl, rfl⟩
theorem recovered_nil (W : World) : Calls Tryz.prog 12 #[.pointer none] W fun e w' => e = .returned (.int .i64 0) ∧ W = w' := by
  go_enter Tryz.func12, Tryz.ntmps12
  go_wp2_with fail
  go_ret
  exact ⟨rfl, rfl⟩
/-- append(nil, l...). -/
theorem put_clone (W : World) (v : Value) (l : PutI) (h : Puts W v l) (hp : Placed v l.length) (hl : l.length ≤ 1048576) :
    ∃ v' W', (putAppend #[.slice none 0 0, v]).run Tryz.prog W = .ok v' W' ∧ Puts W' v' l ∧ Below W.heap.size W W' := by
  obtain ⟨i, hi, hz, hsz, hby⟩ := info_parts putInfo
  have h0 : W.ownsRow W.heap.size 60 2 (.slice none 0 0) 0 [] := ⟨rfl, .inl ⟨rfl, rfl⟩⟩
  rcases hp with rfl | ⟨a, c, rfl⟩
  · refine ⟨_, W, run_append_owned_none W W.heap.size 41 41 60 i 2 Tryz.underlying41 hi _ _ _ h0, h, Below.refl _ _⟩
  · obtain ⟨A, c2, e, hc⟩ := h
    obtain ⟨rfl, rfl⟩ : A = some a ∧ c2 = c := by injection e with e1 e2 e3; exact ⟨e1.symm, e3.symm⟩
    obtain ⟨v', W', hap, hown, hg, _, hor⟩ := run_append_own_at (P := Tryz.prog) (w := W) W.heap.size 41 41 60 i (.agg #[.int .i64 0, str []]) 2 24 Tryz.underlying41 hi hz hsz hby rfl (by decide) (.slice none 0 0) 0 [] h0
      a l.length c2 (putC l) (putC_length l) (fun j u hu => by
        have hj : j < (putC l).length := (List.getElem?_eq_some_iff.1 hu).1
        rw [putC_length] at hj
        obtain ⟨q, r, rfl, hr⟩ : ∃ q r, j = q * 2 + r ∧ r < 2 := ⟨j / 2, j % 2, by omega, by omega⟩
        have hk : q < l.length := by omega
        obtain ⟨a', e1, q0, q1⟩ := hc q _ (List.getElem?_eq_getElem hk)
        obtain rfl : a = a' := Option.some.inj e1
        obtain ⟨p0, p1⟩ := putC_at l q hk
        match r, hr with
        | 0, _ =>
          rw [Nat.add_zero] at hu ⊢
          rw [p0] at hu
          rw [q0, ← hu]
        | 1, _ =>
          rw [p1] at hu
          rw [behind_add _ _ _ (by decide), q1, ← hu]) (fun u hu => by
        unfold putC at hu
        obtain ⟨p, _, hp⟩ := List.mem_flatMap.1 hu
        simp at hp
        rcases hp with rfl | rfl <;> rfl) (by unfold maxLen; omega) (by omega) (Nat.le_refl _)
    rw [Nat.zero_add, List.nil_append] at hown
    exact ⟨v', W', hap, OwnP.puts (base := W.heap.size) hown, (Below.refl _ W).grown hg (Nat.le_refl _) (fun k hk => by cases hk)⟩
set_option maxHeartbeats 1000000 in
theorem many_any (v : Value) (l : List JSt) (w : World) (h : JSteps w v l) (hs : ∀ x ∈ l, x.fine) (hn : l.length ≤ maxLen) :
    Calls Tryz.prog 7 #[v] w fun e w' => (∃ r, e = .returned (.bool r) ∧ (r = false → l.length ≤ 40 ∧ ∀ x ∈ l, jlong x.l = false ∧ x.keep.length ≤ 300)) ∧ w = w' := by
  unfold maxLen at hn
  obtain ⟨A, c, rfl, hc⟩ := h
  have HC := Lib.hid hc
  have HS := Lib.hid hs
  clear hc hs
  go_enter Tryz.func7, Tryz.ntmps7
  go_wp2_with fail
  go_loopw [3, 4] (fun s i wr => ∃ k m : Nat, k ≤ l.length ∧ k ≤ 100 ∧ m ≤ 60 * k ∧ s = .int .i64 m ∧ i = .int .i64 k ∧ (∀ x ∈ l.take k, jlong x.l = false ∧ x.keep.length ≤ 300) ∧ w = wr) (fun _ i _ => l.length - (intOf i).toNat)
  case atStart => exact ⟨0, 0, Nat.zero_le _, by omega, by omega, rfl, rfl, fun x hx => by simp at hx, rfl⟩
  case round =>
    obtain ⟨k, m, hk, hk3, hm, rfl, rfl, hall, rfl⟩ := hrel
    have HA := Lib.hid hall
    clear hall
    by_cases hlt : k < l.length ∧ k < 100
    · obtain ⟨a, rfl, hx⟩ := HC.out k _ (List.getElem?_eq_getElem hlt.1)
      have hfine := HS.out l[k] (List.getElem_mem _)
      have hts : l.take (k + 1) = l.take k ++ [l[k]] := List.take_succ_eq_append_getElem hlt.1
      have HT := Lib.hid hts
      clear hts
      generalize l[k] = x at hx hfine HT
      obtain ⟨crash, keep, v, lx⟩ := x
      obtain ⟨q0, q1, q2, q3, q4⟩ := hx
      simp only at q0 q1 q2 q3 q4
      have hlong := jlong_any v lx w q3 hfine.each hfine.len
      have hkp := hfine.keep
      have hfl := hfine.len
      simp only at hkp hfl
      unfold maxLen at hfl
      obtain ⟨B, d, rfl, -⟩ := q3
      have HLG := Lib.hid hlong
      clear hlong q0 q4 hfine
      unfold behind at q1 q2
      have hI : (k : Int) < (l.length : Int) := by omega
      cases hj : jlong lx
      · rw [hj] at HLG
        have hx60 : lx.length ≤ 60 := by
          unfold jlong at hj
          simp at hj
          omega
        by_cases hkk : 300 < keep.length
        · have hki : decide ((300 : Int) < (keep.length : Int)) = true := decide_eq_true (by omega)
          go_wp2_with fail
          refine HLG.out.mono ?_
          rintro e w1 ⟨rfl, rfl⟩
          go_wp2_with fail
          go_ret
          exact ⟨⟨_, rfl, fun h => by cases h⟩, rfl⟩
        · have hki : decide ((300 : Int) < (keep.length : Int)) = false := decide_eq_false (by omega)
          have hall2 : ∀ x ∈ l.take (k + 1), jlong x.l = false ∧ x.keep.length ≤ 300 := fun x hx => by
            rw [HT.out] at hx
            rcases List.mem_append.1 hx with hx | hx
            · exact HA.out x hx
            · obtain rfl := List.mem_singleton.1 hx
              exact ⟨hj, by show keep.length ≤ 300; omega⟩
          have HA2 := Lib.hid hall2
          clear hall2 hj
          go_wp2_with fail
          refine HLG.out.mono ?_
          rintro e w1 ⟨rfl, rfl⟩
          go_wp2_with fail
          go_roundw
          case rel => exact ⟨k + 1, m + lx.length, by omega, by omega, by omega, by simp, by simp, HA2.out, by trivial⟩
          case measure => simp [intOf]; omega
      · rw [hj] at HLG
        go_wp2_with fail
        refine HLG.out.mono ?_
        rintro e w1 ⟨rfl, rfl⟩
        go_wp2_with fail
        go_ret
        exact ⟨⟨_, rfl, fun h => by cases h⟩, rfl⟩
    · by_cases h40 : 40 < l.length
      · have h40i : decide ((40 : Int) < (l.length : Int)) = true := decide_eq_true (by omega)
        by_cases hkl : k = l.length
        · subst hkl
          go_wp2_with fail
          go_ret
          exact ⟨⟨_, rfl, fun h => by cases h⟩, rfl⟩
        · obtain rfl : k = 100 := by omega
          have hI : (100 : Int) < (l.length : Int) := by omega
          go_wp2_with fail
          go_ret
          exact ⟨⟨_, rfl, fun h => by cases h⟩, rfl⟩
      · obtain rfl : k = l.length := by omega
        have h40i : decide ((40 : Int) < (l.length : Int)) = false := decide_eq_false (by omega)
        have hall := HA.out
        rw [List.take_length] at hall
        have HB := Lib.hid hall
        clear hall
        go_wp2_with fail
        go_ret
        exact ⟨⟨_, rfl, fun _ => ⟨by omega, HB.out⟩⟩, rfl⟩
theorem wrote_wr_ge (M : Dv) (i : Int) (s : List UInt8) : M.wr ≤ (M.wrote i s).wr := by
  unfold Dv.wrote
  split
  · exact Nat.le_succ _
  · exact Nat.le_refl _
theorem puts_wr_ge (M : Dv) (l : PutL) : M.wr ≤ (M.puts l).wr := by
  induction l generalizing M with
  | nil => exact Nat.le_refl _
  | cons p r ih => rw [puts_cons]; exact Nat.le_trans (wrote_wr_ge M _ _) (ih _)
theorem runD_wr_ge (M : Dv) (ls : List PutL) : M.wr ≤ (M.runD ls).wr := by
  induction ls generalizing M with
  | nil => exact Nat.le_refl _
  | cons l r ih =>
    rw [runD_cons]
    refine Nat.le_trans ?_ (ih _)
    unfold Dv.step
    rw [fl_wr]
    exact puts_wr_ge M l
section
variable {F n : Nat} {w W : World} {b : Nat} {M : Dv} {js : List (Nat × Nat)} {vs : Rows3}
/-- The same, with the writes counted. -/
theorem law_commit_full {jb rec g : Nat} {v : Value} {l : PutL} {f : Nat → List UInt8} (h : Law F n w W b M js vs) (hj : (jb, rec) ∈ js) (hv : Puts W v (castL l)) (h4 : 4 ≤ n) (h256 : n ≤ 256) (hF : F + n ≤ M.n) (hw : M.wr + 16384 ≤ 1099511627776)
    (hwhy : whyL M.n F n (castL l) = 0) (hc : M.calm) (hA : StA M.n F n g f M.dur) (hg : g + 1 < 18446744073709551616) (hd : M.down = false) (hl : M.left = 0) :
    Calls Tryz.prog 9 #[devp jb, v] W fun e w' =>
      e = .returned (.tuple #[.int .u64 ((g : Int) + 1), .int .i64 0]) ∧ ∃ M2, Law F n w w' b M2 js vs ∧ M2.n = M.n ∧ M2.down = false ∧ M2.left = 0 ∧ M2.calm ∧ M.wr ≤ M2.wr ∧ M2.wr ≤ M.wr + (2 * l.length + (l.length + 31) / 32 + 2) ∧ StA M.n F n (g + 1) (laid f l) M2.dur := by
  have hT := tr_last hwhy h4 hF h.fine.n
  obtain ⟨h1, h2, h3, h5, h6⟩ := commit_all hT rfl hc (by omega) hA
  obtain ⟨h7, h8⟩ := h6 hd hl
  obtain ⟨h9, h10⟩ := h5 h7
  refine (law_commit h hj hv h4 h256 hF hw hwhy hc hA hg).mono ?_
  rintro e w' ⟨⟨r1, r2, rfl, hr⟩, hL⟩
  obtain ⟨rfl, rfl⟩ := hr h7
  rw [laid_lastL] at h10
  have := lastL_length l
  exact ⟨rfl, _, hL, h1, h7, h8, h9, runD_wr_ge _ _, by omega, h10⟩
end
end Go.Proofs.YtgkdabjflagnlaaGreat
/- Layer 4 (journal): whatever is committed, with crashes between. -/
namespace Go.Proofs.YtgkdabjflagnlaaGreat
open Go.RowKit Go.Maps
set_option linter.unusedVariables false
set_option linter.unusedSimpArgs false
set_option maxRecDepth 10000
theorem JSt.at_.below {w W : World} {a : Addr} {i : Nat} {x : JSt} (h : x.at_ w a i) (hb : Below w.heap.size w W) : x.at_ W a i :=
  ⟨(hb.cell (World.block_lt_of_cell? w _ h.c0)).trans h.c0, (hb.cell (World.block_lt_of_cell? w _ h.c1)).trans h.c1, (hb.cell (World.block_lt_of_cell? w _ h.c2)).trans h.c2, h.row.below hb, h.placed⟩
theorem int_range {n : Int} (h : (Lit.int .i64 n).wf = true) : -9223372036854775808 ≤ n ∧ n ≤ 9223372036854775807 := num_range h
set_option maxRecDepth 100000 in
set_option maxHeartbeats 4000000 in
/-- An area that may not be. -/
theorem plays_no (F n : Int) (v : Value) (l : List JSt) (w : World) (hv : JSteps w v l) (hs : ∀ x ∈ l, x.fine) (hl : l.length ≤ maxLen) (hF : -9223372036854775808 ≤ F ∧ F ≤ 9223372036854775807) (hn : -9223372036854775808 ≤ n ∧ n ≤ 9223372036854775807) (hmay : mayB 80 F n = false) :
    Calls Tryz.prog 3 #[.int .i64 F, .int .i64 n, v] w fun e w' => e = .returned (.bool true) ∧ Below w.heap.size w w' := by
  have HM := Lib.hid (many_any v l w hv hs hl)
  have hMY := fun W => refMay_any 80 F n W (by decide)
  have he : (decide (4 ≤ n) && decide (n ≤ 256) && decide (0 ≤ F) && decide (F ≤ ((80 : Nat) : Int) - n)) = false := hmay
  rw [he] at hMY
  have HMY := Lib.hid hMY
  obtain ⟨A, c, rfl, -⟩ := hv
  have HMB := Lib.hid hmay
  clear hMY he hmay
  go_enter Tryz.func3, Tryz.ntmps3
  go_wp2_with fail
  refine HM.out.mono ?_
  rintro e w1 ⟨⟨r, rfl, -⟩, rfl⟩
  cases r
  · go_wp2_with fail
    refine (commit_nil _).mono ?_
    rintro e w1 ⟨rfl, rfl⟩
    go_wp2_with fail
    refine (max_nil _).mono ?_
    rintro e w1 ⟨rfl, rfl⟩
    go_wp2_with fail
    refine (gen_nil _).mono ?_
    rintro e w1 ⟨rfl, rfl⟩
    go_wp2_with fail
    refine (recovered_nil _).mono ?_
    rintro e w1 ⟨rfl, rfl⟩
    go_wp2_with fail
    refine (law_new (F := 1) (n := 40) 80 (by decide) (by decide) w).mono ?_
    rintro e w1 ⟨b, rfl, hLw⟩
    have H1 := Lib.hid hLw
    clear hLw
    go_wp2_with fail
    refine (jopen_bad H1.out.held F n HMB.out).mono ?_
    rintro e w2 ⟨rfl, rfl⟩
    go_wp2_with fail
    refine (HMY.out _).mono ?_
    rintro e w2 ⟨rfl, rfl⟩
    go_wp2_with fail
    refine (jalive_any _).mono ?_
    rintro e w2 ⟨rfl, hb⟩
    go_wp2_with fail
    go_ret
    exact ⟨rfl, H1.out.all.trans (hb.mono H1.out.all.size)⟩
  · go_wp2_with fail
    refine (jalive_any _).mono ?_
    rintro e w1 ⟨rfl, hb⟩
    go_wp2_with fail
    go_ret
    exact ⟨rfl, hb⟩
set_option maxRecDepth 100000 in
set_option maxHeartbeats 8000000 in
theorem plays_yes (F n : Nat) (v : Value) (l : List JSt) (w : World) (hv : JSteps w v l) (hs : ∀ x ∈ l, x.fine) (hl : l.length ≤ maxLen) (h4 : 4 ≤ n) (h256 : n ≤ 256) (hFn : F + n ≤ 80) :
    Calls Tryz.prog 3 #[.int .i64 (F : Int), .int .i64 (n : Int), v] w fun e w' => e = .returned (.bool true) ∧ Below w.heap.size w w' := by
  have HM := Lib.hid (many_any v l w hv hs hl)
  have hMY := fun W => refMay_any 80 F n W (by decide)
  have he : (decide ((4 : Int) ≤ (n : Int)) && decide ((n : Int) ≤ 256) && decide ((0 : Int) ≤ (F : Int)) && decide ((F : Int) ≤ ((80 : Nat) : Int) - (n : Int))) = true := by
    rw [decide_eq_true (by omega), decide_eq_true (by omega), decide_eq_true (by omega), decide_eq_true (by omega)]; rfl
  rw [he] at hMY
  have HMY := Lib.hid hMY
  have HMX := Lib.hid fun W => refMax_any n W h4 h256
  obtain ⟨A, c, rfl, hc⟩ := hv
  have HC := Lib.hid hc
  have HS := Lib.hid hs
  unfold maxLen at hl
  clear hMY he hc hs
  go_enter Tryz.func3, Tryz.ntmps3
  go_wp2_with fail
  refine HM.out.mono ?_
  rintro e w1 ⟨⟨r, rfl, hr⟩, rfl⟩
  clear HM
  by_cases hrt : r = true
  · subst hrt
    go_wp2_with fail
    refine (jalive_any _).mono ?_
    rintro e w1 ⟨rfl, hb⟩
    go_wp2_with fail
    go_ret
    exact ⟨rfl, hb⟩
  rw [Bool.not_eq_true] at hrt
  subst hrt
  obtain ⟨hl40, hall⟩ := hr rfl
  have HALL := Lib.hid hall
  clear hr hall
  go_wp2_with fail
  refine (commit_nil _).mono ?_
  rintro e w1 ⟨rfl, rfl⟩
  go_wp2_with fail
  refine (max_nil _).mono ?_
  rintro e w1 ⟨rfl, rfl⟩
  go_wp2_with fail
  refine (gen_nil _).mono ?_
  rintro e w1 ⟨rfl, rfl⟩
  go_wp2_with fail
  refine (recovered_nil _).mono ?_
  rintro e w1 ⟨rfl, rfl⟩
  go_wp2_with fail
  refine (law_new (F := F) (n := n) 80 (by decide) (by decide) w).mono ?_
  rintro e w1 ⟨b, rfl, hLw⟩
  have H1 := Lib.hid hLw
  clear hLw
  have hz : (fun _ => List.replicate 64 (0 : UInt8)) = (dev0 80).dur := rfl
  have hS0 : StA 80 F n 0 (dev0 80).dur (dev0 80).dur := sta_self (sta_new (n := n) (F := F) 80)
  have hn0 : (dev0 80).n = 80 := rfl
  have hc0 : (dev0 80).calm := fun _ => rfl
  have hd0 : (dev0 80).down = false := rfl
  have hl0 : (dev0 80).left = 0 := rfl
  have hw0 : (dev0 80).wr = 0 := rfl
  generalize dev0 80 = M at *
  clear hz
  go_wp2_with fail
  refine (law_open_new H1.out h4 h256 (by rw [hn0]; exact hFn) hc0 hd0 (by omega) (by rw [hn0]; exact hS0)).mono ?_
  rintro e w2 ⟨jb, rfl, hLw⟩
  have H2 := Lib.hid hLw
  clear hLw H1
  go_wp2_with fail
  refine (HMY.out _).mono ?_
  rintro e w3 ⟨rfl, rfl⟩
  go_wp2_with fail
  refine (law_max H2.out (List.mem_cons_self ..) h4 h256).mono ?_
  rintro e w3 ⟨rfl, rfl⟩
  go_wp2_with fail
  refine (HMX.out _).mono ?_
  rintro e w3 ⟨rfl, rfl⟩
  go_wp2_with fail
  refine (law_gen H2.out (List.mem_cons_self ..) (by rw [hn0]; omega) (by omega) hc0 hS0).mono ?_
  rintro e w3 ⟨rfl, hLw⟩
  have H3 := Lib.hid hLw
  clear hLw H2
  go_wp2_with fail
  refine (law_recovered H3.out (List.mem_cons_self ..)).mono ?_
  rintro e w4 ⟨rfl, rfl⟩
  go_wp2_with fail
  refine (law_sectors H3.out hd0 (by omega) hc0 (by omega) (by omega)).mono ?_
  rintro e w4 ⟨v1, rfl, hLw⟩
  rw [hn0] at hLw
  have H4 := Lib.hid hLw
  clear hLw H3 HMY HMX
  go_wp2_with fail
  go_loopw [12, 13, 14, 15, 16] (fun t12 t13 t14 t15 t16 wr => ∃ (k jb rec g : Nat) (M : Dv) (u : Nat → List UInt8), k ≤ l.length ∧ t12 = devp jb ∧ t13 = .int .i64 0 ∧ t15 = .int .u64 (g : Int) ∧ t16 = .int .i64 (k : Int) ∧ Law F n w wr b M [(jb, rec)] [(t14, secs 80 u)] ∧ g ≤ k ∧ M.n = 80 ∧ M.calm ∧ M.down = false ∧ M.left = 0 ∧ M.wr ≤ 1024 * k ∧ StA 80 F n g M.dur M.dur ∧ (∀ i, Out 80 F n i → M.dur i = u i)) (fun _ _ _ _ i _ => l.length - (intOf i).toNat)
  case atStart => exact ⟨0, jb, 0, 0, M, _, Nat.zero_le _, rfl, rfl, rfl, rfl, H4.out, Nat.le_refl _, hn0, hc0, hd0, hl0, by omega, hS0, fun i hi => (mask_out _ hi.2).symm⟩
  case round =>
    obtain ⟨k, jb, rec, g, M, u, hk, rfl, rfl, rfl, rfl, hLw, hg, hn, hcm, hd, hlf, hw, hS, hu⟩ := hrel
    have H5 := Lib.hid hLw
    clear hLw H4
    by_cases hlt : k < l.length
    · obtain ⟨a, rfl, hx⟩ := HC.out k _ (List.getElem?_eq_getElem hlt)
      have hfine := HS.out l[k] (List.getElem_mem _)
      have hsm := HALL.out l[k] (List.getElem_mem _)
      generalize l[k] = x at hx hfine hsm
      obtain ⟨crash, keep, vx, lx⟩ := x
      have hpx := hx.row
      have hplc := hx.placed
      have hkf := hfine.keep
      have hef := hfine.each
      obtain ⟨hlx, hkp⟩ := hsm
      simp only at hpx hplc hkf hef hlx hkp
      have hx60 : lx.length ≤ 60 := by
        unfold jlong at hlx
        simp at hlx
        omega
      obtain ⟨B, d, rfl, -⟩ := id hpx
      have HX := Lib.hid hx
      have HEF := Lib.hid hef
      clear hx hfine hlx hpx hef
      have hI : (k : Int) < (l.length : Int) := by omega
      obtain ⟨q0, q1, q2, -, -⟩ := HX.out.below H5.out.all
      unfold behind at q1 q2
      simp only at q0 q1 q2
      cases crash
      obtain ⟨w7, e7⟩ : ∃ x, x = wr := ⟨_, rfl⟩
      obtain ⟨M1, e1⟩ : ∃ x, x = M := ⟨_, rfl⟩
      obtain ⟨jb2, e2⟩ : ∃ x, x = jb := ⟨_, rfl⟩
      obtain ⟨rec2, e3⟩ : ∃ x, x = rec := ⟨_, rfl⟩
      subst e7 e1 e2 e3
      have H7 := Lib.hid H5.out
      clear H5
      go_wp2_with fail
      clear q0 q1 q2
      rotate_left
      go_wp2_with fail
      refine (law_crash H5.out (by omega) keep hkf).mono ?_
      rintro e w5 ⟨rfl, hLw⟩
      have H6 := Lib.hid hLw
      clear hLw H5 q0 q1 q2
      have hdur := crash_dur M hcm keep
      have hn1 : (M.crash keep).n = 80 := hn
      have hc1 : (M.crash keep).calm := crash_calm M keep
      have hd1 : (M.crash keep).down = false := rfl
      have hlf1 : (M.crash keep).left = 0 := rfl
      have hw1 : (M.crash keep).wr ≤ 1024 * k := hw
      have hS1 : StA 80 F n g (M.crash keep).dur (M.crash keep).dur := by rw [hdur]; exact hS
      have hu1 : ∀ i, Out 80 F n i → (M.crash keep).dur i = u i := by rw [hdur]; exact hu
      clear hdur hn hcm hd hlf hw hS hu
      generalize M.crash keep = M1 at *
      have hn := hn1
      have hcm := hc1
      have hd := hd1
      have hlf := hlf1
      have hw := hw1
      have hS := hS1
      have hu := hu1
      clear hn1 hc1 hd1 hlf1 hw1 hS1 hu1
      go_wp2_with fail
      refine (law_open_new H6.out h4 h256 (by rw [hn]; exact hFn) hcm hd (by omega) (by rw [hn]; exact hS)).mono ?_
      rintro e w7 ⟨jb2, rfl, hLw⟩
      obtain ⟨rec2, hrec2⟩ : ∃ r : Nat, r = 0 := ⟨_, rfl⟩
      rw [← hrec2] at hLw
      have H7 := Lib.hid (hLw.less (js' := [(jb2, rec2)]) (fun x hx => by obtain rfl := List.mem_singleton.1 hx; exact List.mem_cons_self ..) (fun x hx => hx))
      clear hLw H6 hrec2
      go_wp2_with fail
      all_goals
        refine (law_writes H7.out).mono ?_
        rintro e w8 ⟨rfl, rfl⟩
        obtain ⟨q0, q1, q2, q3, q4⟩ := HX.out.below H7.out.all
        unfold behind at q2
        simp only at q2 q3 q4
        obtain ⟨vc, W9, hap, hpc, hbc⟩ := put_clone w7 _ lx q3 q4 (by omega)
        have H9 := Lib.hid (H7.out.below hbc)
        have HPC := Lib.hid hpc
        clear hpc q0 q1 q3 q4
        go_wp2_with fail
        clear hap q2
        by_cases hwhy : whyL 80 F n lx = 0
        · have hY := fun W (hb : Below w.heap.size w W) => refWhy_any 80 F n _ lx W (HX.out.below hb).row HEF.out (by unfold maxLen; omega) (by decide) (by omega) h4 h256
          simp only [hwhy] at hY
          have HY := Lib.hid hY
          clear hY
          have hRow := fun W (hb : Below w.heap.size w W) => (HX.out.below hb).row
          simp only at hRow
          have HR := Lib.hid hRow
          clear hRow
          have hcast := cast_toL hwhy
          obtain ⟨l', hl'⟩ : ∃ l', l' = toL lx := ⟨_, rfl⟩
          rw [← hl'] at hcast
          clear hl'
          have hlen : l'.length = lx.length := by rw [← castL_length, hcast]
          have hpl := HPC.out
          rw [← hcast] at hpl
          have HCA := Lib.hid hcast
          have HLEN := Lib.hid hlen
          have hll60 : l'.length ≤ 60 := by omega
          have HWY := Lib.hid hwhy
          clear hcast hlen hwhy
          have hg1 : IntKind.u64.wrap ((g : Int) + 1) = (g : Int) + 1 := u64_wrap _ (by omega) (by omega)
          refine (law_commit_full (l := l') (g := g) (f := M1.dur) H9.out (List.mem_cons_self ..) hpl h4 h256 (by rw [hn]; exact hFn) (by omega) (by rw [hn, HCA.out]; exact HWY.out) hcm (by rw [hn]; exact hS) (by omega) hd hlf).mono ?_
          rintro e w10 ⟨rfl, M2, hLw, hn2, hd2, hlf2, hc2, hwl2, hwu2, hS2⟩
          have H10 := Lib.hid hLw
          clear hLw H9 H7 HPC hpl
          rw [hn] at hn2 hS2
          obtain ⟨q0, q1, q2, -, -⟩ := HX.out.below H10.out.all
          unfold behind at q2
          simp only at q2
          clear q0 q1
          go_wp2_with fail
          refine (HY.out _ H10.out.all).mono ?_
          rintro e w11 ⟨rfl, rfl⟩
          go_wp2_with fail
          have hpt : Puts w10 (.slice B lx.length d) (castL l') := by rw [HCA.out]; exact HR.out _ H10.out.all
          obtain ⟨hm1, -, -⟩ := why_zero (show whyL 80 F n (castL l') = 0 by rw [HCA.out]; exact HWY.out)
          refine (law_laid (l := l') (N := 80) (f := u) H10.out (List.mem_cons_self ..) hpt (fun p hp => (hm1 p hp).1) (by omega) (by decide) (by decide)).mono ?_
          rintro e w11 ⟨v2, rfl, hLw⟩
          have H11 := Lib.hid hLw
          clear hLw H10 hpt q2
          obtain ⟨q0, q1, q2, -, -⟩ := HX.out.below H11.out.all
          unfold behind at q2
          simp only at q2
          clear q0 q1
          have hWR := fun W (hb : Below w11.heap.size w11 W) => law_writes (H11.out.below hb)
          have hRW := fun W => refWrites_any lx.length W (by omega)
          rw [HLEN.out] at hwu2
          obtain ⟨qq, hqq⟩ : ∃ qq, qq = 2 * lx.length + (lx.length + 31) / 32 + 2 := ⟨_, rfl⟩
          rw [← hqq] at hRW hwu2
          have hq200 : qq ≤ 200 := by omega
          clear hqq
          have HWR := Lib.hid hWR
          have HRW := Lib.hid hRW
          clear hWR hRW
          have hsub : IntKind.u64.wrap ((M2.wr : Int) - (M1.wr : Int)) = (M2.wr : Int) - (M1.wr : Int) := u64_wrap _ (by omega) (by omega)
          have hcv : IntKind.u64.wrap (qq : Int) = (qq : Int) := u64_wrap _ (by omega) (by omega)
          have hle : decide ((qq : Int) < (M2.wr : Int) - (M1.wr : Int)) = false := decide_eq_false (by omega)
          go_wp2_with fail
          go_quiet (first
            | (go_at_call 19; refine Calls.quiet_of_same ((HWR.out _ (by first | exact Below.refl _ _ | exact below_drewN (Below.refl _ _) _ | exact (Below.refl _ _).drew)).mono fun _ _ h => ⟨h.1, h.2.symm⟩))
            | (go_at_call 22; refine Calls.quiet_of_same ((HRW.out _).mono fun _ _ h => ⟨h.1, h.2.symm⟩)))
          have H12 := Lib.hid (H11.out.below (below_drewN (Below.refl _ _) nq))
          generalize w11.drewN nq = w12 at *
          clear HWR HRW H11 q2 hle hsub hcv
          have hS3 := sta_self hS2
          have hu2 : ∀ i, Out 80 F n i → M2.dur i = laid u l' i := fun i hi => by rw [hS2.out i hi]; exact laid_at _ _ _ _ (hu i hi)
          have hgc : ((g + 1 : Nat) : Int) = (g : Int) + 1 := by omega
          have hGN := law_gen (g := g + 1) (f := M2.dur) H12.out (List.mem_cons_self ..) (by rw [hn2]; omega) (by omega) hc2 hS3
          rw [hgc] at hGN
          have HGN := Lib.hid hGN
          clear hGN hgc
          go_wp2_with fail
          refine HGN.out.mono ?_
          rintro e w13 ⟨rfl, hLw⟩
          have H13 := Lib.hid hLw
          clear hLw H12 HGN
          go_wp2_with fail
          refine (law_sectors H13.out hd2 (by omega) hc2 (by omega) (by omega)).mono ?_
          rintro e w14 ⟨v3, rfl, hLw⟩
          rw [hn2] at hLw
          have H14 := Lib.hid hLw
          clear hLw H13
          go_wp2_with fail
          refine (law_same (N := 80) H14.out (List.mem_cons_self ..) (List.mem_cons_of_mem _ (List.mem_cons_self ..)) (fun i h1 h2 => by rw [mask_out _ h2]; exact hu2 i ⟨h1, h2⟩) (by decide) (by omega) (by omega)).mono ?_
          rintro e w15 ⟨rfl, hLw⟩
          have H15 := Lib.hid (hLw.less (vs' := [(v2, secs 80 (laid u l'))]) (fun x hx => hx) (fun x hx => by obtain rfl := List.mem_singleton.1 hx; exact List.mem_cons_of_mem _ (List.mem_cons_self ..)))
          clear hLw H14
          go_wp2_with fail
          go_roundw
          case rel => exact ⟨k + 1, jb2, rec2, g + 1, M2, laid u l', by omega, rfl, rfl, by simp, by simp, H15.out, by omega, hn2, hc2, hd2, hlf2, by omega, hS3, hu2⟩
          case measure => simp [intOf]; omega
        · have hbne : (whyL 80 F n lx != 0) = true := by rw [bne_iff_ne]; exact hwhy
          have hrf := law_refused H9.out (List.mem_cons_self ..) HPC.out (by unfold maxLen; omega) HEF.out h4 h256 (by omega) (by rw [hn]; exact hwhy)
          rw [hn] at hrf
          have HRF := Lib.hid hrf
          have hY := fun W (hb : Below w.heap.size w W) => refWhy_any 80 F n _ lx W (HX.out.below hb).row HEF.out (by unfold maxLen; omega) (by decide) (by omega) h4 h256
          have HY := Lib.hid hY
          clear hrf hY
          simp only at HY
          generalize whyL 80 F n lx = r at *
          refine HRF.out.mono ?_
          rintro e w10 ⟨rfl, hLw⟩
          have H10 := Lib.hid hLw
          clear hLw H9 H7 HRF HPC
          obtain ⟨q0, q1, q2, -, -⟩ := HX.out.below H10.out.all
          unfold behind at q2
          simp only at q2
          clear q0 q1
          go_wp2_with fail
          refine (HY.out _ H10.out.all).mono ?_
          rintro e w11 ⟨rfl, rfl⟩
          clear q2
          go_wp2_with fail
          refine (law_writes H10.out).mono ?_
          rintro e w11 ⟨rfl, rfl⟩
          go_wp2_with fail
          refine (law_gen H10.out (List.mem_cons_self ..) (by rw [hn]; omega) (by omega) hcm hS).mono ?_
          rintro e w11 ⟨rfl, hLw⟩
          have H11 := Lib.hid hLw
          clear hLw H10
          go_wp2_with fail
          refine (law_sectors H11.out hd (by omega) hcm (by omega) (by omega)).mono ?_
          rintro e w12 ⟨v2, rfl, hLw⟩
          rw [hn] at hLw
          have H12 := Lib.hid hLw
          clear hLw H11
          go_wp2_with fail
          refine (law_same (N := 80) H12.out (List.mem_cons_self ..) (List.mem_cons_of_mem _ (List.mem_cons_self ..)) (fun i h1 h2 => by rw [mask_out _ h2]; exact hu i ⟨h1, h2⟩) (by decide) (by omega) (by omega)).mono ?_
          rintro e w13 ⟨rfl, hLw⟩
          have H13 := Lib.hid (hLw.less (vs' := [(_, secs 80 u)]) (fun x hx => hx) (fun x hx => List.mem_cons_of_mem _ hx))
          clear hLw H12
          go_wp2_with fail
          go_roundw
          case rel => exact ⟨k + 1, jb2, rec2, g, M1, u, by omega, rfl, rfl, rfl, by simp, H13.out, by omega, hn, hcm, hd, hlf, by omega, hS, hu⟩
          case measure => simp [intOf]; omega
    · obtain rfl : k = l.length := by omega
      go_wp2_with fail
      refine (jalive_any _).mono ?_
      rintro e w5 ⟨rfl, hb⟩
      go_wp2_with fail
      go_ret
      exact ⟨rfl, H5.out.all.trans (hb.mono H5.out.all.size)⟩
theorem walk_JournalPlays (W : World) (a0 : Int) (a1 : Int) (v2 : Value) (a2 : List JSt) (w0 : (Lit.int .i64 a0).wf = true) (w1 : (Lit.int .i64 a1).wf = true) (w2 : JSteps W v2 a2) (y2 : ∀ x ∈ a2, x.fine) (z2 : a2.length ≤ maxLen) :
    Calls Tryz.prog 3 #[.int .i64 a0, .int .i64 a1, v2] W fun e w' => e = .returned (.bool true) ∧ Below W.heap.size W w' := by
  cases hm : mayB 80 a0 a1
  · exact plays_no a0 a1 v2 a2 W w2 y2 z2 (int_range w0) (int_range w1) hm
  · unfold mayB at hm
    simp only [Bool.and_eq_true, decide_eq_true_eq] at hm
    obtain ⟨⟨⟨h1, h2⟩, h3⟩, h4⟩ := hm
    obtain ⟨F, rfl⟩ : ∃ F : Nat, a0 = (F : Int) := ⟨a0.toNat, by omega⟩
    obtain ⟨n, rfl⟩ : ∃ n : Nat, a1 = (n : Int) := ⟨a1.toNat, by omega⟩
    exact plays_yes F n v2 a2 W w2 y2 z2 (by omega) (by omega) (by omega)
end Go.Proofs.YtgkdabjflagnlaaGreat
