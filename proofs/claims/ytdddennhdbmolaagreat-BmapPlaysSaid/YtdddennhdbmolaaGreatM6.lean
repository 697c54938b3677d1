/- A map with small numbers for keys, by what stands at each: looked up, stored into, deleted from, made. -/
import Derived.Test.YtdddennhdbmolaaGreatM5
import Derived.Deep.MidRow
import Derived.Maps.OwnSet
import Derived.Lib.SlKeysI
namespace Go.Proofs.YtdddennhdbmolaaGreat
open Go.RowKit Go.Maps
set_option linter.unusedVariables false
set_option linter.unusedSimpArgs false
set_option maxRecDepth 10000
/-- An element reads as itself. -/
def heldR (v : Value) : Option (DataW Value × List MemPlace) := some (.held v, [])
/-- Block m is a map of type t; at key i, below n, stands what f says. -/
def IMap (P : Program) (k : TypeId) (W : World) (m n : Nat) (f : Nat → Option Value) : Prop :=
  ∃ D : DataW Value, W.ownsMap P k heldR m (Maps.size D) D ∧ (∀ l, Maps.has D l = true ↔ ∃ i : Nat, i < n ∧ l = .int .i64 (i : Int) ∧ (f i).isSome = true) ∧
    ∀ i v, i < n → f i = some v → ∀ z, D.atKey (.int .i64 (i : Int)) z = .held v
section
variable {P : Program} {t k e : TypeId} {W : World} {m n : Nat} {f : Nat → Option Value}
theorem key_wf {i : Nat} (h : i < 9223372036854775808) : (Lit.int .i64 (i : Int)).wf = true := WalkArith.wf_i64 (by omega)
theorem IMap.lt (h : IMap P k W m n f) : m < W.heap.size := by
  obtain ⟨D, hD, _⟩ := h
  exact hD.lt
theorem IMap.isMap (h : IMap P k W m n f) : ∃ es c, W.heap[m]? = some (.map es c) := by
  obtain ⟨D, ⟨es, c, hb, _⟩, _⟩ := h
  exact ⟨es, c, hb⟩
theorem IMap.kept {W' : World} (h : IMap P k W m n f) (hb : W'.heap[m]? = W.heap[m]?) : IMap P k W' m n f := by
  obtain ⟨D, ⟨es, c, h1, h2⟩, h3⟩ := h
  exact ⟨D, ⟨es, c, hb.trans h1, h2⟩, h3⟩
theorem IMap.made (W : World) (P : Program) (k : TypeId) (n : Nat) : IMap P k (W.alloc (.map #[] 0)) W.heap.size n (fun _ => none) :=
  ⟨.map [], World.ownsMap_made W P k heldR, fun l => by simp [Maps.has], fun i v _ h => by cases h⟩
theorem IMap.congr {g : Nat → Option Value} (h : IMap P k W m n f) (hg : ∀ i, i < n → f i = g i) : IMap P k W m n g := by
  obtain ⟨D, h1, h2, h3⟩ := h
  refine ⟨D, h1, fun l => (h2 l).trans ?_, fun i v hi hv => h3 i v hi (by rw [hg i hi]; exact hv)⟩
  constructor
  · rintro ⟨i, hi, hl, hs⟩; exact ⟨i, hi, hl, by rw [← hg i hi]; exact hs⟩
  · rintro ⟨i, hi, hl, hs⟩; exact ⟨i, hi, hl, by rw [hg i hi]; exact hs⟩
theorem IMap.look (h : IMap P k W m n f) (hk : P.underlying k = some (.int .i64)) (ht : P.underlying t = some (.map k e)) {z : Value} (hz : (zeroValue e).run P W = .ok z W) (hn : n ≤ 9223372036854775807) {i : Nat} (hi : i < n) :
    (Instr.lookup t (.map (some m)) (.int .i64 (i : Int)) false).run P W = .ok ((f i).getD z) W := by
  obtain ⟨D, h1, h2, h3⟩ := h
  obtain ⟨v, ps, hrun, hv⟩ := h1.lookup (int_keyed hk) ht hz (zd := .held z) (zp := []) rfl (keyOf_int_mk hk (key_wf (i := i) (by omega)))
  rw [hrun]
  simp only [heldR, Option.some.injEq, Prod.mk.injEq] at hv
  cases hf : f i with
  | some u =>
    rw [h3 i u hi hf] at hv
    cases hv.1
    rfl
  | none =>
    have hh : Maps.has D (.int .i64 (i : Int)) = false := by
      cases hc : Maps.has D (.int .i64 (i : Int)) with
      | false => rfl
      | true =>
        obtain ⟨j, _, hj, hs⟩ := (h2 _).1 hc
        simp only [Lit.int.injEq, true_and] at hj
        obtain rfl : i = j := by omega
        rw [hf] at hs; cases hs
    rw [Maps.atKey_of_not_has hh] at hv
    cases hv.1
    rfl
theorem nodup_bound : ∀ (n : Nat) (l : List Nat), l.Nodup → (∀ x ∈ l, x < n) → l.length ≤ n
  | 0, [], _, _ => Nat.le_refl _
  | 0, x :: _, _, h => absurd (h x (by simp)) (by omega)
  | n + 1, l, hn, h => by
    have h1 := nodup_bound n (l.erase n) (hn.erase n) (fun x hx => by
      have h2 := (hn.mem_erase_iff).1 hx
      have := h x h2.2
      have := h2.1
      omega)
    by_cases hm : n ∈ l
    · have := List.length_erase_of_mem hm
      omega
    · rw [List.erase_of_not_mem hm] at h1
      omega
theorem IMap.size_le {D : DataW Value} (h1 : W.ownsMap P k heldR m (Maps.size D) D) (hk : P.underlying k = some (.int .i64)) (h2 : ∀ l, Maps.has D l = true ↔ ∃ i : Nat, i < n ∧ l = .int .i64 (i : Int) ∧ (f i).isSome = true) : Maps.size D ≤ n := by
  obtain ⟨es, rfl, hpw⟩ := h1.tidy (int_keyed hk)
  have hkey : ∀ p ∈ es, ∃ i : Nat, i < n ∧ p.1 = .int .i64 (i : Int) := by
    intro p hp
    obtain ⟨es', he, hko⟩ := h1.keysOf
    cases he
    obtain ⟨v, hv⟩ := hko p hp
    obtain ⟨x, _, hx, _⟩ := Maps.keyOf_i64 hk hv
    have hh : Maps.has (DataW.map es) p.1 = true := by
      rw [Maps.has_eq, List.any_eq_true]
      exact ⟨p, hp, by rw [hx]; simp [Lit.sameKey]⟩
    obtain ⟨i, hi, hl, _⟩ := (h2 _).1 hh
    exact ⟨i, hi, hl⟩
  have h3 := nodup_bound n (es.map fun p => (Go.intOf p.1).toNat) (by
    refine List.pairwise_map.2 (hpw.imp_of_mem fun {p q} hp hq hne e => hne ?_)
    obtain ⟨a, _, ha⟩ := hkey p hp
    obtain ⟨b, _, hb⟩ := hkey q hq
    rw [ha, hb] at e ⊢
    simp only [Go.intOf, Int.toNat_natCast] at e
    rw [e]) (by
    intro x hx
    obtain ⟨p, hp, rfl⟩ := List.mem_map.1 hx
    obtain ⟨a, han, ha⟩ := hkey p hp
    rw [ha]
    simpa [Go.intOf] using han)
  simpa [Maps.size] using h3
/-- What f says, but v at i. -/
def upd {α : Type} (f : Nat → α) (i : Nat) (v : α) : Nat → α := fun j => if j = i then v else f j
@[simp] theorem upd_same {α : Type} (f : Nat → α) (i : Nat) (v : α) : upd f i v i = v := by simp [upd]
theorem upd_other {α : Type} (f : Nat → α) {i j : Nat} (v : α) (h : j ≠ i) : upd f i v j = f j := by simp [upd, h]
theorem resize {D : DataW Value} {b : Nat} (h : W.ownsMap P k heldR m b D) : W.ownsMap P k heldR m (Maps.size D) D := by
  obtain ⟨es, c, hb, F, _, rfl⟩ := h
  exact ⟨es, c, hb, F, by simp [Maps.size, length_sorted], rfl⟩
theorem IMap.store (h : IMap P k W m n f) (hk : P.underlying k = some (.int .i64)) (ht : P.underlying t = some (.map k e)) (hn : n ≤ 1048576) {i : Nat} (hi : i < n) (v : Value) :
    ∃ W', (Instr.mapUpdate t (.map (some m)) (.int .i64 (i : Int)) v).run P W = .ok () W' ∧ IMap P k W' m n (upd f i (some v)) ∧ W.grownBy W' (some m) := by
  obtain ⟨D, h1, h2, h3⟩ := h
  have hs := IMap.size_le h1 hk h2
  obtain ⟨W', hrun, ho, hg⟩ := h1.update (int_keyed hk) ht (by unfold maxLen; omega) (keyOf_int_mk hk (key_wf (i := i) (by omega))) (val := v) (d := .held v) (ps := []) rfl
  have hM := h1.isMap
  have hkl : WideAt.IsKeyLit (.int .i64 (i : Int)) := trivial
  refine ⟨W', hrun, ⟨_, resize ho, fun l => ?_, fun j u hj hu z => ?_⟩, hg⟩
  · by_cases hl : l = .int .i64 (i : Int)
    · subst hl
      rw [Maps.has_put_same hM hkl]
      simp only [true_iff]
      exact ⟨i, hi, rfl, by simp⟩
    · rw [Maps.has_put_other hl, h2]
      constructor
      · rintro ⟨j, hj, rfl, hs⟩
        have : j ≠ i := fun e => hl (by rw [e])
        exact ⟨j, hj, rfl, by rw [upd_other _ _ this]; exact hs⟩
      · rintro ⟨j, hj, rfl, hs⟩
        have : j ≠ i := fun e => hl (by rw [e])
        rw [upd_other _ _ this] at hs
        exact ⟨j, hj, rfl, hs⟩
  · by_cases e : j = i
    · subst e
      rw [Maps.atKey_put_same hM hkl]
      simp only [upd_same, Option.some.injEq] at hu
      rw [hu]
    · rw [Maps.atKey_put_other (by intro e2; simp only [Lit.int.injEq, true_and] at e2; omega)]
      rw [upd_other _ _ e] at hu
      exact h3 j u hj hu z
theorem IMap.drop (h : IMap P k W m n f) (hk : P.underlying k = some (.int .i64)) (ht : P.underlying t = some (.map k e)) (hn : n ≤ 1048576) {i : Nat} (hi : i < n) (ty : TypeId) :
    ∃ W', (Builtin.delete_ #[t, k] ty #[.map (some m), .int .i64 (i : Int)]).run P W = .ok (.tuple #[]) W' ∧ IMap P k W' m n (upd f i none) ∧ W.grownBy W' (some m) := by
  obtain ⟨D, h1, h2, h3⟩ := h
  obtain ⟨W', hrun, ho, hg⟩ := h1.drop (int_keyed hk) ht (keyOf_int_mk hk (key_wf (i := i) (by omega))) ty
  refine ⟨W', hrun, ⟨_, resize ho, fun l => ?_, fun j u hj hu z => ?_⟩, hg.grown⟩
  · by_cases hl : l = .int .i64 (i : Int)
    · subst hl
      rw [Maps.has_del_same]
      simp only [Bool.false_eq_true, false_iff]
      rintro ⟨j, hj, e, hs⟩
      simp only [Lit.int.injEq, true_and] at e
      obtain rfl : i = j := by omega
      simp at hs
    · rw [Maps.has_del_other hl, h2]
      constructor
      · rintro ⟨j, hj, rfl, hs⟩
        have : j ≠ i := fun e => hl (by rw [e])
        exact ⟨j, hj, rfl, by rw [upd_other _ _ this]; exact hs⟩
      · rintro ⟨j, hj, rfl, hs⟩
        have : j ≠ i := fun e => hl (by rw [e])
        rw [upd_other _ _ this] at hs
        exact ⟨j, hj, rfl, hs⟩
  · by_cases e : j = i
    · subst e; simp at hu
    · rw [Maps.atKey_del_other (by intro e2; simp only [Lit.int.injEq, true_and] at e2; omega)]
      rw [upd_other _ _ e] at hu
      exact h3 j u hj hu z
/-- The keys, ascending. -/
def keysOf (n : Nat) (f : Nat → Option Value) : List Nat := (List.range n).filter fun i => (f i).isSome
theorem sorted_keys {D : DataW Value} (h1 : W.ownsMap P k heldR m (Maps.size D) D) (hk : P.underlying k = some (.int .i64)) (h2 : ∀ l, Maps.has D l = true ↔ ∃ i : Nat, i < n ∧ l = .int .i64 (i : Int) ∧ (f i).isSome = true) {ss : List Int} (hp : ss.Perm (intKeys D)) :
    ss.mergeSort (fun x y => decide (x ≤ y)) = (keysOf n f).map (fun (i : Nat) => (i : Int)) := by
  have hpk : (intKeys D).Perm ((keysOf n f).map (fun (i : Nat) => (i : Int))) := by
    obtain ⟨es, rfl, hpw⟩ := h1.tidy (int_keyed hk)
    obtain ⟨es', he, hko⟩ := h1.keysOf
    cases he
    refine (perm_intKeys hpw (fun p hp => by obtain ⟨v, hv⟩ := hko p hp; obtain ⟨x, _, hx, _⟩ := Maps.keyOf_i64 hk hv; exact ⟨x, hx⟩) ?_ ?_).symm
    · refine List.pairwise_map.2 ((List.nodup_range.filter _).imp fun hne e => hne (by omega))
    · intro x
      rw [h2, List.mem_map]
      constructor
      · rintro ⟨i, hi, rfl⟩
        have := List.mem_filter.1 hi
        exact ⟨i, List.mem_range.1 this.1, rfl, this.2⟩
      · rintro ⟨i, hi, hl, hs⟩
        simp only [Lit.int.injEq, true_and] at hl
        exact ⟨i, List.mem_filter.2 ⟨List.mem_range.2 hi, hs⟩, hl.symm⟩
  have hpp := hp.trans hpk
  rw [mergeSort_of_perm_i hpp]
  refine List.mergeSort_of_pairwise ?_
  refine List.pairwise_map.2 ?_
  have hr : (List.range n).Pairwise (· < ·) := List.pairwise_lt_range
  refine (hr.filter _).imp fun h => ?_
  simp only [decide_eq_true_eq]
  omega
end
end Go.Proofs.YtdddennhdbmolaaGreat
