import Derived.Test.YtnfiapjdkjbdhaaGreatQ1
import Derived.Deep.MidRow
import Derived.Maps.OwnSet
import Derived.Lib.SlKeysI
import Derived.Carry
import Derived.RangeFuncNested
import Derived.RangeFuncBound
import Derived.RangeFuncCalls
import Derived.RangeFuncLeaves
import Derived.Shelf.Abstract
import Derived.Shelf.RegionOpen
import Derived.OwnWalkIn
import Derived.TacticsInMore
import Derived.LoopNIn
import Derived.LoopIn
import Derived.Great.BuildSlice
namespace Go.Proofs.YtnfiapjdkjbdhaaGreat
open Go.RowKit Go.Maps
set_option linter.unusedVariables false
set_option linter.unusedSimpArgs false
set_option maxRecDepth 10000
def heldQ (v : Value) : Option (DataW Value × List MemPlace) := some (.held v, [])
def QMap (P : Program) (k : TypeId) (q : IntKind) (W : World) (m n : Nat) (f : Nat → Option Value) : Prop :=
  ∃ D : DataW Value, W.ownsMap P k heldQ m (Maps.size D) D ∧ (∀ l, Maps.has D l = true ↔ ∃ i : Nat, i < n ∧ l = .int q (i : Int) ∧ (f i).isSome = true) ∧
    ∀ i v, i < n → f i = some v → ∀ z, D.atKey (.int q (i : Int)) z = .held v
section
variable {P : Program} {q : IntKind} {t k e : TypeId} {W : World} {m n : Nat} {f : Nat → Option Value}
def FitsQ (q : IntKind) (n : Nat) : Prop := ∀ i : Nat, i < n → (Lit.int q (i : Int)).wf = true
theorem fits_u16 : FitsQ .u16 65536 := fun i h => WalkArith.wf_u16 (by omega)
theorem QMap.lt (h : QMap P k q W m n f) : m < W.heap.size := by
  obtain ⟨D, hD, _⟩ := h
  exact hD.lt
theorem QMap.isMap (h : QMap P k q W m n f) : ∃ es c, W.heap[m]? = some (.map es c) := by
  obtain ⟨D, ⟨es, c, hb, _⟩, _⟩ := h
  exact ⟨es, c, hb⟩
theorem QMap.kept {W' : World} (h : QMap P k q W m n f) (hb : W'.heap[m]? = W.heap[m]?) : QMap P k q W' m n f := by
  obtain ⟨D, ⟨es, c, h1, h2⟩, h3⟩ := h
  exact ⟨D, ⟨es, c, hb.trans h1, h2⟩, h3⟩
theorem QMap.made (W : World) (P : Program) (k : TypeId) (q : IntKind) (n : Nat) : QMap P k q (W.alloc (.map #[] 0)) W.heap.size n (fun _ => none) :=
  ⟨.map [], World.ownsMap_made W P k heldQ, fun l => by simp [Maps.has], fun i v _ h => by cases h⟩
theorem QMap.congr {g : Nat → Option Value} (h : QMap P k q W m n f) (hg : ∀ i, i < n → f i = g i) : QMap P k q W m n g := by
  obtain ⟨D, h1, h2, h3⟩ := h
  refine ⟨D, h1, fun l => (h2 l).trans ?_, fun i v hi hv => h3 i v hi (by rw [hg i hi]; exact hv)⟩
  constructor
  · rintro ⟨i, hi, hl, hs⟩; exact ⟨i, hi, hl, by rw [← hg i hi]; exact hs⟩
  · rintro ⟨i, hi, hl, hs⟩; exact ⟨i, hi, hl, by rw [hg i hi]; exact hs⟩
theorem QMap.look (h : QMap P k q W m n f) (hk : P.underlying k = some (.int q)) (ht : P.underlying t = some (.map k e)) {z : Value} (hz : (zeroValue e).run P W = .ok z W) (hq : FitsQ q n) {i : Nat} (hi : i < n) :
    (Instr.lookup t (.map (some m)) (.int q (i : Int)) false).run P W = .ok ((f i).getD z) W := by
  obtain ⟨D, h1, h2, h3⟩ := h
  obtain ⟨v, ps, hrun, hv⟩ := h1.lookup (int_keyed hk) ht hz (zd := .held z) (zp := []) rfl (keyOf_int_mk hk (hq i hi))
  rw [hrun]
  simp only [heldQ, Option.some.injEq, Prod.mk.injEq] at hv
  cases hf : f i with
  | some u =>
    rw [h3 i u hi hf] at hv
    cases hv.1
    rfl
  | none =>
    have hh : Maps.has D (.int q (i : Int)) = false := by
      cases hc : Maps.has D (.int q (i : Int)) with
      | false => rfl
      | true =>
        obtain ⟨j, _, hj, hs⟩ := (h2 _).1 hc
        simp only [Lit.int.injEq, true_and] at hj
        obtain rfl : i = j := by omega
        rw [hf] at hs; cases hs
    rw [Maps.atKey_of_not_has hh] at hv
    cases hv.1
    rfl
theorem nodup_boundQ : ∀ (n : Nat) (l : List Nat), l.Nodup → (∀ x ∈ l, x < n) → l.length ≤ n
  | 0, [], _, _ => Nat.le_refl _
  | 0, x :: _, _, h => absurd (h x (by simp)) (by omega)
  | n + 1, l, hn, h => by
    have h1 := nodup_boundQ n (l.erase n) (hn.erase n) (fun x hx => by
      have h2 := (hn.mem_erase_iff).1 hx
      have := h x h2.2
      have := h2.1
      omega)
    by_cases hm : n ∈ l
    · have := List.length_erase_of_mem hm
      omega
    · rw [List.erase_of_not_mem hm] at h1
      omega
theorem keyOf_q (hk : P.underlying k = some (.int q)) {key : Value} {kl : Lit} (h : keyOf P k key = some kl) : ∃ x : Int, kl = .int q x := by
  rw [keyOf_int hk] at h
  cases key <;> simp [mapKey, hk] at h
  exact ⟨_, h.2.symm⟩
theorem QMap.size_le {D : DataW Value} (h1 : W.ownsMap P k heldQ m (Maps.size D) D) (hk : P.underlying k = some (.int q)) (h2 : ∀ l, Maps.has D l = true ↔ ∃ i : Nat, i < n ∧ l = .int q (i : Int) ∧ (f i).isSome = true) : Maps.size D ≤ n := by
  obtain ⟨es, rfl, hpw⟩ := h1.tidy (int_keyed hk)
  have hkey : ∀ p ∈ es, ∃ i : Nat, i < n ∧ p.1 = .int q (i : Int) := by
    intro p hp
    obtain ⟨es', he, hko⟩ := h1.keysOf
    cases he
    obtain ⟨v, hv⟩ := hko p hp
    obtain ⟨x, hx⟩ := keyOf_q hk hv
    have hh : Maps.has (DataW.map es) p.1 = true := by
      rw [Maps.has_eq, List.any_eq_true]
      exact ⟨p, hp, by rw [hx]; simp [Lit.sameKey]⟩
    obtain ⟨i, hi, hl, _⟩ := (h2 _).1 hh
    exact ⟨i, hi, hl⟩
  have h3 := nodup_boundQ n (es.map fun p => (Go.intOf p.1).toNat) (by
    refine List.pairwise_map.2 (hpw.imp_of_mem fun {p q} hp hq hne e => hne ?_)
    obtain ⟨a, _, ha⟩ := hkey p hp
    obtain ⟨b, _, hb⟩ := hkey q hq
    rw [ha, hb] at e ⊢
    simp only [Go.intOf, Int.toNat_natCast] at e
    rw [e]) (by
    intro x hx
    obtain ⟨p, hp, rfl⟩ := List.mem_map.1 hx
    obtain ⟨a, han, ha⟩ := hkey p hp
    rw [ha]
    simpa [Go.intOf] using han)
  simpa [Maps.size] using h3
def updQ {α : Type} (f : Nat → α) (i : Nat) (v : α) : Nat → α := fun j => if j = i then v else f j
@[simp] theorem updQ_same {α : Type} (f : Nat → α) (i : Nat) (v : α) : updQ f i v i = v := by simp [updQ]
theorem updQ_other {α : Type} (f : Nat → α) {i j : Nat} (v : α) (h : j ≠ i) : updQ f i v j = f j := by simp [updQ, h]
theorem resizeQ {D : DataW Value} {b : Nat} (h : W.ownsMap P k heldQ m b D) : W.ownsMap P k heldQ m (Maps.size D) D := by
  obtain ⟨es, c, hb, F, _, rfl⟩ := h
  exact ⟨es, c, hb, F, by simp [Maps.size, length_sorted], rfl⟩
theorem QMap.store (h : QMap P k q W m n f) (hk : P.underlying k = some (.int q)) (ht : P.underlying t = some (.map k e)) (hn : n ≤ 1048576) (hq : FitsQ q n) {i : Nat} (hi : i < n) (v : Value) :
    ∃ W', (Instr.mapUpdate t (.map (some m)) (.int q (i : Int)) v).run P W = .ok () W' ∧ QMap P k q W' m n (updQ f i (some v)) ∧ W.grownBy W' (some m) := by
  obtain ⟨D, h1, h2, h3⟩ := h
  have hs := QMap.size_le h1 hk h2
  obtain ⟨W', hrun, ho, hg⟩ := h1.update (int_keyed hk) ht (by unfold maxLen; omega) (keyOf_int_mk hk (hq i hi)) (val := v) (d := .held v) (ps := []) rfl
  have hM := h1.isMap
  have hkl : WideAt.IsKeyLit (.int q (i : Int)) := trivial
  refine ⟨W', hrun, ⟨_, resizeQ ho, fun l => ?_, fun j u hj hu z => ?_⟩, hg⟩
  · by_cases hl : l = .int q (i : Int)
    · subst hl
      rw [Maps.has_put_same hM hkl]
      simp only [true_iff]
      exact ⟨i, hi, rfl, by simp⟩
    · rw [Maps.has_put_other hl, h2]
      constructor
      · rintro ⟨j, hj, rfl, hs⟩
        have : j ≠ i := fun e => hl (by rw [e])
        exact ⟨j, hj, rfl, by rw [updQ_other _ _ this]; exact hs⟩
      · rintro ⟨j, hj, rfl, hs⟩
        have : j ≠ i := fun e => hl (by rw [e])
        rw [updQ_other _ _ this] at hs
        exact ⟨j, hj, rfl, hs⟩
  · by_cases e : j = i
    · subst e
      rw [Maps.atKey_put_same hM hkl]
      simp only [updQ_same, Option.some.injEq] at hu
      rw [hu]
    · rw [Maps.atKey_put_other (by intro e2; simp only [Lit.int.injEq, true_and] at e2; omega)]
      rw [updQ_other _ _ e] at hu
      exact h3 j u hj hu z
end
end Go.Proofs.YtnfiapjdkjbdhaaGreat
namespace Go.Proofs.YtnfiapjdkjbdhaaGreat
open Go.RowKit
set_option linter.unusedVariables false
set_option linter.unusedSimpArgs false
set_option maxRecDepth 10000
def nOf : Value → Int | .int _ n => n | _ => 0
theorem once_nil : once [] := by decide
theorem once_snoc (p : List Nat) (b : Nat) : once (p ++ [b]) ↔ once p ∧ (b = 0 ∨ b ∉ p) := by
  unfold once
  rw [List.filter_append]
  by_cases h : b = 0
  · subst h; simp
  · have e : List.filter (· != 0) [b] = [b] := by simp [h]
    rw [e, List.nodup_append]
    simp only [List.nodup_cons, List.not_mem_nil, not_false_eq_true, List.nodup_nil, and_self, true_and, List.mem_singleton, forall_eq, List.mem_filter, bne_iff_ne, ne_eq, and_imp]
    constructor
    · rintro ⟨h1, h2⟩
      refine ⟨h1, .inr fun hm => h2 b hm h rfl⟩
    · rintro ⟨h1, h2⟩
      refine ⟨h1, fun a ha _ e => ?_⟩
      subst e
      rcases h2 with h2 | h2
      · exact h h2
      · exact h2 ha
theorem once_take {l : List Nat} (h : once l) (k : Nat) : once (l.take k) := by
  unfold once at *
  exact h.sublist ((List.take_sublist k l).filter _)
def cntV (p : List Nat) (b : Nat) : Option Value := if p.count b = 0 then none else some (.int .i64 (p.count b : Nat))
theorem cntV_get (p : List Nat) (b : Nat) : (cntV p b).getD (.int .i64 0) = .int .i64 (p.count b : Nat) := by
  unfold cntV
  split
  · rename_i h; rw [h]; rfl
  · rfl
theorem cntV_snoc (p : List Nat) (b : Nat) : updQ (cntV p) b (some (.int .i64 ((p.count b + 1 : Nat) : Int))) = cntV (p ++ [b]) := by
  funext j
  by_cases h : j = b
  · subst h
    rw [updQ_same]
    simp [cntV, List.count_append]
  · rw [updQ_other _ _ h]
    have h2 : b ≠ j := fun e => h e.symm
    simp [cntV, List.count_append, List.count_cons, h2]
set_option maxHeartbeats 1000000 in
theorem twice_any (l : List Nat) (v : Value) (w : World) (hv : U16s w v l) (hlt : ∀ x ∈ l, x < 65536) (hlen : l.length ≤ 100000) :
    Calls Tryz.prog 194 #[v] w fun e w' => e = .returned (.bool (decide (¬ once l))) ∧ Below w.heap.size w w' := by
  obtain ⟨A, c, rfl, hc⟩ := hv
  have Hc := Lib.hid hc
  clear hc
  have hmm := @run_makeMap Tryz.prog
  go_enter Tryz.func194, Tryz.ntmps194
  go_wp2_with fail
  go_loopw [9] (fun i wr => ∃ k : Nat, k ≤ l.length ∧ i = .int .i64 k ∧ QMap Tryz.prog 38 .u16 wr w.heap.size 65536 (cntV (l.take k)) ∧ once (l.take k) ∧ Below w.heap.size w wr) (fun i _ => l.length - (nOf i).toNat)
  case atStart =>
    refine ⟨0, Nat.zero_le _, rfl, ?_, by simp [once_nil], (Below.refl _ _).alloc (Nat.le_refl _) _⟩
    refine (QMap.made w Tryz.prog 38 .u16 65536).congr fun i _ => ?_
    simp [cntV]
  case round =>
    obtain ⟨k, hk, rfl, hm, hon, hb⟩ := hrel
    by_cases hlt2 : k < l.length
    · obtain ⟨b, hbe⟩ : ∃ b, b = l[k] := ⟨_, rfl⟩
      have hb16 : b < 65536 := by rw [hbe]; exact hlt _ (List.getElem_mem _)
      have htk : l.take (k + 1) = l.take k ++ [b] := by rw [hbe, List.take_succ_eq_append_getElem hlt2]
      obtain ⟨a, rfl, hcell⟩ := Hc.out k b (by rw [hbe]; simp [hlt2])
      have hcell1 : wr.cell? (a.add k) = some (w16 b) := (hb.cell (World.block_lt_of_cell? w _ hcell)).trans hcell
      have hlk := hm.look (t := 317) (e := 3) Tryz.underlying38 Tryz.underlying317 (z := .int .i64 0) (by kernel_rfl) fits_u16 hb16
      rw [cntV_get] at hlk
      obtain ⟨wm, hup, hm2, hgr⟩ := hm.store (t := 317) (e := 3) Tryz.underlying38 Tryz.underlying317 (by omega) fits_u16 hb16 (.int .i64 (((l.take k).count b + 1 : Nat) : Int))
      rw [cntV_snoc, ← htk] at hm2
      have hlk2 := hm2.look (t := 317) (e := 3) Tryz.underlying38 Tryz.underlying317 (z := .int .i64 0) (by kernel_rfl) fits_u16 hb16
      rw [cntV_get] at hlk2
      have hcnt : (l.take (k + 1)).count b = (l.take k).count b + 1 := by rw [htk]; simp [List.count_append]
      rw [hcnt] at hlk2
      have hq : (l.take k).count b ≤ 100000 := Nat.le_trans List.count_le_length (by simp; omega)
      have hmem : b ∈ l.take k ↔ 0 < (l.take k).count b := List.count_pos_iff.symm
      have hbw : Below w.heap.size w wm := hb.grown hgr hb.size (by intro j hj; cases hj; omega)
      have hon2 : once (l.take (k + 1)) ↔ once (l.take k) ∧ (b = 0 ∨ b ∉ l.take k) := by rw [htk]; exact once_snoc _ _
      have Hon := Lib.hid hon
      have Hon2 := Lib.hid hon2
      have Hmem := Lib.hid hmem
      have Hm2 := Lib.hid hm2
      clear hon hon2 hmem hm hm2 hcell htk hcnt hgr hbe
      generalize (l.take k).count b = q at *
      rw [Int.natCast_succ] at hlk2 hup
      by_cases hz : b = 0
      · subst hz
        go_wp2
        go_roundw
        case rel => exact ⟨k + 1, by omega, by go_num, Hm2.out, Hon2.out.2 ⟨Hon.out, .inl rfl⟩, hbw⟩
        case measure => simp [nOf]; omega
      · have hbz : ((b : Int) != 0) = true := by simpa using hz
        by_cases h0 : q = 0
        · subst h0
          simp only [Int.natCast_zero, Int.zero_add] at hup hlk hlk2
          go_wp2
          go_roundw
          case rel => exact ⟨k + 1, by omega, by go_num, Hm2.out, Hon2.out.2 ⟨Hon.out, .inr fun hm => by have := Hmem.out.1 hm; omega⟩, hbw⟩
          case measure => simp [nOf]; omega
        · go_wp2
          go_ret
          refine ⟨?_, hbw⟩
          have : ¬ once l := fun ho => by
            have := (Hon2.out.1 (once_take ho (k + 1))).2
            rcases this with h | h
            · exact hz h
            · exact h (Hmem.out.2 (by omega))
          simp [this]
    · have : k = l.length := by omega
      subst this
      rw [List.take_length] at hon
      go_wp2
      go_ret
      exact ⟨by simp [hon], hb⟩
end Go.Proofs.YtnfiapjdkjbdhaaGreat
namespace Go.Proofs.YtnfiapjdkjbdhaaGreat
open Go.RowKit Go.Shelf
set_option linter.unusedVariables false
set_option linter.unusedSimpArgs false
set_option maxRecDepth 10000
theorem cell_new_l (W : World) (v : Value) (t : TypeId) : (W.alloc (.cells #[v] t)).cell? ⟨W.heap.size, 0, none⟩ = some v := by
  rw [cell_of_row _ _ 0 _ t (0, 0) (heap_alloc_new W _)]; rfl
theorem frozen_new_l (W : World) (v : Value) (t : TypeId) : (W.alloc (.cells #[v] t)).frozen? ⟨W.heap.size, 0, none⟩ = false := frozen_of_row _ _ 0 _ t (heap_alloc_new W _)
def Parts (n₀ : Nat) (w : World) (v : Value) (ps : List (List UInt8)) : Prop :=
  ∃ A c, v = .slice A ps.length c ∧ ∀ j p, ps[j]? = some p → ∃ g, A = some ⟨g, 0, none⟩ ∧ g < n₀ ∧ w.cell? ⟨g, j, none⟩ = some (str p)
theorem parts_below {n₀ : Nat} {w w' : World} {v : Value} {ps : List (List UInt8)} (h : Parts n₀ w v ps) (hb : Below n₀ w w') : Parts n₀ w' v ps := by
  obtain ⟨A, c, hv, hc⟩ := h
  refine ⟨A, c, hv, fun j p hj => ?_⟩
  obtain ⟨g, hA, hg, hcell⟩ := hc j p hj
  exact ⟨g, hA, hg, (hb.cell (p := ⟨g, j, none⟩) hg).trans hcell⟩
theorem flat_take_succ (ps : List (List UInt8)) (k : Nat) (h : k < ps.length) : (ps.take (k + 1)).flatten = (ps.take k).flatten ++ ps[k] := by
  rw [List.take_succ_eq_append_getElem h, List.flatten_append, List.flatten_singleton]
theorem flat_take_le (ps : List (List UInt8)) (k : Nat) : (ps.take k).flatten.length ≤ ps.flatten.length := by
  have h : ps.flatten = (ps.take k).flatten ++ (ps.drop k).flatten := by rw [← List.flatten_append, List.take_append_drop]
  rw [h, List.length_append]; omega
theorem flat_take_prefix (ps : List (List UInt8)) (k : Nat) (h : k < ps.length) (j : Nat) : (ps.take k).flatten ++ (ps[k].take j) <+: ps.flatten := by
  refine ⟨ps[k].drop j ++ (ps.drop (k + 1)).flatten, ?_⟩
  rw [List.append_assoc, ← List.append_assoc (List.take j _), List.take_append_drop, ← List.append_assoc, ← flat_take_succ ps k h, ← List.flatten_append, List.take_append_drop]
end Go.Proofs.YtnfiapjdkjbdhaaGreat
/- A map with small numbers for keys, by what stands at each: looked up, stored into, deleted from, made. -/
namespace Go.Proofs.YtnfiapjdkjbdhaaGreat
open Go.RowKit Go.Maps
set_option linter.unusedVariables false
set_option linter.unusedSimpArgs false
set_option maxRecDepth 10000
def heldR (v : Value) : Option (DataW Value × List MemPlace) := some (.held v, [])
def IMap (P : Program) (k : TypeId) (W : World) (m n : Nat) (f : Nat → Option Value) : Prop :=
  ∃ D : DataW Value, W.ownsMap P k heldR m (Maps.size D) D ∧ (∀ l, Maps.has D l = true ↔ ∃ i : Nat, i < n ∧ l = .int .i64 (i : Int) ∧ (f i).isSome = true) ∧
    ∀ i v, i < n → f i = some v → ∀ z, D.atKey (.int .i64 (i : Int)) z = .held v
section
variable {P : Program} {t k e : TypeId} {W : World} {m n : Nat} {f : Nat → Option Value}
theorem key_wf {i : Nat} (h : i < 9223372036854775808) : (Lit.int .i64 (i : Int)).wf = true := WalkArith.wf_i64 (by omega)
theorem IMap.lt (h : IMap P k W m n f) : m < W.heap.size := by
  obtain ⟨D, hD, _⟩ := h
  exact hD.lt
theorem IMap.isMap (h : IMap P k W m n f) : ∃ es c, W.heap[m]? = some (.map es c) := by
  obtain ⟨D, ⟨es, c, hb, _⟩, _⟩ := h
  exact ⟨es, c, hb⟩
theorem IMap.kept {W' : World} (h : IMap P k W m n f) (hb : W'.heap[m]? = W.heap[m]?) : IMap P k W' m n f := by
  obtain ⟨D, ⟨es, c, h1, h2⟩, h3⟩ := h
  exact ⟨D, ⟨es, c, hb.trans h1, h2⟩, h3⟩
theorem IMap.made (W : World) (P : Program) (k : TypeId) (n : Nat) : IMap P k (W.alloc (.map #[] 0)) W.heap.size n (fun _ => none) :=
  ⟨.map [], World.ownsMap_made W P k heldR, fun l => by simp [Maps.has], fun i v _ h => by cases h⟩
theorem IMap.congr {g : Nat → Option Value} (h : IMap P k W m n f) (hg : ∀ i, i < n → f i = g i) : IMap P k W m n g := by
  obtain ⟨D, h1, h2, h3⟩ := h
  refine ⟨D, h1, fun l => (h2 l).trans ?_, fun i v hi hv => h3 i v hi (by rw [hg i hi]; exact hv)⟩
  constructor
  · rintro ⟨i, hi, hl, hs⟩; exact ⟨i, hi, hl, by rw [← hg i hi]; exact hs⟩
  · rintro ⟨i, hi, hl, hs⟩; exact ⟨i, hi, hl, by rw [hg i hi]; exact hs⟩
theorem IMap.look (h : IMap P k W m n f) (hk : P.underlying k = some (.int .i64)) (ht : P.underlying t = some (.map k e)) {z : Value} (hz : (zeroValue e).run P W = .ok z W) (hn : n ≤ 9223372036854775807) {i : Nat} (hi : i < n) :
    (Instr.lookup t (.map (some m)) (.int .i64 (i : Int)) false).run P W = .ok ((f i).getD z) W := by
  obtain ⟨D, h1, h2, h3⟩ := h
  obtain ⟨v, ps, hrun, hv⟩ := h1.lookup (int_keyed hk) ht hz (zd := .held z) (zp := []) rfl (keyOf_int_mk hk (key_wf (i := i) (by omega)))
  rw [hrun]
  simp only [heldR, Option.some.injEq, Prod.mk.injEq] at hv
  cases hf : f i with
  | some u =>
    rw [h3 i u hi hf] at hv
    cases hv.1
    rfl
  | none =>
    have hh : Maps.has D (.int .i64 (i : Int)) = false := by
      cases hc : Maps.has D (.int .i64 (i : Int)) with
      | false => rfl
      | true =>
        obtain ⟨j, _, hj, hs⟩ := (h2 _).1 hc
        simp only [Lit.int.injEq, true_and] at hj
        obtain rfl : i = j := by omega
        rw [hf] at hs; cases hs
    rw [Maps.atKey_of_not_has hh] at hv
    cases hv.1
    rfl
theorem nodup_bound : ∀ (n : Nat) (l : List Nat), l.Nodup → (∀ x ∈ l, x < n) → l.length ≤ n
  | 0, [], _, _ => Nat.le_refl _
  | 0, x :: _, _, h => absurd (h x (by simp)) (by omega)
  | n + 1, l, hn, h => by
    have h1 := nodup_bound n (l.erase n) (hn.erase n) (fun x hx => by
      have h2 := (hn.mem_erase_iff).1 hx
      have := h x h2.2
      have := h2.1
      omega)
    by_cases hm : n ∈ l
    · have := List.length_erase_of_mem hm
      omega
    · rw [List.erase_of_not_mem hm] at h1
      omega
theorem IMap.size_le {D : DataW Value} (h1 : W.ownsMap P k heldR m (Maps.size D) D) (hk : P.underlying k = some (.int .i64)) (h2 : ∀ l, Maps.has D l = true ↔ ∃ i : Nat, i < n ∧ l = .int .i64 (i : Int) ∧ (f i).isSome = true) : Maps.size D ≤ n := by
  obtain ⟨es, rfl, hpw⟩ := h1.tidy (int_keyed hk)
  have hkey : ∀ p ∈ es, ∃ i : Nat, i < n ∧ p.1 = .int .i64 (i : Int) := by
    intro p hp
    obtain ⟨es', he, hko⟩ := h1.keysOf
    cases he
    obtain ⟨v, hv⟩ := hko p hp
    obtain ⟨x, _, hx, _⟩ := Maps.keyOf_i64 hk hv
    have hh : Maps.has (DataW.map es) p.1 = true := by
      rw [Maps.has_eq, List.any_eq_true]
      exact ⟨p, hp, by rw [hx]; simp [Lit.sameKey]⟩
    obtain ⟨i, hi, hl, _⟩ := (h2 _).1 hh
    exact ⟨i, hi, hl⟩
  have h3 := nodup_bound n (es.map fun p => (Go.intOf p.1).toNat) (by
    refine List.pairwise_map.2 (hpw.imp_of_mem fun {p q} hp hq hne e => hne ?_)
    obtain ⟨a, _, ha⟩ := hkey p hp
    obtain ⟨b, _, hb⟩ := hkey q hq
    rw [ha, hb] at e ⊢
    simp only [Go.intOf, Int.toNat_natCast] at e
    rw [e]) (by
    intro x hx
    obtain ⟨p, hp, rfl⟩ := List.mem_map.1 hx
    obtain ⟨a, han, ha⟩ := hkey p hp
    rw [ha]
    simpa [Go.intOf] using han)
  simpa [Maps.size] using h3
def upd {α : Type} (f : Nat → α) (i : Nat) (v : α) : Nat → α := fun j => if j = i then v else f j
@[simp] theorem upd_same {α : Type} (f : Nat → α) (i : Nat) (v : α) : upd f i v i = v := by simp [upd]
theorem upd_other {α : Type} (f : Nat → α) {i j : Nat} (v : α) (h : j ≠ i) : upd f i v j = f j := by simp [upd, h]
theorem resize {D : DataW Value} {b : Nat} (h : W.ownsMap P k heldR m b D) : W.ownsMap P k heldR m (Maps.size D) D := by
  obtain ⟨es, c, hb, F, _, rfl⟩ := h
  exact ⟨es, c, hb, F, by simp [Maps.size, length_sorted], rfl⟩
theorem IMap.store (h : IMap P k W m n f) (hk : P.underlying k = some (.int .i64)) (ht : P.underlying t = some (.map k e)) (hn : n ≤ 1048576) {i : Nat} (hi : i < n) (v : Value) :
    ∃ W', (Instr.mapUpdate t (.map (some m)) (.int .i64 (i : Int)) v).run P W = .ok () W' ∧ IMap P k W' m n (upd f i (some v)) ∧ W.grownBy W' (some m) := by
  obtain ⟨D, h1, h2, h3⟩ := h
  have hs := IMap.size_le h1 hk h2
  obtain ⟨W', hrun, ho, hg⟩ := h1.update (int_keyed hk) ht (by unfold maxLen; omega) (keyOf_int_mk hk (key_wf (i := i) (by omega))) (val := v) (d := .held v) (ps := []) rfl
  have hM := h1.isMap
  have hkl : WideAt.IsKeyLit (.int .i64 (i : Int)) := trivial
  refine ⟨W', hrun, ⟨_, resize ho, fun l => ?_, fun j u hj hu z => ?_⟩, hg⟩
  · by_cases hl : l = .int .i64 (i : Int)
    · subst hl
      rw [Maps.has_put_same hM hkl]
      simp only [true_iff]
      exact ⟨i, hi, rfl, by simp⟩
    · rw [Maps.has_put_other hl, h2]
      constructor
      · rintro ⟨j, hj, rfl, hs⟩
        have : j ≠ i := fun e => hl (by rw [e])
        exact ⟨j, hj, rfl, by rw [upd_other _ _ this]; exact hs⟩
      · rintro ⟨j, hj, rfl, hs⟩
        have : j ≠ i := fun e => hl (by rw [e])
        rw [upd_other _ _ this] at hs
        exact ⟨j, hj, rfl, hs⟩
  · by_cases e : j = i
    · subst e
      rw [Maps.atKey_put_same hM hkl]
      simp only [upd_same, Option.some.injEq] at hu
      rw [hu]
    · rw [Maps.atKey_put_other (by intro e2; simp only [Lit.int.injEq, true_and] at e2; omega)]
      rw [upd_other _ _ e] at hu
      exact h3 j u hj hu z
theorem IMap.drop (h : IMap P k W m n f) (hk : P.underlying k = some (.int .i64)) (ht : P.underlying t = some (.map k e)) (hn : n ≤ 1048576) {i : Nat} (hi : i < n) (ty : TypeId) :
    ∃ W', (Builtin.delete_ #[t, k] ty #[.map (some m), .int .i64 (i : Int)]).run P W = .ok (.tuple #[]) W' ∧ IMap P k W' m n (upd f i none) ∧ W.grownBy W' (some m) := by
  obtain ⟨D, h1, h2, h3⟩ := h
  obtain ⟨W', hrun, ho, hg⟩ := h1.drop (int_keyed hk) ht (keyOf_int_mk hk (key_wf (i := i) (by omega))) ty
  refine ⟨W', hrun, ⟨_, resize ho, fun l => ?_, fun j u hj hu z => ?_⟩, hg.grown⟩
  · by_cases hl : l = .int .i64 (i : Int)
    · subst hl
      rw [Maps.has_del_same]
      simp only [Bool.false_eq_true, false_iff]
      rintro ⟨j, hj, e, hs⟩
      simp only [Lit.int.injEq, true_and] at e
      obtain rfl : i = j := by omega
      simp at hs
    · rw [Maps.has_del_other hl, h2]
      constructor
      · rintro ⟨j, hj, rfl, hs⟩
        have : j ≠ i := fun e => hl (by rw [e])
        exact ⟨j, hj, rfl, by rw [upd_other _ _ this]; exact hs⟩
      · rintro ⟨j, hj, rfl, hs⟩
        have : j ≠ i := fun e => hl (by rw [e])
        rw [upd_other _ _ this] at hs
        exact ⟨j, hj, rfl, hs⟩
  · by_cases e : j = i
    · subst e; simp at hu
    · rw [Maps.atKey_del_other (by intro e2; simp only [Lit.int.injEq, true_and] at e2; omega)]
      rw [upd_other _ _ e] at hu
      exact h3 j u hj hu z
def keysOf (n : Nat) (f : Nat → Option Value) : List Nat := (List.range n).filter fun i => (f i).isSome
theorem sorted_keys {D : DataW Value} (h1 : W.ownsMap P k heldR m (Maps.size D) D) (hk : P.underlying k = some (.int .i64)) (h2 : ∀ l, Maps.has D l = true ↔ ∃ i : Nat, i < n ∧ l = .int .i64 (i : Int) ∧ (f i).isSome = true) {ss : List Int} (hp : ss.Perm (intKeys D)) :
    ss.mergeSort (fun x y => decide (x ≤ y)) = (keysOf n f).map (fun (i : Nat) => (i : Int)) := by
  have hpk : (intKeys D).Perm ((keysOf n f).map (fun (i : Nat) => (i : Int))) := by
    obtain ⟨es, rfl, hpw⟩ := h1.tidy (int_keyed hk)
    obtain ⟨es', he, hko⟩ := h1.keysOf
    cases he
    refine (perm_intKeys hpw (fun p hp => by obtain ⟨v, hv⟩ := hko p hp; obtain ⟨x, _, hx, _⟩ := Maps.keyOf_i64 hk hv; exact ⟨x, hx⟩) ?_ ?_).symm
    · refine List.pairwise_map.2 ((List.nodup_range.filter _).imp fun hne e => hne (by omega))
    · intro x
      rw [h2, List.mem_map]
      constructor
      · rintro ⟨i, hi, rfl⟩
        have := List.mem_filter.1 hi
        exact ⟨i, List.mem_range.1 this.1, rfl, this.2⟩
      · rintro ⟨i, hi, hl, hs⟩
        simp only [Lit.int.injEq, true_and] at hl
        exact ⟨i, List.mem_filter.2 ⟨List.mem_range.2 hi, hs⟩, hl.symm⟩
  have hpp := hp.trans hpk
  rw [mergeSort_of_perm_i hpp]
  refine List.mergeSort_of_pairwise ?_
  refine List.pairwise_map.2 ?_
  have hr : (List.range n).Pairwise (· < ·) := List.pairwise_lt_range
  refine (hr.filter _).imp fun h => ?_
  simp only [decide_eq_true_eq]
  omega
end
end Go.Proofs.YtnfiapjdkjbdhaaGreat
namespace Go.Proofs.YtnfiapjdkjbdhaaGreat
open Go.RowKit Go.Maps
set_option linter.unusedVariables false
set_option linter.unusedSimpArgs false
set_option maxRecDepth 10000
abbrev bc (l : List UInt8) : List Value := l.map fun b => Value.int .u8 (b.toNat : Int)
theorem bc_one (l : List UInt8) : ∀ v ∈ bc l, v.oneCell' = true := by
  intro v hv
  obtain ⟨b, _, rfl⟩ := List.mem_map.1 hv
  rfl
theorem bc_append (a b : List UInt8) : bc (a ++ b) = bc a ++ bc b := List.map_append
theorem range_part {W : World} {g o : Nat} {cs : List Value} (h : W.rangeAt g o cs) (k n : Nat) : W.rangeAt g (o + k) ((cs.drop k).take n) := by
  intro j v hj
  rw [List.getElem?_take] at hj
  split at hj
  · rw [List.getElem?_drop] at hj
    have := h (k + j) v hj
    rwa [← Nat.add_assoc] at this
  · cases hj
theorem range_drop {W : World} {g o : Nat} {cs : List Value} (h : W.rangeAt g o cs) (k : Nat) : W.rangeAt g (o + k) (cs.drop k) := by
  have := range_part h k cs.length
  rwa [List.take_of_length_le (by simp)] at this
theorem range_append {W : World} {g o : Nat} {a b : List Value} (h : W.rangeAt g o a) (k : W.rangeAt g (o + a.length) b) : W.rangeAt g o (a ++ b) := by
  intro j v hj
  by_cases hl : j < a.length
  · rw [List.getElem?_append_left hl] at hj
    exact h j v hj
  · rw [List.getElem?_append_right (by omega)] at hj
    have := k (j - a.length) v hj
    rwa [show o + a.length + (j - a.length) = o + j by omega] at this
theorem range_kept {W W' : World} {g o : Nat} {cs : List Value} (h : W.rangeAt g o cs) (hb : W'.heap[g]? = W.heap[g]?) : W'.rangeAt g o cs := fun j v hj =>
  (World.cell?_of_block (a := ⟨g, o + j, none⟩) hb).trans (h j v hj)
theorem there_kept {W W' : World} {g o n : Nat} (h : W.there g o n) (hb : W'.heap[g]? = W.heap[g]?) : W'.there g o n := fun j hj => by
  rw [World.cell?_of_block (a := ⟨g, o + j, none⟩) hb, World.frozen?_of_block (a := ⟨g, o + j, none⟩) hb]
  exact h j hj
theorem there_sub {W : World} {g o n : Nat} (h : W.there g o n) (k m : Nat) (hk : k + m ≤ n) : W.there g (o + k) m := fun j hj => by
  have := h (k + j) (by omega)
  rwa [← Nat.add_assoc] at this
theorem there_row {W : World} {g : Nat} {cs : Array Value} {e : TypeId} (h : W.heap[g]? = some (.cells cs e (0, 0))) : W.there g 0 cs.size := fun j hj => by
  rw [Nat.zero_add, cell_of_row W g j cs e (0, 0) h, frozen_of_row W g j cs e h]
  exact ⟨by rw [Array.getElem?_eq_getElem hj]; rfl, rfl⟩
theorem range_row {W : World} {g : Nat} {cs : Array Value} {l : List Value} {e : TypeId} (h : W.heap[g]? = some (.cells cs e (0, 0))) (hl : l <+: cs.toList) : W.rangeAt g 0 l := fun j v hj => by
  rw [Nat.zero_add, cell_of_row W g j cs e (0, 0) h]
  obtain ⟨r, hr⟩ := hl
  have : cs.toList[j]? = some v := by
    rw [← hr, List.getElem?_append_left (List.getElem?_eq_some_iff.1 hj).1]
    exact hj
  simpa using this
theorem setCells_grown (g : Nat) : ∀ (vs : List Value) (o : Nat) (W : World), W.grownBy (W.setCells g o vs) (some g)
  | [], _, W => ⟨rfl, rfl, rfl, Nat.le_refl _, fun _ _ _ => rfl⟩
  | v :: r, o, W => by
    have h := setCells_grown g r (o + 1) (W.setCell ⟨g, o, none⟩ v)
    exact ⟨h.os, h.tape, h.output, Nat.le_trans (by simp [World.setCell]) h.size, fun k hk hne => (h.block k (by simpa [World.setCell] using hk) hne).trans (Below.heap_setCell W ⟨g, o, none⟩ v k (fun e => hne (by rw [e])))⟩
theorem flat_len {ps : List (List UInt8)} (h : ∀ p ∈ ps, p.length = 64) : ps.flatten.length = ps.length * 64 := by
  induction ps with
  | nil => rfl
  | cons p r ih =>
    rw [List.flatten_cons, List.length_append, h p (by simp), ih (fun q hq => h q (by simp [hq]))]
    simp; omega
theorem flat_drop {ps : List (List UInt8)} (h : ∀ p ∈ ps, p.length = 64) (k : Nat) : ps.flatten.drop (k * 64) = (ps.drop k).flatten := by
  induction ps generalizing k with
  | nil => simp
  | cons p r ih =>
    cases k with
    | zero => simp
    | succ k =>
      rw [List.flatten_cons, List.drop_succ_cons, ← ih (fun q hq => h q (by simp [hq])) k, List.drop_append]
      have hp := h p (by simp)
      rw [List.drop_eq_nil_of_le (by omega), List.nil_append]
      congr 1
      omega
theorem flat_at {ps : List (List UInt8)} (h : ∀ p ∈ ps, p.length = 64) (k : Nat) (hk : k < ps.length) : (ps.flatten.drop (k * 64)).take 64 = ps[k] := by
  rw [flat_drop h, List.drop_eq_getElem_cons hk, List.flatten_cons]
  have hp := h ps[k] (List.getElem_mem hk)
  rw [List.take_append_of_le_length (by omega), List.take_of_length_le (by omega)]
def RowAt (W : World) (v : Value) (ps : List (List UInt8)) : Prop :=
  ∃ g off cap, v = .slice (some ⟨g, off, none⟩) ps.length cap ∧ ps.length ≤ cap ∧ cap ≤ maxLen ∧ W.rangeAt g off (bc ps.flatten) ∧ W.there g off (cap * 64)
theorem RowAt.kept {W W' : World} {v : Value} {ps : List (List UInt8)} (h : RowAt W v ps) (hb : ∀ k, v.ownBlock = some k → W'.heap[k]? = W.heap[k]?) : RowAt W' v ps := by
  obtain ⟨g, off, cap, rfl, h1, h2, h3, h4⟩ := h
  have := hb g rfl
  exact ⟨g, off, cap, rfl, h1, h2, range_kept h3 this, there_kept h4 this⟩
theorem RowAt.own {W : World} {v : Value} {ps : List (List UInt8)} (h : RowAt W v ps) (hn : ps ≠ []) : ∃ k, v.ownBlock = some k ∧ k < W.heap.size := by
  obtain ⟨g, off, cap, rfl, h1, h2, h3, h4⟩ := h
  refine ⟨g, rfl, ?_⟩
  have hl : 0 < ps.length := List.length_pos_iff.2 hn
  obtain ⟨u, hu⟩ := Option.isSome_iff_exists.1 (h4 0 (by omega)).1
  exact World.block_lt_of_cell? W _ hu
theorem RowAt.sector {W : World} {g off cap n : Nat} {ps : List (List UInt8)} (h : RowAt W (.slice (some ⟨g, off, none⟩) n cap) ps) (hl : ∀ p ∈ ps, p.length = 64) (k : Nat) (hk : k < ps.length) : W.rangeAt g (off + k * 64) (bc ps[k]) := by
  obtain ⟨g', off', cap', he, h1, h2, h3, h4⟩ := h
  cases he
  have := range_part h3 (k * 64) 64
  rwa [← List.map_drop, ← List.map_take, flat_at hl k hk] at this
theorem RowAt.drop {W : World} {g off cap n : Nat} {ps : List (List UInt8)} (h : RowAt W (.slice (some ⟨g, off, none⟩) n cap) ps) (hl : ∀ p ∈ ps, p.length = 64) (k : Nat) (hk : k ≤ ps.length) :
    RowAt W (.slice (some ⟨g, off + k * 64, none⟩) (n - k) (cap - k)) (ps.drop k) := by
  obtain ⟨g', off', cap', he, h1, h2, h3, h4⟩ := h
  cases he
  refine ⟨g, off + k * 64, cap - k, by rw [List.length_drop], by rw [List.length_drop]; omega, by omega, ?_, ?_⟩
  · have := range_drop h3 (k * 64)
    rwa [← List.map_drop, flat_drop hl] at this
  · exact there_sub h4 _ _ (by omega)
section
variable {P : Program}
theorem run_append_row {t ty e : TypeId} {z : Value} (ht : P.underlying t = some (.slice e)) (hinfo : (P.info? e).map (fun i => (i.zero, i.size, i.bytes)) = some (some z, 64, 64)) (hzs : z.cells.size = 64)
    (W : World) (v : Value) (ps : List (List UInt8)) (hv : (v = .slice none 0 0 ∧ ps = []) ∨ RowAt W v ps) (hl : ∀ p ∈ ps, p.length = 64) (a c : Nat) (s : List UInt8) (hs : s.length = 64) (hnew : W.rangeAt a 0 (bc s)) (hbig : ps.length ≤ 1099511627776) :
    ∃ v' W', (Builtin.append_ #[t, t] ty #[v, .slice (some ⟨a, 0, none⟩) 1 c]).run P W = .ok v' W' ∧ RowAt W' v' (ps ++ [s]) ∧ W.grownBy W' v.ownBlock ∧
      (v'.ownBlock = v.ownBlock ∨ ∃ g, v'.ownBlock = some g ∧ W.heap.size ≤ g) := by
  obtain ⟨i, hi, hz, hsz, hby⟩ := info_parts hinfo
  have hnl : (bc s).length = 1 * i.size := by rw [List.length_map, hs, hsz]
  have hnc : ∀ j u, (bc s)[j]? = some u → W.cell? ((⟨a, 0, none⟩ : Addr).add j) = some u := fun j u hu => by
    rw [Addr.add_lit]; exact hnew j u hu
  have hfl := flat_len hl
  have hps : (ps ++ [s]).flatten = ps.flatten ++ s := by simp
  -- a new block
  have grown : ∀ (olds : List Value) (cap : Nat), olds = bc ps.flatten → ps.length + 1 ≤ cap → cap ≤ maxLen →
      RowAt (W.drew.alloc (.cells (olds.toArray ++ (bc s).toArray ++ Builtin.zeroCells z.cells (cap - (ps.length + 1))) e)) (.slice (some ⟨W.heap.size, 0, none⟩) (ps.length + 1) cap) (ps ++ [s]) := by
    rintro olds cap rfl h1 h2
    have hg := heap_alloc_new W.drew (.cells ((bc ps.flatten).toArray ++ (bc s).toArray ++ Builtin.zeroCells z.cells (cap - (ps.length + 1))) e)
    refine ⟨W.heap.size, 0, cap, by simp, by simpa using h1, h2, range_row hg ?_, ?_⟩
    · rw [hps, bc_append]
      simp
    · have := there_row hg
      refine fun j hj => this j ?_
      simp only [Array.size_append, List.size_toArray, List.length_map, hfl, hs, size_zeroCells, hzs]
      omega
  have hgb : ∀ (cs : Array Value) (row : Option Nat), W.grownBy (W.drew.alloc (.cells cs e)) row := fun cs row => ⟨rfl, rfl, rfl, by simp, fun k hk _ => Below.heap_alloc W.drew _ k hk⟩
  rcases hv with ⟨rfl, rfl⟩ | hrow
  · have hr := run_append_nil (P := P) W t ty e i z ht hi hz ⟨a, 0, none⟩ 1 c (bc s) hnl hnc (by omega) (by omega) (by omega)
    have hg1 := grownCap_ge W 1 0 e
    have hg2 := grownCap_le_maxLen W 1 0 e (by unfold maxLen; omega)
    have := grown [] _ (by simp) hg1 hg2
    refine ⟨_, _, hr, ?_, hgb _ _, .inr ⟨_, rfl, Nat.le_refl _⟩⟩
    simpa using this
  · have hrow' := hrow
    obtain ⟨g, off, cap, rfl, h1, h2, h3, h4⟩ := hrow'
    by_cases hroom : ps.length + 1 ≤ cap
    · have hf := run_firstCells_some (P := P) W i.size 1 ⟨a, 0, none⟩ 1 c (bc s) hnl hnc
      have hth := there_sub h4 (ps.length * 64) 64 (by omega)
      have hth' : W.there g (off + ps.length * 64) (bc s).length := by rw [List.length_map, hs]; exact hth
      have hst := run_storeCells_cells (P := P) g (off + ps.length * 64) (bc s) 0 W (fun j hj => (hth' j hj).1) (fun j hj => (hth' j hj).2) (bc_one s)
      refine ⟨.slice (some ⟨g, off, none⟩) (ps.length + 1) cap, W.setCells g (off + ps.length * 64) (bc s), ?_, ⟨g, off, cap, by simp, by simpa using hroom, h2, ?_, World.there_setCells h4 _ _ _⟩, setCells_grown _ _ _ _, .inl rfl⟩
      · rw [hsz] at hf
        simp only [Nat.add_zero] at hst
        simp [Builtin.append_, run_underlying ht, sizeOf, typeInfo, hi, Builtin.lenOf, hroom, hf, Addr.add_lit, hst, hsz]
      · rw [hps, bc_append]
        refine range_append (World.rangeAt_setCells_apart h3 _ _ _ ?_) ?_
        · right; left; rw [List.length_map, hfl]; exact Nat.le_refl _
        · rw [List.length_map, hfl]
          exact World.rangeAt_setCells_same _ _ _ _ hth'
    · have hr := run_append_grow (P := P) W t ty e i z ht hi hz ⟨g, off, none⟩ ps.length cap (bc ps.flatten) (by rw [List.length_map, hfl, hsz])
        (fun j u hu => by rw [Addr.add_lit]; exact h3 j u hu) ⟨a, 0, none⟩ 1 c (bc s) hnl hnc (by omega) (by omega) (growslice_fits (by omega) (by rw [hby]; omega))
      have hg1 := grownCap_ge W (ps.length + 1) cap e
      have hg2 := grownCap_le_maxLen W (ps.length + 1) cap e (by unfold maxLen; omega)
      exact ⟨_, _, hr, grown _ _ rfl hg1 hg2, hgb _ _, .inr ⟨_, rfl, Nat.le_refl _⟩⟩
end
end Go.Proofs.YtnfiapjdkjbdhaaGreat
/- A device, as it lies in memory. -/
namespace Go.Proofs.YtnfiapjdkjbdhaaGreat
open Go.RowKit Go.Maps
set_option linter.unusedVariables false
set_option linter.unusedSimpArgs false
set_option maxRecDepth 10000
structure Dv where
  n : Nat
  dur : Nat → List UInt8
  row : Nat → List (List UInt8)
  wr : Nat
  left : Nat
  down : Bool
structure Fine (M : Dv) : Prop where
  n : M.n ≤ 4096
  dur : ∀ i, i < M.n → (M.dur i).length = 64
  row : ∀ i, ∀ p ∈ M.row i, p.length = 64
  out : ∀ i, M.row i ≠ [] → i < M.n
  rows : ∀ i, (M.row i).length ≤ M.wr
  left : M.left ≤ 9223372036854775807
def entry (row : Nat → List (List UInt8)) (vals : Nat → Value) (i : Nat) : Option Value := if (row i).isEmpty then none else some (.agg #[vals i])
theorem entry_none {row : Nat → List (List UInt8)} {vals : Nat → Value} {i : Nat} (h : row i = []) : entry row vals i = none := by simp [entry, h]
theorem entry_some {row : Nat → List (List UInt8)} {vals : Nat → Value} {i : Nat} (h : row i ≠ []) : entry row vals i = some (.agg #[vals i]) := by simp [entry, h]
def Rk (row : Nat → List (List UInt8)) (vals : Nat → Value) (k : Nat) : Prop := ∃ i, row i ≠ [] ∧ (vals i).ownBlock = some k
structure Head (W : World) (b g c m n wr left : Nat) (down : Bool) : Prop where
  c0 : W.cell? ⟨b, 0, none⟩ = some (.int .i64 (left : Int))
  c1 : W.cell? ⟨b, 1, none⟩ = some (.bool down)
  c2 : W.cell? ⟨b, 2, none⟩ = some (.slice (some ⟨g, 0, none⟩) n c)
  c3 : W.cell? ⟨b, 3, none⟩ = some (.map (some m))
  c4 : W.cell? ⟨b, 4, none⟩ = some (.int .u64 (wr : Int))
  f0 : W.frozen? ⟨b, 0, none⟩ = false
  f1 : W.frozen? ⟨b, 1, none⟩ = false
  f2 : W.frozen? ⟨b, 2, none⟩ = false
  f3 : W.frozen? ⟨b, 3, none⟩ = false
  f4 : W.frozen? ⟨b, 4, none⟩ = false
theorem Head.kept {W W' : World} {b g c m n wr left : Nat} {down : Bool} (h : Head W b g c m n wr left down) (hb : W'.heap[b]? = W.heap[b]?) : Head W' b g c m n wr left down := by
  have hc : ∀ j, W'.cell? ⟨b, j, none⟩ = W.cell? ⟨b, j, none⟩ := fun j => World.cell?_of_block (a := ⟨b, j, none⟩) hb
  have hf : ∀ j, W'.frozen? ⟨b, j, none⟩ = W.frozen? ⟨b, j, none⟩ := fun j => World.frozen?_of_block (a := ⟨b, j, none⟩) hb
  exact ⟨(hc 0).trans h.c0, (hc 1).trans h.c1, (hc 2).trans h.c2, (hc 3).trans h.c3, (hc 4).trans h.c4, (hf 0).trans h.f0, (hf 1).trans h.f1, (hf 2).trans h.f2, (hf 3).trans h.f3, (hf 4).trans h.f4⟩
structure Du (W : World) (g n : Nat) (dur : Nat → List UInt8) : Prop where
  at_ : ∀ i, i < n → W.rangeAt g (i * 64) (bc (dur i))
  there : W.there g 0 (n * 64)
theorem Du.kept {W W' : World} {g n : Nat} {dur : Nat → List UInt8} (h : Du W g n dur) (hb : W'.heap[g]? = W.heap[g]?) : Du W' g n dur :=
  ⟨fun i hi => range_kept (h.at_ i hi) hb, there_kept h.there hb⟩
structure Ro (W : World) (m n : Nat) (row : Nat → List (List UInt8)) (vals : Nat → Value) : Prop where
  map : IMap Tryz.prog 3 W m n (entry row vals)
  at_ : ∀ i, row i ≠ [] → RowAt W (vals i) (row i)
  apart : ∀ i j, row i ≠ [] → row j ≠ [] → i ≠ j → (vals i).ownBlock ≠ (vals j).ownBlock
theorem Ro.kept {W W' : World} {m n : Nat} {row : Nat → List (List UInt8)} {vals : Nat → Value} (h : Ro W m n row vals) (hb : W'.heap[m]? = W.heap[m]?) (hr : ∀ k, Rk row vals k → W'.heap[k]? = W.heap[k]?) : Ro W' m n row vals :=
  ⟨h.map.kept hb, fun i hi => (h.at_ i hi).kept fun k hk => hr k ⟨i, hi, hk⟩, h.apart⟩
structure DevIn (S : Nat → Prop) (W : World) (b g c m : Nat) (vals : Nat → Value) (M : Dv) : Prop where
  fine : Fine M
  head : Head W b g c m M.n M.wr M.left M.down
  du : Du W g M.n M.dur
  ro : Ro W m M.n M.row vals
  cap : M.n ≤ c ∧ c ≤ maxLen
  sb : S b
  sg : S g
  sm : S m
  sr : ∀ k, Rk M.row vals k → S k
  bg : b ≠ g
  bm : b ≠ m
  gm : g ≠ m
  rb : ¬ Rk M.row vals b
  rg : ¬ Rk M.row vals g
  rm : ¬ Rk M.row vals m
  lt : ∀ k, S k → k < W.heap.size
def DevAt (S : Nat → Prop) (W : World) (b : Nat) (M : Dv) : Prop := ∃ g c m vals, DevIn S W b g c m vals M
theorem DevIn.kept {S : Nat → Prop} {W W' : World} {b g c m : Nat} {vals : Nat → Value} {M : Dv} (h : DevIn S W b g c m vals M) (hs : W.heap.size ≤ W'.heap.size) (hb : ∀ k, S k → W'.heap[k]? = W.heap[k]?) : DevIn S W' b g c m vals M :=
  { h with
    head := h.head.kept (hb b h.sb)
    du := h.du.kept (hb g h.sg)
    ro := h.ro.kept (hb m h.sm) fun k hk => hb k (h.sr k hk)
    lt := fun k hk => Nat.lt_of_lt_of_le (h.lt k hk) hs }
theorem DevAt.kept {S : Nat → Prop} {W W' : World} {b : Nat} {M : Dv} (h : DevAt S W b M) (hs : W.heap.size ≤ W'.heap.size) (hb : ∀ k, S k → W'.heap[k]? = W.heap[k]?) : DevAt S W' b M := by
  obtain ⟨g, c, m, vals, h⟩ := h
  exact ⟨g, c, m, vals, h.kept hs hb⟩
theorem DevAt.below {S : Nat → Prop} {W W' : World} {b : Nat} {M : Dv} (h : DevAt S W b M) (hb : Below W.heap.size W W') : DevAt S W' b M := by
  have h' := h
  obtain ⟨g, c, m, vals, hd⟩ := h'
  exact h.kept hb.size fun k hk => hb.block k (hd.lt k hk)
theorem DevAt.fine {S : Nat → Prop} {W : World} {b : Nat} {M : Dv} (h : DevAt S W b M) : Fine M := by
  obtain ⟨g, c, m, vals, hd⟩ := h
  exact hd.fine
theorem DevAt.lt {S : Nat → Prop} {W : World} {b : Nat} {M : Dv} (h : DevAt S W b M) : ∀ k, S k → k < W.heap.size := by
  obtain ⟨g, c, m, vals, hd⟩ := h
  exact hd.lt
structure Only (S : Nat → Prop) (W W' : World) : Prop where
  os : W'.os = W.os
  tape : W'.tape = W.tape
  output : W'.output = W.output
  size : W.heap.size ≤ W'.heap.size
  block : ∀ k, k < W.heap.size → ¬ S k → W'.heap[k]? = W.heap[k]?
theorem Only.refl (S : Nat → Prop) (W : World) : Only S W W := ⟨rfl, rfl, rfl, Nat.le_refl _, fun _ _ _ => rfl⟩
theorem Only.trans {S S' : Nat → Prop} {A B C : World} (h : Only S A B) (k : Only S' B C) (hs : ∀ j, S' j → S j ∨ A.heap.size ≤ j) : Only S A C :=
  ⟨k.os.trans h.os, k.tape.trans h.tape, k.output.trans h.output, Nat.le_trans h.size k.size, fun j hj hn =>
    (k.block j (Nat.lt_of_lt_of_le hj h.size) (fun e => by rcases hs j e with e | e; exact hn e; omega)).trans (h.block j hj hn)⟩
theorem Only.of_below {S : Nat → Prop} {W W' : World} (h : Below W.heap.size W W') : Only S W W' := ⟨h.os, h.tape, h.output, h.size, fun k hk _ => h.block k hk⟩
theorem Only.of_grown {S : Nat → Prop} {W W' : World} {row : Option Nat} (h : W.grownBy W' row) (hr : ∀ k, row = some k → S k) : Only S W W' :=
  ⟨h.os, h.tape, h.output, h.size, fun k hk hn => h.block k hk (fun e => hn (hr k e.symm))⟩
theorem Only.below {S : Nat → Prop} {B : Nat} {W W' : World} (h : Only S W W') (hB : B ≤ W.heap.size) (hs : ∀ k, S k → B ≤ k) : Below B W W' :=
  ⟨h.os, h.tape, h.output, h.size, fun k hk => h.block k (by omega) (fun e => by have := hs k e; omega)⟩
theorem Only.setCell (S : Nat → Prop) (W : World) (a : Addr) (v : Value) (h : S a.block) : Only S W (W.setCell a v) :=
  ⟨rfl, rfl, rfl, by simp [World.setCell], fun k _ hn => Below.heap_setCell W a v k (fun e => hn (by rw [e]; exact h))⟩
def Step (S : Nat → Prop) (W : World) (b : Nat) (M : Dv) (W' : World) : Prop := ∃ S', DevAt S' W' b M ∧ Only S W W' ∧ ∀ k, S' k → S k ∨ W.heap.size ≤ k
theorem Step.of {S : Nat → Prop} {W W' : World} {b : Nat} {M : Dv} (h : DevAt S W' b M) (o : Only S W W') : Step S W b M W' := ⟨S, h, o, fun _ hk => .inl hk⟩
theorem Step.trans {S : Nat → Prop} {A B C : World} {b : Nat} {M N : Dv} (h : Step S A b M B) (k : ∀ S', DevAt S' B b M → Step S' B b N C) : Step S A b N C := by
  obtain ⟨S', hd, ho, hs⟩ := h
  obtain ⟨S2, hd2, ho2, hs2⟩ := k S' hd
  refine ⟨S2, hd2, ho.trans ho2 hs, fun j hj => ?_⟩
  rcases hs2 j hj with e | e
  · exact hs j e
  · exact .inr (Nat.le_trans ho.size e)
theorem Step.from {S : Nat → Prop} {W W' : World} {b B : Nat} {M : Dv} (h : Step S W b M W') (hB : B ≤ W.heap.size) (hs : ∀ k, S k → B ≤ k) : ∃ S', DevAt S' W' b M ∧ (∀ k, S' k → B ≤ k) ∧ Below B W W' := by
  obtain ⟨S', hd, ho, hk⟩ := h
  exact ⟨S', hd, fun k e => by rcases hk k e with e | e; exact hs k e; omega, ho.below hB hs⟩
/-! What a device does. -/
def Dv.cur (M : Dv) (i : Nat) : List UInt8 := ((M.row i).getLast?).getD (M.dur i)
def Dv.write (M : Dv) (i : Nat) (s : List UInt8) : Dv :=
  { M with row := upd M.row i (M.row i ++ [s]), wr := M.wr + 1, left := M.left - 1, down := M.down || M.left == 1 }
def Dv.settle (M : Dv) (i k : Nat) : Dv :=
  { M with dur := upd M.dur i (if k = 0 then M.dur i else (M.row i).getD (k - 1) []), row := upd M.row i ((M.row i).drop k) }
def Dv.fuse (M : Dv) (n : Nat) : Dv := { M with left := n, down := M.down || n == 0 }
def Dv.loose (M : Dv) : List Nat := (List.range M.n).filter fun i => !(M.row i).isEmpty
def dev0 (n : Nat) : Dv := ⟨n, fun _ => List.replicate 64 0, fun _ => [], 0, 0, false⟩
theorem Dv.loose_keys (M : Dv) (vals : Nat → Value) : keysOf M.n (entry M.row vals) = M.loose := by
  unfold keysOf Dv.loose
  congr 1
  funext i
  unfold entry
  cases h : (M.row i).isEmpty <;> simp
end Go.Proofs.YtnfiapjdkjbdhaaGreat
/- Layer 3 (dev): what only reads a device, and what writes its head. -/
namespace Go.Proofs.YtnfiapjdkjbdhaaGreat
open Go.RowKit Go.Maps
set_option linter.unusedVariables false
set_option linter.unusedSimpArgs false
set_option maxRecDepth 10000
abbrev devp (b : Nat) : Value := .pointer (some ⟨b, 0, none⟩)
def downErr (down : Bool) : Int := if down then 30 else 0
theorem works_any (b : Nat) (down : Bool) (W : World) (h1 : W.cell? ⟨b, 1, none⟩ = some (.bool down)) :
    Calls Tryz.prog 138 #[devp b] W fun e w' => e = .returned (.int .i64 (downErr down)) ∧ W = w' := by
  cases down
  all_goals
    go_enter Tryz.func138, Tryz.ntmps138
    go_wp2
    go_ret
    exact ⟨rfl, rfl⟩
theorem has_yes (b g c n i : Nat) (W : World) (hn : n ≤ 4096) (hi : i < n) (h2 : W.cell? ⟨b, 2, none⟩ = some (.slice (some ⟨g, 0, none⟩) n c)) :
    Calls Tryz.prog 65 #[devp b, .int .i64 (i : Int)] W fun e w' => e = .returned (.bool true) ∧ W = w' := by
  go_enter Tryz.func65, Tryz.ntmps65
  go_wp2
  go_ret
  exact ⟨rfl, rfl⟩
theorem has_no (b g c n : Nat) (i : Int) (W : World) (hn : n ≤ 4096) (hi : i < 0 ∨ (n : Int) ≤ i) (h2 : W.cell? ⟨b, 2, none⟩ = some (.slice (some ⟨g, 0, none⟩) n c)) :
    Calls Tryz.prog 65 #[devp b, .int .i64 i] W fun e w' => e = .returned (.bool false) ∧ W = w' := by
  rcases hi with hi | hi
  · go_enter Tryz.func65, Tryz.ntmps65
    go_wp2
    go_ret
    exact ⟨rfl, rfl⟩
  · have h0 : 0 ≤ i := by omega
    have hlt : decide (i < (n : Int)) = false := by simpa using hi
    go_enter Tryz.func65, Tryz.ntmps65
    go_wp2
    go_ret
    exact ⟨rfl, rfl⟩
theorem downFn_any (b : Nat) (down : Bool) (W : World) (h1 : W.cell? ⟨b, 1, none⟩ = some (.bool down)) :
    Calls Tryz.prog 80 #[devp b] W fun e w' => e = .returned (.bool down) ∧ W = w' := by
  go_enter Tryz.func80, Tryz.ntmps80
  go_wp2
  go_ret
  exact ⟨rfl, rfl⟩
theorem row_field (A : Option Addr) (n cap : Nat) (W : World) : (Instr.field 222 (.agg #[.slice A n cap]) 0).run Tryz.prog W = .ok (.slice A n cap) W := by kernel_rfl
theorem row_build (A : Option Addr) (n cap : Nat) (W : World) : (Instr.build 222 #[(0, .slice A n cap)]).run Tryz.prog W = .ok (.agg #[.slice A n cap]) W := by kernel_rfl
theorem look_row {S : Nat → Prop} {W : World} {b g c m : Nat} {vals : Nat → Value} {M : Dv} (h : DevIn S W b g c m vals M) (i : Nat) (hi : i < M.n) :
    ∃ A cap, (Instr.lookup 130 (.map (some m)) (.int .i64 (i : Int)) false).run Tryz.prog W = .ok (.agg #[.slice A (M.row i).length cap]) W ∧
      ((M.row i = [] ∧ A = none ∧ cap = 0) ∨ (M.row i ≠ [] ∧ .slice A (M.row i).length cap = vals i)) := by
  have hr := h.ro.map.look Tryz.underlying3 Tryz.underlying130 (Tryz.zeroValue222 W) (by have := h.fine.n; omega) hi
  by_cases hrow : M.row i = []
  · rw [entry_none hrow] at hr
    exact ⟨none, 0, by rw [hr, hrow]; rfl, .inl ⟨hrow, rfl, rfl⟩⟩
  · rw [entry_some hrow] at hr
    obtain ⟨g', off, cap, hv, _⟩ := h.ro.at_ i hrow
    exact ⟨_, _, by rw [hr, hv]; rfl, .inr ⟨hrow, hv.symm⟩⟩
end Go.Proofs.YtnfiapjdkjbdhaaGreat
/- Layer 3 (dev): fuses; what writes a device's head. -/
namespace Go.Proofs.YtnfiapjdkjbdhaaGreat
open Go.RowKit Go.Maps
set_option linter.unusedVariables false
set_option linter.unusedSimpArgs false
set_option maxRecDepth 10000
theorem set_here {W : World} {b j : Nat} {u : Value} (v : Value) (h : W.cell? ⟨b, j, none⟩ = some u) : (W.setCell ⟨b, j, none⟩ v).cell? ⟨b, j, none⟩ = some v :=
  World.cell?_setCell_same' W ⟨b, j, none⟩ v (by rw [h]; rfl)
theorem set_there (W : World) (b : Nat) {i j : Nat} (v : Value) (h : i ≠ j) : (W.setCell ⟨b, i, none⟩ v).cell? ⟨b, j, none⟩ = W.cell? ⟨b, j, none⟩ :=
  World.cell?_setCell_other _ _ _ _ (by intro e; injection e with _ e; exact h e)
section
variable {W : World} {b g c m n wr left : Nat} {down : Bool}
theorem Head.set0 (h : Head W b g c m n wr left down) (x : Nat) : Head (W.setCell ⟨b, 0, none⟩ (.int .i64 (x : Int))) b g c m n wr x down := by
  refine ⟨set_here _ h.c0, ?_, ?_, ?_, ?_, ?_, ?_, ?_, ?_, ?_⟩
  all_goals first | (rw [set_there _ _ _ (by decide)]) | (rw [World.frozen?_setCell])
  all_goals first | exact h.c0 | exact h.c1 | exact h.c2 | exact h.c3 | exact h.c4 | exact h.f0 | exact h.f1 | exact h.f2 | exact h.f3 | exact h.f4
theorem Head.set1 (h : Head W b g c m n wr left down) (x : Bool) : Head (W.setCell ⟨b, 1, none⟩ (.bool x)) b g c m n wr left x := by
  refine ⟨?_, set_here _ h.c1, ?_, ?_, ?_, ?_, ?_, ?_, ?_, ?_⟩
  all_goals first | (rw [set_there _ _ _ (by decide)]) | (rw [World.frozen?_setCell])
  all_goals first | exact h.c0 | exact h.c1 | exact h.c2 | exact h.c3 | exact h.c4 | exact h.f0 | exact h.f1 | exact h.f2 | exact h.f3 | exact h.f4
theorem Head.set4 (h : Head W b g c m n wr left down) (x : Nat) : Head (W.setCell ⟨b, 4, none⟩ (.int .u64 (x : Int))) b g c m n x left down := by
  refine ⟨?_, ?_, ?_, ?_, set_here _ h.c4, ?_, ?_, ?_, ?_, ?_⟩
  all_goals first | (rw [set_there _ _ _ (by decide)]) | (rw [World.frozen?_setCell])
  all_goals first | exact h.c0 | exact h.c1 | exact h.c2 | exact h.c3 | exact h.c4 | exact h.f0 | exact h.f1 | exact h.f2 | exact h.f3 | exact h.f4
end
theorem DevIn.headed {S : Nat → Prop} {W W' : World} {b g c m : Nat} {vals : Nat → Value} {M : Dv} (h : DevIn S W b g c m vals M) (hs : W.heap.size ≤ W'.heap.size) (ho : ∀ k, k < W.heap.size → k ≠ b → W'.heap[k]? = W.heap[k]?) {wr left : Nat} {down : Bool}
    (hh : Head W' b g c m M.n wr left down) (hl : left ≤ 9223372036854775807) (hw : M.wr ≤ wr) : DevIn S W' b g c m vals { M with wr := wr, left := left, down := down } :=
  { fine := { n := h.fine.n, dur := h.fine.dur, row := h.fine.row, out := h.fine.out, rows := fun i => Nat.le_trans (h.fine.rows i) hw, left := hl }
    head := hh
    du := h.du.kept (ho g (h.lt g h.sg) (Ne.symm h.bg))
    ro := h.ro.kept (ho m (h.lt m h.sm) (Ne.symm h.bm)) fun k hk => ho k (h.lt k (h.sr k hk)) (fun e => h.rb (e ▸ hk))
    cap := h.cap, sb := h.sb, sg := h.sg, sm := h.sm, sr := h.sr, bg := h.bg, bm := h.bm, gm := h.gm, rb := h.rb, rg := h.rg, rm := h.rm
    lt := fun k hk => Nat.lt_of_lt_of_le (h.lt k hk) hs }
def burnt (M : Dv) : Dv := { M with left := M.left - 1, down := M.down || M.left == 1 }
theorem set_other (W : World) (b j k : Nat) (v : Value) (h : k ≠ b) : (W.setCell ⟨b, j, none⟩ v).heap[k]? = W.heap[k]? := Below.heap_setCell W ⟨b, j, none⟩ v k h
theorem set_size (W : World) (b j : Nat) (v : Value) : (W.setCell ⟨b, j, none⟩ v).heap.size = W.heap.size := by simp [World.setCell]
theorem burn_any {S : Nat → Prop} {W : World} {b g c m : Nat} {vals : Nat → Value} {M : Dv} (h : DevIn S W b g c m vals M) (hd : M.down = false) :
    Calls Tryz.prog 139 #[devp b] W fun e w' => e = .returned (.tuple #[]) ∧ DevIn S w' b g c m vals (burnt M) ∧ Only S W w' := by
  have h0 := h.head.c0
  have h1 := h.head.c1
  have f0 := h.head.f0
  have f1 := h.head.f1
  have hl := h.fine.left
  have H := Lib.hid h
  have HD := Lib.hid hd
  clear h
  by_cases hz : M.left = 0
  · have hB : burnt M = M := by unfold burnt; rw [hz, HD.out]; cases M; simp_all
    have HB := Lib.hid hB
    clear hB
    rw [hz] at h0
    clear hd hz
    go_enter Tryz.func139, Tryz.ntmps139
    go_wp2
    go_end0
    exact ⟨rfl, by rw [HB.out]; exact H.out, Only.refl _ _⟩
  · have hpos : 0 < M.left := by omega
    have hA := H.out.headed (W' := (W.setCell ⟨b, 0, none⟩ (.int .i64 ((M.left - 1 : Nat) : Int))).setCell ⟨b, 1, none⟩ (.bool (M.left == 1))) (by simp [World.setCell]) (fun k hk hne => by rw [set_other _ _ _ _ _ hne, set_other _ _ _ _ _ hne])
      ((H.out.head.set0 (M.left - 1)).set1 (M.left == 1)) (by omega) (Nat.le_refl _)
    have hO : Only S W ((W.setCell ⟨b, 0, none⟩ (.int .i64 ((M.left - 1 : Nat) : Int))).setCell ⟨b, 1, none⟩ (.bool (M.left == 1))) :=
      (Only.setCell S W ⟨b, 0, none⟩ _ H.out.sb).trans (Only.setCell S _ ⟨b, 1, none⟩ _ H.out.sb) (fun _ e => .inl e)
    have hE : { M with wr := M.wr, left := M.left - 1, down := M.left == 1 } = burnt M := by unfold burnt; rw [HD.out]; simp
    rw [hE] at hA
    have HA := Lib.hid hA
    have HO := Lib.hid hO
    have hcast : ((M.left - 1 : Nat) : Int) = (M.left : Int) - 1 := by omega
    have hbool : (((M.left : Int) - 1) == 0) = (M.left == 1) := by
      rw [Bool.eq_iff_iff]; simp; omega
    have Hc := Lib.hid hcast
    have Hb := Lib.hid hbool
    clear hA hO hE hd hz hcast hbool
    have hlt : 0 < (M.left : Int) := by omega
    go_enter Tryz.func139, Tryz.ntmps139
    go_wp2
    go_end0
    have HA2 := HA.out
    have HO2 := HO.out
    rw [Hc.out, ← Hb.out] at HA2 HO2
    exact ⟨rfl, HA2, HO2⟩
end Go.Proofs.YtnfiapjdkjbdhaaGreat
/- Layer 3 (dev): a fuse is set; a sector is read. -/
namespace Go.Proofs.YtnfiapjdkjbdhaaGreat
open Go.RowKit Go.Maps
set_option linter.unusedVariables false
set_option linter.unusedSimpArgs false
set_option maxRecDepth 10000
theorem secInfo : (Tryz.prog.info? 126).map (fun i => (i.zero, i.size, i.bytes)) = some (some (.agg (Array.replicate 64 (.int .u8 0))), 64, 64) := by kernel_rfl
theorem sec_at (W : World) (g o : Nat) (l : List UInt8) (hl : l.length = 64) (h : W.rangeAt g o (bc l)) : (Instr.loadAt 126 (.pointer (some ⟨g, o, none⟩))).run Tryz.prog W = .ok (.agg (bc l).toArray) W :=
  run_loadAt_mid W g o 126 (bc l) _ h Tryz.underlying126 rfl (by rw [List.length_map, hl]; kernel_rfl)
theorem sec_store (W : World) (g o : Nat) (l : List UInt8) (hl : l.length = 64) (h : W.there g o 64) : (Instr.storeAt 126 (.pointer (some ⟨g, o, none⟩)) (.agg (bc l).toArray)).run Tryz.prog W = .ok () (W.setCells g o (bc l)) := by
  have := run_storeAt_mid (P := Tryz.prog) W g o 126 (bc l).toArray (by simpa [hl] using h) (by simp only [List.size_toArray, List.length_map, hl]; kernel_rfl) (all_oneCell_toArray (bc_one l))
  simpa using this
def secLoad (x : Value) : Sem Value := Instr.loadAt 126 x
def secStore (x v : Value) : Sem Unit := Instr.storeAt 126 x v
@[go_sem ↓] theorem sec_load_fold (x : Value) : Instr.loadAt 126 x = secLoad x := rfl
@[go_sem ↓] theorem sec_store_fold (x v : Value) : Instr.storeAt 126 x v = secStore x v := rfl
theorem sec_load (W : World) (g o : Nat) (l : List UInt8) (hl : l.length = 64) (h : W.rangeAt g o (bc l)) : (secLoad (.pointer (some ⟨g, o, none⟩))).run Tryz.prog W = .ok (.agg (bc l).toArray) W := sec_at W g o l hl h
theorem sec_put (W : World) (g o : Nat) (l : List UInt8) (hl : l.length = 64) (h : W.there g o 64) : (secStore (.pointer (some ⟨g, o, none⟩)) (.agg (bc l).toArray)).run Tryz.prog W = .ok () (W.setCells g o (bc l)) := sec_store W g o l hl h
theorem sec_new (W : World) (l : List UInt8) (hl : l.length = 64) (c : Array Value) (hc : c.size = 64) : (secStore (.pointer (some ⟨W.heap.size, 0, none⟩)) (.agg (bc l).toArray)).run Tryz.prog (W.alloc (.cells c 126)) = .ok () (W.alloc (.cells (bc l).toArray 126)) :=
  run_storeAt_new W 126 c (bc l).toArray (by simp only [List.size_toArray, List.length_map, hl]; kernel_rfl) (by rw [hc]; simp [hl]) (all_oneCell_toArray (bc_one l))
theorem sec_bytes (W : World) (l : List UInt8) : Bytes (W.alloc (.cells (bc l).toArray 126)) W.heap.size l :=
  bytes_made (e := 126) (heap_alloc_new W _)
set_option maxHeartbeats 1000000 in
set_option maxRecDepth 100000 in
theorem read_new (b g c m n i : Nat) (W : World) (l : List UInt8) (hn : n ≤ 4096) (hi : i < n) (h1 : W.cell? ⟨b, 1, none⟩ = some (.bool false)) (h2 : W.cell? ⟨b, 2, none⟩ = some (.slice (some ⟨g, 0, none⟩) n c)) (h3 : W.cell? ⟨b, 3, none⟩ = some (.map (some m)))
    (hl : l.length = 64) (hr : W.rangeAt g (i * 64) (bc l)) (k : Nat) (A : Option Addr) (cap : Nat) (hlk2 : ∀ cs, (Instr.lookup 130 (.map (some m)) (.int .i64 (i : Int)) false).run Tryz.prog (W.alloc (.cells cs 126)) = .ok (.agg #[.slice A k cap]) (W.alloc (.cells cs 126)))
    (t : List UInt8) (ht : t.length = 64) (hcur : (k = 0 ∧ t = l) ∨ ∃ g' off, A = some ⟨g', off, none⟩ ∧ 0 < k ∧ k ≤ 1099511627776 ∧ W.rangeAt g' (off + (k - 1) * 64) (bc t)) :
    Calls Tryz.prog 133 #[devp b, .int .i64 (i : Int)] W fun e w' => e = .returned (.tuple #[str t, .int .i64 0]) ∧ Below W.heap.size W w' := by
  have hconv : (convert 53 9 (.slice (some ⟨W.heap.size, 0, none⟩) 64 64)).run Tryz.prog (W.alloc (.cells (bc t).toArray 126)) = .ok (str t) (W.alloc (.cells (bc t).toArray 126)) := by
    have := string_of_bytes (P := Tryz.prog) 53 9 5 Tryz.underlying53 Tryz.underlying5 Tryz.underlying9 _ W.heap.size 64 t (sec_bytes W t)
    rwa [ht] at this
  have hf := row_field A k cap
  have hbl : b < W.heap.size := World.block_lt_of_cell? W _ h1
  have hsl := sec_new W l hl
  have hst := sec_new W t ht
  have hld := sec_load W g (i * 64) l hl hr
  have hB : Below W.heap.size W (W.alloc (.cells (bc t).toArray 126)) := (Below.refl _ _).alloc (Nat.le_refl _) _
  clear hr
  rcases hcur with ⟨rfl, rfl⟩ | ⟨g', off, rfl, hk0, hk1, hrt⟩
  · go_enter Tryz.func133, Tryz.ntmps133
    go_wp2_with fail
    refine (works_any _ _ _ h1).mono ?_
    rintro e w1 ⟨rfl, rfl⟩
    go_wp2_with fail
    refine (has_yes _ _ _ _ _ _ hn hi h2).mono ?_
    rintro e w1 ⟨rfl, rfl⟩
    go_wp2_with fail
    go_ret2
    exact ⟨rfl, hB⟩
  · have hlt : ∀ cs, (secLoad (.pointer (some ⟨g', off + (k - 1) * 64, none⟩))).run Tryz.prog (W.alloc (.cells cs 126)) = .ok (.agg (bc t).toArray) (W.alloc (.cells cs 126)) := fun cs => sec_load _ _ _ t ht (World.rangeAt_alloc hrt _)
    clear hrt
    have hk2 : 0 < (k : Int) := by omega
    go_enter Tryz.func133, Tryz.ntmps133
    go_wp2_with fail
    refine (works_any _ _ _ h1).mono ?_
    rintro e w1 ⟨rfl, rfl⟩
    go_wp2_with fail
    refine (has_yes _ _ _ _ _ _ hn hi h2).mono ?_
    rintro e w1 ⟨rfl, rfl⟩
    go_wp2_with fail
    go_ret2
    exact ⟨rfl, hB⟩
theorem Dv.cur_nil {M : Dv} {i : Nat} (h : M.row i = []) : M.cur i = M.dur i := by simp [Dv.cur, h]
theorem Dv.cur_row {M : Dv} {i : Nat} (h : M.row i ≠ []) : M.cur i = (M.row i)[(M.row i).length - 1]'(by have := List.length_pos_iff.2 h; omega) := by
  unfold Dv.cur
  rw [List.getLast?_eq_getElem?, List.getElem?_eq_getElem (by have := List.length_pos_iff.2 h; omega)]
  rfl
theorem Fine.cur {M : Dv} (h : Fine M) {i : Nat} (hi : i < M.n) : (M.cur i).length = 64 := by
  by_cases hr : M.row i = []
  · rw [Dv.cur_nil hr]; exact h.dur i hi
  · rw [Dv.cur_row hr]; exact h.row i _ (List.getElem_mem _)
theorem read_any {S : Nat → Prop} {W : World} {b : Nat} {M : Dv} (h : DevAt S W b M) (hd : M.down = false) (hw : M.wr ≤ 1099511627776) (i : Nat) (hi : i < M.n) :
    Calls Tryz.prog 133 #[devp b, .int .i64 (i : Int)] W fun e w' => e = .returned (.tuple #[str (M.cur i), .int .i64 0]) ∧ Below W.heap.size W w' := by
  obtain ⟨g, c, m, vals, h⟩ := h
  obtain ⟨A, cap, _, hA⟩ := look_row h i hi
  have h1 := h.head.c1
  rw [hd] at h1
  refine read_new b g c m M.n i W (M.dur i) h.fine.n hi h1 h.head.c2 h.head.c3 (h.fine.dur i hi) (h.du.at_ i hi) (M.row i).length A cap (fun cs => ?_) (M.cur i) (h.fine.cur hi) ?_
  · obtain ⟨A', cap', hl', hA'⟩ := look_row (h.kept (W' := W.alloc (.cells cs 126)) (by simp) (fun k hk => Below.heap_alloc W _ k (h.lt k hk))) i hi
    rw [hl']
    rcases hA with ⟨_, rfl, rfl⟩ | ⟨hr, hv⟩
    · rcases hA' with ⟨_, rfl, rfl⟩ | ⟨hr, _⟩
      · rfl
      · contradiction
    · rcases hA' with ⟨hr', _, _⟩ | ⟨_, hv'⟩
      · contradiction
      · rw [hv', hv]
  · rcases hA with ⟨hr, rfl, rfl⟩ | ⟨hr, hv⟩
    · exact .inl ⟨by rw [hr]; rfl, Dv.cur_nil hr⟩
    · have hrow := h.ro.at_ i hr
      rw [← hv] at hrow
      have hrow' := hrow
      obtain ⟨g', off, cap', he, _⟩ := hrow'
      cases he
      have hlen := List.length_pos_iff.2 hr
      have hs := hrow.sector (h.fine.row i) ((M.row i).length - 1) (by omega)
      rw [← Dv.cur_row hr] at hs
      exact .inr ⟨g', off, rfl, hlen, Nat.le_trans (h.fine.rows i) hw, hs⟩
end Go.Proofs.YtnfiapjdkjbdhaaGreat
/- Layer 3 (dev): a new device. -/
namespace Go.Proofs.YtnfiapjdkjbdhaaGreat
open Go.RowKit Go.Maps
set_option linter.unusedVariables false
set_option linter.unusedSimpArgs false
set_option maxRecDepth 10000
theorem run_make_secs (n : Nat) (hn : n ≤ 4096) (w : World) :
    (Instr.makeSlice 129 (.int .i64 (n : Int)) (.int .i64 (n : Int))).run Tryz.prog w = .ok (.slice (some ⟨w.heap.size, 0, none⟩) n n) (w.alloc (.cells (Array.replicate (n * 64) (.int .u8 0)) 126)) := by
  obtain ⟨i, hi, hz, hsz, hby⟩ := info_parts secInfo
  have hb : (i.bytes : Int) * (n : Int) ≤ 281474976710656 := by rw [hby]; omega
  have hr := run_make (P := Tryz.prog) w 129 126 i _ Tryz.underlying129 hi hz .i64 .i64 n n (by omega) (by omega) hb (by omega)
  simp only [Int.toNat_natCast] at hr
  rw [hr]
  have hm : madeCells (Value.agg (Array.replicate 64 (Value.int .u8 0))).cells (n * i.size) = (Array.replicate (n * 64) (.int .u8 0)) := by
    rw [hsz]
    apply Array.ext
    · simp [size_madeCells]
    · intro j h1 h2
      simp only [madeCells, Array.getElem_map, Array.getElem_range]
      have h3 : j % (Array.replicate 64 (Value.int .u8 0)).size < (Array.replicate 64 (Value.int .u8 0)).size := by
        rw [Array.size_replicate]; exact Nat.mod_lt _ (by omega)
      show (Array.replicate 64 (Value.int .u8 0))[j % (Array.replicate 64 (Value.int .u8 0)).size]! = _
      rw [getElem!_pos (Array.replicate 64 (Value.int .u8 0)) _ h3]
      simp
  rw [hm]
def newS (W : World) (k : Nat) : Prop := k = W.heap.size ∨ k = W.heap.size + 1 ∨ k = W.heap.size + 2
theorem newS_from (W : World) : ∀ k, newS W k → W.heap.size ≤ k := fun k h => by unfold newS at h; omega
def newW (n : Nat) (W : World) : World :=
  ((W.alloc (.cells (Array.replicate (n * 64) (.int .u8 0)) 126)).alloc (.map #[] 0)).alloc
    (.cells #[.int .i64 0, .bool false, .slice (some ⟨W.heap.size, 0, none⟩) n n, .map (some (W.heap.size + 1)), .int .u64 0] 132)
theorem new_in (n : Nat) (h8 : 8 ≤ n) (hn : n ≤ 4096) (W : World) : DevAt (newS W) (newW n W) (W.heap.size + 2) (dev0 n) := by
  have hg : (newW n W).heap[W.heap.size]? = some (.cells (Array.replicate (n * 64) (.int .u8 0)) 126 (0, 0)) := by
    unfold newW
    rw [Below.heap_alloc _ _ _ (by simp; omega), Below.heap_alloc _ _ _ (by simp)]
    exact heap_alloc_new W _
  have hm : (newW n W).heap[W.heap.size + 1]? = some (.map #[] 0) := by
    unfold newW
    rw [Below.heap_alloc _ _ _ (by simp)]
    exact heap_new _ _ _ (by simp)
  have hb : (newW n W).heap[W.heap.size + 2]? = some (.cells #[.int .i64 0, .bool false, .slice (some ⟨W.heap.size, 0, none⟩) n n, .map (some (W.heap.size + 1)), .int .u64 0] 132 (0, 0)) :=
    heap_new _ _ _ (by simp)
  have hc : ∀ j, (newW n W).cell? ⟨W.heap.size + 2, j, none⟩ = #[Value.int .i64 0, .bool false, .slice (some ⟨W.heap.size, 0, none⟩) n n, .map (some (W.heap.size + 1)), .int .u64 0][j]? := fun j => cell_of_row _ _ j _ _ _ hb
  have hf : ∀ j, (newW n W).frozen? ⟨W.heap.size + 2, j, none⟩ = false := fun j => frozen_of_row _ _ j _ _ hb
  have hno : ∀ k, ¬ Rk (fun _ => []) (fun _ => Value.slice none 0 0) k := fun k ⟨i, hi, _⟩ => hi rfl
  refine ⟨W.heap.size, n, W.heap.size + 1, fun _ => .slice none 0 0, ?_⟩
  exact {
    fine := { n := hn, dur := fun i _ => by simp [dev0], row := fun i p hp => by simp [dev0] at hp, out := fun i hi => absurd rfl hi, rows := fun i => by simp [dev0], left := by simp [dev0] }
    head := ⟨by rw [hc]; rfl, by rw [hc]; rfl, by rw [hc]; rfl, by rw [hc]; rfl, by rw [hc]; rfl, hf 0, hf 1, hf 2, hf 3, hf 4⟩
    du := ⟨fun i hi => by
        have hi' : i < n := hi
        have hr := range_part (range_row (l := bc (List.replicate (n * 64) 0)) hg (by simp)) (i * 64) 64
        rw [Nat.zero_add, ← List.map_drop, ← List.map_take, List.drop_replicate, List.take_replicate, Nat.min_eq_left (by omega)] at hr
        exact hr, by have := there_row hg; exact (by simpa using this : (newW n W).there W.heap.size 0 (n * 64))⟩
    ro := ⟨(IMap.made (W.alloc (.cells (Array.replicate (n * 64) (.int .u8 0)) 126)) Tryz.prog 3 n |>.kept (by
        have h1 : (W.alloc (.cells (Array.replicate (n * 64) (.int .u8 0)) 126)).heap.size = W.heap.size + 1 := by simp
        rw [h1, hm]
        exact (heap_new _ _ _ (by simp)).symm) |> fun h => by
        have h1 : (W.alloc (.cells (Array.replicate (n * 64) (.int .u8 0)) 126)).heap.size = W.heap.size + 1 := by simp
        rw [h1] at h
        exact h.congr (fun i _ => rfl)), fun i hi => absurd rfl hi, fun i j hi => absurd rfl hi⟩
    cap := ⟨Nat.le_refl _, by show n ≤ maxLen; unfold maxLen; omega⟩
    sb := .inr (.inr rfl), sg := .inl rfl, sm := .inr (.inl rfl)
    sr := fun k hk => absurd hk (hno k)
    bg := by omega, bm := by omega, gm := by omega
    rb := hno _, rg := hno _, rm := hno _
    lt := fun k hk => by
      have : (newW n W).heap.size = W.heap.size + 3 := by simp [newW]
      unfold newS at hk
      omega }
theorem newW_below (n : Nat) (W : World) : Below W.heap.size W (newW n W) :=
  (((Below.refl _ _).alloc (Nat.le_refl _) _).alloc (by simp) _).alloc (by simp; omega) _
theorem new_any (n : Nat) (h8 : 8 ≤ n) (hn : n ≤ 4096) (W : World) :
    Calls Tryz.prog 36 #[.int .i64 (n : Int)] W fun e w' => e = .returned (.tuple #[devp (W.heap.size + 2), .int .i64 0]) ∧ w' = newW n W := by
  have hmk := run_make_secs n hn
  have hmm := @run_makeMap Tryz.prog
  have hn8 : (8 : Int) ≤ (n : Int) := by omega
  have hnn : (n : Int) ≤ 4096 := by omega
  go_enter Tryz.func36, Tryz.ntmps36
  go_wp2
  go_ret2
  exact ⟨rfl, rfl⟩
end Go.Proofs.YtnfiapjdkjbdhaaGreat
